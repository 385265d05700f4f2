/- Several texts of mine, laid together. No statement of the seat is proved here. -/
import Derived.Test.YtjndcfamfminkarB2
import Derived.Deep.RegionHeld3
import Derived.Laws.StructEq
import Derived.Test.YtjndcfamfminkarB1
import Derived.Test.YtjndcfamfminkarAgData
import Derived.WalkMore
import Derived.ScopeJumps
/- The walk through the program's laying of spans behind a set that it makes. No statement of the seat is proved here. -/
namespace Go.Proofs.Ytjndcfamfminkar
open Go.RowKit
/-- A set of the maker's own: not nil. -/
theorem own_cases {W : World} {B e n : Nat} {v : Value} {xs : List Value} (h : W.ownsRow B e 2 v n xs) : (v = .slice none 0 0 ∧ n = 0) ∨ ∃ g cap n', v = .slice (some ⟨g, 0, none⟩) n' cap ∧ n' = n ∧ n ≤ cap := by
  rcases h.2 with e | ⟨g, cap, cur, e, _, _, h4, _⟩
  · exact .inl e
  · exact .inr ⟨g, cap, n, e, rfl, h4⟩
set_option maxRecDepth 100000 in
set_option maxHeartbeats 8000000 in
theorem laid_any (B : Nat) (v0 : Value) (o0 : Sp) (a : Option Addr) (len cap : Nat) (xs : Sp) (F : List Nat) (w : World) (hown : w.ownsRow B 107 2 v0 o0.length ((flat o0).map (Value.int .i64))) (hB : B ≤ w.heap.size) (h : RdP w a len xs F) (hF : ∀ b ∈ F, some b ≠ v0.ownBlock) (hlen : o0.length + len ≤ 4194304) (ho : ∀ p ∈ o0, InB p) (hx : ∀ p ∈ xs, InB p) :
    Calls Try.prog 103 #[v0, .slice a len cap] w fun e w' => ∃ v, e = .returned v ∧ LayAt w B v0 v (lay o0 xs) w' := by
  obtain ⟨t0, hi, hz0, hz1, hz2⟩ := info_parts infoSpan
  have HL : Hid (xs.length = len) := h.length
  have HIN : Hid (∀ p ∈ xs, InB p) := hx
  have HP0 : Hid (LayAt w B v0 v0 o0 w) := ⟨hown, ⟨rfl, rfl, rfl, Nat.le_refl _, fun _ _ _ => rfl⟩, .inl rfl⟩
  have HI0 : Hid (∀ p ∈ o0, InB p) := ho
  have HC : Hid (len = 0 ∨ ∃ b off, a = some ⟨b, off, none⟩ ∧ (b < w.heap.size ∧ some b ≠ v0.ownBlock) ∧ SpCells w b off len xs) := by
    rcases h.cells with ⟨h0, _⟩ | ⟨b, off, hp, e, hFb, hc⟩
    · exact .inl h0
    · exact .inr ⟨b, off, e, ⟨World.block_lt_of_cell? _ _ (hc 0 hp).1, hF b (by rw [hFb]; simp)⟩, hc⟩
  clear h hown hF ho hx
  go_enter Try.func103, Try.ntmps103
  go_wp2
  go_loopw [0, 10] (fun v i wr => ∃ (k : Nat) (o : Sp), k ≤ len ∧ i = .int .i64 k ∧ o.length ≤ o0.length + k ∧ Hid (LayAt w B v0 v o wr) ∧ Hid (∀ p ∈ o, InB p) ∧ Hid (lay o (xs.drop k) = lay o0 xs)) (fun _ i _ => len - (intOf i).toNat)
  case atStart => exact ⟨0, o0, by omega, rfl, by omega, HP0, HI0, rfl⟩
  case round =>
    clear HP0 HI0
    obtain ⟨k, o, hk, rfl, hol, HP, HI, HN⟩ := hrel
    by_cases hlt : k < len
    · have hca := HC.out
      rcases hca with h0 | ⟨b, off, rfl, hbw, hc⟩
      · omega
      obtain ⟨x, hx⟩ : ∃ x, x = (xs.at k).1 := ⟨_, rfl⟩
      obtain ⟨y, hy⟩ : ∃ x, x = (xs.at k).2 := ⟨_, rfl⟩
      have e := hc k hlt
      have hkl : k < xs.length := by rw [HL.out]; exact hlt
      have hb := HIN.out _ (Sp.at_mem hkl)
      have HXY : Hid (xs.at k = (x, y)) := by rw [hx, hy]; rfl
      rw [HXY.out] at hb e
      have HINX : Hid (InB (x, y)) := hb
      obtain ⟨⟨x0, x1⟩, y0, y1⟩ := hb
      have hblk := HP.out.grown.block b hbw.1 hbw.2
      have d1 : wr.cell? ⟨b, off + k * 2, none⟩ = some (.int .i64 x) := (World.cell?_of_block (w := w) (a := ⟨b, off + k * 2, none⟩) hblk).trans e.1
      have d2 : wr.cell? ⟨b, off + k * 2 + 1, none⟩ = some (.int .i64 y) := (World.cell?_of_block (w := w) (a := ⟨b, off + k * 2 + 1, none⟩) hblk).trans e.2
      have hI : (k : Int) < (len : Int) := by omega
      have HBW : Hid (B ≤ wr.heap.size) := Nat.le_trans hB HP.out.grown.size
      clear e hx hy hc hblk
      have hos := own_cases HP.out.own
      rcases hos with ⟨rfl, h0⟩ | ⟨g, cp, nn, rfl, hnn, hcp⟩
      · have HLA : Hid (lay1 o (x, y) = o ++ [(x, y)]) := lay1_apart (.inl (List.eq_nil_of_length_eq_zero h0))
        have HN2 : Hid (lay (o ++ [(x, y)]) (xs.drop (k + 1)) = lay o0 xs) := by
          rw [lay_drop hkl, HXY.out, HLA.out] at HN
          exact HN
        have HI2 : Hid (∀ p ∈ o ++ [(x, y)], InB p) := by rw [← HLA.out]; exact lay1_inb HI.out HINX.out
        go_wp2
        go_quiet (fail)
        obtain ⟨wq, hwq⟩ : ∃ W, W = (wr.alloc (.cells #[.int .i64 x, .int .i64 y] 107)).drewN nq := ⟨_, rfl⟩
        have HPq : Hid (LayAt w B v0 (.slice none 0 0) o wq) := by rw [hwq]; exact (HP.out.alloc _).drewN nq
        have b1 : wq.cell? ⟨wr.heap.size, 0, none⟩ = some (.int .i64 x) := by rw [hwq]; exact (Blk.made wr _ _).cell 0
        have b2 : wq.cell? ⟨wr.heap.size, 1, none⟩ = some (.int .i64 y) := by rw [hwq]; exact (Blk.made wr _ _).cell 1
        have HBq : Hid (B ≤ wq.heap.size) := by have := HBW.out; rw [hwq]; simp [World.drewN]; show _ ≤ _; omega
        rw [← hwq]
        clear hwq HP
        go_wp2_with (first | go_skip | (with_reducible refine stopAppend2 rfl ?_))
        refine Stop.intro (wpList_append_own_at _ rfl _ _ 23 rfl B 107 t0 (.agg #[.int .i64 0, .int .i64 0]) 2 16 Try.underlying23 hi hz0 hz1 hz2 rfl (by decide) _ (o).length ((flat (o)).map (Value.int .i64)) rfl (HPq.out.own.alloc _) ⟨wq.heap.size, 0, none⟩ 1 1 [.int .i64 x, .int .i64 y] rfl rfl (cell_new2 _ _ _ _) (by intro u hu; simp at hu; rcases hu with rfl | rfl <;> rfl) (by unfold maxLen; omega) (by omega) (by have := HBq.out; simp; omega) ?_)
        intro v2 w2 hown hgrow _ hob
        have HP2 : Hid (LayAt w B v0 v2 (o ++ [(x, y)]) w2) := HPq.out.app hown hgrow hob
        clear hown hgrow HPq hob
        go_wp2
        go_roundw
        case rel => exact ⟨k + 1, o ++ [(x, y)], by omega, by go_num, by simp; omega, HP2, HI2, HN2⟩
        case measure => simp [intOf]; omega
      have HNN : Hid (nn = o.length) := hnn
      clear hnn hcp
      rcases nn with _ | m
      · have HLA : Hid (lay1 o (x, y) = o ++ [(x, y)]) := lay1_apart (.inl (List.eq_nil_of_length_eq_zero HNN.out.symm))
        have HN2 : Hid (lay (o ++ [(x, y)]) (xs.drop (k + 1)) = lay o0 xs) := by
          rw [lay_drop hkl, HXY.out, HLA.out] at HN
          exact HN
        have HI2 : Hid (∀ p ∈ o ++ [(x, y)], InB p) := by rw [← HLA.out]; exact lay1_inb HI.out HINX.out
        go_wp2
        go_quiet (fail)
        obtain ⟨wq, hwq⟩ : ∃ W, W = (wr.alloc (.cells #[.int .i64 x, .int .i64 y] 107)).drewN nq := ⟨_, rfl⟩
        have HPq : Hid (LayAt w B v0 (.slice (some ⟨g, 0, none⟩) 0 cp) o wq) := by rw [hwq]; exact (HP.out.alloc _).drewN nq
        have b1 : wq.cell? ⟨wr.heap.size, 0, none⟩ = some (.int .i64 x) := by rw [hwq]; exact (Blk.made wr _ _).cell 0
        have b2 : wq.cell? ⟨wr.heap.size, 1, none⟩ = some (.int .i64 y) := by rw [hwq]; exact (Blk.made wr _ _).cell 1
        have HBq : Hid (B ≤ wq.heap.size) := by have := HBW.out; rw [hwq]; simp [World.drewN]; show _ ≤ _; omega
        rw [← hwq]
        clear hwq HP
        go_wp2_with (first | go_skip | (with_reducible refine stopAppend2 rfl ?_))
        refine Stop.intro (wpList_append_own_at _ rfl _ _ 23 rfl B 107 t0 (.agg #[.int .i64 0, .int .i64 0]) 2 16 Try.underlying23 hi hz0 hz1 hz2 rfl (by decide) _ (o).length ((flat (o)).map (Value.int .i64)) rfl (HPq.out.own.alloc _) ⟨wq.heap.size, 0, none⟩ 1 1 [.int .i64 x, .int .i64 y] rfl rfl (cell_new2 _ _ _ _) (by intro u hu; simp at hu; rcases hu with rfl | rfl <;> rfl) (by unfold maxLen; omega) (by omega) (by have := HBq.out; simp; omega) ?_)
        intro v2 w2 hown hgrow _ hob
        have HP2 : Hid (LayAt w B v0 v2 (o ++ [(x, y)]) w2) := HPq.out.app hown hgrow hob
        clear hown hgrow HPq hob
        go_wp2
        go_roundw
        case rel => exact ⟨k + 1, o ++ [(x, y)], by omega, by go_num, by simp; omega, HP2, HI2, HN2⟩
        case measure => simp [intOf]; omega
      have hm : o.length = m + 1 := HNN.out.symm
      obtain ⟨s, hs⟩ : ∃ x, x = (o.at m).1 := ⟨_, rfl⟩
      obtain ⟨t, ht⟩ : ∃ x, x = (o.at m).2 := ⟨_, rfl⟩
      have hcm := HP.out.cells (m := m) (by omega)
      have him := HI.out _ (Sp.at_mem (ps := o) (k := m) (by omega))
      unfold InB at him
      rw [← hs, ← ht] at hcm him
      have HST : Hid (o.at (o.length - 1) = (s, t)) := by rw [hm, show m + 1 - 1 = m by omega, hs, ht]; rfl
      obtain ⟨f1, f2, f3⟩ := hcm
      obtain ⟨⟨s0, s1⟩, t1, t2⟩ := him
      have HFZ : Hid (∀ j, wr.frozen? ⟨g, j, none⟩ = false) := f3
      have gd : decide ((m : Int) < 0) = false := decF (by omega)
      have hI3 : (m : Int) < (m : Int) + 1 := by omega
      have hM : m ≤ 4194304 := by omega
      have HNE : Hid (¬ o = []) := fun e => by rw [e] at hm; simp at hm
      have HM : Hid (o.length = m + 1) := hm
      clear hs ht f3 hm
      by_cases c : t + 1 < x
      · have cd : decide (t + 1 < x) = true := decT c
        have HLA : Hid (lay1 o (x, y) = o ++ [(x, y)]) := lay1_apart (.inr (by rw [HST.out]; exact c))
        have HN2 : Hid (lay (o ++ [(x, y)]) (xs.drop (k + 1)) = lay o0 xs) := by
          rw [lay_drop hkl, HXY.out, HLA.out] at HN
          exact HN
        have HI2 : Hid (∀ p ∈ o ++ [(x, y)], InB p) := by rw [← HLA.out]; exact lay1_inb HI.out HINX.out
        go_wp2
        obtain ⟨wa, hwa⟩ : ∃ W, W = wr.alloc (.cells #[.int .i64 x, .int .i64 y] 107) := ⟨_, rfl⟩
        have HPa : Hid (LayAt w B v0 (.slice (some ⟨g, 0, none⟩) (m + 1) cp) o wa) := by rw [hwa]; exact HP.out.alloc _
        have a1 : wa.cell? ⟨wr.heap.size, 0, none⟩ = some (.int .i64 x) := by rw [hwa]; exact (Blk.made wr _ _).cell 0
        have a2 : wa.cell? ⟨wr.heap.size, 1, none⟩ = some (.int .i64 y) := by rw [hwa]; exact (Blk.made wr _ _).cell 1
        have a3 : wa.cell? ⟨g, m * 2 + 1, none⟩ = some (.int .i64 t) := by
          have e4 := (HPa.out.cells (m := m) (by have := HM.out; omega)).2.1
          have e5 := HST.out
          rw [HM.out, show m + 1 - 1 = m by omega] at e5
          rw [e5] at e4
          exact e4
        have HBa : Hid (B ≤ wa.heap.size) := by have := HBW.out; rw [hwa]; simp; show _ ≤ _; omega
        rw [← hwa]
        clear hwa HP f1 f2
        go_quiet (fail)
        obtain ⟨wq, hwq⟩ : ∃ W, W = wa.drewN nq := ⟨_, rfl⟩
        have HPq : Hid (LayAt w B v0 (.slice (some ⟨g, 0, none⟩) (m + 1) cp) o wq) := by rw [hwq]; exact HPa.out.drewN nq
        have b1 : wq.cell? ⟨wr.heap.size, 0, none⟩ = some (.int .i64 x) := by rw [hwq]; exact a1
        have b2 : wq.cell? ⟨wr.heap.size, 1, none⟩ = some (.int .i64 y) := by rw [hwq]; exact a2
        have HBq : Hid (B ≤ wq.heap.size) := by rw [hwq]; exact HBa.out
        rw [← hwq]
        clear hwq HPa a1 a2 a3
        go_wp2_with (first | go_skip | (with_reducible refine stopAppend2 rfl ?_))
        refine Stop.intro (wpList_append_own_at _ rfl _ _ 23 rfl B 107 t0 (.agg #[.int .i64 0, .int .i64 0]) 2 16 Try.underlying23 hi hz0 hz1 hz2 rfl (by decide) _ (o).length ((flat (o)).map (Value.int .i64)) rfl (HPq.out.own.alloc _) ⟨wq.heap.size, 0, none⟩ 1 1 [.int .i64 x, .int .i64 y] rfl rfl (cell_new2 _ _ _ _) (by intro u hu; simp at hu; rcases hu with rfl | rfl <;> rfl) (by unfold maxLen; omega) (by omega) (by have := HBq.out; simp; omega) ?_)
        intro v2 w2 hown hgrow _ hob
        have HP2 : Hid (LayAt w B v0 v2 (o ++ [(x, y)]) w2) := HPq.out.app hown hgrow hob
        clear hown hgrow HPq hob
        go_wp2
        go_roundw
        case rel => exact ⟨k + 1, o ++ [(x, y)], by omega, by go_num, by simp; omega, HP2, HI2, HN2⟩
        case measure => simp [intOf]; omega
      have cd : decide (t + 1 < x) = false := decF c
      have HLA : Hid (lay1 o (x, y) = o.take m ++ [((o.at m).1, max t y)]) := by
        have := lay1_widen (o := o) (x := (x, y)) (fun e => by rw [HST.out] at e; exact e.elim HNE.out c)
        show _ = _
        rw [this, HST.out, HM.out, show m + 1 - 1 = m by omega]
        have e2 := HST.out
        rw [HM.out, show m + 1 - 1 = m by omega] at e2
        rw [e2]
      have HN2 : Hid (lay (o.take m ++ [((o.at m).1, max t y)]) (xs.drop (k + 1)) = lay o0 xs) := by
        rw [lay_drop hkl, HXY.out, HLA.out] at HN
        exact HN
      have HI2 : Hid (∀ p ∈ o.take m ++ [((o.at m).1, max t y)], InB p) := by rw [← HLA.out]; exact lay1_inb HI.out HINX.out
      go_wp2
      obtain ⟨wa, hwa⟩ : ∃ W, W = wr.alloc (.cells #[.int .i64 x, .int .i64 y] 107) := ⟨_, rfl⟩
      have HPa : Hid (LayAt w B v0 (.slice (some ⟨g, 0, none⟩) (m + 1) cp) o wa) := by rw [hwa]; exact HP.out.alloc _
      have a1 : wa.cell? ⟨wr.heap.size, 0, none⟩ = some (.int .i64 x) := by rw [hwa]; exact (Blk.made wr _ _).cell 0
      have a2 : wa.cell? ⟨wr.heap.size, 1, none⟩ = some (.int .i64 y) := by rw [hwa]; exact (Blk.made wr _ _).cell 1
      have a3 : wa.cell? ⟨g, m * 2 + 1, none⟩ = some (.int .i64 t) := by
        have e4 := (HPa.out.cells (m := m) (by have := HM.out; omega)).2.1
        have e5 := HST.out
        rw [HM.out, show m + 1 - 1 = m by omega] at e5
        rw [e5] at e4
        exact e4
      have HBa : Hid (B ≤ wa.heap.size) := by have := HBW.out; rw [hwa]; simp; show _ ≤ _; omega
      rw [← hwa]
      clear hwa HP f1 f2
      go_quiet (fail)
      obtain ⟨wq, hwq⟩ : ∃ W, W = wa.drewN nq := ⟨_, rfl⟩
      have HPq : Hid (LayAt w B v0 (.slice (some ⟨g, 0, none⟩) (m + 1) cp) o wq) := by rw [hwq]; exact HPa.out.drewN nq
      have b1 : wq.cell? ⟨wr.heap.size, 0, none⟩ = some (.int .i64 x) := by rw [hwq]; exact a1
      have b2 : wq.cell? ⟨wr.heap.size, 1, none⟩ = some (.int .i64 y) := by rw [hwq]; exact a2
      have hcq := HPq.out.cells (m := m) (by have := HM.out; omega)
      have e3 := HST.out
      rw [HM.out, show m + 1 - 1 = m by omega] at e3
      rw [e3] at hcq
      obtain ⟨f1, f2, f3⟩ := hcq
      have f4 := f3 (m * 2 + 1)
      rw [← hwq]
      have HPw : Hid (LayAt w B v0 (.slice (some ⟨g, 0, none⟩) (m + 1) cp) (o.take m ++ [((o.at m).1, max t y)]) (wq.setCell ⟨g, m * 2 + 1, none⟩ (.int .i64 (max t y)))) := HPq.out.widen HM.out _
      clear hwq HPa a1 a2 a3 f3 e3 HPq
      go_wp2
      go_region
      go_wp2
      go_roundw
      case rel => exact ⟨k + 1, o.take m ++ [((o.at m).1, max t y)], by omega, by go_num, by have := HM.out; simp; omega, (by rw [show (if t < y then y else t) = max t y by split <;> omega]; exact HPw.out.drewN 1), HI2, HN2⟩
      case measure => simp [intOf]; omega
    · obtain rfl : k = len := by omega
      have HV : Hid (o = lay o0 xs) := by
        have := HN.out
        rw [List.drop_eq_nil_of_le (by rw [HL.out]; omega)] at this
        exact this
      go_wp2
      go_ret
      rw [← HV.out]
      exact ⟨_, rfl, HP.out⟩
end Go.Proofs.Ytjndcfamfminkar
/- The walks through the program's cutting of a set, and its going through two sets. No statement of the seat is proved here. -/
namespace Go.Proofs.Ytjndcfamfminkar
open Go.RowKit
theorem flat_take : ∀ (ps : Sp) (k : Nat), flat (ps.take k) = (flat ps).take (2 * k)
  | [], k => by simp [flat]
  | p :: ps, 0 => by simp [flat]
  | p :: ps, k + 1 => by rw [List.take_succ_cons, flat, flat, flat_take ps k, show 2 * (k + 1) = 2 * k + 1 + 1 by omega, List.take_succ_cons, List.take_succ_cons]
theorem flat_drop : ∀ (ps : Sp) (k : Nat), flat (ps.drop k) = (flat ps).drop (2 * k)
  | [], k => by simp [flat]
  | p :: ps, 0 => by simp [flat]
  | p :: ps, k + 1 => by rw [List.drop_succ_cons, flat, flat_drop ps k, show 2 * (k + 1) = 2 * k + 1 + 1 by omega, List.drop_succ_cons, List.drop_succ_cons]
theorem RdP.take {w : World} {a : Option Addr} {len : Nat} {ps : Sp} {F : List Nat} (h : RdP w a len ps F) {k : Nat} (hk : k ≤ len) : ∃ G, RdP w a k (ps.take k) G ∧ ∀ b ∈ G, b ∈ F := by
  have hl := h.length
  by_cases h0 : k = 0
  · subst h0
    exact ⟨[], by simpa using (RdP.nil (w := w) (a := a)), by simp⟩
  · rcases h.rd.cells with ⟨e, _⟩ | ⟨b, off, hp, e, eF, hc⟩
    · omega
    · refine ⟨F, ⟨by simp; omega, ?_, .inr ⟨b, off, by omega, e, eF, fun i hi => ?_⟩⟩, fun b hb => hb⟩
      · rw [flat_length]; simp; omega
      · rw [hc i (by omega), flat_take]
        simp [List.getD_eq_getElem?_getD, hi]
theorem RdP.drop {w : World} {b off len : Nat} {ps : Sp} {F : List Nat} (h : RdP w (some ⟨b, off, none⟩) len ps F) {k : Nat} (hk : k < len) : RdP w (some ⟨b, off + k * 2, none⟩) (len - k) (ps.drop k) F := by
  have hl := h.length
  rcases h.rd.cells with ⟨e, _⟩ | ⟨b', off', hp, e, eF, hc⟩
  · omega
  · obtain ⟨rfl, rfl⟩ : b = b' ∧ off = off' := by simpa using e
    refine ⟨by simp; omega, ?_, .inr ⟨b, off + k * 2, by omega, rfl, eF, fun i hi => ?_⟩⟩
    · rw [flat_length]; simp; omega
    · rw [show off + k * 2 + i = off + (2 * k + i) by omega, hc (2 * k + i) (by omega), flat_drop]
      simp [List.getD_eq_getElem?_getD]
theorem cutN_at {ps : Sp} {k : Nat} {n : Int} (hk : k < ps.length) (h : (ps.at k).1 ≤ n) : cutN (ps.drop k) n = cutN (ps.drop (k + 1)) n + 1 := by rw [drop_at hk, cutN, if_pos h]
theorem cutN_stop {ps : Sp} {k : Nat} {n : Int} (hk : k < ps.length) (h : ¬ (ps.at k).1 ≤ n) : cutN (ps.drop k) n = 0 := by rw [drop_at hk, cutN, if_neg h]
/-- What a cut tells: the part ahead, the part behind, both out of what was there. -/
def CutTo (w : World) (ps : Sp) (F : List Nat) (k : Nat) (e : Ending) (w' : World) : Prop :=
  ∃ a1 l1 c1 a2 l2 c2 F1 F2, e = .returned (.tuple #[.slice a1 l1 c1, .slice a2 l2 c2]) ∧ RdP w a1 l1 (ps.take k) F1 ∧ RdP w a2 l2 (ps.drop k) F2 ∧ (∀ b ∈ F1, b ∈ F) ∧ (∀ b ∈ F2, b ∈ F) ∧ l2 ≤ c2 ∧ QuietTo w w'
set_option maxRecDepth 200000 in
set_option maxHeartbeats 4000000 in
theorem cutAt_any (a : Option Addr) (len cap : Nat) (ps : Sp) (n : Int) (F : List Nat) (w : World) (h : RdP w a len ps F) (hlen : len ≤ 4194304) (hcap : len ≤ cap) :
    Calls Try.prog 102 #[.slice a len cap, .int .i64 n] w fun e w' => CutTo w ps F (cutN ps n) e w' := by
  have HL : Hid (ps.length = len) := h.length
  have HR : Hid (RdP w a len ps F) := h
  have HC : Hid (len = 0 ∨ ∃ b off, a = some ⟨b, off, none⟩ ∧ b < w.heap.size ∧ SpCells w b off len ps) := cells_of h
  have HS : Hid (∀ k, k ≤ len → ∀ w', QuietTo w w' → CutTo w ps F k (.returned (.tuple #[.slice a k k, .slice (if len = k then a else a.map (·.add (k * 2))) (len - k) (len - k)])) w') := by
    intro k hk w' hq
    obtain ⟨F1, r1, g1⟩ := h.take hk
    by_cases e : len = k
    · refine ⟨_, _, _, _, _, _, F1, [], rfl, r1, ?_, g1, by simp, Nat.le_refl _, hq⟩
      rw [List.drop_eq_nil_of_le (by rw [h.length]; omega), show len - k = 0 by omega]
      exact RdP.nil
    · rcases cells_of h with h0 | ⟨b, off, rfl, _, _⟩
      · omega
      · refine ⟨_, _, _, _, _, _, F1, F, rfl, r1, ?_, g1, fun b hb => hb, Nat.le_refl _, hq⟩
        rw [if_neg e]
        simp only [Option.map_some, Addr.add_lit]
        exact h.drop (k := k) (by omega)
  clear h
  go_enter Try.func102, Try.ntmps102
  go_wp2
  go_loopw [6] (fun i wr => ∃ (k : Nat), k ≤ len ∧ i = .int .i64 k ∧ Hid (QuietTo w wr) ∧ Hid (cutN ps n = k + cutN (ps.drop k) n)) (fun i _ => len - (intOf i).toNat)
  case atStart => exact ⟨0, by omega, rfl, QuietTo.refl _, by show _ = _; simp⟩
  case round =>
    obtain ⟨k, hk, rfl, HW, HN⟩ := hrel
    by_cases hlt : k < len
    · have hca := HC.out
      rcases hca with h0 | ⟨b, off, rfl, hbw, hc⟩
      · omega
      obtain ⟨x, hx⟩ : ∃ x, x = (ps.at k).1 := ⟨_, rfl⟩
      have e := (hc k hlt).1
      rw [← hx] at e
      have d1 : wr.cell? ⟨b, off + k * 2, none⟩ = some (.int .i64 x) := (HW.out.cell _).trans e
      have HX : Hid (x = (ps.at k).1) := hx
      have hI : (k : Int) < (len : Int) := by omega
      have hkl : k < ps.length := by rw [HL.out]; exact hlt
      clear hx hc e
      by_cases c : x ≤ n
      · have cd : decide (x ≤ n) = true := decT c
        have HN2 : Hid (cutN ps n = k + 1 + cutN (ps.drop (k + 1)) n) := by
          have := HN.out
          rw [cutN_at hkl (by rw [← HX.out]; exact c)] at this
          show _ = _
          omega
        go_wp2
        go_roundw
        case rel => exact ⟨k + 1, by omega, by go_num, HW, HN2⟩
        case measure => simp [intOf]; omega
      · have cd : decide (x ≤ n) = false := decF c
        have HK : Hid (cutN ps n = k) := by
          have := HN.out
          rw [cutN_stop hkl (by rw [← HX.out]; exact c)] at this
          show _ = _
          omega
        have hne : ¬ len = k := by omega
        have i1 : (k : Int) ≤ (len : Int) := by omega
        have i2 : (len : Int) ≤ (cap : Int) := by omega
        have i3 : (k : Int) ≤ (cap : Int) := by omega
        have HT : Hid (∀ w', QuietTo w w' → CutTo w ps F (cutN ps n) (.returned (.tuple #[.slice (some ⟨b, off, none⟩) k k, .slice (some ⟨b, off + k * 2, none⟩) (len - k) (len - k)])) w') := by
          intro w' hq
          have := HS.out k (by omega) w' hq
          rw [if_neg hne] at this
          simp only [Option.map_some, Addr.add_lit] at this
          rw [HK.out]
          exact this
        go_wp2
        go_quiet (fail)
        go_wp2
        go_ret2
        exact HT.out _ (HW.out.drewN _)
    · obtain rfl : k = len := by omega
      have HK : Hid (cutN ps n = k) := by
        have := HN.out
        rw [List.drop_eq_nil_of_le (by rw [HL.out]; omega)] at this
        exact this
      have hg : decide ((k : Int) < (k : Int)) = false := decF (by omega)
      have i2 : (k : Int) ≤ (cap : Int) := by omega
      have HT : Hid (∀ w', QuietTo w w' → CutTo w ps F (cutN ps n) (.returned (.tuple #[.slice a k k, .slice a 0 0])) w') := by
        intro w' hq
        have := HS.out k (by omega) w' hq
        rw [if_pos rfl, Nat.sub_self] at this
        rw [HK.out]
        exact this
      go_wp2
      go_quiet (fail)
      go_wp2
      go_ret2
      exact HT.out _ (HW.out.drewN _)
end Go.Proofs.Ytjndcfamfminkar
/- The walk through the program's going through two sets. No statement of the seat is proved here. -/
namespace Go.Proofs.Ytjndcfamfminkar
open Go.RowKit
theorem RdP.move {w W : World} {B : Nat} {a : Option Addr} {len : Nat} {ps : Sp} {F : List Nat} (h : RdP w a len ps F) (hF : ∀ b ∈ F, b < B) (h1 : Below B w W) : RdP W a len ps F := h.agree (fun b hb => h1.block b (hF b hb))
theorem RdP.back {w W : World} {B : Nat} {a : Option Addr} {len : Nat} {ps : Sp} {F : List Nat} (h : RdP W a len ps F) (hF : ∀ b ∈ F, b < B) (h1 : Below B w W) : RdP w a len ps F := h.agree (fun b hb => (h1.block b (hF b hb)).symm)
theorem LayAt.below {w W : World} {B n : Nat} {v0 v : Value} {o : Sp} {xs : List Value} (h : LayAt w B v0 v o W) (h0 : w.ownsRow B 107 2 v0 n xs) (hB : B ≤ w.heap.size) : Below B w W :=
  ⟨h.grown.os, h.grown.tape, h.grown.output, h.grown.size, fun k hk => h.grown.block k (by omega) (fun e => by have := (h0.lt k e.symm).1; omega)⟩
/-- Midway in a round: the set that is made, the span's box. -/
structure MidB (w : World) (nb : Nat) (x y : Int) (v : Value) (o : Sp) (W : World) : Prop where
  own : W.ownsRow w.heap.size 107 2 v o.length ((flat o).map (Value.int .i64))
  bel : Below w.heap.size w W
  box : Blk W nb #[.int .i64 x, .int .i64 y] 107
  ne : some nb ≠ v.ownBlock
theorem MidB.alloc {w : World} {nb : Nat} {x y : Int} {v : Value} {o : Sp} {W : World} (h : MidB w nb x y v o W) (ob : Obj) : MidB w nb x y v o (W.alloc ob) := ⟨h.own.alloc _, Below.allocW _ h.bel (Nat.le_refl _), h.box.alloc _, h.ne⟩
theorem MidB.drew {w : World} {nb : Nat} {x y : Int} {v : Value} {o : Sp} {W : World} (h : MidB w nb x y v o W) : MidB w nb x y v o W.drew := ⟨⟨h.own.1, h.own.2⟩, h.bel.drew, h.box, h.ne⟩
/-- Behind the first laying: what lay beside lies there still. -/
structure AftB (w : World) (nb : Nat) (x y : Int) (v v' : Value) (o' : Sp) (W W' : World) : Prop where
  mid : MidB w nb x y v' o' W'
  old : ∀ g cs t, Blk W g cs t → some g ≠ v.ownBlock → Blk W' g cs t ∧ some g ≠ v'.ownBlock
theorem AftB.of {w : World} {nb : Nat} {x y : Int} {v v' : Value} {o o' : Sp} {W W' : World} (h : MidB w nb x y v o W) (k : LayAt W w.heap.size v v' o' W') : AftB w nb x y v v' o' W W' := by
  have hold : ∀ g cs t, Blk W g cs t → some g ≠ v.ownBlock → Blk W' g cs t ∧ some g ≠ v'.ownBlock := fun g cs t hb hne => by
    refine ⟨hb.agree (k.grown.block g hb.lt hne), ?_⟩
    rcases k.fresh with e | e
    · rw [e]; exact hne
    · intro e2; have := e g e2.symm; have := hb.lt; omega
  obtain ⟨h1, h2⟩ := hold _ _ _ h.box h.ne
  exact ⟨⟨k.own, h.bel.trans (k.below h.own h.bel.size), h1, h2⟩, hold⟩
/-- Ahead of the second laying: the one span's slice. -/
structure TwoB (w : World) (nb : Nat) (x y : Int) (v' : Value) (o' : Sp) (g : Nat) (W : World) : Prop where
  mid : MidB w nb x y v' o' W
  one : Blk W g #[.int .i64 x, .int .i64 y] 107
  ne : some g ≠ v'.ownBlock
theorem AftB.two {w : World} {nb : Nat} {x y : Int} {v v' : Value} {o o' : Sp} {W W' : World} (h : AftB w nb x y v v' o' (W.alloc (.cells #[.int .i64 x, .int .i64 y] 107)).drew W') (k : MidB w nb x y v o W) : TwoB w nb x y v' o' W.heap.size W' := by
  obtain ⟨h1, h2⟩ := h.old _ _ _ (Blk.made W _ _) (fun e => by have := (k.own.lt _ e.symm).2; omega)
  exact ⟨h.mid, h1, h2⟩
theorem AftB.new {w : World} {nb : Nat} {x y : Int} {v v' : Value} {o' : Sp} {W W' : World} (h : AftB w nb x y v v' o' W W') : TwoB w nb x y v' o' W'.heap.size (W'.alloc (.cells #[.int .i64 x, .int .i64 y] 107)) :=
  ⟨h.mid.alloc _, Blk.made _ _ _, fun e => by have := (h.mid.own.lt _ e.symm).2; omega⟩
theorem rdP_one {W : World} {g : Nat} {x y : Int} {t : TypeId} (h : Blk W g #[.int .i64 x, .int .i64 y] t) : RdP W (some ⟨g, 0, none⟩) 1 [(x, y)] [g] :=
  ⟨rfl, rdI_tcv (xs := flat [(x, y)]) (by simpa [tcv, flat] using h) (by simp [flat]) (by omega)⟩
/-- Ahead of a round. -/
structure BInv (w : World) (ps qs : Sp) (k : Nat) (o rs : Sp) (aa : Option Addr) (la ca : Nat) (F : List Nat) (v : Value) (wr : World) : Prop where
  own : wr.ownsRow w.heap.size 107 2 v o.length ((flat o).map (Value.int .i64))
  bel : Below w.heap.size w wr
  rd : RdP w aa la rs F
  lt : ∀ b ∈ F, b < w.heap.size
  cap : la ≤ ca
  len : o.length + rs.length ≤ ps.length + k
  ino : ∀ p ∈ o, InB p
  ina : ∀ p ∈ rs, InB p
  eq : both rs (qs.drop k) o = both ps qs []
set_option maxRecDepth 100000 in
set_option maxHeartbeats 8000000 in
theorem spansOfBoth_any (a b : Option Addr) (la lb ca cb : Nat) (ps qs : Sp) (F G : List Nat) (w : World) (h : RdP w a la ps F) (k : RdP w b lb qs G) (hlen : la + lb ≤ 2097153) (hca : la ≤ ca) (h1 : ∀ p ∈ ps, InB p) (h2 : ∀ p ∈ qs, InB p) :
    Calls Try.prog 96 #[.slice a la ca, .slice b lb cb] w fun e w' => NewP w (both ps qs []) e w' := by
  have HL : Hid (ps.length = la ∧ qs.length = lb) := ⟨h.length, k.length⟩
  have HI : Hid (∀ p ∈ qs, InB p) := h2
  have HP0 : Hid (BInv w ps qs 0 [] ps a la ca F (.slice none 0 0) w) := ⟨⟨by simp [flat], .inl ⟨rfl, rfl⟩⟩, Below.refl _ _, h, h.lt, hca, by simp, by simp, h1, rfl⟩
  have HCB : Hid (lb = 0 ∨ ∃ b1 o1, b = some ⟨b1, o1, none⟩ ∧ b1 < w.heap.size ∧ SpCells w b1 o1 lb qs) := cells_of k
  clear h k h1 h2
  go_enter Try.func96, Try.ntmps96
  go_wp2
  go_loopw [0, 5, 12] (fun av v i wr => ∃ (k : Nat) (o rs : Sp) (aa : Option Addr) (la ca : Nat) (F : List Nat), k ≤ lb ∧ i = .int .i64 k ∧ av = .slice aa la ca ∧ Hid (BInv w ps qs k o rs aa la ca F v wr)) (fun _ _ i _ => lb - (intOf i).toNat)
  case atStart => exact ⟨0, [], ps, a, la, ca, F, by omega, rfl, rfl, HP0⟩
  case round =>
    clear HP0
    obtain ⟨k, o, rs, aa, l0, c0, F0, hk, rfl, rfl, HP⟩ := hrel
    by_cases hlt : k < lb
    · have hcb := HCB.out
      rcases hcb with h0 | ⟨b1, o1, rfl, hbw, hc⟩
      · omega
      obtain ⟨x, hx⟩ : ∃ x, x = (qs.at k).1 := ⟨_, rfl⟩
      obtain ⟨y, hy⟩ : ∃ x, x = (qs.at k).2 := ⟨_, rfl⟩
      have e := hc k hlt
      have hql : k < qs.length := by rw [HL.out.2]; exact hlt
      have HXY : Hid (qs.at k = (x, y)) := by rw [hx, hy]; rfl
      have HINX : Hid (InB (x, y)) := by rw [← HXY.out]; exact HI.out _ (Sp.at_mem hql)
      rw [HXY.out] at e
      have d1 : wr.cell? ⟨b1, o1 + k * 2, none⟩ = some (.int .i64 x) := (HP.out.bel.cell (by exact hbw)).trans e.1
      have d2 : wr.cell? ⟨b1, o1 + k * 2 + 1, none⟩ = some (.int .i64 y) := (HP.out.bel.cell (by exact hbw)).trans e.2
      have hI : (k : Int) < (lb : Int) := by omega
      have HLN : Hid (o.length + rs.length ≤ 2097153) := by have := HP.out.len; have := HL.out; show _ ≤ _; omega
      have HLA : Hid (rs.length = l0) := HP.out.rd.length
      clear e hx hy hc
      go_wp2_with fail
      have HWA : Hid (Below w.heap.size w (wr.alloc (.cells #[.int .i64 x, .int .i64 y] 107))) := Below.allocW _ HP.out.bel (Nat.le_refl _)
      refine (cutAt_any aa l0 c0 rs x F0 _ (HP.out.rd.move HP.out.lt HWA.out) (by have := HLN.out; have := HLA.out; omega) HP.out.cap).mono ?_
      rintro e w2 ⟨a1, l1, c1, a2, l2, c2, F1, F2, rfl, r1, r2, s1, s2, hcp2, hq⟩
      obtain ⟨cn, hcn⟩ : ∃ c, c = cutN rs x := ⟨_, rfl⟩
      rw [← hcn] at r1 r2
      have HQ1 : Hid (RdP w a1 l1 (rs.take cn) F1 ∧ (∀ b ∈ F1, b < w.heap.size) ∧ l1 ≤ rs.length) := ⟨r1.back (fun b hb => HP.out.lt b (s1 b hb)) HWA.out, fun b hb => HP.out.lt b (s1 b hb), by have e := r1.length; rw [List.length_take] at e; omega⟩
      have HQ2 : Hid (RdP w a2 l2 (rs.drop cn) F2 ∧ (∀ b ∈ F2, b < w.heap.size) ∧ l2 ≤ c2) := ⟨r2.back (fun b hb => HP.out.lt b (s2 b hb)) HWA.out, fun b hb => HP.out.lt b (s2 b hb), hcp2⟩
      have HM : Hid (MidB w wr.heap.size x y u5 o w2) := by
        obtain ⟨m, rfl⟩ := hq
        have hal := HP.out.own.alloc (.cells #[.int .i64 x, .int .i64 y] 107)
        exact ⟨⟨hal.1, hal.2⟩, ⟨HWA.out.os, HWA.out.tape, HWA.out.output, HWA.out.size, HWA.out.block⟩, Blk.made wr _ _, fun e => by have := (HP.out.own.lt _ e.symm).2; omega⟩
      have HCN : Hid (cn = cutN rs x) := hcn
      have q1 : w2.cell? ⟨wr.heap.size, 0, none⟩ = some (.int .i64 x) := HM.out.box.cell 0
      have q2 : w2.cell? ⟨wr.heap.size, 1, none⟩ = some (.int .i64 y) := HM.out.box.cell 1
      clear r1 r2 s1 s2 hcp2 hq hcn HWA d1 d2
      have HC1 : Hid (∀ W, MidB w wr.heap.size x y u5 o W → Calls Try.prog 103 #[u5, .slice a1 l1 c1] W (fun e w' => ∃ v', e = .returned v' ∧ AftB w wr.heap.size x y u5 v' (lay o (rs.take cn)) W w')) := by
        intro W hW
        refine (laid_any w.heap.size u5 o a1 l1 c1 (rs.take cn) F1 W hW.own hW.bel.size (HQ1.out.1.move HQ1.out.2.1 hW.bel) (fun b hb e => by have := HQ1.out.2.1 b hb; have := (hW.own.lt _ e.symm).1; omega) (by have := HLN.out; have := HQ1.out.2.2; omega) HP.out.ino (fun p hp => HP.out.ina p (List.mem_of_mem_take hp))).mono ?_
        rintro e w' ⟨v, rfl, hl⟩
        exact ⟨v, rfl, AftB.of hW hl⟩
      have HC2 : Hid (∀ v' W g, TwoB w wr.heap.size x y v' (lay o (rs.take cn)) g W → Calls Try.prog 103 #[v', .slice (some ⟨g, 0, none⟩) 1 1] W (fun e w' => ∃ v'', e = .returned v'' ∧ MidB w wr.heap.size x y v'' (lay1 (lay o (rs.take cn)) (x, y)) w')) := by
        intro v' W g hW
        refine (laid_any w.heap.size v' (lay o (rs.take cn)) (some ⟨g, 0, none⟩) 1 1 [(x, y)] [g] W hW.mid.own hW.mid.bel.size (rdP_one hW.one) (fun b hb => by rw [List.mem_singleton.1 hb]; exact hW.ne) (by have e := lay_length (rs.take cn) o; have := HLN.out; rw [List.length_take] at e; omega) (lay_inb HP.out.ino (fun p hp => HP.out.ina p (List.mem_of_mem_take hp))) (fun p hp => by rw [List.mem_singleton.1 hp]; exact HINX.out)).mono ?_
        rintro e w' ⟨v, rfl, hl⟩
        exact ⟨v, rfl, (AftB.of hW.mid hl).mid⟩
      have HFIN : Hid (∀ v' W, MidB w wr.heap.size x y v' (lay1 (lay o (rs.take cn)) (x, y)) W → BInv w ps qs (k + 1) (lay1 (lay o (rs.take cn)) (x, y)) (rs.drop cn) a2 l2 c2 F2 v' W) := by
        intro v' W hW
        refine ⟨hW.own, hW.bel, HQ2.out.1, HQ2.out.2.1, HQ2.out.2.2, ?_, lay1_inb (lay_inb HP.out.ino (fun p hp => HP.out.ina p (List.mem_of_mem_take hp))) HINX.out, fun p hp => HP.out.ina p (List.mem_of_mem_drop hp), ?_⟩
        · have e1 := lay1_length (lay o (rs.take cn)) (x, y)
          have e2 := lay_length (rs.take cn) o
          have e3 := HP.out.len
          rw [List.length_take] at e2
          rw [List.length_drop]
          omega
        · have e := HP.out.eq
          rw [drop_at hql, HXY.out, both] at e
          rw [HCN.out]
          exact e
      have HKE : Hid (∀ W, Blk W wr.heap.size #[.int .i64 x, .int .i64 y] 107 → W.cell? ⟨wr.heap.size, 0, none⟩ = some (.int .i64 x) ∧ W.cell? ⟨wr.heap.size, 1, none⟩ = some (.int .i64 y)) := fun W hW => ⟨hW.cell 0, hW.cell 1⟩
      have HMD : Hid (MidB w wr.heap.size x y u5 o w2.drew) := HM.out.drew
      have HMA : Hid (MidB w wr.heap.size x y u5 o (w2.alloc (.cells #[.int .i64 x, .int .i64 y] 107)).drew) := (HM.out.alloc _).drew
      go_wp2
      go_region_held3 (fun W => W.cell? ⟨wr.heap.size, 0, none⟩ = some (.int .i64 x) ∧ W.cell? ⟨wr.heap.size, 1, none⟩ = some (.int .i64 y))
        ((refine HKE.out _ ?_; first | (with_reducible exact k2.box) | (with_reducible exact k1.mid.box) | (with_reducible exact k1.mid.box.alloc _) | (with_reducible exact HMD.out.box) | (with_reducible exact HMA.out.box)))
        (first
          | (have zz := k1; clear zz; go_at_call 103; refine (HC2.out _ _ _ (by first | (with_reducible exact k1.two HM.out) | (with_reducible exact k1.new))).mono ?_; rintro e w4 ⟨v4, rfl, k2⟩)
          | (go_at_call 103; refine (HC1.out _ (by first | (with_reducible exact HMD.out) | (with_reducible exact HMA.out))).mono ?_; rintro e w3 ⟨v3, rfl, k1⟩))
      all_goals
        have HB2 := HFIN.out _ _ k2
        have HB3 : Hid (BInv w ps qs (k + 1) (lay1 (lay o (rs.take cn)) (x, y)) (rs.drop cn) a2 l2 c2 F2 v4 w4) := HB2
        clear HB2 k2 k1 HC1 HC2 HKE HFIN q1 q2 HMD HMA HM
        go_wp2
        go_roundw
      all_goals first | exact ⟨k + 1, _, _, a2, l2, c2, F2, by omega, by go_num, rfl, HB3⟩ | (simp [intOf]; omega)
    · obtain rfl : k = lb := by omega
      have HE : Hid (lay o rs = both ps qs []) := by
        have := HP.out.eq
        rw [List.drop_eq_nil_of_le (by rw [HL.out.2]; omega)] at this
        exact this
      go_wp2_with fail
      refine (laid_any w.heap.size u5 o aa l0 c0 rs F0 _ HP.out.own HP.out.bel.size (HP.out.rd.move HP.out.lt HP.out.bel) (fun b hb e => by have := HP.out.lt b hb; have := (HP.out.own.lt _ e.symm).1; omega) (by have := HP.out.len; have := HL.out; have := HP.out.rd.length; omega) HP.out.ino HP.out.ina).mono ?_
      rintro e w2 ⟨v, rfl, hl⟩
      have HV : Hid (LayAt wr w.heap.size u5 v (lay o rs) w2 ∧ Below w.heap.size w w2) := ⟨hl, HP.out.bel.trans (hl.below HP.out.own HP.out.bel.size)⟩
      clear hl
      go_wp2
      go_ret
      obtain ⟨a', c', F', rfl, hr, ho, hnn⟩ := rdP_of_own HV.out.1.own
      rw [← HE.out]
      exact ⟨_, _, _, F', rfl, hr, ho, HV.out.2, hnn⟩
end Go.Proofs.Ytjndcfamfminkar
/- The walks through the program's copying of a set, and the library's comparing of two. No statement of the seat is proved here. -/
namespace Go.Proofs.Ytjndcfamfminkar
open Go.RowKit
theorem run_copy_row2 {P : Program} (w : World) (dT sT ty elem : TypeId) (g len dCap : Nat) (a : Addr) (sCap : Nat) (cur : Array Value) (t : TypeId) (cs : List Value)
    (hu : P.underlying dT = some (.slice elem)) (hs : (P.info? elem).map (·.size) = some 2)
    (hg : w.heap[g]? = some (.cells cur t (0, 0))) (hn : cs.length = len * 2)
    (hsrc : ∀ j v, cs[j]? = some v → w.cell? (a.add j) = some v) (hfit : cs.length ≤ cur.size) (h1 : ∀ v ∈ cs, v.oneCell' = true) :
    (Builtin.copy_ #[dT, sT] ty #[.slice (some ⟨g, 0, none⟩) len dCap, .slice (some a) len sCap]).run P w =
      .ok (goInt len) (w.setRow g (cs ++ cur.toList.drop cs.length).toArray) := by
  have hl := run_loadCells_list (P := P) w a cs hsrc
  have hst := run_storeCells_at P g 0 t cs 0 cur w hg (by simpa using hfit) h1
  rw [hn] at hl
  cases hq : P.info? elem with
  | none => simp [hq] at hs
  | some i =>
    have hi : i.size = 2 := by simpa [hq] using hs
    simp [Builtin.copy_, run_underlying hu, Builtin.lenOf, Builtin.firstCells, sizeOf, typeInfo, hq, hi, hl, hst]
theorem run_copy_none2 {P : Program} (w : World) (dT sT ty elem : TypeId) (d a : Option Addr) (dCap sCap : Nat) (hu : P.underlying dT = some (.slice elem)) (hs : (P.info? elem).map (·.size) = some 2) :
    (Builtin.copy_ #[dT, sT] ty #[.slice d 0 dCap, .slice a 0 sCap]).run P w = .ok (goInt 0) w := by
  cases hq : P.info? elem with
  | none => simp [hq] at hs
  | some i =>
    have hl : ∀ (x : Addr), (loadCells x 0).run P w = .ok #[] w := fun x => by simpa using run_loadCells_list (P := P) w x [] (by simp)
    cases d <;> cases a <;> simp [Builtin.copy_, run_underlying hu, Builtin.lenOf, Builtin.firstCells, sizeOf, typeInfo, hq, storeCells, hl]
theorem infoSpan2 : (Try.prog.info? 107).map (·.size) = some 2 := by kernel_rfl
theorem flat_one {ps : Sp} : ∀ v ∈ (flat ps).map (Value.int .i64), v.oneCell' = true := by
  intro v hv
  obtain ⟨x, _, rfl⟩ := List.mem_map.1 hv
  rfl
set_option maxRecDepth 200000 in
set_option maxHeartbeats 2000000 in
theorem copiedSpans_any (a : Option Addr) (len cap : Nat) (ps : Sp) (F : List Nat) (w : World) (h : RdP w a len ps F) (hlen : len ≤ 2097152) :
    Calls Try.prog 85 #[.slice a len cap] w fun e w' => NewP w ps e w' := by
  obtain ⟨i0, hi, hz0, hz1, hz2⟩ := info_parts infoSpan
  have HL : Hid (ps.length = len) := h.length
  have HR : Hid (RdP w a len ps F) := h
  rcases h.cells with ⟨rfl, _, rfl⟩ | ⟨b, off, hp, rfl, _, _⟩
  · clear h
    go_enter Try.func85, Try.ntmps85
    go_wp2_with (at_make; refine wpList_make_full _ rfl _ _ 23 rfl w.heap.size 107 i0 (.agg #[.int .i64 0, .int .i64 0]) 2 Try.underlying23 hi hz0 hz1 .i64 .i64 _ _ 0 rfl rfl (by simp) (by simp) (by omega) (by unfold maxLen; omega) (Nat.le_refl _) ?_; intro w1 hown hgrow)
    have hcp := run_copy_none2 (P := Try.prog) w1 23 23 3 107 (some ⟨w.heap.size, 0, none⟩) a 0 cap Try.underlying23 infoSpan2
    rw [hcp]
    go_wp2
    go_ret
    exact ⟨_, 0, 0, [], rfl, RdP.nil, Own.nil, (Below.refl _ _).grown hgrow (Nat.le_refl _) (fun k hk => by cases hk), (fun e => by cases e), Nat.le_refl _⟩
  · clear h
    go_enter Try.func85, Try.ntmps85
    go_wp2_with (at_make; refine wpList_make_full _ rfl _ _ 23 rfl w.heap.size 107 i0 (.agg #[.int .i64 0, .int .i64 0]) 2 Try.underlying23 hi hz0 hz1 .i64 .i64 _ _ len rfl rfl rfl rfl (by rw [hz2]; omega) (by unfold maxLen; omega) (Nat.le_refl _) ?_; intro w1 hown hgrow)
    have HM : Hid (Blk w1 w.heap.size (tcv (List.replicate (2 * len) 0)) 107 ∧ Below w.heap.size w w1) := by
      refine ⟨?_, (Below.refl _ _).grown hgrow (Nat.le_refl _) (fun k hk => by cases hk)⟩
      have e := own_blk hown hp
      have e2 : (madeCells (Value.agg #[Value.int IntKind.i64 0, Value.int IntKind.i64 0]).cells (len * 2)).toList.toArray = tcv (List.replicate (2 * len) 0) := made_flat len
      rw [← e2]
      exact e
    clear hown hgrow
    have HLF : Hid ((flat ps).length = 2 * len) := by rw [flat_length, HL.out]; rfl
    have hcp := run_copy_row2 (P := Try.prog) w1 23 23 3 107 w.heap.size len len ⟨b, off, none⟩ cap _ 107 ((flat ps).map (Value.int .i64)) Try.underlying23 infoSpan2 HM.out.1 (by have := HLF.out; simp; omega) (cells_flat (HR.out.below HM.out.2) hp) (by have := HLF.out; simp [tcv]; omega) flat_one
    have hrow : ((flat ps).map (Value.int .i64) ++ (tcv (List.replicate (2 * len) 0)).toList.drop ((flat ps).map (Value.int .i64)).length).toArray = tcv (flat ps) := by
      have := HLF.out
      rw [List.drop_eq_nil_of_le (by simp [tcv]; omega), List.append_nil]
      rfl
    rw [hrow] at hcp
    have HW : Hid (Blk (w1.setRow w.heap.size (tcv (flat ps))) w.heap.size (tcv (flat ps)) 107 ∧ Below w.heap.size w (w1.setRow w.heap.size (tcv (flat ps)))) := ⟨HM.out.1.setRow, below_setRow HM.out.2 (Nat.le_refl _) _⟩
    clear hrow
    rw [hcp]
    go_wp2
    go_ret
    exact ⟨_, len, len, [w.heap.size], rfl, ⟨HL.out, rdI_tcv HW.out.1 HLF.out (by omega)⟩, ⟨by simp, fun b hb o => by simp at hb; subst hb; exact HW.out.1.frozen o, by simp⟩, HW.out.2, (fun e => by cases e), Nat.le_refl _⟩
end Go.Proofs.Ytjndcfamfminkar
/- The walks through the program's copying of an item and of an agent. No statement of the seat is proved here. -/
namespace Go.Proofs.Ytjndcfamfminkar
open Go.RowKit
theorem infoItP8 : (Try.prog.info? 54).map (·.size) = some 11 := by kernel_rfl
set_option maxRecDepth 200000 in
set_option maxHeartbeats 2000000 in
theorem copiedItem_any (v : Value) (x : It) (F : List Nat) (w : World) (h : RdIt w v x F) (hf : x.sk.fits) :
    Calls Try.prog 62 #[v] w fun e w' => NewIt w x e w' := by
  obtain ⟨a1, n1, c1, a2, n2, c2, a3, n3, c3, rfl, hr⟩ := h
  have HR : Hid (RdSk w (.agg #[.int .i64 x.sk.count, .int .i64 x.sk.sum, .int .i64 x.sk.min, .int .i64 x.sk.max, .slice a1 n1 c1, .slice a2 n2 c2, .slice a3 n3 c3]) x.sk F ∧ x.sk.fits) := ⟨hr, hf⟩
  clear hr hf
  have HT0 : Hid (_ ∧ _ ∧ _) := two_made w #[.int .i64 x.seq, .int .i64 x.cls, .int .i64 x.key, .int .i64 x.window, .int .i64 x.sk.count, .int .i64 x.sk.sum, .int .i64 x.sk.min, .int .i64 x.sk.max, .slice a1 n1 c1, .slice a2 n2 c2, .slice a3 n3 c3] #[.int .i64 0, .int .i64 0, .int .i64 0, .int .i64 0, .int .i64 0, .int .i64 0, .int .i64 0, .int .i64 0, .slice none 0 0, .slice none 0 0, .slice none 0 0] 54 54
  go_enter Try.func62, Try.ntmps62
  go_wp2_with (first | go_skip | (with_reducible refine stopLoad 44 rfl ?_))
  refine load_cut 44 w.heap.size 4 7 _ #[.int .i64 x.sk.count, .int .i64 x.sk.sum, .int .i64 x.sk.min, .int .i64 x.sk.max, .slice a1 n1 c1, .slice a2 n2 c2, .slice a3 n3 c3] 54 _ HT0.out.1 rfl rfl rfl Try.underlying44 rfl infoSkI (by simp) rfl ?_
  go_wp2_with fail
  refine (copiedSketch_all _ x.sk F _ (HR.out.1.below HT0.out.2.2) HR.out.2).mono ?_
  rintro e w1 ⟨v1, G, rfl, r1, o1, hb1⟩
  obtain ⟨b1, m1, d1, b2, m2, d2, b3, m3, d3, rfl⟩ := r1.cells7
  have HT1 : Hid (Blk w1 w.heap.size #[.int .i64 x.seq, .int .i64 x.cls, .int .i64 x.key, .int .i64 x.window, .int .i64 x.sk.count, .int .i64 x.sk.sum, .int .i64 x.sk.min, .int .i64 x.sk.max, .slice a1 n1 c1, .slice a2 n2 c2, .slice a3 n3 c3] 54 ∧ Blk w1 (w.heap.size + 1) #[.int .i64 0, .int .i64 0, .int .i64 0, .int .i64 0, .int .i64 0, .int .i64 0, .int .i64 0, .int .i64 0, .slice none 0 0, .slice none 0 0, .slice none 0 0] 54 ∧ Below w.heap.size w w1) := ⟨HT0.out.1.below hb1, HT0.out.2.1.below hb1, Below.next HT0.out.2.2 hb1⟩
  have HG : Hid (RdSk w1 (.agg #[.int .i64 x.sk.count, .int .i64 x.sk.sum, .int .i64 x.sk.min, .int .i64 x.sk.max, .slice b1 m1 d1, .slice b2 m2 d2, .slice b3 m3 d3]) x.sk G ∧ Own (w.heap.size + 2) w1 G) := ⟨r1, o1.mono HT0.out.2.1.lt⟩
  clear HT0 hb1 r1 o1 HR
  go_wp2_with (first | go_skip | (with_reducible refine stopStore 44 rfl ?_))
  refine store_cut 44 w.heap.size 4 _ #[.int .i64 x.sk.count, .int .i64 x.sk.sum, .int .i64 x.sk.min, .int .i64 x.sk.max, .slice b1 m1 d1, .slice b2 m2 d2, .slice b3 m3 d3] #[.int .i64 x.seq, .int .i64 x.cls, .int .i64 x.key, .int .i64 x.window, .int .i64 x.sk.count, .int .i64 x.sk.sum, .int .i64 x.sk.min, .int .i64 x.sk.max, .slice b1 m1 d1, .slice b2 m2 d2, .slice b3 m3 d3] 54 HT1.out.1 rfl rfl rfl rfl infoSkI (by exact Nat.le_refl 11) (by simp [Value.oneCell']) rfl ?_
  obtain ⟨E, hE⟩ : ∃ E : Array Value, E = #[.int .i64 x.seq, .int .i64 x.cls, .int .i64 x.key, .int .i64 x.window, .int .i64 x.sk.count, .int .i64 x.sk.sum, .int .i64 x.sk.min, .int .i64 x.sk.max, .slice b1 m1 d1, .slice b2 m2 d2, .slice b3 m3 d3] := ⟨_, rfl⟩
  rw [← hE]
  have HE : Hid (E = #[.int .i64 x.seq, .int .i64 x.cls, .int .i64 x.key, .int .i64 x.window, .int .i64 x.sk.count, .int .i64 x.sk.sum, .int .i64 x.sk.min, .int .i64 x.sk.max, .slice b1 m1 d1, .slice b2 m2 d2, .slice b3 m3 d3]) := hE
  have hE11 : E.size = 11 := by rw [hE]; rfl
  have hEone : E.all (·.oneCell') = true := by rw [hE]; simp [Value.oneCell']
  have nl : w.heap.size ∉ G := fun hx => by have := HG.out.2.ge _ hx; omega
  have HT2 : Hid (Blk (w1.setRow w.heap.size E) w.heap.size E 54 ∧ Blk (w1.setRow w.heap.size E) (w.heap.size + 1) #[.int .i64 0, .int .i64 0, .int .i64 0, .int .i64 0, .int .i64 0, .int .i64 0, .int .i64 0, .int .i64 0, .slice none 0 0, .slice none 0 0, .slice none 0 0] 54 ∧ Below w.heap.size w (w1.setRow w.heap.size E)) := ⟨HT1.out.1.setRow, HT1.out.2.1.setRowOther (by omega), below_setRow HT1.out.2.2 (by omega) _⟩
  have HG2 : Hid (RdSk (w1.setRow w.heap.size E) (.agg #[.int .i64 x.sk.count, .int .i64 x.sk.sum, .int .i64 x.sk.min, .int .i64 x.sk.max, .slice b1 m1 d1, .slice b2 m2 d2, .slice b3 m3 d3]) x.sk G ∧ Own (w.heap.size + 2) (w1.setRow w.heap.size E) G) := ⟨HG.out.1.agree (Agree.row nl E), HG.out.2.agree (Agree.row nl E)⟩
  obtain ⟨w2, hw2⟩ : ∃ W, W = w1.setRow w.heap.size E := ⟨_, rfl⟩
  rw [← hw2] at HT2 HG2 ⊢
  clear hw2 HT1 HG nl hE
  go_wp2_with (first | go_skip | (with_reducible refine stopLoad 54 rfl ?_))
  refine load_known 54 w.heap.size E 54 _ HT2.out.1 rfl rfl rfl Try.underlying54 rfl (by rw [hE11]; exact infoItP8) ?_
  go_wp2_with (first | go_skip | (with_reducible refine stopStore 54 rfl ?_))
  refine store_known 54 (w.heap.size + 1) _ E 54 HT2.out.2.1 rfl rfl rfl rfl (by rw [hE11]; exact infoItP8) (by rw [hE11]; rfl) hEone ?_
  have nr : w.heap.size + 1 ∉ G := fun hx => by have := HG2.out.2.ge _ hx; omega
  have HF : Hid (RdSk (w2.setRow (w.heap.size + 1) E) (.agg #[.int .i64 x.sk.count, .int .i64 x.sk.sum, .int .i64 x.sk.min, .int .i64 x.sk.max, .slice b1 m1 d1, .slice b2 m2 d2, .slice b3 m3 d3]) x.sk G ∧ Own w.heap.size (w2.setRow (w.heap.size + 1) E) G ∧ Below w.heap.size w (w2.setRow (w.heap.size + 1) E) ∧ Blk (w2.setRow (w.heap.size + 1) E) (w.heap.size + 1) E 54) := ⟨HG2.out.1.agree (Agree.row nr E), (HG2.out.2.agree (Agree.row nr E)).mono (by omega), below_setRow HT2.out.2.2 (by omega) _, HT2.out.2.1.setRow⟩
  clear HT2 HG2 nr
  go_wp2
  refine bodyPost_ret (results_cell_row Try.results62 _ _ (w.heap.size + 1) _ _ (0, 0) _ rfl HF.out.2.2.2 Try.underlying54 rfl (by rw [hE11]; exact infoItP8)) rfl ?_
  exact ⟨_, G, rfl, ⟨b1, m1, d1, b2, m2, d2, b3, m3, d3, by rw [HE.out], HF.out.1⟩, HF.out.2.1, HF.out.2.2.1⟩
/-- A new agent whose list can grow; the set lies apart from it. -/
def NewAgH (w : World) (x : Ag) (e : Ending) (w' : World) : Prop := ∃ (q1 : Option Addr) (k1 : Nat) (q2 : Option Addr) (l2 k2 : Nat) (F G : List Nat) (lo : Nat) (vs : List Value) (GG : List Nat),
  e = .returned (.agg #[.int .i64 x.id, .int .i64 x.epoch, .bool x.live, .int .i64 x.granted, .slice q1 x.sealed.length k1, .slice q2 l2 k2, .int .i64 x.next]) ∧ RdL itK w' q1 x.sealed.length x.sealed F ∧ RdP w' q2 l2 x.taken G ∧ Capd q1 x.sealed.length k1 ∧ Capd q2 l2 k2 ∧ Own w.heap.size w' F ∧ Own w.heap.size w' G ∧ (∀ b ∈ F, b ∉ G) ∧ Below w.heap.size w w' ∧
  GrowL itK 54 x.sealed lo x.sealed.length (.slice q1 x.sealed.length k1) vs GG w' ∧ w.heap.size ≤ lo ∧ (∀ b ∈ G, ¬ (Value.slice q1 x.sealed.length k1).ownBlock = some b) ∧ ∀ b ∈ GG, b ∉ G
theorem NewAgH.plain {w : World} {x : Ag} {e : Ending} {w' : World} (h : NewAgH w x e w') : NewAg w x e w' := by
  obtain ⟨q1, k1, q2, l2, k2, F, G, lo, vs, GG, rfl, r1, r2, c1, c2, o1, o2, ap, b, _⟩ := h
  exact ⟨_, F, G, rfl, ⟨q1, _, k1, q2, l2, k2, rfl, r1, r2, c1, c2⟩, o1, o2, ap, b⟩
theorem infoAgP8 : (Try.prog.info? 25).map (·.size) = some 7 := by kernel_rfl
theorem infoItsP8 : (Try.prog.info? 54).map (fun i => (i.zero, i.size, i.bytes)) = some (some (.agg #[.int .i64 0, .int .i64 0, .int .i64 0, .int .i64 0, .int .i64 0, .int .i64 0, .int .i64 0, .int .i64 0, .slice none 0 0, .slice none 0 0, .slice none 0 0]), 11, 136) := by kernel_rfl
/-- An agent's copy in the making, behind k items. -/
structure CpAg (w : World) (A : Array Value) (x : Ag) (lo k : Nat) (v : Value) (vs : List Value) (G : List Nat) (W : World) : Prop where
  box : Blk W w.heap.size A 25
  res : Blk W (w.heap.size + 1) #[.int .i64 0, .int .i64 0, .bool false, .int .i64 0, .slice none 0 0, .slice none 0 0, .int .i64 0] 25
  bel : Below w.heap.size w W
  grow : GrowL itK 54 x.sealed lo k v vs G W
  big : w.heap.size + 2 ≤ lo
theorem CpAg.below {w W W' : World} {A : Array Value} {x : Ag} {lo k : Nat} {v : Value} {vs : List Value} {G : List Nat} (h : CpAg w A x lo k v vs G W) (b : Below W.heap.size W W') : CpAg w A x lo k v vs G W' :=
  ⟨h.box.below b, h.res.below b, Below.next h.bel b, h.grow.below b, h.big⟩
theorem CpAg.step {w W W' : World} {A : Array Value} {x : Ag} {lo k : Nat} {v v' : Value} {vs vs' : List Value} {G G' : List Nat} (h : CpAg w A x lo k v vs G W) (hgrow : W.grownBy W' v.ownBlock) (hg : GrowL itK 54 x.sealed lo (k + 1) v' vs' G' W') : CpAg w A x lo (k + 1) v' vs' G' W' := by
  have big := h.big
  have ot : ∀ b, b < lo → W'.heap[b]? = W.heap[b]? := fun b hb => h.grow.other hgrow hb
  exact ⟨h.box.agree (ot _ (by omega)), h.res.agree (ot _ (by omega)), h.bel.grown hgrow h.bel.size (fun b hb => by have := (h.grow.row.lt b hb).1; omega), hg, big⟩
set_option maxRecDepth 200000 in
set_option maxHeartbeats 8000000 in
theorem copiedAgent_grow (v : Value) (x : Ag) (F0 G0 : List Nat) (w : World) (h : RdAg w v x F0 G0) (hf : ∀ y ∈ x.sealed, y.sk.fits) (hs : x.sealed.length ≤ 1048576) (hp : x.taken.length ≤ 1048576) :
    Calls Try.prog 53 #[v] w fun e w' => NewAgH w x e w' := by
  obtain ⟨j0, hj, hy0, hy1, hy2⟩ := info_parts infoItsP8
  obtain ⟨a1, n1, c1, a2, n2, c2, rfl, hL, hP, hc1, hc2⟩ := h
  have hn1 : n1 ≤ 1048576 := by rw [← hL.length]; exact hs
  have HL : Hid (RdL itK w a1 n1 x.sealed F0 ∧ (∀ y ∈ x.sealed, y.sk.fits) ∧ x.sealed.length = n1) := ⟨hL, hf, hL.length⟩
  have HP : Hid (RdP w a2 n2 x.taken G0 ∧ n2 ≤ 2097152) := ⟨hP, by rw [← hP.length]; omega⟩
  clear hL hP hf hs hp hc1 hc2
  have HT0 : Hid (_ ∧ _ ∧ _) := two_made w #[.int .i64 x.id, .int .i64 x.epoch, .bool x.live, .int .i64 x.granted, .slice a1 n1 c1, .slice a2 n2 c2, .int .i64 x.next] #[.int .i64 0, .int .i64 0, .bool false, .int .i64 0, .slice none 0 0, .slice none 0 0, .int .i64 0] 25 25
  obtain ⟨W0, hW0⟩ : ∃ W, W = (w.alloc (.cells #[.int .i64 x.id, .int .i64 x.epoch, .bool x.live, .int .i64 x.granted, .slice a1 n1 c1, .slice a2 n2 c2, .int .i64 x.next] 25)).alloc (.cells #[.int .i64 0, .int .i64 0, .bool false, .int .i64 0, .slice none 0 0, .slice none 0 0, .int .i64 0] 25) := ⟨_, rfl⟩
  have hs0 : W0.heap.size = w.heap.size + 2 := by rw [hW0]; simp
  go_enter Try.func53, Try.ntmps53
  go_wp2_with (at_make; refine wpList_make_own _ rfl _ _ 22 rfl (w.heap.size + 2) 54 j0 (.agg #[.int .i64 0, .int .i64 0, .int .i64 0, .int .i64 0, .int .i64 0, .int .i64 0, .int .i64 0, .int .i64 0, .slice none 0 0, .slice none 0 0, .slice none 0 0]) 11 Try.underlying22 hj hy0 hy1 .i64 .i64 _ n1 rfl rfl rfl (by rw [hy2]; omega) (by unfold maxLen; omega) (by simp) ?_)
  intro w1 hown hgrow
  have HG0 : Hid (CpAg w #[.int .i64 x.id, .int .i64 x.epoch, .bool x.live, .int .i64 x.granted, .slice a1 n1 c1, .slice a2 n2 c2, .int .i64 x.next] x (w.heap.size + 2) 0 (.slice (some ⟨w.heap.size + 1 + 1, 0, none⟩) 0 n1) [] [] w1) := by
    have hb1 : Below W0.heap.size W0 w1 := (Below.refl W0.heap.size W0).grown (by rw [hW0]; exact hgrow) (Nat.le_refl _) (fun k hk => by cases hk)
    rw [← hW0] at HT0
    have e : W0.heap.size = w.heap.size + 2 := hs0
    refine ⟨HT0.out.1.below hb1, HT0.out.2.1.below hb1, Below.next HT0.out.2.2 hb1, ⟨?_, by rw [List.take_zero]; exact RdC.nil, Own.nil, (fun b hb hx => by cases hx), by have := hb1.size; omega⟩, Nat.le_refl _⟩
    have q : w1.ownsRow (w.heap.size + 2) 54 11 (.slice (some ⟨w.heap.size + 1 + 1, 0, none⟩) 0 n1) 0 [] := by simpa using hown
    exact q
  have e4 := HG0.out.box.cell 4
  simp only [aT, aS, aZ] at e4
  clear hown hgrow HT0 hW0 hs0
  go_wp2_with fail
  clear e4
  go_loopw [3, 13] (fun q i wr => ∃ (k : Nat) (v : Value) (vs : List Value) (GG : List Nat), k ≤ n1 ∧ i = .int .i64 k ∧ v = q ∧ Hid (CpAg w #[.int .i64 x.id, .int .i64 x.epoch, .bool x.live, .int .i64 x.granted, .slice a1 n1 c1, .slice a2 n2 c2, .int .i64 x.next] x (w.heap.size + 2) k v vs GG wr)) (fun _ i _ => n1 - (intOf i).toNat)
  case atStart => exact ⟨0, _, [], [], by omega, rfl, rfl, HG0⟩
  case round =>
    clear HG0
    obtain ⟨k, v, vs, GG, hk, rfl, rfl, CSS⟩ := hrel
    by_cases hlt : k < n1
    · have hI : (k : Int) < (n1 : Int) := by omega
      obtain ⟨b, off, ha, hbF, cs, Fi, hcs, hcc, hr, _⟩ := HL.out.1.get k hlt
      have ha' := ha.symm
      subst ha'
      have hbw : b < w.heap.size := HL.out.1.lt b hbF
      obtain ⟨y, hy⟩ : ∃ y, x.sealed[k]? = some y := ⟨_, List.getElem?_eq_getElem (by rw [HL.out.2.2]; exact hlt)⟩
      have HY : Hid (x.sealed[k]? = some y ∧ y.sk.fits ∧ cs.size = 11 ∧ RdIt w (.agg cs) y Fi ∧ cs.all (·.oneCell') = true) := ⟨hy, HL.out.2.1 y (List.mem_of_getElem? hy), hcs, hr y hy, by
        obtain ⟨a1, n1, c1, a2, n2, c2, a3, n3, c3, e⟩ := (hr y hy).cells11
        injection e with e
        rw [e]
        simp [Value.oneCell']⟩
      have HC : Hid (∀ j, j < 11 → wr.cell? ⟨b, off + k * 11 + j, none⟩ = cs[j]?) := fun j hj => by
        have q : wr.cell? ⟨b, off + k * 11 + j, none⟩ = w.cell? ⟨b, off + k * 11 + j, none⟩ := CSS.out.bel.cell (p := ⟨b, off + k * 11 + j, none⟩) hbw
        exact q.trans (hcc j hj)
      clear ha hbF hcs hcc hr hy
      go_wp2_with (first | go_skip | (with_reducible refine stopLoad 54 rfl ?_))
      refine load_at 54 b (off + k * 11) 11 cs _ HC.out HY.out.2.2.1 rfl rfl rfl Try.underlying54 rfl infoItP8 ?_
      go_wp2_with (first | go_skip | (with_reducible refine stopStore 54 rfl ?_))
      refine store_fresh 54 wr.heap.size rfl #[.int .i64 0, .int .i64 0, .int .i64 0, .int .i64 0, .int .i64 0, .int .i64 0, .int .i64 0, .int .i64 0, .slice none 0 0, .slice none 0 0, .slice none 0 0] cs 54 rfl rfl rfl rfl (by rw [HY.out.2.2.1]; exact infoItP8) (by rw [HY.out.2.2.1]; rfl) HY.out.2.2.2.2 ?_
      intro w2 hg2 hb2
      have CS2 : Hid (CpAg w #[.int .i64 x.id, .int .i64 x.epoch, .bool x.live, .int .i64 x.granted, .slice (some ⟨b, off, none⟩) n1 c1, .slice a2 n2 c2, .int .i64 x.next] x (w.heap.size + 2) k v vs GG w2 ∧ Blk w2 wr.heap.size cs 54) := ⟨CSS.out.below hb2, hg2⟩
      obtain ⟨X, hX⟩ : ∃ X, X = wr.heap.size := ⟨_, rfl⟩
      rw [← hX] at CS2 ⊢
      clear hg2 hb2 CSS HC hX
      go_wp2_with (first | go_skip | (with_reducible refine stopLoad 54 rfl ?_))
      refine load_known 54 X cs 54 _ CS2.out.2 rfl rfl rfl Try.underlying54 rfl (by rw [HY.out.2.2.1]; exact infoItP8) ?_
      go_wp2_with fail
      refine (copiedItem_any _ y Fi _ (HY.out.2.2.2.1.below CS2.out.1.bel) HY.out.2.1).mono ?_
      rintro e w3 ⟨v3, F3, rfl, r3, o3, hb3⟩
      obtain ⟨b1, m1, d1, b2, m2, d2, b3, m3, d3, rfl⟩ := r3.cells11
      have CS3 : Hid (CpAg w #[.int .i64 x.id, .int .i64 x.epoch, .bool x.live, .int .i64 x.granted, .slice (some ⟨b, off, none⟩) n1 c1, .slice a2 n2 c2, .int .i64 x.next] x (w.heap.size + 2) k v vs GG w3) := CS2.out.1.below hb3
      have HK : Hid (RdIt w3 (.agg #[.int .i64 y.seq, .int .i64 y.cls, .int .i64 y.key, .int .i64 y.window, .int .i64 y.sk.count, .int .i64 y.sk.sum, .int .i64 y.sk.min, .int .i64 y.sk.max, .slice b1 m1 d1, .slice b2 m2 d2, .slice b3 m3 d3]) y F3 ∧ Own w2.heap.size w3 F3 ∧ (∀ b ∈ GG, b < w2.heap.size) ∧ (∀ b, v.ownBlock = some b → b < w2.heap.size) ∧ w.heap.size + 2 ≤ w2.heap.size) := ⟨r3, o3, CS2.out.1.grow.lts⟩
      clear r3 o3 hb3 CS2
      go_wp2_with (with_reducible refine stopAppend rfl ?_)
      obtain ⟨W6, hW6⟩ : ∃ W, W = w3.alloc (.cells #[.int .i64 y.seq, .int .i64 y.cls, .int .i64 y.key, .int .i64 y.window, .int .i64 y.sk.count, .int .i64 y.sk.sum, .int .i64 y.sk.min, .int .i64 y.sk.max, .slice b1 m1 d1, .slice b2 m2 d2, .slice b3 m3 d3] 54) := ⟨_, rfl⟩
      have hbn : Below w3.heap.size w3 W6 := by rw [hW6]; exact (Below.refl _ _).alloc (Nat.le_refl _) _
      have HCN : Hid (∀ (j : Nat) (u : Value), [.int .i64 y.seq, .int .i64 y.cls, .int .i64 y.key, .int .i64 y.window, .int .i64 y.sk.count, .int .i64 y.sk.sum, .int .i64 y.sk.min, .int .i64 y.sk.max, .slice b1 m1 d1, .slice b2 m2 d2, .slice b3 m3 d3][j]? = some u → W6.cell? ((⟨w3.heap.size, 0, none⟩ : Addr).add j) = some u) := by rw [hW6]; exact news_lit w3 #[.int .i64 y.seq, .int .i64 y.cls, .int .i64 y.key, .int .i64 y.window, .int .i64 y.sk.count, .int .i64 y.sk.sum, .int .i64 y.sk.min, .int .i64 y.sk.max, .slice b1 m1 d1, .slice b2 m2 d2, .slice b3 m3 d3] 54
      have CS6 : Hid (CpAg w #[.int .i64 x.id, .int .i64 x.epoch, .bool x.live, .int .i64 x.granted, .slice (some ⟨b, off, none⟩) n1 c1, .slice a2 n2 c2, .int .i64 x.next] x (w.heap.size + 2) k v vs GG W6) := CS3.out.below hbn
      have HK6 : Hid (RdIt W6 (.agg #[.int .i64 y.seq, .int .i64 y.cls, .int .i64 y.key, .int .i64 y.window, .int .i64 y.sk.count, .int .i64 y.sk.sum, .int .i64 y.sk.min, .int .i64 y.sk.max, .slice b1 m1 d1, .slice b2 m2 d2, .slice b3 m3 d3]) y F3 ∧ Own w2.heap.size W6 F3) := ⟨HK.out.1.below hbn, HK.out.2.1.below (RdIt.lt HK.out.1) hbn⟩
      rw [← hW6]
      clear hW6 hbn CS3
      refine Stop.intro (wpList_append_lies _ rfl _ _ 22 rfl (w.heap.size + 2) 54 j0 (.agg #[.int .i64 0, .int .i64 0, .int .i64 0, .int .i64 0, .int .i64 0, .int .i64 0, .int .i64 0, .int .i64 0, .slice none 0 0, .slice none 0 0, .slice none 0 0]) 11 136 Try.underlying22 hj hy0 hy1 hy2 rfl (by decide) v k vs rfl CS6.out.grow.row ⟨w3.heap.size, 0, none⟩ 1 1 [.int .i64 y.seq, .int .i64 y.cls, .int .i64 y.key, .int .i64 y.window, .int .i64 y.sk.count, .int .i64 y.sk.sum, .int .i64 y.sk.min, .int .i64 y.sk.max, .slice b1 m1 d1, .slice b2 m2 d2, .slice b3 m3 d3] rfl rfl HCN.out (by simp [Value.oneCell']) (by omega) (by unfold maxLen; omega) (by omega) CS6.out.grow.lw _ rfl ?_)
      intro g4 cp4 W7 hown hgrow hat hlt7
      have CS7 : Hid (CpAg w #[.int .i64 x.id, .int .i64 x.epoch, .bool x.live, .int .i64 x.granted, .slice (some ⟨b, off, none⟩) n1 c1, .slice a2 n2 c2, .int .i64 x.next] x (w.heap.size + 2) (k + 1) (.slice (some ⟨g4, 0, none⟩) (k + 1) cp4) (vs ++ [.int .i64 y.seq, .int .i64 y.cls, .int .i64 y.key, .int .i64 y.window, .int .i64 y.sk.count, .int .i64 y.sk.sum, .int .i64 y.sk.min, .int .i64 y.sk.max, .slice b1 m1 d1, .slice b2 m2 d2, .slice b3 m3 d3]) (GG ++ F3) W7) := CS6.out.step hgrow (CS6.out.grow.step HY.out.1 HK6.out.1 rfl HK6.out.2 HK.out.2.2.1 HK.out.2.2.2.1 HK.out.2.2.2.2 hown hgrow hat)
      clear hown hgrow hat hlt7 CS6 HK6 HK HCN
      go_wp2
      go_roundw
      case rel => exact ⟨k + 1, _, _, _, by omega, by go_num, rfl, CS7⟩
      case measure => simp [intOf]; omega
    · obtain rfl : k = n1 := by omega
      have HGW : Hid (CpAg w #[.int .i64 x.id, .int .i64 x.epoch, .bool x.live, .int .i64 x.granted, .slice a1 k c1, .slice a2 n2 c2, .int .i64 x.next] x (w.heap.size + 2) k v vs GG wr) := CSS
      have e5 := CSS.out.box.cell 5
      simp only [aT, aS, aZ] at e5
      clear CSS
      go_wp2_with fail
      refine (copiedSpans_any a2 n2 c2 x.taken G0 _ (HP.out.1.below HGW.out.bel) HP.out.2).mono ?_
      rintro e w2 ⟨p2, l2, k2, G2, rfl, r2, o2, hb2, hcp2⟩
      have HG2 : Hid (RdP w2 p2 l2 x.taken G2 ∧ Own wr.heap.size w2 G2 ∧ Capd p2 l2 k2 ∧ (∀ b ∈ GG, b < wr.heap.size) ∧ (∀ b, v.ownBlock = some b → b < wr.heap.size) ∧ w.heap.size + 2 ≤ wr.heap.size) := ⟨r2, o2, hcp2, HGW.out.grow.lts⟩
      have HW2 : Hid (CpAg w #[.int .i64 x.id, .int .i64 x.epoch, .bool x.live, .int .i64 x.granted, .slice a1 k c1, .slice a2 n2 c2, .int .i64 x.next] x (w.heap.size + 2) k v vs GG w2) := HGW.out.below hb2
      have c4 := HW2.out.box.cell 4
      have c5 := HW2.out.box.cell 5
      have f4 := HW2.out.box.frozen 4
      have f5 := HW2.out.box.frozen 5
      simp only [aT, aS, aZ] at c4 c5
      clear r2 o2 hb2 hcp2 HGW e5
      obtain ⟨q1, d1, F1, rfl, rL, oL, hcp, hpt⟩ := HW2.out.grow.done2 HL.out.2.2
      have HE : Hid (RdL itK w2 q1 k x.sealed F1 ∧ Own (w.heap.size + 2) w2 F1 ∧ Capd q1 k d1 ∧ ∀ b ∈ F1, (Value.slice q1 k d1).ownBlock = some b ∨ b ∈ GG) := ⟨rL, oL, hcp, hpt⟩
      clear rL oL hcp hpt
      go_wp2_with (first | go_skip | (with_reducible refine stopLoad 25 rfl ?_))
      obtain ⟨w4, hw4⟩ : ∃ W, W = (w2.setCell ⟨w.heap.size, 4, none⟩ (.slice q1 k d1)).setCell ⟨w.heap.size, 5, none⟩ (.slice p2 l2 k2) := ⟨_, rfl⟩
      have nF : w.heap.size ∉ F1 := fun hx => by have := HE.out.2.1.ge _ hx; omega
      have nG : w.heap.size ∉ G2 := fun hx => by have := HG2.out.2.1.ge _ hx; have := HG2.out.2.2.2.2.2; omega
      have H4 : Hid (Blk w4 w.heap.size #[.int .i64 x.id, .int .i64 x.epoch, .bool x.live, .int .i64 x.granted, .slice q1 k d1, .slice p2 l2 k2, .int .i64 x.next] 25 ∧ Blk w4 (w.heap.size + 1) #[.int .i64 0, .int .i64 0, .bool false, .int .i64 0, .slice none 0 0, .slice none 0 0, .int .i64 0] 25 ∧ Below w.heap.size w w4 ∧ RdL itK w4 q1 k x.sealed F1 ∧ Own (w.heap.size + 2) w4 F1 ∧ RdP w4 p2 l2 x.taken G2 ∧ Own wr.heap.size w4 G2 ∧ GrowL itK 54 x.sealed (w.heap.size + 2) k (.slice q1 k d1) vs GG w4) := by
        rw [hw4]
        have agF := ((Agree.refl w2 F1).thenSet nF 4 (.slice q1 k d1)).thenSet nF 5 (.slice p2 l2 k2)
        have agG := ((Agree.refl w2 G2).thenSet nG 4 (.slice q1 k d1)).thenSet nG 5 (.slice p2 l2 k2)
        exact ⟨(HW2.out.box.set 4 _).set 5 _, (HW2.out.res.setOther (by omega) 4 _).setOther (by omega) 5 _, (HW2.out.bel.setCell (by show w.heap.size ≤ w.heap.size; omega) _).setCell (by show w.heap.size ≤ w.heap.size; omega) _, HE.out.1.agree agF, HE.out.2.1.agree agF, HG2.out.1.agree agG, HG2.out.2.1.agree agG, (HW2.out.grow.set (by omega)).set (by omega)⟩
      have HJ : Hid (Capd q1 k d1 ∧ Capd p2 l2 k2 ∧ (∀ b ∈ F1, b ∉ G2) ∧ (∀ b ∈ G2, ¬ (Value.slice q1 k d1).ownBlock = some b) ∧ (∀ b ∈ GG, b ∉ G2) ∧ w.heap.size + 2 ≤ wr.heap.size) := by
        refine ⟨HE.out.2.2.1, HG2.out.2.2.1, fun b hb hx => ?_, fun b hb e => ?_, fun b hb hx => ?_, HG2.out.2.2.2.2.2⟩
        · have h1 := HG2.out.2.1.ge b hx
          rcases HE.out.2.2.2 b hb with q | q
          · have := HG2.out.2.2.2.2.1 b q; omega
          · have := HG2.out.2.2.2.1 b q; omega
        · have h1 := HG2.out.2.1.ge b hb; have h2 := HG2.out.2.2.2.2.1 b e; omega
        · have h1 := HG2.out.2.1.ge b hx; have h2 := HG2.out.2.2.2.1 b hb; omega
      rw [← hw4]
      clear hw4 nF nG c4 c5 f4 f5 HW2 HG2 HE
      refine load_known 25 w.heap.size _ 25 _ H4.out.1 rfl rfl rfl Try.underlying25 rfl infoAgP8 ?_
      go_wp2_with (first | go_skip | (with_reducible refine stopStore 25 rfl ?_))
      refine store_known 25 (w.heap.size + 1) _ #[.int .i64 x.id, .int .i64 x.epoch, .bool x.live, .int .i64 x.granted, .slice q1 k d1, .slice p2 l2 k2, .int .i64 x.next] 25 H4.out.2.1 rfl rfl rfl rfl infoAgP8 rfl (by simp [Value.oneCell']) ?_
      go_wp2
      refine bodyPost_ret (results_cell_row Try.results53 _ _ (w.heap.size + 1) _ _ (0, 0) _ rfl H4.out.2.1.setRow Try.underlying25 rfl infoAgP8) rfl ?_
      have nr : w.heap.size + 1 ∉ F1 := fun hx => by have := H4.out.2.2.2.2.1.ge _ hx; omega
      have mr : w.heap.size + 1 ∉ G2 := fun hx => by have := H4.out.2.2.2.2.2.2.1.ge _ hx; have := HJ.out.2.2.2.2.2; omega
      have hk' := HL.out.2.2
      subst hk'
      exact ⟨q1, d1, p2, l2, k2, F1, G2, w.heap.size + 2, vs, GG, rfl, H4.out.2.2.2.1.agree (Agree.row nr _), H4.out.2.2.2.2.2.1.agree (Agree.row mr _), HJ.out.1, HJ.out.2.1, (H4.out.2.2.2.2.1.agree (Agree.row nr _)).mono (by omega), (H4.out.2.2.2.2.2.2.1.agree (Agree.row mr _)).mono (by have := HJ.out.2.2.2.2.2; omega), HJ.out.2.2.1, below_setRow H4.out.2.2.1 (by omega) _, H4.out.2.2.2.2.2.2.2.setRow (by omega), by omega, HJ.out.2.2.2.1, HJ.out.2.2.2.2.1⟩
set_option maxRecDepth 200000 in
theorem copiedAgent_any (v : Value) (x : Ag) (F0 G0 : List Nat) (w : World) (h : RdAg w v x F0 G0) (hf : ∀ y ∈ x.sealed, y.sk.fits) (hs : x.sealed.length ≤ 1048576) (hp : x.taken.length ≤ 1048576) :
    Calls Try.prog 53 #[v] w fun e w' => NewAg w x e w' := (copiedAgent_grow v x F0 G0 w h hf hs hp).mono fun _ _ h => h.plain
end Go.Proofs.Ytjndcfamfminkar
/- An entry as the program holds it, in memory. No statement of the seat is proved here. -/
namespace Go.Proofs.Ytjndcfamfminkar
open Go.RowKit
theorem wrapI {n : Int} (h : -9223372036854775808 ≤ n ∧ n ≤ 9223372036854775807) : IntKind.i64.wrap n = n := by
  simp [IntKind.wrap, IntKind.bits, IntKind.signed]
  omega
end Go.Proofs.Ytjndcfamfminkar
/- What the walks through the model's Seal and the program's share. No statement of the seat is proved here. -/
namespace Go.Proofs.Ytjndcfamfminkar
open Go.RowKit
def Ag.item (x : Ag) (c k n : Int) (s : Sk) : It := ⟨(x.sealed.length : Int) + 1, c, k, n, s⟩
def Ag.plus (x : Ag) (y : It) : Ag := ⟨x.id, x.epoch, x.live, x.granted, x.sealed ++ [y], x.taken, x.next⟩
/-- An agent behind a Seal, and what it tells. -/
def Ag.seal (x : Ag) (c k n : Int) (s : Sk) : Ag × Int := if x.ok = true ∧ (x.item c k n s).ok = true then (x.plus (x.item c k n s), (x.sealed.length : Int) + 1) else (x, 0)
theorem itsOk_snoc (xs : List It) (y : It) (h : itsOk xs = true) (hs : y.seq = (xs.length : Int) + 1) : itsOk (xs ++ [y]) = y.ok := by
  cases e : y.ok
  · exact itsOk_not (k := xs.length) (y := y) (by simp) (.inl e)
  · refine itsOk_all (fun k z hz => ?_)
    by_cases hk : k < xs.length
    · rw [List.getElem?_append_left hk] at hz
      exact itsOk_at h hz
    · have h1 : k < (xs ++ [y]).length := (List.getElem?_eq_some_iff.1 hz).1
      have h2 : k = xs.length := by rw [List.length_append] at h1; simp at h1; omega
      subst h2
      rw [List.getElem?_append_right (Nat.le_refl _)] at hz
      simp at hz
      subst hz
      exact ⟨e, hs⟩
theorem Sp.under_mono {ps : Sp} {m m' : Int} (h : ps.under m = true) (hm : m ≤ m') : ps.under m' = true := by
  refine Sp.under_all (fun k hk => ?_)
  unfold Sp.under at h
  rw [List.all_eq_true] at h
  have := of_decide_eq_true (h k (List.mem_range.2 hk))
  omega
theorem Ag.plus_ok (x : Ag) (c k n : Int) (s : Sk) (h : x.ok = true) : (x.plus (x.item c k n s)).ok = (x.item c k n s).ok := by
  rw [Ag.ok_prog] at h
  rw [Ag.ok_prog]
  simp only [Bool.and_eq_true] at h
  obtain ⟨⟨⟨⟨⟨h1, h2⟩, h3⟩, h4⟩, h5⟩, h6, h7, h8⟩ := h
  show (decide (0 ≤ x.id ∧ x.id ≤ 2) && decide (0 ≤ x.epoch ∧ x.epoch ≤ 1000) && decide (0 ≤ x.granted ∧ x.granted ≤ 60) && decide (0 ≤ x.next ∧ x.next ≤ 60) && (x.live || decide (x.granted ≤ 0)) && (itsOk (x.sealed ++ [x.item c k n s]) && (x.taken.ok && x.taken.under (x.sealed ++ [x.item c k n s]).length))) = _
  rw [h1, h2, h3, h4, h5, h7, itsOk_snoc _ _ h6 rfl, Sp.under_mono h8 (by rw [List.length_append]; simp; try omega)]
  simp
section
variable {α : Type} {K : ElK α} {e : TypeId} {xs : List α} {lo k : Nat} {v : Value} {vs : List Value} {G : List Nat} {W W' : World}
/-- A list that has all of its elements may get one more. -/
theorem GrowL.extend (h : GrowL K e xs lo k v vs G W) (hk : xs.length = k) (z : α) : GrowL K e (xs ++ [z]) lo k v vs G W :=
  ⟨h.row, by rw [List.take_append_of_le_length (by omega)]; exact h.rd, h.og, h.ap, h.lw⟩
end
theorem NewAgG.apart {w : World} {x : Ag} {e : Ending} {w' : World} (h : NewAgG w x e w') : NewAgH w x e w' := by
  obtain ⟨q1, k1, q2, l2, k2, F, G, lo, vs, GG, he, r1, r2, c1, c2, o1, o2, ap, b, g, hlo, hG⟩ := h
  exact ⟨q1, k1, q2, l2, k2, F, G, lo, vs, GG, he, r1, r2, c1, c2, o1, o2, ap, b, g, hlo, fun y hy e => by have := (g.row.lt y e).1; have := hG y hy; omega, fun y hy hx => by have := g.og.ge y hy; have := hG y hx; omega⟩
/-- A copy of an agent whose list may get one more; L: behind it all is newer. -/
structure SealC (B L lo n1 : Nat) (x : Ag) (q1 : Option Addr) (k1 : Nat) (q2 : Option Addr) (l2 k2 : Nat) (F G GG : List Nat) (vs : List Value) (W : World) : Prop where
  len : x.sealed.length = n1
  rl : RdL itK W q1 n1 x.sealed F
  rp : RdP W q2 l2 x.taken G
  cp1 : Capd q1 n1 k1
  cp2 : Capd q2 l2 k2
  oF : Own B W F
  oG : Own B W G
  ap : ∀ b ∈ F, b ∉ G
  gr : GrowL itK 54 x.sealed lo n1 (.slice q1 n1 k1) vs GG W
  hlo : B ≤ lo
  g1 : ∀ b ∈ G, ¬ (Value.slice q1 n1 k1).ownBlock = some b
  g2 : ∀ b ∈ GG, b ∉ G
  l1 : ∀ b ∈ F, b < L
  l2' : ∀ b ∈ G, b < L
  l3 : ∀ b ∈ GG, b < L
  l4 : ∀ b, (Value.slice q1 n1 k1).ownBlock = some b → b < L
  l5 : lo ≤ L
theorem SealC.below {B L lo n1 : Nat} {x : Ag} {q1 : Option Addr} {k1 : Nat} {q2 : Option Addr} {l2 k2 : Nat} {F G GG : List Nat} {vs : List Value} {W W' : World} (h : SealC B L lo n1 x q1 k1 q2 l2 k2 F G GG vs W) (b : Below W.heap.size W W') : SealC B L lo n1 x q1 k1 q2 l2 k2 F G GG vs W' :=
  ⟨h.len, h.rl.below b, h.rp.below b, h.cp1, h.cp2, h.oF.below h.rl.lt b, h.oG.below h.rp.lt b, h.ap, h.gr.below b, h.hlo, h.g1, h.g2, h.l1, h.l2', h.l3, h.l4, h.l5⟩
theorem NewAgH.at {w : World} {x : Ag} {e : Ending} {w' : World} {n1 : Nat} (h : NewAgH w x e w') (hn : x.sealed.length = n1) : ∃ (q1 : Option Addr) (k1 : Nat) (q2 : Option Addr) (l2 k2 : Nat) (F G GG : List Nat) (lo : Nat) (vs : List Value),
    e = .returned (.agg #[.int .i64 x.id, .int .i64 x.epoch, .bool x.live, .int .i64 x.granted, .slice q1 n1 k1, .slice q2 l2 k2, .int .i64 x.next]) ∧ SealC w.heap.size w'.heap.size lo n1 x q1 k1 q2 l2 k2 F G GG vs w' ∧ Below w.heap.size w w' := by
  subst hn
  obtain ⟨q1, k1, q2, l2, k2, F, G, lo, vs, GG, he, r1, r2, c1, c2, o1, o2, ap, b, g, hlo, h1, h2⟩ := h
  exact ⟨q1, k1, q2, l2, k2, F, G, GG, lo, vs, he, ⟨rfl, r1, r2, c1, c2, o1, o2, ap, g, hlo, h1, h2, r1.lt, r2.lt, g.lts.1, g.lts.2.1, g.lts.2.2⟩, b⟩
/-- What a Seal has before it: the agent, the summary, the result's place. -/
structure SealW (w : World) (A S : Array Value) (W : World) : Prop where
  box : Blk W w.heap.size A 25
  sk : Blk W (w.heap.size + 1) S 44
  res : Blk W (w.heap.size + 1 + 1) #[.int .i64 0, .int .i64 0, .bool false, .int .i64 0, .slice none 0 0, .slice none 0 0, .int .i64 0] 25
  bel : Below w.heap.size w W
theorem SealW.below {w W W' : World} {A S : Array Value} (h : SealW w A S W) (b : Below W.heap.size W W') : SealW w A S W' := ⟨h.box.below b, h.sk.below b, h.res.below b, Below.next h.bel b⟩
theorem SealW.made (w : World) (A S : Array Value) : SealW w A S (((w.alloc (.cells A 25)).alloc (.cells S 44)).alloc (.cells #[.int .i64 0, .int .i64 0, .bool false, .int .i64 0, .slice none 0 0, .slice none 0 0, .int .i64 0] 25)) :=
  ⟨((Blk.made _ _ _).alloc _).alloc _, (Blk.made_eq (by simp)).alloc _, Blk.made_eq (by simp), Below.allocW _ (Below.allocW _ (Below.allocW _ (Below.refl _ _) (Nat.le_refl _)) (Nat.le_refl _)) (Nat.le_refl _)⟩
theorem SealW.kept {w W W' : World} {A S : Array Value} (h : SealW w A S W) (hk : ∀ b, b < w.heap.size + 3 → W'.heap[b]? = W.heap[b]?) (hs : W.heap.size ≤ W'.heap.size) (hb : Below w.heap.size w W') : SealW w A S W' := by
  have _ := hs
  exact ⟨h.box.agree (hk _ (by omega)), h.sk.agree (hk _ (by omega)), h.res.agree (hk _ (by omega)), hb⟩
/-- .. and the copy in a variable at L. -/
structure SealL (w : World) (A S : Array Value) (B L lo n1 : Nat) (x : Ag) (q1 : Option Addr) (k1 : Nat) (q2 : Option Addr) (l2 k2 : Nat) (F G GG : List Nat) (vs : List Value) (W : World) : Prop where
  base : SealW w A S W
  loc : Blk W L #[.int .i64 x.id, .int .i64 x.epoch, .bool x.live, .int .i64 x.granted, .slice q1 n1 k1, .slice q2 l2 k2, .int .i64 x.next] 25
  c : SealC B L lo n1 x q1 k1 q2 l2 k2 F G GG vs W
  gB : w.heap.size + 3 ≤ B
  gL : B ≤ L
theorem SealL.below {w : World} {A S : Array Value} {B L lo n1 : Nat} {x : Ag} {q1 : Option Addr} {k1 : Nat} {q2 : Option Addr} {l2 k2 : Nat} {F G GG : List Nat} {vs : List Value} {W W' : World} (h : SealL w A S B L lo n1 x q1 k1 q2 l2 k2 F G GG vs W) (b : Below W.heap.size W W') : SealL w A S B L lo n1 x q1 k1 q2 l2 k2 F G GG vs W' := ⟨h.base.below b, h.loc.below b, h.c.below b, h.gB, h.gL⟩
/-- .. and behind the append. -/
structure SealD (w : World) (A S : Array Value) (L : Nat) (C : Array Value) (y : Ag) (F G : List Nat) (W : World) : Prop where
  base : SealW w A S W
  loc : Blk W L C 25
  rd : RdAg W (.agg C) y F G
  oF : Own (w.heap.size + 3) W F
  oG : Own (w.heap.size + 3) W G
  ap : ∀ b ∈ F, b ∉ G
  gL : w.heap.size + 3 ≤ L
theorem SealD.below {w : World} {A S : Array Value} {L : Nat} {C : Array Value} {y : Ag} {F G : List Nat} {W W' : World} (h : SealD w A S L C y F G W) (b : Below W.heap.size W W') : SealD w A S L C y F G W' :=
  ⟨h.base.below b, h.loc.below b, h.rd.below b, h.oF.below h.rd.lt1 b, h.oG.below h.rd.lt2 b, h.ap, h.gL⟩
theorem SealL.done {w : World} {A S : Array Value} {B L lo n1 : Nat} {x : Ag} {q1 : Option Addr} {k1 : Nat} {q2 : Option Addr} {l2 k2 : Nat} {F G GG : List Nat} {vs : List Value} {W W' : World} (h : SealL w A S B L lo n1 x q1 k1 q2 l2 k2 F G GG vs W) {y : It} {cs : Array Value} {Fk : List Nat} {g4 cp4 : Nat}
    (rk : RdIt W (.agg cs) y Fk) (hn : cs.size = 11) (ok : Own (L + 1) W Fk)
    (hown : W'.ownsRow lo 54 11 (.slice (some ⟨g4, 0, none⟩) (n1 + 1) cp4) (n1 + 1) (vs ++ cs.toList)) (hgrow : W.grownBy W' (Value.slice q1 n1 k1).ownBlock) (hat : (Value.slice q1 n1 k1).ownBlock = some g4 ∨ g4 = W.heap.size) :
    SealW w A S W' ∧ Blk W' L #[.int .i64 x.id, .int .i64 x.epoch, .bool x.live, .int .i64 x.granted, .slice q1 n1 k1, .slice q2 l2 k2, .int .i64 x.next] 25 ∧ ∃ F', SealD w A S L #[.int .i64 x.id, .int .i64 x.epoch, .bool x.live, .int .i64 x.granted, .slice (some ⟨g4, 0, none⟩) (n1 + 1) cp4, .slice q2 l2 k2, .int .i64 x.next] (x.plus y) F' G (W'.setCell ⟨L, 4, none⟩ (.slice (some ⟨g4, 0, none⟩) (n1 + 1) cp4)) := by
  have gB := h.gB; have gL := h.gL; have hlo := h.c.hlo; have l5 := h.c.l5
  have hLW := h.loc.lt
  have hx : (x.sealed ++ [y])[n1]? = some y := by rw [← h.c.len]; simp
  have g0 := h.c.gr.extend h.c.len y
  have g1 := g0.step hx rk hn ok (fun b hb => by have := h.c.l3 b hb; omega) (fun b hb => by have := h.c.l4 b hb; omega) (by omega) hown hgrow hat
  obtain ⟨q, cp, F', e, r, o, cpd, pt⟩ := g1.done2 (by rw [List.length_append, h.c.len]; rfl)
  injection e with e1 e2 e3
  subst e1; subst e3
  have kp : ∀ b, b < W.heap.size → ¬ (Value.slice q1 n1 k1).ownBlock = some b → W'.heap[b]? = W.heap[b]? := fun b hb hq => hgrow.block b hb (fun e => hq e.symm)
  have lw : ∀ b, b < lo → W'.heap[b]? = W.heap[b]? := fun b hb => h.c.gr.other hgrow hb
  have bel : Below w.heap.size w W' := h.base.bel.grown hgrow h.base.bel.size (fun b hb => by have := (h.c.gr.row.lt b hb).1; omega)
  have base : SealW w A S W' := h.base.kept (fun b hb => lw b (by omega)) hgrow.size bel
  have loc : Blk W' L #[.int .i64 x.id, .int .i64 x.epoch, .bool x.live, .int .i64 x.granted, .slice q1 n1 k1, .slice q2 l2 k2, .int .i64 x.next] 25 := h.loc.agree (kp L hLW (fun e => by have := h.c.l4 L e; omega))
  have agG : Agree W W' G := fun b hb => kp b (h.c.rp.lt b hb) (h.c.g1 b hb)
  have hF : ∀ b ∈ F', b ∉ G ∧ b ≠ L := fun b hb => by
    rcases pt b hb with q | q
    · have hb' : b = g4 := by simpa [Value.ownBlock] using q.symm
      subst hb'
      rcases hat with q | q
      · exact ⟨fun hg => h.c.g1 b hg q, fun e => by have := h.c.l4 b q; omega⟩
      · exact ⟨fun hg => by have := h.c.rp.lt b hg; omega, by omega⟩
    · rcases List.mem_append.1 q with q | q
      · exact ⟨h.c.g2 b q, fun e => by have := h.c.l3 b q; omega⟩
      · exact ⟨fun hg => by have := ok.ge b q; have := h.c.l2' b hg; omega, fun e => by have := ok.ge b q; omega⟩
  have nF : L ∉ F' := fun hx => (hF L hx).2 rfl
  have nG : L ∉ G := fun hx => by have := h.c.l2' L hx; omega
  have aF := (Agree.refl W' F').thenSet nF 4 (.slice (some ⟨g4, 0, none⟩) (n1 + 1) cp4)
  have aG := agG.thenSet nG 4 (.slice (some ⟨g4, 0, none⟩) (n1 + 1) cp4)
  refine ⟨base, loc, F', ⟨⟨base.box.setOther (by omega) 4 _, base.sk.setOther (by omega) 4 _, base.res.setOther (by omega) 4 _, bel.setCell (by show w.heap.size ≤ L; omega) _⟩, loc.set 4 _, ?_, (o.agree aF).mono (by omega), (h.c.oG.agree aG).mono (by omega), fun b hb => (hF b hb).1, by omega⟩⟩
  exact ⟨_, _, _, _, _, _, rfl, r.agree aF, h.c.rp.agree aG, cpd, h.c.cp2⟩
end Go.Proofs.Ytjndcfamfminkar
/- The walk through the model's Seal. No statement of the seat is proved here. -/
namespace Go.Proofs.Ytjndcfamfminkar
open Go.RowKit
theorem infoAgQSpec : (Try.prog.info? 25).map (·.size) = some 7 := by kernel_rfl
theorem infoSkQSpec : (Try.prog.info? 44).map (·.size) = some 7 := by kernel_rfl
theorem infoItsQSpec : (Try.prog.info? 54).map (fun i => (i.zero, i.size, i.bytes)) = some (some (.agg #[.int .i64 0, .int .i64 0, .int .i64 0, .int .i64 0, .int .i64 0, .int .i64 0, .int .i64 0, .int .i64 0, .slice none 0 0, .slice none 0 0, .slice none 0 0]), 11, 136) := by kernel_rfl
set_option maxRecDepth 200000 in
set_option maxHeartbeats 8000000 in
theorem sealSpec_any (v u : Value) (x : Ag) (c k n : Int) (s : Sk) (F0 G0 H0 : List Nat) (w : World) (h : RdAg w v x F0 G0) (hu : RdSk w u s H0) (hf : ∀ y ∈ x.sealed, y.sk.fits) (hs : x.sealed.length ≤ 1048576) (hl : x.taken.length ≤ 1048576) (hsf : s.fits) :
    Calls Try.prog 15 #[v, .int .i64 c, .int .i64 k, .int .i64 n, u] w fun e w' => NewAg2 w (x.seal c k n s) e w' := by
  obtain ⟨j0, hj, hy0, hy1, hy2⟩ := info_parts infoItsQSpec
  obtain ⟨a1, n1, c1, a2, n2, c2, rfl, hL, hP, hc1, hc2⟩ := h
  obtain ⟨b1, m1, d1, b2, m2, d2, b3, m3, d3, rfl⟩ := hu.cells7
  have HX : Hid (RdAg w (.agg #[.int .i64 x.id, .int .i64 x.epoch, .bool x.live, .int .i64 x.granted, .slice a1 n1 c1, .slice a2 n2 c2, .int .i64 x.next]) x F0 G0 ∧ x.sealed.length = n1) := ⟨⟨a1, n1, c1, a2, n2, c2, rfl, hL, hP, hc1, hc2⟩, hL.length⟩
  have HU : Hid (RdSk w (.agg #[.int .i64 s.count, .int .i64 s.sum, .int .i64 s.min, .int .i64 s.max, .slice b1 m1 d1, .slice b2 m2 d2, .slice b3 m3 d3]) s H0 ∧ s.fits) := ⟨hu, hsf⟩
  have HF : Hid ((∀ y ∈ x.sealed, y.sk.fits) ∧ x.sealed.length ≤ 1048576 ∧ x.taken.length ≤ 1048576) := ⟨hf, hs, hl⟩
  have hn1 : n1 ≤ 1048576 := by rw [← hL.length]; exact hs
  have HI : Hid (x.item c k n s = ⟨(n1 : Int) + 1, c, k, n, s⟩ ∧ (x.sealed.length : Int) + 1 = (n1 : Int) + 1) := ⟨by unfold Ag.item; rw [hL.length], by rw [hL.length]⟩
  clear hL hP hc1 hc2 hu hsf hf hs hl
  have HB0 : Hid (SealW w #[.int .i64 x.id, .int .i64 x.epoch, .bool x.live, .int .i64 x.granted, .slice a1 n1 c1, .slice a2 n2 c2, .int .i64 x.next] #[.int .i64 s.count, .int .i64 s.sum, .int .i64 s.min, .int .i64 s.max, .slice b1 m1 d1, .slice b2 m2 d2, .slice b3 m3 d3] (((w.alloc (.cells #[.int .i64 x.id, .int .i64 x.epoch, .bool x.live, .int .i64 x.granted, .slice a1 n1 c1, .slice a2 n2 c2, .int .i64 x.next] 25)).alloc (.cells #[.int .i64 s.count, .int .i64 s.sum, .int .i64 s.min, .int .i64 s.max, .slice b1 m1 d1, .slice b2 m2 d2, .slice b3 m3 d3] 44)).alloc (.cells #[.int .i64 0, .int .i64 0, .bool false, .int .i64 0, .slice none 0 0, .slice none 0 0, .int .i64 0] 25))) := SealW.made _ _ _
  go_enter Try.func15, Try.ntmps15
  go_wp2_with (first | go_skip | (with_reducible refine stopLoad 25 rfl ?_))
  obtain ⟨W0, hW0⟩ : ∃ W, W = ((w.alloc (.cells #[.int .i64 x.id, .int .i64 x.epoch, .bool x.live, .int .i64 x.granted, .slice a1 n1 c1, .slice a2 n2 c2, .int .i64 x.next] 25)).alloc (.cells #[.int .i64 s.count, .int .i64 s.sum, .int .i64 s.min, .int .i64 s.max, .slice b1 m1 d1, .slice b2 m2 d2, .slice b3 m3 d3] 44)).alloc (.cells #[.int .i64 0, .int .i64 0, .bool false, .int .i64 0, .slice none 0 0, .slice none 0 0, .int .i64 0] 25) := ⟨_, rfl⟩
  rw [← hW0] at HB0 ⊢
  clear hW0
  refine load_known 25 w.heap.size _ 25 _ HB0.out.box rfl rfl rfl Try.underlying25 rfl infoAgQSpec ?_
  go_wp2_with fail
  refine (agentOkSpec_any _ x F0 G0 _ (HX.out.1.below HB0.out.bel) (fun y hy => (HF.out.1 y hy).wide) (by have := HF.out.2.1; omega) (by have := HF.out.2.2; omega)).mono ?_
  rintro e w1 ⟨rfl, hb1⟩
  have HB1 : Hid (SealW w #[.int .i64 x.id, .int .i64 x.epoch, .bool x.live, .int .i64 x.granted, .slice a1 n1 c1, .slice a2 n2 c2, .int .i64 x.next] #[.int .i64 s.count, .int .i64 s.sum, .int .i64 s.min, .int .i64 s.max, .slice b1 m1 d1, .slice b2 m2 d2, .slice b3 m3 d3] w1) := HB0.out.below hb1
  obtain ⟨d, hd⟩ : ∃ d, d = x.ok := ⟨_, rfl⟩
  rw [← hd]
  have HD : Hid (d = x.ok) := hd
  clear hb1 hd HB0
  cases d
  · have HV : Hid (x.seal c k n s = (x, 0)) := by show _ = _; unfold Ag.seal; rw [← HD.out]; rfl
    go_wp2_with (first | go_skip | (with_reducible refine stopLoad 25 rfl ?_))
    refine load_known 25 w.heap.size _ 25 _ HB1.out.box rfl rfl rfl Try.underlying25 rfl infoAgQSpec ?_
    go_wp2_with fail
    refine (l8Copy_any _ x F0 G0 _ (HX.out.1.below HB1.out.bel) HF.out.1 HF.out.2.1 HF.out.2.2).mono ?_
    rintro e w8 ⟨v8, F8, G8, rfl, r8, o8, p8, ap8, hb8⟩
    obtain ⟨cs8, rfl, hz8, ho8⟩ := r8.cells
    have H8 : Hid (SealW w #[.int .i64 x.id, .int .i64 x.epoch, .bool x.live, .int .i64 x.granted, .slice a1 n1 c1, .slice a2 n2 c2, .int .i64 x.next] #[.int .i64 s.count, .int .i64 s.sum, .int .i64 s.min, .int .i64 s.max, .slice b1 m1 d1, .slice b2 m2 d2, .slice b3 m3 d3] w8 ∧ RdAg w8 (.agg cs8) x F8 G8 ∧ Own (w.heap.size + 3) w8 F8 ∧ Own (w.heap.size + 3) w8 G8 ∧ (∀ b ∈ F8, b ∉ G8)) := ⟨HB1.out.below hb8, r8, o8.mono (by have := HB1.out.res.lt; omega), p8.mono (by have := HB1.out.res.lt; omega), ap8⟩
    clear r8 o8 p8 ap8 hb8
    go_wp2_with (first | go_skip | (with_reducible refine stopStore 25 rfl ?_))
    refine store_known 25 (w.heap.size + 1 + 1) _ cs8 25 H8.out.1.res rfl rfl rfl rfl (by rw [hz8]; exact infoAgQSpec) (by rw [hz8]; rfl) ho8 ?_
    go_wp2
    refine bodyPost_ret (results_row_tmp Try.results15 _ _ (w.heap.size + 1 + 1) _ _ _ _ rfl H8.out.1.res.setRow Try.underlying25 rfl (by rw [hz8]; exact infoAgQSpec)) rfl ?_
    have nr : w.heap.size + 1 + 1 ∉ F8 := fun hx => by have := H8.out.2.2.1.ge _ hx; omega
    have mr : w.heap.size + 1 + 1 ∉ G8 := fun hx => by have := H8.out.2.2.2.1.ge _ hx; omega
    rw [HV.out]
    exact ⟨_, F8, G8, _, rfl, H8.out.2.1.agree (Agree.row nr _) (Agree.row mr _), rfl, (H8.out.2.2.1.agree (Agree.row nr _)).mono (by omega), (H8.out.2.2.2.1.agree (Agree.row mr _)).mono (by omega), H8.out.2.2.2.2, below_setRow H8.out.1.bel (by omega) _⟩
  have HD1 : Hid (x.ok = true) := HD.out.symm
  clear HD
  go_wp2_with (first | go_skip | (with_reducible refine stopLoad 25 rfl ?_))
  refine load_known 25 w.heap.size _ 25 _ HB1.out.box rfl rfl rfl Try.underlying25 rfl infoAgQSpec ?_
  go_wp2_with fail
  refine (l8Copy_grow _ x F0 G0 _ (HX.out.1.below HB1.out.bel) HF.out.1 HF.out.2.1 HF.out.2.2).mono ?_
  intro e w2 hnew
  obtain ⟨q1, k1, q2, l2, k2, F, G, GG, lo, vs, rfl, hsc, hb2⟩ := hnew.apart.at HX.out.2
  have HC2 : Hid (SealW w #[.int .i64 x.id, .int .i64 x.epoch, .bool x.live, .int .i64 x.granted, .slice a1 n1 c1, .slice a2 n2 c2, .int .i64 x.next] #[.int .i64 s.count, .int .i64 s.sum, .int .i64 s.min, .int .i64 s.max, .slice b1 m1 d1, .slice b2 m2 d2, .slice b3 m3 d3] w2 ∧ SealC w1.heap.size w2.heap.size lo n1 x q1 k1 q2 l2 k2 F G GG vs w2 ∧ w.heap.size + 3 ≤ w1.heap.size ∧ w1.heap.size ≤ w2.heap.size) := ⟨HB1.out.below hb2, hsc, HB1.out.res.lt, hb2.size⟩
  obtain ⟨B, hB⟩ : ∃ B, B = w1.heap.size := ⟨_, rfl⟩
  rw [← hB] at HC2
  clear hnew hsc hb2 HB1 hB
  go_wp2_with (first | go_skip | (with_reducible refine stopStore 25 rfl ?_))
  refine store_fresh 25 w2.heap.size rfl #[.int .i64 0, .int .i64 0, .bool false, .int .i64 0, .slice none 0 0, .slice none 0 0, .int .i64 0] #[.int .i64 x.id, .int .i64 x.epoch, .bool x.live, .int .i64 x.granted, .slice q1 n1 k1, .slice q2 l2 k2, .int .i64 x.next] 25 rfl rfl rfl rfl infoAgQSpec rfl (by simp [Value.oneCell']) ?_
  intro w3 hg3 hb3
  have HL3 : Hid (SealL w #[.int .i64 x.id, .int .i64 x.epoch, .bool x.live, .int .i64 x.granted, .slice a1 n1 c1, .slice a2 n2 c2, .int .i64 x.next] #[.int .i64 s.count, .int .i64 s.sum, .int .i64 s.min, .int .i64 s.max, .slice b1 m1 d1, .slice b2 m2 d2, .slice b3 m3 d3] B w2.heap.size lo n1 x q1 k1 q2 l2 k2 F G GG vs w3) := ⟨HC2.out.1.below hb3, hg3, HC2.out.2.1.below hb3, HC2.out.2.2.1, HC2.out.2.2.2⟩
  obtain ⟨L, hL⟩ : ∃ L, L = w2.heap.size := ⟨_, rfl⟩
  rw [← hL] at HL3 ⊢
  clear hg3 hb3 HC2 hL
  go_wp2_with fail
  have HLd : Hid (SealL w #[.int .i64 x.id, .int .i64 x.epoch, .bool x.live, .int .i64 x.granted, .slice a1 n1 c1, .slice a2 n2 c2, .int .i64 x.next] #[.int .i64 s.count, .int .i64 s.sum, .int .i64 s.min, .int .i64 s.max, .slice b1 m1 d1, .slice b2 m2 d2, .slice b3 m3 d3] B L lo n1 x q1 k1 q2 l2 k2 F G GG vs w3.drew) := HL3.out.below (Below.refl _ _).drew
  obtain ⟨Y0, hY0⟩ : ∃ Y, Y = w3.drew := ⟨_, rfl⟩
  rw [← hY0] at HLd
  clear HL3
  refine wp_region_held (S := SealW w #[.int .i64 x.id, .int .i64 x.epoch, .bool x.live, .int .i64 x.granted, .slice a1 n1 c1, .slice a2 n2 c2, .int .i64 x.next] #[.int .i64 s.count, .int .i64 s.sum, .int .i64 s.min, .int .i64 s.max, .slice b1 m1 d1, .slice b2 m2 d2, .slice b3 m3 d3]) (by kernel_rfl) ?_
  change wpAnyH _ _ _ _ _ _ _ _ (World.drew _)
  rw [← hY0]
  clear hY0
  refine takeH (o := ?o1) 0 (.pointer (some ⟨L, 4, none⟩)) ?h1 ?r1
  case h1 => simp only [aT, aZ]; rfl
  refine ⟨_, by simp [Act.put]; rfl, by kernel_rfl, by kernel_rfl, by kernel_rfl, fun _ _ _ h => h, (.inl ⟨rfl, fun W _ => by kernel_rfl⟩), HLd.out.base, ?_⟩
  refine takeH (o := ?o2) 2 (.pointer (some ⟨w.heap.size, 4, none⟩)) ?h2 ?r2
  case h2 => simp only [aT, aS, aZ]; rfl
  refine ⟨_, by simp [Act.put]; rfl, by kernel_rfl, by kernel_rfl, by kernel_rfl, fun _ _ _ h => h, (.inl ⟨rfl, fun W _ => by kernel_rfl⟩), HLd.out.base, ?_⟩
  refine takeH (o := ?o3) 3 (.slice a1 n1 c1) ?h3 ?r3
  case h3 => simp only [aT, aS, aZ]; rfl
  refine ⟨_, by simp [Act.put]; rfl, by kernel_rfl, by kernel_rfl, by kernel_rfl, fun _ _ _ h => h, (.inl ⟨rfl, fun W hW => by have c := hW.box.cell 4; simp only [aT, aS, aZ] at c; go_simp⟩), HLd.out.base, ?_⟩
  refine takeH (o := ?o4) 4 (.int .i64 n1) ?h4 ?r4
  case h4 => simp only [aT, aS, aZ]; rfl
  refine ⟨_, by simp [Act.put]; rfl, by kernel_rfl, by kernel_rfl, by kernel_rfl, fun _ _ _ h => h, (.inl ⟨rfl, fun W _ => by go_simp⟩), HLd.out.base, ?_⟩
  refine takeH (o := ?o5) 5 (.int .i64 ((n1 : Int) + 1)) ?h5 ?r5
  case h5 => simp only [aT, aS, aZ]; rfl
  refine ⟨_, by simp [Act.put]; rfl, by kernel_rfl, by kernel_rfl, by kernel_rfl, fun _ _ _ h => h, (.inl ⟨rfl, fun W _ => by go_simp; exact wrapI (by omega)⟩), HLd.out.base, ?_⟩
  refine takeH (o := ?o6) 6 (.int .i64 c) ?h6 ?r6
  case h6 => simp only [aT, aS, aZ]; rfl
  refine ⟨_, by simp [Act.put]; rfl, by kernel_rfl, by kernel_rfl, by kernel_rfl, fun _ _ _ h => h, (.inl ⟨rfl, fun W _ => by kernel_rfl⟩), HLd.out.base, ?_⟩
  refine takeH (o := ?o7) 7 (.int .i64 k) ?h7 ?r7
  case h7 => simp only [aT, aS, aZ]; rfl
  refine ⟨_, by simp [Act.put]; rfl, by kernel_rfl, by kernel_rfl, by kernel_rfl, fun _ _ _ h => h, (.inl ⟨rfl, fun W _ => by kernel_rfl⟩), HLd.out.base, ?_⟩
  refine takeH (o := ?o8) 8 (.int .i64 n) ?h8 ?r8
  case h8 => simp only [aT, aS, aZ]; rfl
  refine ⟨_, by simp [Act.put]; rfl, by kernel_rfl, by kernel_rfl, by kernel_rfl, fun _ _ _ h => h, (.inl ⟨rfl, fun W _ => by kernel_rfl⟩), HLd.out.base, ?_⟩
  refine takeH (o := ?o9) 9 (.agg #[.int .i64 s.count, .int .i64 s.sum, .int .i64 s.min, .int .i64 s.max, .slice b1 m1 d1, .slice b2 m2 d2, .slice b3 m3 d3]) ?h9 ?r9
  case h9 => simp only [aT, aS, aZ]; rfl
  refine ⟨_, by simp [Act.put]; rfl, by kernel_rfl, by kernel_rfl, by kernel_rfl, fun _ _ _ h => h, (yields_whole 44 (w.heap.size + 1) #[.int .i64 s.count, .int .i64 s.sum, .int .i64 s.min, .int .i64 s.max, .slice b1 m1 d1, .slice b2 m2 d2, .slice b3 m3 d3] 44 _ rfl rfl rfl Try.underlying44 rfl infoSkQSpec (fun W hW => hW.sk)), HLd.out.base, ?_⟩
  refine twoH (o := ?o10) (o' := ?p10) 1 10 (by kernel_rfl) ?h10 ?g10 ?r10 ?s10
  case h10 => simp only [aT, aS, aZ]; rfl
  case g10 => simp only [aT, aS, aZ]; rfl
  case r10 =>
    intro K hK
    have co := HLd.out.loc.cell 4
    simp only [aT, aS, aZ] at co
    refine op_value (.slice q1 n1 k1) rfl (by go_simp) ⟨_, by simp [Act.put]; rfl, hK _ _ ⟨HLd.out.base, ?_⟩⟩
    clear hK co
    refine onlyH (o := ?o11) 10 (by kernel_rfl) ?h11 ?r11
    case h11 => simp only [aT, aS, aZ]; rfl
    intro K hK
    refine op_call1 48 _ _ Try.f48 (fun v w' => ∃ F, RdSk w' v s F ∧ Own Y0.heap.size w' F ∧ Below Y0.heap.size Y0 w') rfl rfl Try.func48 (by kernel_rfl) (by kernel_rfl) ((l3Copy_all (.agg #[.int .i64 s.count, .int .i64 s.sum, .int .i64 s.min, .int .i64 s.max, .slice b1 m1 d1, .slice b2 m2 d2, .slice b3 m3 d3]) s H0 Y0 (HU.out.1.below HLd.out.base.bel) HU.out.2).mono (by rintro e w' ⟨v, F, rfl, k1, k2, k3⟩; exact ⟨_, rfl, F, k1, k2, k3⟩)) ?_
    rintro vr Y1 ⟨Fr, rr, ro, rb⟩
    obtain ⟨u1, v1, y1, u2, v2, y2, u3, v3, y3, rfl⟩ := rr.cells7
    have RR1 : Hid (RdIt Y1 (.agg #[.int .i64 ((n1 : Int) + 1), .int .i64 c, .int .i64 k, .int .i64 n, .int .i64 s.count, .int .i64 s.sum, .int .i64 s.min, .int .i64 s.max, .slice u1 v1 y1, .slice u2 v2 y2, .slice u3 v3 y3]) ⟨(n1 : Int) + 1, c, k, n, s⟩ Fr ∧ Own (L + 1) Y1 Fr) := ⟨⟨u1, v1, y1, u2, v2, y2, u3, v3, y3, rfl, rr⟩, ro.mono HLd.out.loc.lt⟩
    have HL1 : Hid (SealL w #[.int .i64 x.id, .int .i64 x.epoch, .bool x.live, .int .i64 x.granted, .slice a1 n1 c1, .slice a2 n2 c2, .int .i64 x.next] #[.int .i64 s.count, .int .i64 s.sum, .int .i64 s.min, .int .i64 s.max, .slice b1 m1 d1, .slice b2 m2 d2, .slice b3 m3 d3] B L lo n1 x q1 k1 q2 l2 k2 F G GG vs Y1) := HLd.out.below rb
    refine ⟨_, by simp [Act.put]; rfl, hK _ _ ⟨HL1.out.base, ?_⟩⟩
    clear hK rr ro rb
    refine takeH (o := ?o12) 11 (.agg #[.int .i64 ((n1 : Int) + 1), .int .i64 c, .int .i64 k, .int .i64 n, .int .i64 s.count, .int .i64 s.sum, .int .i64 s.min, .int .i64 s.max, .slice u1 v1 y1, .slice u2 v2 y2, .slice u3 v3 y3]) ?h12 ?r12
    case h12 => simp only [aT, aS, aZ]; rfl
    refine ⟨_, by simp [Act.put]; rfl, by kernel_rfl, by kernel_rfl, by kernel_rfl, fun _ _ _ h => h, (.inl ⟨rfl, fun W _ => by kernel_rfl⟩), HL1.out.base, ?_⟩
    refine onlyH (o := ?o13) 12 (by kernel_rfl) ?h13 ?r13
    case h13 => simp only [aT, aS, aZ]; rfl
    intro K hK
    have bl : Below Y1.heap.size Y1 (Y1.alloc (.cells #[.int .i64 ((n1 : Int) + 1), .int .i64 c, .int .i64 k, .int .i64 n, .int .i64 s.count, .int .i64 s.sum, .int .i64 s.min, .int .i64 s.max, .slice u1 v1 y1, .slice u2 v2 y2, .slice u3 v3 y3] 54)) := (Below.refl _ _).alloc (Nat.le_refl _) _
    have HL2 : Hid (SealL w #[.int .i64 x.id, .int .i64 x.epoch, .bool x.live, .int .i64 x.granted, .slice a1 n1 c1, .slice a2 n2 c2, .int .i64 x.next] #[.int .i64 s.count, .int .i64 s.sum, .int .i64 s.min, .int .i64 s.max, .slice b1 m1 d1, .slice b2 m2 d2, .slice b3 m3 d3] B L lo n1 x q1 k1 q2 l2 k2 F G GG vs (Y1.alloc (.cells #[.int .i64 ((n1 : Int) + 1), .int .i64 c, .int .i64 k, .int .i64 n, .int .i64 s.count, .int .i64 s.sum, .int .i64 s.min, .int .i64 s.max, .slice u1 v1 y1, .slice u2 v2 y2, .slice u3 v3 y3] 54))) := HL1.out.below bl
    have RR2 : Hid (RdIt (Y1.alloc (.cells #[.int .i64 ((n1 : Int) + 1), .int .i64 c, .int .i64 k, .int .i64 n, .int .i64 s.count, .int .i64 s.sum, .int .i64 s.min, .int .i64 s.max, .slice u1 v1 y1, .slice u2 v2 y2, .slice u3 v3 y3] 54)) (.agg #[.int .i64 ((n1 : Int) + 1), .int .i64 c, .int .i64 k, .int .i64 n, .int .i64 s.count, .int .i64 s.sum, .int .i64 s.min, .int .i64 s.max, .slice u1 v1 y1, .slice u2 v2 y2, .slice u3 v3 y3]) ⟨(n1 : Int) + 1, c, k, n, s⟩ Fr ∧ Own (L + 1) (Y1.alloc (.cells #[.int .i64 ((n1 : Int) + 1), .int .i64 c, .int .i64 k, .int .i64 n, .int .i64 s.count, .int .i64 s.sum, .int .i64 s.min, .int .i64 s.max, .slice u1 v1 y1, .slice u2 v2 y2, .slice u3 v3 y3] 54)) Fr) := ⟨RR1.out.1.below bl, RR1.out.2.below (RdIt.lt RR1.out.1) bl⟩
    have NW2 : Hid (∀ j u, #[.int .i64 ((n1 : Int) + 1), .int .i64 c, .int .i64 k, .int .i64 n, .int .i64 s.count, .int .i64 s.sum, .int .i64 s.min, .int .i64 s.max, .slice u1 v1 y1, .slice u2 v2 y2, .slice u3 v3 y3].toList[j]? = some u → ((Y1.alloc (.cells #[.int .i64 ((n1 : Int) + 1), .int .i64 c, .int .i64 k, .int .i64 n, .int .i64 s.count, .int .i64 s.sum, .int .i64 s.min, .int .i64 s.max, .slice u1 v1 y1, .slice u2 v2 y2, .slice u3 v3 y3] 54))).cell? ((⟨Y1.heap.size, 0, none⟩ : Addr).add j) = some u) := news_lit _ _ _
    refine op_turn (.slice (some ⟨Y1.heap.size, 0, none⟩) 1 1) (Y1.alloc (.cells #[.int .i64 ((n1 : Int) + 1), .int .i64 c, .int .i64 k, .int .i64 n, .int .i64 s.count, .int .i64 s.sum, .int .i64 s.min, .int .i64 s.max, .slice u1 v1 y1, .slice u2 v2 y2, .slice u3 v3 y3] 54)) rfl (by kernel_rfl) ⟨_, by simp [Act.put]; rfl, hK _ _ ⟨HL2.out.base, ?_⟩⟩
    clear hK bl
    obtain ⟨L2, hL2⟩ : ∃ z, z = Y1.heap.size := ⟨_, rfl⟩
    obtain ⟨Y2, hY2⟩ : ∃ Z, Z = (Y1.alloc (.cells #[.int .i64 ((n1 : Int) + 1), .int .i64 c, .int .i64 k, .int .i64 n, .int .i64 s.count, .int .i64 s.sum, .int .i64 s.min, .int .i64 s.max, .slice u1 v1 y1, .slice u2 v2 y2, .slice u3 v3 y3] 54)) := ⟨_, rfl⟩
    rw [← hY2, ← hL2] at NW2
    rw [← hY2] at HL2 RR2 ⊢
    rw [← hL2]
    clear hY2 hL2
    refine onlyH (o := ?o14) 13 (by kernel_rfl) ?h14 ?r14
    case h14 => simp only [aT, aS, aZ]; rfl
    intro K hK
    refine op_append Y2 rfl _ _ 22 rfl lo 54 j0 (.agg #[.int .i64 0, .int .i64 0, .int .i64 0, .int .i64 0, .int .i64 0, .int .i64 0, .int .i64 0, .int .i64 0, .slice none 0 0, .slice none 0 0, .slice none 0 0]) 11 136 Try.underlying22 hj hy0 hy1 hy2 rfl (by decide) (.slice q1 n1 k1) n1 vs rfl HL2.out.c.gr.row ⟨L2, 0, none⟩ 1 1 #[.int .i64 ((n1 : Int) + 1), .int .i64 c, .int .i64 k, .int .i64 n, .int .i64 s.count, .int .i64 s.sum, .int .i64 s.min, .int .i64 s.max, .slice u1 v1 y1, .slice u2 v2 y2, .slice u3 v3 y3].toList rfl rfl NW2.out (by simp [Value.oneCell']) (by decide) (by unfold maxLen; omega) (by omega) HL2.out.c.gr.lw _ rfl ?_
    intro g4 cp4 Y3 hown hgrow hat _
    obtain ⟨ST1, ST2, F', ST3⟩ := HL2.out.done RR2.out.1 rfl RR2.out.2 hown hgrow hat
    have HL3 : Hid (SealW w #[.int .i64 x.id, .int .i64 x.epoch, .bool x.live, .int .i64 x.granted, .slice a1 n1 c1, .slice a2 n2 c2, .int .i64 x.next] #[.int .i64 s.count, .int .i64 s.sum, .int .i64 s.min, .int .i64 s.max, .slice b1 m1 d1, .slice b2 m2 d2, .slice b3 m3 d3] Y3 ∧ SealD w #[.int .i64 x.id, .int .i64 x.epoch, .bool x.live, .int .i64 x.granted, .slice a1 n1 c1, .slice a2 n2 c2, .int .i64 x.next] #[.int .i64 s.count, .int .i64 s.sum, .int .i64 s.min, .int .i64 s.max, .slice b1 m1 d1, .slice b2 m2 d2, .slice b3 m3 d3] L #[.int .i64 x.id, .int .i64 x.epoch, .bool x.live, .int .i64 x.granted, .slice (some ⟨g4, 0, none⟩) (n1 + 1) cp4, .slice q2 l2 k2, .int .i64 x.next] (x.plus ⟨(n1 : Int) + 1, c, k, n, s⟩) F' G (Y3.setCell ⟨L, 4, none⟩ (.slice (some ⟨g4, 0, none⟩) (n1 + 1) cp4))) := ⟨ST1, ST3⟩
    have co := ST2.cell 4
    have fo := ST2.frozen 4
    simp only [aT, aS, aZ] at co
    refine ⟨_, by simp [Act.put]; rfl, hK _ _ ⟨HL3.out.1, ?_⟩⟩
    clear hK hown hgrow hat ST1 ST2 ST3
    refine takeH (o := ?o15) 14 (.pointer (some ⟨L, 4, none⟩)) ?h15 ?r15
    case h15 => simp only [aT, aS, aZ]; rfl
    refine ⟨_, by simp [Act.put]; rfl, by kernel_rfl, by kernel_rfl, by kernel_rfl, fun _ _ _ h => h, (.inl ⟨rfl, fun W _ => by kernel_rfl⟩), HL3.out.1, ?_⟩
    refine onlyH (o := ?o16) 15 (by kernel_rfl) ?h16 ?r16
    case h16 => simp only [aT, aS, aZ]; rfl
    intro K hK
    refine op_skip (Y3.setCell ⟨L, 4, none⟩ (.slice (some ⟨g4, 0, none⟩) (n1 + 1) cp4)) rfl (by go_simp) ⟨_, by simp [Act.put]; rfl, hK _ _ ⟨HL3.out.2.base, ?_⟩⟩
    clear hK co fo
    refine wpAnyH_done (by kernel_rfl) ?_ _
    obtain ⟨w5, hw5⟩ : ∃ W, W = Y3.setCell ⟨L, 4, none⟩ (.slice (some ⟨g4, 0, none⟩) (n1 + 1) cp4) := ⟨_, rfl⟩
    have H5 : Hid (SealD w #[.int .i64 x.id, .int .i64 x.epoch, .bool x.live, .int .i64 x.granted, .slice a1 n1 c1, .slice a2 n2 c2, .int .i64 x.next] #[.int .i64 s.count, .int .i64 s.sum, .int .i64 s.min, .int .i64 s.max, .slice b1 m1 d1, .slice b2 m2 d2, .slice b3 m3 d3] L #[.int .i64 x.id, .int .i64 x.epoch, .bool x.live, .int .i64 x.granted, .slice (some ⟨g4, 0, none⟩) (n1 + 1) cp4, .slice q2 l2 k2, .int .i64 x.next] (x.plus (x.item c k n s)) F' G w5) := by rw [HI.out.1, hw5]; exact HL3.out.2
    rw [← hw5]
    clear hw5 HL3
    go_wp2_with (first | go_skip | (with_reducible refine stopLoad 25 rfl ?_))
    refine load_known 25 L _ 25 _ H5.out.loc rfl rfl rfl Try.underlying25 rfl infoAgQSpec ?_
    go_wp2_with fail
    refine (agentOkSpec_any _ (x.plus (x.item c k n s)) F' G _ H5.out.rd (fun y hy => (List.mem_append.1 hy).elim (fun h => (HF.out.1 y h).wide) (fun h => by (obtain rfl : y = x.item c k n s := by simpa using h); exact HU.out.2.wide)) (by show (x.sealed ++ [x.item c k n s]).length ≤ _; rw [List.length_append]; have := HF.out.2.1; simp; omega) (by show x.taken.length ≤ _; have := HF.out.2.2; omega)).mono ?_
    rintro e w6 ⟨rfl, hb6⟩
    have H6 : Hid (SealD w #[.int .i64 x.id, .int .i64 x.epoch, .bool x.live, .int .i64 x.granted, .slice a1 n1 c1, .slice a2 n2 c2, .int .i64 x.next] #[.int .i64 s.count, .int .i64 s.sum, .int .i64 s.min, .int .i64 s.max, .slice b1 m1 d1, .slice b2 m2 d2, .slice b3 m3 d3] L #[.int .i64 x.id, .int .i64 x.epoch, .bool x.live, .int .i64 x.granted, .slice (some ⟨g4, 0, none⟩) (n1 + 1) cp4, .slice q2 l2 k2, .int .i64 x.next] (x.plus (x.item c k n s)) F' G w6) := H5.out.below hb6
    obtain ⟨d, hd⟩ : ∃ d, d = (x.plus (x.item c k n s)).ok := ⟨_, rfl⟩
    rw [← hd]
    have HD : Hid (d = (x.item c k n s).ok) := hd.trans (Ag.plus_ok x c k n s HD1.out)
    clear hb6 hd H5
    cases d
    · have HV : Hid (x.seal c k n s = (x, 0)) := by show _ = _; unfold Ag.seal; rw [← HD.out]; simp
      go_wp2_with (first | go_skip | (with_reducible refine stopLoad 25 rfl ?_))
      refine load_known 25 w.heap.size _ 25 _ H6.out.base.box rfl rfl rfl Try.underlying25 rfl infoAgQSpec ?_
      go_wp2_with fail
      refine (l8Copy_any _ x F0 G0 _ (HX.out.1.below H6.out.base.bel) HF.out.1 HF.out.2.1 HF.out.2.2).mono ?_
      rintro e w8 ⟨v8, F8, G8, rfl, r8, o8, p8, ap8, hb8⟩
      obtain ⟨cs8, rfl, hz8, ho8⟩ := r8.cells
      have H8 : Hid (SealW w #[.int .i64 x.id, .int .i64 x.epoch, .bool x.live, .int .i64 x.granted, .slice a1 n1 c1, .slice a2 n2 c2, .int .i64 x.next] #[.int .i64 s.count, .int .i64 s.sum, .int .i64 s.min, .int .i64 s.max, .slice b1 m1 d1, .slice b2 m2 d2, .slice b3 m3 d3] w8 ∧ RdAg w8 (.agg cs8) x F8 G8 ∧ Own (w.heap.size + 3) w8 F8 ∧ Own (w.heap.size + 3) w8 G8 ∧ (∀ b ∈ F8, b ∉ G8)) := ⟨H6.out.base.below hb8, r8, o8.mono (by have := H6.out.base.res.lt; omega), p8.mono (by have := H6.out.base.res.lt; omega), ap8⟩
      clear r8 o8 p8 ap8 hb8
      go_wp2_with (first | go_skip | (with_reducible refine stopStore 25 rfl ?_))
      refine store_known 25 (w.heap.size + 1 + 1) _ cs8 25 H8.out.1.res rfl rfl rfl rfl (by rw [hz8]; exact infoAgQSpec) (by rw [hz8]; rfl) ho8 ?_
      go_wp2
      refine bodyPost_ret (results_row_tmp Try.results15 _ _ (w.heap.size + 1 + 1) _ _ _ _ rfl H8.out.1.res.setRow Try.underlying25 rfl (by rw [hz8]; exact infoAgQSpec)) rfl ?_
      have nr : w.heap.size + 1 + 1 ∉ F8 := fun hx => by have := H8.out.2.2.1.ge _ hx; omega
      have mr : w.heap.size + 1 + 1 ∉ G8 := fun hx => by have := H8.out.2.2.2.1.ge _ hx; omega
      rw [HV.out]
      exact ⟨_, F8, G8, _, rfl, H8.out.2.1.agree (Agree.row nr _) (Agree.row mr _), rfl, (H8.out.2.2.1.agree (Agree.row nr _)).mono (by omega), (H8.out.2.2.2.1.agree (Agree.row mr _)).mono (by omega), H8.out.2.2.2.2, below_setRow H8.out.1.bel (by omega) _⟩
    have HV : Hid (x.seal c k n s = (x.plus (x.item c k n s), (n1 : Int) + 1)) := by show _ = _; unfold Ag.seal; rw [if_pos ⟨HD1.out, HD.out.symm⟩, HI.out.2]
    go_wp2_with fail
    have H7 : Hid (SealD w #[.int .i64 x.id, .int .i64 x.epoch, .bool x.live, .int .i64 x.granted, .slice a1 n1 c1, .slice a2 n2 c2, .int .i64 x.next] #[.int .i64 s.count, .int .i64 s.sum, .int .i64 s.min, .int .i64 s.max, .slice b1 m1 d1, .slice b2 m2 d2, .slice b3 m3 d3] L #[.int .i64 x.id, .int .i64 x.epoch, .bool x.live, .int .i64 x.granted, .slice (some ⟨g4, 0, none⟩) (n1 + 1) cp4, .slice q2 l2 k2, .int .i64 x.next] (x.plus (x.item c k n s)) F' G w6.drew) := H6.out.below (Below.refl _ _).drew
    obtain ⟨Z0, hZ0⟩ : ∃ Y, Y = w6.drew := ⟨_, rfl⟩
    rw [← hZ0] at H7
    clear H6 HD
    refine wp_region_held (S := fun W => Blk W L #[.int .i64 x.id, .int .i64 x.epoch, .bool x.live, .int .i64 x.granted, .slice (some ⟨g4, 0, none⟩) (n1 + 1) cp4, .slice q2 l2 k2, .int .i64 x.next] 25) (by kernel_rfl) ?_
    change wpAnyH _ _ _ _ _ _ _ _ (World.drew _)
    rw [← hZ0]
    clear hZ0
    refine takeH (o := ?o27x) 0 (.agg #[.int .i64 x.id, .int .i64 x.epoch, .bool x.live, .int .i64 x.granted, .slice (some ⟨g4, 0, none⟩) (n1 + 1) cp4, .slice q2 l2 k2, .int .i64 x.next]) ?h27x ?r27x
    case h27x => simp only [aT, aZ]; rfl
    refine ⟨_, by simp [Act.put]; rfl, by kernel_rfl, by kernel_rfl, by kernel_rfl, fun _ _ _ h => h, (yields_whole 25 L #[.int .i64 x.id, .int .i64 x.epoch, .bool x.live, .int .i64 x.granted, .slice (some ⟨g4, 0, none⟩) (n1 + 1) cp4, .slice q2 l2 k2, .int .i64 x.next] 25 _ rfl rfl rfl Try.underlying25 rfl infoAgQSpec (fun W hW => hW)), H7.out.loc, ?_⟩
    refine takeH (o := ?o28x) 1 (.pointer (some ⟨L, 4, none⟩)) ?h28x ?r28x
    case h28x => simp only [aT, aS, aZ]; rfl
    refine ⟨_, by simp [Act.put]; rfl, by kernel_rfl, by kernel_rfl, by kernel_rfl, fun _ _ _ h => h, (.inl ⟨rfl, fun W _ => by kernel_rfl⟩), H7.out.loc, ?_⟩
    refine takeH (o := ?o29x) 2 (.slice (some ⟨g4, 0, none⟩) (n1 + 1) cp4) ?h29x ?r29x
    case h29x => simp only [aT, aS, aZ]; rfl
    refine ⟨_, by simp [Act.put]; rfl, by kernel_rfl, by kernel_rfl, by kernel_rfl, fun _ _ _ h => h, (.inl ⟨rfl, fun W hW => by have c := hW.cell 4; simp only [aT, aS, aZ] at c; go_simp⟩), H7.out.loc, ?_⟩
    refine takeH (o := ?o30x) 3 (.int .i64 ((n1 + 1 : Nat) : Int)) ?h30x ?r30x
    case h30x => simp only [aT, aS, aZ]; rfl
    refine ⟨_, by simp [Act.put]; rfl, by kernel_rfl, by kernel_rfl, by kernel_rfl, fun _ _ _ h => h, (.inl ⟨rfl, fun W _ => by go_simp⟩), H7.out.loc, ?_⟩
    refine onlyH (o := ?o31x) 4 (by kernel_rfl) ?h31x ?r31x
    case h31x => simp only [aT, aS, aZ]; rfl
    intro K hK
    have gL := H7.out.gL
    refine op_store 25 (w.heap.size + 1 + 1) #[.int .i64 0, .int .i64 0, .bool false, .int .i64 0, .slice none 0 0, .slice none 0 0, .int .i64 0] #[.int .i64 x.id, .int .i64 x.epoch, .bool x.live, .int .i64 x.granted, .slice (some ⟨g4, 0, none⟩) (n1 + 1) cp4, .slice q2 l2 k2, .int .i64 x.next] 25 rfl rfl rfl rfl H7.out.base.res infoAgQSpec rfl (by simp [Value.oneCell']) ⟨_, by simp [Act.put]; rfl, hK _ _ ⟨H7.out.loc.setRowOther (by omega), ?_⟩⟩
    clear hK
    refine takeH (o := ?o32x) 5 (.int .i64 ((n1 + 1 : Nat) : Int)) ?h32x ?r32x
    case h32x => simp only [aT, aS, aZ]; rfl
    refine ⟨_, by simp [Act.put]; rfl, by kernel_rfl, by kernel_rfl, by kernel_rfl, fun _ _ _ h => h, (.inl ⟨rfl, fun W _ => by kernel_rfl⟩), (H7.out.loc.setRowOther (by omega)), ?_⟩
    refine wpAnyH_done (by kernel_rfl) ?_ _
    go_wp2
    refine bodyPost_ret (results_row_tmp Try.results15 _ _ (w.heap.size + 1 + 1) _ _ _ _ rfl H7.out.base.res.setRow Try.underlying25 rfl infoAgQSpec) rfl ?_
    have nr : w.heap.size + 1 + 1 ∉ F' := fun hx => by have := H7.out.oF.ge _ hx; omega
    have mr : w.heap.size + 1 + 1 ∉ G := fun hx => by have := H7.out.oG.ge _ hx; omega
    rw [HV.out]
    exact ⟨_, F', G, _, rfl, H7.out.rd.agree (Agree.row nr _) (Agree.row mr _), (by show (((n1 + 1 : Nat) : Int)) = (n1 : Int) + 1; omega), (H7.out.oF.agree (Agree.row nr _)).mono (by omega), (H7.out.oG.agree (Agree.row mr _)).mono (by omega), H7.out.ap, below_setRow H7.out.base.bel (by omega) _⟩
  case s10 =>
    intro K hK
    refine op_call1 48 _ _ Try.f48 (fun v w' => ∃ F, RdSk w' v s F ∧ Own Y0.heap.size w' F ∧ Below Y0.heap.size Y0 w') rfl rfl Try.func48 (by kernel_rfl) (by kernel_rfl) ((l3Copy_all (.agg #[.int .i64 s.count, .int .i64 s.sum, .int .i64 s.min, .int .i64 s.max, .slice b1 m1 d1, .slice b2 m2 d2, .slice b3 m3 d3]) s H0 Y0 (HU.out.1.below HLd.out.base.bel) HU.out.2).mono (by rintro e w' ⟨v, F, rfl, k1, k2, k3⟩; exact ⟨_, rfl, F, k1, k2, k3⟩)) ?_
    rintro vr Y4 ⟨Fr, rr, ro, rb⟩
    obtain ⟨u1, v1, y1, u2, v2, y2, u3, v3, y3, rfl⟩ := rr.cells7
    have RR4 : Hid (RdIt Y4 (.agg #[.int .i64 ((n1 : Int) + 1), .int .i64 c, .int .i64 k, .int .i64 n, .int .i64 s.count, .int .i64 s.sum, .int .i64 s.min, .int .i64 s.max, .slice u1 v1 y1, .slice u2 v2 y2, .slice u3 v3 y3]) ⟨(n1 : Int) + 1, c, k, n, s⟩ Fr ∧ Own (L + 1) Y4 Fr) := ⟨⟨u1, v1, y1, u2, v2, y2, u3, v3, y3, rfl, rr⟩, ro.mono HLd.out.loc.lt⟩
    have HL4 : Hid (SealL w #[.int .i64 x.id, .int .i64 x.epoch, .bool x.live, .int .i64 x.granted, .slice a1 n1 c1, .slice a2 n2 c2, .int .i64 x.next] #[.int .i64 s.count, .int .i64 s.sum, .int .i64 s.min, .int .i64 s.max, .slice b1 m1 d1, .slice b2 m2 d2, .slice b3 m3 d3] B L lo n1 x q1 k1 q2 l2 k2 F G GG vs Y4) := HLd.out.below rb
    refine ⟨_, by simp [Act.put]; rfl, hK _ _ ⟨HL4.out.base, ?_⟩⟩
    clear hK rr ro rb
    refine takeH (o := ?o17) 11 (.agg #[.int .i64 ((n1 : Int) + 1), .int .i64 c, .int .i64 k, .int .i64 n, .int .i64 s.count, .int .i64 s.sum, .int .i64 s.min, .int .i64 s.max, .slice u1 v1 y1, .slice u2 v2 y2, .slice u3 v3 y3]) ?h17 ?r17
    case h17 => simp only [aT, aS, aZ]; rfl
    refine ⟨_, by simp [Act.put]; rfl, by kernel_rfl, by kernel_rfl, by kernel_rfl, fun _ _ _ h => h, (.inl ⟨rfl, fun W _ => by kernel_rfl⟩), HL4.out.base, ?_⟩
    refine twoH (o := ?o18) (o' := ?p18) 1 12 (by kernel_rfl) ?h18 ?g18 ?r18 ?s18
    case h18 => simp only [aT, aS, aZ]; rfl
    case g18 => simp only [aT, aS, aZ]; rfl
    case r18 =>
      intro K hK
      have co := HL4.out.loc.cell 4
      simp only [aT, aS, aZ] at co
      refine op_value (.slice q1 n1 k1) rfl (by go_simp) ⟨_, by simp [Act.put]; rfl, hK _ _ ⟨HL4.out.base, ?_⟩⟩
      clear hK co
      refine onlyH (o := ?o19) 12 (by kernel_rfl) ?h19 ?r19
      case h19 => simp only [aT, aS, aZ]; rfl
      intro K hK
      have bl : Below Y4.heap.size Y4 (Y4.alloc (.cells #[.int .i64 ((n1 : Int) + 1), .int .i64 c, .int .i64 k, .int .i64 n, .int .i64 s.count, .int .i64 s.sum, .int .i64 s.min, .int .i64 s.max, .slice u1 v1 y1, .slice u2 v2 y2, .slice u3 v3 y3] 54)) := (Below.refl _ _).alloc (Nat.le_refl _) _
      have HL5 : Hid (SealL w #[.int .i64 x.id, .int .i64 x.epoch, .bool x.live, .int .i64 x.granted, .slice a1 n1 c1, .slice a2 n2 c2, .int .i64 x.next] #[.int .i64 s.count, .int .i64 s.sum, .int .i64 s.min, .int .i64 s.max, .slice b1 m1 d1, .slice b2 m2 d2, .slice b3 m3 d3] B L lo n1 x q1 k1 q2 l2 k2 F G GG vs (Y4.alloc (.cells #[.int .i64 ((n1 : Int) + 1), .int .i64 c, .int .i64 k, .int .i64 n, .int .i64 s.count, .int .i64 s.sum, .int .i64 s.min, .int .i64 s.max, .slice u1 v1 y1, .slice u2 v2 y2, .slice u3 v3 y3] 54))) := HL4.out.below bl
      have RR5 : Hid (RdIt (Y4.alloc (.cells #[.int .i64 ((n1 : Int) + 1), .int .i64 c, .int .i64 k, .int .i64 n, .int .i64 s.count, .int .i64 s.sum, .int .i64 s.min, .int .i64 s.max, .slice u1 v1 y1, .slice u2 v2 y2, .slice u3 v3 y3] 54)) (.agg #[.int .i64 ((n1 : Int) + 1), .int .i64 c, .int .i64 k, .int .i64 n, .int .i64 s.count, .int .i64 s.sum, .int .i64 s.min, .int .i64 s.max, .slice u1 v1 y1, .slice u2 v2 y2, .slice u3 v3 y3]) ⟨(n1 : Int) + 1, c, k, n, s⟩ Fr ∧ Own (L + 1) (Y4.alloc (.cells #[.int .i64 ((n1 : Int) + 1), .int .i64 c, .int .i64 k, .int .i64 n, .int .i64 s.count, .int .i64 s.sum, .int .i64 s.min, .int .i64 s.max, .slice u1 v1 y1, .slice u2 v2 y2, .slice u3 v3 y3] 54)) Fr) := ⟨RR4.out.1.below bl, RR4.out.2.below (RdIt.lt RR4.out.1) bl⟩
      have NW5 : Hid (∀ j u, #[.int .i64 ((n1 : Int) + 1), .int .i64 c, .int .i64 k, .int .i64 n, .int .i64 s.count, .int .i64 s.sum, .int .i64 s.min, .int .i64 s.max, .slice u1 v1 y1, .slice u2 v2 y2, .slice u3 v3 y3].toList[j]? = some u → ((Y4.alloc (.cells #[.int .i64 ((n1 : Int) + 1), .int .i64 c, .int .i64 k, .int .i64 n, .int .i64 s.count, .int .i64 s.sum, .int .i64 s.min, .int .i64 s.max, .slice u1 v1 y1, .slice u2 v2 y2, .slice u3 v3 y3] 54))).cell? ((⟨Y4.heap.size, 0, none⟩ : Addr).add j) = some u) := news_lit _ _ _
      refine op_turn (.slice (some ⟨Y4.heap.size, 0, none⟩) 1 1) (Y4.alloc (.cells #[.int .i64 ((n1 : Int) + 1), .int .i64 c, .int .i64 k, .int .i64 n, .int .i64 s.count, .int .i64 s.sum, .int .i64 s.min, .int .i64 s.max, .slice u1 v1 y1, .slice u2 v2 y2, .slice u3 v3 y3] 54)) rfl (by kernel_rfl) ⟨_, by simp [Act.put]; rfl, hK _ _ ⟨HL5.out.base, ?_⟩⟩
      clear hK bl
      obtain ⟨L5, hL5⟩ : ∃ z, z = Y4.heap.size := ⟨_, rfl⟩
      obtain ⟨Y5, hY5⟩ : ∃ Z, Z = (Y4.alloc (.cells #[.int .i64 ((n1 : Int) + 1), .int .i64 c, .int .i64 k, .int .i64 n, .int .i64 s.count, .int .i64 s.sum, .int .i64 s.min, .int .i64 s.max, .slice u1 v1 y1, .slice u2 v2 y2, .slice u3 v3 y3] 54)) := ⟨_, rfl⟩
      rw [← hY5, ← hL5] at NW5
      rw [← hY5] at HL5 RR5 ⊢
      rw [← hL5]
      clear hY5 hL5
      refine onlyH (o := ?o20) 13 (by kernel_rfl) ?h20 ?r20
      case h20 => simp only [aT, aS, aZ]; rfl
      intro K hK
      refine op_append Y5 rfl _ _ 22 rfl lo 54 j0 (.agg #[.int .i64 0, .int .i64 0, .int .i64 0, .int .i64 0, .int .i64 0, .int .i64 0, .int .i64 0, .int .i64 0, .slice none 0 0, .slice none 0 0, .slice none 0 0]) 11 136 Try.underlying22 hj hy0 hy1 hy2 rfl (by decide) (.slice q1 n1 k1) n1 vs rfl HL5.out.c.gr.row ⟨L5, 0, none⟩ 1 1 #[.int .i64 ((n1 : Int) + 1), .int .i64 c, .int .i64 k, .int .i64 n, .int .i64 s.count, .int .i64 s.sum, .int .i64 s.min, .int .i64 s.max, .slice u1 v1 y1, .slice u2 v2 y2, .slice u3 v3 y3].toList rfl rfl NW5.out (by simp [Value.oneCell']) (by decide) (by unfold maxLen; omega) (by omega) HL5.out.c.gr.lw _ rfl ?_
      intro g4 cp4 Y6 hown hgrow hat _
      obtain ⟨ST1, ST2, F', ST3⟩ := HL5.out.done RR5.out.1 rfl RR5.out.2 hown hgrow hat
      have HL6 : Hid (SealW w #[.int .i64 x.id, .int .i64 x.epoch, .bool x.live, .int .i64 x.granted, .slice a1 n1 c1, .slice a2 n2 c2, .int .i64 x.next] #[.int .i64 s.count, .int .i64 s.sum, .int .i64 s.min, .int .i64 s.max, .slice b1 m1 d1, .slice b2 m2 d2, .slice b3 m3 d3] Y6 ∧ SealD w #[.int .i64 x.id, .int .i64 x.epoch, .bool x.live, .int .i64 x.granted, .slice a1 n1 c1, .slice a2 n2 c2, .int .i64 x.next] #[.int .i64 s.count, .int .i64 s.sum, .int .i64 s.min, .int .i64 s.max, .slice b1 m1 d1, .slice b2 m2 d2, .slice b3 m3 d3] L #[.int .i64 x.id, .int .i64 x.epoch, .bool x.live, .int .i64 x.granted, .slice (some ⟨g4, 0, none⟩) (n1 + 1) cp4, .slice q2 l2 k2, .int .i64 x.next] (x.plus ⟨(n1 : Int) + 1, c, k, n, s⟩) F' G (Y6.setCell ⟨L, 4, none⟩ (.slice (some ⟨g4, 0, none⟩) (n1 + 1) cp4))) := ⟨ST1, ST3⟩
      have co := ST2.cell 4
      have fo := ST2.frozen 4
      simp only [aT, aS, aZ] at co
      refine ⟨_, by simp [Act.put]; rfl, hK _ _ ⟨HL6.out.1, ?_⟩⟩
      clear hK hown hgrow hat ST1 ST2 ST3
      refine takeH (o := ?o21) 14 (.pointer (some ⟨L, 4, none⟩)) ?h21 ?r21
      case h21 => simp only [aT, aS, aZ]; rfl
      refine ⟨_, by simp [Act.put]; rfl, by kernel_rfl, by kernel_rfl, by kernel_rfl, fun _ _ _ h => h, (.inl ⟨rfl, fun W _ => by kernel_rfl⟩), HL6.out.1, ?_⟩
      refine onlyH (o := ?o22) 15 (by kernel_rfl) ?h22 ?r22
      case h22 => simp only [aT, aS, aZ]; rfl
      intro K hK
      refine op_skip (Y6.setCell ⟨L, 4, none⟩ (.slice (some ⟨g4, 0, none⟩) (n1 + 1) cp4)) rfl (by go_simp) ⟨_, by simp [Act.put]; rfl, hK _ _ ⟨HL6.out.2.base, ?_⟩⟩
      clear hK co fo
      refine wpAnyH_done (by kernel_rfl) ?_ _
      obtain ⟨w5, hw5⟩ : ∃ W, W = Y6.setCell ⟨L, 4, none⟩ (.slice (some ⟨g4, 0, none⟩) (n1 + 1) cp4) := ⟨_, rfl⟩
      have H5 : Hid (SealD w #[.int .i64 x.id, .int .i64 x.epoch, .bool x.live, .int .i64 x.granted, .slice a1 n1 c1, .slice a2 n2 c2, .int .i64 x.next] #[.int .i64 s.count, .int .i64 s.sum, .int .i64 s.min, .int .i64 s.max, .slice b1 m1 d1, .slice b2 m2 d2, .slice b3 m3 d3] L #[.int .i64 x.id, .int .i64 x.epoch, .bool x.live, .int .i64 x.granted, .slice (some ⟨g4, 0, none⟩) (n1 + 1) cp4, .slice q2 l2 k2, .int .i64 x.next] (x.plus (x.item c k n s)) F' G w5) := by rw [HI.out.1, hw5]; exact HL6.out.2
      rw [← hw5]
      clear hw5 HL6
      go_wp2_with (first | go_skip | (with_reducible refine stopLoad 25 rfl ?_))
      refine load_known 25 L _ 25 _ H5.out.loc rfl rfl rfl Try.underlying25 rfl infoAgQSpec ?_
      go_wp2_with fail
      refine (agentOkSpec_any _ (x.plus (x.item c k n s)) F' G _ H5.out.rd (fun y hy => (List.mem_append.1 hy).elim (fun h => (HF.out.1 y h).wide) (fun h => by (obtain rfl : y = x.item c k n s := by simpa using h); exact HU.out.2.wide)) (by show (x.sealed ++ [x.item c k n s]).length ≤ _; rw [List.length_append]; have := HF.out.2.1; simp; omega) (by show x.taken.length ≤ _; have := HF.out.2.2; omega)).mono ?_
      rintro e w6 ⟨rfl, hb6⟩
      have H6 : Hid (SealD w #[.int .i64 x.id, .int .i64 x.epoch, .bool x.live, .int .i64 x.granted, .slice a1 n1 c1, .slice a2 n2 c2, .int .i64 x.next] #[.int .i64 s.count, .int .i64 s.sum, .int .i64 s.min, .int .i64 s.max, .slice b1 m1 d1, .slice b2 m2 d2, .slice b3 m3 d3] L #[.int .i64 x.id, .int .i64 x.epoch, .bool x.live, .int .i64 x.granted, .slice (some ⟨g4, 0, none⟩) (n1 + 1) cp4, .slice q2 l2 k2, .int .i64 x.next] (x.plus (x.item c k n s)) F' G w6) := H5.out.below hb6
      obtain ⟨d, hd⟩ : ∃ d, d = (x.plus (x.item c k n s)).ok := ⟨_, rfl⟩
      rw [← hd]
      have HD : Hid (d = (x.item c k n s).ok) := hd.trans (Ag.plus_ok x c k n s HD1.out)
      clear hb6 hd H5
      cases d
      · have HV : Hid (x.seal c k n s = (x, 0)) := by show _ = _; unfold Ag.seal; rw [← HD.out]; simp
        go_wp2_with (first | go_skip | (with_reducible refine stopLoad 25 rfl ?_))
        refine load_known 25 w.heap.size _ 25 _ H6.out.base.box rfl rfl rfl Try.underlying25 rfl infoAgQSpec ?_
        go_wp2_with fail
        refine (l8Copy_any _ x F0 G0 _ (HX.out.1.below H6.out.base.bel) HF.out.1 HF.out.2.1 HF.out.2.2).mono ?_
        rintro e w8 ⟨v8, F8, G8, rfl, r8, o8, p8, ap8, hb8⟩
        obtain ⟨cs8, rfl, hz8, ho8⟩ := r8.cells
        have H8 : Hid (SealW w #[.int .i64 x.id, .int .i64 x.epoch, .bool x.live, .int .i64 x.granted, .slice a1 n1 c1, .slice a2 n2 c2, .int .i64 x.next] #[.int .i64 s.count, .int .i64 s.sum, .int .i64 s.min, .int .i64 s.max, .slice b1 m1 d1, .slice b2 m2 d2, .slice b3 m3 d3] w8 ∧ RdAg w8 (.agg cs8) x F8 G8 ∧ Own (w.heap.size + 3) w8 F8 ∧ Own (w.heap.size + 3) w8 G8 ∧ (∀ b ∈ F8, b ∉ G8)) := ⟨H6.out.base.below hb8, r8, o8.mono (by have := H6.out.base.res.lt; omega), p8.mono (by have := H6.out.base.res.lt; omega), ap8⟩
        clear r8 o8 p8 ap8 hb8
        go_wp2_with (first | go_skip | (with_reducible refine stopStore 25 rfl ?_))
        refine store_known 25 (w.heap.size + 1 + 1) _ cs8 25 H8.out.1.res rfl rfl rfl rfl (by rw [hz8]; exact infoAgQSpec) (by rw [hz8]; rfl) ho8 ?_
        go_wp2
        refine bodyPost_ret (results_row_tmp Try.results15 _ _ (w.heap.size + 1 + 1) _ _ _ _ rfl H8.out.1.res.setRow Try.underlying25 rfl (by rw [hz8]; exact infoAgQSpec)) rfl ?_
        have nr : w.heap.size + 1 + 1 ∉ F8 := fun hx => by have := H8.out.2.2.1.ge _ hx; omega
        have mr : w.heap.size + 1 + 1 ∉ G8 := fun hx => by have := H8.out.2.2.2.1.ge _ hx; omega
        rw [HV.out]
        exact ⟨_, F8, G8, _, rfl, H8.out.2.1.agree (Agree.row nr _) (Agree.row mr _), rfl, (H8.out.2.2.1.agree (Agree.row nr _)).mono (by omega), (H8.out.2.2.2.1.agree (Agree.row mr _)).mono (by omega), H8.out.2.2.2.2, below_setRow H8.out.1.bel (by omega) _⟩
      have HV : Hid (x.seal c k n s = (x.plus (x.item c k n s), (n1 : Int) + 1)) := by show _ = _; unfold Ag.seal; rw [if_pos ⟨HD1.out, HD.out.symm⟩, HI.out.2]
      go_wp2_with fail
      have H7 : Hid (SealD w #[.int .i64 x.id, .int .i64 x.epoch, .bool x.live, .int .i64 x.granted, .slice a1 n1 c1, .slice a2 n2 c2, .int .i64 x.next] #[.int .i64 s.count, .int .i64 s.sum, .int .i64 s.min, .int .i64 s.max, .slice b1 m1 d1, .slice b2 m2 d2, .slice b3 m3 d3] L #[.int .i64 x.id, .int .i64 x.epoch, .bool x.live, .int .i64 x.granted, .slice (some ⟨g4, 0, none⟩) (n1 + 1) cp4, .slice q2 l2 k2, .int .i64 x.next] (x.plus (x.item c k n s)) F' G w6.drew) := H6.out.below (Below.refl _ _).drew
      obtain ⟨Z0, hZ0⟩ : ∃ Y, Y = w6.drew := ⟨_, rfl⟩
      rw [← hZ0] at H7
      clear H6 HD
      refine wp_region_held (S := fun W => Blk W L #[.int .i64 x.id, .int .i64 x.epoch, .bool x.live, .int .i64 x.granted, .slice (some ⟨g4, 0, none⟩) (n1 + 1) cp4, .slice q2 l2 k2, .int .i64 x.next] 25) (by kernel_rfl) ?_
      change wpAnyH _ _ _ _ _ _ _ _ (World.drew _)
      rw [← hZ0]
      clear hZ0
      refine takeH (o := ?o27xx) 0 (.agg #[.int .i64 x.id, .int .i64 x.epoch, .bool x.live, .int .i64 x.granted, .slice (some ⟨g4, 0, none⟩) (n1 + 1) cp4, .slice q2 l2 k2, .int .i64 x.next]) ?h27xx ?r27xx
      case h27xx => simp only [aT, aZ]; rfl
      refine ⟨_, by simp [Act.put]; rfl, by kernel_rfl, by kernel_rfl, by kernel_rfl, fun _ _ _ h => h, (yields_whole 25 L #[.int .i64 x.id, .int .i64 x.epoch, .bool x.live, .int .i64 x.granted, .slice (some ⟨g4, 0, none⟩) (n1 + 1) cp4, .slice q2 l2 k2, .int .i64 x.next] 25 _ rfl rfl rfl Try.underlying25 rfl infoAgQSpec (fun W hW => hW)), H7.out.loc, ?_⟩
      refine takeH (o := ?o28xx) 1 (.pointer (some ⟨L, 4, none⟩)) ?h28xx ?r28xx
      case h28xx => simp only [aT, aS, aZ]; rfl
      refine ⟨_, by simp [Act.put]; rfl, by kernel_rfl, by kernel_rfl, by kernel_rfl, fun _ _ _ h => h, (.inl ⟨rfl, fun W _ => by kernel_rfl⟩), H7.out.loc, ?_⟩
      refine takeH (o := ?o29xx) 2 (.slice (some ⟨g4, 0, none⟩) (n1 + 1) cp4) ?h29xx ?r29xx
      case h29xx => simp only [aT, aS, aZ]; rfl
      refine ⟨_, by simp [Act.put]; rfl, by kernel_rfl, by kernel_rfl, by kernel_rfl, fun _ _ _ h => h, (.inl ⟨rfl, fun W hW => by have c := hW.cell 4; simp only [aT, aS, aZ] at c; go_simp⟩), H7.out.loc, ?_⟩
      refine takeH (o := ?o30xx) 3 (.int .i64 ((n1 + 1 : Nat) : Int)) ?h30xx ?r30xx
      case h30xx => simp only [aT, aS, aZ]; rfl
      refine ⟨_, by simp [Act.put]; rfl, by kernel_rfl, by kernel_rfl, by kernel_rfl, fun _ _ _ h => h, (.inl ⟨rfl, fun W _ => by go_simp⟩), H7.out.loc, ?_⟩
      refine onlyH (o := ?o31xx) 4 (by kernel_rfl) ?h31xx ?r31xx
      case h31xx => simp only [aT, aS, aZ]; rfl
      intro K hK
      have gL := H7.out.gL
      refine op_store 25 (w.heap.size + 1 + 1) #[.int .i64 0, .int .i64 0, .bool false, .int .i64 0, .slice none 0 0, .slice none 0 0, .int .i64 0] #[.int .i64 x.id, .int .i64 x.epoch, .bool x.live, .int .i64 x.granted, .slice (some ⟨g4, 0, none⟩) (n1 + 1) cp4, .slice q2 l2 k2, .int .i64 x.next] 25 rfl rfl rfl rfl H7.out.base.res infoAgQSpec rfl (by simp [Value.oneCell']) ⟨_, by simp [Act.put]; rfl, hK _ _ ⟨H7.out.loc.setRowOther (by omega), ?_⟩⟩
      clear hK
      refine takeH (o := ?o32xx) 5 (.int .i64 ((n1 + 1 : Nat) : Int)) ?h32xx ?r32xx
      case h32xx => simp only [aT, aS, aZ]; rfl
      refine ⟨_, by simp [Act.put]; rfl, by kernel_rfl, by kernel_rfl, by kernel_rfl, fun _ _ _ h => h, (.inl ⟨rfl, fun W _ => by kernel_rfl⟩), (H7.out.loc.setRowOther (by omega)), ?_⟩
      refine wpAnyH_done (by kernel_rfl) ?_ _
      go_wp2
      refine bodyPost_ret (results_row_tmp Try.results15 _ _ (w.heap.size + 1 + 1) _ _ _ _ rfl H7.out.base.res.setRow Try.underlying25 rfl infoAgQSpec) rfl ?_
      have nr : w.heap.size + 1 + 1 ∉ F' := fun hx => by have := H7.out.oF.ge _ hx; omega
      have mr : w.heap.size + 1 + 1 ∉ G := fun hx => by have := H7.out.oG.ge _ hx; omega
      rw [HV.out]
      exact ⟨_, F', G, _, rfl, H7.out.rd.agree (Agree.row nr _) (Agree.row mr _), (by show (((n1 + 1 : Nat) : Int)) = (n1 : Int) + 1; omega), (H7.out.oF.agree (Agree.row nr _)).mono (by omega), (H7.out.oG.agree (Agree.row mr _)).mono (by omega), H7.out.ap, below_setRow H7.out.base.bel (by omega) _⟩
    case s18 =>
      intro K hK
      have bl : Below Y4.heap.size Y4 (Y4.alloc (.cells #[.int .i64 ((n1 : Int) + 1), .int .i64 c, .int .i64 k, .int .i64 n, .int .i64 s.count, .int .i64 s.sum, .int .i64 s.min, .int .i64 s.max, .slice u1 v1 y1, .slice u2 v2 y2, .slice u3 v3 y3] 54)) := (Below.refl _ _).alloc (Nat.le_refl _) _
      have HL7 : Hid (SealL w #[.int .i64 x.id, .int .i64 x.epoch, .bool x.live, .int .i64 x.granted, .slice a1 n1 c1, .slice a2 n2 c2, .int .i64 x.next] #[.int .i64 s.count, .int .i64 s.sum, .int .i64 s.min, .int .i64 s.max, .slice b1 m1 d1, .slice b2 m2 d2, .slice b3 m3 d3] B L lo n1 x q1 k1 q2 l2 k2 F G GG vs (Y4.alloc (.cells #[.int .i64 ((n1 : Int) + 1), .int .i64 c, .int .i64 k, .int .i64 n, .int .i64 s.count, .int .i64 s.sum, .int .i64 s.min, .int .i64 s.max, .slice u1 v1 y1, .slice u2 v2 y2, .slice u3 v3 y3] 54))) := HL4.out.below bl
      have RR7 : Hid (RdIt (Y4.alloc (.cells #[.int .i64 ((n1 : Int) + 1), .int .i64 c, .int .i64 k, .int .i64 n, .int .i64 s.count, .int .i64 s.sum, .int .i64 s.min, .int .i64 s.max, .slice u1 v1 y1, .slice u2 v2 y2, .slice u3 v3 y3] 54)) (.agg #[.int .i64 ((n1 : Int) + 1), .int .i64 c, .int .i64 k, .int .i64 n, .int .i64 s.count, .int .i64 s.sum, .int .i64 s.min, .int .i64 s.max, .slice u1 v1 y1, .slice u2 v2 y2, .slice u3 v3 y3]) ⟨(n1 : Int) + 1, c, k, n, s⟩ Fr ∧ Own (L + 1) (Y4.alloc (.cells #[.int .i64 ((n1 : Int) + 1), .int .i64 c, .int .i64 k, .int .i64 n, .int .i64 s.count, .int .i64 s.sum, .int .i64 s.min, .int .i64 s.max, .slice u1 v1 y1, .slice u2 v2 y2, .slice u3 v3 y3] 54)) Fr) := ⟨RR4.out.1.below bl, RR4.out.2.below (RdIt.lt RR4.out.1) bl⟩
      have NW7 : Hid (∀ j u, #[.int .i64 ((n1 : Int) + 1), .int .i64 c, .int .i64 k, .int .i64 n, .int .i64 s.count, .int .i64 s.sum, .int .i64 s.min, .int .i64 s.max, .slice u1 v1 y1, .slice u2 v2 y2, .slice u3 v3 y3].toList[j]? = some u → ((Y4.alloc (.cells #[.int .i64 ((n1 : Int) + 1), .int .i64 c, .int .i64 k, .int .i64 n, .int .i64 s.count, .int .i64 s.sum, .int .i64 s.min, .int .i64 s.max, .slice u1 v1 y1, .slice u2 v2 y2, .slice u3 v3 y3] 54))).cell? ((⟨Y4.heap.size, 0, none⟩ : Addr).add j) = some u) := news_lit _ _ _
      refine op_turn (.slice (some ⟨Y4.heap.size, 0, none⟩) 1 1) (Y4.alloc (.cells #[.int .i64 ((n1 : Int) + 1), .int .i64 c, .int .i64 k, .int .i64 n, .int .i64 s.count, .int .i64 s.sum, .int .i64 s.min, .int .i64 s.max, .slice u1 v1 y1, .slice u2 v2 y2, .slice u3 v3 y3] 54)) rfl (by kernel_rfl) ⟨_, by simp [Act.put]; rfl, hK _ _ ⟨HL7.out.base, ?_⟩⟩
      clear hK bl
      obtain ⟨L7, hL7⟩ : ∃ z, z = Y4.heap.size := ⟨_, rfl⟩
      obtain ⟨Y7, hY7⟩ : ∃ Z, Z = (Y4.alloc (.cells #[.int .i64 ((n1 : Int) + 1), .int .i64 c, .int .i64 k, .int .i64 n, .int .i64 s.count, .int .i64 s.sum, .int .i64 s.min, .int .i64 s.max, .slice u1 v1 y1, .slice u2 v2 y2, .slice u3 v3 y3] 54)) := ⟨_, rfl⟩
      rw [← hY7, ← hL7] at NW7
      rw [← hY7] at HL7 RR7 ⊢
      rw [← hL7]
      clear hY7 hL7
      refine onlyH (o := ?o23) 1 (by kernel_rfl) ?h23 ?r23
      case h23 => simp only [aT, aS, aZ]; rfl
      intro K hK
      have co := HL7.out.loc.cell 4
      simp only [aT, aS, aZ] at co
      refine op_value (.slice q1 n1 k1) rfl (by go_simp) ⟨_, by simp [Act.put]; rfl, hK _ _ ⟨HL7.out.base, ?_⟩⟩
      clear hK co
      refine onlyH (o := ?o24) 13 (by kernel_rfl) ?h24 ?r24
      case h24 => simp only [aT, aS, aZ]; rfl
      intro K hK
      refine op_append Y7 rfl _ _ 22 rfl lo 54 j0 (.agg #[.int .i64 0, .int .i64 0, .int .i64 0, .int .i64 0, .int .i64 0, .int .i64 0, .int .i64 0, .int .i64 0, .slice none 0 0, .slice none 0 0, .slice none 0 0]) 11 136 Try.underlying22 hj hy0 hy1 hy2 rfl (by decide) (.slice q1 n1 k1) n1 vs rfl HL7.out.c.gr.row ⟨L7, 0, none⟩ 1 1 #[.int .i64 ((n1 : Int) + 1), .int .i64 c, .int .i64 k, .int .i64 n, .int .i64 s.count, .int .i64 s.sum, .int .i64 s.min, .int .i64 s.max, .slice u1 v1 y1, .slice u2 v2 y2, .slice u3 v3 y3].toList rfl rfl NW7.out (by simp [Value.oneCell']) (by decide) (by unfold maxLen; omega) (by omega) HL7.out.c.gr.lw _ rfl ?_
      intro g4 cp4 Y8 hown hgrow hat _
      obtain ⟨ST1, ST2, F', ST3⟩ := HL7.out.done RR7.out.1 rfl RR7.out.2 hown hgrow hat
      have HL8 : Hid (SealW w #[.int .i64 x.id, .int .i64 x.epoch, .bool x.live, .int .i64 x.granted, .slice a1 n1 c1, .slice a2 n2 c2, .int .i64 x.next] #[.int .i64 s.count, .int .i64 s.sum, .int .i64 s.min, .int .i64 s.max, .slice b1 m1 d1, .slice b2 m2 d2, .slice b3 m3 d3] Y8 ∧ SealD w #[.int .i64 x.id, .int .i64 x.epoch, .bool x.live, .int .i64 x.granted, .slice a1 n1 c1, .slice a2 n2 c2, .int .i64 x.next] #[.int .i64 s.count, .int .i64 s.sum, .int .i64 s.min, .int .i64 s.max, .slice b1 m1 d1, .slice b2 m2 d2, .slice b3 m3 d3] L #[.int .i64 x.id, .int .i64 x.epoch, .bool x.live, .int .i64 x.granted, .slice (some ⟨g4, 0, none⟩) (n1 + 1) cp4, .slice q2 l2 k2, .int .i64 x.next] (x.plus ⟨(n1 : Int) + 1, c, k, n, s⟩) F' G (Y8.setCell ⟨L, 4, none⟩ (.slice (some ⟨g4, 0, none⟩) (n1 + 1) cp4))) := ⟨ST1, ST3⟩
      have co := ST2.cell 4
      have fo := ST2.frozen 4
      simp only [aT, aS, aZ] at co
      refine ⟨_, by simp [Act.put]; rfl, hK _ _ ⟨HL8.out.1, ?_⟩⟩
      clear hK hown hgrow hat ST1 ST2 ST3
      refine takeH (o := ?o25) 14 (.pointer (some ⟨L, 4, none⟩)) ?h25 ?r25
      case h25 => simp only [aT, aS, aZ]; rfl
      refine ⟨_, by simp [Act.put]; rfl, by kernel_rfl, by kernel_rfl, by kernel_rfl, fun _ _ _ h => h, (.inl ⟨rfl, fun W _ => by kernel_rfl⟩), HL8.out.1, ?_⟩
      refine onlyH (o := ?o26) 15 (by kernel_rfl) ?h26 ?r26
      case h26 => simp only [aT, aS, aZ]; rfl
      intro K hK
      refine op_skip (Y8.setCell ⟨L, 4, none⟩ (.slice (some ⟨g4, 0, none⟩) (n1 + 1) cp4)) rfl (by go_simp) ⟨_, by simp [Act.put]; rfl, hK _ _ ⟨HL8.out.2.base, ?_⟩⟩
      clear hK co fo
      refine wpAnyH_done (by kernel_rfl) ?_ _
      obtain ⟨w5, hw5⟩ : ∃ W, W = Y8.setCell ⟨L, 4, none⟩ (.slice (some ⟨g4, 0, none⟩) (n1 + 1) cp4) := ⟨_, rfl⟩
      have H5 : Hid (SealD w #[.int .i64 x.id, .int .i64 x.epoch, .bool x.live, .int .i64 x.granted, .slice a1 n1 c1, .slice a2 n2 c2, .int .i64 x.next] #[.int .i64 s.count, .int .i64 s.sum, .int .i64 s.min, .int .i64 s.max, .slice b1 m1 d1, .slice b2 m2 d2, .slice b3 m3 d3] L #[.int .i64 x.id, .int .i64 x.epoch, .bool x.live, .int .i64 x.granted, .slice (some ⟨g4, 0, none⟩) (n1 + 1) cp4, .slice q2 l2 k2, .int .i64 x.next] (x.plus (x.item c k n s)) F' G w5) := by rw [HI.out.1, hw5]; exact HL8.out.2
      rw [← hw5]
      clear hw5 HL8
      go_wp2_with (first | go_skip | (with_reducible refine stopLoad 25 rfl ?_))
      refine load_known 25 L _ 25 _ H5.out.loc rfl rfl rfl Try.underlying25 rfl infoAgQSpec ?_
      go_wp2_with fail
      refine (agentOkSpec_any _ (x.plus (x.item c k n s)) F' G _ H5.out.rd (fun y hy => (List.mem_append.1 hy).elim (fun h => (HF.out.1 y h).wide) (fun h => by (obtain rfl : y = x.item c k n s := by simpa using h); exact HU.out.2.wide)) (by show (x.sealed ++ [x.item c k n s]).length ≤ _; rw [List.length_append]; have := HF.out.2.1; simp; omega) (by show x.taken.length ≤ _; have := HF.out.2.2; omega)).mono ?_
      rintro e w6 ⟨rfl, hb6⟩
      have H6 : Hid (SealD w #[.int .i64 x.id, .int .i64 x.epoch, .bool x.live, .int .i64 x.granted, .slice a1 n1 c1, .slice a2 n2 c2, .int .i64 x.next] #[.int .i64 s.count, .int .i64 s.sum, .int .i64 s.min, .int .i64 s.max, .slice b1 m1 d1, .slice b2 m2 d2, .slice b3 m3 d3] L #[.int .i64 x.id, .int .i64 x.epoch, .bool x.live, .int .i64 x.granted, .slice (some ⟨g4, 0, none⟩) (n1 + 1) cp4, .slice q2 l2 k2, .int .i64 x.next] (x.plus (x.item c k n s)) F' G w6) := H5.out.below hb6
      obtain ⟨d, hd⟩ : ∃ d, d = (x.plus (x.item c k n s)).ok := ⟨_, rfl⟩
      rw [← hd]
      have HD : Hid (d = (x.item c k n s).ok) := hd.trans (Ag.plus_ok x c k n s HD1.out)
      clear hb6 hd H5
      cases d
      · have HV : Hid (x.seal c k n s = (x, 0)) := by show _ = _; unfold Ag.seal; rw [← HD.out]; simp
        go_wp2_with (first | go_skip | (with_reducible refine stopLoad 25 rfl ?_))
        refine load_known 25 w.heap.size _ 25 _ H6.out.base.box rfl rfl rfl Try.underlying25 rfl infoAgQSpec ?_
        go_wp2_with fail
        refine (l8Copy_any _ x F0 G0 _ (HX.out.1.below H6.out.base.bel) HF.out.1 HF.out.2.1 HF.out.2.2).mono ?_
        rintro e w8 ⟨v8, F8, G8, rfl, r8, o8, p8, ap8, hb8⟩
        obtain ⟨cs8, rfl, hz8, ho8⟩ := r8.cells
        have H8 : Hid (SealW w #[.int .i64 x.id, .int .i64 x.epoch, .bool x.live, .int .i64 x.granted, .slice a1 n1 c1, .slice a2 n2 c2, .int .i64 x.next] #[.int .i64 s.count, .int .i64 s.sum, .int .i64 s.min, .int .i64 s.max, .slice b1 m1 d1, .slice b2 m2 d2, .slice b3 m3 d3] w8 ∧ RdAg w8 (.agg cs8) x F8 G8 ∧ Own (w.heap.size + 3) w8 F8 ∧ Own (w.heap.size + 3) w8 G8 ∧ (∀ b ∈ F8, b ∉ G8)) := ⟨H6.out.base.below hb8, r8, o8.mono (by have := H6.out.base.res.lt; omega), p8.mono (by have := H6.out.base.res.lt; omega), ap8⟩
        clear r8 o8 p8 ap8 hb8
        go_wp2_with (first | go_skip | (with_reducible refine stopStore 25 rfl ?_))
        refine store_known 25 (w.heap.size + 1 + 1) _ cs8 25 H8.out.1.res rfl rfl rfl rfl (by rw [hz8]; exact infoAgQSpec) (by rw [hz8]; rfl) ho8 ?_
        go_wp2
        refine bodyPost_ret (results_row_tmp Try.results15 _ _ (w.heap.size + 1 + 1) _ _ _ _ rfl H8.out.1.res.setRow Try.underlying25 rfl (by rw [hz8]; exact infoAgQSpec)) rfl ?_
        have nr : w.heap.size + 1 + 1 ∉ F8 := fun hx => by have := H8.out.2.2.1.ge _ hx; omega
        have mr : w.heap.size + 1 + 1 ∉ G8 := fun hx => by have := H8.out.2.2.2.1.ge _ hx; omega
        rw [HV.out]
        exact ⟨_, F8, G8, _, rfl, H8.out.2.1.agree (Agree.row nr _) (Agree.row mr _), rfl, (H8.out.2.2.1.agree (Agree.row nr _)).mono (by omega), (H8.out.2.2.2.1.agree (Agree.row mr _)).mono (by omega), H8.out.2.2.2.2, below_setRow H8.out.1.bel (by omega) _⟩
      have HV : Hid (x.seal c k n s = (x.plus (x.item c k n s), (n1 : Int) + 1)) := by show _ = _; unfold Ag.seal; rw [if_pos ⟨HD1.out, HD.out.symm⟩, HI.out.2]
      go_wp2_with fail
      have H7 : Hid (SealD w #[.int .i64 x.id, .int .i64 x.epoch, .bool x.live, .int .i64 x.granted, .slice a1 n1 c1, .slice a2 n2 c2, .int .i64 x.next] #[.int .i64 s.count, .int .i64 s.sum, .int .i64 s.min, .int .i64 s.max, .slice b1 m1 d1, .slice b2 m2 d2, .slice b3 m3 d3] L #[.int .i64 x.id, .int .i64 x.epoch, .bool x.live, .int .i64 x.granted, .slice (some ⟨g4, 0, none⟩) (n1 + 1) cp4, .slice q2 l2 k2, .int .i64 x.next] (x.plus (x.item c k n s)) F' G w6.drew) := H6.out.below (Below.refl _ _).drew
      obtain ⟨Z0, hZ0⟩ : ∃ Y, Y = w6.drew := ⟨_, rfl⟩
      rw [← hZ0] at H7
      clear H6 HD
      refine wp_region_held (S := fun W => Blk W L #[.int .i64 x.id, .int .i64 x.epoch, .bool x.live, .int .i64 x.granted, .slice (some ⟨g4, 0, none⟩) (n1 + 1) cp4, .slice q2 l2 k2, .int .i64 x.next] 25) (by kernel_rfl) ?_
      change wpAnyH _ _ _ _ _ _ _ _ (World.drew _)
      rw [← hZ0]
      clear hZ0
      refine takeH (o := ?o27xxx) 0 (.agg #[.int .i64 x.id, .int .i64 x.epoch, .bool x.live, .int .i64 x.granted, .slice (some ⟨g4, 0, none⟩) (n1 + 1) cp4, .slice q2 l2 k2, .int .i64 x.next]) ?h27xxx ?r27xxx
      case h27xxx => simp only [aT, aZ]; rfl
      refine ⟨_, by simp [Act.put]; rfl, by kernel_rfl, by kernel_rfl, by kernel_rfl, fun _ _ _ h => h, (yields_whole 25 L #[.int .i64 x.id, .int .i64 x.epoch, .bool x.live, .int .i64 x.granted, .slice (some ⟨g4, 0, none⟩) (n1 + 1) cp4, .slice q2 l2 k2, .int .i64 x.next] 25 _ rfl rfl rfl Try.underlying25 rfl infoAgQSpec (fun W hW => hW)), H7.out.loc, ?_⟩
      refine takeH (o := ?o28xxx) 1 (.pointer (some ⟨L, 4, none⟩)) ?h28xxx ?r28xxx
      case h28xxx => simp only [aT, aS, aZ]; rfl
      refine ⟨_, by simp [Act.put]; rfl, by kernel_rfl, by kernel_rfl, by kernel_rfl, fun _ _ _ h => h, (.inl ⟨rfl, fun W _ => by kernel_rfl⟩), H7.out.loc, ?_⟩
      refine takeH (o := ?o29xxx) 2 (.slice (some ⟨g4, 0, none⟩) (n1 + 1) cp4) ?h29xxx ?r29xxx
      case h29xxx => simp only [aT, aS, aZ]; rfl
      refine ⟨_, by simp [Act.put]; rfl, by kernel_rfl, by kernel_rfl, by kernel_rfl, fun _ _ _ h => h, (.inl ⟨rfl, fun W hW => by have c := hW.cell 4; simp only [aT, aS, aZ] at c; go_simp⟩), H7.out.loc, ?_⟩
      refine takeH (o := ?o30xxx) 3 (.int .i64 ((n1 + 1 : Nat) : Int)) ?h30xxx ?r30xxx
      case h30xxx => simp only [aT, aS, aZ]; rfl
      refine ⟨_, by simp [Act.put]; rfl, by kernel_rfl, by kernel_rfl, by kernel_rfl, fun _ _ _ h => h, (.inl ⟨rfl, fun W _ => by go_simp⟩), H7.out.loc, ?_⟩
      refine onlyH (o := ?o31xxx) 4 (by kernel_rfl) ?h31xxx ?r31xxx
      case h31xxx => simp only [aT, aS, aZ]; rfl
      intro K hK
      have gL := H7.out.gL
      refine op_store 25 (w.heap.size + 1 + 1) #[.int .i64 0, .int .i64 0, .bool false, .int .i64 0, .slice none 0 0, .slice none 0 0, .int .i64 0] #[.int .i64 x.id, .int .i64 x.epoch, .bool x.live, .int .i64 x.granted, .slice (some ⟨g4, 0, none⟩) (n1 + 1) cp4, .slice q2 l2 k2, .int .i64 x.next] 25 rfl rfl rfl rfl H7.out.base.res infoAgQSpec rfl (by simp [Value.oneCell']) ⟨_, by simp [Act.put]; rfl, hK _ _ ⟨H7.out.loc.setRowOther (by omega), ?_⟩⟩
      clear hK
      refine takeH (o := ?o32xxx) 5 (.int .i64 ((n1 + 1 : Nat) : Int)) ?h32xxx ?r32xxx
      case h32xxx => simp only [aT, aS, aZ]; rfl
      refine ⟨_, by simp [Act.put]; rfl, by kernel_rfl, by kernel_rfl, by kernel_rfl, fun _ _ _ h => h, (.inl ⟨rfl, fun W _ => by kernel_rfl⟩), (H7.out.loc.setRowOther (by omega)), ?_⟩
      refine wpAnyH_done (by kernel_rfl) ?_ _
      go_wp2
      refine bodyPost_ret (results_row_tmp Try.results15 _ _ (w.heap.size + 1 + 1) _ _ _ _ rfl H7.out.base.res.setRow Try.underlying25 rfl infoAgQSpec) rfl ?_
      have nr : w.heap.size + 1 + 1 ∉ F' := fun hx => by have := H7.out.oF.ge _ hx; omega
      have mr : w.heap.size + 1 + 1 ∉ G := fun hx => by have := H7.out.oG.ge _ hx; omega
      rw [HV.out]
      exact ⟨_, F', G, _, rfl, H7.out.rd.agree (Agree.row nr _) (Agree.row mr _), (by show (((n1 + 1 : Nat) : Int)) = (n1 : Int) + 1; omega), (H7.out.oF.agree (Agree.row nr _)).mono (by omega), (H7.out.oG.agree (Agree.row mr _)).mono (by omega), H7.out.ap, below_setRow H7.out.base.bel (by omega) _⟩
end Go.Proofs.Ytjndcfamfminkar
/- The walk through the program's Seal. No statement of the seat is proved here. -/
namespace Go.Proofs.Ytjndcfamfminkar
open Go.RowKit
theorem SealL.row {w : World} {A S : Array Value} {B L lo n1 : Nat} {x : Ag} {q1 : Option Addr} {k1 : Nat} {q2 : Option Addr} {l2 k2 : Nat} {F G GG : List Nat} {vs : List Value} {W : World} {X : Nat} (h : SealL w A S B L lo n1 x q1 k1 q2 l2 k2 F G GG vs W) (hX : L < X) (ds : Array Value) : SealL w A S B L lo n1 x q1 k1 q2 l2 k2 F G GG vs (W.setRow X ds) := by
  have gB := h.gB; have gL := h.gL
  refine ⟨⟨h.base.box.setRowOther (by omega), h.base.sk.setRowOther (by omega), h.base.res.setRowOther (by omega), below_setRow h.base.bel (by omega) _⟩, h.loc.setRowOther (by omega), ?_, gB, gL⟩
  have nF : X ∉ F := fun hx => by have := h.c.l1 _ hx; omega
  have nG : X ∉ G := fun hx => by have := h.c.l2' _ hx; omega
  have nK : X ∉ GG := fun hx => by have := h.c.l3 _ hx; omega
  have nV : ¬ (Value.slice q1 n1 k1).ownBlock = some X := fun e => by have := h.c.l4 _ e; omega
  refine ⟨h.c.len, h.c.rl.agree (Agree.row nF _), h.c.rp.agree (Agree.row nG _), h.c.cp1, h.c.cp2, h.c.oF.agree (Agree.row nF _), h.c.oG.agree (Agree.row nG _), h.c.ap, ⟨?_, h.c.gr.rd.agree (Agree.row nK _), h.c.gr.og.agree (Agree.row nK _), h.c.gr.ap, ?_⟩, h.c.hlo, h.c.g1, h.c.g2, h.c.l1, h.c.l2', h.c.l3, h.c.l4, h.c.l5⟩
  · refine ⟨h.c.gr.row.1, ?_⟩
    rcases h.c.gr.row.2 with q | ⟨g', cap, cur, h1, h2, h3, h4⟩
    · exact .inl q
    · exact .inr ⟨g', cap, cur, h1, h2, by rw [setRow_other W X g' ds (fun e => nV (by rw [h1, ← e]; rfl))]; exact h3, h4⟩
  · have := (below_setRow (Below.refl 0 W) (Nat.zero_le X) ds).size
    exact Nat.le_trans h.c.gr.lw this
theorem infoAgQImpl : (Try.prog.info? 25).map (·.size) = some 7 := by kernel_rfl
theorem infoItQImpl : (Try.prog.info? 54).map (·.size) = some 11 := by kernel_rfl
theorem infoSkQImpl : (Try.prog.info? 44).map (·.size) = some 7 := by kernel_rfl
theorem infoItsQImpl : (Try.prog.info? 54).map (fun i => (i.zero, i.size, i.bytes)) = some (some (.agg #[.int .i64 0, .int .i64 0, .int .i64 0, .int .i64 0, .int .i64 0, .int .i64 0, .int .i64 0, .int .i64 0, .slice none 0 0, .slice none 0 0, .slice none 0 0]), 11, 136) := by kernel_rfl
set_option maxRecDepth 200000 in
set_option maxHeartbeats 8000000 in
theorem sealImpl_any (v u : Value) (x : Ag) (c k n : Int) (s : Sk) (F0 G0 H0 : List Nat) (w : World) (h : RdAg w v x F0 G0) (hu : RdSk w u s H0) (hf : ∀ y ∈ x.sealed, y.sk.fits) (hs : x.sealed.length ≤ 1048576) (hl : x.taken.length ≤ 1048576) (hsf : s.fits) :
    Calls Try.prog 18 #[v, .int .i64 c, .int .i64 k, .int .i64 n, u] w fun e w' => NewAg2 w (x.seal c k n s) e w' := by
  obtain ⟨j0, hj, hy0, hy1, hy2⟩ := info_parts infoItsQImpl
  obtain ⟨a1, n1, c1, a2, n2, c2, rfl, hL, hP, hc1, hc2⟩ := h
  obtain ⟨b1, m1, d1, b2, m2, d2, b3, m3, d3, rfl⟩ := hu.cells7
  have HX : Hid (RdAg w (.agg #[.int .i64 x.id, .int .i64 x.epoch, .bool x.live, .int .i64 x.granted, .slice a1 n1 c1, .slice a2 n2 c2, .int .i64 x.next]) x F0 G0 ∧ x.sealed.length = n1) := ⟨⟨a1, n1, c1, a2, n2, c2, rfl, hL, hP, hc1, hc2⟩, hL.length⟩
  have HU : Hid (RdSk w (.agg #[.int .i64 s.count, .int .i64 s.sum, .int .i64 s.min, .int .i64 s.max, .slice b1 m1 d1, .slice b2 m2 d2, .slice b3 m3 d3]) s H0 ∧ s.fits) := ⟨hu, hsf⟩
  have HF : Hid ((∀ y ∈ x.sealed, y.sk.fits) ∧ x.sealed.length ≤ 1048576 ∧ x.taken.length ≤ 1048576) := ⟨hf, hs, hl⟩
  have hn1 : n1 ≤ 1048576 := by rw [← hL.length]; exact hs
  have HI : Hid (x.item c k n s = ⟨(n1 : Int) + 1, c, k, n, s⟩ ∧ (x.sealed.length : Int) + 1 = (n1 : Int) + 1) := ⟨by unfold Ag.item; rw [hL.length], by rw [hL.length]⟩
  clear hL hP hc1 hc2 hu hsf hf hs hl
  have HB0 : Hid (SealW w #[.int .i64 x.id, .int .i64 x.epoch, .bool x.live, .int .i64 x.granted, .slice a1 n1 c1, .slice a2 n2 c2, .int .i64 x.next] #[.int .i64 s.count, .int .i64 s.sum, .int .i64 s.min, .int .i64 s.max, .slice b1 m1 d1, .slice b2 m2 d2, .slice b3 m3 d3] (((w.alloc (.cells #[.int .i64 x.id, .int .i64 x.epoch, .bool x.live, .int .i64 x.granted, .slice a1 n1 c1, .slice a2 n2 c2, .int .i64 x.next] 25)).alloc (.cells #[.int .i64 s.count, .int .i64 s.sum, .int .i64 s.min, .int .i64 s.max, .slice b1 m1 d1, .slice b2 m2 d2, .slice b3 m3 d3] 44)).alloc (.cells #[.int .i64 0, .int .i64 0, .bool false, .int .i64 0, .slice none 0 0, .slice none 0 0, .int .i64 0] 25))) := SealW.made _ _ _
  go_enter Try.func18, Try.ntmps18
  go_wp2_with (first | go_skip | (with_reducible refine stopLoad 25 rfl ?_))
  obtain ⟨W0, hW0⟩ : ∃ W, W = ((w.alloc (.cells #[.int .i64 x.id, .int .i64 x.epoch, .bool x.live, .int .i64 x.granted, .slice a1 n1 c1, .slice a2 n2 c2, .int .i64 x.next] 25)).alloc (.cells #[.int .i64 s.count, .int .i64 s.sum, .int .i64 s.min, .int .i64 s.max, .slice b1 m1 d1, .slice b2 m2 d2, .slice b3 m3 d3] 44)).alloc (.cells #[.int .i64 0, .int .i64 0, .bool false, .int .i64 0, .slice none 0 0, .slice none 0 0, .int .i64 0] 25) := ⟨_, rfl⟩
  rw [← hW0] at HB0 ⊢
  clear hW0
  refine load_known 25 w.heap.size _ 25 _ HB0.out.box rfl rfl rfl Try.underlying25 rfl infoAgQImpl ?_
  go_wp2_with fail
  refine (copiedAgent_grow _ x F0 G0 _ (HX.out.1.below HB0.out.bel) HF.out.1 HF.out.2.1 HF.out.2.2).mono ?_
  intro e w2 hnew
  obtain ⟨q1, k1, q2, l2, k2, F, G, GG, lo, vs, rfl, hsc, hb2⟩ := hnew.at HX.out.2
  have HC2 : Hid (SealW w #[.int .i64 x.id, .int .i64 x.epoch, .bool x.live, .int .i64 x.granted, .slice a1 n1 c1, .slice a2 n2 c2, .int .i64 x.next] #[.int .i64 s.count, .int .i64 s.sum, .int .i64 s.min, .int .i64 s.max, .slice b1 m1 d1, .slice b2 m2 d2, .slice b3 m3 d3] w2 ∧ SealC W0.heap.size w2.heap.size lo n1 x q1 k1 q2 l2 k2 F G GG vs w2 ∧ w.heap.size + 3 ≤ W0.heap.size ∧ W0.heap.size ≤ w2.heap.size) := ⟨HB0.out.below hb2, hsc, HB0.out.res.lt, hb2.size⟩
  obtain ⟨B, hB⟩ : ∃ B, B = W0.heap.size := ⟨_, rfl⟩
  rw [← hB] at HC2
  clear hnew hsc hb2 HB0 hB
  go_wp2_with (first | go_skip | (with_reducible refine stopStore 25 rfl ?_))
  refine store_fresh 25 w2.heap.size rfl #[.int .i64 0, .int .i64 0, .bool false, .int .i64 0, .slice none 0 0, .slice none 0 0, .int .i64 0] #[.int .i64 x.id, .int .i64 x.epoch, .bool x.live, .int .i64 x.granted, .slice q1 n1 k1, .slice q2 l2 k2, .int .i64 x.next] 25 rfl rfl rfl rfl infoAgQImpl rfl (by simp [Value.oneCell']) ?_
  intro w3 hg3 hb3
  have HL3 : Hid (SealL w #[.int .i64 x.id, .int .i64 x.epoch, .bool x.live, .int .i64 x.granted, .slice a1 n1 c1, .slice a2 n2 c2, .int .i64 x.next] #[.int .i64 s.count, .int .i64 s.sum, .int .i64 s.min, .int .i64 s.max, .slice b1 m1 d1, .slice b2 m2 d2, .slice b3 m3 d3] B w2.heap.size lo n1 x q1 k1 q2 l2 k2 F G GG vs w3) := ⟨HC2.out.1.below hb3, hg3, HC2.out.2.1.below hb3, HC2.out.2.2.1, HC2.out.2.2.2⟩
  obtain ⟨L, hL⟩ : ∃ L, L = w2.heap.size := ⟨_, rfl⟩
  rw [← hL] at HL3 ⊢
  clear hg3 hb3 HC2 hL
  go_wp2_with fail
  have HLd : Hid (SealL w #[.int .i64 x.id, .int .i64 x.epoch, .bool x.live, .int .i64 x.granted, .slice a1 n1 c1, .slice a2 n2 c2, .int .i64 x.next] #[.int .i64 s.count, .int .i64 s.sum, .int .i64 s.min, .int .i64 s.max, .slice b1 m1 d1, .slice b2 m2 d2, .slice b3 m3 d3] B L lo n1 x q1 k1 q2 l2 k2 F G GG vs w3.drew) := HL3.out.below (Below.refl _ _).drew
  obtain ⟨Y0, hY0⟩ : ∃ Y, Y = w3.drew := ⟨_, rfl⟩
  rw [← hY0] at HLd
  clear HL3
  refine wp_region_held (S := SealW w #[.int .i64 x.id, .int .i64 x.epoch, .bool x.live, .int .i64 x.granted, .slice a1 n1 c1, .slice a2 n2 c2, .int .i64 x.next] #[.int .i64 s.count, .int .i64 s.sum, .int .i64 s.min, .int .i64 s.max, .slice b1 m1 d1, .slice b2 m2 d2, .slice b3 m3 d3]) (by kernel_rfl) ?_
  change wpAnyH _ _ _ _ _ _ _ _ (World.drew _)
  rw [← hY0]
  clear hY0
  refine takeH (o := ?o33) 0 (.pointer (some ⟨w.heap.size, 4, none⟩)) ?h33 ?r33
  case h33 => simp only [aT, aZ]; rfl
  refine ⟨_, by simp [Act.put]; rfl, by kernel_rfl, by kernel_rfl, by kernel_rfl, fun _ _ _ h => h, (.inl ⟨rfl, fun W _ => by kernel_rfl⟩), HLd.out.base, ?_⟩
  refine takeH (o := ?o34) 1 (.slice a1 n1 c1) ?h34 ?r34
  case h34 => simp only [aT, aS, aZ]; rfl
  refine ⟨_, by simp [Act.put]; rfl, by kernel_rfl, by kernel_rfl, by kernel_rfl, fun _ _ _ h => h, (.inl ⟨rfl, fun W hW => by have c := hW.box.cell 4; simp only [aT, aS, aZ] at c; go_simp⟩), HLd.out.base, ?_⟩
  refine takeH (o := ?o35) 2 (.int .i64 n1) ?h35 ?r35
  case h35 => simp only [aT, aS, aZ]; rfl
  refine ⟨_, by simp [Act.put]; rfl, by kernel_rfl, by kernel_rfl, by kernel_rfl, fun _ _ _ h => h, (.inl ⟨rfl, fun W _ => by go_simp⟩), HLd.out.base, ?_⟩
  refine takeH (o := ?o36) 3 (.int .i64 ((n1 : Int) + 1)) ?h36 ?r36
  case h36 => simp only [aT, aS, aZ]; rfl
  refine ⟨_, by simp [Act.put]; rfl, by kernel_rfl, by kernel_rfl, by kernel_rfl, fun _ _ _ h => h, (.inl ⟨rfl, fun W _ => by go_simp; exact wrapI (by omega)⟩), HLd.out.base, ?_⟩
  refine takeH (o := ?o37) 4 (.int .i64 c) ?h37 ?r37
  case h37 => simp only [aT, aS, aZ]; rfl
  refine ⟨_, by simp [Act.put]; rfl, by kernel_rfl, by kernel_rfl, by kernel_rfl, fun _ _ _ h => h, (.inl ⟨rfl, fun W _ => by kernel_rfl⟩), HLd.out.base, ?_⟩
  refine takeH (o := ?o38) 5 (.int .i64 k) ?h38 ?r38
  case h38 => simp only [aT, aS, aZ]; rfl
  refine ⟨_, by simp [Act.put]; rfl, by kernel_rfl, by kernel_rfl, by kernel_rfl, fun _ _ _ h => h, (.inl ⟨rfl, fun W _ => by kernel_rfl⟩), HLd.out.base, ?_⟩
  refine takeH (o := ?o39) 6 (.int .i64 n) ?h39 ?r39
  case h39 => simp only [aT, aS, aZ]; rfl
  refine ⟨_, by simp [Act.put]; rfl, by kernel_rfl, by kernel_rfl, by kernel_rfl, fun _ _ _ h => h, (.inl ⟨rfl, fun W _ => by kernel_rfl⟩), HLd.out.base, ?_⟩
  refine takeH (o := ?o40) 7 (.agg #[.int .i64 s.count, .int .i64 s.sum, .int .i64 s.min, .int .i64 s.max, .slice b1 m1 d1, .slice b2 m2 d2, .slice b3 m3 d3]) ?h40 ?r40
  case h40 => simp only [aT, aS, aZ]; rfl
  refine ⟨_, by simp [Act.put]; rfl, by kernel_rfl, by kernel_rfl, by kernel_rfl, fun _ _ _ h => h, (yields_whole 44 (w.heap.size + 1) #[.int .i64 s.count, .int .i64 s.sum, .int .i64 s.min, .int .i64 s.max, .slice b1 m1 d1, .slice b2 m2 d2, .slice b3 m3 d3] 44 _ rfl rfl rfl Try.underlying44 rfl infoSkQImpl (fun W hW => hW.sk)), HLd.out.base, ?_⟩
  refine twoH (o := ?o41) (o' := ?p41) 8 10 (by kernel_rfl) ?h41 ?g41 ?r41 ?s41
  case h41 => simp only [aT, aS, aZ]; rfl
  case g41 => simp only [aT, aS, aZ]; rfl
  case r41 =>
    intro K hK
    refine op_call1 54 _ _ Try.f54 (fun v w' => ∃ F, RdSk w' v s F ∧ Own Y0.heap.size w' F ∧ Below Y0.heap.size Y0 w') rfl rfl Try.func54 (by kernel_rfl) (by kernel_rfl) ((copiedSketch_all (.agg #[.int .i64 s.count, .int .i64 s.sum, .int .i64 s.min, .int .i64 s.max, .slice b1 m1 d1, .slice b2 m2 d2, .slice b3 m3 d3]) s H0 Y0 (HU.out.1.below HLd.out.base.bel) HU.out.2).mono (by rintro e w' ⟨v, F, rfl, k1, k2, k3⟩; exact ⟨_, rfl, F, k1, k2, k3⟩)) ?_
    rintro vr Y9 ⟨Fr, rr, ro, rb⟩
    obtain ⟨u1, v1, y1, u2, v2, y2, u3, v3, y3, rfl⟩ := rr.cells7
    have RR9 : Hid (RdIt Y9 (.agg #[.int .i64 ((n1 : Int) + 1), .int .i64 c, .int .i64 k, .int .i64 n, .int .i64 s.count, .int .i64 s.sum, .int .i64 s.min, .int .i64 s.max, .slice u1 v1 y1, .slice u2 v2 y2, .slice u3 v3 y3]) ⟨(n1 : Int) + 1, c, k, n, s⟩ Fr ∧ Own (L + 1) Y9 Fr) := ⟨⟨u1, v1, y1, u2, v2, y2, u3, v3, y3, rfl, rr⟩, ro.mono HLd.out.loc.lt⟩
    have HL9 : Hid (SealL w #[.int .i64 x.id, .int .i64 x.epoch, .bool x.live, .int .i64 x.granted, .slice a1 n1 c1, .slice a2 n2 c2, .int .i64 x.next] #[.int .i64 s.count, .int .i64 s.sum, .int .i64 s.min, .int .i64 s.max, .slice b1 m1 d1, .slice b2 m2 d2, .slice b3 m3 d3] B L lo n1 x q1 k1 q2 l2 k2 F G GG vs Y9) := HLd.out.below rb

    refine ⟨_, by simp [Act.put]; rfl, hK _ _ ⟨HL9.out.base, ?_⟩⟩
    clear hK rr ro rb
    refine takeH (o := ?o42) 9 (.agg #[.int .i64 ((n1 : Int) + 1), .int .i64 c, .int .i64 k, .int .i64 n, .int .i64 s.count, .int .i64 s.sum, .int .i64 s.min, .int .i64 s.max, .slice u1 v1 y1, .slice u2 v2 y2, .slice u3 v3 y3]) ?h42 ?r42
    case h42 => simp only [aT, aS, aZ]; rfl
    refine ⟨_, by simp [Act.put]; rfl, by kernel_rfl, by kernel_rfl, by kernel_rfl, fun _ _ _ h => h, (.inl ⟨rfl, fun W _ => by kernel_rfl⟩), HL9.out.base, ?_⟩
    refine onlyH (o := ?o43) 10 (by kernel_rfl) ?h43 ?r43
    case h43 => simp only [aT, aS, aZ]; rfl
    intro K hK
    have bl : Below Y9.heap.size Y9 (Y9.alloc (.cells #[.int .i64 0, .int .i64 0, .int .i64 0, .int .i64 0, .int .i64 0, .int .i64 0, .int .i64 0, .int .i64 0, .slice none 0 0, .slice none 0 0, .slice none 0 0] 54)) := (Below.refl _ _).alloc (Nat.le_refl _) _
    have HL10 : Hid (SealL w #[.int .i64 x.id, .int .i64 x.epoch, .bool x.live, .int .i64 x.granted, .slice a1 n1 c1, .slice a2 n2 c2, .int .i64 x.next] #[.int .i64 s.count, .int .i64 s.sum, .int .i64 s.min, .int .i64 s.max, .slice b1 m1 d1, .slice b2 m2 d2, .slice b3 m3 d3] B L lo n1 x q1 k1 q2 l2 k2 F G GG vs (Y9.alloc (.cells #[.int .i64 0, .int .i64 0, .int .i64 0, .int .i64 0, .int .i64 0, .int .i64 0, .int .i64 0, .int .i64 0, .slice none 0 0, .slice none 0 0, .slice none 0 0] 54))) := HL9.out.below bl
    have RR10 : Hid (RdIt (Y9.alloc (.cells #[.int .i64 0, .int .i64 0, .int .i64 0, .int .i64 0, .int .i64 0, .int .i64 0, .int .i64 0, .int .i64 0, .slice none 0 0, .slice none 0 0, .slice none 0 0] 54)) (.agg #[.int .i64 ((n1 : Int) + 1), .int .i64 c, .int .i64 k, .int .i64 n, .int .i64 s.count, .int .i64 s.sum, .int .i64 s.min, .int .i64 s.max, .slice u1 v1 y1, .slice u2 v2 y2, .slice u3 v3 y3]) ⟨(n1 : Int) + 1, c, k, n, s⟩ Fr ∧ Own (L + 1) (Y9.alloc (.cells #[.int .i64 0, .int .i64 0, .int .i64 0, .int .i64 0, .int .i64 0, .int .i64 0, .int .i64 0, .int .i64 0, .slice none 0 0, .slice none 0 0, .slice none 0 0] 54)) Fr) := ⟨RR9.out.1.below bl, RR9.out.2.below (RdIt.lt RR9.out.1) bl⟩
    have HX10 : Hid (Blk (Y9.alloc (.cells #[.int .i64 0, .int .i64 0, .int .i64 0, .int .i64 0, .int .i64 0, .int .i64 0, .int .i64 0, .int .i64 0, .slice none 0 0, .slice none 0 0, .slice none 0 0] 54)) Y9.heap.size #[.int .i64 0, .int .i64 0, .int .i64 0, .int .i64 0, .int .i64 0, .int .i64 0, .int .i64 0, .int .i64 0, .slice none 0 0, .slice none 0 0, .slice none 0 0] 54 ∧ Y9.heap.size ∉ Fr ∧ L < Y9.heap.size) := ⟨Blk.made _ _ _, fun hx => by have := RdIt.lt RR9.out.1 _ hx; omega, HL9.out.loc.lt⟩
    refine op_turn (.pointer (some ⟨Y9.heap.size, 0, none⟩)) (Y9.alloc (.cells #[.int .i64 0, .int .i64 0, .int .i64 0, .int .i64 0, .int .i64 0, .int .i64 0, .int .i64 0, .int .i64 0, .slice none 0 0, .slice none 0 0, .slice none 0 0] 54)) rfl (by kernel_rfl) ⟨_, by simp [Act.put]; rfl, hK _ _ ⟨HL10.out.base, ?_⟩⟩
    clear hK bl
    obtain ⟨X10, hL10⟩ : ∃ z, z = Y9.heap.size := ⟨_, rfl⟩
    obtain ⟨Y10, hY10⟩ : ∃ Z, Z = (Y9.alloc (.cells #[.int .i64 0, .int .i64 0, .int .i64 0, .int .i64 0, .int .i64 0, .int .i64 0, .int .i64 0, .int .i64 0, .slice none 0 0, .slice none 0 0, .slice none 0 0] 54)) := ⟨_, rfl⟩
    rw [← hY10, ← hL10] at HX10
    rw [← hY10] at HL10 RR10 ⊢
    rw [← hL10]
    clear hY10 hL10
    refine onlyH (o := ?o44) 11 (by kernel_rfl) ?h44 ?r44
    case h44 => simp only [aT, aS, aZ]; rfl
    intro K hK
    have HX11 : Hid (SealL w #[.int .i64 x.id, .int .i64 x.epoch, .bool x.live, .int .i64 x.granted, .slice a1 n1 c1, .slice a2 n2 c2, .int .i64 x.next] #[.int .i64 s.count, .int .i64 s.sum, .int .i64 s.min, .int .i64 s.max, .slice b1 m1 d1, .slice b2 m2 d2, .slice b3 m3 d3] B L lo n1 x q1 k1 q2 l2 k2 F G GG vs (Y10.setRow X10 #[.int .i64 ((n1 : Int) + 1), .int .i64 c, .int .i64 k, .int .i64 n, .int .i64 s.count, .int .i64 s.sum, .int .i64 s.min, .int .i64 s.max, .slice u1 v1 y1, .slice u2 v2 y2, .slice u3 v3 y3]) ∧ Blk (Y10.setRow X10 #[.int .i64 ((n1 : Int) + 1), .int .i64 c, .int .i64 k, .int .i64 n, .int .i64 s.count, .int .i64 s.sum, .int .i64 s.min, .int .i64 s.max, .slice u1 v1 y1, .slice u2 v2 y2, .slice u3 v3 y3]) X10 #[.int .i64 ((n1 : Int) + 1), .int .i64 c, .int .i64 k, .int .i64 n, .int .i64 s.count, .int .i64 s.sum, .int .i64 s.min, .int .i64 s.max, .slice u1 v1 y1, .slice u2 v2 y2, .slice u3 v3 y3] 54 ∧ RdIt (Y10.setRow X10 #[.int .i64 ((n1 : Int) + 1), .int .i64 c, .int .i64 k, .int .i64 n, .int .i64 s.count, .int .i64 s.sum, .int .i64 s.min, .int .i64 s.max, .slice u1 v1 y1, .slice u2 v2 y2, .slice u3 v3 y3]) (.agg #[.int .i64 ((n1 : Int) + 1), .int .i64 c, .int .i64 k, .int .i64 n, .int .i64 s.count, .int .i64 s.sum, .int .i64 s.min, .int .i64 s.max, .slice u1 v1 y1, .slice u2 v2 y2, .slice u3 v3 y3]) ⟨(n1 : Int) + 1, c, k, n, s⟩ Fr ∧ Own (L + 1) (Y10.setRow X10 #[.int .i64 ((n1 : Int) + 1), .int .i64 c, .int .i64 k, .int .i64 n, .int .i64 s.count, .int .i64 s.sum, .int .i64 s.min, .int .i64 s.max, .slice u1 v1 y1, .slice u2 v2 y2, .slice u3 v3 y3]) Fr ∧ L < X10) :=
      ⟨HL10.out.row HX10.out.2.2 _, HX10.out.1.setRow, RdIt.agree RR10.out.1 (Agree.row HX10.out.2.1 _), RR10.out.2.agree (Agree.row HX10.out.2.1 _), HX10.out.2.2⟩
    refine op_store 54 X10 #[.int .i64 0, .int .i64 0, .int .i64 0, .int .i64 0, .int .i64 0, .int .i64 0, .int .i64 0, .int .i64 0, .slice none 0 0, .slice none 0 0, .slice none 0 0] #[.int .i64 ((n1 : Int) + 1), .int .i64 c, .int .i64 k, .int .i64 n, .int .i64 s.count, .int .i64 s.sum, .int .i64 s.min, .int .i64 s.max, .slice u1 v1 y1, .slice u2 v2 y2, .slice u3 v3 y3] 54 rfl rfl rfl rfl HX10.out.1 infoItQImpl rfl (by simp [Value.oneCell']) ⟨_, by simp [Act.put]; rfl, hK _ _ ⟨HX11.out.1.base, ?_⟩⟩
    clear hK
    refine wpAnyH_done (by kernel_rfl) ?_ _
    obtain ⟨w5, hw5⟩ : ∃ W, W = Y10.setRow X10 #[.int .i64 ((n1 : Int) + 1), .int .i64 c, .int .i64 k, .int .i64 n, .int .i64 s.count, .int .i64 s.sum, .int .i64 s.min, .int .i64 s.max, .slice u1 v1 y1, .slice u2 v2 y2, .slice u3 v3 y3] := ⟨_, rfl⟩
    obtain ⟨X, hX⟩ : ∃ z, z = X10 := ⟨_, rfl⟩
    have H5 : Hid (SealL w #[.int .i64 x.id, .int .i64 x.epoch, .bool x.live, .int .i64 x.granted, .slice a1 n1 c1, .slice a2 n2 c2, .int .i64 x.next] #[.int .i64 s.count, .int .i64 s.sum, .int .i64 s.min, .int .i64 s.max, .slice b1 m1 d1, .slice b2 m2 d2, .slice b3 m3 d3] B L lo n1 x q1 k1 q2 l2 k2 F G GG vs w5 ∧ Blk w5 X #[.int .i64 ((n1 : Int) + 1), .int .i64 c, .int .i64 k, .int .i64 n, .int .i64 s.count, .int .i64 s.sum, .int .i64 s.min, .int .i64 s.max, .slice u1 v1 y1, .slice u2 v2 y2, .slice u3 v3 y3] 54 ∧ RdIt w5 (.agg #[.int .i64 ((n1 : Int) + 1), .int .i64 c, .int .i64 k, .int .i64 n, .int .i64 s.count, .int .i64 s.sum, .int .i64 s.min, .int .i64 s.max, .slice u1 v1 y1, .slice u2 v2 y2, .slice u3 v3 y3]) ⟨(n1 : Int) + 1, c, k, n, s⟩ Fr ∧ Own (L + 1) w5 Fr ∧ L < X) := by rw [hw5, hX]; exact HX11.out
    rw [← hw5, ← hX]
    clear hw5 hX HX11 HL10 RR10 HX10
    go_wp2_with (first | go_skip | (with_reducible refine stopLoad 25 rfl ?_))
    refine load_known 25 w.heap.size _ 25 _ H5.out.1.base.box rfl rfl rfl Try.underlying25 rfl infoAgQImpl ?_
    go_wp2_with fail
    refine (agentOkImpl_any _ x F0 G0 _ (HX.out.1.below H5.out.1.base.bel) (fun y hy => (HF.out.1 y hy).wide) (by have := HF.out.2.1; omega) (by have := HF.out.2.2; omega)).mono ?_
    rintro e w6 ⟨rfl, hb6⟩
    have H6 : Hid (SealL w #[.int .i64 x.id, .int .i64 x.epoch, .bool x.live, .int .i64 x.granted, .slice a1 n1 c1, .slice a2 n2 c2, .int .i64 x.next] #[.int .i64 s.count, .int .i64 s.sum, .int .i64 s.min, .int .i64 s.max, .slice b1 m1 d1, .slice b2 m2 d2, .slice b3 m3 d3] B L lo n1 x q1 k1 q2 l2 k2 F G GG vs w6 ∧ Blk w6 X #[.int .i64 ((n1 : Int) + 1), .int .i64 c, .int .i64 k, .int .i64 n, .int .i64 s.count, .int .i64 s.sum, .int .i64 s.min, .int .i64 s.max, .slice u1 v1 y1, .slice u2 v2 y2, .slice u3 v3 y3] 54 ∧ RdIt w6 (.agg #[.int .i64 ((n1 : Int) + 1), .int .i64 c, .int .i64 k, .int .i64 n, .int .i64 s.count, .int .i64 s.sum, .int .i64 s.min, .int .i64 s.max, .slice u1 v1 y1, .slice u2 v2 y2, .slice u3 v3 y3]) ⟨(n1 : Int) + 1, c, k, n, s⟩ Fr ∧ Own (L + 1) w6 Fr ∧ L < X) := ⟨H5.out.1.below hb6, H5.out.2.1.below hb6, RdIt.below H5.out.2.2.1 hb6, H5.out.2.2.2.1.below (RdIt.lt H5.out.2.2.1) hb6, H5.out.2.2.2.2⟩
    obtain ⟨d, hd⟩ : ∃ d, d = x.ok := ⟨_, rfl⟩
    rw [← hd]
    have HD : Hid (d = x.ok) := hd
    clear hb6 hd H5
    cases d
    · have HV : Hid (x.seal c k n s = (x, 0)) := by show _ = _; unfold Ag.seal; rw [← HD.out]; rfl
      go_wp2_with (first | go_skip | (with_reducible refine stopLoad 25 rfl ?_))
      refine load_known 25 L _ 25 _ H6.out.1.loc rfl rfl rfl Try.underlying25 rfl infoAgQImpl ?_
      go_wp2_with (first | go_skip | (with_reducible refine stopStore 25 rfl ?_))
      refine store_known 25 (w.heap.size + 1 + 1) _ #[.int .i64 x.id, .int .i64 x.epoch, .bool x.live, .int .i64 x.granted, .slice q1 n1 k1, .slice q2 l2 k2, .int .i64 x.next] 25 H6.out.1.base.res rfl rfl rfl rfl infoAgQImpl rfl (by simp [Value.oneCell']) ?_
      go_wp2
      refine bodyPost_ret (results_row_tmp Try.results18 _ _ (w.heap.size + 1 + 1) _ _ _ _ rfl H6.out.1.base.res.setRow Try.underlying25 rfl infoAgQImpl) rfl ?_
      have gB := H6.out.1.gB
      have nr : w.heap.size + 1 + 1 ∉ F := fun hx => by have := H6.out.1.c.oF.ge _ hx; omega
      have mr : w.heap.size + 1 + 1 ∉ G := fun hx => by have := H6.out.1.c.oG.ge _ hx; omega
      rw [HV.out]
      exact ⟨_, F, G, _, rfl, ⟨q1, n1, k1, q2, l2, k2, rfl, H6.out.1.c.rl.agree (Agree.row nr _), H6.out.1.c.rp.agree (Agree.row mr _), H6.out.1.c.cp1, H6.out.1.c.cp2⟩, rfl, (H6.out.1.c.oF.agree (Agree.row nr _)).mono (by omega), (H6.out.1.c.oG.agree (Agree.row mr _)).mono (by omega), H6.out.1.c.ap, below_setRow H6.out.1.base.bel (by omega) _⟩
    have HD1 : Hid (x.ok = true) := HD.out.symm
    clear HD
    go_wp2_with (first | go_skip | (with_reducible refine stopLoad 54 rfl ?_))
    refine load_knownw8 54 X _ 54 _ H6.out.2.1 rfl rfl rfl Try.underlying54 rfl infoItQImpl ?_
    go_wp2_with fail
    refine (itemOkImpl_any _ ⟨(n1 : Int) + 1, c, k, n, s⟩ Fr _ H6.out.2.2.1 HU.out.2.wide).mono ?_
    rintro e w7 ⟨rfl, hb7⟩
    have H7 : Hid (SealL w #[.int .i64 x.id, .int .i64 x.epoch, .bool x.live, .int .i64 x.granted, .slice a1 n1 c1, .slice a2 n2 c2, .int .i64 x.next] #[.int .i64 s.count, .int .i64 s.sum, .int .i64 s.min, .int .i64 s.max, .slice b1 m1 d1, .slice b2 m2 d2, .slice b3 m3 d3] B L lo n1 x q1 k1 q2 l2 k2 F G GG vs w7 ∧ Blk w7 X #[.int .i64 ((n1 : Int) + 1), .int .i64 c, .int .i64 k, .int .i64 n, .int .i64 s.count, .int .i64 s.sum, .int .i64 s.min, .int .i64 s.max, .slice u1 v1 y1, .slice u2 v2 y2, .slice u3 v3 y3] 54 ∧ RdIt w7 (.agg #[.int .i64 ((n1 : Int) + 1), .int .i64 c, .int .i64 k, .int .i64 n, .int .i64 s.count, .int .i64 s.sum, .int .i64 s.min, .int .i64 s.max, .slice u1 v1 y1, .slice u2 v2 y2, .slice u3 v3 y3]) ⟨(n1 : Int) + 1, c, k, n, s⟩ Fr ∧ Own (L + 1) w7 Fr ∧ L < X) := ⟨H6.out.1.below hb7, H6.out.2.1.below hb7, RdIt.below H6.out.2.2.1 hb7, H6.out.2.2.2.1.below (RdIt.lt H6.out.2.2.1) hb7, H6.out.2.2.2.2⟩
    obtain ⟨d, hd⟩ : ∃ d, d = It.ok ⟨(n1 : Int) + 1, c, k, n, s⟩ := ⟨_, rfl⟩
    rw [← hd]
    have HD : Hid (d = (x.item c k n s).ok) := by show _ = _; rw [HI.out.1]; exact hd
    clear hb7 hd H6
    cases d
    · have HV : Hid (x.seal c k n s = (x, 0)) := by show _ = _; unfold Ag.seal; rw [← HD.out]; simp
      go_wp2_with (first | go_skip | (with_reducible refine stopLoad 25 rfl ?_))
      refine load_known 25 L _ 25 _ H7.out.1.loc rfl rfl rfl Try.underlying25 rfl infoAgQImpl ?_
      go_wp2_with (first | go_skip | (with_reducible refine stopStore 25 rfl ?_))
      refine store_known 25 (w.heap.size + 1 + 1) _ #[.int .i64 x.id, .int .i64 x.epoch, .bool x.live, .int .i64 x.granted, .slice q1 n1 k1, .slice q2 l2 k2, .int .i64 x.next] 25 H7.out.1.base.res rfl rfl rfl rfl infoAgQImpl rfl (by simp [Value.oneCell']) ?_
      go_wp2
      refine bodyPost_ret (results_row_tmp Try.results18 _ _ (w.heap.size + 1 + 1) _ _ _ _ rfl H7.out.1.base.res.setRow Try.underlying25 rfl infoAgQImpl) rfl ?_
      have gB := H7.out.1.gB
      have nr : w.heap.size + 1 + 1 ∉ F := fun hx => by have := H7.out.1.c.oF.ge _ hx; omega
      have mr : w.heap.size + 1 + 1 ∉ G := fun hx => by have := H7.out.1.c.oG.ge _ hx; omega
      rw [HV.out]
      exact ⟨_, F, G, _, rfl, ⟨q1, n1, k1, q2, l2, k2, rfl, H7.out.1.c.rl.agree (Agree.row nr _), H7.out.1.c.rp.agree (Agree.row mr _), H7.out.1.c.cp1, H7.out.1.c.cp2⟩, rfl, (H7.out.1.c.oF.agree (Agree.row nr _)).mono (by omega), (H7.out.1.c.oG.agree (Agree.row mr _)).mono (by omega), H7.out.1.c.ap, below_setRow H7.out.1.base.bel (by omega) _⟩
    have HV : Hid (x.seal c k n s = (x.plus (x.item c k n s), (n1 : Int) + 1)) := by show _ = _; unfold Ag.seal; rw [if_pos ⟨HD1.out, HD.out.symm⟩, HI.out.2]
    have c4 := H7.out.1.loc.cell 4
    simp only [aT, aS, aZ] at c4
    go_wp2_with (first | go_skip | (with_reducible refine stopLoad 54 rfl ?_))
    refine load_known 54 X _ 54 _ H7.out.2.1 rfl rfl rfl Try.underlying54 rfl infoItQImpl ?_
    go_wp2_with (with_reducible refine stopAppend rfl ?_)
    obtain ⟨W8, hW8⟩ : ∃ W, W = w7.alloc (.cells #[.int .i64 ((n1 : Int) + 1), .int .i64 c, .int .i64 k, .int .i64 n, .int .i64 s.count, .int .i64 s.sum, .int .i64 s.min, .int .i64 s.max, .slice u1 v1 y1, .slice u2 v2 y2, .slice u3 v3 y3] 54) := ⟨_, rfl⟩
    have hbn : Below w7.heap.size w7 W8 := by rw [hW8]; exact (Below.refl _ _).alloc (Nat.le_refl _) _
    have HCN : Hid (∀ (j : Nat) (u : Value), #[.int .i64 ((n1 : Int) + 1), .int .i64 c, .int .i64 k, .int .i64 n, .int .i64 s.count, .int .i64 s.sum, .int .i64 s.min, .int .i64 s.max, .slice u1 v1 y1, .slice u2 v2 y2, .slice u3 v3 y3].toList[j]? = some u → W8.cell? ((⟨w7.heap.size, 0, none⟩ : Addr).add j) = some u) := by rw [hW8]; exact news_lit w7 #[.int .i64 ((n1 : Int) + 1), .int .i64 c, .int .i64 k, .int .i64 n, .int .i64 s.count, .int .i64 s.sum, .int .i64 s.min, .int .i64 s.max, .slice u1 v1 y1, .slice u2 v2 y2, .slice u3 v3 y3] 54
    have H8 : Hid (SealL w #[.int .i64 x.id, .int .i64 x.epoch, .bool x.live, .int .i64 x.granted, .slice a1 n1 c1, .slice a2 n2 c2, .int .i64 x.next] #[.int .i64 s.count, .int .i64 s.sum, .int .i64 s.min, .int .i64 s.max, .slice b1 m1 d1, .slice b2 m2 d2, .slice b3 m3 d3] B L lo n1 x q1 k1 q2 l2 k2 F G GG vs W8 ∧ Blk W8 X #[.int .i64 ((n1 : Int) + 1), .int .i64 c, .int .i64 k, .int .i64 n, .int .i64 s.count, .int .i64 s.sum, .int .i64 s.min, .int .i64 s.max, .slice u1 v1 y1, .slice u2 v2 y2, .slice u3 v3 y3] 54 ∧ RdIt W8 (.agg #[.int .i64 ((n1 : Int) + 1), .int .i64 c, .int .i64 k, .int .i64 n, .int .i64 s.count, .int .i64 s.sum, .int .i64 s.min, .int .i64 s.max, .slice u1 v1 y1, .slice u2 v2 y2, .slice u3 v3 y3]) ⟨(n1 : Int) + 1, c, k, n, s⟩ Fr ∧ Own (L + 1) W8 Fr ∧ L < X) := ⟨H7.out.1.below hbn, H7.out.2.1.below hbn, RdIt.below H7.out.2.2.1 hbn, H7.out.2.2.2.1.below (RdIt.lt H7.out.2.2.1) hbn, H7.out.2.2.2.2⟩
    rw [← hW8]
    clear hW8 hbn H7 c4
    refine Stop.intro (wpList_append_lies _ rfl _ _ 22 rfl lo 54 j0 (.agg #[.int .i64 0, .int .i64 0, .int .i64 0, .int .i64 0, .int .i64 0, .int .i64 0, .int .i64 0, .int .i64 0, .slice none 0 0, .slice none 0 0, .slice none 0 0]) 11 136 Try.underlying22 hj hy0 hy1 hy2 rfl (by decide) (.slice q1 n1 k1) n1 vs rfl H8.out.1.c.gr.row ⟨w7.heap.size, 0, none⟩ 1 1 #[.int .i64 ((n1 : Int) + 1), .int .i64 c, .int .i64 k, .int .i64 n, .int .i64 s.count, .int .i64 s.sum, .int .i64 s.min, .int .i64 s.max, .slice u1 v1 y1, .slice u2 v2 y2, .slice u3 v3 y3].toList rfl rfl HCN.out (by simp [Value.oneCell']) (by omega) (by unfold maxLen; omega) (by omega) H8.out.1.c.gr.lw _ rfl ?_)
    intro g4 cp4 W9 hown hgrow hat hlt9
    obtain ⟨ST1, ST2, F', ST3⟩ := H8.out.1.done H8.out.2.2.1 rfl H8.out.2.2.2.1 hown hgrow hat
    have HXB : Hid (Blk W9 X #[.int .i64 ((n1 : Int) + 1), .int .i64 c, .int .i64 k, .int .i64 n, .int .i64 s.count, .int .i64 s.sum, .int .i64 s.min, .int .i64 s.max, .slice u1 v1 y1, .slice u2 v2 y2, .slice u3 v3 y3] 54 ∧ L < X) := ⟨H8.out.2.1.agree (hgrow.block _ H8.out.2.1.lt (fun e => by have := H8.out.1.c.l4 X e.symm; have := H8.out.2.2.2.2; omega)), H8.out.2.2.2.2⟩
    have H9 : Hid (SealD w #[.int .i64 x.id, .int .i64 x.epoch, .bool x.live, .int .i64 x.granted, .slice a1 n1 c1, .slice a2 n2 c2, .int .i64 x.next] #[.int .i64 s.count, .int .i64 s.sum, .int .i64 s.min, .int .i64 s.max, .slice b1 m1 d1, .slice b2 m2 d2, .slice b3 m3 d3] L #[.int .i64 x.id, .int .i64 x.epoch, .bool x.live, .int .i64 x.granted, .slice (some ⟨g4, 0, none⟩) (n1 + 1) cp4, .slice q2 l2 k2, .int .i64 x.next] (x.plus (x.item c k n s)) F' G (W9.setCell ⟨L, 4, none⟩ (.slice (some ⟨g4, 0, none⟩) (n1 + 1) cp4)) ∧ Blk (W9.setCell ⟨L, 4, none⟩ (.slice (some ⟨g4, 0, none⟩) (n1 + 1) cp4)) X #[.int .i64 ((n1 : Int) + 1), .int .i64 c, .int .i64 k, .int .i64 n, .int .i64 s.count, .int .i64 s.sum, .int .i64 s.min, .int .i64 s.max, .slice u1 v1 y1, .slice u2 v2 y2, .slice u3 v3 y3] 54 ∧ L < X) := ⟨by rw [HI.out.1]; exact ST3, HXB.out.1.setOther (by have := HXB.out.2; omega) 4 _, HXB.out.2⟩
    have c4 := ST2.cell 4
    have f4 := ST2.frozen 4
    simp only [aT, aS, aZ] at c4
    clear hown hgrow hat hlt9 ST1 ST2 ST3 H8 HCN HXB
    go_wp2_with fail
    obtain ⟨w10, hw10⟩ : ∃ W, W = W9.setCell ⟨L, 4, none⟩ (.slice (some ⟨g4, 0, none⟩) (n1 + 1) cp4) := ⟨_, rfl⟩
    rw [← hw10] at H9
    try rw [← hw10]
    have HE : Hid (SealD w #[.int .i64 x.id, .int .i64 x.epoch, .bool x.live, .int .i64 x.granted, .slice a1 n1 c1, .slice a2 n2 c2, .int .i64 x.next] #[.int .i64 s.count, .int .i64 s.sum, .int .i64 s.min, .int .i64 s.max, .slice b1 m1 d1, .slice b2 m2 d2, .slice b3 m3 d3] L #[.int .i64 x.id, .int .i64 x.epoch, .bool x.live, .int .i64 x.granted, .slice (some ⟨g4, 0, none⟩) (n1 + 1) cp4, .slice q2 l2 k2, .int .i64 x.next] (x.plus (x.item c k n s)) F' G w10.drew ∧ Blk w10.drew X #[.int .i64 ((n1 : Int) + 1), .int .i64 c, .int .i64 k, .int .i64 n, .int .i64 s.count, .int .i64 s.sum, .int .i64 s.min, .int .i64 s.max, .slice u1 v1 y1, .slice u2 v2 y2, .slice u3 v3 y3] 54 ∧ L < X) := ⟨H9.out.1.below (Below.refl _ _).drew, H9.out.2.1.below (Below.refl _ _).drew, H9.out.2.2⟩
    obtain ⟨Z0, hZ0⟩ : ∃ Y, Y = w10.drew := ⟨_, rfl⟩
    rw [← hZ0] at HE
    clear H9 c4 f4 hw10
    refine wp_region_held (S := fun W => Blk W L #[.int .i64 x.id, .int .i64 x.epoch, .bool x.live, .int .i64 x.granted, .slice (some ⟨g4, 0, none⟩) (n1 + 1) cp4, .slice q2 l2 k2, .int .i64 x.next] 25 ∧ Blk W X #[.int .i64 ((n1 : Int) + 1), .int .i64 c, .int .i64 k, .int .i64 n, .int .i64 s.count, .int .i64 s.sum, .int .i64 s.min, .int .i64 s.max, .slice u1 v1 y1, .slice u2 v2 y2, .slice u3 v3 y3] 54) (by kernel_rfl) ?_
    change wpAnyH _ _ _ _ _ _ _ _ (World.drew _)
    rw [← hZ0]
    clear hZ0
    refine takeH (o := ?o48x) 0 (.agg #[.int .i64 x.id, .int .i64 x.epoch, .bool x.live, .int .i64 x.granted, .slice (some ⟨g4, 0, none⟩) (n1 + 1) cp4, .slice q2 l2 k2, .int .i64 x.next]) ?h48x ?r48x
    case h48x => simp only [aT, aZ]; rfl
    refine ⟨_, by simp [Act.put]; rfl, by kernel_rfl, by kernel_rfl, by kernel_rfl, fun _ _ _ h => h, (yields_whole 25 L #[.int .i64 x.id, .int .i64 x.epoch, .bool x.live, .int .i64 x.granted, .slice (some ⟨g4, 0, none⟩) (n1 + 1) cp4, .slice q2 l2 k2, .int .i64 x.next] 25 _ rfl rfl rfl Try.underlying25 rfl infoAgQImpl (fun W hW => hW.1)), ⟨HE.out.1.loc, HE.out.2.1⟩, ?_⟩
    refine takeH (o := ?o49x) 1 (.pointer (some ⟨X, 0, none⟩)) ?h49x ?r49x
    case h49x => simp only [aT, aS, aZ]; rfl
    refine ⟨_, by simp [Act.put]; rfl, by kernel_rfl, by kernel_rfl, by kernel_rfl, fun _ _ _ h => h, (.inl ⟨rfl, fun W _ => by kernel_rfl⟩), ⟨HE.out.1.loc, HE.out.2.1⟩, ?_⟩
    refine takeH (o := ?o50x) 2 (.int .i64 ((n1 : Int) + 1)) ?h50x ?r50x
    case h50x => simp only [aT, aS, aZ]; rfl
    refine ⟨_, by simp [Act.put]; rfl, by kernel_rfl, by kernel_rfl, by kernel_rfl, fun _ _ _ h => h, (.inl ⟨rfl, fun W hW => by have c := hW.2.cell 0; simp only [aT, aZ] at c; go_simp⟩), ⟨HE.out.1.loc, HE.out.2.1⟩, ?_⟩
    refine onlyH (o := ?o51x) 3 (by kernel_rfl) ?h51x ?r51x
    case h51x => simp only [aT, aS, aZ]; rfl
    intro K hK
    have gL := HE.out.1.gL
    have gX := HE.out.2.2
    refine op_store 25 (w.heap.size + 1 + 1) #[.int .i64 0, .int .i64 0, .bool false, .int .i64 0, .slice none 0 0, .slice none 0 0, .int .i64 0] #[.int .i64 x.id, .int .i64 x.epoch, .bool x.live, .int .i64 x.granted, .slice (some ⟨g4, 0, none⟩) (n1 + 1) cp4, .slice q2 l2 k2, .int .i64 x.next] 25 rfl rfl rfl rfl HE.out.1.base.res infoAgQImpl rfl (by simp [Value.oneCell']) ⟨_, by simp [Act.put]; rfl, hK _ _ ⟨⟨HE.out.1.loc.setRowOther (by omega), HE.out.2.1.setRowOther (by omega)⟩, ?_⟩⟩
    clear hK
    refine takeH (o := ?o52x) 4 (.int .i64 ((n1 : Int) + 1)) ?h52x ?r52x
    case h52x => simp only [aT, aS, aZ]; rfl
    refine ⟨_, by simp [Act.put]; rfl, by kernel_rfl, by kernel_rfl, by kernel_rfl, fun _ _ _ h => h, (.inl ⟨rfl, fun W _ => by kernel_rfl⟩), ⟨HE.out.1.loc.setRowOther (by omega), HE.out.2.1.setRowOther (by omega)⟩, ?_⟩
    refine wpAnyH_done (by kernel_rfl) ?_ _
    go_wp2
    refine bodyPost_ret (results_row_tmp Try.results18 _ _ (w.heap.size + 1 + 1) _ _ _ _ rfl HE.out.1.base.res.setRow Try.underlying25 rfl infoAgQImpl) rfl ?_
    have nr : w.heap.size + 1 + 1 ∉ F' := fun hx => by have := HE.out.1.oF.ge _ hx; omega
    have mr : w.heap.size + 1 + 1 ∉ G := fun hx => by have := HE.out.1.oG.ge _ hx; omega
    rw [HV.out]
    exact ⟨_, F', G, _, rfl, HE.out.1.rd.agree (Agree.row nr _) (Agree.row mr _), rfl, (HE.out.1.oF.agree (Agree.row nr _)).mono (by omega), (HE.out.1.oG.agree (Agree.row mr _)).mono (by omega), HE.out.1.ap, below_setRow HE.out.1.base.bel (by omega) _⟩
  case s41 =>
    intro K hK
    have bl : Below Y0.heap.size Y0 (Y0.alloc (.cells #[.int .i64 0, .int .i64 0, .int .i64 0, .int .i64 0, .int .i64 0, .int .i64 0, .int .i64 0, .int .i64 0, .slice none 0 0, .slice none 0 0, .slice none 0 0] 54)) := (Below.refl _ _).alloc (Nat.le_refl _) _
    have HL12 : Hid (SealL w #[.int .i64 x.id, .int .i64 x.epoch, .bool x.live, .int .i64 x.granted, .slice a1 n1 c1, .slice a2 n2 c2, .int .i64 x.next] #[.int .i64 s.count, .int .i64 s.sum, .int .i64 s.min, .int .i64 s.max, .slice b1 m1 d1, .slice b2 m2 d2, .slice b3 m3 d3] B L lo n1 x q1 k1 q2 l2 k2 F G GG vs (Y0.alloc (.cells #[.int .i64 0, .int .i64 0, .int .i64 0, .int .i64 0, .int .i64 0, .int .i64 0, .int .i64 0, .int .i64 0, .slice none 0 0, .slice none 0 0, .slice none 0 0] 54))) := HLd.out.below bl
    have HX12 : Hid (Blk (Y0.alloc (.cells #[.int .i64 0, .int .i64 0, .int .i64 0, .int .i64 0, .int .i64 0, .int .i64 0, .int .i64 0, .int .i64 0, .slice none 0 0, .slice none 0 0, .slice none 0 0] 54)) Y0.heap.size #[.int .i64 0, .int .i64 0, .int .i64 0, .int .i64 0, .int .i64 0, .int .i64 0, .int .i64 0, .int .i64 0, .slice none 0 0, .slice none 0 0, .slice none 0 0] 54 ∧ L < Y0.heap.size) := ⟨Blk.made _ _ _, HLd.out.loc.lt⟩
    refine op_turn (.pointer (some ⟨Y0.heap.size, 0, none⟩)) (Y0.alloc (.cells #[.int .i64 0, .int .i64 0, .int .i64 0, .int .i64 0, .int .i64 0, .int .i64 0, .int .i64 0, .int .i64 0, .slice none 0 0, .slice none 0 0, .slice none 0 0] 54)) rfl (by kernel_rfl) ⟨_, by simp [Act.put]; rfl, hK _ _ ⟨HL12.out.base, ?_⟩⟩
    clear hK bl
    obtain ⟨X12, hL12⟩ : ∃ z, z = Y0.heap.size := ⟨_, rfl⟩
    obtain ⟨Y12, hY12⟩ : ∃ Z, Z = (Y0.alloc (.cells #[.int .i64 0, .int .i64 0, .int .i64 0, .int .i64 0, .int .i64 0, .int .i64 0, .int .i64 0, .int .i64 0, .slice none 0 0, .slice none 0 0, .slice none 0 0] 54)) := ⟨_, rfl⟩
    rw [← hY12, ← hL12] at HX12
    rw [← hY12] at HL12 ⊢
    rw [← hL12]
    clear hY12 hL12
    refine onlyH (o := ?o45) 8 (by kernel_rfl) ?h45 ?r45
    case h45 => simp only [aT, aS, aZ]; rfl
    intro K hK
    refine op_call1 54 _ _ Try.f54 (fun v w' => ∃ F, RdSk w' v s F ∧ Own Y12.heap.size w' F ∧ Below Y12.heap.size Y12 w') rfl rfl Try.func54 (by kernel_rfl) (by kernel_rfl) ((copiedSketch_all (.agg #[.int .i64 s.count, .int .i64 s.sum, .int .i64 s.min, .int .i64 s.max, .slice b1 m1 d1, .slice b2 m2 d2, .slice b3 m3 d3]) s H0 Y12 (HU.out.1.below HL12.out.base.bel) HU.out.2).mono (by rintro e w' ⟨v, F, rfl, k1, k2, k3⟩; exact ⟨_, rfl, F, k1, k2, k3⟩)) ?_
    rintro vr Y13 ⟨Fr, rr, ro, rb⟩
    obtain ⟨u1, v1, y1, u2, v2, y2, u3, v3, y3, rfl⟩ := rr.cells7
    have RR13 : Hid (RdIt Y13 (.agg #[.int .i64 ((n1 : Int) + 1), .int .i64 c, .int .i64 k, .int .i64 n, .int .i64 s.count, .int .i64 s.sum, .int .i64 s.min, .int .i64 s.max, .slice u1 v1 y1, .slice u2 v2 y2, .slice u3 v3 y3]) ⟨(n1 : Int) + 1, c, k, n, s⟩ Fr ∧ Own (L + 1) Y13 Fr) := ⟨⟨u1, v1, y1, u2, v2, y2, u3, v3, y3, rfl, rr⟩, ro.mono HL12.out.loc.lt⟩
    have HL13 : Hid (SealL w #[.int .i64 x.id, .int .i64 x.epoch, .bool x.live, .int .i64 x.granted, .slice a1 n1 c1, .slice a2 n2 c2, .int .i64 x.next] #[.int .i64 s.count, .int .i64 s.sum, .int .i64 s.min, .int .i64 s.max, .slice b1 m1 d1, .slice b2 m2 d2, .slice b3 m3 d3] B L lo n1 x q1 k1 q2 l2 k2 F G GG vs Y13) := HL12.out.below rb

    have HX13 : Hid (Blk Y13 X12 #[.int .i64 0, .int .i64 0, .int .i64 0, .int .i64 0, .int .i64 0, .int .i64 0, .int .i64 0, .int .i64 0, .slice none 0 0, .slice none 0 0, .slice none 0 0] 54 ∧ X12 ∉ Fr ∧ L < X12) := ⟨HX12.out.1.below rb, fun hx => by have := ro.ge _ hx; have := HX12.out.1.lt; omega, HX12.out.2⟩
    refine ⟨_, by simp [Act.put]; rfl, hK _ _ ⟨HL13.out.base, ?_⟩⟩
    clear hK rr ro rb
    refine takeH (o := ?o46) 9 (.agg #[.int .i64 ((n1 : Int) + 1), .int .i64 c, .int .i64 k, .int .i64 n, .int .i64 s.count, .int .i64 s.sum, .int .i64 s.min, .int .i64 s.max, .slice u1 v1 y1, .slice u2 v2 y2, .slice u3 v3 y3]) ?h46 ?r46
    case h46 => simp only [aT, aS, aZ]; rfl
    refine ⟨_, by simp [Act.put]; rfl, by kernel_rfl, by kernel_rfl, by kernel_rfl, fun _ _ _ h => h, (.inl ⟨rfl, fun W _ => by kernel_rfl⟩), HL13.out.base, ?_⟩
    refine onlyH (o := ?o47) 11 (by kernel_rfl) ?h47 ?r47
    case h47 => simp only [aT, aS, aZ]; rfl
    intro K hK
    have HX14 : Hid (SealL w #[.int .i64 x.id, .int .i64 x.epoch, .bool x.live, .int .i64 x.granted, .slice a1 n1 c1, .slice a2 n2 c2, .int .i64 x.next] #[.int .i64 s.count, .int .i64 s.sum, .int .i64 s.min, .int .i64 s.max, .slice b1 m1 d1, .slice b2 m2 d2, .slice b3 m3 d3] B L lo n1 x q1 k1 q2 l2 k2 F G GG vs (Y13.setRow X12 #[.int .i64 ((n1 : Int) + 1), .int .i64 c, .int .i64 k, .int .i64 n, .int .i64 s.count, .int .i64 s.sum, .int .i64 s.min, .int .i64 s.max, .slice u1 v1 y1, .slice u2 v2 y2, .slice u3 v3 y3]) ∧ Blk (Y13.setRow X12 #[.int .i64 ((n1 : Int) + 1), .int .i64 c, .int .i64 k, .int .i64 n, .int .i64 s.count, .int .i64 s.sum, .int .i64 s.min, .int .i64 s.max, .slice u1 v1 y1, .slice u2 v2 y2, .slice u3 v3 y3]) X12 #[.int .i64 ((n1 : Int) + 1), .int .i64 c, .int .i64 k, .int .i64 n, .int .i64 s.count, .int .i64 s.sum, .int .i64 s.min, .int .i64 s.max, .slice u1 v1 y1, .slice u2 v2 y2, .slice u3 v3 y3] 54 ∧ RdIt (Y13.setRow X12 #[.int .i64 ((n1 : Int) + 1), .int .i64 c, .int .i64 k, .int .i64 n, .int .i64 s.count, .int .i64 s.sum, .int .i64 s.min, .int .i64 s.max, .slice u1 v1 y1, .slice u2 v2 y2, .slice u3 v3 y3]) (.agg #[.int .i64 ((n1 : Int) + 1), .int .i64 c, .int .i64 k, .int .i64 n, .int .i64 s.count, .int .i64 s.sum, .int .i64 s.min, .int .i64 s.max, .slice u1 v1 y1, .slice u2 v2 y2, .slice u3 v3 y3]) ⟨(n1 : Int) + 1, c, k, n, s⟩ Fr ∧ Own (L + 1) (Y13.setRow X12 #[.int .i64 ((n1 : Int) + 1), .int .i64 c, .int .i64 k, .int .i64 n, .int .i64 s.count, .int .i64 s.sum, .int .i64 s.min, .int .i64 s.max, .slice u1 v1 y1, .slice u2 v2 y2, .slice u3 v3 y3]) Fr ∧ L < X12) :=
      ⟨HL13.out.row HX13.out.2.2 _, HX13.out.1.setRow, RdIt.agree RR13.out.1 (Agree.row HX13.out.2.1 _), RR13.out.2.agree (Agree.row HX13.out.2.1 _), HX13.out.2.2⟩
    refine op_store 54 X12 #[.int .i64 0, .int .i64 0, .int .i64 0, .int .i64 0, .int .i64 0, .int .i64 0, .int .i64 0, .int .i64 0, .slice none 0 0, .slice none 0 0, .slice none 0 0] #[.int .i64 ((n1 : Int) + 1), .int .i64 c, .int .i64 k, .int .i64 n, .int .i64 s.count, .int .i64 s.sum, .int .i64 s.min, .int .i64 s.max, .slice u1 v1 y1, .slice u2 v2 y2, .slice u3 v3 y3] 54 rfl rfl rfl rfl HX13.out.1 infoItQImpl rfl (by simp [Value.oneCell']) ⟨_, by simp [Act.put]; rfl, hK _ _ ⟨HX14.out.1.base, ?_⟩⟩
    clear hK
    refine wpAnyH_done (by kernel_rfl) ?_ _
    obtain ⟨w5, hw5⟩ : ∃ W, W = Y13.setRow X12 #[.int .i64 ((n1 : Int) + 1), .int .i64 c, .int .i64 k, .int .i64 n, .int .i64 s.count, .int .i64 s.sum, .int .i64 s.min, .int .i64 s.max, .slice u1 v1 y1, .slice u2 v2 y2, .slice u3 v3 y3] := ⟨_, rfl⟩
    obtain ⟨X, hX⟩ : ∃ z, z = X12 := ⟨_, rfl⟩
    have H5 : Hid (SealL w #[.int .i64 x.id, .int .i64 x.epoch, .bool x.live, .int .i64 x.granted, .slice a1 n1 c1, .slice a2 n2 c2, .int .i64 x.next] #[.int .i64 s.count, .int .i64 s.sum, .int .i64 s.min, .int .i64 s.max, .slice b1 m1 d1, .slice b2 m2 d2, .slice b3 m3 d3] B L lo n1 x q1 k1 q2 l2 k2 F G GG vs w5 ∧ Blk w5 X #[.int .i64 ((n1 : Int) + 1), .int .i64 c, .int .i64 k, .int .i64 n, .int .i64 s.count, .int .i64 s.sum, .int .i64 s.min, .int .i64 s.max, .slice u1 v1 y1, .slice u2 v2 y2, .slice u3 v3 y3] 54 ∧ RdIt w5 (.agg #[.int .i64 ((n1 : Int) + 1), .int .i64 c, .int .i64 k, .int .i64 n, .int .i64 s.count, .int .i64 s.sum, .int .i64 s.min, .int .i64 s.max, .slice u1 v1 y1, .slice u2 v2 y2, .slice u3 v3 y3]) ⟨(n1 : Int) + 1, c, k, n, s⟩ Fr ∧ Own (L + 1) w5 Fr ∧ L < X) := by rw [hw5, hX]; exact HX14.out
    rw [← hw5, ← hX]
    clear hw5 hX HX14 HL13 RR13 HX13
    go_wp2_with (first | go_skip | (with_reducible refine stopLoad 25 rfl ?_))
    refine load_known 25 w.heap.size _ 25 _ H5.out.1.base.box rfl rfl rfl Try.underlying25 rfl infoAgQImpl ?_
    go_wp2_with fail
    refine (agentOkImpl_any _ x F0 G0 _ (HX.out.1.below H5.out.1.base.bel) (fun y hy => (HF.out.1 y hy).wide) (by have := HF.out.2.1; omega) (by have := HF.out.2.2; omega)).mono ?_
    rintro e w6 ⟨rfl, hb6⟩
    have H6 : Hid (SealL w #[.int .i64 x.id, .int .i64 x.epoch, .bool x.live, .int .i64 x.granted, .slice a1 n1 c1, .slice a2 n2 c2, .int .i64 x.next] #[.int .i64 s.count, .int .i64 s.sum, .int .i64 s.min, .int .i64 s.max, .slice b1 m1 d1, .slice b2 m2 d2, .slice b3 m3 d3] B L lo n1 x q1 k1 q2 l2 k2 F G GG vs w6 ∧ Blk w6 X #[.int .i64 ((n1 : Int) + 1), .int .i64 c, .int .i64 k, .int .i64 n, .int .i64 s.count, .int .i64 s.sum, .int .i64 s.min, .int .i64 s.max, .slice u1 v1 y1, .slice u2 v2 y2, .slice u3 v3 y3] 54 ∧ RdIt w6 (.agg #[.int .i64 ((n1 : Int) + 1), .int .i64 c, .int .i64 k, .int .i64 n, .int .i64 s.count, .int .i64 s.sum, .int .i64 s.min, .int .i64 s.max, .slice u1 v1 y1, .slice u2 v2 y2, .slice u3 v3 y3]) ⟨(n1 : Int) + 1, c, k, n, s⟩ Fr ∧ Own (L + 1) w6 Fr ∧ L < X) := ⟨H5.out.1.below hb6, H5.out.2.1.below hb6, RdIt.below H5.out.2.2.1 hb6, H5.out.2.2.2.1.below (RdIt.lt H5.out.2.2.1) hb6, H5.out.2.2.2.2⟩
    obtain ⟨d, hd⟩ : ∃ d, d = x.ok := ⟨_, rfl⟩
    rw [← hd]
    have HD : Hid (d = x.ok) := hd
    clear hb6 hd H5
    cases d
    · have HV : Hid (x.seal c k n s = (x, 0)) := by show _ = _; unfold Ag.seal; rw [← HD.out]; rfl
      go_wp2_with (first | go_skip | (with_reducible refine stopLoad 25 rfl ?_))
      refine load_known 25 L _ 25 _ H6.out.1.loc rfl rfl rfl Try.underlying25 rfl infoAgQImpl ?_
      go_wp2_with (first | go_skip | (with_reducible refine stopStore 25 rfl ?_))
      refine store_known 25 (w.heap.size + 1 + 1) _ #[.int .i64 x.id, .int .i64 x.epoch, .bool x.live, .int .i64 x.granted, .slice q1 n1 k1, .slice q2 l2 k2, .int .i64 x.next] 25 H6.out.1.base.res rfl rfl rfl rfl infoAgQImpl rfl (by simp [Value.oneCell']) ?_
      go_wp2
      refine bodyPost_ret (results_row_tmp Try.results18 _ _ (w.heap.size + 1 + 1) _ _ _ _ rfl H6.out.1.base.res.setRow Try.underlying25 rfl infoAgQImpl) rfl ?_
      have gB := H6.out.1.gB
      have nr : w.heap.size + 1 + 1 ∉ F := fun hx => by have := H6.out.1.c.oF.ge _ hx; omega
      have mr : w.heap.size + 1 + 1 ∉ G := fun hx => by have := H6.out.1.c.oG.ge _ hx; omega
      rw [HV.out]
      exact ⟨_, F, G, _, rfl, ⟨q1, n1, k1, q2, l2, k2, rfl, H6.out.1.c.rl.agree (Agree.row nr _), H6.out.1.c.rp.agree (Agree.row mr _), H6.out.1.c.cp1, H6.out.1.c.cp2⟩, rfl, (H6.out.1.c.oF.agree (Agree.row nr _)).mono (by omega), (H6.out.1.c.oG.agree (Agree.row mr _)).mono (by omega), H6.out.1.c.ap, below_setRow H6.out.1.base.bel (by omega) _⟩
    have HD1 : Hid (x.ok = true) := HD.out.symm
    clear HD
    go_wp2_with (first | go_skip | (with_reducible refine stopLoad 54 rfl ?_))
    refine load_knownw8 54 X _ 54 _ H6.out.2.1 rfl rfl rfl Try.underlying54 rfl infoItQImpl ?_
    go_wp2_with fail
    refine (itemOkImpl_any _ ⟨(n1 : Int) + 1, c, k, n, s⟩ Fr _ H6.out.2.2.1 HU.out.2.wide).mono ?_
    rintro e w7 ⟨rfl, hb7⟩
    have H7 : Hid (SealL w #[.int .i64 x.id, .int .i64 x.epoch, .bool x.live, .int .i64 x.granted, .slice a1 n1 c1, .slice a2 n2 c2, .int .i64 x.next] #[.int .i64 s.count, .int .i64 s.sum, .int .i64 s.min, .int .i64 s.max, .slice b1 m1 d1, .slice b2 m2 d2, .slice b3 m3 d3] B L lo n1 x q1 k1 q2 l2 k2 F G GG vs w7 ∧ Blk w7 X #[.int .i64 ((n1 : Int) + 1), .int .i64 c, .int .i64 k, .int .i64 n, .int .i64 s.count, .int .i64 s.sum, .int .i64 s.min, .int .i64 s.max, .slice u1 v1 y1, .slice u2 v2 y2, .slice u3 v3 y3] 54 ∧ RdIt w7 (.agg #[.int .i64 ((n1 : Int) + 1), .int .i64 c, .int .i64 k, .int .i64 n, .int .i64 s.count, .int .i64 s.sum, .int .i64 s.min, .int .i64 s.max, .slice u1 v1 y1, .slice u2 v2 y2, .slice u3 v3 y3]) ⟨(n1 : Int) + 1, c, k, n, s⟩ Fr ∧ Own (L + 1) w7 Fr ∧ L < X) := ⟨H6.out.1.below hb7, H6.out.2.1.below hb7, RdIt.below H6.out.2.2.1 hb7, H6.out.2.2.2.1.below (RdIt.lt H6.out.2.2.1) hb7, H6.out.2.2.2.2⟩
    obtain ⟨d, hd⟩ : ∃ d, d = It.ok ⟨(n1 : Int) + 1, c, k, n, s⟩ := ⟨_, rfl⟩
    rw [← hd]
    have HD : Hid (d = (x.item c k n s).ok) := by show _ = _; rw [HI.out.1]; exact hd
    clear hb7 hd H6
    cases d
    · have HV : Hid (x.seal c k n s = (x, 0)) := by show _ = _; unfold Ag.seal; rw [← HD.out]; simp
      go_wp2_with (first | go_skip | (with_reducible refine stopLoad 25 rfl ?_))
      refine load_known 25 L _ 25 _ H7.out.1.loc rfl rfl rfl Try.underlying25 rfl infoAgQImpl ?_
      go_wp2_with (first | go_skip | (with_reducible refine stopStore 25 rfl ?_))
      refine store_known 25 (w.heap.size + 1 + 1) _ #[.int .i64 x.id, .int .i64 x.epoch, .bool x.live, .int .i64 x.granted, .slice q1 n1 k1, .slice q2 l2 k2, .int .i64 x.next] 25 H7.out.1.base.res rfl rfl rfl rfl infoAgQImpl rfl (by simp [Value.oneCell']) ?_
      go_wp2
      refine bodyPost_ret (results_row_tmp Try.results18 _ _ (w.heap.size + 1 + 1) _ _ _ _ rfl H7.out.1.base.res.setRow Try.underlying25 rfl infoAgQImpl) rfl ?_
      have gB := H7.out.1.gB
      have nr : w.heap.size + 1 + 1 ∉ F := fun hx => by have := H7.out.1.c.oF.ge _ hx; omega
      have mr : w.heap.size + 1 + 1 ∉ G := fun hx => by have := H7.out.1.c.oG.ge _ hx; omega
      rw [HV.out]
      exact ⟨_, F, G, _, rfl, ⟨q1, n1, k1, q2, l2, k2, rfl, H7.out.1.c.rl.agree (Agree.row nr _), H7.out.1.c.rp.agree (Agree.row mr _), H7.out.1.c.cp1, H7.out.1.c.cp2⟩, rfl, (H7.out.1.c.oF.agree (Agree.row nr _)).mono (by omega), (H7.out.1.c.oG.agree (Agree.row mr _)).mono (by omega), H7.out.1.c.ap, below_setRow H7.out.1.base.bel (by omega) _⟩
    have HV : Hid (x.seal c k n s = (x.plus (x.item c k n s), (n1 : Int) + 1)) := by show _ = _; unfold Ag.seal; rw [if_pos ⟨HD1.out, HD.out.symm⟩, HI.out.2]
    have c4 := H7.out.1.loc.cell 4
    simp only [aT, aS, aZ] at c4
    go_wp2_with (first | go_skip | (with_reducible refine stopLoad 54 rfl ?_))
    refine load_known 54 X _ 54 _ H7.out.2.1 rfl rfl rfl Try.underlying54 rfl infoItQImpl ?_
    go_wp2_with (with_reducible refine stopAppend rfl ?_)
    obtain ⟨W8, hW8⟩ : ∃ W, W = w7.alloc (.cells #[.int .i64 ((n1 : Int) + 1), .int .i64 c, .int .i64 k, .int .i64 n, .int .i64 s.count, .int .i64 s.sum, .int .i64 s.min, .int .i64 s.max, .slice u1 v1 y1, .slice u2 v2 y2, .slice u3 v3 y3] 54) := ⟨_, rfl⟩
    have hbn : Below w7.heap.size w7 W8 := by rw [hW8]; exact (Below.refl _ _).alloc (Nat.le_refl _) _
    have HCN : Hid (∀ (j : Nat) (u : Value), #[.int .i64 ((n1 : Int) + 1), .int .i64 c, .int .i64 k, .int .i64 n, .int .i64 s.count, .int .i64 s.sum, .int .i64 s.min, .int .i64 s.max, .slice u1 v1 y1, .slice u2 v2 y2, .slice u3 v3 y3].toList[j]? = some u → W8.cell? ((⟨w7.heap.size, 0, none⟩ : Addr).add j) = some u) := by rw [hW8]; exact news_lit w7 #[.int .i64 ((n1 : Int) + 1), .int .i64 c, .int .i64 k, .int .i64 n, .int .i64 s.count, .int .i64 s.sum, .int .i64 s.min, .int .i64 s.max, .slice u1 v1 y1, .slice u2 v2 y2, .slice u3 v3 y3] 54
    have H8 : Hid (SealL w #[.int .i64 x.id, .int .i64 x.epoch, .bool x.live, .int .i64 x.granted, .slice a1 n1 c1, .slice a2 n2 c2, .int .i64 x.next] #[.int .i64 s.count, .int .i64 s.sum, .int .i64 s.min, .int .i64 s.max, .slice b1 m1 d1, .slice b2 m2 d2, .slice b3 m3 d3] B L lo n1 x q1 k1 q2 l2 k2 F G GG vs W8 ∧ Blk W8 X #[.int .i64 ((n1 : Int) + 1), .int .i64 c, .int .i64 k, .int .i64 n, .int .i64 s.count, .int .i64 s.sum, .int .i64 s.min, .int .i64 s.max, .slice u1 v1 y1, .slice u2 v2 y2, .slice u3 v3 y3] 54 ∧ RdIt W8 (.agg #[.int .i64 ((n1 : Int) + 1), .int .i64 c, .int .i64 k, .int .i64 n, .int .i64 s.count, .int .i64 s.sum, .int .i64 s.min, .int .i64 s.max, .slice u1 v1 y1, .slice u2 v2 y2, .slice u3 v3 y3]) ⟨(n1 : Int) + 1, c, k, n, s⟩ Fr ∧ Own (L + 1) W8 Fr ∧ L < X) := ⟨H7.out.1.below hbn, H7.out.2.1.below hbn, RdIt.below H7.out.2.2.1 hbn, H7.out.2.2.2.1.below (RdIt.lt H7.out.2.2.1) hbn, H7.out.2.2.2.2⟩
    rw [← hW8]
    clear hW8 hbn H7 c4
    refine Stop.intro (wpList_append_lies _ rfl _ _ 22 rfl lo 54 j0 (.agg #[.int .i64 0, .int .i64 0, .int .i64 0, .int .i64 0, .int .i64 0, .int .i64 0, .int .i64 0, .int .i64 0, .slice none 0 0, .slice none 0 0, .slice none 0 0]) 11 136 Try.underlying22 hj hy0 hy1 hy2 rfl (by decide) (.slice q1 n1 k1) n1 vs rfl H8.out.1.c.gr.row ⟨w7.heap.size, 0, none⟩ 1 1 #[.int .i64 ((n1 : Int) + 1), .int .i64 c, .int .i64 k, .int .i64 n, .int .i64 s.count, .int .i64 s.sum, .int .i64 s.min, .int .i64 s.max, .slice u1 v1 y1, .slice u2 v2 y2, .slice u3 v3 y3].toList rfl rfl HCN.out (by simp [Value.oneCell']) (by omega) (by unfold maxLen; omega) (by omega) H8.out.1.c.gr.lw _ rfl ?_)
    intro g4 cp4 W9 hown hgrow hat hlt9
    obtain ⟨ST1, ST2, F', ST3⟩ := H8.out.1.done H8.out.2.2.1 rfl H8.out.2.2.2.1 hown hgrow hat
    have HXB : Hid (Blk W9 X #[.int .i64 ((n1 : Int) + 1), .int .i64 c, .int .i64 k, .int .i64 n, .int .i64 s.count, .int .i64 s.sum, .int .i64 s.min, .int .i64 s.max, .slice u1 v1 y1, .slice u2 v2 y2, .slice u3 v3 y3] 54 ∧ L < X) := ⟨H8.out.2.1.agree (hgrow.block _ H8.out.2.1.lt (fun e => by have := H8.out.1.c.l4 X e.symm; have := H8.out.2.2.2.2; omega)), H8.out.2.2.2.2⟩
    have H9 : Hid (SealD w #[.int .i64 x.id, .int .i64 x.epoch, .bool x.live, .int .i64 x.granted, .slice a1 n1 c1, .slice a2 n2 c2, .int .i64 x.next] #[.int .i64 s.count, .int .i64 s.sum, .int .i64 s.min, .int .i64 s.max, .slice b1 m1 d1, .slice b2 m2 d2, .slice b3 m3 d3] L #[.int .i64 x.id, .int .i64 x.epoch, .bool x.live, .int .i64 x.granted, .slice (some ⟨g4, 0, none⟩) (n1 + 1) cp4, .slice q2 l2 k2, .int .i64 x.next] (x.plus (x.item c k n s)) F' G (W9.setCell ⟨L, 4, none⟩ (.slice (some ⟨g4, 0, none⟩) (n1 + 1) cp4)) ∧ Blk (W9.setCell ⟨L, 4, none⟩ (.slice (some ⟨g4, 0, none⟩) (n1 + 1) cp4)) X #[.int .i64 ((n1 : Int) + 1), .int .i64 c, .int .i64 k, .int .i64 n, .int .i64 s.count, .int .i64 s.sum, .int .i64 s.min, .int .i64 s.max, .slice u1 v1 y1, .slice u2 v2 y2, .slice u3 v3 y3] 54 ∧ L < X) := ⟨by rw [HI.out.1]; exact ST3, HXB.out.1.setOther (by have := HXB.out.2; omega) 4 _, HXB.out.2⟩
    have c4 := ST2.cell 4
    have f4 := ST2.frozen 4
    simp only [aT, aS, aZ] at c4
    clear hown hgrow hat hlt9 ST1 ST2 ST3 H8 HCN HXB
    go_wp2_with fail
    obtain ⟨w10, hw10⟩ : ∃ W, W = W9.setCell ⟨L, 4, none⟩ (.slice (some ⟨g4, 0, none⟩) (n1 + 1) cp4) := ⟨_, rfl⟩
    rw [← hw10] at H9
    try rw [← hw10]
    have HE : Hid (SealD w #[.int .i64 x.id, .int .i64 x.epoch, .bool x.live, .int .i64 x.granted, .slice a1 n1 c1, .slice a2 n2 c2, .int .i64 x.next] #[.int .i64 s.count, .int .i64 s.sum, .int .i64 s.min, .int .i64 s.max, .slice b1 m1 d1, .slice b2 m2 d2, .slice b3 m3 d3] L #[.int .i64 x.id, .int .i64 x.epoch, .bool x.live, .int .i64 x.granted, .slice (some ⟨g4, 0, none⟩) (n1 + 1) cp4, .slice q2 l2 k2, .int .i64 x.next] (x.plus (x.item c k n s)) F' G w10.drew ∧ Blk w10.drew X #[.int .i64 ((n1 : Int) + 1), .int .i64 c, .int .i64 k, .int .i64 n, .int .i64 s.count, .int .i64 s.sum, .int .i64 s.min, .int .i64 s.max, .slice u1 v1 y1, .slice u2 v2 y2, .slice u3 v3 y3] 54 ∧ L < X) := ⟨H9.out.1.below (Below.refl _ _).drew, H9.out.2.1.below (Below.refl _ _).drew, H9.out.2.2⟩
    obtain ⟨Z0, hZ0⟩ : ∃ Y, Y = w10.drew := ⟨_, rfl⟩
    rw [← hZ0] at HE
    clear H9 c4 f4 hw10
    refine wp_region_held (S := fun W => Blk W L #[.int .i64 x.id, .int .i64 x.epoch, .bool x.live, .int .i64 x.granted, .slice (some ⟨g4, 0, none⟩) (n1 + 1) cp4, .slice q2 l2 k2, .int .i64 x.next] 25 ∧ Blk W X #[.int .i64 ((n1 : Int) + 1), .int .i64 c, .int .i64 k, .int .i64 n, .int .i64 s.count, .int .i64 s.sum, .int .i64 s.min, .int .i64 s.max, .slice u1 v1 y1, .slice u2 v2 y2, .slice u3 v3 y3] 54) (by kernel_rfl) ?_
    change wpAnyH _ _ _ _ _ _ _ _ (World.drew _)
    rw [← hZ0]
    clear hZ0
    refine takeH (o := ?o48xx) 0 (.agg #[.int .i64 x.id, .int .i64 x.epoch, .bool x.live, .int .i64 x.granted, .slice (some ⟨g4, 0, none⟩) (n1 + 1) cp4, .slice q2 l2 k2, .int .i64 x.next]) ?h48xx ?r48xx
    case h48xx => simp only [aT, aZ]; rfl
    refine ⟨_, by simp [Act.put]; rfl, by kernel_rfl, by kernel_rfl, by kernel_rfl, fun _ _ _ h => h, (yields_whole 25 L #[.int .i64 x.id, .int .i64 x.epoch, .bool x.live, .int .i64 x.granted, .slice (some ⟨g4, 0, none⟩) (n1 + 1) cp4, .slice q2 l2 k2, .int .i64 x.next] 25 _ rfl rfl rfl Try.underlying25 rfl infoAgQImpl (fun W hW => hW.1)), ⟨HE.out.1.loc, HE.out.2.1⟩, ?_⟩
    refine takeH (o := ?o49xx) 1 (.pointer (some ⟨X, 0, none⟩)) ?h49xx ?r49xx
    case h49xx => simp only [aT, aS, aZ]; rfl
    refine ⟨_, by simp [Act.put]; rfl, by kernel_rfl, by kernel_rfl, by kernel_rfl, fun _ _ _ h => h, (.inl ⟨rfl, fun W _ => by kernel_rfl⟩), ⟨HE.out.1.loc, HE.out.2.1⟩, ?_⟩
    refine takeH (o := ?o50xx) 2 (.int .i64 ((n1 : Int) + 1)) ?h50xx ?r50xx
    case h50xx => simp only [aT, aS, aZ]; rfl
    refine ⟨_, by simp [Act.put]; rfl, by kernel_rfl, by kernel_rfl, by kernel_rfl, fun _ _ _ h => h, (.inl ⟨rfl, fun W hW => by have c := hW.2.cell 0; simp only [aT, aZ] at c; go_simp⟩), ⟨HE.out.1.loc, HE.out.2.1⟩, ?_⟩
    refine onlyH (o := ?o51xx) 3 (by kernel_rfl) ?h51xx ?r51xx
    case h51xx => simp only [aT, aS, aZ]; rfl
    intro K hK
    have gL := HE.out.1.gL
    have gX := HE.out.2.2
    refine op_store 25 (w.heap.size + 1 + 1) #[.int .i64 0, .int .i64 0, .bool false, .int .i64 0, .slice none 0 0, .slice none 0 0, .int .i64 0] #[.int .i64 x.id, .int .i64 x.epoch, .bool x.live, .int .i64 x.granted, .slice (some ⟨g4, 0, none⟩) (n1 + 1) cp4, .slice q2 l2 k2, .int .i64 x.next] 25 rfl rfl rfl rfl HE.out.1.base.res infoAgQImpl rfl (by simp [Value.oneCell']) ⟨_, by simp [Act.put]; rfl, hK _ _ ⟨⟨HE.out.1.loc.setRowOther (by omega), HE.out.2.1.setRowOther (by omega)⟩, ?_⟩⟩
    clear hK
    refine takeH (o := ?o52xx) 4 (.int .i64 ((n1 : Int) + 1)) ?h52xx ?r52xx
    case h52xx => simp only [aT, aS, aZ]; rfl
    refine ⟨_, by simp [Act.put]; rfl, by kernel_rfl, by kernel_rfl, by kernel_rfl, fun _ _ _ h => h, (.inl ⟨rfl, fun W _ => by kernel_rfl⟩), ⟨HE.out.1.loc.setRowOther (by omega), HE.out.2.1.setRowOther (by omega)⟩, ?_⟩
    refine wpAnyH_done (by kernel_rfl) ?_ _
    go_wp2
    refine bodyPost_ret (results_row_tmp Try.results18 _ _ (w.heap.size + 1 + 1) _ _ _ _ rfl HE.out.1.base.res.setRow Try.underlying25 rfl infoAgQImpl) rfl ?_
    have nr : w.heap.size + 1 + 1 ∉ F' := fun hx => by have := HE.out.1.oF.ge _ hx; omega
    have mr : w.heap.size + 1 + 1 ∉ G := fun hx => by have := HE.out.1.oG.ge _ hx; omega
    rw [HV.out]
    exact ⟨_, F', G, _, rfl, HE.out.1.rd.agree (Agree.row nr _) (Agree.row mr _), rfl, (HE.out.1.oF.agree (Agree.row nr _)).mono (by omega), (HE.out.1.oG.agree (Agree.row mr _)).mono (by omega), HE.out.1.ap, below_setRow HE.out.1.base.bel (by omega) _⟩
end Go.Proofs.Ytjndcfamfminkar
/- What the walks through the model's AgentSend and the program's share. No statement of the seat is proved here. -/
namespace Go.Proofs.Ytjndcfamfminkar
open Go.RowKit
def Fr.none0 : Fr := ⟨0, 0, 0, 0, [], It.zero⟩
/-- An agent behind a send, and what it sends. -/
def Ag.send (x : Ag) : Ag × Fr :=
  if x.ok = false then (x, Fr.none0)
  else if x.waits = [] then (x, ⟨0, x.id, x.epoch, 0, [], It.zero⟩)
  else (⟨x.id, x.epoch, x.live, x.granted, x.sealed, x.taken, turnOf x.waits x.next⟩, ⟨1, x.id, x.epoch, 0, [], x.sealed.getD (turnOf x.waits x.next - 1).toNat It.zero⟩)
theorem waitTo_mem {ps : Sp} : ∀ {k : Nat} {z : Int}, z ∈ waitTo ps k → 1 ≤ z ∧ z ≤ k ∧ ps.has z = false
  | 0, z, h => by simp [waitTo] at h
  | k + 1, z, h => by
    rw [waitTo] at h
    rcases List.mem_append.1 h with h | h
    · have := waitTo_mem h
      exact ⟨this.1, by omega, this.2.2⟩
    · split at h
      · cases h
      · rename_i hn
        obtain rfl : z = (k : Int) + 1 := by simpa using h
        exact ⟨by omega, by omega, by simpa using hn⟩
theorem waits_mem {x : Ag} {z : Int} (h : z ∈ x.waits) : 1 ≤ z ∧ z ≤ x.granted ∧ z ≤ x.sealed.length ∧ x.taken.has z = false ∧ x.ok = true ∧ x.live = true := by
  unfold Ag.waits at h
  split at h
  · rename_i hc
    have q := waitTo_mem h
    unfold Ag.upTo at q
    exact ⟨q.1, by omega, by omega, q.2.2, hc.1, hc.2⟩
  · cases h
theorem turnOf_mem {zs : List Int} (m : Int) (h : zs ≠ []) : turnOf zs m ∈ zs := by
  unfold turnOf
  cases e : zs.find? (fun z => decide (m < z)) with
  | none =>
    match zs, h with
    | z :: zs, _ => simp
  | some z => exact List.mem_of_find?_eq_some e
theorem find_drop {zs : List Int} {j : Nat} (hj : j < zs.length) (p : Int → Bool) : (zs.drop j).find? p = if p (zs.getD j 0) = true then some (zs.getD j 0) else (zs.drop (j + 1)).find? p := by
  have e : zs.getD j 0 = zs[j] := by rw [List.getD_eq_getElem?_getD, List.getElem?_eq_getElem hj]; rfl
  rw [List.drop_eq_getElem_cons hj, List.find?_cons, e]
  cases p zs[j] <;> rfl
theorem results_row_two {P : Program} {fn : Func} {p u : Tmp} {ty tz : TypeId} (h : fn.results = #[.cell p ty, .cell u tz]) (tmps : Array Value) (w : World) (g k : Nat) (t t' : TypeId) (cs ds : Array Value) (d d' : TypeDesc)
    (hp : tmps.getD p undef = .pointer (some ⟨g, 0, none⟩)) (hq : tmps.getD u undef = .pointer (some ⟨k, 0, none⟩)) (hg : Blk w g cs t) (hk : Blk w k ds t')
    (hu : P.underlying ty = some d) (hd : (match d with | .struct _ | .array _ _ => true | _ => false) = true) (hi : (P.info? ty).map (·.size) = some cs.size)
    (hu' : P.underlying tz = some d') (hd' : (match d' with | .struct _ | .array _ _ => true | _ => false) = true) (hj : (P.info? tz).map (·.size) = some ds.size) :
    (results fn tmps).run P w = .ok (.tuple #[.agg cs, .agg ds]) w := by
  have e : (results fn tmps).run P w = ((asAddr (tmps.getD p undef)).run P w).andThen fun a w₁ => ((loadVar ty a).run P w₁).andThen fun v w₂ => ((asAddr (tmps.getD u undef)).run P w₂).andThen fun a w₁ => ((loadVar tz a).run P w₁).andThen fun v' w₂ => .ok (.tuple #[v, v']) w₂ := by
    simp only [results, h]
    simp [Sem.run_bind, Result.andThen]
  rw [e, hp, hq]
  simp [asAddr, run_loadVar_row w g t ty cs (0, 0) d hg hu hd hi, run_loadVar_row w k t' tz ds (0, 0) d' hk hu' hd' hj, Result.andThen]
/-- A new agent and a new frame. -/
def NewAgFr (w : World) (z : Ag × Fr) (e : Ending) (w' : World) : Prop := ∃ v u F G F' G', e = .returned (.tuple #[v, u]) ∧ RdAg w' v z.1 F G ∧ RdFr w' u z.2 F' G' ∧ Own w.heap.size w' F ∧ Own w.heap.size w' G ∧ Own w.heap.size w' F' ∧ Own w.heap.size w' G' ∧ (∀ b ∈ F, b ∉ G) ∧ (∀ b ∈ F', b ∉ G') ∧ (∀ b ∈ F ++ G, b ∉ F' ++ G') ∧ Below w.heap.size w w'
/-- What an AgentSend has before it: the agent, the places of its two results. -/
structure SendW (w : World) (A : Array Value) (W : World) : Prop where
  box : Blk W w.heap.size A 25
  ra : Blk W (w.heap.size + 1) #[.int .i64 0, .int .i64 0, .bool false, .int .i64 0, .slice none 0 0, .slice none 0 0, .int .i64 0] 25
  rf : Blk W (w.heap.size + 1 + 1) #[.int .i64 0, .int .i64 0, .int .i64 0, .int .i64 0, .slice none 0 0, .int .i64 0, .int .i64 0, .int .i64 0, .int .i64 0, .int .i64 0, .int .i64 0, .int .i64 0, .int .i64 0, .slice none 0 0, .slice none 0 0, .slice none 0 0] 56
  bel : Below w.heap.size w W
theorem SendW.below {w W W' : World} {A : Array Value} (h : SendW w A W) (b : Below W.heap.size W W') : SendW w A W' := ⟨h.box.below b, h.ra.below b, h.rf.below b, Below.next h.bel b⟩
theorem SendW.made (w : World) (A : Array Value) : SendW w A (((w.alloc (.cells A 25)).alloc (.cells #[.int .i64 0, .int .i64 0, .bool false, .int .i64 0, .slice none 0 0, .slice none 0 0, .int .i64 0] 25)).alloc (.cells #[.int .i64 0, .int .i64 0, .int .i64 0, .int .i64 0, .slice none 0 0, .int .i64 0, .int .i64 0, .int .i64 0, .int .i64 0, .int .i64 0, .int .i64 0, .int .i64 0, .int .i64 0, .slice none 0 0, .slice none 0 0, .slice none 0 0] 56)) :=
  ⟨((Blk.made _ _ _).alloc _).alloc _, (Blk.made_eq (by simp)).alloc _, Blk.made_eq (by simp), Below.allocW _ (Below.allocW _ (Below.allocW _ (Below.refl _ _) (Nat.le_refl _)) (Nat.le_refl _)) (Nat.le_refl _)⟩
/-- .. and the copy in a variable at L. -/
structure SendL (w : World) (A : Array Value) (L : Nat) (C : Array Value) (y : Ag) (F G : List Nat) (W : World) : Prop where
  base : SendW w A W
  loc : Blk W L C 25
  rd : RdAg W (.agg C) y F G
  oF : Own (w.heap.size + 3) W F
  oG : Own (w.heap.size + 3) W G
  ap : ∀ b ∈ F, b ∉ G
  gL : w.heap.size + 3 ≤ L
  lF : ∀ b ∈ F, b < L
  lG : ∀ b ∈ G, b < L
theorem SendL.below {w : World} {A : Array Value} {L : Nat} {C : Array Value} {y : Ag} {F G : List Nat} {W W' : World} (h : SendL w A L C y F G W) (b : Below W.heap.size W W') : SendL w A L C y F G W' :=
  ⟨h.base.below b, h.loc.below b, h.rd.below b, h.oF.below h.rd.lt1 b, h.oG.below h.rd.lt2 b, h.ap, h.gL, h.lF, h.lG⟩
/-- Its last field is turned. -/
theorem SendL.turn {w : World} {A : Array Value} {L : Nat} {x : Ag} {q1 q2 : Option Addr} {r1 k1 r2 k2 : Nat} {F G : List Nat} {W : World} (h : SendL w A L #[.int .i64 x.id, .int .i64 x.epoch, .bool x.live, .int .i64 x.granted, .slice q1 r1 k1, .slice q2 r2 k2, .int .i64 x.next] x F G W) (sq : Int) :
    SendL w A L #[.int .i64 x.id, .int .i64 x.epoch, .bool x.live, .int .i64 x.granted, .slice q1 r1 k1, .slice q2 r2 k2, .int .i64 sq] ⟨x.id, x.epoch, x.live, x.granted, x.sealed, x.taken, sq⟩ F G (W.setCell ⟨L, 6, none⟩ (.int .i64 sq)) := by
  have gL := h.gL
  have nF : L ∉ F := fun hx => by have := h.lF L hx; omega
  have nG : L ∉ G := fun hx => by have := h.lG L hx; omega
  obtain ⟨a1, m1, c1, a2, m2, c2, e, g1, g2, g3, g4⟩ := h.rd
  injection e with e
  injection e with e
  simp at e
  obtain ⟨e1, e2⟩ := e
  obtain ⟨rfl, rfl, rfl⟩ := e1
  obtain ⟨rfl, rfl, rfl⟩ := e2
  exact ⟨⟨h.base.box.setOther (by omega) 6 _, h.base.ra.setOther (by omega) 6 _, h.base.rf.setOther (by omega) 6 _, h.base.bel.setCell (by show w.heap.size ≤ L; omega) _⟩, h.loc.set 6 _,
    ⟨_, _, _, _, _, _, rfl, g1.agree (.set nF 6 _), g2.agree (.set nG 6 _), g3, g4⟩, h.oF.agree (.set nF 6 _), h.oG.agree (.set nG 6 _), h.ap, gL, h.lF, h.lG⟩
/-- Both results are laid. -/
theorem SendL.put {w : World} {A : Array Value} {L : Nat} {C D : Array Value} {y : Ag} {f : Fr} {F G G' : List Nat} {W : World} (h : SendL w A L C y F G W) (hr : RdFr W (.agg D) f [] G') (ho : Own (w.heap.size + 3) W G') (hg : ∀ b ∈ G', L < b) :
    NewAgFr w (y, f) (.returned (.tuple #[.agg C, .agg D])) ((W.setRow (w.heap.size + 1) C).setRow (w.heap.size + 1 + 1) D) ∧ Blk ((W.setRow (w.heap.size + 1) C).setRow (w.heap.size + 1 + 1) D) (w.heap.size + 1) C 25 ∧ Blk ((W.setRow (w.heap.size + 1) C).setRow (w.heap.size + 1 + 1) D) (w.heap.size + 1 + 1) D 56 := by
  have ag : ∀ {X : List Nat}, (∀ b ∈ X, w.heap.size + 3 ≤ b) → Agree W ((W.setRow (w.heap.size + 1) C).setRow (w.heap.size + 1 + 1) D) X := fun hX b hb => (setRow_other _ _ b _ (fun e => by have := hX b hb; omega)).trans (setRow_other W _ b _ (fun e => by have := hX b hb; omega))
  have aF := ag h.oF.ge
  have aG := ag h.oG.ge
  have aI := ag ho.ge
  refine ⟨⟨_, _, F, G, [], G', rfl, h.rd.agree aF aG, hr.agree (fun b hb => by cases hb) aI, (h.oF.agree aF).mono (by omega), (h.oG.agree aG).mono (by omega), Own.nil, (ho.agree aI).mono (by omega), h.ap, (fun b hb => by cases hb), fun b hb hx => ?_, below_setRow (below_setRow h.base.bel (by omega) _) (by omega) _⟩, h.base.ra.setRow.setRowOther (by omega), (h.base.rf.setRowOther (by omega)).setRow⟩
  have h1 := hg b (by simpa using hx)
  rcases List.mem_append.1 hb with hb | hb
  · have := h.lF b hb; omega
  · have := h.lG b hb; omega
theorem rdFr_bare (W : World) (a b c : Int) : RdFr W (.agg #[.int .i64 a, .int .i64 b, .int .i64 c, .int .i64 0, .slice none 0 0, .int .i64 0, .int .i64 0, .int .i64 0, .int .i64 0, .int .i64 0, .int .i64 0, .int .i64 0, .int .i64 0, .slice none 0 0, .slice none 0 0, .slice none 0 0]) ⟨a, b, c, 0, [], It.zero⟩ [] [] :=
  ⟨none, 0, 0, none, 0, 0, none, 0, 0, none, 0, 0, rfl, RdP.nil, ⟨none, 0, 0, none, 0, 0, none, 0, 0, rfl, none, 0, 0, none, 0, 0, none, 0, 0, [], [], [], rfl, ⟨rfl, .inl ⟨rfl, rfl⟩⟩, ⟨rfl, .inl ⟨rfl, rfl⟩⟩, ⟨rfl, .inl ⟨rfl, rfl⟩⟩, rfl⟩, ⟨fun _ => rfl, Nat.le_refl _⟩⟩
theorem rdFr_item {W : World} {a b : Int} {y : It} {G : List Nat} {u1 u2 u3 : Option Addr} {v1 v2 v3 y1 y2 y3 : Nat} (h : RdIt W (.agg #[.int .i64 y.seq, .int .i64 y.cls, .int .i64 y.key, .int .i64 y.window, .int .i64 y.sk.count, .int .i64 y.sk.sum, .int .i64 y.sk.min, .int .i64 y.sk.max, .slice u1 v1 y1, .slice u2 v2 y2, .slice u3 v3 y3]) y G) : RdFr W (.agg #[.int .i64 1, .int .i64 a, .int .i64 b, .int .i64 0, .slice none 0 0, .int .i64 y.seq, .int .i64 y.cls, .int .i64 y.key, .int .i64 y.window, .int .i64 y.sk.count, .int .i64 y.sk.sum, .int .i64 y.sk.min, .int .i64 y.sk.max, .slice u1 v1 y1, .slice u2 v2 y2, .slice u3 v3 y3]) ⟨1, a, b, 0, [], y⟩ [] G :=
  ⟨none, 0, 0, u1, v1, y1, u2, v2, y2, u3, v3, y3, rfl, RdP.nil, h, ⟨fun _ => rfl, Nat.le_refl _⟩⟩
end Go.Proofs.Ytjndcfamfminkar
/- The walks through the program's numbers, bytesOfNumbers and SketchBytes. No statement of the seat is proved here. -/
namespace Go.Proofs.Ytjndcfamfminkar
open Go.RowKit
section
variable {P : Program} {ops : Array Oper} {Q : Exit → Act → World → Prop} {a : Act} {w : World} {o : Oper} {K : Act → World → Prop}
end
theorem NumSt.below {w W W' : World} {cs : Array Value} {t : TypeId} {v : Value} {xs : List Int} (h : NumSt w cs t v xs W) (hb : Below W.heap.size W W') : NumSt w cs t v xs W' := ⟨h.box.below hb, ownsRow_below h.own hb, Below.next h.bel hb⟩
end Go.Proofs.Ytjndcfamfminkar
/- The walk through the program's GetNum: it defers, it calls readNum, it recovers. No statement of the seat is proved here. -/
namespace Go.Proofs.Ytjndcfamfminkar
open Go.RowKit





end Go.Proofs.Ytjndcfamfminkar
/- The walk through the program's numbersOfBytes. No statement of the seat is proved here. -/
namespace Go.Proofs.Ytjndcfamfminkar
open Go.RowKit
end Go.Proofs.Ytjndcfamfminkar
/- The walks through the program's SketchBytes, numbersOfItem, crcBytes. No statement of the seat is proved here. -/
namespace Go.Proofs.Ytjndcfamfminkar
open Go.RowKit
theorem ok_shaped {s : Sk} (h : s.ok = true) : s.shaped = true := by
  have l := (Sk.ok_lens h).1
  cases q : s.shaped
  · have e : okT s s.tl = false := by unfold okT; rw [q]; rfl
    rw [okT_ok (fun _ => rfl), h] at e
    cases e
  · rfl
end Go.Proofs.Ytjndcfamfminkar
/- The walks through the program's sketchOfNumbers and SketchOf. No statement of the seat is proved here. -/
namespace Go.Proofs.Ytjndcfamfminkar
open Go.RowKit
theorem rdI_own_cap {w : World} {B e n : Nat} {v : Value} {zs : List Int} (h : w.ownsRow B e 1 v n (zs.map (Value.int .i64))) : ∃ a cap F, v = .slice a n cap ∧ RdI w a n zs F ∧ n ≤ cap := by
  obtain ⟨a, cap, F, rfl, hr, _⟩ := rdI_of_own h
  refine ⟨a, cap, F, rfl, hr, ?_⟩
  rcases h.2 with ⟨_, h0⟩ | ⟨g, c, cur, h1, _, _, h2, _⟩
  · omega
  · cases h1; exact h2
end Go.Proofs.Ytjndcfamfminkar
