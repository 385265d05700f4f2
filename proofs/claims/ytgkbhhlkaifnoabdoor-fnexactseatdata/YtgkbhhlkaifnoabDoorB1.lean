/- Several texts of mine, laid together. No statement of the seat is proved here. -/
import Derived.Test.YtgkbhhlkaifnoabDoorSpImplA
import Derived.Maps.AppendAt
import Derived.BigRegion
import Derived.Deep.RegionHeld3
import Derived.Laws.StructEq
import Derived.Test.YtgkbhhlkaifnoabDoorSeModel
import Derived.Test.YtgkbhhlkaifnoabDoorAreSeqs
import Derived.Test.YtgkbhhlkaifnoabDoorTallyA
import Derived.Test.YtgkbhhlkaifnoabDoorWhole
import Derived.WalkKit
import Derived.LaidEql
import Derived.Stop.Asserts
import Derived.RowKitTokens
import Derived.Test.YtgkbhhlkaifnoabDoorBase
import Derived.Test.YtgkbhhlkaifnoabDoorSpAlg
/- The walk through the program's laying of spans behind a set that it makes. No statement of the seat is proved here. -/
namespace Go.Proofs.YtgkbhhlkaifnoabDoor
open Go.RowKit
theorem lay1_apart {o : Sp} {x : Int × Int} (h : o = [] ∨ (o.at (o.length - 1)).2 + 1 < x.1) : lay1 o x = o ++ [x] := by unfold lay1; rw [if_pos h]
theorem lay1_widen {o : Sp} {x : Int × Int} (h : ¬ (o = [] ∨ (o.at (o.length - 1)).2 + 1 < x.1)) : lay1 o x = o.take (o.length - 1) ++ [((o.at (o.length - 1)).1, max (o.at (o.length - 1)).2 x.2)] := by unfold lay1; rw [if_neg h]
theorem lay_drop {o xs : Sp} {k : Nat} (hk : k < xs.length) : lay o (xs.drop k) = lay (lay1 o (xs.at k)) (xs.drop (k + 1)) := by rw [drop_at hk]; rfl
theorem lay1_inb {o : Sp} {x : Int × Int} (h : ∀ p ∈ o, InB p) (hx : InB x) : ∀ p ∈ lay1 o x, InB p := by
  intro p hp
  unfold lay1 at hp
  split at hp
  · rcases List.mem_append.1 hp with hp | hp
    · exact h p hp
    · obtain rfl : p = x := by simpa using hp
      exact hx
  · rename_i hc
    rcases List.mem_append.1 hp with hp | hp
    · exact h p (List.mem_of_mem_take hp)
    · have e : p = ((o.at (o.length - 1)).1, max (o.at (o.length - 1)).2 x.2) := by simpa using hp
      have hne : 0 < o.length := List.length_pos_iff.2 (fun e => hc (.inl e))
      have := h _ (Sp.at_mem (ps := o) (k := o.length - 1) (by omega))
      subst e
      unfold InB at this hx ⊢
      simp only
      omega
theorem lay1_length (o : Sp) (x : Int × Int) : (lay1 o x).length ≤ o.length + 1 := by
  unfold lay1
  split
  · simp
  · simp
theorem lay_length : ∀ (xs o : Sp), (lay o xs).length ≤ o.length + xs.length
  | [], o => by simp [lay]
  | x :: xs, o => by
    have h1 := lay_length xs (lay1 o x)
    have h2 := lay1_length o x
    rw [show lay o (x :: xs) = lay (lay1 o x) xs from rfl]
    simp
    omega
theorem lay_inb : ∀ {xs o : Sp}, (∀ p ∈ o, InB p) → (∀ p ∈ xs, InB p) → ∀ p ∈ lay o xs, InB p
  | [], _, h, _ => h
  | x :: xs, o, h, hx => lay_inb (xs := xs) (lay1_inb h (hx x (by simp))) (fun p hp => hx p (by simp [hp]))
theorem flat_widen {o : Sp} {m : Nat} (hm : o.length = m + 1) (z : Int) : flat (o.take m ++ [((o.at m).1, z)]) = (flat o).set (m * 2 + 1) z := by
  have e : o = o.take m ++ [o.at m] := by
    have := takeP_succ o m (by omega)
    rw [List.take_of_length_le (by omega)] at this
    exact this
  have hl : (flat (o.take m)).length = m * 2 := by rw [flat_length]; simp; omega
  conv => rhs; rw [e]
  rw [flat_append, flat_append, List.set_append_right (m * 2 + 1) _ (by omega), hl, show m * 2 + 1 - m * 2 = 1 by omega]
  simp [flat]
/-- The set that is made: what it holds, and that nothing else was written since w. -/
structure LayAt (w : World) (B : Nat) (v0 v : Value) (o : Sp) (W : World) : Prop where
  own : W.ownsRow B 42 2 v o.length ((flat o).map (Value.int .i64))
  grown : w.grownBy W v0.ownBlock
  fresh : v.ownBlock = v0.ownBlock ∨ ∀ g, v.ownBlock = some g → w.heap.size ≤ g
theorem LayAt.alloc {w W : World} {B : Nat} {v0 v : Value} {o : Sp} (h : LayAt w B v0 v o W) (ob : Obj) : LayAt w B v0 v o (W.alloc ob) :=
  ⟨h.own.alloc _, ⟨h.grown.os, h.grown.tape, h.grown.output, by have := h.grown.size; simp; omega, fun k hk hne => (Below.heap_alloc W ob k (by have := h.grown.size; omega)).trans (h.grown.block k hk hne)⟩, h.fresh⟩
theorem LayAt.drewN {w W : World} {B : Nat} {v0 v : Value} {o : Sp} (h : LayAt w B v0 v o W) (m : Nat) : LayAt w B v0 v o (W.drewN m) :=
  ⟨⟨h.own.1, h.own.2⟩, ⟨h.grown.os, h.grown.tape, h.grown.output, h.grown.size, h.grown.block⟩, h.fresh⟩
theorem LayAt.app {w W W6 : World} {B : Nat} {v0 v v' : Value} {o : Sp} {p q : Int} {ob : Obj} (h : LayAt w B v0 v o W) (hown : W6.ownsRow B 42 2 v' (o.length + 1) ((flat o).map (Value.int .i64) ++ [.int .i64 p, .int .i64 q])) (hgrow : (W.alloc ob).grownBy W6 v.ownBlock) (hob : v'.ownBlock = v.ownBlock ∨ v'.ownBlock = some (W.alloc ob).heap.size) : LayAt w B v0 v' (o ++ [(p, q)]) W6 := by
  have ha := h.alloc ob
  refine ⟨?_, ⟨hgrow.os.trans ha.grown.os, hgrow.tape.trans ha.grown.tape, hgrow.output.trans ha.grown.output, Nat.le_trans ha.grown.size hgrow.size, fun k hk hne => ?_⟩, ?_⟩
  · rw [flat_append, List.map_append, List.length_append]
    exact hown
  · refine (hgrow.block k (Nat.lt_of_lt_of_le hk ha.grown.size) (fun e => ?_)).trans (ha.grown.block k hk hne)
    rcases h.fresh with f | f
    · exact hne (e.trans f)
    · have := f k e.symm; omega
  · rcases hob with e | e
    · rw [e]; exact h.fresh
    · right
      intro g hg
      rw [e] at hg
      cases hg
      exact ha.grown.size
theorem LayAt.widen {w W : World} {B g n cap m : Nat} {v0 : Value} {o : Sp} (h : LayAt w B v0 (.slice (some ⟨g, 0, none⟩) n cap) o W) (hm : o.length = m + 1) (z : Int) : LayAt w B v0 (.slice (some ⟨g, 0, none⟩) n cap) (o.take m ++ [((o.at m).1, z)]) (W.setCell ⟨g, m * 2 + 1, none⟩ (.int .i64 z)) := by
  refine ⟨?_, ⟨h.grown.os, h.grown.tape, h.grown.output, by have := h.grown.size; simp; omega, fun k hk hne => ?_⟩, h.fresh⟩
  · have hl : (o.take m ++ [((o.at m).1, z)]).length = o.length := by simp; omega
    rw [hl, flat_widen hm]
    refine ⟨by have := h.own.1; simpa using this, ?_⟩
    rcases h.own.2 with ⟨e, _⟩ | ⟨g', cap', cur, e, h2, h3, h4, h5, h6, h7⟩
    · cases e
    · cases e
      refine .inr ⟨g, cap, cur.setIfInBounds (m * 2 + 1) (.int .i64 z), rfl, h2, ?_, h4, h5, by simpa using h6, ?_⟩
      · exact Blk.set (w := W) (g := g) (cs := cur) h3 (m * 2 + 1) _
      · rw [Array.toList_setIfInBounds, List.take_set, h7]
        simp
  · have hg : k ≠ g := by
      rintro rfl
      rcases h.fresh with f | f
      · exact hne f
      · have := f k rfl; omega
    exact (Below.heap_setCell W ⟨g, m * 2 + 1, none⟩ _ k hg).trans (h.grown.block k hk hne)
theorem LayAt.cells {w W : World} {B g n cap : Nat} {v0 : Value} {o : Sp} (h : LayAt w B v0 (.slice (some ⟨g, 0, none⟩) n cap) o W) {m : Nat} (hm : m < o.length) : W.cell? ⟨g, m * 2, none⟩ = some (.int .i64 (o.at m).1) ∧ W.cell? ⟨g, m * 2 + 1, none⟩ = some (.int .i64 (o.at m).2) ∧ ∀ j, W.frozen? ⟨g, j, none⟩ = false := by
  have hn : o.length = n := by
    rcases h.own.2 with ⟨e, _⟩ | ⟨g', cap', cur, e, _⟩
    · cases e
    · cases e; rfl
  have own := h.own
  rw [hn] at own
  have hl := flat_length o
  have e1 := own.cellAt (m * 2) (by omega)
  have e2 := own.cellAt (m * 2 + 1) (by omega)
  refine ⟨?_, ?_, fun j => own.frozenAt j⟩
  · rw [e1]
    have := flat_lo o m
    rw [show 2 * m = m * 2 by omega, List.getElem?_eq_getElem (by omega)] at this
    simp only [List.getElem?_map, List.getElem?_eq_getElem (show m * 2 < (flat o).length by omega), Option.map_some]
    unfold Sp.at
    rw [← this]; rfl
  · rw [e2]
    have := flat_hi o m
    rw [show 2 * m = m * 2 by omega, List.getElem?_eq_getElem (by omega)] at this
    simp only [List.getElem?_map, List.getElem?_eq_getElem (show m * 2 + 1 < (flat o).length by omega), Option.map_some]
    unfold Sp.at
    rw [← this]; rfl
end Go.Proofs.YtgkbhhlkaifnoabDoor
/- The walk through the program's laying of spans behind a set that it makes. No statement of the seat is proved here. -/
namespace Go.Proofs.YtgkbhhlkaifnoabDoor
open Go.RowKit
/-- A set of the maker's own: not nil. -/
theorem own_cases {W : World} {B e n : Nat} {v : Value} {xs : List Value} (h : W.ownsRow B e 2 v n xs) : (v = .slice none 0 0 ∧ n = 0) ∨ ∃ g cap n', v = .slice (some ⟨g, 0, none⟩) n' cap ∧ n' = n ∧ n ≤ cap := by
  rcases h.2 with e | ⟨g, cap, cur, e, _, _, h4, _⟩
  · exact .inl e
  · exact .inr ⟨g, cap, n, e, rfl, h4⟩
set_option maxRecDepth 100000 in
set_option maxHeartbeats 8000000 in
theorem laid_any (B : Nat) (v0 : Value) (o0 : Sp) (a : Option Addr) (len cap : Nat) (xs : Sp) (F : List Nat) (w : World) (hown : w.ownsRow B 42 2 v0 o0.length ((flat o0).map (Value.int .i64))) (hB : B ≤ w.heap.size) (h : RdP w a len xs F) (hF : ∀ b ∈ F, some b ≠ v0.ownBlock) (hlen : o0.length + len ≤ 4194304) (ho : ∀ p ∈ o0, InB p) (hx : ∀ p ∈ xs, InB p) :
    Calls Tryd.prog 53 #[v0, .slice a len cap] w fun e w' => ∃ v, e = .returned v ∧ LayAt w B v0 v (lay o0 xs) w' := by
  obtain ⟨t0, hi, hz0, hz1, hz2⟩ := info_parts infoSpan
  have HL : Hid (xs.length = len) := h.length
  have HIN : Hid (∀ p ∈ xs, InB p) := hx
  have HP0 : Hid (LayAt w B v0 v0 o0 w) := ⟨hown, ⟨rfl, rfl, rfl, Nat.le_refl _, fun _ _ _ => rfl⟩, .inl rfl⟩
  have HI0 : Hid (∀ p ∈ o0, InB p) := ho
  have HC : Hid (len = 0 ∨ ∃ b off, a = some ⟨b, off, none⟩ ∧ (b < w.heap.size ∧ some b ≠ v0.ownBlock) ∧ SpCells w b off len xs) := by
    rcases h.cells with ⟨h0, _⟩ | ⟨b, off, hp, e, hFb, hc⟩
    · exact .inl h0
    · exact .inr ⟨b, off, e, ⟨World.block_lt_of_cell? _ _ (hc 0 hp).1, hF b (by rw [hFb]; simp)⟩, hc⟩
  clear h hown hF ho hx
  go_enter Tryd.func53, Tryd.ntmps53
  go_wp2
  go_loopw [0, 10] (fun v i wr => ∃ (k : Nat) (o : Sp), k ≤ len ∧ i = .int .i64 k ∧ o.length ≤ o0.length + k ∧ Hid (LayAt w B v0 v o wr) ∧ Hid (∀ p ∈ o, InB p) ∧ Hid (lay o (xs.drop k) = lay o0 xs)) (fun _ i _ => len - (intOf i).toNat)
  case atStart => exact ⟨0, o0, by omega, rfl, by omega, HP0, HI0, rfl⟩
  case round =>
    clear HP0 HI0
    obtain ⟨k, o, hk, rfl, hol, HP, HI, HN⟩ := hrel
    by_cases hlt : k < len
    · have hca := HC.out
      rcases hca with h0 | ⟨b, off, rfl, hbw, hc⟩
      · omega
      obtain ⟨x, hx⟩ : ∃ x, x = (xs.at k).1 := ⟨_, rfl⟩
      obtain ⟨y, hy⟩ : ∃ x, x = (xs.at k).2 := ⟨_, rfl⟩
      have e := hc k hlt
      have hkl : k < xs.length := by rw [HL.out]; exact hlt
      have hb := HIN.out _ (Sp.at_mem hkl)
      have HXY : Hid (xs.at k = (x, y)) := by rw [hx, hy]; rfl
      rw [HXY.out] at hb e
      have HINX : Hid (InB (x, y)) := hb
      obtain ⟨⟨x0, x1⟩, y0, y1⟩ := hb
      have hblk := HP.out.grown.block b hbw.1 hbw.2
      have d1 : wr.cell? ⟨b, off + k * 2, none⟩ = some (.int .i64 x) := (World.cell?_of_block (w := w) (a := ⟨b, off + k * 2, none⟩) hblk).trans e.1
      have d2 : wr.cell? ⟨b, off + k * 2 + 1, none⟩ = some (.int .i64 y) := (World.cell?_of_block (w := w) (a := ⟨b, off + k * 2 + 1, none⟩) hblk).trans e.2
      have hI : (k : Int) < (len : Int) := by omega
      have HBW : Hid (B ≤ wr.heap.size) := Nat.le_trans hB HP.out.grown.size
      clear e hx hy hc hblk
      have hos := own_cases HP.out.own
      rcases hos with ⟨rfl, h0⟩ | ⟨g, cp, nn, rfl, hnn, hcp⟩
      · have HLA : Hid (lay1 o (x, y) = o ++ [(x, y)]) := lay1_apart (.inl (List.eq_nil_of_length_eq_zero h0))
        have HN2 : Hid (lay (o ++ [(x, y)]) (xs.drop (k + 1)) = lay o0 xs) := by
          rw [lay_drop hkl, HXY.out, HLA.out] at HN
          exact HN
        have HI2 : Hid (∀ p ∈ o ++ [(x, y)], InB p) := by rw [← HLA.out]; exact lay1_inb HI.out HINX.out
        go_wp2
        go_quiet (fail)
        obtain ⟨wq, hwq⟩ : ∃ W, W = (wr.alloc (.cells #[.int .i64 x, .int .i64 y] 42)).drewN nq := ⟨_, rfl⟩
        have HPq : Hid (LayAt w B v0 (.slice none 0 0) o wq) := by rw [hwq]; exact (HP.out.alloc _).drewN nq
        have b1 : wq.cell? ⟨wr.heap.size, 0, none⟩ = some (.int .i64 x) := by rw [hwq]; exact (Blk.made wr _ _).cell 0
        have b2 : wq.cell? ⟨wr.heap.size, 1, none⟩ = some (.int .i64 y) := by rw [hwq]; exact (Blk.made wr _ _).cell 1
        have HBq : Hid (B ≤ wq.heap.size) := by have := HBW.out; rw [hwq]; simp [World.drewN]; show _ ≤ _; omega
        rw [← hwq]
        clear hwq HP
        go_wp2_with (first | go_skip | (with_reducible refine stopAppend2 rfl ?_))
        refine Stop.intro (wpList_append_own_at _ rfl _ _ 26 rfl B 42 t0 (.agg #[.int .i64 0, .int .i64 0]) 2 16 Tryd.underlying26 hi hz0 hz1 hz2 rfl (by decide) _ (o).length ((flat (o)).map (Value.int .i64)) rfl (HPq.out.own.alloc _) ⟨wq.heap.size, 0, none⟩ 1 1 [.int .i64 x, .int .i64 y] rfl rfl (cell_new2 _ _ _ _) (by intro u hu; simp at hu; rcases hu with rfl | rfl <;> rfl) (by unfold maxLen; omega) (by omega) (by have := HBq.out; simp; omega) ?_)
        intro v2 w2 hown hgrow _ hob
        have HP2 : Hid (LayAt w B v0 v2 (o ++ [(x, y)]) w2) := HPq.out.app hown hgrow hob
        clear hown hgrow HPq hob
        go_wp2
        go_roundw
        case rel => exact ⟨k + 1, o ++ [(x, y)], by omega, by go_num, by simp; omega, HP2, HI2, HN2⟩
        case measure => simp [intOf]; omega
      have HNN : Hid (nn = o.length) := hnn
      clear hnn hcp
      rcases nn with _ | m
      · have HLA : Hid (lay1 o (x, y) = o ++ [(x, y)]) := lay1_apart (.inl (List.eq_nil_of_length_eq_zero HNN.out.symm))
        have HN2 : Hid (lay (o ++ [(x, y)]) (xs.drop (k + 1)) = lay o0 xs) := by
          rw [lay_drop hkl, HXY.out, HLA.out] at HN
          exact HN
        have HI2 : Hid (∀ p ∈ o ++ [(x, y)], InB p) := by rw [← HLA.out]; exact lay1_inb HI.out HINX.out
        go_wp2
        go_quiet (fail)
        obtain ⟨wq, hwq⟩ : ∃ W, W = (wr.alloc (.cells #[.int .i64 x, .int .i64 y] 42)).drewN nq := ⟨_, rfl⟩
        have HPq : Hid (LayAt w B v0 (.slice (some ⟨g, 0, none⟩) 0 cp) o wq) := by rw [hwq]; exact (HP.out.alloc _).drewN nq
        have b1 : wq.cell? ⟨wr.heap.size, 0, none⟩ = some (.int .i64 x) := by rw [hwq]; exact (Blk.made wr _ _).cell 0
        have b2 : wq.cell? ⟨wr.heap.size, 1, none⟩ = some (.int .i64 y) := by rw [hwq]; exact (Blk.made wr _ _).cell 1
        have HBq : Hid (B ≤ wq.heap.size) := by have := HBW.out; rw [hwq]; simp [World.drewN]; show _ ≤ _; omega
        rw [← hwq]
        clear hwq HP
        go_wp2_with (first | go_skip | (with_reducible refine stopAppend2 rfl ?_))
        refine Stop.intro (wpList_append_own_at _ rfl _ _ 26 rfl B 42 t0 (.agg #[.int .i64 0, .int .i64 0]) 2 16 Tryd.underlying26 hi hz0 hz1 hz2 rfl (by decide) _ (o).length ((flat (o)).map (Value.int .i64)) rfl (HPq.out.own.alloc _) ⟨wq.heap.size, 0, none⟩ 1 1 [.int .i64 x, .int .i64 y] rfl rfl (cell_new2 _ _ _ _) (by intro u hu; simp at hu; rcases hu with rfl | rfl <;> rfl) (by unfold maxLen; omega) (by omega) (by have := HBq.out; simp; omega) ?_)
        intro v2 w2 hown hgrow _ hob
        have HP2 : Hid (LayAt w B v0 v2 (o ++ [(x, y)]) w2) := HPq.out.app hown hgrow hob
        clear hown hgrow HPq hob
        go_wp2
        go_roundw
        case rel => exact ⟨k + 1, o ++ [(x, y)], by omega, by go_num, by simp; omega, HP2, HI2, HN2⟩
        case measure => simp [intOf]; omega
      have hm : o.length = m + 1 := HNN.out.symm
      obtain ⟨s, hs⟩ : ∃ x, x = (o.at m).1 := ⟨_, rfl⟩
      obtain ⟨t, ht⟩ : ∃ x, x = (o.at m).2 := ⟨_, rfl⟩
      have hcm := HP.out.cells (m := m) (by omega)
      have him := HI.out _ (Sp.at_mem (ps := o) (k := m) (by omega))
      unfold InB at him
      rw [← hs, ← ht] at hcm him
      have HST : Hid (o.at (o.length - 1) = (s, t)) := by rw [hm, show m + 1 - 1 = m by omega, hs, ht]; rfl
      obtain ⟨f1, f2, f3⟩ := hcm
      obtain ⟨⟨s0, s1⟩, t1, t2⟩ := him
      have HFZ : Hid (∀ j, wr.frozen? ⟨g, j, none⟩ = false) := f3
      have gd : decide ((m : Int) < 0) = false := decF (by omega)
      have hI3 : (m : Int) < (m : Int) + 1 := by omega
      have hM : m ≤ 4194304 := by omega
      have HNE : Hid (¬ o = []) := fun e => by rw [e] at hm; simp at hm
      have HM : Hid (o.length = m + 1) := hm
      clear hs ht f3 hm
      by_cases c : t + 1 < x
      · have cd : decide (t + 1 < x) = true := decT c
        have HLA : Hid (lay1 o (x, y) = o ++ [(x, y)]) := lay1_apart (.inr (by rw [HST.out]; exact c))
        have HN2 : Hid (lay (o ++ [(x, y)]) (xs.drop (k + 1)) = lay o0 xs) := by
          rw [lay_drop hkl, HXY.out, HLA.out] at HN
          exact HN
        have HI2 : Hid (∀ p ∈ o ++ [(x, y)], InB p) := by rw [← HLA.out]; exact lay1_inb HI.out HINX.out
        go_wp2
        obtain ⟨wa, hwa⟩ : ∃ W, W = wr.alloc (.cells #[.int .i64 x, .int .i64 y] 42) := ⟨_, rfl⟩
        have HPa : Hid (LayAt w B v0 (.slice (some ⟨g, 0, none⟩) (m + 1) cp) o wa) := by rw [hwa]; exact HP.out.alloc _
        have a1 : wa.cell? ⟨wr.heap.size, 0, none⟩ = some (.int .i64 x) := by rw [hwa]; exact (Blk.made wr _ _).cell 0
        have a2 : wa.cell? ⟨wr.heap.size, 1, none⟩ = some (.int .i64 y) := by rw [hwa]; exact (Blk.made wr _ _).cell 1
        have a3 : wa.cell? ⟨g, m * 2 + 1, none⟩ = some (.int .i64 t) := by
          have e4 := (HPa.out.cells (m := m) (by have := HM.out; omega)).2.1
          have e5 := HST.out
          rw [HM.out, show m + 1 - 1 = m by omega] at e5
          rw [e5] at e4
          exact e4
        have HBa : Hid (B ≤ wa.heap.size) := by have := HBW.out; rw [hwa]; simp; show _ ≤ _; omega
        rw [← hwa]
        clear hwa HP f1 f2
        go_quiet (fail)
        obtain ⟨wq, hwq⟩ : ∃ W, W = wa.drewN nq := ⟨_, rfl⟩
        have HPq : Hid (LayAt w B v0 (.slice (some ⟨g, 0, none⟩) (m + 1) cp) o wq) := by rw [hwq]; exact HPa.out.drewN nq
        have b1 : wq.cell? ⟨wr.heap.size, 0, none⟩ = some (.int .i64 x) := by rw [hwq]; exact a1
        have b2 : wq.cell? ⟨wr.heap.size, 1, none⟩ = some (.int .i64 y) := by rw [hwq]; exact a2
        have HBq : Hid (B ≤ wq.heap.size) := by rw [hwq]; exact HBa.out
        rw [← hwq]
        clear hwq HPa a1 a2 a3
        go_wp2_with (first | go_skip | (with_reducible refine stopAppend2 rfl ?_))
        refine Stop.intro (wpList_append_own_at _ rfl _ _ 26 rfl B 42 t0 (.agg #[.int .i64 0, .int .i64 0]) 2 16 Tryd.underlying26 hi hz0 hz1 hz2 rfl (by decide) _ (o).length ((flat (o)).map (Value.int .i64)) rfl (HPq.out.own.alloc _) ⟨wq.heap.size, 0, none⟩ 1 1 [.int .i64 x, .int .i64 y] rfl rfl (cell_new2 _ _ _ _) (by intro u hu; simp at hu; rcases hu with rfl | rfl <;> rfl) (by unfold maxLen; omega) (by omega) (by have := HBq.out; simp; omega) ?_)
        intro v2 w2 hown hgrow _ hob
        have HP2 : Hid (LayAt w B v0 v2 (o ++ [(x, y)]) w2) := HPq.out.app hown hgrow hob
        clear hown hgrow HPq hob
        go_wp2
        go_roundw
        case rel => exact ⟨k + 1, o ++ [(x, y)], by omega, by go_num, by simp; omega, HP2, HI2, HN2⟩
        case measure => simp [intOf]; omega
      have cd : decide (t + 1 < x) = false := decF c
      have HLA : Hid (lay1 o (x, y) = o.take m ++ [((o.at m).1, max t y)]) := by
        have := lay1_widen (o := o) (x := (x, y)) (fun e => by rw [HST.out] at e; exact e.elim HNE.out c)
        show _ = _
        rw [this, HST.out, HM.out, show m + 1 - 1 = m by omega]
        have e2 := HST.out
        rw [HM.out, show m + 1 - 1 = m by omega] at e2
        rw [e2]
      have HN2 : Hid (lay (o.take m ++ [((o.at m).1, max t y)]) (xs.drop (k + 1)) = lay o0 xs) := by
        rw [lay_drop hkl, HXY.out, HLA.out] at HN
        exact HN
      have HI2 : Hid (∀ p ∈ o.take m ++ [((o.at m).1, max t y)], InB p) := by rw [← HLA.out]; exact lay1_inb HI.out HINX.out
      go_wp2
      obtain ⟨wa, hwa⟩ : ∃ W, W = wr.alloc (.cells #[.int .i64 x, .int .i64 y] 42) := ⟨_, rfl⟩
      have HPa : Hid (LayAt w B v0 (.slice (some ⟨g, 0, none⟩) (m + 1) cp) o wa) := by rw [hwa]; exact HP.out.alloc _
      have a1 : wa.cell? ⟨wr.heap.size, 0, none⟩ = some (.int .i64 x) := by rw [hwa]; exact (Blk.made wr _ _).cell 0
      have a2 : wa.cell? ⟨wr.heap.size, 1, none⟩ = some (.int .i64 y) := by rw [hwa]; exact (Blk.made wr _ _).cell 1
      have a3 : wa.cell? ⟨g, m * 2 + 1, none⟩ = some (.int .i64 t) := by
        have e4 := (HPa.out.cells (m := m) (by have := HM.out; omega)).2.1
        have e5 := HST.out
        rw [HM.out, show m + 1 - 1 = m by omega] at e5
        rw [e5] at e4
        exact e4
      have HBa : Hid (B ≤ wa.heap.size) := by have := HBW.out; rw [hwa]; simp; show _ ≤ _; omega
      rw [← hwa]
      clear hwa HP f1 f2
      go_quiet (fail)
      obtain ⟨wq, hwq⟩ : ∃ W, W = wa.drewN nq := ⟨_, rfl⟩
      have HPq : Hid (LayAt w B v0 (.slice (some ⟨g, 0, none⟩) (m + 1) cp) o wq) := by rw [hwq]; exact HPa.out.drewN nq
      have b1 : wq.cell? ⟨wr.heap.size, 0, none⟩ = some (.int .i64 x) := by rw [hwq]; exact a1
      have b2 : wq.cell? ⟨wr.heap.size, 1, none⟩ = some (.int .i64 y) := by rw [hwq]; exact a2
      have hcq := HPq.out.cells (m := m) (by have := HM.out; omega)
      have e3 := HST.out
      rw [HM.out, show m + 1 - 1 = m by omega] at e3
      rw [e3] at hcq
      obtain ⟨f1, f2, f3⟩ := hcq
      have f4 := f3 (m * 2 + 1)
      rw [← hwq]
      have HPw : Hid (LayAt w B v0 (.slice (some ⟨g, 0, none⟩) (m + 1) cp) (o.take m ++ [((o.at m).1, max t y)]) (wq.setCell ⟨g, m * 2 + 1, none⟩ (.int .i64 (max t y)))) := HPq.out.widen HM.out _
      clear hwq HPa a1 a2 a3 f3 e3 HPq
      go_wp2
      go_region
      go_wp2
      go_roundw
      case rel => exact ⟨k + 1, o.take m ++ [((o.at m).1, max t y)], by omega, by go_num, by have := HM.out; simp; omega, (by rw [show (if t < y then y else t) = max t y by split <;> omega]; exact HPw.out.drewN 1), HI2, HN2⟩
      case measure => simp [intOf]; omega
    · obtain rfl : k = len := by omega
      have HV : Hid (o = lay o0 xs) := by
        have := HN.out
        rw [List.drop_eq_nil_of_le (by rw [HL.out]; omega)] at this
        exact this
      go_wp2
      go_ret
      rw [← HV.out]
      exact ⟨_, rfl, HP.out⟩
end Go.Proofs.YtgkbhhlkaifnoabDoor
/- The walks through the program's cutting of a set, and its going through two sets. No statement of the seat is proved here. -/
namespace Go.Proofs.YtgkbhhlkaifnoabDoor
open Go.RowKit
theorem flat_take : ∀ (ps : Sp) (k : Nat), flat (ps.take k) = (flat ps).take (2 * k)
  | [], k => by simp [flat]
  | p :: ps, 0 => by simp [flat]
  | p :: ps, k + 1 => by rw [List.take_succ_cons, flat, flat, flat_take ps k, show 2 * (k + 1) = 2 * k + 1 + 1 by omega, List.take_succ_cons, List.take_succ_cons]
theorem flat_drop : ∀ (ps : Sp) (k : Nat), flat (ps.drop k) = (flat ps).drop (2 * k)
  | [], k => by simp [flat]
  | p :: ps, 0 => by simp [flat]
  | p :: ps, k + 1 => by rw [List.drop_succ_cons, flat, flat_drop ps k, show 2 * (k + 1) = 2 * k + 1 + 1 by omega, List.drop_succ_cons, List.drop_succ_cons]
theorem RdP.take {w : World} {a : Option Addr} {len : Nat} {ps : Sp} {F : List Nat} (h : RdP w a len ps F) {k : Nat} (hk : k ≤ len) : ∃ G, RdP w a k (ps.take k) G ∧ ∀ b ∈ G, b ∈ F := by
  have hl := h.length
  by_cases h0 : k = 0
  · subst h0
    exact ⟨[], by simpa using (RdP.nil (w := w) (a := a)), by simp⟩
  · rcases h.rd.cells with ⟨e, _⟩ | ⟨b, off, hp, e, eF, hc⟩
    · omega
    · refine ⟨F, ⟨by simp; omega, ?_, .inr ⟨b, off, by omega, e, eF, fun i hi => ?_⟩⟩, fun b hb => hb⟩
      · rw [flat_length]; simp; omega
      · rw [hc i (by omega), flat_take]
        simp [List.getD_eq_getElem?_getD, hi]
theorem RdP.drop {w : World} {b off len : Nat} {ps : Sp} {F : List Nat} (h : RdP w (some ⟨b, off, none⟩) len ps F) {k : Nat} (hk : k < len) : RdP w (some ⟨b, off + k * 2, none⟩) (len - k) (ps.drop k) F := by
  have hl := h.length
  rcases h.rd.cells with ⟨e, _⟩ | ⟨b', off', hp, e, eF, hc⟩
  · omega
  · obtain ⟨rfl, rfl⟩ : b = b' ∧ off = off' := by simpa using e
    refine ⟨by simp; omega, ?_, .inr ⟨b, off + k * 2, by omega, rfl, eF, fun i hi => ?_⟩⟩
    · rw [flat_length]; simp; omega
    · rw [show off + k * 2 + i = off + (2 * k + i) by omega, hc (2 * k + i) (by omega), flat_drop]
      simp [List.getD_eq_getElem?_getD]
theorem cutN_at {ps : Sp} {k : Nat} {n : Int} (hk : k < ps.length) (h : (ps.at k).1 ≤ n) : cutN (ps.drop k) n = cutN (ps.drop (k + 1)) n + 1 := by rw [drop_at hk, cutN, if_pos h]
theorem cutN_stop {ps : Sp} {k : Nat} {n : Int} (hk : k < ps.length) (h : ¬ (ps.at k).1 ≤ n) : cutN (ps.drop k) n = 0 := by rw [drop_at hk, cutN, if_neg h]
/-- What a cut tells: the part ahead, the part behind, both out of what was there. -/
def CutTo (w : World) (ps : Sp) (F : List Nat) (k : Nat) (e : Ending) (w' : World) : Prop :=
  ∃ a1 l1 c1 a2 l2 c2 F1 F2, e = .returned (.tuple #[.slice a1 l1 c1, .slice a2 l2 c2]) ∧ RdP w a1 l1 (ps.take k) F1 ∧ RdP w a2 l2 (ps.drop k) F2 ∧ (∀ b ∈ F1, b ∈ F) ∧ (∀ b ∈ F2, b ∈ F) ∧ l2 ≤ c2 ∧ QuietTo w w'
set_option maxRecDepth 200000 in
set_option maxHeartbeats 4000000 in
theorem cutAt_any (a : Option Addr) (len cap : Nat) (ps : Sp) (n : Int) (F : List Nat) (w : World) (h : RdP w a len ps F) (hlen : len ≤ 4194304) (hcap : len ≤ cap) :
    Calls Tryd.prog 52 #[.slice a len cap, .int .i64 n] w fun e w' => CutTo w ps F (cutN ps n) e w' := by
  have HL : Hid (ps.length = len) := h.length
  have HR : Hid (RdP w a len ps F) := h
  have HC : Hid (len = 0 ∨ ∃ b off, a = some ⟨b, off, none⟩ ∧ b < w.heap.size ∧ SpCells w b off len ps) := cells_of h
  have HS : Hid (∀ k, k ≤ len → ∀ w', QuietTo w w' → CutTo w ps F k (.returned (.tuple #[.slice a k k, .slice (if len = k then a else a.map (·.add (k * 2))) (len - k) (len - k)])) w') := by
    intro k hk w' hq
    obtain ⟨F1, r1, g1⟩ := h.take hk
    by_cases e : len = k
    · refine ⟨_, _, _, _, _, _, F1, [], rfl, r1, ?_, g1, by simp, Nat.le_refl _, hq⟩
      rw [List.drop_eq_nil_of_le (by rw [h.length]; omega), show len - k = 0 by omega]
      exact RdP.nil
    · rcases cells_of h with h0 | ⟨b, off, rfl, _, _⟩
      · omega
      · refine ⟨_, _, _, _, _, _, F1, F, rfl, r1, ?_, g1, fun b hb => hb, Nat.le_refl _, hq⟩
        rw [if_neg e]
        simp only [Option.map_some, Addr.add_lit]
        exact h.drop (k := k) (by omega)
  clear h
  go_enter Tryd.func52, Tryd.ntmps52
  go_wp2
  go_loopw [6] (fun i wr => ∃ (k : Nat), k ≤ len ∧ i = .int .i64 k ∧ Hid (QuietTo w wr) ∧ Hid (cutN ps n = k + cutN (ps.drop k) n)) (fun i _ => len - (intOf i).toNat)
  case atStart => exact ⟨0, by omega, rfl, QuietTo.refl _, by show _ = _; simp⟩
  case round =>
    obtain ⟨k, hk, rfl, HW, HN⟩ := hrel
    by_cases hlt : k < len
    · have hca := HC.out
      rcases hca with h0 | ⟨b, off, rfl, hbw, hc⟩
      · omega
      obtain ⟨x, hx⟩ : ∃ x, x = (ps.at k).1 := ⟨_, rfl⟩
      have e := (hc k hlt).1
      rw [← hx] at e
      have d1 : wr.cell? ⟨b, off + k * 2, none⟩ = some (.int .i64 x) := (HW.out.cell _).trans e
      have HX : Hid (x = (ps.at k).1) := hx
      have hI : (k : Int) < (len : Int) := by omega
      have hkl : k < ps.length := by rw [HL.out]; exact hlt
      clear hx hc e
      by_cases c : x ≤ n
      · have cd : decide (x ≤ n) = true := decT c
        have HN2 : Hid (cutN ps n = k + 1 + cutN (ps.drop (k + 1)) n) := by
          have := HN.out
          rw [cutN_at hkl (by rw [← HX.out]; exact c)] at this
          show _ = _
          omega
        go_wp2
        go_roundw
        case rel => exact ⟨k + 1, by omega, by go_num, HW, HN2⟩
        case measure => simp [intOf]; omega
      · have cd : decide (x ≤ n) = false := decF c
        have HK : Hid (cutN ps n = k) := by
          have := HN.out
          rw [cutN_stop hkl (by rw [← HX.out]; exact c)] at this
          show _ = _
          omega
        have hne : ¬ len = k := by omega
        have i1 : (k : Int) ≤ (len : Int) := by omega
        have i2 : (len : Int) ≤ (cap : Int) := by omega
        have i3 : (k : Int) ≤ (cap : Int) := by omega
        have HT : Hid (∀ w', QuietTo w w' → CutTo w ps F (cutN ps n) (.returned (.tuple #[.slice (some ⟨b, off, none⟩) k k, .slice (some ⟨b, off + k * 2, none⟩) (len - k) (len - k)])) w') := by
          intro w' hq
          have := HS.out k (by omega) w' hq
          rw [if_neg hne] at this
          simp only [Option.map_some, Addr.add_lit] at this
          rw [HK.out]
          exact this
        go_wp2
        go_quiet (fail)
        go_wp2
        go_ret2
        exact HT.out _ (HW.out.drewN _)
    · obtain rfl : k = len := by omega
      have HK : Hid (cutN ps n = k) := by
        have := HN.out
        rw [List.drop_eq_nil_of_le (by rw [HL.out]; omega)] at this
        exact this
      have hg : decide ((k : Int) < (k : Int)) = false := decF (by omega)
      have i2 : (k : Int) ≤ (cap : Int) := by omega
      have HT : Hid (∀ w', QuietTo w w' → CutTo w ps F (cutN ps n) (.returned (.tuple #[.slice a k k, .slice a 0 0])) w') := by
        intro w' hq
        have := HS.out k (by omega) w' hq
        rw [if_pos rfl, Nat.sub_self] at this
        rw [HK.out]
        exact this
      go_wp2
      go_quiet (fail)
      go_wp2
      go_ret2
      exact HT.out _ (HW.out.drewN _)
end Go.Proofs.YtgkbhhlkaifnoabDoor
/- The walk through the program's going through two sets. No statement of the seat is proved here. -/
namespace Go.Proofs.YtgkbhhlkaifnoabDoor
open Go.RowKit
theorem RdP.move {w W : World} {B : Nat} {a : Option Addr} {len : Nat} {ps : Sp} {F : List Nat} (h : RdP w a len ps F) (hF : ∀ b ∈ F, b < B) (h1 : Below B w W) : RdP W a len ps F := h.agree (fun b hb => h1.block b (hF b hb))
theorem RdP.back {w W : World} {B : Nat} {a : Option Addr} {len : Nat} {ps : Sp} {F : List Nat} (h : RdP W a len ps F) (hF : ∀ b ∈ F, b < B) (h1 : Below B w W) : RdP w a len ps F := h.agree (fun b hb => (h1.block b (hF b hb)).symm)
theorem LayAt.below {w W : World} {B n : Nat} {v0 v : Value} {o : Sp} {xs : List Value} (h : LayAt w B v0 v o W) (h0 : w.ownsRow B 42 2 v0 n xs) (hB : B ≤ w.heap.size) : Below B w W :=
  ⟨h.grown.os, h.grown.tape, h.grown.output, h.grown.size, fun k hk => h.grown.block k (by omega) (fun e => by have := (h0.lt k e.symm).1; omega)⟩
/-- Midway in a round: the set that is made, the span's box. -/
structure MidB (w : World) (nb : Nat) (x y : Int) (v : Value) (o : Sp) (W : World) : Prop where
  own : W.ownsRow w.heap.size 42 2 v o.length ((flat o).map (Value.int .i64))
  bel : Below w.heap.size w W
  box : Blk W nb #[.int .i64 x, .int .i64 y] 42
  ne : some nb ≠ v.ownBlock
theorem MidB.alloc {w : World} {nb : Nat} {x y : Int} {v : Value} {o : Sp} {W : World} (h : MidB w nb x y v o W) (ob : Obj) : MidB w nb x y v o (W.alloc ob) := ⟨h.own.alloc _, Below.allocW _ h.bel (Nat.le_refl _), h.box.alloc _, h.ne⟩
theorem MidB.drew {w : World} {nb : Nat} {x y : Int} {v : Value} {o : Sp} {W : World} (h : MidB w nb x y v o W) : MidB w nb x y v o W.drew := ⟨⟨h.own.1, h.own.2⟩, h.bel.drew, h.box, h.ne⟩
/-- Behind the first laying: what lay beside lies there still. -/
structure AftB (w : World) (nb : Nat) (x y : Int) (v v' : Value) (o' : Sp) (W W' : World) : Prop where
  mid : MidB w nb x y v' o' W'
  old : ∀ g cs t, Blk W g cs t → some g ≠ v.ownBlock → Blk W' g cs t ∧ some g ≠ v'.ownBlock
theorem AftB.of {w : World} {nb : Nat} {x y : Int} {v v' : Value} {o o' : Sp} {W W' : World} (h : MidB w nb x y v o W) (k : LayAt W w.heap.size v v' o' W') : AftB w nb x y v v' o' W W' := by
  have hold : ∀ g cs t, Blk W g cs t → some g ≠ v.ownBlock → Blk W' g cs t ∧ some g ≠ v'.ownBlock := fun g cs t hb hne => by
    refine ⟨hb.agree (k.grown.block g hb.lt hne), ?_⟩
    rcases k.fresh with e | e
    · rw [e]; exact hne
    · intro e2; have := e g e2.symm; have := hb.lt; omega
  obtain ⟨h1, h2⟩ := hold _ _ _ h.box h.ne
  exact ⟨⟨k.own, h.bel.trans (k.below h.own h.bel.size), h1, h2⟩, hold⟩
/-- Ahead of the second laying: the one span's slice. -/
structure TwoB (w : World) (nb : Nat) (x y : Int) (v' : Value) (o' : Sp) (g : Nat) (W : World) : Prop where
  mid : MidB w nb x y v' o' W
  one : Blk W g #[.int .i64 x, .int .i64 y] 42
  ne : some g ≠ v'.ownBlock
theorem AftB.two {w : World} {nb : Nat} {x y : Int} {v v' : Value} {o o' : Sp} {W W' : World} (h : AftB w nb x y v v' o' (W.alloc (.cells #[.int .i64 x, .int .i64 y] 42)).drew W') (k : MidB w nb x y v o W) : TwoB w nb x y v' o' W.heap.size W' := by
  obtain ⟨h1, h2⟩ := h.old _ _ _ (Blk.made W _ _) (fun e => by have := (k.own.lt _ e.symm).2; omega)
  exact ⟨h.mid, h1, h2⟩
theorem AftB.new {w : World} {nb : Nat} {x y : Int} {v v' : Value} {o' : Sp} {W W' : World} (h : AftB w nb x y v v' o' W W') : TwoB w nb x y v' o' W'.heap.size (W'.alloc (.cells #[.int .i64 x, .int .i64 y] 42)) :=
  ⟨h.mid.alloc _, Blk.made _ _ _, fun e => by have := (h.mid.own.lt _ e.symm).2; omega⟩
theorem rdP_one {W : World} {g : Nat} {x y : Int} {t : TypeId} (h : Blk W g #[.int .i64 x, .int .i64 y] t) : RdP W (some ⟨g, 0, none⟩) 1 [(x, y)] [g] :=
  ⟨rfl, rdI_tcv (xs := flat [(x, y)]) (by simpa [tcv, flat] using h) (by simp [flat]) (by omega)⟩
/-- Ahead of a round. -/
structure BInv (w : World) (ps qs : Sp) (k : Nat) (o rs : Sp) (aa : Option Addr) (la ca : Nat) (F : List Nat) (v : Value) (wr : World) : Prop where
  own : wr.ownsRow w.heap.size 42 2 v o.length ((flat o).map (Value.int .i64))
  bel : Below w.heap.size w wr
  rd : RdP w aa la rs F
  lt : ∀ b ∈ F, b < w.heap.size
  cap : la ≤ ca
  len : o.length + rs.length ≤ ps.length + k
  ino : ∀ p ∈ o, InB p
  ina : ∀ p ∈ rs, InB p
  eq : both rs (qs.drop k) o = both ps qs []
set_option maxRecDepth 100000 in
set_option maxHeartbeats 8000000 in
theorem spansOfBoth_any (a b : Option Addr) (la lb ca cb : Nat) (ps qs : Sp) (F G : List Nat) (w : World) (h : RdP w a la ps F) (k : RdP w b lb qs G) (hlen : la + lb ≤ 2097153) (hca : la ≤ ca) (h1 : ∀ p ∈ ps, InB p) (h2 : ∀ p ∈ qs, InB p) :
    Calls Tryd.prog 42 #[.slice a la ca, .slice b lb cb] w fun e w' => NewP w (both ps qs []) e w' := by
  have HL : Hid (ps.length = la ∧ qs.length = lb) := ⟨h.length, k.length⟩
  have HI : Hid (∀ p ∈ qs, InB p) := h2
  have HP0 : Hid (BInv w ps qs 0 [] ps a la ca F (.slice none 0 0) w) := ⟨⟨by simp [flat], .inl ⟨rfl, rfl⟩⟩, Below.refl _ _, h, h.lt, hca, by simp, by simp, h1, rfl⟩
  have HCB : Hid (lb = 0 ∨ ∃ b1 o1, b = some ⟨b1, o1, none⟩ ∧ b1 < w.heap.size ∧ SpCells w b1 o1 lb qs) := cells_of k
  clear h k h1 h2
  go_enter Tryd.func42, Tryd.ntmps42
  go_wp2
  go_loopw [0, 5, 12] (fun av v i wr => ∃ (k : Nat) (o rs : Sp) (aa : Option Addr) (la ca : Nat) (F : List Nat), k ≤ lb ∧ i = .int .i64 k ∧ av = .slice aa la ca ∧ Hid (BInv w ps qs k o rs aa la ca F v wr)) (fun _ _ i _ => lb - (intOf i).toNat)
  case atStart => exact ⟨0, [], ps, a, la, ca, F, by omega, rfl, rfl, HP0⟩
  case round =>
    clear HP0
    obtain ⟨k, o, rs, aa, l0, c0, F0, hk, rfl, rfl, HP⟩ := hrel
    by_cases hlt : k < lb
    · have hcb := HCB.out
      rcases hcb with h0 | ⟨b1, o1, rfl, hbw, hc⟩
      · omega
      obtain ⟨x, hx⟩ : ∃ x, x = (qs.at k).1 := ⟨_, rfl⟩
      obtain ⟨y, hy⟩ : ∃ x, x = (qs.at k).2 := ⟨_, rfl⟩
      have e := hc k hlt
      have hql : k < qs.length := by rw [HL.out.2]; exact hlt
      have HXY : Hid (qs.at k = (x, y)) := by rw [hx, hy]; rfl
      have HINX : Hid (InB (x, y)) := by rw [← HXY.out]; exact HI.out _ (Sp.at_mem hql)
      rw [HXY.out] at e
      have d1 : wr.cell? ⟨b1, o1 + k * 2, none⟩ = some (.int .i64 x) := (HP.out.bel.cell (by exact hbw)).trans e.1
      have d2 : wr.cell? ⟨b1, o1 + k * 2 + 1, none⟩ = some (.int .i64 y) := (HP.out.bel.cell (by exact hbw)).trans e.2
      have hI : (k : Int) < (lb : Int) := by omega
      have HLN : Hid (o.length + rs.length ≤ 2097153) := by have := HP.out.len; have := HL.out; show _ ≤ _; omega
      have HLA : Hid (rs.length = l0) := HP.out.rd.length
      clear e hx hy hc
      go_wp2_with fail
      have HWA : Hid (Below w.heap.size w (wr.alloc (.cells #[.int .i64 x, .int .i64 y] 42))) := Below.allocW _ HP.out.bel (Nat.le_refl _)
      refine (cutAt_any aa l0 c0 rs x F0 _ (HP.out.rd.move HP.out.lt HWA.out) (by have := HLN.out; have := HLA.out; omega) HP.out.cap).mono ?_
      rintro e w2 ⟨a1, l1, c1, a2, l2, c2, F1, F2, rfl, r1, r2, s1, s2, hcp2, hq⟩
      obtain ⟨cn, hcn⟩ : ∃ c, c = cutN rs x := ⟨_, rfl⟩
      rw [← hcn] at r1 r2
      have HQ1 : Hid (RdP w a1 l1 (rs.take cn) F1 ∧ (∀ b ∈ F1, b < w.heap.size) ∧ l1 ≤ rs.length) := ⟨r1.back (fun b hb => HP.out.lt b (s1 b hb)) HWA.out, fun b hb => HP.out.lt b (s1 b hb), by have e := r1.length; rw [List.length_take] at e; omega⟩
      have HQ2 : Hid (RdP w a2 l2 (rs.drop cn) F2 ∧ (∀ b ∈ F2, b < w.heap.size) ∧ l2 ≤ c2) := ⟨r2.back (fun b hb => HP.out.lt b (s2 b hb)) HWA.out, fun b hb => HP.out.lt b (s2 b hb), hcp2⟩
      have HM : Hid (MidB w wr.heap.size x y u5 o w2) := by
        obtain ⟨m, rfl⟩ := hq
        have hal := HP.out.own.alloc (.cells #[.int .i64 x, .int .i64 y] 42)
        exact ⟨⟨hal.1, hal.2⟩, ⟨HWA.out.os, HWA.out.tape, HWA.out.output, HWA.out.size, HWA.out.block⟩, Blk.made wr _ _, fun e => by have := (HP.out.own.lt _ e.symm).2; omega⟩
      have HCN : Hid (cn = cutN rs x) := hcn
      have q1 : w2.cell? ⟨wr.heap.size, 0, none⟩ = some (.int .i64 x) := HM.out.box.cell 0
      have q2 : w2.cell? ⟨wr.heap.size, 1, none⟩ = some (.int .i64 y) := HM.out.box.cell 1
      clear r1 r2 s1 s2 hcp2 hq hcn HWA d1 d2
      have HC1 : Hid (∀ W, MidB w wr.heap.size x y u5 o W → Calls Tryd.prog 53 #[u5, .slice a1 l1 c1] W (fun e w' => ∃ v', e = .returned v' ∧ AftB w wr.heap.size x y u5 v' (lay o (rs.take cn)) W w')) := by
        intro W hW
        refine (laid_any w.heap.size u5 o a1 l1 c1 (rs.take cn) F1 W hW.own hW.bel.size (HQ1.out.1.move HQ1.out.2.1 hW.bel) (fun b hb e => by have := HQ1.out.2.1 b hb; have := (hW.own.lt _ e.symm).1; omega) (by have := HLN.out; have := HQ1.out.2.2; omega) HP.out.ino (fun p hp => HP.out.ina p (List.mem_of_mem_take hp))).mono ?_
        rintro e w' ⟨v, rfl, hl⟩
        exact ⟨v, rfl, AftB.of hW hl⟩
      have HC2 : Hid (∀ v' W g, TwoB w wr.heap.size x y v' (lay o (rs.take cn)) g W → Calls Tryd.prog 53 #[v', .slice (some ⟨g, 0, none⟩) 1 1] W (fun e w' => ∃ v'', e = .returned v'' ∧ MidB w wr.heap.size x y v'' (lay1 (lay o (rs.take cn)) (x, y)) w')) := by
        intro v' W g hW
        refine (laid_any w.heap.size v' (lay o (rs.take cn)) (some ⟨g, 0, none⟩) 1 1 [(x, y)] [g] W hW.mid.own hW.mid.bel.size (rdP_one hW.one) (fun b hb => by rw [List.mem_singleton.1 hb]; exact hW.ne) (by have e := lay_length (rs.take cn) o; have := HLN.out; rw [List.length_take] at e; omega) (lay_inb HP.out.ino (fun p hp => HP.out.ina p (List.mem_of_mem_take hp))) (fun p hp => by rw [List.mem_singleton.1 hp]; exact HINX.out)).mono ?_
        rintro e w' ⟨v, rfl, hl⟩
        exact ⟨v, rfl, (AftB.of hW.mid hl).mid⟩
      have HFIN : Hid (∀ v' W, MidB w wr.heap.size x y v' (lay1 (lay o (rs.take cn)) (x, y)) W → BInv w ps qs (k + 1) (lay1 (lay o (rs.take cn)) (x, y)) (rs.drop cn) a2 l2 c2 F2 v' W) := by
        intro v' W hW
        refine ⟨hW.own, hW.bel, HQ2.out.1, HQ2.out.2.1, HQ2.out.2.2, ?_, lay1_inb (lay_inb HP.out.ino (fun p hp => HP.out.ina p (List.mem_of_mem_take hp))) HINX.out, fun p hp => HP.out.ina p (List.mem_of_mem_drop hp), ?_⟩
        · have e1 := lay1_length (lay o (rs.take cn)) (x, y)
          have e2 := lay_length (rs.take cn) o
          have e3 := HP.out.len
          rw [List.length_take] at e2
          rw [List.length_drop]
          omega
        · have e := HP.out.eq
          rw [drop_at hql, HXY.out, both] at e
          rw [HCN.out]
          exact e
      have HKE : Hid (∀ W, Blk W wr.heap.size #[.int .i64 x, .int .i64 y] 42 → W.cell? ⟨wr.heap.size, 0, none⟩ = some (.int .i64 x) ∧ W.cell? ⟨wr.heap.size, 1, none⟩ = some (.int .i64 y)) := fun W hW => ⟨hW.cell 0, hW.cell 1⟩
      have HMD : Hid (MidB w wr.heap.size x y u5 o w2.drew) := HM.out.drew
      have HMA : Hid (MidB w wr.heap.size x y u5 o (w2.alloc (.cells #[.int .i64 x, .int .i64 y] 42)).drew) := (HM.out.alloc _).drew
      go_wp2
      go_region_held3 (fun W => W.cell? ⟨wr.heap.size, 0, none⟩ = some (.int .i64 x) ∧ W.cell? ⟨wr.heap.size, 1, none⟩ = some (.int .i64 y))
        ((refine HKE.out _ ?_; first | (with_reducible exact k2.box) | (with_reducible exact k1.mid.box) | (with_reducible exact k1.mid.box.alloc _) | (with_reducible exact HMD.out.box) | (with_reducible exact HMA.out.box)))
        (first
          | (have zz := k1; clear zz; go_at_call 53; refine (HC2.out _ _ _ (by first | (with_reducible exact k1.two HM.out) | (with_reducible exact k1.new))).mono ?_; rintro e w4 ⟨v4, rfl, k2⟩)
          | (go_at_call 53; refine (HC1.out _ (by first | (with_reducible exact HMD.out) | (with_reducible exact HMA.out))).mono ?_; rintro e w3 ⟨v3, rfl, k1⟩))
      all_goals
        have HB2 := HFIN.out _ _ k2
        have HB3 : Hid (BInv w ps qs (k + 1) (lay1 (lay o (rs.take cn)) (x, y)) (rs.drop cn) a2 l2 c2 F2 v4 w4) := HB2
        clear HB2 k2 k1 HC1 HC2 HKE HFIN q1 q2 HMD HMA HM
        go_wp2
        go_roundw
      all_goals first | exact ⟨k + 1, _, _, a2, l2, c2, F2, by omega, by go_num, rfl, HB3⟩ | (simp [intOf]; omega)
    · obtain rfl : k = lb := by omega
      have HE : Hid (lay o rs = both ps qs []) := by
        have := HP.out.eq
        rw [List.drop_eq_nil_of_le (by rw [HL.out.2]; omega)] at this
        exact this
      go_wp2_with fail
      refine (laid_any w.heap.size u5 o aa l0 c0 rs F0 _ HP.out.own HP.out.bel.size (HP.out.rd.move HP.out.lt HP.out.bel) (fun b hb e => by have := HP.out.lt b hb; have := (HP.out.own.lt _ e.symm).1; omega) (by have := HP.out.len; have := HL.out; have := HP.out.rd.length; omega) HP.out.ino HP.out.ina).mono ?_
      rintro e w2 ⟨v, rfl, hl⟩
      have HV : Hid (LayAt wr w.heap.size u5 v (lay o rs) w2 ∧ Below w.heap.size w w2) := ⟨hl, HP.out.bel.trans (hl.below HP.out.own HP.out.bel.size)⟩
      clear hl
      go_wp2
      go_ret
      obtain ⟨a', c', F', rfl, hr, ho, hnn⟩ := rdP_of_own HV.out.1.own
      rw [← HE.out]
      exact ⟨_, _, _, F', rfl, hr, ho, HV.out.2, hnn⟩
end Go.Proofs.YtgkbhhlkaifnoabDoor
/- The walks through the program's copying of a set, and the library's comparing of two. No statement of the seat is proved here. -/
namespace Go.Proofs.YtgkbhhlkaifnoabDoor
open Go.RowKit
theorem run_copy_row2 {P : Program} (w : World) (dT sT ty elem : TypeId) (g len dCap : Nat) (a : Addr) (sCap : Nat) (cur : Array Value) (t : TypeId) (cs : List Value)
    (hu : P.underlying dT = some (.slice elem)) (hs : (P.info? elem).map (·.size) = some 2)
    (hg : w.heap[g]? = some (.cells cur t (0, 0))) (hn : cs.length = len * 2)
    (hsrc : ∀ j v, cs[j]? = some v → w.cell? (a.add j) = some v) (hfit : cs.length ≤ cur.size) (h1 : ∀ v ∈ cs, v.oneCell' = true) :
    (Builtin.copy_ #[dT, sT] ty #[.slice (some ⟨g, 0, none⟩) len dCap, .slice (some a) len sCap]).run P w =
      .ok (goInt len) (w.setRow g (cs ++ cur.toList.drop cs.length).toArray) := by
  have hl := run_loadCells_list (P := P) w a cs hsrc
  have hst := run_storeCells_at P g 0 t cs 0 cur w hg (by simpa using hfit) h1
  rw [hn] at hl
  cases hq : P.info? elem with
  | none => simp [hq] at hs
  | some i =>
    have hi : i.size = 2 := by simpa [hq] using hs
    simp [Builtin.copy_, run_underlying hu, Builtin.lenOf, Builtin.firstCells, sizeOf, typeInfo, hq, hi, hl, hst]
theorem run_copy_none2 {P : Program} (w : World) (dT sT ty elem : TypeId) (d a : Option Addr) (dCap sCap : Nat) (hu : P.underlying dT = some (.slice elem)) (hs : (P.info? elem).map (·.size) = some 2) :
    (Builtin.copy_ #[dT, sT] ty #[.slice d 0 dCap, .slice a 0 sCap]).run P w = .ok (goInt 0) w := by
  cases hq : P.info? elem with
  | none => simp [hq] at hs
  | some i =>
    have hl : ∀ (x : Addr), (loadCells x 0).run P w = .ok #[] w := fun x => by simpa using run_loadCells_list (P := P) w x [] (by simp)
    cases d <;> cases a <;> simp [Builtin.copy_, run_underlying hu, Builtin.lenOf, Builtin.firstCells, sizeOf, typeInfo, hq, storeCells, hl]
theorem wpList_copy_none2 {P : Program} {w : World} {ops : Array Oper} {rest : List Oper} {o : Oper} {a : Act} {Q : Exit → Act → World → Prop} (hgd : o.guard = none) (d s : Operand) (dT sT : TypeId)
    (ho : o.op = .call { callee := .builtin .copy, args := #[d, s], argTypes := #[dT, sT] }) (elem : TypeId) (hu : P.underlying dT = some (.slice elem)) (hsz : (P.info? elem).map (·.size) = some 2)
    (dp sp : Option Addr) (dCap sCap : Nat) (hd : a.eval d = .slice dp 0 dCap) (hs : a.eval s = .slice sp 0 sCap)
    (h : wpList P ops Q rest (a.put o.dst (goInt 0)) w) : wpList P ops Q (o :: rest) a w := by
  refine wpList_plain hgd fun K hK => ?_
  have hrun := run_copy_none2 (P := P) w dT sT o.type elem dp sp dCap sCap hu hsz
  unfold Oper.wp
  simp [execOp, ho, resolve, invoke, builtin, hd, hs, hrun, Result.andThen]
  exact hK _ _ h
theorem wpList_copy_own2 {P : Program} {w : World} {ops : Array Oper} {rest : List Oper} {o : Oper} {a : Act} {Q : Exit → Act → World → Prop} (hgd : o.guard = none) (d s : Operand) (dT sT : TypeId)
    (ho : o.op = .call { callee := .builtin .copy, args := #[d, s], argTypes := #[dT, sT] }) (elem : TypeId) (hu : P.underlying dT = some (.slice elem)) (hsz : (P.info? elem).map (·.size) = some 2)
    (g len dCap : Nat) (ad : Addr) (sCap : Nat) (hd : a.eval d = .slice (some ⟨g, 0, none⟩) len dCap) (hs : a.eval s = .slice (some ad) len sCap)
    (cur : Array Value) (t : TypeId) (hg : w.heap[g]? = some (.cells cur t (0, 0))) (cs : List Value) (hn : cs.length = len * 2)
    (hsrc : ∀ j v, cs[j]? = some v → w.cell? (ad.add j) = some v) (hfit : cs.length ≤ cur.size) (h1 : ∀ v ∈ cs, v.oneCell' = true)
    (h : wpList P ops Q rest (a.put o.dst (goInt len)) (w.setRow g (cs ++ cur.toList.drop cs.length).toArray)) : wpList P ops Q (o :: rest) a w := by
  refine wpList_plain hgd fun K hK => ?_
  have hrun := run_copy_row2 (P := P) w dT sT o.type elem g len dCap ad sCap cur t cs hu hsz hg hn hsrc hfit h1
  unfold Oper.wp
  simp [execOp, ho, resolve, invoke, builtin, hd, hs, hrun, Result.andThen]
  exact hK _ _ h
theorem infoSpan2 : (Tryd.prog.info? 42).map (·.size) = some 2 := by kernel_rfl
theorem flat_one {ps : Sp} : ∀ v ∈ (flat ps).map (Value.int .i64), v.oneCell' = true := by
  intro v hv
  obtain ⟨x, _, rfl⟩ := List.mem_map.1 hv
  rfl
set_option maxRecDepth 200000 in
set_option maxHeartbeats 2000000 in
theorem copiedSpans_any (a : Option Addr) (len cap : Nat) (ps : Sp) (F : List Nat) (w : World) (h : RdP w a len ps F) (hlen : len ≤ 2097152) :
    Calls Tryd.prog 32 #[.slice a len cap] w fun e w' => NewP w ps e w' := by
  obtain ⟨i0, hi, hz0, hz1, hz2⟩ := info_parts infoSpan
  have HL : Hid (ps.length = len) := h.length
  have HR : Hid (RdP w a len ps F) := h
  rcases h.cells with ⟨rfl, _, rfl⟩ | ⟨b, off, hp, rfl, _, _⟩
  · clear h
    go_enter Tryd.func32, Tryd.ntmps32
    go_wp2_with (at_make; refine wpList_make_full _ rfl _ _ 26 rfl w.heap.size 42 i0 (.agg #[.int .i64 0, .int .i64 0]) 2 Tryd.underlying26 hi hz0 hz1 .i64 .i64 _ _ 0 rfl rfl (by simp) (by simp) (by omega) (by unfold maxLen; omega) (Nat.le_refl _) ?_; intro w1 hown hgrow)
    have hcp := run_copy_none2 (P := Tryd.prog) w1 26 26 3 42 (some ⟨w.heap.size, 0, none⟩) a 0 cap Tryd.underlying26 infoSpan2
    rw [hcp]
    go_wp2
    go_ret
    exact ⟨_, 0, 0, [], rfl, RdP.nil, Own.nil, (Below.refl _ _).grown hgrow (Nat.le_refl _) (fun k hk => by cases hk), (fun e => by cases e), Nat.le_refl _⟩
  · clear h
    go_enter Tryd.func32, Tryd.ntmps32
    go_wp2_with (at_make; refine wpList_make_full _ rfl _ _ 26 rfl w.heap.size 42 i0 (.agg #[.int .i64 0, .int .i64 0]) 2 Tryd.underlying26 hi hz0 hz1 .i64 .i64 _ _ len rfl rfl rfl rfl (by rw [hz2]; omega) (by unfold maxLen; omega) (Nat.le_refl _) ?_; intro w1 hown hgrow)
    have HM : Hid (Blk w1 w.heap.size (tcv (List.replicate (2 * len) 0)) 42 ∧ Below w.heap.size w w1) := by
      refine ⟨?_, (Below.refl _ _).grown hgrow (Nat.le_refl _) (fun k hk => by cases hk)⟩
      have e := own_blk hown hp
      have e2 : (madeCells (Value.agg #[Value.int IntKind.i64 0, Value.int IntKind.i64 0]).cells (len * 2)).toList.toArray = tcv (List.replicate (2 * len) 0) := made_flat len
      rw [← e2]
      exact e
    clear hown hgrow
    have HLF : Hid ((flat ps).length = 2 * len) := by rw [flat_length, HL.out]; rfl
    have hcp := run_copy_row2 (P := Tryd.prog) w1 26 26 3 42 w.heap.size len len ⟨b, off, none⟩ cap _ 42 ((flat ps).map (Value.int .i64)) Tryd.underlying26 infoSpan2 HM.out.1 (by have := HLF.out; simp; omega) (cells_flat (HR.out.below HM.out.2) hp) (by have := HLF.out; simp [tcv]; omega) flat_one
    have hrow : ((flat ps).map (Value.int .i64) ++ (tcv (List.replicate (2 * len) 0)).toList.drop ((flat ps).map (Value.int .i64)).length).toArray = tcv (flat ps) := by
      have := HLF.out
      rw [List.drop_eq_nil_of_le (by simp [tcv]; omega), List.append_nil]
      rfl
    rw [hrow] at hcp
    have HW : Hid (Blk (w1.setRow w.heap.size (tcv (flat ps))) w.heap.size (tcv (flat ps)) 42 ∧ Below w.heap.size w (w1.setRow w.heap.size (tcv (flat ps)))) := ⟨HM.out.1.setRow, below_setRow HM.out.2 (Nat.le_refl _) _⟩
    clear hrow
    rw [hcp]
    go_wp2
    go_ret
    exact ⟨_, len, len, [w.heap.size], rfl, ⟨HL.out, rdI_tcv HW.out.1 HLF.out (by omega)⟩, ⟨by simp, fun b hb o => by simp at hb; subst hb; exact HW.out.1.frozen o, by simp⟩, HW.out.2, (fun e => by cases e), Nat.le_refl _⟩
theorem sp_eta (p : Int × Int) : p = (p.1, p.2) := rfl
set_option maxRecDepth 200000 in
set_option maxHeartbeats 2000000 in
theorem slEqualP_any (a b : Option Addr) (la lb ca cb : Nat) (xs ys : Sp) (F G : List Nat) (w : World) (ha : RdP w a la xs F) (hb : RdP w b lb ys G) (hla : la ≤ 140737488355328) (hlb : lb ≤ 140737488355328) :
    Calls Tryd.prog 44 #[.slice a la ca, .slice b lb cb] w fun e w' => e = .returned (.bool (decide (xs = ys))) ∧ QuietTo w w' := by
  have Hx : Hid (xs.length = la) := ha.length
  have Hy : Hid (ys.length = lb) := hb.length
  by_cases hl : la = lb
  · subst hl
    have hbne : ((la : Int) != (la : Int)) = false := by simp
    have HCA : Hid (la = 0 ∨ ∃ b1 o1, a = some ⟨b1, o1, none⟩ ∧ b1 < w.heap.size ∧ SpCells w b1 o1 la xs) := cells_of ha
    have HCB : Hid (la = 0 ∨ ∃ b1 o1, b = some ⟨b1, o1, none⟩ ∧ b1 < w.heap.size ∧ SpCells w b1 o1 la ys) := cells_of hb
    clear ha hb
    go_enter Tryd.func44, Tryd.ntmps44
    go_wp2
    go_loopw [13] (fun i wr => ∃ k : Nat, k ≤ la ∧ i = .int .i64 k ∧ Hid (xs.take k = ys.take k) ∧ Hid (QuietTo w wr)) (fun i _ => la - (intOf i).toNat)
    case atStart => exact ⟨0, by omega, rfl, rfl, QuietTo.refl _⟩
    case round =>
      obtain ⟨k, hk, rfl, HT, HQ⟩ := hrel
      by_cases hlt : k < la
      · rcases HCA.out with h0 | ⟨b1, o1, rfl, hbw1, hc1⟩
        · omega
        rcases HCB.out with h0 | ⟨b2, o2, rfl, hbw2, hc2⟩
        · omega
        obtain ⟨x, hx⟩ : ∃ x, x = (xs.at k).1 := ⟨_, rfl⟩
        obtain ⟨y, hy⟩ : ∃ x, x = (xs.at k).2 := ⟨_, rfl⟩
        obtain ⟨x', hx'⟩ : ∃ x, x = (ys.at k).1 := ⟨_, rfl⟩
        obtain ⟨y', hy'⟩ : ∃ x, x = (ys.at k).2 := ⟨_, rfl⟩
        have e1 := hc1 k hlt
        have e2 := hc2 k hlt
        rw [← hx, ← hy] at e1
        rw [← hx', ← hy'] at e2
        have d1 : wr.cell? ⟨b1, o1 + k * 2, none⟩ = some (.int .i64 x) := (HQ.out.cell _).trans e1.1
        have d2 : wr.cell? ⟨b1, o1 + k * 2 + 1, none⟩ = some (.int .i64 y) := (HQ.out.cell _).trans e1.2
        have d3 : wr.cell? ⟨b2, o2 + k * 2, none⟩ = some (.int .i64 x') := (HQ.out.cell _).trans e2.1
        have d4 : wr.cell? ⟨b2, o2 + k * 2 + 1, none⟩ = some (.int .i64 y') := (HQ.out.cell _).trans e2.2
        have HE : Hid ((x = x' ∧ y = y') ↔ xs[k]?.getD (0, 0) = ys[k]?.getD (0, 0)) := by rw [hx, hy, hx', hy']; exact Prod.ext_iff.symm
        have hI : (k : Int) < (la : Int) := by omega
        clear e1 e2 hx hy hx' hy' hc1 hc2
        by_cases c : x = x' ∧ y = y'
        · have e1 : (x == x') = true := by simp [c.1]
          have e2 : (y == y') = true := by simp [c.2]
          have HT2 : Hid (xs.take (k + 1) = ys.take (k + 1)) := eqP_step (by rw [Hx.out, Hy.out]) (by rw [Hx.out]; exact hlt) HT.out (HE.out.1 c)
          clear c
          go_wp2
          go_quiet (fail)
          go_wp2
          go_roundw
          case rel => exact ⟨k + 1, by omega, by go_num, HT2, HQ.out.drewN _⟩
          case measure => simp [intOf]; omega
        have HV : Hid (decide (xs = ys) = false) := neP_of_at (fun e => c (HE.out.2 e))
        by_cases c1 : x = x'
        · have e1 : (x == x') = true := by simp [c1]
          have e2 : (y == y') = false := by simpa using (fun e => c ⟨c1, e⟩)
          clear c c1
          go_wp2
          go_quiet (fail)
          go_wp2
          go_ret
          exact ⟨ret_bool HV.out.symm, HQ.out.drewN _⟩
        · have e1 : (x == x') = false := by simpa using c1
          clear c c1
          go_wp2
          go_quiet (fail)
          go_wp2
          go_ret
          exact ⟨ret_bool HV.out.symm, HQ.out.drewN _⟩
      · obtain rfl : k = la := by omega
        go_wp2
        go_ret
        exact ⟨ret_bool (eqP_end Hx.out Hy.out HT.out).symm, HQ.out⟩
  · have hbne : ((la : Int) != (lb : Int)) = true := by simp; omega
    have e : decide (xs = ys) = false := by
      rw [decide_eq_false_iff_not]; intro e; subst e; exact hl (Hx.out.symm.trans Hy.out)
    clear ha hb
    go_enter Tryd.func44, Tryd.ntmps44
    go_wp2
    go_ret
    exact ⟨ret_bool e.symm, QuietTo.refl _⟩
end Go.Proofs.YtgkbhhlkaifnoabDoor
/- The walks through the program's SeatOk and copiedSeat. No statement of the seat is proved here. -/
namespace Go.Proofs.YtgkbhhlkaifnoabDoor
open Go.RowKit
set_option maxRecDepth 200000 in
set_option maxHeartbeats 4000000 in
theorem seOkImpl_any (v : Value) (x : Se) (per : Int) (F : List Nat) (w : World) (h : RdSe w v x F) (hl : x.taken.length ≤ 2097152) :
    Calls Tryd.prog 37 #[v, .int .i64 per] w fun e w' => e = .returned (.bool (x.ok per)) ∧ Below w.heap.size w w' := by
  obtain ⟨b, l, c, rfl, hP, _⟩ := h
  have HP : Hid (RdP w b l x.taken F ∧ l ≤ 2097152) := ⟨hP, by rw [← hP.length]; exact hl⟩
  have HSZ : Hid (0 ≤ x.taken.size ∧ x.taken.size ≤ 20971520000) := by have := Sp.size_range x.taken; exact ⟨this.1, by omega⟩
  have HB : Hid (Blk (w.alloc (.cells #[.int .i64 x.epoch, .int .i64 x.granted, .slice b l c, .int .i64 x.merged, .int .i64 x.last] 28)) w.heap.size #[.int .i64 x.epoch, .int .i64 x.granted, .slice b l c, .int .i64 x.merged, .int .i64 x.last] 28 ∧ Below w.heap.size w (w.alloc (.cells #[.int .i64 x.epoch, .int .i64 x.granted, .slice b l c, .int .i64 x.merged, .int .i64 x.last] 28))) := ⟨Blk.made _ _ _, (Below.refl _ _).alloc (Nat.le_refl _) _⟩
  clear hP hl
  go_enter Tryd.func37, Tryd.ntmps37
  by_cases p1 : per < 1
  · have HV : Hid (x.ok per = false) := by show _ = _; unfold Se.ok; rw [decide_eq_false (by omega : ¬ (1 ≤ per ∧ per ≤ 8))]; simp
    go_wp2
    go_ret
    exact ⟨ret_bool HV.out.symm, HB.out.2⟩
  by_cases p2 : 8 < per
  · have HV : Hid (x.ok per = false) := by show _ = _; unfold Se.ok; rw [decide_eq_false (by omega : ¬ (1 ≤ per ∧ per ≤ 8))]; simp
    go_wp2
    go_ret
    exact ⟨ret_bool HV.out.symm, HB.out.2⟩
  have HD1 : Hid (true = decide (1 ≤ per ∧ per ≤ 8)) := (decide_eq_true (by omega)).symm
  have HPR : Hid (1 ≤ per ∧ per ≤ 8) := by show _ ∧ _; omega
  go_wp2_with fail
  refine (inRange_any _ _ _).mono ?_
  rintro e w2 ⟨rfl, hw2⟩
  have hw2' := hw2.symm
  subst hw2'
  clear hw2
  obtain ⟨d2, hd2⟩ : ∃ d, d = decide (0 ≤ x.epoch ∧ x.epoch ≤ 1000) := ⟨_, rfl⟩
  rw [← hd2]
  have HD2 : Hid (d2 = decide (0 ≤ x.epoch ∧ x.epoch ≤ 1000)) := hd2
  clear hd2
  cases d2
  · have HV : Hid (x.ok per = false) := by show _ = _; unfold Se.ok; rw [← HD2.out]; simp
    go_wp2
    go_ret
    exact ⟨ret_bool HV.out.symm, HB.out.2⟩
  go_wp2_with fail
  refine (inRange_any _ _ _).mono ?_
  rintro e w2 ⟨rfl, hw2⟩
  have hw2' := hw2.symm
  subst hw2'
  clear hw2
  obtain ⟨d7, hd7⟩ : ∃ d, d = decide (0 ≤ x.last ∧ x.last ≤ 1000000) := ⟨_, rfl⟩
  rw [← hd7]
  have HD7 : Hid (d7 = decide (0 ≤ x.last ∧ x.last ≤ 1000000)) := hd7
  clear hd7
  cases d7
  · have HV : Hid (x.ok per = false) := by show _ = _; unfold Se.ok; rw [← HD7.out]; simp
    go_wp2
    go_ret
    exact ⟨ret_bool HV.out.symm, HB.out.2⟩
  go_wp2_with fail
  refine (inRange_any _ _ _).mono ?_
  rintro e w2 ⟨rfl, hw2⟩
  have hw2' := hw2.symm
  subst hw2'
  clear hw2
  obtain ⟨d3, hd3⟩ : ∃ d, d = decide (0 ≤ x.granted ∧ x.granted ≤ 60) := ⟨_, rfl⟩
  rw [← hd3]
  have HD3 : Hid (d3 = decide (0 ≤ x.granted ∧ x.granted ≤ 60)) := hd3
  clear hd3
  cases d3
  · have HV : Hid (x.ok per = false) := by show _ = _; unfold Se.ok; rw [← HD3.out]; simp
    go_wp2
    go_ret
    exact ⟨ret_bool HV.out.symm, HB.out.2⟩
  go_wp2_with fail
  refine (areSeqs_any b l c x.granted x.taken F _ (HP.out.1.below HB.out.2) HP.out.2).mono ?_
  rintro e w2 ⟨rfl, hb⟩
  obtain ⟨d4, hd4⟩ : ∃ d, d = (x.taken.ok && x.taken.under x.granted) := ⟨_, rfl⟩
  rw [← hd4]
  have HD4 : Hid (d4 = (x.taken.ok && x.taken.under x.granted)) := hd4
  have HS : Hid (Blk w2 w.heap.size #[.int .i64 x.epoch, .int .i64 x.granted, .slice b l c, .int .i64 x.merged, .int .i64 x.last] 28 ∧ Below w.heap.size w w2) := ⟨HB.out.1.below hb, Below.next HB.out.2 hb⟩
  clear hd4 hb HB
  cases d4
  · have HV : Hid (x.ok per = false) := by show _ = _; unfold Se.ok; rw [← HD4.out]; simp
    go_wp2
    go_ret
    exact ⟨ret_bool HV.out.symm, HS.out.2⟩
  go_wp2_with fail
  obtain ⟨W0, hW0⟩ : ∃ W, W = w2.drew := ⟨_, rfl⟩
  have HS : Hid (Blk W0 w.heap.size #[.int .i64 x.epoch, .int .i64 x.granted, .slice b l c, .int .i64 x.merged, .int .i64 x.last] 28 ∧ Below w.heap.size w W0) := by rw [hW0]; exact ⟨HS.out.1.below (Below.refl _ _).drew, Below.next HS.out.2 (Below.refl _ _).drew⟩
  refine wp_region_held (S := fun W => Blk W w.heap.size #[.int .i64 x.epoch, .int .i64 x.granted, .slice b l c, .int .i64 x.merged, .int .i64 x.last] 28) (by kernel_rfl) ?_
  change wpAnyH _ _ _ _ _ _ _ _ (World.drew _)
  rw [← hW0]
  clear hW0
  refine takeH (o := ?o199) 0 (.pointer (some ⟨w.heap.size, 3, none⟩)) ?h199 ?r199
  case h199 => simp only [aT, aZ]; rfl
  refine ⟨_, by simp [Act.put]; rfl, by kernel_rfl, by kernel_rfl, by kernel_rfl, fun _ _ _ h => h, (.inl ⟨rfl, fun W _ => by kernel_rfl⟩), HS.out.1, ?_⟩
  refine takeH (o := ?o200) 1 (.int .i64 x.merged) ?h200 ?r200
  case h200 => simp only [aT, aS, aZ]; rfl
  refine ⟨_, by simp [Act.put]; rfl, by kernel_rfl, by kernel_rfl, by kernel_rfl, fun _ _ _ h => h, (.inl ⟨rfl, fun W hW => by have c := hW.cell 3; simp only [aT, aS, aZ] at c; go_simp⟩), HS.out.1, ?_⟩
  refine takeH (o := ?o201) 2 (.pointer (some ⟨w.heap.size, 2, none⟩)) ?h201 ?r201
  case h201 => simp only [aT, aS, aZ]; rfl
  refine ⟨_, by simp [Act.put]; rfl, by kernel_rfl, by kernel_rfl, by kernel_rfl, fun _ _ _ h => h, (.inl ⟨rfl, fun W _ => by kernel_rfl⟩), HS.out.1, ?_⟩
  refine takeH (o := ?o202) 3 (.slice b l c) ?h202 ?r202
  case h202 => simp only [aT, aS, aZ]; rfl
  refine ⟨_, by simp [Act.put]; rfl, by kernel_rfl, by kernel_rfl, by kernel_rfl, fun _ _ _ h => h, (.inl ⟨rfl, fun W hW => by have c := hW.cell 2; simp only [aT, aS, aZ] at c; go_simp⟩), HS.out.1, ?_⟩
  refine onlyH (o := ?o203) 4 (by kernel_rfl) ?h203 ?r203
  case h203 => simp only [aT, aS, aZ]; rfl
  intro K hK
  refine op_call1 51 _ _ Tryd.f51 (fun v w' => v = .int .i64 x.taken.size ∧ Below W0.heap.size W0 w') rfl rfl Tryd.func51 (by kernel_rfl) (by kernel_rfl) ((sizeImpl_any b l c x.taken F W0 (HP.out.1.below HS.out.2) HP.out.2).mono (by rintro e w' ⟨rfl, hb⟩; exact ⟨_, rfl, rfl, hb⟩)) ?_
  rintro v W1 ⟨rfl, hb⟩
  have HS : Hid (Blk W1 w.heap.size #[.int .i64 x.epoch, .int .i64 x.granted, .slice b l c, .int .i64 x.merged, .int .i64 x.last] 28 ∧ Below w.heap.size w W1) := ⟨HS.out.1.below hb, Below.next HS.out.2 hb⟩
  clear hb
  refine ⟨_, by simp [Act.put]; rfl, hK _ _ ⟨HS.out.1, ?_⟩⟩
  clear hK
  refine onlyH (o := ?o204) 5 (by kernel_rfl) ?h204 ?r204
  case h204 => simp only [aT, aS, aZ]; rfl
  intro K hK
  obtain ⟨d5, hd5⟩ : ∃ d, d = decide (0 ≤ x.merged ∧ x.merged ≤ x.taken.size) := ⟨_, rfl⟩
  have HD5 : Hid (d5 = decide (0 ≤ x.merged ∧ x.merged ≤ x.taken.size)) := hd5
  refine op_callS2 41 _ _ _ Tryd.f41 (fun v w' => v = .bool d5 ∧ w' = W1) rfl rfl Tryd.func41 (by kernel_rfl) (by kernel_rfl) ((inRange_any x.merged x.taken.size W1).mono (by rintro e w' ⟨rfl, rfl⟩; exact ⟨_, rfl, by rw [hd5], rfl⟩)) ?_
  rintro v W2 ⟨rfl, hq⟩
  have hq' := hq.symm
  subst hq'
  clear hq hd5
  refine ⟨_, by simp [Act.put]; rfl, hK _ _ ⟨HS.out.1, ?_⟩⟩
  clear hK
  cases d5
  · refine takeH (o := ?o205) 6 (.bool false) ?h205 ?r205
    case h205 => simp only [aT, aS, aZ]; rfl
    refine ⟨_, by simp [Act.put]; rfl, by kernel_rfl, by kernel_rfl, by kernel_rfl, fun _ _ _ h => h, (.inl ⟨rfl, fun W _ => by kernel_rfl⟩), HS.out.1, ?_⟩
    refine takeH (o := ?o206) 7 (undef) ?h206 ?r206
    case h206 => simp only [aT, aS, aZ]; rfl
    refine ⟨_, by simp [Act.put]; rfl, by kernel_rfl, by kernel_rfl, by kernel_rfl, fun _ _ _ h => h, (.inr ⟨rfl, rfl⟩), HS.out.1, ?_⟩
    refine takeH (o := ?o207) 8 (undef) ?h207 ?r207
    case h207 => simp only [aT, aS, aZ]; rfl
    refine ⟨_, by simp [Act.put]; rfl, by kernel_rfl, by kernel_rfl, by kernel_rfl, fun _ _ _ h => h, (.inr ⟨rfl, rfl⟩), HS.out.1, ?_⟩
    refine takeH (o := ?o208) 9 (undef) ?h208 ?r208
    case h208 => simp only [aT, aS, aZ]; rfl
    refine ⟨_, by simp [Act.put]; rfl, by kernel_rfl, by kernel_rfl, by kernel_rfl, fun _ _ _ h => h, (.inr ⟨rfl, rfl⟩), HS.out.1, ?_⟩
    refine takeH (o := ?o209) 10 (undef) ?h209 ?r209
    case h209 => simp only [aT, aS, aZ]; rfl
    refine ⟨_, by simp [Act.put]; rfl, by kernel_rfl, by kernel_rfl, by kernel_rfl, fun _ _ _ h => h, (.inr ⟨rfl, rfl⟩), HS.out.1, ?_⟩
    refine takeH (o := ?o210) 11 (undef) ?h210 ?r210
    case h210 => simp only [aT, aS, aZ]; rfl
    refine ⟨_, by simp [Act.put]; rfl, by kernel_rfl, by kernel_rfl, by kernel_rfl, fun _ _ _ h => h, (.inr ⟨rfl, rfl⟩), HS.out.1, ?_⟩
    refine takeH (o := ?o211) 12 (undef) ?h211 ?r211
    case h211 => simp only [aT, aS, aZ]; rfl
    refine ⟨_, by simp [Act.put]; rfl, by kernel_rfl, by kernel_rfl, by kernel_rfl, fun _ _ _ h => h, (.inr ⟨rfl, rfl⟩), HS.out.1, ?_⟩
    refine takeH (o := ?o212) 13 (undef) ?h212 ?r212
    case h212 => simp only [aT, aS, aZ]; rfl
    refine ⟨_, by simp [Act.put]; rfl, by kernel_rfl, by kernel_rfl, by kernel_rfl, fun _ _ _ h => h, (.inr ⟨rfl, rfl⟩), HS.out.1, ?_⟩
    refine takeH (o := ?o213) 14 (.bool false) ?h213 ?r213
    case h213 => simp only [aT, aS, aZ]; rfl
    refine ⟨_, by simp [Act.put]; rfl, by kernel_rfl, by kernel_rfl, by kernel_rfl, fun _ _ _ h => h, (.inl ⟨rfl, fun W _ => by kernel_rfl⟩), HS.out.1, ?_⟩
    refine takeH (o := ?o214) 15 (.bool false) ?h214 ?r214
    case h214 => simp only [aT, aS, aZ]; rfl
    refine ⟨_, by simp [Act.put]; rfl, by kernel_rfl, by kernel_rfl, by kernel_rfl, fun _ _ _ h => h, (.inl ⟨rfl, fun W _ => by kernel_rfl⟩), HS.out.1, ?_⟩
    refine wpAnyH_done (by kernel_rfl) ?_ _
    have HV : Hid (x.ok per = false) := by show _ = _; unfold Se.ok; rw [← HD5.out]; simp
    go_wp2
    go_ret
    exact ⟨ret_bool HV.out.symm, HS.out.2⟩
  refine takeH (o := ?o215) 6 (.bool true) ?h215 ?r215
  case h215 => simp only [aT, aS, aZ]; rfl
  refine ⟨_, by simp [Act.put]; rfl, by kernel_rfl, by kernel_rfl, by kernel_rfl, fun _ _ _ h => h, (.inl ⟨rfl, fun W _ => by kernel_rfl⟩), HS.out.1, ?_⟩
  refine takeH (o := ?o216) 7 (.pointer (some ⟨w.heap.size, 1, none⟩)) ?h216 ?r216
  case h216 => simp only [aT, aS, aZ]; rfl
  refine ⟨_, by simp [Act.put]; rfl, by kernel_rfl, by kernel_rfl, by kernel_rfl, fun _ _ _ h => h, (.inl ⟨rfl, fun W _ => by kernel_rfl⟩), HS.out.1, ?_⟩
  refine takeH (o := ?o217) 8 (.int .i64 x.granted) ?h217 ?r217
  case h217 => simp only [aT, aS, aZ]; rfl
  refine ⟨_, by simp [Act.put]; rfl, by kernel_rfl, by kernel_rfl, by kernel_rfl, fun _ _ _ h => h, (.inl ⟨rfl, fun W hW => by have c := hW.cell 1; simp only [aT, aS, aZ] at c; go_simp⟩), HS.out.1, ?_⟩
  refine takeH (o := ?o218) 9 (.pointer (some ⟨w.heap.size, 3, none⟩)) ?h218 ?r218
  case h218 => simp only [aT, aS, aZ]; rfl
  refine ⟨_, by simp [Act.put]; rfl, by kernel_rfl, by kernel_rfl, by kernel_rfl, fun _ _ _ h => h, (.inl ⟨rfl, fun W _ => by kernel_rfl⟩), HS.out.1, ?_⟩
  refine takeH (o := ?o219) 10 (.int .i64 x.merged) ?h219 ?r219
  case h219 => simp only [aT, aS, aZ]; rfl
  refine ⟨_, by simp [Act.put]; rfl, by kernel_rfl, by kernel_rfl, by kernel_rfl, fun _ _ _ h => h, (.inl ⟨rfl, fun W hW => by have c := hW.cell 3; simp only [aT, aS, aZ] at c; go_simp⟩), HS.out.1, ?_⟩
  refine takeH (o := ?o220) 11 (.int .i64 per) ?h220 ?r220
  case h220 => simp only [aT, aS, aZ]; rfl
  refine ⟨_, by simp [Act.put]; rfl, by kernel_rfl, by kernel_rfl, by kernel_rfl, fun _ _ _ h => h, (.inl ⟨rfl, fun W _ => by kernel_rfl⟩), HS.out.1, ?_⟩
  have hm : x.merged + per ≤ 20971520008 ∧ 0 ≤ x.merged + per := by have h1 := HPR.out; have h5 := of_decide_eq_true HD5.out.symm; have := HSZ.out; omega
  have hwz : IntKind.i64.wrap (x.merged + per) = x.merged + per := wrapSe (by omega)
  refine takeH (o := ?o221) 12 (.int .i64 (x.merged + per)) ?h221 ?r221
  case h221 => simp only [aT, aS, aZ]; rfl
  refine ⟨_, by simp [Act.put]; rfl, by kernel_rfl, by kernel_rfl, by kernel_rfl, fun _ _ _ h => h, (.inl ⟨rfl, fun W _ => by first | (go_simp; done) | (go_simp; exact hwz)⟩), HS.out.1, ?_⟩
  obtain ⟨d6, hd6⟩ : ∃ d, d = decide (x.granted ≤ x.merged + per) := ⟨_, rfl⟩
  have HD6 : Hid (d6 = decide (x.granted ≤ x.merged + per)) := hd6
  refine takeH (o := ?o222) 13 (.bool d6) ?h222 ?r222
  case h222 => simp only [aT, aS, aZ]; rfl
  refine ⟨_, by simp [Act.put]; rfl, by kernel_rfl, by kernel_rfl, by kernel_rfl, fun _ _ _ h => h, (.inl ⟨rfl, fun W _ => by rw [hd6]; go_simp⟩), HS.out.1, ?_⟩
  clear hd6 hwz hm
  refine takeH (o := ?o223) 14 (.bool d6) ?h223 ?r223
  case h223 => simp only [aT, aS, aZ]; rfl
  refine ⟨_, by simp [Act.put]; rfl, by kernel_rfl, by kernel_rfl, by kernel_rfl, fun _ _ _ h => h, (.inl ⟨rfl, fun W _ => by kernel_rfl⟩), HS.out.1, ?_⟩
  refine takeH (o := ?o224) 15 (.bool d6) ?h224 ?r224
  case h224 => simp only [aT, aS, aZ]; rfl
  refine ⟨_, by simp [Act.put]; rfl, by kernel_rfl, by kernel_rfl, by kernel_rfl, fun _ _ _ h => h, (.inl ⟨rfl, fun W _ => by kernel_rfl⟩), HS.out.1, ?_⟩
  refine wpAnyH_done (by kernel_rfl) ?_ _
  have HV : Hid (x.ok per = d6) := by show _ = _; unfold Se.ok; rw [← HD1.out, ← HD2.out, ← HD3.out, ← HD4.out, ← HD5.out, ← HD6.out, ← HD7.out]; simp
  go_wp2
  go_ret
  exact ⟨ret_bool HV.out.symm, HS.out.2⟩
set_option maxRecDepth 200000 in
set_option maxHeartbeats 2000000 in
theorem copiedSeat_any (v : Value) (x : Se) (F : List Nat) (w : World) (h : RdSe w v x F) (hl : x.taken.length ≤ 2097152) :
    Calls Tryd.prog 19 #[v] w fun e w' => NewSe w x e w' := by
  obtain ⟨b, l, c, rfl, hP, hcp⟩ := h
  have HP : Hid (RdP w b l x.taken F ∧ l ≤ 2097152) := ⟨hP, by rw [← hP.length]; exact hl⟩
  have HT : Hid (Two w #[.int .i64 x.epoch, .int .i64 x.granted, .slice b l c, .int .i64 x.merged, .int .i64 x.last] #[.int .i64 0, .int .i64 0, .slice none 0 0, .int .i64 0, .int .i64 0] 28 ((w.alloc (.cells #[.int .i64 x.epoch, .int .i64 x.granted, .slice b l c, .int .i64 x.merged, .int .i64 x.last] 28)).alloc (.cells #[.int .i64 0, .int .i64 0, .slice none 0 0, .int .i64 0, .int .i64 0] 28))) := Two.made w _ _ _
  clear hP hl hcp
  have c2' := HT.out.fst.cell 2
  simp only [aT, aS, aZ] at c2'
  go_enter Tryd.func19, Tryd.ntmps19
  go_wp2_with fail
  refine (copiedSpans_any b l c x.taken F _ (HP.out.1.below HT.out.bel) HP.out.2).mono ?_
  rintro e w2 ⟨p, n, k, G, rfl, rp, op, bp, kp⟩
  have hlt := HT.out.snd.lt
  have H2 : Hid (Two w #[.int .i64 x.epoch, .int .i64 x.granted, .slice b l c, .int .i64 x.merged, .int .i64 x.last] #[.int .i64 0, .int .i64 0, .slice none 0 0, .int .i64 0, .int .i64 0] 28 w2 ∧ RdP w2 p n x.taken G ∧ Own (w.heap.size + 2) w2 G ∧ Capd p n k) := ⟨HT.out.below bp, rp, op.mono (by simp), kp⟩
  clear rp op bp kp HT c2' hlt
  have c2' := H2.out.1.fst.cell 2
  have f2' := H2.out.1.fst.frozen 2
  simp only [aT, aS, aZ] at c2'
  go_wp2_with (first | go_skip | (with_reducible refine stopLoad 28 rfl ?_) | (with_reducible refine stopStore 28 rfl ?_))
  have n0 : w.heap.size ∉ G := fun hx => by have := H2.out.2.2.1.ge _ hx; omega
  have n1 : w.heap.size + 1 ∉ G := fun hx => by have := H2.out.2.2.1.ge _ hx; omega
  have ag : Agree w2 (w2.setCell ⟨w.heap.size, 2, none⟩ (.slice p n k)) G := .set n0 2 _
  have H3 : Hid (Blk (w2.setCell ⟨w.heap.size, 2, none⟩ (.slice p n k)) w.heap.size #[.int .i64 x.epoch, .int .i64 x.granted, .slice p n k, .int .i64 x.merged, .int .i64 x.last] 28 ∧ Blk (w2.setCell ⟨w.heap.size, 2, none⟩ (.slice p n k)) (w.heap.size + 1) #[.int .i64 0, .int .i64 0, .slice none 0 0, .int .i64 0, .int .i64 0] 28 ∧ RdP (w2.setCell ⟨w.heap.size, 2, none⟩ (.slice p n k)) p n x.taken G ∧ Own (w.heap.size + 2) (w2.setCell ⟨w.heap.size, 2, none⟩ (.slice p n k)) G ∧ Below w.heap.size w (w2.setCell ⟨w.heap.size, 2, none⟩ (.slice p n k)) ∧ Capd p n k ∧ w.heap.size + 1 ∉ G) :=
    ⟨H2.out.1.fst.set 2 _, H2.out.1.snd.setOther (by omega) 2 _, H2.out.2.1.agree ag, H2.out.2.2.1.agree ag, H2.out.1.bel.setCell (by show w.heap.size ≤ w.heap.size; omega) _, H2.out.2.2.2, n1⟩
  obtain ⟨w3, hw3⟩ : ∃ W, W = w2.setCell ⟨w.heap.size, 2, none⟩ (.slice p n k) := ⟨_, rfl⟩
  rw [← hw3] at H3 ⊢
  clear hw3 c2' f2' H2 n0 n1 ag
  refine load_known 28 w.heap.size #[.int .i64 x.epoch, .int .i64 x.granted, .slice p n k, .int .i64 x.merged, .int .i64 x.last] 28 _ H3.out.1 rfl rfl rfl Tryd.underlying28 rfl infoSeI ?_
  go_wp2_with (first | go_skip | (with_reducible refine stopLoad 28 rfl ?_) | (with_reducible refine stopStore 28 rfl ?_))
  refine store_known 28 (w.heap.size + 1) _ #[.int .i64 x.epoch, .int .i64 x.granted, .slice p n k, .int .i64 x.merged, .int .i64 x.last] 28 H3.out.2.1 rfl rfl rfl rfl infoSeI rfl (by simp [Value.oneCell']) ?_
  go_wp2
  refine bodyPost_ret (results_cell_row Tryd.results19 _ _ (w.heap.size + 1) _ _ (0, 0) _ rfl H3.out.2.1.setRow Tryd.underlying28 rfl infoSeI) rfl ?_
  have ag := Agree.row (w := w3) H3.out.2.2.2.2.2.2 #[.int .i64 x.epoch, .int .i64 x.granted, .slice p n k, .int .i64 x.merged, .int .i64 x.last]
  exact ⟨_, G, rfl, ⟨p, n, k, rfl, H3.out.2.2.1.agree ag, H3.out.2.2.2.2.2.1⟩, (H3.out.2.2.2.1.agree ag).mono (by omega), below_setRow H3.out.2.2.2.2.1 (by omega) _⟩
end Go.Proofs.YtgkbhhlkaifnoabDoor
/- The walks through SeatGrant and Owed, of the model and of the program. No statement of the seat is proved here. -/
namespace Go.Proofs.YtgkbhhlkaifnoabDoor
open Go.RowKit
theorem SeW.start {w W W1 W2 : World} {A : Array Value} {ep gr me la : Int} {ts : Sp} {b : Option Addr} {l c : Nat} {F : List Nat} (T : Two w A #[.int .i64 0, .int .i64 0, .slice none 0 0, .int .i64 0, .int .i64 0] 28 W) (hp : RdP W1 b l ts F) (hc : Capd b l c) (o : Own W.heap.size W1 F) (k : Below W.heap.size W W1) (g : Blk W2 W1.heap.size #[.int .i64 ep, .int .i64 gr, .slice b l c, .int .i64 me, .int .i64 la] 28) (k2 : Below W1.heap.size W1 W2) : SeW w A W1.heap.size ep gr me la ts b l c F W2 := by
  have hs := T.snd.lt
  have hk := k.size
  exact ⟨(T.fst.below k).below k2, (T.snd.below k).below k2, g, hp.below k2, hc, (o.below hp.lt k2).mono (by omega), Below.next (Below.next T.bel k) k2, by omega, fun hx => by have := hp.lt _ hx; omega⟩
/-- A seat behind a SeatGrant. -/
def Se.grant (x : Se) (per : Int) : Se := if x.ok per = true then ⟨x.epoch, min 60 (x.merged + per), x.taken, x.merged, x.last⟩ else x
theorem Se.grant_wide {x : Se} (h : x.wide) (per : Int) : (x.grant per).wide := by
  unfold Se.grant
  split <;> exact h
/-- What is granted and not added up. -/
def Se.owed (x : Se) : Int := if (0 ≤ x.granted ∧ x.granted ≤ 60) ∧ 0 ≤ x.merged ∧ x.merged ≤ 60 then max (x.granted - x.merged) 0 else 0
end Go.Proofs.YtgkbhhlkaifnoabDoor
/- The walks through SeatReclaim, of the model and of the program. No statement of the seat is proved here. -/
namespace Go.Proofs.YtgkbhhlkaifnoabDoor
open Go.RowKit
/-- The greatest number of a set that rises. -/
def Sp.top (ps : Sp) : Int := if ps.length = 0 then 0 else (ps.at (ps.length - 1)).2
/-- A seat behind a SeatReclaim. -/
def Se.reclaim (x : Se) (per : Int) : Se := if x.ok per = true ∧ ¬ x.epoch = 1000 then ⟨x.epoch + 1, x.taken.top, x.taken, x.merged, x.last⟩ else x
theorem Se.reclaim_wide {x : Se} (h : x.wide) (per : Int) : (x.reclaim per).wide := by
  unfold Se.reclaim
  split <;> exact h
/-- The last span's cells. -/
theorem RdP.last {w : World} {b : Option Addr} {l : Nat} {ps : Sp} {F : List Nat} (h : RdP w b l ps F) (hl : 0 < l) : ∃ g off, b = some ⟨g, off, none⟩ ∧ g ∈ F ∧ w.cell? ⟨g, off + (l - 1) * 2 + 1, none⟩ = some (.int .i64 ps.top) := by
  have hn := h.length
  rcases h.cells with ⟨rfl, _, _⟩ | ⟨g, off, hp, rfl, hF, hc⟩
  · omega
  · refine ⟨g, off, rfl, by rw [hF]; exact List.mem_cons_self, ?_⟩
    have q := (hc (l - 1) (by omega)).2
    rw [show off + (l - 1) * 2 + 1 = off + (l - 1) * 2 + 1 from rfl] at q
    rw [q]
    unfold Sp.top
    rw [if_neg (by omega), hn]
    rfl
end Go.Proofs.YtgkbhhlkaifnoabDoor
/- The walks through SeatMerge, of the model and of the program. No statement of the seat is proved here. -/
namespace Go.Proofs.YtgkbhhlkaifnoabDoor
open Go.RowKit
def Se.plus (x : Se) (n : Int) : Se := ⟨x.epoch, x.granted, x.taken, x.merged + n, x.last⟩
/-- A seat behind a SeatMerge, and whether it was done. -/
def Se.merge (x : Se) (per n : Int) : Se × Bool := if x.ok per = true ∧ 0 ≤ n ∧ n ≤ x.taken.size - x.merged then (x.plus n, true) else (x, false)
def NewSe2 (w : World) (z : Se × Bool) (e : Ending) (w' : World) : Prop := ∃ v F, e = .returned (.tuple #[v, .bool z.2]) ∧ RdSe w' v z.1 F ∧ Own w.heap.size w' F ∧ Below w.heap.size w w'
theorem Se.merge_wide {x : Se} (h : x.wide) (per n : Int) : (x.merge per n).1.wide := by
  unfold Se.merge
  split <;> exact h
theorem Sp.under_at {ps : Sp} {m : Int} (h : ps.under m = true) {k : Nat} (hk : k < ps.length) : 1 ≤ (ps.at k).1 ∧ (ps.at k).2 ≤ m := by
  unfold Sp.under at h
  rw [List.all_eq_true] at h
  exact of_decide_eq_true (h k (List.mem_range.2 hk))
theorem Sp.sum_top {ps : Sp} {m : Int} (h : ps.ok = true) (u : ps.under m = true) : ∀ k, k < ps.length → Sp.sum (ps.take (k + 1)) ≤ (ps.at k).2
  | 0, hk => by
    have e := Sp.sum_step (ps := ps) (k := 0) hk
    have p := Sp.under_at u hk
    rw [List.take_zero] at e
    rw [e]
    have : Sp.sum [] = 0 := rfl
    omega
  | k + 1, hk => by
    have ih := Sp.sum_top h u k (by omega)
    have e := Sp.sum_step (ps := ps) (k := k + 1) hk
    have p := (Sp.okAt_parts (Sp.ok_at h (k + 1) hk)).2 (by omega)
    rw [Nat.add_sub_cancel] at p
    omega
/-- What is in 1 .. m is no more than m. -/
theorem Sp.size_under {ps : Sp} {m : Int} (h : ps.ok = true) (u : ps.under m = true) (hm : 0 ≤ m) : ps.size ≤ m := by
  unfold Sp.size
  rw [if_pos h]
  by_cases h0 : ps.length = 0
  · have e : ps = [] := List.eq_nil_of_length_eq_zero h0
    rw [e]
    have : Sp.sum [] = 0 := rfl
    omega
  · have q := Sp.sum_top h u (ps.length - 1) (by omega)
    rw [show ps.length - 1 + 1 = ps.length by omega, List.take_length] at q
    have := (Sp.under_at u (k := ps.length - 1) (by omega)).2
    omega
theorem Se.Right.size {x : Se} {p : Int} (h : x.Right p) : x.taken.size ≤ 60 := by
  have := Sp.size_under h.taken h.under h.granted.1
  have := h.granted.2
  omega
theorem Se.plus_ok {x : Se} {per n : Int} (h : x.Right per) (hn : 0 ≤ n) : (x.plus n).ok per = decide (n ≤ x.taken.size - x.merged) := by
  by_cases q : n ≤ x.taken.size - x.merged
  · rw [decide_eq_true q]
    exact Se.Right.ok ⟨h.per, h.epoch, h.granted, h.taken, h.under, ⟨by have := h.merged; show 0 ≤ x.merged + n; omega, by show x.merged + n ≤ x.taken.size; omega⟩, by have := h.share; show x.granted ≤ x.merged + n + per; omega, h.last⟩
  · rw [decide_eq_false q]
    cases e : (x.plus n).ok per
    · rfl
    · have := (Se.right e).merged
      have hp : (x.plus n).merged = x.merged + n := rfl
      have ht : (x.plus n).taken = x.taken := rfl
      rw [hp, ht] at this
      omega
end Go.Proofs.YtgkbhhlkaifnoabDoor
/- errors.As at the one kind of target that the program hands it (a refusal), by contracts: Go's own text of errors.As is walked; after the guide's worked toy. No statement of the seat is proved here. -/
namespace Go.Proofs.YtgkbhhlkaifnoabDoor
open Go.RowKit Go.Extern.Stop Go.Stop Go.Extern
/-- The library's one variable that errors.As reads. -/
def ErrAt (w : World) : Prop := w.cell? ⟨0, 0, none⟩ = some (.iface 80 (.agg #[.pointer (some ⟨1, 49, none⟩)]))
set_option maxRecDepth 200000 in
theorem ErrAt.lt {w : World} (h : ErrAt w) : 0 < w.heap.size := World.block_lt_of_cell? _ _ h
set_option maxRecDepth 200000 in
theorem ErrAt.below {w w' : World} (h : ErrAt w) (b : Below w.heap.size w w') : ErrAt w' := (b.cell (p := ⟨0, 0, none⟩) h.lt).trans h
set_option maxRecDepth 200000 in
theorem asNil_any (t : Value) (w : World) : Calls Tryd.prog 20 #[.nilIface, t] w fun e w' => e = .returned (.bool false) ∧ w' = w := by
  go_enter Tryd.func20, Tryd.ntmps20
  go_wp2
  go_ret
  exact ⟨rfl, rfl⟩
theorem valueOfP (t : Addr) (w : World) : (ReflectliteValue.unpack (.iface 51 (.pointer (some t)))).run Tryd.prog w
    = .ok (.agg #[.pointer (some ⟨1, 51, none⟩), .pointer (some ⟨w.heap.size, 0, none⟩), .int .u64 150]) (w.alloc (.cells #[.pointer (some t)] 51)) := by kernel_rfl
theorem typeP (a : Addr) (w : World) : (ReflectliteValue.methodAny (ReflectliteValue.valueError "reflectlite.Value.Type" 0) (fun t _ _ _ => ReflectliteType.toType t) #[.agg #[.pointer (some ⟨1, 51, none⟩), .pointer (some a), .int .u64 150]]).run Tryd.prog w
    = .ok (.iface 80 (.agg #[.pointer (some ⟨1, 51, none⟩)])) w := by kernel_rfl
theorem methodKind (h : Value) (w : World) : (Go.method 226 80 (.agg #[h]) "Kind").run Tryd.prog w = .ok (68, h) w := by kernel_rfl
theorem kindP (w : World) : ((ReflectliteType.abiMethod fun t => (fun a : Nat => Value.int IntKind.u8 (a : Int)) <$> Rtype.kind t) #[.pointer (some ⟨1, 51, none⟩)]).run Tryd.prog w = .ok (.int .u8 22) w := by kernel_rfl
theorem kindR (w : World) : ((ReflectliteType.abiMethod fun t => (fun a : Nat => Value.int IntKind.u8 (a : Int)) <$> Rtype.kind t) #[.pointer (some ⟨1, 46, none⟩)]).run Tryd.prog w = .ok (.int .u8 25) w := by kernel_rfl
theorem rlm (z : Sem Value) (f : TypeId → Addr → Nat → Nat → Sem Value) (v : Value) :
    ReflectliteValue.method z f #[v] = (do match ← ReflectliteValue.parts v with | none => z | some (t, a, fl) => f t a fl (fl % 32)) := rfl
theorem partsP (a : Addr) (w : World) : (ReflectliteValue.parts (.agg #[.pointer (some ⟨1, 51, none⟩), .pointer (some a), .int .u64 150])).run Tryd.prog w = .ok (some (51, a, 150)) w := by kernel_rfl
theorem isNilP (a p : Addr) (W : World) (ha : W.cell? a = some (.pointer (some p))) :
    (ReflectliteValue.method (ReflectliteValue.valueError "reflectlite.Value.IsNil" 0) ReflectliteValue.isNil #[.agg #[.pointer (some ⟨1, 51, none⟩), .pointer (some a), .int .u64 150]]).run Tryd.prog W = .ok (.bool false) W := by
  rw [rlm]
  simp only [Sem.run_bind, partsP, Result.andThen]
  simp [ReflectliteValue.isNil, loadVar, isAgg, underlying, Tryd.underlying51, ha, Result.andThen]
theorem methodElem (h : Value) (w : World) : (Go.method 226 80 (.agg #[h]) "Elem").run Tryd.prog w = .ok (78, .agg #[h]) w := by kernel_rfl
theorem methodImplements (h : Value) (w : World) : (Go.method 226 80 (.agg #[h]) "Implements").run Tryd.prog w = .ok (79, .agg #[h]) w := by kernel_rfl
theorem methodAssignableTo (h : Value) (w : World) : (Go.method 226 80 (.agg #[h]) "AssignableTo").run Tryd.prog w = .ok (76, .agg #[h]) w := by kernel_rfl
theorem elemP (w : World) : (ReflectliteType.method ReflectliteType.elem #[.agg #[.pointer (some ⟨1, 51, none⟩)]]).run Tryd.prog w = .ok (.iface 80 (.agg #[.pointer (some ⟨1, 46, none⟩)])) w := by kernel_rfl
theorem implementsR (w : World) : (ReflectliteType.relation "Implements" ReflectliteType.implements_ #[.agg #[.pointer (some ⟨1, 46, none⟩)], .iface 80 (.agg #[.pointer (some ⟨1, 49, none⟩)])]).run Tryd.prog w = .ok (.bool true) w := by kernel_rfl
theorem typeOfR (v : Value) (w : World) : (ReflectliteType.typeOf #[.iface 46 v]).run Tryd.prog w = .ok (.iface 80 (.agg #[.pointer (some ⟨1, 46, none⟩)])) w := by kernel_rfl
theorem assignableR (w : World) : (ReflectliteType.relation "AssignableTo" ReflectliteType.assignableTo #[.agg #[.pointer (some ⟨1, 46, none⟩)], .iface 80 (.agg #[.pointer (some ⟨1, 46, none⟩)])]).run Tryd.prog w = .ok (.bool true) w := by kernel_rfl
theorem valueOfR (c : Int) (w : World) : (ReflectliteValue.unpack (.iface 46 (.agg #[.int .i64 c]))).run Tryd.prog w
    = .ok (.agg #[.pointer (some ⟨1, 46, none⟩), .pointer (some ⟨w.heap.size, 0, none⟩), .int .u64 153]) (w.alloc (.cells #[.int .i64 c] 46)) := by kernel_rfl
theorem elemOfP (w : World) : (Rtype.elem? 51).run Tryd.prog w = .ok (some 46) w := by kernel_rfl
theorem mkR (p : Addr) (w : World) : (ReflectliteValue.mk 46 p ReflectliteValue.flagAddr).run Tryd.prog w = .ok (.agg #[.pointer (some ⟨1, 46, none⟩), .pointer (some p), .int .u64 409]) w := by kernel_rfl
theorem elemVP (a p : Addr) (W : World) (ha : W.cell? a = some (.pointer (some p))) :
    (ReflectliteValue.method (ReflectliteValue.valueError "reflectlite.Value.Elem" 0) ReflectliteValue.elem #[.agg #[.pointer (some ⟨1, 51, none⟩), .pointer (some a), .int .u64 150]]).run Tryd.prog W
      = .ok (.agg #[.pointer (some ⟨1, 46, none⟩), .pointer (some p), .int .u64 409]) W := by
  rw [rlm]
  simp only [Sem.run_bind, partsP, Result.andThen]
  simp [ReflectliteValue.elem, loadVar, isAgg, underlying, Tryd.underlying51, ha, Result.andThen, elemOfP, mkR]
theorem rls (v x : Value) : ReflectliteValue.set #[v, x] = (do
    let (some (dst, a, fl), some (src, b, _)) := (← ReflectliteValue.parts v, ← ReflectliteValue.parts x)
      | unsupported (.noEntry "extern/(internal/reflectlite.Value).Set.zeroValue")
    if fl / ReflectliteValue.flagAddr % 2 == 0 then unsupported (.noEntry "extern/(internal/reflectlite.Value).Set.unaddressable")
    let val ← loadVar src b
    if ← Rtype.directlyAssignable dst src then storeVar dst a val
    else if ← Rtype.implements dst src then
      if (← Rtype.kind src) == 20 then
        match val with
        | .nilIface => unsupported (.noEntry "extern/reflectlite: a nil value of one interface type handed on as a value of another")
        | _ => storeVar dst a val
      else storeVar dst a (.iface src val)
    else panicString ("reflectlite.Set: value of type " ++ (← Rtype.spelt src) ++ " is not assignable to type " ++ (← Rtype.spelt dst))
    pure (.tuple #[])) := rfl
theorem partsRa (a : Addr) (w : World) : (ReflectliteValue.parts (.agg #[.pointer (some ⟨1, 46, none⟩), .pointer (some a), .int .u64 409])).run Tryd.prog w = .ok (some (46, a, 409)) w := by kernel_rfl
theorem partsR (a : Addr) (w : World) : (ReflectliteValue.parts (.agg #[.pointer (some ⟨1, 46, none⟩), .pointer (some a), .int .u64 153])).run Tryd.prog w = .ok (some (46, a, 153)) w := by kernel_rfl
theorem directR (w : World) : (Rtype.directlyAssignable 46 46).run Tryd.prog w = .ok true w := by kernel_rfl
theorem infoRef : (Tryd.prog.info? 46).map (·.size) = some 1 := by kernel_rfl
theorem setR (T b : Nat) (c o : Int) (W : World) (hb : Blk W b #[.int .i64 c] 46) (ht : Blk W T #[.int .i64 o] 46) :
    (ReflectliteValue.set #[.agg #[.pointer (some ⟨1, 46, none⟩), .pointer (some ⟨T, 0, none⟩), .int .u64 409], .agg #[.pointer (some ⟨1, 46, none⟩), .pointer (some ⟨b, 0, none⟩), .int .u64 153]]).run Tryd.prog W
      = .ok (.tuple #[]) (W.setRow T #[.int .i64 c]) := by
  rw [rls]
  have h1 := run_loadVar_row W b 46 46 #[.int .i64 c] (0, 0) _ hb Tryd.underlying46 rfl infoRef
  have h2 := run_storeVar_row W T 46 46 #[.int .i64 o] #[.int .i64 c] ht infoRef rfl (by simp [Value.oneCell'])
  simp only [Sem.run_bind, partsRa, partsR, Result.andThen]
  simp [ReflectliteValue.flagAddr, h1, h2, directR, Result.andThen]
set_option maxRecDepth 200000 in
set_option maxHeartbeats 4000000 in
theorem asIn_any (c o : Int) (T V : Nat) (w : World) (hT : Blk w T #[.int .i64 o] 46) (hV : Blk w V #[.pointer (some ⟨T, 0, none⟩)] 51) :
    Calls Tryd.prog 36 #[.iface 46 (.agg #[.int .i64 c]), .iface 51 (.pointer (some ⟨T, 0, none⟩)), .agg #[.pointer (some ⟨1, 51, none⟩), .pointer (some ⟨V, 0, none⟩), .int .u64 150], .iface 80 (.agg #[.pointer (some ⟨1, 46, none⟩)])] w
      fun e w' => e = .returned (.bool true) ∧ w' = ((w.alloc (.cells #[.pointer (some ⟨1, 51, none⟩), .pointer (some ⟨V, 0, none⟩), .int .u64 150] 64)).alloc (.cells #[.int .i64 c] 46)).setRow T #[.int .i64 c] := by
  have h10 := @run_callFunc_extern Tryd.prog 47 _ ReflectliteType.typeOf Tryd.func47 (by kernel_rfl) (by kernel_rfl) (by kernel_rfl) (by kernel_rfl)
  have h35 := @run_callFunc_extern Tryd.prog 76 _ (ReflectliteType.relation "AssignableTo" ReflectliteType.assignableTo) Tryd.func76 (by kernel_rfl) (by kernel_rfl) (by kernel_rfl) (by kernel_rfl)
  have h6 := @run_callFunc_extern Tryd.prog 33 _ (fun args => ReflectliteValue.unpack (args.getD 0 (.tuple #[]))) Tryd.func33 (by kernel_rfl) (by kernel_rfl) (by kernel_rfl) (by kernel_rfl)
  have h11 := @run_callFunc_extern Tryd.prog 48 _ (ReflectliteValue.method (ReflectliteValue.valueError "reflectlite.Value.Elem" 0) ReflectliteValue.elem) Tryd.func48 (by kernel_rfl) (by kernel_rfl) (by kernel_rfl) (by kernel_rfl)
  have h12 := @run_callFunc_extern Tryd.prog 49 _ ReflectliteValue.set Tryd.func49 (by kernel_rfl) (by kernel_rfl) (by kernel_rfl) (by kernel_rfl)
  have tO := typeOfR
  have mA := methodAssignableTo
  have a25 := assignableR
  have v25 := valueOfR
  have hVl := hV.lt
  have hTl := hT.lt
  have el := elemVP ⟨V, 0, none⟩ ⟨T, 0, none⟩ (w.alloc (.cells #[.pointer (some ⟨1, 51, none⟩), .pointer (some ⟨V, 0, none⟩), .int .u64 150] 64)) (by have := (hV.alloc (.cells #[.pointer (some ⟨1, 51, none⟩), .pointer (some ⟨V, 0, none⟩), .int .u64 150] 64)).cell 0; simpa using this)
  have st := setR T (w.heap.size + 1) c o ((w.alloc (.cells #[.pointer (some ⟨1, 51, none⟩), .pointer (some ⟨V, 0, none⟩), .int .u64 150] 64)).alloc (.cells #[.int .i64 c] 46)) (by have := Blk.made (w.alloc (.cells #[.pointer (some ⟨1, 51, none⟩), .pointer (some ⟨V, 0, none⟩), .int .u64 150] 64)) #[.int .i64 c] 46; simpa using this) ((hT.alloc _).alloc _)
  clear hT hV
  go_enter Tryd.func36, Tryd.ntmps36
  go_wp2
  refine wp_loop_rounds 1 ?_
  rw [rounds_succ]
  go_wp2
  go_ret
  exact ⟨rfl, rfl⟩
set_option maxRecDepth 200000 in
set_option maxHeartbeats 4000000 in
theorem asHit_any (c o : Int) (T : Nat) (w : World) (hT : Blk w T #[.int .i64 o] 46) (hE : ErrAt w) :
    Calls Tryd.prog 20 #[.iface 46 (.agg #[.int .i64 c]), .iface 51 (.pointer (some ⟨T, 0, none⟩))] w
      fun e w' => e = .returned (.bool true) ∧ ∃ W, Below w.heap.size w W ∧ w' = W.setRow T #[.int .i64 c] := by
  have h6 := @run_callFunc_extern Tryd.prog 33 _ (fun args => ReflectliteValue.unpack (args.getD 0 (.tuple #[]))) Tryd.func33 (by kernel_rfl) (by kernel_rfl) (by kernel_rfl) (by kernel_rfl)
  have h7 := @run_callFunc_extern Tryd.prog 34 _ (ReflectliteValue.methodAny (ReflectliteValue.valueError "reflectlite.Value.Type" 0) (fun t _ _ _ => ReflectliteType.toType t)) Tryd.func34 (by kernel_rfl) (by kernel_rfl) (by kernel_rfl) (by kernel_rfl)
  have h8 := @run_callFunc_extern Tryd.prog 35 _ (ReflectliteValue.method (ReflectliteValue.valueError "reflectlite.Value.IsNil" 0) ReflectliteValue.isNil) Tryd.func35 (by kernel_rfl) (by kernel_rfl) (by kernel_rfl) (by kernel_rfl)
  have h27 := @run_callFunc_extern Tryd.prog 68 _ (ReflectliteType.abiMethod fun t => do pure (.int .u8 (← Rtype.kind t))) Tryd.func68 (by kernel_rfl) (by kernel_rfl) (by kernel_rfl) (by kernel_rfl)
  have h37 := @run_callFunc_extern Tryd.prog 78 _ (ReflectliteType.method ReflectliteType.elem) Tryd.func78 (by kernel_rfl) (by kernel_rfl) (by kernel_rfl) (by kernel_rfl)
  have h38 := @run_callFunc_extern Tryd.prog 79 _ (ReflectliteType.relation "Implements" ReflectliteType.implements_) Tryd.func79 (by kernel_rfl) (by kernel_rfl) (by kernel_rfl) (by kernel_rfl)
  have f6 := valueOfP
  have f7 := typeP
  have mK := methodKind
  have mE := methodElem
  have mI := methodImplements
  have k27 := kindP
  have k25 := kindR
  have e27 := elemP
  have i25 := implementsR
  have b1 : Below w.heap.size w (w.alloc (.cells #[.pointer (some ⟨T, 0, none⟩)] 51)) := (Below.refl _ _).alloc (Nat.le_refl _) _
  have b2 : Below w.heap.size w ((w.alloc (.cells #[.pointer (some ⟨T, 0, none⟩)] 51)).alloc (.cells #[.pointer (some ⟨1, 51, none⟩), .pointer (some ⟨w.heap.size, 0, none⟩), .int .u64 150] 64)) := b1.alloc (by simp) _
  have n8 := isNilP ⟨w.heap.size, 0, none⟩ ⟨T, 0, none⟩ ((w.alloc (.cells #[.pointer (some ⟨T, 0, none⟩)] 51)).alloc (.cells #[.pointer (some ⟨1, 51, none⟩), .pointer (some ⟨w.heap.size, 0, none⟩), .int .u64 150] 64)) (by simp)
  have hg : ((w.alloc (.cells #[.pointer (some ⟨T, 0, none⟩)] 51)).alloc (.cells #[.pointer (some ⟨1, 51, none⟩), .pointer (some ⟨w.heap.size, 0, none⟩), .int .u64 150] 64)).cell? ⟨0, 0, none⟩ = some (.iface 80 (.agg #[.pointer (some ⟨1, 49, none⟩)])) := hE.below b2
  have HX : Hid (Below w.heap.size w ((w.alloc (.cells #[.pointer (some ⟨T, 0, none⟩)] 51)).alloc (.cells #[.pointer (some ⟨1, 51, none⟩), .pointer (some ⟨w.heap.size, 0, none⟩), .int .u64 150] 64)) ∧ Blk ((w.alloc (.cells #[.pointer (some ⟨T, 0, none⟩)] 51)).alloc (.cells #[.pointer (some ⟨1, 51, none⟩), .pointer (some ⟨w.heap.size, 0, none⟩), .int .u64 150] 64)) T #[.int .i64 o] 46 ∧ Blk ((w.alloc (.cells #[.pointer (some ⟨T, 0, none⟩)] 51)).alloc (.cells #[.pointer (some ⟨1, 51, none⟩), .pointer (some ⟨w.heap.size, 0, none⟩), .int .u64 150] 64)) w.heap.size #[.pointer (some ⟨T, 0, none⟩)] 51) := ⟨b2, hT.below b2, (Blk.made w _ _).alloc _⟩
  have hlt := hE.lt
  clear hT hE b1 b2
  go_enter Tryd.func20, Tryd.ntmps20
  go_wp2_with (go_at_call 36; refine (asIn_any c o T w.heap.size _ HX.out.2.1 HX.out.2.2).mono ?_; rintro e w' ⟨rfl, rfl⟩)
  go_ret
  exact ⟨rfl, _, (HX.out.1.alloc (by first | (simp; done) | (simp; omega)) _).alloc (by first | (simp; done) | (simp; omega)) _, rfl⟩
end Go.Proofs.YtgkbhhlkaifnoabDoor
/- The walks through the program's SetAdd and SetJoin. No statement of the seat is proved here. -/
namespace Go.Proofs.YtgkbhhlkaifnoabDoor
open Go.RowKit
set_option maxRecDepth 200000 in
theorem inRangeP_any (n m : Int) (w : World) : Calls Tryd.prog 41 #[.int .i64 n, .int .i64 m] w fun e w' => e = .returned (.bool (decide (0 ≤ n ∧ n ≤ m))) ∧ w' = w := by
  by_cases h1 : 0 ≤ n
  · have e1 : decide (0 ≤ n) = true := decT h1
    by_cases h2 : n ≤ m
    · have e2 : decide (n ≤ m) = true := decT h2
      have HV : Hid (decide (0 ≤ n ∧ n ≤ m) = true) := decT ⟨h1, h2⟩
      clear h1 h2
      go_enter Tryd.func41, Tryd.ntmps41
      go_wp2
      go_ret
      exact ⟨ret_bool HV.out.symm, rfl⟩
    · have e2 : decide (n ≤ m) = false := decF h2
      have HV : Hid (decide (0 ≤ n ∧ n ≤ m) = false) := decF (fun e => h2 e.2)
      clear h1 h2
      go_enter Tryd.func41, Tryd.ntmps41
      go_wp2
      go_ret
      exact ⟨ret_bool HV.out.symm, rfl⟩
  · have e1 : decide (0 ≤ n) = false := decF h1
    have HV : Hid (decide (0 ≤ n ∧ n ≤ m) = false) := decF (fun e => h1 e.1)
    clear h1
    go_enter Tryd.func41, Tryd.ntmps41
    go_wp2
    go_ret
    exact ⟨ret_bool HV.out.symm, rfl⟩
set_option maxRecDepth 200000 in
theorem single_any (n : Int) (w : World) : Calls Tryd.prog 43 #[.int .i64 n] w fun e w' => e = .returned (.agg #[.int .i64 n, .int .i64 n]) ∧ Below w.heap.size w w' := by
  have HB : Hid (Below w.heap.size w (w.alloc (.cells #[.int .i64 n, .int .i64 n] 42))) := Below.allocW _ (Below.refl _ _) (Nat.le_refl _)
  have HK : Hid (Blk (w.alloc (.cells #[.int .i64 n, .int .i64 n] 42)) w.heap.size #[.int .i64 n, .int .i64 n] 42) := Blk.made _ _ _
  go_enter Tryd.func43, Tryd.ntmps43
  go_wp2
  refine bodyPost_ret (results_cell_row Tryd.results43 _ _ w.heap.size _ _ (0, 0) _ rfl HK.out Tryd.underlying42 rfl (by kernel_rfl)) rfl ?_
  exact ⟨rfl, HB.out⟩
theorem inb_ok {ps : Sp} (h : ps.ok = true) : ∀ p ∈ ps, InB p := inb_iff.1 (ok_inb h)
set_option maxRecDepth 200000 in
set_option maxHeartbeats 4000000 in
theorem setAddImpl_any (a : Option Addr) (len cap : Nat) (ps : Sp) (n : Int) (F : List Nat) (w : World) (h : RdP w a len ps F) (hlen : len ≤ 2097152) (hcap : len ≤ cap) :
    Calls Tryd.prog 22 #[.slice a len cap, .int .i64 n] w fun e w' => NewP2 w (ps.add n).1 (ps.add n).2 e w' := by
  have HR : Hid (RdP w a len ps F) := h
  clear h
  go_enter Tryd.func22, Tryd.ntmps22
  go_wp2_with fail
  refine (setOkImpl_any a len cap ps F _ HR.out hlen).mono ?_
  rintro e w1 ⟨rfl, hb⟩
  have HB0 : Hid (Below w.heap.size w w1) := hb
  clear hb
  obtain ⟨d, hd⟩ : ∃ d, d = ps.ok := ⟨_, rfl⟩
  rw [← hd]
  have HD : Hid (d = ps.ok) := hd
  clear hd
  cases d
  · have HV : Hid (ps.add n = (ps, false)) := Sp.add_not (fun e => by rw [← HD.out] at e; cases e.1)
    go_wp2_with fail
    refine (copiedSpans_any a len cap ps F _ (HR.out.below HB0.out) hlen).mono ?_
    rintro e w2 ⟨a', l', c', F', rfl, h1, h2, h3, h4⟩
    have HE : Hid (RdP w2 a' l' ps F' ∧ Own w.heap.size w2 F' ∧ Below w.heap.size w w2 ∧ Capd a' l' c') := ⟨h1, h2.mono HB0.out.size, Below.next HB0.out h3, h4⟩
    clear h1 h2 h3 h4
    go_wp2
    go_ret2
    rw [HV.out]
    exact ⟨a', l', c', F', rfl, HE.out⟩
  go_wp2_with fail
  refine (inRangeP_any _ _ _).mono ?_
  rintro e w2 ⟨rfl, hw2⟩
  have hw2' := hw2.symm
  subst hw2'
  clear hw2
  by_cases hb : 0 ≤ n ∧ n ≤ 9999
  rotate_left
  · rw [decF hb]
    have HV : Hid (ps.add n = (ps, false)) := Sp.add_not (fun e => hb e.2.1)
    clear hb
    go_wp2_with fail
    refine (copiedSpans_any a len cap ps F _ (HR.out.below HB0.out) hlen).mono ?_
    rintro e w2 ⟨a', l', c', F', rfl, h1, h2, h3, h4⟩
    have HE : Hid (RdP w2 a' l' ps F' ∧ Own w.heap.size w2 F' ∧ Below w.heap.size w w2 ∧ Capd a' l' c') := ⟨h1, h2.mono HB0.out.size, Below.next HB0.out h3, h4⟩
    clear h1 h2 h3 h4
    go_wp2
    go_ret2
    rw [HV.out]
    exact ⟨a', l', c', F', rfl, HE.out⟩
  rw [decT hb]
  have HBB : Hid (0 ≤ n ∧ n ≤ 9999) := hb
  clear hb
  go_wp2_with fail
  refine (single_any n _).mono ?_
  rintro e w2 ⟨rfl, hb⟩
  have HB1 : Hid (Below w.heap.size w w2) := Below.next HB0.out hb
  clear hb HB0
  go_wp2_with fail
  have HB2 : Hid (Below w.heap.size w (w2.alloc (.cells #[.int .i64 n, .int .i64 n] 42))) := Below.allocW _ HB1.out (Nat.le_refl _)
  refine (spansOfBoth_any a (some ⟨w2.heap.size, 0, none⟩) len 1 cap 1 ps [(n, n)] F [w2.heap.size] _ (HR.out.below HB2.out) (rdP_one (Blk.made _ _ _)) (by omega) hcap (inb_ok HD.out.symm) (fun p hp => by rw [List.mem_singleton.1 hp]; exact ⟨HBB.out, HBB.out⟩)).mono ?_
  rintro e w3 ⟨a', l', c', F', rfl, h1, h2, h3, h4⟩
  have hadd := both_add (a := ps) (n := n) HD.out.symm HBB.out
  have HA : Hid ((ps.add n).2 = decide (¬ (ps.add n).1 = ps)) := by show _ = _; rw [← hadd.1]; exact hadd.2
  have HE : Hid (RdP w3 a' l' (ps.add n).1 F' ∧ Own w.heap.size w3 F' ∧ Below w.heap.size w w3 ∧ Capd a' l' c') := ⟨by rw [← hadd.1]; exact h1, h2.mono HB2.out.size, Below.next HB2.out h3, h4⟩
  have hl' : l' ≤ 4194304 := by
    have e1 := h1.length
    have e2 := HE.out.1.length
    have e3 : (ps.add n).1.length ≤ ps.length + 1 := by
      unfold Sp.add
      split
      · exact put_length _ _ _
      · simp
    have e4 := HR.out.length
    omega
  clear h1 h2 h3 h4 hadd
  go_wp2_with fail
  refine (slEqualP_any a' a l' len c' cap (ps.add n).1 ps F' F _ HE.out.1 (HR.out.below HE.out.2.2.1) (by omega) (by omega)).mono ?_
  rintro e w4 ⟨rfl, hq⟩
  have HF : Hid (RdP w4 a' l' (ps.add n).1 F' ∧ Own w.heap.size w4 F' ∧ Below w.heap.size w w4 ∧ Capd a' l' c') := ⟨HE.out.1.quiet hq, HE.out.2.1.below HE.out.1.lt (quiet_below hq), Below.next HE.out.2.2.1 (quiet_below hq), HE.out.2.2.2⟩
  obtain ⟨f, hf⟩ : ∃ f, f = decide ((ps.add n).1 = ps) := ⟨_, rfl⟩
  rw [← hf]
  have HG : Hid ((ps.add n).2 = !f) := by
    show _ = _
    rw [HA.out, hf]
    by_cases c : (ps.add n).1 = ps <;> simp [c]
  clear hq HE hf
  go_wp2
  go_ret2
  rw [HG.out]
  exact ⟨a', l', c', F', rfl, HF.out⟩
end Go.Proofs.YtgkbhhlkaifnoabDoor
/- The walk through the program's isSeq. No statement of the seat is proved here. -/
namespace Go.Proofs.YtgkbhhlkaifnoabDoor
open Go.RowKit
set_option maxRecDepth 200000 in
theorem isSeq_any (n : Int) (w : World) : Calls Tryd.prog 38 #[.int .i64 n] w fun e w' => e = .returned (.bool (decide (1 ≤ n ∧ n ≤ 60))) ∧ w' = w := by
  have hd : ∀ d : Bool, d = decide (1 ≤ n ∧ n ≤ 60) → (d = true ↔ 1 ≤ n ∧ n ≤ 60) := by rintro d rfl; simp
  generalize decide (1 ≤ n ∧ n ≤ 60) = d at *
  have hd := hd d rfl
  by_cases h : 1 ≤ n
  · by_cases h2 : n ≤ 60
    · have e : Hid (d = true) := hd.2 ⟨h, h2⟩
      clear hd
      go_enter Tryd.func38, Tryd.ntmps38
      go_wp2
      go_ret
      rw [e.out]; exact ⟨rfl, rfl⟩
    · have e : Hid (d = false) := show d = false by cases d; rfl; exact absurd (hd.1 rfl).2 h2
      clear hd
      go_enter Tryd.func38, Tryd.ntmps38
      go_wp2
      go_ret
      rw [e.out]; exact ⟨rfl, rfl⟩
  · have e : Hid (d = false) := show d = false by cases d; rfl; exact absurd (hd.1 rfl).1 h
    clear hd
    go_enter Tryd.func38, Tryd.ntmps38
    go_wp2
    go_ret
    rw [e.out]; exact ⟨rfl, rfl⟩
end Go.Proofs.YtgkbhhlkaifnoabDoor
/- The walks through SeatData, of the model and of the program (by errors.As). No statement of the seat is proved here. -/
namespace Go.Proofs.YtgkbhhlkaifnoabDoor
open Go.RowKit
def Se.took (x : Se) (sq : Int) : Se := ⟨x.epoch, x.granted, put x.taken (sq, sq) false, x.merged, x.last⟩
/-- A seat behind a SeatData, and the code. -/
def Se.data (x : Se) (per ep sq : Int) : Se × Int :=
  if ¬ (x.ok per = true ∧ 1 ≤ sq ∧ sq ≤ 60) then (x, 4) else if ¬ ep = x.epoch then (x, 2) else if x.taken.has sq = true then (x, 1) else if x.granted < sq then (x, 3) else (x.took sq, 0)
def NewSeI (w : World) (z : Se × Int) (e : Ending) (w' : World) : Prop := ∃ v F, e = .returned (.tuple #[v, .int .i64 z.2]) ∧ RdSe w' v z.1 F ∧ Own w.heap.size w' F ∧ Below w.heap.size w w'
theorem Se.data_wide {x : Se} (h : x.fits) (per ep sq : Int) : (x.data per ep sq).1.wide := by
  have hw := h.wide
  unfold Se.data
  split
  · exact hw
  split
  · exact hw
  split
  · exact hw
  split
  · exact hw
  · have := put_length x.taken (sq, sq) false
    unfold Se.fits at h
    show (put x.taken (sq, sq) false).length ≤ 2097152
    omega
section
variable {x : Se} {per ep sq : Int}
theorem Se.data_bad (h : ¬ (x.ok per = true ∧ 1 ≤ sq ∧ sq ≤ 60)) : x.data per ep sq = (x, 4) := by unfold Se.data; rw [if_pos h]
theorem Se.data_epoch (h : x.ok per = true ∧ 1 ≤ sq ∧ sq ≤ 60) (h2 : ¬ ep = x.epoch) : x.data per ep sq = (x, 2) := by unfold Se.data; rw [if_neg (fun q => q h), if_pos h2]
theorem Se.data_twice (h : x.ok per = true ∧ 1 ≤ sq ∧ sq ≤ 60) (h2 : ep = x.epoch) (h3 : x.taken.has sq = true) : x.data per ep sq = (x, 1) := by unfold Se.data; rw [if_neg (fun q => q h), if_neg (fun q => q h2), if_pos h3]
theorem Se.data_credit (h : x.ok per = true ∧ 1 ≤ sq ∧ sq ≤ 60) (h2 : ep = x.epoch) (h3 : x.taken.has sq = false) (h4 : x.granted < sq) : x.data per ep sq = (x, 3) := by unfold Se.data; rw [if_neg (fun q => q h), if_neg (fun q => q h2), if_neg (by rw [h3]; simp), if_pos h4]
theorem Se.data_new (h : x.ok per = true ∧ 1 ≤ sq ∧ sq ≤ 60) (h2 : ep = x.epoch) (h3 : x.taken.has sq = false) (h4 : ¬ x.granted < sq) : x.data per ep sq = (x.took sq, 0) := by unfold Se.data; rw [if_neg (fun q => q h), if_neg (fun q => q h2), if_neg (by rw [h3]; simp), if_neg h4]
end
theorem Se.took_eq {x : Se} {per sq : Int} (h : x.Right per) (hs : 1 ≤ sq ∧ sq ≤ 60) (hn : x.taken.has sq = false) : (x.taken.add sq).1 = put x.taken (sq, sq) false := by
  rw [Sp.add_yes h.taken (by omega) hn]
section
variable {w W W' : World} {A : Array Value} {L : Nat} {ep gr me la : Int} {ts : Sp} {b : Option Addr} {l c : Nat} {F : List Nat}
theorem SeW.row (h : SeW w A L ep gr me la ts b l c F W) {M : Nat} (hM : w.heap.size + 2 ≤ M) (hL : M ≠ L) (hF : M ∉ F) (ds : Array Value) : SeW w A L ep gr me la ts b l c F (W.setRow M ds) := by
  have ag := Agree.row (w := W) hF ds
  exact ⟨h.box.setRowOther (by omega), h.res.setRowOther (by omega), h.loc.setRowOther (fun e => hL e.symm), h.rp.agree ag, h.cp, h.own.agree ag, below_setRow h.bel (by omega) _, h.gt, h.ap⟩
end
set_option maxRecDepth 200000 in
theorem infoSpSe : (Tryd.prog.info? 42).map (·.size) = some 2 := by kernel_rfl
set_option maxRecDepth 200000 in
theorem l8OneSe_any (n : Int) (w : World) : Calls Tryd.prog 17 #[.int .i64 n] w fun e w' => e = .returned (.agg #[.int .i64 n, .int .i64 n]) ∧ Below w.heap.size w w' := by
  have H0 : Hid (Blk (w.alloc (.cells #[.int .i64 0, .int .i64 0] 42)) w.heap.size #[.int .i64 0, .int .i64 0] 42 ∧ Below w.heap.size w (w.alloc (.cells #[.int .i64 0, .int .i64 0] 42))) := ⟨Blk.made _ _ _, (Below.refl _ _).alloc (Nat.le_refl _) _⟩
  go_enter Tryd.func17, Tryd.ntmps17
  go_wp2_with (first | go_skip | (with_reducible refine stopStore 42 rfl ?_))
  refine store_known 42 w.heap.size _ #[.int .i64 n, .int .i64 n] 42 H0.out.1 rfl rfl rfl rfl infoSpSe rfl (by simp [Value.oneCell']) ?_
  go_wp2
  refine bodyPost_ret (results_cell_row Tryd.results17 _ _ w.heap.size _ _ (0, 0) _ rfl H0.out.1.setRow Tryd.underlying42 rfl infoSpSe) rfl ?_
  exact ⟨rfl, below_setRow H0.out.2 (Nat.le_refl _) _⟩
/-- What mayTake answers, by the code. -/
def errOf (c : Int) : Value := if c = 0 then .nilIface else .iface 46 (.agg #[.int .i64 c])
set_option maxRecDepth 200000 in
set_option maxHeartbeats 8000000 in
theorem mayTake_any (v : Value) (x : Se) (per ep sq : Int) (F : List Nat) (w : World) (h : RdSe w v x F) (hl : x.taken.length ≤ 2097152) :
    Calls Tryd.prog 21 #[v, .int .i64 per, .int .i64 ep, .int .i64 sq] w fun e w' => e = .returned (errOf (x.data per ep sq).2) ∧ Below w.heap.size w w' := by
  obtain ⟨b, l, c, rfl, hP, hcp⟩ := h
  have HX : Hid (RdSe w (.agg #[.int .i64 x.epoch, .int .i64 x.granted, .slice b l c, .int .i64 x.merged, .int .i64 x.last]) x F ∧ x.taken.length ≤ 2097152) := ⟨⟨b, l, c, rfl, hP, hcp⟩, hl⟩
  have HP : Hid (RdP w b l x.taken F ∧ l ≤ 2097152) := ⟨hP, by rw [← hP.length]; exact hl⟩
  clear hP hl hcp
  have HB : Hid (Blk (w.alloc (.cells #[.int .i64 x.epoch, .int .i64 x.granted, .slice b l c, .int .i64 x.merged, .int .i64 x.last] 28)) w.heap.size #[.int .i64 x.epoch, .int .i64 x.granted, .slice b l c, .int .i64 x.merged, .int .i64 x.last] 28 ∧ Below w.heap.size w (w.alloc (.cells #[.int .i64 x.epoch, .int .i64 x.granted, .slice b l c, .int .i64 x.merged, .int .i64 x.last] 28))) := ⟨Blk.made _ _ _, (Below.refl _ _).alloc (Nat.le_refl _) _⟩
  go_enter Tryd.func21, Tryd.ntmps21
  go_wp2_with (first | go_skip | (with_reducible refine stopLoad 28 rfl ?_) | (with_reducible refine stopStore 28 rfl ?_))
  refine load_known 28 w.heap.size #[.int .i64 x.epoch, .int .i64 x.granted, .slice b l c, .int .i64 x.merged, .int .i64 x.last] 28 _ HB.out.1 rfl rfl rfl Tryd.underlying28 rfl infoSeI ?_
  go_wp2_with fail
  refine (seOkImpl_any _ x per F _ (HX.out.1.below HB.out.2) HX.out.2).mono ?_
  rintro e w2 ⟨rfl, hb⟩
  have HS : Hid (Blk w2 w.heap.size #[.int .i64 x.epoch, .int .i64 x.granted, .slice b l c, .int .i64 x.merged, .int .i64 x.last] 28 ∧ Below w.heap.size w w2) := ⟨HB.out.1.below hb, Below.next HB.out.2 hb⟩
  obtain ⟨d, hd⟩ : ∃ d, d = x.ok per := ⟨_, rfl⟩
  rw [← hd]
  have HD : Hid (d = x.ok per) := hd
  clear hd hb HB
  cases d
  · have HV : Hid (errOf (x.data per ep sq).2 = .iface 46 (.agg #[.int .i64 4])) := by show _ = _; rw [Se.data_bad (fun q => by have := HD.out; rw [q.1] at this; cases this)]; rfl
    go_wp2
    go_ret
    rw [HV.out]
    exact ⟨rfl, HS.out.2⟩
  go_wp2_with fail
  refine (isSeq_any sq _).mono ?_
  rintro e w3 ⟨rfl, hq⟩
  have hq' := hq.symm
  subst hq'
  clear hq
  obtain ⟨d2, hd2⟩ : ∃ d, d = decide (1 ≤ sq ∧ sq ≤ 60) := ⟨_, rfl⟩
  rw [← hd2]
  have HD2 : Hid (d2 = decide (1 ≤ sq ∧ sq ≤ 60)) := hd2
  clear hd2
  cases d2
  · have HV : Hid (errOf (x.data per ep sq).2 = .iface 46 (.agg #[.int .i64 4])) := by show _ = _; rw [Se.data_bad (fun q => of_decide_eq_false HD2.out.symm q.2)]; rfl
    go_wp2
    go_ret
    rw [HV.out]
    exact ⟨rfl, HS.out.2⟩
  have HH : Hid (x.ok per = true ∧ 1 ≤ sq ∧ sq ≤ 60) := ⟨HD.out.symm, of_decide_eq_true HD2.out.symm⟩
  have c0 := HS.out.1.cell 0
  simp only [aT, aZ] at c0
  by_cases hE : ep = x.epoch
  rotate_left
  · have HV : Hid (errOf (x.data per ep sq).2 = .iface 46 (.agg #[.int .i64 2])) := by show _ = _; rw [Se.data_epoch HH.out hE]; rfl
    have e0 : (ep != x.epoch) = true := by simpa using hE
    clear hE
    go_wp2
    go_ret
    rw [HV.out]
    exact ⟨rfl, HS.out.2⟩
  have HE : Hid (ep = x.epoch) := hE
  have e0 : (ep != x.epoch) = false := by simpa using hE
  have c2 := HS.out.1.cell 2
  simp only [aT, aS, aZ] at c2
  clear hE
  go_wp2_with fail
  refine (hasImpl_any b l c x.taken sq F _ (HP.out.1.below HS.out.2) HP.out.2).mono ?_
  rintro e w4 ⟨rfl, hb⟩
  have HS : Hid (Blk w4 w.heap.size #[.int .i64 x.epoch, .int .i64 x.granted, .slice b l c, .int .i64 x.merged, .int .i64 x.last] 28 ∧ Below w.heap.size w w4) := ⟨HS.out.1.below hb, Below.next HS.out.2 hb⟩
  obtain ⟨d3, hd3⟩ : ∃ d, d = x.taken.has sq := ⟨_, rfl⟩
  rw [← hd3]
  have HD3 : Hid (d3 = x.taken.has sq) := hd3
  clear hd3 hb c0 c2 e0
  cases d3
  rotate_left
  · have HV : Hid (errOf (x.data per ep sq).2 = .iface 46 (.agg #[.int .i64 1])) := by show _ = _; rw [Se.data_twice HH.out HE.out HD3.out.symm]; rfl
    go_wp2
    go_ret
    rw [HV.out]
    exact ⟨rfl, HS.out.2⟩
  have c1 := HS.out.1.cell 1
  simp only [aT, aS, aZ] at c1
  by_cases hG : x.granted < sq
  · have HV : Hid (errOf (x.data per ep sq).2 = .iface 46 (.agg #[.int .i64 3])) := by show _ = _; rw [Se.data_credit HH.out HE.out HD3.out.symm hG]; rfl
    have e1 : decide (x.granted < sq) = true := decide_eq_true hG
    go_wp2
    go_ret
    rw [HV.out]
    exact ⟨rfl, HS.out.2⟩
  · have HV : Hid (errOf (x.data per ep sq).2 = .nilIface) := by show _ = _; rw [Se.data_new HH.out HE.out HD3.out.symm hG]; rfl
    have e1 : decide (x.granted < sq) = false := decide_eq_false hG
    go_wp2
    go_ret
    rw [HV.out]
    exact ⟨rfl, HS.out.2⟩
set_option maxRecDepth 200000 in
set_option maxHeartbeats 8000000 in
theorem seDataSpec_any (v : Value) (x : Se) (per : Int) (ep : Int) (sq : Int) (F : List Nat) (w : World) (h : RdSe w v x F) (hl : x.taken.length ≤ 2097152) :
    Calls Tryd.prog 5 #[v, .int .i64 per, .int .i64 ep, .int .i64 sq] w fun e w' => NewSeI w (x.data per ep sq) e w' := by
  obtain ⟨b, l, c, rfl, hP, hcp⟩ := h
  have HX : Hid (RdSe w (.agg #[.int .i64 x.epoch, .int .i64 x.granted, .slice b l c, .int .i64 x.merged, .int .i64 x.last]) x F ∧ x.taken.length ≤ 2097152) := ⟨⟨b, l, c, rfl, hP, hcp⟩, hl⟩
  have HP : Hid (RdP w b l x.taken F ∧ l ≤ 2097152 ∧ x.taken.length = l ∧ Capd b l c) := ⟨hP, by rw [← hP.length]; exact hl, hP.length, hcp⟩
  have HSZ : Hid (0 ≤ x.taken.size ∧ x.taken.size ≤ 20971520000) := by have := Sp.size_range x.taken; exact ⟨this.1, by omega⟩
  clear hP hl hcp
  have HT : Hid (Two w #[.int .i64 x.epoch, .int .i64 x.granted, .slice b l c, .int .i64 x.merged, .int .i64 x.last] #[.int .i64 0, .int .i64 0, .slice none 0 0, .int .i64 0, .int .i64 0] 28 ((w.alloc (.cells #[.int .i64 x.epoch, .int .i64 x.granted, .slice b l c, .int .i64 x.merged, .int .i64 x.last] 28)).alloc (.cells #[.int .i64 0, .int .i64 0, .slice none 0 0, .int .i64 0, .int .i64 0] 28))) := Two.made w _ _ _
  go_enter Tryd.func5, Tryd.ntmps5
  go_wp2_with (first | go_skip | (with_reducible refine stopLoad 28 rfl ?_) | (with_reducible refine stopStore 28 rfl ?_))
  obtain ⟨W0, hW0⟩ : ∃ W, W = (w.alloc (.cells #[.int .i64 x.epoch, .int .i64 x.granted, .slice b l c, .int .i64 x.merged, .int .i64 x.last] 28)).alloc (.cells #[.int .i64 0, .int .i64 0, .slice none 0 0, .int .i64 0, .int .i64 0] 28) := ⟨_, rfl⟩
  rw [← hW0] at HT ⊢
  clear hW0
  refine load_known 28 w.heap.size #[.int .i64 x.epoch, .int .i64 x.granted, .slice b l c, .int .i64 x.merged, .int .i64 x.last] 28 _ HT.out.fst rfl rfl rfl Tryd.underlying28 rfl infoSeI ?_
  go_wp2_with fail
  refine (l9Copy_any _ x F _ (HX.out.1.below HT.out.bel) HX.out.2).mono ?_
  rintro e w1 ⟨zv, G, rfl, ⟨p, n, k, rfl, rp, kp⟩, oz, bz⟩
  have HC1 : Hid (Two w #[.int .i64 x.epoch, .int .i64 x.granted, .slice b l c, .int .i64 x.merged, .int .i64 x.last] #[.int .i64 0, .int .i64 0, .slice none 0 0, .int .i64 0, .int .i64 0] 28 W0 ∧ RdP w1 p n x.taken G ∧ Capd p n k ∧ Own W0.heap.size w1 G ∧ Below W0.heap.size W0 w1) := ⟨HT.out, rp, kp, oz, bz⟩
  clear rp kp oz bz HT
  go_wp2_with (first | go_skip | (with_reducible refine stopLoad 28 rfl ?_) | (with_reducible refine stopStore 28 rfl ?_))
  refine store_fresh 28 w1.heap.size rfl #[.int .i64 0, .int .i64 0, .slice none 0 0, .int .i64 0, .int .i64 0] #[.int .i64 x.epoch, .int .i64 x.granted, .slice p n k, .int .i64 x.merged, .int .i64 x.last] 28 rfl rfl rfl rfl infoSeI rfl (by simp [Value.oneCell']) ?_
  intro w2 hg hb
  have H2 : Hid (SeW w #[.int .i64 x.epoch, .int .i64 x.granted, .slice b l c, .int .i64 x.merged, .int .i64 x.last] w1.heap.size x.epoch x.granted x.merged x.last x.taken p n k G w2) := SeW.start HC1.out.1 HC1.out.2.1 HC1.out.2.2.1 HC1.out.2.2.2.1 HC1.out.2.2.2.2 hg hb
  obtain ⟨L, hL⟩ : ∃ L, L = w1.heap.size := ⟨_, rfl⟩
  rw [← hL] at H2 ⊢
  clear hg hb hL HC1
  go_wp2_with (first | go_skip | (with_reducible refine stopLoad 28 rfl ?_) | (with_reducible refine stopStore 28 rfl ?_))
  refine load_known 28 w.heap.size #[.int .i64 x.epoch, .int .i64 x.granted, .slice b l c, .int .i64 x.merged, .int .i64 x.last] 28 _ H2.out.box rfl rfl rfl Tryd.underlying28 rfl infoSeI ?_
  go_wp2_with fail
  refine (seOkSpec_any _ x per F _ (HX.out.1.below H2.out.bel) HX.out.2).mono ?_
  rintro e w3 ⟨rfl, hb⟩
  have H3 : Hid (SeW w #[.int .i64 x.epoch, .int .i64 x.granted, .slice b l c, .int .i64 x.merged, .int .i64 x.last] L x.epoch x.granted x.merged x.last x.taken p n k G w3) := H2.out.below hb
  obtain ⟨d, hd⟩ : ∃ d, d = x.ok per := ⟨_, rfl⟩
  rw [← hd]
  have HD : Hid (d = x.ok per) := hd
  clear hd hb H2
  cases d
  · have HV : Hid (x.data per ep sq = (x, 4)) := Se.data_bad (fun q => by have := HD.out; rw [q.1] at this; cases this)
    go_wp2_with (first | go_skip | (with_reducible refine stopLoad 28 rfl ?_) | (with_reducible refine stopStore 28 rfl ?_))
    refine load_known 28 L #[.int .i64 x.epoch, .int .i64 x.granted, .slice p n k, .int .i64 x.merged, .int .i64 x.last] 28 _ H3.out.loc rfl rfl rfl Tryd.underlying28 rfl infoSeI ?_
    go_wp2_with (first | go_skip | (with_reducible refine stopLoad 28 rfl ?_) | (with_reducible refine stopStore 28 rfl ?_))
    refine store_known 28 (w.heap.size + 1) _ #[.int .i64 x.epoch, .int .i64 x.granted, .slice p n k, .int .i64 x.merged, .int .i64 x.last] 28 H3.out.res rfl rfl rfl rfl infoSeI rfl (by simp [Value.oneCell']) ?_
    go_wp2
    refine bodyPost_ret (results_row_tmp Tryd.results5 _ _ (w.heap.size + 1) _ _ _ _ rfl H3.out.res.setRow Tryd.underlying28 rfl infoSeI) rfl ?_
    rw [HV.out]
    exact ⟨_, G, rfl, H3.out.done.1, H3.out.done.2.1, H3.out.done.2.2⟩
  go_wp2_with fail
  refine (l1In_any sq 1 60 _).mono ?_
  rintro e w4 ⟨rfl, hq⟩
  have hq' := hq.symm
  subst hq'
  clear hq
  obtain ⟨d2, hd2⟩ : ∃ d, d = decide (1 ≤ sq ∧ sq ≤ 60) := ⟨_, rfl⟩
  rw [← hd2]
  have HD2 : Hid (d2 = decide (1 ≤ sq ∧ sq ≤ 60)) := hd2
  clear hd2
  cases d2
  · have HV : Hid (x.data per ep sq = (x, 4)) := Se.data_bad (fun q => of_decide_eq_false HD2.out.symm q.2)
    go_wp2_with (first | go_skip | (with_reducible refine stopLoad 28 rfl ?_) | (with_reducible refine stopStore 28 rfl ?_))
    refine load_known 28 L #[.int .i64 x.epoch, .int .i64 x.granted, .slice p n k, .int .i64 x.merged, .int .i64 x.last] 28 _ H3.out.loc rfl rfl rfl Tryd.underlying28 rfl infoSeI ?_
    go_wp2_with (first | go_skip | (with_reducible refine stopLoad 28 rfl ?_) | (with_reducible refine stopStore 28 rfl ?_))
    refine store_known 28 (w.heap.size + 1) _ #[.int .i64 x.epoch, .int .i64 x.granted, .slice p n k, .int .i64 x.merged, .int .i64 x.last] 28 H3.out.res rfl rfl rfl rfl infoSeI rfl (by simp [Value.oneCell']) ?_
    go_wp2
    refine bodyPost_ret (results_row_tmp Tryd.results5 _ _ (w.heap.size + 1) _ _ _ _ rfl H3.out.res.setRow Tryd.underlying28 rfl infoSeI) rfl ?_
    rw [HV.out]
    exact ⟨_, G, rfl, H3.out.done.1, H3.out.done.2.1, H3.out.done.2.2⟩
  have HH : Hid (x.ok per = true ∧ 1 ≤ sq ∧ sq ≤ 60) := ⟨HD.out.symm, of_decide_eq_true HD2.out.symm⟩
  have c0 := H3.out.box.cell 0
  simp only [aT, aZ] at c0
  by_cases hE : ep = x.epoch
  rotate_left
  · have HV : Hid (x.data per ep sq = (x, 2)) := Se.data_epoch HH.out hE
    have e0 : (ep != x.epoch) = true := by simpa using hE
    clear hE
    go_wp2_with (first | go_skip | (with_reducible refine stopLoad 28 rfl ?_) | (with_reducible refine stopStore 28 rfl ?_))
    refine load_known 28 L #[.int .i64 x.epoch, .int .i64 x.granted, .slice p n k, .int .i64 x.merged, .int .i64 x.last] 28 _ H3.out.loc rfl rfl rfl Tryd.underlying28 rfl infoSeI ?_
    go_wp2_with (first | go_skip | (with_reducible refine stopLoad 28 rfl ?_) | (with_reducible refine stopStore 28 rfl ?_))
    refine store_known 28 (w.heap.size + 1) _ #[.int .i64 x.epoch, .int .i64 x.granted, .slice p n k, .int .i64 x.merged, .int .i64 x.last] 28 H3.out.res rfl rfl rfl rfl infoSeI rfl (by simp [Value.oneCell']) ?_
    go_wp2
    refine bodyPost_ret (results_row_tmp Tryd.results5 _ _ (w.heap.size + 1) _ _ _ _ rfl H3.out.res.setRow Tryd.underlying28 rfl infoSeI) rfl ?_
    rw [HV.out]
    exact ⟨_, G, rfl, H3.out.done.1, H3.out.done.2.1, H3.out.done.2.2⟩
  have HE : Hid (ep = x.epoch) := hE
  have e0 : (ep != x.epoch) = false := by simpa using hE
  have c2 := H3.out.box.cell 2
  simp only [aT, aS, aZ] at c2
  clear hE
  go_wp2_with fail
  refine (hasSpec_any b l c x.taken sq F _ (HP.out.1.below H3.out.bel) (by have := HP.out.2.1; omega)).mono ?_
  rintro e w4 ⟨rfl, hb⟩
  have H4 : Hid (SeW w #[.int .i64 x.epoch, .int .i64 x.granted, .slice b l c, .int .i64 x.merged, .int .i64 x.last] L x.epoch x.granted x.merged x.last x.taken p n k G w4) := H3.out.below (quiet_below hb)
  obtain ⟨d3, hd3⟩ : ∃ d, d = x.taken.has sq := ⟨_, rfl⟩
  rw [← hd3]
  have HD3 : Hid (d3 = x.taken.has sq) := hd3
  clear hd3 hb c0 c2 e0 H3
  cases d3
  rotate_left
  · have HV : Hid (x.data per ep sq = (x, 1)) := Se.data_twice HH.out HE.out HD3.out.symm
    go_wp2_with (first | go_skip | (with_reducible refine stopLoad 28 rfl ?_) | (with_reducible refine stopStore 28 rfl ?_))
    refine load_known 28 L #[.int .i64 x.epoch, .int .i64 x.granted, .slice p n k, .int .i64 x.merged, .int .i64 x.last] 28 _ H4.out.loc rfl rfl rfl Tryd.underlying28 rfl infoSeI ?_
    go_wp2_with (first | go_skip | (with_reducible refine stopLoad 28 rfl ?_) | (with_reducible refine stopStore 28 rfl ?_))
    refine store_known 28 (w.heap.size + 1) _ #[.int .i64 x.epoch, .int .i64 x.granted, .slice p n k, .int .i64 x.merged, .int .i64 x.last] 28 H4.out.res rfl rfl rfl rfl infoSeI rfl (by simp [Value.oneCell']) ?_
    go_wp2
    refine bodyPost_ret (results_row_tmp Tryd.results5 _ _ (w.heap.size + 1) _ _ _ _ rfl H4.out.res.setRow Tryd.underlying28 rfl infoSeI) rfl ?_
    rw [HV.out]
    exact ⟨_, G, rfl, H4.out.done.1, H4.out.done.2.1, H4.out.done.2.2⟩
  have c1 := H4.out.box.cell 1
  simp only [aT, aS, aZ] at c1
  by_cases hG : x.granted < sq
  · have HV : Hid (x.data per ep sq = (x, 3)) := Se.data_credit HH.out HE.out HD3.out.symm hG
    have e1 : decide (x.granted < sq) = true := decide_eq_true hG
    clear hG
    go_wp2_with (first | go_skip | (with_reducible refine stopLoad 28 rfl ?_) | (with_reducible refine stopStore 28 rfl ?_))
    refine load_known 28 L #[.int .i64 x.epoch, .int .i64 x.granted, .slice p n k, .int .i64 x.merged, .int .i64 x.last] 28 _ H4.out.loc rfl rfl rfl Tryd.underlying28 rfl infoSeI ?_
    go_wp2_with (first | go_skip | (with_reducible refine stopLoad 28 rfl ?_) | (with_reducible refine stopStore 28 rfl ?_))
    refine store_known 28 (w.heap.size + 1) _ #[.int .i64 x.epoch, .int .i64 x.granted, .slice p n k, .int .i64 x.merged, .int .i64 x.last] 28 H4.out.res rfl rfl rfl rfl infoSeI rfl (by simp [Value.oneCell']) ?_
    go_wp2
    refine bodyPost_ret (results_row_tmp Tryd.results5 _ _ (w.heap.size + 1) _ _ _ _ rfl H4.out.res.setRow Tryd.underlying28 rfl infoSeI) rfl ?_
    rw [HV.out]
    exact ⟨_, G, rfl, H4.out.done.1, H4.out.done.2.1, H4.out.done.2.2⟩
  have HV : Hid (x.data per ep sq = (x.took sq, 0)) := Se.data_new HH.out HE.out HD3.out.symm hG
  have HIN : Hid ((∀ k, k < l → InB (x.taken.at k)) ∧ InB (sq, sq)) := by
    have hR := Se.right HH.out.1
    have h1 := HH.out.2
    exact ⟨fun k hk => ok_inb hR.taken k (by rw [HP.out.2.2.1]; exact hk), ⟨⟨by show 0 ≤ sq; omega, by show sq ≤ 9999; omega⟩, by show 0 ≤ sq; omega, by show sq ≤ 9999; omega⟩⟩
  have e1 : decide (x.granted < sq) = false := decide_eq_false hG
  clear hG
  go_wp2_with fail
  obtain ⟨Y0, hY0⟩ : ∃ W, W = w4.drew := ⟨_, rfl⟩
  have HS : Hid (SeW w #[.int .i64 x.epoch, .int .i64 x.granted, .slice b l c, .int .i64 x.merged, .int .i64 x.last] L x.epoch x.granted x.merged x.last x.taken p n k G Y0) := by rw [hY0]; exact H4.out.drew
  clear H4 c1 e1
  refine wp_region_held (S := fun W => Blk W w.heap.size #[.int .i64 x.epoch, .int .i64 x.granted, .slice b l c, .int .i64 x.merged, .int .i64 x.last] 28) (by kernel_rfl) ?_
  change wpAnyH _ _ _ _ _ _ _ _ (World.drew _)
  rw [← hY0]
  clear hY0
  refine takeH (o := ?o30) 0 (.pointer (some ⟨w.heap.size, 2, none⟩)) ?h30 ?r30
  case h30 => simp only [aT, aZ]; rfl
  refine ⟨_, by simp [Act.put]; rfl, by kernel_rfl, by kernel_rfl, by kernel_rfl, fun _ _ _ h => h, (.inl ⟨rfl, fun W _ => by kernel_rfl⟩), HS.out.box, ?_⟩
  refine takeH (o := ?o31) 1 (.slice b l c) ?h31 ?r31
  case h31 => simp only [aT, aS, aZ]; rfl
  refine ⟨_, by simp [Act.put]; rfl, by kernel_rfl, by kernel_rfl, by kernel_rfl, fun _ _ _ h => h, (.inl ⟨rfl, fun W hW => by have c := hW.cell 2; simp only [aT, aS, aZ] at c; go_simp⟩), HS.out.box, ?_⟩
  refine takeH (o := ?o32) 2 (.int .i64 sq) ?h32 ?r32
  case h32 => simp only [aT, aS, aZ]; rfl
  refine ⟨_, by simp [Act.put]; rfl, by kernel_rfl, by kernel_rfl, by kernel_rfl, fun _ _ _ h => h, (.inl ⟨rfl, fun W _ => by kernel_rfl⟩), HS.out.box, ?_⟩
  refine onlyH (o := ?o33) 3 (by kernel_rfl) ?h33 ?r33
  case h33 => simp only [aT, aS, aZ]; rfl
  intro K hK
  refine op_call1 17 _ _ Tryd.f17 (fun v w' => v = .agg #[.int .i64 sq, .int .i64 sq] ∧ Below Y0.heap.size Y0 w') rfl rfl Tryd.func17 (by kernel_rfl) (by kernel_rfl) ((l8OneSe_any sq Y0).mono (by rintro e w' ⟨rfl, r⟩; exact ⟨_, rfl, rfl, r⟩)) ?_
  rintro v Y1 ⟨rfl, hb⟩
  have HS : Hid (SeW w #[.int .i64 x.epoch, .int .i64 x.granted, .slice b l c, .int .i64 x.merged, .int .i64 x.last] L x.epoch x.granted x.merged x.last x.taken p n k G Y1) := HS.out.below hb
  clear hb
  refine ⟨_, by simp [Act.put]; rfl, hK _ _ ⟨HS.out.box, ?_⟩⟩
  clear hK
  refine onlyH (o := ?o34) 4 (by kernel_rfl) ?h34 ?r34
  case h34 => simp only [aT, aS, aZ]; rfl
  intro K hK
  refine op_callS2 16 _ _ _ Tryd.f16 (fun v w' => ∃ b' l' c' F', v = .slice b' l' c' ∧ RdP w' b' l' (put x.taken (sq, sq) false) F' ∧ Own Y1.heap.size w' F' ∧ Below Y1.heap.size Y1 w' ∧ Capd b' l' c') rfl rfl Tryd.func16 (by kernel_rfl) (by kernel_rfl) ((l5Put_any b l c x.taken (sq, sq) F Y1 (HP.out.1.below HS.out.bel) HP.out.2.1 HIN.out.1 HIN.out.2).mono (by intro e w' hh; obtain ⟨b', l', c', F', rfl, r1, r2, r3, r4⟩ := hh; exact ⟨_, rfl, b', l', c', F', rfl, r1, r2, r3, r4⟩)) ?_
  rintro v Y2 ⟨bq, nq, cq, Gq, rfl, r1, r2, r3, r4⟩
  have lL : L < Y1.heap.size := HS.out.loc.lt
  have lg := HS.out.gt
  have HQ : Hid (RdP Y2 bq nq (put x.taken (sq, sq) false) Gq ∧ Capd bq nq cq ∧ Own (w.heap.size + 2) Y2 Gq ∧ L ∉ Gq) := ⟨r1, r4, r2.mono (by omega), fun hx => by have := r2.ge _ hx; omega⟩
  have HS : Hid (SeW w #[.int .i64 x.epoch, .int .i64 x.granted, .slice b l c, .int .i64 x.merged, .int .i64 x.last] L x.epoch x.granted x.merged x.last x.taken p n k G Y2) := HS.out.below r3
  clear r1 r2 r3 r4 lL
  refine ⟨_, by simp [Act.put]; rfl, hK _ _ ⟨HS.out.box, ?_⟩⟩
  clear hK
  refine takeH (o := ?o35) 5 (.pointer (some ⟨L, 2, none⟩)) ?h35 ?r35
  case h35 => simp only [aT, aS, aZ]; rfl
  refine ⟨_, by simp [Act.put]; rfl, by kernel_rfl, by kernel_rfl, by kernel_rfl, fun _ _ _ h => h, (.inl ⟨rfl, fun W _ => by kernel_rfl⟩), HS.out.box, ?_⟩
  refine onlyH (o := ?o36) 6 (by kernel_rfl) ?h36 ?r36
  case h36 => simp only [aT, aS, aZ]; rfl
  intro K hK
  have c2 := HS.out.loc.cell 2
  have f2 := HS.out.loc.frozen 2
  simp only [aT, aS, aZ] at c2
  have HZ : Hid (SeW w #[.int .i64 x.epoch, .int .i64 x.granted, .slice b l c, .int .i64 x.merged, .int .i64 x.last] L x.epoch x.granted x.merged x.last (put x.taken (sq, sq) false) bq nq cq Gq (Y2.setCell ⟨L, 2, none⟩ (.slice bq nq cq))) := HS.out.put HQ.out.1 HQ.out.2.1 HQ.out.2.2.1 HQ.out.2.2.2
  refine op_skip (Y2.setCell ⟨L, 2, none⟩ (.slice bq nq cq)) rfl (by go_simp) ⟨_, by simp [Act.put]; rfl, hK _ _ ⟨HZ.out.box, ?_⟩⟩
  clear hK c2 f2 HS HQ lg
  refine wpAnyH_done (by kernel_rfl) ?_ _
  obtain ⟨w6, hw6⟩ : ∃ W, W = Y2.setCell ⟨L, 2, none⟩ (.slice bq nq cq) := ⟨_, rfl⟩
  rw [← hw6] at HZ ⊢
  clear hw6
  go_wp2_with (first | go_skip | (with_reducible refine stopLoad 28 rfl ?_) | (with_reducible refine stopStore 28 rfl ?_))
  refine load_known 28 L #[.int .i64 x.epoch, .int .i64 x.granted, .slice bq nq cq, .int .i64 x.merged, .int .i64 x.last] 28 _ HZ.out.loc rfl rfl rfl Tryd.underlying28 rfl infoSeI ?_
  go_wp2_with (first | go_skip | (with_reducible refine stopLoad 28 rfl ?_) | (with_reducible refine stopStore 28 rfl ?_))
  refine store_known 28 (w.heap.size + 1) _ #[.int .i64 x.epoch, .int .i64 x.granted, .slice bq nq cq, .int .i64 x.merged, .int .i64 x.last] 28 HZ.out.res rfl rfl rfl rfl infoSeI rfl (by simp [Value.oneCell']) ?_
  go_wp2
  refine bodyPost_ret (results_row_tmp Tryd.results5 _ _ (w.heap.size + 1) _ _ _ _ rfl HZ.out.res.setRow Tryd.underlying28 rfl infoSeI) rfl ?_
  rw [HV.out]
  exact ⟨_, Gq, rfl, HZ.out.done.1, HZ.out.done.2.1, HZ.out.done.2.2⟩
set_option maxRecDepth 200000 in
set_option maxHeartbeats 8000000 in
theorem seDataImpl_any (v : Value) (x : Se) (per : Int) (ep : Int) (sq : Int) (F : List Nat) (w : World) (h : RdSe w v x F) (hl : x.taken.length ≤ 1048576) (hE : ErrAt w) :
    Calls Tryd.prog 7 #[v, .int .i64 per, .int .i64 ep, .int .i64 sq] w fun e w' => NewSeI w (x.data per ep sq) e w' := by
  obtain ⟨b, l, c, rfl, hP, hcp⟩ := h
  have HX : Hid (RdSe w (.agg #[.int .i64 x.epoch, .int .i64 x.granted, .slice b l c, .int .i64 x.merged, .int .i64 x.last]) x F ∧ x.taken.length ≤ 2097152) := ⟨⟨b, l, c, rfl, hP, hcp⟩, by omega⟩
  have HP : Hid (RdP w b l x.taken F ∧ l ≤ 2097152 ∧ x.taken.length = l ∧ Capd b l c) := ⟨hP, by rw [← hP.length]; omega, hP.length, hcp⟩
  have HSZ : Hid (0 ≤ x.taken.size ∧ x.taken.size ≤ 20971520000) := by have := Sp.size_range x.taken; exact ⟨this.1, by omega⟩
  have HER : Hid (ErrAt w) := hE
  clear hP hl hcp hE
  have HT : Hid (Two w #[.int .i64 x.epoch, .int .i64 x.granted, .slice b l c, .int .i64 x.merged, .int .i64 x.last] #[.int .i64 0, .int .i64 0, .slice none 0 0, .int .i64 0, .int .i64 0] 28 ((w.alloc (.cells #[.int .i64 x.epoch, .int .i64 x.granted, .slice b l c, .int .i64 x.merged, .int .i64 x.last] 28)).alloc (.cells #[.int .i64 0, .int .i64 0, .slice none 0 0, .int .i64 0, .int .i64 0] 28))) := Two.made w _ _ _
  go_enter Tryd.func7, Tryd.ntmps7
  go_wp2_with (first | go_skip | (with_reducible refine stopLoad 28 rfl ?_) | (with_reducible refine stopStore 28 rfl ?_))
  obtain ⟨W0, hW0⟩ : ∃ W, W = (w.alloc (.cells #[.int .i64 x.epoch, .int .i64 x.granted, .slice b l c, .int .i64 x.merged, .int .i64 x.last] 28)).alloc (.cells #[.int .i64 0, .int .i64 0, .slice none 0 0, .int .i64 0, .int .i64 0] 28) := ⟨_, rfl⟩
  rw [← hW0] at HT ⊢
  clear hW0
  refine load_known 28 w.heap.size #[.int .i64 x.epoch, .int .i64 x.granted, .slice b l c, .int .i64 x.merged, .int .i64 x.last] 28 _ HT.out.fst rfl rfl rfl Tryd.underlying28 rfl infoSeI ?_
  go_wp2_with fail
  refine (copiedSeat_any _ x F _ (HX.out.1.below HT.out.bel) HX.out.2).mono ?_
  rintro e w1 ⟨zv, G, rfl, ⟨p, n, k, rfl, rp, kp⟩, oz, bz⟩
  have HC1 : Hid (Two w #[.int .i64 x.epoch, .int .i64 x.granted, .slice b l c, .int .i64 x.merged, .int .i64 x.last] #[.int .i64 0, .int .i64 0, .slice none 0 0, .int .i64 0, .int .i64 0] 28 W0 ∧ RdP w1 p n x.taken G ∧ Capd p n k ∧ Own W0.heap.size w1 G ∧ Below W0.heap.size W0 w1) := ⟨HT.out, rp, kp, oz, bz⟩
  clear rp kp oz bz HT
  go_wp2_with (first | go_skip | (with_reducible refine stopLoad 28 rfl ?_) | (with_reducible refine stopStore 28 rfl ?_))
  refine store_fresh 28 w1.heap.size rfl #[.int .i64 0, .int .i64 0, .slice none 0 0, .int .i64 0, .int .i64 0] #[.int .i64 x.epoch, .int .i64 x.granted, .slice p n k, .int .i64 x.merged, .int .i64 x.last] 28 rfl rfl rfl rfl infoSeI rfl (by simp [Value.oneCell']) ?_
  intro w2 hg hb
  have H2 : Hid (SeW w #[.int .i64 x.epoch, .int .i64 x.granted, .slice b l c, .int .i64 x.merged, .int .i64 x.last] w1.heap.size x.epoch x.granted x.merged x.last x.taken p n k G w2) := SeW.start HC1.out.1 HC1.out.2.1 HC1.out.2.2.1 HC1.out.2.2.2.1 HC1.out.2.2.2.2 hg hb
  obtain ⟨L, hL⟩ : ∃ L, L = w1.heap.size := ⟨_, rfl⟩
  rw [← hL] at H2 ⊢
  clear hg hb hL HC1
  have HM : Hid (SeW w #[.int .i64 x.epoch, .int .i64 x.granted, .slice b l c, .int .i64 x.merged, .int .i64 x.last] L x.epoch x.granted x.merged x.last x.taken p n k G (w2.alloc (.cells #[.int .i64 0] 46)) ∧ Blk (w2.alloc (.cells #[.int .i64 0] 46)) w2.heap.size #[.int .i64 0] 46 ∧ ∀ b ∈ G, b < w2.heap.size) := ⟨H2.out.below ((Below.refl _ _).alloc (Nat.le_refl _) _), Blk.made _ _ _, H2.out.rp.lt⟩
  have HLM : Hid (L < w2.heap.size ∧ w.heap.size + 2 ≤ L) := ⟨H2.out.loc.lt, H2.out.gt⟩
  obtain ⟨M, hM⟩ : ∃ M, M = w2.heap.size := ⟨_, rfl⟩
  go_wp2_with (first | go_skip | (with_reducible refine stopLoad 28 rfl ?_) | (with_reducible refine stopStore 28 rfl ?_))
  obtain ⟨w3, hw3⟩ : ∃ W, W = w2.alloc (.cells #[.int .i64 0] 46) := ⟨_, rfl⟩
  rw [← hw3, ← hM] at HM
  rw [← hM] at HLM
  rw [← hw3]
  rw [← hM]
  clear hw3 hM H2
  refine load_known 28 w.heap.size #[.int .i64 x.epoch, .int .i64 x.granted, .slice b l c, .int .i64 x.merged, .int .i64 x.last] 28 _ HM.out.1.box rfl rfl rfl Tryd.underlying28 rfl infoSeI ?_
  go_wp2_with fail
  refine (mayTake_any _ x per ep sq F _ (HX.out.1.below HM.out.1.bel) HX.out.2).mono ?_
  rintro e w4 ⟨rfl, hb⟩
  have HM : Hid (SeW w #[.int .i64 x.epoch, .int .i64 x.granted, .slice b l c, .int .i64 x.merged, .int .i64 x.last] L x.epoch x.granted x.merged x.last x.taken p n k G w4 ∧ Blk w4 M #[.int .i64 0] 46 ∧ ∀ b ∈ G, b < M) := ⟨HM.out.1.below hb, HM.out.2.1.below hb, HM.out.2.2⟩
  obtain ⟨z, hz⟩ : ∃ z, z = x.data per ep sq := ⟨_, rfl⟩
  rw [← hz]
  have HZ : Hid (x.data per ep sq = z) := hz.symm
  clear hz hb
  obtain ⟨y, cd⟩ := z
  by_cases h0 : cd = 0
  rotate_left
  · have HY : Hid (y = x) := by
      have q := HZ.out
      show y = x
      unfold Se.data at q
      split at q
      · exact (Prod.mk.inj q).1.symm
      split at q
      · exact (Prod.mk.inj q).1.symm
      split at q
      · exact (Prod.mk.inj q).1.symm
      split at q
      · exact (Prod.mk.inj q).1.symm
      · exact absurd (Prod.mk.inj q).2.symm h0
    have he : errOf ((y, cd) : Se × Int).2 = .iface 46 (.agg #[.int .i64 cd]) := by unfold errOf; rw [if_neg h0]
    rw [he]
    clear he h0
    go_wp2_with fail
    refine (asHit_any cd 0 M _ HM.out.2.1 (HER.out.below HM.out.1.bel)).mono ?_
    rintro e w5 ⟨rfl, w6, hb, rfl⟩
    have hlm := HLM.out
    have HN : Hid (SeW w #[.int .i64 x.epoch, .int .i64 x.granted, .slice b l c, .int .i64 x.merged, .int .i64 x.last] L x.epoch x.granted x.merged x.last x.taken p n k G (w6.setRow M #[.int .i64 cd]) ∧ Blk (w6.setRow M #[.int .i64 cd]) M #[.int .i64 cd] 46) := ⟨(HM.out.1.below hb).row (by omega) (by omega) (fun hx => by have := HM.out.2.2 _ hx; omega) _, (HM.out.2.1.below hb).setRow⟩
    obtain ⟨w7, hw7⟩ : ∃ W, W = w6.setRow M #[.int .i64 cd] := ⟨_, rfl⟩
    rw [← hw7] at HN ⊢
    clear hw7 hb HM hlm
    go_wp2_with fail
    obtain ⟨Y0, hY0⟩ : ∃ W, W = w7.drew := ⟨_, rfl⟩
    have HN : Hid (SeW w #[.int .i64 x.epoch, .int .i64 x.granted, .slice b l c, .int .i64 x.merged, .int .i64 x.last] L x.epoch x.granted x.merged x.last x.taken p n k G Y0 ∧ Blk Y0 M #[.int .i64 cd] 46) := by rw [hY0]; exact ⟨HN.out.1.drew, HN.out.2.below (Below.refl _ _).drew⟩
    refine wp_region_held (S := fun W => Blk W L #[.int .i64 x.epoch, .int .i64 x.granted, .slice p n k, .int .i64 x.merged, .int .i64 x.last] 28 ∧ Blk W M #[.int .i64 cd] 46) (by kernel_rfl) ?_
    change wpAnyH _ _ _ _ _ _ _ _ (World.drew _)
    rw [← hY0]
    clear hY0
    refine takeH (o := ?o37) 0 (.agg #[.int .i64 x.epoch, .int .i64 x.granted, .slice p n k, .int .i64 x.merged, .int .i64 x.last]) ?h37 ?r37
    case h37 => simp only [aT, aZ]; rfl
    refine ⟨_, by simp [Act.put]; rfl, by kernel_rfl, by kernel_rfl, by kernel_rfl, fun _ _ _ h => h, (yields_whole 28 _ #[.int .i64 x.epoch, .int .i64 x.granted, .slice p n k, .int .i64 x.merged, .int .i64 x.last] 28 _ rfl rfl rfl Tryd.underlying28 rfl infoSeI (fun W hW => hW.1)), ⟨HN.out.1.loc, HN.out.2⟩, ?_⟩
    refine takeH (o := ?o38) 1 (.pointer (some ⟨M, 0, none⟩)) ?h38 ?r38
    case h38 => simp only [aT, aS, aZ]; rfl
    refine ⟨_, by simp [Act.put]; rfl, by kernel_rfl, by kernel_rfl, by kernel_rfl, fun _ _ _ h => h, (.inl ⟨rfl, fun W _ => by kernel_rfl⟩), ⟨HN.out.1.loc, HN.out.2⟩, ?_⟩
    refine takeH (o := ?o39) 2 (.int .i64 cd) ?h39 ?r39
    case h39 => simp only [aT, aS, aZ]; rfl
    refine ⟨_, by simp [Act.put]; rfl, by kernel_rfl, by kernel_rfl, by kernel_rfl, fun _ _ _ h => h, (.inl ⟨rfl, fun W hW => by have c := hW.2.cell 0; simp only [aT, aZ] at c; go_simp⟩), ⟨HN.out.1.loc, HN.out.2⟩, ?_⟩
    refine onlyH (o := ?o40) 3 (by kernel_rfl) ?h40 ?r40
    case h40 => simp only [aT, aS, aZ]; rfl
    intro K hK
    have hlm := HLM.out
    refine op_store 28 (w.heap.size + 1) #[.int .i64 0, .int .i64 0, .slice none 0 0, .int .i64 0, .int .i64 0] #[.int .i64 x.epoch, .int .i64 x.granted, .slice p n k, .int .i64 x.merged, .int .i64 x.last] 28 rfl rfl rfl rfl HN.out.1.res infoSeI rfl (by simp [Value.oneCell']) ⟨_, by simp [Act.put]; rfl, hK _ _ ⟨⟨HN.out.1.loc.setRowOther (by omega), HN.out.2.setRowOther (by omega)⟩, ?_⟩⟩
    clear hK
    refine takeH (o := ?o41) 4 (.int .i64 cd) ?h41 ?r41
    case h41 => simp only [aT, aS, aZ]; rfl
    refine ⟨_, by simp [Act.put]; rfl, by kernel_rfl, by kernel_rfl, by kernel_rfl, fun _ _ _ h => h, (.inl ⟨rfl, fun W _ => by kernel_rfl⟩), ⟨HN.out.1.loc.setRowOther (by omega), HN.out.2.setRowOther (by omega)⟩, ?_⟩
    refine wpAnyH_done (by kernel_rfl) ?_ _
    clear hlm
    go_wp2
    refine bodyPost_ret (results_row_tmp Tryd.results7 _ _ (w.heap.size + 1) _ _ _ _ rfl HN.out.1.res.setRow Tryd.underlying28 rfl infoSeI) rfl ?_
    rw [HZ.out, HY.out]
    exact ⟨_, G, rfl, HN.out.1.done.1, HN.out.1.done.2.1, HN.out.1.done.2.2⟩
  subst h0
  have HT : Hid ((x.ok per = true ∧ 1 ≤ sq ∧ sq ≤ 60) ∧ x.taken.has sq = false ∧ y = x.took sq) := by
    have q := HZ.out
    show _ ∧ _
    unfold Se.data at q
    split at q
    · exact absurd (Prod.mk.inj q).2 (by omega)
    split at q
    · exact absurd (Prod.mk.inj q).2 (by omega)
    split at q
    · exact absurd (Prod.mk.inj q).2 (by omega)
    split at q
    · exact absurd (Prod.mk.inj q).2 (by omega)
    · rename_i h1 h2 h3 h4
      exact ⟨Decidable.not_not.1 h1, by simpa using h3, (Prod.mk.inj q).1.symm⟩
  have he : errOf ((y, (0 : Int)) : Se × Int).2 = .nilIface := rfl
  rw [he]
  clear he
  go_wp2_with fail
  refine (asNil_any _ _).mono ?_
  rintro e w5 ⟨rfl, hq⟩
  have hq' := hq.symm
  subst hq'
  clear hq
  have c2 := HM.out.1.box.cell 2
  simp only [aT, aS, aZ] at c2
  go_wp2_with fail
  refine (setAddImpl_any b l c x.taken sq F _ (HP.out.1.below HM.out.1.bel) HP.out.2.1 HP.out.2.2.2.2).mono ?_
  rintro e w6 ⟨bq, nq, cq, Gq, rfl, r1, r2, r3, r4⟩
  have hlt := HM.out.1.loc.lt
  have hlg := HM.out.1.gt
  have HQ : Hid (RdP w6 bq nq (put x.taken (sq, sq) false) Gq ∧ Capd bq nq cq ∧ Own (w.heap.size + 2) w6 Gq ∧ L ∉ Gq) := ⟨by rw [← Se.took_eq (Se.right HT.out.1.1) HT.out.1.2 HT.out.2.1]; exact r1, r4, r2.mono (by omega), fun hx => by have := r2.ge _ hx; omega⟩
  have H6 : Hid (SeW w #[.int .i64 x.epoch, .int .i64 x.granted, .slice b l c, .int .i64 x.merged, .int .i64 x.last] L x.epoch x.granted x.merged x.last x.taken p n k G w6) := HM.out.1.below r3
  clear r1 r2 r3 r4 hlt hlg HM c2
  have c2 := H6.out.loc.cell 2
  have f2 := H6.out.loc.frozen 2
  simp only [aT, aS, aZ] at c2
  go_wp2_with (first | go_skip | (with_reducible refine stopLoad 28 rfl ?_) | (with_reducible refine stopStore 28 rfl ?_))
  have H7 : Hid (SeW w #[.int .i64 x.epoch, .int .i64 x.granted, .slice b l c, .int .i64 x.merged, .int .i64 x.last] L x.epoch x.granted x.merged x.last (put x.taken (sq, sq) false) bq nq cq Gq (w6.setCell ⟨L, 2, none⟩ (.slice bq nq cq))) := H6.out.put HQ.out.1 HQ.out.2.1 HQ.out.2.2.1 HQ.out.2.2.2
  obtain ⟨w7, hw7⟩ : ∃ W, W = w6.setCell ⟨L, 2, none⟩ (.slice bq nq cq) := ⟨_, rfl⟩
  rw [← hw7] at H7 ⊢
  clear hw7 c2 f2 H6 HQ
  refine load_known 28 L #[.int .i64 x.epoch, .int .i64 x.granted, .slice bq nq cq, .int .i64 x.merged, .int .i64 x.last] 28 _ H7.out.loc rfl rfl rfl Tryd.underlying28 rfl infoSeI ?_
  go_wp2_with (first | go_skip | (with_reducible refine stopLoad 28 rfl ?_) | (with_reducible refine stopStore 28 rfl ?_))
  refine store_known 28 (w.heap.size + 1) _ #[.int .i64 x.epoch, .int .i64 x.granted, .slice bq nq cq, .int .i64 x.merged, .int .i64 x.last] 28 H7.out.res rfl rfl rfl rfl infoSeI rfl (by simp [Value.oneCell']) ?_
  go_wp2
  refine bodyPost_ret (results_row_tmp Tryd.results7 _ _ (w.heap.size + 1) _ _ _ _ rfl H7.out.res.setRow Tryd.underlying28 rfl infoSeI) rfl ?_
  rw [HZ.out, HT.out.2.2]
  exact ⟨_, Gq, rfl, H7.out.done.1, H7.out.done.2.1, H7.out.done.2.2⟩
end Go.Proofs.YtgkbhhlkaifnoabDoor
