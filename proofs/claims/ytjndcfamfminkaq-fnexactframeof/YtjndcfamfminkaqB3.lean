/- Several texts of mine, laid together. No statement of the seat is proved here. -/
import Derived.Test.YtjndcfamfminkaqFrModel
import Derived.Test.YtjndcfamfminkaqB1
import Derived.Test.YtjndcfamfminkaqB2
import Derived.Laws.BytesArg
/- The walks through the program's itemSame, FrameSame, areSeqs, itemFits and FrameOk. No statement of the seat is proved here. -/
namespace Go.Proofs.Ytjndcfamfminkaq
open Go.RowKit
set_option maxRecDepth 200000 in
set_option maxHeartbeats 4000000 in
theorem itemSame_any (v u : Value) (x y : It) (F G : List Nat) (w : World) (h : RdIt w v x F) (k : RdIt w u y G) (hx : x.sk.wide) (hy : y.sk.wide) :
    Calls Try.prog 79 #[v, u] w fun e w' => e = .returned (.bool (decide (x = y))) ∧ Below w.heap.size w w' := by
  obtain ⟨a1, n1, nc1, a2, n2, nc2, a3, n3, nc3, rfl, sx⟩ := h
  obtain ⟨b1, m1, mc1, b2, m2, mc2, b3, m3, mc3, rfl, sy⟩ := k
  have HX : Hid (RdSk w (.agg #[.int .i64 x.sk.count, .int .i64 x.sk.sum, .int .i64 x.sk.min, .int .i64 x.sk.max, .slice a1 n1 nc1, .slice a2 n2 nc2, .slice a3 n3 nc3]) x.sk F ∧ RdSk w (.agg #[.int .i64 y.sk.count, .int .i64 y.sk.sum, .int .i64 y.sk.min, .int .i64 y.sk.max, .slice b1 m1 mc1, .slice b2 m2 mc2, .slice b3 m3 mc3]) y.sk G ∧ x.sk.wide ∧ y.sk.wide) := ⟨sx, sy, hx, hy⟩
  have HT : Hid (_ ∧ _ ∧ _) := two_made w #[.int .i64 x.seq, .int .i64 x.cls, .int .i64 x.key, .int .i64 x.window, .int .i64 x.sk.count, .int .i64 x.sk.sum, .int .i64 x.sk.min, .int .i64 x.sk.max, .slice a1 n1 nc1, .slice a2 n2 nc2, .slice a3 n3 nc3] #[.int .i64 y.seq, .int .i64 y.cls, .int .i64 y.key, .int .i64 y.window, .int .i64 y.sk.count, .int .i64 y.sk.sum, .int .i64 y.sk.min, .int .i64 y.sk.max, .slice b1 m1 mc1, .slice b2 m2 mc2, .slice b3 m3 mc3] 49 49
  obtain ⟨d, hd⟩ : ∃ d, d = decide (x = y) := ⟨_, rfl⟩
  rw [← hd]
  have HD : Hid (d = decide (x = y)) := hd
  clear sx sy hx hy hd
  have k0 := HT.out.1.cell 0
  have j0 := HT.out.2.1.cell 0
  have k1 := HT.out.1.cell 1
  have j1 := HT.out.2.1.cell 1
  have k2 := HT.out.1.cell 2
  have j2 := HT.out.2.1.cell 2
  have k3 := HT.out.1.cell 3
  have j3 := HT.out.2.1.cell 3
  simp only [aT, aS, aZ] at k0 j0 k1 j1 k2 j2 k3 j3
  by_cases c1 : x.seq = y.seq
  rotate_left
  · have HV : Hid (d = false) := by show d = _; rw [HD.out]; exact dec_false (fun e => c1 (by rw [e]))
    have z1 : (x.seq == y.seq) = false := by simpa using c1
    clear c1
    go_enter Try.func79, Try.ntmps79
    go_wp2
    go_ret
    exact ⟨ret_bool HV.out.symm, HT.out.2.2⟩
  have z1 : (x.seq == y.seq) = true := by simpa using c1
  by_cases c2 : x.cls = y.cls
  rotate_left
  · have HV : Hid (d = false) := by show d = _; rw [HD.out]; exact dec_false (fun e => c2 (by rw [e]))
    have z2 : (x.cls == y.cls) = false := by simpa using c2
    clear c1 c2
    go_enter Try.func79, Try.ntmps79
    go_wp2
    go_ret
    exact ⟨ret_bool HV.out.symm, HT.out.2.2⟩
  have z2 : (x.cls == y.cls) = true := by simpa using c2
  by_cases c3 : x.key = y.key
  rotate_left
  · have HV : Hid (d = false) := by show d = _; rw [HD.out]; exact dec_false (fun e => c3 (by rw [e]))
    have z3 : (x.key == y.key) = false := by simpa using c3
    clear c1 c2 c3
    go_enter Try.func79, Try.ntmps79
    go_wp2
    go_ret
    exact ⟨ret_bool HV.out.symm, HT.out.2.2⟩
  have z3 : (x.key == y.key) = true := by simpa using c3
  by_cases c4 : x.window = y.window
  rotate_left
  · have HV : Hid (d = false) := by show d = _; rw [HD.out]; exact dec_false (fun e => c4 (by rw [e]))
    have z4 : (x.window == y.window) = false := by simpa using c4
    clear c1 c2 c3 c4
    go_enter Try.func79, Try.ntmps79
    go_wp2
    go_ret
    exact ⟨ret_bool HV.out.symm, HT.out.2.2⟩
  have z4 : (x.window == y.window) = true := by simpa using c4
  have HC : Hid (x.seq = y.seq ∧ x.cls = y.cls ∧ x.key = y.key ∧ x.window = y.window) := ⟨c1, c2, c3, c4⟩
  clear c1 c2 c3 c4
  go_enter Try.func79, Try.ntmps79
  go_wp2_with (first | go_skip | (with_reducible refine stopLoad 29 rfl ?_))
  refine load_cutw 29 w.heap.size 4 7 _ #[.int .i64 x.sk.count, .int .i64 x.sk.sum, .int .i64 x.sk.min, .int .i64 x.sk.max, .slice a1 n1 nc1, .slice a2 n2 nc2, .slice a3 n3 nc3] 49 _ HT.out.1 rfl rfl rfl Try.underlying29 rfl infoSkI (by simp) rfl ?_
  go_wp2_with (first | go_skip | (with_reducible refine stopLoad 29 rfl ?_))
  refine load_cutw 29 (w.heap.size + 1) 4 7 _ #[.int .i64 y.sk.count, .int .i64 y.sk.sum, .int .i64 y.sk.min, .int .i64 y.sk.max, .slice b1 m1 mc1, .slice b2 m2 mc2, .slice b3 m3 mc3] 49 _ HT.out.2.1 rfl rfl rfl Try.underlying29 rfl infoSkI (by simp) rfl ?_
  go_wp2_with fail
  refine (sameImpl_any _ _ x.sk y.sk F G _ (HX.out.1.below HT.out.2.2) (HX.out.2.1.below HT.out.2.2) HX.out.2.2.1 HX.out.2.2.2).mono ?_
  rintro e w2 ⟨rfl, b2⟩
  have HB2 : Hid (Below w.heap.size w w2) := Below.next HT.out.2.2 b2
  clear b2
  obtain ⟨d2, hd2⟩ : ∃ d, d = decide (x.sk = y.sk) := ⟨_, rfl⟩
  rw [← hd2]
  have HV : Hid (d2 = d) := by
    show _ = _
    rw [hd2, HD.out]
    by_cases e : x.sk = y.sk
    · rw [dec_true e, dec_true (It.eq_of HC.out.1 HC.out.2.1 HC.out.2.2.1 HC.out.2.2.2 e)]
    · rw [dec_false e, dec_false (fun q => e (by rw [q]))]
  clear hd2
  go_wp2
  go_ret
  exact ⟨ret_bool HV.out, HB2.out⟩
set_option maxRecDepth 200000 in
set_option maxHeartbeats 4000000 in
theorem frameSameImpl_any (v u : Value) (x y : Fr) (F F' G G' : List Nat) (w : World) (h : RdFr w v x F F') (k : RdFr w u y G G') (hx : x.item.sk.wide) (hy : y.item.sk.wide) (hlx : x.taken.length ≤ 2097152) (hly : y.taken.length ≤ 2097152) :
    Calls Try.prog 32 #[v, u] w fun e w' => e = .returned (.bool (decide (x = y))) ∧ Below w.heap.size w w' := by
  obtain ⟨p, l, g, a1, n1, nc1, a2, n2, nc2, a3, n3, nc3, rfl, px, sx, _⟩ := h
  obtain ⟨q, k, j, b1, m1, mc1, b2, m2, mc2, b3, m3, mc3, rfl, py, sy, _⟩ := k
  have HX : Hid (RdIt w (.agg #[.int .i64 x.item.seq, .int .i64 x.item.cls, .int .i64 x.item.key, .int .i64 x.item.window, .int .i64 x.item.sk.count, .int .i64 x.item.sk.sum, .int .i64 x.item.sk.min, .int .i64 x.item.sk.max, .slice a1 n1 nc1, .slice a2 n2 nc2, .slice a3 n3 nc3]) x.item F' ∧ RdIt w (.agg #[.int .i64 y.item.seq, .int .i64 y.item.cls, .int .i64 y.item.key, .int .i64 y.item.window, .int .i64 y.item.sk.count, .int .i64 y.item.sk.sum, .int .i64 y.item.sk.min, .int .i64 y.item.sk.max, .slice b1 m1 mc1, .slice b2 m2 mc2, .slice b3 m3 mc3]) y.item G' ∧ x.item.sk.wide ∧ y.item.sk.wide) := ⟨sx, sy, hx, hy⟩
  have HP : Hid (RdP w p l x.taken F ∧ RdP w q k y.taken G ∧ l ≤ 2097152 ∧ k ≤ 2097152) := ⟨px, py, by rw [← px.length]; exact hlx, by rw [← py.length]; exact hly⟩
  have HT : Hid (_ ∧ _ ∧ _) := two_made w #[.int .i64 x.kind, .int .i64 x.agent, .int .i64 x.epoch, .int .i64 x.granted, .slice p l g, .int .i64 x.item.seq, .int .i64 x.item.cls, .int .i64 x.item.key, .int .i64 x.item.window, .int .i64 x.item.sk.count, .int .i64 x.item.sk.sum, .int .i64 x.item.sk.min, .int .i64 x.item.sk.max, .slice a1 n1 nc1, .slice a2 n2 nc2, .slice a3 n3 nc3] #[.int .i64 y.kind, .int .i64 y.agent, .int .i64 y.epoch, .int .i64 y.granted, .slice q k j, .int .i64 y.item.seq, .int .i64 y.item.cls, .int .i64 y.item.key, .int .i64 y.item.window, .int .i64 y.item.sk.count, .int .i64 y.item.sk.sum, .int .i64 y.item.sk.min, .int .i64 y.item.sk.max, .slice b1 m1 mc1, .slice b2 m2 mc2, .slice b3 m3 mc3] 51 51
  obtain ⟨d, hd⟩ : ∃ d, d = decide (x = y) := ⟨_, rfl⟩
  rw [← hd]
  have HD : Hid (d = decide (x = y)) := hd
  clear px py sx sy hx hy hlx hly hd
  have k0 := HT.out.1.cell 0
  have j0 := HT.out.2.1.cell 0
  have k1 := HT.out.1.cell 1
  have j1 := HT.out.2.1.cell 1
  have k2 := HT.out.1.cell 2
  have j2 := HT.out.2.1.cell 2
  have k3 := HT.out.1.cell 3
  have j3 := HT.out.2.1.cell 3
  have k4 := HT.out.1.cell 4
  have j4 := HT.out.2.1.cell 4
  simp only [aT, aS, aZ] at k0 j0 k1 j1 k2 j2 k3 j3 k4 j4
  by_cases c1 : x.kind = y.kind
  rotate_left
  · have HV : Hid (d = false) := by show d = _; rw [HD.out]; exact dec_false (fun e => c1 (by rw [e]))
    have z1 : (x.kind == y.kind) = false := by simpa using c1
    clear c1
    go_enter Try.func32, Try.ntmps32
    go_wp2
    go_ret
    exact ⟨ret_bool HV.out.symm, HT.out.2.2⟩
  have z1 : (x.kind == y.kind) = true := by simpa using c1
  by_cases c2 : x.agent = y.agent
  rotate_left
  · have HV : Hid (d = false) := by show d = _; rw [HD.out]; exact dec_false (fun e => c2 (by rw [e]))
    have z2 : (x.agent == y.agent) = false := by simpa using c2
    clear c1 c2
    go_enter Try.func32, Try.ntmps32
    go_wp2
    go_ret
    exact ⟨ret_bool HV.out.symm, HT.out.2.2⟩
  have z2 : (x.agent == y.agent) = true := by simpa using c2
  by_cases c3 : x.epoch = y.epoch
  rotate_left
  · have HV : Hid (d = false) := by show d = _; rw [HD.out]; exact dec_false (fun e => c3 (by rw [e]))
    have z3 : (x.epoch == y.epoch) = false := by simpa using c3
    clear c1 c2 c3
    go_enter Try.func32, Try.ntmps32
    go_wp2
    go_ret
    exact ⟨ret_bool HV.out.symm, HT.out.2.2⟩
  have z3 : (x.epoch == y.epoch) = true := by simpa using c3
  by_cases c4 : x.granted = y.granted
  rotate_left
  · have HV : Hid (d = false) := by show d = _; rw [HD.out]; exact dec_false (fun e => c4 (by rw [e]))
    have z4 : (x.granted == y.granted) = false := by simpa using c4
    clear c1 c2 c3 c4
    go_enter Try.func32, Try.ntmps32
    go_wp2
    go_ret
    exact ⟨ret_bool HV.out.symm, HT.out.2.2⟩
  have z4 : (x.granted == y.granted) = true := by simpa using c4
  have HC : Hid (x.kind = y.kind ∧ x.agent = y.agent ∧ x.epoch = y.epoch ∧ x.granted = y.granted) := ⟨c1, c2, c3, c4⟩
  clear c1 c2 c3 c4
  go_enter Try.func32, Try.ntmps32
  go_wp2_with fail
  refine (slEqualP_any p q l k g j x.taken y.taken F G _ (HP.out.1.below HT.out.2.2) (HP.out.2.1.below HT.out.2.2) (by have := HP.out.2.2; omega) (by have := HP.out.2.2; omega)).mono ?_
  rintro e w1 ⟨rfl, hq⟩
  have HB1 : Hid (Blk w1 w.heap.size #[.int .i64 x.kind, .int .i64 x.agent, .int .i64 x.epoch, .int .i64 x.granted, .slice p l g, .int .i64 x.item.seq, .int .i64 x.item.cls, .int .i64 x.item.key, .int .i64 x.item.window, .int .i64 x.item.sk.count, .int .i64 x.item.sk.sum, .int .i64 x.item.sk.min, .int .i64 x.item.sk.max, .slice a1 n1 nc1, .slice a2 n2 nc2, .slice a3 n3 nc3] 51 ∧ Blk w1 (w.heap.size + 1) #[.int .i64 y.kind, .int .i64 y.agent, .int .i64 y.epoch, .int .i64 y.granted, .slice q k j, .int .i64 y.item.seq, .int .i64 y.item.cls, .int .i64 y.item.key, .int .i64 y.item.window, .int .i64 y.item.sk.count, .int .i64 y.item.sk.sum, .int .i64 y.item.sk.min, .int .i64 y.item.sk.max, .slice b1 m1 mc1, .slice b2 m2 mc2, .slice b3 m3 mc3] 51 ∧ Below w.heap.size w w1) := ⟨HT.out.1.below (quiet_below hq), HT.out.2.1.below (quiet_below hq), Below.next HT.out.2.2 (quiet_below hq)⟩
  clear hq HT k0 k1 k2 k3 k4 j0 j1 j2 j3 j4 z1 z2 z3 z4
  by_cases c5 : x.taken = y.taken
  rotate_left
  · rw [dec_false c5]
    have HV : Hid (d = false) := by show d = _; rw [HD.out]; exact dec_false (fun e => c5 (by rw [e]))
    clear c5
    go_wp2
    go_ret
    exact ⟨ret_bool HV.out.symm, HB1.out.2.2⟩
  rw [dec_true c5]
  have HC5 : Hid (x.taken = y.taken) := c5
  clear c5
  go_wp2_with (first | go_skip | (with_reducible refine stopLoad 49 rfl ?_))
  refine load_cutw 49 w.heap.size 5 11 _ #[.int .i64 x.item.seq, .int .i64 x.item.cls, .int .i64 x.item.key, .int .i64 x.item.window, .int .i64 x.item.sk.count, .int .i64 x.item.sk.sum, .int .i64 x.item.sk.min, .int .i64 x.item.sk.max, .slice a1 n1 nc1, .slice a2 n2 nc2, .slice a3 n3 nc3] 51 _ HB1.out.1 rfl rfl rfl Try.underlying49 rfl infoItA7 (by simp) rfl ?_
  go_wp2_with (first | go_skip | (with_reducible refine stopLoad 49 rfl ?_))
  refine load_cutw 49 (w.heap.size + 1) 5 11 _ #[.int .i64 y.item.seq, .int .i64 y.item.cls, .int .i64 y.item.key, .int .i64 y.item.window, .int .i64 y.item.sk.count, .int .i64 y.item.sk.sum, .int .i64 y.item.sk.min, .int .i64 y.item.sk.max, .slice b1 m1 mc1, .slice b2 m2 mc2, .slice b3 m3 mc3] 51 _ HB1.out.2.1 rfl rfl rfl Try.underlying49 rfl infoItA7 (by simp) rfl ?_
  go_wp2_with fail
  refine (itemSame_any _ _ x.item y.item F' G' _ (HX.out.1.below HB1.out.2.2) (HX.out.2.1.below HB1.out.2.2) HX.out.2.2.1 HX.out.2.2.2).mono ?_
  rintro e w2 ⟨rfl, b2⟩
  have HB2 : Hid (Below w.heap.size w w2) := Below.next HB1.out.2.2 b2
  clear b2
  obtain ⟨d2, hd2⟩ : ∃ d, d = decide (x.item = y.item) := ⟨_, rfl⟩
  rw [← hd2]
  have HV : Hid (d2 = d) := by
    show _ = _
    rw [hd2, HD.out]
    by_cases e : x.item = y.item
    · rw [dec_true e, dec_true (Fr.eq_of HC.out.1 HC.out.2.1 HC.out.2.2.1 HC.out.2.2.2 HC5.out e)]
    · rw [dec_false e, dec_false (fun q => e (by rw [q]))]
  clear hd2
  go_wp2
  go_ret
  exact ⟨ret_bool HV.out, HB2.out⟩
set_option maxRecDepth 200000 in
set_option maxHeartbeats 2000000 in
theorem areSeqs_any (a : Option Addr) (len cap : Nat) (m : Int) (ps : Sp) (F : List Nat) (w : World) (h : RdP w a len ps F) (hlen : len ≤ 2097152) :
    Calls Try.prog 88 #[.slice a len cap, .int .i64 m] w fun e w' => e = .returned (.bool (ps.ok && ps.under m)) ∧ Below w.heap.size w w' := by
  have HL : Hid (ps.length = len ∧ RdP w a len ps F) := ⟨h.length, h⟩
  have HC : Hid (len = 0 ∨ ∃ b off, a = some ⟨b, off, none⟩ ∧ b < w.heap.size ∧ SpCells w b off len ps) := cells_of h
  clear h
  go_enter Try.func88, Try.ntmps88
  go_wp2
  go_loopw [9] (fun i wr => ∃ (k : Nat), k ≤ len ∧ i = .int .i64 k ∧ Hid (Below w.heap.size w wr) ∧ Hid (∀ j, j < k → 1 ≤ (ps.at j).1 ∧ (ps.at j).2 ≤ m)) (fun i _ => len - (intOf i).toNat)
  case atStart => exact ⟨0, by omega, rfl, Below.refl _ _, fun j hj => by omega⟩
  case round =>
    obtain ⟨k, hk, rfl, HB, HN⟩ := hrel
    by_cases hlt : k < len
    · have hca := HC.out
      rcases hca with h0 | ⟨b, off, rfl, hbw, hc⟩
      · omega
      obtain ⟨x, hx⟩ : ∃ x, x = (ps.at k).1 := ⟨_, rfl⟩
      obtain ⟨y, hy⟩ : ∃ x, x = (ps.at k).2 := ⟨_, rfl⟩
      have e := hc k hlt
      rw [← hx, ← hy] at e
      have d1 : wr.cell? ⟨b, off + k * 2, none⟩ = some (.int .i64 x) := (HB.out.cell (by exact hbw)).trans e.1
      have d2 : wr.cell? ⟨b, off + k * 2 + 1, none⟩ = some (.int .i64 y) := (HB.out.cell (by exact hbw)).trans e.2
      have HX : Hid (x = (ps.at k).1 ∧ y = (ps.at k).2 ∧ k < ps.length) := ⟨hx, hy, by rw [HL.out.1]; exact hlt⟩
      have HB2 : Hid (Below w.heap.size w (wr.alloc (.cells #[.int .i64 x, .int .i64 y] 103))) := Below.allocW _ HB.out (Nat.le_refl _)
      have hI : (k : Int) < (len : Int) := by omega
      clear e hx hy hc HB
      by_cases h1 : x < 1
      · have HV : Hid ((ps.ok && ps.under m) = false) := by
          show _ = _
          rw [Sp.under_not HX.out.2.2 (fun e => absurd e.1 (by rw [← HX.out.1]; omega)), Bool.and_false]
        go_wp2
        go_ret
        exact ⟨ret_bool HV.out.symm, HB2.out⟩
      by_cases h2 : m < y
      · have HV : Hid ((ps.ok && ps.under m) = false) := by
          show _ = _
          rw [Sp.under_not HX.out.2.2 (fun e => absurd e.2 (by rw [← HX.out.2.1]; omega)), Bool.and_false]
        go_wp2
        go_ret
        exact ⟨ret_bool HV.out.symm, HB2.out⟩
      have HN2 : Hid (∀ j, j < k + 1 → 1 ≤ (ps.at j).1 ∧ (ps.at j).2 ≤ m) := all_up HN.out ⟨by rw [← HX.out.1]; omega, by rw [← HX.out.2.1]; omega⟩
      go_wp2
      go_roundw
      case rel => exact ⟨k + 1, by omega, by go_num, HB2, HN2⟩
      case measure => simp [intOf]; omega
    · obtain rfl : k = len := by omega
      have HV : Hid (ps.under m = true) := Sp.under_all (fun j hj => HN.out j (by have := HL.out.1; omega))
      go_wp2_with fail
      refine (setOkImpl_any a k cap ps F _ (HL.out.2.below HB.out) hlen).mono ?_
      rintro e w2 ⟨rfl, hb2⟩
      have HB2 : Hid (Below w.heap.size w w2) := Below.next HB.out hb2
      clear hb2
      obtain ⟨d, hd⟩ : ∃ d, d = ps.ok := ⟨_, rfl⟩
      rw [← hd]
      have HD : Hid (d = ps.ok) := hd
      clear hd
      go_wp2
      go_ret
      rw [HV.out, Bool.and_true]
      exact ⟨ret_bool HD.out, HB2.out⟩
theorem infoFrF7 : (Try.prog.info? 51).map (·.size) = some 16 := by kernel_rfl
theorem rdIt_zero (w : World) : RdIt w (.agg #[.int .i64 0, .int .i64 0, .int .i64 0, .int .i64 0, .int .i64 0, .int .i64 0, .int .i64 0, .int .i64 0, .slice none 0 0, .slice none 0 0, .slice none 0 0]) It.zero [] := by
  refine ⟨none, 0, 0, none, 0, 0, none, 0, 0, rfl, ?_⟩
  exact ⟨none, 0, 0, none, 0, 0, none, 0, 0, [], [], [], rfl, ⟨rfl, .inl ⟨rfl, rfl⟩⟩, ⟨rfl, .inl ⟨rfl, rfl⟩⟩, ⟨rfl, .inl ⟨rfl, rfl⟩⟩, rfl⟩
theorem It.zero_wide : It.zero.sk.wide := ⟨by simp [It.zero, Sk.zero], by simp [It.zero, Sk.zero], by simp [It.zero, Sk.zero], by simp [It.zero, Sk.zero]⟩
set_option maxRecDepth 200000 in
set_option maxHeartbeats 2000000 in
theorem itemFits_any (v : Value) (x : Fr) (F G : List Nat) (w : World) (h : RdFr w v x F G) (hw : x.item.sk.wide) :
    Calls Try.prog 104 #[v] w fun e w' => e = .returned (.bool (if x.kind = 1 then x.item.ok else decide (x.item = It.zero))) ∧ Below w.heap.size w w' := by
  obtain ⟨b, l, c, a1, n1, c1, a2, n2, c2, a3, n3, c3, rfl, _, hr, _⟩ := h
  have HR : Hid (RdIt w (.agg #[.int .i64 x.item.seq, .int .i64 x.item.cls, .int .i64 x.item.key, .int .i64 x.item.window, .int .i64 x.item.sk.count, .int .i64 x.item.sk.sum, .int .i64 x.item.sk.min, .int .i64 x.item.sk.max, .slice a1 n1 c1, .slice a2 n2 c2, .slice a3 n3 c3]) x.item G ∧ x.item.sk.wide) := ⟨hr, hw⟩
  have HB : Hid (Below w.heap.size w (w.alloc (.cells #[.int .i64 x.kind, .int .i64 x.agent, .int .i64 x.epoch, .int .i64 x.granted, .slice b l c, .int .i64 x.item.seq, .int .i64 x.item.cls, .int .i64 x.item.key, .int .i64 x.item.window, .int .i64 x.item.sk.count, .int .i64 x.item.sk.sum, .int .i64 x.item.sk.min, .int .i64 x.item.sk.max, .slice a1 n1 c1, .slice a2 n2 c2, .slice a3 n3 c3] 51)) ∧ Blk (w.alloc (.cells #[.int .i64 x.kind, .int .i64 x.agent, .int .i64 x.epoch, .int .i64 x.granted, .slice b l c, .int .i64 x.item.seq, .int .i64 x.item.cls, .int .i64 x.item.key, .int .i64 x.item.window, .int .i64 x.item.sk.count, .int .i64 x.item.sk.sum, .int .i64 x.item.sk.min, .int .i64 x.item.sk.max, .slice a1 n1 c1, .slice a2 n2 c2, .slice a3 n3 c3] 51)) w.heap.size #[.int .i64 x.kind, .int .i64 x.agent, .int .i64 x.epoch, .int .i64 x.granted, .slice b l c, .int .i64 x.item.seq, .int .i64 x.item.cls, .int .i64 x.item.key, .int .i64 x.item.window, .int .i64 x.item.sk.count, .int .i64 x.item.sk.sum, .int .i64 x.item.sk.min, .int .i64 x.item.sk.max, .slice a1 n1 c1, .slice a2 n2 c2, .slice a3 n3 c3] 51) := ⟨Below.allocW _ (Below.refl _ _) (Nat.le_refl _), Blk.made _ _ _⟩
  have k0 := HB.out.2.cell 0
  simp only [aT, aZ] at k0
  clear hr hw
  obtain ⟨z, hz⟩ : ∃ z, z = (if x.kind = 1 then x.item.ok else decide (x.item = It.zero)) := ⟨_, rfl⟩
  rw [← hz]
  by_cases h1 : x.kind = 1
  · have e1 : (x.kind == 1) = true := by simpa using h1
    have HV : Hid (z = x.item.ok) := hz.trans (if_pos h1)
    clear hz
    clear h1
    go_enter Try.func104, Try.ntmps104
    go_wp2_with (first | go_skip | (with_reducible refine stopLoad 49 rfl ?_))
    refine load_cut 49 w.heap.size 5 11 _ #[.int .i64 x.item.seq, .int .i64 x.item.cls, .int .i64 x.item.key, .int .i64 x.item.window, .int .i64 x.item.sk.count, .int .i64 x.item.sk.sum, .int .i64 x.item.sk.min, .int .i64 x.item.sk.max, .slice a1 n1 c1, .slice a2 n2 c2, .slice a3 n3 c3] 51 _ HB.out.2 rfl rfl rfl Try.underlying49 rfl infoItA7 (by simp) rfl ?_
    go_wp2_with fail
    refine (itemOkImpl_any _ x.item G _ (HR.out.1.below HB.out.1) HR.out.2).mono ?_
    rintro e w3 ⟨rfl, hb3⟩
    have HB3 : Hid (Below w.heap.size w w3) := Below.next HB.out.1 hb3
    clear hb3
    obtain ⟨d, hd⟩ : ∃ d, d = x.item.ok := ⟨_, rfl⟩
    rw [← hd] at HV ⊢
    clear hd
    go_wp2
    go_ret
    exact ⟨ret_bool HV.out.symm, HB3.out⟩
  · have e1 : (x.kind == 1) = false := by simpa using h1
    have HV : Hid (z = decide (x.item = It.zero)) := hz.trans (if_neg h1)
    clear hz
    clear h1
    go_enter Try.func104, Try.ntmps104
    go_wp2_with (first | go_skip | (with_reducible refine stopLoad 49 rfl ?_))
    refine load_cut 49 w.heap.size 5 11 _ #[.int .i64 x.item.seq, .int .i64 x.item.cls, .int .i64 x.item.key, .int .i64 x.item.window, .int .i64 x.item.sk.count, .int .i64 x.item.sk.sum, .int .i64 x.item.sk.min, .int .i64 x.item.sk.max, .slice a1 n1 c1, .slice a2 n2 c2, .slice a3 n3 c3] 51 _ HB.out.2 rfl rfl rfl Try.underlying49 rfl infoItA7 (by simp) rfl ?_
    go_wp2_with fail
    refine (itemSame_any _ _ x.item It.zero G [] _ (HR.out.1.below HB.out.1) (rdIt_zero _) HR.out.2 It.zero_wide).mono ?_
    rintro e w3 ⟨rfl, hb3⟩
    have HB3 : Hid (Below w.heap.size w w3) := Below.next HB.out.1 hb3
    clear hb3
    obtain ⟨d, hd⟩ : ∃ d, d = decide (x.item = It.zero) := ⟨_, rfl⟩
    rw [← hd] at HV ⊢
    clear hd
    go_wp2
    go_ret
    exact ⟨ret_bool HV.out.symm, HB3.out⟩
set_option maxRecDepth 200000 in
set_option maxHeartbeats 4000000 in
theorem frameOkImpl_any (v : Value) (x : Fr) (F G : List Nat) (w : World) (h : RdFr w v x F G) (hw : x.item.sk.wide) (hl : x.taken.length ≤ 2097152) :
    Calls Try.prog 64 #[v] w fun e w' => e = .returned (.bool x.ok) ∧ Below w.heap.size w w' := by
  have HH : Hid (RdFr w v x F G ∧ x.item.sk.wide) := ⟨h, hw⟩
  obtain ⟨b, l, c, a1, n1, c1, a2, n2, c2, a3, n3, c3, rfl, hp, hr, _⟩ := h
  have HP : Hid (RdP w b l x.taken F ∧ l ≤ 2097152 ∧ x.taken.length = l) := ⟨hp, by rw [← hp.length]; exact hl, hp.length⟩
  have HB : Hid (Below w.heap.size w (w.alloc (.cells #[.int .i64 x.kind, .int .i64 x.agent, .int .i64 x.epoch, .int .i64 x.granted, .slice b l c, .int .i64 x.item.seq, .int .i64 x.item.cls, .int .i64 x.item.key, .int .i64 x.item.window, .int .i64 x.item.sk.count, .int .i64 x.item.sk.sum, .int .i64 x.item.sk.min, .int .i64 x.item.sk.max, .slice a1 n1 c1, .slice a2 n2 c2, .slice a3 n3 c3] 51)) ∧ Blk (w.alloc (.cells #[.int .i64 x.kind, .int .i64 x.agent, .int .i64 x.epoch, .int .i64 x.granted, .slice b l c, .int .i64 x.item.seq, .int .i64 x.item.cls, .int .i64 x.item.key, .int .i64 x.item.window, .int .i64 x.item.sk.count, .int .i64 x.item.sk.sum, .int .i64 x.item.sk.min, .int .i64 x.item.sk.max, .slice a1 n1 c1, .slice a2 n2 c2, .slice a3 n3 c3] 51)) w.heap.size #[.int .i64 x.kind, .int .i64 x.agent, .int .i64 x.epoch, .int .i64 x.granted, .slice b l c, .int .i64 x.item.seq, .int .i64 x.item.cls, .int .i64 x.item.key, .int .i64 x.item.window, .int .i64 x.item.sk.count, .int .i64 x.item.sk.sum, .int .i64 x.item.sk.min, .int .i64 x.item.sk.max, .slice a1 n1 c1, .slice a2 n2 c2, .slice a3 n3 c3] 51) := ⟨Below.allocW _ (Below.refl _ _) (Nat.le_refl _), Blk.made _ _ _⟩
  clear hr hw hp hl
  go_enter Try.func64, Try.ntmps64
  go_wp2_with fail
  refine (inRange_any _ _ _).mono ?_
  rintro e w2 ⟨rfl, hw2⟩
  have hw2' := hw2.symm
  subst hw2'
  clear hw2
  obtain ⟨d1, hd1⟩ : ∃ d, d = decide (0 ≤ x.kind ∧ x.kind ≤ 3) := ⟨_, rfl⟩
  rw [← hd1]
  have HD1 : Hid (d1 = decide (0 ≤ x.kind ∧ x.kind ≤ 3)) := hd1
  clear hd1
  cases d1
  · have HV : Hid (x.ok = false) := by show _ = _; unfold Fr.ok; rw [← HD1.out]; rfl
    go_wp2
    go_ret
    exact ⟨ret_bool HV.out.symm, HB.out.1⟩
  go_wp2_with fail
  refine (inRange_any _ _ _).mono ?_
  rintro e w2 ⟨rfl, hw2⟩
  have hw2' := hw2.symm
  subst hw2'
  clear hw2
  obtain ⟨d2, hd2⟩ : ∃ d, d = decide (0 ≤ x.agent ∧ x.agent ≤ 2) := ⟨_, rfl⟩
  rw [← hd2]
  have HD2 : Hid (d2 = decide (0 ≤ x.agent ∧ x.agent ≤ 2)) := hd2
  clear hd2
  cases d2
  · have HV : Hid (x.ok = false) := by show _ = _; unfold Fr.ok; rw [← HD1.out, ← HD2.out]; rfl
    go_wp2
    go_ret
    exact ⟨ret_bool HV.out.symm, HB.out.1⟩
  go_wp2_with fail
  refine (inRange_any _ _ _).mono ?_
  rintro e w2 ⟨rfl, hw2⟩
  have hw2' := hw2.symm
  subst hw2'
  clear hw2
  obtain ⟨d3, hd3⟩ : ∃ d, d = decide (0 ≤ x.epoch ∧ x.epoch ≤ 1000) := ⟨_, rfl⟩
  rw [← hd3]
  have HD3 : Hid (d3 = decide (0 ≤ x.epoch ∧ x.epoch ≤ 1000)) := hd3
  clear hd3
  cases d3
  · have HV : Hid (x.ok = false) := by show _ = _; unfold Fr.ok; rw [← HD1.out, ← HD2.out, ← HD3.out]; rfl
    go_wp2
    go_ret
    exact ⟨ret_bool HV.out.symm, HB.out.1⟩
  go_wp2_with fail
  refine (inRange_any _ _ _).mono ?_
  rintro e w2 ⟨rfl, hw2⟩
  have hw2' := hw2.symm
  subst hw2'
  clear hw2
  obtain ⟨d4, hd4⟩ : ∃ d, d = decide (0 ≤ x.granted ∧ x.granted ≤ 60) := ⟨_, rfl⟩
  rw [← hd4]
  have HD4 : Hid (d4 = decide (0 ≤ x.granted ∧ x.granted ≤ 60)) := hd4
  clear hd4
  cases d4
  · have HV : Hid (x.ok = false) := by show _ = _; unfold Fr.ok; rw [← HD1.out, ← HD2.out, ← HD3.out, ← HD4.out]; rfl
    go_wp2
    go_ret
    exact ⟨ret_bool HV.out.symm, HB.out.1⟩
  go_wp2_with fail
  refine (areSeqs_any b l c 60 x.taken F _ (HP.out.1.below HB.out.1) HP.out.2.1).mono ?_
  rintro e w2 ⟨rfl, hb2⟩
  have HB2 : Hid (Below w.heap.size w w2 ∧ Blk w2 w.heap.size #[.int .i64 x.kind, .int .i64 x.agent, .int .i64 x.epoch, .int .i64 x.granted, .slice b l c, .int .i64 x.item.seq, .int .i64 x.item.cls, .int .i64 x.item.key, .int .i64 x.item.window, .int .i64 x.item.sk.count, .int .i64 x.item.sk.sum, .int .i64 x.item.sk.min, .int .i64 x.item.sk.max, .slice a1 n1 c1, .slice a2 n2 c2, .slice a3 n3 c3] 51) := ⟨Below.next HB.out.1 hb2, HB.out.2.below hb2⟩
  clear hb2
  obtain ⟨d5, hd5⟩ : ∃ d, d = (x.taken.ok && x.taken.under 60) := ⟨_, rfl⟩
  rw [← hd5]
  have HD5 : Hid (d5 = (x.taken.ok && x.taken.taken)) := hd5
  clear hd5
  cases d5
  · have HV : Hid (x.ok = false) := by
      show _ = _
      unfold Fr.ok
      rw [Bool.and_assoc _ x.taken.ok x.taken.taken, ← HD1.out, ← HD2.out, ← HD3.out, ← HD4.out, ← HD5.out]; rfl
    go_wp2
    go_ret
    exact ⟨ret_bool HV.out.symm, HB2.out.1⟩
  have HV : Hid (x.ok = (if x.kind = 1 then x.item.ok else decide (x.item = It.zero))) := by
    show _ = _
    unfold Fr.ok
    rw [Bool.and_assoc _ x.taken.ok x.taken.taken, ← HD1.out, ← HD2.out, ← HD3.out, ← HD4.out, ← HD5.out]; rfl
  go_wp2_with (first | go_skip | (with_reducible refine stopLoad 51 rfl ?_))
  refine load_cutw 51 w.heap.size 0 16 _ #[.int .i64 x.kind, .int .i64 x.agent, .int .i64 x.epoch, .int .i64 x.granted, .slice b l c, .int .i64 x.item.seq, .int .i64 x.item.cls, .int .i64 x.item.key, .int .i64 x.item.window, .int .i64 x.item.sk.count, .int .i64 x.item.sk.sum, .int .i64 x.item.sk.min, .int .i64 x.item.sk.max, .slice a1 n1 c1, .slice a2 n2 c2, .slice a3 n3 c3] 51 _ HB2.out.2 rfl rfl rfl Try.underlying51 rfl infoFrF7 (by simp) rfl ?_
  go_wp2_with fail
  refine (itemFits_any _ x F G _ (HH.out.1.below HB2.out.1) HH.out.2).mono ?_
  rintro e w3 ⟨rfl, hb3⟩
  have HB3 : Hid (Below w.heap.size w w3) := Below.next HB2.out.1 hb3
  clear hb3
  obtain ⟨d, hd⟩ : ∃ d, d = (if x.kind = 1 then x.item.ok else decide (x.item = It.zero)) := ⟨_, rfl⟩
  rw [← hd] at HV ⊢
  clear hd
  go_wp2
  go_ret
  exact ⟨ret_bool HV.out.symm, HB3.out⟩
end Go.Proofs.Ytjndcfamfminkaq
/- The walks through the program's SketchBytes, numbersOfItem, crcBytes. No statement of the seat is proved here. -/
namespace Go.Proofs.Ytjndcfamfminkaq
open Go.RowKit
theorem tl_nums {s : Sk} (h : s.lens7) : s.tl = s.nums := by
  unfold Sk.tl Sk.nums
  conv => rhs; rw [two_rows7 h.rows]
  simp
theorem ok_shaped {s : Sk} (h : s.ok = true) : s.shaped = true := by
  have l := (Sk.ok_lens h).1
  cases q : s.shaped
  · have e : okT s s.tl = false := by unfold okT; rw [q]; rfl
    rw [okT_ok (fun _ => rfl), h] at e
    cases e
  · rfl
set_option maxRecDepth 100000 in
set_option maxHeartbeats 4000000 in
theorem sketchBytesImpl_any (v : Value) (s : Sk) (F : List Nat) (w : World) (h : RdSk w v s F) (hw : s.wide) :
    Calls Try.prog 12 #[v] w fun e w' => ∃ u, e = .returned u ∧ w'.ownsRow w.heap.size 5 1 u s.bytes.length (s.bytes.map (Value.int .u8)) ∧ Below w.heap.size w w' := by
  obtain ⟨cs, rfl, hc7⟩ : ∃ cs, v = .agg cs ∧ cs.size = 7 := by
    obtain ⟨a1, n1, c1, a2, n2, c2, a3, n3, c3, F1, F2, F3, rfl, _⟩ := h
    exact ⟨_, rfl, rfl⟩
  have HH : Hid (RdSk w (.agg cs) s F ∧ s.wide) := ⟨h, hw⟩
  have HT : Hid (Blk (w.alloc (.cells cs 29)) w.heap.size cs 29 ∧ Below w.heap.size w (w.alloc (.cells cs 29))) := ⟨Blk.made _ _ _, (Below.refl _ _).alloc (Nat.le_refl _) _⟩
  have hsz : (Try.prog.info? 29).map (·.size) = some cs.size := by rw [hc7]; exact infoSkI
  clear h hw
  go_enter Try.func12, Try.ntmps12
  go_wp2_with (first | go_skip | (with_reducible refine stopLoad 29 rfl ?_))
  refine load_known 29 w.heap.size cs 29 _ HT.out.1 rfl rfl rfl Try.underlying29 rfl hsz ?_
  go_wp2_with fail
  refine (okTally_any _ s F _ (HH.out.1.below HT.out.2) HH.out.2).mono ?_
  rintro e w1 ⟨xs, ys, rfl, _, hy, hx, hxy, hb1⟩
  obtain ⟨d, hd⟩ : ∃ d, d = okT s xs := ⟨_, rfl⟩
  have HB : Hid (ys.length = 28 ∧ d = s.ok ∧ (s.ok = true → ys = s.nums) ∧ Below w.heap.size w w1) := ⟨hy, hd.trans (okT_ok hx), fun e => by rw [hxy (by rw [okT_ok hx]; exact e), hx (ok_shaped e), tl_nums (Sk.ok_lens e).1], Below.next HT.out.2 hb1⟩
  rw [← hd]
  clear hb1 hy hx hxy hd HT hsz
  go_wp2_with (with_reducible refine stopStore 81 rfl ?_)
  refine store_fresh 81 w1.heap.size rfl (tc (List.replicate 28 0)) (tc ys) 81 rfl rfl rfl rfl (tallySize HB.out.1) (by rw [tc_size, tc_size, HB.out.1]; rfl) (tc_one _) ?_
  intro W2 hg2 hb2
  have HB2 : Hid (Blk W2 w1.heap.size (tc ys) 81 ∧ Below w.heap.size w W2) := ⟨hg2, Below.next HB.out.2.2.2 hb2⟩
  clear hb2 hg2
  cases d
  · have HV : Hid (s.bytes = []) := by show _ = _; unfold Sk.bytes; rw [← HB.out.2.1]; rfl
    go_wp2
    go_ret
    rw [HV.out]
    exact ⟨_, rfl, World.ownsRow_nil _ _ _ _, HB2.out.2⟩
  have HV : Hid (s.bytes = putAll ys ∧ ∀ x ∈ ys, InN x) := by
    have e := HB.out.2.1.symm
    rw [HB.out.2.2.1 e]
    exact ⟨Sk.bytes_ok e, (Sk.ok_lens e).2⟩
  go_wp2_with (first | go_skip | (with_reducible refine stopLoad 81 rfl ?_))
  refine load_part 81 w1.heap.size 0 28 ys 81 _ HB2.out.1 rfl rfl rfl Try.underlying81 rfl infoTally (by rw [HB.out.1]; omega) ?_
  rw [List.drop_zero, List.take_of_length_le (Nat.le_of_eq HB.out.1)]
  go_wp2_with fail
  refine (numbers_any ys _ HB.out.1).mono ?_
  rintro e w3 ⟨u, rfl, hown, hb3⟩
  obtain ⟨a, cap, G, rfl, hr, _⟩ := rdI_of_own hown
  have HR3 : Hid (RdI w3 a ys.length ys G ∧ Below w.heap.size w w3) := ⟨hr, Below.next HB2.out.2 hb3⟩
  clear hown hb3 hr
  rw [HB.out.1] at HR3 ⊢
  go_wp2_with fail
  refine (bytesOfNumbers_any a 28 cap ys G _ HR3.out.1 HV.out.2 (by omega)).mono ?_
  rintro e w4 ⟨u4, rfl, hown, hb4⟩
  have h4 : w4.ownsRow w.heap.size 5 1 u4 s.bytes.length (s.bytes.map (Value.int .u8)) := by
    rw [HV.out.1]
    exact own_mono7 hown HR3.out.2.size
  have HR4 : Hid (w4.ownsRow w.heap.size 5 1 u4 s.bytes.length (s.bytes.map (Value.int .u8)) ∧ Below w.heap.size w w4) := ⟨h4, Below.next HR3.out.2 hb4⟩
  clear hown hb4 h4
  go_wp2
  go_ret
  exact ⟨_, rfl, HR4.out⟩
def ItHeld (g : Nat) (cs : Array Value) (k : Nat) (ys : List Int) (W : World) : Prop := Blk W g cs 49 ∧ Blk W k (tc ys) 81
set_option maxRecDepth 200000 in
set_option maxHeartbeats 4000000 in
theorem numbersOfItem_any (v : Value) (x : It) (F : List Nat) (w : World) (h : RdIt w v x F) (hok : x.sk.ok = true) (hw : x.sk.wide) :
    Calls Try.prog 105 #[v] w fun e w' => ∃ u, e = .returned u ∧ w'.ownsRow w.heap.size 3 1 u 32 (([x.seq, x.cls, x.key, x.window] ++ x.sk.nums).map (Value.int .i64)) ∧ Below w.heap.size w w' := by
  obtain ⟨i0, hi, hz0, hz1, hz2⟩ := info_parts infoInt
  obtain ⟨a1, n1, c1, a2, n2, c2, a3, n3, c3, rfl, hr⟩ := h
  have HR : Hid (RdSk w (.agg #[.int .i64 x.sk.count, .int .i64 x.sk.sum, .int .i64 x.sk.min, .int .i64 x.sk.max, .slice a1 n1 c1, .slice a2 n2 c2, .slice a3 n3 c3]) x.sk F ∧ x.sk.wide ∧ x.sk.ok = true) := ⟨hr, hw, hok⟩
  have HT : Hid (Blk (w.alloc (.cells #[.int .i64 x.seq, .int .i64 x.cls, .int .i64 x.key, .int .i64 x.window, .int .i64 x.sk.count, .int .i64 x.sk.sum, .int .i64 x.sk.min, .int .i64 x.sk.max, .slice a1 n1 c1, .slice a2 n2 c2, .slice a3 n3 c3] 49)) w.heap.size #[.int .i64 x.seq, .int .i64 x.cls, .int .i64 x.key, .int .i64 x.window, .int .i64 x.sk.count, .int .i64 x.sk.sum, .int .i64 x.sk.min, .int .i64 x.sk.max, .slice a1 n1 c1, .slice a2 n2 c2, .slice a3 n3 c3] 49 ∧ Below w.heap.size w (w.alloc (.cells #[.int .i64 x.seq, .int .i64 x.cls, .int .i64 x.key, .int .i64 x.window, .int .i64 x.sk.count, .int .i64 x.sk.sum, .int .i64 x.sk.min, .int .i64 x.sk.max, .slice a1 n1 c1, .slice a2 n2 c2, .slice a3 n3 c3] 49))) := ⟨Blk.made _ _ _, (Below.refl _ _).alloc (Nat.le_refl _) _⟩
  clear hr hw hok
  go_enter Try.func105, Try.ntmps105
  go_wp2_with (first | go_skip | (with_reducible refine stopLoad 29 rfl ?_))
  refine load_cut 29 w.heap.size 4 7 _ #[.int .i64 x.sk.count, .int .i64 x.sk.sum, .int .i64 x.sk.min, .int .i64 x.sk.max, .slice a1 n1 c1, .slice a2 n2 c2, .slice a3 n3 c3] 49 _ HT.out.1 rfl rfl rfl Try.underlying29 rfl infoSkI (by simp) rfl ?_
  go_wp2_with fail
  refine (okTally_any _ x.sk F _ (HR.out.1.below HT.out.2) HR.out.2.1).mono ?_
  rintro e w1 ⟨xs, ys, rfl, _, hy, hx, hxy, hb1⟩
  obtain ⟨d, hd⟩ : ∃ d, d = okT x.sk xs := ⟨_, rfl⟩
  have HB : Hid (ys.length = 28 ∧ ys = x.sk.nums ∧ Below w.heap.size w w1 ∧ Blk w1 w.heap.size #[.int .i64 x.seq, .int .i64 x.cls, .int .i64 x.key, .int .i64 x.window, .int .i64 x.sk.count, .int .i64 x.sk.sum, .int .i64 x.sk.min, .int .i64 x.sk.max, .slice a1 n1 c1, .slice a2 n2 c2, .slice a3 n3 c3] 49) := ⟨hy, by rw [hxy (by rw [okT_ok hx]; exact HR.out.2.2), hx (ok_shaped HR.out.2.2), tl_nums (Sk.ok_lens HR.out.2.2).1], Below.next HT.out.2 hb1, HT.out.1.below hb1⟩
  rw [← hd]
  clear hb1 hy hx hxy hd HT
  go_wp2_with (with_reducible refine stopStore 81 rfl ?_)
  refine store_fresh 81 w1.heap.size rfl (tc (List.replicate 28 0)) (tc ys) 81 rfl rfl rfl rfl (tallySize HB.out.1) (by rw [tc_size, tc_size, HB.out.1]; rfl) (tc_one _) ?_
  intro W2 hg2 hb2
  have HB2 : Hid (ItHeld w.heap.size #[.int .i64 x.seq, .int .i64 x.cls, .int .i64 x.key, .int .i64 x.window, .int .i64 x.sk.count, .int .i64 x.sk.sum, .int .i64 x.sk.min, .int .i64 x.sk.max, .slice a1 n1 c1, .slice a2 n2 c2, .slice a3 n3 c3] w1.heap.size ys W2.drew ∧ Below w.heap.size w W2.drew) := ⟨⟨(HB.out.2.2.2.below hb2).drew, hg2.drew⟩, (Below.next HB.out.2.2.1 hb2).drew⟩
  clear hb2 hg2
  go_wp2
  refine wp_region_held (S := ItHeld w.heap.size #[.int .i64 x.seq, .int .i64 x.cls, .int .i64 x.key, .int .i64 x.window, .int .i64 x.sk.count, .int .i64 x.sk.sum, .int .i64 x.sk.min, .int .i64 x.sk.max, .slice a1 n1 c1, .slice a2 n2 c2, .slice a3 n3 c3] w1.heap.size ys) (by kernel_rfl) ?_
  change wpAnyH _ _ _ _ _ _ _ _ (World.drew _)
  refine takeH (o := ?o1) 0 (.pointer (some ⟨w.heap.size, 0, none⟩)) ?h1 ?r1
  case h1 => simp only [aT, aZ]; rfl
  refine ⟨_, by simp [Act.put]; rfl, by kernel_rfl, by kernel_rfl, by kernel_rfl, fun _ _ _ h => h, (.inl ⟨rfl, fun W _ => by go_simp⟩), HB2.out.1, ?_⟩
  refine takeH (o := ?o2) 1 (.int .i64 x.seq) ?h2 ?r2
  case h2 => simp only [aT, aS, aZ]; rfl
  refine ⟨_, by simp [Act.put]; rfl, by kernel_rfl, by kernel_rfl, by kernel_rfl, fun _ _ _ h => h, (.inl ⟨rfl, fun W hW => by have c := hW.1.cell 0; simp only [aT, aZ] at c; go_simp⟩), HB2.out.1, ?_⟩
  refine takeH (o := ?o3) 2 (.pointer (some ⟨w.heap.size, 1, none⟩)) ?h3 ?r3
  case h3 => simp only [aT, aS, aZ]; rfl
  refine ⟨_, by simp [Act.put]; rfl, by kernel_rfl, by kernel_rfl, by kernel_rfl, fun _ _ _ h => h, (.inl ⟨rfl, fun W _ => by go_simp⟩), HB2.out.1, ?_⟩
  refine takeH (o := ?o4) 3 (.int .i64 x.cls) ?h4 ?r4
  case h4 => simp only [aT, aS, aZ]; rfl
  refine ⟨_, by simp [Act.put]; rfl, by kernel_rfl, by kernel_rfl, by kernel_rfl, fun _ _ _ h => h, (.inl ⟨rfl, fun W hW => by have c := hW.1.cell 1; simp only [aT, aS, aZ] at c; go_simp⟩), HB2.out.1, ?_⟩
  refine takeH (o := ?o5) 4 (.pointer (some ⟨w.heap.size, 2, none⟩)) ?h5 ?r5
  case h5 => simp only [aT, aS, aZ]; rfl
  refine ⟨_, by simp [Act.put]; rfl, by kernel_rfl, by kernel_rfl, by kernel_rfl, fun _ _ _ h => h, (.inl ⟨rfl, fun W _ => by go_simp⟩), HB2.out.1, ?_⟩
  refine takeH (o := ?o6) 5 (.int .i64 x.key) ?h6 ?r6
  case h6 => simp only [aT, aS, aZ]; rfl
  refine ⟨_, by simp [Act.put]; rfl, by kernel_rfl, by kernel_rfl, by kernel_rfl, fun _ _ _ h => h, (.inl ⟨rfl, fun W hW => by have c := hW.1.cell 2; simp only [aT, aS, aZ] at c; go_simp⟩), HB2.out.1, ?_⟩
  refine takeH (o := ?o7) 6 (.pointer (some ⟨w.heap.size, 3, none⟩)) ?h7 ?r7
  case h7 => simp only [aT, aS, aZ]; rfl
  refine ⟨_, by simp [Act.put]; rfl, by kernel_rfl, by kernel_rfl, by kernel_rfl, fun _ _ _ h => h, (.inl ⟨rfl, fun W _ => by go_simp⟩), HB2.out.1, ?_⟩
  refine takeH (o := ?o8) 7 (.int .i64 x.window) ?h8 ?r8
  case h8 => simp only [aT, aS, aZ]; rfl
  refine ⟨_, by simp [Act.put]; rfl, by kernel_rfl, by kernel_rfl, by kernel_rfl, fun _ _ _ h => h, (.inl ⟨rfl, fun W hW => by have c := hW.1.cell 3; simp only [aT, aS, aZ] at c; go_simp⟩), HB2.out.1, ?_⟩
  refine takeH (o := ?o9) 9 (.agg (tc ys)) ?h9 ?r9
  case h9 => simp only [aT, aS, aZ]; rfl
  refine ⟨_, by simp [Act.put]; rfl, by kernel_rfl, by kernel_rfl, by kernel_rfl, fun _ _ _ h => h, (yields_whole 81 w1.heap.size (tc ys) 81 _ rfl rfl rfl Try.underlying81 rfl (tallySize HB.out.1) (fun W hW => hW.2)), HB2.out.1, ?_⟩
  obtain ⟨Y, hY⟩ : ∃ Y, Y = W2.drew := ⟨_, rfl⟩
  rw [← hY] at HB2 ⊢
  clear hY
  refine twoH (o := ?o10) (o' := ?p10) 8 10 (by kernel_rfl) ?h10 ?g10 ?r10 ?s10
  case h10 => simp only [aT, aS, aZ]; rfl
  case g10 => simp only [aT, aS, aZ]; rfl
  case r10 =>
    intro K hK
    have hY1 : w.heap.size < Y.heap.size := HB2.out.1.1.lt
    have hY2 : w1.heap.size < Y.heap.size := HB2.out.1.2.lt
    have HL : Hid ((Y.alloc (.cells #[.int .i64 x.seq, .int .i64 x.cls, .int .i64 x.key, .int .i64 x.window] 3)).ownsRow w.heap.size 3 1 (.slice (some ⟨Y.heap.size, 0, none⟩) 4 4) 4 ([x.seq, x.cls, x.key, x.window].map (Value.int .i64))) := World.ownsRow_lit Y #[.int .i64 x.seq, .int .i64 x.cls, .int .i64 x.key, .int .i64 x.window] 4 HB2.out.2.size (by unfold maxLen; omega) rfl
    have bY : Below Y.heap.size Y (Y.alloc (.cells #[.int .i64 x.seq, .int .i64 x.cls, .int .i64 x.key, .int .i64 x.window] 3)) := (Below.refl _ _).alloc (Nat.le_refl _) _
    have HS3 : Hid (ItHeld w.heap.size #[.int .i64 x.seq, .int .i64 x.cls, .int .i64 x.key, .int .i64 x.window, .int .i64 x.sk.count, .int .i64 x.sk.sum, .int .i64 x.sk.min, .int .i64 x.sk.max, .slice a1 n1 c1, .slice a2 n2 c2, .slice a3 n3 c3] w1.heap.size ys (Y.alloc (.cells #[.int .i64 x.seq, .int .i64 x.cls, .int .i64 x.key, .int .i64 x.window] 3)) ∧ Below w.heap.size w (Y.alloc (.cells #[.int .i64 x.seq, .int .i64 x.cls, .int .i64 x.key, .int .i64 x.window] 3))) := ⟨⟨HB2.out.1.1.below bY, HB2.out.1.2.below bY⟩, Below.next HB2.out.2 bY⟩
    refine op_turn (.slice (some ⟨Y.heap.size, 0, none⟩) 4 4) (Y.alloc (.cells #[.int .i64 x.seq, .int .i64 x.cls, .int .i64 x.key, .int .i64 x.window] 3)) rfl (by go_simp) ⟨_, by simp [Act.put]; rfl, hK _ _ ⟨HS3.out.1, ?_⟩⟩
    clear hK bY
    obtain ⟨Z, hZ⟩ : ∃ Z, Z = Y.alloc (.cells #[.int .i64 x.seq, .int .i64 x.cls, .int .i64 x.key, .int .i64 x.window] 3) := ⟨_, rfl⟩
    rw [← hZ] at HL HS3 ⊢
    clear hZ
    refine onlyH (o := ?o11) 10 (by kernel_rfl) ?h11 ?r11
    case h11 => simp only [aT, aS, aZ]; rfl
    intro K hK
    refine op_call1 47 _ _ Try.f47 (fun v w' => w'.ownsRow Z.heap.size 3 1 v ys.length (ys.map (Value.int .i64)) ∧ Below Z.heap.size Z w') rfl rfl Try.func47 (by kernel_rfl) (by kernel_rfl) ((numbers_any ys Z HB.out.1).mono (by rintro e w' ⟨u, rfl, h1, h2⟩; exact ⟨_, rfl, h1, h2⟩)) ?_
    rintro u W4 ⟨hu, hb4⟩
    obtain ⟨gu, cu, rfl, _⟩ := own_shape7 hu (by rw [HB.out.1]; omega)
    rw [HB.out.1] at hu ⊢
    have HO : Hid (W4.ownsRow w.heap.size 3 1 (.slice (some ⟨Y.heap.size, 0, none⟩) 4 4) 4 ([x.seq, x.cls, x.key, x.window].map (Value.int .i64)) ∧ (∀ j u, (ys.map (Value.int .i64))[j]? = some u → W4.cell? ((⟨gu, 0, none⟩ : Addr).add j) = some u) ∧ Below w.heap.size w W4) := ⟨ownsRow_below HL.out hb4, own_news hu, Below.next HS3.out.2 hb4⟩
    refine ⟨_, by simp [Act.put]; rfl, hK _ _ ⟨⟨HS3.out.1.1.below hb4, HS3.out.1.2.below hb4⟩, ?_⟩⟩
    have HSS : Hid (ItHeld w.heap.size #[.int .i64 x.seq, .int .i64 x.cls, .int .i64 x.key, .int .i64 x.window, .int .i64 x.sk.count, .int .i64 x.sk.sum, .int .i64 x.sk.min, .int .i64 x.sk.max, .slice a1 n1 c1, .slice a2 n2 c2, .slice a3 n3 c3] w1.heap.size ys W4) := ⟨HS3.out.1.1.below hb4, HS3.out.1.2.below hb4⟩
    clear hK hu hb4 HL HS3 HB2
    refine onlyH (o := ?o12) 11 (by kernel_rfl) ?h12 ?r12
    case h12 => simp only [aT, aS, aZ]; rfl
    intro K hK
    refine op_append7 _ _ 22 rfl rfl w.heap.size 3 i0 (.int .i64 0) 1 8 Try.underlying22 hi hz0 hz1 hz2 rfl (by decide) _ _ _ rfl HO.out.1 ⟨gu, 0, none⟩ 28 cu (ys.map (Value.int .i64)) rfl (by simp [HB.out.1]) HO.out.2.1 (ints_one _) (by unfold maxLen; simp) (by simp) HO.out.2.2.size ?_
    intro v8 w8 hown hgrow
    have HF : Hid (w8.ownsRow w.heap.size 3 1 v8 32 (([x.seq, x.cls, x.key, x.window] ++ ys).map (Value.int .i64)) ∧ Below w.heap.size w w8) := ⟨by rw [List.map_append]; exact hown, HO.out.2.2.grown hgrow HO.out.2.2.size (fun g hg => (HO.out.1.lt g hg).1)⟩
    have bg : Below Y.heap.size W4 w8 := (Below.refl _ _).grown hgrow (by have := HO.out.1.lt Y.heap.size rfl; omega) (fun g hg => by cases hg; exact Nat.le_refl _)
    have HSX : Hid (ItHeld w.heap.size #[.int .i64 x.seq, .int .i64 x.cls, .int .i64 x.key, .int .i64 x.window, .int .i64 x.sk.count, .int .i64 x.sk.sum, .int .i64 x.sk.min, .int .i64 x.sk.max, .slice a1 n1 c1, .slice a2 n2 c2, .slice a3 n3 c3] w1.heap.size ys w8) := ⟨HSS.out.1.agree (bg.block _ hY1), HSS.out.2.agree (bg.block _ hY2)⟩
    clear hown hgrow HO bg
    refine ⟨_, by simp [Act.put]; rfl, hK _ _ ⟨HSX.out, ?_⟩⟩
    clear hK
    refine onlyH (o := ?o13) 12 (by kernel_rfl) ?h13 ?r13
    case h13 => simp only [aT, aS, aZ]; rfl
    intro K hK
    refine op_value v8 rfl (by go_simp) ⟨_, by simp [Act.put]; rfl, hK _ _ ⟨HSX.out, ?_⟩⟩
    clear hK
    refine wpAnyH_done (by kernel_rfl) ?_ _
    go_wp2
    go_ret
    rw [← HB.out.2.1]
    exact ⟨_, rfl, HF.out⟩
  case s10 =>
    intro K hK
    refine op_call1 47 _ _ Try.f47 (fun v w' => w'.ownsRow Y.heap.size 3 1 v ys.length (ys.map (Value.int .i64)) ∧ Below Y.heap.size Y w') rfl rfl Try.func47 (by kernel_rfl) (by kernel_rfl) ((numbers_any ys Y HB.out.1).mono (by rintro e w' ⟨u, rfl, h1, h2⟩; exact ⟨_, rfl, h1, h2⟩)) ?_
    rintro u W4 ⟨hu, hb4⟩
    obtain ⟨gu, cu, rfl, _⟩ := own_shape7 hu (by rw [HB.out.1]; omega)
    rw [HB.out.1] at hu ⊢
    have HS3 : Hid (ItHeld w.heap.size #[.int .i64 x.seq, .int .i64 x.cls, .int .i64 x.key, .int .i64 x.window, .int .i64 x.sk.count, .int .i64 x.sk.sum, .int .i64 x.sk.min, .int .i64 x.sk.max, .slice a1 n1 c1, .slice a2 n2 c2, .slice a3 n3 c3] w1.heap.size ys W4 ∧ Below w.heap.size w W4 ∧ W4.ownsRow Y.heap.size 3 1 (.slice (some ⟨gu, 0, none⟩) 28 cu) 28 (ys.map (Value.int .i64))) := ⟨⟨HB2.out.1.1.below hb4, HB2.out.1.2.below hb4⟩, Below.next HB2.out.2 hb4, hu⟩
    refine ⟨_, by simp [Act.put]; rfl, hK _ _ ⟨HS3.out.1, ?_⟩⟩
    clear hK hu hb4 HB2
    refine onlyH (o := ?o14) 8 (by kernel_rfl) ?h14 ?r14
    case h14 => simp only [aT, aS, aZ]; rfl
    intro K hK
    have hY1 : w.heap.size < W4.heap.size := HS3.out.1.1.lt
    have hY2 : w1.heap.size < W4.heap.size := HS3.out.1.2.lt
    have HL : Hid ((W4.alloc (.cells #[.int .i64 x.seq, .int .i64 x.cls, .int .i64 x.key, .int .i64 x.window] 3)).ownsRow w.heap.size 3 1 (.slice (some ⟨W4.heap.size, 0, none⟩) 4 4) 4 ([x.seq, x.cls, x.key, x.window].map (Value.int .i64))) := World.ownsRow_lit W4 #[.int .i64 x.seq, .int .i64 x.cls, .int .i64 x.key, .int .i64 x.window] 4 HS3.out.2.1.size (by unfold maxLen; omega) rfl
    have bY : Below W4.heap.size W4 (W4.alloc (.cells #[.int .i64 x.seq, .int .i64 x.cls, .int .i64 x.key, .int .i64 x.window] 3)) := (Below.refl _ _).alloc (Nat.le_refl _) _
    have HO : Hid ((W4.alloc (.cells #[.int .i64 x.seq, .int .i64 x.cls, .int .i64 x.key, .int .i64 x.window] 3)).ownsRow w.heap.size 3 1 (.slice (some ⟨W4.heap.size, 0, none⟩) 4 4) 4 ([x.seq, x.cls, x.key, x.window].map (Value.int .i64)) ∧ (∀ j u, (ys.map (Value.int .i64))[j]? = some u → (W4.alloc (.cells #[.int .i64 x.seq, .int .i64 x.cls, .int .i64 x.key, .int .i64 x.window] 3)).cell? ((⟨gu, 0, none⟩ : Addr).add j) = some u) ∧ Below w.heap.size w (W4.alloc (.cells #[.int .i64 x.seq, .int .i64 x.cls, .int .i64 x.key, .int .i64 x.window] 3))) := ⟨HL.out, own_news (ownsRow_below HS3.out.2.2 bY), Below.next HS3.out.2.1 bY⟩
    have HSS : Hid (ItHeld w.heap.size #[.int .i64 x.seq, .int .i64 x.cls, .int .i64 x.key, .int .i64 x.window, .int .i64 x.sk.count, .int .i64 x.sk.sum, .int .i64 x.sk.min, .int .i64 x.sk.max, .slice a1 n1 c1, .slice a2 n2 c2, .slice a3 n3 c3] w1.heap.size ys (W4.alloc (.cells #[.int .i64 x.seq, .int .i64 x.cls, .int .i64 x.key, .int .i64 x.window] 3))) := ⟨HS3.out.1.1.below bY, HS3.out.1.2.below bY⟩
    refine op_turn (.slice (some ⟨W4.heap.size, 0, none⟩) 4 4) (W4.alloc (.cells #[.int .i64 x.seq, .int .i64 x.cls, .int .i64 x.key, .int .i64 x.window] 3)) rfl (by go_simp) ⟨_, by simp [Act.put]; rfl, hK _ _ ⟨HSS.out, ?_⟩⟩
    clear hK bY HL HS3
    obtain ⟨Z, hZ⟩ : ∃ Z, Z = W4.alloc (.cells #[.int .i64 x.seq, .int .i64 x.cls, .int .i64 x.key, .int .i64 x.window] 3) := ⟨_, rfl⟩
    rw [← hZ] at HO HSS ⊢
    clear hZ
    refine onlyH (o := ?o15) 11 (by kernel_rfl) ?h15 ?r15
    case h15 => simp only [aT, aS, aZ]; rfl
    intro K hK
    refine op_append7 _ _ 22 rfl rfl w.heap.size 3 i0 (.int .i64 0) 1 8 Try.underlying22 hi hz0 hz1 hz2 rfl (by decide) _ _ _ rfl HO.out.1 ⟨gu, 0, none⟩ 28 cu (ys.map (Value.int .i64)) rfl (by simp [HB.out.1]) HO.out.2.1 (ints_one _) (by unfold maxLen; simp) (by simp) HO.out.2.2.size ?_
    intro v8 w8 hown hgrow
    have HF : Hid (w8.ownsRow w.heap.size 3 1 v8 32 (([x.seq, x.cls, x.key, x.window] ++ ys).map (Value.int .i64)) ∧ Below w.heap.size w w8) := ⟨by rw [List.map_append]; exact hown, HO.out.2.2.grown hgrow HO.out.2.2.size (fun g hg => (HO.out.1.lt g hg).1)⟩
    have bg : Below W4.heap.size Z w8 := (Below.refl _ _).grown hgrow (by have := HO.out.1.lt W4.heap.size rfl; omega) (fun g hg => by cases hg; exact Nat.le_refl _)
    have HSX : Hid (ItHeld w.heap.size #[.int .i64 x.seq, .int .i64 x.cls, .int .i64 x.key, .int .i64 x.window, .int .i64 x.sk.count, .int .i64 x.sk.sum, .int .i64 x.sk.min, .int .i64 x.sk.max, .slice a1 n1 c1, .slice a2 n2 c2, .slice a3 n3 c3] w1.heap.size ys w8) := ⟨HSS.out.1.agree (bg.block _ hY1), HSS.out.2.agree (bg.block _ hY2)⟩
    clear hown hgrow HO bg
    refine ⟨_, by simp [Act.put]; rfl, hK _ _ ⟨HSX.out, ?_⟩⟩
    clear hK
    refine onlyH (o := ?o16) 12 (by kernel_rfl) ?h16 ?r16
    case h16 => simp only [aT, aS, aZ]; rfl
    intro K hK
    refine op_value v8 rfl (by go_simp) ⟨_, by simp [Act.put]; rfl, hK _ _ ⟨HSX.out, ?_⟩⟩
    clear hK
    refine wpAnyH_done (by kernel_rfl) ?_ _
    go_wp2
    go_ret
    rw [← HB.out.2.1]
    exact ⟨_, rfl, HF.out⟩
set_option maxRecDepth 100000 in
set_option maxHeartbeats 4000000 in
theorem crcBytes_any (a : Option Addr) (len cap : Nat) (zs : List Int) (w : World) (h : RdB w a len zs) (hlen : len ≤ 1048576) :
    Calls Try.prog 66 #[.slice a len cap] w fun e w' => e = .returned (.slice (some ⟨w.heap.size, 0, none⟩) 4 4) ∧ w' = w.alloc (.cells ((sumOf zs).map (Value.int .u8)).toArray 5) := by
  have HR : Hid (RdB w a len zs) := h
  have hc := crcOf_range zs h.range
  clear h
  go_enter Try.func66, Try.ntmps66
  go_wp2_with fail
  refine (crcImpl_any a len cap zs _ HR.out hlen).mono ?_
  rintro e w1 ⟨rfl, hw1⟩
  have hw1' := hw1.symm
  subst hw1'
  clear hw1
  obtain ⟨c, hcc⟩ : ∃ c, c = crcOf zs := ⟨_, rfl⟩
  rw [show bits .xor .i64 (crc64 zs) 4294967295 = c from hcc.symm]
  rw [← hcc] at hc
  have HC : Hid (c = crcOf zs) := hcc
  clear hcc
  go_wp2
  go_ret
  refine ⟨rfl, ?_⟩
  unfold sumOf
  rw [← HC.out]
  simp
end Go.Proofs.Ytjndcfamfminkaq
/- The walks through the program's sketchOfNumbers and SketchOf. No statement of the seat is proved here. -/
namespace Go.Proofs.Ytjndcfamfminkaq
open Go.RowKit
/-- These numbers are that summary's; or no summary's. -/
def SkN (l : List Int) (s : Sk) (d : Bool) : Prop := if d = true then l.length = 28 ∧ s = skOf l ∧ s.ok = true else s = Sk.zero ∧ ¬ (l.length = 28 ∧ (skOf l).ok = true)
theorem rdI_own_cap {w : World} {B e n : Nat} {v : Value} {zs : List Int} (h : w.ownsRow B e 1 v n (zs.map (Value.int .i64))) : ∃ a cap F, v = .slice a n cap ∧ RdI w a n zs F ∧ n ≤ cap := by
  obtain ⟨a, cap, F, rfl, hr, _⟩ := rdI_of_own h
  refine ⟨a, cap, F, rfl, hr, ?_⟩
  rcases h.2 with ⟨_, h0⟩ | ⟨g, c, cur, h1, _, _, h2, _⟩
  · omega
  · cases h1; exact h2
theorem skN_bad {l : List Int} (h : ¬ (l.length = 28 ∧ (skOf l).ok = true)) : SkN l Sk.zero false := (if_neg (by simp)).mpr ⟨rfl, h⟩
theorem skN_yes {l : List Int} (h1 : l.length = 28) (h2 : (skOf l).ok = true) : SkN l (skOf l) true := (if_pos rfl).mpr ⟨h1, rfl, h2⟩
theorem num_splice {l : List Int} (h : l.length = 28) : splice (splice (splice (splice (([l.getD 0 0, l.getD 1 0, l.getD 2 0, l.getD 3 0] ++ List.replicate 24 0).map (Value.int .i64)) 4 (((l.drop 4).take 8).map (Value.int .i64))) 12 (((l.drop 12).take 8).map (Value.int .i64))) 20 (((l.drop 20).take 4).map (Value.int .i64))) 24 (((l.drop 24).take 4).map (Value.int .i64)) = l.map (Value.int .i64) := by
  have e := tl_map (skOf l) (by simp [skOf]; omega) (by simp [skOf]; omega) (by simp [skOf]; omega) (by simp [skOf]; omega)
  have t : (skOf l).tl = l := by rw [tl_nums (skOf_lens h), skOf_nums h]
  rw [t] at e
  exact e
set_option maxRecDepth 200000 in
set_option maxHeartbeats 8000000 in
theorem sketchOfNumbers_any (a : Option Addr) (len cap : Nat) (l : List Int) (F : List Nat) (w : World) (h : RdI w a len l F) (hlen : len ≤ 1048576) (hcap : len ≤ cap) :
    Calls Try.prog 54 #[.slice a len cap] w fun e w' => NewSk2 w (SkN l) e w' := by
  have HL : Hid (l.length = len) := h.length
  have bR : Below w.heap.size w (w.alloc (.cells #[.int .i64 0, .int .i64 0, .int .i64 0, .int .i64 0, .slice none 0 0, .slice none 0 0, .slice none 0 0] 29)) := (Below.refl _ _).alloc (Nat.le_refl _) _
  have HT : Hid (Blk (w.alloc (.cells #[.int .i64 0, .int .i64 0, .int .i64 0, .int .i64 0, .slice none 0 0, .slice none 0 0, .slice none 0 0] 29)) w.heap.size #[.int .i64 0, .int .i64 0, .int .i64 0, .int .i64 0, .slice none 0 0, .slice none 0 0, .slice none 0 0] 29 ∧ Below w.heap.size w (w.alloc (.cells #[.int .i64 0, .int .i64 0, .int .i64 0, .int .i64 0, .slice none 0 0, .slice none 0 0, .slice none 0 0] 29))) := ⟨Blk.made _ _ _, bR⟩
  clear bR
  by_cases hne : len = 28
  rotate_left
  · have hneb : ((len : Int) != 28) = true := by simpa using (by omega : ¬ (len : Int) = 28)
    have HV : Hid (SkN l Sk.zero false) := skN_bad (by rw [HL.out]; omega)
    clear h hne
    go_enter Try.func54, Try.ntmps54
    go_wp2_with (first | go_skip | (with_reducible refine stopStore 29 rfl ?_))
    refine store_known 29 w.heap.size _ #[.int .i64 0, .int .i64 0, .int .i64 0, .int .i64 0, .slice none 0 0, .slice none 0 0, .slice none 0 0] 29 HT.out.1 rfl rfl rfl rfl infoSkI rfl (by simp [Value.oneCell']) ?_
    go_wp2
    refine bodyPost_ret (results_row_tmp Try.results54 _ _ w.heap.size _ _ _ _ rfl HT.out.1.setRow Try.underlying29 rfl infoSkI) rfl ?_
    exact ⟨_, Sk.zero, false, [], rfl, rdSk_zero7 _, Own.nil, below_setRow HT.out.2 (Nat.le_refl _) _, HV.out⟩
  subst hne
  have hneb : (((28 : Nat) : Int) != 28) = false := by simp
  obtain ⟨b, off, rfl⟩ := h.addr (by omega)
  have HR : Hid (RdI w (some ⟨b, off, none⟩) 28 l F) := h
  obtain ⟨x0, hx0⟩ : ∃ x, x = l.getD 0 0 := ⟨_, rfl⟩
  obtain ⟨x1, hx1⟩ : ∃ x, x = l.getD 1 0 := ⟨_, rfl⟩
  obtain ⟨x2, hx2⟩ : ∃ x, x = l.getD 2 0 := ⟨_, rfl⟩
  obtain ⟨x3, hx3⟩ : ∃ x, x = l.getD 3 0 := ⟨_, rfl⟩
  have HX : Hid (x0 = l.getD 0 0 ∧ x1 = l.getD 1 0 ∧ x2 = l.getD 2 0 ∧ x3 = l.getD 3 0) := ⟨hx0, hx1, hx2, hx3⟩
  have HB0 : Hid (∀ W, Below w.heap.size w W → NumHeld b off x0 x1 x2 x3 W) := by
    intro W hb
    have r := HR.out.below hb
    rcases r.cells with ⟨h0, _⟩ | ⟨b', off', _, e, _, hc⟩
    · omega
    · cases e
      exact ⟨by rw [hx0]; exact hc 0 (by omega), by rw [hx1]; exact hc 1 (by omega), by rw [hx2]; exact hc 2 (by omega), by rw [hx3]; exact hc 3 (by omega)⟩
  have HK : Hid (∀ W, Below w.heap.size w W → ∀ k n, k + n ≤ 28 → 0 < n → ∃ ad, (some ⟨b, off + k, none⟩ : Option Addr) = some ad ∧ ∀ j v, (((l.drop k).take n).map (Value.int .i64))[j]? = some v → W.cell? (ad.add j) = some v) := by
    intro W hb k n hkn hn
    refine ⟨_, rfl, fun j v hj => ?_⟩
    have r := HR.out.below hb
    rcases r.cells with ⟨h0, _⟩ | ⟨b', off', _, e, _, hc⟩
    · omega
    · cases e
      rw [List.getElem?_map, Option.map_eq_some_iff] at hj
      obtain ⟨x, hj, rfl⟩ := hj
      have hjn : j < n := by
        have := (List.getElem?_eq_some_iff.1 hj).1
        rw [List.length_take] at this
        omega
      rw [List.getElem?_take, if_pos hjn, List.getElem?_drop] at hj
      rw [show (⟨b, off + k, none⟩ : Addr).add j = ⟨b, off + (k + j), none⟩ from by cases j <;> simp [Addr.add, Nat.add_assoc], hc (k + j) (by omega)]
      simp [hj]
  clear h hx0 hx1 hx2 hx3
  go_enter Try.func54, Try.ntmps54
  go_wp2
  obtain ⟨W0, hW0⟩ : ∃ W, W = w.alloc (.cells #[.int .i64 0, .int .i64 0, .int .i64 0, .int .i64 0, .slice none 0 0, .slice none 0 0, .slice none 0 0] 29) := ⟨_, rfl⟩
  rw [← hW0] at HT ⊢
  clear hW0
  have HS : Hid (NumHeld b off x0 x1 x2 x3 W0.drew ∧ Below w.heap.size w W0.drew ∧ Blk W0.drew w.heap.size #[.int .i64 0, .int .i64 0, .int .i64 0, .int .i64 0, .slice none 0 0, .slice none 0 0, .slice none 0 0] 29) := ⟨HB0.out _ HT.out.2.drew, HT.out.2.drew, HT.out.1.drew⟩
  refine wp_region_held (S := NumHeld b off x0 x1 x2 x3) (by kernel_rfl) ?_
  change wpAnyH _ _ _ _ _ _ _ _ (World.drew _)
  refine takeH (o := ?o1) 0 (.slice (some ⟨b, off, none⟩) 28 cap) ?h1 ?r1
  case h1 => simp only [aT, aZ]; rfl
  refine ⟨_, by simp [Act.put]; rfl, by kernel_rfl, by kernel_rfl, by kernel_rfl, fun _ _ _ h => h, (.inl ⟨rfl, fun W _ => by go_simp⟩), HS.out.1, ?_⟩
  refine takeH (o := ?o2) 1 (.pointer (some ⟨b, off, none⟩)) ?h2 ?r2
  case h2 => simp only [aT, aS, aZ]; rfl
  refine ⟨_, by simp [Act.put]; rfl, by kernel_rfl, by kernel_rfl, by kernel_rfl, fun _ _ _ h => h, (.inl ⟨rfl, fun W _ => by go_simp⟩), HS.out.1, ?_⟩
  refine takeH (o := ?o3) 2 (.int .i64 x0) ?h3 ?r3
  case h3 => simp only [aT, aS, aZ]; rfl
  refine ⟨_, by simp [Act.put]; rfl, by kernel_rfl, by kernel_rfl, by kernel_rfl, fun _ _ _ h => h, (.inl ⟨rfl, fun W hW => by have c := hW.1; go_simp⟩), HS.out.1, ?_⟩
  refine takeH (o := ?o4) 3 (.slice (some ⟨b, off, none⟩) 28 cap) ?h4 ?r4
  case h4 => simp only [aT, aS, aZ]; rfl
  refine ⟨_, by simp [Act.put]; rfl, by kernel_rfl, by kernel_rfl, by kernel_rfl, fun _ _ _ h => h, (.inl ⟨rfl, fun W _ => by go_simp⟩), HS.out.1, ?_⟩
  refine takeH (o := ?o5) 4 (.pointer (some ⟨b, off + 1, none⟩)) ?h5 ?r5
  case h5 => simp only [aT, aS, aZ]; rfl
  refine ⟨_, by simp [Act.put]; rfl, by kernel_rfl, by kernel_rfl, by kernel_rfl, fun _ _ _ h => h, (.inl ⟨rfl, fun W _ => by go_simp⟩), HS.out.1, ?_⟩
  refine takeH (o := ?o6) 5 (.int .i64 x1) ?h6 ?r6
  case h6 => simp only [aT, aS, aZ]; rfl
  refine ⟨_, by simp [Act.put]; rfl, by kernel_rfl, by kernel_rfl, by kernel_rfl, fun _ _ _ h => h, (.inl ⟨rfl, fun W hW => by have c := hW.2.1; go_simp⟩), HS.out.1, ?_⟩
  refine takeH (o := ?o7) 6 (.slice (some ⟨b, off, none⟩) 28 cap) ?h7 ?r7
  case h7 => simp only [aT, aS, aZ]; rfl
  refine ⟨_, by simp [Act.put]; rfl, by kernel_rfl, by kernel_rfl, by kernel_rfl, fun _ _ _ h => h, (.inl ⟨rfl, fun W _ => by go_simp⟩), HS.out.1, ?_⟩
  refine takeH (o := ?o8) 7 (.pointer (some ⟨b, off + 2, none⟩)) ?h8 ?r8
  case h8 => simp only [aT, aS, aZ]; rfl
  refine ⟨_, by simp [Act.put]; rfl, by kernel_rfl, by kernel_rfl, by kernel_rfl, fun _ _ _ h => h, (.inl ⟨rfl, fun W _ => by go_simp⟩), HS.out.1, ?_⟩
  refine takeH (o := ?o9) 8 (.int .i64 x2) ?h9 ?r9
  case h9 => simp only [aT, aS, aZ]; rfl
  refine ⟨_, by simp [Act.put]; rfl, by kernel_rfl, by kernel_rfl, by kernel_rfl, fun _ _ _ h => h, (.inl ⟨rfl, fun W hW => by have c := hW.2.2.1; go_simp⟩), HS.out.1, ?_⟩
  refine takeH (o := ?o10) 9 (.slice (some ⟨b, off, none⟩) 28 cap) ?h10 ?r10
  case h10 => simp only [aT, aS, aZ]; rfl
  refine ⟨_, by simp [Act.put]; rfl, by kernel_rfl, by kernel_rfl, by kernel_rfl, fun _ _ _ h => h, (.inl ⟨rfl, fun W _ => by go_simp⟩), HS.out.1, ?_⟩
  refine takeH (o := ?o11) 10 (.pointer (some ⟨b, off + 3, none⟩)) ?h11 ?r11
  case h11 => simp only [aT, aS, aZ]; rfl
  refine ⟨_, by simp [Act.put]; rfl, by kernel_rfl, by kernel_rfl, by kernel_rfl, fun _ _ _ h => h, (.inl ⟨rfl, fun W _ => by go_simp⟩), HS.out.1, ?_⟩
  refine takeH (o := ?o12) 11 (.int .i64 x3) ?h12 ?r12
  case h12 => simp only [aT, aS, aZ]; rfl
  refine ⟨_, by simp [Act.put]; rfl, by kernel_rfl, by kernel_rfl, by kernel_rfl, fun _ _ _ h => h, (.inl ⟨rfl, fun W hW => by have c := hW.2.2.2; go_simp⟩), HS.out.1, ?_⟩
  refine takeH (o := ?o13) 12 (.agg (tc ([x0, x1, x2, x3] ++ List.replicate 24 0))) ?h13 ?r13
  case h13 => simp only [aT, aS, aZ]; rfl
  refine ⟨_, by simp [Act.put]; rfl, by kernel_rfl, by kernel_rfl, by kernel_rfl, fun _ _ _ h => h, (.inl ⟨rfl, fun W _ => by go_simp; rfl⟩), HS.out.1, ?_⟩
  refine onlyH (o := ?o14) 13 (by kernel_rfl) ?h14 ?r14
  case h14 => simp only [aT, aS, aZ]; rfl
  intro K hK
  have bA : Below W0.drew.heap.size W0.drew (W0.drew.alloc (.cells (tc (List.replicate 28 0)) 81)) := (Below.refl _ _).alloc (Nat.le_refl _) _
  have HA : Hid (Below w.heap.size w (W0.drew.alloc (.cells (tc (List.replicate 28 0)) 81)) ∧ Blk (W0.drew.alloc (.cells (tc (List.replicate 28 0)) 81)) w.heap.size #[.int .i64 0, .int .i64 0, .int .i64 0, .int .i64 0, .slice none 0 0, .slice none 0 0, .slice none 0 0] 29 ∧ Blk (W0.drew.alloc (.cells (tc (List.replicate 28 0)) 81)) W0.heap.size (tc (List.replicate 28 0)) 81) := ⟨Below.next HS.out.2.1 bA, HS.out.2.2.below bA, Blk.made W0.drew _ _⟩
  refine op_turn (.pointer (some ⟨W0.heap.size, 0, none⟩)) (W0.drew.alloc (.cells (tc (List.replicate 28 0)) 81)) rfl (by go_simp; rfl) ⟨_, by simp [Act.put]; rfl, hK _ _ ⟨HB0.out _ HA.out.1, ?_⟩⟩
  clear hK bA
  refine onlyH (o := ?o15) 14 (by kernel_rfl) ?h15 ?r15
  case h15 => simp only [aT, aS, aZ]; rfl
  intro K hK
  have lt0 : w.heap.size < W0.heap.size := HT.out.1.lt
  have hbS : Below w.heap.size w ((W0.drew.alloc (.cells (tc (List.replicate 28 0)) 81)).setRow W0.heap.size (tc ([x0, x1, x2, x3] ++ List.replicate 24 0))) := below_setRow HA.out.1 (by omega) _
  refine op_store 81 W0.heap.size (tc (List.replicate 28 0)) (tc ([x0, x1, x2, x3] ++ List.replicate 24 0)) 81 rfl rfl rfl rfl HA.out.2.2 (tallySize rfl) rfl (tc_one _) ⟨_, by simp [Act.put]; rfl, hK _ _ ⟨HB0.out _ hbS, ?_⟩⟩
  clear hK
  refine wpAnyH_done (by kernel_rfl) ?_ _
  obtain ⟨W1, hW1⟩ : ∃ W, W = (W0.drew.alloc (.cells (tc (List.replicate 28 0)) 81)).setRow W0.heap.size (tc ([x0, x1, x2, x3] ++ List.replicate 24 0)) := ⟨_, rfl⟩
  obtain ⟨L0, hL0⟩ : ∃ L, L = ([x0, x1, x2, x3] ++ List.replicate 24 0).map (Value.int .i64) := ⟨_, rfl⟩
  have HL0 : Hid (L0 = ([x0, x1, x2, x3] ++ List.replicate 24 0).map (Value.int .i64)) := hL0
  have HG1 : Hid (W1.heap[W0.heap.size]? = some (.cells L0.toArray 81 (0, 0)) ∧ L0.length = 28) := ⟨by rw [hW1, hL0]; exact HA.out.2.2.setRow, by rw [hL0]; rfl⟩
  have HQ1 : Hid (Below w.heap.size w W1 ∧ Blk W1 w.heap.size #[.int .i64 0, .int .i64 0, .int .i64 0, .int .i64 0, .slice none 0 0, .slice none 0 0, .slice none 0 0] 29) := ⟨by rw [hW1]; exact hbS, by rw [hW1]; exact HA.out.2.1.setRowOther (by omega)⟩
  rw [← hW1]
  obtain ⟨T, hT⟩ : ∃ T, T = W0.heap.size := ⟨_, rfl⟩
  rw [← hT] at HG1 lt0 ⊢
  clear HA hbS hW1 hL0 HS HT hT
  have HM : Hid (∀ k n, k + n ≤ 28 → (((l.drop k).take n).map (Value.int .i64)).length = n) := by
    intro k n hkn
    have := HL.out
    simp
    omega
  go_wp2_with (first | go_skip | (with_reducible refine stopCopy rfl ?_))
  refine Stop.intro (wpList_copy_splice rfl _ _ 22 22 rfl 3 Try.underlying22 infoInt1 _ _ _ _ _ _ rfl rfl T 4 L0 81 HG1.out.1 (((l.drop 4).take 8).map (Value.int .i64)) (by rw [HM.out 4 8 (by omega)]; rfl) (fun _ => ⟨rfl, HK.out _ HQ1.out.1 4 8 (by omega) (by omega)⟩) (by rw [HM.out 4 8 (by omega), HG1.out.2]; omega) (ints_one _) T W1 (Below.refl _ _) (Nat.le_refl _) ?_)
  intro W2 hg hb
  obtain ⟨L1, hL1⟩ : ∃ L, L = splice L0 4 (((l.drop 4).take 8).map (Value.int .i64)) := ⟨_, rfl⟩
  have HG2 : Hid (W2.heap[T]? = some (.cells L1.toArray 81 (0, 0)) ∧ L1.length = 28) := ⟨by rw [hL1]; exact hg.out, by rw [hL1, length_splice _ _ _ (by rw [HM.out 4 8 (by omega), HG1.out.2]; omega)]; exact HG1.out.2⟩
  have HL1 : Hid (L1 = splice L0 4 (((l.drop 4).take 8).map (Value.int .i64))) := hL1
  have HQ2 : Hid (Below w.heap.size w W2 ∧ Blk W2 w.heap.size #[.int .i64 0, .int .i64 0, .int .i64 0, .int .i64 0, .slice none 0 0, .slice none 0 0, .slice none 0 0] 29) := ⟨HQ1.out.1.trans (hb.mono (by omega)), HQ1.out.2.agree (hb.block _ (by omega))⟩
  rw [HM.out 4 8 (by omega)]
  clear hg hb hL1 HG1 HQ1
  go_wp2_with (first | go_skip | (with_reducible refine stopCopy rfl ?_))
  refine Stop.intro (wpList_copy_splice rfl _ _ 22 22 rfl 3 Try.underlying22 infoInt1 _ _ _ _ _ _ rfl rfl T 12 L1 81 HG2.out.1 (((l.drop 12).take 8).map (Value.int .i64)) (by rw [HM.out 12 8 (by omega)]; rfl) (fun _ => ⟨rfl, HK.out _ HQ2.out.1 12 8 (by omega) (by omega)⟩) (by rw [HM.out 12 8 (by omega), HG2.out.2]; omega) (ints_one _) T W2 (Below.refl _ _) (Nat.le_refl _) ?_)
  intro W3 hg hb
  obtain ⟨L2, hL2⟩ : ∃ L, L = splice L1 12 (((l.drop 12).take 8).map (Value.int .i64)) := ⟨_, rfl⟩
  have HG3 : Hid (W3.heap[T]? = some (.cells L2.toArray 81 (0, 0)) ∧ L2.length = 28) := ⟨by rw [hL2]; exact hg.out, by rw [hL2, length_splice _ _ _ (by rw [HM.out 12 8 (by omega), HG2.out.2]; omega)]; exact HG2.out.2⟩
  have HL2 : Hid (L2 = splice L1 12 (((l.drop 12).take 8).map (Value.int .i64))) := hL2
  have HQ3 : Hid (Below w.heap.size w W3 ∧ Blk W3 w.heap.size #[.int .i64 0, .int .i64 0, .int .i64 0, .int .i64 0, .slice none 0 0, .slice none 0 0, .slice none 0 0] 29) := ⟨HQ2.out.1.trans (hb.mono (by omega)), HQ2.out.2.agree (hb.block _ (by omega))⟩
  rw [HM.out 12 8 (by omega)]
  clear hg hb hL2 HG2 HQ2
  go_wp2
  refine wp_loop_rounds 3 ?_
  rw [rounds_succ]
  go_wp2_with (first | go_skip | (with_reducible refine stopCopy rfl ?_))
  refine Stop.intro (wpList_copy_splice rfl _ _ 22 22 rfl 3 Try.underlying22 infoInt1 _ _ _ _ _ _ rfl rfl T 20 L2 81 HG3.out.1 (((l.drop 20).take 4).map (Value.int .i64)) (by rw [HM.out 20 4 (by omega)]; rfl) (fun _ => ⟨rfl, HK.out _ HQ3.out.1 20 4 (by omega) (by omega)⟩) (by rw [HM.out 20 4 (by omega), HG3.out.2]; omega) (ints_one _) T W3 (Below.refl _ _) (Nat.le_refl _) ?_)
  intro W4 hg hb
  obtain ⟨L3, hL3⟩ : ∃ L, L = splice L2 20 (((l.drop 20).take 4).map (Value.int .i64)) := ⟨_, rfl⟩
  have HG4 : Hid (W4.heap[T]? = some (.cells L3.toArray 81 (0, 0)) ∧ L3.length = 28) := ⟨by rw [hL3]; exact hg.out, by rw [hL3, length_splice _ _ _ (by rw [HM.out 20 4 (by omega), HG3.out.2]; omega)]; exact HG3.out.2⟩
  have HL3 : Hid (L3 = splice L2 20 (((l.drop 20).take 4).map (Value.int .i64))) := hL3
  have HQ4 : Hid (Below w.heap.size w W4 ∧ Blk W4 w.heap.size #[.int .i64 0, .int .i64 0, .int .i64 0, .int .i64 0, .slice none 0 0, .slice none 0 0, .slice none 0 0] 29) := ⟨HQ3.out.1.trans (hb.mono (by omega)), HQ3.out.2.agree (hb.block _ (by omega))⟩
  rw [HM.out 20 4 (by omega)]
  clear hg hb hL3 HG3 HQ3
  go_wp2_with fail
  rw [rounds_succ]
  go_wp2_with (first | go_skip | (with_reducible refine stopCopy rfl ?_))
  refine Stop.intro (wpList_copy_splice rfl _ _ 22 22 rfl 3 Try.underlying22 infoInt1 _ _ _ _ _ _ rfl rfl T 24 L3 81 HG4.out.1 (((l.drop 24).take 4).map (Value.int .i64)) (by rw [HM.out 24 4 (by omega)]; rfl) (fun _ => ⟨rfl, HK.out _ HQ4.out.1 24 4 (by omega) (by omega)⟩) (by rw [HM.out 24 4 (by omega), HG4.out.2]; omega) (ints_one _) T W4 (Below.refl _ _) (Nat.le_refl _) ?_)
  intro W5 hg hb
  obtain ⟨L4, hL4⟩ : ∃ L, L = splice L3 24 (((l.drop 24).take 4).map (Value.int .i64)) := ⟨_, rfl⟩
  have HG5 : Hid (W5.heap[T]? = some (.cells L4.toArray 81 (0, 0)) ∧ L4.length = 28) := ⟨by rw [hL4]; exact hg.out, by rw [hL4, length_splice _ _ _ (by rw [HM.out 24 4 (by omega), HG4.out.2]; omega)]; exact HG4.out.2⟩
  have HL4 : Hid (L4 = splice L3 24 (((l.drop 24).take 4).map (Value.int .i64))) := hL4
  have HQ5 : Hid (Below w.heap.size w W5 ∧ Blk W5 w.heap.size #[.int .i64 0, .int .i64 0, .int .i64 0, .int .i64 0, .slice none 0 0, .slice none 0 0, .slice none 0 0] 29) := ⟨HQ4.out.1.trans (hb.mono (by omega)), HQ4.out.2.agree (hb.block _ (by omega))⟩
  rw [HM.out 24 4 (by omega)]
  clear hg hb hL4 HG4 HQ4
  have HG6 : Hid (Blk W5 T (tc l) 81) := by
    have e : L4 = l.map (Value.int .i64) := by
      rw [HL4.out, HL3.out, HL2.out, HL1.out, HL0.out, HX.out.1, HX.out.2.1, HX.out.2.2.1, HX.out.2.2.2]
      exact num_splice HL.out
    have := HG5.out.1
    rw [e] at this
    exact this
  clear HG5
  go_wp2_with fail
  all_goals
    rw [rounds_succ]
    go_wp2_with (first | go_skip | (with_reducible refine stopLoad 81 rfl ?_))
    refine load_known 81 T (tc l) 81 _ HG6.out rfl rfl rfl Try.underlying81 rfl (tallySize HL.out) ?_
    go_wp2_with fail
    refine (sketch_any l _ HL.out).mono ?_
    rintro e W6 ⟨vs, X, rfl, rs, os, bs⟩
    obtain ⟨ds, rfl, hd7, hdone⟩ := rs.cells
    have HW6 : Hid (RdSk W6 (.agg ds) (skOf l) X ∧ Own W5.heap.size W6 X ∧ Below w.heap.size w W6 ∧ Blk W6 w.heap.size #[.int .i64 0, .int .i64 0, .int .i64 0, .int .i64 0, .slice none 0 0, .slice none 0 0, .slice none 0 0] 29 ∧ ds.size = 7 ∧ ds.all (·.oneCell') = true) := ⟨rs, os, Below.next HQ5.out.1 bs, HQ5.out.2.below bs, hd7, hdone⟩
    have lt5 : w.heap.size < W5.heap.size := HQ5.out.2.lt
    clear rs os bs hd7 hdone HG6 HQ5
    go_wp2_with (first | go_skip | (with_reducible refine stopStore 29 rfl ?_))
    refine store_fresh 29 W6.heap.size rfl #[.int .i64 0, .int .i64 0, .int .i64 0, .int .i64 0, .slice none 0 0, .slice none 0 0, .slice none 0 0] ds 29 rfl rfl rfl rfl (by rw [HW6.out.2.2.2.2.1]; exact infoSkI) (by rw [HW6.out.2.2.2.2.1]; rfl) HW6.out.2.2.2.2.2 ?_
    intro W7 hg7 hb7
    have HW7 : Hid (RdSk W7 (.agg ds) (skOf l) X ∧ Own W5.heap.size W7 X ∧ Below w.heap.size w W7 ∧ Blk W7 w.heap.size #[.int .i64 0, .int .i64 0, .int .i64 0, .int .i64 0, .slice none 0 0, .slice none 0 0, .slice none 0 0] 29 ∧ Blk W7 W6.heap.size ds 29 ∧ ds.size = 7 ∧ ds.all (·.oneCell') = true) := ⟨HW6.out.1.below hb7, HW6.out.2.1.below HW6.out.1.lt hb7, Below.next HW6.out.2.2.1 hb7, HW6.out.2.2.2.1.below hb7, hg7, HW6.out.2.2.2.2⟩
    clear hg7 hb7 HW6
    go_wp2_with (first | go_skip | (with_reducible refine stopLoad 29 rfl ?_))
    refine load_known 29 W6.heap.size ds 29 _ HW7.out.2.2.2.2.1 rfl rfl rfl Try.underlying29 rfl (by rw [HW7.out.2.2.2.2.2.1]; exact infoSkI) ?_
    go_wp2_with fail
    refine (okImpl_any _ (skOf l) X _ HW7.out.1 (wide_skOf HL.out)).mono ?_
    rintro e W8 ⟨rfl, hb8⟩
    have HW8 : Hid (RdSk W8 (.agg ds) (skOf l) X ∧ Own W5.heap.size W8 X ∧ Below w.heap.size w W8 ∧ Blk W8 w.heap.size #[.int .i64 0, .int .i64 0, .int .i64 0, .int .i64 0, .slice none 0 0, .slice none 0 0, .slice none 0 0] 29 ∧ Blk W8 W6.heap.size ds 29 ∧ ds.size = 7 ∧ ds.all (·.oneCell') = true) := ⟨HW7.out.1.below hb8, HW7.out.2.1.below HW7.out.1.lt hb8, Below.next HW7.out.2.2.1 hb8, HW7.out.2.2.2.1.below hb8, HW7.out.2.2.2.2.1.below hb8, HW7.out.2.2.2.2.2⟩
    clear hb8 HW7
    obtain ⟨d, hd⟩ : ∃ d, d = (skOf l).ok := ⟨_, rfl⟩
    rw [← hd]
    have HD : Hid (d = (skOf l).ok) := hd
    clear hd
    cases d
    · have HV : Hid (SkN l Sk.zero false) := skN_bad (fun q => by rw [← HD.out] at q; cases q.2)
      go_wp2_with (first | go_skip | (with_reducible refine stopStore 29 rfl ?_))
      refine store_known 29 w.heap.size _ #[.int .i64 0, .int .i64 0, .int .i64 0, .int .i64 0, .slice none 0 0, .slice none 0 0, .slice none 0 0] 29 HW8.out.2.2.2.1 rfl rfl rfl rfl infoSkI rfl (by simp [Value.oneCell']) ?_
      go_wp2
      refine bodyPost_ret (results_row_tmp Try.results54 _ _ w.heap.size _ _ _ _ rfl HW8.out.2.2.2.1.setRow Try.underlying29 rfl infoSkI) rfl ?_
      exact ⟨_, Sk.zero, false, [], rfl, rdSk_zero7 _, Own.nil, below_setRow HW8.out.2.2.1 (Nat.le_refl _) _, HV.out⟩
    have HV : Hid (SkN l (skOf l) true) := skN_yes HL.out HD.out.symm
    go_wp2_with (first | go_skip | (with_reducible refine stopLoad 29 rfl ?_))
    refine load_known 29 W6.heap.size ds 29 _ HW8.out.2.2.2.2.1 rfl rfl rfl Try.underlying29 rfl (by rw [HW8.out.2.2.2.2.2.1]; exact infoSkI) ?_
    go_wp2_with (first | go_skip | (with_reducible refine stopStore 29 rfl ?_))
    refine store_known 29 w.heap.size _ ds 29 HW8.out.2.2.2.1 rfl rfl rfl rfl (by rw [HW8.out.2.2.2.2.2.1]; exact infoSkI) (by rw [HW8.out.2.2.2.2.2.1]; rfl) HW8.out.2.2.2.2.2.2 ?_
    have nX : w.heap.size ∉ X := fun hx => by have := HW8.out.2.1.ge _ hx; omega
    have HF : Hid (RdSk (W8.setRow w.heap.size ds) (.agg ds) (skOf l) X ∧ Own w.heap.size (W8.setRow w.heap.size ds) X ∧ Below w.heap.size w (W8.setRow w.heap.size ds) ∧ Blk (W8.setRow w.heap.size ds) w.heap.size ds 29) := ⟨HW8.out.1.agree (Agree.row nX ds), (HW8.out.2.1.agree (Agree.row nX ds)).mono (by omega), below_setRow HW8.out.2.2.1 (Nat.le_refl _) _, HW8.out.2.2.2.1.setRow⟩
    have hds : (Try.prog.info? 29).map (·.size) = some ds.size := by rw [HW8.out.2.2.2.2.2.1]; exact infoSkI
    clear HW8 nX
    go_wp2
    refine bodyPost_ret (results_row_tmp Try.results54 _ _ w.heap.size _ _ _ _ rfl HF.out.2.2.2 Try.underlying29 rfl hds) rfl ?_
    exact ⟨_, skOf l, true, X, rfl, HF.out.1, HF.out.2.1, HF.out.2.2.1, HV.out⟩
theorem skIs_of {zs l : List Int} {s : Sk} {d : Bool} (h : AllIs zs l true) (k : SkN l s d) : SkIs zs s d := by
  unfold AllIs at h
  rw [if_pos rfl] at h
  unfold SkN at k
  cases d <;> simp only [if_true, Bool.false_eq_true, if_false] at k
  · rw [k.1]
    by_cases q : l.length = 28
    · exact skIs_bad h.2 h.1 (by cases e : (skOf l).ok; rfl; exact absurd ⟨q, e⟩ k.2)
    · exact skIs_long q h.2 h.1
  · rw [k.2.1]
    exact skIs_yes k.1 h.1 (by rw [← k.2.1]; exact k.2.2)
set_option maxRecDepth 200000 in
set_option maxHeartbeats 4000000 in
theorem sketchOfImpl_any (a : Option Addr) (len cap : Nat) (zs : List Int) (w : World) (h : RdB w a len zs) (hlen : len ≤ 1048576) (hcap : len ≤ cap) (ha : a = none → cap = 0) :
    Calls Try.prog 20 #[.slice a len cap] w fun e w' => NewSk2 w (SkIs zs) e w' := by
  have HR : Hid (RdB w a len zs ∧ len ≤ cap ∧ (a = none → cap = 0)) := ⟨h, hcap, ha⟩
  have HT : Hid (Blk (w.alloc (.cells #[.int .i64 0, .int .i64 0, .int .i64 0, .int .i64 0, .slice none 0 0, .slice none 0 0, .slice none 0 0] 29)) w.heap.size #[.int .i64 0, .int .i64 0, .int .i64 0, .int .i64 0, .slice none 0 0, .slice none 0 0, .slice none 0 0] 29 ∧ Below w.heap.size w (w.alloc (.cells #[.int .i64 0, .int .i64 0, .int .i64 0, .int .i64 0, .slice none 0 0, .slice none 0 0, .slice none 0 0] 29))) := ⟨Blk.made _ _ _, (Below.refl _ _).alloc (Nat.le_refl _) _⟩
  have hzl := h.length
  clear h hcap ha
  go_enter Try.func20, Try.ntmps20
  go_wp2_with fail
  refine (numbersOfBytes_any a len cap zs _ (HR.out.1.below HT.out.2) hlen HR.out.2.1 HR.out.2.2).mono ?_
  rintro e w1 ⟨⟨v, l, d, rfl, hown, hAll⟩, hb1⟩
  obtain ⟨a1, c1, X1, rfl, hr1, hc1⟩ := rdI_own_cap hown
  have HT1 : Hid (Blk w1 w.heap.size #[.int .i64 0, .int .i64 0, .int .i64 0, .int .i64 0, .slice none 0 0, .slice none 0 0, .slice none 0 0] 29 ∧ Below w.heap.size w w1 ∧ RdI w1 a1 l.length l X1 ∧ l.length ≤ c1 ∧ AllIs zs l d) := ⟨HT.out.1.below hb1, Below.next HT.out.2 hb1, hr1, hc1, hAll⟩
  have hll : l.length ≤ 1048576 := by have := (allIs_len hAll).1; omega
  clear hown hAll hb1 HT hr1 hc1 hzl
  cases d
  · have HV : Hid (SkIs zs Sk.zero false) := skIs_no (by have q := HT1.out.2.2.2.2; unfold AllIs at q; rw [if_neg (by simp)] at q; exact q.2)
    go_wp2_with (first | go_skip | (with_reducible refine stopStore 29 rfl ?_))
    refine store_known 29 w.heap.size _ #[.int .i64 0, .int .i64 0, .int .i64 0, .int .i64 0, .slice none 0 0, .slice none 0 0, .slice none 0 0] 29 HT1.out.1 rfl rfl rfl rfl infoSkI rfl (by simp [Value.oneCell']) ?_
    go_wp2
    refine bodyPost_ret (results_row_tmp Try.results20 _ _ w.heap.size _ _ _ _ rfl HT1.out.1.setRow Try.underlying29 rfl infoSkI) rfl ?_
    exact ⟨_, Sk.zero, false, [], rfl, rdSk_zero7 _, Own.nil, below_setRow HT1.out.2.1 (Nat.le_refl _) _, HV.out⟩
  obtain ⟨n1, hn1⟩ : ∃ n, n = l.length := ⟨_, rfl⟩
  rw [← hn1] at HT1 hll ⊢
  clear hn1
  go_wp2_with fail
  refine (sketchOfNumbers_any a1 n1 c1 l X1 _ HT1.out.2.2.1 hll HT1.out.2.2.2.1).mono ?_
  rintro e w2 ⟨v2, s, d, X, rfl, rs, os, bs, hR⟩
  obtain ⟨ds, rfl, hd7, hdone⟩ := rs.cells
  have HW2 : Hid (RdSk w2 (.agg ds) s X ∧ Own w1.heap.size w2 X ∧ Below w.heap.size w w2 ∧ Blk w2 w.heap.size #[.int .i64 0, .int .i64 0, .int .i64 0, .int .i64 0, .slice none 0 0, .slice none 0 0, .slice none 0 0] 29 ∧ ds.size = 7 ∧ ds.all (·.oneCell') = true ∧ SkIs zs s d) := ⟨rs, os, Below.next HT1.out.2.1 bs, HT1.out.1.below bs, hd7, hdone, skIs_of HT1.out.2.2.2.2 hR⟩
  have lt1 : w.heap.size < w1.heap.size := HT1.out.1.lt
  clear rs os bs hd7 hdone hR HT1
  go_wp2_with (first | go_skip | (with_reducible refine stopStore 29 rfl ?_))
  refine store_known 29 w.heap.size _ ds 29 HW2.out.2.2.2.1 rfl rfl rfl rfl (by rw [HW2.out.2.2.2.2.1]; exact infoSkI) (by rw [HW2.out.2.2.2.2.1]; rfl) HW2.out.2.2.2.2.2.1 ?_
  have nX : w.heap.size ∉ X := fun hx => by have := HW2.out.2.1.ge _ hx; omega
  have HF : Hid (RdSk (w2.setRow w.heap.size ds) (.agg ds) s X ∧ Own w.heap.size (w2.setRow w.heap.size ds) X ∧ Below w.heap.size w (w2.setRow w.heap.size ds) ∧ Blk (w2.setRow w.heap.size ds) w.heap.size ds 29 ∧ SkIs zs s d) := ⟨HW2.out.1.agree (Agree.row nX ds), (HW2.out.2.1.agree (Agree.row nX ds)).mono (by omega), below_setRow HW2.out.2.2.1 (Nat.le_refl _) _, HW2.out.2.2.2.1.setRow, HW2.out.2.2.2.2.2.2⟩
  have hds : (Try.prog.info? 29).map (·.size) = some ds.size := by rw [HW2.out.2.2.2.2.1]; exact infoSkI
  clear HW2 nX
  go_wp2
  refine bodyPost_ret (results_row_tmp Try.results20 _ _ w.heap.size _ _ _ _ rfl HF.out.2.2.2.1 Try.underlying29 rfl hds) rfl ?_
  exact ⟨_, s, d, X, rfl, HF.out.1, HF.out.2.1, HF.out.2.2.1, HF.out.2.2.2.2⟩
end Go.Proofs.Ytjndcfamfminkaq
/- The walk through the program's spansOfNumbers. No statement of the seat is proved here. -/
namespace Go.Proofs.Ytjndcfamfminkaq
open Go.RowKit
/-- These numbers are how many spans, these, and what stands behind; or they are not. -/
def SpansIs (l : List Int) (ps : Sp) (rest : List Int) (d : Bool) : Prop := if d = true then l = (ps.length : Int) :: (flat ps ++ rest) else ps = [] ∧ rest = [] ∧ ∀ (qs : Sp) (r : List Int), l ≠ (qs.length : Int) :: (flat qs ++ r)
theorem spans_no {l : List Int} (h : l.length = 0 ∨ (l.length : Int) - 1 < 2 * l.getD 0 0) : SpansIs l [] [] false := (if_neg (by simp)).mpr ⟨rfl, rfl, fun qs r e => by
  have a := congrArg List.length e
  simp only [List.length_cons, List.length_append, flat_length] at a
  have c : l.getD 0 0 = (qs.length : Int) := by rw [e]; rfl
  rw [c] at h
  omega⟩
def psOf (l : List Int) : Nat → Sp
  | 0 => []
  | k + 1 => psOf l k ++ [(l.getD (1 + 2 * k) 0, l.getD (2 + 2 * k) 0)]
theorem psOf_len (l : List Int) : ∀ k, (psOf l k).length = k
  | 0 => rfl
  | k + 1 => by rw [psOf, List.length_append, psOf_len l k]; rfl
theorem psOf_flat {l : List Int} : ∀ {k : Nat}, 1 + 2 * k ≤ l.length → l = l.getD 0 0 :: (flat (psOf l k) ++ l.drop (1 + 2 * k))
  | 0, h => by
    cases l with
    | nil => simp at h
    | cons a l => rfl
  | k + 1, h => by
    have i := psOf_flat (l := l) (k := k) (by omega)
    have e : l.drop (1 + 2 * k) = l.getD (1 + 2 * k) 0 :: l.getD (2 + 2 * k) 0 :: l.drop (1 + 2 * (k + 1)) := by
      rw [List.drop_eq_getElem_cons (show 1 + 2 * k < l.length by omega), List.drop_eq_getElem_cons (show 1 + 2 * k + 1 < l.length by omega)]
      rw [List.getD_eq_getElem?_getD, List.getElem?_eq_getElem (show 1 + 2 * k < l.length by omega), List.getD_eq_getElem?_getD, List.getElem?_eq_getElem (show 2 + 2 * k < l.length by omega)]
      congr 2
      congr 1; omega
    conv => lhs; rw [i, e]
    rw [psOf, flat_append]
    simp [flat]
theorem spans_yes {l : List Int} {n : Nat} (h0 : l.getD 0 0 = (n : Int)) (h : 1 + 2 * n ≤ l.length) : SpansIs l (psOf l n) (l.drop (1 + 2 * n)) true := (if_pos rfl).mpr (by rw [psOf_len, ← h0]; exact psOf_flat h)
def NewSpans (w : World) (len : Nat) (l : List Int) (e : Ending) (w' : World) : Prop := ∃ b n c a' l' c' ps rest d F G, e = .returned (.tuple #[.slice b n c, .slice a' l' c', .bool d]) ∧ RdP w' b n ps F ∧ Capd b n c ∧ Own w.heap.size w' F ∧ RdI w' a' l' rest G ∧ l' ≤ len ∧ l' ≤ c' ∧ SpansIs l ps rest d ∧ Below w.heap.size w w'
def TwoHeld (p o : Nat) (x y : Int) (W : World) : Prop := W.cell? ⟨p, o, none⟩ = some (.int .i64 x) ∧ W.cell? ⟨p, o + 1, none⟩ = some (.int .i64 y)
theorem RdI.behind {W : World} {b off n : Nat} {l : List Int} {F : List Nat} (h : RdI W (some ⟨b, off, none⟩) n l F) {k : Nat} (hk : k ≤ n) : ∃ G, RdI W (some ⟨b, off + k, none⟩) (n - k) (l.drop k) G := by
  have hl := h.length
  by_cases q : n - k = 0
  · exact ⟨[], by rw [List.length_drop]; omega, .inl ⟨q, rfl⟩⟩
  · rcases h.cells with ⟨h0, _⟩ | ⟨b', off', _, e, hF, hc⟩
    · omega
    · cases e
      refine ⟨F, by rw [List.length_drop]; omega, .inr ⟨b, off + k, by omega, rfl, hF, fun i hi => ?_⟩⟩
      rw [Nat.add_assoc, hc (k + i) (by omega)]
      simp
theorem RdI.nothing {W : World} {a : Option Addr} {l : List Int} (h : l = []) : RdI W a 0 l [] := by subst h; exact ⟨rfl, .inl ⟨rfl, rfl⟩⟩
set_option maxRecDepth 200000 in
set_option maxHeartbeats 8000000 in
theorem spansOfNumbers_any (a : Option Addr) (len cap : Nat) (l : List Int) (F : List Nat) (w : World) (h : RdI w a len l F) (hlen : len ≤ 1048576) (hcap : len ≤ cap) (hn : ∀ x ∈ l, InN x) :
    Calls Try.prog 110 #[.slice a len cap] w fun e w' => NewSpans w len l e w' := by
  obtain ⟨t0, hi, hz0, hz1, hz2⟩ := info_parts infoSpan
  have HL : Hid (l.length = len) := h.length
  by_cases h0 : len = 0
  · subst h0
    have HV : Hid (SpansIs l [] [] false) := spans_no (.inl HL.out)
    have hz : (((0 : Nat) : Int) == 0) = true := by simp
    clear h
    go_enter Try.func110, Try.ntmps110
    go_wp2
    go_ret3
    exact ⟨none, 0, 0, none, 0, 0, [], [], false, [], [], rfl, RdP.nil, ⟨fun _ => rfl, Nat.le_refl _⟩, Own.nil, RdI.nothing rfl, by omega, by omega, HV.out, Below.refl _ _⟩
  obtain ⟨b, off, rfl⟩ := h.addr (by omega)
  have hz : ((len : Int) == 0) = false := by simpa using (by omega : ¬ (len : Int) = 0)
  have HR : Hid (RdI w (some ⟨b, off, none⟩) len l F) := h
  have hmem : l.getD 0 0 ∈ l := mem_getD (d := 0) (by rw [HL.out]; omega)
  obtain ⟨x0, hx0⟩ : ∃ x, x = l.getD 0 0 := ⟨_, rfl⟩
  have c0 : w.cell? ⟨b, off, none⟩ = some (.int .i64 x0) := by
    rcases h.cells with ⟨q, _⟩ | ⟨b', off', _, e, _, hc⟩
    · omega
    · cases e; rw [hx0]; exact hc 0 (by omega)
  have hb0 : b < w.heap.size := World.block_lt_of_cell? _ _ c0
  have hin := hn _ hmem
  rw [← hx0] at hin
  have hi0 : 0 ≤ x0 := hin.1
  have HX0 : Hid (x0 = l.getD 0 0) := hx0
  clear h hmem hin hn hx0
  have hdiv : ((len : Int) - 1).tdiv 2 = ((len : Int) - 1) / 2 := Int.tdiv_eq_ediv_of_nonneg (by omega)
  by_cases hbig : ((len : Int) - 1) / 2 < x0
  · have hbd : decide (((len : Int) - 1) / 2 < x0) = true := dec_true hbig
    have HV : Hid (SpansIs l [] [] false) := spans_no (.inr (by rw [HL.out, ← HX0.out]; omega))
    go_enter Try.func110, Try.ntmps110
    go_wp2
    go_ret3
    exact ⟨none, 0, 0, none, 0, 0, [], [], false, [], [], rfl, RdP.nil, ⟨fun _ => rfl, Nat.le_refl _⟩, Own.nil, RdI.nothing rfl, by omega, by omega, HV.out, Below.refl _ _⟩
  have hbd : decide (((len : Int) - 1) / 2 < x0) = false := dec_false hbig
  obtain ⟨n, rfl⟩ := Int.eq_ofNat_of_zero_le hi0
  have hnl : 1 + 2 * n ≤ len := by omega
  have HV : Hid (SpansIs l (psOf l n) (l.drop (1 + 2 * n)) true) := spans_yes HX0.out.symm (by rw [HL.out]; exact hnl)
  have h1l : (1 : Int) ≤ (len : Int) := by omega
  by_cases hc1 : cap = 1
  · subst hc1
    obtain rfl : n = 0 := by omega
    obtain rfl : len = 1 := by omega
    have HZ : Hid (l.drop (1 + 2 * 0) = []) := List.eq_nil_of_length_eq_zero (by rw [List.length_drop, HL.out])
    go_enter Try.func110, Try.ntmps110
    go_wp2
    refine wp_loop_rounds 1 ?_
    rw [rounds_succ]
    go_wp2
    go_ret3
    exact ⟨none, 0, 0, _, 0, _, [], _, true, [], [], rfl, RdP.nil, ⟨fun _ => rfl, Nat.le_refl _⟩, Own.nil, RdI.nothing HZ.out, by omega, by omega, HV.out, Below.refl _ _⟩
  · go_enter Try.func110, Try.ntmps110
    go_wp2
    clear hdiv hbd hbig hz
    go_loopw [5, 6, 25] (fun v r i wr => ∃ (k : Nat) (ar : Option Addr) (cr : Nat) (G : List Nat), k ≤ n ∧ i = .int .i64 k ∧ r = .slice ar (len - 1 - 2 * k) cr ∧ len - 1 - 2 * k ≤ cr ∧ Hid (RdI w ar (len - 1 - 2 * k) (l.drop (1 + 2 * k)) G) ∧ Hid (wr.ownsRow w.heap.size 103 2 v k ((flat (psOf l k)).map (Value.int .i64)) ∧ Below w.heap.size w wr)) (fun _ _ i _ => n - (intOf i).toNat)
    case atStart =>
      obtain ⟨G, hG⟩ := HR.out.behind (k := 1) (by omega)
      exact ⟨0, _, _, G, by omega, rfl, rfl, by omega, hG, World.ownsRow_nil _ _ _ _, Below.refl _ _⟩
    case round =>
      obtain ⟨k, ar, cr, G, hk, rfl, rfl, hcr, HG, HO⟩ := hrel
      by_cases hlt : k < n
      · obtain ⟨p, o, rfl⟩ := HG.out.addr (by omega)
        obtain ⟨x, hx⟩ : ∃ x, x = l.getD (1 + 2 * k) 0 := ⟨_, rfl⟩
        obtain ⟨y, hy⟩ : ∃ x, x = l.getD (2 + 2 * k) 0 := ⟨_, rfl⟩
        have HPS : Hid (psOf l (k + 1) = psOf l k ++ [(x, y)]) := by show _ = _; rw [psOf, hx, hy]
        have HTW : Hid (∀ W, Below w.heap.size w W → TwoHeld p o x y W) := by
          intro W hb
          rcases (HG.out.below hb).cells with ⟨q, _⟩ | ⟨b', off', _, e, _, hc⟩
          · omega
          · cases e
            refine ⟨?_, ?_⟩
            · have := hc 0 (by omega)
              rw [Nat.add_zero] at this
              rw [this, hx]
              simp
            · have := hc 1 (by omega)
              rw [this, hy]
              simp [show 1 + 2 * k + 1 = 2 + 2 * k by omega]
        have HNX : Hid (∃ G', RdI w (some ⟨p, o + 2, none⟩) (len - 1 - 2 * (k + 1)) (l.drop (1 + 2 * (k + 1))) G') := by
          obtain ⟨G', g⟩ := HG.out.behind (k := 2) (by omega)
          refine ⟨G', ?_⟩
          rw [List.drop_drop, show 1 + 2 * k + 2 = 1 + 2 * (k + 1) by omega, show len - 1 - 2 * k - 2 = len - 1 - 2 * (k + 1) by omega] at g
          exact g
        have hI : (k : Int) < (n : Int) := by omega
        have hl0 : (0 : Int) < ((len - 1 - 2 * k : Nat) : Int) := by omega
        have hl1 : (1 : Int) < ((len - 1 - 2 * k : Nat) : Int) := by omega
        have hl2 : (2 : Int) ≤ ((len - 1 - 2 * k : Nat) : Int) := by omega
        obtain ⟨lr, hlr⟩ : ∃ z, z = len - 1 - 2 * k := ⟨_, rfl⟩
        rw [← hlr] at hcr hl0 hl1 hl2 ⊢
        have HLR : Hid (lr = len - 1 - 2 * k) := hlr
        clear hx hy HG hlr
        go_wp2
        have HS : Hid (TwoHeld p o x y wr.drew) := HTW.out _ HO.out.2.drew
        refine wp_region_held (S := TwoHeld p o x y) (by kernel_rfl) ?_
        change wpAnyH _ _ _ _ _ _ _ _ (World.drew _)
        refine takeH (o := ?o1) 0 (u5) ?h1 ?r1
        case h1 => simp only [aT, aZ]; rfl
        refine ⟨_, by simp [Act.put]; rfl, by kernel_rfl, by kernel_rfl, by kernel_rfl, fun _ _ _ h => h, (.inl ⟨rfl, fun W _ => by go_simp⟩), HS.out, ?_⟩
        refine takeH (o := ?o2) 1 (.slice (some ⟨p, o, none⟩) lr cr) ?h2 ?r2
        case h2 => simp only [aT, aS, aZ]; rfl
        refine ⟨_, by simp [Act.put]; rfl, by kernel_rfl, by kernel_rfl, by kernel_rfl, fun _ _ _ h => h, (.inl ⟨rfl, fun W _ => by go_simp⟩), HS.out, ?_⟩
        refine takeH (o := ?o3) 2 (.pointer (some ⟨p, o, none⟩)) ?h3 ?r3
        case h3 => simp only [aT, aS, aZ]; rfl
        refine ⟨_, by simp [Act.put]; rfl, by kernel_rfl, by kernel_rfl, by kernel_rfl, fun _ _ _ h => h, (.inl ⟨rfl, fun W _ => by go_simp; intro h; omega⟩), HS.out, ?_⟩
        refine takeH (o := ?o4) 3 (.int .i64 x) ?h4 ?r4
        case h4 => simp only [aT, aS, aZ]; rfl
        refine ⟨_, by simp [Act.put]; rfl, by kernel_rfl, by kernel_rfl, by kernel_rfl, fun _ _ _ h => h, (.inl ⟨rfl, fun W hW => by have c := hW.1; go_simp⟩), HS.out, ?_⟩
        refine takeH (o := ?o5) 4 (.slice (some ⟨p, o, none⟩) lr cr) ?h5 ?r5
        case h5 => simp only [aT, aS, aZ]; rfl
        refine ⟨_, by simp [Act.put]; rfl, by kernel_rfl, by kernel_rfl, by kernel_rfl, fun _ _ _ h => h, (.inl ⟨rfl, fun W _ => by go_simp⟩), HS.out, ?_⟩
        refine takeH (o := ?o6) 5 (.pointer (some ⟨p, o + 1, none⟩)) ?h6 ?r6
        case h6 => simp only [aT, aS, aZ]; rfl
        refine ⟨_, by simp [Act.put]; rfl, by kernel_rfl, by kernel_rfl, by kernel_rfl, fun _ _ _ h => h, (.inl ⟨rfl, fun W _ => by go_simp⟩), HS.out, ?_⟩
        refine takeH (o := ?o7) 6 (.int .i64 y) ?h7 ?r7
        case h7 => simp only [aT, aS, aZ]; rfl
        refine ⟨_, by simp [Act.put]; rfl, by kernel_rfl, by kernel_rfl, by kernel_rfl, fun _ _ _ h => h, (.inl ⟨rfl, fun W hW => by have c := hW.2; go_simp⟩), HS.out, ?_⟩
        refine takeH (o := ?o8) 7 (.agg #[.int .i64 x, .int .i64 y]) ?h8 ?r8
        case h8 => simp only [aT, aS, aZ]; rfl
        refine ⟨_, by simp [Act.put]; rfl, by kernel_rfl, by kernel_rfl, by kernel_rfl, fun _ _ _ h => h, (.inl ⟨rfl, fun W _ => by go_simp⟩), HS.out, ?_⟩
        refine onlyH (o := ?o9) 8 (by kernel_rfl) ?h9 ?r9
        case h9 => simp only [aT, aS, aZ]; rfl
        intro K hK
        have bA : Below w.heap.size w (wr.drew.alloc (.cells #[.int .i64 x, .int .i64 y] 103)) := Below.allocW _ HO.out.2.drew (Nat.le_refl _)
        have HO1 : Hid ((wr.drew.alloc (.cells #[.int .i64 x, .int .i64 y] 103)).ownsRow w.heap.size 103 2 u5 k ((flat (psOf l k)).map (Value.int .i64)) ∧ Below w.heap.size w (wr.drew.alloc (.cells #[.int .i64 x, .int .i64 y] 103))) := ⟨World.ownsRow.alloc (w := wr.drew) HO.out.1 _, bA⟩
        refine op_turn (.slice (some ⟨wr.heap.size, 0, none⟩) 1 1) (wr.drew.alloc (.cells #[.int .i64 x, .int .i64 y] 103)) rfl (by go_simp) ⟨_, by simp [Act.put]; rfl, hK _ _ ⟨HTW.out _ bA, ?_⟩⟩
        clear hK bA
        refine onlyH (o := ?o10) 9 (by kernel_rfl) ?h10 ?r10
        case h10 => simp only [aT, aS, aZ]; rfl
        intro K hK
        refine op_append7 _ _ 47 rfl rfl w.heap.size 103 t0 (.agg #[.int .i64 0, .int .i64 0]) 2 16 Try.underlying47 hi hz0 hz1 hz2 rfl (by decide) _ _ _ rfl HO1.out.1 ⟨wr.heap.size, 0, none⟩ 1 1 [.int .i64 x, .int .i64 y] rfl rfl (cell_new2 wr.drew (.int .i64 x) (.int .i64 y) _) (by intro u hu; simp at hu; rcases hu with rfl | rfl <;> rfl) (by unfold maxLen; omega) (by omega) HO1.out.2.size ?_
        intro v2 w2 hown hgrow
        have HO2 : Hid (w2.ownsRow w.heap.size 103 2 v2 (k + 1) ((flat (psOf l (k + 1))).map (Value.int .i64)) ∧ Below w.heap.size w w2) := by
          refine ⟨?_, HO1.out.2.grown hgrow HO1.out.2.size (fun g hg => (HO1.out.1.lt g hg).1)⟩
          rw [HPS.out, flat_append, List.map_append]
          exact hown
        clear hown hgrow HO1 HO
        refine ⟨_, by simp [Act.put]; rfl, hK _ _ ⟨HTW.out _ HO2.out.2, ?_⟩⟩
        clear hK
        refine onlyH (o := ?o11) 10 (by kernel_rfl) ?h11 ?r11
        case h11 => simp only [aT, aS, aZ]; rfl
        intro K hK
        refine op_value v2 rfl (by go_simp) ⟨_, by simp [Act.put]; rfl, hK _ _ ⟨HTW.out _ HO2.out.2, ?_⟩⟩
        clear hK
        refine wpAnyH_done (by kernel_rfl) ?_ _
        go_wp2
        all_goals
          go_roundw
          case rel =>
            by_cases hc2 : cr = 2
            · have e : len - 1 - 2 * (k + 1) = 0 := by have := HLR.out; omega
              have e2 : lr - 2 = len - 1 - 2 * (k + 1) := by have := HLR.out; omega
              exact ⟨k + 1, some ⟨p, o, none⟩, cr - 2, [], by omega, by go_num, by rw [e2, if_pos hc2], by omega, by rw [e]; exact RdI.nothing (List.eq_nil_of_length_eq_zero (by rw [List.length_drop, HL.out]; omega)), HO2⟩
            · obtain ⟨G', g⟩ := HNX.out
              have e2 : lr - 2 = len - 1 - 2 * (k + 1) := by have := HLR.out; omega
              exact ⟨k + 1, some ⟨p, o + 2, none⟩, cr - 2, G', by omega, by go_num, by rw [e2, if_neg hc2], by omega, g, HO2⟩
          case measure => simp [intOf]; omega
      · obtain rfl : k = n := by omega
        obtain ⟨bb, cc, FF, rfl, hrp, hoo, hcd⟩ := rdP_of_own HO.out.1
        have HRP : Hid (RdP wr bb k (psOf l k) FF ∧ Own w.heap.size wr FF ∧ Capd bb k cc) := ⟨hrp, hoo, hcd⟩
        clear hrp hoo hcd
        go_wp2
        go_ret3
        exact ⟨bb, k, cc, ar, _, cr, psOf l k, _, true, FF, G, rfl, HRP.out.1, HRP.out.2.2, HRP.out.2.1, HG.out.below HO.out.2, by omega, hcr, HV.out, HO.out.2⟩
end Go.Proofs.Ytjndcfamfminkaq
/- The walk through the program's itemOfNumbers. No statement of the seat is proved here. -/
namespace Go.Proofs.Ytjndcfamfminkaq
open Go.RowKit
/-- These numbers are that item's, in a frame of that kind; or no item's. -/
def ItemIs (kind : Int) (l : List Int) (x : It) (d : Bool) : Prop := if d = true then (if kind = 1 then l = [x.seq, x.cls, x.key, x.window] ++ x.sk.nums ∧ x.sk.ok = true else l = [] ∧ x = It.zero) else (kind = 1 → ∀ y : It, y.sk.ok = true → l ≠ [y.seq, y.cls, y.key, y.window] ++ y.sk.nums) ∧ (kind ≠ 1 → l ≠ [])
def NewIt2 (w : World) (R : It → Bool → Prop) (e : Ending) (w' : World) : Prop := ∃ v x d F, e = .returned (.tuple #[v, .bool d]) ∧ RdIt w' v x F ∧ Own w.heap.size w' F ∧ Below w.heap.size w w' ∧ x.sk.wide ∧ R x d
theorem item_other {kind : Int} {l : List Int} {len : Nat} (hl : l.length = len) (hk : ¬ kind = 1) : ItemIs kind l It.zero ((len : Int) == 0) := by
  unfold ItemIs
  by_cases q : len = 0
  · have e : (((len : Nat) : Int) == 0) = true := by simpa using q
    rw [e, if_pos rfl, if_neg hk]
    exact ⟨List.eq_nil_of_length_eq_zero (by omega), rfl⟩
  · have e : (((len : Nat) : Int) == 0) = false := by simpa using q
    rw [e, if_neg (by simp)]
    exact ⟨fun h => absurd h hk, fun _ h => q (by rw [← hl, h]; rfl)⟩
theorem item_short {l : List Int} (hl : l.length < 4) : ItemIs 1 l It.zero false := by
  refine (if_neg (by simp)).mpr ⟨fun _ y _ e => ?_, fun h => absurd rfl h⟩
  have := congrArg List.length e
  simp only [List.length_append, List.length_cons, List.length_nil] at this
  omega
theorem split4 {l : List Int} (h : 4 ≤ l.length) : l = [l.getD 0 0, l.getD 1 0, l.getD 2 0, l.getD 3 0] ++ l.drop 4 := by
  match l, h with
  | a :: b :: c :: d :: r, _ => rfl
theorem item_of {l : List Int} {s : Sk} {d : Bool} (h : 4 ≤ l.length) (k : SkN (l.drop 4) s d) : ItemIs 1 l ⟨l.getD 0 0, l.getD 1 0, l.getD 2 0, l.getD 3 0, s⟩ d := by
  unfold SkN at k
  unfold ItemIs
  cases d <;> simp only [if_true, Bool.false_eq_true, if_false] at k ⊢
  · refine ⟨fun _ y hy e => ?_, fun h => absurd rfl h⟩
    have e2 : l.drop 4 = y.sk.nums := by rw [e]; rfl
    refine k.2 ?_
    rw [e2, nums_skOf (Sk.ok_lens hy).1]
    exact ⟨Sk.nums_len (Sk.ok_lens hy).1, hy⟩
  · refine ⟨?_, k.2.2⟩
    rw [k.2.1, skOf_nums k.1]
    exact split4 h
theorem skN_wide {l : List Int} {s : Sk} {d : Bool} (k : SkN l s d) : s.wide := by
  unfold SkN at k
  cases d <;> simp only [if_true, Bool.false_eq_true, if_false] at k
  · rw [k.1]; exact It.zero_wide
  · rw [k.2.1]; exact wide_skOf k.1
theorem RdI.rest {W : World} {b off n cap : Nat} {l : List Int} {F : List Nat} (h : RdI W (some ⟨b, off, none⟩) n l F) (k : Nat) (hk : k ≤ n) (hc : n ≤ cap) : ∃ G, RdI W (if cap = k then some ⟨b, off, none⟩ else some ⟨b, off + k, none⟩) (n - k) (l.drop k) G := by
  by_cases q : cap = k
  · have e : n - k = 0 := by omega
    rw [e]
    exact ⟨[], RdI.nothing (List.eq_nil_of_length_eq_zero (by rw [List.length_drop, h.length]; exact e))⟩
  · rw [if_neg q]
    exact h.behind hk
def NumSkHeld (b off : Nat) (x0 x1 x2 x3 : Int) (g : Nat) (ds : Array Value) (W : World) : Prop := NumHeld b off x0 x1 x2 x3 W ∧ Blk W g ds 29
set_option maxRecDepth 200000 in
set_option maxHeartbeats 4000000 in
theorem itemOfNumbers_any (a : Option Addr) (len cap : Nat) (kind : Int) (l : List Int) (F : List Nat) (w : World) (h : RdI w a len l F) (hlen : len ≤ 1048576) (hcap : len ≤ cap) :
    Calls Try.prog 111 #[.slice a len cap, .int .i64 kind] w fun e w' => NewIt2 w (ItemIs kind l) e w' := by
  have HL : Hid (l.length = len) := h.length
  have HT : Hid (Blk (w.alloc (.cells #[.int .i64 0, .int .i64 0, .int .i64 0, .int .i64 0, .int .i64 0, .int .i64 0, .int .i64 0, .int .i64 0, .slice none 0 0, .slice none 0 0, .slice none 0 0] 49)) w.heap.size #[.int .i64 0, .int .i64 0, .int .i64 0, .int .i64 0, .int .i64 0, .int .i64 0, .int .i64 0, .int .i64 0, .slice none 0 0, .slice none 0 0, .slice none 0 0] 49 ∧ Below w.heap.size w (w.alloc (.cells #[.int .i64 0, .int .i64 0, .int .i64 0, .int .i64 0, .int .i64 0, .int .i64 0, .int .i64 0, .int .i64 0, .slice none 0 0, .slice none 0 0, .slice none 0 0] 49))) := ⟨Blk.made _ _ _, (Below.refl _ _).alloc (Nat.le_refl _) _⟩
  by_cases hk : kind = 1
  rotate_left
  · have hkb : (kind != 1) = true := by simpa using hk
    have HV : Hid (ItemIs kind l It.zero ((len : Int) == 0)) := item_other HL.out hk
    obtain ⟨d, hd⟩ : ∃ d, d = ((len : Int) == 0) := ⟨_, rfl⟩
    rw [← hd] at HV
    clear h hk
    go_enter Try.func111, Try.ntmps111
    go_wp2_with (first | go_skip | (with_reducible refine stopStore 49 rfl ?_))
    refine store_known 49 w.heap.size _ #[.int .i64 0, .int .i64 0, .int .i64 0, .int .i64 0, .int .i64 0, .int .i64 0, .int .i64 0, .int .i64 0, .slice none 0 0, .slice none 0 0, .slice none 0 0] 49 HT.out.1 rfl rfl rfl rfl infoItA7 rfl (by simp [Value.oneCell']) ?_
    go_wp2
    refine bodyPost_ret (results_row_tmp Try.results111 _ _ w.heap.size _ _ _ _ rfl HT.out.1.setRow Try.underlying49 rfl infoItA7) rfl ?_
    exact ⟨_, It.zero, d, [], by rw [hd]; rfl, rdIt_zero _, Own.nil, below_setRow HT.out.2 (Nat.le_refl _) _, It.zero_wide, HV.out⟩
  subst hk
  have hkb : ((1 : Int) != 1) = false := by simp
  by_cases h4 : len < 4
  · have h4b : decide ((len : Int) < 4) = true := dec_true (by omega)
    have HV : Hid (ItemIs 1 l It.zero false) := item_short (by rw [HL.out]; exact h4)
    clear h
    go_enter Try.func111, Try.ntmps111
    go_wp2_with (first | go_skip | (with_reducible refine stopStore 49 rfl ?_))
    refine store_known 49 w.heap.size _ #[.int .i64 0, .int .i64 0, .int .i64 0, .int .i64 0, .int .i64 0, .int .i64 0, .int .i64 0, .int .i64 0, .slice none 0 0, .slice none 0 0, .slice none 0 0] 49 HT.out.1 rfl rfl rfl rfl infoItA7 rfl (by simp [Value.oneCell']) ?_
    go_wp2
    refine bodyPost_ret (results_row_tmp Try.results111 _ _ w.heap.size _ _ _ _ rfl HT.out.1.setRow Try.underlying49 rfl infoItA7) rfl ?_
    exact ⟨_, It.zero, false, [], rfl, rdIt_zero _, Own.nil, below_setRow HT.out.2 (Nat.le_refl _) _, It.zero_wide, HV.out⟩
  have h4b : decide ((len : Int) < 4) = false := dec_false (by omega)
  have h4i : (4 : Int) ≤ (len : Int) := by omega
  obtain ⟨b, off, rfl⟩ := h.addr (by omega)
  have HR : Hid (RdI w (some ⟨b, off, none⟩) len l F) := h
  obtain ⟨x0, hx0⟩ : ∃ x, x = l.getD 0 0 := ⟨_, rfl⟩
  obtain ⟨x1, hx1⟩ : ∃ x, x = l.getD 1 0 := ⟨_, rfl⟩
  obtain ⟨x2, hx2⟩ : ∃ x, x = l.getD 2 0 := ⟨_, rfl⟩
  obtain ⟨x3, hx3⟩ : ∃ x, x = l.getD 3 0 := ⟨_, rfl⟩
  have HX : Hid (x0 = l.getD 0 0 ∧ x1 = l.getD 1 0 ∧ x2 = l.getD 2 0 ∧ x3 = l.getD 3 0) := ⟨hx0, hx1, hx2, hx3⟩
  have HKN : Hid (∀ W, Below w.heap.size w W → NumHeld b off x0 x1 x2 x3 W) := fun W hb => by rw [hx0, hx1, hx2, hx3]; exact (HR.out.below hb).numHeld (by omega)
  by_cases hc4 : cap = 4
  · obtain ⟨G, hG⟩ := (h.below HT.out.2).rest (cap := cap) 4 (by omega) hcap
    rw [if_pos hc4] at hG
    have HG : Hid (RdI (w.alloc (.cells #[.int .i64 0, .int .i64 0, .int .i64 0, .int .i64 0, .int .i64 0, .int .i64 0, .int .i64 0, .int .i64 0, .slice none 0 0, .slice none 0 0, .slice none 0 0] 49)) (some ⟨b, off, none⟩) (len - 4) (l.drop 4) G) := hG
    clear h hx0 hx1 hx2 hx3 hG
    go_enter Try.func111, Try.ntmps111
    go_wp2_with fail
    refine (sketchOfNumbers_any _ (len - 4) _ (l.drop 4) G _ HG.out (by omega) (by omega)).mono ?_
    rintro e w1 ⟨v1, s, d, X, rfl, rs, os, bs, hN⟩
    obtain ⟨a1, n1, c1, a2, n2, c2, a3, n3, c3, F1, F2, F3, rfl, r1, r2, r3, hXF⟩ := rs
    have HRS : Hid (RdSk w1 (.agg #[.int .i64 s.count, .int .i64 s.sum, .int .i64 s.min, .int .i64 s.max, .slice a1 n1 c1, .slice a2 n2 c2, .slice a3 n3 c3]) s X ∧ Own (w.heap.size + 1) w1 X ∧ SkN (l.drop 4) s d) := ⟨⟨a1, n1, c1, a2, n2, c2, a3, n3, c3, F1, F2, F3, rfl, r1, r2, r3, hXF⟩, by simpa using os, hN⟩
    have HT1 : Hid (Blk w1 w.heap.size #[.int .i64 0, .int .i64 0, .int .i64 0, .int .i64 0, .int .i64 0, .int .i64 0, .int .i64 0, .int .i64 0, .slice none 0 0, .slice none 0 0, .slice none 0 0] 49 ∧ Below w.heap.size w w1) := ⟨HT.out.1.below bs, Below.next HT.out.2 bs⟩
    clear r1 r2 r3 hXF os bs hN HT HG
    go_wp2_with (first | go_skip | (with_reducible refine stopStore 29 rfl ?_))
    refine store_fresh 29 w1.heap.size rfl #[.int .i64 0, .int .i64 0, .int .i64 0, .int .i64 0, .slice none 0 0, .slice none 0 0, .slice none 0 0] #[.int .i64 s.count, .int .i64 s.sum, .int .i64 s.min, .int .i64 s.max, .slice a1 n1 c1, .slice a2 n2 c2, .slice a3 n3 c3] 29 rfl rfl rfl rfl infoSkI rfl (by simp [Value.oneCell']) ?_
    intro W2 hg2 hb2
    have HW2 : Hid (NumSkHeld b off x0 x1 x2 x3 w1.heap.size #[.int .i64 s.count, .int .i64 s.sum, .int .i64 s.min, .int .i64 s.max, .slice a1 n1 c1, .slice a2 n2 c2, .slice a3 n3 c3] W2.drew ∧ Below w.heap.size w W2.drew ∧ Blk W2.drew w.heap.size #[.int .i64 0, .int .i64 0, .int .i64 0, .int .i64 0, .int .i64 0, .int .i64 0, .int .i64 0, .int .i64 0, .slice none 0 0, .slice none 0 0, .slice none 0 0] 49 ∧ RdSk W2.drew (.agg #[.int .i64 s.count, .int .i64 s.sum, .int .i64 s.min, .int .i64 s.max, .slice a1 n1 c1, .slice a2 n2 c2, .slice a3 n3 c3]) s X ∧ Own (w.heap.size + 1) W2.drew X) := by
      have bb := (Below.next HT1.out.2 hb2).drew
      exact ⟨⟨HKN.out _ bb, hg2.drew⟩, bb, (HT1.out.1.below hb2).drew, (HRS.out.1.below hb2).below (Below.refl _ _).drew, (HRS.out.2.1.below HRS.out.1.lt hb2).agree (fun _ _ => rfl)⟩
    have lt1 : w.heap.size < w1.heap.size := HT1.out.1.lt
    clear hg2 hb2 HT1
    go_wp2
    refine wp_region_held (S := NumSkHeld b off x0 x1 x2 x3 w1.heap.size #[.int .i64 s.count, .int .i64 s.sum, .int .i64 s.min, .int .i64 s.max, .slice a1 n1 c1, .slice a2 n2 c2, .slice a3 n3 c3]) (by kernel_rfl) ?_
    change wpAnyH _ _ _ _ _ _ _ _ (World.drew _)
    refine takeH (o := ?oa1) 0 (.slice (some ⟨b, off, none⟩) len cap) ?ha1 ?ra1
    case ha1 => simp only [aT, aZ]; rfl
    refine ⟨_, by simp [Act.put]; rfl, by kernel_rfl, by kernel_rfl, by kernel_rfl, fun _ _ _ h => h, (.inl ⟨rfl, fun W _ => by go_simp⟩), HW2.out.1, ?_⟩
    refine takeH (o := ?oa2) 1 (.pointer (some ⟨b, off, none⟩)) ?ha2 ?ra2
    case ha2 => simp only [aT, aS, aZ]; rfl
    refine ⟨_, by simp [Act.put]; rfl, by kernel_rfl, by kernel_rfl, by kernel_rfl, fun _ _ _ h => h, (.inl ⟨rfl, fun W _ => by (have q0 : (0 : Int) < (len : Int) := by omega); first | (go_simp; done) | (go_simp; intro h; omega)⟩), HW2.out.1, ?_⟩
    refine takeH (o := ?oa3) 2 (.int .i64 x0) ?ha3 ?ra3
    case ha3 => simp only [aT, aS, aZ]; rfl
    refine ⟨_, by simp [Act.put]; rfl, by kernel_rfl, by kernel_rfl, by kernel_rfl, fun _ _ _ h => h, (.inl ⟨rfl, fun W hW => by have c := hW.1.1; go_simp⟩), HW2.out.1, ?_⟩
    refine takeH (o := ?oa4) 3 (.slice (some ⟨b, off, none⟩) len cap) ?ha4 ?ra4
    case ha4 => simp only [aT, aS, aZ]; rfl
    refine ⟨_, by simp [Act.put]; rfl, by kernel_rfl, by kernel_rfl, by kernel_rfl, fun _ _ _ h => h, (.inl ⟨rfl, fun W _ => by go_simp⟩), HW2.out.1, ?_⟩
    refine takeH (o := ?oa5) 4 (.pointer (some ⟨b, off + 1, none⟩)) ?ha5 ?ra5
    case ha5 => simp only [aT, aS, aZ]; rfl
    refine ⟨_, by simp [Act.put]; rfl, by kernel_rfl, by kernel_rfl, by kernel_rfl, fun _ _ _ h => h, (.inl ⟨rfl, fun W _ => by (have q1 : (1 : Int) < (len : Int) := by omega); first | (go_simp; done) | (go_simp; intro h; omega)⟩), HW2.out.1, ?_⟩
    refine takeH (o := ?oa6) 5 (.int .i64 x1) ?ha6 ?ra6
    case ha6 => simp only [aT, aS, aZ]; rfl
    refine ⟨_, by simp [Act.put]; rfl, by kernel_rfl, by kernel_rfl, by kernel_rfl, fun _ _ _ h => h, (.inl ⟨rfl, fun W hW => by have c := hW.1.2.1; go_simp⟩), HW2.out.1, ?_⟩
    refine takeH (o := ?oa7) 6 (.slice (some ⟨b, off, none⟩) len cap) ?ha7 ?ra7
    case ha7 => simp only [aT, aS, aZ]; rfl
    refine ⟨_, by simp [Act.put]; rfl, by kernel_rfl, by kernel_rfl, by kernel_rfl, fun _ _ _ h => h, (.inl ⟨rfl, fun W _ => by go_simp⟩), HW2.out.1, ?_⟩
    refine takeH (o := ?oa8) 7 (.pointer (some ⟨b, off + 2, none⟩)) ?ha8 ?ra8
    case ha8 => simp only [aT, aS, aZ]; rfl
    refine ⟨_, by simp [Act.put]; rfl, by kernel_rfl, by kernel_rfl, by kernel_rfl, fun _ _ _ h => h, (.inl ⟨rfl, fun W _ => by (have q2 : (2 : Int) < (len : Int) := by omega); first | (go_simp; done) | (go_simp; intro h; omega)⟩), HW2.out.1, ?_⟩
    refine takeH (o := ?oa9) 8 (.int .i64 x2) ?ha9 ?ra9
    case ha9 => simp only [aT, aS, aZ]; rfl
    refine ⟨_, by simp [Act.put]; rfl, by kernel_rfl, by kernel_rfl, by kernel_rfl, fun _ _ _ h => h, (.inl ⟨rfl, fun W hW => by have c := hW.1.2.2.1; go_simp⟩), HW2.out.1, ?_⟩
    refine takeH (o := ?oa10) 9 (.slice (some ⟨b, off, none⟩) len cap) ?ha10 ?ra10
    case ha10 => simp only [aT, aS, aZ]; rfl
    refine ⟨_, by simp [Act.put]; rfl, by kernel_rfl, by kernel_rfl, by kernel_rfl, fun _ _ _ h => h, (.inl ⟨rfl, fun W _ => by go_simp⟩), HW2.out.1, ?_⟩
    refine takeH (o := ?oa11) 10 (.pointer (some ⟨b, off + 3, none⟩)) ?ha11 ?ra11
    case ha11 => simp only [aT, aS, aZ]; rfl
    refine ⟨_, by simp [Act.put]; rfl, by kernel_rfl, by kernel_rfl, by kernel_rfl, fun _ _ _ h => h, (.inl ⟨rfl, fun W _ => by (have q3 : (3 : Int) < (len : Int) := by omega); first | (go_simp; done) | (go_simp; intro h; omega)⟩), HW2.out.1, ?_⟩
    refine takeH (o := ?oa12) 11 (.int .i64 x3) ?ha12 ?ra12
    case ha12 => simp only [aT, aS, aZ]; rfl
    refine ⟨_, by simp [Act.put]; rfl, by kernel_rfl, by kernel_rfl, by kernel_rfl, fun _ _ _ h => h, (.inl ⟨rfl, fun W hW => by have c := hW.1.2.2.2; go_simp⟩), HW2.out.1, ?_⟩
    refine takeH (o := ?oa13) 12 (.agg #[.int .i64 s.count, .int .i64 s.sum, .int .i64 s.min, .int .i64 s.max, .slice a1 n1 c1, .slice a2 n2 c2, .slice a3 n3 c3]) ?ha13 ?ra13
    case ha13 => simp only [aT, aS, aZ]; rfl
    refine ⟨_, by simp [Act.put]; rfl, by kernel_rfl, by kernel_rfl, by kernel_rfl, fun _ _ _ h => h, (yields_whole 29 w1.heap.size #[.int .i64 s.count, .int .i64 s.sum, .int .i64 s.min, .int .i64 s.max, .slice a1 n1 c1, .slice a2 n2 c2, .slice a3 n3 c3] 29 _ rfl rfl rfl Try.underlying29 rfl infoSkI (fun W hW => hW.2)), HW2.out.1, ?_⟩
    refine takeH (o := ?oa14) 13 (.agg #[.int .i64 x0, .int .i64 x1, .int .i64 x2, .int .i64 x3, .int .i64 s.count, .int .i64 s.sum, .int .i64 s.min, .int .i64 s.max, .slice a1 n1 c1, .slice a2 n2 c2, .slice a3 n3 c3]) ?ha14 ?ra14
    case ha14 => simp only [aT, aS, aZ]; rfl
    refine ⟨_, by simp [Act.put]; rfl, by kernel_rfl, by kernel_rfl, by kernel_rfl, fun _ _ _ h => h, (.inl ⟨rfl, fun W _ => by go_simp⟩), HW2.out.1, ?_⟩
    refine takeH (o := ?oa15) 14 (.bool d) ?ha15 ?ra15
    case ha15 => simp only [aT, aS, aZ]; rfl
    refine ⟨_, by simp [Act.put]; rfl, by kernel_rfl, by kernel_rfl, by kernel_rfl, fun _ _ _ h => h, (.inl ⟨rfl, fun W _ => by go_simp⟩), HW2.out.1, ?_⟩
    refine onlyH (o := ?oa16) 15 (by kernel_rfl) ?ha16 ?ra16
    case ha16 => simp only [aT, aS, aZ]; rfl
    intro K hK
    have bV : Below w.heap.size w (W2.drew.setRow w.heap.size #[.int .i64 x0, .int .i64 x1, .int .i64 x2, .int .i64 x3, .int .i64 s.count, .int .i64 s.sum, .int .i64 s.min, .int .i64 s.max, .slice a1 n1 c1, .slice a2 n2 c2, .slice a3 n3 c3]) := below_setRow HW2.out.2.1 (Nat.le_refl _) _
    have nX : w.heap.size ∉ X := fun hx => by have := HW2.out.2.2.2.2.ge _ hx; omega
    have HV2 : Hid (NumSkHeld b off x0 x1 x2 x3 w1.heap.size #[.int .i64 s.count, .int .i64 s.sum, .int .i64 s.min, .int .i64 s.max, .slice a1 n1 c1, .slice a2 n2 c2, .slice a3 n3 c3] (W2.drew.setRow w.heap.size #[.int .i64 x0, .int .i64 x1, .int .i64 x2, .int .i64 x3, .int .i64 s.count, .int .i64 s.sum, .int .i64 s.min, .int .i64 s.max, .slice a1 n1 c1, .slice a2 n2 c2, .slice a3 n3 c3]) ∧ Below w.heap.size w (W2.drew.setRow w.heap.size #[.int .i64 x0, .int .i64 x1, .int .i64 x2, .int .i64 x3, .int .i64 s.count, .int .i64 s.sum, .int .i64 s.min, .int .i64 s.max, .slice a1 n1 c1, .slice a2 n2 c2, .slice a3 n3 c3]) ∧ Blk (W2.drew.setRow w.heap.size #[.int .i64 x0, .int .i64 x1, .int .i64 x2, .int .i64 x3, .int .i64 s.count, .int .i64 s.sum, .int .i64 s.min, .int .i64 s.max, .slice a1 n1 c1, .slice a2 n2 c2, .slice a3 n3 c3]) w.heap.size #[.int .i64 x0, .int .i64 x1, .int .i64 x2, .int .i64 x3, .int .i64 s.count, .int .i64 s.sum, .int .i64 s.min, .int .i64 s.max, .slice a1 n1 c1, .slice a2 n2 c2, .slice a3 n3 c3] 49 ∧ RdSk (W2.drew.setRow w.heap.size #[.int .i64 x0, .int .i64 x1, .int .i64 x2, .int .i64 x3, .int .i64 s.count, .int .i64 s.sum, .int .i64 s.min, .int .i64 s.max, .slice a1 n1 c1, .slice a2 n2 c2, .slice a3 n3 c3]) (.agg #[.int .i64 s.count, .int .i64 s.sum, .int .i64 s.min, .int .i64 s.max, .slice a1 n1 c1, .slice a2 n2 c2, .slice a3 n3 c3]) s X ∧ Own w.heap.size (W2.drew.setRow w.heap.size #[.int .i64 x0, .int .i64 x1, .int .i64 x2, .int .i64 x3, .int .i64 s.count, .int .i64 s.sum, .int .i64 s.min, .int .i64 s.max, .slice a1 n1 c1, .slice a2 n2 c2, .slice a3 n3 c3]) X) := ⟨⟨HKN.out _ bV, HW2.out.1.2.setRowOther (by omega)⟩, bV, HW2.out.2.2.1.setRow, HW2.out.2.2.2.1.agree (Agree.row nX _), (HW2.out.2.2.2.2.agree (Agree.row nX _)).mono (by omega)⟩
    refine op_store 49 w.heap.size #[.int .i64 0, .int .i64 0, .int .i64 0, .int .i64 0, .int .i64 0, .int .i64 0, .int .i64 0, .int .i64 0, .slice none 0 0, .slice none 0 0, .slice none 0 0] #[.int .i64 x0, .int .i64 x1, .int .i64 x2, .int .i64 x3, .int .i64 s.count, .int .i64 s.sum, .int .i64 s.min, .int .i64 s.max, .slice a1 n1 c1, .slice a2 n2 c2, .slice a3 n3 c3] 49 rfl rfl rfl rfl HW2.out.2.2.1 infoItA7 rfl (by simp [Value.oneCell']) ⟨_, by simp [Act.put]; rfl, hK _ _ ⟨HV2.out.1, ?_⟩⟩
    clear hK bV nX HW2
    refine onlyH (o := ?oa17) 16 (by kernel_rfl) ?ha17 ?ra17
    case ha17 => simp only [aT, aS, aZ]; rfl
    intro K hK
    refine op_value (.bool d) rfl (by go_simp) ⟨_, by simp [Act.put]; rfl, hK _ _ ⟨HV2.out.1, ?_⟩⟩
    clear hK
    refine wpAnyH_done (by kernel_rfl) ?_ _
    go_wp2
    refine bodyPost_ret (results_row_tmp Try.results111 _ _ w.heap.size _ _ _ _ rfl HV2.out.2.2.1 Try.underlying49 rfl infoItA7) rfl ?_
    have hit := item_of (l := l) (by rw [HL.out]; omega) HRS.out.2.2
    rw [← HX.out.1, ← HX.out.2.1, ← HX.out.2.2.1, ← HX.out.2.2.2] at hit
    exact ⟨_, ⟨x0, x1, x2, x3, s⟩, d, X, rfl, ⟨a1, n1, c1, a2, n2, c2, a3, n3, c3, rfl, HV2.out.2.2.2.1⟩, HV2.out.2.2.2.2, HV2.out.2.1, skN_wide HRS.out.2.2, hit⟩
  · obtain ⟨G, hG⟩ := (h.below HT.out.2).rest (cap := cap) 4 (by omega) hcap
    rw [if_neg hc4] at hG
    have HG : Hid (RdI (w.alloc (.cells #[.int .i64 0, .int .i64 0, .int .i64 0, .int .i64 0, .int .i64 0, .int .i64 0, .int .i64 0, .int .i64 0, .slice none 0 0, .slice none 0 0, .slice none 0 0] 49)) (some ⟨b, off + 4, none⟩) (len - 4) (l.drop 4) G) := hG
    clear h hx0 hx1 hx2 hx3 hG
    go_enter Try.func111, Try.ntmps111
    go_wp2_with fail
    refine (sketchOfNumbers_any _ (len - 4) _ (l.drop 4) G _ HG.out (by omega) (by omega)).mono ?_
    rintro e w1 ⟨v1, s, d, X, rfl, rs, os, bs, hN⟩
    obtain ⟨a1, n1, c1, a2, n2, c2, a3, n3, c3, F1, F2, F3, rfl, r1, r2, r3, hXF⟩ := rs
    have HRS : Hid (RdSk w1 (.agg #[.int .i64 s.count, .int .i64 s.sum, .int .i64 s.min, .int .i64 s.max, .slice a1 n1 c1, .slice a2 n2 c2, .slice a3 n3 c3]) s X ∧ Own (w.heap.size + 1) w1 X ∧ SkN (l.drop 4) s d) := ⟨⟨a1, n1, c1, a2, n2, c2, a3, n3, c3, F1, F2, F3, rfl, r1, r2, r3, hXF⟩, by simpa using os, hN⟩
    have HT1 : Hid (Blk w1 w.heap.size #[.int .i64 0, .int .i64 0, .int .i64 0, .int .i64 0, .int .i64 0, .int .i64 0, .int .i64 0, .int .i64 0, .slice none 0 0, .slice none 0 0, .slice none 0 0] 49 ∧ Below w.heap.size w w1) := ⟨HT.out.1.below bs, Below.next HT.out.2 bs⟩
    clear r1 r2 r3 hXF os bs hN HT HG
    go_wp2_with (first | go_skip | (with_reducible refine stopStore 29 rfl ?_))
    refine store_fresh 29 w1.heap.size rfl #[.int .i64 0, .int .i64 0, .int .i64 0, .int .i64 0, .slice none 0 0, .slice none 0 0, .slice none 0 0] #[.int .i64 s.count, .int .i64 s.sum, .int .i64 s.min, .int .i64 s.max, .slice a1 n1 c1, .slice a2 n2 c2, .slice a3 n3 c3] 29 rfl rfl rfl rfl infoSkI rfl (by simp [Value.oneCell']) ?_
    intro W2 hg2 hb2
    have HW2 : Hid (NumSkHeld b off x0 x1 x2 x3 w1.heap.size #[.int .i64 s.count, .int .i64 s.sum, .int .i64 s.min, .int .i64 s.max, .slice a1 n1 c1, .slice a2 n2 c2, .slice a3 n3 c3] W2.drew ∧ Below w.heap.size w W2.drew ∧ Blk W2.drew w.heap.size #[.int .i64 0, .int .i64 0, .int .i64 0, .int .i64 0, .int .i64 0, .int .i64 0, .int .i64 0, .int .i64 0, .slice none 0 0, .slice none 0 0, .slice none 0 0] 49 ∧ RdSk W2.drew (.agg #[.int .i64 s.count, .int .i64 s.sum, .int .i64 s.min, .int .i64 s.max, .slice a1 n1 c1, .slice a2 n2 c2, .slice a3 n3 c3]) s X ∧ Own (w.heap.size + 1) W2.drew X) := by
      have bb := (Below.next HT1.out.2 hb2).drew
      exact ⟨⟨HKN.out _ bb, hg2.drew⟩, bb, (HT1.out.1.below hb2).drew, (HRS.out.1.below hb2).below (Below.refl _ _).drew, (HRS.out.2.1.below HRS.out.1.lt hb2).agree (fun _ _ => rfl)⟩
    have lt1 : w.heap.size < w1.heap.size := HT1.out.1.lt
    clear hg2 hb2 HT1
    go_wp2
    refine wp_region_held (S := NumSkHeld b off x0 x1 x2 x3 w1.heap.size #[.int .i64 s.count, .int .i64 s.sum, .int .i64 s.min, .int .i64 s.max, .slice a1 n1 c1, .slice a2 n2 c2, .slice a3 n3 c3]) (by kernel_rfl) ?_
    change wpAnyH _ _ _ _ _ _ _ _ (World.drew _)
    refine takeH (o := ?ob1) 0 (.slice (some ⟨b, off, none⟩) len cap) ?hb1 ?rb1
    case hb1 => simp only [aT, aZ]; rfl
    refine ⟨_, by simp [Act.put]; rfl, by kernel_rfl, by kernel_rfl, by kernel_rfl, fun _ _ _ h => h, (.inl ⟨rfl, fun W _ => by go_simp⟩), HW2.out.1, ?_⟩
    refine takeH (o := ?ob2) 1 (.pointer (some ⟨b, off, none⟩)) ?hb2 ?rb2
    case hb2 => simp only [aT, aS, aZ]; rfl
    refine ⟨_, by simp [Act.put]; rfl, by kernel_rfl, by kernel_rfl, by kernel_rfl, fun _ _ _ h => h, (.inl ⟨rfl, fun W _ => by (have q0 : (0 : Int) < (len : Int) := by omega); first | (go_simp; done) | (go_simp; intro h; omega)⟩), HW2.out.1, ?_⟩
    refine takeH (o := ?ob3) 2 (.int .i64 x0) ?hb3 ?rb3
    case hb3 => simp only [aT, aS, aZ]; rfl
    refine ⟨_, by simp [Act.put]; rfl, by kernel_rfl, by kernel_rfl, by kernel_rfl, fun _ _ _ h => h, (.inl ⟨rfl, fun W hW => by have c := hW.1.1; go_simp⟩), HW2.out.1, ?_⟩
    refine takeH (o := ?ob4) 3 (.slice (some ⟨b, off, none⟩) len cap) ?hb4 ?rb4
    case hb4 => simp only [aT, aS, aZ]; rfl
    refine ⟨_, by simp [Act.put]; rfl, by kernel_rfl, by kernel_rfl, by kernel_rfl, fun _ _ _ h => h, (.inl ⟨rfl, fun W _ => by go_simp⟩), HW2.out.1, ?_⟩
    refine takeH (o := ?ob5) 4 (.pointer (some ⟨b, off + 1, none⟩)) ?hb5 ?rb5
    case hb5 => simp only [aT, aS, aZ]; rfl
    refine ⟨_, by simp [Act.put]; rfl, by kernel_rfl, by kernel_rfl, by kernel_rfl, fun _ _ _ h => h, (.inl ⟨rfl, fun W _ => by (have q1 : (1 : Int) < (len : Int) := by omega); first | (go_simp; done) | (go_simp; intro h; omega)⟩), HW2.out.1, ?_⟩
    refine takeH (o := ?ob6) 5 (.int .i64 x1) ?hb6 ?rb6
    case hb6 => simp only [aT, aS, aZ]; rfl
    refine ⟨_, by simp [Act.put]; rfl, by kernel_rfl, by kernel_rfl, by kernel_rfl, fun _ _ _ h => h, (.inl ⟨rfl, fun W hW => by have c := hW.1.2.1; go_simp⟩), HW2.out.1, ?_⟩
    refine takeH (o := ?ob7) 6 (.slice (some ⟨b, off, none⟩) len cap) ?hb7 ?rb7
    case hb7 => simp only [aT, aS, aZ]; rfl
    refine ⟨_, by simp [Act.put]; rfl, by kernel_rfl, by kernel_rfl, by kernel_rfl, fun _ _ _ h => h, (.inl ⟨rfl, fun W _ => by go_simp⟩), HW2.out.1, ?_⟩
    refine takeH (o := ?ob8) 7 (.pointer (some ⟨b, off + 2, none⟩)) ?hb8 ?rb8
    case hb8 => simp only [aT, aS, aZ]; rfl
    refine ⟨_, by simp [Act.put]; rfl, by kernel_rfl, by kernel_rfl, by kernel_rfl, fun _ _ _ h => h, (.inl ⟨rfl, fun W _ => by (have q2 : (2 : Int) < (len : Int) := by omega); first | (go_simp; done) | (go_simp; intro h; omega)⟩), HW2.out.1, ?_⟩
    refine takeH (o := ?ob9) 8 (.int .i64 x2) ?hb9 ?rb9
    case hb9 => simp only [aT, aS, aZ]; rfl
    refine ⟨_, by simp [Act.put]; rfl, by kernel_rfl, by kernel_rfl, by kernel_rfl, fun _ _ _ h => h, (.inl ⟨rfl, fun W hW => by have c := hW.1.2.2.1; go_simp⟩), HW2.out.1, ?_⟩
    refine takeH (o := ?ob10) 9 (.slice (some ⟨b, off, none⟩) len cap) ?hb10 ?rb10
    case hb10 => simp only [aT, aS, aZ]; rfl
    refine ⟨_, by simp [Act.put]; rfl, by kernel_rfl, by kernel_rfl, by kernel_rfl, fun _ _ _ h => h, (.inl ⟨rfl, fun W _ => by go_simp⟩), HW2.out.1, ?_⟩
    refine takeH (o := ?ob11) 10 (.pointer (some ⟨b, off + 3, none⟩)) ?hb11 ?rb11
    case hb11 => simp only [aT, aS, aZ]; rfl
    refine ⟨_, by simp [Act.put]; rfl, by kernel_rfl, by kernel_rfl, by kernel_rfl, fun _ _ _ h => h, (.inl ⟨rfl, fun W _ => by (have q3 : (3 : Int) < (len : Int) := by omega); first | (go_simp; done) | (go_simp; intro h; omega)⟩), HW2.out.1, ?_⟩
    refine takeH (o := ?ob12) 11 (.int .i64 x3) ?hb12 ?rb12
    case hb12 => simp only [aT, aS, aZ]; rfl
    refine ⟨_, by simp [Act.put]; rfl, by kernel_rfl, by kernel_rfl, by kernel_rfl, fun _ _ _ h => h, (.inl ⟨rfl, fun W hW => by have c := hW.1.2.2.2; go_simp⟩), HW2.out.1, ?_⟩
    refine takeH (o := ?ob13) 12 (.agg #[.int .i64 s.count, .int .i64 s.sum, .int .i64 s.min, .int .i64 s.max, .slice a1 n1 c1, .slice a2 n2 c2, .slice a3 n3 c3]) ?hb13 ?rb13
    case hb13 => simp only [aT, aS, aZ]; rfl
    refine ⟨_, by simp [Act.put]; rfl, by kernel_rfl, by kernel_rfl, by kernel_rfl, fun _ _ _ h => h, (yields_whole 29 w1.heap.size #[.int .i64 s.count, .int .i64 s.sum, .int .i64 s.min, .int .i64 s.max, .slice a1 n1 c1, .slice a2 n2 c2, .slice a3 n3 c3] 29 _ rfl rfl rfl Try.underlying29 rfl infoSkI (fun W hW => hW.2)), HW2.out.1, ?_⟩
    refine takeH (o := ?ob14) 13 (.agg #[.int .i64 x0, .int .i64 x1, .int .i64 x2, .int .i64 x3, .int .i64 s.count, .int .i64 s.sum, .int .i64 s.min, .int .i64 s.max, .slice a1 n1 c1, .slice a2 n2 c2, .slice a3 n3 c3]) ?hb14 ?rb14
    case hb14 => simp only [aT, aS, aZ]; rfl
    refine ⟨_, by simp [Act.put]; rfl, by kernel_rfl, by kernel_rfl, by kernel_rfl, fun _ _ _ h => h, (.inl ⟨rfl, fun W _ => by go_simp⟩), HW2.out.1, ?_⟩
    refine takeH (o := ?ob15) 14 (.bool d) ?hb15 ?rb15
    case hb15 => simp only [aT, aS, aZ]; rfl
    refine ⟨_, by simp [Act.put]; rfl, by kernel_rfl, by kernel_rfl, by kernel_rfl, fun _ _ _ h => h, (.inl ⟨rfl, fun W _ => by go_simp⟩), HW2.out.1, ?_⟩
    refine onlyH (o := ?ob16) 15 (by kernel_rfl) ?hb16 ?rb16
    case hb16 => simp only [aT, aS, aZ]; rfl
    intro K hK
    have bV : Below w.heap.size w (W2.drew.setRow w.heap.size #[.int .i64 x0, .int .i64 x1, .int .i64 x2, .int .i64 x3, .int .i64 s.count, .int .i64 s.sum, .int .i64 s.min, .int .i64 s.max, .slice a1 n1 c1, .slice a2 n2 c2, .slice a3 n3 c3]) := below_setRow HW2.out.2.1 (Nat.le_refl _) _
    have nX : w.heap.size ∉ X := fun hx => by have := HW2.out.2.2.2.2.ge _ hx; omega
    have HV2 : Hid (NumSkHeld b off x0 x1 x2 x3 w1.heap.size #[.int .i64 s.count, .int .i64 s.sum, .int .i64 s.min, .int .i64 s.max, .slice a1 n1 c1, .slice a2 n2 c2, .slice a3 n3 c3] (W2.drew.setRow w.heap.size #[.int .i64 x0, .int .i64 x1, .int .i64 x2, .int .i64 x3, .int .i64 s.count, .int .i64 s.sum, .int .i64 s.min, .int .i64 s.max, .slice a1 n1 c1, .slice a2 n2 c2, .slice a3 n3 c3]) ∧ Below w.heap.size w (W2.drew.setRow w.heap.size #[.int .i64 x0, .int .i64 x1, .int .i64 x2, .int .i64 x3, .int .i64 s.count, .int .i64 s.sum, .int .i64 s.min, .int .i64 s.max, .slice a1 n1 c1, .slice a2 n2 c2, .slice a3 n3 c3]) ∧ Blk (W2.drew.setRow w.heap.size #[.int .i64 x0, .int .i64 x1, .int .i64 x2, .int .i64 x3, .int .i64 s.count, .int .i64 s.sum, .int .i64 s.min, .int .i64 s.max, .slice a1 n1 c1, .slice a2 n2 c2, .slice a3 n3 c3]) w.heap.size #[.int .i64 x0, .int .i64 x1, .int .i64 x2, .int .i64 x3, .int .i64 s.count, .int .i64 s.sum, .int .i64 s.min, .int .i64 s.max, .slice a1 n1 c1, .slice a2 n2 c2, .slice a3 n3 c3] 49 ∧ RdSk (W2.drew.setRow w.heap.size #[.int .i64 x0, .int .i64 x1, .int .i64 x2, .int .i64 x3, .int .i64 s.count, .int .i64 s.sum, .int .i64 s.min, .int .i64 s.max, .slice a1 n1 c1, .slice a2 n2 c2, .slice a3 n3 c3]) (.agg #[.int .i64 s.count, .int .i64 s.sum, .int .i64 s.min, .int .i64 s.max, .slice a1 n1 c1, .slice a2 n2 c2, .slice a3 n3 c3]) s X ∧ Own w.heap.size (W2.drew.setRow w.heap.size #[.int .i64 x0, .int .i64 x1, .int .i64 x2, .int .i64 x3, .int .i64 s.count, .int .i64 s.sum, .int .i64 s.min, .int .i64 s.max, .slice a1 n1 c1, .slice a2 n2 c2, .slice a3 n3 c3]) X) := ⟨⟨HKN.out _ bV, HW2.out.1.2.setRowOther (by omega)⟩, bV, HW2.out.2.2.1.setRow, HW2.out.2.2.2.1.agree (Agree.row nX _), (HW2.out.2.2.2.2.agree (Agree.row nX _)).mono (by omega)⟩
    refine op_store 49 w.heap.size #[.int .i64 0, .int .i64 0, .int .i64 0, .int .i64 0, .int .i64 0, .int .i64 0, .int .i64 0, .int .i64 0, .slice none 0 0, .slice none 0 0, .slice none 0 0] #[.int .i64 x0, .int .i64 x1, .int .i64 x2, .int .i64 x3, .int .i64 s.count, .int .i64 s.sum, .int .i64 s.min, .int .i64 s.max, .slice a1 n1 c1, .slice a2 n2 c2, .slice a3 n3 c3] 49 rfl rfl rfl rfl HW2.out.2.2.1 infoItA7 rfl (by simp [Value.oneCell']) ⟨_, by simp [Act.put]; rfl, hK _ _ ⟨HV2.out.1, ?_⟩⟩
    clear hK bV nX HW2
    refine onlyH (o := ?ob17) 16 (by kernel_rfl) ?hb17 ?rb17
    case hb17 => simp only [aT, aS, aZ]; rfl
    intro K hK
    refine op_value (.bool d) rfl (by go_simp) ⟨_, by simp [Act.put]; rfl, hK _ _ ⟨HV2.out.1, ?_⟩⟩
    clear hK
    refine wpAnyH_done (by kernel_rfl) ?_ _
    go_wp2
    refine bodyPost_ret (results_row_tmp Try.results111 _ _ w.heap.size _ _ _ _ rfl HV2.out.2.2.1 Try.underlying49 rfl infoItA7) rfl ?_
    have hit := item_of (l := l) (by rw [HL.out]; omega) HRS.out.2.2
    rw [← HX.out.1, ← HX.out.2.1, ← HX.out.2.2.1, ← HX.out.2.2.2] at hit
    exact ⟨_, ⟨x0, x1, x2, x3, s⟩, d, X, rfl, ⟨a1, n1, c1, a2, n2, c2, a3, n3, c3, rfl, HV2.out.2.2.2.1⟩, HV2.out.2.2.2.2, HV2.out.2.1, skN_wide HRS.out.2.2, hit⟩
end Go.Proofs.Ytjndcfamfminkaq
/- The walk through the program's frameOfNumbers. No statement of the seat is proved here. -/
namespace Go.Proofs.Ytjndcfamfminkaq
open Go.RowKit
def NewFrR (w : World) (R : Fr → Bool → Prop) (e : Ending) (w' : World) : Prop := ∃ v f d F G, e = .returned (.tuple #[v, .bool d]) ∧ RdFr w' v f F G ∧ Own w.heap.size w' F ∧ Own w.heap.size w' G ∧ (∀ b ∈ F, b ∉ G) ∧ Below w.heap.size w w' ∧ R f d
theorem rdFr_zero (w : World) : RdFr w (.agg #[.int .i64 0, .int .i64 0, .int .i64 0, .int .i64 0, .slice none 0 0, .int .i64 0, .int .i64 0, .int .i64 0, .int .i64 0, .int .i64 0, .int .i64 0, .int .i64 0, .int .i64 0, .slice none 0 0, .slice none 0 0, .slice none 0 0]) Fr.zero [] [] := ⟨none, 0, 0, none, 0, 0, none, 0, 0, none, 0, 0, rfl, RdP.nil, rdIt_zero w, fun _ => rfl, Nat.le_refl _⟩
theorem frN_no {l : List Int} (h : ∀ g : Fr, g.ok = true → l ≠ g.numbers) : FrN l Fr.zero false := (if_neg (by simp)).mpr ⟨rfl, h⟩
theorem numbers_drop (g : Fr) : g.numbers.drop 4 = (g.taken.length : Int) :: (flat g.taken ++ (if g.kind = 1 then [g.item.seq, g.item.cls, g.item.key, g.item.window] ++ g.item.sk.nums else [])) := by
  unfold Fr.numbers; rfl
theorem frN_short {l : List Int} (h : l.length < 4) : FrN l Fr.zero false := frN_no (fun g _ e => by
  have := congrArg List.length e
  unfold Fr.numbers at this
  rw [List.length_append, List.length_append] at this
  simp only [List.length_cons, List.length_nil] at this
  omega)
theorem frN_spans {l : List Int} {ps : Sp} {rest : List Int} (h : SpansIs (l.drop 4) ps rest false) : FrN l Fr.zero false := frN_no (fun g _ e => by
  unfold SpansIs at h
  rw [if_neg (by simp)] at h
  exact h.2.2 g.taken _ (by rw [e]; exact numbers_drop g))
/-- A frame that has these numbers has these spans, and the rest is its item's. -/
theorem spans_eq {l : List Int} {ps : Sp} {rest : List Int} {g : Fr} (h : SpansIs (l.drop 4) ps rest true) (e : l = g.numbers) : ps = g.taken ∧ rest = (if g.kind = 1 then [g.item.seq, g.item.cls, g.item.key, g.item.window] ++ g.item.sk.nums else []) := by
  unfold SpansIs at h
  rw [if_pos rfl, e, numbers_drop] at h
  simp only [List.cons.injEq] at h
  have hl : (flat g.taken).length = (flat ps).length := by rw [flat_length, flat_length]; omega
  obtain ⟨h1, h2⟩ := List.append_inj h.2 hl
  exact ⟨(flat_inj h1).symm, h2.symm⟩
theorem frN_item {l : List Int} {ps : Sp} {rest : List Int} {x : It} (h : SpansIs (l.drop 4) ps rest true) (k : ItemIs (l.getD 0 0) rest x false) : FrN l Fr.zero false := frN_no (fun g hg e => by
  have s := (spans_eq h e).2
  have k0 : l.getD 0 0 = g.kind := by rw [e]; rfl
  rw [k0] at k
  unfold ItemIs at k
  rw [if_neg (by simp)] at k
  by_cases q : g.kind = 1
  · rw [if_pos q] at s
    have i := (Fr.ok_right hg).item
    rw [if_pos q] at i
    exact k.1 q g.item (It.ok_nums i).2.2.2.2 s
  · rw [if_neg q] at s
    exact k.2 q s)
theorem frN_fin {l : List Int} {ps : Sp} {rest : List Int} {x : It} (h4 : 4 ≤ l.length) (h : SpansIs (l.drop 4) ps rest true) (k : ItemIs (l.getD 0 0) rest x true) : (({ kind := l.getD 0 0, agent := l.getD 1 0, epoch := l.getD 2 0, granted := l.getD 3 0, taken := ps, item := x } : Fr).ok = true → FrN l ⟨l.getD 0 0, l.getD 1 0, l.getD 2 0, l.getD 3 0, ps, x⟩ true) ∧ (({ kind := l.getD 0 0, agent := l.getD 1 0, epoch := l.getD 2 0, granted := l.getD 3 0, taken := ps, item := x } : Fr).ok = false → FrN l Fr.zero false) := by
  have hs := h
  unfold SpansIs at hs
  rw [if_pos rfl] at hs
  have kk := k
  unfold ItemIs at kk
  rw [if_pos rfl] at kk
  refine ⟨fun ok => (if_pos rfl).mpr ⟨ok, ?_⟩, fun ok => frN_no (fun g hg e => ?_)⟩
  · conv => lhs; rw [split4 h4, hs]
    unfold Fr.numbers
    by_cases q : l.getD 0 0 = 1
    · rw [if_pos q] at kk
      simp only [if_pos q]
      rw [kk.1]
      simp
    · rw [if_neg q] at kk
      simp only [if_neg q]
      rw [kk.1]
      simp
  · have s := spans_eq h e
    have k0 : l.getD 0 0 = g.kind := by rw [e]; rfl
    have k1 : l.getD 1 0 = g.agent := by rw [e]; rfl
    have k2 : l.getD 2 0 = g.epoch := by rw [e]; rfl
    have k3 : l.getD 3 0 = g.granted := by rw [e]; rfl
    have i := (Fr.ok_right hg).item
    have ei : x = g.item := by
      rw [k0] at kk
      by_cases q : g.kind = 1
      · rw [if_pos q] at kk i
        have s2 := s.2
        rw [if_pos q, kk.1] at s2
        simp only [List.cons_append, List.nil_append, List.cons.injEq] at s2
        exact It.eq_of s2.1 s2.2.1 s2.2.2.1 s2.2.2.2.1 (Sk.nums_inj (Sk.ok_lens kk.2).1 (Sk.ok_lens (It.ok_nums i).2.2.2.2).1 s2.2.2.2.2)
      · rw [if_neg q] at kk i
        exact kk.2.trans i.symm
    have : (⟨l.getD 0 0, l.getD 1 0, l.getD 2 0, l.getD 3 0, ps, x⟩ : Fr) = g := Fr.eq_of k0 k1 k2 k3 s.1 ei
    rw [this, hg] at ok
    cases ok
def NumItHeld (b off : Nat) (x0 x1 x2 x3 : Int) (g : Nat) (ds : Array Value) (W : World) : Prop := NumHeld b off x0 x1 x2 x3 W ∧ Blk W g ds 49
set_option maxRecDepth 200000 in
set_option maxHeartbeats 4000000 in
theorem frameOfNumbers_any (a : Option Addr) (len cap : Nat) (l : List Int) (F : List Nat) (w : World) (h : RdI w a len l F) (hlen : len ≤ 1048576) (hcap : len ≤ cap) (hn : ∀ x ∈ l, InN x) :
    Calls Try.prog 73 #[.slice a len cap] w fun e w' => NewFrR w (FrN l) e w' := by
  have HL : Hid (l.length = len) := h.length
  have HN : Hid (∀ x ∈ l.drop 4, InN x) := fun x hx => hn x (List.mem_of_mem_drop hx)
  have HT : Hid (Blk (w.alloc (.cells #[.int .i64 0, .int .i64 0, .int .i64 0, .int .i64 0, .slice none 0 0, .int .i64 0, .int .i64 0, .int .i64 0, .int .i64 0, .int .i64 0, .int .i64 0, .int .i64 0, .int .i64 0, .slice none 0 0, .slice none 0 0, .slice none 0 0] 51)) w.heap.size #[.int .i64 0, .int .i64 0, .int .i64 0, .int .i64 0, .slice none 0 0, .int .i64 0, .int .i64 0, .int .i64 0, .int .i64 0, .int .i64 0, .int .i64 0, .int .i64 0, .int .i64 0, .slice none 0 0, .slice none 0 0, .slice none 0 0] 51 ∧ Below w.heap.size w (w.alloc (.cells #[.int .i64 0, .int .i64 0, .int .i64 0, .int .i64 0, .slice none 0 0, .int .i64 0, .int .i64 0, .int .i64 0, .int .i64 0, .int .i64 0, .int .i64 0, .int .i64 0, .int .i64 0, .slice none 0 0, .slice none 0 0, .slice none 0 0] 51))) := ⟨Blk.made _ _ _, (Below.refl _ _).alloc (Nat.le_refl _) _⟩
  by_cases h4 : len < 4
  · have h4b : decide ((len : Int) < 4) = true := dec_true (by omega)
    have HV : Hid (FrN l Fr.zero false) := frN_short (by rw [HL.out]; exact h4)
    clear h
    go_enter Try.func73, Try.ntmps73
    go_wp2_with (first | go_skip | (with_reducible refine stopStore 51 rfl ?_))
    refine store_known 51 w.heap.size _ #[.int .i64 0, .int .i64 0, .int .i64 0, .int .i64 0, .slice none 0 0, .int .i64 0, .int .i64 0, .int .i64 0, .int .i64 0, .int .i64 0, .int .i64 0, .int .i64 0, .int .i64 0, .slice none 0 0, .slice none 0 0, .slice none 0 0] 51 HT.out.1 rfl rfl rfl rfl infoFrF7 rfl (by simp [Value.oneCell']) ?_
    go_wp2
    refine bodyPost_ret (results_row_tmp Try.results73 _ _ w.heap.size _ _ _ _ rfl HT.out.1.setRow Try.underlying51 rfl infoFrF7) rfl ?_
    exact ⟨_, Fr.zero, false, [], [], rfl, rdFr_zero _, Own.nil, Own.nil, by simp, below_setRow HT.out.2 (Nat.le_refl _) _, HV.out⟩
  have h4b : decide ((len : Int) < 4) = false := dec_false (by omega)
  have h4i : (4 : Int) ≤ (len : Int) := by omega
  obtain ⟨b, off, rfl⟩ := h.addr (by omega)
  have HR : Hid (RdI w (some ⟨b, off, none⟩) len l F) := h
  obtain ⟨x0, hx0⟩ : ∃ x, x = l.getD 0 0 := ⟨_, rfl⟩
  obtain ⟨x1, hx1⟩ : ∃ x, x = l.getD 1 0 := ⟨_, rfl⟩
  obtain ⟨x2, hx2⟩ : ∃ x, x = l.getD 2 0 := ⟨_, rfl⟩
  obtain ⟨x3, hx3⟩ : ∃ x, x = l.getD 3 0 := ⟨_, rfl⟩
  have HX : Hid (x0 = l.getD 0 0 ∧ x1 = l.getD 1 0 ∧ x2 = l.getD 2 0 ∧ x3 = l.getD 3 0) := ⟨hx0, hx1, hx2, hx3⟩
  have HKN : Hid (∀ W, Below w.heap.size w W → NumHeld b off x0 x1 x2 x3 W) := fun W hb => by rw [hx0, hx1, hx2, hx3]; exact (HR.out.below hb).numHeld (by omega)
  by_cases hc4 : cap = 4
  · obtain ⟨G, hG⟩ := (h.below HT.out.2).rest (cap := cap) 4 (by omega) hcap
    rw [if_pos hc4] at hG
    have HG : Hid (RdI (w.alloc (.cells #[.int .i64 0, .int .i64 0, .int .i64 0, .int .i64 0, .slice none 0 0, .int .i64 0, .int .i64 0, .int .i64 0, .int .i64 0, .int .i64 0, .int .i64 0, .int .i64 0, .int .i64 0, .slice none 0 0, .slice none 0 0, .slice none 0 0] 51)) (some ⟨b, off, none⟩) (len - 4) (l.drop 4) G) := hG
    clear h hx0 hx1 hx2 hx3 hG hn
    go_enter Try.func73, Try.ntmps73
    go_wp2_with fail
    refine (spansOfNumbers_any _ (len - 4) _ (l.drop 4) G _ HG.out (by omega) (by omega) HN.out).mono ?_
    rintro e w1 ⟨b1, m1, k1, ar, lr, cr, ps, rest, d1, F1, G1, rfl, rp, cpd, op, rr, hlr, hcr, hSp, bs⟩
    have HS1 : Hid (RdP w1 b1 m1 ps F1 ∧ Capd b1 m1 k1 ∧ Own (w.heap.size + 1) w1 F1 ∧ RdI w1 ar lr rest G1 ∧ SpansIs (l.drop 4) ps rest d1) := ⟨rp, cpd, by simpa using op, rr, hSp⟩
    have HT1 : Hid (Blk w1 w.heap.size #[.int .i64 0, .int .i64 0, .int .i64 0, .int .i64 0, .slice none 0 0, .int .i64 0, .int .i64 0, .int .i64 0, .int .i64 0, .int .i64 0, .int .i64 0, .int .i64 0, .int .i64 0, .slice none 0 0, .slice none 0 0, .slice none 0 0] 51 ∧ Below w.heap.size w w1) := ⟨HT.out.1.below bs, Below.next HT.out.2 bs⟩
    have hm1 : m1 ≤ 1048576 := by
      have q := hSp
      unfold SpansIs at q
      cases d1 <;> simp only [if_true, Bool.false_eq_true, if_false] at q
      · rw [← rp.length, q.1]; simp
      · have := congrArg List.length q
        rw [List.length_cons, List.length_append, flat_length, List.length_drop, HL.out, rp.length] at this
        omega
    have cc := (HKN.out _ HT1.out.2).1
    clear rp cpd op rr hSp bs HT HG
    go_wp2_with fail
    refine (itemOfNumbers_any ar lr cr x0 rest G1 _ HS1.out.2.2.2.1 (by omega) hcr).mono ?_
    rintro e w2 ⟨v2, x, d2, X, rfl, rx, ox, bx, hwx, hIt⟩
    obtain ⟨a1, n1, c1, a2, n2, c2, a3, n3, c3, rfl⟩ := rx.cells11
    have HS2 : Hid (RdIt w2 (.agg #[.int .i64 x.seq, .int .i64 x.cls, .int .i64 x.key, .int .i64 x.window, .int .i64 x.sk.count, .int .i64 x.sk.sum, .int .i64 x.sk.min, .int .i64 x.sk.max, .slice a1 n1 c1, .slice a2 n2 c2, .slice a3 n3 c3]) x X ∧ Own w1.heap.size w2 X ∧ x.sk.wide ∧ ItemIs x0 rest x d2) := ⟨rx, ox, hwx, hIt⟩
    have HP2 : Hid (RdP w2 b1 m1 ps F1 ∧ Capd b1 m1 k1 ∧ Own (w.heap.size + 1) w2 F1 ∧ SpansIs (l.drop 4) ps rest d1 ∧ ∀ b ∈ F1, b < w1.heap.size) := ⟨HS1.out.1.below bx, HS1.out.2.1, HS1.out.2.2.1.below HS1.out.1.lt bx, HS1.out.2.2.2.2, HS1.out.1.lt⟩
    have HT2 : Hid (Blk w2 w.heap.size #[.int .i64 0, .int .i64 0, .int .i64 0, .int .i64 0, .slice none 0 0, .int .i64 0, .int .i64 0, .int .i64 0, .int .i64 0, .int .i64 0, .int .i64 0, .int .i64 0, .int .i64 0, .slice none 0 0, .slice none 0 0, .slice none 0 0] 51 ∧ Below w.heap.size w w2) := ⟨HT1.out.1.below bx, Below.next HT1.out.2 bx⟩
    have lt1 : w.heap.size < w1.heap.size := HT1.out.1.lt
    clear rx ox bx hwx hIt HS1 HT1 cc
    go_wp2_with (first | go_skip | (with_reducible refine stopStore 49 rfl ?_))
    refine store_fresh 49 w2.heap.size rfl #[.int .i64 0, .int .i64 0, .int .i64 0, .int .i64 0, .int .i64 0, .int .i64 0, .int .i64 0, .int .i64 0, .slice none 0 0, .slice none 0 0, .slice none 0 0] #[.int .i64 x.seq, .int .i64 x.cls, .int .i64 x.key, .int .i64 x.window, .int .i64 x.sk.count, .int .i64 x.sk.sum, .int .i64 x.sk.min, .int .i64 x.sk.max, .slice a1 n1 c1, .slice a2 n2 c2, .slice a3 n3 c3] 49 rfl rfl rfl rfl infoItA7 rfl (one11 ..) ?_
    intro W3 hg3 hb3
    have HW3 : Hid (NumItHeld b off x0 x1 x2 x3 w2.heap.size #[.int .i64 x.seq, .int .i64 x.cls, .int .i64 x.key, .int .i64 x.window, .int .i64 x.sk.count, .int .i64 x.sk.sum, .int .i64 x.sk.min, .int .i64 x.sk.max, .slice a1 n1 c1, .slice a2 n2 c2, .slice a3 n3 c3] W3.drew ∧ Below w.heap.size w W3.drew ∧ Blk W3.drew w.heap.size #[.int .i64 0, .int .i64 0, .int .i64 0, .int .i64 0, .slice none 0 0, .int .i64 0, .int .i64 0, .int .i64 0, .int .i64 0, .int .i64 0, .int .i64 0, .int .i64 0, .int .i64 0, .slice none 0 0, .slice none 0 0, .slice none 0 0] 51 ∧ RdIt W3.drew (.agg #[.int .i64 x.seq, .int .i64 x.cls, .int .i64 x.key, .int .i64 x.window, .int .i64 x.sk.count, .int .i64 x.sk.sum, .int .i64 x.sk.min, .int .i64 x.sk.max, .slice a1 n1 c1, .slice a2 n2 c2, .slice a3 n3 c3]) x X ∧ Own w1.heap.size W3.drew X ∧ RdP W3.drew b1 m1 ps F1 ∧ Own (w.heap.size + 1) W3.drew F1) := by
      have bb := (Below.next HT2.out.2 hb3).drew
      exact ⟨⟨HKN.out _ bb, hg3.drew⟩, bb, (HT2.out.1.below hb3).drew, (HS2.out.1.below hb3).below (Below.refl _ _).drew, (HS2.out.2.1.below HS2.out.1.lt hb3).agree (fun _ _ => rfl), (HP2.out.1.below hb3).below (Below.refl _ _).drew, (HP2.out.2.2.1.below HP2.out.1.lt hb3).agree (fun _ _ => rfl)⟩
    clear hg3 hb3 HT2
    go_wp2
    refine wp_region_held (S := NumItHeld b off x0 x1 x2 x3 w2.heap.size #[.int .i64 x.seq, .int .i64 x.cls, .int .i64 x.key, .int .i64 x.window, .int .i64 x.sk.count, .int .i64 x.sk.sum, .int .i64 x.sk.min, .int .i64 x.sk.max, .slice a1 n1 c1, .slice a2 n2 c2, .slice a3 n3 c3]) (by kernel_rfl) ?_
    change wpAnyH _ _ _ _ _ _ _ _ (World.drew _)
    refine takeH (o := ?oa1) 0 (.slice (some ⟨b, off, none⟩) len cap) ?ha1 ?ra1
    case ha1 => simp only [aT, aZ]; rfl
    refine ⟨_, by simp [Act.put]; rfl, by kernel_rfl, by kernel_rfl, by kernel_rfl, fun _ _ _ h => h, (.inl ⟨rfl, fun W _ => by go_simp⟩), HW3.out.1, ?_⟩
    refine takeH (o := ?oa2) 1 (.pointer (some ⟨b, off, none⟩)) ?ha2 ?ra2
    case ha2 => simp only [aT, aS, aZ]; rfl
    refine ⟨_, by simp [Act.put]; rfl, by kernel_rfl, by kernel_rfl, by kernel_rfl, fun _ _ _ h => h, (.inl ⟨rfl, fun W _ => by (have q0 : (0 : Int) < (len : Int) := by omega); first | (go_simp; done) | (go_simp; intro h; omega)⟩), HW3.out.1, ?_⟩
    refine takeH (o := ?oa3) 2 (.int .i64 x0) ?ha3 ?ra3
    case ha3 => simp only [aT, aS, aZ]; rfl
    refine ⟨_, by simp [Act.put]; rfl, by kernel_rfl, by kernel_rfl, by kernel_rfl, fun _ _ _ h => h, (.inl ⟨rfl, fun W hW => by have c := hW.1.1; go_simp⟩), HW3.out.1, ?_⟩
    refine takeH (o := ?oa4) 3 (.slice (some ⟨b, off, none⟩) len cap) ?ha4 ?ra4
    case ha4 => simp only [aT, aS, aZ]; rfl
    refine ⟨_, by simp [Act.put]; rfl, by kernel_rfl, by kernel_rfl, by kernel_rfl, fun _ _ _ h => h, (.inl ⟨rfl, fun W _ => by go_simp⟩), HW3.out.1, ?_⟩
    refine takeH (o := ?oa5) 4 (.pointer (some ⟨b, off + 1, none⟩)) ?ha5 ?ra5
    case ha5 => simp only [aT, aS, aZ]; rfl
    refine ⟨_, by simp [Act.put]; rfl, by kernel_rfl, by kernel_rfl, by kernel_rfl, fun _ _ _ h => h, (.inl ⟨rfl, fun W _ => by (have q1 : (1 : Int) < (len : Int) := by omega); first | (go_simp; done) | (go_simp; intro h; omega)⟩), HW3.out.1, ?_⟩
    refine takeH (o := ?oa6) 5 (.int .i64 x1) ?ha6 ?ra6
    case ha6 => simp only [aT, aS, aZ]; rfl
    refine ⟨_, by simp [Act.put]; rfl, by kernel_rfl, by kernel_rfl, by kernel_rfl, fun _ _ _ h => h, (.inl ⟨rfl, fun W hW => by have c := hW.1.2.1; go_simp⟩), HW3.out.1, ?_⟩
    refine takeH (o := ?oa7) 6 (.slice (some ⟨b, off, none⟩) len cap) ?ha7 ?ra7
    case ha7 => simp only [aT, aS, aZ]; rfl
    refine ⟨_, by simp [Act.put]; rfl, by kernel_rfl, by kernel_rfl, by kernel_rfl, fun _ _ _ h => h, (.inl ⟨rfl, fun W _ => by go_simp⟩), HW3.out.1, ?_⟩
    refine takeH (o := ?oa8) 7 (.pointer (some ⟨b, off + 2, none⟩)) ?ha8 ?ra8
    case ha8 => simp only [aT, aS, aZ]; rfl
    refine ⟨_, by simp [Act.put]; rfl, by kernel_rfl, by kernel_rfl, by kernel_rfl, fun _ _ _ h => h, (.inl ⟨rfl, fun W _ => by (have q2 : (2 : Int) < (len : Int) := by omega); first | (go_simp; done) | (go_simp; intro h; omega)⟩), HW3.out.1, ?_⟩
    refine takeH (o := ?oa9) 8 (.int .i64 x2) ?ha9 ?ra9
    case ha9 => simp only [aT, aS, aZ]; rfl
    refine ⟨_, by simp [Act.put]; rfl, by kernel_rfl, by kernel_rfl, by kernel_rfl, fun _ _ _ h => h, (.inl ⟨rfl, fun W hW => by have c := hW.1.2.2.1; go_simp⟩), HW3.out.1, ?_⟩
    refine takeH (o := ?oa10) 9 (.slice (some ⟨b, off, none⟩) len cap) ?ha10 ?ra10
    case ha10 => simp only [aT, aS, aZ]; rfl
    refine ⟨_, by simp [Act.put]; rfl, by kernel_rfl, by kernel_rfl, by kernel_rfl, fun _ _ _ h => h, (.inl ⟨rfl, fun W _ => by go_simp⟩), HW3.out.1, ?_⟩
    refine takeH (o := ?oa11) 10 (.pointer (some ⟨b, off + 3, none⟩)) ?ha11 ?ra11
    case ha11 => simp only [aT, aS, aZ]; rfl
    refine ⟨_, by simp [Act.put]; rfl, by kernel_rfl, by kernel_rfl, by kernel_rfl, fun _ _ _ h => h, (.inl ⟨rfl, fun W _ => by (have q3 : (3 : Int) < (len : Int) := by omega); first | (go_simp; done) | (go_simp; intro h; omega)⟩), HW3.out.1, ?_⟩
    refine takeH (o := ?oa12) 11 (.int .i64 x3) ?ha12 ?ra12
    case ha12 => simp only [aT, aS, aZ]; rfl
    refine ⟨_, by simp [Act.put]; rfl, by kernel_rfl, by kernel_rfl, by kernel_rfl, fun _ _ _ h => h, (.inl ⟨rfl, fun W hW => by have c := hW.1.2.2.2; go_simp⟩), HW3.out.1, ?_⟩
    refine takeH (o := ?oa13) 12 (.slice b1 m1 k1) ?ha13 ?ra13
    case ha13 => simp only [aT, aS, aZ]; rfl
    refine ⟨_, by simp [Act.put]; rfl, by kernel_rfl, by kernel_rfl, by kernel_rfl, fun _ _ _ h => h, (.inl ⟨rfl, fun W _ => by go_simp⟩), HW3.out.1, ?_⟩
    refine takeH (o := ?oa14) 13 (.agg #[.int .i64 x.seq, .int .i64 x.cls, .int .i64 x.key, .int .i64 x.window, .int .i64 x.sk.count, .int .i64 x.sk.sum, .int .i64 x.sk.min, .int .i64 x.sk.max, .slice a1 n1 c1, .slice a2 n2 c2, .slice a3 n3 c3]) ?ha14 ?ra14
    case ha14 => simp only [aT, aS, aZ]; rfl
    refine ⟨_, by simp [Act.put]; rfl, by kernel_rfl, by kernel_rfl, by kernel_rfl, fun _ _ _ h => h, (yields_whole 49 w2.heap.size #[.int .i64 x.seq, .int .i64 x.cls, .int .i64 x.key, .int .i64 x.window, .int .i64 x.sk.count, .int .i64 x.sk.sum, .int .i64 x.sk.min, .int .i64 x.sk.max, .slice a1 n1 c1, .slice a2 n2 c2, .slice a3 n3 c3] 49 _ rfl rfl rfl Try.underlying49 rfl infoItA7 (fun W hW => hW.2)), HW3.out.1, ?_⟩
    refine takeH (o := ?oa15) 14 (.agg #[.int .i64 x0, .int .i64 x1, .int .i64 x2, .int .i64 x3, .slice b1 m1 k1, .int .i64 x.seq, .int .i64 x.cls, .int .i64 x.key, .int .i64 x.window, .int .i64 x.sk.count, .int .i64 x.sk.sum, .int .i64 x.sk.min, .int .i64 x.sk.max, .slice a1 n1 c1, .slice a2 n2 c2, .slice a3 n3 c3]) ?ha15 ?ra15
    case ha15 => simp only [aT, aS, aZ]; rfl
    refine ⟨_, by simp [Act.put]; rfl, by kernel_rfl, by kernel_rfl, by kernel_rfl, fun _ _ _ h => h, (.inl ⟨rfl, fun W _ => by go_simp⟩), HW3.out.1, ?_⟩
    refine onlyH (o := ?oa16) 15 (by kernel_rfl) ?ha16 ?ra16
    case ha16 => simp only [aT, aS, aZ]; rfl
    intro K hK
    have bA : Below W3.drew.heap.size W3.drew (W3.drew.alloc (.cells #[.int .i64 0, .int .i64 0, .int .i64 0, .int .i64 0, .slice none 0 0, .int .i64 0, .int .i64 0, .int .i64 0, .int .i64 0, .int .i64 0, .int .i64 0, .int .i64 0, .int .i64 0, .slice none 0 0, .slice none 0 0, .slice none 0 0] 51)) := (Below.refl _ _).alloc (Nat.le_refl _) _
    have HA : Hid (Below w.heap.size w (W3.drew.alloc (.cells #[.int .i64 0, .int .i64 0, .int .i64 0, .int .i64 0, .slice none 0 0, .int .i64 0, .int .i64 0, .int .i64 0, .int .i64 0, .int .i64 0, .int .i64 0, .int .i64 0, .int .i64 0, .slice none 0 0, .slice none 0 0, .slice none 0 0] 51)) ∧ Blk (W3.drew.alloc (.cells #[.int .i64 0, .int .i64 0, .int .i64 0, .int .i64 0, .slice none 0 0, .int .i64 0, .int .i64 0, .int .i64 0, .int .i64 0, .int .i64 0, .int .i64 0, .int .i64 0, .int .i64 0, .slice none 0 0, .slice none 0 0, .slice none 0 0] 51)) W3.heap.size #[.int .i64 0, .int .i64 0, .int .i64 0, .int .i64 0, .slice none 0 0, .int .i64 0, .int .i64 0, .int .i64 0, .int .i64 0, .int .i64 0, .int .i64 0, .int .i64 0, .int .i64 0, .slice none 0 0, .slice none 0 0, .slice none 0 0] 51) := ⟨Below.next HW3.out.2.1 bA, Blk.made W3.drew _ _⟩
    refine op_turn (.pointer (some ⟨W3.heap.size, 0, none⟩)) (W3.drew.alloc (.cells #[.int .i64 0, .int .i64 0, .int .i64 0, .int .i64 0, .slice none 0 0, .int .i64 0, .int .i64 0, .int .i64 0, .int .i64 0, .int .i64 0, .int .i64 0, .int .i64 0, .int .i64 0, .slice none 0 0, .slice none 0 0, .slice none 0 0] 51)) rfl (by go_simp) ⟨_, by simp [Act.put]; rfl, hK _ _ ⟨⟨HKN.out _ HA.out.1, HW3.out.1.2.below bA⟩, ?_⟩⟩
    clear hK
    refine onlyH (o := ?oa17) 16 (by kernel_rfl) ?ha17 ?ra17
    case ha17 => simp only [aT, aS, aZ]; rfl
    intro K hK
    have l3 : w.heap.size < W3.heap.size := HW3.out.2.2.1.lt
    have l32 : w2.heap.size < W3.heap.size := HW3.out.1.2.lt
    have nX : W3.heap.size ∉ X := fun hx => by have q : _ < W3.heap.size := HW3.out.2.2.2.1.lt _ hx; omega
    have nF : W3.heap.size ∉ F1 := fun hx => by have q : _ < W3.heap.size := HW3.out.2.2.2.2.2.1.lt _ hx; omega
    have HQ : Hid (Below w.heap.size w ((W3.drew.alloc (.cells #[.int .i64 0, .int .i64 0, .int .i64 0, .int .i64 0, .slice none 0 0, .int .i64 0, .int .i64 0, .int .i64 0, .int .i64 0, .int .i64 0, .int .i64 0, .int .i64 0, .int .i64 0, .slice none 0 0, .slice none 0 0, .slice none 0 0] 51)).setRow W3.heap.size #[.int .i64 x0, .int .i64 x1, .int .i64 x2, .int .i64 x3, .slice b1 m1 k1, .int .i64 x.seq, .int .i64 x.cls, .int .i64 x.key, .int .i64 x.window, .int .i64 x.sk.count, .int .i64 x.sk.sum, .int .i64 x.sk.min, .int .i64 x.sk.max, .slice a1 n1 c1, .slice a2 n2 c2, .slice a3 n3 c3]) ∧ Blk ((W3.drew.alloc (.cells #[.int .i64 0, .int .i64 0, .int .i64 0, .int .i64 0, .slice none 0 0, .int .i64 0, .int .i64 0, .int .i64 0, .int .i64 0, .int .i64 0, .int .i64 0, .int .i64 0, .int .i64 0, .slice none 0 0, .slice none 0 0, .slice none 0 0] 51)).setRow W3.heap.size #[.int .i64 x0, .int .i64 x1, .int .i64 x2, .int .i64 x3, .slice b1 m1 k1, .int .i64 x.seq, .int .i64 x.cls, .int .i64 x.key, .int .i64 x.window, .int .i64 x.sk.count, .int .i64 x.sk.sum, .int .i64 x.sk.min, .int .i64 x.sk.max, .slice a1 n1 c1, .slice a2 n2 c2, .slice a3 n3 c3]) w.heap.size #[.int .i64 0, .int .i64 0, .int .i64 0, .int .i64 0, .slice none 0 0, .int .i64 0, .int .i64 0, .int .i64 0, .int .i64 0, .int .i64 0, .int .i64 0, .int .i64 0, .int .i64 0, .slice none 0 0, .slice none 0 0, .slice none 0 0] 51 ∧ Blk ((W3.drew.alloc (.cells #[.int .i64 0, .int .i64 0, .int .i64 0, .int .i64 0, .slice none 0 0, .int .i64 0, .int .i64 0, .int .i64 0, .int .i64 0, .int .i64 0, .int .i64 0, .int .i64 0, .int .i64 0, .slice none 0 0, .slice none 0 0, .slice none 0 0] 51)).setRow W3.heap.size #[.int .i64 x0, .int .i64 x1, .int .i64 x2, .int .i64 x3, .slice b1 m1 k1, .int .i64 x.seq, .int .i64 x.cls, .int .i64 x.key, .int .i64 x.window, .int .i64 x.sk.count, .int .i64 x.sk.sum, .int .i64 x.sk.min, .int .i64 x.sk.max, .slice a1 n1 c1, .slice a2 n2 c2, .slice a3 n3 c3]) W3.heap.size #[.int .i64 x0, .int .i64 x1, .int .i64 x2, .int .i64 x3, .slice b1 m1 k1, .int .i64 x.seq, .int .i64 x.cls, .int .i64 x.key, .int .i64 x.window, .int .i64 x.sk.count, .int .i64 x.sk.sum, .int .i64 x.sk.min, .int .i64 x.sk.max, .slice a1 n1 c1, .slice a2 n2 c2, .slice a3 n3 c3] 51 ∧ RdIt ((W3.drew.alloc (.cells #[.int .i64 0, .int .i64 0, .int .i64 0, .int .i64 0, .slice none 0 0, .int .i64 0, .int .i64 0, .int .i64 0, .int .i64 0, .int .i64 0, .int .i64 0, .int .i64 0, .int .i64 0, .slice none 0 0, .slice none 0 0, .slice none 0 0] 51)).setRow W3.heap.size #[.int .i64 x0, .int .i64 x1, .int .i64 x2, .int .i64 x3, .slice b1 m1 k1, .int .i64 x.seq, .int .i64 x.cls, .int .i64 x.key, .int .i64 x.window, .int .i64 x.sk.count, .int .i64 x.sk.sum, .int .i64 x.sk.min, .int .i64 x.sk.max, .slice a1 n1 c1, .slice a2 n2 c2, .slice a3 n3 c3]) (.agg #[.int .i64 x.seq, .int .i64 x.cls, .int .i64 x.key, .int .i64 x.window, .int .i64 x.sk.count, .int .i64 x.sk.sum, .int .i64 x.sk.min, .int .i64 x.sk.max, .slice a1 n1 c1, .slice a2 n2 c2, .slice a3 n3 c3]) x X ∧ Own w1.heap.size ((W3.drew.alloc (.cells #[.int .i64 0, .int .i64 0, .int .i64 0, .int .i64 0, .slice none 0 0, .int .i64 0, .int .i64 0, .int .i64 0, .int .i64 0, .int .i64 0, .int .i64 0, .int .i64 0, .int .i64 0, .slice none 0 0, .slice none 0 0, .slice none 0 0] 51)).setRow W3.heap.size #[.int .i64 x0, .int .i64 x1, .int .i64 x2, .int .i64 x3, .slice b1 m1 k1, .int .i64 x.seq, .int .i64 x.cls, .int .i64 x.key, .int .i64 x.window, .int .i64 x.sk.count, .int .i64 x.sk.sum, .int .i64 x.sk.min, .int .i64 x.sk.max, .slice a1 n1 c1, .slice a2 n2 c2, .slice a3 n3 c3]) X ∧ RdP ((W3.drew.alloc (.cells #[.int .i64 0, .int .i64 0, .int .i64 0, .int .i64 0, .slice none 0 0, .int .i64 0, .int .i64 0, .int .i64 0, .int .i64 0, .int .i64 0, .int .i64 0, .int .i64 0, .int .i64 0, .slice none 0 0, .slice none 0 0, .slice none 0 0] 51)).setRow W3.heap.size #[.int .i64 x0, .int .i64 x1, .int .i64 x2, .int .i64 x3, .slice b1 m1 k1, .int .i64 x.seq, .int .i64 x.cls, .int .i64 x.key, .int .i64 x.window, .int .i64 x.sk.count, .int .i64 x.sk.sum, .int .i64 x.sk.min, .int .i64 x.sk.max, .slice a1 n1 c1, .slice a2 n2 c2, .slice a3 n3 c3]) b1 m1 ps F1 ∧ Own (w.heap.size + 1) ((W3.drew.alloc (.cells #[.int .i64 0, .int .i64 0, .int .i64 0, .int .i64 0, .slice none 0 0, .int .i64 0, .int .i64 0, .int .i64 0, .int .i64 0, .int .i64 0, .int .i64 0, .int .i64 0, .int .i64 0, .slice none 0 0, .slice none 0 0, .slice none 0 0] 51)).setRow W3.heap.size #[.int .i64 x0, .int .i64 x1, .int .i64 x2, .int .i64 x3, .slice b1 m1 k1, .int .i64 x.seq, .int .i64 x.cls, .int .i64 x.key, .int .i64 x.window, .int .i64 x.sk.count, .int .i64 x.sk.sum, .int .i64 x.sk.min, .int .i64 x.sk.max, .slice a1 n1 c1, .slice a2 n2 c2, .slice a3 n3 c3]) F1) := by
      refine ⟨below_setRow HA.out.1 (by omega) _, (HW3.out.2.2.1.below bA).setRowOther (by omega), HA.out.2.setRow, (HW3.out.2.2.2.1.below bA).agree (Agree.row nX _), (HW3.out.2.2.2.2.1.below HW3.out.2.2.2.1.lt bA).agree (Agree.row nX _), (HW3.out.2.2.2.2.2.1.below bA).agree (Agree.row nF _), (HW3.out.2.2.2.2.2.2.below HW3.out.2.2.2.2.2.1.lt bA).agree (Agree.row nF _)⟩
    have HQS : Hid (NumItHeld b off x0 x1 x2 x3 w2.heap.size #[.int .i64 x.seq, .int .i64 x.cls, .int .i64 x.key, .int .i64 x.window, .int .i64 x.sk.count, .int .i64 x.sk.sum, .int .i64 x.sk.min, .int .i64 x.sk.max, .slice a1 n1 c1, .slice a2 n2 c2, .slice a3 n3 c3] ((W3.drew.alloc (.cells #[.int .i64 0, .int .i64 0, .int .i64 0, .int .i64 0, .slice none 0 0, .int .i64 0, .int .i64 0, .int .i64 0, .int .i64 0, .int .i64 0, .int .i64 0, .int .i64 0, .int .i64 0, .slice none 0 0, .slice none 0 0, .slice none 0 0] 51)).setRow W3.heap.size #[.int .i64 x0, .int .i64 x1, .int .i64 x2, .int .i64 x3, .slice b1 m1 k1, .int .i64 x.seq, .int .i64 x.cls, .int .i64 x.key, .int .i64 x.window, .int .i64 x.sk.count, .int .i64 x.sk.sum, .int .i64 x.sk.min, .int .i64 x.sk.max, .slice a1 n1 c1, .slice a2 n2 c2, .slice a3 n3 c3])) := ⟨HKN.out _ HQ.out.1, (HW3.out.1.2.below bA).setRowOther (by omega)⟩
    refine op_store 51 W3.heap.size #[.int .i64 0, .int .i64 0, .int .i64 0, .int .i64 0, .slice none 0 0, .int .i64 0, .int .i64 0, .int .i64 0, .int .i64 0, .int .i64 0, .int .i64 0, .int .i64 0, .int .i64 0, .slice none 0 0, .slice none 0 0, .slice none 0 0] #[.int .i64 x0, .int .i64 x1, .int .i64 x2, .int .i64 x3, .slice b1 m1 k1, .int .i64 x.seq, .int .i64 x.cls, .int .i64 x.key, .int .i64 x.window, .int .i64 x.sk.count, .int .i64 x.sk.sum, .int .i64 x.sk.min, .int .i64 x.sk.max, .slice a1 n1 c1, .slice a2 n2 c2, .slice a3 n3 c3] 51 rfl rfl rfl rfl HA.out.2 infoFrF7 rfl (by simp [Value.oneCell']) ⟨_, by simp [Act.put]; rfl, hK _ _ ⟨HQS.out, ?_⟩⟩
    clear hK bA HA HW3 nX nF HQS
    refine wpAnyH_done (by kernel_rfl) ?_ _
    obtain ⟨W5, hW5⟩ : ∃ W, W = (W3.drew.alloc (.cells #[.int .i64 0, .int .i64 0, .int .i64 0, .int .i64 0, .slice none 0 0, .int .i64 0, .int .i64 0, .int .i64 0, .int .i64 0, .int .i64 0, .int .i64 0, .int .i64 0, .int .i64 0, .slice none 0 0, .slice none 0 0, .slice none 0 0] 51)).setRow W3.heap.size #[.int .i64 x0, .int .i64 x1, .int .i64 x2, .int .i64 x3, .slice b1 m1 k1, .int .i64 x.seq, .int .i64 x.cls, .int .i64 x.key, .int .i64 x.window, .int .i64 x.sk.count, .int .i64 x.sk.sum, .int .i64 x.sk.min, .int .i64 x.sk.max, .slice a1 n1 c1, .slice a2 n2 c2, .slice a3 n3 c3] := ⟨_, rfl⟩
    rw [← hW5] at HQ ⊢
    clear hW5
    cases d1
    · have HV : Hid (FrN l Fr.zero false) := frN_spans HP2.out.2.2.2.1
      go_wp2_with (first | go_skip | (with_reducible refine stopStore 51 rfl ?_))
      refine store_known 51 w.heap.size _ #[.int .i64 0, .int .i64 0, .int .i64 0, .int .i64 0, .slice none 0 0, .int .i64 0, .int .i64 0, .int .i64 0, .int .i64 0, .int .i64 0, .int .i64 0, .int .i64 0, .int .i64 0, .slice none 0 0, .slice none 0 0, .slice none 0 0] 51 HQ.out.2.1 rfl rfl rfl rfl infoFrF7 rfl (by simp [Value.oneCell']) ?_
      go_wp2
      refine bodyPost_ret (results_row_tmp Try.results73 _ _ w.heap.size _ _ _ _ rfl HQ.out.2.1.setRow Try.underlying51 rfl infoFrF7) rfl ?_
      exact ⟨_, Fr.zero, false, [], [], rfl, rdFr_zero _, Own.nil, Own.nil, by simp, below_setRow HQ.out.1 (Nat.le_refl _) _, HV.out⟩
    cases d2
    · have HV : Hid (FrN l Fr.zero false) := frN_item HP2.out.2.2.2.1 (by rw [← HX.out.1]; exact HS2.out.2.2.2)
      go_wp2_with (first | go_skip | (with_reducible refine stopStore 51 rfl ?_))
      refine store_known 51 w.heap.size _ #[.int .i64 0, .int .i64 0, .int .i64 0, .int .i64 0, .slice none 0 0, .int .i64 0, .int .i64 0, .int .i64 0, .int .i64 0, .int .i64 0, .int .i64 0, .int .i64 0, .int .i64 0, .slice none 0 0, .slice none 0 0, .slice none 0 0] 51 HQ.out.2.1 rfl rfl rfl rfl infoFrF7 rfl (by simp [Value.oneCell']) ?_
      go_wp2
      refine bodyPost_ret (results_row_tmp Try.results73 _ _ w.heap.size _ _ _ _ rfl HQ.out.2.1.setRow Try.underlying51 rfl infoFrF7) rfl ?_
      exact ⟨_, Fr.zero, false, [], [], rfl, rdFr_zero _, Own.nil, Own.nil, by simp, below_setRow HQ.out.1 (Nat.le_refl _) _, HV.out⟩
    have HFin : Hid (((⟨x0, x1, x2, x3, ps, x⟩ : Fr).ok = true → FrN l ⟨x0, x1, x2, x3, ps, x⟩ true) ∧ ((⟨x0, x1, x2, x3, ps, x⟩ : Fr).ok = false → FrN l Fr.zero false)) := by
      have q := frN_fin (l := l) (by rw [HL.out]; omega) HP2.out.2.2.2.1 (by rw [← HX.out.1]; exact HS2.out.2.2.2)
      rw [← HX.out.1, ← HX.out.2.1, ← HX.out.2.2.1, ← HX.out.2.2.2] at q
      exact q
    obtain ⟨f, hf⟩ : ∃ f : Fr, f = ⟨x0, x1, x2, x3, ps, x⟩ := ⟨_, rfl⟩
    have HRF : Hid (RdFr W5 (.agg #[.int .i64 x0, .int .i64 x1, .int .i64 x2, .int .i64 x3, .slice b1 m1 k1, .int .i64 x.seq, .int .i64 x.cls, .int .i64 x.key, .int .i64 x.window, .int .i64 x.sk.count, .int .i64 x.sk.sum, .int .i64 x.sk.min, .int .i64 x.sk.max, .slice a1 n1 c1, .slice a2 n2 c2, .slice a3 n3 c3]) f F1 X ∧ f.item.sk.wide ∧ f.taken.length ≤ 2097152) := by
      rw [hf]
      exact ⟨⟨b1, m1, k1, a1, n1, c1, a2, n2, c2, a3, n3, c3, rfl, HQ.out.2.2.2.2.2.1, HQ.out.2.2.2.1, HP2.out.2.1⟩, HS2.out.2.2.1, by show ps.length ≤ _; rw [HP2.out.1.length]; omega⟩
    rw [← hf] at HFin
    clear hf
    go_wp2_with (first | go_skip | (with_reducible refine stopLoad 51 rfl ?_))
    refine load_cutw 51 W3.heap.size 0 16 _ #[.int .i64 x0, .int .i64 x1, .int .i64 x2, .int .i64 x3, .slice b1 m1 k1, .int .i64 x.seq, .int .i64 x.cls, .int .i64 x.key, .int .i64 x.window, .int .i64 x.sk.count, .int .i64 x.sk.sum, .int .i64 x.sk.min, .int .i64 x.sk.max, .slice a1 n1 c1, .slice a2 n2 c2, .slice a3 n3 c3] 51 _ HQ.out.2.2.1 rfl rfl rfl Try.underlying51 rfl infoFrF7 (by simp) rfl ?_
    go_wp2_with fail
    refine (frameOkImpl_any _ f F1 X _ HRF.out.1 HRF.out.2.1 HRF.out.2.2).mono ?_
    rintro e W6 ⟨rfl, hb6⟩
    have HQ6 : Hid (Below w.heap.size w W6 ∧ Blk W6 w.heap.size #[.int .i64 0, .int .i64 0, .int .i64 0, .int .i64 0, .slice none 0 0, .int .i64 0, .int .i64 0, .int .i64 0, .int .i64 0, .int .i64 0, .int .i64 0, .int .i64 0, .int .i64 0, .slice none 0 0, .slice none 0 0, .slice none 0 0] 51 ∧ Blk W6 W3.heap.size #[.int .i64 x0, .int .i64 x1, .int .i64 x2, .int .i64 x3, .slice b1 m1 k1, .int .i64 x.seq, .int .i64 x.cls, .int .i64 x.key, .int .i64 x.window, .int .i64 x.sk.count, .int .i64 x.sk.sum, .int .i64 x.sk.min, .int .i64 x.sk.max, .slice a1 n1 c1, .slice a2 n2 c2, .slice a3 n3 c3] 51 ∧ RdFr W6 (.agg #[.int .i64 x0, .int .i64 x1, .int .i64 x2, .int .i64 x3, .slice b1 m1 k1, .int .i64 x.seq, .int .i64 x.cls, .int .i64 x.key, .int .i64 x.window, .int .i64 x.sk.count, .int .i64 x.sk.sum, .int .i64 x.sk.min, .int .i64 x.sk.max, .slice a1 n1 c1, .slice a2 n2 c2, .slice a3 n3 c3]) f F1 X ∧ Own w1.heap.size W6 X ∧ Own (w.heap.size + 1) W6 F1) := ⟨Below.next HQ.out.1 hb6, HQ.out.2.1.below hb6, HQ.out.2.2.1.below hb6, HRF.out.1.below hb6, HQ.out.2.2.2.2.1.below HQ.out.2.2.2.1.lt hb6, HQ.out.2.2.2.2.2.2.below HQ.out.2.2.2.2.2.1.lt hb6⟩
    clear hb6 HQ HRF
    obtain ⟨d, hd⟩ : ∃ d, d = f.ok := ⟨_, rfl⟩
    rw [← hd] at HFin ⊢
    clear hd
    cases d
    · have HV : Hid (FrN l Fr.zero false) := HFin.out.2 rfl
      go_wp2_with (first | go_skip | (with_reducible refine stopStore 51 rfl ?_))
      refine store_known 51 w.heap.size _ #[.int .i64 0, .int .i64 0, .int .i64 0, .int .i64 0, .slice none 0 0, .int .i64 0, .int .i64 0, .int .i64 0, .int .i64 0, .int .i64 0, .int .i64 0, .int .i64 0, .int .i64 0, .slice none 0 0, .slice none 0 0, .slice none 0 0] 51 HQ6.out.2.1 rfl rfl rfl rfl infoFrF7 rfl (by simp [Value.oneCell']) ?_
      go_wp2
      refine bodyPost_ret (results_row_tmp Try.results73 _ _ w.heap.size _ _ _ _ rfl HQ6.out.2.1.setRow Try.underlying51 rfl infoFrF7) rfl ?_
      exact ⟨_, Fr.zero, false, [], [], rfl, rdFr_zero _, Own.nil, Own.nil, by simp, below_setRow HQ6.out.1 (Nat.le_refl _) _, HV.out⟩
    have HV : Hid (FrN l f true) := HFin.out.1 rfl
    go_wp2_with (first | go_skip | (with_reducible refine stopLoad 51 rfl ?_))
    refine load_known 51 W3.heap.size #[.int .i64 x0, .int .i64 x1, .int .i64 x2, .int .i64 x3, .slice b1 m1 k1, .int .i64 x.seq, .int .i64 x.cls, .int .i64 x.key, .int .i64 x.window, .int .i64 x.sk.count, .int .i64 x.sk.sum, .int .i64 x.sk.min, .int .i64 x.sk.max, .slice a1 n1 c1, .slice a2 n2 c2, .slice a3 n3 c3] 51 _ HQ6.out.2.2.1 rfl rfl rfl Try.underlying51 rfl infoFrF7 ?_
    go_wp2_with (first | go_skip | (with_reducible refine stopStore 51 rfl ?_))
    refine store_known 51 w.heap.size _ #[.int .i64 x0, .int .i64 x1, .int .i64 x2, .int .i64 x3, .slice b1 m1 k1, .int .i64 x.seq, .int .i64 x.cls, .int .i64 x.key, .int .i64 x.window, .int .i64 x.sk.count, .int .i64 x.sk.sum, .int .i64 x.sk.min, .int .i64 x.sk.max, .slice a1 n1 c1, .slice a2 n2 c2, .slice a3 n3 c3] 51 HQ6.out.2.1 rfl rfl rfl rfl infoFrF7 rfl (by simp [Value.oneCell']) ?_
    have nX : w.heap.size ∉ X := fun hx => by have := HQ6.out.2.2.2.2.1.ge _ hx; omega
    have nF : w.heap.size ∉ F1 := fun hx => by have := HQ6.out.2.2.2.2.2.ge _ hx; omega
    have HE : Hid (RdFr (W6.setRow w.heap.size #[.int .i64 x0, .int .i64 x1, .int .i64 x2, .int .i64 x3, .slice b1 m1 k1, .int .i64 x.seq, .int .i64 x.cls, .int .i64 x.key, .int .i64 x.window, .int .i64 x.sk.count, .int .i64 x.sk.sum, .int .i64 x.sk.min, .int .i64 x.sk.max, .slice a1 n1 c1, .slice a2 n2 c2, .slice a3 n3 c3]) (.agg #[.int .i64 x0, .int .i64 x1, .int .i64 x2, .int .i64 x3, .slice b1 m1 k1, .int .i64 x.seq, .int .i64 x.cls, .int .i64 x.key, .int .i64 x.window, .int .i64 x.sk.count, .int .i64 x.sk.sum, .int .i64 x.sk.min, .int .i64 x.sk.max, .slice a1 n1 c1, .slice a2 n2 c2, .slice a3 n3 c3]) f F1 X ∧ Own w.heap.size (W6.setRow w.heap.size #[.int .i64 x0, .int .i64 x1, .int .i64 x2, .int .i64 x3, .slice b1 m1 k1, .int .i64 x.seq, .int .i64 x.cls, .int .i64 x.key, .int .i64 x.window, .int .i64 x.sk.count, .int .i64 x.sk.sum, .int .i64 x.sk.min, .int .i64 x.sk.max, .slice a1 n1 c1, .slice a2 n2 c2, .slice a3 n3 c3]) F1 ∧ Own w.heap.size (W6.setRow w.heap.size #[.int .i64 x0, .int .i64 x1, .int .i64 x2, .int .i64 x3, .slice b1 m1 k1, .int .i64 x.seq, .int .i64 x.cls, .int .i64 x.key, .int .i64 x.window, .int .i64 x.sk.count, .int .i64 x.sk.sum, .int .i64 x.sk.min, .int .i64 x.sk.max, .slice a1 n1 c1, .slice a2 n2 c2, .slice a3 n3 c3]) X ∧ (∀ b ∈ F1, b ∉ X) ∧ Below w.heap.size w (W6.setRow w.heap.size #[.int .i64 x0, .int .i64 x1, .int .i64 x2, .int .i64 x3, .slice b1 m1 k1, .int .i64 x.seq, .int .i64 x.cls, .int .i64 x.key, .int .i64 x.window, .int .i64 x.sk.count, .int .i64 x.sk.sum, .int .i64 x.sk.min, .int .i64 x.sk.max, .slice a1 n1 c1, .slice a2 n2 c2, .slice a3 n3 c3]) ∧ Blk (W6.setRow w.heap.size #[.int .i64 x0, .int .i64 x1, .int .i64 x2, .int .i64 x3, .slice b1 m1 k1, .int .i64 x.seq, .int .i64 x.cls, .int .i64 x.key, .int .i64 x.window, .int .i64 x.sk.count, .int .i64 x.sk.sum, .int .i64 x.sk.min, .int .i64 x.sk.max, .slice a1 n1 c1, .slice a2 n2 c2, .slice a3 n3 c3]) w.heap.size #[.int .i64 x0, .int .i64 x1, .int .i64 x2, .int .i64 x3, .slice b1 m1 k1, .int .i64 x.seq, .int .i64 x.cls, .int .i64 x.key, .int .i64 x.window, .int .i64 x.sk.count, .int .i64 x.sk.sum, .int .i64 x.sk.min, .int .i64 x.sk.max, .slice a1 n1 c1, .slice a2 n2 c2, .slice a3 n3 c3] 51) := ⟨HQ6.out.2.2.2.1.agree (Agree.row nF _) (Agree.row nX _), (HQ6.out.2.2.2.2.2.agree (Agree.row nF _)).mono (by omega), (HQ6.out.2.2.2.2.1.agree (Agree.row nX _)).mono (by omega), fun b hb hx => by have := HP2.out.2.2.2.2 b hb; have := HQ6.out.2.2.2.2.1.ge b hx; omega, below_setRow HQ6.out.1 (Nat.le_refl _) _, HQ6.out.2.1.setRow⟩
    clear HQ6 nX nF
    go_wp2
    refine bodyPost_ret (results_row_tmp Try.results73 _ _ w.heap.size _ _ _ _ rfl HE.out.2.2.2.2.2 Try.underlying51 rfl infoFrF7) rfl ?_
    exact ⟨_, f, true, F1, X, rfl, HE.out.1, HE.out.2.1, HE.out.2.2.1, HE.out.2.2.2.1, HE.out.2.2.2.2.1, HV.out⟩
  · obtain ⟨G, hG⟩ := (h.below HT.out.2).rest (cap := cap) 4 (by omega) hcap
    rw [if_neg hc4] at hG
    have HG : Hid (RdI (w.alloc (.cells #[.int .i64 0, .int .i64 0, .int .i64 0, .int .i64 0, .slice none 0 0, .int .i64 0, .int .i64 0, .int .i64 0, .int .i64 0, .int .i64 0, .int .i64 0, .int .i64 0, .int .i64 0, .slice none 0 0, .slice none 0 0, .slice none 0 0] 51)) (some ⟨b, off + 4, none⟩) (len - 4) (l.drop 4) G) := hG
    clear h hx0 hx1 hx2 hx3 hG hn
    go_enter Try.func73, Try.ntmps73
    go_wp2_with fail
    refine (spansOfNumbers_any _ (len - 4) _ (l.drop 4) G _ HG.out (by omega) (by omega) HN.out).mono ?_
    rintro e w1 ⟨b1, m1, k1, ar, lr, cr, ps, rest, d1, F1, G1, rfl, rp, cpd, op, rr, hlr, hcr, hSp, bs⟩
    have HS1 : Hid (RdP w1 b1 m1 ps F1 ∧ Capd b1 m1 k1 ∧ Own (w.heap.size + 1) w1 F1 ∧ RdI w1 ar lr rest G1 ∧ SpansIs (l.drop 4) ps rest d1) := ⟨rp, cpd, by simpa using op, rr, hSp⟩
    have HT1 : Hid (Blk w1 w.heap.size #[.int .i64 0, .int .i64 0, .int .i64 0, .int .i64 0, .slice none 0 0, .int .i64 0, .int .i64 0, .int .i64 0, .int .i64 0, .int .i64 0, .int .i64 0, .int .i64 0, .int .i64 0, .slice none 0 0, .slice none 0 0, .slice none 0 0] 51 ∧ Below w.heap.size w w1) := ⟨HT.out.1.below bs, Below.next HT.out.2 bs⟩
    have hm1 : m1 ≤ 1048576 := by
      have q := hSp
      unfold SpansIs at q
      cases d1 <;> simp only [if_true, Bool.false_eq_true, if_false] at q
      · rw [← rp.length, q.1]; simp
      · have := congrArg List.length q
        rw [List.length_cons, List.length_append, flat_length, List.length_drop, HL.out, rp.length] at this
        omega
    have cc := (HKN.out _ HT1.out.2).1
    clear rp cpd op rr hSp bs HT HG
    go_wp2_with fail
    refine (itemOfNumbers_any ar lr cr x0 rest G1 _ HS1.out.2.2.2.1 (by omega) hcr).mono ?_
    rintro e w2 ⟨v2, x, d2, X, rfl, rx, ox, bx, hwx, hIt⟩
    obtain ⟨a1, n1, c1, a2, n2, c2, a3, n3, c3, rfl⟩ := rx.cells11
    have HS2 : Hid (RdIt w2 (.agg #[.int .i64 x.seq, .int .i64 x.cls, .int .i64 x.key, .int .i64 x.window, .int .i64 x.sk.count, .int .i64 x.sk.sum, .int .i64 x.sk.min, .int .i64 x.sk.max, .slice a1 n1 c1, .slice a2 n2 c2, .slice a3 n3 c3]) x X ∧ Own w1.heap.size w2 X ∧ x.sk.wide ∧ ItemIs x0 rest x d2) := ⟨rx, ox, hwx, hIt⟩
    have HP2 : Hid (RdP w2 b1 m1 ps F1 ∧ Capd b1 m1 k1 ∧ Own (w.heap.size + 1) w2 F1 ∧ SpansIs (l.drop 4) ps rest d1 ∧ ∀ b ∈ F1, b < w1.heap.size) := ⟨HS1.out.1.below bx, HS1.out.2.1, HS1.out.2.2.1.below HS1.out.1.lt bx, HS1.out.2.2.2.2, HS1.out.1.lt⟩
    have HT2 : Hid (Blk w2 w.heap.size #[.int .i64 0, .int .i64 0, .int .i64 0, .int .i64 0, .slice none 0 0, .int .i64 0, .int .i64 0, .int .i64 0, .int .i64 0, .int .i64 0, .int .i64 0, .int .i64 0, .int .i64 0, .slice none 0 0, .slice none 0 0, .slice none 0 0] 51 ∧ Below w.heap.size w w2) := ⟨HT1.out.1.below bx, Below.next HT1.out.2 bx⟩
    have lt1 : w.heap.size < w1.heap.size := HT1.out.1.lt
    clear rx ox bx hwx hIt HS1 HT1 cc
    go_wp2_with (first | go_skip | (with_reducible refine stopStore 49 rfl ?_))
    refine store_fresh 49 w2.heap.size rfl #[.int .i64 0, .int .i64 0, .int .i64 0, .int .i64 0, .int .i64 0, .int .i64 0, .int .i64 0, .int .i64 0, .slice none 0 0, .slice none 0 0, .slice none 0 0] #[.int .i64 x.seq, .int .i64 x.cls, .int .i64 x.key, .int .i64 x.window, .int .i64 x.sk.count, .int .i64 x.sk.sum, .int .i64 x.sk.min, .int .i64 x.sk.max, .slice a1 n1 c1, .slice a2 n2 c2, .slice a3 n3 c3] 49 rfl rfl rfl rfl infoItA7 rfl (one11 ..) ?_
    intro W3 hg3 hb3
    have HW3 : Hid (NumItHeld b off x0 x1 x2 x3 w2.heap.size #[.int .i64 x.seq, .int .i64 x.cls, .int .i64 x.key, .int .i64 x.window, .int .i64 x.sk.count, .int .i64 x.sk.sum, .int .i64 x.sk.min, .int .i64 x.sk.max, .slice a1 n1 c1, .slice a2 n2 c2, .slice a3 n3 c3] W3.drew ∧ Below w.heap.size w W3.drew ∧ Blk W3.drew w.heap.size #[.int .i64 0, .int .i64 0, .int .i64 0, .int .i64 0, .slice none 0 0, .int .i64 0, .int .i64 0, .int .i64 0, .int .i64 0, .int .i64 0, .int .i64 0, .int .i64 0, .int .i64 0, .slice none 0 0, .slice none 0 0, .slice none 0 0] 51 ∧ RdIt W3.drew (.agg #[.int .i64 x.seq, .int .i64 x.cls, .int .i64 x.key, .int .i64 x.window, .int .i64 x.sk.count, .int .i64 x.sk.sum, .int .i64 x.sk.min, .int .i64 x.sk.max, .slice a1 n1 c1, .slice a2 n2 c2, .slice a3 n3 c3]) x X ∧ Own w1.heap.size W3.drew X ∧ RdP W3.drew b1 m1 ps F1 ∧ Own (w.heap.size + 1) W3.drew F1) := by
      have bb := (Below.next HT2.out.2 hb3).drew
      exact ⟨⟨HKN.out _ bb, hg3.drew⟩, bb, (HT2.out.1.below hb3).drew, (HS2.out.1.below hb3).below (Below.refl _ _).drew, (HS2.out.2.1.below HS2.out.1.lt hb3).agree (fun _ _ => rfl), (HP2.out.1.below hb3).below (Below.refl _ _).drew, (HP2.out.2.2.1.below HP2.out.1.lt hb3).agree (fun _ _ => rfl)⟩
    clear hg3 hb3 HT2
    go_wp2
    refine wp_region_held (S := NumItHeld b off x0 x1 x2 x3 w2.heap.size #[.int .i64 x.seq, .int .i64 x.cls, .int .i64 x.key, .int .i64 x.window, .int .i64 x.sk.count, .int .i64 x.sk.sum, .int .i64 x.sk.min, .int .i64 x.sk.max, .slice a1 n1 c1, .slice a2 n2 c2, .slice a3 n3 c3]) (by kernel_rfl) ?_
    change wpAnyH _ _ _ _ _ _ _ _ (World.drew _)
    refine takeH (o := ?ob1) 0 (.slice (some ⟨b, off, none⟩) len cap) ?hb1 ?rb1
    case hb1 => simp only [aT, aZ]; rfl
    refine ⟨_, by simp [Act.put]; rfl, by kernel_rfl, by kernel_rfl, by kernel_rfl, fun _ _ _ h => h, (.inl ⟨rfl, fun W _ => by go_simp⟩), HW3.out.1, ?_⟩
    refine takeH (o := ?ob2) 1 (.pointer (some ⟨b, off, none⟩)) ?hb2 ?rb2
    case hb2 => simp only [aT, aS, aZ]; rfl
    refine ⟨_, by simp [Act.put]; rfl, by kernel_rfl, by kernel_rfl, by kernel_rfl, fun _ _ _ h => h, (.inl ⟨rfl, fun W _ => by (have q0 : (0 : Int) < (len : Int) := by omega); first | (go_simp; done) | (go_simp; intro h; omega)⟩), HW3.out.1, ?_⟩
    refine takeH (o := ?ob3) 2 (.int .i64 x0) ?hb3 ?rb3
    case hb3 => simp only [aT, aS, aZ]; rfl
    refine ⟨_, by simp [Act.put]; rfl, by kernel_rfl, by kernel_rfl, by kernel_rfl, fun _ _ _ h => h, (.inl ⟨rfl, fun W hW => by have c := hW.1.1; go_simp⟩), HW3.out.1, ?_⟩
    refine takeH (o := ?ob4) 3 (.slice (some ⟨b, off, none⟩) len cap) ?hb4 ?rb4
    case hb4 => simp only [aT, aS, aZ]; rfl
    refine ⟨_, by simp [Act.put]; rfl, by kernel_rfl, by kernel_rfl, by kernel_rfl, fun _ _ _ h => h, (.inl ⟨rfl, fun W _ => by go_simp⟩), HW3.out.1, ?_⟩
    refine takeH (o := ?ob5) 4 (.pointer (some ⟨b, off + 1, none⟩)) ?hb5 ?rb5
    case hb5 => simp only [aT, aS, aZ]; rfl
    refine ⟨_, by simp [Act.put]; rfl, by kernel_rfl, by kernel_rfl, by kernel_rfl, fun _ _ _ h => h, (.inl ⟨rfl, fun W _ => by (have q1 : (1 : Int) < (len : Int) := by omega); first | (go_simp; done) | (go_simp; intro h; omega)⟩), HW3.out.1, ?_⟩
    refine takeH (o := ?ob6) 5 (.int .i64 x1) ?hb6 ?rb6
    case hb6 => simp only [aT, aS, aZ]; rfl
    refine ⟨_, by simp [Act.put]; rfl, by kernel_rfl, by kernel_rfl, by kernel_rfl, fun _ _ _ h => h, (.inl ⟨rfl, fun W hW => by have c := hW.1.2.1; go_simp⟩), HW3.out.1, ?_⟩
    refine takeH (o := ?ob7) 6 (.slice (some ⟨b, off, none⟩) len cap) ?hb7 ?rb7
    case hb7 => simp only [aT, aS, aZ]; rfl
    refine ⟨_, by simp [Act.put]; rfl, by kernel_rfl, by kernel_rfl, by kernel_rfl, fun _ _ _ h => h, (.inl ⟨rfl, fun W _ => by go_simp⟩), HW3.out.1, ?_⟩
    refine takeH (o := ?ob8) 7 (.pointer (some ⟨b, off + 2, none⟩)) ?hb8 ?rb8
    case hb8 => simp only [aT, aS, aZ]; rfl
    refine ⟨_, by simp [Act.put]; rfl, by kernel_rfl, by kernel_rfl, by kernel_rfl, fun _ _ _ h => h, (.inl ⟨rfl, fun W _ => by (have q2 : (2 : Int) < (len : Int) := by omega); first | (go_simp; done) | (go_simp; intro h; omega)⟩), HW3.out.1, ?_⟩
    refine takeH (o := ?ob9) 8 (.int .i64 x2) ?hb9 ?rb9
    case hb9 => simp only [aT, aS, aZ]; rfl
    refine ⟨_, by simp [Act.put]; rfl, by kernel_rfl, by kernel_rfl, by kernel_rfl, fun _ _ _ h => h, (.inl ⟨rfl, fun W hW => by have c := hW.1.2.2.1; go_simp⟩), HW3.out.1, ?_⟩
    refine takeH (o := ?ob10) 9 (.slice (some ⟨b, off, none⟩) len cap) ?hb10 ?rb10
    case hb10 => simp only [aT, aS, aZ]; rfl
    refine ⟨_, by simp [Act.put]; rfl, by kernel_rfl, by kernel_rfl, by kernel_rfl, fun _ _ _ h => h, (.inl ⟨rfl, fun W _ => by go_simp⟩), HW3.out.1, ?_⟩
    refine takeH (o := ?ob11) 10 (.pointer (some ⟨b, off + 3, none⟩)) ?hb11 ?rb11
    case hb11 => simp only [aT, aS, aZ]; rfl
    refine ⟨_, by simp [Act.put]; rfl, by kernel_rfl, by kernel_rfl, by kernel_rfl, fun _ _ _ h => h, (.inl ⟨rfl, fun W _ => by (have q3 : (3 : Int) < (len : Int) := by omega); first | (go_simp; done) | (go_simp; intro h; omega)⟩), HW3.out.1, ?_⟩
    refine takeH (o := ?ob12) 11 (.int .i64 x3) ?hb12 ?rb12
    case hb12 => simp only [aT, aS, aZ]; rfl
    refine ⟨_, by simp [Act.put]; rfl, by kernel_rfl, by kernel_rfl, by kernel_rfl, fun _ _ _ h => h, (.inl ⟨rfl, fun W hW => by have c := hW.1.2.2.2; go_simp⟩), HW3.out.1, ?_⟩
    refine takeH (o := ?ob13) 12 (.slice b1 m1 k1) ?hb13 ?rb13
    case hb13 => simp only [aT, aS, aZ]; rfl
    refine ⟨_, by simp [Act.put]; rfl, by kernel_rfl, by kernel_rfl, by kernel_rfl, fun _ _ _ h => h, (.inl ⟨rfl, fun W _ => by go_simp⟩), HW3.out.1, ?_⟩
    refine takeH (o := ?ob14) 13 (.agg #[.int .i64 x.seq, .int .i64 x.cls, .int .i64 x.key, .int .i64 x.window, .int .i64 x.sk.count, .int .i64 x.sk.sum, .int .i64 x.sk.min, .int .i64 x.sk.max, .slice a1 n1 c1, .slice a2 n2 c2, .slice a3 n3 c3]) ?hb14 ?rb14
    case hb14 => simp only [aT, aS, aZ]; rfl
    refine ⟨_, by simp [Act.put]; rfl, by kernel_rfl, by kernel_rfl, by kernel_rfl, fun _ _ _ h => h, (yields_whole 49 w2.heap.size #[.int .i64 x.seq, .int .i64 x.cls, .int .i64 x.key, .int .i64 x.window, .int .i64 x.sk.count, .int .i64 x.sk.sum, .int .i64 x.sk.min, .int .i64 x.sk.max, .slice a1 n1 c1, .slice a2 n2 c2, .slice a3 n3 c3] 49 _ rfl rfl rfl Try.underlying49 rfl infoItA7 (fun W hW => hW.2)), HW3.out.1, ?_⟩
    refine takeH (o := ?ob15) 14 (.agg #[.int .i64 x0, .int .i64 x1, .int .i64 x2, .int .i64 x3, .slice b1 m1 k1, .int .i64 x.seq, .int .i64 x.cls, .int .i64 x.key, .int .i64 x.window, .int .i64 x.sk.count, .int .i64 x.sk.sum, .int .i64 x.sk.min, .int .i64 x.sk.max, .slice a1 n1 c1, .slice a2 n2 c2, .slice a3 n3 c3]) ?hb15 ?rb15
    case hb15 => simp only [aT, aS, aZ]; rfl
    refine ⟨_, by simp [Act.put]; rfl, by kernel_rfl, by kernel_rfl, by kernel_rfl, fun _ _ _ h => h, (.inl ⟨rfl, fun W _ => by go_simp⟩), HW3.out.1, ?_⟩
    refine onlyH (o := ?ob16) 15 (by kernel_rfl) ?hb16 ?rb16
    case hb16 => simp only [aT, aS, aZ]; rfl
    intro K hK
    have bA : Below W3.drew.heap.size W3.drew (W3.drew.alloc (.cells #[.int .i64 0, .int .i64 0, .int .i64 0, .int .i64 0, .slice none 0 0, .int .i64 0, .int .i64 0, .int .i64 0, .int .i64 0, .int .i64 0, .int .i64 0, .int .i64 0, .int .i64 0, .slice none 0 0, .slice none 0 0, .slice none 0 0] 51)) := (Below.refl _ _).alloc (Nat.le_refl _) _
    have HA : Hid (Below w.heap.size w (W3.drew.alloc (.cells #[.int .i64 0, .int .i64 0, .int .i64 0, .int .i64 0, .slice none 0 0, .int .i64 0, .int .i64 0, .int .i64 0, .int .i64 0, .int .i64 0, .int .i64 0, .int .i64 0, .int .i64 0, .slice none 0 0, .slice none 0 0, .slice none 0 0] 51)) ∧ Blk (W3.drew.alloc (.cells #[.int .i64 0, .int .i64 0, .int .i64 0, .int .i64 0, .slice none 0 0, .int .i64 0, .int .i64 0, .int .i64 0, .int .i64 0, .int .i64 0, .int .i64 0, .int .i64 0, .int .i64 0, .slice none 0 0, .slice none 0 0, .slice none 0 0] 51)) W3.heap.size #[.int .i64 0, .int .i64 0, .int .i64 0, .int .i64 0, .slice none 0 0, .int .i64 0, .int .i64 0, .int .i64 0, .int .i64 0, .int .i64 0, .int .i64 0, .int .i64 0, .int .i64 0, .slice none 0 0, .slice none 0 0, .slice none 0 0] 51) := ⟨Below.next HW3.out.2.1 bA, Blk.made W3.drew _ _⟩
    refine op_turn (.pointer (some ⟨W3.heap.size, 0, none⟩)) (W3.drew.alloc (.cells #[.int .i64 0, .int .i64 0, .int .i64 0, .int .i64 0, .slice none 0 0, .int .i64 0, .int .i64 0, .int .i64 0, .int .i64 0, .int .i64 0, .int .i64 0, .int .i64 0, .int .i64 0, .slice none 0 0, .slice none 0 0, .slice none 0 0] 51)) rfl (by go_simp) ⟨_, by simp [Act.put]; rfl, hK _ _ ⟨⟨HKN.out _ HA.out.1, HW3.out.1.2.below bA⟩, ?_⟩⟩
    clear hK
    refine onlyH (o := ?ob17) 16 (by kernel_rfl) ?hb17 ?rb17
    case hb17 => simp only [aT, aS, aZ]; rfl
    intro K hK
    have l3 : w.heap.size < W3.heap.size := HW3.out.2.2.1.lt
    have l32 : w2.heap.size < W3.heap.size := HW3.out.1.2.lt
    have nX : W3.heap.size ∉ X := fun hx => by have q : _ < W3.heap.size := HW3.out.2.2.2.1.lt _ hx; omega
    have nF : W3.heap.size ∉ F1 := fun hx => by have q : _ < W3.heap.size := HW3.out.2.2.2.2.2.1.lt _ hx; omega
    have HQ : Hid (Below w.heap.size w ((W3.drew.alloc (.cells #[.int .i64 0, .int .i64 0, .int .i64 0, .int .i64 0, .slice none 0 0, .int .i64 0, .int .i64 0, .int .i64 0, .int .i64 0, .int .i64 0, .int .i64 0, .int .i64 0, .int .i64 0, .slice none 0 0, .slice none 0 0, .slice none 0 0] 51)).setRow W3.heap.size #[.int .i64 x0, .int .i64 x1, .int .i64 x2, .int .i64 x3, .slice b1 m1 k1, .int .i64 x.seq, .int .i64 x.cls, .int .i64 x.key, .int .i64 x.window, .int .i64 x.sk.count, .int .i64 x.sk.sum, .int .i64 x.sk.min, .int .i64 x.sk.max, .slice a1 n1 c1, .slice a2 n2 c2, .slice a3 n3 c3]) ∧ Blk ((W3.drew.alloc (.cells #[.int .i64 0, .int .i64 0, .int .i64 0, .int .i64 0, .slice none 0 0, .int .i64 0, .int .i64 0, .int .i64 0, .int .i64 0, .int .i64 0, .int .i64 0, .int .i64 0, .int .i64 0, .slice none 0 0, .slice none 0 0, .slice none 0 0] 51)).setRow W3.heap.size #[.int .i64 x0, .int .i64 x1, .int .i64 x2, .int .i64 x3, .slice b1 m1 k1, .int .i64 x.seq, .int .i64 x.cls, .int .i64 x.key, .int .i64 x.window, .int .i64 x.sk.count, .int .i64 x.sk.sum, .int .i64 x.sk.min, .int .i64 x.sk.max, .slice a1 n1 c1, .slice a2 n2 c2, .slice a3 n3 c3]) w.heap.size #[.int .i64 0, .int .i64 0, .int .i64 0, .int .i64 0, .slice none 0 0, .int .i64 0, .int .i64 0, .int .i64 0, .int .i64 0, .int .i64 0, .int .i64 0, .int .i64 0, .int .i64 0, .slice none 0 0, .slice none 0 0, .slice none 0 0] 51 ∧ Blk ((W3.drew.alloc (.cells #[.int .i64 0, .int .i64 0, .int .i64 0, .int .i64 0, .slice none 0 0, .int .i64 0, .int .i64 0, .int .i64 0, .int .i64 0, .int .i64 0, .int .i64 0, .int .i64 0, .int .i64 0, .slice none 0 0, .slice none 0 0, .slice none 0 0] 51)).setRow W3.heap.size #[.int .i64 x0, .int .i64 x1, .int .i64 x2, .int .i64 x3, .slice b1 m1 k1, .int .i64 x.seq, .int .i64 x.cls, .int .i64 x.key, .int .i64 x.window, .int .i64 x.sk.count, .int .i64 x.sk.sum, .int .i64 x.sk.min, .int .i64 x.sk.max, .slice a1 n1 c1, .slice a2 n2 c2, .slice a3 n3 c3]) W3.heap.size #[.int .i64 x0, .int .i64 x1, .int .i64 x2, .int .i64 x3, .slice b1 m1 k1, .int .i64 x.seq, .int .i64 x.cls, .int .i64 x.key, .int .i64 x.window, .int .i64 x.sk.count, .int .i64 x.sk.sum, .int .i64 x.sk.min, .int .i64 x.sk.max, .slice a1 n1 c1, .slice a2 n2 c2, .slice a3 n3 c3] 51 ∧ RdIt ((W3.drew.alloc (.cells #[.int .i64 0, .int .i64 0, .int .i64 0, .int .i64 0, .slice none 0 0, .int .i64 0, .int .i64 0, .int .i64 0, .int .i64 0, .int .i64 0, .int .i64 0, .int .i64 0, .int .i64 0, .slice none 0 0, .slice none 0 0, .slice none 0 0] 51)).setRow W3.heap.size #[.int .i64 x0, .int .i64 x1, .int .i64 x2, .int .i64 x3, .slice b1 m1 k1, .int .i64 x.seq, .int .i64 x.cls, .int .i64 x.key, .int .i64 x.window, .int .i64 x.sk.count, .int .i64 x.sk.sum, .int .i64 x.sk.min, .int .i64 x.sk.max, .slice a1 n1 c1, .slice a2 n2 c2, .slice a3 n3 c3]) (.agg #[.int .i64 x.seq, .int .i64 x.cls, .int .i64 x.key, .int .i64 x.window, .int .i64 x.sk.count, .int .i64 x.sk.sum, .int .i64 x.sk.min, .int .i64 x.sk.max, .slice a1 n1 c1, .slice a2 n2 c2, .slice a3 n3 c3]) x X ∧ Own w1.heap.size ((W3.drew.alloc (.cells #[.int .i64 0, .int .i64 0, .int .i64 0, .int .i64 0, .slice none 0 0, .int .i64 0, .int .i64 0, .int .i64 0, .int .i64 0, .int .i64 0, .int .i64 0, .int .i64 0, .int .i64 0, .slice none 0 0, .slice none 0 0, .slice none 0 0] 51)).setRow W3.heap.size #[.int .i64 x0, .int .i64 x1, .int .i64 x2, .int .i64 x3, .slice b1 m1 k1, .int .i64 x.seq, .int .i64 x.cls, .int .i64 x.key, .int .i64 x.window, .int .i64 x.sk.count, .int .i64 x.sk.sum, .int .i64 x.sk.min, .int .i64 x.sk.max, .slice a1 n1 c1, .slice a2 n2 c2, .slice a3 n3 c3]) X ∧ RdP ((W3.drew.alloc (.cells #[.int .i64 0, .int .i64 0, .int .i64 0, .int .i64 0, .slice none 0 0, .int .i64 0, .int .i64 0, .int .i64 0, .int .i64 0, .int .i64 0, .int .i64 0, .int .i64 0, .int .i64 0, .slice none 0 0, .slice none 0 0, .slice none 0 0] 51)).setRow W3.heap.size #[.int .i64 x0, .int .i64 x1, .int .i64 x2, .int .i64 x3, .slice b1 m1 k1, .int .i64 x.seq, .int .i64 x.cls, .int .i64 x.key, .int .i64 x.window, .int .i64 x.sk.count, .int .i64 x.sk.sum, .int .i64 x.sk.min, .int .i64 x.sk.max, .slice a1 n1 c1, .slice a2 n2 c2, .slice a3 n3 c3]) b1 m1 ps F1 ∧ Own (w.heap.size + 1) ((W3.drew.alloc (.cells #[.int .i64 0, .int .i64 0, .int .i64 0, .int .i64 0, .slice none 0 0, .int .i64 0, .int .i64 0, .int .i64 0, .int .i64 0, .int .i64 0, .int .i64 0, .int .i64 0, .int .i64 0, .slice none 0 0, .slice none 0 0, .slice none 0 0] 51)).setRow W3.heap.size #[.int .i64 x0, .int .i64 x1, .int .i64 x2, .int .i64 x3, .slice b1 m1 k1, .int .i64 x.seq, .int .i64 x.cls, .int .i64 x.key, .int .i64 x.window, .int .i64 x.sk.count, .int .i64 x.sk.sum, .int .i64 x.sk.min, .int .i64 x.sk.max, .slice a1 n1 c1, .slice a2 n2 c2, .slice a3 n3 c3]) F1) := by
      refine ⟨below_setRow HA.out.1 (by omega) _, (HW3.out.2.2.1.below bA).setRowOther (by omega), HA.out.2.setRow, (HW3.out.2.2.2.1.below bA).agree (Agree.row nX _), (HW3.out.2.2.2.2.1.below HW3.out.2.2.2.1.lt bA).agree (Agree.row nX _), (HW3.out.2.2.2.2.2.1.below bA).agree (Agree.row nF _), (HW3.out.2.2.2.2.2.2.below HW3.out.2.2.2.2.2.1.lt bA).agree (Agree.row nF _)⟩
    have HQS : Hid (NumItHeld b off x0 x1 x2 x3 w2.heap.size #[.int .i64 x.seq, .int .i64 x.cls, .int .i64 x.key, .int .i64 x.window, .int .i64 x.sk.count, .int .i64 x.sk.sum, .int .i64 x.sk.min, .int .i64 x.sk.max, .slice a1 n1 c1, .slice a2 n2 c2, .slice a3 n3 c3] ((W3.drew.alloc (.cells #[.int .i64 0, .int .i64 0, .int .i64 0, .int .i64 0, .slice none 0 0, .int .i64 0, .int .i64 0, .int .i64 0, .int .i64 0, .int .i64 0, .int .i64 0, .int .i64 0, .int .i64 0, .slice none 0 0, .slice none 0 0, .slice none 0 0] 51)).setRow W3.heap.size #[.int .i64 x0, .int .i64 x1, .int .i64 x2, .int .i64 x3, .slice b1 m1 k1, .int .i64 x.seq, .int .i64 x.cls, .int .i64 x.key, .int .i64 x.window, .int .i64 x.sk.count, .int .i64 x.sk.sum, .int .i64 x.sk.min, .int .i64 x.sk.max, .slice a1 n1 c1, .slice a2 n2 c2, .slice a3 n3 c3])) := ⟨HKN.out _ HQ.out.1, (HW3.out.1.2.below bA).setRowOther (by omega)⟩
    refine op_store 51 W3.heap.size #[.int .i64 0, .int .i64 0, .int .i64 0, .int .i64 0, .slice none 0 0, .int .i64 0, .int .i64 0, .int .i64 0, .int .i64 0, .int .i64 0, .int .i64 0, .int .i64 0, .int .i64 0, .slice none 0 0, .slice none 0 0, .slice none 0 0] #[.int .i64 x0, .int .i64 x1, .int .i64 x2, .int .i64 x3, .slice b1 m1 k1, .int .i64 x.seq, .int .i64 x.cls, .int .i64 x.key, .int .i64 x.window, .int .i64 x.sk.count, .int .i64 x.sk.sum, .int .i64 x.sk.min, .int .i64 x.sk.max, .slice a1 n1 c1, .slice a2 n2 c2, .slice a3 n3 c3] 51 rfl rfl rfl rfl HA.out.2 infoFrF7 rfl (by simp [Value.oneCell']) ⟨_, by simp [Act.put]; rfl, hK _ _ ⟨HQS.out, ?_⟩⟩
    clear hK bA HA HW3 nX nF HQS
    refine wpAnyH_done (by kernel_rfl) ?_ _
    obtain ⟨W5, hW5⟩ : ∃ W, W = (W3.drew.alloc (.cells #[.int .i64 0, .int .i64 0, .int .i64 0, .int .i64 0, .slice none 0 0, .int .i64 0, .int .i64 0, .int .i64 0, .int .i64 0, .int .i64 0, .int .i64 0, .int .i64 0, .int .i64 0, .slice none 0 0, .slice none 0 0, .slice none 0 0] 51)).setRow W3.heap.size #[.int .i64 x0, .int .i64 x1, .int .i64 x2, .int .i64 x3, .slice b1 m1 k1, .int .i64 x.seq, .int .i64 x.cls, .int .i64 x.key, .int .i64 x.window, .int .i64 x.sk.count, .int .i64 x.sk.sum, .int .i64 x.sk.min, .int .i64 x.sk.max, .slice a1 n1 c1, .slice a2 n2 c2, .slice a3 n3 c3] := ⟨_, rfl⟩
    rw [← hW5] at HQ ⊢
    clear hW5
    cases d1
    · have HV : Hid (FrN l Fr.zero false) := frN_spans HP2.out.2.2.2.1
      go_wp2_with (first | go_skip | (with_reducible refine stopStore 51 rfl ?_))
      refine store_known 51 w.heap.size _ #[.int .i64 0, .int .i64 0, .int .i64 0, .int .i64 0, .slice none 0 0, .int .i64 0, .int .i64 0, .int .i64 0, .int .i64 0, .int .i64 0, .int .i64 0, .int .i64 0, .int .i64 0, .slice none 0 0, .slice none 0 0, .slice none 0 0] 51 HQ.out.2.1 rfl rfl rfl rfl infoFrF7 rfl (by simp [Value.oneCell']) ?_
      go_wp2
      refine bodyPost_ret (results_row_tmp Try.results73 _ _ w.heap.size _ _ _ _ rfl HQ.out.2.1.setRow Try.underlying51 rfl infoFrF7) rfl ?_
      exact ⟨_, Fr.zero, false, [], [], rfl, rdFr_zero _, Own.nil, Own.nil, by simp, below_setRow HQ.out.1 (Nat.le_refl _) _, HV.out⟩
    cases d2
    · have HV : Hid (FrN l Fr.zero false) := frN_item HP2.out.2.2.2.1 (by rw [← HX.out.1]; exact HS2.out.2.2.2)
      go_wp2_with (first | go_skip | (with_reducible refine stopStore 51 rfl ?_))
      refine store_known 51 w.heap.size _ #[.int .i64 0, .int .i64 0, .int .i64 0, .int .i64 0, .slice none 0 0, .int .i64 0, .int .i64 0, .int .i64 0, .int .i64 0, .int .i64 0, .int .i64 0, .int .i64 0, .int .i64 0, .slice none 0 0, .slice none 0 0, .slice none 0 0] 51 HQ.out.2.1 rfl rfl rfl rfl infoFrF7 rfl (by simp [Value.oneCell']) ?_
      go_wp2
      refine bodyPost_ret (results_row_tmp Try.results73 _ _ w.heap.size _ _ _ _ rfl HQ.out.2.1.setRow Try.underlying51 rfl infoFrF7) rfl ?_
      exact ⟨_, Fr.zero, false, [], [], rfl, rdFr_zero _, Own.nil, Own.nil, by simp, below_setRow HQ.out.1 (Nat.le_refl _) _, HV.out⟩
    have HFin : Hid (((⟨x0, x1, x2, x3, ps, x⟩ : Fr).ok = true → FrN l ⟨x0, x1, x2, x3, ps, x⟩ true) ∧ ((⟨x0, x1, x2, x3, ps, x⟩ : Fr).ok = false → FrN l Fr.zero false)) := by
      have q := frN_fin (l := l) (by rw [HL.out]; omega) HP2.out.2.2.2.1 (by rw [← HX.out.1]; exact HS2.out.2.2.2)
      rw [← HX.out.1, ← HX.out.2.1, ← HX.out.2.2.1, ← HX.out.2.2.2] at q
      exact q
    obtain ⟨f, hf⟩ : ∃ f : Fr, f = ⟨x0, x1, x2, x3, ps, x⟩ := ⟨_, rfl⟩
    have HRF : Hid (RdFr W5 (.agg #[.int .i64 x0, .int .i64 x1, .int .i64 x2, .int .i64 x3, .slice b1 m1 k1, .int .i64 x.seq, .int .i64 x.cls, .int .i64 x.key, .int .i64 x.window, .int .i64 x.sk.count, .int .i64 x.sk.sum, .int .i64 x.sk.min, .int .i64 x.sk.max, .slice a1 n1 c1, .slice a2 n2 c2, .slice a3 n3 c3]) f F1 X ∧ f.item.sk.wide ∧ f.taken.length ≤ 2097152) := by
      rw [hf]
      exact ⟨⟨b1, m1, k1, a1, n1, c1, a2, n2, c2, a3, n3, c3, rfl, HQ.out.2.2.2.2.2.1, HQ.out.2.2.2.1, HP2.out.2.1⟩, HS2.out.2.2.1, by show ps.length ≤ _; rw [HP2.out.1.length]; omega⟩
    rw [← hf] at HFin
    clear hf
    go_wp2_with (first | go_skip | (with_reducible refine stopLoad 51 rfl ?_))
    refine load_cutw 51 W3.heap.size 0 16 _ #[.int .i64 x0, .int .i64 x1, .int .i64 x2, .int .i64 x3, .slice b1 m1 k1, .int .i64 x.seq, .int .i64 x.cls, .int .i64 x.key, .int .i64 x.window, .int .i64 x.sk.count, .int .i64 x.sk.sum, .int .i64 x.sk.min, .int .i64 x.sk.max, .slice a1 n1 c1, .slice a2 n2 c2, .slice a3 n3 c3] 51 _ HQ.out.2.2.1 rfl rfl rfl Try.underlying51 rfl infoFrF7 (by simp) rfl ?_
    go_wp2_with fail
    refine (frameOkImpl_any _ f F1 X _ HRF.out.1 HRF.out.2.1 HRF.out.2.2).mono ?_
    rintro e W6 ⟨rfl, hb6⟩
    have HQ6 : Hid (Below w.heap.size w W6 ∧ Blk W6 w.heap.size #[.int .i64 0, .int .i64 0, .int .i64 0, .int .i64 0, .slice none 0 0, .int .i64 0, .int .i64 0, .int .i64 0, .int .i64 0, .int .i64 0, .int .i64 0, .int .i64 0, .int .i64 0, .slice none 0 0, .slice none 0 0, .slice none 0 0] 51 ∧ Blk W6 W3.heap.size #[.int .i64 x0, .int .i64 x1, .int .i64 x2, .int .i64 x3, .slice b1 m1 k1, .int .i64 x.seq, .int .i64 x.cls, .int .i64 x.key, .int .i64 x.window, .int .i64 x.sk.count, .int .i64 x.sk.sum, .int .i64 x.sk.min, .int .i64 x.sk.max, .slice a1 n1 c1, .slice a2 n2 c2, .slice a3 n3 c3] 51 ∧ RdFr W6 (.agg #[.int .i64 x0, .int .i64 x1, .int .i64 x2, .int .i64 x3, .slice b1 m1 k1, .int .i64 x.seq, .int .i64 x.cls, .int .i64 x.key, .int .i64 x.window, .int .i64 x.sk.count, .int .i64 x.sk.sum, .int .i64 x.sk.min, .int .i64 x.sk.max, .slice a1 n1 c1, .slice a2 n2 c2, .slice a3 n3 c3]) f F1 X ∧ Own w1.heap.size W6 X ∧ Own (w.heap.size + 1) W6 F1) := ⟨Below.next HQ.out.1 hb6, HQ.out.2.1.below hb6, HQ.out.2.2.1.below hb6, HRF.out.1.below hb6, HQ.out.2.2.2.2.1.below HQ.out.2.2.2.1.lt hb6, HQ.out.2.2.2.2.2.2.below HQ.out.2.2.2.2.2.1.lt hb6⟩
    clear hb6 HQ HRF
    obtain ⟨d, hd⟩ : ∃ d, d = f.ok := ⟨_, rfl⟩
    rw [← hd] at HFin ⊢
    clear hd
    cases d
    · have HV : Hid (FrN l Fr.zero false) := HFin.out.2 rfl
      go_wp2_with (first | go_skip | (with_reducible refine stopStore 51 rfl ?_))
      refine store_known 51 w.heap.size _ #[.int .i64 0, .int .i64 0, .int .i64 0, .int .i64 0, .slice none 0 0, .int .i64 0, .int .i64 0, .int .i64 0, .int .i64 0, .int .i64 0, .int .i64 0, .int .i64 0, .int .i64 0, .slice none 0 0, .slice none 0 0, .slice none 0 0] 51 HQ6.out.2.1 rfl rfl rfl rfl infoFrF7 rfl (by simp [Value.oneCell']) ?_
      go_wp2
      refine bodyPost_ret (results_row_tmp Try.results73 _ _ w.heap.size _ _ _ _ rfl HQ6.out.2.1.setRow Try.underlying51 rfl infoFrF7) rfl ?_
      exact ⟨_, Fr.zero, false, [], [], rfl, rdFr_zero _, Own.nil, Own.nil, by simp, below_setRow HQ6.out.1 (Nat.le_refl _) _, HV.out⟩
    have HV : Hid (FrN l f true) := HFin.out.1 rfl
    go_wp2_with (first | go_skip | (with_reducible refine stopLoad 51 rfl ?_))
    refine load_known 51 W3.heap.size #[.int .i64 x0, .int .i64 x1, .int .i64 x2, .int .i64 x3, .slice b1 m1 k1, .int .i64 x.seq, .int .i64 x.cls, .int .i64 x.key, .int .i64 x.window, .int .i64 x.sk.count, .int .i64 x.sk.sum, .int .i64 x.sk.min, .int .i64 x.sk.max, .slice a1 n1 c1, .slice a2 n2 c2, .slice a3 n3 c3] 51 _ HQ6.out.2.2.1 rfl rfl rfl Try.underlying51 rfl infoFrF7 ?_
    go_wp2_with (first | go_skip | (with_reducible refine stopStore 51 rfl ?_))
    refine store_known 51 w.heap.size _ #[.int .i64 x0, .int .i64 x1, .int .i64 x2, .int .i64 x3, .slice b1 m1 k1, .int .i64 x.seq, .int .i64 x.cls, .int .i64 x.key, .int .i64 x.window, .int .i64 x.sk.count, .int .i64 x.sk.sum, .int .i64 x.sk.min, .int .i64 x.sk.max, .slice a1 n1 c1, .slice a2 n2 c2, .slice a3 n3 c3] 51 HQ6.out.2.1 rfl rfl rfl rfl infoFrF7 rfl (by simp [Value.oneCell']) ?_
    have nX : w.heap.size ∉ X := fun hx => by have := HQ6.out.2.2.2.2.1.ge _ hx; omega
    have nF : w.heap.size ∉ F1 := fun hx => by have := HQ6.out.2.2.2.2.2.ge _ hx; omega
    have HE : Hid (RdFr (W6.setRow w.heap.size #[.int .i64 x0, .int .i64 x1, .int .i64 x2, .int .i64 x3, .slice b1 m1 k1, .int .i64 x.seq, .int .i64 x.cls, .int .i64 x.key, .int .i64 x.window, .int .i64 x.sk.count, .int .i64 x.sk.sum, .int .i64 x.sk.min, .int .i64 x.sk.max, .slice a1 n1 c1, .slice a2 n2 c2, .slice a3 n3 c3]) (.agg #[.int .i64 x0, .int .i64 x1, .int .i64 x2, .int .i64 x3, .slice b1 m1 k1, .int .i64 x.seq, .int .i64 x.cls, .int .i64 x.key, .int .i64 x.window, .int .i64 x.sk.count, .int .i64 x.sk.sum, .int .i64 x.sk.min, .int .i64 x.sk.max, .slice a1 n1 c1, .slice a2 n2 c2, .slice a3 n3 c3]) f F1 X ∧ Own w.heap.size (W6.setRow w.heap.size #[.int .i64 x0, .int .i64 x1, .int .i64 x2, .int .i64 x3, .slice b1 m1 k1, .int .i64 x.seq, .int .i64 x.cls, .int .i64 x.key, .int .i64 x.window, .int .i64 x.sk.count, .int .i64 x.sk.sum, .int .i64 x.sk.min, .int .i64 x.sk.max, .slice a1 n1 c1, .slice a2 n2 c2, .slice a3 n3 c3]) F1 ∧ Own w.heap.size (W6.setRow w.heap.size #[.int .i64 x0, .int .i64 x1, .int .i64 x2, .int .i64 x3, .slice b1 m1 k1, .int .i64 x.seq, .int .i64 x.cls, .int .i64 x.key, .int .i64 x.window, .int .i64 x.sk.count, .int .i64 x.sk.sum, .int .i64 x.sk.min, .int .i64 x.sk.max, .slice a1 n1 c1, .slice a2 n2 c2, .slice a3 n3 c3]) X ∧ (∀ b ∈ F1, b ∉ X) ∧ Below w.heap.size w (W6.setRow w.heap.size #[.int .i64 x0, .int .i64 x1, .int .i64 x2, .int .i64 x3, .slice b1 m1 k1, .int .i64 x.seq, .int .i64 x.cls, .int .i64 x.key, .int .i64 x.window, .int .i64 x.sk.count, .int .i64 x.sk.sum, .int .i64 x.sk.min, .int .i64 x.sk.max, .slice a1 n1 c1, .slice a2 n2 c2, .slice a3 n3 c3]) ∧ Blk (W6.setRow w.heap.size #[.int .i64 x0, .int .i64 x1, .int .i64 x2, .int .i64 x3, .slice b1 m1 k1, .int .i64 x.seq, .int .i64 x.cls, .int .i64 x.key, .int .i64 x.window, .int .i64 x.sk.count, .int .i64 x.sk.sum, .int .i64 x.sk.min, .int .i64 x.sk.max, .slice a1 n1 c1, .slice a2 n2 c2, .slice a3 n3 c3]) w.heap.size #[.int .i64 x0, .int .i64 x1, .int .i64 x2, .int .i64 x3, .slice b1 m1 k1, .int .i64 x.seq, .int .i64 x.cls, .int .i64 x.key, .int .i64 x.window, .int .i64 x.sk.count, .int .i64 x.sk.sum, .int .i64 x.sk.min, .int .i64 x.sk.max, .slice a1 n1 c1, .slice a2 n2 c2, .slice a3 n3 c3] 51) := ⟨HQ6.out.2.2.2.1.agree (Agree.row nF _) (Agree.row nX _), (HQ6.out.2.2.2.2.2.agree (Agree.row nF _)).mono (by omega), (HQ6.out.2.2.2.2.1.agree (Agree.row nX _)).mono (by omega), fun b hb hx => by have := HP2.out.2.2.2.2 b hb; have := HQ6.out.2.2.2.2.1.ge b hx; omega, below_setRow HQ6.out.1 (Nat.le_refl _) _, HQ6.out.2.1.setRow⟩
    clear HQ6 nX nF
    go_wp2
    refine bodyPost_ret (results_row_tmp Try.results73 _ _ w.heap.size _ _ _ _ rfl HE.out.2.2.2.2.2 Try.underlying51 rfl infoFrF7) rfl ?_
    exact ⟨_, f, true, F1, X, rfl, HE.out.1, HE.out.2.1, HE.out.2.2.1, HE.out.2.2.2.1, HE.out.2.2.2.2.1, HV.out⟩
end Go.Proofs.Ytjndcfamfminkaq
/- The walks through bytes.Equal, bytes.HasPrefix, bytes.CutPrefix and the program's wholeBody. No statement of the seat is proved here. -/
namespace Go.Proofs.Ytjndcfamfminkaq
open Go.RowKit
theorem strOf_inj : ∀ {xs ys : List Int}, (∀ x ∈ xs, 0 ≤ x ∧ x ≤ 255) → (∀ x ∈ ys, 0 ≤ x ∧ x ≤ 255) → strOfNums xs = strOfNums ys → xs = ys := by
  intro xs ys hx hy h
  have e : xs.map (fun n => UInt8.ofNat n.toNat) = ys.map (fun n => UInt8.ofNat n.toNat) := by
    have := congrArg (fun s : ByteArray => s.data.toList) h
    simpa [strOfNums] using this
  have back : ∀ {l : List Int}, (∀ x ∈ l, 0 ≤ x ∧ x ≤ 255) → (l.map (fun n => UInt8.ofNat n.toNat)).map (fun b => (b.toNat : Int)) = l := by
    intro l hl
    rw [List.map_map]
    conv => rhs; rw [← List.map_id l]
    apply List.map_congr_left
    intro n hn
    have := hl n hn
    simp only [Function.comp, id]
    rw [UInt8.toNat_ofNat_of_lt' (show n.toNat < 256 by omega)]
    omega
  rw [← back hx, ← back hy, e]
theorem bytes_list {s t : ByteArray} : s.toList = t.toList ↔ s = t := by
  refine ⟨fun h => ?_, fun h => by rw [h]⟩
  rw [ByteArray.toList_eq, ByteArray.toList_eq] at h
  exact ByteArray.ext (Array.ext' h)
theorem strOf_dec {xs ys : List Int} (hx : ∀ x ∈ xs, 0 ≤ x ∧ x ≤ 255) (hy : ∀ x ∈ ys, 0 ≤ x ∧ x ≤ 255) : decide (strOfNums xs = strOfNums ys) = decide (xs = ys) := by
  by_cases h : xs = ys
  · rw [h]; simp
  · rw [dec_false h, dec_false (fun e => h (strOf_inj hx hy e))]
theorem conv_any {w : World} {a : Option Addr} {len cap : Nat} {zs : List Int} (h : RdB w a len zs) : (convert 27 9 (.slice a len cap)).run Try.prog w = .ok (.string (strOfNums zs)) w := by
  rcases h.cells with h0 | ⟨b, off, rfl, hc⟩
  · subst h0
    have hz : zs = [] := List.eq_nil_of_length_eq_zero h.length
    subst hz
    cases a with
    | none =>
      rw [run_convert_bytes_nil w 27 5 Try.underlying27 Try.underlying5 0 cap 9 Try.underlying9]
      rfl
    | some ad =>
      have hl : (loadCells ad 0).run Try.prog w = .ok (([] : List Int).map (Value.int .u8)).toArray w := by
        have := run_loadCells_list (P := Try.prog) w ad [] (fun j v hj => by simp at hj)
        simpa using this
      rw [run_convert_bytes_string w 27 9 5 _ 0 cap Try.underlying27 Try.underlying5 Try.underlying9, run_bytesToString w _ 0 cap [] hl, foldl_push_bytes]
      rfl
  · exact run_convert_bytes_arg w 27 5 Try.underlying27 Try.underlying5 b off len cap zs h.length hc 9 Try.underlying9
/-- The front of a reading, and what stands behind it. -/
theorem RdB.take {w : World} {a : Option Addr} {len : Nat} {zs : List Int} (h : RdB w a len zs) {m : Nat} (hm : m ≤ len) : RdB w a m (zs.take m) := by
  refine ⟨by have := h.length; rw [List.length_take]; omega, fun n hn => h.range n (List.mem_of_mem_take hn), ?_⟩
  by_cases h0 : m = 0
  · exact .inl h0
  · rcases h.cells with q | ⟨b, off, rfl, hc⟩
    · omega
    · refine .inr ⟨b, off, rfl, fun i hi => ?_⟩
      rw [hc i (by omega)]
      simp [hi]
theorem RdB.drop {w : World} {b off len : Nat} {zs : List Int} (h : RdB w (some ⟨b, off, none⟩) len zs) {m : Nat} (hm : m ≤ len) : RdB w (some ⟨b, off + m, none⟩) (len - m) (zs.drop m) := by
  refine ⟨by have := h.length; rw [List.length_drop]; omega, fun n hn => h.range n (List.mem_of_mem_drop hn), ?_⟩
  rcases h.cells with q | ⟨b', off', e, hc⟩
  · exact .inl (by omega)
  · cases e
    refine .inr ⟨b, off + m, rfl, fun i hi => ?_⟩
    rw [Nat.add_assoc, hc (m + i) (by omega)]
    simp
theorem RdB.addr {w : World} {a : Option Addr} {len : Nat} {zs : List Int} (h : RdB w a len zs) (hp : 0 < len) : ∃ b off, a = some ⟨b, off, none⟩ := by
  rcases h.cells with q | ⟨b, off, e, _⟩
  · omega
  · exact ⟨b, off, e⟩
theorem RdB.zero {w : World} {a : Option Addr} : RdB w a 0 [] := ⟨rfl, by simp, .inl rfl⟩
set_option maxRecDepth 200000 in
set_option maxHeartbeats 1000000 in
theorem bytesEqual_any (a b : Option Addr) (la lb ca cb : Nat) (xs ys : List Int) (w : World) (ha : RdB w a la xs) (hb : RdB w b lb ys) :
    Calls Try.prog 108 #[.slice a la ca, .slice b lb cb] w fun e w' => e = .returned (.bool (decide (xs = ys))) ∧ w' = w := by
  have k1 := conv_any ha (cap := ca)
  have k2 := conv_any hb (cap := cb)
  have HD : Hid (decide (strOfNums xs = strOfNums ys) = decide (xs = ys)) := strOf_dec ha.range hb.range
  obtain ⟨s, hs⟩ : ∃ s, s = strOfNums xs := ⟨_, rfl⟩
  obtain ⟨t, ht⟩ : ∃ s, s = strOfNums ys := ⟨_, rfl⟩
  rw [← hs] at k1 HD
  rw [← ht] at k2 HD
  rw [← HD.out]
  clear ha hb hs ht HD
  go_enter Try.func108, Try.ntmps108
  go_wp2
  go_ret
  refine ⟨ret_bool ?_, rfl⟩
  rw [Bool.eq_iff_iff, beq_iff_eq, decide_eq_true_eq]
  exact bytes_list
theorem pre_len {zs ys : List Int} {len m : Nat} (hz : zs.length = len) (hy : ys.length = m) (h : ¬ m ≤ len) : decide (zs.take m = ys) = false := dec_false (fun e => by
  have := congrArg List.length e
  rw [List.length_take] at this
  omega)
set_option maxRecDepth 200000 in
set_option maxHeartbeats 1000000 in
theorem hasPrefix_any (a b : Option Addr) (la lb ca cb : Nat) (xs ys : List Int) (w : World) (ha : RdB w a la xs) (hb : RdB w b lb ys) (hca : la ≤ ca) :
    Calls Try.prog 109 #[.slice a la ca, .slice b lb cb] w fun e w' => e = .returned (.bool (decide (xs.take lb = ys))) ∧ w' = w := by
  have HR : Hid (RdB w a la xs ∧ RdB w b lb ys) := ⟨ha, hb⟩
  by_cases hl : lb ≤ la
  rotate_left
  · have hd : decide ((lb : Int) ≤ (la : Int)) = false := dec_false (by omega)
    have hd2 : decide (lb ≤ la) = false := dec_false hl
    have hd3 : ¬ (lb : Int) ≤ (la : Int) := by omega
    have HV : Hid (decide (xs.take lb = ys) = false) := pre_len ha.length hb.length hl
    clear ha hb hl
    go_enter Try.func109, Try.ntmps109
    go_wp2
    go_ret
    exact ⟨ret_bool HV.out.symm, rfl⟩
  have hd : decide ((lb : Int) ≤ (la : Int)) = true := dec_true (by omega)
  have hd2 : decide (lb ≤ la) = true := dec_true hl
  have hcap : (lb : Int) ≤ (ca : Int) := by omega
  clear ha hb
  go_enter Try.func109, Try.ntmps109
  go_wp2_with fail
  refine (bytesEqual_any a b lb lb _ cb (xs.take lb) ys _ (HR.out.1.take hl) HR.out.2).mono ?_
  rintro e w1 ⟨rfl, hw1⟩
  have hw1' := hw1.symm
  subst hw1'
  clear hw1
  obtain ⟨d, hdd⟩ : ∃ d, d = decide (xs.take lb = ys) := ⟨_, rfl⟩
  rw [← hdd]
  have HD : Hid (d = decide (xs.take lb = ys)) := hdd
  clear hdd
  go_wp2
  go_ret
  exact ⟨ret_bool HD.out, rfl⟩
set_option maxRecDepth 200000 in
set_option maxHeartbeats 1000000 in
theorem cutPrefix_any (a b : Option Addr) (la ca cb : Nat) (xs ys : List Int) (w : World) (ha : RdB w a la xs) (hb : RdB w b 2 ys) (hca : la ≤ ca) :
    Calls Try.prog 72 #[.slice a la ca, .slice b 2 cb] w fun e w' => (∃ a' l' c', e = .returned (.tuple #[.slice a' l' c', .bool (decide (xs.take 2 = ys))]) ∧ (decide (xs.take 2 = ys) = true → RdB w a' l' (xs.drop 2) ∧ l' ≤ la ∧ l' ≤ c' ∧ (a' = none → c' = 0))) ∧ w' = w := by
  have HR : Hid (RdB w a la xs ∧ RdB w b 2 ys) := ⟨ha, hb⟩
  have HL : Hid (xs.length = la ∧ ys.length = 2) := ⟨ha.length, hb.length⟩
  clear ha hb
  go_enter Try.func72, Try.ntmps72
  go_wp2_with fail
  refine (hasPrefix_any a b la 2 ca cb xs ys _ HR.out.1 HR.out.2 hca).mono ?_
  rintro e w1 ⟨rfl, hw1⟩
  have hw1' := hw1.symm
  subst hw1'
  clear hw1
  obtain ⟨d, hd⟩ : ∃ d, d = decide (xs.take 2 = ys) := ⟨_, rfl⟩
  rw [← hd]
  have HD : Hid (d = decide (xs.take 2 = ys)) := hd
  clear hd
  cases d
  · go_wp2
    go_ret2
    rw [← HD.out]
    exact ⟨⟨_, _, _, rfl, fun h => by cases h⟩, rfl⟩
  have hl2 : 2 ≤ la := by
    have e : xs.take 2 = ys := of_decide_eq_true HD.out.symm
    have := congrArg List.length e
    have := HL.out
    rw [List.length_take] at *
    omega
  obtain ⟨g, off, rfl⟩ := HR.out.1.addr (by omega)
  have h2a : (2 : Int) ≤ (la : Int) := by omega
  have HRR : Hid (RdB w (some ⟨g, off + 2, none⟩) (la - 2) (xs.drop 2)) := HR.out.1.drop hl2
  go_wp2
  all_goals
    go_ret2
    rw [← HD.out]
    refine ⟨⟨_, _, _, rfl, fun _ => ?_⟩, rfl⟩
    first
    | exact ⟨HRR.out, by omega, by omega, by intro h; cases h⟩
    | (have e0 : la - 2 = 0 := by omega
       have hz := HRR.out
       rw [e0] at hz ⊢
       have ez : xs.drop 2 = [] := List.eq_nil_of_length_eq_zero hz.length
       rw [ez]
       exact ⟨RdB.zero, by omega, by omega, by intro h; cases h⟩)
/-- What stands ahead of the check sum, and whether that is right. -/
def BodyIs (zs body : List Int) (d : Bool) : Prop := if d = true then zs = body ++ sumOf body else ∀ g : List Int, zs ≠ g ++ sumOf g
def NewBody (w : World) (len : Nat) (zs : List Int) (e : Ending) (w' : World) : Prop := (∃ a' l' c' body d, e = .returned (.tuple #[.slice a' l' c', .bool d]) ∧ RdB w' a' l' body ∧ l' ≤ len ∧ l' ≤ c' ∧ (a' = none → c' = 0) ∧ BodyIs zs body d) ∧ Below w.heap.size w w'
theorem body_short {zs : List Int} (h : zs.length < 4) : BodyIs zs [] false := (if_neg (by simp)).mpr (fun g e => by
  have := congrArg List.length e
  rw [List.length_append, sumOf_len] at this
  omega)
theorem body_is {zs : List Int} {len : Nat} (hl : zs.length = len) (h4 : 4 ≤ len) : BodyIs zs (zs.take (len - 4)) (decide (zs.drop (len - 4) = sumOf (zs.take (len - 4)))) := by
  unfold BodyIs
  by_cases q : zs.drop (len - 4) = sumOf (zs.take (len - 4))
  · rw [dec_true q, if_pos rfl, ← q, List.take_append_drop]
  · rw [dec_false q, if_neg (by simp)]
    intro g e
    have hg : g.length = len - 4 := by
      have := congrArg List.length e
      rw [List.length_append, sumOf_len] at this
      omega
    refine q ?_
    rw [e, List.drop_left' hg, List.take_left' hg]
set_option maxRecDepth 100000 in
set_option maxHeartbeats 4000000 in
theorem wholeBody_any (a : Option Addr) (len cap : Nat) (zs : List Int) (w : World) (h : RdB w a len zs) (hlen : len ≤ 1048576) (hcap : len ≤ cap) (ha : a = none → cap = 0) :
    Calls Try.prog 71 #[.slice a len cap] w fun e w' => NewBody w len zs e w' := by
  have HR : Hid (RdB w a len zs) := h
  have HL : Hid (zs.length = len) := h.length
  by_cases h4 : len < 4
  · have hd : decide ((len : Int) - 4 < 0) = true := dec_true (by omega)
    have HV : Hid (BodyIs zs [] false) := body_short (by rw [HL.out]; exact h4)
    clear h
    go_enter Try.func71, Try.ntmps71
    go_wp2
    go_ret2
    exact ⟨⟨none, 0, 0, [], false, rfl, RdB.nil, by omega, by omega, fun _ => rfl, HV.out⟩, Below.refl _ _⟩
  have hd : decide ((len : Int) - 4 < 0) = false := dec_false (by omega)
  obtain ⟨b, off, rfl⟩ := h.addr (by omega)
  obtain ⟨k, hk⟩ : ∃ k, len = k + 4 := ⟨len - 4, by omega⟩
  subst hk
  have HV : Hid (BodyIs zs (zs.take k) (decide (zs.drop k = sumOf (zs.take k)))) := by
    have := body_is HL.out (by omega)
    show BodyIs _ _ _
    simpa using this
  have HT : Hid (RdB w (some ⟨b, off, none⟩) k (zs.take k) ∧ RdB w (some ⟨b, off + k, none⟩) 4 (zs.drop k)) := ⟨h.take (by omega), by have := h.drop (m := k) (by omega); rw [Nat.add_sub_cancel_left] at this; exact this⟩
  have e4 : ((k + 4 : Nat) : Int) - 4 = (k : Int) := by omega
  have hkc : (k : Int) ≤ (cap : Int) := by omega
  have hkn : ¬ cap = k := by omega
  clear h ha
  go_enter Try.func71, Try.ntmps71
  go_wp2
  rw [e4] at *
  refine wp_region_held (S := fun _ => True) (by kernel_rfl) ?_
  change wpAnyH _ _ _ _ _ _ _ _ (World.drew _)
  refine takeH (o := ?o1) 0 (.slice (some ⟨b, off, none⟩) (k + 4) cap) ?h1 ?r1
  case h1 => simp only [aT, aZ]; rfl
  refine ⟨_, by simp [Act.put]; rfl, by kernel_rfl, by kernel_rfl, by kernel_rfl, fun _ _ _ h => h, (.inl ⟨rfl, fun W _ => by go_simp⟩), trivial, ?_⟩
  refine takeH (o := ?o2) 1 (.int .i64 (k : Int)) ?h2 ?r2
  case h2 => simp only [aT, aS, aZ]; rfl
  refine ⟨_, by simp [Act.put]; rfl, by kernel_rfl, by kernel_rfl, by kernel_rfl, fun _ _ _ h => h, (.inl ⟨rfl, fun W _ => by go_simp⟩), trivial, ?_⟩
  refine takeH (o := ?o3) 2 (.slice (some ⟨b, off, none⟩) k cap) ?h3 ?r3
  case h3 => simp only [aT, aS, aZ]; rfl
  refine ⟨_, by simp [Act.put]; rfl, by kernel_rfl, by kernel_rfl, by kernel_rfl, fun _ _ _ h => h, (.inl ⟨rfl, fun W _ => by go_simp⟩), trivial, ?_⟩
  refine takeH (o := ?o4) 3 (.slice (some ⟨b, off, none⟩) (k + 4) cap) ?h4 ?r4
  case h4 => simp only [aT, aS, aZ]; rfl
  refine ⟨_, by simp [Act.put]; rfl, by kernel_rfl, by kernel_rfl, by kernel_rfl, fun _ _ _ h => h, (.inl ⟨rfl, fun W _ => by go_simp⟩), trivial, ?_⟩
  refine takeH (o := ?o5) 4 (.int .i64 (k : Int)) ?h5 ?r5
  case h5 => simp only [aT, aS, aZ]; rfl
  refine ⟨_, by simp [Act.put]; rfl, by kernel_rfl, by kernel_rfl, by kernel_rfl, fun _ _ _ h => h, (.inl ⟨rfl, fun W _ => by go_simp⟩), trivial, ?_⟩
  refine takeH (o := ?o6) 5 (.slice (some ⟨b, off + k, none⟩) 4 (cap - k)) ?h6 ?r6
  case h6 => simp only [aT, aS, aZ]; rfl
  refine ⟨_, by simp [Act.put]; rfl, by kernel_rfl, by kernel_rfl, by kernel_rfl, fun _ _ _ h => h, (.inl ⟨rfl, fun W _ => by go_simp; intro h; omega⟩), trivial, ?_⟩
  refine takeH (o := ?o7) 6 (.slice (some ⟨b, off, none⟩) (k + 4) cap) ?h7 ?r7
  case h7 => simp only [aT, aS, aZ]; rfl
  refine ⟨_, by simp [Act.put]; rfl, by kernel_rfl, by kernel_rfl, by kernel_rfl, fun _ _ _ h => h, (.inl ⟨rfl, fun W _ => by go_simp⟩), trivial, ?_⟩
  refine takeH (o := ?o8) 7 (.int .i64 (k : Int)) ?h8 ?r8
  case h8 => simp only [aT, aS, aZ]; rfl
  refine ⟨_, by simp [Act.put]; rfl, by kernel_rfl, by kernel_rfl, by kernel_rfl, fun _ _ _ h => h, (.inl ⟨rfl, fun W _ => by go_simp⟩), trivial, ?_⟩
  refine takeH (o := ?o9) 8 (.slice (some ⟨b, off, none⟩) k cap) ?h9 ?r9
  case h9 => simp only [aT, aS, aZ]; rfl
  refine ⟨_, by simp [Act.put]; rfl, by kernel_rfl, by kernel_rfl, by kernel_rfl, fun _ _ _ h => h, (.inl ⟨rfl, fun W _ => by go_simp⟩), trivial, ?_⟩
  refine onlyH (o := ?o10) 9 (by kernel_rfl) ?h10 ?r10
  case h10 => simp only [aT, aS, aZ]; rfl
  intro K hK
  refine op_call1 66 _ _ Try.f66 (fun v w' => v = .slice (some ⟨w.drew.heap.size, 0, none⟩) 4 4 ∧ w' = w.drew.alloc (.cells ((sumOf (zs.take k)).map (Value.int .u8)).toArray 5)) rfl rfl Try.func66 (by kernel_rfl) (by kernel_rfl) ((crcBytes_any (some ⟨b, off, none⟩) k cap (zs.take k) w.drew (HT.out.1.below (Below.refl _ _).drew) (by omega)).mono (by rintro e w' ⟨rfl, h1⟩; exact ⟨_, rfl, rfl, h1⟩)) ?_
  rintro v W1 ⟨rfl, hW1⟩
  have b1 : Below w.heap.size w W1 := by rw [hW1]; exact (Below.refl _ _).drew.alloc (Nat.le_refl _) _
  have r1 : RdB W1 (some ⟨w.heap.size, 0, none⟩) 4 (sumOf (zs.take k)) := by
    rw [hW1]
    refine ⟨sumOf_len _, sumOf_range _ HT.out.1.range, .inr ⟨w.heap.size, 0, rfl, fun i hi => ?_⟩⟩
    rw [Nat.zero_add, show w.heap.size = w.drew.heap.size from rfl, (Blk.made w.drew _ _).cell i]
    have hi' : i < (sumOf (zs.take k)).length := by rw [sumOf_len]; exact hi
    simp [List.getElem?_eq_getElem hi']
  have HW : Hid (Below w.heap.size w W1 ∧ RdB W1 (some ⟨w.heap.size, 0, none⟩) 4 (sumOf (zs.take k)) ∧ RdB W1 (some ⟨b, off + k, none⟩) 4 (zs.drop k) ∧ RdB W1 (some ⟨b, off, none⟩) k (zs.take k)) := ⟨b1, r1, HT.out.2.below b1, HT.out.1.below b1⟩
  clear hW1 b1 r1
  refine ⟨_, by simp [Act.put]; rfl, hK _ _ ⟨trivial, ?_⟩⟩
  clear hK
  refine onlyH (o := ?o11) 10 (by kernel_rfl) ?h11 ?r11
  case h11 => simp only [aT, aS, aZ]; rfl
  intro K hK
  refine op_call2 108 _ _ _ Try.f108 (fun w' => w' = W1) (.bool (decide (zs.drop k = sumOf (zs.take k)))) rfl rfl Try.func108 (by kernel_rfl) (by kernel_rfl) (bytesEqual_any (some ⟨b, off + k, none⟩) (some ⟨w.heap.size, 0, none⟩) 4 4 (cap - k) 4 (zs.drop k) (sumOf (zs.take k)) W1 HW.out.2.2.1 HW.out.2.1) ⟨_, by simp [Act.put]; rfl, ?_⟩
  intro W2 hW2
  rw [hW2]
  refine hK _ _ ⟨trivial, ?_⟩
  clear hK hW2 W2
  refine onlyH (o := ?o12) 11 (by kernel_rfl) ?h12 ?r12
  case h12 => simp only [aT, aS, aZ]; rfl
  intro K hK
  refine op_value (.slice (some ⟨b, off, none⟩) k cap) rfl (by go_simp) ⟨_, by simp [Act.put]; rfl, hK _ _ ⟨trivial, ?_⟩⟩
  clear hK
  refine onlyH (o := ?o13) 12 (by kernel_rfl) ?h13 ?r13
  case h13 => simp only [aT, aS, aZ]; rfl
  intro K hK
  refine op_value (.bool (decide (zs.drop k = sumOf (zs.take k)))) rfl (by go_simp) ⟨_, by simp [Act.put]; rfl, hK _ _ ⟨trivial, ?_⟩⟩
  clear hK
  refine wpAnyH_done (by kernel_rfl) ?_ _
  go_wp2
  go_ret2
  exact ⟨⟨_, k, cap, zs.take k, _, rfl, HW.out.2.2.2, by omega, by omega, (by intro h; cases h), HV.out⟩, HW.out.1⟩
end Go.Proofs.Ytjndcfamfminkaq
