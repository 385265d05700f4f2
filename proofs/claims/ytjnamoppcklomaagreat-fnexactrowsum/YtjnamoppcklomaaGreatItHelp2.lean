/- The walks through more helpers of the laws over items and entries. No statement of the seat is proved here. -/
import Derived.Test.YtjnamoppcklomaaGreatItHelp
namespace Go.Proofs.YtjnamoppcklomaaGreat
open Go.RowKit
set_option maxRecDepth 200000 in
set_option maxHeartbeats 2000000 in
theorem szEntry_vast (v : Value) (x : En) (F G : List Nat) (left : Int) (w : World) (h : RdEn w v x F G) (hw : x.sk.vast) (hids : x.ids.length ≤ 9223372036854775807) (hl0 : 0 ≤ left) (hl1 : left ≤ 1048576) :
    Calls Tryz.prog 91 #[v, .int .i64 left] w fun e w' => (∃ r, e = .returned (.int .i64 r) ∧ r ≤ left ∧ (0 ≤ r → r = left - x.ids.length - x.sk.size ∧ (x.ids.length : Int) ≤ left ∧ x.sk.size ≤ left) ∧ (r < 0 → left < x.ids.length + x.sk.size)) ∧ Below w.heap.size w w' := by
  obtain ⟨b, l, c, a1, n1, c1, a2, n2, c2, a3, n3, c3, rfl, hpd, hr, _⟩ := h
  have HR : Hid (RdSk w (.agg #[.int .i64 x.sk.count, .int .i64 x.sk.sum, .int .i64 x.sk.min, .int .i64 x.sk.max, .slice a1 n1 c1, .slice a2 n2 c2, .slice a3 n3 c3]) x.sk G ∧ x.sk.vast) := ⟨hr, hw⟩
  have HL : Hid (x.ids.length = l) := hpd.length
  have HB : Hid (Below w.heap.size w (w.alloc (.cells #[.int .i64 x.key, .int .i64 x.window, .slice b l c, .int .i64 x.sk.count, .int .i64 x.sk.sum, .int .i64 x.sk.min, .int .i64 x.sk.max, .slice a1 n1 c1, .slice a2 n2 c2, .slice a3 n3 c3] 127)) ∧ Blk (w.alloc (.cells #[.int .i64 x.key, .int .i64 x.window, .slice b l c, .int .i64 x.sk.count, .int .i64 x.sk.sum, .int .i64 x.sk.min, .int .i64 x.sk.max, .slice a1 n1 c1, .slice a2 n2 c2, .slice a3 n3 c3] 127)) w.heap.size #[.int .i64 x.key, .int .i64 x.window, .slice b l c, .int .i64 x.sk.count, .int .i64 x.sk.sum, .int .i64 x.sk.min, .int .i64 x.sk.max, .slice a1 n1 c1, .slice a2 n2 c2, .slice a3 n3 c3] 127) := ⟨Below.allocW _ (Below.refl _ _) (Nat.le_refl _), Blk.made _ _ _⟩
  have HN : Hid (0 ≤ x.sk.size) := by unfold Sk.size; have := sumLen_nonneg x.sk.rows; show _ ≤ _; omega
  have hln : l ≤ 9223372036854775807 := by rw [← hpd.length]; exact hids
  clear hr hw hpd hids
  go_enter Tryz.func91, Tryz.ntmps91
  go_wp2_with fail
  refine (szSpanS_vast b l c left _ hln hl0 hl1).mono ?_
  rintro e w1 ⟨⟨r, rfl, ra, rb, rc⟩, hw1⟩
  have hw1' := hw1.symm
  subst hw1'
  clear hw1
  by_cases q : r < 0
  · have HV : Hid (left < (x.ids.length : Int) + x.sk.size) := by have := rc q; have := HL.out; have := HN.out; show _ < _; omega
    clear ra rb rc
    go_wp2
    go_ret
    exact ⟨⟨-1, rfl, by omega, by omega, fun _ => HV.out⟩, HB.out.1⟩
  have hr0 : 0 ≤ r := by omega
  have HV : Hid (r = left - l ∧ r ≤ left) := ⟨rb hr0, ra⟩
  have hr1 : r ≤ 1048576 := by omega
  clear ra rb rc q
  go_wp2_with (first | go_skip | (with_reducible refine stopLoad 125 rfl ?_))
  refine load_cut 125 w.heap.size 3 7 _ #[.int .i64 x.sk.count, .int .i64 x.sk.sum, .int .i64 x.sk.min, .int .i64 x.sk.max, .slice a1 n1 c1, .slice a2 n2 c2, .slice a3 n3 c3] 127 _ HB.out.2 rfl rfl rfl Tryz.underlying125 rfl infoSkL (by simp) rfl ?_
  go_wp2_with fail
  refine (szSketch_vast _ x.sk G r _ (HR.out.1.below HB.out.1) HR.out.2 hr0 hr1).mono ?_
  rintro e w2 ⟨⟨s, rfl, sa, sb, sc⟩, hb1⟩
  have HB1 : Hid (Below w.heap.size w w2) := Below.next HB.out.1 hb1
  have HS : Hid (s ≤ r ∧ (0 ≤ s → s = r - x.sk.size) ∧ (s < 0 → r < x.sk.size)) := ⟨sa, sb, sc⟩
  clear hb1 sa sb sc
  by_cases q : s < 0
  · go_wp2
    go_ret
    exact ⟨⟨-1, rfl, by omega, by omega, fun _ => by have := HS.out.2.2 q; have := HV.out; have := HL.out; omega⟩, HB1.out⟩
  · go_wp2
    go_ret
    exact ⟨⟨s, rfl, by have := HS.out; have := HV.out; omega, fun hs => by have := HS.out.2.1 hs; have := HV.out; have := HL.out; have := HN.out; omega, fun hs => by omega⟩, HB1.out⟩
set_option maxRecDepth 200000 in
set_option maxHeartbeats 4000000 in
theorem eqEntry_any (v u : Value) (x y : En) (F F' G G' : List Nat) (w : World) (h : RdEn w v x F F') (k : RdEn w u y G G') (hw : x.sk.wide) (kw : y.sk.wide) (hl : x.ids.length ≤ 140737488355328) (kl : y.ids.length ≤ 140737488355328) :
    Calls Tryz.prog 49 #[v, u] w fun e w' => e = .returned (.bool (decide (x = y))) ∧ Below w.heap.size w w' := by
  obtain ⟨p, l, g, a1, n1, c1, a2, n2, c2, a3, n3, c3, rfl, px, hx, _⟩ := h
  obtain ⟨q, k, j, b1, m1, d1, b2, m2, d2, b3, m3, d3, rfl, py, hy, _⟩ := k
  have HPX : Hid (RdP w p l x.ids F ∧ RdP w q k y.ids G ∧ l ≤ 140737488355328 ∧ k ≤ 140737488355328) := ⟨px, py, by rw [← px.length]; exact hl, by rw [← py.length]; exact kl⟩
  clear px py hl kl
  have HR : Hid (RdSk w (.agg #[.int .i64 x.sk.count, .int .i64 x.sk.sum, .int .i64 x.sk.min, .int .i64 x.sk.max, .slice a1 n1 c1, .slice a2 n2 c2, .slice a3 n3 c3]) x.sk F' ∧ x.sk.wide) := ⟨hx, hw⟩
  have HY : Hid (RdSk w (.agg #[.int .i64 y.sk.count, .int .i64 y.sk.sum, .int .i64 y.sk.min, .int .i64 y.sk.max, .slice b1 m1 d1, .slice b2 m2 d2, .slice b3 m3 d3]) y.sk G' ∧ y.sk.wide) := ⟨hy, kw⟩
  have HT : Hid (Two w #[.int .i64 x.key, .int .i64 x.window, .slice p l g, .int .i64 x.sk.count, .int .i64 x.sk.sum, .int .i64 x.sk.min, .int .i64 x.sk.max, .slice a1 n1 c1, .slice a2 n2 c2, .slice a3 n3 c3] #[.int .i64 y.key, .int .i64 y.window, .slice q k j, .int .i64 y.sk.count, .int .i64 y.sk.sum, .int .i64 y.sk.min, .int .i64 y.sk.max, .slice b1 m1 d1, .slice b2 m2 d2, .slice b3 m3 d3] 33 ((w.alloc (.cells #[.int .i64 x.key, .int .i64 x.window, .slice p l g, .int .i64 x.sk.count, .int .i64 x.sk.sum, .int .i64 x.sk.min, .int .i64 x.sk.max, .slice a1 n1 c1, .slice a2 n2 c2, .slice a3 n3 c3] 33)).alloc (.cells #[.int .i64 y.key, .int .i64 y.window, .slice q k j, .int .i64 y.sk.count, .int .i64 y.sk.sum, .int .i64 y.sk.min, .int .i64 y.sk.max, .slice b1 m1 d1, .slice b2 m2 d2, .slice b3 m3 d3] 33))) := Two.made ..
  clear hx hy hw kw
  go_enter Tryz.func49, Tryz.ntmps49
  by_cases h0 : x.key = y.key
  rotate_left
  · have e0 : (x.key != y.key) = true := by simpa using h0
    have HV : Hid (decide (x = y) = false) := dec_false (fun e => h0 (by rw [e]))
    clear h0
    go_wp2
    go_ret
    exact ⟨ret_bool HV.out.symm, HT.out.bel⟩
  have e0 : (x.key != y.key) = false := by simpa using h0
  have H0 : Hid (x.key = y.key) := h0
  clear h0
  by_cases h1 : x.window = y.window
  rotate_left
  · have e1 : (x.window != y.window) = true := by simpa using h1
    have HV : Hid (decide (x = y) = false) := dec_false (fun e => h1 (by rw [e]))
    clear h1
    go_wp2
    go_ret
    exact ⟨ret_bool HV.out.symm, HT.out.bel⟩
  have e1 : (x.window != y.window) = false := by simpa using h1
  have H1 : Hid (x.window = y.window) := h1
  clear h1
  go_wp2_with fail
  refine (eqSpanS_any p q l k g j x.ids y.ids F G _ (HPX.out.1.below HT.out.bel) (HPX.out.2.1.below HT.out.bel) HPX.out.2.2.1 HPX.out.2.2.2).mono ?_
  rintro e w1 ⟨rfl, hb1⟩
  have HT1 : Hid (Two w #[.int .i64 x.key, .int .i64 x.window, .slice p l g, .int .i64 x.sk.count, .int .i64 x.sk.sum, .int .i64 x.sk.min, .int .i64 x.sk.max, .slice a1 n1 c1, .slice a2 n2 c2, .slice a3 n3 c3] #[.int .i64 y.key, .int .i64 y.window, .slice q k j, .int .i64 y.sk.count, .int .i64 y.sk.sum, .int .i64 y.sk.min, .int .i64 y.sk.max, .slice b1 m1 d1, .slice b2 m2 d2, .slice b3 m3 d3] 33 w1) := HT.out.below hb1
  obtain ⟨d, hd⟩ : ∃ d, d = decide (x.ids = y.ids) := ⟨_, rfl⟩
  rw [← hd]
  have HD : Hid (d = decide (x.ids = y.ids)) := hd
  clear hb1 HT hd
  cases d
  · have HV : Hid (decide (x = y) = false) := dec_false (fun e => by have := HD.out.symm; rw [decide_eq_false_iff_not] at this; exact this (by rw [e]))
    go_wp2
    go_ret
    exact ⟨ret_bool HV.out.symm, HT1.out.bel⟩
  have HI : Hid (x.ids = y.ids) := by show x.ids = y.ids; exact of_decide_eq_true HD.out.symm
  go_wp2_with (first | go_skip | (with_reducible refine stopLoad 31 rfl ?_))
  refine load_cut 31 w.heap.size 3 7 _ #[.int .i64 x.sk.count, .int .i64 x.sk.sum, .int .i64 x.sk.min, .int .i64 x.sk.max, .slice a1 n1 c1, .slice a2 n2 c2, .slice a3 n3 c3] 33 _ HT1.out.fst rfl rfl rfl Tryz.underlying31 rfl infoSkI (by simp) rfl ?_
  go_wp2_with (first | go_skip | (with_reducible refine stopLoad 31 rfl ?_))
  refine load_cut 31 (w.heap.size + 1) 3 7 _ #[.int .i64 y.sk.count, .int .i64 y.sk.sum, .int .i64 y.sk.min, .int .i64 y.sk.max, .slice b1 m1 d1, .slice b2 m2 d2, .slice b3 m3 d3] 33 _ HT1.out.snd rfl rfl rfl Tryz.underlying31 rfl infoSkI (by simp) rfl ?_
  go_wp2_with fail
  refine (eqSketch_any _ _ x.sk y.sk F' G' _ (HR.out.1.below HT1.out.bel) (HY.out.1.below HT1.out.bel) HR.out.2 HY.out.2).mono ?_
  rintro e w2 ⟨rfl, hb2⟩
  have HB2 : Hid (Below w.heap.size w w2) := Below.next HT1.out.bel hb2
  obtain ⟨f, hf⟩ : ∃ d, d = decide (x.sk = y.sk) := ⟨_, rfl⟩
  rw [← hf]
  have HF : Hid (f = decide (x.sk = y.sk)) := hf
  clear hb2 hf
  cases f
  · have HV : Hid (decide (x = y) = false) := dec_false (fun e => by have := HF.out.symm; rw [decide_eq_false_iff_not] at this; exact this (by rw [e]))
    go_wp2
    go_ret
    exact ⟨ret_bool HV.out.symm, HB2.out⟩
  have HV : Hid (decide (x = y) = true) := dec_true (En.eq_of H0.out H1.out HI.out (of_decide_eq_true HF.out.symm))
  go_wp2
  go_ret
  exact ⟨ret_bool HV.out.symm, HB2.out⟩
end Go.Proofs.YtjnamoppcklomaaGreat
