/- The walks through more helpers of the laws over items and entries. No statement of the seat is proved here. -/
import Derived.Test.YtjndcfamfminkarItHelp
namespace Go.Proofs.Ytjndcfamfminkar
open Go.RowKit
set_option maxRecDepth 200000 in
set_option maxHeartbeats 4000000 in
theorem eqItem_any (v u : Value) (x y : It) (F G : List Nat) (w : World) (h : RdIt w v x F) (k : RdIt w u y G) (hw : x.sk.wide) (kw : y.sk.wide) :
    Calls Try.prog 63 #[v, u] w fun e w' => e = .returned (.bool (decide (x = y))) ∧ Below w.heap.size w w' := by
  obtain ⟨a1, n1, c1, a2, n2, c2, a3, n3, c3, rfl, hx⟩ := h
  obtain ⟨b1, m1, d1, b2, m2, d2, b3, m3, d3, rfl, hy⟩ := k
  have HR : Hid (RdSk w (.agg #[.int .i64 x.sk.count, .int .i64 x.sk.sum, .int .i64 x.sk.min, .int .i64 x.sk.max, .slice a1 n1 c1, .slice a2 n2 c2, .slice a3 n3 c3]) x.sk F ∧ x.sk.wide) := ⟨hx, hw⟩
  have HY : Hid (RdSk w (.agg #[.int .i64 y.sk.count, .int .i64 y.sk.sum, .int .i64 y.sk.min, .int .i64 y.sk.max, .slice b1 m1 d1, .slice b2 m2 d2, .slice b3 m3 d3]) y.sk G ∧ y.sk.wide) := ⟨hy, kw⟩
  have HT : Hid (Two w #[.int .i64 x.seq, .int .i64 x.cls, .int .i64 x.key, .int .i64 x.window, .int .i64 x.sk.count, .int .i64 x.sk.sum, .int .i64 x.sk.min, .int .i64 x.sk.max, .slice a1 n1 c1, .slice a2 n2 c2, .slice a3 n3 c3] #[.int .i64 y.seq, .int .i64 y.cls, .int .i64 y.key, .int .i64 y.window, .int .i64 y.sk.count, .int .i64 y.sk.sum, .int .i64 y.sk.min, .int .i64 y.sk.max, .slice b1 m1 d1, .slice b2 m2 d2, .slice b3 m3 d3] 54 ((w.alloc (.cells #[.int .i64 x.seq, .int .i64 x.cls, .int .i64 x.key, .int .i64 x.window, .int .i64 x.sk.count, .int .i64 x.sk.sum, .int .i64 x.sk.min, .int .i64 x.sk.max, .slice a1 n1 c1, .slice a2 n2 c2, .slice a3 n3 c3] 54)).alloc (.cells #[.int .i64 y.seq, .int .i64 y.cls, .int .i64 y.key, .int .i64 y.window, .int .i64 y.sk.count, .int .i64 y.sk.sum, .int .i64 y.sk.min, .int .i64 y.sk.max, .slice b1 m1 d1, .slice b2 m2 d2, .slice b3 m3 d3] 54))) := Two.made ..
  clear hx hy hw kw
  go_enter Try.func63, Try.ntmps63
  by_cases h0 : x.seq = y.seq
  rotate_left
  · have e0 : (x.seq != y.seq) = true := by simpa using h0
    have HV : Hid (decide (x = y) = false) := dec_false (fun e => h0 (by rw [e]))
    clear h0
    go_wp2
    go_ret
    exact ⟨ret_bool HV.out.symm, HT.out.bel⟩
  have e0 : (x.seq != y.seq) = false := by simpa using h0
  have H0 : Hid (x.seq = y.seq) := h0
  clear h0
  by_cases h1 : x.cls = y.cls
  rotate_left
  · have e1 : (x.cls != y.cls) = true := by simpa using h1
    have HV : Hid (decide (x = y) = false) := dec_false (fun e => h1 (by rw [e]))
    clear h1
    go_wp2
    go_ret
    exact ⟨ret_bool HV.out.symm, HT.out.bel⟩
  have e1 : (x.cls != y.cls) = false := by simpa using h1
  have H1 : Hid (x.cls = y.cls) := h1
  clear h1
  by_cases h2 : x.key = y.key
  rotate_left
  · have e2 : (x.key != y.key) = true := by simpa using h2
    have HV : Hid (decide (x = y) = false) := dec_false (fun e => h2 (by rw [e]))
    clear h2
    go_wp2
    go_ret
    exact ⟨ret_bool HV.out.symm, HT.out.bel⟩
  have e2 : (x.key != y.key) = false := by simpa using h2
  have H2 : Hid (x.key = y.key) := h2
  clear h2
  by_cases h3 : x.window = y.window
  rotate_left
  · have e3 : (x.window != y.window) = true := by simpa using h3
    have HV : Hid (decide (x = y) = false) := dec_false (fun e => h3 (by rw [e]))
    clear h3
    go_wp2
    go_ret
    exact ⟨ret_bool HV.out.symm, HT.out.bel⟩
  have e3 : (x.window != y.window) = false := by simpa using h3
  have H3 : Hid (x.window = y.window) := h3
  clear h3
  go_wp2_with (first | go_skip | (with_reducible refine stopLoad 44 rfl ?_))
  refine load_cut 44 w.heap.size 4 7 _ #[.int .i64 x.sk.count, .int .i64 x.sk.sum, .int .i64 x.sk.min, .int .i64 x.sk.max, .slice a1 n1 c1, .slice a2 n2 c2, .slice a3 n3 c3] 54 _ HT.out.fst rfl rfl rfl Try.underlying44 rfl infoSkI (by simp) rfl ?_
  go_wp2_with (first | go_skip | (with_reducible refine stopLoad 44 rfl ?_))
  refine load_cut 44 (w.heap.size + 1) 4 7 _ #[.int .i64 y.sk.count, .int .i64 y.sk.sum, .int .i64 y.sk.min, .int .i64 y.sk.max, .slice b1 m1 d1, .slice b2 m2 d2, .slice b3 m3 d3] 54 _ HT.out.snd rfl rfl rfl Try.underlying44 rfl infoSkI (by simp) rfl ?_
  go_wp2_with fail
  refine (eqSketch_any _ _ x.sk y.sk F G _ (HR.out.1.below HT.out.bel) (HY.out.1.below HT.out.bel) HR.out.2 HY.out.2).mono ?_
  rintro e w2 ⟨rfl, hb2⟩
  have HB2 : Hid (Below w.heap.size w w2) := Below.next HT.out.bel hb2
  obtain ⟨f, hf⟩ : ∃ d, d = decide (x.sk = y.sk) := ⟨_, rfl⟩
  rw [← hf]
  have HF : Hid (f = decide (x.sk = y.sk)) := hf
  clear hb2 hf
  cases f
  · have HV : Hid (decide (x = y) = false) := dec_false (fun e => by have := HF.out.symm; rw [decide_eq_false_iff_not] at this; exact this (by rw [e]))
    go_wp2
    go_ret
    exact ⟨ret_bool HV.out.symm, HB2.out⟩
  have HV : Hid (decide (x = y) = true) := dec_true (It.eq_of H0.out H1.out H2.out H3.out (of_decide_eq_true HF.out.symm))
  go_wp2
  go_ret
  exact ⟨ret_bool HV.out.symm, HB2.out⟩
end Go.Proofs.Ytjndcfamfminkar
