/- The walks through the program's IdOf, ItemOk and the reading of an entry. No statement of the seat is proved here. -/
import Derived.Test.YtbmbmnhamogghapItModel
import Derived.Test.YtbmbmnhamogghapTallyI
import Derived.Test.YtbmbmnhamogghapSpImplA
namespace Go.Proofs.Ytbmbmnhamogghap
open Go.RowKit
set_option maxRecDepth 200000 in
theorem isSeq_any (n : Int) (w : World) : Calls Try.prog 82 #[.int .i64 n] w fun e w' => e = .returned (.bool (decide (1 ≤ n ∧ n ≤ 60))) ∧ w' = w := by
  have hd : ∀ d : Bool, d = decide (1 ≤ n ∧ n ≤ 60) → (d = true ↔ 1 ≤ n ∧ n ≤ 60) := by rintro d rfl; simp
  generalize decide (1 ≤ n ∧ n ≤ 60) = d at *
  have hd := hd d rfl
  by_cases h : 1 ≤ n
  · by_cases h2 : n ≤ 60
    · have e : Hid (d = true) := hd.2 ⟨h, h2⟩
      clear hd
      go_enter Try.func82, Try.ntmps82
      go_wp2
      go_ret
      rw [e.out]; exact ⟨rfl, rfl⟩
    · have e : Hid (d = false) := show d = false by cases d; rfl; exact absurd (hd.1 rfl).2 h2
      clear hd
      go_enter Try.func82, Try.ntmps82
      go_wp2
      go_ret
      rw [e.out]; exact ⟨rfl, rfl⟩
  · have e : Hid (d = false) := show d = false by cases d; rfl; exact absurd (hd.1 rfl).1 h
    clear hd
    go_enter Try.func82, Try.ntmps82
    go_wp2
    go_ret
    rw [e.out]; exact ⟨rfl, rfl⟩
set_option maxRecDepth 200000 in
theorem idImpl_any (a s : Int) (w : World) : Calls Try.prog 46 #[.int .i64 a, .int .i64 s] w fun e w' => e = .returned (.int .i64 (idOf a s)) ∧ w' = w := by
  go_enter Try.func46, Try.ntmps46
  go_wp2_with fail
  refine (inRange_any _ _ _).mono ?_
  rintro e w2 ⟨rfl, hw2⟩
  have hw2' := hw2.symm
  subst hw2'
  clear hw2
  by_cases h1 : 0 ≤ a ∧ a ≤ 2
  rotate_left
  · rw [decF h1]
    have HV : Hid (idOf a s = -1) := by show _ = _; unfold idOf; rw [if_neg (fun e => h1 e.1)]
    clear h1
    go_wp2
    go_ret
    rw [HV.out]
    exact ⟨rfl, rfl⟩
  rw [decT h1]
  go_wp2_with fail
  refine (isSeq_any _ _).mono ?_
  rintro e w2 ⟨rfl, hw2⟩
  have hw2' := hw2.symm
  subst hw2'
  clear hw2
  by_cases h2 : 1 ≤ s ∧ s ≤ 60
  rotate_left
  · rw [decF h2]
    have HV : Hid (idOf a s = -1) := by show _ = _; unfold idOf; rw [if_neg (fun e => h2 e.2)]
    clear h1 h2
    go_wp2
    go_ret
    rw [HV.out]
    exact ⟨rfl, rfl⟩
  rw [decT h2]
  have HV : Hid (idOf a s = 100 * a + s) := by show _ = _; unfold idOf; rw [if_pos ⟨h1, h2⟩]
  obtain ⟨a0, a1⟩ := h1
  obtain ⟨s0, s1⟩ := h2
  go_wp2
  go_ret
  rw [HV.out]
  exact ⟨rfl, rfl⟩
set_option maxRecDepth 200000 in
theorem isPlace_any (k p : Int) (w : World) : Calls Try.prog 76 #[.agg #[.int .i64 k, .int .i64 p]] w fun e w' => e = .returned (.bool (placeOk k p)) ∧ Below w.heap.size w w' := by
  have HB : Hid (Below w.heap.size w (w.alloc (.cells #[.int .i64 k, .int .i64 p] 70))) := (Below.refl _ _).alloc (Nat.le_refl _) _
  go_enter Try.func76, Try.ntmps76
  go_wp2_with fail
  refine (inRange_any _ _ _).mono ?_
  rintro e w2 ⟨rfl, hw2⟩
  have hw2' := hw2.symm
  subst hw2'
  clear hw2
  obtain ⟨d1, hd1⟩ : ∃ d, d = decide (0 ≤ k ∧ k ≤ 4) := ⟨_, rfl⟩
  rw [← hd1]
  have HD1 : Hid (d1 = decide (0 ≤ k ∧ k ≤ 4)) := hd1
  clear hd1
  cases d1
  · have HV : Hid (placeOk k p = false) := by show _ = _; unfold placeOk; rw [← HD1.out]; rfl
    go_wp2
    go_ret
    exact ⟨ret_bool HV.out.symm, HB.out⟩
  go_wp2_with fail
  refine (inRange_any _ _ _).mono ?_
  rintro e w2 ⟨rfl, hw2⟩
  have hw2' := hw2.symm
  subst hw2'
  clear hw2
  obtain ⟨d2, hd2⟩ : ∃ d, d = decide (0 ≤ p ∧ p ≤ 20) := ⟨_, rfl⟩
  rw [← hd2]
  have HV : Hid (d2 = placeOk k p) := by show _ = _; unfold placeOk; rw [← HD1.out, ← hd2]; rfl
  clear hd2
  go_wp2
  go_ret
  exact ⟨ret_bool HV.out, HB.out⟩
set_option maxRecDepth 200000 in
set_option maxHeartbeats 2000000 in
theorem itemOkImpl_any (v : Value) (x : It) (F : List Nat) (w : World) (h : RdIt w v x F) (hw : x.sk.wide) :
    Calls Try.prog 47 #[v] w fun e w' => e = .returned (.bool x.ok) ∧ Below w.heap.size w w' := by
  obtain ⟨a1, n1, c1, a2, n2, c2, a3, n3, c3, rfl, hr⟩ := h
  have HR : Hid (RdSk w (.agg #[.int .i64 x.sk.count, .int .i64 x.sk.sum, .int .i64 x.sk.min, .int .i64 x.sk.max, .slice a1 n1 c1, .slice a2 n2 c2, .slice a3 n3 c3]) x.sk F ∧ x.sk.wide) := ⟨hr, hw⟩
  have HB : Hid (Below w.heap.size w (w.alloc (.cells #[.int .i64 x.seq, .int .i64 x.cls, .int .i64 x.key, .int .i64 x.window, .int .i64 x.sk.count, .int .i64 x.sk.sum, .int .i64 x.sk.min, .int .i64 x.sk.max, .slice a1 n1 c1, .slice a2 n2 c2, .slice a3 n3 c3] 44)) ∧ Blk (w.alloc (.cells #[.int .i64 x.seq, .int .i64 x.cls, .int .i64 x.key, .int .i64 x.window, .int .i64 x.sk.count, .int .i64 x.sk.sum, .int .i64 x.sk.min, .int .i64 x.sk.max, .slice a1 n1 c1, .slice a2 n2 c2, .slice a3 n3 c3] 44)) w.heap.size #[.int .i64 x.seq, .int .i64 x.cls, .int .i64 x.key, .int .i64 x.window, .int .i64 x.sk.count, .int .i64 x.sk.sum, .int .i64 x.sk.min, .int .i64 x.sk.max, .slice a1 n1 c1, .slice a2 n2 c2, .slice a3 n3 c3] 44) := ⟨Below.allocW _ (Below.refl _ _) (Nat.le_refl _), Blk.made _ _ _⟩
  clear hr hw
  go_enter Try.func47, Try.ntmps47
  go_wp2_with fail
  refine (isSeq_any _ _).mono ?_
  rintro e w2 ⟨rfl, hw2⟩
  have hw2' := hw2.symm
  subst hw2'
  clear hw2
  obtain ⟨d1, hd1⟩ : ∃ d, d = decide (1 ≤ x.seq ∧ x.seq ≤ 60) := ⟨_, rfl⟩
  rw [← hd1]
  have HD1 : Hid (d1 = decide (1 ≤ x.seq ∧ x.seq ≤ 60)) := hd1
  clear hd1
  cases d1
  · have HV : Hid (x.ok = false) := by show _ = _; unfold It.ok; rw [← HD1.out]; rfl
    go_wp2
    go_ret
    exact ⟨ret_bool HV.out.symm, HB.out.1⟩
  go_wp2_with fail
  refine (inRange_any _ _ _).mono ?_
  rintro e w2 ⟨rfl, hw2⟩
  have hw2' := hw2.symm
  subst hw2'
  clear hw2
  obtain ⟨d2, hd2⟩ : ∃ d, d = decide (0 ≤ x.cls ∧ x.cls ≤ 1) := ⟨_, rfl⟩
  rw [← hd2]
  have HD2 : Hid (d2 = decide (0 ≤ x.cls ∧ x.cls ≤ 1)) := hd2
  clear hd2
  cases d2
  · have HV : Hid (x.ok = false) := by show _ = _; unfold It.ok; rw [← HD1.out, ← HD2.out]; rfl
    go_wp2
    go_ret
    exact ⟨ret_bool HV.out.symm, HB.out.1⟩
  go_wp2_with fail
  refine (isPlace_any _ _ _).mono ?_
  rintro e w2 ⟨rfl, hb2⟩
  have HB2 : Hid (Below w.heap.size w w2 ∧ Blk w2 w.heap.size #[.int .i64 x.seq, .int .i64 x.cls, .int .i64 x.key, .int .i64 x.window, .int .i64 x.sk.count, .int .i64 x.sk.sum, .int .i64 x.sk.min, .int .i64 x.sk.max, .slice a1 n1 c1, .slice a2 n2 c2, .slice a3 n3 c3] 44) := ⟨Below.next HB.out.1 hb2, HB.out.2.below hb2⟩
  clear hb2
  obtain ⟨d3, hd3⟩ : ∃ d, d = placeOk x.key x.window := ⟨_, rfl⟩
  rw [← hd3]
  have HD3 : Hid (d3 = placeOk x.key x.window) := hd3
  clear hd3
  cases d3
  · have HV : Hid (x.ok = false) := by show _ = _; unfold It.ok; rw [← HD1.out, ← HD2.out, ← HD3.out]; rfl
    go_wp2
    go_ret
    exact ⟨ret_bool HV.out.symm, HB2.out.1⟩
  go_wp2_with (first | go_skip | (with_reducible refine stopLoad 32 rfl ?_))
  refine load_cutw 32 w.heap.size 4 7 _ #[.int .i64 x.sk.count, .int .i64 x.sk.sum, .int .i64 x.sk.min, .int .i64 x.sk.max, .slice a1 n1 c1, .slice a2 n2 c2, .slice a3 n3 c3] 44 _ HB2.out.2 rfl rfl rfl Try.underlying32 rfl infoSkI (by simp) rfl ?_
  go_wp2_with fail
  refine (okImpl_any _ x.sk F _ (HR.out.1.below HB2.out.1) HR.out.2).mono ?_
  rintro e w3 ⟨rfl, hb3⟩
  have HB3 : Hid (Below w.heap.size w w3) := Below.next HB2.out.1 hb3
  have HV : Hid (x.ok = x.sk.ok) := by show _ = _; unfold It.ok; rw [← HD1.out, ← HD2.out, ← HD3.out]; rfl
  clear hb3
  obtain ⟨d4, hd4⟩ : ∃ d, d = x.sk.ok := ⟨_, rfl⟩
  rw [← hd4] at HV ⊢
  clear hd4
  go_wp2
  go_ret
  exact ⟨ret_bool HV.out.symm, HB3.out⟩
/-- The cells of an entry as the program holds it. -/
def hc (k p : Int) (a : Option Addr) (l c : Nat) (ys : List Int) : Array Value := (.int .i64 k :: .int .i64 p :: .slice a l c :: ys.map (Value.int .i64)).toArray
theorem hc_size {k p : Int} {a : Option Addr} {l c : Nat} {ys : List Int} (h : ys.length = 28) : (hc k p a l c ys).size = 31 := by
  unfold hc; simp [h]
theorem hc_one (k p : Int) (a : Option Addr) (l c : Nat) (ys : List Int) : (hc k p a l c ys).all (·.oneCell') = true := by
  unfold hc
  simp [Value.oneCell']
section
variable {P : Program} {ops : Array Oper} {Q : Exit → Act → World → Prop} {rest : List Oper} {a : Act} {w : World} {o : Oper}
theorem stopBuild (ty : TypeId) {fs : Array (Nat × Operand)} (_ho : o.op = .build ty fs) (h : Stop (wpList P ops Q (o :: rest) a w)) : wpList P ops Q (o :: rest) a w := h
/-- A value that is put together, by a law of its own. -/
theorem built_any {ty : TypeId} {fs : Array (Nat × Operand)} (v : Value) (hw : Region.wanted o (yielded ops a.tmps) = true) (ho : o.op = .build ty fs) (hr : (Instr.build ty (fs.map fun p => (p.1, a.eval p.2))).run P w = .ok v w) (h : wpList P ops Q rest (a.put o.dst v) w) : Stop (wpList P ops Q (o :: rest) a w) :=
  wpList_step fun K hK => by
    rw [if_pos hw]
    unfold Oper.wp execOp
    simp only [ho]
    simp [hr]
    exact hK _ _ h
end
set_option maxRecDepth 200000 in
theorem build_hold (w : World) (k p : Int) (a : Option Addr) (l c : Nat) (ys : List Int) (h : ys.length = 28) : (Instr.build 77 #[(0, .agg #[.int .i64 k, .int .i64 p]), (1, .slice a l c), (2, .agg (tc ys))]).run Try.prog w = .ok (.agg (hc k p a l c ys)) w := by
  have key : ∀ y0 y1 y2 y3 y4 y5 y6 y7 y8 y9 y10 y11 y12 y13 y14 y15 y16 y17 y18 y19 y20 y21 y22 y23 y24 y25 y26 y27 : Int, (Instr.build 77 #[(0, .agg #[.int .i64 k, .int .i64 p]), (1, .slice a l c), (2, .agg (tc [y0, y1, y2, y3, y4, y5, y6, y7, y8, y9, y10, y11, y12, y13, y14, y15, y16, y17, y18, y19, y20, y21, y22, y23, y24, y25, y26, y27]))]).run Try.prog w = .ok (.agg (hc k p a l c [y0, y1, y2, y3, y4, y5, y6, y7, y8, y9, y10, y11, y12, y13, y14, y15, y16, y17, y18, y19, y20, y21, y22, y23, y24, y25, y26, y27])) w := by
    intro y0 y1 y2 y3 y4 y5 y6 y7 y8 y9 y10 y11 y12 y13 y14 y15 y16 y17 y18 y19 y20 y21 y22 y23 y24 y25 y26 y27
    kernel_rfl
  match ys, h with
  | [y0, y1, y2, y3, y4, y5, y6, y7, y8, y9, y10, y11, y12, y13, y14, y15, y16, y17, y18, y19, y20, y21, y22, y23, y24, y25, y26, y27], _ => exact key y0 y1 y2 y3 y4 y5 y6 y7 y8 y9 y10 y11 y12 y13 y14 y15 y16 y17 y18 y19 y20 y21 y22 y23 y24 y25 y26 y27
theorem holdSize {cs : Array Value} (h : cs.size = 31) : (Try.prog.info? 77).map (·.size) = some cs.size := by rw [h]; kernel_rfl
set_option maxRecDepth 200000 in
set_option maxHeartbeats 4000000 in
theorem okHolding_any (v : Value) (x : En) (F G : List Nat) (w : World) (h : RdEn w v x F G) (hw : x.sk.wide) (hl : x.ids.length ≤ 2097152) :
    Calls Try.prog 40 #[v] w fun e w' => ∃ k p a l c ys, e = .returned (.tuple #[.agg (hc k p a l c ys), .bool x.ok]) ∧ ys.length = 28 ∧ (x.ok = true → k = x.key ∧ p = x.window ∧ ys = x.sk.tl ∧ RdP w a l x.ids F ∧ Capd a l c) ∧ Below w.heap.size w w' := by
  obtain ⟨b, l, c, a1, n1, c1, a2, n2, c2, a3, n3, c3, rfl, hp, hr, hcp⟩ := h
  have HR : Hid (RdSk w (.agg #[.int .i64 x.sk.count, .int .i64 x.sk.sum, .int .i64 x.sk.min, .int .i64 x.sk.max, .slice a1 n1 c1, .slice a2 n2 c2, .slice a3 n3 c3]) x.sk G ∧ x.sk.wide) := ⟨hr, hw⟩
  have HP : Hid (RdP w b l x.ids F ∧ l ≤ 2097152 ∧ x.ids.length = l ∧ Capd b l c) := ⟨hp, by rw [← hp.length]; exact hl, hp.length, hcp⟩
  have hl2 : l ≤ 2097152 := HP.out.2.1
  have Z := two_made w #[.int .i64 x.key, .int .i64 x.window, .slice b l c, .int .i64 x.sk.count, .int .i64 x.sk.sum, .int .i64 x.sk.min, .int .i64 x.sk.max, .slice a1 n1 c1, .slice a2 n2 c2, .slice a3 n3 c3] (hc 0 0 none 0 0 (List.replicate 28 0)) 34 77
  have HZ : Hid (_ ∧ _ ∧ _) := Z
  clear hr hw hp hl Z hcp
  go_enter Try.func40, Try.ntmps40
  go_wp2_with (first | go_skip | (with_reducible refine stopLoad 32 rfl ?_))
  refine load_cutw 32 w.heap.size 3 7 _ #[.int .i64 x.sk.count, .int .i64 x.sk.sum, .int .i64 x.sk.min, .int .i64 x.sk.max, .slice a1 n1 c1, .slice a2 n2 c2, .slice a3 n3 c3] 34 _ HZ.out.1 rfl rfl rfl Try.underlying32 rfl infoSkI (by simp) rfl ?_
  go_wp2_with fail
  refine (okTally_any _ x.sk G _ (HR.out.1.below HZ.out.2.2) HR.out.2).mono ?_
  rintro e w1 ⟨xs, ys, rfl, _, hy, hx, hyx, hb1⟩
  have hok := okT_ok hx
  have HY : Hid (ys.length = 28 ∧ (x.sk.ok = true → ys = x.sk.tl)) := ⟨hy, fun e => by rw [hyx (hok.trans e)]; exact hx (Sk.ok_shaped e)⟩
  have HS1 : Hid (Blk w1 w.heap.size #[.int .i64 x.key, .int .i64 x.window, .slice b l c, .int .i64 x.sk.count, .int .i64 x.sk.sum, .int .i64 x.sk.min, .int .i64 x.sk.max, .slice a1 n1 c1, .slice a2 n2 c2, .slice a3 n3 c3] 34 ∧ Blk w1 (w.heap.size + 1) (hc 0 0 none 0 0 (List.replicate 28 0)) 77 ∧ Below w.heap.size w w1) := ⟨HZ.out.1.below hb1, HZ.out.2.1.below hb1, Below.next HZ.out.2.2 hb1⟩
  rw [hok]
  clear hb1 hy hx hyx hok HZ
  obtain ⟨d, hd⟩ : ∃ d, d = x.sk.ok := ⟨_, rfl⟩
  rw [← hd]
  have HD : Hid (d = x.sk.ok) := hd
  clear hd
  go_wp2_with (first | go_skip | (with_reducible refine stopStore 75 rfl ?_))
  refine store_fresh 75 w1.heap.size rfl (tc (List.replicate 28 0)) (tc ys) 75 rfl rfl rfl rfl (tallySize HY.out.1) (by rw [tc_size, tc_size, HY.out.1]; rfl) (tc_one _) ?_
  intro W2 hg2 hb2
  have HS2 : Hid (Blk W2 w.heap.size #[.int .i64 x.key, .int .i64 x.window, .slice b l c, .int .i64 x.sk.count, .int .i64 x.sk.sum, .int .i64 x.sk.min, .int .i64 x.sk.max, .slice a1 n1 c1, .slice a2 n2 c2, .slice a3 n3 c3] 34 ∧ Blk W2 (w.heap.size + 1) (hc 0 0 none 0 0 (List.replicate 28 0)) 77 ∧ Below w.heap.size w W2) := ⟨HS1.out.1.below hb2, HS1.out.2.1.below hb2, Below.next HS1.out.2.2 hb2⟩
  have HG2 : Hid (Blk W2 w1.heap.size (tc ys) 75) := hg2
  clear hb2 hg2 HS1
  have k0 : W2.cell? ⟨w.heap.size, 0, none⟩ = some (.int .i64 x.key) := by rw [HS2.out.1.cell]; rfl
  have k1 : W2.cell? ⟨w.heap.size, 1, none⟩ = some (.int .i64 x.window) := by rw [HS2.out.1.cell]; rfl
  go_wp2_with (first | go_skip | (with_reducible refine stopStore 70 rfl ?_))
  refine store_fresh 70 W2.heap.size rfl #[.int .i64 0, .int .i64 0] #[.int .i64 x.key, .int .i64 x.window] 70 rfl rfl rfl rfl (by kernel_rfl) rfl (by kernel_rfl) ?_
  intro W3 hg3 hb3
  have HS3 : Hid (Blk W3 w.heap.size #[.int .i64 x.key, .int .i64 x.window, .slice b l c, .int .i64 x.sk.count, .int .i64 x.sk.sum, .int .i64 x.sk.min, .int .i64 x.sk.max, .slice a1 n1 c1, .slice a2 n2 c2, .slice a3 n3 c3] 34 ∧ Blk W3 (w.heap.size + 1) (hc 0 0 none 0 0 (List.replicate 28 0)) 77 ∧ Below w.heap.size w W3) := ⟨HS2.out.1.below hb3, HS2.out.2.1.below hb3, Below.next HS2.out.2.2 hb3⟩
  have HG3 : Hid (Blk W3 w1.heap.size (tc ys) 75 ∧ Blk W3 W2.heap.size #[.int .i64 x.key, .int .i64 x.window] 70) := ⟨HG2.out.below hb3, hg3⟩
  clear hb3 hg3 HS2 HG2 k0 k1
  cases d
  · have HV : Hid (x.ok = false) := by show _ = _; unfold En.ok; rw [← HD.out]; simp
    have HS := HS3
    go_wp2_with (first | go_skip | (with_reducible refine stopStore 77 rfl ?_))
    refine store_known 77 (w.heap.size + 1) _ (hc 0 0 none 0 0 (List.replicate 28 0)) 77 HS.out.2.1 rfl rfl rfl rfl (by kernel_rfl) rfl (by kernel_rfl) ?_
    go_wp2
    refine bodyPost_ret (results_row_tmp Try.results40 _ _ (w.heap.size + 1) _ _ _ _ rfl HS.out.2.1.setRow Try.underlying77 rfl (by kernel_rfl)) rfl ?_
    exact ⟨0, 0, none, 0, 0, List.replicate 28 0, (by rw [HV.out]; rfl), rfl, fun e => (by rw [HV.out] at e; cases e), below_setRow HS.out.2.2 (by omega) _⟩

  go_wp2_with (first | go_skip | (with_reducible refine stopLoad 70 rfl ?_))
  refine load_any 70 W2.heap.size _ 70 _ HG3.out.2 rfl rfl rfl Try.underlying70 rfl (by kernel_rfl) ?_
  go_wp2_with fail
  refine (isPlace_any _ _ _).mono ?_
  rintro e w4 ⟨rfl, hb4⟩
  have HS4 : Hid (Blk w4 w.heap.size #[.int .i64 x.key, .int .i64 x.window, .slice b l c, .int .i64 x.sk.count, .int .i64 x.sk.sum, .int .i64 x.sk.min, .int .i64 x.sk.max, .slice a1 n1 c1, .slice a2 n2 c2, .slice a3 n3 c3] 34 ∧ Blk w4 (w.heap.size + 1) (hc 0 0 none 0 0 (List.replicate 28 0)) 77 ∧ Below w.heap.size w w4) := ⟨HS3.out.1.below hb4, HS3.out.2.1.below hb4, Below.next HS3.out.2.2 hb4⟩
  have HG4 : Hid (Blk w4 w1.heap.size (tc ys) 75 ∧ Blk w4 W2.heap.size #[.int .i64 x.key, .int .i64 x.window] 70) := ⟨HG3.out.1.below hb4, HG3.out.2.below hb4⟩
  clear hb4 HS3 HG3
  obtain ⟨d2, hd2⟩ : ∃ d, d = placeOk x.key x.window := ⟨_, rfl⟩
  rw [← hd2]
  have HD2 : Hid (d2 = placeOk x.key x.window) := hd2
  clear hd2
  cases d2
  · have HV : Hid (x.ok = false) := by show _ = _; unfold En.ok; rw [← HD2.out]; simp
    have HS := HS4
    go_wp2_with (first | go_skip | (with_reducible refine stopStore 77 rfl ?_))
    refine store_known 77 (w.heap.size + 1) _ (hc 0 0 none 0 0 (List.replicate 28 0)) 77 HS.out.2.1 rfl rfl rfl rfl (by kernel_rfl) rfl (by kernel_rfl) ?_
    go_wp2
    refine bodyPost_ret (results_row_tmp Try.results40 _ _ (w.heap.size + 1) _ _ _ _ rfl HS.out.2.1.setRow Try.underlying77 rfl (by kernel_rfl)) rfl ?_
    exact ⟨0, 0, none, 0, 0, List.replicate 28 0, (by rw [HV.out]; rfl), rfl, fun e => (by rw [HV.out] at e; cases e), below_setRow HS.out.2.2 (by omega) _⟩

  have k2 : w4.cell? ⟨w.heap.size, 2, none⟩ = some (.slice b l c) := by rw [HS4.out.1.cell]; rfl
  go_wp2_with fail
  refine (setOkImpl_any b l c x.ids F _ (HP.out.1.below HS4.out.2.2) HP.out.2.1).mono ?_
  rintro e w5 ⟨rfl, hb5⟩
  have HS5 : Hid (Blk w5 w.heap.size #[.int .i64 x.key, .int .i64 x.window, .slice b l c, .int .i64 x.sk.count, .int .i64 x.sk.sum, .int .i64 x.sk.min, .int .i64 x.sk.max, .slice a1 n1 c1, .slice a2 n2 c2, .slice a3 n3 c3] 34 ∧ Blk w5 (w.heap.size + 1) (hc 0 0 none 0 0 (List.replicate 28 0)) 77 ∧ Below w.heap.size w w5) := ⟨HS4.out.1.below hb5, HS4.out.2.1.below hb5, Below.next HS4.out.2.2 hb5⟩
  have HG5 : Hid (Blk w5 w1.heap.size (tc ys) 75 ∧ Blk w5 W2.heap.size #[.int .i64 x.key, .int .i64 x.window] 70) := ⟨HG4.out.1.below hb5, HG4.out.2.below hb5⟩
  have k5 : w5.cell? ⟨w.heap.size, 2, none⟩ = some (.slice b l c) := by rw [HS5.out.1.cell]; rfl
  clear hb5 HS4 HG4 k2
  obtain ⟨d3, hd3⟩ : ∃ d, d = x.ids.ok := ⟨_, rfl⟩
  rw [← hd3]
  have HD3 : Hid (d3 = x.ids.ok) := hd3
  clear hd3
  cases d3
  · have HV : Hid (x.ok = false) := by show _ = _; unfold En.ok; rw [← HD3.out]; simp
    have HS := HS5
    go_wp2_with (first | go_skip | (with_reducible refine stopStore 77 rfl ?_))
    refine store_known 77 (w.heap.size + 1) _ (hc 0 0 none 0 0 (List.replicate 28 0)) 77 HS.out.2.1 rfl rfl rfl rfl (by kernel_rfl) rfl (by kernel_rfl) ?_
    go_wp2
    refine bodyPost_ret (results_row_tmp Try.results40 _ _ (w.heap.size + 1) _ _ _ _ rfl HS.out.2.1.setRow Try.underlying77 rfl (by kernel_rfl)) rfl ?_
    exact ⟨0, 0, none, 0, 0, List.replicate 28 0, (by rw [HV.out]; rfl), rfl, fun e => (by rw [HV.out] at e; cases e), below_setRow HS.out.2.2 (by omega) _⟩

  by_cases h0 : l = 0
  · have HV : Hid (x.ok = false) := by show _ = _; unfold En.ok; rw [HP.out.2.2.1, h0]; simp
    subst h0
    have HS := HS5
    go_wp2_with (first | go_skip | (with_reducible refine stopStore 77 rfl ?_))
    refine store_known 77 (w.heap.size + 1) _ (hc 0 0 none 0 0 (List.replicate 28 0)) 77 HS.out.2.1 rfl rfl rfl rfl (by kernel_rfl) rfl (by kernel_rfl) ?_
    go_wp2
    refine bodyPost_ret (results_row_tmp Try.results40 _ _ (w.heap.size + 1) _ _ _ _ rfl HS.out.2.1.setRow Try.underlying77 rfl (by kernel_rfl)) rfl ?_
    exact ⟨0, 0, none, 0, 0, List.replicate 28 0, (by rw [HV.out]; rfl), rfl, fun e => (by rw [HV.out] at e; cases e), below_setRow HS.out.2.2 (by omega) _⟩

  have g1 : ((l : Int) == 0) = false := by simp; omega
  have HV : Hid (x.ok = true) := by show _ = _; unfold En.ok; rw [← HD.out, ← HD2.out, ← HD3.out, HP.out.2.2.1]; simp; omega
  clear h0
  go_wp2_with (first | go_skip | (with_reducible refine stopLoad 70 rfl ?_))
  refine load_any 70 W2.heap.size _ 70 _ HG5.out.2 rfl rfl rfl Try.underlying70 rfl (by kernel_rfl) ?_
  go_wp2_with (first | go_skip | (with_reducible refine stopLoad 75 rfl ?_))
  refine load_any 75 w1.heap.size (tc ys) 75 _ HG5.out.1 rfl rfl rfl Try.underlying75 rfl (tallySize HY.out.1) ?_
  go_wp2_with (first | go_skip | (with_reducible refine stopBuild 77 rfl ?_))
  refine built_any (.agg (hc x.key x.window b l c ys)) rfl rfl (by simp only [List.map_toArray, List.map_cons, List.map_nil]; exact build_hold _ _ _ _ _ _ _ HY.out.1) ?_
  go_wp2_with (first | go_skip | (with_reducible refine stopStore 77 rfl ?_))
  refine store_known 77 (w.heap.size + 1) _ (hc x.key x.window b l c ys) 77 HS5.out.2.1 rfl rfl rfl rfl (holdSize (hc_size HY.out.1)) (by rw [hc_size HY.out.1]; rfl) (hc_one ..) ?_
  go_wp2
  refine bodyPost_ret (results_row_tmp Try.results40 _ _ (w.heap.size + 1) _ _ _ _ rfl HS5.out.2.1.setRow Try.underlying77 rfl (holdSize (hc_size HY.out.1))) rfl ?_
  exact ⟨x.key, x.window, b, l, c, ys, (by rw [HV.out]; rfl), HY.out.1, fun _ => ⟨rfl, rfl, HY.out.2 HD.out.symm, HP.out.1, HP.out.2.2.2⟩, below_setRow HS5.out.2.2 (by omega) _⟩
set_option maxRecDepth 200000 in
set_option maxHeartbeats 1000000 in
theorem entryOkImpl_en (v : Value) (x : En) (F G : List Nat) (w : World) (h : RdEn w v x F G) (hw : x.sk.wide) (hl : x.ids.length ≤ 2097152) :
    Calls Try.prog 12 #[v] w fun e w' => e = .returned (.bool x.ok) ∧ Below w.heap.size w w' := by
  have HH : Hid (RdEn w v x F G ∧ x.sk.wide ∧ x.ids.length ≤ 2097152) := ⟨h, hw, hl⟩
  obtain ⟨b, l, c, a1, n1, c1, a2, n2, c2, a3, n3, c3, rfl, hp, hr, hcp⟩ := h
  have HT : Hid (Blk (w.alloc (.cells #[.int .i64 x.key, .int .i64 x.window, .slice b l c, .int .i64 x.sk.count, .int .i64 x.sk.sum, .int .i64 x.sk.min, .int .i64 x.sk.max, .slice a1 n1 c1, .slice a2 n2 c2, .slice a3 n3 c3] 34)) w.heap.size #[.int .i64 x.key, .int .i64 x.window, .slice b l c, .int .i64 x.sk.count, .int .i64 x.sk.sum, .int .i64 x.sk.min, .int .i64 x.sk.max, .slice a1 n1 c1, .slice a2 n2 c2, .slice a3 n3 c3] 34 ∧ Below w.heap.size w (w.alloc (.cells #[.int .i64 x.key, .int .i64 x.window, .slice b l c, .int .i64 x.sk.count, .int .i64 x.sk.sum, .int .i64 x.sk.min, .int .i64 x.sk.max, .slice a1 n1 c1, .slice a2 n2 c2, .slice a3 n3 c3] 34))) := ⟨Blk.made _ _ _, (Below.refl _ _).alloc (Nat.le_refl _) _⟩
  clear hp hr hcp hw hl
  go_enter Try.func12, Try.ntmps12
  go_wp2_with (first | go_skip | (with_reducible refine stopLoad 34 rfl ?_))
  refine load_any 34 w.heap.size _ 34 _ HT.out.1 rfl rfl rfl Try.underlying34 rfl (by kernel_rfl) ?_
  go_wp2_with fail
  refine (okHolding_any _ x F G _ (HH.out.1.below HT.out.2) HH.out.2.1 HH.out.2.2).mono ?_
  rintro e w1 ⟨k, p, a, l', c', ys, rfl, hy, _, hb1⟩
  have HB : Hid (ys.length = 28 ∧ Below w.heap.size w w1) := ⟨hy, Below.next HT.out.2 hb1⟩
  clear hb1 hy
  obtain ⟨d, hd⟩ : ∃ d, d = x.ok := ⟨_, rfl⟩
  rw [← hd]
  have HD : Hid (d = x.ok) := hd
  clear hd
  go_wp2_with (first | go_skip | (with_reducible refine stopStore 77 rfl ?_))
  refine store_fresh 77 w1.heap.size rfl (hc 0 0 none 0 0 (List.replicate 28 0)) (hc k p a l' c' ys) 77 rfl rfl rfl rfl (holdSize (hc_size HB.out.1)) (by rw [hc_size HB.out.1]; rfl) (hc_one ..) ?_
  intro W2 _ hb2
  have HB2 : Hid (Below w.heap.size w W2) := Below.next HB.out.2 hb2
  clear hb2
  go_wp2
  go_ret
  exact ⟨ret_bool HD.out, HB2.out⟩
end Go.Proofs.Ytbmbmnhamogghap
