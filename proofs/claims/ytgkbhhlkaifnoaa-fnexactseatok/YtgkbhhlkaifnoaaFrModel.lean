/- The walks through the model's l7Zero and FrameOk. No statement of the seat is proved here. -/
import Derived.Test.YtgkbhhlkaifnoaaFrData
import Derived.Test.YtgkbhhlkaifnoaaItModel
import Derived.Test.YtgkbhhlkaifnoaaPart
namespace Go.Proofs.Ytgkbhhlkaifnoaa
open Go.RowKit
def It.zero : It := ⟨0, 0, 0, 0, Sk.zero⟩
/-- All of a set lies from 1 to m. -/
def Sp.under (ps : Sp) (m : Int) : Bool := (List.range ps.length).all fun k => decide (1 ≤ (ps.at k).1 ∧ (ps.at k).2 ≤ m)
theorem Sp.under_not {ps : Sp} {m : Int} {k : Nat} (hk : k < ps.length) (h : ¬ (1 ≤ (ps.at k).1 ∧ (ps.at k).2 ≤ m)) : ps.under m = false := by
  rw [Bool.eq_false_iff]
  intro e
  unfold Sp.under at e
  rw [List.all_eq_true] at e
  exact h (of_decide_eq_true (e k (List.mem_range.mpr hk)))
theorem Sp.under_all {ps : Sp} {m : Int} (h : ∀ k, k < ps.length → 1 ≤ (ps.at k).1 ∧ (ps.at k).2 ≤ m) : ps.under m = true := by
  unfold Sp.under
  rw [List.all_eq_true]
  exact fun k hk => decide_eq_true (h k (List.mem_range.mp hk))
def Sp.taken (ps : Sp) : Bool := (List.range ps.length).all fun k => decide (1 ≤ (ps.at k).1 ∧ (ps.at k).2 ≤ 60)
def Fr.ok (x : Fr) : Bool := decide (0 ≤ x.kind ∧ x.kind ≤ 3) && decide (0 ≤ x.agent ∧ x.agent ≤ 2) && decide (0 ≤ x.epoch ∧ x.epoch ≤ 1000) && decide (0 ≤ x.granted ∧ x.granted ≤ 60) && x.taken.ok && x.taken.taken && (if x.kind = 1 then x.item.ok else decide (x.item = It.zero))
theorem It.zero_iff {x : It} : x = It.zero ↔ x.seq = 0 ∧ x.cls = 0 ∧ x.key = 0 ∧ x.window = 0 ∧ x.sk.count = 0 ∧ x.sk.sum = 0 ∧ x.sk.min = 0 ∧ x.sk.max = 0 ∧ x.sk.hist.length = 0 ∧ x.sk.regs.length = 0 ∧ x.sk.rows.length = 0 := by
  constructor
  · rintro rfl
    exact ⟨rfl, rfl, rfl, rfl, rfl, rfl, rfl, rfl, rfl, rfl, rfl⟩
  · rcases x with ⟨p, q, r, s, ⟨c, u, m, n, h, g, o⟩⟩
    rintro ⟨h1, h2, h3, h4, h5, h6, h7, h8, h9, h10, h11⟩
    simp only at h1 h2 h3 h4 h5 h6 h7 h8 h9 h10 h11
    subst h1 h2 h3 h4 h5 h6 h7 h8
    rw [List.length_eq_zero_iff] at h9 h10 h11
    subst h9 h10 h11
    rfl
theorem RdSk.lens {w : World} {p q r s : Int} {a1 a2 a3 : Option Addr} {n1 n2 n3 c1 c2 c3 : Nat} {x : Sk} {F : List Nat} (h : RdSk w (.agg #[.int .i64 p, .int .i64 q, .int .i64 r, .int .i64 s, .slice a1 n1 c1, .slice a2 n2 c2, .slice a3 n3 c3]) x F) : x.hist.length = n1 ∧ x.regs.length = n2 ∧ x.rows.length = n3 := by
  obtain ⟨_, _, _, _, _, _, _, _, _, _, _, _, hv, h1, h2, h3, _⟩ := h
  simp only [Value.agg.injEq] at hv
  cases hv
  exact ⟨h1.length, h2.length, h3.length⟩
set_option maxRecDepth 100000 in
set_option maxHeartbeats 4000000 in
theorem l7Zero_any (v : Value) (x : It) (F : List Nat) (w : World) (h : RdIt w v x F) :
    Calls Try.prog 100 #[v] w fun e w' => e = .returned (.bool (decide (x = It.zero))) ∧ Below w.heap.size w w' := by
  obtain ⟨a1, n1, c1, a2, n2, c2, a3, n3, c3, rfl, hr⟩ := h
  have HL : Hid (x.sk.hist.length = n1 ∧ x.sk.regs.length = n2 ∧ x.sk.rows.length = n3) := hr.lens
  have HA : Hid (Blk (w.alloc (.cells #[.int .i64 x.seq, .int .i64 x.cls, .int .i64 x.key, .int .i64 x.window, .int .i64 x.sk.count, .int .i64 x.sk.sum, .int .i64 x.sk.min, .int .i64 x.sk.max, .slice a1 n1 c1, .slice a2 n2 c2, .slice a3 n3 c3] 36)) w.heap.size #[.int .i64 x.seq, .int .i64 x.cls, .int .i64 x.key, .int .i64 x.window, .int .i64 x.sk.count, .int .i64 x.sk.sum, .int .i64 x.sk.min, .int .i64 x.sk.max, .slice a1 n1 c1, .slice a2 n2 c2, .slice a3 n3 c3] 36) := Blk.made _ _ _
  have HB : Hid (Blk ((w.alloc (.cells #[.int .i64 x.seq, .int .i64 x.cls, .int .i64 x.key, .int .i64 x.window, .int .i64 x.sk.count, .int .i64 x.sk.sum, .int .i64 x.sk.min, .int .i64 x.sk.max, .slice a1 n1 c1, .slice a2 n2 c2, .slice a3 n3 c3] 36)).alloc (.cells #[.int .i64 0, .int .i64 0, .int .i64 0, .int .i64 0, .slice none 0 0, .slice none 0 0, .slice none 0 0] 34)) w.heap.size #[.int .i64 x.seq, .int .i64 x.cls, .int .i64 x.key, .int .i64 x.window, .int .i64 x.sk.count, .int .i64 x.sk.sum, .int .i64 x.sk.min, .int .i64 x.sk.max, .slice a1 n1 c1, .slice a2 n2 c2, .slice a3 n3 c3] 36 ∧ Blk ((w.alloc (.cells #[.int .i64 x.seq, .int .i64 x.cls, .int .i64 x.key, .int .i64 x.window, .int .i64 x.sk.count, .int .i64 x.sk.sum, .int .i64 x.sk.min, .int .i64 x.sk.max, .slice a1 n1 c1, .slice a2 n2 c2, .slice a3 n3 c3] 36)).alloc (.cells #[.int .i64 0, .int .i64 0, .int .i64 0, .int .i64 0, .slice none 0 0, .slice none 0 0, .slice none 0 0] 34)) (w.heap.size + 1) #[.int .i64 0, .int .i64 0, .int .i64 0, .int .i64 0, .slice none 0 0, .slice none 0 0, .slice none 0 0] 34 ∧ Below w.heap.size w ((w.alloc (.cells #[.int .i64 x.seq, .int .i64 x.cls, .int .i64 x.key, .int .i64 x.window, .int .i64 x.sk.count, .int .i64 x.sk.sum, .int .i64 x.sk.min, .int .i64 x.sk.max, .slice a1 n1 c1, .slice a2 n2 c2, .slice a3 n3 c3] 36)).alloc (.cells #[.int .i64 0, .int .i64 0, .int .i64 0, .int .i64 0, .slice none 0 0, .slice none 0 0, .slice none 0 0] 34))) := by
    refine ⟨(Blk.made _ _ _).below (Below.allocW _ (Below.refl _ _) (Nat.le_refl _)), ?_, Below.allocW _ (Below.allocW _ (Below.refl _ _) (Nat.le_refl _)) (by simp)⟩
    have e := Blk.made (w.alloc (.cells #[.int .i64 x.seq, .int .i64 x.cls, .int .i64 x.key, .int .i64 x.window, .int .i64 x.sk.count, .int .i64 x.sk.sum, .int .i64 x.sk.min, .int .i64 x.sk.max, .slice a1 n1 c1, .slice a2 n2 c2, .slice a3 n3 c3] 36)) #[.int .i64 0, .int .i64 0, .int .i64 0, .int .i64 0, .slice none 0 0, .slice none 0 0, .slice none 0 0] 34
    rw [World.size_alloc] at e
    exact e
  clear hr
  go_enter Try.func100, Try.ntmps100
  go_wp2_with (first | go_skip | (with_reducible refine stopLoad 34 rfl ?_))
  refine load_cut 34 w.heap.size 4 7 _ #[.int .i64 x.sk.count, .int .i64 x.sk.sum, .int .i64 x.sk.min, .int .i64 x.sk.max, .slice a1 n1 c1, .slice a2 n2 c2, .slice a3 n3 c3] 36 _ HA.out rfl rfl rfl Try.underlying34 rfl infoSkI (by simp) rfl ?_
  go_wp2_with (first | go_skip | (with_reducible refine stopStore 34 rfl ?_))
  refine store_known 34 (w.heap.size + 1) _ #[.int .i64 x.sk.count, .int .i64 x.sk.sum, .int .i64 x.sk.min, .int .i64 x.sk.max, .slice a1 n1 c1, .slice a2 n2 c2, .slice a3 n3 c3] 34 HB.out.2.1 rfl rfl rfl rfl (by kernel_rfl) rfl (one7 ..) ?_
  obtain ⟨W, hW⟩ : ∃ W, W = ((w.alloc (.cells #[.int .i64 x.seq, .int .i64 x.cls, .int .i64 x.key, .int .i64 x.window, .int .i64 x.sk.count, .int .i64 x.sk.sum, .int .i64 x.sk.min, .int .i64 x.sk.max, .slice a1 n1 c1, .slice a2 n2 c2, .slice a3 n3 c3] 36)).alloc (.cells #[.int .i64 0, .int .i64 0, .int .i64 0, .int .i64 0, .slice none 0 0, .slice none 0 0, .slice none 0 0] 34)).setRow (w.heap.size + 1) #[.int .i64 x.sk.count, .int .i64 x.sk.sum, .int .i64 x.sk.min, .int .i64 x.sk.max, .slice a1 n1 c1, .slice a2 n2 c2, .slice a3 n3 c3] := ⟨_, rfl⟩
  have HW : Hid (Blk W w.heap.size #[.int .i64 x.seq, .int .i64 x.cls, .int .i64 x.key, .int .i64 x.window, .int .i64 x.sk.count, .int .i64 x.sk.sum, .int .i64 x.sk.min, .int .i64 x.sk.max, .slice a1 n1 c1, .slice a2 n2 c2, .slice a3 n3 c3] 36 ∧ Blk W (w.heap.size + 1) #[.int .i64 x.sk.count, .int .i64 x.sk.sum, .int .i64 x.sk.min, .int .i64 x.sk.max, .slice a1 n1 c1, .slice a2 n2 c2, .slice a3 n3 c3] 34 ∧ Below w.heap.size w W) := by
    rw [hW]
    exact ⟨HB.out.1.setRowOther (by omega), HB.out.2.1.setRow, below_setRow HB.out.2.2 (by omega) _⟩
  rw [← hW]
  clear hW HB
  have d0 := HW.out.1.cell 0
  have f0 := HW.out.1.frozen 0
  have d1 := HW.out.1.cell 1
  have f1 := HW.out.1.frozen 1
  have d2 := HW.out.1.cell 2
  have f2 := HW.out.1.frozen 2
  have d3 := HW.out.1.cell 3
  have f3 := HW.out.1.frozen 3
  have g0 := HW.out.2.1.cell 0
  have y0 := HW.out.2.1.frozen 0
  have g1 := HW.out.2.1.cell 1
  have y1 := HW.out.2.1.frozen 1
  have g2 := HW.out.2.1.cell 2
  have y2 := HW.out.2.1.frozen 2
  have g3 := HW.out.2.1.cell 3
  have y3 := HW.out.2.1.frozen 3
  have g4 := HW.out.2.1.cell 4
  have y4 := HW.out.2.1.frozen 4
  have g5 := HW.out.2.1.cell 5
  have y5 := HW.out.2.1.frozen 5
  have g6 := HW.out.2.1.cell 6
  have y6 := HW.out.2.1.frozen 6
  simp only [aT, aZ, List.getElem?_cons_succ] at d0 d1 d2 d3 g0 g1 g2 g3 g4 g5 g6
  by_cases h0 : x.seq = 0
  rotate_left
  · have e0 : (x.seq == 0) = false := by simpa using h0
    have HV : Hid (decide (x = It.zero) = false) := decF (fun e => h0 (It.zero_iff.mp e).1)
    clear h0
    go_wp2
    go_ret
    exact ⟨ret_bool HV.out.symm, HW.out.2.2⟩
  have e0 : (x.seq == 0) = true := by simpa using h0
  have H0 : Hid (x.seq = 0) := h0
  clear h0
  by_cases h1 : x.cls = 0
  rotate_left
  · have e1 : (x.cls == 0) = false := by simpa using h1
    have HV : Hid (decide (x = It.zero) = false) := decF (fun e => h1 (It.zero_iff.mp e).2.1)
    clear h1
    go_wp2
    go_ret
    exact ⟨ret_bool HV.out.symm, HW.out.2.2⟩
  have e1 : (x.cls == 0) = true := by simpa using h1
  have H1 : Hid (x.cls = 0) := h1
  clear h1
  by_cases h2 : x.key = 0
  rotate_left
  · have e2 : (x.key == 0) = false := by simpa using h2
    have HV : Hid (decide (x = It.zero) = false) := decF (fun e => h2 (It.zero_iff.mp e).2.2.1)
    clear h2
    go_wp2
    go_ret
    exact ⟨ret_bool HV.out.symm, HW.out.2.2⟩
  have e2 : (x.key == 0) = true := by simpa using h2
  have H2 : Hid (x.key = 0) := h2
  clear h2
  by_cases h3 : x.window = 0
  rotate_left
  · have e3 : (x.window == 0) = false := by simpa using h3
    have HV : Hid (decide (x = It.zero) = false) := decF (fun e => h3 (It.zero_iff.mp e).2.2.2.1)
    clear h3
    go_wp2
    go_ret
    exact ⟨ret_bool HV.out.symm, HW.out.2.2⟩
  have e3 : (x.window == 0) = true := by simpa using h3
  have H3 : Hid (x.window = 0) := h3
  clear h3
  by_cases h4 : x.sk.count = 0
  rotate_left
  · have e4 : (x.sk.count == 0) = false := by simpa using h4
    have HV : Hid (decide (x = It.zero) = false) := decF (fun e => h4 (It.zero_iff.mp e).2.2.2.2.1)
    clear h4
    go_wp2
    go_ret
    exact ⟨ret_bool HV.out.symm, HW.out.2.2⟩
  have e4 : (x.sk.count == 0) = true := by simpa using h4
  have H4 : Hid (x.sk.count = 0) := h4
  clear h4
  by_cases h5 : x.sk.sum = 0
  rotate_left
  · have e5 : (x.sk.sum == 0) = false := by simpa using h5
    have HV : Hid (decide (x = It.zero) = false) := decF (fun e => h5 (It.zero_iff.mp e).2.2.2.2.2.1)
    clear h5
    go_wp2
    go_ret
    exact ⟨ret_bool HV.out.symm, HW.out.2.2⟩
  have e5 : (x.sk.sum == 0) = true := by simpa using h5
  have H5 : Hid (x.sk.sum = 0) := h5
  clear h5
  by_cases h6 : x.sk.min = 0
  rotate_left
  · have e6 : (x.sk.min == 0) = false := by simpa using h6
    have HV : Hid (decide (x = It.zero) = false) := decF (fun e => h6 (It.zero_iff.mp e).2.2.2.2.2.2.1)
    clear h6
    go_wp2
    go_ret
    exact ⟨ret_bool HV.out.symm, HW.out.2.2⟩
  have e6 : (x.sk.min == 0) = true := by simpa using h6
  have H6 : Hid (x.sk.min = 0) := h6
  clear h6
  by_cases h7 : x.sk.max = 0
  rotate_left
  · have e7 : (x.sk.max == 0) = false := by simpa using h7
    have HV : Hid (decide (x = It.zero) = false) := decF (fun e => h7 (It.zero_iff.mp e).2.2.2.2.2.2.2.1)
    clear h7
    go_wp2
    go_ret
    exact ⟨ret_bool HV.out.symm, HW.out.2.2⟩
  have e7 : (x.sk.max == 0) = true := by simpa using h7
  have H7 : Hid (x.sk.max = 0) := h7
  clear h7
  by_cases h8 : n1 = 0
  rotate_left
  · have e8 : ((((n1 : Nat) : Int)) == 0) = false := by simpa using h8
    have HV : Hid (decide (x = It.zero) = false) := decF (fun e => h8 (by rw [← HL.out.1]; exact (It.zero_iff.mp e).2.2.2.2.2.2.2.2.1))
    clear h8
    go_wp2
    go_ret
    exact ⟨ret_bool HV.out.symm, HW.out.2.2⟩
  have e8 : ((((n1 : Nat) : Int)) == 0) = true := by simpa using h8
  have H8 : Hid (n1 = 0) := h8
  clear h8
  by_cases h9 : n2 = 0
  rotate_left
  · have e9 : ((((n2 : Nat) : Int)) == 0) = false := by simpa using h9
    have HV : Hid (decide (x = It.zero) = false) := decF (fun e => h9 (by rw [← HL.out.2.1]; exact (It.zero_iff.mp e).2.2.2.2.2.2.2.2.2.1))
    clear h9
    go_wp2
    go_ret
    exact ⟨ret_bool HV.out.symm, HW.out.2.2⟩
  have e9 : ((((n2 : Nat) : Int)) == 0) = true := by simpa using h9
  have H9 : Hid (n2 = 0) := h9
  clear h9
  by_cases h10 : n3 = 0
  rotate_left
  · have e10 : ((((n3 : Nat) : Int)) == 0) = false := by simpa using h10
    have HV : Hid (decide (x = It.zero) = false) := decF (fun e => h10 (by rw [← HL.out.2.2]; exact (It.zero_iff.mp e).2.2.2.2.2.2.2.2.2.2))
    clear h10
    go_wp2
    go_ret
    exact ⟨ret_bool HV.out.symm, HW.out.2.2⟩
  have e10 : ((((n3 : Nat) : Int)) == 0) = true := by simpa using h10
  have H10 : Hid (n3 = 0) := h10
  clear h10
  have HV : Hid (decide (x = It.zero) = true) := decT (It.zero_iff.mpr ⟨H0.out, H1.out, H2.out, H3.out, H4.out, H5.out, H6.out, H7.out, HL.out.1.trans H8.out, HL.out.2.1.trans H9.out, HL.out.2.2.trans H10.out⟩)
  go_wp2
  go_ret
  exact ⟨ret_bool HV.out.symm, HW.out.2.2⟩
theorem Sp.taken_not {ps : Sp} {k : Nat} (hk : k < ps.length) (h : ¬ (1 ≤ (ps.at k).1 ∧ (ps.at k).2 ≤ 60)) : ps.taken = false := by
  rw [Bool.eq_false_iff]
  intro e
  unfold Sp.taken at e
  rw [List.all_eq_true] at e
  exact h (of_decide_eq_true (e k (List.mem_range.mpr hk)))
theorem Sp.taken_all {ps : Sp} (h : ∀ k, k < ps.length → 1 ≤ (ps.at k).1 ∧ (ps.at k).2 ≤ 60) : ps.taken = true := by
  unfold Sp.taken
  rw [List.all_eq_true]
  exact fun k hk => decide_eq_true (h k (List.mem_range.mp hk))
theorem infoItA : (Try.prog.info? 36).map (·.size) = some 11 := by kernel_rfl
set_option maxRecDepth 100000 in
set_option maxHeartbeats 4000000 in
theorem frameOkSpec_any (v : Value) (x : Fr) (F G : List Nat) (w : World) (h : RdFr w v x F G) (hw : x.item.sk.wide) (hl : x.taken.length ≤ 140737488355328) :
    Calls Try.prog 66 #[v] w fun e w' => e = .returned (.bool x.ok) ∧ Below w.heap.size w w' := by
  obtain ⟨b, l, c, a1, n1, c1, a2, n2, c2, a3, n3, c3, rfl, hp, hr, _⟩ := h
  have HR : Hid (RdIt w (.agg #[.int .i64 x.item.seq, .int .i64 x.item.cls, .int .i64 x.item.key, .int .i64 x.item.window, .int .i64 x.item.sk.count, .int .i64 x.item.sk.sum, .int .i64 x.item.sk.min, .int .i64 x.item.sk.max, .slice a1 n1 c1, .slice a2 n2 c2, .slice a3 n3 c3]) x.item G ∧ x.item.sk.wide) := ⟨hr, hw⟩
  have HP : Hid (RdP w b l x.taken F ∧ l ≤ 140737488355328 ∧ x.taken.length = l) := ⟨hp, by rw [← hp.length]; exact hl, hp.length⟩
  have hl' : l ≤ 140737488355328 := HP.out.2.1
  have HB : Hid (Below w.heap.size w (w.alloc (.cells #[.int .i64 x.kind, .int .i64 x.agent, .int .i64 x.epoch, .int .i64 x.granted, .slice b l c, .int .i64 x.item.seq, .int .i64 x.item.cls, .int .i64 x.item.key, .int .i64 x.item.window, .int .i64 x.item.sk.count, .int .i64 x.item.sk.sum, .int .i64 x.item.sk.min, .int .i64 x.item.sk.max, .slice a1 n1 c1, .slice a2 n2 c2, .slice a3 n3 c3] 38)) ∧ Blk (w.alloc (.cells #[.int .i64 x.kind, .int .i64 x.agent, .int .i64 x.epoch, .int .i64 x.granted, .slice b l c, .int .i64 x.item.seq, .int .i64 x.item.cls, .int .i64 x.item.key, .int .i64 x.item.window, .int .i64 x.item.sk.count, .int .i64 x.item.sk.sum, .int .i64 x.item.sk.min, .int .i64 x.item.sk.max, .slice a1 n1 c1, .slice a2 n2 c2, .slice a3 n3 c3] 38)) w.heap.size #[.int .i64 x.kind, .int .i64 x.agent, .int .i64 x.epoch, .int .i64 x.granted, .slice b l c, .int .i64 x.item.seq, .int .i64 x.item.cls, .int .i64 x.item.key, .int .i64 x.item.window, .int .i64 x.item.sk.count, .int .i64 x.item.sk.sum, .int .i64 x.item.sk.min, .int .i64 x.item.sk.max, .slice a1 n1 c1, .slice a2 n2 c2, .slice a3 n3 c3] 38) := ⟨Below.allocW _ (Below.refl _ _) (Nat.le_refl _), Blk.made _ _ _⟩
  clear hr hw hp hl
  go_enter Try.func66, Try.ntmps66
  go_wp2_with fail
  refine (l1In_any _ _ _ _).mono ?_
  rintro e w2 ⟨rfl, hw2⟩
  have hw2' := hw2.symm
  subst hw2'
  clear hw2
  obtain ⟨d1, hd1⟩ : ∃ d, d = decide (0 ≤ x.kind ∧ x.kind ≤ 3) := ⟨_, rfl⟩
  rw [← hd1]
  have HD1 : Hid (d1 = decide (0 ≤ x.kind ∧ x.kind ≤ 3)) := hd1
  clear hd1
  cases d1
  · have HV : Hid (x.ok = false) := by show _ = _; unfold Fr.ok; rw [← HD1.out]; rfl
    go_wp2
    go_ret
    exact ⟨ret_bool HV.out.symm, HB.out.1⟩
  go_wp2_with fail
  refine (l6Agent_any _ _).mono ?_
  rintro e w2 ⟨rfl, hw2⟩
  have hw2' := hw2.symm
  subst hw2'
  clear hw2
  obtain ⟨d2, hd2⟩ : ∃ d, d = decide (0 ≤ x.agent ∧ x.agent ≤ 2) := ⟨_, rfl⟩
  rw [← hd2]
  have HD2 : Hid (d2 = decide (0 ≤ x.agent ∧ x.agent ≤ 2)) := hd2
  clear hd2
  cases d2
  · have HV : Hid (x.ok = false) := by show _ = _; unfold Fr.ok; rw [← HD1.out, ← HD2.out]; rfl
    go_wp2
    go_ret
    exact ⟨ret_bool HV.out.symm, HB.out.1⟩
  go_wp2_with fail
  refine (l1In_any _ _ _ _).mono ?_
  rintro e w2 ⟨rfl, hw2⟩
  have hw2' := hw2.symm
  subst hw2'
  clear hw2
  obtain ⟨d3, hd3⟩ : ∃ d, d = decide (0 ≤ x.epoch ∧ x.epoch ≤ 1000) := ⟨_, rfl⟩
  rw [← hd3]
  have HD3 : Hid (d3 = decide (0 ≤ x.epoch ∧ x.epoch ≤ 1000)) := hd3
  clear hd3
  cases d3
  · have HV : Hid (x.ok = false) := by show _ = _; unfold Fr.ok; rw [← HD1.out, ← HD2.out, ← HD3.out]; rfl
    go_wp2
    go_ret
    exact ⟨ret_bool HV.out.symm, HB.out.1⟩
  go_wp2_with fail
  refine (l1In_any _ _ _ _).mono ?_
  rintro e w2 ⟨rfl, hw2⟩
  have hw2' := hw2.symm
  subst hw2'
  clear hw2
  obtain ⟨d4, hd4⟩ : ∃ d, d = decide (0 ≤ x.granted ∧ x.granted ≤ 60) := ⟨_, rfl⟩
  rw [← hd4]
  have HD4 : Hid (d4 = decide (0 ≤ x.granted ∧ x.granted ≤ 60)) := hd4
  clear hd4
  cases d4
  · have HV : Hid (x.ok = false) := by show _ = _; unfold Fr.ok; rw [← HD1.out, ← HD2.out, ← HD3.out, ← HD4.out]; rfl
    go_wp2
    go_ret
    exact ⟨ret_bool HV.out.symm, HB.out.1⟩
  have HOK : Hid (x.ok = (x.taken.ok && x.taken.taken && (if x.kind = 1 then x.item.ok else decide (x.item = It.zero)))) := by show _ = _; unfold Fr.ok; rw [← HD1.out, ← HD2.out, ← HD3.out, ← HD4.out]; rfl
  clear HD1 HD2 HD3 HD4
  go_wp2_with fail
  refine (setOkSpec_any b l c x.taken F _ (HP.out.1.below HB.out.1) HP.out.2.1).mono ?_
  rintro e w2 ⟨rfl, hq⟩
  have HB2 : Hid (Below w.heap.size w w2 ∧ Blk w2 w.heap.size #[.int .i64 x.kind, .int .i64 x.agent, .int .i64 x.epoch, .int .i64 x.granted, .slice b l c, .int .i64 x.item.seq, .int .i64 x.item.cls, .int .i64 x.item.key, .int .i64 x.item.window, .int .i64 x.item.sk.count, .int .i64 x.item.sk.sum, .int .i64 x.item.sk.min, .int .i64 x.item.sk.max, .slice a1 n1 c1, .slice a2 n2 c2, .slice a3 n3 c3] 38) := ⟨Below.next HB.out.1 (quiet_below hq), HB.out.2.below (quiet_below hq)⟩
  obtain ⟨d5, hd5⟩ : ∃ d, d = x.taken.ok := ⟨_, rfl⟩
  rw [← hd5]
  have HD5 : Hid (d5 = x.taken.ok) := hd5
  clear hd5 hq HB
  cases d5
  · have HV : Hid (x.ok = false) := by show _ = _; rw [HOK.out, ← HD5.out]; rfl
    go_wp2
    go_ret
    exact ⟨ret_bool HV.out.symm, HB2.out.1⟩
  have c0 := HB2.out.2.cell 0
  have c4 := HB2.out.2.cell 4
  have f0 := HB2.out.2.frozen 0
  have f4 := HB2.out.2.frozen 4
  simp only [aT, aZ, List.getElem?_cons_succ] at c0 c4
  go_wp2
  go_loopw [3] (fun i wr => ∃ (k : Nat), k ≤ l ∧ i = .int .i64 k ∧ wr = w2 ∧ Hid (∀ j, j < k → 1 ≤ (x.taken.at j).1 ∧ (x.taken.at j).2 ≤ 60)) (fun i _ => l - (intOf i).toNat)
  case atStart => exact ⟨0, by omega, rfl, rfl, fun j hj => by omega⟩
  case round =>
    obtain ⟨k, hk, rfl, hwr, HN⟩ := hrel
    have hwr' := hwr.symm
    subst hwr'
    clear hwr
    by_cases hlt : k < l
    · rcases (HP.out.1.below HB2.out.1).cells with ⟨h0, _, _⟩ | ⟨b0, off, hp0, hb0, _, hc⟩
      · omega
      have hb0' := hb0.symm
      subst hb0'
      clear hb0
      obtain ⟨p, hp⟩ : ∃ p, p = (x.taken.at k).1 := ⟨_, rfl⟩
      obtain ⟨q, hq⟩ : ∃ p, p = (x.taken.at k).2 := ⟨_, rfl⟩
      have e := hc k hlt
      have HX : Hid (p = (x.taken.at k).1 ∧ q = (x.taken.at k).2) := ⟨hp, hq⟩
      have d1 : w2.cell? ⟨b0, off + k * 2, none⟩ = some (.int .i64 p) := by rw [hp]; exact e.1
      have d2 : w2.cell? ⟨b0, off + k * 2 + 1, none⟩ = some (.int .i64 q) := by rw [hq]; exact e.2
      have hI : (k : Int) < (l : Int) := by omega
      clear e hp hq hc hp0
      by_cases h1 : p < 1
      · have HV : Hid (x.ok = false) := by show _ = _; rw [HOK.out, Sp.taken_not (by rw [HP.out.2.2]; exact hlt) (fun e => absurd e.1 (by rw [← HX.out.1]; omega))]; simp
        go_wp2
        go_ret
        exact ⟨ret_bool HV.out.symm, HB2.out.1⟩
      by_cases h2 : 60 < q
      · have HV : Hid (x.ok = false) := by show _ = _; rw [HOK.out, Sp.taken_not (by rw [HP.out.2.2]; exact hlt) (fun e => absurd e.2 (by rw [← HX.out.2]; omega))]; simp
        go_wp2
        go_ret
        exact ⟨ret_bool HV.out.symm, HB2.out.1⟩
      have HN2 : Hid (∀ j, j < k + 1 → 1 ≤ (x.taken.at j).1 ∧ (x.taken.at j).2 ≤ 60) := all_up HN.out ⟨by rw [← HX.out.1]; omega, by rw [← HX.out.2]; omega⟩
      go_wp2
      go_roundw
      case rel => exact ⟨k + 1, by omega, by go_num, trivial, HN2⟩
      case measure => simp [intOf]; omega
    · have HOK2 : Hid (x.ok = (if x.kind = 1 then x.item.ok else decide (x.item = It.zero))) := by
        show _ = _
        rw [HOK.out, ← HD5.out, Sp.taken_all (fun j hj => HN.out j (by have := HP.out.2.2; omega))]
        rfl
      by_cases h1 : x.kind = 1
      · have e1 : (x.kind == 1) = true := by simpa using h1
        have HV : Hid (x.ok = x.item.ok) := by show _ = _; rw [HOK2.out, if_pos h1]
        clear h1
        go_wp2_with (first | go_skip | (with_reducible refine stopLoad 36 rfl ?_))
        refine load_cut 36 w.heap.size 5 11 _ #[.int .i64 x.item.seq, .int .i64 x.item.cls, .int .i64 x.item.key, .int .i64 x.item.window, .int .i64 x.item.sk.count, .int .i64 x.item.sk.sum, .int .i64 x.item.sk.min, .int .i64 x.item.sk.max, .slice a1 n1 c1, .slice a2 n2 c2, .slice a3 n3 c3] 38 _ HB2.out.2 rfl rfl rfl Try.underlying36 rfl infoItA (by simp) rfl ?_
        go_wp2_with fail
        refine (itemOkSpec_any _ x.item G _ (HR.out.1.below HB2.out.1) HR.out.2).mono ?_
        rintro e w3 ⟨rfl, hb3⟩
        have HB3 : Hid (Below w.heap.size w w3) := Below.next HB2.out.1 hb3
        clear hb3
        obtain ⟨d, hd⟩ : ∃ d, d = x.item.ok := ⟨_, rfl⟩
        rw [← hd] at HV ⊢
        clear hd
        go_wp2
        go_ret
        exact ⟨ret_bool HV.out.symm, HB3.out⟩
      · have e1 : (x.kind == 1) = false := by simpa using h1
        have HV : Hid (x.ok = decide (x.item = It.zero)) := by show _ = _; rw [HOK2.out, if_neg h1]
        clear h1
        go_wp2_with (first | go_skip | (with_reducible refine stopLoad 36 rfl ?_))
        refine load_cut 36 w.heap.size 5 11 _ #[.int .i64 x.item.seq, .int .i64 x.item.cls, .int .i64 x.item.key, .int .i64 x.item.window, .int .i64 x.item.sk.count, .int .i64 x.item.sk.sum, .int .i64 x.item.sk.min, .int .i64 x.item.sk.max, .slice a1 n1 c1, .slice a2 n2 c2, .slice a3 n3 c3] 38 _ HB2.out.2 rfl rfl rfl Try.underlying36 rfl infoItA (by simp) rfl ?_
        go_wp2_with fail
        refine (l7Zero_any _ x.item G _ (HR.out.1.below HB2.out.1)).mono ?_
        rintro e w3 ⟨rfl, hb3⟩
        have HB3 : Hid (Below w.heap.size w w3) := Below.next HB2.out.1 hb3
        clear hb3
        obtain ⟨d, hd⟩ : ∃ d, d = decide (x.item = It.zero) := ⟨_, rfl⟩
        rw [← hd] at HV ⊢
        clear hd
        go_wp2
        go_ret
        exact ⟨ret_bool HV.out.symm, HB3.out⟩
end Go.Proofs.Ytgkbhhlkaifnoaa
