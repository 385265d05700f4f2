/- Several texts of mine, laid together. No statement of the seat is proved here. -/
import Derived.Test.YtgkbhhlkaifnoaaGreatDoorItOf
import Derived.Test.YtgkbhhlkaifnoaaGreatDoorB1
import Derived.Test.YtgkbhhlkaifnoaaGreatDoorItModel
import Derived.Test.YtgkbhhlkaifnoaaGreatDoorPart
import Derived.Test.YtgkbhhlkaifnoaaGreatDoorSpModel
import Derived.Maps.AppendAt
import Derived.BigRegion
import Derived.Deep.RegionHeld3
import Derived.Laws.StructEq
import Derived.Test.YtgkbhhlkaifnoaaGreatDoorTallyA
/- The walks through the model's l7Zero and FrameOk. No statement of the seat is proved here. -/
namespace Go.Proofs.YtgkbhhlkaifnoaaGreatDoor
open Go.RowKit
def It.zero : It := ⟨0, 0, 0, 0, Sk.zero⟩
/-- All of a set lies from 1 to m. -/
def Sp.under (ps : Sp) (m : Int) : Bool := (List.range ps.length).all fun k => decide (1 ≤ (ps.at k).1 ∧ (ps.at k).2 ≤ m)
theorem Sp.under_not {ps : Sp} {m : Int} {k : Nat} (hk : k < ps.length) (h : ¬ (1 ≤ (ps.at k).1 ∧ (ps.at k).2 ≤ m)) : ps.under m = false := by
  rw [Bool.eq_false_iff]
  intro e
  unfold Sp.under at e
  rw [List.all_eq_true] at e
  exact h (of_decide_eq_true (e k (List.mem_range.mpr hk)))
theorem Sp.under_all {ps : Sp} {m : Int} (h : ∀ k, k < ps.length → 1 ≤ (ps.at k).1 ∧ (ps.at k).2 ≤ m) : ps.under m = true := by
  unfold Sp.under
  rw [List.all_eq_true]
  exact fun k hk => decide_eq_true (h k (List.mem_range.mp hk))
def Sp.taken (ps : Sp) : Bool := (List.range ps.length).all fun k => decide (1 ≤ (ps.at k).1 ∧ (ps.at k).2 ≤ 60)
def Fr.ok (x : Fr) : Bool := decide (0 ≤ x.kind ∧ x.kind ≤ 3) && decide (0 ≤ x.agent ∧ x.agent ≤ 2) && decide (0 ≤ x.epoch ∧ x.epoch ≤ 1000) && decide (0 ≤ x.granted ∧ x.granted ≤ 60) && x.taken.ok && x.taken.taken && (if x.kind = 1 then x.item.ok else decide (x.item = It.zero))
theorem It.zero_iff {x : It} : x = It.zero ↔ x.seq = 0 ∧ x.cls = 0 ∧ x.key = 0 ∧ x.window = 0 ∧ x.sk.count = 0 ∧ x.sk.sum = 0 ∧ x.sk.min = 0 ∧ x.sk.max = 0 ∧ x.sk.hist.length = 0 ∧ x.sk.regs.length = 0 ∧ x.sk.rows.length = 0 := by
  constructor
  · rintro rfl
    exact ⟨rfl, rfl, rfl, rfl, rfl, rfl, rfl, rfl, rfl, rfl, rfl⟩
  · rcases x with ⟨p, q, r, s, ⟨c, u, m, n, h, g, o⟩⟩
    rintro ⟨h1, h2, h3, h4, h5, h6, h7, h8, h9, h10, h11⟩
    simp only at h1 h2 h3 h4 h5 h6 h7 h8 h9 h10 h11
    subst h1 h2 h3 h4 h5 h6 h7 h8
    rw [List.length_eq_zero_iff] at h9 h10 h11
    subst h9 h10 h11
    rfl
theorem RdSk.lens {w : World} {p q r s : Int} {a1 a2 a3 : Option Addr} {n1 n2 n3 c1 c2 c3 : Nat} {x : Sk} {F : List Nat} (h : RdSk w (.agg #[.int .i64 p, .int .i64 q, .int .i64 r, .int .i64 s, .slice a1 n1 c1, .slice a2 n2 c2, .slice a3 n3 c3]) x F) : x.hist.length = n1 ∧ x.regs.length = n2 ∧ x.rows.length = n3 := by
  obtain ⟨_, _, _, _, _, _, _, _, _, _, _, _, hv, h1, h2, h3, _⟩ := h
  simp only [Value.agg.injEq] at hv
  cases hv
  exact ⟨h1.length, h2.length, h3.length⟩
set_option maxRecDepth 100000 in
set_option maxHeartbeats 4000000 in
theorem l7Zero_any (v : Value) (x : It) (F : List Nat) (w : World) (h : RdIt w v x F) :
    Calls Tryz.prog 72 #[v] w fun e w' => e = .returned (.bool (decide (x = It.zero))) ∧ Below w.heap.size w w' := by
  obtain ⟨a1, n1, c1, a2, n2, c2, a3, n3, c3, rfl, hr⟩ := h
  have HL : Hid (x.sk.hist.length = n1 ∧ x.sk.regs.length = n2 ∧ x.sk.rows.length = n3) := hr.lens
  have HA : Hid (Blk (w.alloc (.cells #[.int .i64 x.seq, .int .i64 x.cls, .int .i64 x.key, .int .i64 x.window, .int .i64 x.sk.count, .int .i64 x.sk.sum, .int .i64 x.sk.min, .int .i64 x.sk.max, .slice a1 n1 c1, .slice a2 n2 c2, .slice a3 n3 c3] 33)) w.heap.size #[.int .i64 x.seq, .int .i64 x.cls, .int .i64 x.key, .int .i64 x.window, .int .i64 x.sk.count, .int .i64 x.sk.sum, .int .i64 x.sk.min, .int .i64 x.sk.max, .slice a1 n1 c1, .slice a2 n2 c2, .slice a3 n3 c3] 33) := Blk.made _ _ _
  have HB : Hid (Blk ((w.alloc (.cells #[.int .i64 x.seq, .int .i64 x.cls, .int .i64 x.key, .int .i64 x.window, .int .i64 x.sk.count, .int .i64 x.sk.sum, .int .i64 x.sk.min, .int .i64 x.sk.max, .slice a1 n1 c1, .slice a2 n2 c2, .slice a3 n3 c3] 33)).alloc (.cells #[.int .i64 0, .int .i64 0, .int .i64 0, .int .i64 0, .slice none 0 0, .slice none 0 0, .slice none 0 0] 31)) w.heap.size #[.int .i64 x.seq, .int .i64 x.cls, .int .i64 x.key, .int .i64 x.window, .int .i64 x.sk.count, .int .i64 x.sk.sum, .int .i64 x.sk.min, .int .i64 x.sk.max, .slice a1 n1 c1, .slice a2 n2 c2, .slice a3 n3 c3] 33 ∧ Blk ((w.alloc (.cells #[.int .i64 x.seq, .int .i64 x.cls, .int .i64 x.key, .int .i64 x.window, .int .i64 x.sk.count, .int .i64 x.sk.sum, .int .i64 x.sk.min, .int .i64 x.sk.max, .slice a1 n1 c1, .slice a2 n2 c2, .slice a3 n3 c3] 33)).alloc (.cells #[.int .i64 0, .int .i64 0, .int .i64 0, .int .i64 0, .slice none 0 0, .slice none 0 0, .slice none 0 0] 31)) (w.heap.size + 1) #[.int .i64 0, .int .i64 0, .int .i64 0, .int .i64 0, .slice none 0 0, .slice none 0 0, .slice none 0 0] 31 ∧ Below w.heap.size w ((w.alloc (.cells #[.int .i64 x.seq, .int .i64 x.cls, .int .i64 x.key, .int .i64 x.window, .int .i64 x.sk.count, .int .i64 x.sk.sum, .int .i64 x.sk.min, .int .i64 x.sk.max, .slice a1 n1 c1, .slice a2 n2 c2, .slice a3 n3 c3] 33)).alloc (.cells #[.int .i64 0, .int .i64 0, .int .i64 0, .int .i64 0, .slice none 0 0, .slice none 0 0, .slice none 0 0] 31))) := by
    refine ⟨(Blk.made _ _ _).below (Below.allocW _ (Below.refl _ _) (Nat.le_refl _)), ?_, Below.allocW _ (Below.allocW _ (Below.refl _ _) (Nat.le_refl _)) (by simp)⟩
    have e := Blk.made (w.alloc (.cells #[.int .i64 x.seq, .int .i64 x.cls, .int .i64 x.key, .int .i64 x.window, .int .i64 x.sk.count, .int .i64 x.sk.sum, .int .i64 x.sk.min, .int .i64 x.sk.max, .slice a1 n1 c1, .slice a2 n2 c2, .slice a3 n3 c3] 33)) #[.int .i64 0, .int .i64 0, .int .i64 0, .int .i64 0, .slice none 0 0, .slice none 0 0, .slice none 0 0] 31
    rw [World.size_alloc] at e
    exact e
  clear hr
  go_enter Tryz.func72, Tryz.ntmps72
  go_wp2_with (first | go_skip | (with_reducible refine stopLoad 31 rfl ?_))
  refine load_cut 31 w.heap.size 4 7 _ #[.int .i64 x.sk.count, .int .i64 x.sk.sum, .int .i64 x.sk.min, .int .i64 x.sk.max, .slice a1 n1 c1, .slice a2 n2 c2, .slice a3 n3 c3] 33 _ HA.out rfl rfl rfl Tryz.underlying31 rfl infoSkI (by simp) rfl ?_
  go_wp2_with (first | go_skip | (with_reducible refine stopStore 31 rfl ?_))
  refine store_known 31 (w.heap.size + 1) _ #[.int .i64 x.sk.count, .int .i64 x.sk.sum, .int .i64 x.sk.min, .int .i64 x.sk.max, .slice a1 n1 c1, .slice a2 n2 c2, .slice a3 n3 c3] 31 HB.out.2.1 rfl rfl rfl rfl (by kernel_rfl) rfl (one7 ..) ?_
  obtain ⟨W, hW⟩ : ∃ W, W = ((w.alloc (.cells #[.int .i64 x.seq, .int .i64 x.cls, .int .i64 x.key, .int .i64 x.window, .int .i64 x.sk.count, .int .i64 x.sk.sum, .int .i64 x.sk.min, .int .i64 x.sk.max, .slice a1 n1 c1, .slice a2 n2 c2, .slice a3 n3 c3] 33)).alloc (.cells #[.int .i64 0, .int .i64 0, .int .i64 0, .int .i64 0, .slice none 0 0, .slice none 0 0, .slice none 0 0] 31)).setRow (w.heap.size + 1) #[.int .i64 x.sk.count, .int .i64 x.sk.sum, .int .i64 x.sk.min, .int .i64 x.sk.max, .slice a1 n1 c1, .slice a2 n2 c2, .slice a3 n3 c3] := ⟨_, rfl⟩
  have HW : Hid (Blk W w.heap.size #[.int .i64 x.seq, .int .i64 x.cls, .int .i64 x.key, .int .i64 x.window, .int .i64 x.sk.count, .int .i64 x.sk.sum, .int .i64 x.sk.min, .int .i64 x.sk.max, .slice a1 n1 c1, .slice a2 n2 c2, .slice a3 n3 c3] 33 ∧ Blk W (w.heap.size + 1) #[.int .i64 x.sk.count, .int .i64 x.sk.sum, .int .i64 x.sk.min, .int .i64 x.sk.max, .slice a1 n1 c1, .slice a2 n2 c2, .slice a3 n3 c3] 31 ∧ Below w.heap.size w W) := by
    rw [hW]
    exact ⟨HB.out.1.setRowOther (by omega), HB.out.2.1.setRow, below_setRow HB.out.2.2 (by omega) _⟩
  rw [← hW]
  clear hW HB
  have d0 := HW.out.1.cell 0
  have f0 := HW.out.1.frozen 0
  have d1 := HW.out.1.cell 1
  have f1 := HW.out.1.frozen 1
  have d2 := HW.out.1.cell 2
  have f2 := HW.out.1.frozen 2
  have d3 := HW.out.1.cell 3
  have f3 := HW.out.1.frozen 3
  have g0 := HW.out.2.1.cell 0
  have y0 := HW.out.2.1.frozen 0
  have g1 := HW.out.2.1.cell 1
  have y1 := HW.out.2.1.frozen 1
  have g2 := HW.out.2.1.cell 2
  have y2 := HW.out.2.1.frozen 2
  have g3 := HW.out.2.1.cell 3
  have y3 := HW.out.2.1.frozen 3
  have g4 := HW.out.2.1.cell 4
  have y4 := HW.out.2.1.frozen 4
  have g5 := HW.out.2.1.cell 5
  have y5 := HW.out.2.1.frozen 5
  have g6 := HW.out.2.1.cell 6
  have y6 := HW.out.2.1.frozen 6
  simp only [aT, aZ, List.getElem?_cons_succ] at d0 d1 d2 d3 g0 g1 g2 g3 g4 g5 g6
  by_cases h0 : x.seq = 0
  rotate_left
  · have e0 : (x.seq == 0) = false := by simpa using h0
    have HV : Hid (decide (x = It.zero) = false) := decF (fun e => h0 (It.zero_iff.mp e).1)
    clear h0
    go_wp2
    go_ret
    exact ⟨ret_bool HV.out.symm, HW.out.2.2⟩
  have e0 : (x.seq == 0) = true := by simpa using h0
  have H0 : Hid (x.seq = 0) := h0
  clear h0
  by_cases h1 : x.cls = 0
  rotate_left
  · have e1 : (x.cls == 0) = false := by simpa using h1
    have HV : Hid (decide (x = It.zero) = false) := decF (fun e => h1 (It.zero_iff.mp e).2.1)
    clear h1
    go_wp2
    go_ret
    exact ⟨ret_bool HV.out.symm, HW.out.2.2⟩
  have e1 : (x.cls == 0) = true := by simpa using h1
  have H1 : Hid (x.cls = 0) := h1
  clear h1
  by_cases h2 : x.key = 0
  rotate_left
  · have e2 : (x.key == 0) = false := by simpa using h2
    have HV : Hid (decide (x = It.zero) = false) := decF (fun e => h2 (It.zero_iff.mp e).2.2.1)
    clear h2
    go_wp2
    go_ret
    exact ⟨ret_bool HV.out.symm, HW.out.2.2⟩
  have e2 : (x.key == 0) = true := by simpa using h2
  have H2 : Hid (x.key = 0) := h2
  clear h2
  by_cases h3 : x.window = 0
  rotate_left
  · have e3 : (x.window == 0) = false := by simpa using h3
    have HV : Hid (decide (x = It.zero) = false) := decF (fun e => h3 (It.zero_iff.mp e).2.2.2.1)
    clear h3
    go_wp2
    go_ret
    exact ⟨ret_bool HV.out.symm, HW.out.2.2⟩
  have e3 : (x.window == 0) = true := by simpa using h3
  have H3 : Hid (x.window = 0) := h3
  clear h3
  by_cases h4 : x.sk.count = 0
  rotate_left
  · have e4 : (x.sk.count == 0) = false := by simpa using h4
    have HV : Hid (decide (x = It.zero) = false) := decF (fun e => h4 (It.zero_iff.mp e).2.2.2.2.1)
    clear h4
    go_wp2
    go_ret
    exact ⟨ret_bool HV.out.symm, HW.out.2.2⟩
  have e4 : (x.sk.count == 0) = true := by simpa using h4
  have H4 : Hid (x.sk.count = 0) := h4
  clear h4
  by_cases h5 : x.sk.sum = 0
  rotate_left
  · have e5 : (x.sk.sum == 0) = false := by simpa using h5
    have HV : Hid (decide (x = It.zero) = false) := decF (fun e => h5 (It.zero_iff.mp e).2.2.2.2.2.1)
    clear h5
    go_wp2
    go_ret
    exact ⟨ret_bool HV.out.symm, HW.out.2.2⟩
  have e5 : (x.sk.sum == 0) = true := by simpa using h5
  have H5 : Hid (x.sk.sum = 0) := h5
  clear h5
  by_cases h6 : x.sk.min = 0
  rotate_left
  · have e6 : (x.sk.min == 0) = false := by simpa using h6
    have HV : Hid (decide (x = It.zero) = false) := decF (fun e => h6 (It.zero_iff.mp e).2.2.2.2.2.2.1)
    clear h6
    go_wp2
    go_ret
    exact ⟨ret_bool HV.out.symm, HW.out.2.2⟩
  have e6 : (x.sk.min == 0) = true := by simpa using h6
  have H6 : Hid (x.sk.min = 0) := h6
  clear h6
  by_cases h7 : x.sk.max = 0
  rotate_left
  · have e7 : (x.sk.max == 0) = false := by simpa using h7
    have HV : Hid (decide (x = It.zero) = false) := decF (fun e => h7 (It.zero_iff.mp e).2.2.2.2.2.2.2.1)
    clear h7
    go_wp2
    go_ret
    exact ⟨ret_bool HV.out.symm, HW.out.2.2⟩
  have e7 : (x.sk.max == 0) = true := by simpa using h7
  have H7 : Hid (x.sk.max = 0) := h7
  clear h7
  by_cases h8 : n1 = 0
  rotate_left
  · have e8 : ((((n1 : Nat) : Int)) == 0) = false := by simpa using h8
    have HV : Hid (decide (x = It.zero) = false) := decF (fun e => h8 (by rw [← HL.out.1]; exact (It.zero_iff.mp e).2.2.2.2.2.2.2.2.1))
    clear h8
    go_wp2
    go_ret
    exact ⟨ret_bool HV.out.symm, HW.out.2.2⟩
  have e8 : ((((n1 : Nat) : Int)) == 0) = true := by simpa using h8
  have H8 : Hid (n1 = 0) := h8
  clear h8
  by_cases h9 : n2 = 0
  rotate_left
  · have e9 : ((((n2 : Nat) : Int)) == 0) = false := by simpa using h9
    have HV : Hid (decide (x = It.zero) = false) := decF (fun e => h9 (by rw [← HL.out.2.1]; exact (It.zero_iff.mp e).2.2.2.2.2.2.2.2.2.1))
    clear h9
    go_wp2
    go_ret
    exact ⟨ret_bool HV.out.symm, HW.out.2.2⟩
  have e9 : ((((n2 : Nat) : Int)) == 0) = true := by simpa using h9
  have H9 : Hid (n2 = 0) := h9
  clear h9
  by_cases h10 : n3 = 0
  rotate_left
  · have e10 : ((((n3 : Nat) : Int)) == 0) = false := by simpa using h10
    have HV : Hid (decide (x = It.zero) = false) := decF (fun e => h10 (by rw [← HL.out.2.2]; exact (It.zero_iff.mp e).2.2.2.2.2.2.2.2.2.2))
    clear h10
    go_wp2
    go_ret
    exact ⟨ret_bool HV.out.symm, HW.out.2.2⟩
  have e10 : ((((n3 : Nat) : Int)) == 0) = true := by simpa using h10
  have H10 : Hid (n3 = 0) := h10
  clear h10
  have HV : Hid (decide (x = It.zero) = true) := decT (It.zero_iff.mpr ⟨H0.out, H1.out, H2.out, H3.out, H4.out, H5.out, H6.out, H7.out, HL.out.1.trans H8.out, HL.out.2.1.trans H9.out, HL.out.2.2.trans H10.out⟩)
  go_wp2
  go_ret
  exact ⟨ret_bool HV.out.symm, HW.out.2.2⟩
theorem Sp.taken_not {ps : Sp} {k : Nat} (hk : k < ps.length) (h : ¬ (1 ≤ (ps.at k).1 ∧ (ps.at k).2 ≤ 60)) : ps.taken = false := by
  rw [Bool.eq_false_iff]
  intro e
  unfold Sp.taken at e
  rw [List.all_eq_true] at e
  exact h (of_decide_eq_true (e k (List.mem_range.mpr hk)))
theorem Sp.taken_all {ps : Sp} (h : ∀ k, k < ps.length → 1 ≤ (ps.at k).1 ∧ (ps.at k).2 ≤ 60) : ps.taken = true := by
  unfold Sp.taken
  rw [List.all_eq_true]
  exact fun k hk => decide_eq_true (h k (List.mem_range.mp hk))
set_option maxRecDepth 100000 in
set_option maxHeartbeats 4000000 in
theorem frameOkSpec_any (v : Value) (x : Fr) (F G : List Nat) (w : World) (h : RdFr w v x F G) (hw : x.item.sk.wide) (hl : x.taken.length ≤ 140737488355328) :
    Calls Tryz.prog 35 #[v] w fun e w' => e = .returned (.bool x.ok) ∧ Below w.heap.size w w' := by
  obtain ⟨b, l, c, a1, n1, c1, a2, n2, c2, a3, n3, c3, rfl, hp, hr, _⟩ := h
  have HR : Hid (RdIt w (.agg #[.int .i64 x.item.seq, .int .i64 x.item.cls, .int .i64 x.item.key, .int .i64 x.item.window, .int .i64 x.item.sk.count, .int .i64 x.item.sk.sum, .int .i64 x.item.sk.min, .int .i64 x.item.sk.max, .slice a1 n1 c1, .slice a2 n2 c2, .slice a3 n3 c3]) x.item G ∧ x.item.sk.wide) := ⟨hr, hw⟩
  have HP : Hid (RdP w b l x.taken F ∧ l ≤ 140737488355328 ∧ x.taken.length = l) := ⟨hp, by rw [← hp.length]; exact hl, hp.length⟩
  have hl' : l ≤ 140737488355328 := HP.out.2.1
  have HB : Hid (Below w.heap.size w (w.alloc (.cells #[.int .i64 x.kind, .int .i64 x.agent, .int .i64 x.epoch, .int .i64 x.granted, .slice b l c, .int .i64 x.item.seq, .int .i64 x.item.cls, .int .i64 x.item.key, .int .i64 x.item.window, .int .i64 x.item.sk.count, .int .i64 x.item.sk.sum, .int .i64 x.item.sk.min, .int .i64 x.item.sk.max, .slice a1 n1 c1, .slice a2 n2 c2, .slice a3 n3 c3] 35)) ∧ Blk (w.alloc (.cells #[.int .i64 x.kind, .int .i64 x.agent, .int .i64 x.epoch, .int .i64 x.granted, .slice b l c, .int .i64 x.item.seq, .int .i64 x.item.cls, .int .i64 x.item.key, .int .i64 x.item.window, .int .i64 x.item.sk.count, .int .i64 x.item.sk.sum, .int .i64 x.item.sk.min, .int .i64 x.item.sk.max, .slice a1 n1 c1, .slice a2 n2 c2, .slice a3 n3 c3] 35)) w.heap.size #[.int .i64 x.kind, .int .i64 x.agent, .int .i64 x.epoch, .int .i64 x.granted, .slice b l c, .int .i64 x.item.seq, .int .i64 x.item.cls, .int .i64 x.item.key, .int .i64 x.item.window, .int .i64 x.item.sk.count, .int .i64 x.item.sk.sum, .int .i64 x.item.sk.min, .int .i64 x.item.sk.max, .slice a1 n1 c1, .slice a2 n2 c2, .slice a3 n3 c3] 35) := ⟨Below.allocW _ (Below.refl _ _) (Nat.le_refl _), Blk.made _ _ _⟩
  clear hr hw hp hl
  go_enter Tryz.func35, Tryz.ntmps35
  go_wp2_with fail
  refine (l1In_any _ _ _ _).mono ?_
  rintro e w2 ⟨rfl, hw2⟩
  have hw2' := hw2.symm
  subst hw2'
  clear hw2
  obtain ⟨d1, hd1⟩ : ∃ d, d = decide (0 ≤ x.kind ∧ x.kind ≤ 3) := ⟨_, rfl⟩
  rw [← hd1]
  have HD1 : Hid (d1 = decide (0 ≤ x.kind ∧ x.kind ≤ 3)) := hd1
  clear hd1
  cases d1
  · have HV : Hid (x.ok = false) := by show _ = _; unfold Fr.ok; rw [← HD1.out]; rfl
    go_wp2
    go_ret
    exact ⟨ret_bool HV.out.symm, HB.out.1⟩
  go_wp2_with fail
  refine (l6Agent_any _ _).mono ?_
  rintro e w2 ⟨rfl, hw2⟩
  have hw2' := hw2.symm
  subst hw2'
  clear hw2
  obtain ⟨d2, hd2⟩ : ∃ d, d = decide (0 ≤ x.agent ∧ x.agent ≤ 2) := ⟨_, rfl⟩
  rw [← hd2]
  have HD2 : Hid (d2 = decide (0 ≤ x.agent ∧ x.agent ≤ 2)) := hd2
  clear hd2
  cases d2
  · have HV : Hid (x.ok = false) := by show _ = _; unfold Fr.ok; rw [← HD1.out, ← HD2.out]; rfl
    go_wp2
    go_ret
    exact ⟨ret_bool HV.out.symm, HB.out.1⟩
  go_wp2_with fail
  refine (l1In_any _ _ _ _).mono ?_
  rintro e w2 ⟨rfl, hw2⟩
  have hw2' := hw2.symm
  subst hw2'
  clear hw2
  obtain ⟨d3, hd3⟩ : ∃ d, d = decide (0 ≤ x.epoch ∧ x.epoch ≤ 1000) := ⟨_, rfl⟩
  rw [← hd3]
  have HD3 : Hid (d3 = decide (0 ≤ x.epoch ∧ x.epoch ≤ 1000)) := hd3
  clear hd3
  cases d3
  · have HV : Hid (x.ok = false) := by show _ = _; unfold Fr.ok; rw [← HD1.out, ← HD2.out, ← HD3.out]; rfl
    go_wp2
    go_ret
    exact ⟨ret_bool HV.out.symm, HB.out.1⟩
  go_wp2_with fail
  refine (l1In_any _ _ _ _).mono ?_
  rintro e w2 ⟨rfl, hw2⟩
  have hw2' := hw2.symm
  subst hw2'
  clear hw2
  obtain ⟨d4, hd4⟩ : ∃ d, d = decide (0 ≤ x.granted ∧ x.granted ≤ 60) := ⟨_, rfl⟩
  rw [← hd4]
  have HD4 : Hid (d4 = decide (0 ≤ x.granted ∧ x.granted ≤ 60)) := hd4
  clear hd4
  cases d4
  · have HV : Hid (x.ok = false) := by show _ = _; unfold Fr.ok; rw [← HD1.out, ← HD2.out, ← HD3.out, ← HD4.out]; rfl
    go_wp2
    go_ret
    exact ⟨ret_bool HV.out.symm, HB.out.1⟩
  have HOK : Hid (x.ok = (x.taken.ok && x.taken.taken && (if x.kind = 1 then x.item.ok else decide (x.item = It.zero)))) := by show _ = _; unfold Fr.ok; rw [← HD1.out, ← HD2.out, ← HD3.out, ← HD4.out]; rfl
  clear HD1 HD2 HD3 HD4
  go_wp2_with fail
  refine (setOkSpec_any b l c x.taken F _ (HP.out.1.below HB.out.1) HP.out.2.1).mono ?_
  rintro e w2 ⟨rfl, hq⟩
  have HB2 : Hid (Below w.heap.size w w2 ∧ Blk w2 w.heap.size #[.int .i64 x.kind, .int .i64 x.agent, .int .i64 x.epoch, .int .i64 x.granted, .slice b l c, .int .i64 x.item.seq, .int .i64 x.item.cls, .int .i64 x.item.key, .int .i64 x.item.window, .int .i64 x.item.sk.count, .int .i64 x.item.sk.sum, .int .i64 x.item.sk.min, .int .i64 x.item.sk.max, .slice a1 n1 c1, .slice a2 n2 c2, .slice a3 n3 c3] 35) := ⟨Below.next HB.out.1 (quiet_below hq), HB.out.2.below (quiet_below hq)⟩
  obtain ⟨d5, hd5⟩ : ∃ d, d = x.taken.ok := ⟨_, rfl⟩
  rw [← hd5]
  have HD5 : Hid (d5 = x.taken.ok) := hd5
  clear hd5 hq HB
  cases d5
  · have HV : Hid (x.ok = false) := by show _ = _; rw [HOK.out, ← HD5.out]; rfl
    go_wp2
    go_ret
    exact ⟨ret_bool HV.out.symm, HB2.out.1⟩
  have c0 := HB2.out.2.cell 0
  have c4 := HB2.out.2.cell 4
  have f0 := HB2.out.2.frozen 0
  have f4 := HB2.out.2.frozen 4
  simp only [aT, aZ, List.getElem?_cons_succ] at c0 c4
  go_wp2
  go_loopw [3] (fun i wr => ∃ (k : Nat), k ≤ l ∧ i = .int .i64 k ∧ wr = w2 ∧ Hid (∀ j, j < k → 1 ≤ (x.taken.at j).1 ∧ (x.taken.at j).2 ≤ 60)) (fun i _ => l - (intOf i).toNat)
  case atStart => exact ⟨0, by omega, rfl, rfl, fun j hj => by omega⟩
  case round =>
    obtain ⟨k, hk, rfl, hwr, HN⟩ := hrel
    have hwr' := hwr.symm
    subst hwr'
    clear hwr
    by_cases hlt : k < l
    · rcases (HP.out.1.below HB2.out.1).cells with ⟨h0, _, _⟩ | ⟨b0, off, hp0, hb0, _, hc⟩
      · omega
      have hb0' := hb0.symm
      subst hb0'
      clear hb0
      obtain ⟨p, hp⟩ : ∃ p, p = (x.taken.at k).1 := ⟨_, rfl⟩
      obtain ⟨q, hq⟩ : ∃ p, p = (x.taken.at k).2 := ⟨_, rfl⟩
      have e := hc k hlt
      have HX : Hid (p = (x.taken.at k).1 ∧ q = (x.taken.at k).2) := ⟨hp, hq⟩
      have d1 : w2.cell? ⟨b0, off + k * 2, none⟩ = some (.int .i64 p) := by rw [hp]; exact e.1
      have d2 : w2.cell? ⟨b0, off + k * 2 + 1, none⟩ = some (.int .i64 q) := by rw [hq]; exact e.2
      have hI : (k : Int) < (l : Int) := by omega
      clear e hp hq hc hp0
      by_cases h1 : p < 1
      · have HV : Hid (x.ok = false) := by show _ = _; rw [HOK.out, Sp.taken_not (by rw [HP.out.2.2]; exact hlt) (fun e => absurd e.1 (by rw [← HX.out.1]; omega))]; simp
        go_wp2
        go_ret
        exact ⟨ret_bool HV.out.symm, HB2.out.1⟩
      by_cases h2 : 60 < q
      · have HV : Hid (x.ok = false) := by show _ = _; rw [HOK.out, Sp.taken_not (by rw [HP.out.2.2]; exact hlt) (fun e => absurd e.2 (by rw [← HX.out.2]; omega))]; simp
        go_wp2
        go_ret
        exact ⟨ret_bool HV.out.symm, HB2.out.1⟩
      have HN2 : Hid (∀ j, j < k + 1 → 1 ≤ (x.taken.at j).1 ∧ (x.taken.at j).2 ≤ 60) := all_up HN.out ⟨by rw [← HX.out.1]; omega, by rw [← HX.out.2]; omega⟩
      go_wp2
      go_roundw
      case rel => exact ⟨k + 1, by omega, by go_num, trivial, HN2⟩
      case measure => simp [intOf]; omega
    · have HOK2 : Hid (x.ok = (if x.kind = 1 then x.item.ok else decide (x.item = It.zero))) := by
        show _ = _
        rw [HOK.out, ← HD5.out, Sp.taken_all (fun j hj => HN.out j (by have := HP.out.2.2; omega))]
        rfl
      by_cases h1 : x.kind = 1
      · have e1 : (x.kind == 1) = true := by simpa using h1
        have HV : Hid (x.ok = x.item.ok) := by show _ = _; rw [HOK2.out, if_pos h1]
        clear h1
        go_wp2_with (first | go_skip | (with_reducible refine stopLoad 33 rfl ?_))
        refine load_cut 33 w.heap.size 5 11 _ #[.int .i64 x.item.seq, .int .i64 x.item.cls, .int .i64 x.item.key, .int .i64 x.item.window, .int .i64 x.item.sk.count, .int .i64 x.item.sk.sum, .int .i64 x.item.sk.min, .int .i64 x.item.sk.max, .slice a1 n1 c1, .slice a2 n2 c2, .slice a3 n3 c3] 35 _ HB2.out.2 rfl rfl rfl Tryz.underlying33 rfl infoItA (by simp) rfl ?_
        go_wp2_with fail
        refine (itemOkSpec_any _ x.item G _ (HR.out.1.below HB2.out.1) HR.out.2).mono ?_
        rintro e w3 ⟨rfl, hb3⟩
        have HB3 : Hid (Below w.heap.size w w3) := Below.next HB2.out.1 hb3
        clear hb3
        obtain ⟨d, hd⟩ : ∃ d, d = x.item.ok := ⟨_, rfl⟩
        rw [← hd] at HV ⊢
        clear hd
        go_wp2
        go_ret
        exact ⟨ret_bool HV.out.symm, HB3.out⟩
      · have e1 : (x.kind == 1) = false := by simpa using h1
        have HV : Hid (x.ok = decide (x.item = It.zero)) := by show _ = _; rw [HOK2.out, if_neg h1]
        clear h1
        go_wp2_with (first | go_skip | (with_reducible refine stopLoad 33 rfl ?_))
        refine load_cut 33 w.heap.size 5 11 _ #[.int .i64 x.item.seq, .int .i64 x.item.cls, .int .i64 x.item.key, .int .i64 x.item.window, .int .i64 x.item.sk.count, .int .i64 x.item.sk.sum, .int .i64 x.item.sk.min, .int .i64 x.item.sk.max, .slice a1 n1 c1, .slice a2 n2 c2, .slice a3 n3 c3] 35 _ HB2.out.2 rfl rfl rfl Tryz.underlying33 rfl infoItA (by simp) rfl ?_
        go_wp2_with fail
        refine (l7Zero_any _ x.item G _ (HR.out.1.below HB2.out.1)).mono ?_
        rintro e w3 ⟨rfl, hb3⟩
        have HB3 : Hid (Below w.heap.size w w3) := Below.next HB2.out.1 hb3
        clear hb3
        obtain ⟨d, hd⟩ : ∃ d, d = decide (x.item = It.zero) := ⟨_, rfl⟩
        rw [← hd] at HV ⊢
        clear hd
        go_wp2
        go_ret
        exact ⟨ret_bool HV.out.symm, HB3.out⟩
end Go.Proofs.YtgkbhhlkaifnoaaGreatDoor
/- The walks through the model's l8Below and AgentOk. No statement of the seat is proved here. -/
namespace Go.Proofs.YtgkbhhlkaifnoaaGreatDoor
open Go.RowKit
/-- Each item is right, and bears the number of its place. -/
def itsOk (xs : List It) : Bool := (List.range xs.length).all fun k => (xs.getD k It.zero).ok && decide ((xs.getD k It.zero).seq = (k : Int) + 1)
theorem getD_at {xs : List It} {k : Nat} {y : It} (h : xs[k]? = some y) : xs.getD k It.zero = y := by rw [List.getD_eq_getElem?_getD, h]; rfl
theorem itsOk_not {xs : List It} {k : Nat} {y : It} (hy : xs[k]? = some y) (h : y.ok = false ∨ ¬ y.seq = (k : Int) + 1) : itsOk xs = false := by
  have hk : k < xs.length := (List.getElem?_eq_some_iff.1 hy).1
  rw [Bool.eq_false_iff]
  intro e
  unfold itsOk at e
  rw [List.all_eq_true] at e
  have := e k (List.mem_range.mpr hk)
  rw [getD_at hy, Bool.and_eq_true] at this
  rcases h with h | h
  · rw [h] at this; cases this.1
  · exact h (of_decide_eq_true this.2)
theorem itsOk_all {xs : List It} (h : ∀ (k : Nat) (y : It), xs[k]? = some y → y.ok = true ∧ y.seq = (k : Int) + 1) : itsOk xs = true := by
  unfold itsOk
  rw [List.all_eq_true]
  intro k hk
  have hk' : k < xs.length := List.mem_range.mp hk
  have q := h k _ (List.getElem?_eq_getElem hk')
  rw [getD_at (List.getElem?_eq_getElem hk'), q.1, decide_eq_true q.2]
  rfl
theorem itsOk_at {xs : List It} (h : itsOk xs = true) {k : Nat} {y : It} (hy : xs[k]? = some y) : y.ok = true ∧ y.seq = (k : Int) + 1 := by
  refine ⟨?_, ?_⟩
  · by_cases q : y.ok = true
    · exact q
    · rw [itsOk_not hy (.inl (by simpa using q))] at h; cases h
  · by_cases q : y.seq = (k : Int) + 1
    · exact q
    · rw [itsOk_not hy (.inr q)] at h; cases h
/-- An agent that is right. -/
def Ag.ok (x : Ag) : Bool := decide (0 ≤ x.id ∧ x.id ≤ 2) && decide (0 ≤ x.epoch ∧ x.epoch ≤ 1000) && decide (0 ≤ x.granted ∧ x.granted ≤ 60) && decide (x.sealed.length ≤ 60) && decide (0 ≤ x.next ∧ x.next ≤ 60) && (x.taken.ok && x.taken.under x.sealed.length) && (x.live || decide (x.granted ≤ 0)) && itsOk x.sealed
theorem RdIt.first {w : World} {cs : Array Value} {y : It} {F : List Nat} (h : RdIt w (.agg cs) y F) : cs[0]? = some (.int .i64 y.seq) := by
  obtain ⟨a1, n1, c1, a2, n2, c2, a3, n3, c3, e⟩ := h.cells11
  injection e with e
  rw [e]
  rfl
set_option maxRecDepth 200000 in
set_option maxHeartbeats 4000000 in
theorem l8Below_any (a : Option Addr) (len cap : Nat) (m : Int) (ps : Sp) (F : List Nat) (w : World) (h : RdP w a len ps F) (hlen : len ≤ 140737488355328) :
    Calls Tryz.prog 36 #[.slice a len cap, .int .i64 m] w fun e w' => e = .returned (.bool (ps.ok && ps.under m)) ∧ Below w.heap.size w w' := by
  have HP : Hid (RdP w a len ps F) := h
  clear h
  go_enter Tryz.func36, Tryz.ntmps36
  go_wp2_with fail
  refine (setOkSpec_any a len cap ps F _ HP.out hlen).mono ?_
  rintro e w2 ⟨rfl, hq⟩
  have HB2 : Hid (Below w.heap.size w w2) := quiet_below hq
  obtain ⟨d5, hd5⟩ : ∃ d, d = ps.ok := ⟨_, rfl⟩
  rw [← hd5]
  have HD5 : Hid (d5 = ps.ok) := hd5
  clear hd5 hq
  cases d5
  · have HV : Hid ((ps.ok && ps.under m) = false) := by show _ = _; rw [← HD5.out]; rfl
    go_wp2
    go_ret
    exact ⟨ret_bool HV.out.symm, HB2.out⟩
  go_wp2
  go_loopw [5] (fun i wr => ∃ (k : Nat), k ≤ len ∧ i = .int .i64 k ∧ wr = w2 ∧ Hid (∀ j, j < k → 1 ≤ (ps.at j).1 ∧ (ps.at j).2 ≤ m)) (fun i _ => len - (intOf i).toNat)
  case atStart => exact ⟨0, by omega, rfl, rfl, fun j hj => by omega⟩
  case round =>
    obtain ⟨k, hk, rfl, hwr, HN⟩ := hrel
    have hwr' := hwr.symm
    subst hwr'
    clear hwr
    by_cases hlt : k < len
    · rcases (HP.out.below HB2.out).cells with ⟨h0, _, _⟩ | ⟨b0, off, hp0, hb0, _, hc⟩
      · omega
      have hb0' := hb0.symm
      subst hb0'
      clear hb0
      obtain ⟨p, hp⟩ : ∃ p, p = (ps.at k).1 := ⟨_, rfl⟩
      obtain ⟨q, hq⟩ : ∃ p, p = (ps.at k).2 := ⟨_, rfl⟩
      have e := hc k hlt
      have HX : Hid (p = (ps.at k).1 ∧ q = (ps.at k).2 ∧ k < ps.length) := ⟨hp, hq, by rw [HP.out.length]; exact hlt⟩
      have d1 : w2.cell? ⟨b0, off + k * 2, none⟩ = some (.int .i64 p) := by rw [hp]; exact e.1
      have d2 : w2.cell? ⟨b0, off + k * 2 + 1, none⟩ = some (.int .i64 q) := by rw [hq]; exact e.2
      have hI : (k : Int) < (len : Int) := by omega
      clear e hp hq hc hp0
      by_cases h1 : p < 1
      · have HV : Hid (ps.under m = false) := Sp.under_not HX.out.2.2 (fun e => absurd e.1 (by rw [← HX.out.1]; omega))
        go_wp2
        go_ret
        exact ⟨ret_bool (by rw [HV.out]; simp), HB2.out⟩
      by_cases h2 : m < q
      · have HV : Hid (ps.under m = false) := Sp.under_not HX.out.2.2 (fun e => absurd e.2 (by rw [← HX.out.2.1]; omega))
        go_wp2
        go_ret
        exact ⟨ret_bool (by rw [HV.out]; simp), HB2.out⟩
      have HN2 : Hid (∀ j, j < k + 1 → 1 ≤ (ps.at j).1 ∧ (ps.at j).2 ≤ m) := all_up HN.out ⟨by rw [← HX.out.1]; omega, by rw [← HX.out.2.1]; omega⟩
      go_wp2
      go_roundw
      case rel => exact ⟨k + 1, by omega, by go_num, trivial, HN2⟩
      case measure => simp [intOf]; omega
    · have HV : Hid (ps.under m = true) := Sp.under_all (fun j hj => HN.out j (by have := HP.out.length; omega))
      go_wp2
      go_ret
      exact ⟨ret_bool (by rw [HV.out, ← HD5.out]; rfl), HB2.out⟩
theorem infoItG : (Tryz.prog.info? 33).map (·.size) = some 11 := by kernel_rfl
set_option maxRecDepth 200000 in
set_option maxHeartbeats 8000000 in
theorem agentOkSpec_any (v : Value) (x : Ag) (F G : List Nat) (w : World) (h : RdAg w v x F G) (hw : ∀ y ∈ x.sealed, y.sk.wide) (hs : x.sealed.length ≤ 140737488355328) (hl : x.taken.length ≤ 140737488355328) :
    Calls Tryz.prog 34 #[v] w fun e w' => e = .returned (.bool x.ok) ∧ Below w.heap.size w w' := by
  obtain ⟨a1, n1, c1, a2, n2, c2, rfl, hL, hP, _, _⟩ := h
  obtain ⟨lx, hlx⟩ : ∃ b, b = x.live := ⟨_, rfl⟩
  rw [← hlx]
  have HLX : Hid (lx = x.live) := hlx
  have HL : Hid (RdL itK w a1 n1 x.sealed F ∧ (∀ y ∈ x.sealed, y.sk.wide) ∧ x.sealed.length = n1) := ⟨hL, hw, hL.length⟩
  have HP : Hid (RdP w a2 n2 x.taken G ∧ n2 ≤ 140737488355328) := ⟨hP, by rw [← hP.length]; exact hl⟩
  have hn1 : n1 ≤ 140737488355328 := by rw [← hL.length]; exact hs
  have HB : Hid (Below w.heap.size w (w.alloc (.cells #[.int .i64 x.id, .int .i64 x.epoch, .bool lx, .int .i64 x.granted, .slice a1 n1 c1, .slice a2 n2 c2, .int .i64 x.next] 27)) ∧ Blk (w.alloc (.cells #[.int .i64 x.id, .int .i64 x.epoch, .bool lx, .int .i64 x.granted, .slice a1 n1 c1, .slice a2 n2 c2, .int .i64 x.next] 27)) w.heap.size #[.int .i64 x.id, .int .i64 x.epoch, .bool lx, .int .i64 x.granted, .slice a1 n1 c1, .slice a2 n2 c2, .int .i64 x.next] 27) := ⟨Below.allocW _ (Below.refl _ _) (Nat.le_refl _), Blk.made _ _ _⟩
  have HOK0 : Hid (x.ok = (decide (0 ≤ x.id ∧ x.id ≤ 2) && decide (0 ≤ x.epoch ∧ x.epoch ≤ 1000) && decide (0 ≤ x.granted ∧ x.granted ≤ 60) && decide (n1 ≤ 60) && decide (0 ≤ x.next ∧ x.next ≤ 60) && (x.taken.ok && x.taken.under n1) && (lx || decide (x.granted ≤ 0)) && itsOk x.sealed)) := by
    show _ = _
    unfold Ag.ok
    rw [hL.length, hlx]
  clear hL hP hw hs hl hlx
  go_enter Tryz.func34, Tryz.ntmps34
  go_wp2_with fail
  refine (l6Agent_any _ _).mono ?_
  rintro e w2 ⟨rfl, hw2⟩
  have hw2' := hw2.symm
  subst hw2'
  clear hw2
  obtain ⟨d1, hd1⟩ : ∃ d, d = decide (0 ≤ x.id ∧ x.id ≤ 2) := ⟨_, rfl⟩
  rw [← hd1]
  have HD1 : Hid (d1 = decide (0 ≤ x.id ∧ x.id ≤ 2)) := hd1
  clear hd1
  cases d1
  · have HV : Hid (x.ok = false) := by show _ = _; rw [HOK0.out, ← HD1.out]; simp
    go_wp2
    go_ret
    exact ⟨ret_bool HV.out.symm, HB.out.1⟩
  go_wp2_with fail
  refine (l1In_any _ _ _ _).mono ?_
  rintro e w2 ⟨rfl, hw2⟩
  have hw2' := hw2.symm
  subst hw2'
  clear hw2
  obtain ⟨d2, hd2⟩ : ∃ d, d = decide (0 ≤ x.epoch ∧ x.epoch ≤ 1000) := ⟨_, rfl⟩
  rw [← hd2]
  have HD2 : Hid (d2 = decide (0 ≤ x.epoch ∧ x.epoch ≤ 1000)) := hd2
  clear hd2
  cases d2
  · have HV : Hid (x.ok = false) := by show _ = _; rw [HOK0.out, ← HD1.out, ← HD2.out]; simp
    go_wp2
    go_ret
    exact ⟨ret_bool HV.out.symm, HB.out.1⟩
  go_wp2_with fail
  refine (l1In_any _ _ _ _).mono ?_
  rintro e w2 ⟨rfl, hw2⟩
  have hw2' := hw2.symm
  subst hw2'
  clear hw2
  obtain ⟨d3, hd3⟩ : ∃ d, d = decide (0 ≤ x.granted ∧ x.granted ≤ 60) := ⟨_, rfl⟩
  rw [← hd3]
  have HD3 : Hid (d3 = decide (0 ≤ x.granted ∧ x.granted ≤ 60)) := hd3
  clear hd3
  cases d3
  · have HV : Hid (x.ok = false) := by show _ = _; rw [HOK0.out, ← HD1.out, ← HD2.out, ← HD3.out]; simp
    go_wp2
    go_ret
    exact ⟨ret_bool HV.out.symm, HB.out.1⟩
  by_cases h60 : 60 < n1
  · have hd : decide ((60 : Int) < (n1 : Int)) = true := dec_true (by omega)
    have HV : Hid (x.ok = false) := by show _ = _; rw [HOK0.out, decide_eq_false (by omega : ¬ n1 ≤ 60)]; simp
    go_wp2
    go_ret
    exact ⟨ret_bool HV.out.symm, HB.out.1⟩
  have hd60 : decide ((60 : Int) < (n1 : Int)) = false := dec_false (by omega)
  go_wp2_with fail
  refine (l1In_any _ _ _ _).mono ?_
  rintro e w2 ⟨rfl, hw2⟩
  have hw2' := hw2.symm
  subst hw2'
  clear hw2
  obtain ⟨d4, hd4⟩ : ∃ d, d = decide (0 ≤ x.next ∧ x.next ≤ 60) := ⟨_, rfl⟩
  rw [← hd4]
  have HD4 : Hid (d4 = decide (0 ≤ x.next ∧ x.next ≤ 60)) := hd4
  clear hd4
  cases d4
  · have HV : Hid (x.ok = false) := by show _ = _; rw [HOK0.out, ← HD1.out, ← HD2.out, ← HD3.out, ← HD4.out]; simp
    go_wp2
    go_ret
    exact ⟨ret_bool HV.out.symm, HB.out.1⟩
  have HOK : Hid (x.ok = ((x.taken.ok && x.taken.under n1) && (lx || decide (x.granted ≤ 0)) && itsOk x.sealed)) := by
    show _ = _
    rw [HOK0.out, ← HD1.out, ← HD2.out, ← HD3.out, ← HD4.out, decide_eq_true (by omega : n1 ≤ 60)]
    rfl
  clear HOK0 HD1 HD2 HD3 HD4
  go_wp2_with fail
  refine (l8Below_any a2 n2 c2 n1 x.taken G _ (HP.out.1.below HB.out.1) HP.out.2).mono ?_
  rintro e w3 ⟨rfl, hb3⟩
  have HB3 : Hid (Below w.heap.size w w3 ∧ Blk w3 w.heap.size #[.int .i64 x.id, .int .i64 x.epoch, .bool lx, .int .i64 x.granted, .slice a1 n1 c1, .slice a2 n2 c2, .int .i64 x.next] 27) := ⟨Below.next HB.out.1 hb3, HB.out.2.below hb3⟩
  obtain ⟨d5, hd5⟩ : ∃ d, d = (x.taken.ok && x.taken.under n1) := ⟨_, rfl⟩
  rw [← hd5]
  have HD5 : Hid (d5 = (x.taken.ok && x.taken.under n1)) := hd5
  clear hd5 hb3 HB
  have c2' := HB3.out.2.cell 2
  have c3' := HB3.out.2.cell 3
  have c4' := HB3.out.2.cell 4
  simp only [aT, aZ, List.getElem?_cons_succ] at c2' c3' c4'
  cases d5
  · have HV : Hid (x.ok = false) := by show _ = _; rw [HOK.out, ← HD5.out]; rfl
    go_wp2
    go_ret
    exact ⟨ret_bool HV.out.symm, HB3.out.1⟩
  have HLIVE : Hid ((lx || decide (x.granted ≤ 0)) = true → x.ok = itsOk x.sealed) := fun e => by rw [HOK.out, ← HD5.out, e]; rfl
  have HDEAD : Hid ((lx || decide (x.granted ≤ 0)) = false → x.ok = false) := fun e => by rw [HOK.out, ← HD5.out, e]; rfl
  clear HOK HD5
  cases lx
  · by_cases hg : 0 < x.granted
    · have hgd : decide (0 < x.granted) = true := dec_true hg
      have HV : Hid (x.ok = false) := HDEAD.out (by rw [decide_eq_false (by omega : ¬ x.granted ≤ 0)]; rfl)
      go_wp2
      go_ret
      exact ⟨ret_bool HV.out.symm, HB3.out.1⟩
    have hgd : decide (0 < x.granted) = false := dec_false hg
    have HOKF : Hid (x.ok = itsOk x.sealed) := HLIVE.out (by rw [decide_eq_true (by omega : x.granted ≤ 0)]; rfl)
    go_wp2_with fail
    go_loopw [3] (fun i wr => ∃ (k : Nat), k ≤ n1 ∧ i = .int .i64 k ∧ Hid (Below w.heap.size w wr ∧ Blk wr w.heap.size #[.int .i64 x.id, .int .i64 x.epoch, .bool false, .int .i64 x.granted, .slice a1 n1 c1, .slice a2 n2 c2, .int .i64 x.next] 27 ∧ ∀ j y, j < k → x.sealed[j]? = some y → y.ok = true ∧ y.seq = (j : Int) + 1)) (fun i _ => n1 - (intOf i).toNat)
    case atStart => exact ⟨0, by omega, rfl, HB3.out.1, HB3.out.2, fun j y hj => by omega⟩
    case round =>
      obtain ⟨k, hk, rfl, HR⟩ := hrel
      have c4' := HR.out.2.1.cell 4
      simp only [aT, aZ, List.getElem?_cons_succ] at c4'
      by_cases hlt : k < n1
      · have hI : (k : Int) < (n1 : Int) := by omega
        obtain ⟨b, off, ha, hbF, cs, Fi, hcs, hcc, hr, _⟩ := HL.out.1.get k hlt
        have ha' := ha.symm
        subst ha'
        have hbw : b < w.heap.size := HL.out.1.lt b hbF
        obtain ⟨y, hy⟩ : ∃ y, x.sealed[k]? = some y := ⟨_, List.getElem?_eq_getElem (by rw [HL.out.2.2]; exact hlt)⟩
        have HY : Hid (x.sealed[k]? = some y ∧ y.sk.wide ∧ cs.size = 11 ∧ RdIt w (.agg cs) y Fi) := ⟨hy, HL.out.2.1 y (List.mem_of_getElem? hy), hcs, hr y hy⟩
        have HCW : Hid (∀ W, Below w.heap.size w W → (∀ j, j < 11 → W.cell? ⟨b, off + k * 11 + j, none⟩ = cs[j]?) ∧ RdIt W (.agg cs) y Fi) := fun W hB => ⟨fun j hj => by
          have q := hcc j hj
          have q2 : W.cell? ⟨b, off + k * 11 + j, none⟩ = w.cell? ⟨b, off + k * 11 + j, none⟩ := hB.cell (p := ⟨b, off + k * 11 + j, none⟩) hbw
          exact q2.trans q, HY.out.2.2.2.below hB⟩
        clear ha hbF hcs hcc hr hy
        go_wp2_with (first | go_skip | (with_reducible refine stopLoad 33 rfl ?_))
        refine load_at 33 b (off + k * 11) 11 cs _ (HCW.out _ HR.out.1).1 HY.out.2.2.1 rfl rfl rfl Tryz.underlying33 rfl infoItG ?_
        go_wp2_with fail
        refine (itemOkSpec_any _ y Fi _ (HCW.out _ HR.out.1).2 HY.out.2.1).mono ?_
        rintro e w4 ⟨rfl, hb4⟩
        have HR4 : Hid (Below w.heap.size w w4 ∧ Blk w4 w.heap.size #[.int .i64 x.id, .int .i64 x.epoch, .bool false, .int .i64 x.granted, .slice (some ⟨b, off, none⟩) n1 c1, .slice a2 n2 c2, .int .i64 x.next] 27) := ⟨Below.next HR.out.1 hb4, HR.out.2.1.below hb4⟩
        obtain ⟨d, hd⟩ : ∃ d, d = y.ok := ⟨_, rfl⟩
        rw [← hd]
        have HD : Hid (d = y.ok) := hd
        clear hd hb4 c4'
        cases d
        · have HV : Hid (x.ok = false) := by show _ = _; rw [HOKF.out]; exact itsOk_not HY.out.1 (.inl HD.out.symm)
          go_wp2
          go_ret
          exact ⟨ret_bool HV.out.symm, HR4.out.1⟩
        have c4' := HR4.out.2.cell 4
        simp only [aT, aZ, List.getElem?_cons_succ] at c4'
        have cq : w4.cell? ⟨b, off + k * 11, none⟩ = some (.int .i64 y.seq) := by
          have := (HCW.out _ HR4.out.1).1 0 (by omega)
          rw [Nat.add_zero] at this
          rw [this]
          exact RdIt.first HY.out.2.2.2
        by_cases hq : y.seq = (k : Int) + 1
        · have hqb : (y.seq != (k : Int) + 1) = false := by simpa using hq
          have HN2 : Hid (∀ j z, j < k + 1 → x.sealed[j]? = some z → z.ok = true ∧ z.seq = (j : Int) + 1) := fun j z hj hz => by
            by_cases e : j = k
            · subst e
              rw [HY.out.1] at hz
              cases hz
              exact ⟨HD.out.symm, hq⟩
            · exact HR.out.2.2 j z (by omega) hz
          clear hq HR
          go_wp2
          go_roundw
          case rel => exact ⟨k + 1, by omega, by go_num, HR4.out.1, HR4.out.2, HN2.out⟩
          case measure => simp [intOf]; omega
        · have hqb : (y.seq != (k : Int) + 1) = true := by simpa using hq
          have HV : Hid (x.ok = false) := by show _ = _; rw [HOKF.out]; exact itsOk_not HY.out.1 (.inr hq)
          clear hq
          go_wp2
          go_ret
          exact ⟨ret_bool HV.out.symm, HR4.out.1⟩
      · have HV : Hid (x.ok = true) := by
          show _ = _
          rw [HOKF.out]
          exact itsOk_all (fun j z hz => HR.out.2.2 j z (by have := (List.getElem?_eq_some_iff.1 hz).1; have := HL.out.2.2; omega) hz)
        go_wp2
        go_ret
        exact ⟨ret_bool HV.out.symm, HR.out.1⟩
  have HOKF : Hid (x.ok = itsOk x.sealed) := HLIVE.out (by rfl)
  go_wp2_with fail
  go_loopw [3] (fun i wr => ∃ (k : Nat), k ≤ n1 ∧ i = .int .i64 k ∧ Hid (Below w.heap.size w wr ∧ Blk wr w.heap.size #[.int .i64 x.id, .int .i64 x.epoch, .bool true, .int .i64 x.granted, .slice a1 n1 c1, .slice a2 n2 c2, .int .i64 x.next] 27 ∧ ∀ j y, j < k → x.sealed[j]? = some y → y.ok = true ∧ y.seq = (j : Int) + 1)) (fun i _ => n1 - (intOf i).toNat)
  case atStart => exact ⟨0, by omega, rfl, HB3.out.1, HB3.out.2, fun j y hj => by omega⟩
  case round =>
    obtain ⟨k, hk, rfl, HR⟩ := hrel
    have c4' := HR.out.2.1.cell 4
    simp only [aT, aZ, List.getElem?_cons_succ] at c4'
    by_cases hlt : k < n1
    · have hI : (k : Int) < (n1 : Int) := by omega
      obtain ⟨b, off, ha, hbF, cs, Fi, hcs, hcc, hr, _⟩ := HL.out.1.get k hlt
      have ha' := ha.symm
      subst ha'
      have hbw : b < w.heap.size := HL.out.1.lt b hbF
      obtain ⟨y, hy⟩ : ∃ y, x.sealed[k]? = some y := ⟨_, List.getElem?_eq_getElem (by rw [HL.out.2.2]; exact hlt)⟩
      have HY : Hid (x.sealed[k]? = some y ∧ y.sk.wide ∧ cs.size = 11 ∧ RdIt w (.agg cs) y Fi) := ⟨hy, HL.out.2.1 y (List.mem_of_getElem? hy), hcs, hr y hy⟩
      have HCW : Hid (∀ W, Below w.heap.size w W → (∀ j, j < 11 → W.cell? ⟨b, off + k * 11 + j, none⟩ = cs[j]?) ∧ RdIt W (.agg cs) y Fi) := fun W hB => ⟨fun j hj => by
        have q := hcc j hj
        have q2 : W.cell? ⟨b, off + k * 11 + j, none⟩ = w.cell? ⟨b, off + k * 11 + j, none⟩ := hB.cell (p := ⟨b, off + k * 11 + j, none⟩) hbw
        exact q2.trans q, HY.out.2.2.2.below hB⟩
      clear ha hbF hcs hcc hr hy
      go_wp2_with (first | go_skip | (with_reducible refine stopLoad 33 rfl ?_))
      refine load_at 33 b (off + k * 11) 11 cs _ (HCW.out _ HR.out.1).1 HY.out.2.2.1 rfl rfl rfl Tryz.underlying33 rfl infoItG ?_
      go_wp2_with fail
      refine (itemOkSpec_any _ y Fi _ (HCW.out _ HR.out.1).2 HY.out.2.1).mono ?_
      rintro e w4 ⟨rfl, hb4⟩
      have HR4 : Hid (Below w.heap.size w w4 ∧ Blk w4 w.heap.size #[.int .i64 x.id, .int .i64 x.epoch, .bool true, .int .i64 x.granted, .slice (some ⟨b, off, none⟩) n1 c1, .slice a2 n2 c2, .int .i64 x.next] 27) := ⟨Below.next HR.out.1 hb4, HR.out.2.1.below hb4⟩
      obtain ⟨d, hd⟩ : ∃ d, d = y.ok := ⟨_, rfl⟩
      rw [← hd]
      have HD : Hid (d = y.ok) := hd
      clear hd hb4 c4'
      cases d
      · have HV : Hid (x.ok = false) := by show _ = _; rw [HOKF.out]; exact itsOk_not HY.out.1 (.inl HD.out.symm)
        go_wp2
        go_ret
        exact ⟨ret_bool HV.out.symm, HR4.out.1⟩
      have c4' := HR4.out.2.cell 4
      simp only [aT, aZ, List.getElem?_cons_succ] at c4'
      have cq : w4.cell? ⟨b, off + k * 11, none⟩ = some (.int .i64 y.seq) := by
        have := (HCW.out _ HR4.out.1).1 0 (by omega)
        rw [Nat.add_zero] at this
        rw [this]
        exact RdIt.first HY.out.2.2.2
      by_cases hq : y.seq = (k : Int) + 1
      · have hqb : (y.seq != (k : Int) + 1) = false := by simpa using hq
        have HN2 : Hid (∀ j z, j < k + 1 → x.sealed[j]? = some z → z.ok = true ∧ z.seq = (j : Int) + 1) := fun j z hj hz => by
          by_cases e : j = k
          · subst e
            rw [HY.out.1] at hz
            cases hz
            exact ⟨HD.out.symm, hq⟩
          · exact HR.out.2.2 j z (by omega) hz
        clear hq HR
        go_wp2
        go_roundw
        case rel => exact ⟨k + 1, by omega, by go_num, HR4.out.1, HR4.out.2, HN2.out⟩
        case measure => simp [intOf]; omega
      · have hqb : (y.seq != (k : Int) + 1) = true := by simpa using hq
        have HV : Hid (x.ok = false) := by show _ = _; rw [HOKF.out]; exact itsOk_not HY.out.1 (.inr hq)
        clear hq
        go_wp2
        go_ret
        exact ⟨ret_bool HV.out.symm, HR4.out.1⟩
    · have HV : Hid (x.ok = true) := by
        show _ = _
        rw [HOKF.out]
        exact itsOk_all (fun j z hz => HR.out.2.2 j z (by have := (List.getElem?_eq_some_iff.1 hz).1; have := HL.out.2.2; omega) hz)
      go_wp2
      go_ret
      exact ⟨ret_bool HV.out.symm, HR.out.1⟩
end Go.Proofs.YtgkbhhlkaifnoaaGreatDoor
/- Seats: what the model and the program share; the model's SeatOk and l9Copy. No statement of the seat is proved here. -/
namespace Go.Proofs.YtgkbhhlkaifnoaaGreatDoor
open Go.RowKit
/-- A seat that is right, for a share. -/
def Se.ok (x : Se) (per : Int) : Bool := decide (1 ≤ per ∧ per ≤ 8) && decide (0 ≤ x.epoch ∧ x.epoch ≤ 1000) && decide (0 ≤ x.granted ∧ x.granted ≤ 60) && (x.taken.ok && x.taken.under x.granted) && decide (0 ≤ x.merged ∧ x.merged ≤ x.taken.size) && decide (x.granted ≤ x.merged + per) && decide (0 ≤ x.last ∧ x.last ≤ 1000000)
theorem Sp.size_range (ps : Sp) : 0 ≤ ps.size ∧ ps.size ≤ 10000 * ps.length := by
  unfold Sp.size
  by_cases h : ps.ok = true
  · rw [if_pos h]
    have := Sp.sum_range h ps.length (Nat.le_refl _)
    rw [List.take_length] at this
    exact this
  · rw [if_neg h]
    omega
theorem wrapSe {n : Int} (h : -9223372036854775808 ≤ n ∧ n ≤ 9223372036854775807) : IntKind.i64.wrap n = n := by
  unfold IntKind.wrap
  simp [IntKind.bits, IntKind.signed]
  omega
structure Se.Right (x : Se) (p : Int) : Prop where
  per : 1 ≤ p ∧ p ≤ 8
  epoch : 0 ≤ x.epoch ∧ x.epoch ≤ 1000
  granted : 0 ≤ x.granted ∧ x.granted ≤ 60
  taken : x.taken.ok = true
  under : x.taken.under x.granted = true
  merged : 0 ≤ x.merged ∧ x.merged ≤ x.taken.size
  share : x.granted ≤ x.merged + p
  last : 0 ≤ x.last ∧ x.last ≤ 1000000
theorem Se.right {x : Se} {per : Int} (h : x.ok per = true) : x.Right per := by
  unfold Se.ok at h
  simp only [Bool.and_eq_true, decide_eq_true_eq] at h
  exact ⟨h.1.1.1.1.1.1, h.1.1.1.1.1.2, h.1.1.1.1.2, h.1.1.1.2.1, h.1.1.1.2.2, h.1.1.2, h.1.2, h.2⟩
theorem Se.Right.ok {x : Se} {per : Int} (h : x.Right per) : x.ok per = true := by
  unfold Se.ok
  simp only [Bool.and_eq_true, decide_eq_true_eq]
  exact ⟨⟨⟨⟨⟨⟨h.per, h.epoch⟩, h.granted⟩, h.taken, h.under⟩, h.merged⟩, h.share⟩, h.last⟩
section
variable {P : Program} {ops : Array Oper} {Q : Exit → Act → World → Prop} {a : Act} {w : World} {o : Oper} {K : Act → World → Prop}
theorem op_callS2 (f : FuncId) (x y : Operand) (ts : Array TypeId) (fn : Func) (R : Value → World → Prop) (hw : Region.wanted o (yielded ops a.tmps) = true) (ho : o.op = Op.call { callee := Callee.value (Operand.func f), args := #[x, y], argTypes := ts })
    (hfn : P.funcs[f]? = some fn) (hnm : (fn.name == "runtime.NumGoroutine") = false) (hbd : fn.body.isNone = false) (hc : Calls P f #[a.eval x, a.eval y] w fun e w' => ∃ v, e = .returned v ∧ R v w') (h : ∀ v w', R v w' → ∃ a', a.put o.dst v = a' ∧ K a' w') : if Region.wanted o (yielded ops a.tmps) = true then Oper.wp P o a w K Q else K (a.put o.dst undef) w := by
  rw [if_pos hw]
  have hnm' : ¬ fn.name = "runtime.NumGoroutine" := by simpa using hnm
  have hbd' : ¬ fn.body = none := by intro e; rw [e] at hbd; cases hbd
  unfold Oper.wp
  simp only [execOp, ho, resolve, invoke, Oper.upon, go_sem]
  simp [callFunc, hfn, hnm', hbd', go_sem]
  simp [Act.eval, go_sem] at hc
  refine Calls.mono hc ?_
  rintro e w' ⟨v, rfl, hr⟩
  obtain ⟨a', ha', hk⟩ := h v w' hr
  rw [← ha'] at hk
  exact hk
theorem op_callS3 (f : FuncId) (x y z : Operand) (ts : Array TypeId) (fn : Func) (R : Value → World → Prop) (hw : Region.wanted o (yielded ops a.tmps) = true) (ho : o.op = Op.call { callee := Callee.value (Operand.func f), args := #[x, y, z], argTypes := ts })
    (hfn : P.funcs[f]? = some fn) (hnm : (fn.name == "runtime.NumGoroutine") = false) (hbd : fn.body.isNone = false) (hc : Calls P f #[a.eval x, a.eval y, a.eval z] w fun e w' => ∃ v, e = .returned v ∧ R v w') (h : ∀ v w', R v w' → ∃ a', a.put o.dst v = a' ∧ K a' w') : if Region.wanted o (yielded ops a.tmps) = true then Oper.wp P o a w K Q else K (a.put o.dst undef) w := by
  rw [if_pos hw]
  have hnm' : ¬ fn.name = "runtime.NumGoroutine" := by simpa using hnm
  have hbd' : ¬ fn.body = none := by intro e; rw [e] at hbd; cases hbd
  unfold Oper.wp
  simp only [execOp, ho, resolve, invoke, Oper.upon, go_sem]
  simp [callFunc, hfn, hnm', hbd', go_sem]
  simp [Act.eval, go_sem] at hc
  refine Calls.mono hc ?_
  rintro e w' ⟨v, rfl, hr⟩
  obtain ⟨a', ha', hk⟩ := h v w' hr
  rw [← ha'] at hk
  exact hk
end
/-- A seat in a variable at L that will be the answer: the argument's box, the result's place. -/
structure SeW (w : World) (A : Array Value) (L : Nat) (ep gr me la : Int) (ts : Sp) (b : Option Addr) (l c : Nat) (F : List Nat) (W : World) : Prop where
  box : Blk W w.heap.size A 45
  res : Blk W (w.heap.size + 1) #[.int .i64 0, .int .i64 0, .slice none 0 0, .int .i64 0, .int .i64 0] 45
  loc : Blk W L #[.int .i64 ep, .int .i64 gr, .slice b l c, .int .i64 me, .int .i64 la] 45
  rp : RdP W b l ts F
  cp : Capd b l c
  own : Own (w.heap.size + 2) W F
  bel : Below w.heap.size w W
  gt : w.heap.size + 2 ≤ L
  ap : L ∉ F
section
variable {w W W' : World} {A : Array Value} {L : Nat} {ep gr me la : Int} {ts : Sp} {b : Option Addr} {l c : Nat} {F : List Nat}
theorem SeW.below (h : SeW w A L ep gr me la ts b l c F W) (k : Below W.heap.size W W') : SeW w A L ep gr me la ts b l c F W' :=
  ⟨h.box.below k, h.res.below k, h.loc.below k, h.rp.below k, h.cp, h.own.below h.rp.lt k, Below.next h.bel k, h.gt, h.ap⟩
theorem SeW.drew (h : SeW w A L ep gr me la ts b l c F W) : SeW w A L ep gr me la ts b l c F W.drew := h.below (Below.refl _ _).drew
theorem SeW.set (h : SeW w A L ep gr me la ts b l c F W) (j : Nat) (v : Value) {ep' gr' me' la' : Int} (hc : (#[.int .i64 ep, .int .i64 gr, .slice b l c, .int .i64 me, .int .i64 la] : Array Value).setIfInBounds j v = #[.int .i64 ep', .int .i64 gr', .slice b l c, .int .i64 me', .int .i64 la']) : SeW w A L ep' gr' me' la' ts b l c F (W.setCell ⟨L, j, none⟩ v) := by
  have gt := h.gt
  have hl := h.loc.set j v
  rw [hc] at hl
  have ag : Agree W (W.setCell ⟨L, j, none⟩ v) F := .set h.ap j v
  exact ⟨h.box.setOther (by omega) j v, h.res.setOther (by omega) j v, hl, h.rp.agree ag, h.cp, h.own.agree ag, h.bel.setCell (by show w.heap.size ≤ L; omega) v, h.gt, h.ap⟩
theorem SeW.put (h : SeW w A L ep gr me la ts b l c F W) {b' : Option Addr} {l' c' : Nat} {us : Sp} {G : List Nat} (r : RdP W b' l' us G) (k : Capd b' l' c') (o : Own (w.heap.size + 2) W G) (nL : L ∉ G) : SeW w A L ep gr me la us b' l' c' G (W.setCell ⟨L, 2, none⟩ (.slice b' l' c')) := by
  have gt := h.gt
  have ag : Agree W (W.setCell ⟨L, 2, none⟩ (.slice b' l' c')) G := .set nL 2 _
  exact ⟨h.box.setOther (by omega) 2 _, h.res.setOther (by omega) 2 _, h.loc.set 2 _, r.agree ag, k, o.agree ag, h.bel.setCell (by show w.heap.size ≤ L; omega) _, h.gt, nL⟩
theorem SeW.rd (h : SeW w A L ep gr me la ts b l c F W) : RdSe W (.agg #[.int .i64 ep, .int .i64 gr, .slice b l c, .int .i64 me, .int .i64 la]) ⟨ep, gr, ts, me, la⟩ F := ⟨b, l, c, rfl, h.rp, h.cp⟩
theorem SeW.done (h : SeW w A L ep gr me la ts b l c F W) : RdSe (W.setRow (w.heap.size + 1) #[.int .i64 ep, .int .i64 gr, .slice b l c, .int .i64 me, .int .i64 la]) (.agg #[.int .i64 ep, .int .i64 gr, .slice b l c, .int .i64 me, .int .i64 la]) ⟨ep, gr, ts, me, la⟩ F ∧ Own w.heap.size (W.setRow (w.heap.size + 1) #[.int .i64 ep, .int .i64 gr, .slice b l c, .int .i64 me, .int .i64 la]) F ∧ Below w.heap.size w (W.setRow (w.heap.size + 1) #[.int .i64 ep, .int .i64 gr, .slice b l c, .int .i64 me, .int .i64 la]) := by
  have nr : w.heap.size + 1 ∉ F := fun hx => by have := h.own.ge _ hx; omega
  exact ⟨h.rd.agree (Agree.row nr _), (h.own.agree (Agree.row nr _)).mono (by omega), below_setRow h.bel (by omega) _⟩
theorem SeW.made {W1 W2 : World} {cs : Array Value} {x : Se} (T : Two w A #[.int .i64 0, .int .i64 0, .slice none 0 0, .int .i64 0, .int .i64 0] 45 W) (r : RdSe W1 (.agg cs) x F) (o : Own W.heap.size W1 F) (k : Below W.heap.size W W1) (g : Blk W2 W1.heap.size cs 45) (k2 : Below W1.heap.size W1 W2) : ∃ b l c, cs = #[.int .i64 x.epoch, .int .i64 x.granted, .slice b l c, .int .i64 x.merged, .int .i64 x.last] ∧ SeW w A W1.heap.size x.epoch x.granted x.merged x.last x.taken b l c F W2 := by
  obtain ⟨b, l, c, e, hp, hc⟩ := r
  injection e with e
  subst e
  have hs := T.snd.lt
  have hk := k.size
  exact ⟨b, l, c, rfl, (T.fst.below k).below k2, (T.snd.below k).below k2, g, hp.below k2, hc, (o.below hp.lt k2).mono (by omega), Below.next (Below.next T.bel k) k2, by omega, fun hx => by have := hp.lt _ hx; omega⟩
end
theorem Sp.boxed {w : World} {A : Array Value} {t : TypeId} : Blk (w.alloc (.cells A t)) w.heap.size A t ∧ Below w.heap.size w (w.alloc (.cells A t)) := ⟨Blk.made _ _ _, (Below.refl _ _).alloc (Nat.le_refl _) _⟩
set_option maxRecDepth 200000 in
set_option maxHeartbeats 4000000 in
theorem seOkSpec_any (v : Value) (x : Se) (per : Int) (F : List Nat) (w : World) (h : RdSe w v x F) (hl : x.taken.length ≤ 2097152) :
    Calls Tryz.prog 20 #[v, .int .i64 per] w fun e w' => e = .returned (.bool (x.ok per)) ∧ Below w.heap.size w w' := by
  obtain ⟨b, l, c, rfl, hP, _⟩ := h
  have HP : Hid (RdP w b l x.taken F ∧ l ≤ 2097152) := ⟨hP, by rw [← hP.length]; exact hl⟩
  have HSZ : Hid (0 ≤ x.taken.size ∧ x.taken.size ≤ 20971520000) := by have := Sp.size_range x.taken; exact ⟨this.1, by omega⟩
  have HB : Hid (Blk (w.alloc (.cells #[.int .i64 x.epoch, .int .i64 x.granted, .slice b l c, .int .i64 x.merged, .int .i64 x.last] 45)) w.heap.size #[.int .i64 x.epoch, .int .i64 x.granted, .slice b l c, .int .i64 x.merged, .int .i64 x.last] 45 ∧ Below w.heap.size w (w.alloc (.cells #[.int .i64 x.epoch, .int .i64 x.granted, .slice b l c, .int .i64 x.merged, .int .i64 x.last] 45))) := Sp.boxed
  clear hP hl
  go_enter Tryz.func20, Tryz.ntmps20
  go_wp2_with fail
  obtain ⟨W0, hW0⟩ : ∃ W, W = (w.alloc (.cells #[.int .i64 x.epoch, .int .i64 x.granted, .slice b l c, .int .i64 x.merged, .int .i64 x.last] 45)).drew := ⟨_, rfl⟩
  have HS : Hid (Blk W0 w.heap.size #[.int .i64 x.epoch, .int .i64 x.granted, .slice b l c, .int .i64 x.merged, .int .i64 x.last] 45 ∧ Below w.heap.size w W0) := by rw [hW0]; exact ⟨HB.out.1.below (Below.refl _ _).drew, Below.next HB.out.2 (Below.refl _ _).drew⟩
  clear HB
  refine wp_region_held (S := fun W => Blk W w.heap.size #[.int .i64 x.epoch, .int .i64 x.granted, .slice b l c, .int .i64 x.merged, .int .i64 x.last] 45) (by kernel_rfl) ?_
  change wpAnyH _ _ _ _ _ _ _ _ (World.drew _)
  rw [← hW0]
  clear hW0
  refine takeH (o := ?o1) 0 (.int .i64 per) ?h1 ?r1
  case h1 => simp only [aT, aZ]; rfl
  refine ⟨_, by simp [Act.put]; rfl, by kernel_rfl, by kernel_rfl, by kernel_rfl, fun _ _ _ h => h, (.inl ⟨rfl, fun W _ => by kernel_rfl⟩), HS.out.1, ?_⟩
  refine onlyH (o := ?o2) 1 (by kernel_rfl) ?h2 ?r2
  case h2 => simp only [aT, aS, aZ]; rfl
  intro K hK
  obtain ⟨d1, hd1⟩ : ∃ d, d = decide (1 ≤ per ∧ per ≤ 8) := ⟨_, rfl⟩
  have HD1 : Hid (d1 = decide (1 ≤ per ∧ per ≤ 8)) := hd1
  refine op_callS3 53 _ _ _ _ Tryz.f53 (fun v w' => v = .bool d1 ∧ w' = W0) rfl rfl Tryz.func53 (by kernel_rfl) (by kernel_rfl) ((l1In_any per 1 8 W0).mono (by rintro e w' ⟨rfl, rfl⟩; exact ⟨_, rfl, by rw [hd1], rfl⟩)) ?_
  rintro v W1 ⟨rfl, hq⟩
  have hq' := hq.symm
  subst hq'
  clear hq hd1
  refine ⟨_, by simp [Act.put]; rfl, hK _ _ ⟨HS.out.1, ?_⟩⟩
  clear hK
  cases d1
  · refine takeH (o := ?o3) 2 (.bool false) ?h3 ?r3
    case h3 => simp only [aT, aS, aZ]; rfl
    refine ⟨_, by simp [Act.put]; rfl, by kernel_rfl, by kernel_rfl, by kernel_rfl, fun _ _ _ h => h, (.inl ⟨rfl, fun W _ => by kernel_rfl⟩), HS.out.1, ?_⟩
    refine takeH (o := ?o4) 3 (undef) ?h4 ?r4
    case h4 => simp only [aT, aS, aZ]; rfl
    refine ⟨_, by simp [Act.put]; rfl, by kernel_rfl, by kernel_rfl, by kernel_rfl, fun _ _ _ h => h, (.inr ⟨rfl, rfl⟩), HS.out.1, ?_⟩
    refine takeH (o := ?o5) 4 (undef) ?h5 ?r5
    case h5 => simp only [aT, aS, aZ]; rfl
    refine ⟨_, by simp [Act.put]; rfl, by kernel_rfl, by kernel_rfl, by kernel_rfl, fun _ _ _ h => h, (.inr ⟨rfl, rfl⟩), HS.out.1, ?_⟩
    refine takeH (o := ?o6) 5 (undef) ?h6 ?r6
    case h6 => simp only [aT, aS, aZ]; rfl
    refine ⟨_, by simp [Act.put]; rfl, by kernel_rfl, by kernel_rfl, by kernel_rfl, fun _ _ _ h => h, (.inr ⟨rfl, rfl⟩), HS.out.1, ?_⟩
    refine takeH (o := ?o7) 6 (.bool false) ?h7 ?r7
    case h7 => simp only [aT, aS, aZ]; rfl
    refine ⟨_, by simp [Act.put]; rfl, by kernel_rfl, by kernel_rfl, by kernel_rfl, fun _ _ _ h => h, (.inl ⟨rfl, fun W _ => by kernel_rfl⟩), HS.out.1, ?_⟩
    refine takeH (o := ?o8) 7 (.bool false) ?h8 ?r8
    case h8 => simp only [aT, aS, aZ]; rfl
    refine ⟨_, by simp [Act.put]; rfl, by kernel_rfl, by kernel_rfl, by kernel_rfl, fun _ _ _ h => h, (.inl ⟨rfl, fun W _ => by kernel_rfl⟩), HS.out.1, ?_⟩
    refine takeH (o := ?o9) 8 (undef) ?h9 ?r9
    case h9 => simp only [aT, aS, aZ]; rfl
    refine ⟨_, by simp [Act.put]; rfl, by kernel_rfl, by kernel_rfl, by kernel_rfl, fun _ _ _ h => h, (.inr ⟨rfl, rfl⟩), HS.out.1, ?_⟩
    refine takeH (o := ?o10) 9 (undef) ?h10 ?r10
    case h10 => simp only [aT, aS, aZ]; rfl
    refine ⟨_, by simp [Act.put]; rfl, by kernel_rfl, by kernel_rfl, by kernel_rfl, fun _ _ _ h => h, (.inr ⟨rfl, rfl⟩), HS.out.1, ?_⟩
    refine takeH (o := ?o11) 10 (undef) ?h11 ?r11
    case h11 => simp only [aT, aS, aZ]; rfl
    refine ⟨_, by simp [Act.put]; rfl, by kernel_rfl, by kernel_rfl, by kernel_rfl, fun _ _ _ h => h, (.inr ⟨rfl, rfl⟩), HS.out.1, ?_⟩
    refine takeH (o := ?o12) 11 (.bool false) ?h12 ?r12
    case h12 => simp only [aT, aS, aZ]; rfl
    refine ⟨_, by simp [Act.put]; rfl, by kernel_rfl, by kernel_rfl, by kernel_rfl, fun _ _ _ h => h, (.inl ⟨rfl, fun W _ => by kernel_rfl⟩), HS.out.1, ?_⟩
    refine takeH (o := ?o13) 12 (.bool false) ?h13 ?r13
    case h13 => simp only [aT, aS, aZ]; rfl
    refine ⟨_, by simp [Act.put]; rfl, by kernel_rfl, by kernel_rfl, by kernel_rfl, fun _ _ _ h => h, (.inl ⟨rfl, fun W _ => by kernel_rfl⟩), HS.out.1, ?_⟩
    refine takeH (o := ?o14) 13 (undef) ?h14 ?r14
    case h14 => simp only [aT, aS, aZ]; rfl
    refine ⟨_, by simp [Act.put]; rfl, by kernel_rfl, by kernel_rfl, by kernel_rfl, fun _ _ _ h => h, (.inr ⟨rfl, rfl⟩), HS.out.1, ?_⟩
    refine takeH (o := ?o15) 14 (undef) ?h15 ?r15
    case h15 => simp only [aT, aS, aZ]; rfl
    refine ⟨_, by simp [Act.put]; rfl, by kernel_rfl, by kernel_rfl, by kernel_rfl, fun _ _ _ h => h, (.inr ⟨rfl, rfl⟩), HS.out.1, ?_⟩
    refine takeH (o := ?o16) 15 (undef) ?h16 ?r16
    case h16 => simp only [aT, aS, aZ]; rfl
    refine ⟨_, by simp [Act.put]; rfl, by kernel_rfl, by kernel_rfl, by kernel_rfl, fun _ _ _ h => h, (.inr ⟨rfl, rfl⟩), HS.out.1, ?_⟩
    refine takeH (o := ?o17) 16 (undef) ?h17 ?r17
    case h17 => simp only [aT, aS, aZ]; rfl
    refine ⟨_, by simp [Act.put]; rfl, by kernel_rfl, by kernel_rfl, by kernel_rfl, fun _ _ _ h => h, (.inr ⟨rfl, rfl⟩), HS.out.1, ?_⟩
    refine takeH (o := ?o18) 17 (undef) ?h18 ?r18
    case h18 => simp only [aT, aS, aZ]; rfl
    refine ⟨_, by simp [Act.put]; rfl, by kernel_rfl, by kernel_rfl, by kernel_rfl, fun _ _ _ h => h, (.inr ⟨rfl, rfl⟩), HS.out.1, ?_⟩
    refine takeH (o := ?o19) 18 (.bool false) ?h19 ?r19
    case h19 => simp only [aT, aS, aZ]; rfl
    refine ⟨_, by simp [Act.put]; rfl, by kernel_rfl, by kernel_rfl, by kernel_rfl, fun _ _ _ h => h, (.inl ⟨rfl, fun W _ => by kernel_rfl⟩), HS.out.1, ?_⟩
    refine takeH (o := ?o20) 19 (.bool false) ?h20 ?r20
    case h20 => simp only [aT, aS, aZ]; rfl
    refine ⟨_, by simp [Act.put]; rfl, by kernel_rfl, by kernel_rfl, by kernel_rfl, fun _ _ _ h => h, (.inl ⟨rfl, fun W _ => by kernel_rfl⟩), HS.out.1, ?_⟩
    refine takeH (o := ?o21) 20 (undef) ?h21 ?r21
    case h21 => simp only [aT, aS, aZ]; rfl
    refine ⟨_, by simp [Act.put]; rfl, by kernel_rfl, by kernel_rfl, by kernel_rfl, fun _ _ _ h => h, (.inr ⟨rfl, rfl⟩), HS.out.1, ?_⟩
    refine takeH (o := ?o22) 21 (undef) ?h22 ?r22
    case h22 => simp only [aT, aS, aZ]; rfl
    refine ⟨_, by simp [Act.put]; rfl, by kernel_rfl, by kernel_rfl, by kernel_rfl, fun _ _ _ h => h, (.inr ⟨rfl, rfl⟩), HS.out.1, ?_⟩
    refine takeH (o := ?o23) 22 (undef) ?h23 ?r23
    case h23 => simp only [aT, aS, aZ]; rfl
    refine ⟨_, by simp [Act.put]; rfl, by kernel_rfl, by kernel_rfl, by kernel_rfl, fun _ _ _ h => h, (.inr ⟨rfl, rfl⟩), HS.out.1, ?_⟩
    refine takeH (o := ?o24) 23 (undef) ?h24 ?r24
    case h24 => simp only [aT, aS, aZ]; rfl
    refine ⟨_, by simp [Act.put]; rfl, by kernel_rfl, by kernel_rfl, by kernel_rfl, fun _ _ _ h => h, (.inr ⟨rfl, rfl⟩), HS.out.1, ?_⟩
    refine takeH (o := ?o25) 24 (undef) ?h25 ?r25
    case h25 => simp only [aT, aS, aZ]; rfl
    refine ⟨_, by simp [Act.put]; rfl, by kernel_rfl, by kernel_rfl, by kernel_rfl, fun _ _ _ h => h, (.inr ⟨rfl, rfl⟩), HS.out.1, ?_⟩
    refine takeH (o := ?o26) 25 (undef) ?h26 ?r26
    case h26 => simp only [aT, aS, aZ]; rfl
    refine ⟨_, by simp [Act.put]; rfl, by kernel_rfl, by kernel_rfl, by kernel_rfl, fun _ _ _ h => h, (.inr ⟨rfl, rfl⟩), HS.out.1, ?_⟩
    refine takeH (o := ?o27) 26 (.bool false) ?h27 ?r27
    case h27 => simp only [aT, aS, aZ]; rfl
    refine ⟨_, by simp [Act.put]; rfl, by kernel_rfl, by kernel_rfl, by kernel_rfl, fun _ _ _ h => h, (.inl ⟨rfl, fun W _ => by kernel_rfl⟩), HS.out.1, ?_⟩
    refine takeH (o := ?o28) 27 (.bool false) ?h28 ?r28
    case h28 => simp only [aT, aS, aZ]; rfl
    refine ⟨_, by simp [Act.put]; rfl, by kernel_rfl, by kernel_rfl, by kernel_rfl, fun _ _ _ h => h, (.inl ⟨rfl, fun W _ => by kernel_rfl⟩), HS.out.1, ?_⟩
    refine takeH (o := ?o29) 28 (undef) ?h29 ?r29
    case h29 => simp only [aT, aS, aZ]; rfl
    refine ⟨_, by simp [Act.put]; rfl, by kernel_rfl, by kernel_rfl, by kernel_rfl, fun _ _ _ h => h, (.inr ⟨rfl, rfl⟩), HS.out.1, ?_⟩
    refine takeH (o := ?o30) 29 (undef) ?h30 ?r30
    case h30 => simp only [aT, aS, aZ]; rfl
    refine ⟨_, by simp [Act.put]; rfl, by kernel_rfl, by kernel_rfl, by kernel_rfl, fun _ _ _ h => h, (.inr ⟨rfl, rfl⟩), HS.out.1, ?_⟩
    refine takeH (o := ?o31) 30 (undef) ?h31 ?r31
    case h31 => simp only [aT, aS, aZ]; rfl
    refine ⟨_, by simp [Act.put]; rfl, by kernel_rfl, by kernel_rfl, by kernel_rfl, fun _ _ _ h => h, (.inr ⟨rfl, rfl⟩), HS.out.1, ?_⟩
    refine takeH (o := ?o32) 31 (undef) ?h32 ?r32
    case h32 => simp only [aT, aS, aZ]; rfl
    refine ⟨_, by simp [Act.put]; rfl, by kernel_rfl, by kernel_rfl, by kernel_rfl, fun _ _ _ h => h, (.inr ⟨rfl, rfl⟩), HS.out.1, ?_⟩
    refine takeH (o := ?o33) 32 (undef) ?h33 ?r33
    case h33 => simp only [aT, aS, aZ]; rfl
    refine ⟨_, by simp [Act.put]; rfl, by kernel_rfl, by kernel_rfl, by kernel_rfl, fun _ _ _ h => h, (.inr ⟨rfl, rfl⟩), HS.out.1, ?_⟩
    refine takeH (o := ?o34) 33 (undef) ?h34 ?r34
    case h34 => simp only [aT, aS, aZ]; rfl
    refine ⟨_, by simp [Act.put]; rfl, by kernel_rfl, by kernel_rfl, by kernel_rfl, fun _ _ _ h => h, (.inr ⟨rfl, rfl⟩), HS.out.1, ?_⟩
    refine takeH (o := ?o35) 34 (undef) ?h35 ?r35
    case h35 => simp only [aT, aS, aZ]; rfl
    refine ⟨_, by simp [Act.put]; rfl, by kernel_rfl, by kernel_rfl, by kernel_rfl, fun _ _ _ h => h, (.inr ⟨rfl, rfl⟩), HS.out.1, ?_⟩
    refine takeH (o := ?o36) 35 (.bool false) ?h36 ?r36
    case h36 => simp only [aT, aS, aZ]; rfl
    refine ⟨_, by simp [Act.put]; rfl, by kernel_rfl, by kernel_rfl, by kernel_rfl, fun _ _ _ h => h, (.inl ⟨rfl, fun W _ => by kernel_rfl⟩), HS.out.1, ?_⟩
    refine takeH (o := ?o37) 36 (.bool false) ?h37 ?r37
    case h37 => simp only [aT, aS, aZ]; rfl
    refine ⟨_, by simp [Act.put]; rfl, by kernel_rfl, by kernel_rfl, by kernel_rfl, fun _ _ _ h => h, (.inl ⟨rfl, fun W _ => by kernel_rfl⟩), HS.out.1, ?_⟩
    refine takeH (o := ?o38) 37 (undef) ?h38 ?r38
    case h38 => simp only [aT, aS, aZ]; rfl
    refine ⟨_, by simp [Act.put]; rfl, by kernel_rfl, by kernel_rfl, by kernel_rfl, fun _ _ _ h => h, (.inr ⟨rfl, rfl⟩), HS.out.1, ?_⟩
    refine takeH (o := ?o39) 38 (undef) ?h39 ?r39
    case h39 => simp only [aT, aS, aZ]; rfl
    refine ⟨_, by simp [Act.put]; rfl, by kernel_rfl, by kernel_rfl, by kernel_rfl, fun _ _ _ h => h, (.inr ⟨rfl, rfl⟩), HS.out.1, ?_⟩
    refine takeH (o := ?o40) 39 (undef) ?h40 ?r40
    case h40 => simp only [aT, aS, aZ]; rfl
    refine ⟨_, by simp [Act.put]; rfl, by kernel_rfl, by kernel_rfl, by kernel_rfl, fun _ _ _ h => h, (.inr ⟨rfl, rfl⟩), HS.out.1, ?_⟩
    refine takeH (o := ?o41) 40 (.bool false) ?h41 ?r41
    case h41 => simp only [aT, aS, aZ]; rfl
    refine ⟨_, by simp [Act.put]; rfl, by kernel_rfl, by kernel_rfl, by kernel_rfl, fun _ _ _ h => h, (.inl ⟨rfl, fun W _ => by kernel_rfl⟩), HS.out.1, ?_⟩
    refine takeH (o := ?o42) 41 (.bool false) ?h42 ?r42
    case h42 => simp only [aT, aS, aZ]; rfl
    refine ⟨_, by simp [Act.put]; rfl, by kernel_rfl, by kernel_rfl, by kernel_rfl, fun _ _ _ h => h, (.inl ⟨rfl, fun W _ => by kernel_rfl⟩), HS.out.1, ?_⟩
    refine wpAnyH_done (by kernel_rfl) ?_ _
    have HV : Hid (x.ok per = false) := by show _ = _; unfold Se.ok; rw [← HD1.out]; simp
    go_wp2
    go_ret
    exact ⟨ret_bool HV.out.symm, HS.out.2⟩
  refine takeH (o := ?o43) 2 (.bool true) ?h43 ?r43
  case h43 => simp only [aT, aS, aZ]; rfl
  refine ⟨_, by simp [Act.put]; rfl, by kernel_rfl, by kernel_rfl, by kernel_rfl, fun _ _ _ h => h, (.inl ⟨rfl, fun W _ => by kernel_rfl⟩), HS.out.1, ?_⟩
  refine takeH (o := ?o44) 3 (.pointer (some ⟨w.heap.size, 0, none⟩)) ?h44 ?r44
  case h44 => simp only [aT, aS, aZ]; rfl
  refine ⟨_, by simp [Act.put]; rfl, by kernel_rfl, by kernel_rfl, by kernel_rfl, fun _ _ _ h => h, (.inl ⟨rfl, fun W _ => by kernel_rfl⟩), HS.out.1, ?_⟩
  refine takeH (o := ?o45) 4 (.int .i64 x.epoch) ?h45 ?r45
  case h45 => simp only [aT, aS, aZ]; rfl
  refine ⟨_, by simp [Act.put]; rfl, by kernel_rfl, by kernel_rfl, by kernel_rfl, fun _ _ _ h => h, (.inl ⟨rfl, fun W hW => by have c := hW.cell 0; simp only [aT, aZ] at c; go_simp⟩), HS.out.1, ?_⟩
  refine onlyH (o := ?o46) 5 (by kernel_rfl) ?h46 ?r46
  case h46 => simp only [aT, aS, aZ]; rfl
  intro K hK
  obtain ⟨d2, hd2⟩ : ∃ d, d = decide (0 ≤ x.epoch ∧ x.epoch ≤ 1000) := ⟨_, rfl⟩
  have HD2 : Hid (d2 = decide (0 ≤ x.epoch ∧ x.epoch ≤ 1000)) := hd2
  refine op_callS3 53 _ _ _ _ Tryz.f53 (fun v w' => v = .bool d2 ∧ w' = W0) rfl rfl Tryz.func53 (by kernel_rfl) (by kernel_rfl) ((l1In_any x.epoch 0 1000 W0).mono (by rintro e w' ⟨rfl, rfl⟩; exact ⟨_, rfl, by rw [hd2], rfl⟩)) ?_
  rintro v W2 ⟨rfl, hq⟩
  have hq' := hq.symm
  subst hq'
  clear hq hd2
  refine ⟨_, by simp [Act.put]; rfl, hK _ _ ⟨HS.out.1, ?_⟩⟩
  clear hK
  cases d2
  · refine takeH (o := ?o47) 6 (.bool false) ?h47 ?r47
    case h47 => simp only [aT, aS, aZ]; rfl
    refine ⟨_, by simp [Act.put]; rfl, by kernel_rfl, by kernel_rfl, by kernel_rfl, fun _ _ _ h => h, (.inl ⟨rfl, fun W _ => by kernel_rfl⟩), HS.out.1, ?_⟩
    refine takeH (o := ?o48) 7 (.bool false) ?h48 ?r48
    case h48 => simp only [aT, aS, aZ]; rfl
    refine ⟨_, by simp [Act.put]; rfl, by kernel_rfl, by kernel_rfl, by kernel_rfl, fun _ _ _ h => h, (.inl ⟨rfl, fun W _ => by kernel_rfl⟩), HS.out.1, ?_⟩
    refine takeH (o := ?o49) 8 (undef) ?h49 ?r49
    case h49 => simp only [aT, aS, aZ]; rfl
    refine ⟨_, by simp [Act.put]; rfl, by kernel_rfl, by kernel_rfl, by kernel_rfl, fun _ _ _ h => h, (.inr ⟨rfl, rfl⟩), HS.out.1, ?_⟩
    refine takeH (o := ?o50) 9 (undef) ?h50 ?r50
    case h50 => simp only [aT, aS, aZ]; rfl
    refine ⟨_, by simp [Act.put]; rfl, by kernel_rfl, by kernel_rfl, by kernel_rfl, fun _ _ _ h => h, (.inr ⟨rfl, rfl⟩), HS.out.1, ?_⟩
    refine takeH (o := ?o51) 10 (undef) ?h51 ?r51
    case h51 => simp only [aT, aS, aZ]; rfl
    refine ⟨_, by simp [Act.put]; rfl, by kernel_rfl, by kernel_rfl, by kernel_rfl, fun _ _ _ h => h, (.inr ⟨rfl, rfl⟩), HS.out.1, ?_⟩
    refine takeH (o := ?o52) 11 (.bool false) ?h52 ?r52
    case h52 => simp only [aT, aS, aZ]; rfl
    refine ⟨_, by simp [Act.put]; rfl, by kernel_rfl, by kernel_rfl, by kernel_rfl, fun _ _ _ h => h, (.inl ⟨rfl, fun W _ => by kernel_rfl⟩), HS.out.1, ?_⟩
    refine takeH (o := ?o53) 12 (.bool false) ?h53 ?r53
    case h53 => simp only [aT, aS, aZ]; rfl
    refine ⟨_, by simp [Act.put]; rfl, by kernel_rfl, by kernel_rfl, by kernel_rfl, fun _ _ _ h => h, (.inl ⟨rfl, fun W _ => by kernel_rfl⟩), HS.out.1, ?_⟩
    refine takeH (o := ?o54) 13 (undef) ?h54 ?r54
    case h54 => simp only [aT, aS, aZ]; rfl
    refine ⟨_, by simp [Act.put]; rfl, by kernel_rfl, by kernel_rfl, by kernel_rfl, fun _ _ _ h => h, (.inr ⟨rfl, rfl⟩), HS.out.1, ?_⟩
    refine takeH (o := ?o55) 14 (undef) ?h55 ?r55
    case h55 => simp only [aT, aS, aZ]; rfl
    refine ⟨_, by simp [Act.put]; rfl, by kernel_rfl, by kernel_rfl, by kernel_rfl, fun _ _ _ h => h, (.inr ⟨rfl, rfl⟩), HS.out.1, ?_⟩
    refine takeH (o := ?o56) 15 (undef) ?h56 ?r56
    case h56 => simp only [aT, aS, aZ]; rfl
    refine ⟨_, by simp [Act.put]; rfl, by kernel_rfl, by kernel_rfl, by kernel_rfl, fun _ _ _ h => h, (.inr ⟨rfl, rfl⟩), HS.out.1, ?_⟩
    refine takeH (o := ?o57) 16 (undef) ?h57 ?r57
    case h57 => simp only [aT, aS, aZ]; rfl
    refine ⟨_, by simp [Act.put]; rfl, by kernel_rfl, by kernel_rfl, by kernel_rfl, fun _ _ _ h => h, (.inr ⟨rfl, rfl⟩), HS.out.1, ?_⟩
    refine takeH (o := ?o58) 17 (undef) ?h58 ?r58
    case h58 => simp only [aT, aS, aZ]; rfl
    refine ⟨_, by simp [Act.put]; rfl, by kernel_rfl, by kernel_rfl, by kernel_rfl, fun _ _ _ h => h, (.inr ⟨rfl, rfl⟩), HS.out.1, ?_⟩
    refine takeH (o := ?o59) 18 (.bool false) ?h59 ?r59
    case h59 => simp only [aT, aS, aZ]; rfl
    refine ⟨_, by simp [Act.put]; rfl, by kernel_rfl, by kernel_rfl, by kernel_rfl, fun _ _ _ h => h, (.inl ⟨rfl, fun W _ => by kernel_rfl⟩), HS.out.1, ?_⟩
    refine takeH (o := ?o60) 19 (.bool false) ?h60 ?r60
    case h60 => simp only [aT, aS, aZ]; rfl
    refine ⟨_, by simp [Act.put]; rfl, by kernel_rfl, by kernel_rfl, by kernel_rfl, fun _ _ _ h => h, (.inl ⟨rfl, fun W _ => by kernel_rfl⟩), HS.out.1, ?_⟩
    refine takeH (o := ?o61) 20 (undef) ?h61 ?r61
    case h61 => simp only [aT, aS, aZ]; rfl
    refine ⟨_, by simp [Act.put]; rfl, by kernel_rfl, by kernel_rfl, by kernel_rfl, fun _ _ _ h => h, (.inr ⟨rfl, rfl⟩), HS.out.1, ?_⟩
    refine takeH (o := ?o62) 21 (undef) ?h62 ?r62
    case h62 => simp only [aT, aS, aZ]; rfl
    refine ⟨_, by simp [Act.put]; rfl, by kernel_rfl, by kernel_rfl, by kernel_rfl, fun _ _ _ h => h, (.inr ⟨rfl, rfl⟩), HS.out.1, ?_⟩
    refine takeH (o := ?o63) 22 (undef) ?h63 ?r63
    case h63 => simp only [aT, aS, aZ]; rfl
    refine ⟨_, by simp [Act.put]; rfl, by kernel_rfl, by kernel_rfl, by kernel_rfl, fun _ _ _ h => h, (.inr ⟨rfl, rfl⟩), HS.out.1, ?_⟩
    refine takeH (o := ?o64) 23 (undef) ?h64 ?r64
    case h64 => simp only [aT, aS, aZ]; rfl
    refine ⟨_, by simp [Act.put]; rfl, by kernel_rfl, by kernel_rfl, by kernel_rfl, fun _ _ _ h => h, (.inr ⟨rfl, rfl⟩), HS.out.1, ?_⟩
    refine takeH (o := ?o65) 24 (undef) ?h65 ?r65
    case h65 => simp only [aT, aS, aZ]; rfl
    refine ⟨_, by simp [Act.put]; rfl, by kernel_rfl, by kernel_rfl, by kernel_rfl, fun _ _ _ h => h, (.inr ⟨rfl, rfl⟩), HS.out.1, ?_⟩
    refine takeH (o := ?o66) 25 (undef) ?h66 ?r66
    case h66 => simp only [aT, aS, aZ]; rfl
    refine ⟨_, by simp [Act.put]; rfl, by kernel_rfl, by kernel_rfl, by kernel_rfl, fun _ _ _ h => h, (.inr ⟨rfl, rfl⟩), HS.out.1, ?_⟩
    refine takeH (o := ?o67) 26 (.bool false) ?h67 ?r67
    case h67 => simp only [aT, aS, aZ]; rfl
    refine ⟨_, by simp [Act.put]; rfl, by kernel_rfl, by kernel_rfl, by kernel_rfl, fun _ _ _ h => h, (.inl ⟨rfl, fun W _ => by kernel_rfl⟩), HS.out.1, ?_⟩
    refine takeH (o := ?o68) 27 (.bool false) ?h68 ?r68
    case h68 => simp only [aT, aS, aZ]; rfl
    refine ⟨_, by simp [Act.put]; rfl, by kernel_rfl, by kernel_rfl, by kernel_rfl, fun _ _ _ h => h, (.inl ⟨rfl, fun W _ => by kernel_rfl⟩), HS.out.1, ?_⟩
    refine takeH (o := ?o69) 28 (undef) ?h69 ?r69
    case h69 => simp only [aT, aS, aZ]; rfl
    refine ⟨_, by simp [Act.put]; rfl, by kernel_rfl, by kernel_rfl, by kernel_rfl, fun _ _ _ h => h, (.inr ⟨rfl, rfl⟩), HS.out.1, ?_⟩
    refine takeH (o := ?o70) 29 (undef) ?h70 ?r70
    case h70 => simp only [aT, aS, aZ]; rfl
    refine ⟨_, by simp [Act.put]; rfl, by kernel_rfl, by kernel_rfl, by kernel_rfl, fun _ _ _ h => h, (.inr ⟨rfl, rfl⟩), HS.out.1, ?_⟩
    refine takeH (o := ?o71) 30 (undef) ?h71 ?r71
    case h71 => simp only [aT, aS, aZ]; rfl
    refine ⟨_, by simp [Act.put]; rfl, by kernel_rfl, by kernel_rfl, by kernel_rfl, fun _ _ _ h => h, (.inr ⟨rfl, rfl⟩), HS.out.1, ?_⟩
    refine takeH (o := ?o72) 31 (undef) ?h72 ?r72
    case h72 => simp only [aT, aS, aZ]; rfl
    refine ⟨_, by simp [Act.put]; rfl, by kernel_rfl, by kernel_rfl, by kernel_rfl, fun _ _ _ h => h, (.inr ⟨rfl, rfl⟩), HS.out.1, ?_⟩
    refine takeH (o := ?o73) 32 (undef) ?h73 ?r73
    case h73 => simp only [aT, aS, aZ]; rfl
    refine ⟨_, by simp [Act.put]; rfl, by kernel_rfl, by kernel_rfl, by kernel_rfl, fun _ _ _ h => h, (.inr ⟨rfl, rfl⟩), HS.out.1, ?_⟩
    refine takeH (o := ?o74) 33 (undef) ?h74 ?r74
    case h74 => simp only [aT, aS, aZ]; rfl
    refine ⟨_, by simp [Act.put]; rfl, by kernel_rfl, by kernel_rfl, by kernel_rfl, fun _ _ _ h => h, (.inr ⟨rfl, rfl⟩), HS.out.1, ?_⟩
    refine takeH (o := ?o75) 34 (undef) ?h75 ?r75
    case h75 => simp only [aT, aS, aZ]; rfl
    refine ⟨_, by simp [Act.put]; rfl, by kernel_rfl, by kernel_rfl, by kernel_rfl, fun _ _ _ h => h, (.inr ⟨rfl, rfl⟩), HS.out.1, ?_⟩
    refine takeH (o := ?o76) 35 (.bool false) ?h76 ?r76
    case h76 => simp only [aT, aS, aZ]; rfl
    refine ⟨_, by simp [Act.put]; rfl, by kernel_rfl, by kernel_rfl, by kernel_rfl, fun _ _ _ h => h, (.inl ⟨rfl, fun W _ => by kernel_rfl⟩), HS.out.1, ?_⟩
    refine takeH (o := ?o77) 36 (.bool false) ?h77 ?r77
    case h77 => simp only [aT, aS, aZ]; rfl
    refine ⟨_, by simp [Act.put]; rfl, by kernel_rfl, by kernel_rfl, by kernel_rfl, fun _ _ _ h => h, (.inl ⟨rfl, fun W _ => by kernel_rfl⟩), HS.out.1, ?_⟩
    refine takeH (o := ?o78) 37 (undef) ?h78 ?r78
    case h78 => simp only [aT, aS, aZ]; rfl
    refine ⟨_, by simp [Act.put]; rfl, by kernel_rfl, by kernel_rfl, by kernel_rfl, fun _ _ _ h => h, (.inr ⟨rfl, rfl⟩), HS.out.1, ?_⟩
    refine takeH (o := ?o79) 38 (undef) ?h79 ?r79
    case h79 => simp only [aT, aS, aZ]; rfl
    refine ⟨_, by simp [Act.put]; rfl, by kernel_rfl, by kernel_rfl, by kernel_rfl, fun _ _ _ h => h, (.inr ⟨rfl, rfl⟩), HS.out.1, ?_⟩
    refine takeH (o := ?o80) 39 (undef) ?h80 ?r80
    case h80 => simp only [aT, aS, aZ]; rfl
    refine ⟨_, by simp [Act.put]; rfl, by kernel_rfl, by kernel_rfl, by kernel_rfl, fun _ _ _ h => h, (.inr ⟨rfl, rfl⟩), HS.out.1, ?_⟩
    refine takeH (o := ?o81) 40 (.bool false) ?h81 ?r81
    case h81 => simp only [aT, aS, aZ]; rfl
    refine ⟨_, by simp [Act.put]; rfl, by kernel_rfl, by kernel_rfl, by kernel_rfl, fun _ _ _ h => h, (.inl ⟨rfl, fun W _ => by kernel_rfl⟩), HS.out.1, ?_⟩
    refine takeH (o := ?o82) 41 (.bool false) ?h82 ?r82
    case h82 => simp only [aT, aS, aZ]; rfl
    refine ⟨_, by simp [Act.put]; rfl, by kernel_rfl, by kernel_rfl, by kernel_rfl, fun _ _ _ h => h, (.inl ⟨rfl, fun W _ => by kernel_rfl⟩), HS.out.1, ?_⟩
    refine wpAnyH_done (by kernel_rfl) ?_ _
    have HV : Hid (x.ok per = false) := by show _ = _; unfold Se.ok; rw [← HD2.out]; simp
    go_wp2
    go_ret
    exact ⟨ret_bool HV.out.symm, HS.out.2⟩
  refine takeH (o := ?o83) 6 (.bool true) ?h83 ?r83
  case h83 => simp only [aT, aS, aZ]; rfl
  refine ⟨_, by simp [Act.put]; rfl, by kernel_rfl, by kernel_rfl, by kernel_rfl, fun _ _ _ h => h, (.inl ⟨rfl, fun W _ => by kernel_rfl⟩), HS.out.1, ?_⟩
  refine takeH (o := ?o84) 7 (.bool true) ?h84 ?r84
  case h84 => simp only [aT, aS, aZ]; rfl
  refine ⟨_, by simp [Act.put]; rfl, by kernel_rfl, by kernel_rfl, by kernel_rfl, fun _ _ _ h => h, (.inl ⟨rfl, fun W _ => by kernel_rfl⟩), HS.out.1, ?_⟩
  refine takeH (o := ?o85) 8 (.pointer (some ⟨w.heap.size, 1, none⟩)) ?h85 ?r85
  case h85 => simp only [aT, aS, aZ]; rfl
  refine ⟨_, by simp [Act.put]; rfl, by kernel_rfl, by kernel_rfl, by kernel_rfl, fun _ _ _ h => h, (.inl ⟨rfl, fun W _ => by kernel_rfl⟩), HS.out.1, ?_⟩
  refine takeH (o := ?o86) 9 (.int .i64 x.granted) ?h86 ?r86
  case h86 => simp only [aT, aS, aZ]; rfl
  refine ⟨_, by simp [Act.put]; rfl, by kernel_rfl, by kernel_rfl, by kernel_rfl, fun _ _ _ h => h, (.inl ⟨rfl, fun W hW => by have c := hW.cell 1; simp only [aT, aS, aZ] at c; go_simp⟩), HS.out.1, ?_⟩
  refine onlyH (o := ?o87) 10 (by kernel_rfl) ?h87 ?r87
  case h87 => simp only [aT, aS, aZ]; rfl
  intro K hK
  obtain ⟨d3, hd3⟩ : ∃ d, d = decide (0 ≤ x.granted ∧ x.granted ≤ 60) := ⟨_, rfl⟩
  have HD3 : Hid (d3 = decide (0 ≤ x.granted ∧ x.granted ≤ 60)) := hd3
  refine op_callS3 53 _ _ _ _ Tryz.f53 (fun v w' => v = .bool d3 ∧ w' = W0) rfl rfl Tryz.func53 (by kernel_rfl) (by kernel_rfl) ((l1In_any x.granted 0 60 W0).mono (by rintro e w' ⟨rfl, rfl⟩; exact ⟨_, rfl, by rw [hd3], rfl⟩)) ?_
  rintro v W3 ⟨rfl, hq⟩
  have hq' := hq.symm
  subst hq'
  clear hq hd3
  refine ⟨_, by simp [Act.put]; rfl, hK _ _ ⟨HS.out.1, ?_⟩⟩
  clear hK
  cases d3
  · refine takeH (o := ?o88) 11 (.bool false) ?h88 ?r88
    case h88 => simp only [aT, aS, aZ]; rfl
    refine ⟨_, by simp [Act.put]; rfl, by kernel_rfl, by kernel_rfl, by kernel_rfl, fun _ _ _ h => h, (.inl ⟨rfl, fun W _ => by kernel_rfl⟩), HS.out.1, ?_⟩
    refine takeH (o := ?o89) 12 (.bool false) ?h89 ?r89
    case h89 => simp only [aT, aS, aZ]; rfl
    refine ⟨_, by simp [Act.put]; rfl, by kernel_rfl, by kernel_rfl, by kernel_rfl, fun _ _ _ h => h, (.inl ⟨rfl, fun W _ => by kernel_rfl⟩), HS.out.1, ?_⟩
    refine takeH (o := ?o90) 13 (undef) ?h90 ?r90
    case h90 => simp only [aT, aS, aZ]; rfl
    refine ⟨_, by simp [Act.put]; rfl, by kernel_rfl, by kernel_rfl, by kernel_rfl, fun _ _ _ h => h, (.inr ⟨rfl, rfl⟩), HS.out.1, ?_⟩
    refine takeH (o := ?o91) 14 (undef) ?h91 ?r91
    case h91 => simp only [aT, aS, aZ]; rfl
    refine ⟨_, by simp [Act.put]; rfl, by kernel_rfl, by kernel_rfl, by kernel_rfl, fun _ _ _ h => h, (.inr ⟨rfl, rfl⟩), HS.out.1, ?_⟩
    refine takeH (o := ?o92) 15 (undef) ?h92 ?r92
    case h92 => simp only [aT, aS, aZ]; rfl
    refine ⟨_, by simp [Act.put]; rfl, by kernel_rfl, by kernel_rfl, by kernel_rfl, fun _ _ _ h => h, (.inr ⟨rfl, rfl⟩), HS.out.1, ?_⟩
    refine takeH (o := ?o93) 16 (undef) ?h93 ?r93
    case h93 => simp only [aT, aS, aZ]; rfl
    refine ⟨_, by simp [Act.put]; rfl, by kernel_rfl, by kernel_rfl, by kernel_rfl, fun _ _ _ h => h, (.inr ⟨rfl, rfl⟩), HS.out.1, ?_⟩
    refine takeH (o := ?o94) 17 (undef) ?h94 ?r94
    case h94 => simp only [aT, aS, aZ]; rfl
    refine ⟨_, by simp [Act.put]; rfl, by kernel_rfl, by kernel_rfl, by kernel_rfl, fun _ _ _ h => h, (.inr ⟨rfl, rfl⟩), HS.out.1, ?_⟩
    refine takeH (o := ?o95) 18 (.bool false) ?h95 ?r95
    case h95 => simp only [aT, aS, aZ]; rfl
    refine ⟨_, by simp [Act.put]; rfl, by kernel_rfl, by kernel_rfl, by kernel_rfl, fun _ _ _ h => h, (.inl ⟨rfl, fun W _ => by kernel_rfl⟩), HS.out.1, ?_⟩
    refine takeH (o := ?o96) 19 (.bool false) ?h96 ?r96
    case h96 => simp only [aT, aS, aZ]; rfl
    refine ⟨_, by simp [Act.put]; rfl, by kernel_rfl, by kernel_rfl, by kernel_rfl, fun _ _ _ h => h, (.inl ⟨rfl, fun W _ => by kernel_rfl⟩), HS.out.1, ?_⟩
    refine takeH (o := ?o97) 20 (undef) ?h97 ?r97
    case h97 => simp only [aT, aS, aZ]; rfl
    refine ⟨_, by simp [Act.put]; rfl, by kernel_rfl, by kernel_rfl, by kernel_rfl, fun _ _ _ h => h, (.inr ⟨rfl, rfl⟩), HS.out.1, ?_⟩
    refine takeH (o := ?o98) 21 (undef) ?h98 ?r98
    case h98 => simp only [aT, aS, aZ]; rfl
    refine ⟨_, by simp [Act.put]; rfl, by kernel_rfl, by kernel_rfl, by kernel_rfl, fun _ _ _ h => h, (.inr ⟨rfl, rfl⟩), HS.out.1, ?_⟩
    refine takeH (o := ?o99) 22 (undef) ?h99 ?r99
    case h99 => simp only [aT, aS, aZ]; rfl
    refine ⟨_, by simp [Act.put]; rfl, by kernel_rfl, by kernel_rfl, by kernel_rfl, fun _ _ _ h => h, (.inr ⟨rfl, rfl⟩), HS.out.1, ?_⟩
    refine takeH (o := ?o100) 23 (undef) ?h100 ?r100
    case h100 => simp only [aT, aS, aZ]; rfl
    refine ⟨_, by simp [Act.put]; rfl, by kernel_rfl, by kernel_rfl, by kernel_rfl, fun _ _ _ h => h, (.inr ⟨rfl, rfl⟩), HS.out.1, ?_⟩
    refine takeH (o := ?o101) 24 (undef) ?h101 ?r101
    case h101 => simp only [aT, aS, aZ]; rfl
    refine ⟨_, by simp [Act.put]; rfl, by kernel_rfl, by kernel_rfl, by kernel_rfl, fun _ _ _ h => h, (.inr ⟨rfl, rfl⟩), HS.out.1, ?_⟩
    refine takeH (o := ?o102) 25 (undef) ?h102 ?r102
    case h102 => simp only [aT, aS, aZ]; rfl
    refine ⟨_, by simp [Act.put]; rfl, by kernel_rfl, by kernel_rfl, by kernel_rfl, fun _ _ _ h => h, (.inr ⟨rfl, rfl⟩), HS.out.1, ?_⟩
    refine takeH (o := ?o103) 26 (.bool false) ?h103 ?r103
    case h103 => simp only [aT, aS, aZ]; rfl
    refine ⟨_, by simp [Act.put]; rfl, by kernel_rfl, by kernel_rfl, by kernel_rfl, fun _ _ _ h => h, (.inl ⟨rfl, fun W _ => by kernel_rfl⟩), HS.out.1, ?_⟩
    refine takeH (o := ?o104) 27 (.bool false) ?h104 ?r104
    case h104 => simp only [aT, aS, aZ]; rfl
    refine ⟨_, by simp [Act.put]; rfl, by kernel_rfl, by kernel_rfl, by kernel_rfl, fun _ _ _ h => h, (.inl ⟨rfl, fun W _ => by kernel_rfl⟩), HS.out.1, ?_⟩
    refine takeH (o := ?o105) 28 (undef) ?h105 ?r105
    case h105 => simp only [aT, aS, aZ]; rfl
    refine ⟨_, by simp [Act.put]; rfl, by kernel_rfl, by kernel_rfl, by kernel_rfl, fun _ _ _ h => h, (.inr ⟨rfl, rfl⟩), HS.out.1, ?_⟩
    refine takeH (o := ?o106) 29 (undef) ?h106 ?r106
    case h106 => simp only [aT, aS, aZ]; rfl
    refine ⟨_, by simp [Act.put]; rfl, by kernel_rfl, by kernel_rfl, by kernel_rfl, fun _ _ _ h => h, (.inr ⟨rfl, rfl⟩), HS.out.1, ?_⟩
    refine takeH (o := ?o107) 30 (undef) ?h107 ?r107
    case h107 => simp only [aT, aS, aZ]; rfl
    refine ⟨_, by simp [Act.put]; rfl, by kernel_rfl, by kernel_rfl, by kernel_rfl, fun _ _ _ h => h, (.inr ⟨rfl, rfl⟩), HS.out.1, ?_⟩
    refine takeH (o := ?o108) 31 (undef) ?h108 ?r108
    case h108 => simp only [aT, aS, aZ]; rfl
    refine ⟨_, by simp [Act.put]; rfl, by kernel_rfl, by kernel_rfl, by kernel_rfl, fun _ _ _ h => h, (.inr ⟨rfl, rfl⟩), HS.out.1, ?_⟩
    refine takeH (o := ?o109) 32 (undef) ?h109 ?r109
    case h109 => simp only [aT, aS, aZ]; rfl
    refine ⟨_, by simp [Act.put]; rfl, by kernel_rfl, by kernel_rfl, by kernel_rfl, fun _ _ _ h => h, (.inr ⟨rfl, rfl⟩), HS.out.1, ?_⟩
    refine takeH (o := ?o110) 33 (undef) ?h110 ?r110
    case h110 => simp only [aT, aS, aZ]; rfl
    refine ⟨_, by simp [Act.put]; rfl, by kernel_rfl, by kernel_rfl, by kernel_rfl, fun _ _ _ h => h, (.inr ⟨rfl, rfl⟩), HS.out.1, ?_⟩
    refine takeH (o := ?o111) 34 (undef) ?h111 ?r111
    case h111 => simp only [aT, aS, aZ]; rfl
    refine ⟨_, by simp [Act.put]; rfl, by kernel_rfl, by kernel_rfl, by kernel_rfl, fun _ _ _ h => h, (.inr ⟨rfl, rfl⟩), HS.out.1, ?_⟩
    refine takeH (o := ?o112) 35 (.bool false) ?h112 ?r112
    case h112 => simp only [aT, aS, aZ]; rfl
    refine ⟨_, by simp [Act.put]; rfl, by kernel_rfl, by kernel_rfl, by kernel_rfl, fun _ _ _ h => h, (.inl ⟨rfl, fun W _ => by kernel_rfl⟩), HS.out.1, ?_⟩
    refine takeH (o := ?o113) 36 (.bool false) ?h113 ?r113
    case h113 => simp only [aT, aS, aZ]; rfl
    refine ⟨_, by simp [Act.put]; rfl, by kernel_rfl, by kernel_rfl, by kernel_rfl, fun _ _ _ h => h, (.inl ⟨rfl, fun W _ => by kernel_rfl⟩), HS.out.1, ?_⟩
    refine takeH (o := ?o114) 37 (undef) ?h114 ?r114
    case h114 => simp only [aT, aS, aZ]; rfl
    refine ⟨_, by simp [Act.put]; rfl, by kernel_rfl, by kernel_rfl, by kernel_rfl, fun _ _ _ h => h, (.inr ⟨rfl, rfl⟩), HS.out.1, ?_⟩
    refine takeH (o := ?o115) 38 (undef) ?h115 ?r115
    case h115 => simp only [aT, aS, aZ]; rfl
    refine ⟨_, by simp [Act.put]; rfl, by kernel_rfl, by kernel_rfl, by kernel_rfl, fun _ _ _ h => h, (.inr ⟨rfl, rfl⟩), HS.out.1, ?_⟩
    refine takeH (o := ?o116) 39 (undef) ?h116 ?r116
    case h116 => simp only [aT, aS, aZ]; rfl
    refine ⟨_, by simp [Act.put]; rfl, by kernel_rfl, by kernel_rfl, by kernel_rfl, fun _ _ _ h => h, (.inr ⟨rfl, rfl⟩), HS.out.1, ?_⟩
    refine takeH (o := ?o117) 40 (.bool false) ?h117 ?r117
    case h117 => simp only [aT, aS, aZ]; rfl
    refine ⟨_, by simp [Act.put]; rfl, by kernel_rfl, by kernel_rfl, by kernel_rfl, fun _ _ _ h => h, (.inl ⟨rfl, fun W _ => by kernel_rfl⟩), HS.out.1, ?_⟩
    refine takeH (o := ?o118) 41 (.bool false) ?h118 ?r118
    case h118 => simp only [aT, aS, aZ]; rfl
    refine ⟨_, by simp [Act.put]; rfl, by kernel_rfl, by kernel_rfl, by kernel_rfl, fun _ _ _ h => h, (.inl ⟨rfl, fun W _ => by kernel_rfl⟩), HS.out.1, ?_⟩
    refine wpAnyH_done (by kernel_rfl) ?_ _
    have HV : Hid (x.ok per = false) := by show _ = _; unfold Se.ok; rw [← HD3.out]; simp
    go_wp2
    go_ret
    exact ⟨ret_bool HV.out.symm, HS.out.2⟩
  refine takeH (o := ?o119) 11 (.bool true) ?h119 ?r119
  case h119 => simp only [aT, aS, aZ]; rfl
  refine ⟨_, by simp [Act.put]; rfl, by kernel_rfl, by kernel_rfl, by kernel_rfl, fun _ _ _ h => h, (.inl ⟨rfl, fun W _ => by kernel_rfl⟩), HS.out.1, ?_⟩
  refine takeH (o := ?o120) 12 (.bool true) ?h120 ?r120
  case h120 => simp only [aT, aS, aZ]; rfl
  refine ⟨_, by simp [Act.put]; rfl, by kernel_rfl, by kernel_rfl, by kernel_rfl, fun _ _ _ h => h, (.inl ⟨rfl, fun W _ => by kernel_rfl⟩), HS.out.1, ?_⟩
  refine takeH (o := ?o121) 13 (.pointer (some ⟨w.heap.size, 2, none⟩)) ?h121 ?r121
  case h121 => simp only [aT, aS, aZ]; rfl
  refine ⟨_, by simp [Act.put]; rfl, by kernel_rfl, by kernel_rfl, by kernel_rfl, fun _ _ _ h => h, (.inl ⟨rfl, fun W _ => by kernel_rfl⟩), HS.out.1, ?_⟩
  refine takeH (o := ?o122) 14 (.slice b l c) ?h122 ?r122
  case h122 => simp only [aT, aS, aZ]; rfl
  refine ⟨_, by simp [Act.put]; rfl, by kernel_rfl, by kernel_rfl, by kernel_rfl, fun _ _ _ h => h, (.inl ⟨rfl, fun W hW => by have c := hW.cell 2; simp only [aT, aS, aZ] at c; go_simp⟩), HS.out.1, ?_⟩
  refine takeH (o := ?o123) 15 (.pointer (some ⟨w.heap.size, 1, none⟩)) ?h123 ?r123
  case h123 => simp only [aT, aS, aZ]; rfl
  refine ⟨_, by simp [Act.put]; rfl, by kernel_rfl, by kernel_rfl, by kernel_rfl, fun _ _ _ h => h, (.inl ⟨rfl, fun W _ => by kernel_rfl⟩), HS.out.1, ?_⟩
  refine takeH (o := ?o124) 16 (.int .i64 x.granted) ?h124 ?r124
  case h124 => simp only [aT, aS, aZ]; rfl
  refine ⟨_, by simp [Act.put]; rfl, by kernel_rfl, by kernel_rfl, by kernel_rfl, fun _ _ _ h => h, (.inl ⟨rfl, fun W hW => by have c := hW.cell 1; simp only [aT, aS, aZ] at c; go_simp⟩), HS.out.1, ?_⟩
  refine onlyH (o := ?o125) 17 (by kernel_rfl) ?h125 ?r125
  case h125 => simp only [aT, aS, aZ]; rfl
  intro K hK
  obtain ⟨d4, hd4⟩ : ∃ d, d = (x.taken.ok && x.taken.under x.granted) := ⟨_, rfl⟩
  have HD4 : Hid (d4 = (x.taken.ok && x.taken.under x.granted)) := hd4
  refine op_callS2 36 _ _ _ Tryz.f36 (fun v w' => v = .bool d4 ∧ Below W0.heap.size W0 w') rfl rfl Tryz.func36 (by kernel_rfl) (by kernel_rfl) ((l8Below_any b l c x.granted x.taken F W0 (HP.out.1.below HS.out.2) (by have := HP.out.2; omega)).mono (by rintro e w' ⟨rfl, hb⟩; exact ⟨_, rfl, by rw [hd4], hb⟩)) ?_
  rintro v W4 ⟨rfl, hb⟩
  have HS : Hid (Blk W4 w.heap.size #[.int .i64 x.epoch, .int .i64 x.granted, .slice b l c, .int .i64 x.merged, .int .i64 x.last] 45 ∧ Below w.heap.size w W4) := ⟨HS.out.1.below hb, Below.next HS.out.2 hb⟩
  clear hd4 hb
  refine ⟨_, by simp [Act.put]; rfl, hK _ _ ⟨HS.out.1, ?_⟩⟩
  clear hK
  cases d4
  · refine takeH (o := ?o126) 18 (.bool false) ?h126 ?r126
    case h126 => simp only [aT, aS, aZ]; rfl
    refine ⟨_, by simp [Act.put]; rfl, by kernel_rfl, by kernel_rfl, by kernel_rfl, fun _ _ _ h => h, (.inl ⟨rfl, fun W _ => by kernel_rfl⟩), HS.out.1, ?_⟩
    refine takeH (o := ?o127) 19 (.bool false) ?h127 ?r127
    case h127 => simp only [aT, aS, aZ]; rfl
    refine ⟨_, by simp [Act.put]; rfl, by kernel_rfl, by kernel_rfl, by kernel_rfl, fun _ _ _ h => h, (.inl ⟨rfl, fun W _ => by kernel_rfl⟩), HS.out.1, ?_⟩
    refine takeH (o := ?o128) 20 (undef) ?h128 ?r128
    case h128 => simp only [aT, aS, aZ]; rfl
    refine ⟨_, by simp [Act.put]; rfl, by kernel_rfl, by kernel_rfl, by kernel_rfl, fun _ _ _ h => h, (.inr ⟨rfl, rfl⟩), HS.out.1, ?_⟩
    refine takeH (o := ?o129) 21 (undef) ?h129 ?r129
    case h129 => simp only [aT, aS, aZ]; rfl
    refine ⟨_, by simp [Act.put]; rfl, by kernel_rfl, by kernel_rfl, by kernel_rfl, fun _ _ _ h => h, (.inr ⟨rfl, rfl⟩), HS.out.1, ?_⟩
    refine takeH (o := ?o130) 22 (undef) ?h130 ?r130
    case h130 => simp only [aT, aS, aZ]; rfl
    refine ⟨_, by simp [Act.put]; rfl, by kernel_rfl, by kernel_rfl, by kernel_rfl, fun _ _ _ h => h, (.inr ⟨rfl, rfl⟩), HS.out.1, ?_⟩
    refine takeH (o := ?o131) 23 (undef) ?h131 ?r131
    case h131 => simp only [aT, aS, aZ]; rfl
    refine ⟨_, by simp [Act.put]; rfl, by kernel_rfl, by kernel_rfl, by kernel_rfl, fun _ _ _ h => h, (.inr ⟨rfl, rfl⟩), HS.out.1, ?_⟩
    refine takeH (o := ?o132) 24 (undef) ?h132 ?r132
    case h132 => simp only [aT, aS, aZ]; rfl
    refine ⟨_, by simp [Act.put]; rfl, by kernel_rfl, by kernel_rfl, by kernel_rfl, fun _ _ _ h => h, (.inr ⟨rfl, rfl⟩), HS.out.1, ?_⟩
    refine takeH (o := ?o133) 25 (undef) ?h133 ?r133
    case h133 => simp only [aT, aS, aZ]; rfl
    refine ⟨_, by simp [Act.put]; rfl, by kernel_rfl, by kernel_rfl, by kernel_rfl, fun _ _ _ h => h, (.inr ⟨rfl, rfl⟩), HS.out.1, ?_⟩
    refine takeH (o := ?o134) 26 (.bool false) ?h134 ?r134
    case h134 => simp only [aT, aS, aZ]; rfl
    refine ⟨_, by simp [Act.put]; rfl, by kernel_rfl, by kernel_rfl, by kernel_rfl, fun _ _ _ h => h, (.inl ⟨rfl, fun W _ => by kernel_rfl⟩), HS.out.1, ?_⟩
    refine takeH (o := ?o135) 27 (.bool false) ?h135 ?r135
    case h135 => simp only [aT, aS, aZ]; rfl
    refine ⟨_, by simp [Act.put]; rfl, by kernel_rfl, by kernel_rfl, by kernel_rfl, fun _ _ _ h => h, (.inl ⟨rfl, fun W _ => by kernel_rfl⟩), HS.out.1, ?_⟩
    refine takeH (o := ?o136) 28 (undef) ?h136 ?r136
    case h136 => simp only [aT, aS, aZ]; rfl
    refine ⟨_, by simp [Act.put]; rfl, by kernel_rfl, by kernel_rfl, by kernel_rfl, fun _ _ _ h => h, (.inr ⟨rfl, rfl⟩), HS.out.1, ?_⟩
    refine takeH (o := ?o137) 29 (undef) ?h137 ?r137
    case h137 => simp only [aT, aS, aZ]; rfl
    refine ⟨_, by simp [Act.put]; rfl, by kernel_rfl, by kernel_rfl, by kernel_rfl, fun _ _ _ h => h, (.inr ⟨rfl, rfl⟩), HS.out.1, ?_⟩
    refine takeH (o := ?o138) 30 (undef) ?h138 ?r138
    case h138 => simp only [aT, aS, aZ]; rfl
    refine ⟨_, by simp [Act.put]; rfl, by kernel_rfl, by kernel_rfl, by kernel_rfl, fun _ _ _ h => h, (.inr ⟨rfl, rfl⟩), HS.out.1, ?_⟩
    refine takeH (o := ?o139) 31 (undef) ?h139 ?r139
    case h139 => simp only [aT, aS, aZ]; rfl
    refine ⟨_, by simp [Act.put]; rfl, by kernel_rfl, by kernel_rfl, by kernel_rfl, fun _ _ _ h => h, (.inr ⟨rfl, rfl⟩), HS.out.1, ?_⟩
    refine takeH (o := ?o140) 32 (undef) ?h140 ?r140
    case h140 => simp only [aT, aS, aZ]; rfl
    refine ⟨_, by simp [Act.put]; rfl, by kernel_rfl, by kernel_rfl, by kernel_rfl, fun _ _ _ h => h, (.inr ⟨rfl, rfl⟩), HS.out.1, ?_⟩
    refine takeH (o := ?o141) 33 (undef) ?h141 ?r141
    case h141 => simp only [aT, aS, aZ]; rfl
    refine ⟨_, by simp [Act.put]; rfl, by kernel_rfl, by kernel_rfl, by kernel_rfl, fun _ _ _ h => h, (.inr ⟨rfl, rfl⟩), HS.out.1, ?_⟩
    refine takeH (o := ?o142) 34 (undef) ?h142 ?r142
    case h142 => simp only [aT, aS, aZ]; rfl
    refine ⟨_, by simp [Act.put]; rfl, by kernel_rfl, by kernel_rfl, by kernel_rfl, fun _ _ _ h => h, (.inr ⟨rfl, rfl⟩), HS.out.1, ?_⟩
    refine takeH (o := ?o143) 35 (.bool false) ?h143 ?r143
    case h143 => simp only [aT, aS, aZ]; rfl
    refine ⟨_, by simp [Act.put]; rfl, by kernel_rfl, by kernel_rfl, by kernel_rfl, fun _ _ _ h => h, (.inl ⟨rfl, fun W _ => by kernel_rfl⟩), HS.out.1, ?_⟩
    refine takeH (o := ?o144) 36 (.bool false) ?h144 ?r144
    case h144 => simp only [aT, aS, aZ]; rfl
    refine ⟨_, by simp [Act.put]; rfl, by kernel_rfl, by kernel_rfl, by kernel_rfl, fun _ _ _ h => h, (.inl ⟨rfl, fun W _ => by kernel_rfl⟩), HS.out.1, ?_⟩
    refine takeH (o := ?o145) 37 (undef) ?h145 ?r145
    case h145 => simp only [aT, aS, aZ]; rfl
    refine ⟨_, by simp [Act.put]; rfl, by kernel_rfl, by kernel_rfl, by kernel_rfl, fun _ _ _ h => h, (.inr ⟨rfl, rfl⟩), HS.out.1, ?_⟩
    refine takeH (o := ?o146) 38 (undef) ?h146 ?r146
    case h146 => simp only [aT, aS, aZ]; rfl
    refine ⟨_, by simp [Act.put]; rfl, by kernel_rfl, by kernel_rfl, by kernel_rfl, fun _ _ _ h => h, (.inr ⟨rfl, rfl⟩), HS.out.1, ?_⟩
    refine takeH (o := ?o147) 39 (undef) ?h147 ?r147
    case h147 => simp only [aT, aS, aZ]; rfl
    refine ⟨_, by simp [Act.put]; rfl, by kernel_rfl, by kernel_rfl, by kernel_rfl, fun _ _ _ h => h, (.inr ⟨rfl, rfl⟩), HS.out.1, ?_⟩
    refine takeH (o := ?o148) 40 (.bool false) ?h148 ?r148
    case h148 => simp only [aT, aS, aZ]; rfl
    refine ⟨_, by simp [Act.put]; rfl, by kernel_rfl, by kernel_rfl, by kernel_rfl, fun _ _ _ h => h, (.inl ⟨rfl, fun W _ => by kernel_rfl⟩), HS.out.1, ?_⟩
    refine takeH (o := ?o149) 41 (.bool false) ?h149 ?r149
    case h149 => simp only [aT, aS, aZ]; rfl
    refine ⟨_, by simp [Act.put]; rfl, by kernel_rfl, by kernel_rfl, by kernel_rfl, fun _ _ _ h => h, (.inl ⟨rfl, fun W _ => by kernel_rfl⟩), HS.out.1, ?_⟩
    refine wpAnyH_done (by kernel_rfl) ?_ _
    have HV : Hid (x.ok per = false) := by show _ = _; unfold Se.ok; rw [← HD4.out]; simp
    go_wp2
    go_ret
    exact ⟨ret_bool HV.out.symm, HS.out.2⟩
  refine takeH (o := ?o150) 18 (.bool true) ?h150 ?r150
  case h150 => simp only [aT, aS, aZ]; rfl
  refine ⟨_, by simp [Act.put]; rfl, by kernel_rfl, by kernel_rfl, by kernel_rfl, fun _ _ _ h => h, (.inl ⟨rfl, fun W _ => by kernel_rfl⟩), HS.out.1, ?_⟩
  refine takeH (o := ?o151) 19 (.bool true) ?h151 ?r151
  case h151 => simp only [aT, aS, aZ]; rfl
  refine ⟨_, by simp [Act.put]; rfl, by kernel_rfl, by kernel_rfl, by kernel_rfl, fun _ _ _ h => h, (.inl ⟨rfl, fun W _ => by kernel_rfl⟩), HS.out.1, ?_⟩
  refine takeH (o := ?o152) 20 (.pointer (some ⟨w.heap.size, 3, none⟩)) ?h152 ?r152
  case h152 => simp only [aT, aS, aZ]; rfl
  refine ⟨_, by simp [Act.put]; rfl, by kernel_rfl, by kernel_rfl, by kernel_rfl, fun _ _ _ h => h, (.inl ⟨rfl, fun W _ => by kernel_rfl⟩), HS.out.1, ?_⟩
  refine takeH (o := ?o153) 21 (.int .i64 x.merged) ?h153 ?r153
  case h153 => simp only [aT, aS, aZ]; rfl
  refine ⟨_, by simp [Act.put]; rfl, by kernel_rfl, by kernel_rfl, by kernel_rfl, fun _ _ _ h => h, (.inl ⟨rfl, fun W hW => by have c := hW.cell 3; simp only [aT, aS, aZ] at c; go_simp⟩), HS.out.1, ?_⟩
  refine takeH (o := ?o154) 22 (.pointer (some ⟨w.heap.size, 2, none⟩)) ?h154 ?r154
  case h154 => simp only [aT, aS, aZ]; rfl
  refine ⟨_, by simp [Act.put]; rfl, by kernel_rfl, by kernel_rfl, by kernel_rfl, fun _ _ _ h => h, (.inl ⟨rfl, fun W _ => by kernel_rfl⟩), HS.out.1, ?_⟩
  refine takeH (o := ?o155) 23 (.slice b l c) ?h155 ?r155
  case h155 => simp only [aT, aS, aZ]; rfl
  refine ⟨_, by simp [Act.put]; rfl, by kernel_rfl, by kernel_rfl, by kernel_rfl, fun _ _ _ h => h, (.inl ⟨rfl, fun W hW => by have c := hW.cell 2; simp only [aT, aS, aZ] at c; go_simp⟩), HS.out.1, ?_⟩
  refine onlyH (o := ?o156) 24 (by kernel_rfl) ?h156 ?r156
  case h156 => simp only [aT, aS, aZ]; rfl
  intro K hK
  refine op_call1 58 _ _ Tryz.f58 (fun v w' => v = .int .i64 x.taken.size ∧ Below W4.heap.size W4 w') rfl rfl Tryz.func58 (by kernel_rfl) (by kernel_rfl) ((sizeSpec_any b l c x.taken F W4 (HP.out.1.below HS.out.2) HP.out.2).mono (by rintro e w' ⟨rfl, m, rfl⟩; exact ⟨_, rfl, rfl, quiet_below ⟨m, rfl⟩⟩)) ?_
  rintro v W5 ⟨rfl, hb⟩
  have HS : Hid (Blk W5 w.heap.size #[.int .i64 x.epoch, .int .i64 x.granted, .slice b l c, .int .i64 x.merged, .int .i64 x.last] 45 ∧ Below w.heap.size w W5) := ⟨HS.out.1.below hb, Below.next HS.out.2 hb⟩
  clear hb
  refine ⟨_, by simp [Act.put]; rfl, hK _ _ ⟨HS.out.1, ?_⟩⟩
  clear hK
  refine onlyH (o := ?o157) 25 (by kernel_rfl) ?h157 ?r157
  case h157 => simp only [aT, aS, aZ]; rfl
  intro K hK
  obtain ⟨d5, hd5⟩ : ∃ d, d = decide (0 ≤ x.merged ∧ x.merged ≤ x.taken.size) := ⟨_, rfl⟩
  have HD5 : Hid (d5 = decide (0 ≤ x.merged ∧ x.merged ≤ x.taken.size)) := hd5
  refine op_callS3 53 _ _ _ _ Tryz.f53 (fun v w' => v = .bool d5 ∧ w' = W5) rfl rfl Tryz.func53 (by kernel_rfl) (by kernel_rfl) ((l1In_any x.merged 0 x.taken.size W5).mono (by rintro e w' ⟨rfl, rfl⟩; exact ⟨_, rfl, by rw [hd5], rfl⟩)) ?_
  rintro v W6 ⟨rfl, hq⟩
  have hq' := hq.symm
  subst hq'
  clear hq hd5
  refine ⟨_, by simp [Act.put]; rfl, hK _ _ ⟨HS.out.1, ?_⟩⟩
  clear hK
  cases d5
  · refine takeH (o := ?o158) 26 (.bool false) ?h158 ?r158
    case h158 => simp only [aT, aS, aZ]; rfl
    refine ⟨_, by simp [Act.put]; rfl, by kernel_rfl, by kernel_rfl, by kernel_rfl, fun _ _ _ h => h, (.inl ⟨rfl, fun W _ => by kernel_rfl⟩), HS.out.1, ?_⟩
    refine takeH (o := ?o159) 27 (.bool false) ?h159 ?r159
    case h159 => simp only [aT, aS, aZ]; rfl
    refine ⟨_, by simp [Act.put]; rfl, by kernel_rfl, by kernel_rfl, by kernel_rfl, fun _ _ _ h => h, (.inl ⟨rfl, fun W _ => by kernel_rfl⟩), HS.out.1, ?_⟩
    refine takeH (o := ?o160) 28 (undef) ?h160 ?r160
    case h160 => simp only [aT, aS, aZ]; rfl
    refine ⟨_, by simp [Act.put]; rfl, by kernel_rfl, by kernel_rfl, by kernel_rfl, fun _ _ _ h => h, (.inr ⟨rfl, rfl⟩), HS.out.1, ?_⟩
    refine takeH (o := ?o161) 29 (undef) ?h161 ?r161
    case h161 => simp only [aT, aS, aZ]; rfl
    refine ⟨_, by simp [Act.put]; rfl, by kernel_rfl, by kernel_rfl, by kernel_rfl, fun _ _ _ h => h, (.inr ⟨rfl, rfl⟩), HS.out.1, ?_⟩
    refine takeH (o := ?o162) 30 (undef) ?h162 ?r162
    case h162 => simp only [aT, aS, aZ]; rfl
    refine ⟨_, by simp [Act.put]; rfl, by kernel_rfl, by kernel_rfl, by kernel_rfl, fun _ _ _ h => h, (.inr ⟨rfl, rfl⟩), HS.out.1, ?_⟩
    refine takeH (o := ?o163) 31 (undef) ?h163 ?r163
    case h163 => simp only [aT, aS, aZ]; rfl
    refine ⟨_, by simp [Act.put]; rfl, by kernel_rfl, by kernel_rfl, by kernel_rfl, fun _ _ _ h => h, (.inr ⟨rfl, rfl⟩), HS.out.1, ?_⟩
    refine takeH (o := ?o164) 32 (undef) ?h164 ?r164
    case h164 => simp only [aT, aS, aZ]; rfl
    refine ⟨_, by simp [Act.put]; rfl, by kernel_rfl, by kernel_rfl, by kernel_rfl, fun _ _ _ h => h, (.inr ⟨rfl, rfl⟩), HS.out.1, ?_⟩
    refine takeH (o := ?o165) 33 (undef) ?h165 ?r165
    case h165 => simp only [aT, aS, aZ]; rfl
    refine ⟨_, by simp [Act.put]; rfl, by kernel_rfl, by kernel_rfl, by kernel_rfl, fun _ _ _ h => h, (.inr ⟨rfl, rfl⟩), HS.out.1, ?_⟩
    refine takeH (o := ?o166) 34 (undef) ?h166 ?r166
    case h166 => simp only [aT, aS, aZ]; rfl
    refine ⟨_, by simp [Act.put]; rfl, by kernel_rfl, by kernel_rfl, by kernel_rfl, fun _ _ _ h => h, (.inr ⟨rfl, rfl⟩), HS.out.1, ?_⟩
    refine takeH (o := ?o167) 35 (.bool false) ?h167 ?r167
    case h167 => simp only [aT, aS, aZ]; rfl
    refine ⟨_, by simp [Act.put]; rfl, by kernel_rfl, by kernel_rfl, by kernel_rfl, fun _ _ _ h => h, (.inl ⟨rfl, fun W _ => by kernel_rfl⟩), HS.out.1, ?_⟩
    refine takeH (o := ?o168) 36 (.bool false) ?h168 ?r168
    case h168 => simp only [aT, aS, aZ]; rfl
    refine ⟨_, by simp [Act.put]; rfl, by kernel_rfl, by kernel_rfl, by kernel_rfl, fun _ _ _ h => h, (.inl ⟨rfl, fun W _ => by kernel_rfl⟩), HS.out.1, ?_⟩
    refine takeH (o := ?o169) 37 (undef) ?h169 ?r169
    case h169 => simp only [aT, aS, aZ]; rfl
    refine ⟨_, by simp [Act.put]; rfl, by kernel_rfl, by kernel_rfl, by kernel_rfl, fun _ _ _ h => h, (.inr ⟨rfl, rfl⟩), HS.out.1, ?_⟩
    refine takeH (o := ?o170) 38 (undef) ?h170 ?r170
    case h170 => simp only [aT, aS, aZ]; rfl
    refine ⟨_, by simp [Act.put]; rfl, by kernel_rfl, by kernel_rfl, by kernel_rfl, fun _ _ _ h => h, (.inr ⟨rfl, rfl⟩), HS.out.1, ?_⟩
    refine takeH (o := ?o171) 39 (undef) ?h171 ?r171
    case h171 => simp only [aT, aS, aZ]; rfl
    refine ⟨_, by simp [Act.put]; rfl, by kernel_rfl, by kernel_rfl, by kernel_rfl, fun _ _ _ h => h, (.inr ⟨rfl, rfl⟩), HS.out.1, ?_⟩
    refine takeH (o := ?o172) 40 (.bool false) ?h172 ?r172
    case h172 => simp only [aT, aS, aZ]; rfl
    refine ⟨_, by simp [Act.put]; rfl, by kernel_rfl, by kernel_rfl, by kernel_rfl, fun _ _ _ h => h, (.inl ⟨rfl, fun W _ => by kernel_rfl⟩), HS.out.1, ?_⟩
    refine takeH (o := ?o173) 41 (.bool false) ?h173 ?r173
    case h173 => simp only [aT, aS, aZ]; rfl
    refine ⟨_, by simp [Act.put]; rfl, by kernel_rfl, by kernel_rfl, by kernel_rfl, fun _ _ _ h => h, (.inl ⟨rfl, fun W _ => by kernel_rfl⟩), HS.out.1, ?_⟩
    refine wpAnyH_done (by kernel_rfl) ?_ _
    have HV : Hid (x.ok per = false) := by show _ = _; unfold Se.ok; rw [← HD5.out]; simp
    go_wp2
    go_ret
    exact ⟨ret_bool HV.out.symm, HS.out.2⟩
  refine takeH (o := ?o174) 26 (.bool true) ?h174 ?r174
  case h174 => simp only [aT, aS, aZ]; rfl
  refine ⟨_, by simp [Act.put]; rfl, by kernel_rfl, by kernel_rfl, by kernel_rfl, fun _ _ _ h => h, (.inl ⟨rfl, fun W _ => by kernel_rfl⟩), HS.out.1, ?_⟩
  refine takeH (o := ?o175) 27 (.bool true) ?h175 ?r175
  case h175 => simp only [aT, aS, aZ]; rfl
  refine ⟨_, by simp [Act.put]; rfl, by kernel_rfl, by kernel_rfl, by kernel_rfl, fun _ _ _ h => h, (.inl ⟨rfl, fun W _ => by kernel_rfl⟩), HS.out.1, ?_⟩
  refine takeH (o := ?o176) 28 (.pointer (some ⟨w.heap.size, 1, none⟩)) ?h176 ?r176
  case h176 => simp only [aT, aS, aZ]; rfl
  refine ⟨_, by simp [Act.put]; rfl, by kernel_rfl, by kernel_rfl, by kernel_rfl, fun _ _ _ h => h, (.inl ⟨rfl, fun W _ => by kernel_rfl⟩), HS.out.1, ?_⟩
  refine takeH (o := ?o177) 29 (.int .i64 x.granted) ?h177 ?r177
  case h177 => simp only [aT, aS, aZ]; rfl
  refine ⟨_, by simp [Act.put]; rfl, by kernel_rfl, by kernel_rfl, by kernel_rfl, fun _ _ _ h => h, (.inl ⟨rfl, fun W hW => by have c := hW.cell 1; simp only [aT, aS, aZ] at c; go_simp⟩), HS.out.1, ?_⟩
  refine takeH (o := ?o178) 30 (.pointer (some ⟨w.heap.size, 3, none⟩)) ?h178 ?r178
  case h178 => simp only [aT, aS, aZ]; rfl
  refine ⟨_, by simp [Act.put]; rfl, by kernel_rfl, by kernel_rfl, by kernel_rfl, fun _ _ _ h => h, (.inl ⟨rfl, fun W _ => by kernel_rfl⟩), HS.out.1, ?_⟩
  refine takeH (o := ?o179) 31 (.int .i64 x.merged) ?h179 ?r179
  case h179 => simp only [aT, aS, aZ]; rfl
  refine ⟨_, by simp [Act.put]; rfl, by kernel_rfl, by kernel_rfl, by kernel_rfl, fun _ _ _ h => h, (.inl ⟨rfl, fun W hW => by have c := hW.cell 3; simp only [aT, aS, aZ] at c; go_simp⟩), HS.out.1, ?_⟩
  refine takeH (o := ?o180) 32 (.int .i64 per) ?h180 ?r180
  case h180 => simp only [aT, aS, aZ]; rfl
  refine ⟨_, by simp [Act.put]; rfl, by kernel_rfl, by kernel_rfl, by kernel_rfl, fun _ _ _ h => h, (.inl ⟨rfl, fun W _ => by kernel_rfl⟩), HS.out.1, ?_⟩
  have hm : x.merged + per ≤ 20971520008 ∧ 0 ≤ x.merged + per := by have h1 := of_decide_eq_true HD1.out.symm; have h5 := of_decide_eq_true HD5.out.symm; have := HSZ.out; omega
  have hwz : IntKind.i64.wrap (x.merged + per) = x.merged + per := wrapSe (by omega)
  refine takeH (o := ?o181) 33 (.int .i64 (x.merged + per)) ?h181 ?r181
  case h181 => simp only [aT, aS, aZ]; rfl
  refine ⟨_, by simp [Act.put]; rfl, by kernel_rfl, by kernel_rfl, by kernel_rfl, fun _ _ _ h => h, (.inl ⟨rfl, fun W _ => by first | (go_simp; done) | (go_simp; exact hwz)⟩), HS.out.1, ?_⟩
  obtain ⟨d6, hd6⟩ : ∃ d, d = decide (x.granted ≤ x.merged + per) := ⟨_, rfl⟩
  have HD6 : Hid (d6 = decide (x.granted ≤ x.merged + per)) := hd6
  refine takeH (o := ?o182) 34 (.bool d6) ?h182 ?r182
  case h182 => simp only [aT, aS, aZ]; rfl
  refine ⟨_, by simp [Act.put]; rfl, by kernel_rfl, by kernel_rfl, by kernel_rfl, fun _ _ _ h => h, (.inl ⟨rfl, fun W _ => by rw [hd6]; go_simp⟩), HS.out.1, ?_⟩
  clear hd6 hwz hm
  cases d6
  · refine takeH (o := ?o183) 35 (.bool false) ?h183 ?r183
    case h183 => simp only [aT, aS, aZ]; rfl
    refine ⟨_, by simp [Act.put]; rfl, by kernel_rfl, by kernel_rfl, by kernel_rfl, fun _ _ _ h => h, (.inl ⟨rfl, fun W _ => by kernel_rfl⟩), HS.out.1, ?_⟩
    refine takeH (o := ?o184) 36 (.bool false) ?h184 ?r184
    case h184 => simp only [aT, aS, aZ]; rfl
    refine ⟨_, by simp [Act.put]; rfl, by kernel_rfl, by kernel_rfl, by kernel_rfl, fun _ _ _ h => h, (.inl ⟨rfl, fun W _ => by kernel_rfl⟩), HS.out.1, ?_⟩
    refine takeH (o := ?o185) 37 (undef) ?h185 ?r185
    case h185 => simp only [aT, aS, aZ]; rfl
    refine ⟨_, by simp [Act.put]; rfl, by kernel_rfl, by kernel_rfl, by kernel_rfl, fun _ _ _ h => h, (.inr ⟨rfl, rfl⟩), HS.out.1, ?_⟩
    refine takeH (o := ?o186) 38 (undef) ?h186 ?r186
    case h186 => simp only [aT, aS, aZ]; rfl
    refine ⟨_, by simp [Act.put]; rfl, by kernel_rfl, by kernel_rfl, by kernel_rfl, fun _ _ _ h => h, (.inr ⟨rfl, rfl⟩), HS.out.1, ?_⟩
    refine takeH (o := ?o187) 39 (undef) ?h187 ?r187
    case h187 => simp only [aT, aS, aZ]; rfl
    refine ⟨_, by simp [Act.put]; rfl, by kernel_rfl, by kernel_rfl, by kernel_rfl, fun _ _ _ h => h, (.inr ⟨rfl, rfl⟩), HS.out.1, ?_⟩
    refine takeH (o := ?o188) 40 (.bool false) ?h188 ?r188
    case h188 => simp only [aT, aS, aZ]; rfl
    refine ⟨_, by simp [Act.put]; rfl, by kernel_rfl, by kernel_rfl, by kernel_rfl, fun _ _ _ h => h, (.inl ⟨rfl, fun W _ => by kernel_rfl⟩), HS.out.1, ?_⟩
    refine takeH (o := ?o189) 41 (.bool false) ?h189 ?r189
    case h189 => simp only [aT, aS, aZ]; rfl
    refine ⟨_, by simp [Act.put]; rfl, by kernel_rfl, by kernel_rfl, by kernel_rfl, fun _ _ _ h => h, (.inl ⟨rfl, fun W _ => by kernel_rfl⟩), HS.out.1, ?_⟩
    refine wpAnyH_done (by kernel_rfl) ?_ _
    have HV : Hid (x.ok per = false) := by show _ = _; unfold Se.ok; rw [← HD6.out]; simp
    go_wp2
    go_ret
    exact ⟨ret_bool HV.out.symm, HS.out.2⟩
  refine takeH (o := ?o190) 35 (.bool true) ?h190 ?r190
  case h190 => simp only [aT, aS, aZ]; rfl
  refine ⟨_, by simp [Act.put]; rfl, by kernel_rfl, by kernel_rfl, by kernel_rfl, fun _ _ _ h => h, (.inl ⟨rfl, fun W _ => by kernel_rfl⟩), HS.out.1, ?_⟩
  refine takeH (o := ?o191) 36 (.bool true) ?h191 ?r191
  case h191 => simp only [aT, aS, aZ]; rfl
  refine ⟨_, by simp [Act.put]; rfl, by kernel_rfl, by kernel_rfl, by kernel_rfl, fun _ _ _ h => h, (.inl ⟨rfl, fun W _ => by kernel_rfl⟩), HS.out.1, ?_⟩
  refine takeH (o := ?o192) 37 (.pointer (some ⟨w.heap.size, 4, none⟩)) ?h192 ?r192
  case h192 => simp only [aT, aS, aZ]; rfl
  refine ⟨_, by simp [Act.put]; rfl, by kernel_rfl, by kernel_rfl, by kernel_rfl, fun _ _ _ h => h, (.inl ⟨rfl, fun W _ => by kernel_rfl⟩), HS.out.1, ?_⟩
  refine takeH (o := ?o193) 38 (.int .i64 x.last) ?h193 ?r193
  case h193 => simp only [aT, aS, aZ]; rfl
  refine ⟨_, by simp [Act.put]; rfl, by kernel_rfl, by kernel_rfl, by kernel_rfl, fun _ _ _ h => h, (.inl ⟨rfl, fun W hW => by have c := hW.cell 4; simp only [aT, aS, aZ] at c; go_simp⟩), HS.out.1, ?_⟩
  refine onlyH (o := ?o194) 39 (by kernel_rfl) ?h194 ?r194
  case h194 => simp only [aT, aS, aZ]; rfl
  intro K hK
  obtain ⟨d7, hd7⟩ : ∃ d, d = decide (0 ≤ x.last ∧ x.last ≤ 1000000) := ⟨_, rfl⟩
  have HD7 : Hid (d7 = decide (0 ≤ x.last ∧ x.last ≤ 1000000)) := hd7
  refine op_callS3 53 _ _ _ _ Tryz.f53 (fun v w' => v = .bool d7 ∧ w' = W5) rfl rfl Tryz.func53 (by kernel_rfl) (by kernel_rfl) ((l1In_any x.last 0 1000000 W5).mono (by rintro e w' ⟨rfl, rfl⟩; exact ⟨_, rfl, by rw [hd7], rfl⟩)) ?_
  rintro v W7 ⟨rfl, hq⟩
  have hq' := hq.symm
  subst hq'
  clear hq hd7
  refine ⟨_, by simp [Act.put]; rfl, hK _ _ ⟨HS.out.1, ?_⟩⟩
  clear hK
  cases d7
  · refine takeH (o := ?o195) 40 (.bool false) ?h195 ?r195
    case h195 => simp only [aT, aS, aZ]; rfl
    refine ⟨_, by simp [Act.put]; rfl, by kernel_rfl, by kernel_rfl, by kernel_rfl, fun _ _ _ h => h, (.inl ⟨rfl, fun W _ => by kernel_rfl⟩), HS.out.1, ?_⟩
    refine takeH (o := ?o196) 41 (.bool false) ?h196 ?r196
    case h196 => simp only [aT, aS, aZ]; rfl
    refine ⟨_, by simp [Act.put]; rfl, by kernel_rfl, by kernel_rfl, by kernel_rfl, fun _ _ _ h => h, (.inl ⟨rfl, fun W _ => by kernel_rfl⟩), HS.out.1, ?_⟩
    refine wpAnyH_done (by kernel_rfl) ?_ _
    have HV : Hid (x.ok per = false) := by show _ = _; unfold Se.ok; rw [← HD7.out]; simp
    go_wp2
    go_ret
    exact ⟨ret_bool HV.out.symm, HS.out.2⟩
  refine takeH (o := ?o197) 40 (.bool true) ?h197 ?r197
  case h197 => simp only [aT, aS, aZ]; rfl
  refine ⟨_, by simp [Act.put]; rfl, by kernel_rfl, by kernel_rfl, by kernel_rfl, fun _ _ _ h => h, (.inl ⟨rfl, fun W _ => by kernel_rfl⟩), HS.out.1, ?_⟩
  refine takeH (o := ?o198) 41 (.bool true) ?h198 ?r198
  case h198 => simp only [aT, aS, aZ]; rfl
  refine ⟨_, by simp [Act.put]; rfl, by kernel_rfl, by kernel_rfl, by kernel_rfl, fun _ _ _ h => h, (.inl ⟨rfl, fun W _ => by kernel_rfl⟩), HS.out.1, ?_⟩
  refine wpAnyH_done (by kernel_rfl) ?_ _
  have HV : Hid (x.ok per = true) := by show _ = _; unfold Se.ok; rw [← HD1.out, ← HD2.out, ← HD3.out, ← HD4.out, ← HD5.out, ← HD6.out, ← HD7.out]; rfl
  go_wp2
  go_ret
  exact ⟨ret_bool HV.out.symm, HS.out.2⟩
set_option maxRecDepth 200000 in
set_option maxHeartbeats 2000000 in
theorem l9Copy_any (v : Value) (x : Se) (F : List Nat) (w : World) (h : RdSe w v x F) (hl : x.taken.length ≤ 2097152) :
    Calls Tryz.prog 52 #[v] w fun e w' => NewSe w x e w' := by
  obtain ⟨b, l, c, rfl, hP, hcp⟩ := h
  have HP : Hid (RdP w b l x.taken F ∧ l ≤ 2097152 ∧ (b = none → c = 0)) := ⟨hP, by rw [← hP.length]; exact hl, hcp.1⟩
  have HT : Hid (Two w #[.int .i64 x.epoch, .int .i64 x.granted, .slice b l c, .int .i64 x.merged, .int .i64 x.last] #[.int .i64 0, .int .i64 0, .slice none 0 0, .int .i64 0, .int .i64 0] 45 ((w.alloc (.cells #[.int .i64 x.epoch, .int .i64 x.granted, .slice b l c, .int .i64 x.merged, .int .i64 x.last] 45)).alloc (.cells #[.int .i64 0, .int .i64 0, .slice none 0 0, .int .i64 0, .int .i64 0] 45))) := Two.made w _ _ _
  clear hP hl hcp
  go_enter Tryz.func52, Tryz.ntmps52
  go_wp2_with (first | go_skip | (with_reducible refine stopLoad 45 rfl ?_) | (with_reducible refine stopStore 45 rfl ?_))
  obtain ⟨W0, hW0⟩ : ∃ W, W = (w.alloc (.cells #[.int .i64 x.epoch, .int .i64 x.granted, .slice b l c, .int .i64 x.merged, .int .i64 x.last] 45)).alloc (.cells #[.int .i64 0, .int .i64 0, .slice none 0 0, .int .i64 0, .int .i64 0] 45) := ⟨_, rfl⟩
  have HS0 : Hid (W0.heap.size = w.heap.size + 2) := by rw [hW0]; show _ = _; simp
  rw [← hW0] at HT ⊢
  clear hW0
  refine load_known 45 w.heap.size #[.int .i64 x.epoch, .int .i64 x.granted, .slice b l c, .int .i64 x.merged, .int .i64 x.last] 45 _ HT.out.fst rfl rfl rfl Tryz.underlying45 rfl infoSeI ?_
  go_wp2_with (first | go_skip | (with_reducible refine stopLoad 45 rfl ?_) | (with_reducible refine stopStore 45 rfl ?_))
  refine store_fresh 45 W0.heap.size rfl #[.int .i64 0, .int .i64 0, .slice none 0 0, .int .i64 0, .int .i64 0] #[.int .i64 x.epoch, .int .i64 x.granted, .slice b l c, .int .i64 x.merged, .int .i64 x.last] 45 rfl rfl rfl rfl infoSeI rfl (by simp [Value.oneCell']) ?_
  intro w1 hg hb
  have H1 : Hid (Two w #[.int .i64 x.epoch, .int .i64 x.granted, .slice b l c, .int .i64 x.merged, .int .i64 x.last] #[.int .i64 0, .int .i64 0, .slice none 0 0, .int .i64 0, .int .i64 0] 45 w1 ∧ Blk w1 W0.heap.size #[.int .i64 x.epoch, .int .i64 x.granted, .slice b l c, .int .i64 x.merged, .int .i64 x.last] 45) := ⟨HT.out.below hb, hg⟩
  have c2' := H1.out.1.fst.cell 2
  simp only [aT, aS, aZ] at c2'
  obtain ⟨L, hL⟩ : ∃ L, L = W0.heap.size := ⟨_, rfl⟩
  have HLw : Hid (L = w.heap.size + 2) := by rw [hL]; exact HS0.out
  rw [← hL] at H1 ⊢
  clear hg hb HT hL HS0
  go_wp2_with fail
  refine (l5Copy_any b l c x.taken F _ (HP.out.1.below H1.out.1.bel) HP.out.2.1 HP.out.2.2).mono ?_
  rintro e w2 ⟨p, n, k, G, rfl, rp, op, bp, kp⟩
  have hlt := H1.out.2.lt
  have hlw := HLw.out
  have H2 : Hid (Two w #[.int .i64 x.epoch, .int .i64 x.granted, .slice b l c, .int .i64 x.merged, .int .i64 x.last] #[.int .i64 0, .int .i64 0, .slice none 0 0, .int .i64 0, .int .i64 0] 45 w2 ∧ Blk w2 L #[.int .i64 x.epoch, .int .i64 x.granted, .slice b l c, .int .i64 x.merged, .int .i64 x.last] 45 ∧ RdP w2 p n x.taken G ∧ Own (w.heap.size + 2) w2 G ∧ Capd p n k ∧ L ∉ G) := ⟨H1.out.1.below bp, H1.out.2.below bp, rp, op.mono (by omega), kp, fun hx => by have := op.ge _ hx; omega⟩
  clear rp op bp kp H1 c2' hlt hlw
  have c2' := H2.out.2.1.cell 2
  have f2' := H2.out.2.1.frozen 2
  simp only [aT, aS, aZ] at c2'
  go_wp2_with (first | go_skip | (with_reducible refine stopLoad 45 rfl ?_) | (with_reducible refine stopStore 45 rfl ?_))
  have hlw := HLw.out
  have H3 : Hid (SeW w #[.int .i64 x.epoch, .int .i64 x.granted, .slice b l c, .int .i64 x.merged, .int .i64 x.last] L x.epoch x.granted x.merged x.last x.taken p n k G (w2.setCell ⟨L, 2, none⟩ (.slice p n k))) := by
    have ag : Agree w2 (w2.setCell ⟨L, 2, none⟩ (.slice p n k)) G := .set H2.out.2.2.2.2.2 2 _
    exact ⟨H2.out.1.fst.setOther (by omega) 2 _, H2.out.1.snd.setOther (by omega) 2 _, H2.out.2.1.set 2 _, H2.out.2.2.1.agree ag, H2.out.2.2.2.2.1, H2.out.2.2.2.1.agree ag, H2.out.1.bel.setCell (by show w.heap.size ≤ L; omega) _, by omega, H2.out.2.2.2.2.2⟩
  obtain ⟨w3, hw3⟩ : ∃ W, W = w2.setCell ⟨L, 2, none⟩ (.slice p n k) := ⟨_, rfl⟩
  rw [← hw3] at H3 ⊢
  clear hw3 c2' f2' H2 hlw HLw
  refine load_known 45 L #[.int .i64 x.epoch, .int .i64 x.granted, .slice p n k, .int .i64 x.merged, .int .i64 x.last] 45 _ H3.out.loc rfl rfl rfl Tryz.underlying45 rfl infoSeI ?_
  go_wp2_with (first | go_skip | (with_reducible refine stopLoad 45 rfl ?_) | (with_reducible refine stopStore 45 rfl ?_))
  refine store_known 45 (w.heap.size + 1) _ #[.int .i64 x.epoch, .int .i64 x.granted, .slice p n k, .int .i64 x.merged, .int .i64 x.last] 45 H3.out.res rfl rfl rfl rfl infoSeI rfl (by simp [Value.oneCell']) ?_
  go_wp2
  refine bodyPost_ret (results_cell_row Tryz.results52 _ _ (w.heap.size + 1) _ _ (0, 0) _ rfl H3.out.res.setRow Tryz.underlying45 rfl infoSeI) rfl ?_
  exact ⟨_, G, rfl, H3.out.done.1, H3.out.done.2.1, H3.out.done.2.2⟩
end Go.Proofs.YtgkbhhlkaifnoaaGreatDoor
/- Sets of numbers: what makes two of them the same, and what is made of both. No statement of the seat is proved here. -/
namespace Go.Proofs.YtgkbhhlkaifnoaaGreatDoor
open Go.RowKit
/-- Right from l on: the spans rise, with a gap between any two. -/
def okFrom : Int → Sp → Prop
  | _, [] => True
  | l, p :: ps => (l ≤ p.1 ∧ p.1 ≤ p.2 ∧ p.2 ≤ 9999) ∧ okFrom (p.2 + 2) ps
def endOf : Int → Sp → Int
  | l, [] => l
  | _, p :: ps => endOf (p.2 + 2) ps
theorem okFrom_append : ∀ (o r : Sp) (l : Int), okFrom l (o ++ r) ↔ okFrom l o ∧ okFrom (endOf l o) r
  | [], r, l => by simp [okFrom, endOf]
  | p :: o, r, l => by simp only [List.cons_append, okFrom, endOf, okFrom_append o r, and_assoc]
theorem endOf_snoc : ∀ (o : Sp) (t : Int × Int) (l : Int), endOf l (o ++ [t]) = t.2 + 2
  | [], t, l => rfl
  | p :: o, t, l => by simp only [List.cons_append, endOf, endOf_snoc o t]
theorem okFrom_mono : ∀ {ps : Sp} {l m : Int}, okFrom l ps → m ≤ l → okFrom m ps
  | [], _, _, _, _ => trivial
  | p :: ps, l, m, h, hm => ⟨⟨by have := h.1; omega, h.1.2⟩, h.2⟩
theorem has_cons (p : Int × Int) (ps : Sp) (n : Int) : Sp.has (p :: ps) n = (decide (p.1 ≤ n ∧ n ≤ p.2) || Sp.has ps n) := rfl
theorem has_nil (n : Int) : Sp.has [] n = false := rfl
theorem has_append (ps qs : Sp) (n : Int) : Sp.has (ps ++ qs) n = (Sp.has ps n || Sp.has qs n) := by simp [Sp.has]
/-- n is in ps. -/
def InS (ps : Sp) (n : Int) : Prop := ps.has n = true
theorem inS_cons {p : Int × Int} {ps : Sp} {n : Int} : InS (p :: ps) n ↔ (p.1 ≤ n ∧ n ≤ p.2) ∨ InS ps n := by unfold InS; rw [has_cons]; simp
theorem inS_nil {n : Int} : ¬ InS [] n := by unfold InS; rw [has_nil]; simp
theorem inS_append {ps qs : Sp} {n : Int} : InS (ps ++ qs) n ↔ InS ps n ∨ InS qs n := by unfold InS; rw [has_append]; simp
theorem inS_ge : ∀ {ps : Sp} {l n : Int}, okFrom l ps → InS ps n → l ≤ n
  | [], _, _, _, h => (inS_nil h).elim
  | p :: ps, l, n, h, hn => by
    rcases inS_cons.1 hn with e | e
    · have := h.1; omega
    · have := inS_ge h.2 e; have := h.1; omega
theorem inS_le : ∀ {ps : Sp} {l n : Int}, okFrom l ps → InS ps n → n ≤ 9999
  | [], _, _, _, h => (inS_nil h).elim
  | p :: ps, l, n, h, hn => by
    rcases inS_cons.1 hn with e | e
    · have := h.1; omega
    · exact inS_le h.2 e
theorem sp_ext : ∀ {ps qs : Sp} {l m : Int}, okFrom l ps → okFrom m qs → (∀ n, InS ps n ↔ InS qs n) → ps = qs
  | [], [], _, _, _, _, _ => rfl
  | [], q :: qs, _, _, _, h2, h => by
    have := (h q.1).2 (inS_cons.2 (.inl ⟨Int.le_refl _, h2.1.2.1⟩))
    exact (inS_nil this).elim
  | p :: ps, [], _, _, h1, _, h => by
    have := (h p.1).1 (inS_cons.2 (.inl ⟨Int.le_refl _, h1.1.2.1⟩))
    exact (inS_nil this).elim
  | p :: ps, q :: qs, l, m, h1, h2, h => by
    obtain ⟨⟨a1, a2, a3⟩, a4⟩ := h1
    obtain ⟨⟨b1, b2, b3⟩, b4⟩ := h2
    have e1 : p.1 = q.1 := by
      have x1 := inS_ge (ps := q :: qs) (l := q.1) ⟨⟨Int.le_refl _, b2, b3⟩, b4⟩ ((h p.1).1 (inS_cons.2 (.inl ⟨Int.le_refl _, a2⟩)))
      have x2 := inS_ge (ps := p :: ps) (l := p.1) ⟨⟨Int.le_refl _, a2, a3⟩, a4⟩ ((h q.1).2 (inS_cons.2 (.inl ⟨Int.le_refl _, b2⟩)))
      omega
    have e2 : p.2 = q.2 := by
      rcases Int.lt_trichotomy p.2 q.2 with c | c | c
      · rcases inS_cons.1 ((h (p.2 + 1)).2 (inS_cons.2 (.inl ⟨by omega, by omega⟩))) with e | e
        · omega
        · have := inS_ge a4 e; omega
      · exact c
      · rcases inS_cons.1 ((h (q.2 + 1)).1 (inS_cons.2 (.inl ⟨by omega, by omega⟩))) with e | e
        · omega
        · have := inS_ge b4 e; omega
    have e3 : ps = qs := sp_ext a4 b4 (fun n => by
      constructor
      · intro hn
        have := inS_ge a4 hn
        rcases inS_cons.1 ((h n).1 (inS_cons.2 (.inr hn))) with e | e
        · omega
        · exact e
      · intro hn
        have := inS_ge b4 hn
        rcases inS_cons.1 ((h n).2 (inS_cons.2 (.inr hn))) with e | e
        · omega
        · exact e)
    rw [e3, Prod.ext e1 e2]
/-- What is right, seen from the k-th span on. -/
def floorAt (ps : Sp) (k : Nat) : Int := if k = 0 then 0 else (ps.at (k - 1)).2 + 2
theorem okAt_iff (ps : Sp) (k : Nat) : ps.okAt k = true ↔ (if k = 0 then 0 else (ps.at (k - 1)).2 + 2) ≤ (ps.at k).1 ∧ 0 ≤ (ps.at k).1 ∧ (ps.at k).1 ≤ (ps.at k).2 ∧ (ps.at k).2 ≤ 9999 := by
  unfold Sp.okAt
  simp only [Bool.and_eq_true, Bool.or_eq_true, decide_eq_true_eq]
  split <;> omega
theorem okFrom_drop (ps : Sp) : ∀ (d k : Nat), k + d = ps.length → 0 ≤ floorAt ps k → ((∀ j, k ≤ j → j < ps.length → ps.okAt j = true) ↔ okFrom (floorAt ps k) (ps.drop k))
  | 0, k, hk, _ => by
    rw [List.drop_eq_nil_of_le (by omega)]
    exact ⟨fun _ => trivial, fun _ j h1 h2 => by omega⟩
  | d + 1, k, hk, h0 => by
    rw [drop_at (by omega), okFrom]
    have e : floorAt ps (k + 1) = (ps.at k).2 + 2 := by unfold floorAt; rw [if_neg (by omega), show k + 1 - 1 = k by omega]
    constructor
    · intro h
      have hk1 := (okAt_iff ps k).1 (h k (Nat.le_refl _) (by omega))
      refine ⟨⟨hk1.1, hk1.2.2⟩, ?_⟩
      rw [← e]
      exact (okFrom_drop ps d (k + 1) (by omega) (by rw [e]; omega)).1 (fun j h1 h2 => h j (by omega) h2)
    · rintro ⟨h1, h2⟩ j hj1 hj2
      by_cases c : j = k
      · subst c
        exact (okAt_iff ps j).2 ⟨h1.1, by omega, h1.2⟩
      · rw [← e] at h2
        exact (okFrom_drop ps d (k + 1) (by omega) (by rw [e]; omega)).2 h2 j (by omega) hj2
theorem ok_iff {ps : Sp} : ps.ok = true ↔ okFrom 0 ps := by
  have e := okFrom_drop ps ps.length 0 (by omega) (by simp [floorAt])
  simp only [floorAt, if_true, List.drop_zero] at e
  rw [← e]
  exact ⟨fun h j _ hj => Sp.ok_at h j hj, fun h => Sp.ok_all (fun j hj => h j (Nat.zero_le _) hj)⟩
theorem put_true_same : ∀ {ps : Sp} {x : Int × Int} {l : Int}, okFrom l ps → x.2 + 2 ≤ l → x.1 ≤ x.2 → put ps x true = ps
  | [], _, _, _, _, _ => rfl
  | p :: ps, x, l, h, hl, hx => by
    obtain ⟨⟨a1, a2, a3⟩, a4⟩ := h
    rw [put, if_neg (by omega), if_pos (by omega), put_true_same a4 (by omega) hx]
    rfl
theorem put_ok : ∀ {ps : Sp} {x : Int × Int} {l : Int}, okFrom l ps → l ≤ x.1 → x.1 ≤ x.2 → x.2 ≤ 9999 → okFrom l (put ps x false) ∧ ∀ n, InS (put ps x false) n ↔ InS ps n ∨ (x.1 ≤ n ∧ n ≤ x.2)
  | [], x, l, _, h1, h2, h3 => ⟨⟨⟨h1, h2, h3⟩, trivial⟩, fun n => by
      show InS [x] n ↔ _
      rw [inS_cons]
      exact ⟨fun h => h.symm.imp (fun e => e) (fun e => e), fun h => h.symm.imp (fun e => e) (fun e => e)⟩⟩
  | p :: ps, x, l, h, h1, h2, h3 => by
    obtain ⟨⟨a1, a2, a3⟩, a4⟩ := h
    rw [put]
    split
    · obtain ⟨i1, i2⟩ := put_ok a4 (by omega) h2 h3
      refine ⟨⟨⟨a1, a2, a3⟩, i1⟩, fun n => ?_⟩
      rw [inS_cons, inS_cons, i2, or_assoc]
    · split
      · rw [put_true_same (l := p.2 + 2) a4 (by omega) h2]
        refine ⟨⟨⟨h1, h2, h3⟩, ⟨⟨by omega, a2, a3⟩, a4⟩⟩, fun n => ?_⟩
        show InS (x :: p :: ps) n ↔ _
        rw [inS_cons (p := x)]
        exact or_comm
      · obtain ⟨i1, i2⟩ := put_ok (x := (min x.1 p.1, max x.2 p.2)) (l := l) (okFrom_mono a4 (by omega)) (by simp only; omega) (by simp only; omega) (by simp only; omega)
        refine ⟨i1, fun n => ?_⟩
        rw [i2, inS_cons]
        have : (min x.1 p.1 ≤ n ∧ n ≤ max x.2 p.2) ↔ (p.1 ≤ n ∧ n ≤ p.2) ∨ (x.1 ≤ n ∧ n ≤ x.2) := by omega
        rw [show ((min x.1 p.1, max x.2 p.2).1 ≤ n ∧ n ≤ (min x.1 p.1, max x.2 p.2).2) ↔ (p.1 ≤ n ∧ n ≤ p.2) ∨ (x.1 ≤ n ∧ n ≤ x.2) from this, or_comm, or_right_comm]
theorem okFrom_at {ps : Sp} (h : okFrom 0 ps) {k : Nat} (hk : k < ps.length) : 0 ≤ (ps.at k).1 ∧ (ps.at k).1 ≤ (ps.at k).2 ∧ (ps.at k).2 ≤ 9999 := (Sp.okAt_parts (Sp.ok_at (ok_iff.2 h) k hk)).1
theorem take_inS {qs : Sp} {k : Nat} (hk : k < qs.length) (n : Int) : InS (qs.take (k + 1)) n ↔ InS (qs.take k) n ∨ ((qs.at k).1 ≤ n ∧ n ≤ (qs.at k).2) := by
  rw [takeP_succ qs k hk, inS_append, inS_cons]
  show _ ∨ (_ ∨ InS [] n) ↔ _
  exact ⟨fun h => h.imp id (fun h => h.resolve_right inS_nil), fun h => h.imp id .inl⟩
theorem joinTo_ok {ps qs : Sp} (h1 : okFrom 0 ps) (h2 : okFrom 0 qs) : ∀ k, k ≤ qs.length → okFrom 0 (joinTo ps qs k) ∧ ∀ n, InS (joinTo ps qs k) n ↔ InS ps n ∨ InS (qs.take k) n
  | 0, _ => by
    rw [joinTo_zero]
    exact ⟨h1, fun n => ⟨.inl, fun h => h.resolve_right inS_nil⟩⟩
  | k + 1, hk => by
    have hq := okFrom_at h2 (k := k) (by omega)
    obtain ⟨i1, i2⟩ := joinTo_ok h1 h2 k (by omega)
    obtain ⟨j1, j2⟩ := put_ok (x := qs.at k) i1 (by omega) (by omega) (by omega)
    rw [joinTo_succ (by omega)]
    refine ⟨j1, fun n => ?_⟩
    rw [j2, i2, take_inS (by omega), or_assoc]
theorem join_ok {ps qs : Sp} (h1 : okFrom 0 ps) (h2 : okFrom 0 qs) : okFrom 0 (joinTo ps qs qs.length) ∧ ∀ n, InS (joinTo ps qs qs.length) n ↔ InS ps n ∨ InS qs n := by
  have := joinTo_ok h1 h2 qs.length (Nat.le_refl _)
  rw [List.take_length] at this
  exact this
/-- A span is laid behind o: apart, or into its last one. -/
def lay1 (o : Sp) (x : Int × Int) : Sp := if o = [] ∨ (o.at (o.length - 1)).2 + 1 < x.1 then o ++ [x] else o.take (o.length - 1) ++ [((o.at (o.length - 1)).1, max (o.at (o.length - 1)).2 x.2)]
def lay (o xs : Sp) : Sp := xs.foldl lay1 o
/-- How many spans begin no later than n. -/
def cutN : Sp → Int → Nat
  | [], _ => 0
  | p :: ps, n => if p.1 ≤ n then cutN ps n + 1 else 0
/-- Both sets, gone through once; o: what has come. -/
def both : Sp → Sp → Sp → Sp
  | a, [], o => lay o a
  | a, x :: b, o => both (a.drop (cutN a x.1)) b (lay1 (lay o (a.take (cutN a x.1))) x)
theorem snoc_cases (o : Sp) : o = [] ∨ ∃ o' t, o = o' ++ [t] := by
  rcases List.eq_nil_or_concat o with h | ⟨o', t, h⟩
  · exact .inl h
  · exact .inr ⟨o', t, by simpa using h⟩
theorem lay1_nil (x : Int × Int) : lay1 [] x = [x] := by simp [lay1]
theorem lay1_snoc (o : Sp) (t x : Int × Int) : lay1 (o ++ [t]) x = if t.2 + 1 < x.1 then o ++ [t] ++ [x] else o ++ [(t.1, max t.2 x.2)] := by
  have e : (o ++ [t]).at ((o ++ [t]).length - 1) = t := by simp [Sp.at]
  have e2 : (o ++ [t]).take ((o ++ [t]).length - 1) = o := by simp
  unfold lay1
  rw [e, e2]
  simp
/-- Right so far; the last span begins at m or ahead of it. -/
structure LayOk (o : Sp) (m : Int) : Prop where
  ok : okFrom 0 o
  le : ∀ o' t, o = o' ++ [t] → t.1 ≤ m
theorem LayOk.nil (m : Int) : LayOk [] m := ⟨trivial, fun o' t h => by simp at h⟩
theorem LayOk.up {o : Sp} {m m' : Int} (h : LayOk o m) (hm : m ≤ m') : LayOk o m' := ⟨h.ok, fun o' t e => Int.le_trans (h.le o' t e) hm⟩
theorem lay1_ok {o : Sp} {x : Int × Int} {m : Int} (h : LayOk o m) (hm : m ≤ x.1) (h0 : 0 ≤ x.1) (h1 : x.1 ≤ x.2) (h2 : x.2 ≤ 9999) : LayOk (lay1 o x) x.1 ∧ ∀ n, InS (lay1 o x) n ↔ InS o n ∨ (x.1 ≤ n ∧ n ≤ x.2) := by
  rcases snoc_cases o with rfl | ⟨o', t, rfl⟩
  · rw [lay1_nil]
    refine ⟨⟨⟨⟨h0, h1, h2⟩, trivial⟩, fun o' t e => ?_⟩, fun n => ?_⟩
    · obtain ⟨rfl, rfl⟩ : o' = [] ∧ x = t := by
        cases o' with
        | nil => simpa using e
        | cons y ys => simp at e
      exact Int.le_refl _
    · rw [inS_cons]
      exact ⟨fun h => .inr (h.resolve_right inS_nil), fun h => .inl (h.resolve_left inS_nil)⟩
  · have ht := h.le o' t rfl
    have hok := h.ok
    rw [okFrom_append] at hok
    obtain ⟨k1, ⟨k2, k3, k4⟩, _⟩ := hok
    rw [lay1_snoc]
    split
    · refine ⟨⟨?_, fun o2 t2 e => ?_⟩, fun n => ?_⟩
      · rw [okFrom_append, endOf_snoc]
        exact ⟨h.ok, ⟨by omega, h1, h2⟩, trivial⟩
      · have e3 := List.append_inj_right' e rfl
        obtain rfl : x = t2 := by simpa using e3
        exact Int.le_refl _
      · rw [inS_append (ps := o' ++ [t]), inS_cons (p := x)]
        exact ⟨fun h => h.imp id (fun h => h.resolve_right inS_nil), fun h => h.imp id .inl⟩
    · refine ⟨⟨?_, fun o2 t2 e => ?_⟩, fun n => ?_⟩
      · rw [okFrom_append]
        exact ⟨k1, ⟨k2, by simp only; omega, by simp only; omega⟩, trivial⟩
      · have e3 := List.append_inj_right' e rfl
        have e4 : (t.1, max t.2 x.2) = t2 := by simpa using e3
        rw [← e4]; simp only; omega
      · rw [inS_append, inS_append, inS_cons, inS_cons]
        have : (t.1 ≤ n ∧ n ≤ max t.2 x.2) ↔ (t.1 ≤ n ∧ n ≤ t.2) ∨ (x.1 ≤ n ∧ n ≤ x.2) := by omega
        rw [show ((t.1, max t.2 x.2).1 ≤ n ∧ n ≤ (t.1, max t.2 x.2).2) ↔ (t.1 ≤ n ∧ n ≤ t.2) ∨ (x.1 ≤ n ∧ n ≤ x.2) from this]
        have e := inS_nil (n := n)
        simp only [e, or_false, or_assoc]
theorem lay_ok : ∀ {xs o : Sp} {m l M : Int}, LayOk o m → okFrom l xs → m ≤ l → 0 ≤ l → m ≤ M → (∀ p ∈ xs, p.1 ≤ M) → LayOk (lay o xs) M ∧ ∀ n, InS (lay o xs) n ↔ InS o n ∨ InS xs n
  | [], o, m, l, M, h, _, _, _, hM, _ => ⟨h.up hM, fun n => ⟨.inl, fun h => h.resolve_right inS_nil⟩⟩
  | x :: xs, o, m, l, M, h, hx, hm, h0, hM, hall => by
    obtain ⟨⟨a1, a2, a3⟩, a4⟩ := hx
    obtain ⟨i1, i2⟩ := lay1_ok h (x := x) (by omega) (by omega) a2 a3
    obtain ⟨j1, j2⟩ := lay_ok (xs := xs) (M := M) i1 a4 (by omega) (by omega) (hall x (by simp)) (fun p hp => hall p (by simp [hp]))
    refine ⟨j1, fun n => ?_⟩
    rw [show lay o (x :: xs) = lay (lay1 o x) xs from rfl, j2, i2, inS_cons, or_assoc]
theorem cutN_le : ∀ (a : Sp) (n : Int), cutN a n ≤ a.length
  | [], _ => by simp [cutN]
  | p :: a, n => by
    rw [cutN]
    split
    · have := cutN_le a n; simp; omega
    · simp
theorem cut_take : ∀ (a : Sp) (n : Int), ∀ p ∈ a.take (cutN a n), p.1 ≤ n
  | [], _, p, hp => by simp [cutN] at hp
  | q :: a, n, p, hp => by
    rw [cutN] at hp
    split at hp
    · rw [List.take_succ_cons] at hp
      rcases List.mem_cons.1 hp with rfl | hp
      · assumption
      · exact cut_take a n p hp
    · simp at hp
theorem okFrom_take {l : Int} {a : Sp} (k : Nat) (h : okFrom l a) : okFrom l (a.take k) := by
  have := h
  rw [← List.take_append_drop k a, okFrom_append] at this
  exact this.1
theorem cut_drop : ∀ {a : Sp} {n l : Int}, okFrom l a → okFrom n (a.drop (cutN a n))
  | [], _, _, _ => by simp [cutN, okFrom]
  | q :: a, n, l, h => by
    rw [cutN]
    split
    · rw [List.drop_succ_cons]; exact cut_drop h.2
    · exact ⟨⟨by omega, h.1.2⟩, h.2⟩
theorem both_ok : ∀ {b a o : Sp} {m la lb : Int}, LayOk o m → okFrom la a → okFrom lb b → m ≤ la → m ≤ lb → 0 ≤ la → 0 ≤ lb → okFrom 0 (both a b o) ∧ ∀ n, InS (both a b o) n ↔ InS o n ∨ InS a n ∨ InS b n
  | [], a, o, m, la, lb, h, ha, _, h1, _, h0, _ => by
    obtain ⟨M, hM⟩ : ∃ M : Int, m ≤ M ∧ ∀ p ∈ a, p.1 ≤ M := ⟨max m 9999, by omega, fun p hp => by
      obtain ⟨k, hk, rfl⟩ := List.getElem_of_mem hp
      have := okFrom_at (okFrom_mono ha h0) hk
      unfold Sp.at at this
      rw [List.getElem?_eq_getElem hk] at this
      simp only [Option.getD_some] at this
      omega⟩
    obtain ⟨i1, i2⟩ := lay_ok h ha h1 h0 hM.1 hM.2
    refine ⟨i1.ok, fun n => ?_⟩
    rw [both, i2]
    exact ⟨fun h => h.imp id .inl, fun h => h.imp id (fun h => h.resolve_right inS_nil)⟩
  | x :: b, a, o, m, la, lb, h, ha, hb, h1, h2, h0, h00 => by
    obtain ⟨⟨b1, b2, b3⟩, b4⟩ := hb
    obtain ⟨i1, i2⟩ := lay_ok (M := x.1) h (okFrom_take (cutN a x.1) ha) h1 h0 (by omega) (cut_take a x.1)
    obtain ⟨j1, j2⟩ := lay1_ok (x := x) i1 (Int.le_refl _) (by omega) b2 b3
    obtain ⟨k1, k2⟩ := both_ok (a := a.drop (cutN a x.1)) (b := b) j1 (cut_drop ha) b4 (Int.le_refl _) (by omega) (by omega) (by omega)
    refine ⟨k1, fun n => ?_⟩
    have e : InS a n ↔ InS (a.take (cutN a x.1)) n ∨ InS (a.drop (cutN a x.1)) n := by rw [← inS_append, List.take_append_drop]
    rw [both, k2, j2, i2, inS_cons, e]
    simp only [or_assoc]
    constructor
    · rintro (h | h | h | h | h) <;> simp [h]
    · rintro (h | h | h | h | h) <;> simp [h]
theorem both_nil_ok {a b : Sp} (ha : okFrom 0 a) (hb : okFrom 0 b) : okFrom 0 (both a b []) ∧ ∀ n, InS (both a b []) n ↔ InS a n ∨ InS b n := by
  obtain ⟨i1, i2⟩ := both_ok (LayOk.nil 0) ha hb (Int.le_refl _) (Int.le_refl _) (Int.le_refl _) (Int.le_refl _)
  exact ⟨i1, fun n => by rw [i2]; exact ⟨fun h => h.resolve_left inS_nil, .inr⟩⟩
theorem both_join {a b : Sp} (ha : a.ok = true) (hb : b.ok = true) : both a b [] = a.join b := by
  rw [Sp.join_yes ha hb]
  obtain ⟨i1, i2⟩ := both_nil_ok (ok_iff.1 ha) (ok_iff.1 hb)
  obtain ⟨j1, j2⟩ := join_ok (ok_iff.1 ha) (ok_iff.1 hb)
  exact sp_ext i1 j1 (fun n => by rw [i2, j2])
theorem single_ok {n : Int} (h : 0 ≤ n ∧ n ≤ 9999) : okFrom 0 [(n, n)] := ⟨⟨h.1, Int.le_refl _, h.2⟩, trivial⟩
theorem inS_single {n m : Int} : InS [(n, n)] m ↔ m = n := by
  rw [inS_cons]
  exact ⟨fun h => by have := h.resolve_right inS_nil; simp only at this; omega, fun h => .inl (by simp only; omega)⟩
theorem both_add {a : Sp} {n : Int} (ha : a.ok = true) (hn : 0 ≤ n ∧ n ≤ 9999) : both a [(n, n)] [] = (a.add n).1 ∧ (a.add n).2 = decide (¬ both a [(n, n)] [] = a) := by
  obtain ⟨i1, i2⟩ := both_nil_ok (ok_iff.1 ha) (single_ok hn)
  by_cases h : a.has n = true
  · have e : both a [(n, n)] [] = a := sp_ext i1 (ok_iff.1 ha) (fun m => by
      rw [i2, inS_single]
      exact ⟨fun e => e.elim id (fun e => by rw [e]; exact h), .inl⟩)
    rw [Sp.add_not (fun e => by rw [h] at e; cases e.2.2), e]
    simp
  · have h' : a.has n = false := by simpa using h
    rw [Sp.add_yes ha hn h']
    obtain ⟨j1, j2⟩ := put_ok (x := (n, n)) (ok_iff.1 ha) hn.1 (Int.le_refl _) hn.2
    have e : both a [(n, n)] [] = put a (n, n) false := sp_ext i1 j1 (fun m => by
      rw [i2, j2, inS_single]
      exact ⟨fun e => e.imp id (fun e => by simp only; omega), fun e => e.imp id (fun e => by simp only at e; omega)⟩)
    refine ⟨e, ?_⟩
    have ne : ¬ both a [(n, n)] [] = a := fun e => h (by
      have := (i2 n).2 (.inr (inS_single.2 rfl))
      rw [e] at this
      exact this)
    simp [ne]
/-- No span of the one meets one of the other. -/
def noMeet (a b : Sp) : Bool := a.all fun p => b.all fun q => !meet p q
theorem meet_comm (p q : Int × Int) : meet p q = meet q p := by unfold meet; rw [Bool.eq_iff_iff]; simp only [decide_eq_true_eq]; exact and_comm
theorem noMeet_nil (b : Sp) : noMeet [] b = true := rfl
theorem noMeet_comm (a b : Sp) : noMeet a b = noMeet b a := by
  unfold noMeet
  rw [Bool.eq_iff_iff]
  simp only [List.all_eq_true]
  exact ⟨fun h q hq p hp => by rw [meet_comm]; exact h p hp q hq, fun h q hq p hp => by rw [meet_comm]; exact h p hp q hq⟩
theorem okFrom_mem : ∀ {b : Sp} {l : Int}, okFrom l b → ∀ q ∈ b, l ≤ q.1 ∧ q.1 ≤ q.2 ∧ q.2 ≤ 9999
  | [], _, _, q, hq => by simp at hq
  | p :: b, l, h, q, hq => by
    rcases List.mem_cons.1 hq with rfl | hq
    · exact h.1
    · have := okFrom_mem h.2 q hq
      have := h.1
      omega
theorem noMeet_hit {p q : Int × Int} {a b : Sp} (h1 : p.1 ≤ q.1) (h2 : q.1 ≤ p.2) (h3 : q.1 ≤ q.2) : noMeet (p :: a) (q :: b) = false := by
  have : meet p q = true := by unfold meet; exact decT (by omega)
  simp [noMeet, this]
theorem noMeet_drop {p q : Int × Int} {a b : Sp} {l : Int} (h : okFrom l (q :: b)) (h2 : p.2 < q.1) : noMeet (p :: a) (q :: b) = noMeet a (q :: b) := by
  have e : (q :: b).all (fun q => !meet p q) = true := by
    rw [List.all_eq_true]
    intro r hr
    have := okFrom_mem (l := q.1) (b := q :: b) ⟨⟨Int.le_refl _, h.1.2⟩, h.2⟩ r hr
    unfold meet
    rw [decF (by omega)]
    rfl
  show ((q :: b).all _ && _) = _
  rw [e]
  rfl
theorem apart_eq (ps qs : Sp) : ps.apart qs = (ps.ok && qs.ok && noMeet ps qs) := rfl
end Go.Proofs.YtgkbhhlkaifnoaaGreatDoor
/- The walks through the program's SetOk, SetHas and SetSize. No statement of the seat is proved here. -/
namespace Go.Proofs.YtgkbhhlkaifnoaaGreatDoor
open Go.RowKit
theorem cells_of {w : World} {a : Option Addr} {len : Nat} {ps : Sp} {F : List Nat} (h : RdP w a len ps F) : len = 0 ∨ ∃ b off, a = some ⟨b, off, none⟩ ∧ b < w.heap.size ∧ SpCells w b off len ps := by
  rcases h.cells with ⟨h0, _⟩ | ⟨b, off, hp, e, _, hc⟩
  · exact .inl h0
  · exact .inr ⟨b, off, e, World.block_lt_of_cell? _ _ (hc 0 hp).1, hc⟩
theorem floorAt_succ (ps : Sp) (k : Nat) : floorAt ps (k + 1) = (ps.at k).2 + 2 := by unfold floorAt; rw [if_neg (by omega), show k + 1 - 1 = k by omega]
set_option maxRecDepth 200000 in
set_option maxHeartbeats 2000000 in
theorem setOkImpl_any (a : Option Addr) (len cap : Nat) (ps : Sp) (F : List Nat) (w : World) (h : RdP w a len ps F) (hlen : len ≤ 2097152) :
    Calls Tryz.prog 41 #[.slice a len cap] w fun e w' => e = .returned (.bool ps.ok) ∧ Below w.heap.size w w' := by
  have HL : Hid (ps.length = len) := h.length
  have HC : Hid (len = 0 ∨ ∃ b off, a = some ⟨b, off, none⟩ ∧ b < w.heap.size ∧ SpCells w b off len ps) := cells_of h
  clear h
  go_enter Tryz.func41, Tryz.ntmps41
  go_wp2
  go_loopw [3, 8] (fun q i wr => ∃ (k : Nat) (l : Int), k ≤ len ∧ i = .int .i64 k ∧ q = .int .i64 l ∧ 0 ≤ l ∧ l ≤ 10001 ∧ Hid (Below w.heap.size w wr) ∧ Hid (l = floorAt ps k ∧ ∀ j, j < k → ps.okAt j = true)) (fun _ i _ => len - (intOf i).toNat)
  case atStart => exact ⟨0, 0, by omega, rfl, rfl, by omega, by omega, Below.refl _ _, rfl, fun j hj => by omega⟩
  case round =>
    obtain ⟨k, l, hk, rfl, rfl, l0, l1, HB, HN⟩ := hrel
    by_cases hlt : k < len
    · have hca := HC.out
      rcases hca with h0 | ⟨b, off, rfl, hbw, hc⟩
      · omega
      obtain ⟨x, hx⟩ : ∃ x, x = (ps.at k).1 := ⟨_, rfl⟩
      obtain ⟨y, hy⟩ : ∃ x, x = (ps.at k).2 := ⟨_, rfl⟩
      have e := hc k hlt
      rw [← hx, ← hy] at e
      have d1 : wr.cell? ⟨b, off + k * 2, none⟩ = some (.int .i64 x) := (HB.out.cell (by exact hbw)).trans e.1
      have d2 : wr.cell? ⟨b, off + k * 2 + 1, none⟩ = some (.int .i64 y) := (HB.out.cell (by exact hbw)).trans e.2
      have HX : Hid (x = (ps.at k).1 ∧ y = (ps.at k).2) := ⟨hx, hy⟩
      have HB2 : Hid (Below w.heap.size w (wr.alloc (.cells #[.int .i64 x, .int .i64 y] 62))) := Below.allocW _ HB.out (Nat.le_refl _)
      have HOK : Hid (ps.okAt k = true ↔ l ≤ x ∧ 0 ≤ x ∧ x ≤ y ∧ y ≤ 9999) := by
        have := okAt_iff ps k
        rw [← hx, ← hy] at this
        rw [HN.out.1]
        exact this
      have hI : (k : Int) < (len : Int) := by omega
      have hkl : k < ps.length := by rw [HL.out]; exact hlt
      clear e hx hy hc HB
      by_cases c1 : x < l
      · have c1d : decide (x < l) = true := decT c1
        have HV : Hid (ps.ok = false) := Sp.ok_not hkl (by rw [Bool.eq_false_iff]; exact fun e => by have := HOK.out.1 e; omega)
        go_wp2
        go_ret
        rw [HV.out]
        exact ⟨rfl, HB2.out⟩
      have c1d : decide (x < l) = false := decF c1
      by_cases c2 : y < x
      · have c2d : decide (y < x) = true := decT c2
        have HV : Hid (ps.ok = false) := Sp.ok_not hkl (by rw [Bool.eq_false_iff]; exact fun e => by have := HOK.out.1 e; omega)
        go_wp2
        go_ret
        rw [HV.out]
        exact ⟨rfl, HB2.out⟩
      have c2d : decide (y < x) = false := decF c2
      by_cases c3 : 9999 < y
      · have c3d : decide (9999 < y) = true := decT c3
        have HV : Hid (ps.ok = false) := Sp.ok_not hkl (by rw [Bool.eq_false_iff]; exact fun e => by have := HOK.out.1 e; omega)
        go_wp2
        go_ret
        rw [HV.out]
        exact ⟨rfl, HB2.out⟩
      have c3d : decide (9999 < y) = false := decF c3
      have HN2 : Hid (y + 2 = floorAt ps (k + 1) ∧ ∀ j, j < k + 1 → ps.okAt j = true) := ⟨by rw [floorAt_succ, HX.out.2], all_up HN.out.2 (HOK.out.2 ⟨by omega, by omega, by omega, by omega⟩)⟩
      go_wp2
      go_roundw
      case rel => exact ⟨k + 1, y + 2, by omega, by go_num, by go_num, by omega, by omega, HB2, HN2⟩
      case measure => simp [intOf]; omega
    · obtain rfl : k = len := by omega
      have HV : Hid (ps.ok = true) := Sp.ok_all (fun j hj => HN.out.2 j (by rw [← HL.out]; exact hj))
      go_wp2
      go_ret
      rw [HV.out]
      exact ⟨rfl, HB.out⟩
set_option maxRecDepth 200000 in
set_option maxHeartbeats 2000000 in
theorem hasImpl_any (a : Option Addr) (len cap : Nat) (ps : Sp) (n : Int) (F : List Nat) (w : World) (h : RdP w a len ps F) (hlen : len ≤ 2097152) :
    Calls Tryz.prog 87 #[.slice a len cap, .int .i64 n] w fun e w' => e = .returned (.bool (ps.has n)) ∧ Below w.heap.size w w' := by
  have HL : Hid (ps.length = len) := h.length
  have HC : Hid (len = 0 ∨ ∃ b off, a = some ⟨b, off, none⟩ ∧ b < w.heap.size ∧ SpCells w b off len ps) := cells_of h
  clear h
  go_enter Tryz.func87, Tryz.ntmps87
  go_wp2
  go_loopw [9] (fun i wr => ∃ (k : Nat), k ≤ len ∧ i = .int .i64 k ∧ Hid (Below w.heap.size w wr) ∧ Hid (∀ j, j < k → ¬ ((ps.at j).1 ≤ n ∧ n ≤ (ps.at j).2))) (fun i _ => len - (intOf i).toNat)
  case atStart => exact ⟨0, by omega, rfl, Below.refl _ _, fun j hj => by omega⟩
  case round =>
    obtain ⟨k, hk, rfl, HB, HN⟩ := hrel
    by_cases hlt : k < len
    · have hca := HC.out
      rcases hca with h0 | ⟨b, off, rfl, hbw, hc⟩
      · omega
      obtain ⟨x, hx⟩ : ∃ x, x = (ps.at k).1 := ⟨_, rfl⟩
      obtain ⟨y, hy⟩ : ∃ x, x = (ps.at k).2 := ⟨_, rfl⟩
      have e := hc k hlt
      rw [← hx, ← hy] at e
      have d1 : wr.cell? ⟨b, off + k * 2, none⟩ = some (.int .i64 x) := (HB.out.cell (by exact hbw)).trans e.1
      have d2 : wr.cell? ⟨b, off + k * 2 + 1, none⟩ = some (.int .i64 y) := (HB.out.cell (by exact hbw)).trans e.2
      have HX : Hid (x = (ps.at k).1 ∧ y = (ps.at k).2) := ⟨hx, hy⟩
      have HB2 : Hid (Below w.heap.size w (wr.alloc (.cells #[.int .i64 x, .int .i64 y] 62))) := Below.allocW _ HB.out (Nat.le_refl _)
      have hI : (k : Int) < (len : Int) := by omega
      have hkl : k < ps.length := by rw [HL.out]; exact hlt
      clear e hx hy hc HB
      by_cases hin : x ≤ n ∧ n ≤ y
      · have HV : Hid (ps.has n = true) := Sp.has_at hkl (by rw [← HX.out.1, ← HX.out.2]; exact hin)
        have c1d : decide (x ≤ n) = true := decT hin.1
        have c2d : decide (n ≤ y) = true := decT hin.2
        go_wp2
        go_ret
        rw [HV.out]
        exact ⟨rfl, HB2.out⟩
      have HN2 : Hid (∀ j, j < k + 1 → ¬ ((ps.at j).1 ≤ n ∧ n ≤ (ps.at j).2)) := all_up HN.out (by rw [← HX.out.1, ← HX.out.2]; exact hin)
      by_cases c1 : x ≤ n
      · have c1d : decide (x ≤ n) = true := decT c1
        have c2d : decide (n ≤ y) = false := decF (fun e => hin ⟨c1, e⟩)
        clear hin c1
        go_wp2
        go_roundw
        case rel => exact ⟨k + 1, by omega, by go_num, HB2, HN2⟩
        case measure => simp [intOf]; omega
      · have c1d : decide (x ≤ n) = false := decF c1
        clear hin c1
        go_wp2
        go_roundw
        case rel => exact ⟨k + 1, by omega, by go_num, HB2, HN2⟩
        case measure => simp [intOf]; omega
    · obtain rfl : k = len := by omega
      have HV : Hid (ps.has n = false) := Sp.has_not (fun j hj => HN.out j (by rw [← HL.out]; exact hj))
      go_wp2
      go_ret
      rw [HV.out]
      exact ⟨rfl, HB.out⟩
set_option maxRecDepth 200000 in
set_option maxHeartbeats 2000000 in
theorem sizeImpl_any (a : Option Addr) (len cap : Nat) (ps : Sp) (F : List Nat) (w : World) (h : RdP w a len ps F) (hlen : len ≤ 2097152) :
    Calls Tryz.prog 23 #[.slice a len cap] w fun e w' => e = .returned (.int .i64 ps.size) ∧ Below w.heap.size w w' := by
  have HL : Hid (ps.length = len) := h.length
  have HR : Hid (RdP w a len ps F) := h
  have HC : Hid (len = 0 ∨ ∃ b off, a = some ⟨b, off, none⟩ ∧ b < w.heap.size ∧ SpCells w b off len ps) := cells_of h
  clear h
  go_enter Tryz.func23, Tryz.ntmps23
  go_wp2_with fail
  refine (setOkImpl_any a len cap ps F _ HR.out (by omega)).mono ?_
  rintro e w1 ⟨rfl, hb⟩
  have HB0 : Hid (Below w.heap.size w w1) := hb
  clear hb HR
  obtain ⟨d, hd⟩ : ∃ d, d = ps.ok := ⟨_, rfl⟩
  rw [← hd]
  have HD : Hid (d = ps.ok) := hd
  clear hd
  cases d
  · go_wp2
    go_ret
    rw [Sp.size_not HD.out.symm]
    exact ⟨rfl, HB0.out⟩
  go_wp2
  go_loopw [3, 11] (fun q i wr => ∃ (k : Nat) (u : Int), k ≤ len ∧ i = .int .i64 k ∧ q = .int .i64 u ∧ 0 ≤ u ∧ u ≤ 20971520000 ∧ Hid (Below w.heap.size w wr) ∧ Hid (u = Sp.sum (ps.take k))) (fun _ i _ => len - (intOf i).toNat)
  case atStart => exact ⟨0, 0, by omega, rfl, rfl, by omega, by omega, HB0, rfl⟩
  case round =>
    clear HB0
    obtain ⟨k, u, hk, rfl, rfl, u0, u1, HB, HN⟩ := hrel
    by_cases hlt : k < len
    · have hca := HC.out
      rcases hca with h0 | ⟨b, off, rfl, hbw, hc⟩
      · omega
      obtain ⟨x, hx⟩ : ∃ x, x = (ps.at k).1 := ⟨_, rfl⟩
      obtain ⟨y, hy⟩ : ∃ x, x = (ps.at k).2 := ⟨_, rfl⟩
      have e := hc k hlt
      have hok := (Sp.okAt_parts (Sp.ok_at HD.out.symm k (by rw [HL.out]; exact hlt))).1
      have hst := Sp.sum_step (ps := ps) (k := k) (by rw [HL.out]; exact hlt)
      have hrg := Sp.sum_range HD.out.symm (k + 1) (by rw [HL.out]; exact hlt)
      rw [← hx, ← hy] at e hok hst
      have d1 : wr.cell? ⟨b, off + k * 2, none⟩ = some (.int .i64 x) := (HB.out.cell (by exact hbw)).trans e.1
      have d2 : wr.cell? ⟨b, off + k * 2 + 1, none⟩ = some (.int .i64 y) := (HB.out.cell (by exact hbw)).trans e.2
      have HB2 : Hid (Below w.heap.size w (wr.alloc (.cells #[.int .i64 x, .int .i64 y] 62))) := Below.allocW _ HB.out (Nat.le_refl _)
      have hI : (k : Int) < (len : Int) := by omega
      have x0 : 0 ≤ x := by omega
      have x1 : x ≤ 9999 := by omega
      have y0 : 0 ≤ y := by omega
      have y1 : y ≤ 9999 := by omega
      have HN2 : Hid (u + (y - x + 1) = Sp.sum (ps.take (k + 1)) ∧ 0 ≤ u + (y - x + 1) ∧ u + (y - x + 1) ≤ 20971520000) := by
        have := HN.out
        rw [hst, ← this] at hrg
        exact ⟨by rw [hst, ← this], by omega, by omega⟩
      clear e hx hy hok hst hrg hc HB
      go_wp2
      go_roundw
      case rel => exact ⟨k + 1, u + (y - x + 1), by omega, by go_num, by go_num, HN2.out.2.1, HN2.out.2.2, HB2, HN2.out.1⟩
      case measure => simp [intOf]; omega
    · obtain rfl : k = len := by omega
      have HV : Hid (u = ps.size) := by
        show _ = _
        rw [Sp.size_ok HD.out.symm, HN.out, List.take_of_length_le (by rw [HL.out]; omega)]
      go_wp2
      go_ret
      rw [← HV.out]
      exact ⟨rfl, HB.out⟩
end Go.Proofs.YtgkbhhlkaifnoaaGreatDoor
/- The walk through the program's areSeqs. No statement of the seat is proved here. -/
namespace Go.Proofs.YtgkbhhlkaifnoaaGreatDoor
open Go.RowKit
set_option maxRecDepth 200000 in
set_option maxHeartbeats 2000000 in
theorem areSeqs_any (a : Option Addr) (len cap : Nat) (m : Int) (ps : Sp) (F : List Nat) (w : World) (h : RdP w a len ps F) (hlen : len ≤ 2097152) :
    Calls Tryz.prog 45 #[.slice a len cap, .int .i64 m] w fun e w' => e = .returned (.bool (ps.ok && ps.under m)) ∧ Below w.heap.size w w' := by
  have HL : Hid (ps.length = len ∧ RdP w a len ps F) := ⟨h.length, h⟩
  have HC : Hid (len = 0 ∨ ∃ b off, a = some ⟨b, off, none⟩ ∧ b < w.heap.size ∧ SpCells w b off len ps) := cells_of h
  clear h
  go_enter Tryz.func45, Tryz.ntmps45
  go_wp2
  go_loopw [9] (fun i wr => ∃ (k : Nat), k ≤ len ∧ i = .int .i64 k ∧ Hid (Below w.heap.size w wr) ∧ Hid (∀ j, j < k → 1 ≤ (ps.at j).1 ∧ (ps.at j).2 ≤ m)) (fun i _ => len - (intOf i).toNat)
  case atStart => exact ⟨0, by omega, rfl, Below.refl _ _, fun j hj => by omega⟩
  case round =>
    obtain ⟨k, hk, rfl, HB, HN⟩ := hrel
    by_cases hlt : k < len
    · have hca := HC.out
      rcases hca with h0 | ⟨b, off, rfl, hbw, hc⟩
      · omega
      obtain ⟨x, hx⟩ : ∃ x, x = (ps.at k).1 := ⟨_, rfl⟩
      obtain ⟨y, hy⟩ : ∃ x, x = (ps.at k).2 := ⟨_, rfl⟩
      have e := hc k hlt
      rw [← hx, ← hy] at e
      have d1 : wr.cell? ⟨b, off + k * 2, none⟩ = some (.int .i64 x) := (HB.out.cell (by exact hbw)).trans e.1
      have d2 : wr.cell? ⟨b, off + k * 2 + 1, none⟩ = some (.int .i64 y) := (HB.out.cell (by exact hbw)).trans e.2
      have HX : Hid (x = (ps.at k).1 ∧ y = (ps.at k).2 ∧ k < ps.length) := ⟨hx, hy, by rw [HL.out.1]; exact hlt⟩
      have HB2 : Hid (Below w.heap.size w (wr.alloc (.cells #[.int .i64 x, .int .i64 y] 62))) := Below.allocW _ HB.out (Nat.le_refl _)
      have hI : (k : Int) < (len : Int) := by omega
      clear e hx hy hc HB
      by_cases h1 : x < 1
      · have HV : Hid ((ps.ok && ps.under m) = false) := by
          show _ = _
          rw [Sp.under_not HX.out.2.2 (fun e => absurd e.1 (by rw [← HX.out.1]; omega)), Bool.and_false]
        go_wp2
        go_ret
        exact ⟨ret_bool HV.out.symm, HB2.out⟩
      by_cases h2 : m < y
      · have HV : Hid ((ps.ok && ps.under m) = false) := by
          show _ = _
          rw [Sp.under_not HX.out.2.2 (fun e => absurd e.2 (by rw [← HX.out.2.1]; omega)), Bool.and_false]
        go_wp2
        go_ret
        exact ⟨ret_bool HV.out.symm, HB2.out⟩
      have HN2 : Hid (∀ j, j < k + 1 → 1 ≤ (ps.at j).1 ∧ (ps.at j).2 ≤ m) := all_up HN.out ⟨by rw [← HX.out.1]; omega, by rw [← HX.out.2.1]; omega⟩
      go_wp2
      go_roundw
      case rel => exact ⟨k + 1, by omega, by go_num, HB2, HN2⟩
      case measure => simp [intOf]; omega
    · obtain rfl : k = len := by omega
      have HV : Hid (ps.under m = true) := Sp.under_all (fun j hj => HN.out j (by have := HL.out.1; omega))
      go_wp2_with fail
      refine (setOkImpl_any a k cap ps F _ (HL.out.2.below HB.out) hlen).mono ?_
      rintro e w2 ⟨rfl, hb2⟩
      have HB2 : Hid (Below w.heap.size w w2) := Below.next HB.out hb2
      clear hb2
      obtain ⟨d, hd⟩ : ∃ d, d = ps.ok := ⟨_, rfl⟩
      rw [← hd]
      have HD : Hid (d = ps.ok) := hd
      clear hd
      go_wp2
      go_ret
      rw [HV.out, Bool.and_true]
      exact ⟨ret_bool HD.out, HB2.out⟩
end Go.Proofs.YtgkbhhlkaifnoaaGreatDoor
/- The walk through the program's laying of spans behind a set that it makes. No statement of the seat is proved here. -/
namespace Go.Proofs.YtgkbhhlkaifnoaaGreatDoor
open Go.RowKit
theorem lay1_apart {o : Sp} {x : Int × Int} (h : o = [] ∨ (o.at (o.length - 1)).2 + 1 < x.1) : lay1 o x = o ++ [x] := by unfold lay1; rw [if_pos h]
theorem lay1_widen {o : Sp} {x : Int × Int} (h : ¬ (o = [] ∨ (o.at (o.length - 1)).2 + 1 < x.1)) : lay1 o x = o.take (o.length - 1) ++ [((o.at (o.length - 1)).1, max (o.at (o.length - 1)).2 x.2)] := by unfold lay1; rw [if_neg h]
theorem lay_drop {o xs : Sp} {k : Nat} (hk : k < xs.length) : lay o (xs.drop k) = lay (lay1 o (xs.at k)) (xs.drop (k + 1)) := by rw [drop_at hk]; rfl
theorem lay1_inb {o : Sp} {x : Int × Int} (h : ∀ p ∈ o, InB p) (hx : InB x) : ∀ p ∈ lay1 o x, InB p := by
  intro p hp
  unfold lay1 at hp
  split at hp
  · rcases List.mem_append.1 hp with hp | hp
    · exact h p hp
    · obtain rfl : p = x := by simpa using hp
      exact hx
  · rename_i hc
    rcases List.mem_append.1 hp with hp | hp
    · exact h p (List.mem_of_mem_take hp)
    · have e : p = ((o.at (o.length - 1)).1, max (o.at (o.length - 1)).2 x.2) := by simpa using hp
      have hne : 0 < o.length := List.length_pos_iff.2 (fun e => hc (.inl e))
      have := h _ (Sp.at_mem (ps := o) (k := o.length - 1) (by omega))
      subst e
      unfold InB at this hx ⊢
      simp only
      omega
theorem lay1_length (o : Sp) (x : Int × Int) : (lay1 o x).length ≤ o.length + 1 := by
  unfold lay1
  split
  · simp
  · simp
theorem lay_length : ∀ (xs o : Sp), (lay o xs).length ≤ o.length + xs.length
  | [], o => by simp [lay]
  | x :: xs, o => by
    have h1 := lay_length xs (lay1 o x)
    have h2 := lay1_length o x
    rw [show lay o (x :: xs) = lay (lay1 o x) xs from rfl]
    simp
    omega
theorem lay_inb : ∀ {xs o : Sp}, (∀ p ∈ o, InB p) → (∀ p ∈ xs, InB p) → ∀ p ∈ lay o xs, InB p
  | [], _, h, _ => h
  | x :: xs, o, h, hx => lay_inb (xs := xs) (lay1_inb h (hx x (by simp))) (fun p hp => hx p (by simp [hp]))
theorem flat_widen {o : Sp} {m : Nat} (hm : o.length = m + 1) (z : Int) : flat (o.take m ++ [((o.at m).1, z)]) = (flat o).set (m * 2 + 1) z := by
  have e : o = o.take m ++ [o.at m] := by
    have := takeP_succ o m (by omega)
    rw [List.take_of_length_le (by omega)] at this
    exact this
  have hl : (flat (o.take m)).length = m * 2 := by rw [flat_length]; simp; omega
  conv => rhs; rw [e]
  rw [flat_append, flat_append, List.set_append_right (m * 2 + 1) _ (by omega), hl, show m * 2 + 1 - m * 2 = 1 by omega]
  simp [flat]
/-- The set that is made: what it holds, and that nothing else was written since w. -/
structure LayAt (w : World) (B : Nat) (v0 v : Value) (o : Sp) (W : World) : Prop where
  own : W.ownsRow B 62 2 v o.length ((flat o).map (Value.int .i64))
  grown : w.grownBy W v0.ownBlock
  fresh : v.ownBlock = v0.ownBlock ∨ ∀ g, v.ownBlock = some g → w.heap.size ≤ g
theorem LayAt.alloc {w W : World} {B : Nat} {v0 v : Value} {o : Sp} (h : LayAt w B v0 v o W) (ob : Obj) : LayAt w B v0 v o (W.alloc ob) :=
  ⟨h.own.alloc _, ⟨h.grown.os, h.grown.tape, h.grown.output, by have := h.grown.size; simp; omega, fun k hk hne => (Below.heap_alloc W ob k (by have := h.grown.size; omega)).trans (h.grown.block k hk hne)⟩, h.fresh⟩
theorem LayAt.drewN {w W : World} {B : Nat} {v0 v : Value} {o : Sp} (h : LayAt w B v0 v o W) (m : Nat) : LayAt w B v0 v o (W.drewN m) :=
  ⟨⟨h.own.1, h.own.2⟩, ⟨h.grown.os, h.grown.tape, h.grown.output, h.grown.size, h.grown.block⟩, h.fresh⟩
theorem LayAt.app {w W W6 : World} {B : Nat} {v0 v v' : Value} {o : Sp} {p q : Int} {ob : Obj} (h : LayAt w B v0 v o W) (hown : W6.ownsRow B 62 2 v' (o.length + 1) ((flat o).map (Value.int .i64) ++ [.int .i64 p, .int .i64 q])) (hgrow : (W.alloc ob).grownBy W6 v.ownBlock) (hob : v'.ownBlock = v.ownBlock ∨ v'.ownBlock = some (W.alloc ob).heap.size) : LayAt w B v0 v' (o ++ [(p, q)]) W6 := by
  have ha := h.alloc ob
  refine ⟨?_, ⟨hgrow.os.trans ha.grown.os, hgrow.tape.trans ha.grown.tape, hgrow.output.trans ha.grown.output, Nat.le_trans ha.grown.size hgrow.size, fun k hk hne => ?_⟩, ?_⟩
  · rw [flat_append, List.map_append, List.length_append]
    exact hown
  · refine (hgrow.block k (Nat.lt_of_lt_of_le hk ha.grown.size) (fun e => ?_)).trans (ha.grown.block k hk hne)
    rcases h.fresh with f | f
    · exact hne (e.trans f)
    · have := f k e.symm; omega
  · rcases hob with e | e
    · rw [e]; exact h.fresh
    · right
      intro g hg
      rw [e] at hg
      cases hg
      exact ha.grown.size
theorem LayAt.widen {w W : World} {B g n cap m : Nat} {v0 : Value} {o : Sp} (h : LayAt w B v0 (.slice (some ⟨g, 0, none⟩) n cap) o W) (hm : o.length = m + 1) (z : Int) : LayAt w B v0 (.slice (some ⟨g, 0, none⟩) n cap) (o.take m ++ [((o.at m).1, z)]) (W.setCell ⟨g, m * 2 + 1, none⟩ (.int .i64 z)) := by
  refine ⟨?_, ⟨h.grown.os, h.grown.tape, h.grown.output, by have := h.grown.size; simp; omega, fun k hk hne => ?_⟩, h.fresh⟩
  · have hl : (o.take m ++ [((o.at m).1, z)]).length = o.length := by simp; omega
    rw [hl, flat_widen hm]
    refine ⟨by have := h.own.1; simpa using this, ?_⟩
    rcases h.own.2 with ⟨e, _⟩ | ⟨g', cap', cur, e, h2, h3, h4, h5, h6, h7⟩
    · cases e
    · cases e
      refine .inr ⟨g, cap, cur.setIfInBounds (m * 2 + 1) (.int .i64 z), rfl, h2, ?_, h4, h5, by simpa using h6, ?_⟩
      · exact Blk.set (w := W) (g := g) (cs := cur) h3 (m * 2 + 1) _
      · rw [Array.toList_setIfInBounds, List.take_set, h7]
        simp
  · have hg : k ≠ g := by
      rintro rfl
      rcases h.fresh with f | f
      · exact hne f
      · have := f k rfl; omega
    exact (Below.heap_setCell W ⟨g, m * 2 + 1, none⟩ _ k hg).trans (h.grown.block k hk hne)
theorem LayAt.cells {w W : World} {B g n cap : Nat} {v0 : Value} {o : Sp} (h : LayAt w B v0 (.slice (some ⟨g, 0, none⟩) n cap) o W) {m : Nat} (hm : m < o.length) : W.cell? ⟨g, m * 2, none⟩ = some (.int .i64 (o.at m).1) ∧ W.cell? ⟨g, m * 2 + 1, none⟩ = some (.int .i64 (o.at m).2) ∧ ∀ j, W.frozen? ⟨g, j, none⟩ = false := by
  have hn : o.length = n := by
    rcases h.own.2 with ⟨e, _⟩ | ⟨g', cap', cur, e, _⟩
    · cases e
    · cases e; rfl
  have own := h.own
  rw [hn] at own
  have hl := flat_length o
  have e1 := own.cellAt (m * 2) (by omega)
  have e2 := own.cellAt (m * 2 + 1) (by omega)
  refine ⟨?_, ?_, fun j => own.frozenAt j⟩
  · rw [e1]
    have := flat_lo o m
    rw [show 2 * m = m * 2 by omega, List.getElem?_eq_getElem (by omega)] at this
    simp only [List.getElem?_map, List.getElem?_eq_getElem (show m * 2 < (flat o).length by omega), Option.map_some]
    unfold Sp.at
    rw [← this]; rfl
  · rw [e2]
    have := flat_hi o m
    rw [show 2 * m = m * 2 by omega, List.getElem?_eq_getElem (by omega)] at this
    simp only [List.getElem?_map, List.getElem?_eq_getElem (show m * 2 + 1 < (flat o).length by omega), Option.map_some]
    unfold Sp.at
    rw [← this]; rfl
end Go.Proofs.YtgkbhhlkaifnoaaGreatDoor
/- The walk through the program's laying of spans behind a set that it makes. No statement of the seat is proved here. -/
namespace Go.Proofs.YtgkbhhlkaifnoaaGreatDoor
open Go.RowKit
/-- A set of the maker's own: not nil. -/
theorem own_cases {W : World} {B e n : Nat} {v : Value} {xs : List Value} (h : W.ownsRow B e 2 v n xs) : (v = .slice none 0 0 ∧ n = 0) ∨ ∃ g cap n', v = .slice (some ⟨g, 0, none⟩) n' cap ∧ n' = n ∧ n ≤ cap := by
  rcases h.2 with e | ⟨g, cap, cur, e, _, _, h4, _⟩
  · exact .inl e
  · exact .inr ⟨g, cap, n, e, rfl, h4⟩
set_option maxRecDepth 100000 in
set_option maxHeartbeats 8000000 in
theorem laid_any (B : Nat) (v0 : Value) (o0 : Sp) (a : Option Addr) (len cap : Nat) (xs : Sp) (F : List Nat) (w : World) (hown : w.ownsRow B 62 2 v0 o0.length ((flat o0).map (Value.int .i64))) (hB : B ≤ w.heap.size) (h : RdP w a len xs F) (hF : ∀ b ∈ F, some b ≠ v0.ownBlock) (hlen : o0.length + len ≤ 4194304) (ho : ∀ p ∈ o0, InB p) (hx : ∀ p ∈ xs, InB p) :
    Calls Tryz.prog 79 #[v0, .slice a len cap] w fun e w' => ∃ v, e = .returned v ∧ LayAt w B v0 v (lay o0 xs) w' := by
  obtain ⟨t0, hi, hz0, hz1, hz2⟩ := info_parts infoSpan
  have HL : Hid (xs.length = len) := h.length
  have HIN : Hid (∀ p ∈ xs, InB p) := hx
  have HP0 : Hid (LayAt w B v0 v0 o0 w) := ⟨hown, ⟨rfl, rfl, rfl, Nat.le_refl _, fun _ _ _ => rfl⟩, .inl rfl⟩
  have HI0 : Hid (∀ p ∈ o0, InB p) := ho
  have HC : Hid (len = 0 ∨ ∃ b off, a = some ⟨b, off, none⟩ ∧ (b < w.heap.size ∧ some b ≠ v0.ownBlock) ∧ SpCells w b off len xs) := by
    rcases h.cells with ⟨h0, _⟩ | ⟨b, off, hp, e, hFb, hc⟩
    · exact .inl h0
    · exact .inr ⟨b, off, e, ⟨World.block_lt_of_cell? _ _ (hc 0 hp).1, hF b (by rw [hFb]; simp)⟩, hc⟩
  clear h hown hF ho hx
  go_enter Tryz.func79, Tryz.ntmps79
  go_wp2
  go_loopw [0, 10] (fun v i wr => ∃ (k : Nat) (o : Sp), k ≤ len ∧ i = .int .i64 k ∧ o.length ≤ o0.length + k ∧ Hid (LayAt w B v0 v o wr) ∧ Hid (∀ p ∈ o, InB p) ∧ Hid (lay o (xs.drop k) = lay o0 xs)) (fun _ i _ => len - (intOf i).toNat)
  case atStart => exact ⟨0, o0, by omega, rfl, by omega, HP0, HI0, rfl⟩
  case round =>
    clear HP0 HI0
    obtain ⟨k, o, hk, rfl, hol, HP, HI, HN⟩ := hrel
    by_cases hlt : k < len
    · have hca := HC.out
      rcases hca with h0 | ⟨b, off, rfl, hbw, hc⟩
      · omega
      obtain ⟨x, hx⟩ : ∃ x, x = (xs.at k).1 := ⟨_, rfl⟩
      obtain ⟨y, hy⟩ : ∃ x, x = (xs.at k).2 := ⟨_, rfl⟩
      have e := hc k hlt
      have hkl : k < xs.length := by rw [HL.out]; exact hlt
      have hb := HIN.out _ (Sp.at_mem hkl)
      have HXY : Hid (xs.at k = (x, y)) := by rw [hx, hy]; rfl
      rw [HXY.out] at hb e
      have HINX : Hid (InB (x, y)) := hb
      obtain ⟨⟨x0, x1⟩, y0, y1⟩ := hb
      have hblk := HP.out.grown.block b hbw.1 hbw.2
      have d1 : wr.cell? ⟨b, off + k * 2, none⟩ = some (.int .i64 x) := (World.cell?_of_block (w := w) (a := ⟨b, off + k * 2, none⟩) hblk).trans e.1
      have d2 : wr.cell? ⟨b, off + k * 2 + 1, none⟩ = some (.int .i64 y) := (World.cell?_of_block (w := w) (a := ⟨b, off + k * 2 + 1, none⟩) hblk).trans e.2
      have hI : (k : Int) < (len : Int) := by omega
      have HBW : Hid (B ≤ wr.heap.size) := Nat.le_trans hB HP.out.grown.size
      clear e hx hy hc hblk
      have hos := own_cases HP.out.own
      rcases hos with ⟨rfl, h0⟩ | ⟨g, cp, nn, rfl, hnn, hcp⟩
      · have HLA : Hid (lay1 o (x, y) = o ++ [(x, y)]) := lay1_apart (.inl (List.eq_nil_of_length_eq_zero h0))
        have HN2 : Hid (lay (o ++ [(x, y)]) (xs.drop (k + 1)) = lay o0 xs) := by
          rw [lay_drop hkl, HXY.out, HLA.out] at HN
          exact HN
        have HI2 : Hid (∀ p ∈ o ++ [(x, y)], InB p) := by rw [← HLA.out]; exact lay1_inb HI.out HINX.out
        go_wp2
        go_quiet (fail)
        obtain ⟨wq, hwq⟩ : ∃ W, W = (wr.alloc (.cells #[.int .i64 x, .int .i64 y] 62)).drewN nq := ⟨_, rfl⟩
        have HPq : Hid (LayAt w B v0 (.slice none 0 0) o wq) := by rw [hwq]; exact (HP.out.alloc _).drewN nq
        have b1 : wq.cell? ⟨wr.heap.size, 0, none⟩ = some (.int .i64 x) := by rw [hwq]; exact (Blk.made wr _ _).cell 0
        have b2 : wq.cell? ⟨wr.heap.size, 1, none⟩ = some (.int .i64 y) := by rw [hwq]; exact (Blk.made wr _ _).cell 1
        have HBq : Hid (B ≤ wq.heap.size) := by have := HBW.out; rw [hwq]; simp [World.drewN]; show _ ≤ _; omega
        rw [← hwq]
        clear hwq HP
        go_wp2_with (first | go_skip | (with_reducible refine stopAppend2 rfl ?_))
        refine Stop.intro (wpList_append_own_at _ rfl _ _ 25 rfl B 62 t0 (.agg #[.int .i64 0, .int .i64 0]) 2 16 Tryz.underlying25 hi hz0 hz1 hz2 rfl (by decide) _ (o).length ((flat (o)).map (Value.int .i64)) rfl (HPq.out.own.alloc _) ⟨wq.heap.size, 0, none⟩ 1 1 [.int .i64 x, .int .i64 y] rfl rfl (cell_new2 _ _ _ _) (by intro u hu; simp at hu; rcases hu with rfl | rfl <;> rfl) (by unfold maxLen; omega) (by omega) (by have := HBq.out; simp; omega) ?_)
        intro v2 w2 hown hgrow _ hob
        have HP2 : Hid (LayAt w B v0 v2 (o ++ [(x, y)]) w2) := HPq.out.app hown hgrow hob
        clear hown hgrow HPq hob
        go_wp2
        go_roundw
        case rel => exact ⟨k + 1, o ++ [(x, y)], by omega, by go_num, by simp; omega, HP2, HI2, HN2⟩
        case measure => simp [intOf]; omega
      have HNN : Hid (nn = o.length) := hnn
      clear hnn hcp
      rcases nn with _ | m
      · have HLA : Hid (lay1 o (x, y) = o ++ [(x, y)]) := lay1_apart (.inl (List.eq_nil_of_length_eq_zero HNN.out.symm))
        have HN2 : Hid (lay (o ++ [(x, y)]) (xs.drop (k + 1)) = lay o0 xs) := by
          rw [lay_drop hkl, HXY.out, HLA.out] at HN
          exact HN
        have HI2 : Hid (∀ p ∈ o ++ [(x, y)], InB p) := by rw [← HLA.out]; exact lay1_inb HI.out HINX.out
        go_wp2
        go_quiet (fail)
        obtain ⟨wq, hwq⟩ : ∃ W, W = (wr.alloc (.cells #[.int .i64 x, .int .i64 y] 62)).drewN nq := ⟨_, rfl⟩
        have HPq : Hid (LayAt w B v0 (.slice (some ⟨g, 0, none⟩) 0 cp) o wq) := by rw [hwq]; exact (HP.out.alloc _).drewN nq
        have b1 : wq.cell? ⟨wr.heap.size, 0, none⟩ = some (.int .i64 x) := by rw [hwq]; exact (Blk.made wr _ _).cell 0
        have b2 : wq.cell? ⟨wr.heap.size, 1, none⟩ = some (.int .i64 y) := by rw [hwq]; exact (Blk.made wr _ _).cell 1
        have HBq : Hid (B ≤ wq.heap.size) := by have := HBW.out; rw [hwq]; simp [World.drewN]; show _ ≤ _; omega
        rw [← hwq]
        clear hwq HP
        go_wp2_with (first | go_skip | (with_reducible refine stopAppend2 rfl ?_))
        refine Stop.intro (wpList_append_own_at _ rfl _ _ 25 rfl B 62 t0 (.agg #[.int .i64 0, .int .i64 0]) 2 16 Tryz.underlying25 hi hz0 hz1 hz2 rfl (by decide) _ (o).length ((flat (o)).map (Value.int .i64)) rfl (HPq.out.own.alloc _) ⟨wq.heap.size, 0, none⟩ 1 1 [.int .i64 x, .int .i64 y] rfl rfl (cell_new2 _ _ _ _) (by intro u hu; simp at hu; rcases hu with rfl | rfl <;> rfl) (by unfold maxLen; omega) (by omega) (by have := HBq.out; simp; omega) ?_)
        intro v2 w2 hown hgrow _ hob
        have HP2 : Hid (LayAt w B v0 v2 (o ++ [(x, y)]) w2) := HPq.out.app hown hgrow hob
        clear hown hgrow HPq hob
        go_wp2
        go_roundw
        case rel => exact ⟨k + 1, o ++ [(x, y)], by omega, by go_num, by simp; omega, HP2, HI2, HN2⟩
        case measure => simp [intOf]; omega
      have hm : o.length = m + 1 := HNN.out.symm
      obtain ⟨s, hs⟩ : ∃ x, x = (o.at m).1 := ⟨_, rfl⟩
      obtain ⟨t, ht⟩ : ∃ x, x = (o.at m).2 := ⟨_, rfl⟩
      have hcm := HP.out.cells (m := m) (by omega)
      have him := HI.out _ (Sp.at_mem (ps := o) (k := m) (by omega))
      unfold InB at him
      rw [← hs, ← ht] at hcm him
      have HST : Hid (o.at (o.length - 1) = (s, t)) := by rw [hm, show m + 1 - 1 = m by omega, hs, ht]; rfl
      obtain ⟨f1, f2, f3⟩ := hcm
      obtain ⟨⟨s0, s1⟩, t1, t2⟩ := him
      have HFZ : Hid (∀ j, wr.frozen? ⟨g, j, none⟩ = false) := f3
      have gd : decide ((m : Int) < 0) = false := decF (by omega)
      have hI3 : (m : Int) < (m : Int) + 1 := by omega
      have hM : m ≤ 4194304 := by omega
      have HNE : Hid (¬ o = []) := fun e => by rw [e] at hm; simp at hm
      have HM : Hid (o.length = m + 1) := hm
      clear hs ht f3 hm
      by_cases c : t + 1 < x
      · have cd : decide (t + 1 < x) = true := decT c
        have HLA : Hid (lay1 o (x, y) = o ++ [(x, y)]) := lay1_apart (.inr (by rw [HST.out]; exact c))
        have HN2 : Hid (lay (o ++ [(x, y)]) (xs.drop (k + 1)) = lay o0 xs) := by
          rw [lay_drop hkl, HXY.out, HLA.out] at HN
          exact HN
        have HI2 : Hid (∀ p ∈ o ++ [(x, y)], InB p) := by rw [← HLA.out]; exact lay1_inb HI.out HINX.out
        go_wp2
        obtain ⟨wa, hwa⟩ : ∃ W, W = wr.alloc (.cells #[.int .i64 x, .int .i64 y] 62) := ⟨_, rfl⟩
        have HPa : Hid (LayAt w B v0 (.slice (some ⟨g, 0, none⟩) (m + 1) cp) o wa) := by rw [hwa]; exact HP.out.alloc _
        have a1 : wa.cell? ⟨wr.heap.size, 0, none⟩ = some (.int .i64 x) := by rw [hwa]; exact (Blk.made wr _ _).cell 0
        have a2 : wa.cell? ⟨wr.heap.size, 1, none⟩ = some (.int .i64 y) := by rw [hwa]; exact (Blk.made wr _ _).cell 1
        have a3 : wa.cell? ⟨g, m * 2 + 1, none⟩ = some (.int .i64 t) := by
          have e4 := (HPa.out.cells (m := m) (by have := HM.out; omega)).2.1
          have e5 := HST.out
          rw [HM.out, show m + 1 - 1 = m by omega] at e5
          rw [e5] at e4
          exact e4
        have HBa : Hid (B ≤ wa.heap.size) := by have := HBW.out; rw [hwa]; simp; show _ ≤ _; omega
        rw [← hwa]
        clear hwa HP f1 f2
        go_quiet (fail)
        obtain ⟨wq, hwq⟩ : ∃ W, W = wa.drewN nq := ⟨_, rfl⟩
        have HPq : Hid (LayAt w B v0 (.slice (some ⟨g, 0, none⟩) (m + 1) cp) o wq) := by rw [hwq]; exact HPa.out.drewN nq
        have b1 : wq.cell? ⟨wr.heap.size, 0, none⟩ = some (.int .i64 x) := by rw [hwq]; exact a1
        have b2 : wq.cell? ⟨wr.heap.size, 1, none⟩ = some (.int .i64 y) := by rw [hwq]; exact a2
        have HBq : Hid (B ≤ wq.heap.size) := by rw [hwq]; exact HBa.out
        rw [← hwq]
        clear hwq HPa a1 a2 a3
        go_wp2_with (first | go_skip | (with_reducible refine stopAppend2 rfl ?_))
        refine Stop.intro (wpList_append_own_at _ rfl _ _ 25 rfl B 62 t0 (.agg #[.int .i64 0, .int .i64 0]) 2 16 Tryz.underlying25 hi hz0 hz1 hz2 rfl (by decide) _ (o).length ((flat (o)).map (Value.int .i64)) rfl (HPq.out.own.alloc _) ⟨wq.heap.size, 0, none⟩ 1 1 [.int .i64 x, .int .i64 y] rfl rfl (cell_new2 _ _ _ _) (by intro u hu; simp at hu; rcases hu with rfl | rfl <;> rfl) (by unfold maxLen; omega) (by omega) (by have := HBq.out; simp; omega) ?_)
        intro v2 w2 hown hgrow _ hob
        have HP2 : Hid (LayAt w B v0 v2 (o ++ [(x, y)]) w2) := HPq.out.app hown hgrow hob
        clear hown hgrow HPq hob
        go_wp2
        go_roundw
        case rel => exact ⟨k + 1, o ++ [(x, y)], by omega, by go_num, by simp; omega, HP2, HI2, HN2⟩
        case measure => simp [intOf]; omega
      have cd : decide (t + 1 < x) = false := decF c
      have HLA : Hid (lay1 o (x, y) = o.take m ++ [((o.at m).1, max t y)]) := by
        have := lay1_widen (o := o) (x := (x, y)) (fun e => by rw [HST.out] at e; exact e.elim HNE.out c)
        show _ = _
        rw [this, HST.out, HM.out, show m + 1 - 1 = m by omega]
        have e2 := HST.out
        rw [HM.out, show m + 1 - 1 = m by omega] at e2
        rw [e2]
      have HN2 : Hid (lay (o.take m ++ [((o.at m).1, max t y)]) (xs.drop (k + 1)) = lay o0 xs) := by
        rw [lay_drop hkl, HXY.out, HLA.out] at HN
        exact HN
      have HI2 : Hid (∀ p ∈ o.take m ++ [((o.at m).1, max t y)], InB p) := by rw [← HLA.out]; exact lay1_inb HI.out HINX.out
      go_wp2
      obtain ⟨wa, hwa⟩ : ∃ W, W = wr.alloc (.cells #[.int .i64 x, .int .i64 y] 62) := ⟨_, rfl⟩
      have HPa : Hid (LayAt w B v0 (.slice (some ⟨g, 0, none⟩) (m + 1) cp) o wa) := by rw [hwa]; exact HP.out.alloc _
      have a1 : wa.cell? ⟨wr.heap.size, 0, none⟩ = some (.int .i64 x) := by rw [hwa]; exact (Blk.made wr _ _).cell 0
      have a2 : wa.cell? ⟨wr.heap.size, 1, none⟩ = some (.int .i64 y) := by rw [hwa]; exact (Blk.made wr _ _).cell 1
      have a3 : wa.cell? ⟨g, m * 2 + 1, none⟩ = some (.int .i64 t) := by
        have e4 := (HPa.out.cells (m := m) (by have := HM.out; omega)).2.1
        have e5 := HST.out
        rw [HM.out, show m + 1 - 1 = m by omega] at e5
        rw [e5] at e4
        exact e4
      have HBa : Hid (B ≤ wa.heap.size) := by have := HBW.out; rw [hwa]; simp; show _ ≤ _; omega
      rw [← hwa]
      clear hwa HP f1 f2
      go_quiet (fail)
      obtain ⟨wq, hwq⟩ : ∃ W, W = wa.drewN nq := ⟨_, rfl⟩
      have HPq : Hid (LayAt w B v0 (.slice (some ⟨g, 0, none⟩) (m + 1) cp) o wq) := by rw [hwq]; exact HPa.out.drewN nq
      have b1 : wq.cell? ⟨wr.heap.size, 0, none⟩ = some (.int .i64 x) := by rw [hwq]; exact a1
      have b2 : wq.cell? ⟨wr.heap.size, 1, none⟩ = some (.int .i64 y) := by rw [hwq]; exact a2
      have hcq := HPq.out.cells (m := m) (by have := HM.out; omega)
      have e3 := HST.out
      rw [HM.out, show m + 1 - 1 = m by omega] at e3
      rw [e3] at hcq
      obtain ⟨f1, f2, f3⟩ := hcq
      have f4 := f3 (m * 2 + 1)
      rw [← hwq]
      have HPw : Hid (LayAt w B v0 (.slice (some ⟨g, 0, none⟩) (m + 1) cp) (o.take m ++ [((o.at m).1, max t y)]) (wq.setCell ⟨g, m * 2 + 1, none⟩ (.int .i64 (max t y)))) := HPq.out.widen HM.out _
      clear hwq HPa a1 a2 a3 f3 e3 HPq
      go_wp2
      go_region
      go_wp2
      go_roundw
      case rel => exact ⟨k + 1, o.take m ++ [((o.at m).1, max t y)], by omega, by go_num, by have := HM.out; simp; omega, (by rw [show (if t < y then y else t) = max t y by split <;> omega]; exact HPw.out.drewN 1), HI2, HN2⟩
      case measure => simp [intOf]; omega
    · obtain rfl : k = len := by omega
      have HV : Hid (o = lay o0 xs) := by
        have := HN.out
        rw [List.drop_eq_nil_of_le (by rw [HL.out]; omega)] at this
        exact this
      go_wp2
      go_ret
      rw [← HV.out]
      exact ⟨_, rfl, HP.out⟩
end Go.Proofs.YtgkbhhlkaifnoaaGreatDoor
/- The walks through the program's cutting of a set, and its going through two sets. No statement of the seat is proved here. -/
namespace Go.Proofs.YtgkbhhlkaifnoaaGreatDoor
open Go.RowKit
theorem flat_take : ∀ (ps : Sp) (k : Nat), flat (ps.take k) = (flat ps).take (2 * k)
  | [], k => by simp [flat]
  | p :: ps, 0 => by simp [flat]
  | p :: ps, k + 1 => by rw [List.take_succ_cons, flat, flat, flat_take ps k, show 2 * (k + 1) = 2 * k + 1 + 1 by omega, List.take_succ_cons, List.take_succ_cons]
theorem flat_drop : ∀ (ps : Sp) (k : Nat), flat (ps.drop k) = (flat ps).drop (2 * k)
  | [], k => by simp [flat]
  | p :: ps, 0 => by simp [flat]
  | p :: ps, k + 1 => by rw [List.drop_succ_cons, flat, flat_drop ps k, show 2 * (k + 1) = 2 * k + 1 + 1 by omega, List.drop_succ_cons, List.drop_succ_cons]
theorem RdP.take {w : World} {a : Option Addr} {len : Nat} {ps : Sp} {F : List Nat} (h : RdP w a len ps F) {k : Nat} (hk : k ≤ len) : ∃ G, RdP w a k (ps.take k) G ∧ ∀ b ∈ G, b ∈ F := by
  have hl := h.length
  by_cases h0 : k = 0
  · subst h0
    exact ⟨[], by simpa using (RdP.nil (w := w) (a := a)), by simp⟩
  · rcases h.rd.cells with ⟨e, _⟩ | ⟨b, off, hp, e, eF, hc⟩
    · omega
    · refine ⟨F, ⟨by simp; omega, ?_, .inr ⟨b, off, by omega, e, eF, fun i hi => ?_⟩⟩, fun b hb => hb⟩
      · rw [flat_length]; simp; omega
      · rw [hc i (by omega), flat_take]
        simp [List.getD_eq_getElem?_getD, hi]
theorem RdP.drop {w : World} {b off len : Nat} {ps : Sp} {F : List Nat} (h : RdP w (some ⟨b, off, none⟩) len ps F) {k : Nat} (hk : k < len) : RdP w (some ⟨b, off + k * 2, none⟩) (len - k) (ps.drop k) F := by
  have hl := h.length
  rcases h.rd.cells with ⟨e, _⟩ | ⟨b', off', hp, e, eF, hc⟩
  · omega
  · obtain ⟨rfl, rfl⟩ : b = b' ∧ off = off' := by simpa using e
    refine ⟨by simp; omega, ?_, .inr ⟨b, off + k * 2, by omega, rfl, eF, fun i hi => ?_⟩⟩
    · rw [flat_length]; simp; omega
    · rw [show off + k * 2 + i = off + (2 * k + i) by omega, hc (2 * k + i) (by omega), flat_drop]
      simp [List.getD_eq_getElem?_getD]
theorem cutN_at {ps : Sp} {k : Nat} {n : Int} (hk : k < ps.length) (h : (ps.at k).1 ≤ n) : cutN (ps.drop k) n = cutN (ps.drop (k + 1)) n + 1 := by rw [drop_at hk, cutN, if_pos h]
theorem cutN_stop {ps : Sp} {k : Nat} {n : Int} (hk : k < ps.length) (h : ¬ (ps.at k).1 ≤ n) : cutN (ps.drop k) n = 0 := by rw [drop_at hk, cutN, if_neg h]
/-- What a cut tells: the part ahead, the part behind, both out of what was there. -/
def CutTo (w : World) (ps : Sp) (F : List Nat) (k : Nat) (e : Ending) (w' : World) : Prop :=
  ∃ a1 l1 c1 a2 l2 c2 F1 F2, e = .returned (.tuple #[.slice a1 l1 c1, .slice a2 l2 c2]) ∧ RdP w a1 l1 (ps.take k) F1 ∧ RdP w a2 l2 (ps.drop k) F2 ∧ (∀ b ∈ F1, b ∈ F) ∧ (∀ b ∈ F2, b ∈ F) ∧ l2 ≤ c2 ∧ QuietTo w w'
set_option maxRecDepth 200000 in
set_option maxHeartbeats 4000000 in
theorem cutAt_any (a : Option Addr) (len cap : Nat) (ps : Sp) (n : Int) (F : List Nat) (w : World) (h : RdP w a len ps F) (hlen : len ≤ 4194304) (hcap : len ≤ cap) :
    Calls Tryz.prog 78 #[.slice a len cap, .int .i64 n] w fun e w' => CutTo w ps F (cutN ps n) e w' := by
  have HL : Hid (ps.length = len) := h.length
  have HR : Hid (RdP w a len ps F) := h
  have HC : Hid (len = 0 ∨ ∃ b off, a = some ⟨b, off, none⟩ ∧ b < w.heap.size ∧ SpCells w b off len ps) := cells_of h
  have HS : Hid (∀ k, k ≤ len → ∀ w', QuietTo w w' → CutTo w ps F k (.returned (.tuple #[.slice a k k, .slice (if len = k then a else a.map (·.add (k * 2))) (len - k) (len - k)])) w') := by
    intro k hk w' hq
    obtain ⟨F1, r1, g1⟩ := h.take hk
    by_cases e : len = k
    · refine ⟨_, _, _, _, _, _, F1, [], rfl, r1, ?_, g1, by simp, Nat.le_refl _, hq⟩
      rw [List.drop_eq_nil_of_le (by rw [h.length]; omega), show len - k = 0 by omega]
      exact RdP.nil
    · rcases cells_of h with h0 | ⟨b, off, rfl, _, _⟩
      · omega
      · refine ⟨_, _, _, _, _, _, F1, F, rfl, r1, ?_, g1, fun b hb => hb, Nat.le_refl _, hq⟩
        rw [if_neg e]
        simp only [Option.map_some, Addr.add_lit]
        exact h.drop (k := k) (by omega)
  clear h
  go_enter Tryz.func78, Tryz.ntmps78
  go_wp2
  go_loopw [6] (fun i wr => ∃ (k : Nat), k ≤ len ∧ i = .int .i64 k ∧ Hid (QuietTo w wr) ∧ Hid (cutN ps n = k + cutN (ps.drop k) n)) (fun i _ => len - (intOf i).toNat)
  case atStart => exact ⟨0, by omega, rfl, QuietTo.refl _, by show _ = _; simp⟩
  case round =>
    obtain ⟨k, hk, rfl, HW, HN⟩ := hrel
    by_cases hlt : k < len
    · have hca := HC.out
      rcases hca with h0 | ⟨b, off, rfl, hbw, hc⟩
      · omega
      obtain ⟨x, hx⟩ : ∃ x, x = (ps.at k).1 := ⟨_, rfl⟩
      have e := (hc k hlt).1
      rw [← hx] at e
      have d1 : wr.cell? ⟨b, off + k * 2, none⟩ = some (.int .i64 x) := (HW.out.cell _).trans e
      have HX : Hid (x = (ps.at k).1) := hx
      have hI : (k : Int) < (len : Int) := by omega
      have hkl : k < ps.length := by rw [HL.out]; exact hlt
      clear hx hc e
      by_cases c : x ≤ n
      · have cd : decide (x ≤ n) = true := decT c
        have HN2 : Hid (cutN ps n = k + 1 + cutN (ps.drop (k + 1)) n) := by
          have := HN.out
          rw [cutN_at hkl (by rw [← HX.out]; exact c)] at this
          show _ = _
          omega
        go_wp2
        go_roundw
        case rel => exact ⟨k + 1, by omega, by go_num, HW, HN2⟩
        case measure => simp [intOf]; omega
      · have cd : decide (x ≤ n) = false := decF c
        have HK : Hid (cutN ps n = k) := by
          have := HN.out
          rw [cutN_stop hkl (by rw [← HX.out]; exact c)] at this
          show _ = _
          omega
        have hne : ¬ len = k := by omega
        have i1 : (k : Int) ≤ (len : Int) := by omega
        have i2 : (len : Int) ≤ (cap : Int) := by omega
        have i3 : (k : Int) ≤ (cap : Int) := by omega
        have HT : Hid (∀ w', QuietTo w w' → CutTo w ps F (cutN ps n) (.returned (.tuple #[.slice (some ⟨b, off, none⟩) k k, .slice (some ⟨b, off + k * 2, none⟩) (len - k) (len - k)])) w') := by
          intro w' hq
          have := HS.out k (by omega) w' hq
          rw [if_neg hne] at this
          simp only [Option.map_some, Addr.add_lit] at this
          rw [HK.out]
          exact this
        go_wp2
        go_quiet (fail)
        go_wp2
        go_ret2
        exact HT.out _ (HW.out.drewN _)
    · obtain rfl : k = len := by omega
      have HK : Hid (cutN ps n = k) := by
        have := HN.out
        rw [List.drop_eq_nil_of_le (by rw [HL.out]; omega)] at this
        exact this
      have hg : decide ((k : Int) < (k : Int)) = false := decF (by omega)
      have i2 : (k : Int) ≤ (cap : Int) := by omega
      have HT : Hid (∀ w', QuietTo w w' → CutTo w ps F (cutN ps n) (.returned (.tuple #[.slice a k k, .slice a 0 0])) w') := by
        intro w' hq
        have := HS.out k (by omega) w' hq
        rw [if_pos rfl, Nat.sub_self] at this
        rw [HK.out]
        exact this
      go_wp2
      go_quiet (fail)
      go_wp2
      go_ret2
      exact HT.out _ (HW.out.drewN _)
end Go.Proofs.YtgkbhhlkaifnoaaGreatDoor
/- The walk through the program's going through two sets. No statement of the seat is proved here. -/
namespace Go.Proofs.YtgkbhhlkaifnoaaGreatDoor
open Go.RowKit
theorem RdP.move {w W : World} {B : Nat} {a : Option Addr} {len : Nat} {ps : Sp} {F : List Nat} (h : RdP w a len ps F) (hF : ∀ b ∈ F, b < B) (h1 : Below B w W) : RdP W a len ps F := h.agree (fun b hb => h1.block b (hF b hb))
theorem RdP.back {w W : World} {B : Nat} {a : Option Addr} {len : Nat} {ps : Sp} {F : List Nat} (h : RdP W a len ps F) (hF : ∀ b ∈ F, b < B) (h1 : Below B w W) : RdP w a len ps F := h.agree (fun b hb => (h1.block b (hF b hb)).symm)
theorem LayAt.below {w W : World} {B n : Nat} {v0 v : Value} {o : Sp} {xs : List Value} (h : LayAt w B v0 v o W) (h0 : w.ownsRow B 62 2 v0 n xs) (hB : B ≤ w.heap.size) : Below B w W :=
  ⟨h.grown.os, h.grown.tape, h.grown.output, h.grown.size, fun k hk => h.grown.block k (by omega) (fun e => by have := (h0.lt k e.symm).1; omega)⟩
/-- Midway in a round: the set that is made, the span's box. -/
structure MidB (w : World) (nb : Nat) (x y : Int) (v : Value) (o : Sp) (W : World) : Prop where
  own : W.ownsRow w.heap.size 62 2 v o.length ((flat o).map (Value.int .i64))
  bel : Below w.heap.size w W
  box : Blk W nb #[.int .i64 x, .int .i64 y] 62
  ne : some nb ≠ v.ownBlock
theorem MidB.alloc {w : World} {nb : Nat} {x y : Int} {v : Value} {o : Sp} {W : World} (h : MidB w nb x y v o W) (ob : Obj) : MidB w nb x y v o (W.alloc ob) := ⟨h.own.alloc _, Below.allocW _ h.bel (Nat.le_refl _), h.box.alloc _, h.ne⟩
theorem MidB.drew {w : World} {nb : Nat} {x y : Int} {v : Value} {o : Sp} {W : World} (h : MidB w nb x y v o W) : MidB w nb x y v o W.drew := ⟨⟨h.own.1, h.own.2⟩, h.bel.drew, h.box, h.ne⟩
/-- Behind the first laying: what lay beside lies there still. -/
structure AftB (w : World) (nb : Nat) (x y : Int) (v v' : Value) (o' : Sp) (W W' : World) : Prop where
  mid : MidB w nb x y v' o' W'
  old : ∀ g cs t, Blk W g cs t → some g ≠ v.ownBlock → Blk W' g cs t ∧ some g ≠ v'.ownBlock
theorem AftB.of {w : World} {nb : Nat} {x y : Int} {v v' : Value} {o o' : Sp} {W W' : World} (h : MidB w nb x y v o W) (k : LayAt W w.heap.size v v' o' W') : AftB w nb x y v v' o' W W' := by
  have hold : ∀ g cs t, Blk W g cs t → some g ≠ v.ownBlock → Blk W' g cs t ∧ some g ≠ v'.ownBlock := fun g cs t hb hne => by
    refine ⟨hb.agree (k.grown.block g hb.lt hne), ?_⟩
    rcases k.fresh with e | e
    · rw [e]; exact hne
    · intro e2; have := e g e2.symm; have := hb.lt; omega
  obtain ⟨h1, h2⟩ := hold _ _ _ h.box h.ne
  exact ⟨⟨k.own, h.bel.trans (k.below h.own h.bel.size), h1, h2⟩, hold⟩
/-- Ahead of the second laying: the one span's slice. -/
structure TwoB (w : World) (nb : Nat) (x y : Int) (v' : Value) (o' : Sp) (g : Nat) (W : World) : Prop where
  mid : MidB w nb x y v' o' W
  one : Blk W g #[.int .i64 x, .int .i64 y] 62
  ne : some g ≠ v'.ownBlock
theorem AftB.two {w : World} {nb : Nat} {x y : Int} {v v' : Value} {o o' : Sp} {W W' : World} (h : AftB w nb x y v v' o' (W.alloc (.cells #[.int .i64 x, .int .i64 y] 62)).drew W') (k : MidB w nb x y v o W) : TwoB w nb x y v' o' W.heap.size W' := by
  obtain ⟨h1, h2⟩ := h.old _ _ _ (Blk.made W _ _) (fun e => by have := (k.own.lt _ e.symm).2; omega)
  exact ⟨h.mid, h1, h2⟩
theorem AftB.new {w : World} {nb : Nat} {x y : Int} {v v' : Value} {o' : Sp} {W W' : World} (h : AftB w nb x y v v' o' W W') : TwoB w nb x y v' o' W'.heap.size (W'.alloc (.cells #[.int .i64 x, .int .i64 y] 62)) :=
  ⟨h.mid.alloc _, Blk.made _ _ _, fun e => by have := (h.mid.own.lt _ e.symm).2; omega⟩
theorem rdP_one {W : World} {g : Nat} {x y : Int} {t : TypeId} (h : Blk W g #[.int .i64 x, .int .i64 y] t) : RdP W (some ⟨g, 0, none⟩) 1 [(x, y)] [g] :=
  ⟨rfl, rdI_tcv (xs := flat [(x, y)]) (by simpa [tcv, flat] using h) (by simp [flat]) (by omega)⟩
/-- Ahead of a round. -/
structure BInv (w : World) (ps qs : Sp) (k : Nat) (o rs : Sp) (aa : Option Addr) (la ca : Nat) (F : List Nat) (v : Value) (wr : World) : Prop where
  own : wr.ownsRow w.heap.size 62 2 v o.length ((flat o).map (Value.int .i64))
  bel : Below w.heap.size w wr
  rd : RdP w aa la rs F
  lt : ∀ b ∈ F, b < w.heap.size
  cap : la ≤ ca
  len : o.length + rs.length ≤ ps.length + k
  ino : ∀ p ∈ o, InB p
  ina : ∀ p ∈ rs, InB p
  eq : both rs (qs.drop k) o = both ps qs []
set_option maxRecDepth 100000 in
set_option maxHeartbeats 8000000 in
theorem spansOfBoth_any (a b : Option Addr) (la lb ca cb : Nat) (ps qs : Sp) (F G : List Nat) (w : World) (h : RdP w a la ps F) (k : RdP w b lb qs G) (hlen : la + lb ≤ 2097153) (hca : la ≤ ca) (h1 : ∀ p ∈ ps, InB p) (h2 : ∀ p ∈ qs, InB p) :
    Calls Tryz.prog 42 #[.slice a la ca, .slice b lb cb] w fun e w' => NewP w (both ps qs []) e w' := by
  have HL : Hid (ps.length = la ∧ qs.length = lb) := ⟨h.length, k.length⟩
  have HI : Hid (∀ p ∈ qs, InB p) := h2
  have HP0 : Hid (BInv w ps qs 0 [] ps a la ca F (.slice none 0 0) w) := ⟨⟨by simp [flat], .inl ⟨rfl, rfl⟩⟩, Below.refl _ _, h, h.lt, hca, by simp, by simp, h1, rfl⟩
  have HCB : Hid (lb = 0 ∨ ∃ b1 o1, b = some ⟨b1, o1, none⟩ ∧ b1 < w.heap.size ∧ SpCells w b1 o1 lb qs) := cells_of k
  clear h k h1 h2
  go_enter Tryz.func42, Tryz.ntmps42
  go_wp2
  go_loopw [0, 5, 12] (fun av v i wr => ∃ (k : Nat) (o rs : Sp) (aa : Option Addr) (la ca : Nat) (F : List Nat), k ≤ lb ∧ i = .int .i64 k ∧ av = .slice aa la ca ∧ Hid (BInv w ps qs k o rs aa la ca F v wr)) (fun _ _ i _ => lb - (intOf i).toNat)
  case atStart => exact ⟨0, [], ps, a, la, ca, F, by omega, rfl, rfl, HP0⟩
  case round =>
    clear HP0
    obtain ⟨k, o, rs, aa, l0, c0, F0, hk, rfl, rfl, HP⟩ := hrel
    by_cases hlt : k < lb
    · have hcb := HCB.out
      rcases hcb with h0 | ⟨b1, o1, rfl, hbw, hc⟩
      · omega
      obtain ⟨x, hx⟩ : ∃ x, x = (qs.at k).1 := ⟨_, rfl⟩
      obtain ⟨y, hy⟩ : ∃ x, x = (qs.at k).2 := ⟨_, rfl⟩
      have e := hc k hlt
      have hql : k < qs.length := by rw [HL.out.2]; exact hlt
      have HXY : Hid (qs.at k = (x, y)) := by rw [hx, hy]; rfl
      have HINX : Hid (InB (x, y)) := by rw [← HXY.out]; exact HI.out _ (Sp.at_mem hql)
      rw [HXY.out] at e
      have d1 : wr.cell? ⟨b1, o1 + k * 2, none⟩ = some (.int .i64 x) := (HP.out.bel.cell (by exact hbw)).trans e.1
      have d2 : wr.cell? ⟨b1, o1 + k * 2 + 1, none⟩ = some (.int .i64 y) := (HP.out.bel.cell (by exact hbw)).trans e.2
      have hI : (k : Int) < (lb : Int) := by omega
      have HLN : Hid (o.length + rs.length ≤ 2097153) := by have := HP.out.len; have := HL.out; show _ ≤ _; omega
      have HLA : Hid (rs.length = l0) := HP.out.rd.length
      clear e hx hy hc
      go_wp2_with fail
      have HWA : Hid (Below w.heap.size w (wr.alloc (.cells #[.int .i64 x, .int .i64 y] 62))) := Below.allocW _ HP.out.bel (Nat.le_refl _)
      refine (cutAt_any aa l0 c0 rs x F0 _ (HP.out.rd.move HP.out.lt HWA.out) (by have := HLN.out; have := HLA.out; omega) HP.out.cap).mono ?_
      rintro e w2 ⟨a1, l1, c1, a2, l2, c2, F1, F2, rfl, r1, r2, s1, s2, hcp2, hq⟩
      obtain ⟨cn, hcn⟩ : ∃ c, c = cutN rs x := ⟨_, rfl⟩
      rw [← hcn] at r1 r2
      have HQ1 : Hid (RdP w a1 l1 (rs.take cn) F1 ∧ (∀ b ∈ F1, b < w.heap.size) ∧ l1 ≤ rs.length) := ⟨r1.back (fun b hb => HP.out.lt b (s1 b hb)) HWA.out, fun b hb => HP.out.lt b (s1 b hb), by have e := r1.length; rw [List.length_take] at e; omega⟩
      have HQ2 : Hid (RdP w a2 l2 (rs.drop cn) F2 ∧ (∀ b ∈ F2, b < w.heap.size) ∧ l2 ≤ c2) := ⟨r2.back (fun b hb => HP.out.lt b (s2 b hb)) HWA.out, fun b hb => HP.out.lt b (s2 b hb), hcp2⟩
      have HM : Hid (MidB w wr.heap.size x y u5 o w2) := by
        obtain ⟨m, rfl⟩ := hq
        have hal := HP.out.own.alloc (.cells #[.int .i64 x, .int .i64 y] 62)
        exact ⟨⟨hal.1, hal.2⟩, ⟨HWA.out.os, HWA.out.tape, HWA.out.output, HWA.out.size, HWA.out.block⟩, Blk.made wr _ _, fun e => by have := (HP.out.own.lt _ e.symm).2; omega⟩
      have HCN : Hid (cn = cutN rs x) := hcn
      have q1 : w2.cell? ⟨wr.heap.size, 0, none⟩ = some (.int .i64 x) := HM.out.box.cell 0
      have q2 : w2.cell? ⟨wr.heap.size, 1, none⟩ = some (.int .i64 y) := HM.out.box.cell 1
      clear r1 r2 s1 s2 hcp2 hq hcn HWA d1 d2
      have HC1 : Hid (∀ W, MidB w wr.heap.size x y u5 o W → Calls Tryz.prog 79 #[u5, .slice a1 l1 c1] W (fun e w' => ∃ v', e = .returned v' ∧ AftB w wr.heap.size x y u5 v' (lay o (rs.take cn)) W w')) := by
        intro W hW
        refine (laid_any w.heap.size u5 o a1 l1 c1 (rs.take cn) F1 W hW.own hW.bel.size (HQ1.out.1.move HQ1.out.2.1 hW.bel) (fun b hb e => by have := HQ1.out.2.1 b hb; have := (hW.own.lt _ e.symm).1; omega) (by have := HLN.out; have := HQ1.out.2.2; omega) HP.out.ino (fun p hp => HP.out.ina p (List.mem_of_mem_take hp))).mono ?_
        rintro e w' ⟨v, rfl, hl⟩
        exact ⟨v, rfl, AftB.of hW hl⟩
      have HC2 : Hid (∀ v' W g, TwoB w wr.heap.size x y v' (lay o (rs.take cn)) g W → Calls Tryz.prog 79 #[v', .slice (some ⟨g, 0, none⟩) 1 1] W (fun e w' => ∃ v'', e = .returned v'' ∧ MidB w wr.heap.size x y v'' (lay1 (lay o (rs.take cn)) (x, y)) w')) := by
        intro v' W g hW
        refine (laid_any w.heap.size v' (lay o (rs.take cn)) (some ⟨g, 0, none⟩) 1 1 [(x, y)] [g] W hW.mid.own hW.mid.bel.size (rdP_one hW.one) (fun b hb => by rw [List.mem_singleton.1 hb]; exact hW.ne) (by have e := lay_length (rs.take cn) o; have := HLN.out; rw [List.length_take] at e; omega) (lay_inb HP.out.ino (fun p hp => HP.out.ina p (List.mem_of_mem_take hp))) (fun p hp => by rw [List.mem_singleton.1 hp]; exact HINX.out)).mono ?_
        rintro e w' ⟨v, rfl, hl⟩
        exact ⟨v, rfl, (AftB.of hW.mid hl).mid⟩
      have HFIN : Hid (∀ v' W, MidB w wr.heap.size x y v' (lay1 (lay o (rs.take cn)) (x, y)) W → BInv w ps qs (k + 1) (lay1 (lay o (rs.take cn)) (x, y)) (rs.drop cn) a2 l2 c2 F2 v' W) := by
        intro v' W hW
        refine ⟨hW.own, hW.bel, HQ2.out.1, HQ2.out.2.1, HQ2.out.2.2, ?_, lay1_inb (lay_inb HP.out.ino (fun p hp => HP.out.ina p (List.mem_of_mem_take hp))) HINX.out, fun p hp => HP.out.ina p (List.mem_of_mem_drop hp), ?_⟩
        · have e1 := lay1_length (lay o (rs.take cn)) (x, y)
          have e2 := lay_length (rs.take cn) o
          have e3 := HP.out.len
          rw [List.length_take] at e2
          rw [List.length_drop]
          omega
        · have e := HP.out.eq
          rw [drop_at hql, HXY.out, both] at e
          rw [HCN.out]
          exact e
      have HKE : Hid (∀ W, Blk W wr.heap.size #[.int .i64 x, .int .i64 y] 62 → W.cell? ⟨wr.heap.size, 0, none⟩ = some (.int .i64 x) ∧ W.cell? ⟨wr.heap.size, 1, none⟩ = some (.int .i64 y)) := fun W hW => ⟨hW.cell 0, hW.cell 1⟩
      have HMD : Hid (MidB w wr.heap.size x y u5 o w2.drew) := HM.out.drew
      have HMA : Hid (MidB w wr.heap.size x y u5 o (w2.alloc (.cells #[.int .i64 x, .int .i64 y] 62)).drew) := (HM.out.alloc _).drew
      go_wp2
      go_region_held3 (fun W => W.cell? ⟨wr.heap.size, 0, none⟩ = some (.int .i64 x) ∧ W.cell? ⟨wr.heap.size, 1, none⟩ = some (.int .i64 y))
        ((refine HKE.out _ ?_; first | (with_reducible exact k2.box) | (with_reducible exact k1.mid.box) | (with_reducible exact k1.mid.box.alloc _) | (with_reducible exact HMD.out.box) | (with_reducible exact HMA.out.box)))
        (first
          | (have zz := k1; clear zz; go_at_call 79; refine (HC2.out _ _ _ (by first | (with_reducible exact k1.two HM.out) | (with_reducible exact k1.new))).mono ?_; rintro e w4 ⟨v4, rfl, k2⟩)
          | (go_at_call 79; refine (HC1.out _ (by first | (with_reducible exact HMD.out) | (with_reducible exact HMA.out))).mono ?_; rintro e w3 ⟨v3, rfl, k1⟩))
      all_goals
        have HB2 := HFIN.out _ _ k2
        have HB3 : Hid (BInv w ps qs (k + 1) (lay1 (lay o (rs.take cn)) (x, y)) (rs.drop cn) a2 l2 c2 F2 v4 w4) := HB2
        clear HB2 k2 k1 HC1 HC2 HKE HFIN q1 q2 HMD HMA HM
        go_wp2
        go_roundw
      all_goals first | exact ⟨k + 1, _, _, a2, l2, c2, F2, by omega, by go_num, rfl, HB3⟩ | (simp [intOf]; omega)
    · obtain rfl : k = lb := by omega
      have HE : Hid (lay o rs = both ps qs []) := by
        have := HP.out.eq
        rw [List.drop_eq_nil_of_le (by rw [HL.out.2]; omega)] at this
        exact this
      go_wp2_with fail
      refine (laid_any w.heap.size u5 o aa l0 c0 rs F0 _ HP.out.own HP.out.bel.size (HP.out.rd.move HP.out.lt HP.out.bel) (fun b hb e => by have := HP.out.lt b hb; have := (HP.out.own.lt _ e.symm).1; omega) (by have := HP.out.len; have := HL.out; have := HP.out.rd.length; omega) HP.out.ino HP.out.ina).mono ?_
      rintro e w2 ⟨v, rfl, hl⟩
      have HV : Hid (LayAt wr w.heap.size u5 v (lay o rs) w2 ∧ Below w.heap.size w w2) := ⟨hl, HP.out.bel.trans (hl.below HP.out.own HP.out.bel.size)⟩
      clear hl
      go_wp2
      go_ret
      obtain ⟨a', c', F', rfl, hr, ho, hnn⟩ := rdP_of_own HV.out.1.own
      rw [← HE.out]
      exact ⟨_, _, _, F', rfl, hr, ho, HV.out.2, hnn⟩
end Go.Proofs.YtgkbhhlkaifnoaaGreatDoor
/- The walks through the program's copying of a set, and the library's comparing of two. No statement of the seat is proved here. -/
namespace Go.Proofs.YtgkbhhlkaifnoaaGreatDoor
open Go.RowKit
theorem run_copy_row2 {P : Program} (w : World) (dT sT ty elem : TypeId) (g len dCap : Nat) (a : Addr) (sCap : Nat) (cur : Array Value) (t : TypeId) (cs : List Value)
    (hu : P.underlying dT = some (.slice elem)) (hs : (P.info? elem).map (·.size) = some 2)
    (hg : w.heap[g]? = some (.cells cur t (0, 0))) (hn : cs.length = len * 2)
    (hsrc : ∀ j v, cs[j]? = some v → w.cell? (a.add j) = some v) (hfit : cs.length ≤ cur.size) (h1 : ∀ v ∈ cs, v.oneCell' = true) :
    (Builtin.copy_ #[dT, sT] ty #[.slice (some ⟨g, 0, none⟩) len dCap, .slice (some a) len sCap]).run P w =
      .ok (goInt len) (w.setRow g (cs ++ cur.toList.drop cs.length).toArray) := by
  have hl := run_loadCells_list (P := P) w a cs hsrc
  have hst := run_storeCells_at P g 0 t cs 0 cur w hg (by simpa using hfit) h1
  rw [hn] at hl
  cases hq : P.info? elem with
  | none => simp [hq] at hs
  | some i =>
    have hi : i.size = 2 := by simpa [hq] using hs
    simp [Builtin.copy_, run_underlying hu, Builtin.lenOf, Builtin.firstCells, sizeOf, typeInfo, hq, hi, hl, hst]
theorem run_copy_none2 {P : Program} (w : World) (dT sT ty elem : TypeId) (d a : Option Addr) (dCap sCap : Nat) (hu : P.underlying dT = some (.slice elem)) (hs : (P.info? elem).map (·.size) = some 2) :
    (Builtin.copy_ #[dT, sT] ty #[.slice d 0 dCap, .slice a 0 sCap]).run P w = .ok (goInt 0) w := by
  cases hq : P.info? elem with
  | none => simp [hq] at hs
  | some i =>
    have hl : ∀ (x : Addr), (loadCells x 0).run P w = .ok #[] w := fun x => by simpa using run_loadCells_list (P := P) w x [] (by simp)
    cases d <;> cases a <;> simp [Builtin.copy_, run_underlying hu, Builtin.lenOf, Builtin.firstCells, sizeOf, typeInfo, hq, storeCells, hl]
theorem wpList_copy_none2 {P : Program} {w : World} {ops : Array Oper} {rest : List Oper} {o : Oper} {a : Act} {Q : Exit → Act → World → Prop} (hgd : o.guard = none) (d s : Operand) (dT sT : TypeId)
    (ho : o.op = .call { callee := .builtin .copy, args := #[d, s], argTypes := #[dT, sT] }) (elem : TypeId) (hu : P.underlying dT = some (.slice elem)) (hsz : (P.info? elem).map (·.size) = some 2)
    (dp sp : Option Addr) (dCap sCap : Nat) (hd : a.eval d = .slice dp 0 dCap) (hs : a.eval s = .slice sp 0 sCap)
    (h : wpList P ops Q rest (a.put o.dst (goInt 0)) w) : wpList P ops Q (o :: rest) a w := by
  refine wpList_plain hgd fun K hK => ?_
  have hrun := run_copy_none2 (P := P) w dT sT o.type elem dp sp dCap sCap hu hsz
  unfold Oper.wp
  simp [execOp, ho, resolve, invoke, builtin, hd, hs, hrun, Result.andThen]
  exact hK _ _ h
theorem wpList_copy_own2 {P : Program} {w : World} {ops : Array Oper} {rest : List Oper} {o : Oper} {a : Act} {Q : Exit → Act → World → Prop} (hgd : o.guard = none) (d s : Operand) (dT sT : TypeId)
    (ho : o.op = .call { callee := .builtin .copy, args := #[d, s], argTypes := #[dT, sT] }) (elem : TypeId) (hu : P.underlying dT = some (.slice elem)) (hsz : (P.info? elem).map (·.size) = some 2)
    (g len dCap : Nat) (ad : Addr) (sCap : Nat) (hd : a.eval d = .slice (some ⟨g, 0, none⟩) len dCap) (hs : a.eval s = .slice (some ad) len sCap)
    (cur : Array Value) (t : TypeId) (hg : w.heap[g]? = some (.cells cur t (0, 0))) (cs : List Value) (hn : cs.length = len * 2)
    (hsrc : ∀ j v, cs[j]? = some v → w.cell? (ad.add j) = some v) (hfit : cs.length ≤ cur.size) (h1 : ∀ v ∈ cs, v.oneCell' = true)
    (h : wpList P ops Q rest (a.put o.dst (goInt len)) (w.setRow g (cs ++ cur.toList.drop cs.length).toArray)) : wpList P ops Q (o :: rest) a w := by
  refine wpList_plain hgd fun K hK => ?_
  have hrun := run_copy_row2 (P := P) w dT sT o.type elem g len dCap ad sCap cur t cs hu hsz hg hn hsrc hfit h1
  unfold Oper.wp
  simp [execOp, ho, resolve, invoke, builtin, hd, hs, hrun, Result.andThen]
  exact hK _ _ h
theorem infoSpan2 : (Tryz.prog.info? 62).map (·.size) = some 2 := by kernel_rfl
theorem flat_one {ps : Sp} : ∀ v ∈ (flat ps).map (Value.int .i64), v.oneCell' = true := by
  intro v hv
  obtain ⟨x, _, rfl⟩ := List.mem_map.1 hv
  rfl
set_option maxRecDepth 200000 in
set_option maxHeartbeats 2000000 in
theorem copiedSpans_any (a : Option Addr) (len cap : Nat) (ps : Sp) (F : List Nat) (w : World) (h : RdP w a len ps F) (hlen : len ≤ 2097152) :
    Calls Tryz.prog 65 #[.slice a len cap] w fun e w' => NewP w ps e w' := by
  obtain ⟨i0, hi, hz0, hz1, hz2⟩ := info_parts infoSpan
  have HL : Hid (ps.length = len) := h.length
  have HR : Hid (RdP w a len ps F) := h
  rcases h.cells with ⟨rfl, _, rfl⟩ | ⟨b, off, hp, rfl, _, _⟩
  · clear h
    go_enter Tryz.func65, Tryz.ntmps65
    go_wp2_with (at_make; refine wpList_make_full _ rfl _ _ 25 rfl w.heap.size 62 i0 (.agg #[.int .i64 0, .int .i64 0]) 2 Tryz.underlying25 hi hz0 hz1 .i64 .i64 _ _ 0 rfl rfl (by simp) (by simp) (by omega) (by unfold maxLen; omega) (Nat.le_refl _) ?_; intro w1 hown hgrow)
    have hcp := run_copy_none2 (P := Tryz.prog) w1 25 25 3 62 (some ⟨w.heap.size, 0, none⟩) a 0 cap Tryz.underlying25 infoSpan2
    rw [hcp]
    go_wp2
    go_ret
    exact ⟨_, 0, 0, [], rfl, RdP.nil, Own.nil, (Below.refl _ _).grown hgrow (Nat.le_refl _) (fun k hk => by cases hk), (fun e => by cases e), Nat.le_refl _⟩
  · clear h
    go_enter Tryz.func65, Tryz.ntmps65
    go_wp2_with (at_make; refine wpList_make_full _ rfl _ _ 25 rfl w.heap.size 62 i0 (.agg #[.int .i64 0, .int .i64 0]) 2 Tryz.underlying25 hi hz0 hz1 .i64 .i64 _ _ len rfl rfl rfl rfl (by rw [hz2]; omega) (by unfold maxLen; omega) (Nat.le_refl _) ?_; intro w1 hown hgrow)
    have HM : Hid (Blk w1 w.heap.size (tcv (List.replicate (2 * len) 0)) 62 ∧ Below w.heap.size w w1) := by
      refine ⟨?_, (Below.refl _ _).grown hgrow (Nat.le_refl _) (fun k hk => by cases hk)⟩
      have e := own_blk hown hp
      have e2 : (madeCells (Value.agg #[Value.int IntKind.i64 0, Value.int IntKind.i64 0]).cells (len * 2)).toList.toArray = tcv (List.replicate (2 * len) 0) := made_flat len
      rw [← e2]
      exact e
    clear hown hgrow
    have HLF : Hid ((flat ps).length = 2 * len) := by rw [flat_length, HL.out]; rfl
    have hcp := run_copy_row2 (P := Tryz.prog) w1 25 25 3 62 w.heap.size len len ⟨b, off, none⟩ cap _ 62 ((flat ps).map (Value.int .i64)) Tryz.underlying25 infoSpan2 HM.out.1 (by have := HLF.out; simp; omega) (cells_flat (HR.out.below HM.out.2) hp) (by have := HLF.out; simp [tcv]; omega) flat_one
    have hrow : ((flat ps).map (Value.int .i64) ++ (tcv (List.replicate (2 * len) 0)).toList.drop ((flat ps).map (Value.int .i64)).length).toArray = tcv (flat ps) := by
      have := HLF.out
      rw [List.drop_eq_nil_of_le (by simp [tcv]; omega), List.append_nil]
      rfl
    rw [hrow] at hcp
    have HW : Hid (Blk (w1.setRow w.heap.size (tcv (flat ps))) w.heap.size (tcv (flat ps)) 62 ∧ Below w.heap.size w (w1.setRow w.heap.size (tcv (flat ps)))) := ⟨HM.out.1.setRow, below_setRow HM.out.2 (Nat.le_refl _) _⟩
    clear hrow
    rw [hcp]
    go_wp2
    go_ret
    exact ⟨_, len, len, [w.heap.size], rfl, ⟨HL.out, rdI_tcv HW.out.1 HLF.out (by omega)⟩, ⟨by simp, fun b hb o => by simp at hb; subst hb; exact HW.out.1.frozen o, by simp⟩, HW.out.2, (fun e => by cases e), Nat.le_refl _⟩
theorem sp_eta (p : Int × Int) : p = (p.1, p.2) := rfl
set_option maxRecDepth 200000 in
set_option maxHeartbeats 2000000 in
theorem slEqualP_any (a b : Option Addr) (la lb ca cb : Nat) (xs ys : Sp) (F G : List Nat) (w : World) (ha : RdP w a la xs F) (hb : RdP w b lb ys G) (hla : la ≤ 140737488355328) (hlb : lb ≤ 140737488355328) :
    Calls Tryz.prog 88 #[.slice a la ca, .slice b lb cb] w fun e w' => e = .returned (.bool (decide (xs = ys))) ∧ QuietTo w w' := by
  have Hx : Hid (xs.length = la) := ha.length
  have Hy : Hid (ys.length = lb) := hb.length
  by_cases hl : la = lb
  · subst hl
    have hbne : ((la : Int) != (la : Int)) = false := by simp
    have HCA : Hid (la = 0 ∨ ∃ b1 o1, a = some ⟨b1, o1, none⟩ ∧ b1 < w.heap.size ∧ SpCells w b1 o1 la xs) := cells_of ha
    have HCB : Hid (la = 0 ∨ ∃ b1 o1, b = some ⟨b1, o1, none⟩ ∧ b1 < w.heap.size ∧ SpCells w b1 o1 la ys) := cells_of hb
    clear ha hb
    go_enter Tryz.func88, Tryz.ntmps88
    go_wp2
    go_loopw [13] (fun i wr => ∃ k : Nat, k ≤ la ∧ i = .int .i64 k ∧ Hid (xs.take k = ys.take k) ∧ Hid (QuietTo w wr)) (fun i _ => la - (intOf i).toNat)
    case atStart => exact ⟨0, by omega, rfl, rfl, QuietTo.refl _⟩
    case round =>
      obtain ⟨k, hk, rfl, HT, HQ⟩ := hrel
      by_cases hlt : k < la
      · rcases HCA.out with h0 | ⟨b1, o1, rfl, hbw1, hc1⟩
        · omega
        rcases HCB.out with h0 | ⟨b2, o2, rfl, hbw2, hc2⟩
        · omega
        obtain ⟨x, hx⟩ : ∃ x, x = (xs.at k).1 := ⟨_, rfl⟩
        obtain ⟨y, hy⟩ : ∃ x, x = (xs.at k).2 := ⟨_, rfl⟩
        obtain ⟨x', hx'⟩ : ∃ x, x = (ys.at k).1 := ⟨_, rfl⟩
        obtain ⟨y', hy'⟩ : ∃ x, x = (ys.at k).2 := ⟨_, rfl⟩
        have e1 := hc1 k hlt
        have e2 := hc2 k hlt
        rw [← hx, ← hy] at e1
        rw [← hx', ← hy'] at e2
        have d1 : wr.cell? ⟨b1, o1 + k * 2, none⟩ = some (.int .i64 x) := (HQ.out.cell _).trans e1.1
        have d2 : wr.cell? ⟨b1, o1 + k * 2 + 1, none⟩ = some (.int .i64 y) := (HQ.out.cell _).trans e1.2
        have d3 : wr.cell? ⟨b2, o2 + k * 2, none⟩ = some (.int .i64 x') := (HQ.out.cell _).trans e2.1
        have d4 : wr.cell? ⟨b2, o2 + k * 2 + 1, none⟩ = some (.int .i64 y') := (HQ.out.cell _).trans e2.2
        have HE : Hid ((x = x' ∧ y = y') ↔ xs[k]?.getD (0, 0) = ys[k]?.getD (0, 0)) := by rw [hx, hy, hx', hy']; exact Prod.ext_iff.symm
        have hI : (k : Int) < (la : Int) := by omega
        clear e1 e2 hx hy hx' hy' hc1 hc2
        by_cases c : x = x' ∧ y = y'
        · have e1 : (x == x') = true := by simp [c.1]
          have e2 : (y == y') = true := by simp [c.2]
          have HT2 : Hid (xs.take (k + 1) = ys.take (k + 1)) := eqP_step (by rw [Hx.out, Hy.out]) (by rw [Hx.out]; exact hlt) HT.out (HE.out.1 c)
          clear c
          go_wp2
          go_quiet (fail)
          go_wp2
          go_roundw
          case rel => exact ⟨k + 1, by omega, by go_num, HT2, HQ.out.drewN _⟩
          case measure => simp [intOf]; omega
        have HV : Hid (decide (xs = ys) = false) := neP_of_at (fun e => c (HE.out.2 e))
        by_cases c1 : x = x'
        · have e1 : (x == x') = true := by simp [c1]
          have e2 : (y == y') = false := by simpa using (fun e => c ⟨c1, e⟩)
          clear c c1
          go_wp2
          go_quiet (fail)
          go_wp2
          go_ret
          exact ⟨ret_bool HV.out.symm, HQ.out.drewN _⟩
        · have e1 : (x == x') = false := by simpa using c1
          clear c c1
          go_wp2
          go_quiet (fail)
          go_wp2
          go_ret
          exact ⟨ret_bool HV.out.symm, HQ.out.drewN _⟩
      · obtain rfl : k = la := by omega
        go_wp2
        go_ret
        exact ⟨ret_bool (eqP_end Hx.out Hy.out HT.out).symm, HQ.out⟩
  · have hbne : ((la : Int) != (lb : Int)) = true := by simp; omega
    have e : decide (xs = ys) = false := by
      rw [decide_eq_false_iff_not]; intro e; subst e; exact hl (Hx.out.symm.trans Hy.out)
    clear ha hb
    go_enter Tryz.func88, Tryz.ntmps88
    go_wp2
    go_ret
    exact ⟨ret_bool e.symm, QuietTo.refl _⟩
end Go.Proofs.YtgkbhhlkaifnoaaGreatDoor
/- The walks through the program's SeatOk and copiedSeat. No statement of the seat is proved here. -/
namespace Go.Proofs.YtgkbhhlkaifnoaaGreatDoor
open Go.RowKit
set_option maxRecDepth 200000 in
set_option maxHeartbeats 4000000 in
theorem seOkImpl_any (v : Value) (x : Se) (per : Int) (F : List Nat) (w : World) (h : RdSe w v x F) (hl : x.taken.length ≤ 2097152) :
    Calls Tryz.prog 21 #[v, .int .i64 per] w fun e w' => e = .returned (.bool (x.ok per)) ∧ Below w.heap.size w w' := by
  obtain ⟨b, l, c, rfl, hP, _⟩ := h
  have HP : Hid (RdP w b l x.taken F ∧ l ≤ 2097152) := ⟨hP, by rw [← hP.length]; exact hl⟩
  have HSZ : Hid (0 ≤ x.taken.size ∧ x.taken.size ≤ 20971520000) := by have := Sp.size_range x.taken; exact ⟨this.1, by omega⟩
  have HB : Hid (Blk (w.alloc (.cells #[.int .i64 x.epoch, .int .i64 x.granted, .slice b l c, .int .i64 x.merged, .int .i64 x.last] 45)) w.heap.size #[.int .i64 x.epoch, .int .i64 x.granted, .slice b l c, .int .i64 x.merged, .int .i64 x.last] 45 ∧ Below w.heap.size w (w.alloc (.cells #[.int .i64 x.epoch, .int .i64 x.granted, .slice b l c, .int .i64 x.merged, .int .i64 x.last] 45))) := ⟨Blk.made _ _ _, (Below.refl _ _).alloc (Nat.le_refl _) _⟩
  clear hP hl
  go_enter Tryz.func21, Tryz.ntmps21
  by_cases p1 : per < 1
  · have HV : Hid (x.ok per = false) := by show _ = _; unfold Se.ok; rw [decide_eq_false (by omega : ¬ (1 ≤ per ∧ per ≤ 8))]; simp
    go_wp2
    go_ret
    exact ⟨ret_bool HV.out.symm, HB.out.2⟩
  by_cases p2 : 8 < per
  · have HV : Hid (x.ok per = false) := by show _ = _; unfold Se.ok; rw [decide_eq_false (by omega : ¬ (1 ≤ per ∧ per ≤ 8))]; simp
    go_wp2
    go_ret
    exact ⟨ret_bool HV.out.symm, HB.out.2⟩
  have HD1 : Hid (true = decide (1 ≤ per ∧ per ≤ 8)) := (decide_eq_true (by omega)).symm
  have HPR : Hid (1 ≤ per ∧ per ≤ 8) := by show _ ∧ _; omega
  go_wp2_with fail
  refine (inRange_any _ _ _).mono ?_
  rintro e w2 ⟨rfl, hw2⟩
  have hw2' := hw2.symm
  subst hw2'
  clear hw2
  obtain ⟨d2, hd2⟩ : ∃ d, d = decide (0 ≤ x.epoch ∧ x.epoch ≤ 1000) := ⟨_, rfl⟩
  rw [← hd2]
  have HD2 : Hid (d2 = decide (0 ≤ x.epoch ∧ x.epoch ≤ 1000)) := hd2
  clear hd2
  cases d2
  · have HV : Hid (x.ok per = false) := by show _ = _; unfold Se.ok; rw [← HD2.out]; simp
    go_wp2
    go_ret
    exact ⟨ret_bool HV.out.symm, HB.out.2⟩
  go_wp2_with fail
  refine (inRange_any _ _ _).mono ?_
  rintro e w2 ⟨rfl, hw2⟩
  have hw2' := hw2.symm
  subst hw2'
  clear hw2
  obtain ⟨d7, hd7⟩ : ∃ d, d = decide (0 ≤ x.last ∧ x.last ≤ 1000000) := ⟨_, rfl⟩
  rw [← hd7]
  have HD7 : Hid (d7 = decide (0 ≤ x.last ∧ x.last ≤ 1000000)) := hd7
  clear hd7
  cases d7
  · have HV : Hid (x.ok per = false) := by show _ = _; unfold Se.ok; rw [← HD7.out]; simp
    go_wp2
    go_ret
    exact ⟨ret_bool HV.out.symm, HB.out.2⟩
  go_wp2_with fail
  refine (inRange_any _ _ _).mono ?_
  rintro e w2 ⟨rfl, hw2⟩
  have hw2' := hw2.symm
  subst hw2'
  clear hw2
  obtain ⟨d3, hd3⟩ : ∃ d, d = decide (0 ≤ x.granted ∧ x.granted ≤ 60) := ⟨_, rfl⟩
  rw [← hd3]
  have HD3 : Hid (d3 = decide (0 ≤ x.granted ∧ x.granted ≤ 60)) := hd3
  clear hd3
  cases d3
  · have HV : Hid (x.ok per = false) := by show _ = _; unfold Se.ok; rw [← HD3.out]; simp
    go_wp2
    go_ret
    exact ⟨ret_bool HV.out.symm, HB.out.2⟩
  go_wp2_with fail
  refine (areSeqs_any b l c x.granted x.taken F _ (HP.out.1.below HB.out.2) HP.out.2).mono ?_
  rintro e w2 ⟨rfl, hb⟩
  obtain ⟨d4, hd4⟩ : ∃ d, d = (x.taken.ok && x.taken.under x.granted) := ⟨_, rfl⟩
  rw [← hd4]
  have HD4 : Hid (d4 = (x.taken.ok && x.taken.under x.granted)) := hd4
  have HS : Hid (Blk w2 w.heap.size #[.int .i64 x.epoch, .int .i64 x.granted, .slice b l c, .int .i64 x.merged, .int .i64 x.last] 45 ∧ Below w.heap.size w w2) := ⟨HB.out.1.below hb, Below.next HB.out.2 hb⟩
  clear hd4 hb HB
  cases d4
  · have HV : Hid (x.ok per = false) := by show _ = _; unfold Se.ok; rw [← HD4.out]; simp
    go_wp2
    go_ret
    exact ⟨ret_bool HV.out.symm, HS.out.2⟩
  go_wp2_with fail
  obtain ⟨W0, hW0⟩ : ∃ W, W = w2.drew := ⟨_, rfl⟩
  have HS : Hid (Blk W0 w.heap.size #[.int .i64 x.epoch, .int .i64 x.granted, .slice b l c, .int .i64 x.merged, .int .i64 x.last] 45 ∧ Below w.heap.size w W0) := by rw [hW0]; exact ⟨HS.out.1.below (Below.refl _ _).drew, Below.next HS.out.2 (Below.refl _ _).drew⟩
  refine wp_region_held (S := fun W => Blk W w.heap.size #[.int .i64 x.epoch, .int .i64 x.granted, .slice b l c, .int .i64 x.merged, .int .i64 x.last] 45) (by kernel_rfl) ?_
  change wpAnyH _ _ _ _ _ _ _ _ (World.drew _)
  rw [← hW0]
  clear hW0
  refine takeH (o := ?o199) 0 (.pointer (some ⟨w.heap.size, 3, none⟩)) ?h199 ?r199
  case h199 => simp only [aT, aZ]; rfl
  refine ⟨_, by simp [Act.put]; rfl, by kernel_rfl, by kernel_rfl, by kernel_rfl, fun _ _ _ h => h, (.inl ⟨rfl, fun W _ => by kernel_rfl⟩), HS.out.1, ?_⟩
  refine takeH (o := ?o200) 1 (.int .i64 x.merged) ?h200 ?r200
  case h200 => simp only [aT, aS, aZ]; rfl
  refine ⟨_, by simp [Act.put]; rfl, by kernel_rfl, by kernel_rfl, by kernel_rfl, fun _ _ _ h => h, (.inl ⟨rfl, fun W hW => by have c := hW.cell 3; simp only [aT, aS, aZ] at c; go_simp⟩), HS.out.1, ?_⟩
  refine takeH (o := ?o201) 2 (.pointer (some ⟨w.heap.size, 2, none⟩)) ?h201 ?r201
  case h201 => simp only [aT, aS, aZ]; rfl
  refine ⟨_, by simp [Act.put]; rfl, by kernel_rfl, by kernel_rfl, by kernel_rfl, fun _ _ _ h => h, (.inl ⟨rfl, fun W _ => by kernel_rfl⟩), HS.out.1, ?_⟩
  refine takeH (o := ?o202) 3 (.slice b l c) ?h202 ?r202
  case h202 => simp only [aT, aS, aZ]; rfl
  refine ⟨_, by simp [Act.put]; rfl, by kernel_rfl, by kernel_rfl, by kernel_rfl, fun _ _ _ h => h, (.inl ⟨rfl, fun W hW => by have c := hW.cell 2; simp only [aT, aS, aZ] at c; go_simp⟩), HS.out.1, ?_⟩
  refine onlyH (o := ?o203) 4 (by kernel_rfl) ?h203 ?r203
  case h203 => simp only [aT, aS, aZ]; rfl
  intro K hK
  refine op_call1 23 _ _ Tryz.f23 (fun v w' => v = .int .i64 x.taken.size ∧ Below W0.heap.size W0 w') rfl rfl Tryz.func23 (by kernel_rfl) (by kernel_rfl) ((sizeImpl_any b l c x.taken F W0 (HP.out.1.below HS.out.2) HP.out.2).mono (by rintro e w' ⟨rfl, hb⟩; exact ⟨_, rfl, rfl, hb⟩)) ?_
  rintro v W1 ⟨rfl, hb⟩
  have HS : Hid (Blk W1 w.heap.size #[.int .i64 x.epoch, .int .i64 x.granted, .slice b l c, .int .i64 x.merged, .int .i64 x.last] 45 ∧ Below w.heap.size w W1) := ⟨HS.out.1.below hb, Below.next HS.out.2 hb⟩
  clear hb
  refine ⟨_, by simp [Act.put]; rfl, hK _ _ ⟨HS.out.1, ?_⟩⟩
  clear hK
  refine onlyH (o := ?o204) 5 (by kernel_rfl) ?h204 ?r204
  case h204 => simp only [aT, aS, aZ]; rfl
  intro K hK
  obtain ⟨d5, hd5⟩ : ∃ d, d = decide (0 ≤ x.merged ∧ x.merged ≤ x.taken.size) := ⟨_, rfl⟩
  have HD5 : Hid (d5 = decide (0 ≤ x.merged ∧ x.merged ≤ x.taken.size)) := hd5
  refine op_callS2 43 _ _ _ Tryz.f43 (fun v w' => v = .bool d5 ∧ w' = W1) rfl rfl Tryz.func43 (by kernel_rfl) (by kernel_rfl) ((inRange_any x.merged x.taken.size W1).mono (by rintro e w' ⟨rfl, rfl⟩; exact ⟨_, rfl, by rw [hd5], rfl⟩)) ?_
  rintro v W2 ⟨rfl, hq⟩
  have hq' := hq.symm
  subst hq'
  clear hq hd5
  refine ⟨_, by simp [Act.put]; rfl, hK _ _ ⟨HS.out.1, ?_⟩⟩
  clear hK
  cases d5
  · refine takeH (o := ?o205) 6 (.bool false) ?h205 ?r205
    case h205 => simp only [aT, aS, aZ]; rfl
    refine ⟨_, by simp [Act.put]; rfl, by kernel_rfl, by kernel_rfl, by kernel_rfl, fun _ _ _ h => h, (.inl ⟨rfl, fun W _ => by kernel_rfl⟩), HS.out.1, ?_⟩
    refine takeH (o := ?o206) 7 (undef) ?h206 ?r206
    case h206 => simp only [aT, aS, aZ]; rfl
    refine ⟨_, by simp [Act.put]; rfl, by kernel_rfl, by kernel_rfl, by kernel_rfl, fun _ _ _ h => h, (.inr ⟨rfl, rfl⟩), HS.out.1, ?_⟩
    refine takeH (o := ?o207) 8 (undef) ?h207 ?r207
    case h207 => simp only [aT, aS, aZ]; rfl
    refine ⟨_, by simp [Act.put]; rfl, by kernel_rfl, by kernel_rfl, by kernel_rfl, fun _ _ _ h => h, (.inr ⟨rfl, rfl⟩), HS.out.1, ?_⟩
    refine takeH (o := ?o208) 9 (undef) ?h208 ?r208
    case h208 => simp only [aT, aS, aZ]; rfl
    refine ⟨_, by simp [Act.put]; rfl, by kernel_rfl, by kernel_rfl, by kernel_rfl, fun _ _ _ h => h, (.inr ⟨rfl, rfl⟩), HS.out.1, ?_⟩
    refine takeH (o := ?o209) 10 (undef) ?h209 ?r209
    case h209 => simp only [aT, aS, aZ]; rfl
    refine ⟨_, by simp [Act.put]; rfl, by kernel_rfl, by kernel_rfl, by kernel_rfl, fun _ _ _ h => h, (.inr ⟨rfl, rfl⟩), HS.out.1, ?_⟩
    refine takeH (o := ?o210) 11 (undef) ?h210 ?r210
    case h210 => simp only [aT, aS, aZ]; rfl
    refine ⟨_, by simp [Act.put]; rfl, by kernel_rfl, by kernel_rfl, by kernel_rfl, fun _ _ _ h => h, (.inr ⟨rfl, rfl⟩), HS.out.1, ?_⟩
    refine takeH (o := ?o211) 12 (undef) ?h211 ?r211
    case h211 => simp only [aT, aS, aZ]; rfl
    refine ⟨_, by simp [Act.put]; rfl, by kernel_rfl, by kernel_rfl, by kernel_rfl, fun _ _ _ h => h, (.inr ⟨rfl, rfl⟩), HS.out.1, ?_⟩
    refine takeH (o := ?o212) 13 (undef) ?h212 ?r212
    case h212 => simp only [aT, aS, aZ]; rfl
    refine ⟨_, by simp [Act.put]; rfl, by kernel_rfl, by kernel_rfl, by kernel_rfl, fun _ _ _ h => h, (.inr ⟨rfl, rfl⟩), HS.out.1, ?_⟩
    refine takeH (o := ?o213) 14 (.bool false) ?h213 ?r213
    case h213 => simp only [aT, aS, aZ]; rfl
    refine ⟨_, by simp [Act.put]; rfl, by kernel_rfl, by kernel_rfl, by kernel_rfl, fun _ _ _ h => h, (.inl ⟨rfl, fun W _ => by kernel_rfl⟩), HS.out.1, ?_⟩
    refine takeH (o := ?o214) 15 (.bool false) ?h214 ?r214
    case h214 => simp only [aT, aS, aZ]; rfl
    refine ⟨_, by simp [Act.put]; rfl, by kernel_rfl, by kernel_rfl, by kernel_rfl, fun _ _ _ h => h, (.inl ⟨rfl, fun W _ => by kernel_rfl⟩), HS.out.1, ?_⟩
    refine wpAnyH_done (by kernel_rfl) ?_ _
    have HV : Hid (x.ok per = false) := by show _ = _; unfold Se.ok; rw [← HD5.out]; simp
    go_wp2
    go_ret
    exact ⟨ret_bool HV.out.symm, HS.out.2⟩
  refine takeH (o := ?o215) 6 (.bool true) ?h215 ?r215
  case h215 => simp only [aT, aS, aZ]; rfl
  refine ⟨_, by simp [Act.put]; rfl, by kernel_rfl, by kernel_rfl, by kernel_rfl, fun _ _ _ h => h, (.inl ⟨rfl, fun W _ => by kernel_rfl⟩), HS.out.1, ?_⟩
  refine takeH (o := ?o216) 7 (.pointer (some ⟨w.heap.size, 1, none⟩)) ?h216 ?r216
  case h216 => simp only [aT, aS, aZ]; rfl
  refine ⟨_, by simp [Act.put]; rfl, by kernel_rfl, by kernel_rfl, by kernel_rfl, fun _ _ _ h => h, (.inl ⟨rfl, fun W _ => by kernel_rfl⟩), HS.out.1, ?_⟩
  refine takeH (o := ?o217) 8 (.int .i64 x.granted) ?h217 ?r217
  case h217 => simp only [aT, aS, aZ]; rfl
  refine ⟨_, by simp [Act.put]; rfl, by kernel_rfl, by kernel_rfl, by kernel_rfl, fun _ _ _ h => h, (.inl ⟨rfl, fun W hW => by have c := hW.cell 1; simp only [aT, aS, aZ] at c; go_simp⟩), HS.out.1, ?_⟩
  refine takeH (o := ?o218) 9 (.pointer (some ⟨w.heap.size, 3, none⟩)) ?h218 ?r218
  case h218 => simp only [aT, aS, aZ]; rfl
  refine ⟨_, by simp [Act.put]; rfl, by kernel_rfl, by kernel_rfl, by kernel_rfl, fun _ _ _ h => h, (.inl ⟨rfl, fun W _ => by kernel_rfl⟩), HS.out.1, ?_⟩
  refine takeH (o := ?o219) 10 (.int .i64 x.merged) ?h219 ?r219
  case h219 => simp only [aT, aS, aZ]; rfl
  refine ⟨_, by simp [Act.put]; rfl, by kernel_rfl, by kernel_rfl, by kernel_rfl, fun _ _ _ h => h, (.inl ⟨rfl, fun W hW => by have c := hW.cell 3; simp only [aT, aS, aZ] at c; go_simp⟩), HS.out.1, ?_⟩
  refine takeH (o := ?o220) 11 (.int .i64 per) ?h220 ?r220
  case h220 => simp only [aT, aS, aZ]; rfl
  refine ⟨_, by simp [Act.put]; rfl, by kernel_rfl, by kernel_rfl, by kernel_rfl, fun _ _ _ h => h, (.inl ⟨rfl, fun W _ => by kernel_rfl⟩), HS.out.1, ?_⟩
  have hm : x.merged + per ≤ 20971520008 ∧ 0 ≤ x.merged + per := by have h1 := HPR.out; have h5 := of_decide_eq_true HD5.out.symm; have := HSZ.out; omega
  have hwz : IntKind.i64.wrap (x.merged + per) = x.merged + per := wrapSe (by omega)
  refine takeH (o := ?o221) 12 (.int .i64 (x.merged + per)) ?h221 ?r221
  case h221 => simp only [aT, aS, aZ]; rfl
  refine ⟨_, by simp [Act.put]; rfl, by kernel_rfl, by kernel_rfl, by kernel_rfl, fun _ _ _ h => h, (.inl ⟨rfl, fun W _ => by first | (go_simp; done) | (go_simp; exact hwz)⟩), HS.out.1, ?_⟩
  obtain ⟨d6, hd6⟩ : ∃ d, d = decide (x.granted ≤ x.merged + per) := ⟨_, rfl⟩
  have HD6 : Hid (d6 = decide (x.granted ≤ x.merged + per)) := hd6
  refine takeH (o := ?o222) 13 (.bool d6) ?h222 ?r222
  case h222 => simp only [aT, aS, aZ]; rfl
  refine ⟨_, by simp [Act.put]; rfl, by kernel_rfl, by kernel_rfl, by kernel_rfl, fun _ _ _ h => h, (.inl ⟨rfl, fun W _ => by rw [hd6]; go_simp⟩), HS.out.1, ?_⟩
  clear hd6 hwz hm
  refine takeH (o := ?o223) 14 (.bool d6) ?h223 ?r223
  case h223 => simp only [aT, aS, aZ]; rfl
  refine ⟨_, by simp [Act.put]; rfl, by kernel_rfl, by kernel_rfl, by kernel_rfl, fun _ _ _ h => h, (.inl ⟨rfl, fun W _ => by kernel_rfl⟩), HS.out.1, ?_⟩
  refine takeH (o := ?o224) 15 (.bool d6) ?h224 ?r224
  case h224 => simp only [aT, aS, aZ]; rfl
  refine ⟨_, by simp [Act.put]; rfl, by kernel_rfl, by kernel_rfl, by kernel_rfl, fun _ _ _ h => h, (.inl ⟨rfl, fun W _ => by kernel_rfl⟩), HS.out.1, ?_⟩
  refine wpAnyH_done (by kernel_rfl) ?_ _
  have HV : Hid (x.ok per = d6) := by show _ = _; unfold Se.ok; rw [← HD1.out, ← HD2.out, ← HD3.out, ← HD4.out, ← HD5.out, ← HD6.out, ← HD7.out]; simp
  go_wp2
  go_ret
  exact ⟨ret_bool HV.out.symm, HS.out.2⟩
set_option maxRecDepth 200000 in
set_option maxHeartbeats 2000000 in
theorem copiedSeat_any (v : Value) (x : Se) (F : List Nat) (w : World) (h : RdSe w v x F) (hl : x.taken.length ≤ 2097152) :
    Calls Tryz.prog 48 #[v] w fun e w' => NewSe w x e w' := by
  obtain ⟨b, l, c, rfl, hP, hcp⟩ := h
  have HP : Hid (RdP w b l x.taken F ∧ l ≤ 2097152) := ⟨hP, by rw [← hP.length]; exact hl⟩
  have HT : Hid (Two w #[.int .i64 x.epoch, .int .i64 x.granted, .slice b l c, .int .i64 x.merged, .int .i64 x.last] #[.int .i64 0, .int .i64 0, .slice none 0 0, .int .i64 0, .int .i64 0] 45 ((w.alloc (.cells #[.int .i64 x.epoch, .int .i64 x.granted, .slice b l c, .int .i64 x.merged, .int .i64 x.last] 45)).alloc (.cells #[.int .i64 0, .int .i64 0, .slice none 0 0, .int .i64 0, .int .i64 0] 45))) := Two.made w _ _ _
  clear hP hl hcp
  have c2' := HT.out.fst.cell 2
  simp only [aT, aS, aZ] at c2'
  go_enter Tryz.func48, Tryz.ntmps48
  go_wp2_with fail
  refine (copiedSpans_any b l c x.taken F _ (HP.out.1.below HT.out.bel) HP.out.2).mono ?_
  rintro e w2 ⟨p, n, k, G, rfl, rp, op, bp, kp⟩
  have hlt := HT.out.snd.lt
  have H2 : Hid (Two w #[.int .i64 x.epoch, .int .i64 x.granted, .slice b l c, .int .i64 x.merged, .int .i64 x.last] #[.int .i64 0, .int .i64 0, .slice none 0 0, .int .i64 0, .int .i64 0] 45 w2 ∧ RdP w2 p n x.taken G ∧ Own (w.heap.size + 2) w2 G ∧ Capd p n k) := ⟨HT.out.below bp, rp, op.mono (by simp), kp⟩
  clear rp op bp kp HT c2' hlt
  have c2' := H2.out.1.fst.cell 2
  have f2' := H2.out.1.fst.frozen 2
  simp only [aT, aS, aZ] at c2'
  go_wp2_with (first | go_skip | (with_reducible refine stopLoad 45 rfl ?_) | (with_reducible refine stopStore 45 rfl ?_))
  have n0 : w.heap.size ∉ G := fun hx => by have := H2.out.2.2.1.ge _ hx; omega
  have n1 : w.heap.size + 1 ∉ G := fun hx => by have := H2.out.2.2.1.ge _ hx; omega
  have ag : Agree w2 (w2.setCell ⟨w.heap.size, 2, none⟩ (.slice p n k)) G := .set n0 2 _
  have H3 : Hid (Blk (w2.setCell ⟨w.heap.size, 2, none⟩ (.slice p n k)) w.heap.size #[.int .i64 x.epoch, .int .i64 x.granted, .slice p n k, .int .i64 x.merged, .int .i64 x.last] 45 ∧ Blk (w2.setCell ⟨w.heap.size, 2, none⟩ (.slice p n k)) (w.heap.size + 1) #[.int .i64 0, .int .i64 0, .slice none 0 0, .int .i64 0, .int .i64 0] 45 ∧ RdP (w2.setCell ⟨w.heap.size, 2, none⟩ (.slice p n k)) p n x.taken G ∧ Own (w.heap.size + 2) (w2.setCell ⟨w.heap.size, 2, none⟩ (.slice p n k)) G ∧ Below w.heap.size w (w2.setCell ⟨w.heap.size, 2, none⟩ (.slice p n k)) ∧ Capd p n k ∧ w.heap.size + 1 ∉ G) :=
    ⟨H2.out.1.fst.set 2 _, H2.out.1.snd.setOther (by omega) 2 _, H2.out.2.1.agree ag, H2.out.2.2.1.agree ag, H2.out.1.bel.setCell (by show w.heap.size ≤ w.heap.size; omega) _, H2.out.2.2.2, n1⟩
  obtain ⟨w3, hw3⟩ : ∃ W, W = w2.setCell ⟨w.heap.size, 2, none⟩ (.slice p n k) := ⟨_, rfl⟩
  rw [← hw3] at H3 ⊢
  clear hw3 c2' f2' H2 n0 n1 ag
  refine load_known 45 w.heap.size #[.int .i64 x.epoch, .int .i64 x.granted, .slice p n k, .int .i64 x.merged, .int .i64 x.last] 45 _ H3.out.1 rfl rfl rfl Tryz.underlying45 rfl infoSeI ?_
  go_wp2_with (first | go_skip | (with_reducible refine stopLoad 45 rfl ?_) | (with_reducible refine stopStore 45 rfl ?_))
  refine store_known 45 (w.heap.size + 1) _ #[.int .i64 x.epoch, .int .i64 x.granted, .slice p n k, .int .i64 x.merged, .int .i64 x.last] 45 H3.out.2.1 rfl rfl rfl rfl infoSeI rfl (by simp [Value.oneCell']) ?_
  go_wp2
  refine bodyPost_ret (results_cell_row Tryz.results48 _ _ (w.heap.size + 1) _ _ (0, 0) _ rfl H3.out.2.1.setRow Tryz.underlying45 rfl infoSeI) rfl ?_
  have ag := Agree.row (w := w3) H3.out.2.2.2.2.2.2 #[.int .i64 x.epoch, .int .i64 x.granted, .slice p n k, .int .i64 x.merged, .int .i64 x.last]
  exact ⟨_, G, rfl, ⟨p, n, k, rfl, H3.out.2.2.1.agree ag, H3.out.2.2.2.2.2.1⟩, (H3.out.2.2.2.1.agree ag).mono (by omega), below_setRow H3.out.2.2.2.2.1 (by omega) _⟩
end Go.Proofs.YtgkbhhlkaifnoaaGreatDoor
