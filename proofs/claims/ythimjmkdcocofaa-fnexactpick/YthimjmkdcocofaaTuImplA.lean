/- The walks through the program's isPerAgent, TurnOk and TurnNew, and the model's TurnNew. No statement of the seat is proved here. -/
import Derived.Test.YthimjmkdcocofaaTuNums
import Derived.Test.YthimjmkdcocofaaTallyA
import Derived.Test.YthimjmkdcocofaaSkNew
namespace Go.Proofs.Ythimjmkdcocofaa
open Go.RowKit
theorem okN_plain (most : Int) : okN most false = fun z => decide (0 ≤ z ∧ z ≤ most) := by
  funext z; unfold okN; simp
theorem nums_okN (zs : List Int) (most : Int) : nums zs 0 most = (decide (zs.length = 3) && zs.all (okN most false)) := by
  rw [okN_plain]; rfl
set_option maxRecDepth 200000 in
set_option maxHeartbeats 1000000 in
theorem isPerAgent_any (a : Option Addr) (len cap : Nat) (zs : List Int) (F : List Nat) (most : Int) (w : World) (h : RdI w a len zs F) (hlen : len ≤ 140737488355328) :
    Calls Try.prog 29 #[.slice a len cap, .int .i64 most] w fun e w' => e = .returned (.bool (nums zs 0 most)) ∧ w' = w := by
  have HL : Hid (zs.length = len ∧ RdI w a len zs F) := ⟨h.length, h⟩
  obtain ⟨d, hd⟩ : ∃ d, d = nums zs 0 most := ⟨_, rfl⟩
  rw [← hd]
  clear h
  by_cases hl : len = 3
  · subst hl
    have HD : Hid (d = zs.all (okN most false)) := by show d = _; rw [hd, nums_okN, HL.out.1]; rfl
    clear hd
    go_enter Try.func29, Try.ntmps29
    go_wp2_with fail
    refine (allInRange_any _ _ _ zs F _ _ HL.out.2 (by omega)).mono ?_
    rintro e w1 ⟨rfl, hw1⟩
    have hw1' := hw1.symm
    subst hw1'
    rw [← HD.out]
    clear hw1
    go_wp2
    go_ret
    exact ⟨rfl, rfl⟩
  · have HD : Hid (d = false) := by show d = _; rw [hd, nums, HL.out.1]; simp [hl]
    have hne : ((len : Int) == 3) = false := by simp; omega
    clear hd
    go_enter Try.func29, Try.ntmps29
    go_wp2
    go_ret
    exact ⟨ret_bool (by rw [HD.out]), rfl⟩
set_option maxRecDepth 200000 in
set_option maxHeartbeats 1000000 in
theorem turnOkImpl_any (v : Value) (x : Tu) (F : List Nat) (w : World) (h : RdTu w v x F) (hw : x.wide) :
    Calls Try.prog 13 #[v] w fun e w' => e = .returned (.bool x.ok) ∧ Below w.heap.size w w' := by
  obtain ⟨b, l, c, rfl, hP⟩ := h
  have HP : Hid (RdI w b l x.left F ∧ l ≤ 140737488355328) := ⟨hP, by rw [← hP.length]; exact Nat.le_trans hw (by omega)⟩
  have HB : Hid (Below w.heap.size w (w.alloc (.cells #[.int .i64 x.who, .bool x.fresh, .slice b l c] 26)) ∧ Blk (w.alloc (.cells #[.int .i64 x.who, .bool x.fresh, .slice b l c] 26)) w.heap.size #[.int .i64 x.who, .bool x.fresh, .slice b l c] 26) := ⟨Below.allocW _ (Below.refl _ _) (Nat.le_refl _), Blk.made _ _ _⟩
  obtain ⟨p, hp⟩ : ∃ p, p = decide (0 ≤ x.who ∧ x.who ≤ 2) := ⟨_, rfl⟩
  have HV : Hid (x.ok = (p && nums x.left 0 1000)) := by show _ = _; rw [hp]; rfl
  clear hP hw
  go_enter Try.func13, Try.ntmps13
  go_wp2_with fail
  refine (inRange_any _ _ _).mono ?_
  rintro e w1 ⟨rfl, hw1⟩
  have hw1' := hw1.symm
  subst hw1'
  rw [← hp]
  clear hw1 hp
  cases p
  · go_wp2
    go_ret
    exact ⟨ret_bool (by rw [HV.out]; rfl), HB.out.1⟩
  · have c2 := HB.out.2.cell 2
    simp only [aT, aS, aZ] at c2
    go_wp2_with fail
    refine (isPerAgent_any _ _ _ x.left F _ _ (HP.out.1.below HB.out.1) HP.out.2).mono ?_
    rintro e w2 ⟨rfl, hw2⟩
    have hw2' := hw2.symm
    subst hw2'
    clear hw2 c2
    obtain ⟨r, hr⟩ : ∃ r, r = nums x.left 0 1000 := ⟨_, rfl⟩
    rw [← hr]
    have HR : Hid (r = nums x.left 0 1000) := hr
    clear hr
    go_wp2
    go_ret
    exact ⟨ret_bool (by rw [HV.out, HR.out]; rfl), HB.out.1⟩
set_option maxRecDepth 200000 in
set_option maxHeartbeats 1000000 in
theorem turnNewSpec_any (w : World) : Calls Try.prog 17 #[] w fun e w' => NewTu w Tu.new e w' := by
  obtain ⟨z3, hz3⟩ : ∃ z : Array Value, z = madeCells #[.int .i64 0] 3 := ⟨_, rfl⟩
  have hmk3 : ∀ w : World, (Instr.makeSlice 24 (.int .i64 3) (.int .i64 3)).run Try.prog w = .ok (.slice (some ⟨w.heap.size, 0, none⟩) 3 3) (w.alloc (.cells z3 3)) := fun w => by
    rw [hz3]; exact run_make_row' (P := Try.prog) 24 3 (.int .i64 0) 8 Try.underlying24 infoInt rfl .i64 .i64 3 (by omega) (by omega) w
  have HB : Hid (Blk ((w.alloc (.cells #[.int .i64 0, .bool false, .slice none 0 0] 26)).alloc (.cells z3 3)) w.heap.size #[.int .i64 0, .bool false, .slice none 0 0] 26 ∧ Blk ((w.alloc (.cells #[.int .i64 0, .bool false, .slice none 0 0] 26)).alloc (.cells z3 3)) (w.heap.size + 1) z3 3 ∧ Below w.heap.size w ((w.alloc (.cells #[.int .i64 0, .bool false, .slice none 0 0] 26)).alloc (.cells z3 3)) ∧ z3 = madeCells #[.int .i64 0] 3) :=
    ⟨(Blk.made _ _ _).alloc _, Blk.made_eq (by simp), Below.allocW _ (Below.allocW _ (Below.refl _ _) (Nat.le_refl _)) (Nat.le_refl _), hz3⟩
  clear hz3
  go_enter Try.func17, Try.ntmps17
  go_wp2_with (first | go_skip | (with_reducible refine stopStore 26 rfl ?_))
  refine store_known 26 w.heap.size _ #[.int .i64 0, .bool true, .slice (some ⟨w.heap.size + 1, 0, none⟩) 3 3] 26 HB.out.1 rfl rfl rfl rfl infoTuI rfl (by simp [Value.oneCell']) ?_
  go_wp2
  refine bodyPost_ret (results_cell_row Try.results17 _ _ w.heap.size _ _ (0, 0) _ rfl HB.out.1.setRow Try.underlying26 rfl infoTuI) rfl ?_
  have e3 : z3.toList = ([0, 0, 0] : List Int).map (Value.int .i64) := by rw [HB.out.2.2.2]; kernel_rfl
  have hb := HB.out.2.1.setRowOther (k := w.heap.size) (ds := #[.int .i64 0, .bool true, .slice (some ⟨w.heap.size + 1, 0, none⟩) 3 3]) (by omega)
  exact ⟨_, [w.heap.size + 1], rfl, ⟨_, 3, 3, rfl, rdI_blk hb e3 rfl (by omega)⟩, ⟨by simp, fun b hx o => by simp at hx; subst hx; exact hb.frozen o, fun b hx => by simp at hx; omega⟩, below_setRow HB.out.2.2.1 (Nat.le_refl _) _⟩
set_option maxRecDepth 200000 in
set_option maxHeartbeats 1000000 in
theorem turnNewImpl_any (w : World) : Calls Try.prog 18 #[] w fun e w' => NewTu w Tu.new e w' := by
  obtain ⟨z3, hz3⟩ : ∃ z : Array Value, z = madeCells #[.int .i64 0] 3 := ⟨_, rfl⟩
  have hmk3 : ∀ w : World, (Instr.makeSlice 24 (.int .i64 3) (.int .i64 3)).run Try.prog w = .ok (.slice (some ⟨w.heap.size, 0, none⟩) 3 3) (w.alloc (.cells z3 3)) := fun w => by
    rw [hz3]; exact run_make_row' (P := Try.prog) 24 3 (.int .i64 0) 8 Try.underlying24 infoInt rfl .i64 .i64 3 (by omega) (by omega) w
  have HB : Hid (Blk ((w.alloc (.cells #[.int .i64 0, .bool false, .slice none 0 0] 26)).alloc (.cells z3 3)) w.heap.size #[.int .i64 0, .bool false, .slice none 0 0] 26 ∧ Blk ((w.alloc (.cells #[.int .i64 0, .bool false, .slice none 0 0] 26)).alloc (.cells z3 3)) (w.heap.size + 1) z3 3 ∧ Below w.heap.size w ((w.alloc (.cells #[.int .i64 0, .bool false, .slice none 0 0] 26)).alloc (.cells z3 3)) ∧ z3 = madeCells #[.int .i64 0] 3) :=
    ⟨(Blk.made _ _ _).alloc _, Blk.made_eq (by simp), Below.allocW _ (Below.allocW _ (Below.refl _ _) (Nat.le_refl _)) (Nat.le_refl _), hz3⟩
  clear hz3
  go_enter Try.func18, Try.ntmps18
  go_wp2_with (first | go_skip | (with_reducible refine stopStore 26 rfl ?_))
  refine store_known 26 w.heap.size _ #[.int .i64 0, .bool true, .slice (some ⟨w.heap.size + 1, 0, none⟩) 3 3] 26 HB.out.1 rfl rfl rfl rfl infoTuI rfl (by simp [Value.oneCell']) ?_
  go_wp2
  refine bodyPost_ret (results_cell_row Try.results18 _ _ w.heap.size _ _ (0, 0) _ rfl HB.out.1.setRow Try.underlying26 rfl infoTuI) rfl ?_
  have e3 : z3.toList = ([0, 0, 0] : List Int).map (Value.int .i64) := by rw [HB.out.2.2.2]; kernel_rfl
  have hb := HB.out.2.1.setRowOther (k := w.heap.size) (ds := #[.int .i64 0, .bool true, .slice (some ⟨w.heap.size + 1, 0, none⟩) 3 3]) (by omega)
  exact ⟨_, [w.heap.size + 1], rfl, ⟨_, 3, 3, rfl, rdI_blk hb e3 rfl (by omega)⟩, ⟨by simp, fun b hx o => by simp at hx; subst hx; exact hb.frozen o, fun b hx => by simp at hx; omega⟩, below_setRow HB.out.2.2.1 (Nat.le_refl _) _⟩
end Go.Proofs.Ythimjmkdcocofaa
