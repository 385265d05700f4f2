/- The walks through the model's EntrySize. No statement of the seat is proved here. -/
import Derived.Test.YtbmbmnhamogghapItModel
import Derived.Test.YtbmbmnhamogghapSkShape
import Derived.Deep.DeepCutAuto
import Derived.Test.YtbmbmnhamogghapStepCall
namespace Go.Proofs.Ytbmbmnhamogghap
open Go.RowKit
/-- How many are above 0. -/
def cntUp (l : List Int) : Int := ((l.filter (fun x => decide (0 < x))).length : Nat)
theorem cntUp_range (l : List Int) : 0 ≤ cntUp l ∧ cntUp l ≤ l.length := by
  unfold cntUp
  have := List.length_filter_le (fun x => decide (0 < x)) l
  omega
theorem takeI_succ (l : List Int) (k : Nat) (hk : k < l.length) : l.take (k + 1) = l.take k ++ [l[k]?.getD 0] := by
  rw [List.take_add_one, List.getElem?_eq_getElem hk]; rfl
theorem cntUp_yes {l : List Int} {k : Nat} (hk : k < l.length) (h : 0 < l[k]?.getD 0) : cntUp (l.take (k + 1)) = cntUp (l.take k) + 1 := by
  rw [takeI_succ l k hk]
  unfold cntUp
  rw [List.filter_append]
  simp [h]
theorem cntUp_no {l : List Int} {k : Nat} (hk : k < l.length) (h : ¬ 0 < l[k]?.getD 0) : cntUp (l.take (k + 1)) = cntUp (l.take k) := by
  rw [takeI_succ l k hk]
  unfold cntUp
  rw [List.filter_append]
  simp [h]
set_option maxRecDepth 200000 in
theorem l1BitS_any (d : Bool) (w : World) : Calls Try.prog 97 #[.bool d] w fun e w' => e = .returned (.int .i64 (if d then 1 else 0)) ∧ w' = w := by
  cases d
  · go_enter Try.func97, Try.ntmps97
    go_wp2
    go_ret
    exact ⟨rfl, rfl⟩
  · go_enter Try.func97, Try.ntmps97
    go_wp2
    go_ret
    exact ⟨rfl, rfl⟩
set_option maxRecDepth 200000 in
set_option maxHeartbeats 1000000 in
theorem l6Full_any (a : Option Addr) (len cap : Nat) (zs : List Int) (F : List Nat) (w : World) (h : RdI w a len zs F) (hlen : len ≤ 1048576) :
    Calls Try.prog 60 #[.slice a len cap] w fun e w' => e = .returned (.int .i64 (cntUp zs)) ∧ w' = w := by
  have HL : Hid (zs.length = len) := h.length
  have HC : Hid (len = 0 ∨ ∃ b off, a = some ⟨b, off, none⟩ ∧ ∀ i, i < len → w.cell? ⟨b, off + i, none⟩ = some (.int .i64 (zs[i]?.getD 0))) := by
    rcases h.cells with ⟨h0, _⟩ | ⟨b, off, hp, e, _, hc⟩
    · exact .inl h0
    · exact .inr ⟨b, off, e, fun i hi => by rw [hc i hi, List.getD_eq_getElem?_getD]⟩
  clear h
  go_enter Try.func60, Try.ntmps60
  go_wp2
  go_loopw [3, 4] (fun q i wr => ∃ (k : Nat) (u : Int), k ≤ len ∧ i = .int .i64 k ∧ q = .int .i64 u ∧ 0 ≤ u ∧ u ≤ k ∧ Hid (u = cntUp (zs.take k)) ∧ Hid (wr = w)) (fun _ i _ => len - (intOf i).toNat)
  case atStart => exact ⟨0, 0, by omega, rfl, rfl, by omega, by omega, rfl, rfl⟩
  case round =>
    obtain ⟨k, u, hk, rfl, rfl, u0, u1, HN, HW⟩ := hrel
    by_cases hlt : k < len
    · rcases HC.out with h0 | ⟨b, off, rfl, hc⟩
      · omega
      obtain ⟨x, hx⟩ : ∃ x, x = zs[k]?.getD 0 := ⟨_, rfl⟩
      have e := hc k hlt
      rw [← hx] at e
      have d1 : wr.cell? ⟨b, off + k, none⟩ = some (.int .i64 x) := by rw [HW.out]; exact e
      have hI : (k : Int) < (len : Int) := by omega
      have hkl : k < zs.length := by rw [HL.out]; exact hlt
      have HX : Hid (x = zs[k]?.getD 0) := hx
      clear e hx hc
      by_cases c : 0 < x
      · have cd : decide (0 < x) = true := decT c
        have HN2 : Hid (u + 1 = cntUp (zs.take (k + 1))) := by show _ = _; rw [cntUp_yes hkl (by rw [← HX.out]; exact c), HN.out]
        go_wp2_with fail
        refine (l1BitS_any _ _).mono ?_
        rintro e w2 ⟨rfl, hw2⟩
        have HW2 : Hid (w2 = w) := hw2.trans HW.out
        clear hw2
        go_wp2
        go_roundw
        case rel => exact ⟨k + 1, u + 1, by omega, by go_num, by go_num, by omega, by omega, HN2, HW2⟩
        case measure => simp [intOf]; omega
      · have cd : decide (0 < x) = false := decF c
        have HN2 : Hid (u = cntUp (zs.take (k + 1))) := by show _ = _; rw [cntUp_no hkl (by rw [← HX.out]; exact c), HN.out]
        go_wp2_with fail
        refine (l1BitS_any _ _).mono ?_
        rintro e w2 ⟨rfl, hw2⟩
        have HW2 : Hid (w2 = w) := hw2.trans HW.out
        clear hw2
        go_wp2
        go_roundw
        case rel => exact ⟨k + 1, u, by omega, by go_num, by go_num, by omega, by omega, HN2, HW2⟩
        case measure => simp [intOf]; omega
    · obtain rfl : k = len := by omega
      have HV : Hid (u = cntUp zs) := by
        have := HN.out
        rw [List.take_of_length_le (by rw [HL.out]; omega)] at this
        exact this
      go_wp2
      go_ret
      rw [← HV.out]
      exact ⟨rfl, HW.out⟩
def En.size (x : En) : Int := if x.ok = true then 4 + cntUp x.sk.hist + cntUp x.sk.regs + cntUp (x.sk.rows.getD 0 []) + cntUp (x.sk.rows.getD 1 []) + 2 * x.ids.length else 0
theorem En.size_not {x : En} (h : x.ok = false) : x.size = 0 := by unfold En.size; rw [h]; rfl
theorem En.size_ok {x : En} (h : x.ok = true) : x.size = 4 + cntUp x.sk.hist + cntUp x.sk.regs + cntUp (x.sk.rows.getD 0 []) + cntUp (x.sk.rows.getD 1 []) + 2 * x.ids.length := by unfold En.size; rw [if_pos h]
theorem infoEn : (Try.prog.info? 34).map (·.size) = some 10 := by kernel_rfl
set_option maxRecDepth 100000 in
set_option maxHeartbeats 8000000 in
theorem entrySizeSpec_any (v : Value) (x : En) (F G : List Nat) (w : World) (h : RdEn w v x F G) (hw : x.sk.wide) (hl : x.ids.length ≤ 1048576) :
    Calls Try.prog 24 #[v] w fun e w' => e = .returned (.int .i64 x.size) ∧ Below w.heap.size w w' := by
  have HRE : Hid (RdEn w v x F G ∧ x.sk.wide) := ⟨h, hw⟩
  obtain ⟨b, l, c, a1, n1, c1, a2, n2, c2, a3, n3, c3, rfl, hp, hr, _⟩ := h
  have HP : Hid (x.ids.length = l) := hp.length
  have hll : l ≤ 1048576 := by rw [← hp.length]; exact hl
  obtain ⟨_, _, _, _, _, _, _, _, _, F1, F2, F3, ev, r1, r2, r3, _⟩ := hr
  cases ev
  have HR : Hid (RdI w a1 n1 x.sk.hist F1 ∧ RdI w a2 n2 x.sk.regs F2 ∧ RdII w a3 n3 x.sk.rows F3) := ⟨r1, r2, r3⟩
  have HB : Hid (Below w.heap.size w (w.alloc (.cells #[.int .i64 x.key, .int .i64 x.window, .slice b l c, .int .i64 x.sk.count, .int .i64 x.sk.sum, .int .i64 x.sk.min, .int .i64 x.sk.max, .slice a1 n1 c1, .slice a2 n2 c2, .slice a3 n3 c3] 34)) ∧ Blk (w.alloc (.cells #[.int .i64 x.key, .int .i64 x.window, .slice b l c, .int .i64 x.sk.count, .int .i64 x.sk.sum, .int .i64 x.sk.min, .int .i64 x.sk.max, .slice a1 n1 c1, .slice a2 n2 c2, .slice a3 n3 c3] 34)) w.heap.size #[.int .i64 x.key, .int .i64 x.window, .slice b l c, .int .i64 x.sk.count, .int .i64 x.sk.sum, .int .i64 x.sk.min, .int .i64 x.sk.max, .slice a1 n1 c1, .slice a2 n2 c2, .slice a3 n3 c3] 34) := ⟨Below.allocW _ (Below.refl _ _) (Nat.le_refl _), Blk.made _ _ _⟩
  clear hp hw r1 r2 r3
  go_enter Try.func24, Try.ntmps24
  go_wp2_with (first | go_skip | (with_reducible refine stopLoad 34 rfl ?_))
  refine load_known 34 w.heap.size _ 34 _ HB.out.2 rfl rfl rfl Try.underlying34 rfl infoEn ?_
  go_wp2_with fail
  refine (entryOkSpec_any _ x F G _ (HRE.out.1.below HB.out.1) HRE.out.2 (by omega)).mono ?_
  rintro e w1 ⟨rfl, hb1⟩
  have HB1 : Hid (Below w.heap.size w w1 ∧ Blk w1 w.heap.size #[.int .i64 x.key, .int .i64 x.window, .slice b l c, .int .i64 x.sk.count, .int .i64 x.sk.sum, .int .i64 x.sk.min, .int .i64 x.sk.max, .slice a1 n1 c1, .slice a2 n2 c2, .slice a3 n3 c3] 34) := ⟨Below.next HB.out.1 hb1, HB.out.2.below hb1⟩
  clear hb1 HB HRE
  obtain ⟨d, hd⟩ : ∃ d, d = x.ok := ⟨_, rfl⟩
  rw [← hd]
  have HD : Hid (d = x.ok) := hd
  clear hd
  cases d
  · go_wp2
    go_ret
    rw [En.size_not HD.out.symm]
    exact ⟨rfl, HB1.out.1⟩
  obtain ⟨rfl, rfl, rfl, p, po, r0, r1, k0, k1, rfl, hS⟩ := shape_of HR.out.1 HR.out.2.1 HR.out.2.2 (En.ok_sk HD.out.symm)
  have HS : Hid (Shape w1 x.sk a1 a2 p po r0 r1 k0 k1) := hS.below HB1.out.1
  obtain ⟨E1, q1⟩ := HS.out.hist
  obtain ⟨E2, q2⟩ := HS.out.regs
  obtain ⟨E3, q3⟩ := HS.out.row0
  obtain ⟨E4, q4⟩ := HS.out.row1
  obtain ⟨y1, hy1⟩ : ∃ y, y = cntUp x.sk.hist := ⟨_, rfl⟩
  obtain ⟨y2, hy2⟩ : ∃ y, y = cntUp x.sk.regs := ⟨_, rfl⟩
  obtain ⟨y3, hy3⟩ : ∃ y, y = cntUp (x.sk.rows.getD 0 []) := ⟨_, rfl⟩
  obtain ⟨y4, hy4⟩ : ∃ y, y = cntUp (x.sk.rows.getD 1 []) := ⟨_, rfl⟩
  have HV : Hid (x.size = 4 + y1 + y2 + y3 + y4 + 2 * l) := by show _ = _; rw [En.size_ok HD.out.symm, hy1, hy2, hy3, hy4, HP.out]
  have HQ : Hid (∀ m, (RdI (w1.drewN m) a1 8 x.sk.hist E1 ∧ RdI (w1.drewN m) a2 8 x.sk.regs E2) ∧ RdI (w1.drewN m) r0 4 (x.sk.rows.getD 0 []) E3 ∧ RdI (w1.drewN m) r1 4 (x.sk.rows.getD 1 []) E4) := fun m => ⟨⟨q1.below (quiet_below ⟨m, rfl⟩), q2.below (quiet_below ⟨m, rfl⟩)⟩, q3.below (quiet_below ⟨m, rfl⟩), q4.below (quiet_below ⟨m, rfl⟩)⟩
  have z1 := cntUp_range x.sk.hist
  have z2 := cntUp_range x.sk.regs
  have z3 := cntUp_range (x.sk.rows.getD 0 [])
  have z4 := cntUp_range (x.sk.rows.getD 1 [])
  rw [← hy1, q1.length] at z1
  rw [← hy2, q2.length] at z2
  rw [← hy3, q3.length] at z3
  rw [← hy4, q4.length] at z4
  obtain ⟨z10, z11⟩ := z1
  obtain ⟨z20, z21⟩ := z2
  obtain ⟨z30, z31⟩ := z3
  obtain ⟨z40, z41⟩ := z4
  have HY : Hid (y1 = cntUp x.sk.hist ∧ y2 = cntUp x.sk.regs ∧ y3 = cntUp (x.sk.rows.getD 0 []) ∧ y4 = cntUp (x.sk.rows.getD 1 [])) := ⟨hy1, hy2, hy3, hy4⟩
  have g1 : w1.cell? ⟨w.heap.size, 7, none⟩ = some (.slice a1 8 c1) := HB1.out.2.cell 7
  have g2 : w1.cell? ⟨w.heap.size, 8, none⟩ = some (.slice a2 8 c2) := HB1.out.2.cell 8
  have g3 : w1.cell? ⟨w.heap.size, 9, none⟩ = some (.slice (some ⟨p, po, none⟩) 2 c3) := HB1.out.2.cell 9
  have g4 : w1.cell? ⟨w.heap.size, 2, none⟩ = some (.slice b l c) := HB1.out.2.cell 2
  have s1 := HS.out.cell0
  have s2 := HS.out.cell1
  have HC1 : Hid (∀ m, Calls Try.prog 60 #[.slice a1 8 c1] (w1.drewN m) fun e w' => e = .returned (.int .i64 y1) ∧ w' = w1.drewN m) := fun m => by rw [HY.out.1]; exact l6Full_any a1 8 c1 x.sk.hist E1 _ (HQ.out m).1.1 (by omega)
  have HC2 : Hid (∀ m, Calls Try.prog 60 #[.slice a2 8 c2] (w1.drewN m) fun e w' => e = .returned (.int .i64 y2) ∧ w' = w1.drewN m) := fun m => by rw [HY.out.2.1]; exact l6Full_any a2 8 c2 x.sk.regs E2 _ (HQ.out m).1.2 (by omega)
  have HC3 : Hid (∀ m, Calls Try.prog 60 #[.slice r0 4 k0] (w1.drewN m) fun e w' => e = .returned (.int .i64 y3) ∧ w' = w1.drewN m) := fun m => by rw [HY.out.2.2.1]; exact l6Full_any r0 4 k0 (x.sk.rows.getD 0 []) E3 _ (HQ.out m).2.1 (by omega)
  have HC4 : Hid (∀ m, Calls Try.prog 60 #[.slice r1 4 k1] (w1.drewN m) fun e w' => e = .returned (.int .i64 y4) ∧ w' = w1.drewN m) := fun m => by rw [HY.out.2.2.2]; exact l6Full_any r1 4 k1 (x.sk.rows.getD 1 []) E4 _ (HQ.out m).2.2 (by omega)
  have HBW : Hid (Below w.heap.size w w1) := HB1.out.1
  clear hy1 hy2 hy3 hy4 q1 q2 q3 q4 hS HR HQ HY
  go_wp2
  go_quiet ((go_at_call 60; first | (with_reducible exact Calls.quiet_of_same (HC1.out _)) | (with_reducible exact Calls.quiet_of_same (HC2.out _)) | (with_reducible exact Calls.quiet_of_same (HC3.out _)) | (with_reducible exact Calls.quiet_of_same (HC4.out _))))
  go_wp2
  go_ret
  rw [HV.out]
  exact ⟨rfl, HBW.out.os, HBW.out.tape, HBW.out.output, HBW.out.size, HBW.out.block⟩
end Go.Proofs.Ytbmbmnhamogghap
