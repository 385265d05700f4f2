/- Several texts of mine, laid together. No statement of the seat is proved here. -/
import Derived.Test.YtbmbmnhamogghapB6
import Derived.Deep.DeepCutAuto
import Derived.Laws.CopyOwn
import Derived.Test.YtbmbmnhamogghapB3
import Derived.Laws.StructEq
/- The walks through the model's EntrySize. No statement of the seat is proved here. -/
namespace Go.Proofs.Ytbmbmnhamogghap
open Go.RowKit
/-- How many are above 0. -/
def cntUp (l : List Int) : Int := ((l.filter (fun x => decide (0 < x))).length : Nat)
theorem cntUp_range (l : List Int) : 0 ≤ cntUp l ∧ cntUp l ≤ l.length := by
  unfold cntUp
  have := List.length_filter_le (fun x => decide (0 < x)) l
  omega
theorem takeI_succ (l : List Int) (k : Nat) (hk : k < l.length) : l.take (k + 1) = l.take k ++ [l[k]?.getD 0] := by
  rw [List.take_add_one, List.getElem?_eq_getElem hk]; rfl
theorem cntUp_yes {l : List Int} {k : Nat} (hk : k < l.length) (h : 0 < l[k]?.getD 0) : cntUp (l.take (k + 1)) = cntUp (l.take k) + 1 := by
  rw [takeI_succ l k hk]
  unfold cntUp
  rw [List.filter_append]
  simp [h]
theorem cntUp_no {l : List Int} {k : Nat} (hk : k < l.length) (h : ¬ 0 < l[k]?.getD 0) : cntUp (l.take (k + 1)) = cntUp (l.take k) := by
  rw [takeI_succ l k hk]
  unfold cntUp
  rw [List.filter_append]
  simp [h]
set_option maxRecDepth 200000 in
theorem l1BitS_any (d : Bool) (w : World) : Calls Try.prog 97 #[.bool d] w fun e w' => e = .returned (.int .i64 (if d then 1 else 0)) ∧ w' = w := by
  cases d
  · go_enter Try.func97, Try.ntmps97
    go_wp2
    go_ret
    exact ⟨rfl, rfl⟩
  · go_enter Try.func97, Try.ntmps97
    go_wp2
    go_ret
    exact ⟨rfl, rfl⟩
set_option maxRecDepth 200000 in
set_option maxHeartbeats 1000000 in
theorem l6Full_any (a : Option Addr) (len cap : Nat) (zs : List Int) (F : List Nat) (w : World) (h : RdI w a len zs F) (hlen : len ≤ 1048576) :
    Calls Try.prog 60 #[.slice a len cap] w fun e w' => e = .returned (.int .i64 (cntUp zs)) ∧ w' = w := by
  have HL : Hid (zs.length = len) := h.length
  have HC : Hid (len = 0 ∨ ∃ b off, a = some ⟨b, off, none⟩ ∧ ∀ i, i < len → w.cell? ⟨b, off + i, none⟩ = some (.int .i64 (zs[i]?.getD 0))) := by
    rcases h.cells with ⟨h0, _⟩ | ⟨b, off, hp, e, _, hc⟩
    · exact .inl h0
    · exact .inr ⟨b, off, e, fun i hi => by rw [hc i hi, List.getD_eq_getElem?_getD]⟩
  clear h
  go_enter Try.func60, Try.ntmps60
  go_wp2
  go_loopw [3, 4] (fun q i wr => ∃ (k : Nat) (u : Int), k ≤ len ∧ i = .int .i64 k ∧ q = .int .i64 u ∧ 0 ≤ u ∧ u ≤ k ∧ Hid (u = cntUp (zs.take k)) ∧ Hid (wr = w)) (fun _ i _ => len - (intOf i).toNat)
  case atStart => exact ⟨0, 0, by omega, rfl, rfl, by omega, by omega, rfl, rfl⟩
  case round =>
    obtain ⟨k, u, hk, rfl, rfl, u0, u1, HN, HW⟩ := hrel
    by_cases hlt : k < len
    · rcases HC.out with h0 | ⟨b, off, rfl, hc⟩
      · omega
      obtain ⟨x, hx⟩ : ∃ x, x = zs[k]?.getD 0 := ⟨_, rfl⟩
      have e := hc k hlt
      rw [← hx] at e
      have d1 : wr.cell? ⟨b, off + k, none⟩ = some (.int .i64 x) := by rw [HW.out]; exact e
      have hI : (k : Int) < (len : Int) := by omega
      have hkl : k < zs.length := by rw [HL.out]; exact hlt
      have HX : Hid (x = zs[k]?.getD 0) := hx
      clear e hx hc
      by_cases c : 0 < x
      · have cd : decide (0 < x) = true := decT c
        have HN2 : Hid (u + 1 = cntUp (zs.take (k + 1))) := by show _ = _; rw [cntUp_yes hkl (by rw [← HX.out]; exact c), HN.out]
        go_wp2_with fail
        refine (l1BitS_any _ _).mono ?_
        rintro e w2 ⟨rfl, hw2⟩
        have HW2 : Hid (w2 = w) := hw2.trans HW.out
        clear hw2
        go_wp2
        go_roundw
        case rel => exact ⟨k + 1, u + 1, by omega, by go_num, by go_num, by omega, by omega, HN2, HW2⟩
        case measure => simp [intOf]; omega
      · have cd : decide (0 < x) = false := decF c
        have HN2 : Hid (u = cntUp (zs.take (k + 1))) := by show _ = _; rw [cntUp_no hkl (by rw [← HX.out]; exact c), HN.out]
        go_wp2_with fail
        refine (l1BitS_any _ _).mono ?_
        rintro e w2 ⟨rfl, hw2⟩
        have HW2 : Hid (w2 = w) := hw2.trans HW.out
        clear hw2
        go_wp2
        go_roundw
        case rel => exact ⟨k + 1, u, by omega, by go_num, by go_num, by omega, by omega, HN2, HW2⟩
        case measure => simp [intOf]; omega
    · obtain rfl : k = len := by omega
      have HV : Hid (u = cntUp zs) := by
        have := HN.out
        rw [List.take_of_length_le (by rw [HL.out]; omega)] at this
        exact this
      go_wp2
      go_ret
      rw [← HV.out]
      exact ⟨rfl, HW.out⟩
def En.size (x : En) : Int := if x.ok = true then 4 + cntUp x.sk.hist + cntUp x.sk.regs + cntUp (x.sk.rows.getD 0 []) + cntUp (x.sk.rows.getD 1 []) + 2 * x.ids.length else 0
theorem En.size_not {x : En} (h : x.ok = false) : x.size = 0 := by unfold En.size; rw [h]; rfl
theorem En.size_ok {x : En} (h : x.ok = true) : x.size = 4 + cntUp x.sk.hist + cntUp x.sk.regs + cntUp (x.sk.rows.getD 0 []) + cntUp (x.sk.rows.getD 1 []) + 2 * x.ids.length := by unfold En.size; rw [if_pos h]
theorem infoEn : (Try.prog.info? 34).map (·.size) = some 10 := by kernel_rfl
set_option maxRecDepth 100000 in
set_option maxHeartbeats 8000000 in
theorem entrySizeSpec_any (v : Value) (x : En) (F G : List Nat) (w : World) (h : RdEn w v x F G) (hw : x.sk.wide) (hl : x.ids.length ≤ 1048576) :
    Calls Try.prog 24 #[v] w fun e w' => e = .returned (.int .i64 x.size) ∧ Below w.heap.size w w' := by
  have HRE : Hid (RdEn w v x F G ∧ x.sk.wide) := ⟨h, hw⟩
  obtain ⟨b, l, c, a1, n1, c1, a2, n2, c2, a3, n3, c3, rfl, hp, hr, _⟩ := h
  have HP : Hid (x.ids.length = l) := hp.length
  have hll : l ≤ 1048576 := by rw [← hp.length]; exact hl
  obtain ⟨_, _, _, _, _, _, _, _, _, F1, F2, F3, ev, r1, r2, r3, _⟩ := hr
  cases ev
  have HR : Hid (RdI w a1 n1 x.sk.hist F1 ∧ RdI w a2 n2 x.sk.regs F2 ∧ RdII w a3 n3 x.sk.rows F3) := ⟨r1, r2, r3⟩
  have HB : Hid (Below w.heap.size w (w.alloc (.cells #[.int .i64 x.key, .int .i64 x.window, .slice b l c, .int .i64 x.sk.count, .int .i64 x.sk.sum, .int .i64 x.sk.min, .int .i64 x.sk.max, .slice a1 n1 c1, .slice a2 n2 c2, .slice a3 n3 c3] 34)) ∧ Blk (w.alloc (.cells #[.int .i64 x.key, .int .i64 x.window, .slice b l c, .int .i64 x.sk.count, .int .i64 x.sk.sum, .int .i64 x.sk.min, .int .i64 x.sk.max, .slice a1 n1 c1, .slice a2 n2 c2, .slice a3 n3 c3] 34)) w.heap.size #[.int .i64 x.key, .int .i64 x.window, .slice b l c, .int .i64 x.sk.count, .int .i64 x.sk.sum, .int .i64 x.sk.min, .int .i64 x.sk.max, .slice a1 n1 c1, .slice a2 n2 c2, .slice a3 n3 c3] 34) := ⟨Below.allocW _ (Below.refl _ _) (Nat.le_refl _), Blk.made _ _ _⟩
  clear hp hw r1 r2 r3
  go_enter Try.func24, Try.ntmps24
  go_wp2_with (first | go_skip | (with_reducible refine stopLoad 34 rfl ?_))
  refine load_known 34 w.heap.size _ 34 _ HB.out.2 rfl rfl rfl Try.underlying34 rfl infoEn ?_
  go_wp2_with fail
  refine (entryOkSpec_any _ x F G _ (HRE.out.1.below HB.out.1) HRE.out.2 (by omega)).mono ?_
  rintro e w1 ⟨rfl, hb1⟩
  have HB1 : Hid (Below w.heap.size w w1 ∧ Blk w1 w.heap.size #[.int .i64 x.key, .int .i64 x.window, .slice b l c, .int .i64 x.sk.count, .int .i64 x.sk.sum, .int .i64 x.sk.min, .int .i64 x.sk.max, .slice a1 n1 c1, .slice a2 n2 c2, .slice a3 n3 c3] 34) := ⟨Below.next HB.out.1 hb1, HB.out.2.below hb1⟩
  clear hb1 HB HRE
  obtain ⟨d, hd⟩ : ∃ d, d = x.ok := ⟨_, rfl⟩
  rw [← hd]
  have HD : Hid (d = x.ok) := hd
  clear hd
  cases d
  · go_wp2
    go_ret
    rw [En.size_not HD.out.symm]
    exact ⟨rfl, HB1.out.1⟩
  obtain ⟨rfl, rfl, rfl, p, po, r0, r1, k0, k1, rfl, hS⟩ := shape_of HR.out.1 HR.out.2.1 HR.out.2.2 (En.ok_sk HD.out.symm)
  have HS : Hid (Shape w1 x.sk a1 a2 p po r0 r1 k0 k1) := hS.below HB1.out.1
  obtain ⟨E1, q1⟩ := HS.out.hist
  obtain ⟨E2, q2⟩ := HS.out.regs
  obtain ⟨E3, q3⟩ := HS.out.row0
  obtain ⟨E4, q4⟩ := HS.out.row1
  obtain ⟨y1, hy1⟩ : ∃ y, y = cntUp x.sk.hist := ⟨_, rfl⟩
  obtain ⟨y2, hy2⟩ : ∃ y, y = cntUp x.sk.regs := ⟨_, rfl⟩
  obtain ⟨y3, hy3⟩ : ∃ y, y = cntUp (x.sk.rows.getD 0 []) := ⟨_, rfl⟩
  obtain ⟨y4, hy4⟩ : ∃ y, y = cntUp (x.sk.rows.getD 1 []) := ⟨_, rfl⟩
  have HV : Hid (x.size = 4 + y1 + y2 + y3 + y4 + 2 * l) := by show _ = _; rw [En.size_ok HD.out.symm, hy1, hy2, hy3, hy4, HP.out]
  have HQ : Hid (∀ m, (RdI (w1.drewN m) a1 8 x.sk.hist E1 ∧ RdI (w1.drewN m) a2 8 x.sk.regs E2) ∧ RdI (w1.drewN m) r0 4 (x.sk.rows.getD 0 []) E3 ∧ RdI (w1.drewN m) r1 4 (x.sk.rows.getD 1 []) E4) := fun m => ⟨⟨q1.below (quiet_below ⟨m, rfl⟩), q2.below (quiet_below ⟨m, rfl⟩)⟩, q3.below (quiet_below ⟨m, rfl⟩), q4.below (quiet_below ⟨m, rfl⟩)⟩
  have z1 := cntUp_range x.sk.hist
  have z2 := cntUp_range x.sk.regs
  have z3 := cntUp_range (x.sk.rows.getD 0 [])
  have z4 := cntUp_range (x.sk.rows.getD 1 [])
  rw [← hy1, q1.length] at z1
  rw [← hy2, q2.length] at z2
  rw [← hy3, q3.length] at z3
  rw [← hy4, q4.length] at z4
  obtain ⟨z10, z11⟩ := z1
  obtain ⟨z20, z21⟩ := z2
  obtain ⟨z30, z31⟩ := z3
  obtain ⟨z40, z41⟩ := z4
  have HY : Hid (y1 = cntUp x.sk.hist ∧ y2 = cntUp x.sk.regs ∧ y3 = cntUp (x.sk.rows.getD 0 []) ∧ y4 = cntUp (x.sk.rows.getD 1 [])) := ⟨hy1, hy2, hy3, hy4⟩
  have g1 : w1.cell? ⟨w.heap.size, 7, none⟩ = some (.slice a1 8 c1) := HB1.out.2.cell 7
  have g2 : w1.cell? ⟨w.heap.size, 8, none⟩ = some (.slice a2 8 c2) := HB1.out.2.cell 8
  have g3 : w1.cell? ⟨w.heap.size, 9, none⟩ = some (.slice (some ⟨p, po, none⟩) 2 c3) := HB1.out.2.cell 9
  have g4 : w1.cell? ⟨w.heap.size, 2, none⟩ = some (.slice b l c) := HB1.out.2.cell 2
  have s1 := HS.out.cell0
  have s2 := HS.out.cell1
  have HC1 : Hid (∀ m, Calls Try.prog 60 #[.slice a1 8 c1] (w1.drewN m) fun e w' => e = .returned (.int .i64 y1) ∧ w' = w1.drewN m) := fun m => by rw [HY.out.1]; exact l6Full_any a1 8 c1 x.sk.hist E1 _ (HQ.out m).1.1 (by omega)
  have HC2 : Hid (∀ m, Calls Try.prog 60 #[.slice a2 8 c2] (w1.drewN m) fun e w' => e = .returned (.int .i64 y2) ∧ w' = w1.drewN m) := fun m => by rw [HY.out.2.1]; exact l6Full_any a2 8 c2 x.sk.regs E2 _ (HQ.out m).1.2 (by omega)
  have HC3 : Hid (∀ m, Calls Try.prog 60 #[.slice r0 4 k0] (w1.drewN m) fun e w' => e = .returned (.int .i64 y3) ∧ w' = w1.drewN m) := fun m => by rw [HY.out.2.2.1]; exact l6Full_any r0 4 k0 (x.sk.rows.getD 0 []) E3 _ (HQ.out m).2.1 (by omega)
  have HC4 : Hid (∀ m, Calls Try.prog 60 #[.slice r1 4 k1] (w1.drewN m) fun e w' => e = .returned (.int .i64 y4) ∧ w' = w1.drewN m) := fun m => by rw [HY.out.2.2.2]; exact l6Full_any r1 4 k1 (x.sk.rows.getD 1 []) E4 _ (HQ.out m).2.2 (by omega)
  have HBW : Hid (Below w.heap.size w w1) := HB1.out.1
  clear hy1 hy2 hy3 hy4 q1 q2 q3 q4 hS HR HQ HY
  go_wp2
  go_quiet ((go_at_call 60; first | (with_reducible exact Calls.quiet_of_same (HC1.out _)) | (with_reducible exact Calls.quiet_of_same (HC2.out _)) | (with_reducible exact Calls.quiet_of_same (HC3.out _)) | (with_reducible exact Calls.quiet_of_same (HC4.out _))))
  go_wp2
  go_ret
  rw [HV.out]
  exact ⟨rfl, HBW.out.os, HBW.out.tape, HBW.out.output, HBW.out.size, HBW.out.block⟩
end Go.Proofs.Ytbmbmnhamogghap
/- What the law over an entry's size needs. No statement of the seat is proved here. -/
namespace Go.Proofs.Ytbmbmnhamogghap
open Go.RowKit
set_option maxRecDepth 200000 in
theorem entrySizeE_any (v : Value) (x : En) (F : List Nat) (w : World) (h : RdE w v x F) (hw : x.wide) :
    Calls Try.prog 24 #[v] w fun e w' => e = .returned (.int .i64 x.size) ∧ Below w.heap.size w w' := by
  obtain ⟨F1, F2, rfl, h⟩ := h
  exact entrySizeSpec_any v x F1 F2 w h hw.1 hw.2
end Go.Proofs.Ytbmbmnhamogghap
/- The walks through the program's looks at numbers and lists of a summary. No statement of the seat is proved here. -/
namespace Go.Proofs.Ytbmbmnhamogghap
open Go.RowKit
set_option maxRecDepth 200000 in
theorem inRange_any (x hi : Int) (w : World) : Calls Try.prog 81 #[.int .i64 x, .int .i64 hi] w fun e w' => e = .returned (.bool (decide (0 ≤ x ∧ x ≤ hi))) ∧ w' = w := by
  have hd : ∀ d : Bool, d = decide (0 ≤ x ∧ x ≤ hi) → (d = true ↔ 0 ≤ x ∧ x ≤ hi) := by rintro d rfl; simp
  generalize decide (0 ≤ x ∧ x ≤ hi) = d at *
  have hd := hd d rfl
  by_cases h : 0 ≤ x
  · by_cases h2 : x ≤ hi
    · have e : Hid (d = true) := hd.2 ⟨h, h2⟩
      clear hd
      go_enter Try.func81, Try.ntmps81
      go_wp2
      go_ret
      rw [e.out]; exact ⟨rfl, rfl⟩
    · have e : Hid (d = false) := show d = false by cases d; rfl; exact absurd (hd.1 rfl).2 h2
      clear hd
      go_enter Try.func81, Try.ntmps81
      go_wp2
      go_ret
      rw [e.out]; exact ⟨rfl, rfl⟩
  · have e : Hid (d = false) := show d = false by cases d; rfl; exact absurd (hd.1 rfl).1 h
    clear hd
    go_enter Try.func81, Try.ntmps81
    go_wp2
    go_ret
    rw [e.out]; exact ⟨rfl, rfl⟩
set_option maxRecDepth 200000 in
set_option maxHeartbeats 1000000 in
theorem allInRange_any (a : Option Addr) (len cap : Nat) (zs : List Int) (F : List Nat) (most : Int) (w : World) (h : RdI w a len zs F) (hlen : len ≤ 140737488355328) :
    Calls Try.prog 117 #[.slice a len cap, .int .i64 most] w fun e w' => e = .returned (.bool (zs.all (okN most false))) ∧ w' = w := by
  obtain ⟨d, hd⟩ : ∃ d, d = zs.all (okN most false) := ⟨_, rfl⟩
  rw [← hd]
  have HL : Hid (zs.length = len) := h.length
  have HD : Hid (d = zs.all (okN most false)) := hd
  clear hd
  rcases h.cells with ⟨h0, _⟩ | ⟨b, off, hp, rfl, _, hc⟩
  · subst h0
    have hz : zs = [] := List.eq_nil_of_length_eq_zero h.length
    subst hz
    clear h
    go_enter Try.func117, Try.ntmps117
    go_wp2
    refine wp_loop_rounds 1 ?_
    rw [rounds_succ]
    go_wp2
    go_ret
    exact ⟨ret_bool (by rw [HD.out]; rfl), rfl⟩
  · have HC : Hid (∀ i, i < len → w.cell? ⟨b, off + i, none⟩ = some (.int .i64 (zs.getD i 0))) := hc
    clear h hc
    go_enter Try.func117, Try.ntmps117
    go_wp2
    go_loop [9] (fun i => ∃ k : Nat, k ≤ len ∧ i = .int .i64 k ∧ Hid ((zs.take k).all (okN most false) = true)) (fun i => len - (intOf i).toNat)
    case atStart => exact ⟨0, by omega, rfl, show _ = true by simp⟩
    case round =>
      obtain ⟨k, hk, rfl, HA⟩ := hrel
      by_cases hlt : k < len
      · have hck := HC.out k hlt
        obtain ⟨x, hx⟩ : ∃ x, x = zs[k]?.getD 0 := ⟨_, rfl⟩
        have hck2 : w.cell? ⟨b, off + k, none⟩ = some (.int .i64 x) := by rw [hx, hck]; simp
        have HX : Hid (x = zs[k]?.getD 0) := hx
        clear hck hx
        by_cases hin : 0 ≤ x ∧ x ≤ most
        · have HA2 : Hid ((zs.take (k + 1)).all (okN most false) = true) := all_snoc (by rw [HL.out]; exact hlt) HA.out (by
            rw [← HX.out]; unfold okN; rw [dec_true hin]; rfl)
          have hdec : decide (0 ≤ x ∧ x ≤ most) = true := by simpa using hin
          clear hin
          go_wp2_with fail
          refine (inRange_any _ _ _).mono ?_
          rintro e w1 ⟨rfl, hw1⟩
          have hw1' := hw1.symm
          subst hw1'
          rw [hdec]
          clear hw1 hdec
          go_wp2
          go_round
          case rel => exact ⟨k + 1, by omega, by go_num, HA2⟩
          case measure => simp [intOf]; omega
        · have HN : Hid (zs.all (okN most false) = false) := all_not (by rw [HL.out]; exact hlt) (by rw [← HX.out]; unfold okN; rw [dec_false hin]; rfl)
          have hdec : decide (0 ≤ x ∧ x ≤ most) = false := by simpa using hin
          clear hin
          go_wp2_with fail
          refine (inRange_any _ _ _).mono ?_
          rintro e w1 ⟨rfl, hw1⟩
          have hw1' := hw1.symm
          subst hw1'
          rw [hdec]
          clear hw1 hdec
          go_wp2
          go_ret
          exact ⟨ret_bool (by rw [HD.out, HN.out]), rfl⟩
      · obtain rfl : k = len := by omega
        have HF : Hid (zs.all (okN most false) = true) := by have := HA.out; rw [List.take_of_length_le (Nat.le_of_eq HL.out)] at this; exact this
        go_wp2
        go_ret
        exact ⟨ret_bool (by rw [HD.out, HF.out]), rfl⟩
/-- Lists as long as told. -/
def Sk.shaped (s : Sk) : Bool := s.rows.all (fun z => decide (z.length = 4)) && decide (s.hist.length = 8) && decide (s.regs.length = 8) && decide (s.rows.length = 2)
theorem allL_snoc {p : List Int → Bool} {l : List (List Int)} {k : Nat} (hk : k < l.length) (h : (l.take k).all p = true) (hx : p (l.getD k []) = true) : (l.take (k + 1)).all p = true := by
  rw [take_snoc l [] k hk, List.all_append, h]; simpa using hx
theorem allL_not {p : List Int → Bool} {l : List (List Int)} {k : Nat} (hk : k < l.length) (hx : p (l.getD k []) = false) : l.all p = false := by
  cases e : l.all p
  · rfl
  · rw [List.all_eq_true] at e
    rw [e _ (mem_getD hk)] at hx; cases hx
set_option maxRecDepth 200000 in
set_option maxHeartbeats 1000000 in
theorem isShaped_any (v : Value) (s : Sk) (F : List Nat) (w : World) (h : RdSk w v s F) (hw : s.wide) :
    Calls Try.prog 114 #[v] w fun e w' => e = .returned (.bool s.shaped) ∧ Below w.heap.size w w' := by
  obtain ⟨a1, n1, c1, a2, n2, c2, a3, n3, c3, F1, F2, F3, rfl, h1, h2, h3, _⟩ := h
  have hn1 : n1 ≤ 140737488355328 := by rw [← h1.length]; exact hw.hist
  have hn2 : n2 ≤ 140737488355328 := by rw [← h2.length]; exact hw.regs
  have hn3 : n3 ≤ 140737488355328 := by rw [← h3.length]; exact hw.rows
  have HW : Hid s.wide := hw
  have HB : Hid (Below w.heap.size w (w.alloc (.cells #[.int .i64 s.count, .int .i64 s.sum, .int .i64 s.min, .int .i64 s.max, .slice a1 n1 c1, .slice a2 n2 c2, .slice a3 n3 c3] 32))) := (Below.refl w.heap.size w).alloc (Nat.le_refl _) _
  have L1 : Hid (s.hist.length = n1) := h1.length
  have L2 : Hid (s.regs.length = n2) := h2.length
  have L3 : Hid (s.rows.length = n3) := h3.length
  obtain ⟨d, hd⟩ : ∃ d, d = s.shaped := ⟨_, rfl⟩
  rw [← hd]
  have HD : Hid (d = s.shaped) := hd
  clear h1 h2 hw hd
  have tailOk : Hid (s.rows.all (fun z => decide (z.length = 4)) = true → d = (decide (n1 = 8) && decide (n2 = 8) && decide (n3 = 2))) := fun e => by
    rw [HD.out]; unfold Sk.shaped; rw [e, L1.out, L2.out, L3.out]; rfl
  by_cases h0 : n3 = 0
  · subst h0
    have hz : s.rows = [] := List.eq_nil_of_length_eq_zero L3.out
    have HF : Hid (d = false) := by show d = _; rw [tailOk.out (by rw [hz]; rfl)]; simp
    clear h3 hz tailOk
    go_enter Try.func114, Try.ntmps114
    go_wp2
    refine wp_loop_rounds 1 ?_
    rw [rounds_succ]
    by_cases q1 : n1 = 8
    · subst q1
      by_cases q2 : n2 = 8
      · subst q2
        go_wp2
        go_ret
        exact ⟨ret_bool HF.out.symm, HB.out⟩
      · have q2' : ((n2 : Int) == 8) = false := by simp; omega
        clear q2
        go_wp2
        go_ret
        exact ⟨ret_bool HF.out.symm, HB.out⟩
    · have q1' : ((n1 : Int) == 8) = false := by simp; omega
      clear q1
      go_wp2
      go_ret
      exact ⟨ret_bool HF.out.symm, HB.out⟩
  · obtain ⟨b3, o3, F3', ha3, hm3⟩ : ∃ b off F', a3 = some ⟨b, off, none⟩ ∧ RdM w (s.rows.map ints) b off F' := by
      rcases h3.cells with ⟨h0', _⟩ | ⟨b, off, F', _, e, _, hm⟩
      · exact absurd h0' h0
      · exact ⟨b, off, F', e, hm⟩
    subst ha3
    have HM : Hid (RdM w (s.rows.map ints) b3 o3 F3') := hm3
    clear h3 hm3
    go_enter Try.func114, Try.ntmps114
    go_wp2
    go_loop [8] (fun i => ∃ k : Nat, k ≤ n3 ∧ i = .int .i64 k ∧ Hid ((s.rows.take k).all (fun z => decide (z.length = 4)) = true)) (fun i => n3 - (intOf i).toNat)
    case atStart => exact ⟨0, by omega, rfl, show _ = true by simp⟩
    case round =>
      obtain ⟨k, hk, rfl, HA⟩ := hrel
      by_cases hlt : k < n3
      · obtain ⟨r, m, c, G, hc, hr, _⟩ := RdII.row HM.out L3.out k hlt
        have hcb : b3 < w.heap.size := World.block_lt_of_cell? _ _ hc
        have hc2 : (w.alloc (.cells #[.int .i64 s.count, .int .i64 s.sum, .int .i64 s.min, .int .i64 s.max, .slice a1 n1 c1, .slice a2 n2 c2, .slice (some ⟨b3, o3, none⟩) n3 c3] 32)).cell? ⟨b3, o3 + k, none⟩ = some (.slice r m c) := (HB.out.cell (by exact hcb)).trans hc
        have HM4 : Hid ((s.rows.getD k []).length = m) := hr.length
        have hm : m ≤ 140737488355328 := by rw [← hr.length]; exact HW.out.row _ (mem_getD (by rw [L3.out]; exact hlt))
        clear hc hr
        by_cases q : m = 4
        · subst q
          have HA2 : Hid ((s.rows.take (k + 1)).all (fun z => decide (z.length = 4)) = true) := allL_snoc (by rw [L3.out]; exact hlt) HA.out (by rw [HM4.out]; rfl)
          go_wp2
          go_round
          case rel => exact ⟨k + 1, by omega, by go_num, HA2⟩
          case measure => simp [intOf]; omega
        · have q' : ((m : Int) != 4) = true := by simp; omega
          have HN : Hid (s.rows.all (fun z => decide (z.length = 4)) = false) := allL_not (by rw [L3.out]; exact hlt) (by rw [HM4.out]; exact dec_false q)
          clear q
          go_wp2
          go_ret
          exact ⟨ret_bool (by rw [HD.out]; unfold Sk.shaped; rw [HN.out]; rfl), HB.out⟩
      · obtain rfl : k = n3 := by omega
        have HF : Hid (s.rows.all (fun z => decide (z.length = 4)) = true) := by have := HA.out; rw [List.take_of_length_le (Nat.le_of_eq L3.out)] at this; exact this
        have HT : Hid (d = (decide (n1 = 8) && decide (n2 = 8) && decide (k = 2))) := tailOk.out HF.out
        clear tailOk hlt
        by_cases q1 : n1 = 8
        · subst q1
          by_cases q2 : n2 = 8
          · subst q2
            by_cases q3 : k = 2
            · subst q3
              go_wp2
              go_ret
              exact ⟨ret_bool (by rw [HT.out]; rfl), HB.out⟩
            · have q3' : ((k : Int) == 2) = false := by simp; omega
              have Q3 : Hid (decide (k = 2) = false) := dec_false q3
              clear q3
              go_wp2
              go_ret
              exact ⟨ret_bool (by rw [HT.out, Q3.out]; rfl), HB.out⟩
          · have q2' : ((n2 : Int) == 8) = false := by simp; omega
            have Q2 : Hid (decide (n2 = 8) = false) := dec_false q2
            clear q2
            go_wp2
            go_ret
            exact ⟨ret_bool (by rw [HT.out, Q2.out]; simp), HB.out⟩
        · have q1' : ((n1 : Int) == 8) = false := by simp; omega
          have Q1 : Hid (decide (n1 = 8) = false) := dec_false q1
          clear q1
          go_wp2
          go_ret
          exact ⟨ret_bool (by rw [HT.out, Q1.out]; rfl), HB.out⟩
end Go.Proofs.Ytbmbmnhamogghap
/- A summary's numbers in one row, as plain data. No statement of the seat is proved here. -/
namespace Go.Proofs.Ytbmbmnhamogghap
open Go.RowKit
def tc (xs : List Int) : Array Value := (xs.map (Value.int .i64)).toArray
theorem tc_size (xs : List Int) : (tc xs).size = xs.length := by simp [tc]
theorem tc_one (xs : List Int) : (tc xs).all (·.oneCell') = true := by
  rw [Array.all_eq_true_iff_forall_mem]
  intro v hv
  simp only [tc, List.mem_toArray, List.mem_map] at hv
  obtain ⟨x, _, rfl⟩ := hv
  rfl
theorem tc_at (xs : List Int) (i : Nat) : (tc xs)[i]? = xs[i]?.map (Value.int .i64) := by simp [tc]
/-- All numbers of a summary, one behind the other. -/
def Sk.tl (s : Sk) : List Int := [s.count, s.sum, s.min, s.max] ++ (s.hist ++ (s.regs ++ (s.rows.getD 0 [] ++ s.rows.getD 1 [])))
theorem len4 {α : Type} {l : List α} (h : l.length = 4) : ∃ a b c d, l = [a, b, c, d] := by
  match l, h with
  | [a, b, c, d], _ => exact ⟨a, b, c, d, rfl⟩
theorem len8 {α : Type} {l : List α} (h : l.length = 8) : ∃ a b c d e f g i, l = [a, b, c, d, e, f, g, i] := by
  match l, h with
  | [a, b, c, d, e, f, g, i], _ => exact ⟨a, b, c, d, e, f, g, i, rfl⟩
theorem tl_splices {α : Type} (a b c d z : α) (H R P Q : List α) (hH : H.length = 8) (hR : R.length = 8) (hP : P.length = 4) (hQ : Q.length = 4) :
    splice (splice (splice (splice ([a, b, c, d] ++ List.replicate 24 z) 4 H) 12 R) 20 P) 24 Q = [a, b, c, d] ++ (H ++ (R ++ (P ++ Q))) := by
  obtain ⟨h0, h1, h2, h3, h4, h5, h6, h7, rfl⟩ := len8 hH
  obtain ⟨r0, r1, r2, r3, r4, r5, r6, r7, rfl⟩ := len8 hR
  obtain ⟨p0, p1, p2, p3, rfl⟩ := len4 hP
  obtain ⟨q0, q1, q2, q3, rfl⟩ := len4 hQ
  rfl
theorem Sk.shaped_parts {s : Sk} (h : s.shaped = true) : s.hist.length = 8 ∧ s.regs.length = 8 ∧ ∃ x y, s.rows = [x, y] ∧ x.length = 4 ∧ y.length = 4 := by
  unfold Sk.shaped at h
  simp only [Bool.and_eq_true, decide_eq_true_eq] at h
  obtain ⟨⟨⟨h1, h2⟩, h3⟩, h4⟩ := h
  refine ⟨h2, h3, ?_⟩
  obtain ⟨x, y, e⟩ : ∃ x y, s.rows = [x, y] := by
    match s.rows, h4 with
    | [x, y], _ => exact ⟨x, y, rfl⟩
  rw [e] at h1
  simp at h1
  exact ⟨x, y, e, h1.1, h1.2⟩
theorem tl_map (s : Sk) (h1 : s.hist.length = 8) (h2 : s.regs.length = 8) (h3 : (s.rows.getD 0 []).length = 4) (h4 : (s.rows.getD 1 []).length = 4) :
    splice (splice (splice (splice (([s.count, s.sum, s.min, s.max] ++ List.replicate 24 0).map (Value.int .i64)) 4 (s.hist.map (Value.int .i64))) 12 (s.regs.map (Value.int .i64))) 20 ((s.rows.getD 0 []).map (Value.int .i64))) 24 ((s.rows.getD 1 []).map (Value.int .i64)) = s.tl.map (Value.int .i64) := by
  have := tl_splices (Value.int .i64 s.count) (Value.int .i64 s.sum) (Value.int .i64 s.min) (Value.int .i64 s.max) (Value.int .i64 0) (s.hist.map (Value.int .i64)) (s.regs.map (Value.int .i64)) ((s.rows.getD 0 []).map (Value.int .i64)) ((s.rows.getD 1 []).map (Value.int .i64)) (by rw [List.length_map]; exact h1) (by rw [List.length_map]; exact h2) (by rw [List.length_map]; exact h3) (by rw [List.length_map]; exact h4)
  refine Eq.trans ?_ (this.trans ?_)
  · rfl
  · simp [Sk.tl]
theorem Sk.tl_length {s : Sk} (h : s.shaped = true) : s.tl.length = 28 := by
  obtain ⟨h1, h2, x, y, e, h3, h4⟩ := Sk.shaped_parts h
  simp [Sk.tl, h1, h2, e, h3, h4]
theorem split28 {xs : List Int} (h : xs.length = 28) : xs = [xs.getD 0 0, xs.getD 1 0, xs.getD 2 0, xs.getD 3 0] ++ ((xs.drop 4).take 8 ++ ((xs.drop 12).take 8 ++ (xs.drop 20).take 8)) := by
  have e4 : (xs.drop 20).take 8 = xs.drop 20 := List.take_of_length_le (by simp; omega)
  have e3 : (xs.drop 12).take 8 ++ xs.drop 20 = xs.drop 12 := by
    have := List.take_append_drop 8 (xs.drop 12)
    rw [List.drop_drop] at this; exact this
  have e2 : (xs.drop 4).take 8 ++ xs.drop 12 = xs.drop 4 := by
    have := List.take_append_drop 8 (xs.drop 4)
    rw [List.drop_drop] at this; exact this
  rw [e4, e3, e2]
  have e1 : xs.take 4 = [xs.getD 0 0, xs.getD 1 0, xs.getD 2 0, xs.getD 3 0] := by
    obtain ⟨a, b, c, d, e⟩ := len4 (l := xs.take 4) (by simp; omega)
    have g : ∀ i, i < 4 → xs.getD i 0 = (xs.take 4).getD i 0 := fun i hi => by simp [hi]
    rw [g 0 (by omega), g 1 (by omega), g 2 (by omega), g 3 (by omega), e]
    rfl
  rw [← e1, List.take_append_drop]
theorem eq28 {xs ys : List Int} (hx : xs.length = 28) (hy : ys.length = 28) (h0 : xs.getD 0 0 = ys.getD 0 0) (h1 : xs.getD 1 0 = ys.getD 1 0) (h2 : xs.getD 2 0 = ys.getD 2 0) (h3 : xs.getD 3 0 = ys.getD 3 0)
    (h4 : (xs.drop 4).take 8 = (ys.drop 4).take 8) (h5 : (xs.drop 12).take 8 = (ys.drop 12).take 8) (h6 : (xs.drop 20).take 8 = (ys.drop 20).take 8) : xs = ys := by
  rw [split28 hx, split28 hy, h0, h1, h2, h3, h4, h5, h6]
theorem tc_get {xs : List Int} {i : Nat} (h : i < xs.length) : (tc xs)[i]? = some (.int .i64 (xs.getD i 0)) := by
  rw [tc_at, List.getElem?_eq_getElem h]; simp [List.getElem?_eq_getElem h]
end Go.Proofs.Ytbmbmnhamogghap
/- A summary's numbers in one row (the program's own kind): how they are laid out of it. No statement of the seat is proved here. -/
namespace Go.Proofs.Ytbmbmnhamogghap
open Go.RowKit
/-- Two blocks of their own, one behind the other. -/
theorem two_made (w : World) (A B : Array Value) (tA tB : TypeId) : Blk ((w.alloc (.cells A tA)).alloc (.cells B tB)) w.heap.size A tA ∧ Blk ((w.alloc (.cells A tA)).alloc (.cells B tB)) (w.heap.size + 1) B tB ∧ Below w.heap.size w ((w.alloc (.cells A tA)).alloc (.cells B tB)) :=
  ⟨(Blk.made _ _ _).alloc _, Blk.made_eq (by simp), Below.allocW _ (Below.allocW _ (Below.refl _ _) (Nat.le_refl _)) (Nat.le_refl _)⟩
theorem RdI.src {w W : World} {a : Option Addr} {n : Nat} {zs : List Int} {F : List Nat} (h : RdI w a n zs F) (hb : Below w.heap.size w W) (hp : 0 < n) : ∃ ad, a = some ad ∧ ∀ j v, (zs.map (Value.int .i64))[j]? = some v → W.cell? (ad.add j) = some v := by
  have h' := h.below hb
  rcases h'.cells with ⟨h0, _⟩ | ⟨b, off, _, rfl, _, hc⟩
  · omega
  · refine ⟨_, rfl, fun j v hv => ?_⟩
    rw [List.getElem?_map] at hv
    obtain ⟨z, hz, rfl⟩ := Option.map_eq_some_iff.1 hv
    have hj : j < zs.length := (List.getElem?_eq_some_iff.1 hz).1
    have := hc j (by rw [← h'.length]; exact hj)
    have e : (⟨b, off, none⟩ : Addr).add j = ⟨b, off + j, none⟩ := by unfold Addr.add; split <;> simp_all
    rw [e, this]
    simp [hz]
theorem ints_one (zs : List Int) : ∀ v ∈ zs.map (Value.int .i64), v.oneCell' = true := by
  intro v hv
  obtain ⟨x, _, rfl⟩ := List.mem_map.1 hv
  rfl
theorem infoTally : (Try.prog.info? 75).map (·.size) = some 28 := by kernel_rfl
theorem tallySize {xs : List Int} (h : xs.length = 28) : (Try.prog.info? 75).map (·.size) = some (tc xs).size := by rw [tc_size, h]; exact infoTally
theorem infoInt1 : (Try.prog.info? 3).map (·.size) = some 1 := by kernel_rfl
set_option maxRecDepth 200000 in
set_option maxHeartbeats 1000000 in
theorem tallyOf_any (v : Value) (s : Sk) (F : List Nat) (w : World) (h : RdSk w v s F) (hw : s.wide) :
    Calls Try.prog 100 #[v] w fun e w' => ∃ xs : List Int, e = .returned (.tuple #[.agg (tc xs), .bool s.shaped]) ∧ xs.length = 28 ∧ (s.shaped = true → xs = s.tl) ∧ Below w.heap.size w w' := by
  have HH : Hid (RdSk w v s F ∧ s.wide) := ⟨h, hw⟩
  obtain ⟨a1, n1, c1, a2, n2, c2, a3, n3, c3, F1, F2, F3, rfl, h1, h2, h3, _⟩ := h
  have HR : Hid (RdI w a1 n1 s.hist F1 ∧ RdI w a2 n2 s.regs F2 ∧ RdII w a3 n3 s.rows F3) := ⟨h1, h2, h3⟩
  clear h1 h2 h3 hw
  have Z28 := two_made w #[.int .i64 s.count, .int .i64 s.sum, .int .i64 s.min, .int .i64 s.max, .slice a1 n1 c1, .slice a2 n2 c2, .slice a3 n3 c3] (tc (List.replicate 28 0)) 32 75
  have HZ : Hid (_ ∧ _ ∧ _) := Z28
  clear Z28
  go_enter Try.func100, Try.ntmps100
  go_wp2_with fail
  refine (isShaped_any _ s F _ (HH.out.1.below HZ.out.2.2) HH.out.2).mono ?_
  rintro e w1 ⟨rfl, hb1⟩
  have HB : Hid (Blk w1 w.heap.size #[.int .i64 s.count, .int .i64 s.sum, .int .i64 s.min, .int .i64 s.max, .slice a1 n1 c1, .slice a2 n2 c2, .slice a3 n3 c3] 32 ∧ Blk w1 (w.heap.size + 1) (tc (List.replicate 28 0)) 75 ∧ Below w.heap.size w w1) := ⟨HZ.out.1.below hb1, HZ.out.2.1.below hb1, Below.next HZ.out.2.2 hb1⟩
  clear hb1 HZ
  cases es : s.shaped
  · have ES : Hid (s.shaped = false) := es
    clear es
    go_wp2_with (with_reducible refine stopStore 75 rfl ?_)
    refine store_known 75 (w.heap.size + 1) _ (tc (List.replicate 28 0)) 75 HB.out.2.1 rfl rfl rfl rfl infoTally rfl (tc_one _) ?_
    go_wp2
    refine bodyPost_ret (results_row_tmp Try.results100 _ _ (w.heap.size + 1) _ _ _ _ rfl HB.out.2.1.setRow Try.underlying75 rfl infoTally) rfl ?_
    exact ⟨List.replicate 28 0, by rw [ES.out]; rfl, rfl, fun e => by (rw [ES.out] at e; cases e), below_setRow HB.out.2.2 (by omega) _⟩
  have ES : Hid (s.shaped = true) := es
  obtain ⟨e1, e2, x, y, er, ex, ey⟩ := Sk.shaped_parts es
  obtain rfl : n1 = 8 := by rw [← HR.out.1.length]; exact e1
  obtain rfl : n2 = 8 := by rw [← HR.out.2.1.length]; exact e2
  obtain rfl : n3 = 2 := by rw [← HR.out.2.2.length, er]; rfl
  obtain ⟨p, po, F', ha3, hm⟩ : ∃ p po F', a3 = some ⟨p, po, none⟩ ∧ RdM w (s.rows.map ints) p po F' := by
    rcases HR.out.2.2.cells with ⟨h0, _⟩ | ⟨p, po, F', _, e, _, hm⟩
    · omega
    · exact ⟨p, po, F', e, hm⟩
  subst ha3
  obtain ⟨r0, m0, k0, G0, x0, q0, _⟩ := RdII.row hm HR.out.2.2.length 0 (by omega)
  obtain ⟨r1, m1, k1, G1, x1, q1, _⟩ := RdII.row hm HR.out.2.2.length 1 (by omega)
  obtain rfl : m0 = 4 := by rw [← q0.length, er]; exact ex
  obtain rfl : m1 = 4 := by rw [← q1.length, er]; exact ey
  have hpw : p < w.heap.size := World.block_lt_of_cell? _ _ x0
  have HX : Hid (w.cell? ⟨p, po, none⟩ = some (.slice r0 4 k0) ∧ w.cell? ⟨p, po + 1, none⟩ = some (.slice r1 4 k1) ∧ RdI w r0 4 (s.rows.getD 0 []) G0 ∧ RdI w r1 4 (s.rows.getD 1 []) G1) := ⟨x0, x1, q0, q1⟩
  have HE : Hid (s.hist.length = 8 ∧ s.regs.length = 8 ∧ (s.rows.getD 0 []).length = 4 ∧ (s.rows.getD 1 []).length = 4) := ⟨e1, e2, q0.length, q1.length⟩
  clear e1 e2 er ex ey hm x0 x1 q0 q1 es x y
  have y0 := HB.out.1.cell 0
  have y1 := HB.out.1.cell 1
  have y2 := HB.out.1.cell 2
  have y3 := HB.out.1.cell 3
  simp only [List.getElem?_toArray, List.getElem?_cons_succ, List.getElem?_cons_zero] at y0 y1 y2 y3
  go_wp2_with (with_reducible refine stopStore 75 rfl ?_)
  refine store_fresh 75 w1.heap.size rfl (tc (List.replicate 28 0)) (tc ([s.count, s.sum, s.min, s.max] ++ List.replicate 24 0)) 75 rfl rfl rfl rfl (tallySize rfl) rfl (tc_one _) ?_
  intro W2 hg2 hb2
  obtain ⟨L0, hL0⟩ : ∃ L, L = ([s.count, s.sum, s.min, s.max] ++ List.replicate 24 0).map (Value.int .i64) := ⟨_, rfl⟩
  have HG2 : Hid (W2.heap[w1.heap.size]? = some (.cells L0.toArray 75 (0, 0)) ∧ L0.length = 28) := ⟨by rw [hL0]; exact hg2, by rw [hL0]; rfl⟩
  have HL0 : Hid (L0 = ([s.count, s.sum, s.min, s.max] ++ List.replicate 24 0).map (Value.int .i64)) := hL0
  have hlt1 : w.heap.size + 1 < w1.heap.size := HB.out.2.1.lt
  have HB2 : Hid (Below w1.heap.size w1 W2) := hb2
  clear y0 y1 y2 y3 hg2 hL0 hb2
  obtain ⟨H1, hH1⟩ : ∃ L, L = s.hist.map (Value.int .i64) := ⟨_, rfl⟩
  obtain ⟨H2, hH2⟩ : ∃ L, L = s.regs.map (Value.int .i64) := ⟨_, rfl⟩
  obtain ⟨H3, hH3⟩ : ∃ L, L = (s.rows.getD 0 []).map (Value.int .i64) := ⟨_, rfl⟩
  obtain ⟨H4, hH4⟩ : ∃ L, L = (s.rows.getD 1 []).map (Value.int .i64) := ⟨_, rfl⟩
  have HS : Hid (H1 = s.hist.map (Value.int .i64) ∧ H2 = s.regs.map (Value.int .i64) ∧ H3 = (s.rows.getD 0 []).map (Value.int .i64) ∧ H4 = (s.rows.getD 1 []).map (Value.int .i64)) := ⟨hH1, hH2, hH3, hH4⟩
  have HL : Hid (H1.length = 8 ∧ H2.length = 8 ∧ H3.length = 4 ∧ H4.length = 4) := ⟨by rw [hH1, List.length_map]; exact HE.out.1, by rw [hH2, List.length_map]; exact HE.out.2.1, by rw [hH3, List.length_map]; exact HE.out.2.2.1, by rw [hH4, List.length_map]; exact HE.out.2.2.2⟩
  have HO : Hid ((∀ v ∈ H1, v.oneCell' = true) ∧ (∀ v ∈ H2, v.oneCell' = true) ∧ (∀ v ∈ H3, v.oneCell' = true) ∧ (∀ v ∈ H4, v.oneCell' = true)) := ⟨by rw [hH1]; exact ints_one _, by rw [hH2]; exact ints_one _, by rw [hH3]; exact ints_one _, by rw [hH4]; exact ints_one _⟩
  have HK : Hid (∀ W, Below w1.heap.size w1 W → (∃ ad, a1 = some ad ∧ ∀ j v, H1[j]? = some v → W.cell? (ad.add j) = some v) ∧ (∃ ad, a2 = some ad ∧ ∀ j v, H2[j]? = some v → W.cell? (ad.add j) = some v) ∧ (∃ ad, r0 = some ad ∧ ∀ j v, H3[j]? = some v → W.cell? (ad.add j) = some v) ∧ (∃ ad, r1 = some ad ∧ ∀ j v, H4[j]? = some v → W.cell? (ad.add j) = some v)) := by
    intro W hb
    have hb' := Below.next HB.out.2.2 hb
    rw [hH1, hH2, hH3, hH4]
    exact ⟨HR.out.1.src hb' (by omega), HR.out.2.1.src hb' (by omega), HX.out.2.2.1.src hb' (by omega), HX.out.2.2.2.src hb' (by omega)⟩
  have HC : Hid (∀ W, Below w1.heap.size w1 W → W.cell? ⟨w.heap.size, 4, none⟩ = some (.slice a1 8 c1) ∧ W.cell? ⟨w.heap.size, 5, none⟩ = some (.slice a2 8 c2) ∧ W.cell? ⟨w.heap.size, 6, none⟩ = some (.slice (some ⟨p, po, none⟩) 2 c3) ∧ W.cell? ⟨p, po, none⟩ = some (.slice r0 4 k0) ∧ W.cell? ⟨p, po + 1, none⟩ = some (.slice r1 4 k1)) := by
    intro W hb
    have b := HB.out.1.below hb
    have hb' := Below.next HB.out.2.2 hb
    exact ⟨by rw [b.cell]; rfl, by rw [b.cell]; rfl, by rw [b.cell]; rfl, (hb'.cell (by exact hpw)).trans HX.out.1, (hb'.cell (by exact hpw)).trans HX.out.2.1⟩
  clear hH1 hH2 hH3 hH4
  have z4 := (HC.out W2 HB2.out).1
  go_wp2
  go_region_law (refine step_copy_splice rfl _ _ 23 23 rfl 3 Try.underlying23 infoInt1 _ _ _ _ _ _ rfl rfl w1.heap.size 4 L0 75 HG2.out.1 H1 (by rw [HL.out.1]; rfl) (fun _ => ⟨rfl, (HK.out _ HB2.out.drew).1⟩) (by rw [HL.out.1, HG2.out.2]; omega) HO.out.1 w1.heap.size w1 HB2.out.drew (Nat.le_refl _) ?_; intro W3 hg3 hb3)
  have z5 := (HC.out W3 hb3).2.1
  have HB3 : Hid (Below w1.heap.size w1 W3) := hb3
  clear hb3 z4
  obtain ⟨L1, hL1⟩ : ∃ L, L = splice L0 4 H1 := ⟨_, rfl⟩
  have HG3 : Hid (W3.heap[w1.heap.size]? = some (.cells L1.toArray 75 (0, 0)) ∧ L1.length = 28 ∧ L1 = splice L0 4 H1) := ⟨by rw [hL1]; exact hg3.out, by rw [hL1, length_splice _ _ _ (by rw [HL.out.1, HG2.out.2]; omega)]; exact HG2.out.2, hL1⟩
  clear hg3 hL1
  go_wp2
  go_region_law (refine step_copy_splice rfl _ _ 23 23 rfl 3 Try.underlying23 infoInt1 _ _ _ _ _ _ rfl rfl w1.heap.size 12 L1 75 HG3.out.1 H2 (by rw [HL.out.2.1]; rfl) (fun _ => ⟨rfl, (HK.out _ HB3.out.drew).2.1⟩) (by rw [HL.out.2.1, HG3.out.2.1]; omega) HO.out.2.1 w1.heap.size w1 HB3.out.drew (Nat.le_refl _) ?_; intro W4 hg4 hb4)
  have z6 := (HC.out W4 hb4).2.2.1
  have u0 := (HC.out W4 hb4).2.2.2.1
  have HB4 : Hid (Below w1.heap.size w1 W4) := hb4
  clear hb4 z5
  obtain ⟨L2, hL2⟩ : ∃ L, L = splice L1 12 H2 := ⟨_, rfl⟩
  have HG4 : Hid (W4.heap[w1.heap.size]? = some (.cells L2.toArray 75 (0, 0)) ∧ L2.length = 28 ∧ L2 = splice L1 12 H2) := ⟨by rw [hL2]; exact hg4.out, by rw [hL2, length_splice _ _ _ (by rw [HL.out.2.1, HG3.out.2.1]; omega)]; exact HG3.out.2.1, hL2⟩
  clear hg4 hL2
  go_wp2
  refine wp_loop_rounds 3 ?_
  rw [rounds_succ]
  go_wp2_with (with_reducible refine stopCopy rfl ?_)
  refine Stop.intro (wpList_copy_splice rfl _ _ 23 23 rfl 3 Try.underlying23 infoInt1 _ _ _ _ _ _ rfl rfl w1.heap.size 20 L2 75 HG4.out.1 H3 (by rw [HL.out.2.2.1]; rfl) (fun _ => ⟨rfl, (HK.out _ HB4.out).2.2.1⟩) (by rw [HL.out.2.2.1, HG4.out.2.1]; omega) HO.out.2.2.1 w1.heap.size w1 HB4.out (Nat.le_refl _) ?_)
  intro W5 hg5 hb5
  have u1 := (HC.out W5 hb5).2.2.2.2
  have HB5 : Hid (Below w1.heap.size w1 W5) := hb5
  clear hb5 u0 z6
  obtain ⟨L3, hL3⟩ : ∃ L, L = splice L2 20 H3 := ⟨_, rfl⟩
  have HG5 : Hid (W5.heap[w1.heap.size]? = some (.cells L3.toArray 75 (0, 0)) ∧ L3.length = 28 ∧ L3 = splice L2 20 H3) := ⟨by rw [hL3]; exact hg5.out, by rw [hL3, length_splice _ _ _ (by rw [HL.out.2.2.1, HG4.out.2.1]; omega)]; exact HG4.out.2.1, hL3⟩
  clear hg5 hL3
  go_wp2_with fail
  rw [rounds_succ]
  go_wp2_with (with_reducible refine stopCopy rfl ?_)
  refine Stop.intro (wpList_copy_splice rfl _ _ 23 23 rfl 3 Try.underlying23 infoInt1 _ _ _ _ _ _ rfl rfl w1.heap.size 24 L3 75 HG5.out.1 H4 (by rw [HL.out.2.2.2]; rfl) (fun _ => ⟨rfl, (HK.out _ HB5.out).2.2.2⟩) (by rw [HL.out.2.2.2, HG5.out.2.1]; omega) HO.out.2.2.2 w1.heap.size w1 HB5.out (Nat.le_refl _) ?_)
  intro W6 hg6 hb6
  have HB6 : Hid (Below w1.heap.size w1 W6) := hb6
  have HG6 : Hid (Blk W6 w1.heap.size (tc s.tl) 75) := by
    have e : splice L3 24 H4 = s.tl.map (Value.int .i64) := by
      rw [HG5.out.2.2, HG4.out.2.2, HG3.out.2.2, HL0.out, HS.out.1, HS.out.2.1, HS.out.2.2.1, HS.out.2.2.2]
      exact tl_map s HE.out.1 HE.out.2.1 HE.out.2.2.1 HE.out.2.2.2
    have := hg6.out
    rw [e] at this
    exact this
  have HRes : Hid (Blk W6 (w.heap.size + 1) (tc (List.replicate 28 0)) 75 ∧ Below w.heap.size w W6) := ⟨HB.out.2.1.below hb6, Below.next HB.out.2.2 hb6⟩
  clear hb6 hg6 u1
  go_wp2_with fail
  rw [rounds_succ]
  go_wp2_with (first | (with_reducible refine stopLoad 75 rfl ?_) | (with_reducible refine stopStore 75 rfl ?_))
  refine load_known 75 w1.heap.size (tc s.tl) 75 _ HG6.out rfl rfl rfl Try.underlying75 rfl (tallySize (Sk.tl_length ES.out)) ?_
  go_wp2_with (first | (with_reducible refine stopLoad 75 rfl ?_) | (with_reducible refine stopStore 75 rfl ?_))
  refine store_known 75 (w.heap.size + 1) _ (tc s.tl) 75 HRes.out.1 rfl rfl rfl rfl (tallySize (Sk.tl_length ES.out)) (by rw [tc_size, tc_size, Sk.tl_length ES.out]; rfl) (tc_one _) ?_
  go_wp2
  refine bodyPost_ret (results_row_tmp Try.results100 _ _ (w.heap.size + 1) _ _ _ _ rfl HRes.out.1.setRow Try.underlying75 rfl (tallySize (Sk.tl_length ES.out))) rfl ?_
  exact ⟨s.tl, by rw [ES.out]; rfl, Sk.tl_length ES.out, fun _ => rfl, below_setRow HRes.out.2 (by omega) _⟩
end Go.Proofs.Ytbmbmnhamogghap
/- Arrays of numbers compared as wholes. No statement of the seat is proved here. -/
namespace Go.Proofs.Ytbmbmnhamogghap
open Go.RowKit
def eqAt (d : Nat) (e : TypeId) (n : Nat) (xs ys : Array Value) : List Nat → Sem Bool
  | [] => pure true
  | i :: is => do
    let a ← part e xs (i * n)
    let b ← part e ys (i * n)
    let r ← Op.equalIn d e a b
    if (!r) = true then pure false else eqAt d e n xs ys is
theorem run_equalIn_array {P : Program} (w : World) (d : Nat) (t e : TypeId) (len n : Nat) (xs ys : Array Value) (ht : P.underlying t = some (.array len e)) (hn : ∀ w, (sizeOf e).run P w = .ok n w) :
    (Op.equalIn (d + 1) t (.agg xs) (.agg ys)).run P w = (eqAt d e n xs ys (List.range' 0 len 1)).run P w := by
  simp only [Op.equalIn, Sem.run_bind, run_underlying ht, Result.andThen_ok, hn]
  rw [Std.Legacy.Range.forIn_eq_forIn_range']
  simp only [Std.Legacy.Range.size, Nat.sub_zero, Nat.add_sub_cancel, Nat.div_one]
  generalize List.range' 0 len 1 = is
  induction is generalizing w with
  | nil => simp [eqAt]
  | cons i is ih =>
    simp only [List.forIn_cons, eqAt, Sem.run_bind]
    generalize (part e xs (i * n)).run P w = r1
    cases r1 with
    | ok a w1 =>
      simp only [Result.andThen_ok]
      generalize (part e ys (i * n)).run P w1 = r2
      cases r2 with
      | ok b w2 =>
        simp only [Result.andThen_ok]
        generalize (Op.equalIn d e a b).run P w2 = r3
        cases r3 with
        | ok r w3 =>
          cases r
          · simp only [Result.andThen_ok, Bool.not_false, if_true, Sem.run_pure]
          · simp only [Result.andThen_ok, Bool.not_true, Bool.false_eq_true, if_false, Sem.run_pure]
            exact ih w3
        | halt x w3 => simp [Result.andThen]
      | halt x w2 => simp [Result.andThen]
    | halt x w1 => simp [Result.andThen]
theorem run_part_tc {P : Program} (w : World) (e : TypeId) (xs : List Int) (i : Nat) (hu : P.underlying e = some (.int .i64)) (hi : i < xs.length) : (part e (tc xs) i).run P w = .ok (.int .i64 (xs.getD i 0)) w := by
  have h1 : (tc xs)[i]? = some (.int .i64 (xs.getD i 0)) := by rw [tc_at, List.getElem?_eq_getElem hi]; simp [List.getElem?_eq_getElem hi]
  have hagg : (isAgg e).run P w = .ok false w := by unfold isAgg; rw [Sem.run_bind, run_underlying hu w]; simp
  unfold part
  simp [Sem.run_bind, hagg, h1]
theorem eqAt_ints {P : Program} (d : Nat) (e : TypeId) (xs ys : List Int) (hu : P.underlying e = some (.int .i64)) : ∀ (is : List Nat) (w : World), (∀ i ∈ is, i < xs.length ∧ i < ys.length) →
    (eqAt (d + 1) e 1 (tc xs) (tc ys) is).run P w = .ok (is.all fun i => decide (xs.getD i 0 = ys.getD i 0)) w
  | [], w, _ => by simp [eqAt]
  | i :: is, w, h => by
    have ⟨h1, h2⟩ := h i List.mem_cons_self
    have ih := eqAt_ints d e xs ys hu is w (fun j hj => h j (List.mem_cons_of_mem _ hj))
    rw [eqAt, Sem.run_bind, Nat.mul_one, run_part_tc w e xs i hu h1, Result.andThen_ok, Sem.run_bind, run_part_tc w e ys i hu h2, Result.andThen_ok, Sem.run_bind, run_equalIn_int w d e .i64 .i64 _ _ hu, Result.andThen_ok, List.all_cons]
    by_cases q : xs.getD i 0 = ys.getD i 0
    · rw [q]
      simp only [beq_self_eq_true, Bool.not_true, Bool.false_eq_true, if_false, decide_true, Bool.true_and]
      exact ih
    · have q2 : (xs.getD i 0 == ys.getD i 0) = false := by simpa using q
      rw [q2, dec_false q]
      simp
theorem all_range_eq (xs ys : List Int) (n : Nat) (hx : xs.length = n) (hy : ys.length = n) : ((List.range' 0 n 1).all fun i => decide (xs.getD i 0 = ys.getD i 0)) = decide (xs = ys) := by
  by_cases q : xs = ys
  · subst q; simp
  · rw [dec_false q]
    rw [List.all_eq_false]
    refine Classical.byContradiction fun hc => q ?_
    apply List.ext_getElem (by omega)
    intro i h1 h2
    refine Classical.byContradiction fun hne => hc ⟨i, by simp [List.mem_range'_1]; omega, ?_⟩
    simpa [List.getElem?_eq_getElem h1, List.getElem?_eq_getElem h2] using hne
/-- Two arrays of numbers, compared. -/
theorem run_eq_ints {P : Program} (w : World) (d : Nat) (t e : TypeId) (n : Nat) (xs ys : List Int) (ht : P.underlying t = some (.array n e)) (hu : P.underlying e = some (.int .i64)) (hn : ∀ w, (sizeOf e).run P w = .ok 1 w) (hx : xs.length = n) (hy : ys.length = n) :
    (Op.equalIn (d + 2) t (.agg (tc xs)) (.agg (tc ys))).run P w = .ok (decide (xs = ys)) w := by
  rw [run_equalIn_array w (d + 1) t e n 1 _ _ ht hn, eqAt_ints d e xs ys hu _ w (fun i hi => by simp [List.mem_range'_1] at hi; omega), all_range_eq xs ys n hx hy]
theorem tc_extract (xs : List Int) (a b : Nat) : (tc xs).extract a (a + b) = tc ((xs.drop a).take b) := by
  apply Array.ext'
  simp [tc, List.extract_eq_take_drop, List.map_take, List.map_drop]
/-- Two arrays of two arrays of four numbers, compared. -/
theorem run_eq_rows {P : Program} (w : World) (d : Nat) (t u e : TypeId) (xs ys : List Int) (ht : P.underlying t = some (.array 2 u)) (hu : P.underlying u = some (.array 4 e)) (he : P.underlying e = some (.int .i64)) (hn : ∀ w, (sizeOf e).run P w = .ok 1 w) (hn4 : ∀ w, (sizeOf u).run P w = .ok 4 w) (hx : xs.length = 8) (hy : ys.length = 8) :
    (Op.equalIn (d + 3) t (.agg (tc xs)) (.agg (tc ys))).run P w = .ok (decide (xs = ys)) w := by
  have hagg : (isAgg u).run P w = .ok true w := by unfold isAgg; rw [Sem.run_bind, run_underlying hu w]; simp
  have hp : ∀ (zs : List Int) i, (part u (tc zs) i).run P w = .ok (.agg (tc ((zs.drop i).take 4))) w := by
    intro zs i
    unfold part
    simp only [Sem.run_bind, hagg, Result.andThen_ok, if_true, hn4, Sem.run_pure]
    rw [tc_extract]
  have h4 : ∀ i, i + 4 ≤ 8 → (Op.equalIn (d + 2) u (.agg (tc ((xs.drop i).take 4))) (.agg (tc ((ys.drop i).take 4)))).run P w = .ok (decide ((xs.drop i).take 4 = (ys.drop i).take 4)) w := fun i hi =>
    run_eq_ints w d u e 4 _ _ hu he hn (by simp; omega) (by simp; omega)
  rw [run_equalIn_array w (d + 2) t u 2 4 _ _ ht hn4]
  show (eqAt (d + 2) u 4 (tc xs) (tc ys) [0, 1]).run P w = _
  rw [eqAt, Sem.run_bind, hp, Result.andThen_ok, Sem.run_bind, hp, Result.andThen_ok, Sem.run_bind, h4 (0 * 4) (by omega), Result.andThen_ok]
  have ex : xs = (xs.drop 0).take 4 ++ (xs.drop 4).take 4 := by
    rw [List.drop_zero, List.take_of_length_le (l := xs.drop 4) (by simp; omega), List.take_append_drop]
  have ey : ys = (ys.drop 0).take 4 ++ (ys.drop 4).take 4 := by
    rw [List.drop_zero, List.take_of_length_le (l := ys.drop 4) (by simp; omega), List.take_append_drop]
  by_cases q0 : (xs.drop (0 * 4)).take 4 = (ys.drop (0 * 4)).take 4
  · rw [dec_true q0]
    simp only [Bool.not_true, Bool.false_eq_true, if_false]
    rw [eqAt, Sem.run_bind, hp, Result.andThen_ok, Sem.run_bind, hp, Result.andThen_ok, Sem.run_bind, h4 (1 * 4) (by omega), Result.andThen_ok]
    by_cases q1 : (xs.drop (1 * 4)).take 4 = (ys.drop (1 * 4)).take 4
    · rw [dec_true q1, dec_true (p := xs = ys) (by rw [ex, ey]; rw [show xs.drop 0 = xs.drop (0 * 4) from rfl, q0, show xs.drop 4 = xs.drop (1 * 4) from rfl, q1])]
      simp [eqAt]
    · rw [dec_false q1, dec_false (p := xs = ys) (fun e => q1 (by rw [e]))]
      simp
  · rw [dec_false q0, dec_false (p := xs = ys) (fun e => q0 (by rw [e]))]
    simp
/-! ### a part of a whole struct, out of memory -/
section
variable {P : Program} {ops : Array Oper} {Q : Exit → Act → World → Prop} {rest : List Oper} {a : Act} {w : World} {x y : Operand} {o : Oper}
theorem wpList_wanted (hw : Region.wanted o (yielded ops a.tmps) = true) (h : ∀ K : Act → World → Prop, (∀ a w, wpList P ops Q rest a w → K a w) → o.wp P a w K Q) : wpList P ops Q (o :: rest) a w :=
  wpList_step fun K hK => by rw [if_pos hw]; exact h K hK
theorem run_loadVar_part (w : World) (g off n : Nat) (t ty : TypeId) (xs : List Int) (d : TypeDesc) (hg : Blk w g (tc xs) t) (hu : P.underlying ty = some d) (hd : (match d with | .struct _ | .array _ _ => true | _ => false) = true) (hi : (P.info? ty).map (·.size) = some n) (hfit : off + n ≤ xs.length) :
    (loadVar ty ⟨g, off, none⟩).run P w = .ok (.agg (tc ((xs.drop off).take n))) w := by
  have hlen : (((xs.drop off).take n).map (Value.int .i64)).length = n := by simp; omega
  have hl := run_loadCells_list (P := P) w ⟨g, off, none⟩ (((xs.drop off).take n).map (Value.int .i64)) (fun j v hv => by
      have hadd : (⟨g, off, none⟩ : Addr).add j = ⟨g, off + j, none⟩ := by unfold Addr.add; split <;> simp_all
      have hj : j < n := by rw [← hlen]; exact (List.getElem?_eq_some_iff.1 hv).1
      rw [hadd, hg.cell, tc_at]
      rw [List.getElem?_map, List.getElem?_take, if_pos hj, List.getElem?_drop] at hv
      exact hv)
  rw [hlen] at hl
  cases hq : P.info? ty with
  | none => simp [hq] at hi
  | some i =>
    have hs : i.size = n := by simpa [hq] using hi
    have hagg : (isAgg ty).run P w = .ok true w := by
      unfold isAgg
      rw [Sem.run_bind, run_underlying hu w]
      cases d <;> simp_all
    simp only [loadVar, Sem.run_bind, hagg, sizeOf, typeInfo, Result.andThen_ok, if_true]
    simp [tc, hq, hs, hl]
theorem load_part (ty : TypeId) (g off n : Nat) (xs : List Int) (t : TypeId) (d : TypeDesc) (hg : Blk w g (tc xs) t) (hw : Region.wanted o (yielded ops a.tmps) = true) (ho : o.op = .load ty x) (hx : a.eval x = .pointer (some ⟨g, off, none⟩))
    (hu : P.underlying ty = some d) (hd : (match d with | .struct _ | .array _ _ => true | _ => false) = true) (hi : (P.info? ty).map (·.size) = some n) (hfit : off + n ≤ xs.length)
    (h : wpList P ops Q rest (a.put o.dst (.agg (tc ((xs.drop off).take n)))) w) : Stop (wpList P ops Q (o :: rest) a w) := by
  refine wpList_wanted hw fun K hK => ?_
  unfold Oper.wp execOp
  simp only [ho, hx, Instr.loadAt, Instr.sureAddr, Sem.run_bind, Sem.run_pure, Result.andThen_ok, run_loadVar_part w g off n t ty xs d hg hu hd hi hfit]
  exact hK _ _ h
end
end Go.Proofs.Ytbmbmnhamogghap
/- Two rows of numbers of the program's own kind, compared; a summary that is right. No statement of the seat is proved here. -/
namespace Go.Proofs.Ytbmbmnhamogghap
open Go.RowKit
set_option maxRecDepth 200000 in
set_option maxHeartbeats 2000000 in
theorem same_any (xs ys : List Int) (w : World) (hx : xs.length = 28) (hy : ys.length = 28) :
    Calls Try.prog 101 #[.agg (tc xs), .agg (tc ys)] w fun e w' => e = .returned (.bool (decide (xs = ys))) ∧ Below w.heap.size w w' := by
  have HL : Hid (xs.length = 28 ∧ ys.length = 28) := ⟨hx, hy⟩
  have HT : Hid (_ ∧ _ ∧ _) := two_made w (tc xs) (tc ys) 75 75
  obtain ⟨d, hd⟩ : ∃ d, d = decide (xs = ys) := ⟨_, rfl⟩
  rw [← hd]
  have HD : Hid (d = decide (xs = ys)) := hd
  obtain ⟨x0, hx0⟩ : ∃ x, x = xs.getD 0 0 := ⟨_, rfl⟩
  obtain ⟨x1, hx1⟩ : ∃ x, x = xs.getD 1 0 := ⟨_, rfl⟩
  obtain ⟨x2, hx2⟩ : ∃ x, x = xs.getD 2 0 := ⟨_, rfl⟩
  obtain ⟨x3, hx3⟩ : ∃ x, x = xs.getD 3 0 := ⟨_, rfl⟩
  obtain ⟨y0, hy0⟩ : ∃ x, x = ys.getD 0 0 := ⟨_, rfl⟩
  obtain ⟨y1, hy1⟩ : ∃ x, x = ys.getD 1 0 := ⟨_, rfl⟩
  obtain ⟨y2, hy2⟩ : ∃ x, x = ys.getD 2 0 := ⟨_, rfl⟩
  obtain ⟨y3, hy3⟩ : ∃ x, x = ys.getD 3 0 := ⟨_, rfl⟩
  have a0 : (tc xs)[0]? = some (.int .i64 x0) := by rw [hx0]; exact tc_get (by omega)
  have a1 : (tc xs)[1]? = some (.int .i64 x1) := by rw [hx1]; exact tc_get (by omega)
  have a2 : (tc xs)[2]? = some (.int .i64 x2) := by rw [hx2]; exact tc_get (by omega)
  have a3 : (tc xs)[3]? = some (.int .i64 x3) := by rw [hx3]; exact tc_get (by omega)
  have b0 : (tc ys)[0]? = some (.int .i64 y0) := by rw [hy0]; exact tc_get (by omega)
  have b1 : (tc ys)[1]? = some (.int .i64 y1) := by rw [hy1]; exact tc_get (by omega)
  have b2 : (tc ys)[2]? = some (.int .i64 y2) := by rw [hy2]; exact tc_get (by omega)
  have b3 : (tc ys)[3]? = some (.int .i64 y3) := by rw [hy3]; exact tc_get (by omega)
  have HX : Hid ((x0 = xs.getD 0 0 ∧ y0 = ys.getD 0 0) ∧ (x1 = xs.getD 1 0 ∧ y1 = ys.getD 1 0) ∧ (x2 = xs.getD 2 0 ∧ y2 = ys.getD 2 0) ∧ (x3 = xs.getD 3 0 ∧ y3 = ys.getD 3 0)) := ⟨⟨hx0, hy0⟩, ⟨hx1, hy1⟩, ⟨hx2, hy2⟩, ⟨hx3, hy3⟩⟩
  clear hx hy hd hx0 hx1 hx2 hx3 hy0 hy1 hy2 hy3
  go_enter Try.func101, Try.ntmps101
  by_cases q0 : x0 = y0
  rotate_left
  · have q0' : (x0 == y0) = false := by simpa using q0
    have HN : Hid (d = false) := by show d = _; rw [HD.out]; exact dec_false (fun e => q0 (by rw [HX.out.1.1, HX.out.1.2, e]))
    clear q0
    go_wp2
    go_ret
    exact ⟨ret_bool HN.out.symm, HT.out.2.2⟩
  have Q0 : Hid (x0 = y0) := q0
  have q0' : (x0 == y0) = true := by simpa using q0
  clear q0
  by_cases q1 : x1 = y1
  rotate_left
  · have q1' : (x1 == y1) = false := by simpa using q1
    have HN : Hid (d = false) := by show d = _; rw [HD.out]; exact dec_false (fun e => q1 (by rw [HX.out.2.1.1, HX.out.2.1.2, e]))
    clear q1
    go_wp2
    go_ret
    exact ⟨ret_bool HN.out.symm, HT.out.2.2⟩
  have Q1 : Hid (x1 = y1) := q1
  have q1' : (x1 == y1) = true := by simpa using q1
  clear q1
  by_cases q2 : x2 = y2
  rotate_left
  · have q2' : (x2 == y2) = false := by simpa using q2
    have HN : Hid (d = false) := by show d = _; rw [HD.out]; exact dec_false (fun e => q2 (by rw [HX.out.2.2.1.1, HX.out.2.2.1.2, e]))
    clear q2
    go_wp2
    go_ret
    exact ⟨ret_bool HN.out.symm, HT.out.2.2⟩
  have Q2 : Hid (x2 = y2) := q2
  have q2' : (x2 == y2) = true := by simpa using q2
  clear q2
  by_cases q3 : x3 = y3
  rotate_left
  · have q3' : (x3 == y3) = false := by simpa using q3
    have HN : Hid (d = false) := by show d = _; rw [HD.out]; exact dec_false (fun e => q3 (by rw [HX.out.2.2.2.1, HX.out.2.2.2.2, e]))
    clear q3
    go_wp2
    go_ret
    exact ⟨ret_bool HN.out.symm, HT.out.2.2⟩
  have Q3 : Hid (x3 = y3) := q3
  have q3' : (x3 == y3) = true := by simpa using q3
  clear q3
  go_wp2_with (first | go_skip | (with_reducible refine stopLoad 71 rfl ?_))
  refine load_part 71 w.heap.size 4 8 xs 75 _ HT.out.1 rfl rfl rfl Try.underlying71 rfl (by kernel_rfl) (by rw [HL.out.1]; omega) ?_
  go_wp2_with (first | go_skip | (with_reducible refine stopLoad 71 rfl ?_))
  refine load_part 71 (w.heap.size + 1) 4 8 ys 75 _ HT.out.2.1 rfl rfl rfl Try.underlying71 rfl (by kernel_rfl) (by rw [HL.out.2]; omega) ?_
  have hq0 : ∀ w, (Op.equalIn 10000 71 (.agg (tc ((xs.drop 4).take 8))) (.agg (tc ((ys.drop 4).take 8)))).run Try.prog w = .ok (decide ((xs.drop 4).take 8 = (ys.drop 4).take 8)) w := fun w => run_eq_ints w 9998 71 3 8 _ _ Try.underlying71 Try.underlying3 (fun _ => by simp) (by simp; have := HL.out.1; omega) (by simp; have := HL.out.2; omega)
  cases q4 : decide ((xs.drop 4).take 8 = (ys.drop 4).take 8)
  · rw [q4] at hq0
    have HN : Hid (d = false) := by show d = _; rw [HD.out]; exact dec_false (fun e => by rw [e] at q4; simp at q4)
    clear q4
    go_wp2
    go_ret
    exact ⟨ret_bool HN.out.symm, HT.out.2.2⟩
  rw [q4] at hq0
  have Q4 : Hid ((xs.drop 4).take 8 = (ys.drop 4).take 8) := (show (xs.drop 4).take 8 = (ys.drop 4).take 8 from of_decide_eq_true q4)
  clear q4
  go_wp2_with (first | go_skip | (with_reducible refine stopLoad 71 rfl ?_))
  refine load_part 71 w.heap.size 12 8 xs 75 _ HT.out.1 rfl rfl rfl Try.underlying71 rfl (by kernel_rfl) (by rw [HL.out.1]; omega) ?_
  go_wp2_with (first | go_skip | (with_reducible refine stopLoad 71 rfl ?_))
  refine load_part 71 (w.heap.size + 1) 12 8 ys 75 _ HT.out.2.1 rfl rfl rfl Try.underlying71 rfl (by kernel_rfl) (by rw [HL.out.2]; omega) ?_
  have hq1 : ∀ w, (Op.equalIn 10000 71 (.agg (tc ((xs.drop 12).take 8))) (.agg (tc ((ys.drop 12).take 8)))).run Try.prog w = .ok (decide ((xs.drop 12).take 8 = (ys.drop 12).take 8)) w := fun w => run_eq_ints w 9998 71 3 8 _ _ Try.underlying71 Try.underlying3 (fun _ => by simp) (by simp; have := HL.out.1; omega) (by simp; have := HL.out.2; omega)
  cases q5 : decide ((xs.drop 12).take 8 = (ys.drop 12).take 8)
  · rw [q5] at hq1
    have HN : Hid (d = false) := by show d = _; rw [HD.out]; exact dec_false (fun e => by rw [e] at q5; simp at q5)
    clear q5
    go_wp2
    go_ret
    exact ⟨ret_bool HN.out.symm, HT.out.2.2⟩
  rw [q5] at hq1
  have Q5 : Hid ((xs.drop 12).take 8 = (ys.drop 12).take 8) := (show (xs.drop 12).take 8 = (ys.drop 12).take 8 from of_decide_eq_true q5)
  clear q5
  go_wp2_with (first | go_skip | (with_reducible refine stopLoad 73 rfl ?_))
  refine load_part 73 w.heap.size 20 8 xs 75 _ HT.out.1 rfl rfl rfl Try.underlying73 rfl (by kernel_rfl) (by rw [HL.out.1]; omega) ?_
  go_wp2_with (first | go_skip | (with_reducible refine stopLoad 73 rfl ?_))
  refine load_part 73 (w.heap.size + 1) 20 8 ys 75 _ HT.out.2.1 rfl rfl rfl Try.underlying73 rfl (by kernel_rfl) (by rw [HL.out.2]; omega) ?_
  have hq2 : ∀ w, (Op.equalIn 10000 73 (.agg (tc ((xs.drop 20).take 8))) (.agg (tc ((ys.drop 20).take 8)))).run Try.prog w = .ok (decide ((xs.drop 20).take 8 = (ys.drop 20).take 8)) w := fun w => run_eq_rows w 9997 73 72 3 _ _ Try.underlying73 Try.underlying72 Try.underlying3 (fun _ => by simp) (fun _ => by simp) (by simp; have := HL.out.1; omega) (by simp; have := HL.out.2; omega)
  cases q6 : decide ((xs.drop 20).take 8 = (ys.drop 20).take 8)
  · rw [q6] at hq2
    have HN : Hid (d = false) := by show d = _; rw [HD.out]; exact dec_false (fun e => by rw [e] at q6; simp at q6)
    clear q6
    go_wp2
    go_ret
    exact ⟨ret_bool HN.out.symm, HT.out.2.2⟩
  rw [q6] at hq2
  have Q6 : Hid ((xs.drop 20).take 8 = (ys.drop 20).take 8) := (show (xs.drop 20).take 8 = (ys.drop 20).take 8 from of_decide_eq_true q6)
  clear q6
  have HN : Hid (d = true) := by show d = _; rw [HD.out]; exact dec_true (eq28 HL.out.1 HL.out.2 (by rw [← HX.out.1.1, ← HX.out.1.2]; exact Q0.out) (by rw [← HX.out.2.1.1, ← HX.out.2.1.2]; exact Q1.out) (by rw [← HX.out.2.2.1.1, ← HX.out.2.2.1.2]; exact Q2.out) (by rw [← HX.out.2.2.2.1, ← HX.out.2.2.2.2]; exact Q3.out) Q4.out Q5.out Q6.out)
  go_wp2
  go_ret
  exact ⟨ret_bool HN.out.symm, HT.out.2.2⟩
end Go.Proofs.Ytbmbmnhamogghap
