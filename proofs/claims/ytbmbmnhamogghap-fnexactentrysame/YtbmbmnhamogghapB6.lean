/- Several texts of mine, laid together. No statement of the seat is proved here. -/
import Derived.Test.YtbmbmnhamogghapB5
import Derived.Test.YtbmbmnhamogghapB2
/- The walks through the model's SetOk, SetSize and SetApart. No statement of the seat is proved here. -/
namespace Go.Proofs.Ytbmbmnhamogghap
open Go.RowKit
theorem Sp.okAt_false {ps : Sp} {k : Nat} (h : ¬ ((0 ≤ (ps.at k).1 ∧ (ps.at k).1 ≤ 9999) ∧ ((ps.at k).1 ≤ (ps.at k).2 ∧ (ps.at k).2 ≤ 9999) ∧ (k = 0 ∨ (ps.at (k - 1)).2 + 1 < (ps.at k).1))) : ps.okAt k = false := by
  rw [Bool.eq_false_iff]
  intro e
  unfold Sp.okAt at e
  simp only [Bool.and_eq_true, Bool.or_eq_true, decide_eq_true_eq] at e
  exact h ⟨e.1.1, e.1.2, e.2⟩
theorem Sp.okAt_true {ps : Sp} {k : Nat} (h1 : 0 ≤ (ps.at k).1 ∧ (ps.at k).1 ≤ 9999) (h2 : (ps.at k).1 ≤ (ps.at k).2 ∧ (ps.at k).2 ≤ 9999) (h3 : k = 0 ∨ (ps.at (k - 1)).2 + 1 < (ps.at k).1) : ps.okAt k = true := by
  unfold Sp.okAt
  simp only [Bool.and_eq_true, Bool.or_eq_true, decide_eq_true_eq]
  exact ⟨⟨h1, h2⟩, h3⟩
theorem all_up {P : Nat → Prop} {k : Nat} (h : ∀ j, j < k → P j) (hk : P k) : ∀ j, j < k + 1 → P j := fun j hj => by
  by_cases e : j < k
  · exact h j e
  · obtain rfl : j = k := by omega
    exact hk
set_option maxRecDepth 200000 in
set_option maxHeartbeats 4000000 in
theorem setOkSpec_any (a : Option Addr) (len cap : Nat) (ps : Sp) (F : List Nat) (w : World) (h : RdP w a len ps F) (hlen : len ≤ 140737488355328) :
    Calls Try.prog 36 #[.slice a len cap] w fun e w' => e = .returned (.bool ps.ok) ∧ ∃ m, w' = w.drewN m := by
  have HL : Hid (ps.length = len) := h.length
  rcases h.cells with ⟨rfl, _, rfl⟩ | ⟨b, off, hp, rfl, _, hc⟩
  · clear h
    go_enter Try.func36, Try.ntmps36
    go_wp2
    refine wp_loop_rounds 1 ?_
    rw [rounds_succ]
    go_wp2
    go_ret
    exact ⟨rfl, 0, rfl⟩
  · have HC : Hid (SpCells w b off len ps) := hc
    clear h hc
    go_enter Try.func36, Try.ntmps36
    go_wp2
    go_loopw [3] (fun i wr => ∃ (k : Nat), k ≤ len ∧ i = .int .i64 k ∧ Hid (QuietTo w wr) ∧ Hid (∀ j, j < k → ps.okAt j = true)) (fun i _ => len - (intOf i).toNat)
    case atStart => exact ⟨0, by omega, rfl, QuietTo.refl w, fun j hj => by omega⟩
    case round =>
      obtain ⟨k, hk, rfl, HQ, HN⟩ := hrel
      by_cases hlt : k < len
      · obtain ⟨x, hx⟩ : ∃ x, x = (ps.at k).1 := ⟨_, rfl⟩
        obtain ⟨y, hy⟩ : ∃ x, x = (ps.at k).2 := ⟨_, rfl⟩
        have e := HC.out k hlt
        rw [← hx, ← hy] at e
        have d1 : wr.cell? ⟨b, off + k * 2, none⟩ = some (.int .i64 x) := (HQ.out.cell _).trans e.1
        have d2 : wr.cell? ⟨b, off + k * 2 + 1, none⟩ = some (.int .i64 y) := (HQ.out.cell _).trans e.2
        have HX : Hid (x = (ps.at k).1 ∧ y = (ps.at k).2) := ⟨hx, hy⟩
        have hI : (k : Int) < (len : Int) := by omega
        clear e hx hy
        by_cases h1 : 0 ≤ x ∧ x ≤ 9999
        rotate_left
        · have HV : Hid (ps.ok = false) := Sp.ok_not (by rw [HL.out]; exact hlt) (Sp.okAt_false (fun e => h1 (by rw [HX.out.1]; exact e.1)))
          go_wp2
          go_quiet ((go_at_call 66; exact Calls.quiet_of_same (l1In_no _ _ _ _ h1)))
          go_wp2
          go_ret
          rw [HV.out]
          exact ⟨rfl, HQ.out.drewN _⟩
        by_cases h2 : x ≤ y ∧ y ≤ 9999
        rotate_left
        · have HV : Hid (ps.ok = false) := Sp.ok_not (by rw [HL.out]; exact hlt) (Sp.okAt_false (fun e => h2 (by rw [HX.out.1, HX.out.2]; exact e.2.1)))
          go_wp2
          go_quiet ((go_at_call 66; first | (with_reducible exact Calls.quiet_of_same (l1In_yes _ _ _ _ h1)) | (with_reducible exact Calls.quiet_of_same (l1In_no _ _ _ _ h2))))
          go_wp2
          go_ret
          rw [HV.out]
          exact ⟨rfl, HQ.out.drewN _⟩
        cases k with
        | zero =>
          have HN2 : Hid (∀ j, j < 0 + 1 → ps.okAt j = true) := all_up HN.out (Sp.okAt_true (by rw [← HX.out.1]; exact h1) (by rw [← HX.out.1, ← HX.out.2]; exact h2) (.inl rfl))
          rw [show off + 0 * 2 = off by omega] at d1 d2
          have hI0 : (0 : Int) < (len : Int) := by omega
          simp only [Int.cast_ofNat_Int]
          clear hI
          go_wp2
          go_quiet ((go_at_call 66; first | (with_reducible exact Calls.quiet_of_same (l1In_yes _ _ _ _ h1)) | (with_reducible exact Calls.quiet_of_same (l1In_yes _ _ _ _ h2))))
          go_wp2
          go_roundw
          case rel => exact ⟨0 + 1, by omega, by go_num, HQ.out.drewN _, HN2⟩
          case measure => simp [intOf]; omega
        | succ k =>
          obtain ⟨z, hz⟩ : ∃ x, x = (ps.at k).2 := ⟨_, rfl⟩
          have e := HC.out k (by omega)
          rw [← hz] at e
          have d3 : wr.cell? ⟨b, off + k * 2 + 1, none⟩ = some (.int .i64 z) := (HQ.out.cell _).trans e.2
          have hprev := (Sp.okAt_parts (HN.out k (by omega))).1
          have z0 : 0 ≤ z := by rw [hz]; omega
          have z1 : z ≤ 9999 := by rw [hz]; omega
          have HZ : Hid (z = (ps.at k).2) := hz
          have hI2 : (k : Int) < (len : Int) := by omega
          have hg : decide ((0 : Int) < ((k + 1 : Nat) : Int)) = true := decT (by omega)
          clear e hz hprev
          by_cases h3 : x ≤ z + 1
          · have HV : Hid (ps.ok = false) := Sp.ok_not (by rw [HL.out]; exact hlt) (Sp.okAt_false (fun e => by
              rcases e.2.2 with e | e
              · omega
              · rw [← HX.out.1, show k + 1 - 1 = k by omega, ← HZ.out] at e; omega))
            have hd : decide (x ≤ z + 1) = true := decT h3
            go_wp2
            go_quiet ((go_at_call 66; first | (with_reducible exact Calls.quiet_of_same (l1In_yes _ _ _ _ h1)) | (with_reducible exact Calls.quiet_of_same (l1In_yes _ _ _ _ h2))))
            go_wp2
            go_ret
            rw [HV.out]
            exact ⟨rfl, HQ.out.drewN _⟩
          · have HN2 : Hid (∀ j, j < k + 1 + 1 → ps.okAt j = true) := all_up HN.out (Sp.okAt_true (by rw [← HX.out.1]; exact h1) (by rw [← HX.out.1, ← HX.out.2]; exact h2) (.inr (by rw [← HX.out.1, show k + 1 - 1 = k by omega, ← HZ.out]; omega)))
            have hd : decide (x ≤ z + 1) = false := decF h3
            go_wp2
            go_quiet ((go_at_call 66; first | (with_reducible exact Calls.quiet_of_same (l1In_yes _ _ _ _ h1)) | (with_reducible exact Calls.quiet_of_same (l1In_yes _ _ _ _ h2))))
            go_wp2
            go_roundw
            case rel => exact ⟨k + 1 + 1, by omega, by go_num, HQ.out.drewN _, HN2⟩
            case measure => simp [intOf]; omega
      · obtain rfl : k = len := by omega
        have HV : Hid (ps.ok = true) := Sp.ok_all (fun j hj => HN.out j (by rw [← HL.out]; exact hj))
        go_wp2
        go_ret
        rw [HV.out]
        exact ⟨rfl, HQ.out⟩
end Go.Proofs.Ytbmbmnhamogghap
/- When a summary is right; the walk through the model's SketchOk. No statement of the seat is proved here. -/
namespace Go.Proofs.Ytbmbmnhamogghap
open Go.RowKit

/-- A list of so many numbers, each in 0 .. most; all 0 where z. -/
def okN (most : Int) (z : Bool) (x : Int) : Bool := decide (0 ≤ x ∧ x ≤ most) && (!z || decide (x = 0))
def okL (l : List Int) (many : Nat) (most : Int) (z : Bool) : Bool := decide (l.length = many) && l.all (okN most z)
def okHead (s : Sk) : Bool := decide (0 ≤ s.count ∧ s.count ≤ 1000000000) && decide (0 ≤ s.sum ∧ s.sum ≤ 1000000000) && decide (0 ≤ s.min ∧ s.min ≤ 1000000) && decide (0 ≤ s.max ∧ s.max ≤ 1000000) && decide (s.min ≤ s.max) && decide (s.rows.length = 2)
def okZero (s : Sk) : Bool := !decide (s.count = 0) || (decide (s.sum = 0) && decide (s.max = 0))
def okLists (s : Sk) : Bool := okL s.hist 8 1000000000 (decide (s.count = 0)) && okL s.regs 8 17 (decide (s.count = 0)) && okL (s.rows.getD 0 []) 4 1000000000 (decide (s.count = 0)) && okL (s.rows.getD 1 []) 4 1000000000 (decide (s.count = 0))
def Sk.ok (s : Sk) : Bool := okHead s && okZero s && okLists s

theorem all_snoc {p : Int → Bool} {l : List Int} {k : Nat} (hk : k < l.length) (h : (l.take k).all p = true) (hx : p (l[k]?.getD 0) = true) : (l.take (k + 1)).all p = true := by
  rw [take_succ' l k hk, List.all_append, h]; simpa using hx
theorem all_not {p : Int → Bool} {l : List Int} {k : Nat} (hk : k < l.length) (hx : p (l[k]?.getD 0) = false) : l.all p = false := by
  rw [← Bool.not_eq_true, List.all_eq_true]
  intro h
  have := h _ (List.getElem_mem hk)
  rw [List.getElem?_eq_getElem hk] at hx
  simp at hx
  rw [hx] at this; cases this
set_option maxRecDepth 200000 in
set_option maxHeartbeats 1000000 in
theorem l3List_any (a : Option Addr) (len cap : Nat) (zs : List Int) (F : List Nat) (many : Nat) (most : Int) (z : Bool) (w : World) (h : RdI w a len zs F) (hlen : len ≤ 140737488355328) (hmany : (many : Int) ≤ 1000) :
    Calls Try.prog 71 #[.slice a len cap, .int .i64 many, .int .i64 most, .bool z] w fun e w' => e = .returned (.bool (okL zs many most z)) ∧ w' = w := by
  obtain ⟨d, hd⟩ : ∃ d, d = okL zs many most z := ⟨_, rfl⟩
  rw [← hd]
  have HL : Hid (zs.length = len) := h.length
  by_cases hl : len = many
  · subst hl
    have HD : Hid (d = zs.all (okN most z)) := by show d = _; rw [hd, okL, HL.out]; simp
    have hbne : ((len : Int) != (len : Int)) = false := by simp
    clear hd
    rcases h.cells with ⟨h0, _⟩ | ⟨b, off, hp, rfl, _, hc⟩
    · subst h0
      have hz : zs = [] := List.eq_nil_of_length_eq_zero h.length
      subst hz
      clear h
      go_enter Try.func71, Try.ntmps71
      go_wp2
      refine wp_loop_rounds 1 ?_
      rw [rounds_succ]
      go_wp2
      go_ret
      exact ⟨ret_bool (by rw [HD.out]; rfl), rfl⟩
    · have HC : Hid (∀ i, i < len → w.cell? ⟨b, off + i, none⟩ = some (.int .i64 (zs.getD i 0))) := hc
      clear h hc
      go_enter Try.func71, Try.ntmps71
      go_wp2
      go_loop [9] (fun i => ∃ k : Nat, k ≤ len ∧ i = .int .i64 k ∧ Hid ((zs.take k).all (okN most z) = true)) (fun i => len - (intOf i).toNat)
      case atStart => exact ⟨0, by omega, rfl, show _ = true by simp⟩
      case round =>
        obtain ⟨k, hk, rfl, HA⟩ := hrel
        by_cases hlt : k < len
        · have hck := HC.out k hlt
          obtain ⟨x, hx⟩ : ∃ x, x = zs[k]?.getD 0 := ⟨_, rfl⟩
          have hck2 : w.cell? ⟨b, off + k, none⟩ = some (.int .i64 x) := by rw [hx, hck]; simp
          have HX : Hid (x = zs[k]?.getD 0) := hx
          clear hck hx
          by_cases hin : 0 ≤ x ∧ x ≤ most
          · by_cases hzz : z = true ∧ ¬ x = 0
            · obtain ⟨rfl, hx0⟩ := hzz
              have hxb : (x != 0) = true := by simpa using hx0
              have HN : Hid (zs.all (okN most true) = false) := all_not (by rw [HL.out]; exact hlt) (by rw [← HX.out]; simp [okN, hx0])
              have hdec : decide (0 ≤ x ∧ x ≤ most) = true := by simpa using hin
              clear hin hx0
              go_wp2_with fail
              refine (l1In_any _ _ _ _).mono ?_
              rintro e w1 ⟨rfl, hw1⟩
              have hw1' := hw1.symm
              subst hw1'
              rw [hdec]
              clear hw1 hdec
              go_wp2
              go_ret
              exact ⟨ret_bool (by rw [HD.out, HN.out]), rfl⟩
            · have HA2 : Hid ((zs.take (k + 1)).all (okN most z) = true) := all_snoc (by rw [HL.out]; exact hlt) HA.out (by
                rw [← HX.out]; unfold okN; rw [dec_true hin]; cases z <;> simp_all)
              have hdec : decide (0 ≤ x ∧ x ≤ most) = true := by simpa using hin
              clear hin
              go_wp2_with fail
              refine (l1In_any _ _ _ _).mono ?_
              rintro e w1 ⟨rfl, hw1⟩
              have hw1' := hw1.symm
              subst hw1'
              rw [hdec]
              clear hw1 hdec
              cases z with
              | false =>
                clear hzz
                go_wp2
                go_round
                case rel => exact ⟨k + 1, by omega, by go_num, HA2⟩
                case measure => simp [intOf]; omega
              | true =>
                obtain rfl : x = 0 := by simpa using hzz
                clear hzz
                go_wp2
                go_round
                case rel => exact ⟨k + 1, by omega, by go_num, HA2⟩
                case measure => simp [intOf]; omega
          · have HN : Hid (zs.all (okN most z) = false) := all_not (by rw [HL.out]; exact hlt) (by rw [← HX.out]; unfold okN; rw [dec_false hin]; rfl)
            have hdec : decide (0 ≤ x ∧ x ≤ most) = false := by simpa using hin
            clear hin
            go_wp2_with fail
            refine (l1In_any _ _ _ _).mono ?_
            rintro e w1 ⟨rfl, hw1⟩
            have hw1' := hw1.symm
            subst hw1'
            rw [hdec]
            clear hw1 hdec
            go_wp2
            go_ret
            exact ⟨ret_bool (by rw [HD.out, HN.out]), rfl⟩
        · obtain rfl : k = len := by omega
          have HF : Hid (zs.all (okN most z) = true) := by have := HA.out; rw [List.take_of_length_le (Nat.le_of_eq HL.out)] at this; exact this
          go_wp2
          go_ret
          exact ⟨ret_bool (by rw [HD.out, HF.out]), rfl⟩
  · have hbne : ((len : Int) != (many : Int)) = true := by simp; omega
    have HD : Hid (d = false) := by show d = _; rw [hd, okL, HL.out, dec_false hl]; rfl
    clear hd h
    go_enter Try.func71, Try.ntmps71
    go_wp2
    go_ret
    exact ⟨ret_bool HD.out.symm, rfl⟩
set_option maxRecDepth 200000 in
set_option maxHeartbeats 2000000 in
theorem okSpec_any (v : Value) (s : Sk) (F : List Nat) (w : World) (h : RdSk w v s F) (hw : s.wide) :
    Calls Try.prog 37 #[v] w fun e w' => e = .returned (.bool s.ok) ∧ Below w.heap.size w w' := by
  obtain ⟨a1, n1, c1, a2, n2, c2, a3, n3, c3, F1, F2, F3, rfl, h1, h2, h3, _⟩ := h
  have hn1 : n1 ≤ 140737488355328 := by rw [← h1.length]; exact hw.hist
  have hn2 : n2 ≤ 140737488355328 := by rw [← h2.length]; exact hw.regs
  have hn3 : n3 ≤ 140737488355328 := by rw [← h3.length]; exact hw.rows
  have HW : Hid s.wide := hw
  have bw : Below w.heap.size w (w.alloc (.cells #[.int .i64 s.count, .int .i64 s.sum, .int .i64 s.min, .int .i64 s.max, .slice a1 n1 c1, .slice a2 n2 c2, .slice a3 n3 c3] 32)) := (Below.refl w.heap.size w).alloc (Nat.le_refl _) _
  have HR : Hid (RdI (w.alloc (.cells #[.int .i64 s.count, .int .i64 s.sum, .int .i64 s.min, .int .i64 s.max, .slice a1 n1 c1, .slice a2 n2 c2, .slice a3 n3 c3] 32)) a1 n1 s.hist F1 ∧ RdI (w.alloc (.cells #[.int .i64 s.count, .int .i64 s.sum, .int .i64 s.min, .int .i64 s.max, .slice a1 n1 c1, .slice a2 n2 c2, .slice a3 n3 c3] 32)) a2 n2 s.regs F2 ∧ RdII (w.alloc (.cells #[.int .i64 s.count, .int .i64 s.sum, .int .i64 s.min, .int .i64 s.max, .slice a1 n1 c1, .slice a2 n2 c2, .slice a3 n3 c3] 32)) a3 n3 s.rows F3 ∧ Below w.heap.size w (w.alloc (.cells #[.int .i64 s.count, .int .i64 s.sum, .int .i64 s.min, .int .i64 s.max, .slice a1 n1 c1, .slice a2 n2 c2, .slice a3 n3 c3] 32))) := ⟨h1.below bw, h2.below bw, h3.below bw, bw⟩
  have HL3 : Hid (s.rows.length = n3) := h3.length
  obtain ⟨d, hd⟩ : ∃ d, d = s.ok := ⟨_, rfl⟩
  rw [← hd]
  have HD : Hid (d = s.ok) := hd
  clear h1 h2 h3 hw bw hd
  go_enter Try.func37, Try.ntmps37
  go_wp2_with fail
  refine (l1In_any _ _ _ _).mono ?_
  rintro e w1 ⟨rfl, rfl⟩
  by_cases p0 : 0 ≤ s.count ∧ s.count ≤ 1000000000
  rotate_left
  · rw [dec_false p0]
    have HP : Hid (decide (0 ≤ s.count ∧ s.count ≤ 1000000000) = false) := dec_false p0
    clear p0
    go_wp2
    go_ret
    exact ⟨ret_bool (by rw [HD.out]; unfold Sk.ok okHead; rw [HP.out]; simp), HR.out.2.2.2⟩
  rw [dec_true p0]
  have P0 : Hid (0 ≤ s.count ∧ s.count ≤ 1000000000) := p0
  clear p0
  go_wp2_with fail
  refine (l1In_any _ _ _ _).mono ?_
  rintro e w1 ⟨rfl, rfl⟩
  by_cases p1 : 0 ≤ s.sum ∧ s.sum ≤ 1000000000
  rotate_left
  · rw [dec_false p1]
    have HP : Hid (decide (0 ≤ s.sum ∧ s.sum ≤ 1000000000) = false) := dec_false p1
    clear p1
    go_wp2
    go_ret
    exact ⟨ret_bool (by rw [HD.out]; unfold Sk.ok okHead; rw [HP.out]; simp), HR.out.2.2.2⟩
  rw [dec_true p1]
  have P1 : Hid (0 ≤ s.sum ∧ s.sum ≤ 1000000000) := p1
  clear p1
  go_wp2_with fail
  refine (l1In_any _ _ _ _).mono ?_
  rintro e w1 ⟨rfl, rfl⟩
  by_cases p2 : 0 ≤ s.min ∧ s.min ≤ 1000000
  rotate_left
  · rw [dec_false p2]
    have HP : Hid (decide (0 ≤ s.min ∧ s.min ≤ 1000000) = false) := dec_false p2
    clear p2
    go_wp2
    go_ret
    exact ⟨ret_bool (by rw [HD.out]; unfold Sk.ok okHead; rw [HP.out]; simp), HR.out.2.2.2⟩
  rw [dec_true p2]
  have P2 : Hid (0 ≤ s.min ∧ s.min ≤ 1000000) := p2
  clear p2
  go_wp2_with fail
  refine (l1In_any _ _ _ _).mono ?_
  rintro e w1 ⟨rfl, rfl⟩
  by_cases p3 : 0 ≤ s.max ∧ s.max ≤ 1000000
  rotate_left
  · rw [dec_false p3]
    have HP : Hid (decide (0 ≤ s.max ∧ s.max ≤ 1000000) = false) := dec_false p3
    clear p3
    go_wp2
    go_ret
    exact ⟨ret_bool (by rw [HD.out]; unfold Sk.ok okHead; rw [HP.out]; simp), HR.out.2.2.2⟩
  rw [dec_true p3]
  have P3 : Hid (0 ≤ s.max ∧ s.max ≤ 1000000) := p3
  clear p3
  by_cases p4 : s.min ≤ s.max
  rotate_left
  · have HP : Hid (decide (s.min ≤ s.max) = false) := dec_false p4
    have p4' : s.max < s.min := by omega
    clear p4
    go_wp2
    go_ret
    exact ⟨ret_bool (by rw [HD.out]; unfold Sk.ok okHead; rw [HP.out]; simp), HR.out.2.2.2⟩
  have P4 : Hid (s.min ≤ s.max) := p4
  by_cases p5 : n3 = 2
  rotate_left
  · have HP : Hid (decide (s.rows.length = 2) = false) := dec_false (by rw [HL3.out]; exact p5)
    have p5' : ((n3 : Int) != 2) = true := by simp; omega
    clear p5
    go_wp2
    go_ret
    exact ⟨ret_bool (by rw [HD.out]; unfold Sk.ok okHead; rw [HP.out]; simp), HR.out.2.2.2⟩
  have P5 : Hid (s.rows.length = 2) := by show _ = 2; rw [HL3.out]; exact p5
  subst p5
  have p5' : (((2 : Nat) : Int) != 2) = false := by simp
  have HH : Hid (okHead s = true) := by show _ = true; unfold okHead; rw [dec_true P0.out, dec_true P1.out, dec_true P2.out, dec_true P3.out, dec_true P4.out, dec_true P5.out]; rfl
  obtain ⟨b3, o3, F3', ha3, hm3⟩ : ∃ b off F', a3 = some ⟨b, off, none⟩ ∧ RdM (w.alloc (.cells #[.int .i64 s.count, .int .i64 s.sum, .int .i64 s.min, .int .i64 s.max, .slice a1 n1 c1, .slice a2 n2 c2, .slice a3 2 c3] 32)) (s.rows.map ints) b off F' := by
    rcases HR.out.2.2.1.cells with ⟨h0, _⟩ | ⟨b, off, F', _, e, _, hm⟩
    · omega
    · exact ⟨b, off, F', e, hm⟩
  subst ha3
  obtain ⟨r0, m0, k0, G0, x0, row0, _⟩ := RdII.row hm3 P5.out 0 (by omega)
  obtain ⟨r1, m1, k1, G1, x1, row1, _⟩ := RdII.row hm3 P5.out 1 (by omega)
  simp only [Nat.add_zero] at x0
  have hm0 : m0 ≤ 140737488355328 := by rw [← row0.length]; exact HW.out.row _ (mem_getD (by rw [P5.out]; omega))
  have hm1 : m1 ≤ 140737488355328 := by rw [← row1.length]; exact HW.out.row _ (mem_getD (by rw [P5.out]; omega))
  have HRow : Hid (RdI (w.alloc (.cells #[.int .i64 s.count, .int .i64 s.sum, .int .i64 s.min, .int .i64 s.max, .slice a1 n1 c1, .slice a2 n2 c2, .slice (some ⟨b3, o3, none⟩) 2 c3] 32)) r0 m0 (s.rows.getD 0 []) G0 ∧ RdI (w.alloc (.cells #[.int .i64 s.count, .int .i64 s.sum, .int .i64 s.min, .int .i64 s.max, .slice a1 n1 c1, .slice a2 n2 c2, .slice (some ⟨b3, o3, none⟩) 2 c3] 32)) r1 m1 (s.rows.getD 1 []) G1) := ⟨row0, row1⟩
  clear hm3 row0 row1 P0 P1 P2 P3 P4 P5
  by_cases z : s.count = 0
  · have zb : (s.count == 0) = true := by simpa using z
    have HZ : Hid (decide (s.count = 0) = true) := dec_true z
    clear z
    by_cases y : s.sum = 0
    rotate_left
    · have yb : (s.sum != 0) = true := by simpa using y
      have HP : Hid (decide (s.sum = 0) = false) := dec_false y
      clear y
      go_wp2
      go_ret
      exact ⟨ret_bool (by rw [HD.out]; unfold Sk.ok okZero; rw [HZ.out, HP.out]; simp), HR.out.2.2.2⟩
    have ysum : (s.sum != 0) = false := by simpa using y
    have Ysum : Hid (s.sum = 0) := y
    clear y
    by_cases y : s.max = 0
    rotate_left
    · have yb : (s.max != 0) = true := by simpa using y
      have HP : Hid (decide (s.max = 0) = false) := dec_false y
      clear y
      go_wp2
      go_ret
      exact ⟨ret_bool (by rw [HD.out]; unfold Sk.ok okZero; rw [HZ.out, HP.out]; simp), HR.out.2.2.2⟩
    have ymax : (s.max != 0) = false := by simpa using y
    have Ymax : Hid (s.max = 0) := y
    clear y
    have HO : Hid (okZero s = true) := by show _ = true; unfold okZero; rw [dec_true Ysum.out, dec_true Ymax.out]; simp
    go_wp2_with fail
    refine (l3List_any a1 n1 c1 s.hist F1 8 1000000000 true _ HR.out.1 hn1 (by omega)).mono ?_
    rintro e w1 ⟨rfl, rfl⟩
    cases l0 : okL s.hist 8 1000000000 true
    · have HN : Hid (okL s.hist 8 1000000000 true = false) := l0
      clear l0
      go_wp2
      go_ret
      exact ⟨ret_bool (by rw [HD.out]; unfold Sk.ok okLists; rw [HZ.out, HN.out]; simp), HR.out.2.2.2⟩
    have L0 : Hid (okL s.hist 8 1000000000 true = true) := l0
    clear l0
    go_wp2_with fail
    refine (l3List_any a2 n2 c2 s.regs F2 8 17 true _ HR.out.2.1 hn2 (by omega)).mono ?_
    rintro e w1 ⟨rfl, rfl⟩
    cases l1 : okL s.regs 8 17 true
    · have HN : Hid (okL s.regs 8 17 true = false) := l1
      clear l1
      go_wp2
      go_ret
      exact ⟨ret_bool (by rw [HD.out]; unfold Sk.ok okLists; rw [HZ.out, HN.out]; simp), HR.out.2.2.2⟩
    have L1 : Hid (okL s.regs 8 17 true = true) := l1
    clear l1
    go_wp2_with fail
    refine (l3List_any r0 m0 k0 (s.rows.getD 0 []) G0 4 1000000000 true _ HRow.out.1 hm0 (by omega)).mono ?_
    rintro e w1 ⟨rfl, rfl⟩
    cases l2 : okL (s.rows.getD 0 []) 4 1000000000 true
    · have HN : Hid (okL (s.rows.getD 0 []) 4 1000000000 true = false) := l2
      clear l2
      go_wp2
      go_ret
      exact ⟨ret_bool (by rw [HD.out]; unfold Sk.ok okLists; rw [HZ.out, HN.out]; simp), HR.out.2.2.2⟩
    have L2 : Hid (okL (s.rows.getD 0 []) 4 1000000000 true = true) := l2
    clear l2
    go_wp2_with fail
    refine (l3List_any r1 m1 k1 (s.rows.getD 1 []) G1 4 1000000000 true _ HRow.out.2 hm1 (by omega)).mono ?_
    rintro e w1 ⟨rfl, rfl⟩
    cases l3 : okL (s.rows.getD 1 []) 4 1000000000 true
    · have HN : Hid (okL (s.rows.getD 1 []) 4 1000000000 true = false) := l3
      clear l3
      go_wp2
      go_ret
      exact ⟨ret_bool (by rw [HD.out]; unfold Sk.ok okLists; rw [HZ.out, HN.out]; simp), HR.out.2.2.2⟩
    have L3 : Hid (okL (s.rows.getD 1 []) 4 1000000000 true = true) := l3
    clear l3
    go_wp2
    go_ret
    exact ⟨ret_bool (by rw [HD.out]; unfold Sk.ok okLists; rw [HZ.out, HH.out, HO.out, L0.out, L1.out, L2.out, L3.out]; rfl), HR.out.2.2.2⟩
  · have zb : (s.count == 0) = false := by simpa using z
    have HZ : Hid (decide (s.count = 0) = false) := dec_false z
    have HO : Hid (okZero s = true) := by show _ = true; unfold okZero; rw [dec_false z]; rfl
    clear z
    go_wp2_with fail
    refine (l3List_any a1 n1 c1 s.hist F1 8 1000000000 false _ HR.out.1 hn1 (by omega)).mono ?_
    rintro e w1 ⟨rfl, rfl⟩
    cases l0 : okL s.hist 8 1000000000 false
    · have HN : Hid (okL s.hist 8 1000000000 false = false) := l0
      clear l0
      go_wp2
      go_ret
      exact ⟨ret_bool (by rw [HD.out]; unfold Sk.ok okLists; rw [HZ.out, HN.out]; simp), HR.out.2.2.2⟩
    have L0 : Hid (okL s.hist 8 1000000000 false = true) := l0
    clear l0
    go_wp2_with fail
    refine (l3List_any a2 n2 c2 s.regs F2 8 17 false _ HR.out.2.1 hn2 (by omega)).mono ?_
    rintro e w1 ⟨rfl, rfl⟩
    cases l1 : okL s.regs 8 17 false
    · have HN : Hid (okL s.regs 8 17 false = false) := l1
      clear l1
      go_wp2
      go_ret
      exact ⟨ret_bool (by rw [HD.out]; unfold Sk.ok okLists; rw [HZ.out, HN.out]; simp), HR.out.2.2.2⟩
    have L1 : Hid (okL s.regs 8 17 false = true) := l1
    clear l1
    go_wp2_with fail
    refine (l3List_any r0 m0 k0 (s.rows.getD 0 []) G0 4 1000000000 false _ HRow.out.1 hm0 (by omega)).mono ?_
    rintro e w1 ⟨rfl, rfl⟩
    cases l2 : okL (s.rows.getD 0 []) 4 1000000000 false
    · have HN : Hid (okL (s.rows.getD 0 []) 4 1000000000 false = false) := l2
      clear l2
      go_wp2
      go_ret
      exact ⟨ret_bool (by rw [HD.out]; unfold Sk.ok okLists; rw [HZ.out, HN.out]; simp), HR.out.2.2.2⟩
    have L2 : Hid (okL (s.rows.getD 0 []) 4 1000000000 false = true) := l2
    clear l2
    go_wp2_with fail
    refine (l3List_any r1 m1 k1 (s.rows.getD 1 []) G1 4 1000000000 false _ HRow.out.2 hm1 (by omega)).mono ?_
    rintro e w1 ⟨rfl, rfl⟩
    cases l3 : okL (s.rows.getD 1 []) 4 1000000000 false
    · have HN : Hid (okL (s.rows.getD 1 []) 4 1000000000 false = false) := l3
      clear l3
      go_wp2
      go_ret
      exact ⟨ret_bool (by rw [HD.out]; unfold Sk.ok okLists; rw [HZ.out, HN.out]; simp), HR.out.2.2.2⟩
    have L3 : Hid (okL (s.rows.getD 1 []) 4 1000000000 false = true) := l3
    clear l3
    go_wp2
    go_ret
    exact ⟨ret_bool (by rw [HD.out]; unfold Sk.ok okLists; rw [HZ.out, HH.out, HO.out, L0.out, L1.out, L2.out, L3.out]; rfl), HR.out.2.2.2⟩
end Go.Proofs.Ytbmbmnhamogghap
/- The walks through the model's IdOf, ItemOk, EntryOk. No statement of the seat is proved here. -/
namespace Go.Proofs.Ytbmbmnhamogghap
open Go.RowKit
def idOf (a s : Int) : Int := if (0 ≤ a ∧ a ≤ 2) ∧ 1 ≤ s ∧ s ≤ 60 then 100 * a + s else -1
def placeOk (k w : Int) : Bool := decide (0 ≤ k ∧ k ≤ 4) && decide (0 ≤ w ∧ w ≤ 20)
def It.ok (x : It) : Bool := decide (1 ≤ x.seq ∧ x.seq ≤ 60) && decide (0 ≤ x.cls ∧ x.cls ≤ 1) && placeOk x.key x.window && x.sk.ok
def En.ok (x : En) : Bool := placeOk x.key x.window && decide (0 < x.ids.length) && x.ids.ok && x.sk.ok
def En.zero : En := ⟨0, 0, [], Sk.zero⟩
theorem rdEn_zero (W : World) : RdEn W (.agg #[.int .i64 0, .int .i64 0, .slice none 0 0, .int .i64 0, .int .i64 0, .int .i64 0, .int .i64 0, .slice none 0 0, .slice none 0 0, .slice none 0 0]) En.zero [] [] :=
  ⟨none, 0, 0, none, 0, 0, none, 0, 0, none, 0, 0, rfl, RdP.nil, ⟨none, 0, 0, none, 0, 0, none, 0, 0, [], [], [], rfl, ⟨rfl, .inl ⟨rfl, rfl⟩⟩, ⟨rfl, .inl ⟨rfl, rfl⟩⟩, ⟨rfl, .inl ⟨rfl, rfl⟩⟩, rfl⟩, fun _ => rfl, Nat.le_refl _⟩
theorem infoEnA : (Try.prog.info? 34).map (·.size) = some 10 := by kernel_rfl
theorem En.ok_sk {x : En} (h : x.ok = true) : x.sk.ok = true := by
  unfold En.ok at h
  simp only [Bool.and_eq_true] at h
  exact h.2
set_option maxRecDepth 200000 in
theorem l6Agent_any (n : Int) (w : World) : Calls Try.prog 67 #[.int .i64 n] w fun e w' => e = .returned (.bool (decide (0 ≤ n ∧ n ≤ 2))) ∧ w' = w := by
  go_enter Try.func67, Try.ntmps67
  go_wp2_with fail
  refine (l1In_any _ _ _ _).mono ?_
  rintro e w2 ⟨rfl, hw2⟩
  have hw2' := hw2.symm
  subst hw2'
  clear hw2
  obtain ⟨d, hd⟩ : ∃ d, d = decide (0 ≤ n ∧ n ≤ 2) := ⟨_, rfl⟩
  rw [← hd]
  have HD : Hid (d = decide (0 ≤ n ∧ n ≤ 2)) := hd
  clear hd
  go_wp2
  go_ret
  exact ⟨ret_bool HD.out, rfl⟩
set_option maxRecDepth 200000 in
theorem idSpec_any (a s : Int) (w : World) : Calls Try.prog 43 #[.int .i64 a, .int .i64 s] w fun e w' => e = .returned (.int .i64 (idOf a s)) ∧ w' = w := by
  go_enter Try.func43, Try.ntmps43
  go_wp2_with fail
  refine (l6Agent_any _ _).mono ?_
  rintro e w2 ⟨rfl, hw2⟩
  have hw2' := hw2.symm
  subst hw2'
  clear hw2
  by_cases h1 : 0 ≤ a ∧ a ≤ 2
  rotate_left
  · rw [decF h1]
    have HV : Hid (idOf a s = -1) := by show _ = _; unfold idOf; rw [if_neg (fun e => h1 e.1)]
    clear h1
    go_wp2
    go_ret
    rw [HV.out]
    exact ⟨rfl, rfl⟩
  rw [decT h1]
  go_wp2_with fail
  refine (l1In_any _ _ _ _).mono ?_
  rintro e w2 ⟨rfl, hw2⟩
  have hw2' := hw2.symm
  subst hw2'
  clear hw2
  by_cases h2 : 1 ≤ s ∧ s ≤ 60
  rotate_left
  · rw [decF h2]
    have HV : Hid (idOf a s = -1) := by show _ = _; unfold idOf; rw [if_neg (fun e => h2 e.2)]
    clear h1 h2
    go_wp2
    go_ret
    rw [HV.out]
    exact ⟨rfl, rfl⟩
  rw [decT h2]
  have HV : Hid (idOf a s = 100 * a + s) := by show _ = _; unfold idOf; rw [if_pos ⟨h1, h2⟩]
  obtain ⟨a0, a1⟩ := h1
  obtain ⟨s0, s1⟩ := h2
  go_wp2
  go_ret
  rw [HV.out]
  exact ⟨rfl, rfl⟩
set_option maxRecDepth 200000 in
theorem l6Place_any (k p : Int) (w : World) : Calls Try.prog 35 #[.int .i64 k, .int .i64 p] w fun e w' => e = .returned (.bool (placeOk k p)) ∧ w' = w := by
  go_enter Try.func35, Try.ntmps35
  go_wp2_with fail
  refine (l1In_any _ _ _ _).mono ?_
  rintro e w2 ⟨rfl, hw2⟩
  have hw2' := hw2.symm
  subst hw2'
  clear hw2
  obtain ⟨d1, hd1⟩ : ∃ d, d = decide (0 ≤ k ∧ k ≤ 4) := ⟨_, rfl⟩
  rw [← hd1]
  have HD1 : Hid (d1 = decide (0 ≤ k ∧ k ≤ 4)) := hd1
  clear hd1
  cases d1
  · have HV : Hid (placeOk k p = false) := by show _ = _; unfold placeOk; rw [← HD1.out]; rfl
    go_wp2
    go_ret
    exact ⟨ret_bool HV.out.symm, rfl⟩
  go_wp2_with fail
  refine (l1In_any _ _ _ _).mono ?_
  rintro e w2 ⟨rfl, hw2⟩
  have hw2' := hw2.symm
  subst hw2'
  clear hw2
  obtain ⟨d2, hd2⟩ : ∃ d, d = decide (0 ≤ p ∧ p ≤ 20) := ⟨_, rfl⟩
  rw [← hd2]
  have HV : Hid (d2 = placeOk k p) := by show _ = _; unfold placeOk; rw [← HD1.out, ← hd2]; rfl
  clear hd2
  go_wp2
  go_ret
  exact ⟨ret_bool HV.out, rfl⟩
set_option maxRecDepth 200000 in
set_option maxHeartbeats 2000000 in
theorem itemOkSpec_any (v : Value) (x : It) (F : List Nat) (w : World) (h : RdIt w v x F) (hw : x.sk.wide) :
    Calls Try.prog 44 #[v] w fun e w' => e = .returned (.bool x.ok) ∧ Below w.heap.size w w' := by
  obtain ⟨a1, n1, c1, a2, n2, c2, a3, n3, c3, rfl, hr⟩ := h
  have HR : Hid (RdSk w (.agg #[.int .i64 x.sk.count, .int .i64 x.sk.sum, .int .i64 x.sk.min, .int .i64 x.sk.max, .slice a1 n1 c1, .slice a2 n2 c2, .slice a3 n3 c3]) x.sk F ∧ x.sk.wide) := ⟨hr, hw⟩
  have HB : Hid (Below w.heap.size w (w.alloc (.cells #[.int .i64 x.seq, .int .i64 x.cls, .int .i64 x.key, .int .i64 x.window, .int .i64 x.sk.count, .int .i64 x.sk.sum, .int .i64 x.sk.min, .int .i64 x.sk.max, .slice a1 n1 c1, .slice a2 n2 c2, .slice a3 n3 c3] 44)) ∧ Blk (w.alloc (.cells #[.int .i64 x.seq, .int .i64 x.cls, .int .i64 x.key, .int .i64 x.window, .int .i64 x.sk.count, .int .i64 x.sk.sum, .int .i64 x.sk.min, .int .i64 x.sk.max, .slice a1 n1 c1, .slice a2 n2 c2, .slice a3 n3 c3] 44)) w.heap.size #[.int .i64 x.seq, .int .i64 x.cls, .int .i64 x.key, .int .i64 x.window, .int .i64 x.sk.count, .int .i64 x.sk.sum, .int .i64 x.sk.min, .int .i64 x.sk.max, .slice a1 n1 c1, .slice a2 n2 c2, .slice a3 n3 c3] 44) := ⟨Below.allocW _ (Below.refl _ _) (Nat.le_refl _), Blk.made _ _ _⟩
  clear hr hw
  go_enter Try.func44, Try.ntmps44
  go_wp2_with fail
  refine (l1In_any _ _ _ _).mono ?_
  rintro e w2 ⟨rfl, hw2⟩
  have hw2' := hw2.symm
  subst hw2'
  clear hw2
  obtain ⟨d1, hd1⟩ : ∃ d, d = decide (1 ≤ x.seq ∧ x.seq ≤ 60) := ⟨_, rfl⟩
  rw [← hd1]
  have HD1 : Hid (d1 = decide (1 ≤ x.seq ∧ x.seq ≤ 60)) := hd1
  clear hd1
  cases d1
  · have HV : Hid (x.ok = false) := by show _ = _; unfold It.ok; rw [← HD1.out]; rfl
    go_wp2
    go_ret
    exact ⟨ret_bool HV.out.symm, HB.out.1⟩
  go_wp2_with fail
  refine (l1In_any _ _ _ _).mono ?_
  rintro e w2 ⟨rfl, hw2⟩
  have hw2' := hw2.symm
  subst hw2'
  clear hw2
  obtain ⟨d2, hd2⟩ : ∃ d, d = decide (0 ≤ x.cls ∧ x.cls ≤ 1) := ⟨_, rfl⟩
  rw [← hd2]
  have HD2 : Hid (d2 = decide (0 ≤ x.cls ∧ x.cls ≤ 1)) := hd2
  clear hd2
  cases d2
  · have HV : Hid (x.ok = false) := by show _ = _; unfold It.ok; rw [← HD1.out, ← HD2.out]; rfl
    go_wp2
    go_ret
    exact ⟨ret_bool HV.out.symm, HB.out.1⟩
  go_wp2_with fail
  refine (l6Place_any _ _ _).mono ?_
  rintro e w2 ⟨rfl, hw2⟩
  have hw2' := hw2.symm
  subst hw2'
  clear hw2
  obtain ⟨d3, hd3⟩ : ∃ d, d = placeOk x.key x.window := ⟨_, rfl⟩
  rw [← hd3]
  have HD3 : Hid (d3 = placeOk x.key x.window) := hd3
  clear hd3
  cases d3
  · have HV : Hid (x.ok = false) := by show _ = _; unfold It.ok; rw [← HD1.out, ← HD2.out, ← HD3.out]; rfl
    go_wp2
    go_ret
    exact ⟨ret_bool HV.out.symm, HB.out.1⟩
  go_wp2_with (first | go_skip | (with_reducible refine stopLoad 32 rfl ?_))
  refine load_cutw 32 w.heap.size 4 7 _ #[.int .i64 x.sk.count, .int .i64 x.sk.sum, .int .i64 x.sk.min, .int .i64 x.sk.max, .slice a1 n1 c1, .slice a2 n2 c2, .slice a3 n3 c3] 44 _ HB.out.2 rfl rfl rfl Try.underlying32 rfl infoSkI (by simp) rfl ?_
  go_wp2_with fail
  refine (okSpec_any _ x.sk F _ (HR.out.1.below HB.out.1) HR.out.2).mono ?_
  rintro e w2 ⟨rfl, hb2⟩
  have HB2 : Hid (Below w.heap.size w w2) := Below.next HB.out.1 hb2
  have HV : Hid (x.ok = x.sk.ok) := by show _ = _; unfold It.ok; rw [← HD1.out, ← HD2.out, ← HD3.out]; rfl
  clear hb2
  obtain ⟨d4, hd4⟩ : ∃ d, d = x.sk.ok := ⟨_, rfl⟩
  rw [← hd4] at HV ⊢
  clear hd4
  go_wp2
  go_ret
  exact ⟨ret_bool HV.out.symm, HB2.out⟩
set_option maxRecDepth 200000 in
set_option maxHeartbeats 2000000 in
theorem entryOkSpec_any (v : Value) (x : En) (F G : List Nat) (w : World) (h : RdEn w v x F G) (hw : x.sk.wide) (hl : x.ids.length ≤ 140737488355328) :
    Calls Try.prog 10 #[v] w fun e w' => e = .returned (.bool x.ok) ∧ Below w.heap.size w w' := by
  obtain ⟨b, l, c, a1, n1, c1, a2, n2, c2, a3, n3, c3, rfl, hp, hr, _⟩ := h
  have HR : Hid (RdSk w (.agg #[.int .i64 x.sk.count, .int .i64 x.sk.sum, .int .i64 x.sk.min, .int .i64 x.sk.max, .slice a1 n1 c1, .slice a2 n2 c2, .slice a3 n3 c3]) x.sk G ∧ x.sk.wide) := ⟨hr, hw⟩
  have HP : Hid (RdP w b l x.ids F ∧ l ≤ 140737488355328 ∧ x.ids.length = l) := ⟨hp, by rw [← hp.length]; exact hl, hp.length⟩
  have HB : Hid (Below w.heap.size w (w.alloc (.cells #[.int .i64 x.key, .int .i64 x.window, .slice b l c, .int .i64 x.sk.count, .int .i64 x.sk.sum, .int .i64 x.sk.min, .int .i64 x.sk.max, .slice a1 n1 c1, .slice a2 n2 c2, .slice a3 n3 c3] 34)) ∧ Blk (w.alloc (.cells #[.int .i64 x.key, .int .i64 x.window, .slice b l c, .int .i64 x.sk.count, .int .i64 x.sk.sum, .int .i64 x.sk.min, .int .i64 x.sk.max, .slice a1 n1 c1, .slice a2 n2 c2, .slice a3 n3 c3] 34)) w.heap.size #[.int .i64 x.key, .int .i64 x.window, .slice b l c, .int .i64 x.sk.count, .int .i64 x.sk.sum, .int .i64 x.sk.min, .int .i64 x.sk.max, .slice a1 n1 c1, .slice a2 n2 c2, .slice a3 n3 c3] 34) := ⟨Below.allocW _ (Below.refl _ _) (Nat.le_refl _), Blk.made _ _ _⟩
  clear hr hw hp hl
  go_enter Try.func10, Try.ntmps10
  go_wp2_with fail
  refine (l6Place_any _ _ _).mono ?_
  rintro e w2 ⟨rfl, hw2⟩
  have hw2' := hw2.symm
  subst hw2'
  clear hw2
  obtain ⟨d1, hd1⟩ : ∃ d, d = placeOk x.key x.window := ⟨_, rfl⟩
  rw [← hd1]
  have HD1 : Hid (d1 = placeOk x.key x.window) := hd1
  clear hd1
  cases d1
  · have HV : Hid (x.ok = false) := by show _ = _; unfold En.ok; rw [← HD1.out]; rfl
    go_wp2
    go_ret
    exact ⟨ret_bool HV.out.symm, HB.out.1⟩
  by_cases h0 : l = 0
  · subst h0
    have HV : Hid (x.ok = false) := by show _ = _; unfold En.ok; rw [← HD1.out, HP.out.2.2]; rfl
    go_wp2
    go_ret
    exact ⟨ret_bool HV.out.symm, HB.out.1⟩
  have g1 : decide ((0 : Int) < (l : Int)) = true := decT (by omega)
  have g2 : decide (0 < l) = true := decT (by omega)
  have g3 : 0 < l := by omega
  clear h0
  go_wp2_with fail
  refine (setOkSpec_any b l c x.ids F _ (HP.out.1.below HB.out.1) HP.out.2.1).mono ?_
  rintro e w2 ⟨rfl, hq⟩
  have HB2 : Hid (Below w.heap.size w w2 ∧ Blk w2 w.heap.size #[.int .i64 x.key, .int .i64 x.window, .slice b l c, .int .i64 x.sk.count, .int .i64 x.sk.sum, .int .i64 x.sk.min, .int .i64 x.sk.max, .slice a1 n1 c1, .slice a2 n2 c2, .slice a3 n3 c3] 34) := ⟨Below.next HB.out.1 (quiet_below hq), HB.out.2.below (quiet_below hq)⟩
  obtain ⟨d2, hd2⟩ : ∃ d, d = x.ids.ok := ⟨_, rfl⟩
  rw [← hd2]
  have HD2 : Hid (d2 = x.ids.ok) := hd2
  clear hd2 hq HB
  cases d2
  · have HV : Hid (x.ok = false) := by show _ = _; unfold En.ok; rw [← HD2.out]; simp
    go_wp2
    go_ret
    exact ⟨ret_bool HV.out.symm, HB2.out.1⟩
  go_wp2_with (first | go_skip | (with_reducible refine stopLoad 32 rfl ?_))
  refine load_cutw 32 w.heap.size 3 7 _ #[.int .i64 x.sk.count, .int .i64 x.sk.sum, .int .i64 x.sk.min, .int .i64 x.sk.max, .slice a1 n1 c1, .slice a2 n2 c2, .slice a3 n3 c3] 34 _ HB2.out.2 rfl rfl rfl Try.underlying32 rfl infoSkI (by simp) rfl ?_
  go_wp2_with fail
  refine (okSpec_any _ x.sk G _ (HR.out.1.below HB2.out.1) HR.out.2).mono ?_
  rintro e w3 ⟨rfl, hb3⟩
  have HB3 : Hid (Below w.heap.size w w3) := Below.next HB2.out.1 hb3
  have HV : Hid (x.ok = x.sk.ok) := by show _ = _; unfold En.ok; rw [← HD1.out, ← HD2.out, HP.out.2.2, g2]; rfl
  clear hb3
  obtain ⟨d4, hd4⟩ : ∃ d, d = x.sk.ok := ⟨_, rfl⟩
  rw [← hd4] at HV ⊢
  clear hd4
  go_wp2
  go_ret
  exact ⟨ret_bool HV.out.symm, HB3.out⟩
end Go.Proofs.Ytbmbmnhamogghap
/- What the laws over items and entries share. No statement of the seat is proved here. -/
namespace Go.Proofs.Ytbmbmnhamogghap
open Go.RowKit Go.WideShapes Go.ChangeShapes Go.ChangeAt
theorem RdIt.cells {w : World} {v : Value} {x : It} {F : List Nat} (h : RdIt w v x F) : ∃ cs : Array Value, v = .agg cs ∧ cs.size = 11 ∧ cs.all (·.oneCell') = true := by
  obtain ⟨a1, n1, c1, a2, n2, c2, a3, n3, c3, rfl, _⟩ := h
  exact ⟨_, rfl, rfl, by simp [Value.oneCell']⟩
/-- An entry's value that can be read; F: its blocks. -/
def RdE (w : World) (v : Value) (x : En) (F : List Nat) : Prop := ∃ F1 F2, F = F1 ++ F2 ∧ RdEn w v x F1 F2
theorem RdE.agree {w w' : World} {v : Value} {x : En} {F : List Nat} (h : RdE w v x F) (ha : Agree w w' F) : RdE w' v x F := by
  obtain ⟨F1, F2, rfl, h⟩ := h
  exact ⟨F1, F2, rfl, h.agree (fun b hb => ha b (List.mem_append_left _ hb)) (fun b hb => ha b (List.mem_append_right _ hb))⟩
theorem RdE.lt {w : World} {v : Value} {x : En} {F : List Nat} (h : RdE w v x F) : ∀ b ∈ F, b < w.heap.size := by
  obtain ⟨F1, F2, rfl, h⟩ := h
  exact fun b hb => (List.mem_append.1 hb).elim (h.lt1 b) (h.lt2 b)
theorem RdE.below {w w' : World} {v : Value} {x : En} {F : List Nat} (h : RdE w v x F) (hb : Below w.heap.size w w') : RdE w' v x F := h.agree (.below hb h.lt)
theorem RdE.cells {w : World} {v : Value} {x : En} {F : List Nat} (h : RdE w v x F) : ∃ cs : Array Value, v = .agg cs ∧ cs.size = 10 ∧ cs.all (·.oneCell') = true := by
  obtain ⟨F1, F2, rfl, b, l, c, a1, n1, c1, a2, n2, c2, a3, n3, c3, rfl, _⟩ := h
  exact ⟨_, rfl, rfl, by simp [Value.oneCell']⟩
def It.vast (x : It) : Prop := x.sk.vast
def It.fits (x : It) : Prop := x.sk.fits
def It.wide (x : It) : Prop := x.sk.wide
theorem It.fits.wide {x : It} (h : x.fits) : x.wide := Sk.fits.wide h
def En.vast (x : En) : Prop := x.sk.vast ∧ x.ids.length ≤ 9223372036854775807
def En.fits (x : En) : Prop := x.sk.fits ∧ x.ids.length ≤ 1048576
def En.wide (x : En) : Prop := x.sk.wide ∧ x.ids.length ≤ 1048576
theorem En.fits.wide {x : En} (h : x.fits) : x.wide := ⟨h.1.wide, h.2⟩
theorem It.fits_of {x : It} {r left : Int} (h : r = left - x.sk.size) (h0 : 0 ≤ r) (hl : left ≤ 1048576) : x.fits := Sk.fits_of (by omega)
theorem En.fits_of {x : En} {r left : Int} (h : r = left - x.ids.length - x.sk.size ∧ (x.ids.length : Int) ≤ left ∧ x.sk.size ≤ left) (_h0 : 0 ≤ r) (hl : left ≤ 1048576) : x.fits := ⟨Sk.fits_of (by omega), by omega⟩
theorem itSize {cs : Array Value} (h : cs.size = 11) : (Try.prog.info? 44).map (·.size) = some cs.size := by rw [h]; kernel_rfl
theorem litSize {cs : Array Value} (h : cs.size = 11) : (Try.prog.info? 39).map (·.size) = some cs.size := by rw [h]; kernel_rfl
def ItTwo (g : Nat) (cs : Array Value) (k : Nat) (ds : Array Value) (W : World) : Prop := Blk W g cs 39 ∧ Blk W k ds 44
theorem enSize {cs : Array Value} (h : cs.size = 10) : (Try.prog.info? 34).map (·.size) = some cs.size := by rw [h]; kernel_rfl
theorem lenSize {cs : Array Value} (h : cs.size = 10) : (Try.prog.info? 28).map (·.size) = some cs.size := by rw [h]; kernel_rfl
def EnTwo (g : Nat) (cs : Array Value) (k : Nat) (ds : Array Value) (W : World) : Prop := Blk W g cs 28 ∧ Blk W k ds 34
set_option maxRecDepth 200000 in
theorem toE_any (v : Value) (x : En) (F : List Nat) (w : World) (h : RdE w v x F) (hf : x.fits) :
    Calls Try.prog 11 #[v] w fun e w' => ∃ v' G, e = .returned v' ∧ RdE w' v' x G ∧ Own w.heap.size w' G ∧ Below w.heap.size w w' := by
  obtain ⟨F1, F2, rfl, h⟩ := h
  refine (toEntry_any v x F1 F2 w h hf.1 hf.2).mono ?_
  rintro e w' ⟨v', F', G', he, hr, ho, ho', hd, hb⟩
  exact ⟨v', F' ++ G', he, ⟨F', G', rfl, hr⟩, ho.app ho' hd, hb⟩
set_option maxRecDepth 100000 in
theorem open_E {H : Type} {enc : TypeId × Value → H} {W : World} {base : Nat} {v : Value} {d : DataW H} {p : List MemPlace} (hv : Value.okWide Try.prog W .any base 28 v) (h : DataW.Trod enc Try.prog W 0 (fun _ => true) true 28 v d p) :
    ∃ x F, RdE W v x F ∧ x.vast := by
  obtain ⟨x, F, G, h1, h2, h3⟩ := open_entry hv h
  exact ⟨x, F ++ G, ⟨F, G, rfl, h1⟩, h2, h3⟩
set_option maxRecDepth 200000 in
theorem szE_vast (v : Value) (x : En) (F : List Nat) (left : Int) (w : World) (h : RdE w v x F) (hw : x.vast) (hl0 : 0 ≤ left) (hl1 : left ≤ 1048576) :
    Calls Try.prog 9 #[v, .int .i64 left] w fun e w' => (∃ r, e = .returned (.int .i64 r) ∧ r ≤ left ∧ (0 ≤ r → r = left - x.ids.length - x.sk.size ∧ (x.ids.length : Int) ≤ left ∧ x.sk.size ≤ left) ∧ (r < 0 → left < x.ids.length + x.sk.size)) ∧ Below w.heap.size w w' := by
  obtain ⟨F1, F2, rfl, h⟩ := h
  exact szEntry_vast v x F1 F2 left w h hw.1 hw.2 hl0 hl1
set_option maxRecDepth 200000 in
theorem eqE_any (v u : Value) (x y : En) (F G : List Nat) (w : World) (h : RdE w v x F) (k : RdE w u y G) (hw : x.wide) (kw : y.wide) :
    Calls Try.prog 13 #[v, u] w fun e w' => e = .returned (.bool (decide (x = y))) ∧ Below w.heap.size w w' := by
  obtain ⟨F1, F2, rfl, h⟩ := h
  obtain ⟨G1, G2, rfl, k⟩ := k
  exact eqEntry_any v u x y F1 F2 G1 G2 w h k hw.1 kw.1 (by have := hw.2; omega) (by have := kw.2; omega)
set_option maxRecDepth 200000 in
theorem entryOkE_any (v : Value) (x : En) (F : List Nat) (w : World) (h : RdE w v x F) (hw : x.wide) :
    Calls Try.prog 10 #[v] w fun e w' => e = .returned (.bool x.ok) ∧ Below w.heap.size w w' := by
  obtain ⟨F1, F2, rfl, h⟩ := h
  exact entryOkSpec_any v x F1 F2 w h hw.1 (by have := hw.2; omega)
end Go.Proofs.Ytbmbmnhamogghap
