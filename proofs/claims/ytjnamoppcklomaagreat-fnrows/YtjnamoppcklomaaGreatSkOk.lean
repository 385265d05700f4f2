/- When a summary is right; the walk through the model's SketchOk. No statement of the seat is proved here. -/
import Derived.Test.YtjnamoppcklomaaGreatSk
import Derived.Test.YtjnamoppcklomaaGreatStop
set_option maxRecDepth 200000
set_option maxHeartbeats 16000000
namespace Go.Proofs.YtjnamoppcklomaaGreat
open Go.RowKit
def okN (most : Int) (z : Bool) (x : Int) : Bool := decide (0 ≤ x ∧ x ≤ most) && (!z || decide (x = 0))
def okL (l : List Int) (many : Nat) (most : Int) (z : Bool) : Bool := decide (l.length = many) && l.all (okN most z)
def okHead (s : Sk) : Bool := decide (0 ≤ s.count ∧ s.count ≤ 1000000000) && decide (0 ≤ s.sum ∧ s.sum ≤ 1000000000) && decide (0 ≤ s.min ∧ s.min ≤ 1000000) && decide (0 ≤ s.max ∧ s.max ≤ 1000000) && decide (s.min ≤ s.max) && decide (s.rows.length = 2)
def okZero (s : Sk) : Bool := !decide (s.count = 0) || (decide (s.sum = 0) && decide (s.max = 0))
def okLists (s : Sk) : Bool := okL s.hist 8 1000000000 (decide (s.count = 0)) && okL s.regs 8 17 (decide (s.count = 0)) && okL (s.rows.getD 0 []) 4 1000000000 (decide (s.count = 0)) && okL (s.rows.getD 1 []) 4 1000000000 (decide (s.count = 0))
def Sk.ok (s : Sk) : Bool := okHead s && okZero s && okLists s
theorem all_snoc {p : Int → Bool} {l : List Int} {k : Nat} (hk : k < l.length) (h : (l.take k).all p = true) (hx : p (l[k]?.getD 0) = true) : (l.take (k + 1)).all p = true := by
 rw [take_succ' l k hk, List.all_append, h]; simpa using hx
theorem all_not {p : Int → Bool} {l : List Int} {k : Nat} (hk : k < l.length) (hx : p (l[k]?.getD 0) = false) : l.all p = false := by
 rw [← Bool.not_eq_true, List.all_eq_true]
 intro h
 have := h _ (List.getElem_mem hk)
 rw [List.getElem?_eq_getElem hk] at hx
 simp at hx
 rw [hx] at this; cases this
theorem l3List_any (a : Option Addr) (len cap : Nat) (zs : List Int) (F : List Nat) (many : Nat) (most : Int) (z : Bool) (w : World) (h : RdI w a len zs F) (hlen : len ≤ 140737488355328) (hmany : (many : Int) ≤ 1000) :
 Calls Tryz.prog 108 #[.slice a len cap, .int .i64 many, .int .i64 most, .bool z] w fun e w' => e = .returned (.bool (okL zs many most z)) ∧ w' = w := by
 obtain ⟨d, hd⟩ : ∃ d, d = okL zs many most z := ⟨_, rfl⟩
 rw [← hd]
 have HL : Hid (zs.length = len) := h.length
 by_cases hl : len = many
 ·
  subst hl
  have HD : Hid (d = zs.all (okN most z)) := by show d = _; rw [hd, okL, HL.out]; simp
  have hbne : ((len : Int) != (len : Int)) = false := by simp
  clear hd
  rcases h.cells with ⟨h0, _⟩ | ⟨b, off, hp, rfl, _, hc⟩
  ·
   subst h0
   have hz : zs = [] := List.eq_nil_of_length_eq_zero h.length
   subst hz
   clear h
   go_enter Tryz.func108, Tryz.ntmps108
   go_wp2
   refine wp_loop_rounds 1 ?_
   rw [rounds_succ]
   go_wp2
   go_ret
   exact ⟨ret_bool (by rw [HD.out]; rfl), rfl⟩
  ·
   have HC : Hid (∀ i, i < len → w.cell? ⟨b, off + i, none⟩ = some (.int .i64 (zs.getD i 0))) := hc
   clear h hc
   go_enter Tryz.func108, Tryz.ntmps108
   go_wp2
   go_loop [9] (fun i => ∃ k : Nat, k ≤ len ∧ i = .int .i64 k ∧ Hid ((zs.take k).all (okN most z) = true)) (fun i => len - (intOf i).toNat)
   case atStart => exact ⟨0, by omega, rfl, show _ = true by simp⟩
   case round =>
    obtain ⟨k, hk, rfl, HA⟩ := hrel
    by_cases hlt : k < len
    ·
     have hck := HC.out k hlt
     obtain ⟨x, hx⟩ : ∃ x, x = zs[k]?.getD 0 := ⟨_, rfl⟩
     have hck2 : w.cell? ⟨b, off + k, none⟩ = some (.int .i64 x) := by rw [hx, hck]; simp
     have HX : Hid (x = zs[k]?.getD 0) := hx
     clear hck hx
     by_cases hin : 0 ≤ x ∧ x ≤ most
     ·
      by_cases hzz : z = true ∧ ¬ x = 0
      ·
       obtain ⟨rfl, hx0⟩ := hzz
       have hxb : (x != 0) = true := by simpa using hx0
       have HN : Hid (zs.all (okN most true) = false) := all_not (by rw [HL.out]; exact hlt) (by rw [← HX.out]; simp [okN, hx0])
       have hdec : decide (0 ≤ x ∧ x ≤ most) = true := by simpa using hin
       clear hin hx0
       go_wp2_with fail
       refine (l1In_any _ _ _ _).mono ?_
       rintro e w1 ⟨rfl, hw1⟩
       have hw1' := hw1.symm
       subst hw1'
       rw [hdec]
       clear hw1 hdec
       go_wp2
       go_ret
       exact ⟨ret_bool (by rw [HD.out, HN.out]), rfl⟩
      ·
       have HA2 : Hid ((zs.take (k + 1)).all (okN most z) = true) := all_snoc (by rw [HL.out]; exact hlt) HA.out (by
         rw [← HX.out]; unfold okN; rw [dec_true hin]; cases z <;> simp_all)
       have hdec : decide (0 ≤ x ∧ x ≤ most) = true := by simpa using hin
       clear hin
       go_wp2_with fail
       refine (l1In_any _ _ _ _).mono ?_
       rintro e w1 ⟨rfl, hw1⟩
       have hw1' := hw1.symm
       subst hw1'
       rw [hdec]
       clear hw1 hdec
       cases z with
       | false =>
        clear hzz
        go_wp2
        go_round
        case rel => exact ⟨k + 1, by omega, by go_num, HA2⟩
        case measure => simp [intOf]; omega
       | true =>
        obtain rfl : x = 0 := by simpa using hzz
        clear hzz
        go_wp2
        go_round
        case rel => exact ⟨k + 1, by omega, by go_num, HA2⟩
        case measure => simp [intOf]; omega
     ·
      have HN : Hid (zs.all (okN most z) = false) := all_not (by rw [HL.out]; exact hlt) (by rw [← HX.out]; unfold okN; rw [dec_false hin]; rfl)
      have hdec : decide (0 ≤ x ∧ x ≤ most) = false := by simpa using hin
      clear hin
      go_wp2_with fail
      refine (l1In_any _ _ _ _).mono ?_
      rintro e w1 ⟨rfl, hw1⟩
      have hw1' := hw1.symm
      subst hw1'
      rw [hdec]
      clear hw1 hdec
      go_wp2
      go_ret
      exact ⟨ret_bool (by rw [HD.out, HN.out]), rfl⟩
    ·
     obtain rfl : k = len := by omega
     have HF : Hid (zs.all (okN most z) = true) := by have := HA.out; rw [List.take_of_length_le (Nat.le_of_eq HL.out)] at this; exact this
     go_wp2
     go_ret
     exact ⟨ret_bool (by rw [HD.out, HF.out]), rfl⟩
 ·
  have hbne : ((len : Int) != (many : Int)) = true := by simp; omega
  have HD : Hid (d = false) := by show d = _; rw [hd, okL, HL.out, dec_false hl]; rfl
  clear hd h
  go_enter Tryz.func108, Tryz.ntmps108
  go_wp2
  go_ret
  exact ⟨ret_bool HD.out.symm, rfl⟩
theorem okSpec_any (v : Value) (s : Sk) (F : List Nat) (w : World) (h : RdSk w v s F) (hw : s.wide) :
 Calls Tryz.prog 72 #[v] w fun e w' => e = .returned (.bool s.ok) ∧ Below w.heap.size w w' := by
 obtain ⟨a1, n1, c1, a2, n2, c2, a3, n3, c3, F1, F2, F3, rfl, h1, h2, h3, _⟩ := h
 have hn1 : n1 ≤ 140737488355328 := by rw [← h1.length]; exact hw.hist
 have hn2 : n2 ≤ 140737488355328 := by rw [← h2.length]; exact hw.regs
 have hn3 : n3 ≤ 140737488355328 := by rw [← h3.length]; exact hw.rows
 have HW : Hid s.wide := hw
 have bw : Below w.heap.size w (w.alloc (.cells #[.int .i64 s.count, .int .i64 s.sum, .int .i64 s.min, .int .i64 s.max, .slice a1 n1 c1, .slice a2 n2 c2, .slice a3 n3 c3] 31)) := (Below.refl w.heap.size w).alloc (Nat.le_refl _) _
 have HR : Hid (RdI (w.alloc (.cells #[.int .i64 s.count, .int .i64 s.sum, .int .i64 s.min, .int .i64 s.max, .slice a1 n1 c1, .slice a2 n2 c2, .slice a3 n3 c3] 31)) a1 n1 s.hist F1 ∧ RdI (w.alloc (.cells #[.int .i64 s.count, .int .i64 s.sum, .int .i64 s.min, .int .i64 s.max, .slice a1 n1 c1, .slice a2 n2 c2, .slice a3 n3 c3] 31)) a2 n2 s.regs F2 ∧ RdII (w.alloc (.cells #[.int .i64 s.count, .int .i64 s.sum, .int .i64 s.min, .int .i64 s.max, .slice a1 n1 c1, .slice a2 n2 c2, .slice a3 n3 c3] 31)) a3 n3 s.rows F3 ∧ Below w.heap.size w (w.alloc (.cells #[.int .i64 s.count, .int .i64 s.sum, .int .i64 s.min, .int .i64 s.max, .slice a1 n1 c1, .slice a2 n2 c2, .slice a3 n3 c3] 31))) := ⟨h1.below bw, h2.below bw, h3.below bw, bw⟩
 have HL3 : Hid (s.rows.length = n3) := h3.length
 obtain ⟨d, hd⟩ : ∃ d, d = s.ok := ⟨_, rfl⟩
 rw [← hd]
 have HD : Hid (d = s.ok) := hd
 clear h1 h2 h3 hw bw hd
 go_enter Tryz.func72, Tryz.ntmps72
 go_wp2_with fail
 refine (l1In_any _ _ _ _).mono ?_
 rintro e w1 ⟨rfl, rfl⟩
 by_cases p0 : 0 ≤ s.count ∧ s.count ≤ 1000000000
 rotate_left
 ·
  rw [dec_false p0]
  have HP : Hid (decide (0 ≤ s.count ∧ s.count ≤ 1000000000) = false) := dec_false p0
  clear p0
  go_wp2
  go_ret
  exact ⟨ret_bool (by rw [HD.out]; unfold Sk.ok okHead; rw [HP.out]; simp), HR.out.2.2.2⟩
 rw [dec_true p0]
 have P0 : Hid (0 ≤ s.count ∧ s.count ≤ 1000000000) := p0
 clear p0
 go_wp2_with fail
 refine (l1In_any _ _ _ _).mono ?_
 rintro e w1 ⟨rfl, rfl⟩
 by_cases p1 : 0 ≤ s.sum ∧ s.sum ≤ 1000000000
 rotate_left
 ·
  rw [dec_false p1]
  have HP : Hid (decide (0 ≤ s.sum ∧ s.sum ≤ 1000000000) = false) := dec_false p1
  clear p1
  go_wp2
  go_ret
  exact ⟨ret_bool (by rw [HD.out]; unfold Sk.ok okHead; rw [HP.out]; simp), HR.out.2.2.2⟩
 rw [dec_true p1]
 have P1 : Hid (0 ≤ s.sum ∧ s.sum ≤ 1000000000) := p1
 clear p1
 go_wp2_with fail
 refine (l1In_any _ _ _ _).mono ?_
 rintro e w1 ⟨rfl, rfl⟩
 by_cases p2 : 0 ≤ s.min ∧ s.min ≤ 1000000
 rotate_left
 ·
  rw [dec_false p2]
  have HP : Hid (decide (0 ≤ s.min ∧ s.min ≤ 1000000) = false) := dec_false p2
  clear p2
  go_wp2
  go_ret
  exact ⟨ret_bool (by rw [HD.out]; unfold Sk.ok okHead; rw [HP.out]; simp), HR.out.2.2.2⟩
 rw [dec_true p2]
 have P2 : Hid (0 ≤ s.min ∧ s.min ≤ 1000000) := p2
 clear p2
 go_wp2_with fail
 refine (l1In_any _ _ _ _).mono ?_
 rintro e w1 ⟨rfl, rfl⟩
 by_cases p3 : 0 ≤ s.max ∧ s.max ≤ 1000000
 rotate_left
 ·
  rw [dec_false p3]
  have HP : Hid (decide (0 ≤ s.max ∧ s.max ≤ 1000000) = false) := dec_false p3
  clear p3
  go_wp2
  go_ret
  exact ⟨ret_bool (by rw [HD.out]; unfold Sk.ok okHead; rw [HP.out]; simp), HR.out.2.2.2⟩
 rw [dec_true p3]
 have P3 : Hid (0 ≤ s.max ∧ s.max ≤ 1000000) := p3
 clear p3
 by_cases p4 : s.min ≤ s.max
 rotate_left
 ·
  have HP : Hid (decide (s.min ≤ s.max) = false) := dec_false p4
  have p4' : s.max < s.min := by omega
  clear p4
  go_wp2
  go_ret
  exact ⟨ret_bool (by rw [HD.out]; unfold Sk.ok okHead; rw [HP.out]; simp), HR.out.2.2.2⟩
 have P4 : Hid (s.min ≤ s.max) := p4
 by_cases p5 : n3 = 2
 rotate_left
 ·
  have HP : Hid (decide (s.rows.length = 2) = false) := dec_false (by rw [HL3.out]; exact p5)
  have p5' : ((n3 : Int) != 2) = true := by simp; omega
  clear p5
  go_wp2
  go_ret
  exact ⟨ret_bool (by rw [HD.out]; unfold Sk.ok okHead; rw [HP.out]; simp), HR.out.2.2.2⟩
 have P5 : Hid (s.rows.length = 2) := by show _ = 2; rw [HL3.out]; exact p5
 subst p5
 have p5' : (((2 : Nat) : Int) != 2) = false := by simp
 have HH : Hid (okHead s = true) := by show _ = true; unfold okHead; rw [dec_true P0.out, dec_true P1.out, dec_true P2.out, dec_true P3.out, dec_true P4.out, dec_true P5.out]; rfl
 obtain ⟨b3, o3, F3', ha3, hm3⟩ : ∃ b off F', a3 = some ⟨b, off, none⟩ ∧ RdM (w.alloc (.cells #[.int .i64 s.count, .int .i64 s.sum, .int .i64 s.min, .int .i64 s.max, .slice a1 n1 c1, .slice a2 n2 c2, .slice a3 2 c3] 31)) (s.rows.map ints) b off F' := by
  rcases HR.out.2.2.1.cells with ⟨h0, _⟩ | ⟨b, off, F', _, e, _, hm⟩
  ·
   omega
  ·
   exact ⟨b, off, F', e, hm⟩
 subst ha3
 obtain ⟨r0, m0, k0, G0, x0, row0, _⟩ := RdII.row hm3 P5.out 0 (by omega)
 obtain ⟨r1, m1, k1, G1, x1, row1, _⟩ := RdII.row hm3 P5.out 1 (by omega)
 simp only [Nat.add_zero] at x0
 have hm0 : m0 ≤ 140737488355328 := by rw [← row0.length]; exact HW.out.row _ (mem_getD (by rw [P5.out]; omega))
 have hm1 : m1 ≤ 140737488355328 := by rw [← row1.length]; exact HW.out.row _ (mem_getD (by rw [P5.out]; omega))
 have HRow : Hid (RdI (w.alloc (.cells #[.int .i64 s.count, .int .i64 s.sum, .int .i64 s.min, .int .i64 s.max, .slice a1 n1 c1, .slice a2 n2 c2, .slice (some ⟨b3, o3, none⟩) 2 c3] 31)) r0 m0 (s.rows.getD 0 []) G0 ∧ RdI (w.alloc (.cells #[.int .i64 s.count, .int .i64 s.sum, .int .i64 s.min, .int .i64 s.max, .slice a1 n1 c1, .slice a2 n2 c2, .slice (some ⟨b3, o3, none⟩) 2 c3] 31)) r1 m1 (s.rows.getD 1 []) G1) := ⟨row0, row1⟩
 clear hm3 row0 row1 P0 P1 P2 P3 P4 P5
 by_cases z : s.count = 0
 ·
  have zb : (s.count == 0) = true := by simpa using z
  have HZ : Hid (decide (s.count = 0) = true) := dec_true z
  clear z
  by_cases y : s.sum = 0
  rotate_left
  ·
   have yb : (s.sum != 0) = true := by simpa using y
   have HP : Hid (decide (s.sum = 0) = false) := dec_false y
   clear y
   go_wp2
   go_ret
   exact ⟨ret_bool (by rw [HD.out]; unfold Sk.ok okZero; rw [HZ.out, HP.out]; simp), HR.out.2.2.2⟩
  have ysum : (s.sum != 0) = false := by simpa using y
  have Ysum : Hid (s.sum = 0) := y
  clear y
  by_cases y : s.max = 0
  rotate_left
  ·
   have yb : (s.max != 0) = true := by simpa using y
   have HP : Hid (decide (s.max = 0) = false) := dec_false y
   clear y
   go_wp2
   go_ret
   exact ⟨ret_bool (by rw [HD.out]; unfold Sk.ok okZero; rw [HZ.out, HP.out]; simp), HR.out.2.2.2⟩
  have ymax : (s.max != 0) = false := by simpa using y
  have Ymax : Hid (s.max = 0) := y
  clear y
  have HO : Hid (okZero s = true) := by show _ = true; unfold okZero; rw [dec_true Ysum.out, dec_true Ymax.out]; simp
  go_wp2_with fail
  refine (l3List_any a1 n1 c1 s.hist F1 8 1000000000 true _ HR.out.1 hn1 (by omega)).mono ?_
  rintro e w1 ⟨rfl, rfl⟩
  cases l0 : okL s.hist 8 1000000000 true
  ·
   have HN : Hid (okL s.hist 8 1000000000 true = false) := l0
   clear l0
   go_wp2
   go_ret
   exact ⟨ret_bool (by rw [HD.out]; unfold Sk.ok okLists; rw [HZ.out, HN.out]; simp), HR.out.2.2.2⟩
  have L0 : Hid (okL s.hist 8 1000000000 true = true) := l0
  clear l0
  go_wp2_with fail
  refine (l3List_any a2 n2 c2 s.regs F2 8 17 true _ HR.out.2.1 hn2 (by omega)).mono ?_
  rintro e w1 ⟨rfl, rfl⟩
  cases l1 : okL s.regs 8 17 true
  ·
   have HN : Hid (okL s.regs 8 17 true = false) := l1
   clear l1
   go_wp2
   go_ret
   exact ⟨ret_bool (by rw [HD.out]; unfold Sk.ok okLists; rw [HZ.out, HN.out]; simp), HR.out.2.2.2⟩
  have L1 : Hid (okL s.regs 8 17 true = true) := l1
  clear l1
  go_wp2_with fail
  refine (l3List_any r0 m0 k0 (s.rows.getD 0 []) G0 4 1000000000 true _ HRow.out.1 hm0 (by omega)).mono ?_
  rintro e w1 ⟨rfl, rfl⟩
  cases l2 : okL (s.rows.getD 0 []) 4 1000000000 true
  ·
   have HN : Hid (okL (s.rows.getD 0 []) 4 1000000000 true = false) := l2
   clear l2
   go_wp2
   go_ret
   exact ⟨ret_bool (by rw [HD.out]; unfold Sk.ok okLists; rw [HZ.out, HN.out]; simp), HR.out.2.2.2⟩
  have L2 : Hid (okL (s.rows.getD 0 []) 4 1000000000 true = true) := l2
  clear l2
  go_wp2_with fail
  refine (l3List_any r1 m1 k1 (s.rows.getD 1 []) G1 4 1000000000 true _ HRow.out.2 hm1 (by omega)).mono ?_
  rintro e w1 ⟨rfl, rfl⟩
  cases l3 : okL (s.rows.getD 1 []) 4 1000000000 true
  ·
   have HN : Hid (okL (s.rows.getD 1 []) 4 1000000000 true = false) := l3
   clear l3
   go_wp2
   go_ret
   exact ⟨ret_bool (by rw [HD.out]; unfold Sk.ok okLists; rw [HZ.out, HN.out]; simp), HR.out.2.2.2⟩
  have L3 : Hid (okL (s.rows.getD 1 []) 4 1000000000 true = true) := l3
  clear l3
  go_wp2
  go_ret
  exact ⟨ret_bool (by rw [HD.out]; unfold Sk.ok okLists; rw [HZ.out, HH.out, HO.out, L0.out, L1.out, L2.out, L3.out]; rfl), HR.out.2.2.2⟩
 ·
  have zb : (s.count == 0) = false := by simpa using z
  have HZ : Hid (decide (s.count = 0) = false) := dec_false z
  have HO : Hid (okZero s = true) := by show _ = true; unfold okZero; rw [dec_false z]; rfl
  clear z
  go_wp2_with fail
  refine (l3List_any a1 n1 c1 s.hist F1 8 1000000000 false _ HR.out.1 hn1 (by omega)).mono ?_
  rintro e w1 ⟨rfl, rfl⟩
  cases l0 : okL s.hist 8 1000000000 false
  ·
   have HN : Hid (okL s.hist 8 1000000000 false = false) := l0
   clear l0
   go_wp2
   go_ret
   exact ⟨ret_bool (by rw [HD.out]; unfold Sk.ok okLists; rw [HZ.out, HN.out]; simp), HR.out.2.2.2⟩
  have L0 : Hid (okL s.hist 8 1000000000 false = true) := l0
  clear l0
  go_wp2_with fail
  refine (l3List_any a2 n2 c2 s.regs F2 8 17 false _ HR.out.2.1 hn2 (by omega)).mono ?_
  rintro e w1 ⟨rfl, rfl⟩
  cases l1 : okL s.regs 8 17 false
  ·
   have HN : Hid (okL s.regs 8 17 false = false) := l1
   clear l1
   go_wp2
   go_ret
   exact ⟨ret_bool (by rw [HD.out]; unfold Sk.ok okLists; rw [HZ.out, HN.out]; simp), HR.out.2.2.2⟩
  have L1 : Hid (okL s.regs 8 17 false = true) := l1
  clear l1
  go_wp2_with fail
  refine (l3List_any r0 m0 k0 (s.rows.getD 0 []) G0 4 1000000000 false _ HRow.out.1 hm0 (by omega)).mono ?_
  rintro e w1 ⟨rfl, rfl⟩
  cases l2 : okL (s.rows.getD 0 []) 4 1000000000 false
  ·
   have HN : Hid (okL (s.rows.getD 0 []) 4 1000000000 false = false) := l2
   clear l2
   go_wp2
   go_ret
   exact ⟨ret_bool (by rw [HD.out]; unfold Sk.ok okLists; rw [HZ.out, HN.out]; simp), HR.out.2.2.2⟩
  have L2 : Hid (okL (s.rows.getD 0 []) 4 1000000000 false = true) := l2
  clear l2
  go_wp2_with fail
  refine (l3List_any r1 m1 k1 (s.rows.getD 1 []) G1 4 1000000000 false _ HRow.out.2 hm1 (by omega)).mono ?_
  rintro e w1 ⟨rfl, rfl⟩
  cases l3 : okL (s.rows.getD 1 []) 4 1000000000 false
  ·
   have HN : Hid (okL (s.rows.getD 1 []) 4 1000000000 false = false) := l3
   clear l3
   go_wp2
   go_ret
   exact ⟨ret_bool (by rw [HD.out]; unfold Sk.ok okLists; rw [HZ.out, HN.out]; simp), HR.out.2.2.2⟩
  have L3 : Hid (okL (s.rows.getD 1 []) 4 1000000000 false = true) := l3
  clear l3
  go_wp2
  go_ret
  exact ⟨ret_bool (by rw [HD.out]; unfold Sk.ok okLists; rw [HZ.out, HH.out, HO.out, L0.out, L1.out, L2.out, L3.out]; rfl), HR.out.2.2.2⟩
end Go.Proofs.YtjnamoppcklomaaGreat
