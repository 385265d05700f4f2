/- The walks through the program's looks at numbers and lists of a summary. No statement of the seat is proved here. -/
import Derived.Test.YtjnamoppcklomaaGreatSkOk
set_option maxRecDepth 200000
set_option maxHeartbeats 16000000
namespace Go.Proofs.YtjnamoppcklomaaGreat
open Go.RowKit
theorem inRange_any (x hi : Int) (w : World) : Calls Tryz.prog 167 #[.int .i64 x, .int .i64 hi] w fun e w' => e = .returned (.bool (decide (0 ≤ x ∧ x ≤ hi))) ∧ w' = w := by
 have hd : ∀ d : Bool, d = decide (0 ≤ x ∧ x ≤ hi) → (d = true ↔ 0 ≤ x ∧ x ≤ hi) := by rintro d rfl; simp
 generalize decide (0 ≤ x ∧ x ≤ hi) = d at *
 have hd := hd d rfl
 by_cases h : 0 ≤ x
 ·
  by_cases h2 : x ≤ hi
  ·
   have e : Hid (d = true) := hd.2 ⟨h, h2⟩
   clear hd
   go_enter Tryz.func167, Tryz.ntmps167
   go_wp2
   go_ret
   rw [e.out]; exact ⟨rfl, rfl⟩
  ·
   have e : Hid (d = false) := show d = false by cases d; rfl; exact absurd (hd.1 rfl).2 h2
   clear hd
   go_enter Tryz.func167, Tryz.ntmps167
   go_wp2
   go_ret
   rw [e.out]; exact ⟨rfl, rfl⟩
 ·
  have e : Hid (d = false) := show d = false by cases d; rfl; exact absurd (hd.1 rfl).1 h
  clear hd
  go_enter Tryz.func167, Tryz.ntmps167
  go_wp2
  go_ret
  rw [e.out]; exact ⟨rfl, rfl⟩
theorem allInRange_any (a : Option Addr) (len cap : Nat) (zs : List Int) (F : List Nat) (most : Int) (w : World) (h : RdI w a len zs F) (hlen : len ≤ 140737488355328) :
 Calls Tryz.prog 170 #[.slice a len cap, .int .i64 most] w fun e w' => e = .returned (.bool (zs.all (okN most false))) ∧ w' = w := by
 obtain ⟨d, hd⟩ : ∃ d, d = zs.all (okN most false) := ⟨_, rfl⟩
 rw [← hd]
 have HL : Hid (zs.length = len) := h.length
 have HD : Hid (d = zs.all (okN most false)) := hd
 clear hd
 rcases h.cells with ⟨h0, _⟩ | ⟨b, off, hp, rfl, _, hc⟩
 ·
  subst h0
  have hz : zs = [] := List.eq_nil_of_length_eq_zero h.length
  subst hz
  clear h
  go_enter Tryz.func170, Tryz.ntmps170
  go_wp2
  refine wp_loop_rounds 1 ?_
  rw [rounds_succ]
  go_wp2
  go_ret
  exact ⟨ret_bool (by rw [HD.out]; rfl), rfl⟩
 ·
  have HC : Hid (∀ i, i < len → w.cell? ⟨b, off + i, none⟩ = some (.int .i64 (zs.getD i 0))) := hc
  clear h hc
  go_enter Tryz.func170, Tryz.ntmps170
  go_wp2
  go_loop [9] (fun i => ∃ k : Nat, k ≤ len ∧ i = .int .i64 k ∧ Hid ((zs.take k).all (okN most false) = true)) (fun i => len - (intOf i).toNat)
  case atStart => exact ⟨0, by omega, rfl, show _ = true by simp⟩
  case round =>
   obtain ⟨k, hk, rfl, HA⟩ := hrel
   by_cases hlt : k < len
   ·
    have hck := HC.out k hlt
    obtain ⟨x, hx⟩ : ∃ x, x = zs[k]?.getD 0 := ⟨_, rfl⟩
    have hck2 : w.cell? ⟨b, off + k, none⟩ = some (.int .i64 x) := by rw [hx, hck]; simp
    have HX : Hid (x = zs[k]?.getD 0) := hx
    clear hck hx
    by_cases hin : 0 ≤ x ∧ x ≤ most
    ·
     have HA2 : Hid ((zs.take (k + 1)).all (okN most false) = true) := all_snoc (by rw [HL.out]; exact hlt) HA.out (by
       rw [← HX.out]; unfold okN; rw [dec_true hin]; rfl)
     have hdec : decide (0 ≤ x ∧ x ≤ most) = true := by simpa using hin
     clear hin
     go_wp2_with fail
     refine (inRange_any _ _ _).mono ?_
     rintro e w1 ⟨rfl, hw1⟩
     have hw1' := hw1.symm
     subst hw1'
     rw [hdec]
     clear hw1 hdec
     go_wp2
     go_round
     case rel => exact ⟨k + 1, by omega, by go_num, HA2⟩
     case measure => simp [intOf]; omega
    ·
     have HN : Hid (zs.all (okN most false) = false) := all_not (by rw [HL.out]; exact hlt) (by rw [← HX.out]; unfold okN; rw [dec_false hin]; rfl)
     have hdec : decide (0 ≤ x ∧ x ≤ most) = false := by simpa using hin
     clear hin
     go_wp2_with fail
     refine (inRange_any _ _ _).mono ?_
     rintro e w1 ⟨rfl, hw1⟩
     have hw1' := hw1.symm
     subst hw1'
     rw [hdec]
     clear hw1 hdec
     go_wp2
     go_ret
     exact ⟨ret_bool (by rw [HD.out, HN.out]), rfl⟩
   ·
    obtain rfl : k = len := by omega
    have HF : Hid (zs.all (okN most false) = true) := by have := HA.out; rw [List.take_of_length_le (Nat.le_of_eq HL.out)] at this; exact this
    go_wp2
    go_ret
    exact ⟨ret_bool (by rw [HD.out, HF.out]), rfl⟩
def Sk.shaped (s : Sk) : Bool := s.rows.all (fun z => decide (z.length = 4)) && decide (s.hist.length = 8) && decide (s.regs.length = 8) && decide (s.rows.length = 2)
theorem allL_snoc {p : List Int → Bool} {l : List (List Int)} {k : Nat} (hk : k < l.length) (h : (l.take k).all p = true) (hx : p (l.getD k []) = true) : (l.take (k + 1)).all p = true := by
 rw [take_snoc l [] k hk, List.all_append, h]; simpa using hx
theorem allL_not {p : List Int → Bool} {l : List (List Int)} {k : Nat} (hk : k < l.length) (hx : p (l.getD k []) = false) : l.all p = false := by
 cases e : l.all p
 ·
  rfl
 ·
  rw [List.all_eq_true] at e
  rw [e _ (mem_getD hk)] at hx; cases hx
theorem isShaped_any (v : Value) (s : Sk) (F : List Nat) (w : World) (h : RdSk w v s F) (hw : s.wide) :
 Calls Tryz.prog 128 #[v] w fun e w' => e = .returned (.bool s.shaped) ∧ Below w.heap.size w w' := by
 obtain ⟨a1, n1, c1, a2, n2, c2, a3, n3, c3, F1, F2, F3, rfl, h1, h2, h3, _⟩ := h
 have hn1 : n1 ≤ 140737488355328 := by rw [← h1.length]; exact hw.hist
 have hn2 : n2 ≤ 140737488355328 := by rw [← h2.length]; exact hw.regs
 have hn3 : n3 ≤ 140737488355328 := by rw [← h3.length]; exact hw.rows
 have HW : Hid s.wide := hw
 have HB : Hid (Below w.heap.size w (w.alloc (.cells #[.int .i64 s.count, .int .i64 s.sum, .int .i64 s.min, .int .i64 s.max, .slice a1 n1 c1, .slice a2 n2 c2, .slice a3 n3 c3] 31))) := (Below.refl w.heap.size w).alloc (Nat.le_refl _) _
 have L1 : Hid (s.hist.length = n1) := h1.length
 have L2 : Hid (s.regs.length = n2) := h2.length
 have L3 : Hid (s.rows.length = n3) := h3.length
 obtain ⟨d, hd⟩ : ∃ d, d = s.shaped := ⟨_, rfl⟩
 rw [← hd]
 have HD : Hid (d = s.shaped) := hd
 clear h1 h2 hw hd
 have tailOk : Hid (s.rows.all (fun z => decide (z.length = 4)) = true → d = (decide (n1 = 8) && decide (n2 = 8) && decide (n3 = 2))) := fun e => by
  rw [HD.out]; unfold Sk.shaped; rw [e, L1.out, L2.out, L3.out]; rfl
 by_cases h0 : n3 = 0
 ·
  subst h0
  have hz : s.rows = [] := List.eq_nil_of_length_eq_zero L3.out
  have HF : Hid (d = false) := by show d = _; rw [tailOk.out (by rw [hz]; rfl)]; simp
  clear h3 hz tailOk
  go_enter Tryz.func128, Tryz.ntmps128
  go_wp2
  refine wp_loop_rounds 1 ?_
  rw [rounds_succ]
  by_cases q1 : n1 = 8
  ·
   subst q1
   by_cases q2 : n2 = 8
   ·
    subst q2
    go_wp2
    go_ret
    exact ⟨ret_bool HF.out.symm, HB.out⟩
   ·
    have q2' : ((n2 : Int) == 8) = false := by simp; omega
    clear q2
    go_wp2
    go_ret
    exact ⟨ret_bool HF.out.symm, HB.out⟩
  ·
   have q1' : ((n1 : Int) == 8) = false := by simp; omega
   clear q1
   go_wp2
   go_ret
   exact ⟨ret_bool HF.out.symm, HB.out⟩
 ·
  obtain ⟨b3, o3, F3', ha3, hm3⟩ : ∃ b off F', a3 = some ⟨b, off, none⟩ ∧ RdM w (s.rows.map ints) b off F' := by
   rcases h3.cells with ⟨h0', _⟩ | ⟨b, off, F', _, e, _, hm⟩
   ·
    exact absurd h0' h0
   ·
    exact ⟨b, off, F', e, hm⟩
  subst ha3
  have HM : Hid (RdM w (s.rows.map ints) b3 o3 F3') := hm3
  clear h3 hm3
  go_enter Tryz.func128, Tryz.ntmps128
  go_wp2
  go_loop [8] (fun i => ∃ k : Nat, k ≤ n3 ∧ i = .int .i64 k ∧ Hid ((s.rows.take k).all (fun z => decide (z.length = 4)) = true)) (fun i => n3 - (intOf i).toNat)
  case atStart => exact ⟨0, by omega, rfl, show _ = true by simp⟩
  case round =>
   obtain ⟨k, hk, rfl, HA⟩ := hrel
   by_cases hlt : k < n3
   ·
    obtain ⟨r, m, c, G, hc, hr, _⟩ := RdII.row HM.out L3.out k hlt
    have hcb : b3 < w.heap.size := World.block_lt_of_cell? _ _ hc
    have hc2 : (w.alloc (.cells #[.int .i64 s.count, .int .i64 s.sum, .int .i64 s.min, .int .i64 s.max, .slice a1 n1 c1, .slice a2 n2 c2, .slice (some ⟨b3, o3, none⟩) n3 c3] 31)).cell? ⟨b3, o3 + k, none⟩ = some (.slice r m c) := (HB.out.cell (by exact hcb)).trans hc
    have HM4 : Hid ((s.rows.getD k []).length = m) := hr.length
    have hm : m ≤ 140737488355328 := by rw [← hr.length]; exact HW.out.row _ (mem_getD (by rw [L3.out]; exact hlt))
    clear hc hr
    by_cases q : m = 4
    ·
     subst q
     have HA2 : Hid ((s.rows.take (k + 1)).all (fun z => decide (z.length = 4)) = true) := allL_snoc (by rw [L3.out]; exact hlt) HA.out (by rw [HM4.out]; rfl)
     go_wp2
     go_round
     case rel => exact ⟨k + 1, by omega, by go_num, HA2⟩
     case measure => simp [intOf]; omega
    ·
     have q' : ((m : Int) != 4) = true := by simp; omega
     have HN : Hid (s.rows.all (fun z => decide (z.length = 4)) = false) := allL_not (by rw [L3.out]; exact hlt) (by rw [HM4.out]; exact dec_false q)
     clear q
     go_wp2
     go_ret
     exact ⟨ret_bool (by rw [HD.out]; unfold Sk.shaped; rw [HN.out]; rfl), HB.out⟩
   ·
    obtain rfl : k = n3 := by omega
    have HF : Hid (s.rows.all (fun z => decide (z.length = 4)) = true) := by have := HA.out; rw [List.take_of_length_le (Nat.le_of_eq L3.out)] at this; exact this
    have HT : Hid (d = (decide (n1 = 8) && decide (n2 = 8) && decide (k = 2))) := tailOk.out HF.out
    clear tailOk hlt
    by_cases q1 : n1 = 8
    ·
     subst q1
     by_cases q2 : n2 = 8
     ·
      subst q2
      by_cases q3 : k = 2
      ·
       subst q3
       go_wp2
       go_ret
       exact ⟨ret_bool (by rw [HT.out]; rfl), HB.out⟩
      ·
       have q3' : ((k : Int) == 2) = false := by simp; omega
       have Q3 : Hid (decide (k = 2) = false) := dec_false q3
       clear q3
       go_wp2
       go_ret
       exact ⟨ret_bool (by rw [HT.out, Q3.out]; rfl), HB.out⟩
     ·
      have q2' : ((n2 : Int) == 8) = false := by simp; omega
      have Q2 : Hid (decide (n2 = 8) = false) := dec_false q2
      clear q2
      go_wp2
      go_ret
      exact ⟨ret_bool (by rw [HT.out, Q2.out]; simp), HB.out⟩
    ·
     have q1' : ((n1 : Int) == 8) = false := by simp; omega
     have Q1 : Hid (decide (n1 = 8) = false) := dec_false q1
     clear q1
     go_wp2
     go_ret
     exact ⟨ret_bool (by rw [HT.out, Q1.out]; rfl), HB.out⟩
end Go.Proofs.YtjnamoppcklomaaGreat
