/- The walks through the program's looks at numbers and lists of a summary. No statement of the seat is proved here. -/
import Derived.Test.YthimjmkdcocofaaSkOk
namespace Go.Proofs.Ythimjmkdcocofaa
open Go.RowKit
set_option maxRecDepth 200000 in
theorem inRange_any (x hi : Int) (w : World) : Calls Try.prog 40 #[.int .i64 x, .int .i64 hi] w fun e w' => e = .returned (.bool (decide (0 ≤ x ∧ x ≤ hi))) ∧ w' = w := by
  have hd : ∀ d : Bool, d = decide (0 ≤ x ∧ x ≤ hi) → (d = true ↔ 0 ≤ x ∧ x ≤ hi) := by rintro d rfl; simp
  generalize decide (0 ≤ x ∧ x ≤ hi) = d at *
  have hd := hd d rfl
  by_cases h : 0 ≤ x
  · by_cases h2 : x ≤ hi
    · have e : Hid (d = true) := hd.2 ⟨h, h2⟩
      clear hd
      go_enter Try.func40, Try.ntmps40
      go_wp2
      go_ret
      rw [e.out]; exact ⟨rfl, rfl⟩
    · have e : Hid (d = false) := show d = false by cases d; rfl; exact absurd (hd.1 rfl).2 h2
      clear hd
      go_enter Try.func40, Try.ntmps40
      go_wp2
      go_ret
      rw [e.out]; exact ⟨rfl, rfl⟩
  · have e : Hid (d = false) := show d = false by cases d; rfl; exact absurd (hd.1 rfl).1 h
    clear hd
    go_enter Try.func40, Try.ntmps40
    go_wp2
    go_ret
    rw [e.out]; exact ⟨rfl, rfl⟩
set_option maxRecDepth 200000 in
set_option maxHeartbeats 1000000 in
theorem allInRange_any (a : Option Addr) (len cap : Nat) (zs : List Int) (F : List Nat) (most : Int) (w : World) (h : RdI w a len zs F) (hlen : len ≤ 140737488355328) :
    Calls Try.prog 46 #[.slice a len cap, .int .i64 most] w fun e w' => e = .returned (.bool (zs.all (okN most false))) ∧ w' = w := by
  obtain ⟨d, hd⟩ : ∃ d, d = zs.all (okN most false) := ⟨_, rfl⟩
  rw [← hd]
  have HL : Hid (zs.length = len) := h.length
  have HD : Hid (d = zs.all (okN most false)) := hd
  clear hd
  rcases h.cells with ⟨h0, _⟩ | ⟨b, off, hp, rfl, _, hc⟩
  · subst h0
    have hz : zs = [] := List.eq_nil_of_length_eq_zero h.length
    subst hz
    clear h
    go_enter Try.func46, Try.ntmps46
    go_wp2
    refine wp_loop_rounds 1 ?_
    rw [rounds_succ]
    go_wp2
    go_ret
    exact ⟨ret_bool (by rw [HD.out]; rfl), rfl⟩
  · have HC : Hid (∀ i, i < len → w.cell? ⟨b, off + i, none⟩ = some (.int .i64 (zs.getD i 0))) := hc
    clear h hc
    go_enter Try.func46, Try.ntmps46
    go_wp2
    go_loop [9] (fun i => ∃ k : Nat, k ≤ len ∧ i = .int .i64 k ∧ Hid ((zs.take k).all (okN most false) = true)) (fun i => len - (intOf i).toNat)
    case atStart => exact ⟨0, by omega, rfl, show _ = true by simp⟩
    case round =>
      obtain ⟨k, hk, rfl, HA⟩ := hrel
      by_cases hlt : k < len
      · have hck := HC.out k hlt
        obtain ⟨x, hx⟩ : ∃ x, x = zs[k]?.getD 0 := ⟨_, rfl⟩
        have hck2 : w.cell? ⟨b, off + k, none⟩ = some (.int .i64 x) := by rw [hx, hck]; simp
        have HX : Hid (x = zs[k]?.getD 0) := hx
        clear hck hx
        by_cases hin : 0 ≤ x ∧ x ≤ most
        · have HA2 : Hid ((zs.take (k + 1)).all (okN most false) = true) := all_snoc (by rw [HL.out]; exact hlt) HA.out (by
            rw [← HX.out]; unfold okN; rw [dec_true hin]; rfl)
          have hdec : decide (0 ≤ x ∧ x ≤ most) = true := by simpa using hin
          clear hin
          go_wp2_with fail
          refine (inRange_any _ _ _).mono ?_
          rintro e w1 ⟨rfl, hw1⟩
          have hw1' := hw1.symm
          subst hw1'
          rw [hdec]
          clear hw1 hdec
          go_wp2
          go_round
          case rel => exact ⟨k + 1, by omega, by go_num, HA2⟩
          case measure => simp [intOf]; omega
        · have HN : Hid (zs.all (okN most false) = false) := all_not (by rw [HL.out]; exact hlt) (by rw [← HX.out]; unfold okN; rw [dec_false hin]; rfl)
          have hdec : decide (0 ≤ x ∧ x ≤ most) = false := by simpa using hin
          clear hin
          go_wp2_with fail
          refine (inRange_any _ _ _).mono ?_
          rintro e w1 ⟨rfl, hw1⟩
          have hw1' := hw1.symm
          subst hw1'
          rw [hdec]
          clear hw1 hdec
          go_wp2
          go_ret
          exact ⟨ret_bool (by rw [HD.out, HN.out]), rfl⟩
      · obtain rfl : k = len := by omega
        have HF : Hid (zs.all (okN most false) = true) := by have := HA.out; rw [List.take_of_length_le (Nat.le_of_eq HL.out)] at this; exact this
        go_wp2
        go_ret
        exact ⟨ret_bool (by rw [HD.out, HF.out]), rfl⟩
/-- Lists as long as told. -/
def Sk.shaped (s : Sk) : Bool := s.rows.all (fun z => decide (z.length = 4)) && decide (s.hist.length = 8) && decide (s.regs.length = 8) && decide (s.rows.length = 2)
theorem allL_snoc {p : List Int → Bool} {l : List (List Int)} {k : Nat} (hk : k < l.length) (h : (l.take k).all p = true) (hx : p (l.getD k []) = true) : (l.take (k + 1)).all p = true := by
  rw [take_snoc l [] k hk, List.all_append, h]; simpa using hx
theorem allL_not {p : List Int → Bool} {l : List (List Int)} {k : Nat} (hk : k < l.length) (hx : p (l.getD k []) = false) : l.all p = false := by
  cases e : l.all p
  · rfl
  · rw [List.all_eq_true] at e
    rw [e _ (mem_getD hk)] at hx; cases hx
end Go.Proofs.Ythimjmkdcocofaa
