/- The walks through the helpers that mark a byte slice and look whether the marks still stand. No statement of the seat is proved here. -/
import Derived.Test.YtgoalcakfaellajBase
import Derived.Test.YtgoalcakfaellajNumMath
namespace Go.Proofs.Ytgoalcakfaellaj
open Go.RowKit

theorem grownBy_trans {a b c : World} {row : Option Nat} (h : a.grownBy b row) (k : b.grownBy c row) : a.grownBy c row :=
  ⟨k.os.trans h.os, k.tape.trans h.tape, k.output.trans h.output, Nat.le_trans h.size k.size, fun j hj hr => (k.block j (Nat.lt_of_lt_of_le hj h.size) hr).trans (h.block j hj hr)⟩
theorem u8_conv (x : Int) : IntKind.u8.wrap x = x % 256 := by simp [IntKind.wrap, IntKind.bits, IntKind.signed]

set_option maxHeartbeats 400000 in
theorem markByteS_any (base n : Nat) (v : Value) (xs : List Value) (k : Int) (w : World) (hown : w.ownsRow base 5 1 v n xs) (hk0 : 0 ≤ k) (hk1 : k + n ≤ 1000000000000) :
    Calls Try.prog 7 #[v, .int .i64 k] w fun e w' => e = .returned (.int .i64 (k + n)) ∧ w'.ownsRow base 5 1 v n ((marks k n).map (Value.int .u8)) ∧ w.grownBy w' v.ownBlock := by
  have HX : Hid (xs.length = n) := by show xs.length = n; simpa using hown.1
  rcases hown.2 with ⟨rfl, rfl⟩ | ⟨g, cap, cur, rfl, hbg, _⟩
  · have hx : xs = [] := List.eq_nil_of_length_eq_zero HX.out
    subst hx
    go_enter Try.func7, Try.ntmps7
    go_wp2
    refine wp_loop_rounds 1 ?_
    rw [rounds_succ]
    go_wp2
    go_ret
    exact ⟨ret_int (by simp), hown, World.grownBy.refl _ _⟩
  · have HO : Hid (w.ownsRow base 5 1 (.slice (some ⟨g, 0, none⟩) n cap) n xs) := hown
    clear hown
    go_enter Try.func7, Try.ntmps7
    go_wp2
    go_loopw [1, 5] (fun q i wr => ∃ j : Nat, j ≤ n ∧ i = .int .i64 j ∧ q = .int .i64 (k + j) ∧ Hid (wr.ownsRow base 5 1 (.slice (some ⟨g, 0, none⟩) n cap) n (marked k j xs)) ∧ w.grownBy wr (some g)) (fun _ i _ => n - (intOf i).toNat)
    case atStart => exact ⟨0, by omega, rfl, by go_num, by show World.ownsRow _ _ _ _ _ _ _; rw [marked_zero]; exact HO.out, World.grownBy.refl _ _⟩
    case round =>
      obtain ⟨j, hj, rfl, rfl, HOj, hgr⟩ := hrel
      by_cases hlt : j < n
      · obtain ⟨v0, hcg⟩ := own_some HOj.out j hlt
        have hcf := HOj.out.frozenAt j
        have R := HOj.out.stored j (.int .u8 ((k + (j : Int)) % 256))
        rw [marked_step k j n xs HX.out hlt] at R
        have R1 : Hid ((wr.setCell ⟨g, j, none⟩ (.int .u8 ((k + (j : Int)) % 256))).ownsRow base 5 1 (.slice (some ⟨g, 0, none⟩) n cap) n (marked k (j + 1) xs)) := R.1
        have R2 := grownBy_trans hgr R.2
        clear R HOj hgr
        go_wp2
        go_roundw
        case rel => exact ⟨j + 1, by omega, by go_num, by go_num, R1, R2⟩
        case measure => simp [intOf]; omega
      · obtain rfl : j = n := by omega
        go_wp2
        go_ret
        exact ⟨rfl, by rw [← marked_end k j xs HX.out]; exact HOj.out, hgr⟩

set_option maxHeartbeats 400000 in
theorem heldByteS_any (base n : Nat) (v : Value) (k : Int) (w : World) (hown : w.ownsRow base 5 1 v n ((marks k n).map (Value.int .u8))) (hk0 : 0 ≤ k) (hk1 : k + n ≤ 1000000000000) :
    Calls Try.prog 8 #[v, .int .i64 k] w fun e w' => e = .returned (.int .i64 (k + n)) ∧ Below w.heap.size w w' := by
  rcases hown.2 with ⟨rfl, rfl⟩ | ⟨g, cap, cur, rfl, hbg, _⟩
  · clear hown
    go_enter Try.func8, Try.ntmps8
    go_wp2
    refine wp_loop_rounds 1 ?_
    rw [rounds_succ]
    go_wp2
    go_ret
    exact ⟨ret_int (by simp), Below.refl _ _⟩
  · have R := RdB.of_own hown (marks_range k n)
    have HC : Hid (∀ i, i < n → w.cell? ⟨g, i, none⟩ = some (.int .u8 ((k + (i : Int)) % 256))) := by
      intro i hi
      rcases R.cells with h0 | ⟨b, off, hb, hc⟩
      · omega
      · simp only [Option.some.injEq, Addr.mk.injEq, and_true] at hb
        obtain ⟨rfl, rfl⟩ := hb
        have := hc i hi
        rw [Nat.zero_add] at this
        rw [this, List.getD_eq_getElem?_getD, marks_at k n i hi]
    clear hown R
    go_enter Try.func8, Try.ntmps8
    go_wp2
    go_loop [1, 5] (fun q i => ∃ j : Nat, j ≤ n ∧ i = .int .i64 j ∧ q = .int .i64 (k + j)) (fun _ i => n - (intOf i).toNat)
    case atStart => exact ⟨0, by omega, rfl, by go_num⟩
    case round =>
      obtain ⟨j, hj, rfl, rfl⟩ := hrel
      by_cases hlt : j < n
      · have hcg := HC.out j hlt
        go_wp2
        go_round
        case rel => exact ⟨j + 1, by omega, by go_num, by go_num⟩
        case measure => simp [intOf]; omega
      · obtain rfl : j = n := by omega
        go_wp2
        go_ret
        exact ⟨rfl, Below.refl _ _⟩
end Go.Proofs.Ytgoalcakfaellaj
