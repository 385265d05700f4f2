/- The walks through the helpers of the laws that mark a slice of texts and look whether the marks still stand. No statement of the seat is proved here. -/
import Derived.Test.YtgoalcakfaellakTexts
namespace Go.Proofs.Ytgoalcakfaellak
open Go.RowKit

/-- What a marked slice of n texts holds. -/
def tmarks (k n : Nat) : List ByteArray := (List.range n).map fun i : Nat => mtext (k + i)
theorem tmarks_len (k n : Nat) : (tmarks k n).length = n := by simp [tmarks]
theorem tmarks_at (k n i : Nat) (h : i < n) : tx (tmarks k n) i = mtext (k + i) := by simp [tx, tmarks, h]
theorem tmarks_succ (k i : Nat) : tmarks k (i + 1) = tmarks k i ++ [mtext (k + i)] := by simp [tmarks, List.range_succ]
/-- Marked up to i, the rest as it was. -/
def tmarked (k i : Nat) (xs : List Value) : List Value := (tmarks k i).map Value.string ++ xs.drop i
theorem tmarked_zero (k : Nat) (xs : List Value) : tmarked k 0 xs = xs := by simp [tmarked, tmarks]
theorem tmarked_end (k n : Nat) (xs : List Value) (h : xs.length = n) : tmarked k n xs = (tmarks k n).map Value.string := by
  simp [tmarked, List.drop_of_length_le (Nat.le_of_eq h)]
theorem tmarked_step (k i n : Nat) (xs : List Value) (h : xs.length = n) (hi : i < n) : (tmarked k i xs).set i (.string (mtext (k + i))) = tmarked k (i + 1) xs := by
  unfold tmarked
  have hl : ((tmarks k i).map Value.string).length = i := by simp [tmarks_len]
  rw [List.set_append_right i _ (by omega), hl, Nat.sub_self, tmarks_succ, List.map_append, List.append_assoc, List.drop_eq_getElem_cons (show i < xs.length by omega)]
  rfl
theorem grown_trans {a b c : World} {row : Option Nat} (h : a.grownBy b row) (k : b.grownBy c row) : a.grownBy c row :=
  ⟨k.os.trans h.os, k.tape.trans h.tape, k.output.trans h.output, Nat.le_trans h.size k.size, fun j hj hr => (k.block j (Nat.lt_of_lt_of_le hj h.size) hr).trans (h.block j hj hr)⟩
theorem grown_below {a b : World} (row : Option Nat) (h : Below a.heap.size a b) : a.grownBy b row := ⟨h.os, h.tape, h.output, h.size, fun j hj _ => h.block j hj⟩

set_option maxHeartbeats 400000 in
theorem markTexts_any (base n k : Nat) (v : Value) (xs : List Value) (w : World) (hown : w.ownsRow base 9 1 v n xs) (hk0 : 0 < k) (hk1 : k + n ≤ 1000000000000) :
    Calls Try.prog 21 #[v, .int .i64 k] w fun e w' => e = .returned (.int .i64 ((k : Int) + n)) ∧ w'.ownsRow base 9 1 v n ((tmarks k n).map Value.string) ∧ w.grownBy w' v.ownBlock := by
  have HX : Hid (xs.length = n) := by show xs.length = n; simpa using hown.1
  rcases hown.2 with ⟨rfl, rfl⟩ | ⟨g, cap, cur, rfl, hbg, _⟩
  · have hx : xs = [] := List.eq_nil_of_length_eq_zero HX.out
    subst hx
    go_enter Try.func21, Try.ntmps21
    go_wp2
    refine wp_loop_rounds 1 ?_
    rw [rounds_succ]
    go_wp2
    go_ret
    exact ⟨ret_int (by simp), hown, World.grownBy.refl _ _⟩
  · have HO : Hid (w.ownsRow base 9 1 (.slice (some ⟨g, 0, none⟩) n cap) n xs) := hown
    have hki : (k : Int) + n ≤ 1000000000000 := by omega
    have Hk1 : Hid (k + n ≤ 1000000000000) := hk1
    clear hown hk1
    go_enter Try.func21, Try.ntmps21
    go_wp2
    go_loopw [1, 5] (fun q i wr => ∃ j : Nat, j ≤ n ∧ i = .int .i64 j ∧ q = .int .i64 ((k + j : Nat) : Int) ∧ Hid (wr.ownsRow base 9 1 (.slice (some ⟨g, 0, none⟩) n cap) n (tmarked k j xs)) ∧ w.grownBy wr (some g)) (fun _ i _ => n - (intOf i).toNat)
    case atStart => exact ⟨0, by omega, rfl, by go_num, by show World.ownsRow _ _ _ _ _ _ _; rw [tmarked_zero]; exact HO.out, World.grownBy.refl _ _⟩
    case round =>
      obtain ⟨j, hj, rfl, rfl, HOj, hgr⟩ := hrel
      by_cases hlt : j < n
      · go_wp2_with fail
        refine (markText_any (k + j) _ (by omega) (by have := Hk1.out; omega)).mono ?_
        rintro e w1 ⟨rfl, hb1⟩
        have O1 := ownsRow_below HOj.out hb1
        obtain ⟨v0, hcg⟩ := own_some O1 j hlt
        have hcf := O1.frozenAt j
        have R := O1.stored j (.string (mtext (k + j)))
        rw [tmarked_step k j n xs HX.out hlt] at R
        have R1 : Hid ((w1.setCell ⟨g, j, none⟩ (.string (mtext (k + j)))).ownsRow base 9 1 (.slice (some ⟨g, 0, none⟩) n cap) n (tmarked k (j + 1) xs)) := R.1
        have R2 := grown_trans (grown_trans hgr (grown_below _ hb1)) R.2
        clear R HOj hgr O1
        go_wp2
        go_roundw
        case rel => exact ⟨j + 1, by omega, by go_num, by go_num, R1, R2⟩
        case measure => simp [intOf]; omega
      · obtain rfl : j = n := by omega
        go_wp2
        go_ret
        exact ⟨ret_int (by omega), by rw [← tmarked_end k j xs HX.out]; exact HOj.out, hgr⟩

set_option maxHeartbeats 400000 in
theorem heldTexts_any (base n k : Nat) (v : Value) (w : World) (hown : w.ownsRow base 9 1 v n ((tmarks k n).map Value.string)) (hk0 : 0 < k) (hk1 : k + n ≤ 1000000000000) :
    Calls Try.prog 22 #[v, .int .i64 k] w fun e w' => e = .returned (.int .i64 ((k : Int) + n)) ∧ Below w.heap.size w w' := by
  rcases hown.2 with ⟨rfl, rfl⟩ | ⟨g, cap, cur, rfl, hbg, _⟩
  · clear hown
    go_enter Try.func22, Try.ntmps22
    go_wp2
    refine wp_loop_rounds 1 ?_
    rw [rounds_succ]
    go_wp2
    go_ret
    exact ⟨ret_int (by simp), Below.refl _ _⟩
  · have HC : Hid (∀ i, i < n → w.cell? ⟨g, i, none⟩ = some (.string (mtext (k + i)))) := by
      intro i hi
      rw [own_tx hown i hi, tmarks_at k n i hi]
    have hki : (k : Int) + n ≤ 1000000000000 := by omega
    have Hk1 : Hid (k + n ≤ 1000000000000) := hk1
    clear hown hk1
    go_enter Try.func22, Try.ntmps22
    go_wp2
    go_loopw [1, 5] (fun q i wr => ∃ j : Nat, j ≤ n ∧ i = .int .i64 j ∧ q = .int .i64 ((k + j : Nat) : Int) ∧ Below w.heap.size w wr) (fun _ i _ => n - (intOf i).toNat)
    case atStart => exact ⟨0, by omega, rfl, by go_num, Below.refl _ _⟩
    case round =>
      obtain ⟨j, hj, rfl, rfl, hb⟩ := hrel
      by_cases hlt : j < n
      · have hg : g < w.heap.size := World.block_lt_of_cell? _ _ (HC.out j hlt)
        have hcg : wr.cell? ⟨g, j, none⟩ = some (.string (mtext (k + j))) := (hb.cell (by exact hg)).trans (HC.out j hlt)
        have hgr : g < wr.heap.size := Nat.lt_of_lt_of_le hg hb.size
        have hwsz := hb.size
        go_wp2
        go_region_with (go_at_call 30; refine (markText_any (k + j) _ (by omega) (by have := Hk1.out; omega)).mono ?_; rintro e w1 ⟨rfl, hb1⟩; have hcg1 : w1.cell? ⟨g, j, none⟩ = some (.string (mtext (k + j))) := (hb1.cell (p := ⟨g, j, none⟩) (by simpa using hgr)).trans hcg; have hbw : Below w.heap.size w w1 := hb.drew.trans (hb1.mono hwsz); clear hb1)
        all_goals
          go_wp2
          go_roundw
          case rel => exact ⟨j + 1, by omega, by go_num, by go_num, by repeat (first | assumption | apply Below.drew)⟩
          case measure => simp [intOf]; omega
      · obtain rfl : j = n := by omega
        go_wp2
        go_ret
        exact ⟨ret_int (by omega), hb⟩
end Go.Proofs.Ytgoalcakfaellak
