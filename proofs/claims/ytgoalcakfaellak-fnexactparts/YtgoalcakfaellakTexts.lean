/- The walks through the helpers of the laws over slices of texts: compared, marked, looked at again. No statement of the seat is proved here. -/
import Derived.Test.YtgoalcakfaellakBase
import Derived.Test.YtgoalcakfaellakMarkText
import Derived.Deep.RegionWith
namespace Go.Proofs.Ytgoalcakfaellak
open Go.RowKit

theorem Try.info9 : (Try.prog.info? 9).map (fun i => (i.zero, i.size, i.bytes)) = some (some (.string ⟨#[]⟩), 1, 16) := by kernel_rfl

/-- What a slice of texts holds at place i. -/
def tx (xs : List ByteArray) (i : Nat) : ByteArray := xs.getD i ⟨#[]⟩
theorem own_tx {w : World} {base e n cap g : Nat} {xs : List ByteArray} (h : w.ownsRow base e 1 (.slice (some ⟨g, 0, none⟩) n cap) n (xs.map Value.string)) (i : Nat) (hi : i < n) : w.cell? ⟨g, i, none⟩ = some (.string (tx xs i)) := by
  have hl : xs.length = n := by simpa using h.1
  rw [h.cellAt i (by omega)]
  simp [tx, List.getElem?_eq_getElem (show i < xs.length by omega)]
theorem tx_take (xs : List ByteArray) (k : Nat) (hk : k < xs.length) : xs.take (k + 1) = xs.take k ++ [tx xs k] := by
  rw [List.take_add_one, tx, List.getD_eq_getElem?_getD, List.getElem?_eq_getElem hk]; rfl
theorem txs_step {xs ys : List ByteArray} {k : Nat} (hl : xs.length = ys.length) (hk : k < xs.length) (h : xs.take k = ys.take k) (he : tx xs k = tx ys k) : xs.take (k + 1) = ys.take (k + 1) := by
  rw [tx_take xs k hk, tx_take ys k (by omega), h, he]

/-- Two slices that hold the same texts. -/
theorem eqTexts_any (base base' n : Nat) (v v' : Value) (xs : List ByteArray) (w : World) (h : w.ownsRow base 9 1 v n (xs.map Value.string)) (h' : w.ownsRow base' 9 1 v' n (xs.map Value.string)) (hn : n ≤ 140737488355328) :
    Calls Try.prog 20 #[v, v'] w fun e w' => e = .returned (.bool true) ∧ Below w.heap.size w w' := by
  by_cases h0 : n = 0
  · subst h0
    obtain ⟨a, c, rfl⟩ : ∃ a c, v = .slice a 0 c := by
      rcases h.2 with ⟨h1, _⟩ | ⟨g, cap, cur, h1, _⟩
      · exact ⟨_, _, h1⟩
      · exact ⟨_, _, h1⟩
    obtain ⟨a', c', rfl⟩ : ∃ a c, v' = .slice a 0 c := by
      rcases h'.2 with ⟨h1, _⟩ | ⟨g, cap, cur, h1, _⟩
      · exact ⟨_, _, h1⟩
      · exact ⟨_, _, h1⟩
    clear h h'
    go_enter Try.func20, Try.ntmps20
    go_wp2
    refine wp_loop_rounds 1 ?_
    rw [rounds_succ]
    go_wp2
    go_ret
    exact ⟨rfl, Below.refl _ _⟩
  · obtain ⟨g, c, rfl⟩ : ∃ g c, v = .slice (some ⟨g, 0, none⟩) n c := by
      rcases h.2 with ⟨_, h1⟩ | ⟨g, cap, cur, h1, _⟩
      · exact absurd h1 h0
      · exact ⟨_, _, h1⟩
    obtain ⟨g', c', rfl⟩ : ∃ g c, v' = .slice (some ⟨g, 0, none⟩) n c := by
      rcases h'.2 with ⟨_, h1⟩ | ⟨g, cap, cur, h1, _⟩
      · exact absurd h1 h0
      · exact ⟨_, _, h1⟩
    have hg : g < w.heap.size := World.block_lt_of_cell? _ _ (own_tx h 0 (by omega))
    have hg' : g' < w.heap.size := World.block_lt_of_cell? _ _ (own_tx h' 0 (by omega))
    have HC : Hid (∀ i, i < n → w.cell? ⟨g, i, none⟩ = some (.string (tx xs i))) := own_tx h
    have HC' : Hid (∀ i, i < n → w.cell? ⟨g', i, none⟩ = some (.string (tx xs i))) := own_tx h'
    have hbne : ((n : Int) != (n : Int)) = false := by simp
    clear h h'
    go_enter Try.func20, Try.ntmps20
    go_wp2
    go_loopw [5] (fun i wr => ∃ k : Nat, k ≤ n ∧ i = .int .i64 k ∧ Below w.heap.size w wr) (fun i _ => n - (intOf i).toNat)
    case atStart => exact ⟨0, by omega, rfl, Below.refl _ _⟩
    case round =>
      obtain ⟨k, hk, rfl, hbel⟩ := hrel
      by_cases hlt : k < n
      · have d1 : wr.cell? ⟨g, k, none⟩ = some (.string (tx xs k)) := (hbel.cell (by exact hg)).trans (HC.out k hlt)
        have d2 : wr.cell? ⟨g', k, none⟩ = some (.string (tx xs k)) := (hbel.cell (by exact hg')).trans (HC'.out k hlt)
        generalize tx xs k = t at d1 d2
        go_wp2
        go_region
        all_goals (try go_wp2)
        all_goals
          go_roundw
          case rel => exact ⟨k + 1, by omega, by go_num, by repeat (first | exact hbel | apply Below.drew)⟩
          case measure => simp [intOf]; omega
      · go_wp2
        go_ret
        exact ⟨rfl, hbel⟩
end Go.Proofs.Ytgoalcakfaellak
