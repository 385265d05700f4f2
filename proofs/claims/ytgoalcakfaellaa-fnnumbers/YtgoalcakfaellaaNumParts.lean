/- The walks through the small helpers of the law on numbers, and the readers' contracts for a slice that the law itself made. No statement of the seat is proved here. -/
import Derived.Test.YtgoalcakfaellaaLawNumbers
import Derived.Test.YtgoalcakfaellaaCrcWalks
import Derived.Test.YtgoalcakfaellaaDrawNum
namespace Go.Proofs.Ytgoalcakfaellaa
open Go.RowKit

theorem big_any (a : Option Addr) (len cap : Nat) (w : World) : Calls Try.prog 4 #[.slice a len cap] w fun e w' => e = .returned (.bool (decide ((1048576 : Int) < (len : Int)))) ∧ w' = w := by
  go_enter Try.func4, Try.ntmps4
  go_wp2
  go_ret
  exact ⟨rfl, rfl⟩

/-- A byte of the code, or a number by its place. -/
def at0F (zs : List Int) (len i : Nat) : Int := if i < len then zs[i]?.getD 0 else ((i : Int) * 7 + len) % 256
theorem at0F_range (zs : List Int) (len i : Nat) (h : ∀ n ∈ zs, 0 ≤ n ∧ n ≤ 255) : 0 ≤ at0F zs len i ∧ at0F zs len i ≤ 255 := by
  unfold at0F; split
  · exact getD_range h i
  · omega
theorem at0_any (a : Option Addr) (len cap : Nat) (zs : List Int) (i : Nat) (w : World) (hR : RdB w a len zs) (hlen : len ≤ 1048576) (hi : i ≤ 1000) :
    Calls Try.prog 12 #[.slice a len cap, .int .i64 i] w fun e w' => e = .returned (.int .i64 (at0F zs len i)) ∧ w' = w := by
  by_cases hlt : i < len
  · obtain ⟨b, off, rfl, hc⟩ : ∃ b off, a = some ⟨b, off, none⟩ ∧ ∀ i, i < len → w.cell? ⟨b, off + i, none⟩ = some (.int .u8 (zs.getD i 0)) := by
      rcases hR.cells with h0 | h0
      · omega
      · exact h0
    have hck := hc i hlt
    have hb := getD_range hR.range i
    have hlt' : (i : Int) < (len : Int) := by omega
    clear hR hc
    go_enter Try.func12, Try.ntmps12
    go_wp2
    go_ret
    exact ⟨ret_int (by unfold at0F; rw [if_pos hlt]), rfl⟩
  · have hge : decide ((i : Int) < (len : Int)) = false := by simp; omega
    clear hR
    go_enter Try.func12, Try.ntmps12
    go_wp2
    go_ret
    exact ⟨ret_int (by unfold at0F; rw [if_neg hlt]), rfl⟩

theorem own_shape {w : World} {base e n : Nat} {v : Value} {xs : List Value} (h : w.ownsRow base e 1 v n xs) (hn : 0 < n) : ∃ g cap, v = .slice (some ⟨g, 0, none⟩) n cap ∧ n ≤ cap := by
  rcases h.2 with ⟨_, h0⟩ | ⟨g, cap, cur, h1, _, _, h2, _⟩
  · omega
  · exact ⟨g, cap, h1, h2⟩
theorem own_len {w : World} {base e n : Nat} {v : Value} {xs : List Value} (h : w.ownsRow base e 1 v n xs) : ∃ a cap, v = .slice a n cap := by
  rcases h.2 with ⟨h1, rfl⟩ | ⟨g, cap, cur, h1, _⟩
  · exact ⟨_, _, h1⟩
  · exact ⟨_, _, h1⟩
end Go.Proofs.Ytgoalcakfaellaa
