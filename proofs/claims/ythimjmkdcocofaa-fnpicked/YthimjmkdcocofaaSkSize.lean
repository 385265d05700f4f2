/- What a summary that comes in weighs, however long its lists are. No statement of the seat is proved here. -/
import Derived.Test.YthimjmkdcocofaaSk
namespace Go.Proofs.Ythimjmkdcocofaa
open Go.RowKit
/-- Each list is no longer than a length can say. -/
structure Sk.vast (s : Sk) : Prop where
  hist : s.hist.length ≤ 9223372036854775807
  regs : s.regs.length ≤ 9223372036854775807
  rows : s.rows.length ≤ 9223372036854775807
  row : ∀ z ∈ s.rows, z.length ≤ 9223372036854775807
set_option maxRecDepth 200000 in
theorem szIntS_vast (a : Option Addr) (len cap : Nat) (left : Int) (w : World) (hlen : len ≤ 9223372036854775807) (hl0 : 0 ≤ left) (hl1 : left ≤ 1048576) :
    Calls Try.prog 41 #[.slice a len cap, .int .i64 left] w fun e w' => Weighed left len e ∧ w' = w := by
  by_cases h : left < (len : Int)
  · go_enter Try.func41, Try.ntmps41
    go_wp2
    go_ret
    exact ⟨⟨-1, rfl, by omega, by omega, by omega⟩, rfl⟩
  · go_enter Try.func41, Try.ntmps41
    go_wp2
    go_ret
    exact ⟨⟨left - len, rfl, by omega, by omega, by omega⟩, rfl⟩
end Go.Proofs.Ythimjmkdcocofaa
