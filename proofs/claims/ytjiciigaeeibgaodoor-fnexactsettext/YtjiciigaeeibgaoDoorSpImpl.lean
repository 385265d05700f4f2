/- The walks through the program's SetAdd and SetJoin. No statement of the seat is proved here. -/
import Derived.Test.YtjiciigaeeibgaoDoorSpCopy
namespace Go.Proofs.YtjiciigaeeibgaoDoor
open Go.RowKit
theorem single_any (n : Int) (w : World) : Calls Tryd.prog 14 #[.int .i64 n] w fun e w' => e = .returned (.agg #[.int .i64 n, .int .i64 n]) ∧ Below w.heap.size w w' := by
  have HB : Hid (Below w.heap.size w (w.alloc (.cells #[.int .i64 n, .int .i64 n] 31))) := Below.allocW _ (Below.refl _ _) (Nat.le_refl _)
  have HK : Hid (Blk (w.alloc (.cells #[.int .i64 n, .int .i64 n] 31)) w.heap.size #[.int .i64 n, .int .i64 n] 31) := Blk.made _ _ _
  go_enter Tryd.func14, Tryd.ntmps14
  go_wp2
  refine bodyPost_ret (results_cell_row Tryd.results14 _ _ w.heap.size _ _ (0, 0) _ rfl HK.out Tryd.underlying31 rfl (by kernel_rfl)) rfl ?_
  exact ⟨rfl, HB.out⟩
theorem inb_ok {ps : Sp} (h : ps.ok = true) : ∀ p ∈ ps, InB p := inb_iff.1 (ok_inb h)
end Go.Proofs.YtjiciigaeeibgaoDoor
