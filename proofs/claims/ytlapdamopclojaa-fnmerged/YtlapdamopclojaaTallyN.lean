/- The walk through the program's SketchNew. No statement of the seat is proved here. -/
import Derived.Test.YtlapdamopclojaaTallyS
import Derived.Test.YtlapdamopclojaaSkNew
namespace Go.Proofs.Ytlapdamopclojaa
open Go.RowKit
set_option maxHeartbeats 1000000 in
theorem newImpl_any (w : World) : Calls Try.prog 29 #[] w fun e w' => NewSk w Sk.new e w' := by
  have HT : Hid (Blk (w.alloc (.cells #[.int .i64 0, .int .i64 0, .int .i64 0, .int .i64 0, .slice none 0 0, .slice none 0 0, .slice none 0 0] 41)) w.heap.size _ 41 ∧ Below w.heap.size w (w.alloc (.cells #[.int .i64 0, .int .i64 0, .int .i64 0, .int .i64 0, .slice none 0 0, .slice none 0 0, .slice none 0 0] 41))) := ⟨Blk.made _ _ _, (Below.refl _ _).alloc (Nat.le_refl _) _⟩
  go_enter Try.func29, Try.ntmps29
  go_wp2_with fail
  refine (sketch_any (List.replicate 28 0) _ rfl).mono ?_
  rintro e w1 ⟨v, F, rfl, hr, ho, hb⟩
  obtain ⟨a1, n1, c1, a2, n2, c2, a3, n3, c3, F1, F2, F3, rfl, h1, h2, h3, rfl⟩ := hr
  have HR : Hid (RdI w1 a1 n1 (skOf (List.replicate 28 0)).hist F1 ∧ RdI w1 a2 n2 (skOf (List.replicate 28 0)).regs F2 ∧ RdII w1 a3 n3 (skOf (List.replicate 28 0)).rows F3 ∧ Own (w.heap.size + 1) w1 (F1 ++ (F2 ++ F3)) ∧ Blk w1 w.heap.size _ 41 ∧ Below w.heap.size w w1) := ⟨h1, h2, h3, by simpa using ho, HT.out.1.below hb, Below.next HT.out.2 hb⟩
  clear h1 h2 h3 ho hb
  go_wp2_with (with_reducible refine stopStore 41 rfl ?_)
  refine store_known 41 w.heap.size _ #[.int .i64 0, .int .i64 0, .int .i64 0, .int .i64 0, .slice a1 n1 c1, .slice a2 n2 c2, .slice a3 n3 c3] 41 HR.out.2.2.2.2.1 rfl rfl rfl rfl (by kernel_rfl) rfl (by kernel_rfl) ?_
  go_wp2
  refine bodyPost_ret (results_cell_row Try.results29 _ _ w.heap.size _ _ _ _ rfl HR.out.2.2.2.2.1.setRow Try.underlying41 rfl (by kernel_rfl)) rfl ?_
  have nr : w.heap.size ∉ F1 ++ (F2 ++ F3) := fun hx => by have := HR.out.2.2.2.1.ge _ hx; omega
  have ag : Agree w1 (w1.setRow w.heap.size #[.int .i64 0, .int .i64 0, .int .i64 0, .int .i64 0, .slice a1 n1 c1, .slice a2 n2 c2, .slice a3 n3 c3]) (F1 ++ (F2 ++ F3)) := fun b hb => setRow_other w1 _ b _ (fun e => nr (e ▸ hb))
  exact ⟨_, F1 ++ (F2 ++ F3), rfl, ⟨a1, n1, c1, a2, n2, c2, a3, n3, c3, F1, F2, F3, rfl, HR.out.1.agree ag.left, HR.out.2.1.agree ag.right.left, HR.out.2.2.1.agree ag.right.right, rfl⟩, (HR.out.2.2.2.1.agree ag).mono (by omega), below_setRow HR.out.2.2.2.2.2 (Nat.le_refl _) _⟩
end Go.Proofs.Ytlapdamopclojaa
