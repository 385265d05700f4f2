/- The walks through SetText, of the model and of the program. No statement of the seat is proved here. -/
import Derived.Test.YtjiciigaeeibgabDoorSpText
import Derived.Test.YtjiciigaeeibgabDoorSpImpl
namespace Go.Proofs.YtjiciigaeeibgabDoor
open Go.RowKit Go.Sort
abbrev TabAt (w : World) : Prop := Lib.TabIs Tryd.prog w "internal/strconv.uint64pow10" .u64 Lib.pow10Tab
theorem digImplB (n : Int) (s : ByteArray) (hs : s = itB n) (w : World) (h : In64 n) (ht : TabAt w) : Calls Tryd.prog 41 #[.int .i64 n] w fun e w' => e = .returned (.string s) ∧ Below w.heap.size w w' := by
  subst hs
  exact digImpl_any n w h.1 h.2 ht
theorem addB (a b c : ByteArray) (hc : c = a ++ b) (h : a.size + b.size ≤ 1000000000) : ∀ wx : World, (Op.stringOp .add a b).run Tryd.prog wx = .ok (.string c) wx := fun wx => by
  subst hc
  exact run_string_add_sum (P := Tryd.prog) wx a b (by omega)
theorem empty_app (b : ByteArray) : (⟨#[]⟩ : ByteArray) ++ b = b := by
  apply ByteArray.ext
  rw [ByteArray.data_append]
  simp
end Go.Proofs.YtjiciigaeeibgabDoor
