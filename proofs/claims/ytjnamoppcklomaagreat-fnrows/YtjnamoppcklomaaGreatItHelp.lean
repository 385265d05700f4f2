/- The walks through the helpers of the laws over items: making, weighing, comparing. No statement of the seat is proved here. -/
import Derived.Test.YtjnamoppcklomaaGreatItData
namespace Go.Proofs.YtjnamoppcklomaaGreat
open Go.RowKit
theorem Agree.row {w : World} {F : List Nat} {g : Nat} (hg : g ∉ F) (ds : Array Value) : Agree w (w.setRow g ds) F := fun b hb => setRow_other w g b ds (fun e => hg (e ▸ hb))
theorem RdSk.cells7 {w : World} {v : Value} {s : Sk} {F : List Nat} (h : RdSk w v s F) : ∃ a1 n1 c1 a2 n2 c2 a3 n3 c3, v = .agg #[.int .i64 s.count, .int .i64 s.sum, .int .i64 s.min, .int .i64 s.max, .slice a1 n1 c1, .slice a2 n2 c2, .slice a3 n3 c3] := by
 obtain ⟨a1, n1, c1, a2, n2, c2, a3, n3, c3, F1, F2, F3, rfl, _⟩ := h
 exact ⟨a1, n1, c1, a2, n2, c2, a3, n3, c3, rfl⟩
theorem one7 (p q r s : Int) (a1 : Option Addr) (n1 c1 : Nat) (a2 : Option Addr) (n2 c2 : Nat) (a3 : Option Addr) (n3 c3 : Nat) : (#[Value.int .i64 p, .int .i64 q, .int .i64 r, .int .i64 s, .slice a1 n1 c1, .slice a2 n2 c2, .slice a3 n3 c3] : Array Value).all (·.oneCell') = true := by
 simp [Value.oneCell']
theorem infoSkI : (Tryz.prog.info? 31).map (·.size) = some 7 := by kernel_rfl
end Go.Proofs.YtjnamoppcklomaaGreat
