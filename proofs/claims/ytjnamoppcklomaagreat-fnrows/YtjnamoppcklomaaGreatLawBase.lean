/- What the laws of all chapters share: their argument as it can be read, its size, its tail. No statement of the seat is proved here. -/
import Derived.Test.YtjnamoppcklomaaGreatBase
import Derived.ProofKit
set_option maxRecDepth 200000
set_option maxHeartbeats 16000000
namespace Go.Proofs.YtjnamoppcklomaaGreat
open Go.RowKit Go.WideShapes
theorem rdOf {w : World} {a : Option Addr} {len cap : Nat} {zs : List Int} (h : (a = none ∧ len = 0 ∧ cap = 0 ∧ zs = []) ∨
    ∃ x, a = some x ∧ len ≤ cap ∧ cap ≤ maxLen ∧ zs.length = cap ∧ (∀ i, i < zs.length → w.cell? (x.add i) = some (.int .u8 (zs.getD i 0))) ∧ ∀ n ∈ zs, (Lit.int .u8 n).wf = true) :
 RdB w a len (zs.take len) ∧ len ≤ cap ∧ cap ≤ maxLen := by
 rcases h with ⟨rfl, rfl, rfl, rfl⟩ | ⟨x, rfl, hl, hm, hz, hcell, hwz⟩
 ·
  exact ⟨RdB.nil, Nat.le_refl _, by simp⟩
 ·
  refine ⟨⟨by simp; omega, fun n hn => byte_wf (hwz n (List.mem_of_mem_take hn)), ?_⟩, hl, hm⟩
  by_cases h0 : len = 0
  ·
   exact .inl h0
  ·
   obtain ⟨b, off, spot⟩ := x
   have hspot : spot = none := by simpa [Addr.add] using World.cell?_spot (hcell 0 (by omega))
   subst hspot
   refine .inr ⟨b, off, rfl, fun i hi => ?_⟩
   have := hcell i (by omega)
   rw [add_plain] at this
   simpa [List.getElem?_take, hi] using this
theorem big_any (a : Option Addr) (len cap : Nat) (w : World) : Calls Tryz.prog 5 #[.slice a len cap] w fun e w' => e = .returned (.bool (decide ((1048576 : Int) < (len : Int)))) ∧ w' = w := by
 go_enter Tryz.func5, Tryz.ntmps5
 go_wp2
 go_ret
 exact ⟨rfl, rfl⟩
end Go.Proofs.YtjnamoppcklomaaGreat
