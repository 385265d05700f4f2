/- The walk through the laws' at0. No statement of the seat is proved here. -/
import Derived.Test.YtjndcfamfminkabBase
namespace Go.Proofs.Ytjndcfamfminkab
open Go.RowKit
def at0F (zs : List Int) (len i : Nat) : Int := if i < len then zs[i]?.getD 0 else ((i : Int) * 7 + len) % 256
theorem at0F_range (zs : List Int) (len i : Nat) (h : ∀ n ∈ zs, 0 ≤ n ∧ n ≤ 255) : 0 ≤ at0F zs len i ∧ at0F zs len i ≤ 255 := by
  unfold at0F; split
  · exact getD_range h i
  · omega
set_option maxRecDepth 200000 in
theorem at0_any (a : Option Addr) (len cap : Nat) (zs : List Int) (i : Nat) (w : World) (hR : RdB w a len zs) (hlen : len ≤ 1048576) (hi : i ≤ 1000) :
    Calls Try.prog 27 #[.slice a len cap, .int .i64 i] w fun e w' => e = .returned (.int .i64 (at0F zs len i)) ∧ w' = w := by
  by_cases hlt : i < len
  · obtain ⟨b, off, rfl, hc⟩ : ∃ b off, a = some ⟨b, off, none⟩ ∧ ∀ i, i < len → w.cell? ⟨b, off + i, none⟩ = some (.int .u8 (zs.getD i 0)) := by
      rcases hR.cells with h0 | h0
      · omega
      · exact h0
    have hck := hc i hlt
    have hb := getD_range hR.range i
    have hlt' : (i : Int) < (len : Int) := by omega
    clear hR hc
    go_enter Try.func27, Try.ntmps27
    go_wp2
    go_ret
    exact ⟨ret_int (by unfold at0F; rw [if_pos hlt]), rfl⟩
  · have hge : decide ((i : Int) < (len : Int)) = false := by simp; omega
    clear hR
    go_enter Try.func27, Try.ntmps27
    go_wp2
    go_ret
    exact ⟨ret_int (by unfold at0F; rw [if_neg hlt]), rfl⟩
end Go.Proofs.Ytjndcfamfminkab
