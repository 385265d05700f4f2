/- What the laws of all chapters share: their argument as it can be read, its size, its tail. No statement of the seat is proved here. -/
import Derived.Test.YtlapdamopclojaaBase
import Derived.ProofKit
namespace Go.Proofs.Ytlapdamopclojaa
open Go.RowKit Go.WideShapes

/-- What the opening of a law's byte slice tells. -/
theorem rdOf {w : World} {a : Option Addr} {len cap : Nat} {zs : List Int} (h : (a = none ∧ len = 0 ∧ cap = 0 ∧ zs = []) ∨
    ∃ x, a = some x ∧ len ≤ cap ∧ cap ≤ maxLen ∧ zs.length = cap ∧ (∀ i, i < zs.length → w.cell? (x.add i) = some (.int .u8 (zs.getD i 0))) ∧ ∀ n ∈ zs, (Lit.int .u8 n).wf = true) :
    RdB w a len (zs.take len) ∧ len ≤ cap ∧ cap ≤ maxLen := by
  rcases h with ⟨rfl, rfl, rfl, rfl⟩ | ⟨x, rfl, hl, hm, hz, hcell, hwz⟩
  · exact ⟨RdB.nil, Nat.le_refl _, by simp⟩
  · refine ⟨⟨by simp; omega, fun n hn => byte_wf (hwz n (List.mem_of_mem_take hn)), ?_⟩, hl, hm⟩
    by_cases h0 : len = 0
    · exact .inl h0
    · obtain ⟨b, off, spot⟩ := x
      have hspot : spot = none := by simpa [Addr.add] using World.cell?_spot (hcell 0 (by omega))
      subst hspot
      refine .inr ⟨b, off, rfl, fun i hi => ?_⟩
      have := hcell i (by omega)
      rw [add_plain] at this
      simpa [List.getElem?_take, hi] using this
theorem big_any (a : Option Addr) (len cap : Nat) (w : World) : Calls Try.prog 7 #[.slice a len cap] w fun e w' => e = .returned (.bool (decide ((1048576 : Int) < (len : Int)))) ∧ w' = w := by
  go_enter Try.func7, Try.ntmps7
  go_wp2
  go_ret
  exact ⟨rfl, rfl⟩
theorem RdB.tail {w : World} {b off len : Nat} {zs : List Int} (h : RdB w (some ⟨b, off, none⟩) (len + 1) zs) : RdB w (some ⟨b, off + 1, none⟩) len (zs.drop 1) := by
  refine ⟨by simp [h.length], fun n hn => h.range n (List.mem_of_mem_drop hn), ?_⟩
  rcases h.cells with h0 | ⟨b', off', ha, hc⟩
  · omega
  · obtain ⟨rfl, rfl⟩ : b = b' ∧ off = off' := by simpa using ha
    refine .inr ⟨b, off + 1, rfl, fun i hi => ?_⟩
    have := hc (i + 1) (by omega)
    rw [show off + 1 + i = off + (i + 1) by omega, this]
    simp
/-- A slice of bytes of this length at most, that can be read. -/
def ShortOf (w : World) (len : Nat) (e : Ending) : Prop := ∃ a' len' cap' zs', e = .returned (.slice a' len' cap') ∧ RdB w a' len' zs' ∧ len' ≤ len ∧ len' ≤ cap' ∧ cap' ≤ maxLen
theorem tail_any (a : Option Addr) (len cap : Nat) (zs : List Int) (w : World) (hR : RdB w a len zs) (hcap : len ≤ cap) (hmax : cap ≤ maxLen) :
    Calls Try.prog 18 #[.slice a len cap] w fun e w' => ShortOf w len e ∧ w' = w := by
  have HR : Hid (RdB w a len zs) := hR
  rcases hR.cells with h0 | ⟨b, off, rfl, hc⟩
  · subst h0
    clear hR
    go_enter Try.func18, Try.ntmps18
    go_wp2
    go_ret
    exact ⟨⟨a, 0, cap, zs, rfl, HR.out, Nat.le_refl _, hcap, hmax⟩, rfl⟩
  · clear hc hR
    cases len with
    | zero =>
      go_enter Try.func18, Try.ntmps18
      go_wp2
      go_ret
      exact ⟨⟨_, 0, cap, zs, rfl, HR.out, Nat.le_refl _, hcap, hmax⟩, rfl⟩
    | succ len =>
      have hb : (((len + 1 : Nat) : Int) == 0) = false := by simp; omega
      by_cases h1 : cap = 1
      · subst h1
        obtain rfl : len = 0 := by omega
        go_enter Try.func18, Try.ntmps18
        go_wp2
        go_ret
        exact ⟨⟨_, 0, 0, [], rfl, RdB.nil, by omega, by omega, by omega⟩, rfl⟩
      · go_enter Try.func18, Try.ntmps18
        go_wp2
        go_ret
        exact ⟨⟨_, len, cap - 1, zs.drop 1, rfl, HR.out.tail, by omega, by omega, by omega⟩, rfl⟩
end Go.Proofs.Ytlapdamopclojaa
