/- The walk through the helper of the laws that copies a byte slice. No statement of the seat is proved here. -/
import Derived.Test.YtgoalcakfaellakBase
namespace Go.Proofs.Ytgoalcakfaellak
open Go.RowKit

/-- What a copy holds behind k rounds. -/
def half (zs : List Int) (k len : Nat) : List Int := zs.take k ++ List.replicate (len - k) 0
theorem half_zero (zs : List Int) (len : Nat) : half zs 0 len = List.replicate len 0 := by simp [half]
theorem half_end (zs : List Int) (len : Nat) (h : zs.length = len) : half zs len len = zs := by
  simp [half, List.take_of_length_le (Nat.le_of_eq h)]
theorem half_step (zs : List Int) (k len : Nat) (h : zs.length = len) (hk : k < len) : (half zs k len).set k (zs[k]?.getD 0) = half zs (k + 1) len := by
  unfold half
  have hkl : (zs.take k).length = k := by simp; omega
  rw [List.set_append_right k _ (by omega), hkl, Nat.sub_self, take_succ' zs k (by omega)]
  have e : List.replicate (len - k) (0 : Int) = 0 :: List.replicate (len - (k + 1)) 0 := by
    rw [show len - k = (len - (k + 1)) + 1 by omega]; rfl
  rw [e]
  simp
theorem half_map_step (zs : List Int) (k len : Nat) (h : zs.length = len) (hk : k < len) : ((half zs k len).map (Value.int .u8)).set k (.int .u8 (zs[k]?.getD 0)) = (half zs (k + 1) len).map (Value.int .u8) := by
  rw [← half_step zs k len h hk, List.map_set]

set_option maxHeartbeats 400000 in
theorem toByteS_any (a : Option Addr) (len cap : Nat) (zs : List Int) (w : World) (h : RdB w a len zs) (hlen : len ≤ 1048576) :
    Calls Try.prog 9 #[.slice a len cap] w fun e w' => e = .returned (.slice (some ⟨w.heap.size, 0, none⟩) len len) ∧
      w'.ownsRow w.heap.size 5 1 (.slice (some ⟨w.heap.size, 0, none⟩) len len) len (zs.map (Value.int .u8)) ∧ Below w.heap.size w w' := by
  obtain ⟨i0, hi, hz0, hz1, hz2⟩ := info_parts Try.info5
  have HL : Hid (zs.length = len) := h.length
  have hbase : w.heap.size ≤ w.heap.size := Nat.le_refl _
  rcases h.cells with h0 | ⟨b, off, rfl, hc⟩
  · subst h0
    have hz : zs = [] := List.eq_nil_of_length_eq_zero h.length
    subst hz
    clear h
    go_enter Try.func9, Try.ntmps9
    go_wp2_with (at_make; refine wpList_make_full _ rfl _ _ 22 rfl w.heap.size 5 i0 (.int .u8 0) 1 Try.underlying22 hi hz0 hz1 .i64 .i64 _ _ 0 rfl rfl (by simp) (by simp) (by omega) (by unfold maxLen; omega) (Nat.le_refl _) ?_; intro w1 hown hgrow)
    refine wp_loop_rounds 1 ?_
    rw [rounds_succ]
    go_wp2
    go_ret
    exact ⟨rfl, by simpa [Value.cells, toList_madeCells_one] using hown, (Below.refl _ _).grown hgrow (Nat.le_refl _) (fun k hk => by cases hk)⟩
  · have hb : 0 < len → b < w.heap.size := fun h0 => World.block_lt_of_cell? _ _ (hc 0 h0)
    clear h
    go_enter Try.func9, Try.ntmps9
    go_wp2_with (at_make; refine wpList_make_full _ rfl _ _ 22 rfl w.heap.size 5 i0 (.int .u8 0) 1 Try.underlying22 hi hz0 hz1 .i64 .i64 _ _ len rfl rfl rfl rfl (by rw [hz2]; omega) (by unfold maxLen; omega) (Nat.le_refl _) ?_; intro w1 hown hgrow)
    go_loopw [4] (fun i wr => ∃ k : Nat, k ≤ len ∧ i = .int .i64 k ∧ wr.ownsRow w.heap.size 5 1 (.slice (some ⟨w.heap.size, 0, none⟩) len len) len ((half zs k len).map (Value.int .u8)) ∧ Below w.heap.size w wr) (fun i _ => len - (intOf i).toNat)
    case atStart =>
      refine ⟨0, by omega, rfl, ?_, (Below.refl _ _).grown hgrow (Nat.le_refl _) (fun k hk => by cases hk)⟩
      rw [half_zero]
      simpa [Value.cells, toList_madeCells_one] using hown
    case round =>
      obtain ⟨k, hk, rfl, hown', hbel⟩ := hrel
      by_cases hlt : k < len
      · have hck : wr.cell? ⟨b, off + k, none⟩ = some (.int .u8 (zs.getD k 0)) := (hbel.cell (by exact hb (by omega))).trans (hc k hlt)
        obtain ⟨v0, hcg⟩ := own_some hown' k hlt
        have hcf := hown'.frozenAt k
        have R := hown'.stored k (.int .u8 (zs[k]?.getD 0))
        rw [half_map_step zs k len HL.out hlt] at R
        obtain ⟨R1, R2⟩ := R
        clear hown'
        go_wp2
        go_roundw
        case rel => exact ⟨k + 1, by omega, by go_num, R1, hbel.setCell (Nat.le_refl _) _⟩
        case measure => simp [intOf]; omega
      · obtain rfl : k = len := by omega
        rw [half_end zs k HL.out] at hown'
        go_wp2
        go_ret
        exact ⟨rfl, hown', hbel⟩
end Go.Proofs.Ytgoalcakfaellak
