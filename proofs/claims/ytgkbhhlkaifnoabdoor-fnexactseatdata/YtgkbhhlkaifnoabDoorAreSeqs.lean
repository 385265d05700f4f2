/- The walk through the program's areSeqs. No statement of the seat is proved here. -/
import Derived.Test.YtgkbhhlkaifnoabDoorFrModel
import Derived.Test.YtgkbhhlkaifnoabDoorSpImplA
namespace Go.Proofs.YtgkbhhlkaifnoabDoor
open Go.RowKit
set_option maxRecDepth 200000 in
set_option maxHeartbeats 2000000 in
theorem areSeqs_any (a : Option Addr) (len cap : Nat) (m : Int) (ps : Sp) (F : List Nat) (w : World) (h : RdP w a len ps F) (hlen : len ≤ 2097152) :
    Calls Tryd.prog 50 #[.slice a len cap, .int .i64 m] w fun e w' => e = .returned (.bool (ps.ok && ps.under m)) ∧ Below w.heap.size w w' := by
  have HL : Hid (ps.length = len ∧ RdP w a len ps F) := ⟨h.length, h⟩
  have HC : Hid (len = 0 ∨ ∃ b off, a = some ⟨b, off, none⟩ ∧ b < w.heap.size ∧ SpCells w b off len ps) := cells_of h
  clear h
  go_enter Tryd.func50, Tryd.ntmps50
  go_wp2
  go_loopw [9] (fun i wr => ∃ (k : Nat), k ≤ len ∧ i = .int .i64 k ∧ Hid (Below w.heap.size w wr) ∧ Hid (∀ j, j < k → 1 ≤ (ps.at j).1 ∧ (ps.at j).2 ≤ m)) (fun i _ => len - (intOf i).toNat)
  case atStart => exact ⟨0, by omega, rfl, Below.refl _ _, fun j hj => by omega⟩
  case round =>
    obtain ⟨k, hk, rfl, HB, HN⟩ := hrel
    by_cases hlt : k < len
    · have hca := HC.out
      rcases hca with h0 | ⟨b, off, rfl, hbw, hc⟩
      · omega
      obtain ⟨x, hx⟩ : ∃ x, x = (ps.at k).1 := ⟨_, rfl⟩
      obtain ⟨y, hy⟩ : ∃ x, x = (ps.at k).2 := ⟨_, rfl⟩
      have e := hc k hlt
      rw [← hx, ← hy] at e
      have d1 : wr.cell? ⟨b, off + k * 2, none⟩ = some (.int .i64 x) := (HB.out.cell (by exact hbw)).trans e.1
      have d2 : wr.cell? ⟨b, off + k * 2 + 1, none⟩ = some (.int .i64 y) := (HB.out.cell (by exact hbw)).trans e.2
      have HX : Hid (x = (ps.at k).1 ∧ y = (ps.at k).2 ∧ k < ps.length) := ⟨hx, hy, by rw [HL.out.1]; exact hlt⟩
      have HB2 : Hid (Below w.heap.size w (wr.alloc (.cells #[.int .i64 x, .int .i64 y] 42))) := Below.allocW _ HB.out (Nat.le_refl _)
      have hI : (k : Int) < (len : Int) := by omega
      clear e hx hy hc HB
      by_cases h1 : x < 1
      · have HV : Hid ((ps.ok && ps.under m) = false) := by
          show _ = _
          rw [Sp.under_not HX.out.2.2 (fun e => absurd e.1 (by rw [← HX.out.1]; omega)), Bool.and_false]
        go_wp2
        go_ret
        exact ⟨ret_bool HV.out.symm, HB2.out⟩
      by_cases h2 : m < y
      · have HV : Hid ((ps.ok && ps.under m) = false) := by
          show _ = _
          rw [Sp.under_not HX.out.2.2 (fun e => absurd e.2 (by rw [← HX.out.2.1]; omega)), Bool.and_false]
        go_wp2
        go_ret
        exact ⟨ret_bool HV.out.symm, HB2.out⟩
      have HN2 : Hid (∀ j, j < k + 1 → 1 ≤ (ps.at j).1 ∧ (ps.at j).2 ≤ m) := all_up HN.out ⟨by rw [← HX.out.1]; omega, by rw [← HX.out.2.1]; omega⟩
      go_wp2
      go_roundw
      case rel => exact ⟨k + 1, by omega, by go_num, HB2, HN2⟩
      case measure => simp [intOf]; omega
    · obtain rfl : k = len := by omega
      have HV : Hid (ps.under m = true) := Sp.under_all (fun j hj => HN.out j (by have := HL.out.1; omega))
      go_wp2_with fail
      refine (setOkImpl_any a k cap ps F _ (HL.out.2.below HB.out) hlen).mono ?_
      rintro e w2 ⟨rfl, hb2⟩
      have HB2 : Hid (Below w.heap.size w w2) := Below.next HB.out hb2
      clear hb2
      obtain ⟨d, hd⟩ : ∃ d, d = ps.ok := ⟨_, rfl⟩
      rw [← hd]
      have HD : Hid (d = ps.ok) := hd
      clear hd
      go_wp2
      go_ret
      rw [HV.out, Bool.and_true]
      exact ⟨ret_bool HD.out, HB2.out⟩
end Go.Proofs.YtgkbhhlkaifnoabDoor
