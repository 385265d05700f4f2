/- The walks through the program's SetOk, SetHas and SetSize. No statement of the seat is proved here. -/
import Derived.Test.YtgkbhhlkaifnoabDoorSpAlg
namespace Go.Proofs.YtgkbhhlkaifnoabDoor
open Go.RowKit
theorem cells_of {w : World} {a : Option Addr} {len : Nat} {ps : Sp} {F : List Nat} (h : RdP w a len ps F) : len = 0 ∨ ∃ b off, a = some ⟨b, off, none⟩ ∧ b < w.heap.size ∧ SpCells w b off len ps := by
  rcases h.cells with ⟨h0, _⟩ | ⟨b, off, hp, e, _, hc⟩
  · exact .inl h0
  · exact .inr ⟨b, off, e, World.block_lt_of_cell? _ _ (hc 0 hp).1, hc⟩
theorem floorAt_succ (ps : Sp) (k : Nat) : floorAt ps (k + 1) = (ps.at k).2 + 2 := by unfold floorAt; rw [if_neg (by omega), show k + 1 - 1 = k by omega]
set_option maxRecDepth 200000 in
set_option maxHeartbeats 2000000 in
theorem setOkImpl_any (a : Option Addr) (len cap : Nat) (ps : Sp) (F : List Nat) (w : World) (h : RdP w a len ps F) (hlen : len ≤ 2097152) :
    Calls Tryd.prog 40 #[.slice a len cap] w fun e w' => e = .returned (.bool ps.ok) ∧ Below w.heap.size w w' := by
  have HL : Hid (ps.length = len) := h.length
  have HC : Hid (len = 0 ∨ ∃ b off, a = some ⟨b, off, none⟩ ∧ b < w.heap.size ∧ SpCells w b off len ps) := cells_of h
  clear h
  go_enter Tryd.func40, Tryd.ntmps40
  go_wp2
  go_loopw [3, 8] (fun q i wr => ∃ (k : Nat) (l : Int), k ≤ len ∧ i = .int .i64 k ∧ q = .int .i64 l ∧ 0 ≤ l ∧ l ≤ 10001 ∧ Hid (Below w.heap.size w wr) ∧ Hid (l = floorAt ps k ∧ ∀ j, j < k → ps.okAt j = true)) (fun _ i _ => len - (intOf i).toNat)
  case atStart => exact ⟨0, 0, by omega, rfl, rfl, by omega, by omega, Below.refl _ _, rfl, fun j hj => by omega⟩
  case round =>
    obtain ⟨k, l, hk, rfl, rfl, l0, l1, HB, HN⟩ := hrel
    by_cases hlt : k < len
    · have hca := HC.out
      rcases hca with h0 | ⟨b, off, rfl, hbw, hc⟩
      · omega
      obtain ⟨x, hx⟩ : ∃ x, x = (ps.at k).1 := ⟨_, rfl⟩
      obtain ⟨y, hy⟩ : ∃ x, x = (ps.at k).2 := ⟨_, rfl⟩
      have e := hc k hlt
      rw [← hx, ← hy] at e
      have d1 : wr.cell? ⟨b, off + k * 2, none⟩ = some (.int .i64 x) := (HB.out.cell (by exact hbw)).trans e.1
      have d2 : wr.cell? ⟨b, off + k * 2 + 1, none⟩ = some (.int .i64 y) := (HB.out.cell (by exact hbw)).trans e.2
      have HX : Hid (x = (ps.at k).1 ∧ y = (ps.at k).2) := ⟨hx, hy⟩
      have HB2 : Hid (Below w.heap.size w (wr.alloc (.cells #[.int .i64 x, .int .i64 y] 42))) := Below.allocW _ HB.out (Nat.le_refl _)
      have HOK : Hid (ps.okAt k = true ↔ l ≤ x ∧ 0 ≤ x ∧ x ≤ y ∧ y ≤ 9999) := by
        have := okAt_iff ps k
        rw [← hx, ← hy] at this
        rw [HN.out.1]
        exact this
      have hI : (k : Int) < (len : Int) := by omega
      have hkl : k < ps.length := by rw [HL.out]; exact hlt
      clear e hx hy hc HB
      by_cases c1 : x < l
      · have c1d : decide (x < l) = true := decT c1
        have HV : Hid (ps.ok = false) := Sp.ok_not hkl (by rw [Bool.eq_false_iff]; exact fun e => by have := HOK.out.1 e; omega)
        go_wp2
        go_ret
        rw [HV.out]
        exact ⟨rfl, HB2.out⟩
      have c1d : decide (x < l) = false := decF c1
      by_cases c2 : y < x
      · have c2d : decide (y < x) = true := decT c2
        have HV : Hid (ps.ok = false) := Sp.ok_not hkl (by rw [Bool.eq_false_iff]; exact fun e => by have := HOK.out.1 e; omega)
        go_wp2
        go_ret
        rw [HV.out]
        exact ⟨rfl, HB2.out⟩
      have c2d : decide (y < x) = false := decF c2
      by_cases c3 : 9999 < y
      · have c3d : decide (9999 < y) = true := decT c3
        have HV : Hid (ps.ok = false) := Sp.ok_not hkl (by rw [Bool.eq_false_iff]; exact fun e => by have := HOK.out.1 e; omega)
        go_wp2
        go_ret
        rw [HV.out]
        exact ⟨rfl, HB2.out⟩
      have c3d : decide (9999 < y) = false := decF c3
      have HN2 : Hid (y + 2 = floorAt ps (k + 1) ∧ ∀ j, j < k + 1 → ps.okAt j = true) := ⟨by rw [floorAt_succ, HX.out.2], all_up HN.out.2 (HOK.out.2 ⟨by omega, by omega, by omega, by omega⟩)⟩
      go_wp2
      go_roundw
      case rel => exact ⟨k + 1, y + 2, by omega, by go_num, by go_num, by omega, by omega, HB2, HN2⟩
      case measure => simp [intOf]; omega
    · obtain rfl : k = len := by omega
      have HV : Hid (ps.ok = true) := Sp.ok_all (fun j hj => HN.out.2 j (by rw [← HL.out]; exact hj))
      go_wp2
      go_ret
      rw [HV.out]
      exact ⟨rfl, HB.out⟩
set_option maxRecDepth 200000 in
set_option maxHeartbeats 2000000 in
theorem hasImpl_any (a : Option Addr) (len cap : Nat) (ps : Sp) (n : Int) (F : List Nat) (w : World) (h : RdP w a len ps F) (hlen : len ≤ 2097152) :
    Calls Tryd.prog 39 #[.slice a len cap, .int .i64 n] w fun e w' => e = .returned (.bool (ps.has n)) ∧ Below w.heap.size w w' := by
  have HL : Hid (ps.length = len) := h.length
  have HC : Hid (len = 0 ∨ ∃ b off, a = some ⟨b, off, none⟩ ∧ b < w.heap.size ∧ SpCells w b off len ps) := cells_of h
  clear h
  go_enter Tryd.func39, Tryd.ntmps39
  go_wp2
  go_loopw [9] (fun i wr => ∃ (k : Nat), k ≤ len ∧ i = .int .i64 k ∧ Hid (Below w.heap.size w wr) ∧ Hid (∀ j, j < k → ¬ ((ps.at j).1 ≤ n ∧ n ≤ (ps.at j).2))) (fun i _ => len - (intOf i).toNat)
  case atStart => exact ⟨0, by omega, rfl, Below.refl _ _, fun j hj => by omega⟩
  case round =>
    obtain ⟨k, hk, rfl, HB, HN⟩ := hrel
    by_cases hlt : k < len
    · have hca := HC.out
      rcases hca with h0 | ⟨b, off, rfl, hbw, hc⟩
      · omega
      obtain ⟨x, hx⟩ : ∃ x, x = (ps.at k).1 := ⟨_, rfl⟩
      obtain ⟨y, hy⟩ : ∃ x, x = (ps.at k).2 := ⟨_, rfl⟩
      have e := hc k hlt
      rw [← hx, ← hy] at e
      have d1 : wr.cell? ⟨b, off + k * 2, none⟩ = some (.int .i64 x) := (HB.out.cell (by exact hbw)).trans e.1
      have d2 : wr.cell? ⟨b, off + k * 2 + 1, none⟩ = some (.int .i64 y) := (HB.out.cell (by exact hbw)).trans e.2
      have HX : Hid (x = (ps.at k).1 ∧ y = (ps.at k).2) := ⟨hx, hy⟩
      have HB2 : Hid (Below w.heap.size w (wr.alloc (.cells #[.int .i64 x, .int .i64 y] 42))) := Below.allocW _ HB.out (Nat.le_refl _)
      have hI : (k : Int) < (len : Int) := by omega
      have hkl : k < ps.length := by rw [HL.out]; exact hlt
      clear e hx hy hc HB
      by_cases hin : x ≤ n ∧ n ≤ y
      · have HV : Hid (ps.has n = true) := Sp.has_at hkl (by rw [← HX.out.1, ← HX.out.2]; exact hin)
        have c1d : decide (x ≤ n) = true := decT hin.1
        have c2d : decide (n ≤ y) = true := decT hin.2
        go_wp2
        go_ret
        rw [HV.out]
        exact ⟨rfl, HB2.out⟩
      have HN2 : Hid (∀ j, j < k + 1 → ¬ ((ps.at j).1 ≤ n ∧ n ≤ (ps.at j).2)) := all_up HN.out (by rw [← HX.out.1, ← HX.out.2]; exact hin)
      by_cases c1 : x ≤ n
      · have c1d : decide (x ≤ n) = true := decT c1
        have c2d : decide (n ≤ y) = false := decF (fun e => hin ⟨c1, e⟩)
        clear hin c1
        go_wp2
        go_roundw
        case rel => exact ⟨k + 1, by omega, by go_num, HB2, HN2⟩
        case measure => simp [intOf]; omega
      · have c1d : decide (x ≤ n) = false := decF c1
        clear hin c1
        go_wp2
        go_roundw
        case rel => exact ⟨k + 1, by omega, by go_num, HB2, HN2⟩
        case measure => simp [intOf]; omega
    · obtain rfl : k = len := by omega
      have HV : Hid (ps.has n = false) := Sp.has_not (fun j hj => HN.out j (by rw [← HL.out]; exact hj))
      go_wp2
      go_ret
      rw [HV.out]
      exact ⟨rfl, HB.out⟩
set_option maxRecDepth 200000 in
set_option maxHeartbeats 2000000 in
theorem sizeImpl_any (a : Option Addr) (len cap : Nat) (ps : Sp) (F : List Nat) (w : World) (h : RdP w a len ps F) (hlen : len ≤ 2097152) :
    Calls Tryd.prog 51 #[.slice a len cap] w fun e w' => e = .returned (.int .i64 ps.size) ∧ Below w.heap.size w w' := by
  have HL : Hid (ps.length = len) := h.length
  have HR : Hid (RdP w a len ps F) := h
  have HC : Hid (len = 0 ∨ ∃ b off, a = some ⟨b, off, none⟩ ∧ b < w.heap.size ∧ SpCells w b off len ps) := cells_of h
  clear h
  go_enter Tryd.func51, Tryd.ntmps51
  go_wp2_with fail
  refine (setOkImpl_any a len cap ps F _ HR.out (by omega)).mono ?_
  rintro e w1 ⟨rfl, hb⟩
  have HB0 : Hid (Below w.heap.size w w1) := hb
  clear hb HR
  obtain ⟨d, hd⟩ : ∃ d, d = ps.ok := ⟨_, rfl⟩
  rw [← hd]
  have HD : Hid (d = ps.ok) := hd
  clear hd
  cases d
  · go_wp2
    go_ret
    rw [Sp.size_not HD.out.symm]
    exact ⟨rfl, HB0.out⟩
  go_wp2
  go_loopw [3, 11] (fun q i wr => ∃ (k : Nat) (u : Int), k ≤ len ∧ i = .int .i64 k ∧ q = .int .i64 u ∧ 0 ≤ u ∧ u ≤ 20971520000 ∧ Hid (Below w.heap.size w wr) ∧ Hid (u = Sp.sum (ps.take k))) (fun _ i _ => len - (intOf i).toNat)
  case atStart => exact ⟨0, 0, by omega, rfl, rfl, by omega, by omega, HB0, rfl⟩
  case round =>
    clear HB0
    obtain ⟨k, u, hk, rfl, rfl, u0, u1, HB, HN⟩ := hrel
    by_cases hlt : k < len
    · have hca := HC.out
      rcases hca with h0 | ⟨b, off, rfl, hbw, hc⟩
      · omega
      obtain ⟨x, hx⟩ : ∃ x, x = (ps.at k).1 := ⟨_, rfl⟩
      obtain ⟨y, hy⟩ : ∃ x, x = (ps.at k).2 := ⟨_, rfl⟩
      have e := hc k hlt
      have hok := (Sp.okAt_parts (Sp.ok_at HD.out.symm k (by rw [HL.out]; exact hlt))).1
      have hst := Sp.sum_step (ps := ps) (k := k) (by rw [HL.out]; exact hlt)
      have hrg := Sp.sum_range HD.out.symm (k + 1) (by rw [HL.out]; exact hlt)
      rw [← hx, ← hy] at e hok hst
      have d1 : wr.cell? ⟨b, off + k * 2, none⟩ = some (.int .i64 x) := (HB.out.cell (by exact hbw)).trans e.1
      have d2 : wr.cell? ⟨b, off + k * 2 + 1, none⟩ = some (.int .i64 y) := (HB.out.cell (by exact hbw)).trans e.2
      have HB2 : Hid (Below w.heap.size w (wr.alloc (.cells #[.int .i64 x, .int .i64 y] 42))) := Below.allocW _ HB.out (Nat.le_refl _)
      have hI : (k : Int) < (len : Int) := by omega
      have x0 : 0 ≤ x := by omega
      have x1 : x ≤ 9999 := by omega
      have y0 : 0 ≤ y := by omega
      have y1 : y ≤ 9999 := by omega
      have HN2 : Hid (u + (y - x + 1) = Sp.sum (ps.take (k + 1)) ∧ 0 ≤ u + (y - x + 1) ∧ u + (y - x + 1) ≤ 20971520000) := by
        have := HN.out
        rw [hst, ← this] at hrg
        exact ⟨by rw [hst, ← this], by omega, by omega⟩
      clear e hx hy hok hst hrg hc HB
      go_wp2
      go_roundw
      case rel => exact ⟨k + 1, u + (y - x + 1), by omega, by go_num, by go_num, HN2.out.2.1, HN2.out.2.2, HB2, HN2.out.1⟩
      case measure => simp [intOf]; omega
    · obtain rfl : k = len := by omega
      have HV : Hid (u = ps.size) := by
        show _ = _
        rw [Sp.size_ok HD.out.symm, HN.out, List.take_of_length_le (by rw [HL.out]; omega)]
      go_wp2
      go_ret
      rw [← HV.out]
      exact ⟨rfl, HB.out⟩
end Go.Proofs.YtgkbhhlkaifnoabDoor
