/- The walks through the model's SetSize and SetApart. No statement of the seat is proved here. -/
import Derived.Test.YtgkbhhlkaifnoabDoorSpModel
namespace Go.Proofs.YtgkbhhlkaifnoabDoor
open Go.RowKit
def Sp.sum (ps : Sp) : Int := (ps.map fun p => p.2 - p.1 + 1).sum
def Sp.size (ps : Sp) : Int := if ps.ok = true then ps.sum else 0
theorem Sp.sum_snoc (ps : Sp) (p : Int × Int) : Sp.sum (ps ++ [p]) = ps.sum + (p.2 - p.1 + 1) := by simp [Sp.sum]
theorem Sp.sum_step {ps : Sp} {k : Nat} (hk : k < ps.length) : Sp.sum (ps.take (k + 1)) = Sp.sum (ps.take k) + ((ps.at k).2 - (ps.at k).1 + 1) := by
  rw [takeP_succ ps k hk, Sp.sum_snoc]
  rfl
theorem Sp.sum_nil : Sp.sum [] = 0 := rfl
theorem Sp.sum_range {ps : Sp} (h : ps.ok = true) : ∀ k, k ≤ ps.length → 0 ≤ Sp.sum (ps.take k) ∧ Sp.sum (ps.take k) ≤ 10000 * k
  | 0, _ => by simp [Sp.sum]
  | k + 1, hk => by
    have ih := Sp.sum_range h k (by omega)
    have e := Sp.sum_step (ps := ps) (k := k) (by omega)
    have p := (Sp.okAt_parts (Sp.ok_at h k (by omega))).1
    omega
theorem Sp.size_not {ps : Sp} (h : ps.ok = false) : ps.size = 0 := by unfold Sp.size; rw [h]; rfl
theorem Sp.size_ok {ps : Sp} (h : ps.ok = true) : ps.size = ps.sum := by unfold Sp.size; rw [if_pos h]
set_option maxRecDepth 200000 in
set_option maxHeartbeats 2000000 in
theorem sizeSpec_any (a : Option Addr) (len cap : Nat) (ps : Sp) (F : List Nat) (w : World) (h : RdP w a len ps F) (hlen : len ≤ 2097152) :
    Calls Tryd.prog 28 #[.slice a len cap] w fun e w' => e = .returned (.int .i64 ps.size) ∧ ∃ m, w' = w.drewN m := by
  have HL : Hid (ps.length = len) := h.length
  have HR : Hid (RdP w a len ps F) := h
  clear h
  go_enter Tryd.func28, Tryd.ntmps28
  go_wp2_with fail
  refine (setOkSpec_any a len cap ps F _ HR.out (by omega)).mono ?_
  rintro e w1 ⟨rfl, hq⟩
  have HQ0 : Hid (QuietTo w w1) := hq
  clear hq
  obtain ⟨d, hd⟩ : ∃ d, d = ps.ok := ⟨_, rfl⟩
  rw [← hd]
  have HD : Hid (d = ps.ok) := hd
  clear hd
  cases d
  · go_wp2
    go_ret
    rw [Sp.size_not HD.out.symm]
    exact ⟨rfl, HQ0.out⟩
  rcases HR.out.cells with ⟨rfl, _, rfl⟩ | ⟨b, off, hp, rfl, _, hc⟩
  · go_wp2
    refine wp_loop_rounds 1 ?_
    rw [rounds_succ]
    go_wp2
    go_ret
    exact ⟨rfl, HQ0.out⟩
  · have HC : Hid (SpCells w b off len ps) := hc
    clear hc
    go_wp2
    go_loopw [3, 4] (fun q i wr => ∃ (k : Nat) (u : Int), k ≤ len ∧ i = .int .i64 k ∧ q = .int .i64 u ∧ 0 ≤ u ∧ u ≤ 20971520000 ∧ Hid (QuietTo w wr) ∧ Hid (u = Sp.sum (ps.take k))) (fun _ i _ => len - (intOf i).toNat)
    case atStart => exact ⟨0, 0, by omega, rfl, rfl, by omega, by omega, HQ0, rfl⟩
    case round =>
      obtain ⟨k, u, hk, rfl, rfl, u0, u1, HQ, HN⟩ := hrel
      by_cases hlt : k < len
      · obtain ⟨x, hx⟩ : ∃ x, x = (ps.at k).1 := ⟨_, rfl⟩
        obtain ⟨y, hy⟩ : ∃ x, x = (ps.at k).2 := ⟨_, rfl⟩
        have e := HC.out k hlt
        have hok := (Sp.okAt_parts (Sp.ok_at HD.out.symm k (by rw [HL.out]; exact hlt))).1
        have hst := Sp.sum_step (ps := ps) (k := k) (by rw [HL.out]; exact hlt)
        have hrg := Sp.sum_range HD.out.symm (k + 1) (by rw [HL.out]; exact hlt)
        rw [← hx, ← hy] at e hok hst
        have d1 : wr.cell? ⟨b, off + k * 2, none⟩ = some (.int .i64 x) := (HQ.out.cell _).trans e.1
        have d2 : wr.cell? ⟨b, off + k * 2 + 1, none⟩ = some (.int .i64 y) := (HQ.out.cell _).trans e.2
        have hI : (k : Int) < (len : Int) := by omega
        have x0 : 0 ≤ x := by omega
        have x1 : x ≤ 9999 := by omega
        have y0 : 0 ≤ y := by omega
        have y1 : y ≤ 9999 := by omega
        have HN2 : Hid (u + y - x + 1 = Sp.sum (ps.take (k + 1)) ∧ 0 ≤ u + y - x + 1 ∧ u + y - x + 1 ≤ 20971520000) := by
          have := HN.out
          rw [hst, ← this] at hrg
          exact ⟨by rw [hst, ← this]; omega, by omega, by omega⟩
        clear e hx hy hok hst hrg
        go_wp2
        go_quiet (fail)
        go_wp2
        go_roundw
        case rel => exact ⟨k + 1, u + y - x + 1, by omega, by go_num, by go_num, HN2.out.2.1, HN2.out.2.2, HQ.out.drewN _, HN2.out.1⟩
        case measure => simp [intOf]; omega
      · obtain rfl : k = len := by omega
        have HV : Hid (u = ps.size) := by
          show _ = _
          rw [Sp.size_ok HD.out.symm, HN.out, List.take_of_length_le (by rw [HL.out]; omega)]
        go_wp2
        go_ret
        rw [← HV.out]
        exact ⟨rfl, HQ.out⟩
def meet (p q : Int × Int) : Bool := decide (p.1 ≤ q.2 ∧ q.1 ≤ p.2)
def Sp.apart (ps qs : Sp) : Bool := ps.ok && qs.ok && ps.all fun p => qs.all fun q => !meet p q
theorem Sp.apart_not {ps qs : Sp} (h : (ps.ok && qs.ok) = false) : ps.apart qs = false := by unfold Sp.apart; rw [h]; rfl
theorem Sp.apart_meet {ps qs : Sp} {i k : Nat} (hi : i < ps.length) (hk : k < qs.length) (h : (ps.at i).1 ≤ (qs.at k).2 ∧ (qs.at k).1 ≤ (ps.at i).2) : ps.apart qs = false := by
  unfold Sp.at at h
  rw [List.getElem?_eq_getElem hi, List.getElem?_eq_getElem hk] at h
  unfold Sp.apart
  rw [Bool.and_eq_false_iff]
  right
  rw [List.all_eq_false]
  refine ⟨ps[i], List.getElem_mem hi, ?_⟩
  rw [Bool.not_eq_true, List.all_eq_false]
  refine ⟨qs[k], List.getElem_mem hk, ?_⟩
  unfold meet
  rw [decT (by simpa using h)]
  decide
theorem Sp.apart_yes {ps qs : Sp} (h1 : ps.ok = true) (h2 : qs.ok = true) (h : ∀ i, i < ps.length → ∀ k, k < qs.length → ¬ ((ps.at i).1 ≤ (qs.at k).2 ∧ (qs.at k).1 ≤ (ps.at i).2)) : ps.apart qs = true := by
  unfold Sp.apart
  rw [h1, h2]
  simp only [Bool.and_self, Bool.true_and]
  rw [List.all_eq_true]
  intro p hp
  rw [List.all_eq_true]
  intro q hq
  obtain ⟨i, hi, rfl⟩ := List.getElem_of_mem hp
  obtain ⟨k, hk, rfl⟩ := List.getElem_of_mem hq
  have := h i hi k hk
  unfold Sp.at at this
  rw [List.getElem?_eq_getElem hi, List.getElem?_eq_getElem hk] at this
  unfold meet
  rw [decF (by simpa using this)]
  rfl
end Go.Proofs.YtgkbhhlkaifnoabDoor
