/- The walks through the program's cutting of a set, and its going through two sets. No statement of the seat is proved here. -/
import Derived.Test.YtgkbhhlkaifnoaaSpLay2
namespace Go.Proofs.Ytgkbhhlkaifnoaa
open Go.RowKit
theorem flat_take : ∀ (ps : Sp) (k : Nat), flat (ps.take k) = (flat ps).take (2 * k)
  | [], k => by simp [flat]
  | p :: ps, 0 => by simp [flat]
  | p :: ps, k + 1 => by rw [List.take_succ_cons, flat, flat, flat_take ps k, show 2 * (k + 1) = 2 * k + 1 + 1 by omega, List.take_succ_cons, List.take_succ_cons]
theorem flat_drop : ∀ (ps : Sp) (k : Nat), flat (ps.drop k) = (flat ps).drop (2 * k)
  | [], k => by simp [flat]
  | p :: ps, 0 => by simp [flat]
  | p :: ps, k + 1 => by rw [List.drop_succ_cons, flat, flat_drop ps k, show 2 * (k + 1) = 2 * k + 1 + 1 by omega, List.drop_succ_cons, List.drop_succ_cons]
theorem RdP.take {w : World} {a : Option Addr} {len : Nat} {ps : Sp} {F : List Nat} (h : RdP w a len ps F) {k : Nat} (hk : k ≤ len) : ∃ G, RdP w a k (ps.take k) G ∧ ∀ b ∈ G, b ∈ F := by
  have hl := h.length
  by_cases h0 : k = 0
  · subst h0
    exact ⟨[], by simpa using (RdP.nil (w := w) (a := a)), by simp⟩
  · rcases h.rd.cells with ⟨e, _⟩ | ⟨b, off, hp, e, eF, hc⟩
    · omega
    · refine ⟨F, ⟨by simp; omega, ?_, .inr ⟨b, off, by omega, e, eF, fun i hi => ?_⟩⟩, fun b hb => hb⟩
      · rw [flat_length]; simp; omega
      · rw [hc i (by omega), flat_take]
        simp [List.getD_eq_getElem?_getD, hi]
theorem RdP.drop {w : World} {b off len : Nat} {ps : Sp} {F : List Nat} (h : RdP w (some ⟨b, off, none⟩) len ps F) {k : Nat} (hk : k < len) : RdP w (some ⟨b, off + k * 2, none⟩) (len - k) (ps.drop k) F := by
  have hl := h.length
  rcases h.rd.cells with ⟨e, _⟩ | ⟨b', off', hp, e, eF, hc⟩
  · omega
  · obtain ⟨rfl, rfl⟩ : b = b' ∧ off = off' := by simpa using e
    refine ⟨by simp; omega, ?_, .inr ⟨b, off + k * 2, by omega, rfl, eF, fun i hi => ?_⟩⟩
    · rw [flat_length]; simp; omega
    · rw [show off + k * 2 + i = off + (2 * k + i) by omega, hc (2 * k + i) (by omega), flat_drop]
      simp [List.getD_eq_getElem?_getD]
theorem cutN_at {ps : Sp} {k : Nat} {n : Int} (hk : k < ps.length) (h : (ps.at k).1 ≤ n) : cutN (ps.drop k) n = cutN (ps.drop (k + 1)) n + 1 := by rw [drop_at hk, cutN, if_pos h]
theorem cutN_stop {ps : Sp} {k : Nat} {n : Int} (hk : k < ps.length) (h : ¬ (ps.at k).1 ≤ n) : cutN (ps.drop k) n = 0 := by rw [drop_at hk, cutN, if_neg h]
/-- What a cut tells: the part ahead, the part behind, both out of what was there. -/
def CutTo (w : World) (ps : Sp) (F : List Nat) (k : Nat) (e : Ending) (w' : World) : Prop :=
  ∃ a1 l1 c1 a2 l2 c2 F1 F2, e = .returned (.tuple #[.slice a1 l1 c1, .slice a2 l2 c2]) ∧ RdP w a1 l1 (ps.take k) F1 ∧ RdP w a2 l2 (ps.drop k) F2 ∧ (∀ b ∈ F1, b ∈ F) ∧ (∀ b ∈ F2, b ∈ F) ∧ l2 ≤ c2 ∧ QuietTo w w'
set_option maxRecDepth 200000 in
set_option maxHeartbeats 4000000 in
theorem cutAt_any (a : Option Addr) (len cap : Nat) (ps : Sp) (n : Int) (F : List Nat) (w : World) (h : RdP w a len ps F) (hlen : len ≤ 4194304) (hcap : len ≤ cap) :
    Calls Try.prog 116 #[.slice a len cap, .int .i64 n] w fun e w' => CutTo w ps F (cutN ps n) e w' := by
  have HL : Hid (ps.length = len) := h.length
  have HR : Hid (RdP w a len ps F) := h
  have HC : Hid (len = 0 ∨ ∃ b off, a = some ⟨b, off, none⟩ ∧ b < w.heap.size ∧ SpCells w b off len ps) := cells_of h
  have HS : Hid (∀ k, k ≤ len → ∀ w', QuietTo w w' → CutTo w ps F k (.returned (.tuple #[.slice a k k, .slice (if len = k then a else a.map (·.add (k * 2))) (len - k) (len - k)])) w') := by
    intro k hk w' hq
    obtain ⟨F1, r1, g1⟩ := h.take hk
    by_cases e : len = k
    · refine ⟨_, _, _, _, _, _, F1, [], rfl, r1, ?_, g1, by simp, Nat.le_refl _, hq⟩
      rw [List.drop_eq_nil_of_le (by rw [h.length]; omega), show len - k = 0 by omega]
      exact RdP.nil
    · rcases cells_of h with h0 | ⟨b, off, rfl, _, _⟩
      · omega
      · refine ⟨_, _, _, _, _, _, F1, F, rfl, r1, ?_, g1, fun b hb => hb, Nat.le_refl _, hq⟩
        rw [if_neg e]
        simp only [Option.map_some, Addr.add_lit]
        exact h.drop (k := k) (by omega)
  clear h
  go_enter Try.func116, Try.ntmps116
  go_wp2
  go_loopw [6] (fun i wr => ∃ (k : Nat), k ≤ len ∧ i = .int .i64 k ∧ Hid (QuietTo w wr) ∧ Hid (cutN ps n = k + cutN (ps.drop k) n)) (fun i _ => len - (intOf i).toNat)
  case atStart => exact ⟨0, by omega, rfl, QuietTo.refl _, by show _ = _; simp⟩
  case round =>
    obtain ⟨k, hk, rfl, HW, HN⟩ := hrel
    by_cases hlt : k < len
    · have hca := HC.out
      rcases hca with h0 | ⟨b, off, rfl, hbw, hc⟩
      · omega
      obtain ⟨x, hx⟩ : ∃ x, x = (ps.at k).1 := ⟨_, rfl⟩
      have e := (hc k hlt).1
      rw [← hx] at e
      have d1 : wr.cell? ⟨b, off + k * 2, none⟩ = some (.int .i64 x) := (HW.out.cell _).trans e
      have HX : Hid (x = (ps.at k).1) := hx
      have hI : (k : Int) < (len : Int) := by omega
      have hkl : k < ps.length := by rw [HL.out]; exact hlt
      clear hx hc e
      by_cases c : x ≤ n
      · have cd : decide (x ≤ n) = true := decT c
        have HN2 : Hid (cutN ps n = k + 1 + cutN (ps.drop (k + 1)) n) := by
          have := HN.out
          rw [cutN_at hkl (by rw [← HX.out]; exact c)] at this
          show _ = _
          omega
        go_wp2
        go_roundw
        case rel => exact ⟨k + 1, by omega, by go_num, HW, HN2⟩
        case measure => simp [intOf]; omega
      · have cd : decide (x ≤ n) = false := decF c
        have HK : Hid (cutN ps n = k) := by
          have := HN.out
          rw [cutN_stop hkl (by rw [← HX.out]; exact c)] at this
          show _ = _
          omega
        have hne : ¬ len = k := by omega
        have i1 : (k : Int) ≤ (len : Int) := by omega
        have i2 : (len : Int) ≤ (cap : Int) := by omega
        have i3 : (k : Int) ≤ (cap : Int) := by omega
        have HT : Hid (∀ w', QuietTo w w' → CutTo w ps F (cutN ps n) (.returned (.tuple #[.slice (some ⟨b, off, none⟩) k k, .slice (some ⟨b, off + k * 2, none⟩) (len - k) (len - k)])) w') := by
          intro w' hq
          have := HS.out k (by omega) w' hq
          rw [if_neg hne] at this
          simp only [Option.map_some, Addr.add_lit] at this
          rw [HK.out]
          exact this
        go_wp2
        go_quiet (fail)
        go_wp2
        go_ret2
        exact HT.out _ (HW.out.drewN _)
    · obtain rfl : k = len := by omega
      have HK : Hid (cutN ps n = k) := by
        have := HN.out
        rw [List.drop_eq_nil_of_le (by rw [HL.out]; omega)] at this
        exact this
      have hg : decide ((k : Int) < (k : Int)) = false := decF (by omega)
      have i2 : (k : Int) ≤ (cap : Int) := by omega
      have HT : Hid (∀ w', QuietTo w w' → CutTo w ps F (cutN ps n) (.returned (.tuple #[.slice a k k, .slice a 0 0])) w') := by
        intro w' hq
        have := HS.out k (by omega) w' hq
        rw [if_pos rfl, Nat.sub_self] at this
        rw [HK.out]
        exact this
      go_wp2
      go_quiet (fail)
      go_wp2
      go_ret2
      exact HT.out _ (HW.out.drewN _)
end Go.Proofs.Ytgkbhhlkaifnoaa
