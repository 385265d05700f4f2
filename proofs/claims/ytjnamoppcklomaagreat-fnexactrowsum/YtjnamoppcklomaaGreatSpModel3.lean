/- The walk through the model's SetApart. No statement of the seat is proved here. -/
import Derived.Test.YtjnamoppcklomaaGreatSpModel2
namespace Go.Proofs.YtjnamoppcklomaaGreat
open Go.RowKit
theorem QuietTo.trans {a b c : World} (h : QuietTo a b) (k : QuietTo b c) : QuietTo a c := by
  obtain ⟨m, rfl⟩ := h
  obtain ⟨n, rfl⟩ := k
  exact ⟨m + n, World.drewN_drewN ..⟩
theorem RdP.quiet {w w' : World} {a : Option Addr} {len : Nat} {ps : Sp} {F : List Nat} (h : RdP w a len ps F) (q : QuietTo w w') : RdP w' a len ps F := h.below (quiet_below q)
set_option maxRecDepth 200000 in
set_option maxHeartbeats 4000000 in
theorem apartSpec_any (a b : Option Addr) (la lb ca cb : Nat) (ps qs : Sp) (F G : List Nat) (w : World) (h : RdP w a la ps F) (k : RdP w b lb qs G) (hla : la ≤ 140737488355328) (hlb : lb ≤ 140737488355328) :
    Calls Tryz.prog 69 #[.slice a la ca, .slice b lb cb] w fun e w' => e = .returned (.bool (ps.apart qs)) ∧ ∃ m, w' = w.drewN m := by
  have HL : Hid (ps.length = la ∧ qs.length = lb) := ⟨h.length, k.length⟩
  have HR : Hid (RdP w a la ps F ∧ RdP w b lb qs G) := ⟨h, k⟩
  clear h k
  go_enter Tryz.func69, Tryz.ntmps69
  go_wp2_with fail
  refine (setOkSpec_any a la ca ps F _ HR.out.1 hla).mono ?_
  rintro e w1 ⟨rfl, hq⟩
  have HQ0 : Hid (QuietTo w w1) := hq
  clear hq
  obtain ⟨d, hd⟩ : ∃ d, d = ps.ok := ⟨_, rfl⟩
  rw [← hd]
  have HD : Hid (d = ps.ok) := hd
  clear hd
  cases d
  · go_wp2
    go_ret
    rw [Sp.apart_not (by rw [← HD.out]; rfl)]
    exact ⟨rfl, HQ0.out⟩
  go_wp2_with fail
  refine (setOkSpec_any b lb cb qs G _ (HR.out.2.quiet HQ0.out) hlb).mono ?_
  rintro e w2 ⟨rfl, hq⟩
  have HQ1 : Hid (QuietTo w w2) := HQ0.out.trans hq
  clear hq HQ0
  obtain ⟨d, hd⟩ : ∃ d, d = qs.ok := ⟨_, rfl⟩
  rw [← hd]
  have HE : Hid (d = qs.ok) := hd
  clear hd
  cases d
  · go_wp2
    go_ret
    rw [Sp.apart_not (by rw [← HD.out, ← HE.out]; rfl)]
    exact ⟨rfl, HQ1.out⟩
  have HCA : Hid (la = 0 ∨ ∃ b1 o1, a = some ⟨b1, o1, none⟩ ∧ SpCells w b1 o1 la ps) := by
    rcases HR.out.1.cells with ⟨h0, _⟩ | ⟨b1, o1, _, e, _, hc⟩
    · exact .inl h0
    · exact .inr ⟨b1, o1, e, hc⟩
  have HCB : Hid (lb = 0 ∨ ∃ b1 o1, b = some ⟨b1, o1, none⟩ ∧ SpCells w b1 o1 lb qs) := by
    rcases HR.out.2.cells with ⟨h0, _⟩ | ⟨b1, o1, _, e, _, hc⟩
    · exact .inl h0
    · exact .inr ⟨b1, o1, e, hc⟩
  clear HR
  go_wp2
  go_loopw [5] (fun i wr => ∃ (n : Nat), n ≤ la ∧ i = .int .i64 n ∧ Hid (QuietTo w wr) ∧ Hid (∀ i, i < n → ∀ k, k < qs.length → ¬ ((ps.at i).1 ≤ (qs.at k).2 ∧ (qs.at k).1 ≤ (ps.at i).2))) (fun i _ => la - (intOf i).toNat)
  case atStart => exact ⟨0, by omega, rfl, HQ1, fun j hj => by omega⟩
  case round =>
    obtain ⟨n, hn, rfl, HQ, HN⟩ := hrel
    by_cases hlt : n < la
    · have hca := HCA.out
      rcases hca with h0 | ⟨b1, o1, rfl, hc1⟩
      · omega
      obtain ⟨x, hx⟩ : ∃ x, x = (ps.at n).1 := ⟨_, rfl⟩
      obtain ⟨y, hy⟩ : ∃ x, x = (ps.at n).2 := ⟨_, rfl⟩
      have e := hc1 n hlt
      rw [← hx, ← hy] at e
      have HX : Hid ((x = (ps.at n).1 ∧ y = (ps.at n).2) ∧ w.cell? ⟨b1, o1 + n * 2, none⟩ = some (.int .i64 x) ∧ w.cell? ⟨b1, o1 + n * 2 + 1, none⟩ = some (.int .i64 y)) := ⟨⟨hx, hy⟩, e⟩
      have hI : (n : Int) < (la : Int) := by omega
      clear e hx hy hc1
      go_wp2
      go_loopw [6] (fun i ws => ∃ (k : Nat), k ≤ lb ∧ i = .int .i64 k ∧ Hid (QuietTo w ws) ∧ Hid (∀ j, j < k → ¬ (x ≤ (qs.at j).2 ∧ (qs.at j).1 ≤ y))) (fun i _ => lb - (intOf i).toNat)
      case atStart => exact ⟨0, by omega, rfl, HQ, fun j hj => by omega⟩
      case round =>
        clear HQ
        obtain ⟨k, hk, rfl, HQ, HM⟩ := hrel
        by_cases hlt2 : k < lb
        · have hcb := HCB.out
          rcases hcb with h0 | ⟨b2, o2, rfl, hc2⟩
          · omega
          obtain ⟨x', hx⟩ : ∃ x, x = (qs.at k).1 := ⟨_, rfl⟩
          obtain ⟨y', hy⟩ : ∃ x, x = (qs.at k).2 := ⟨_, rfl⟩
          have e := hc2 k hlt2
          rw [← hx, ← hy] at e
          have d1 : wr.cell? ⟨b1, o1 + n * 2, none⟩ = some (.int .i64 x) := (HQ.out.cell _).trans HX.out.2.1
          have d2 : wr.cell? ⟨b1, o1 + n * 2 + 1, none⟩ = some (.int .i64 y) := (HQ.out.cell _).trans HX.out.2.2
          have d3 : wr.cell? ⟨b2, o2 + k * 2, none⟩ = some (.int .i64 x') := (HQ.out.cell _).trans e.1
          have d4 : wr.cell? ⟨b2, o2 + k * 2 + 1, none⟩ = some (.int .i64 y') := (HQ.out.cell _).trans e.2
          have HY : Hid (x' = (qs.at k).1 ∧ y' = (qs.at k).2) := ⟨hx, hy⟩
          have hI2 : (k : Int) < (lb : Int) := by omega
          clear e hx hy hc2
          by_cases h1 : x ≤ y'
          · have h1d : decide (x ≤ y') = true := decT h1
            by_cases h2 : x' ≤ y
            · have h2d : decide (x' ≤ y) = true := decT h2
              have HV : Hid (ps.apart qs = false) := Sp.apart_meet (i := n) (k := k) (by rw [HL.out.1]; exact hlt) (by rw [HL.out.2]; exact hlt2) (by rw [← HX.out.1.1, ← HX.out.1.2, ← HY.out.1, ← HY.out.2]; exact ⟨h1, h2⟩)
              go_wp2
              go_quiet (fail)
              go_wp2
              go_ret
              rw [HV.out]
              exact ⟨rfl, HQ.out.drewN _⟩
            · have h2d : decide (x' ≤ y) = false := decF h2
              have HM2 : Hid (∀ j, j < k + 1 → ¬ (x ≤ (qs.at j).2 ∧ (qs.at j).1 ≤ y)) := all_up HM.out (by rw [← HY.out.1, ← HY.out.2]; exact fun e => h2 e.2)
              go_wp2
              go_quiet (fail)
              go_wp2
              go_roundw
              case rel => exact ⟨k + 1, by omega, by go_num, HQ.out.drewN _, HM2⟩
              case measure => simp [intOf]; omega
          · have h1d : decide (x ≤ y') = false := decF h1
            have HM2 : Hid (∀ j, j < k + 1 → ¬ (x ≤ (qs.at j).2 ∧ (qs.at j).1 ≤ y)) := all_up HM.out (by rw [← HY.out.1, ← HY.out.2]; exact fun e => h1 e.1)
            go_wp2
            go_quiet (fail)
            go_wp2
            go_roundw
            case rel => exact ⟨k + 1, by omega, by go_num, HQ.out.drewN _, HM2⟩
            case measure => simp [intOf]; omega
        · obtain rfl : k = lb := by omega
          have HN2 : Hid (∀ i, i < n + 1 → ∀ k, k < qs.length → ¬ ((ps.at i).1 ≤ (qs.at k).2 ∧ (qs.at k).1 ≤ (ps.at i).2)) := all_up HN.out (fun j hj => by rw [← HX.out.1.1, ← HX.out.1.2]; exact HM.out j (by rw [← HL.out.2]; exact hj))
          go_wp2
          go_roundw
          case rel => exact ⟨n + 1, by omega, by go_num, HQ, HN2⟩
          case measure => simp [intOf]; omega
    · obtain rfl : n = la := by omega
      have HV : Hid (ps.apart qs = true) := Sp.apart_yes HD.out.symm HE.out.symm (fun i hi => HN.out i (by rw [← HL.out.1]; exact hi))
      go_wp2
      go_ret
      rw [HV.out]
      exact ⟨rfl, HQ.out⟩
end Go.Proofs.YtjnamoppcklomaaGreat
