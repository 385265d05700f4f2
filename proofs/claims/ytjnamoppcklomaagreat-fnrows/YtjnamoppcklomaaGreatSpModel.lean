/- The walks through the model's SetOk, SetSize and SetApart. No statement of the seat is proved here. -/
import Derived.Test.YtjnamoppcklomaaGreatSpMath
set_option maxRecDepth 200000
set_option maxHeartbeats 16000000
namespace Go.Proofs.YtjnamoppcklomaaGreat
open Go.RowKit
theorem Sp.okAt_false {ps : Sp} {k : Nat} (h : ¬ ((0 ≤ (ps.at k).1 ∧ (ps.at k).1 ≤ 9999) ∧ ((ps.at k).1 ≤ (ps.at k).2 ∧ (ps.at k).2 ≤ 9999) ∧ (k = 0 ∨ (ps.at (k - 1)).2 + 1 < (ps.at k).1))) : ps.okAt k = false := by
 rw [Bool.eq_false_iff]
 intro e
 unfold Sp.okAt at e
 simp only [Bool.and_eq_true, Bool.or_eq_true, decide_eq_true_eq] at e
 exact h ⟨e.1.1, e.1.2, e.2⟩
theorem Sp.okAt_true {ps : Sp} {k : Nat} (h1 : 0 ≤ (ps.at k).1 ∧ (ps.at k).1 ≤ 9999) (h2 : (ps.at k).1 ≤ (ps.at k).2 ∧ (ps.at k).2 ≤ 9999) (h3 : k = 0 ∨ (ps.at (k - 1)).2 + 1 < (ps.at k).1) : ps.okAt k = true := by
 unfold Sp.okAt
 simp only [Bool.and_eq_true, Bool.or_eq_true, decide_eq_true_eq]
 exact ⟨⟨h1, h2⟩, h3⟩
theorem all_up {P : Nat → Prop} {k : Nat} (h : ∀ j, j < k → P j) (hk : P k) : ∀ j, j < k + 1 → P j := fun j hj => by
 by_cases e : j < k
 ·
  exact h j e
 ·
  obtain rfl : j = k := by omega
  exact hk
theorem setOkSpec_any (a : Option Addr) (len cap : Nat) (ps : Sp) (F : List Nat) (w : World) (h : RdP w a len ps F) (hlen : len ≤ 140737488355328) :
 Calls Tryz.prog 71 #[.slice a len cap] w fun e w' => e = .returned (.bool ps.ok) ∧ ∃ m, w' = w.drewN m := by
 have HL : Hid (ps.length = len) := h.length
 rcases h.cells with ⟨rfl, _, rfl⟩ | ⟨b, off, hp, rfl, _, hc⟩
 ·
  clear h
  go_enter Tryz.func71, Tryz.ntmps71
  go_wp2
  refine wp_loop_rounds 1 ?_
  rw [rounds_succ]
  go_wp2
  go_ret
  exact ⟨rfl, 0, rfl⟩
 ·
  have HC : Hid (SpCells w b off len ps) := hc
  clear h hc
  go_enter Tryz.func71, Tryz.ntmps71
  go_wp2
  go_loopw [3] (fun i wr => ∃ (k : Nat), k ≤ len ∧ i = .int .i64 k ∧ Hid (QuietTo w wr) ∧ Hid (∀ j, j < k → ps.okAt j = true)) (fun i _ => len - (intOf i).toNat)
  case atStart => exact ⟨0, by omega, rfl, QuietTo.refl w, fun j hj => by omega⟩
  case round =>
   obtain ⟨k, hk, rfl, HQ, HN⟩ := hrel
   by_cases hlt : k < len
   ·
    obtain ⟨x, hx⟩ : ∃ x, x = (ps.at k).1 := ⟨_, rfl⟩
    obtain ⟨y, hy⟩ : ∃ x, x = (ps.at k).2 := ⟨_, rfl⟩
    have e := HC.out k hlt
    rw [← hx, ← hy] at e
    have d1 : wr.cell? ⟨b, off + k * 2, none⟩ = some (.int .i64 x) := (HQ.out.cell _).trans e.1
    have d2 : wr.cell? ⟨b, off + k * 2 + 1, none⟩ = some (.int .i64 y) := (HQ.out.cell _).trans e.2
    have HX : Hid (x = (ps.at k).1 ∧ y = (ps.at k).2) := ⟨hx, hy⟩
    have hI : (k : Int) < (len : Int) := by omega
    clear e hx hy
    by_cases h1 : 0 ≤ x ∧ x ≤ 9999
    rotate_left
    ·
     have HV : Hid (ps.ok = false) := Sp.ok_not (by rw [HL.out]; exact hlt) (Sp.okAt_false (fun e => h1 (by rw [HX.out.1]; exact e.1)))
     go_wp2
     go_quiet ((go_at_call 107; exact Calls.quiet_of_same (l1In_no _ _ _ _ h1)))
     go_wp2
     go_ret
     rw [HV.out]
     exact ⟨rfl, HQ.out.drewN _⟩
    by_cases h2 : x ≤ y ∧ y ≤ 9999
    rotate_left
    ·
     have HV : Hid (ps.ok = false) := Sp.ok_not (by rw [HL.out]; exact hlt) (Sp.okAt_false (fun e => h2 (by rw [HX.out.1, HX.out.2]; exact e.2.1)))
     go_wp2
     go_quiet ((go_at_call 107; first | (with_reducible exact Calls.quiet_of_same (l1In_yes _ _ _ _ h1)) | (with_reducible exact Calls.quiet_of_same (l1In_no _ _ _ _ h2))))
     go_wp2
     go_ret
     rw [HV.out]
     exact ⟨rfl, HQ.out.drewN _⟩
    cases k with
    | zero =>
     have HN2 : Hid (∀ j, j < 0 + 1 → ps.okAt j = true) := all_up HN.out (Sp.okAt_true (by rw [← HX.out.1]; exact h1) (by rw [← HX.out.1, ← HX.out.2]; exact h2) (.inl rfl))
     rw [show off + 0 * 2 = off by omega] at d1 d2
     have hI0 : (0 : Int) < (len : Int) := by omega
     simp only [Int.cast_ofNat_Int]
     clear hI
     go_wp2
     go_quiet ((go_at_call 107; first | (with_reducible exact Calls.quiet_of_same (l1In_yes _ _ _ _ h1)) | (with_reducible exact Calls.quiet_of_same (l1In_yes _ _ _ _ h2))))
     go_wp2
     go_roundw
     case rel => exact ⟨0 + 1, by omega, by go_num, HQ.out.drewN _, HN2⟩
     case measure => simp [intOf]; omega
    | succ k =>
     obtain ⟨z, hz⟩ : ∃ x, x = (ps.at k).2 := ⟨_, rfl⟩
     have e := HC.out k (by omega)
     rw [← hz] at e
     have d3 : wr.cell? ⟨b, off + k * 2 + 1, none⟩ = some (.int .i64 z) := (HQ.out.cell _).trans e.2
     have hprev := (Sp.okAt_parts (HN.out k (by omega))).1
     have z0 : 0 ≤ z := by rw [hz]; omega
     have z1 : z ≤ 9999 := by rw [hz]; omega
     have HZ : Hid (z = (ps.at k).2) := hz
     have hI2 : (k : Int) < (len : Int) := by omega
     have hg : decide ((0 : Int) < ((k + 1 : Nat) : Int)) = true := decT (by omega)
     clear e hz hprev
     by_cases h3 : x ≤ z + 1
     ·
      have HV : Hid (ps.ok = false) := Sp.ok_not (by rw [HL.out]; exact hlt) (Sp.okAt_false (fun e => by
        rcases e.2.2 with e | e
        · omega
        · rw [← HX.out.1, show k + 1 - 1 = k by omega, ← HZ.out] at e; omega))
      have hd : decide (x ≤ z + 1) = true := decT h3
      go_wp2
      go_quiet ((go_at_call 107; first | (with_reducible exact Calls.quiet_of_same (l1In_yes _ _ _ _ h1)) | (with_reducible exact Calls.quiet_of_same (l1In_yes _ _ _ _ h2))))
      go_wp2
      go_ret
      rw [HV.out]
      exact ⟨rfl, HQ.out.drewN _⟩
     ·
      have HN2 : Hid (∀ j, j < k + 1 + 1 → ps.okAt j = true) := all_up HN.out (Sp.okAt_true (by rw [← HX.out.1]; exact h1) (by rw [← HX.out.1, ← HX.out.2]; exact h2) (.inr (by rw [← HX.out.1, show k + 1 - 1 = k by omega, ← HZ.out]; omega)))
      have hd : decide (x ≤ z + 1) = false := decF h3
      go_wp2
      go_quiet ((go_at_call 107; first | (with_reducible exact Calls.quiet_of_same (l1In_yes _ _ _ _ h1)) | (with_reducible exact Calls.quiet_of_same (l1In_yes _ _ _ _ h2))))
      go_wp2
      go_roundw
      case rel => exact ⟨k + 1 + 1, by omega, by go_num, HQ.out.drewN _, HN2⟩
      case measure => simp [intOf]; omega
   ·
    obtain rfl : k = len := by omega
    have HV : Hid (ps.ok = true) := Sp.ok_all (fun j hj => HN.out j (by rw [← HL.out]; exact hj))
    go_wp2
    go_ret
    rw [HV.out]
    exact ⟨rfl, HQ.out⟩
end Go.Proofs.YtjnamoppcklomaaGreat
