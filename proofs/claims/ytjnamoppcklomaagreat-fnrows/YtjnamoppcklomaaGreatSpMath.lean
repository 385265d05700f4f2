/- Sets of numbers, as plain data. No statement of the seat is proved here. -/
import Derived.Test.YtjnamoppcklomaaGreatSpOpen
import Derived.Test.YtjnamoppcklomaaGreatStop
import Derived.Deep.QuietTactic
import Derived.BigQuiet
set_option maxRecDepth 200000
set_option maxHeartbeats 16000000
namespace Go.Proofs.YtjnamoppcklomaaGreat
open Go.RowKit
theorem decT {p : Prop} [Decidable p] (h : p) : decide p = true := by simpa using h
theorem decF {p : Prop} [Decidable p] (h : ¬ p) : decide p = false := by simpa using h
def Sp.at (ps : Sp) (k : Nat) : Int × Int := ps[k]?.getD (0, 0)
def Sp.okAt (ps : Sp) (k : Nat) : Bool := decide (0 ≤ (ps.at k).1 ∧ (ps.at k).1 ≤ 9999) && decide ((ps.at k).1 ≤ (ps.at k).2 ∧ (ps.at k).2 ≤ 9999) && (decide (k = 0) || decide ((ps.at (k - 1)).2 + 1 < (ps.at k).1))
def Sp.ok (ps : Sp) : Bool := (List.range ps.length).all ps.okAt
theorem Sp.ok_all {ps : Sp} (h : ∀ k, k < ps.length → ps.okAt k = true) : ps.ok = true := by
 unfold Sp.ok
 rw [List.all_eq_true]
 intro k hk
 exact h k (List.mem_range.1 hk)
theorem Sp.ok_not {ps : Sp} {k : Nat} (hk : k < ps.length) (h : ps.okAt k = false) : ps.ok = false := by
 unfold Sp.ok
 rw [List.all_eq_false]
 exact ⟨k, List.mem_range.2 hk, by rw [h]; decide⟩
theorem Sp.ok_at {ps : Sp} (h : ps.ok = true) (k : Nat) (hk : k < ps.length) : ps.okAt k = true := by
 unfold Sp.ok at h
 rw [List.all_eq_true] at h
 exact h k (List.mem_range.2 hk)
theorem Sp.okAt_parts {ps : Sp} {k : Nat} (h : ps.okAt k = true) : (0 ≤ (ps.at k).1 ∧ (ps.at k).1 ≤ (ps.at k).2 ∧ (ps.at k).2 ≤ 9999) ∧ (0 < k → (ps.at (k - 1)).2 + 1 < (ps.at k).1) := by
 unfold Sp.okAt at h
 simp only [Bool.and_eq_true, Bool.or_eq_true, decide_eq_true_eq] at h
 omega
def Sp.has (ps : Sp) (n : Int) : Bool := ps.any fun p => decide (p.1 ≤ n ∧ n ≤ p.2)
theorem l1In_yes (x lo hi : Int) (w : World) (h : lo ≤ x ∧ x ≤ hi) : Calls Tryz.prog 107 #[.int .i64 x, .int .i64 lo, .int .i64 hi] w fun e w' => e = .returned (.bool true) ∧ w' = w := by
 have := l1In_any x lo hi w
 rw [decT h] at this
 exact this
theorem l1In_no (x lo hi : Int) (w : World) (h : ¬ (lo ≤ x ∧ x ≤ hi)) : Calls Tryz.prog 107 #[.int .i64 x, .int .i64 lo, .int .i64 hi] w fun e w' => e = .returned (.bool false) ∧ w' = w := by
 have := l1In_any x lo hi w
 rw [decF h] at this
 exact this
def SpCells (w : World) (b off len : Nat) (ps : Sp) : Prop := ∀ i, i < len → w.cell? ⟨b, off + i * 2, none⟩ = some (.int .i64 (ps.at i).1) ∧ w.cell? ⟨b, off + i * 2 + 1, none⟩ = some (.int .i64 (ps.at i).2)
def QuietTo (w w' : World) : Prop := ∃ m, w' = w.drewN m
theorem QuietTo.refl (w : World) : QuietTo w w := ⟨0, rfl⟩
theorem QuietTo.drewN {w w' : World} (h : QuietTo w w') (n : Nat) : QuietTo w (w'.drewN n) := by
 obtain ⟨m, rfl⟩ := h
 exact ⟨m + n, (World.drewN_drewN ..)⟩
theorem QuietTo.cell {w w' : World} (h : QuietTo w w') (a : Addr) : w'.cell? a = w.cell? a := by
 obtain ⟨m, rfl⟩ := h
 rfl
theorem quiet_below {w w' : World} (h : ∃ m, w' = w.drewN m) : Below w.heap.size w w' := by
 obtain ⟨m, rfl⟩ := h
 exact ⟨rfl, rfl, rfl, Nat.le_refl _, fun _ _ => rfl⟩
end Go.Proofs.YtjnamoppcklomaaGreat
