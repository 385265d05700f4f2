/- Sets of numbers, as plain data. No statement of the seat is proved here. -/
import Derived.Test.YtgkbhhlkaifnoaaSpOpen
import Derived.Test.YtgkbhhlkaifnoaaStop
import Derived.Deep.QuietTactic
import Derived.BigQuiet
namespace Go.Proofs.Ytgkbhhlkaifnoaa
open Go.RowKit
theorem decT {p : Prop} [Decidable p] (h : p) : decide p = true := by simpa using h
theorem decF {p : Prop} [Decidable p] (h : ¬ p) : decide p = false := by simpa using h
/-- The k-th span. -/
def Sp.at (ps : Sp) (k : Nat) : Int × Int := ps[k]?.getD (0, 0)
def Sp.okAt (ps : Sp) (k : Nat) : Bool := decide (0 ≤ (ps.at k).1 ∧ (ps.at k).1 ≤ 9999) && decide ((ps.at k).1 ≤ (ps.at k).2 ∧ (ps.at k).2 ≤ 9999) && (decide (k = 0) || decide ((ps.at (k - 1)).2 + 1 < (ps.at k).1))
def Sp.ok (ps : Sp) : Bool := (List.range ps.length).all ps.okAt
theorem Sp.ok_all {ps : Sp} (h : ∀ k, k < ps.length → ps.okAt k = true) : ps.ok = true := by
  unfold Sp.ok
  rw [List.all_eq_true]
  intro k hk
  exact h k (List.mem_range.1 hk)
theorem Sp.ok_not {ps : Sp} {k : Nat} (hk : k < ps.length) (h : ps.okAt k = false) : ps.ok = false := by
  unfold Sp.ok
  rw [List.all_eq_false]
  exact ⟨k, List.mem_range.2 hk, by rw [h]; decide⟩
theorem Sp.okAt_parts {ps : Sp} {k : Nat} (h : ps.okAt k = true) : (0 ≤ (ps.at k).1 ∧ (ps.at k).1 ≤ (ps.at k).2 ∧ (ps.at k).2 ≤ 9999) ∧ (0 < k → (ps.at (k - 1)).2 + 1 < (ps.at k).1) := by
  unfold Sp.okAt at h
  simp only [Bool.and_eq_true, Bool.or_eq_true, decide_eq_true_eq] at h
  omega
def Sp.has (ps : Sp) (n : Int) : Bool := ps.any fun p => decide (p.1 ≤ n ∧ n ≤ p.2)
theorem Sp.has_at {ps : Sp} {n : Int} {k : Nat} (hk : k < ps.length) (h : (ps.at k).1 ≤ n ∧ n ≤ (ps.at k).2) : ps.has n = true := by
  unfold Sp.has
  rw [List.any_eq_true]
  refine ⟨ps[k], List.getElem_mem hk, ?_⟩
  unfold Sp.at at h
  rw [List.getElem?_eq_getElem hk] at h
  exact decT h
theorem Sp.has_not {ps : Sp} {n : Int} (h : ∀ k, k < ps.length → ¬ ((ps.at k).1 ≤ n ∧ n ≤ (ps.at k).2)) : ps.has n = false := by
  unfold Sp.has
  rw [List.any_eq_false]
  intro p hp
  obtain ⟨k, hk, rfl⟩ := List.getElem_of_mem hp
  have := h k hk
  unfold Sp.at at this
  rw [List.getElem?_eq_getElem hk] at this
  simpa using this
set_option maxRecDepth 200000 in
theorem l1In_yes (x lo hi : Int) (w : World) (h : lo ≤ x ∧ x ≤ hi) : Calls Try.prog 48 #[.int .i64 x, .int .i64 lo, .int .i64 hi] w fun e w' => e = .returned (.bool true) ∧ w' = w := by
  have := l1In_any x lo hi w
  rw [decT h] at this
  exact this
set_option maxRecDepth 200000 in
theorem l1In_no (x lo hi : Int) (w : World) (h : ¬ (lo ≤ x ∧ x ≤ hi)) : Calls Try.prog 48 #[.int .i64 x, .int .i64 lo, .int .i64 hi] w fun e w' => e = .returned (.bool false) ∧ w' = w := by
  have := l1In_any x lo hi w
  rw [decF h] at this
  exact this
/-- The slice's cells, at any world that only draws. -/
def SpCells (w : World) (b off len : Nat) (ps : Sp) : Prop := ∀ i, i < len → w.cell? ⟨b, off + i * 2, none⟩ = some (.int .i64 (ps.at i).1) ∧ w.cell? ⟨b, off + i * 2 + 1, none⟩ = some (.int .i64 (ps.at i).2)
/-- Only draws lie between. -/
def QuietTo (w w' : World) : Prop := ∃ m, w' = w.drewN m
theorem QuietTo.refl (w : World) : QuietTo w w := ⟨0, rfl⟩
theorem QuietTo.drewN {w w' : World} (h : QuietTo w w') (n : Nat) : QuietTo w (w'.drewN n) := by
  obtain ⟨m, rfl⟩ := h
  exact ⟨m + n, (World.drewN_drewN ..)⟩
theorem QuietTo.cell {w w' : World} (h : QuietTo w w') (a : Addr) : w'.cell? a = w.cell? a := by
  obtain ⟨m, rfl⟩ := h
  rfl
theorem quiet_below {w w' : World} (h : ∃ m, w' = w.drewN m) : Below w.heap.size w w' := by
  obtain ⟨m, rfl⟩ := h
  exact ⟨rfl, rfl, rfl, Nat.le_refl _, fun _ _ => rfl⟩
set_option maxRecDepth 200000 in
set_option maxHeartbeats 1000000 in
theorem hasSpec_any (a : Option Addr) (len cap : Nat) (ps : Sp) (n : Int) (F : List Nat) (w : World) (h : RdP w a len ps F) (hlen : len ≤ 140737488355328) :
    Calls Try.prog 39 #[.slice a len cap, .int .i64 n] w fun e w' => e = .returned (.bool (ps.has n)) ∧ ∃ m, w' = w.drewN m := by
  have HL : Hid (ps.length = len) := h.length
  rcases h.cells with ⟨rfl, _, rfl⟩ | ⟨b, off, hp, rfl, _, hc⟩
  · clear h
    go_enter Try.func39, Try.ntmps39
    go_wp2
    refine wp_loop_rounds 1 ?_
    rw [rounds_succ]
    go_wp2
    go_ret
    exact ⟨rfl, 0, rfl⟩
  · have HC : Hid (SpCells w b off len ps) := hc
    clear h hc
    go_enter Try.func39, Try.ntmps39
    go_wp2
    go_loopw [5] (fun i wr => ∃ (k : Nat), k ≤ len ∧ i = .int .i64 k ∧ Hid (QuietTo w wr) ∧ Hid (∀ j, j < k → ¬ ((ps.at j).1 ≤ n ∧ n ≤ (ps.at j).2))) (fun i _ => len - (intOf i).toNat)
    case atStart => exact ⟨0, by omega, rfl, QuietTo.refl w, fun j hj => by omega⟩
    case round =>
      obtain ⟨k, hk, rfl, HQ, HN⟩ := hrel
      by_cases hlt : k < len
      · obtain ⟨x, hx⟩ : ∃ x, x = (ps.at k).1 := ⟨_, rfl⟩
        obtain ⟨y, hy⟩ : ∃ x, x = (ps.at k).2 := ⟨_, rfl⟩
        have e := HC.out k hlt
        rw [← hx, ← hy] at e
        have d1 : wr.cell? ⟨b, off + k * 2, none⟩ = some (.int .i64 x) := (HQ.out.cell _).trans e.1
        have d2 : wr.cell? ⟨b, off + k * 2 + 1, none⟩ = some (.int .i64 y) := (HQ.out.cell _).trans e.2
        have HX : Hid (x = (ps.at k).1 ∧ y = (ps.at k).2) := ⟨hx, hy⟩
        clear e hx hy
        have hI : (k : Int) < (len : Int) := by omega
        by_cases hin : x ≤ n ∧ n ≤ y
        · have HV : Hid (ps.has n = true) := Sp.has_at (by rw [HL.out]; exact hlt) (by rw [← HX.out.1, ← HX.out.2]; exact hin)
          go_wp2
          go_quiet ((go_at_call 48; exact Calls.quiet_of_same (l1In_yes _ _ _ _ hin)))
          go_wp2
          go_ret
          rw [HV.out]
          exact ⟨rfl, HQ.out.drewN _⟩
        · have HN2 : Hid (∀ j, j < k + 1 → ¬ ((ps.at j).1 ≤ n ∧ n ≤ (ps.at j).2)) := fun j hj => by
            by_cases e : j < k
            · exact HN.out j e
            · obtain rfl : j = k := by omega
              rw [← HX.out.1, ← HX.out.2]; exact hin
          go_wp2
          go_quiet ((go_at_call 48; exact Calls.quiet_of_same (l1In_no _ _ _ _ hin)))
          go_wp2
          go_roundw
          case rel => exact ⟨k + 1, by omega, by go_num, HQ.out.drewN _, HN2⟩
          case measure => simp [intOf]; omega
      · obtain rfl : k = len := by omega
        have HV : Hid (ps.has n = false) := Sp.has_not (fun j hj => HN.out j (by rw [← HL.out]; exact hj))
        go_wp2
        go_ret
        rw [HV.out]
        exact ⟨rfl, HQ.out⟩
end Go.Proofs.Ytgkbhhlkaifnoaa
