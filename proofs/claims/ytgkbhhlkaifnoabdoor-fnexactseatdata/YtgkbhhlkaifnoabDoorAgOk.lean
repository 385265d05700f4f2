/- The walks through the model's l8Below and AgentOk. No statement of the seat is proved here. -/
import Derived.Test.YtgkbhhlkaifnoabDoorAgData
import Derived.Test.YtgkbhhlkaifnoabDoorItModel
import Derived.Test.YtgkbhhlkaifnoabDoorSpModel
import Derived.Test.YtgkbhhlkaifnoabDoorFrModel
import Derived.Test.YtgkbhhlkaifnoabDoorLstOps
namespace Go.Proofs.YtgkbhhlkaifnoabDoor
open Go.RowKit
/-- Each item is right, and bears the number of its place. -/
def itsOk (xs : List It) : Bool := (List.range xs.length).all fun k => (xs.getD k It.zero).ok && decide ((xs.getD k It.zero).seq = (k : Int) + 1)
theorem getD_at {xs : List It} {k : Nat} {y : It} (h : xs[k]? = some y) : xs.getD k It.zero = y := by rw [List.getD_eq_getElem?_getD, h]; rfl
theorem itsOk_not {xs : List It} {k : Nat} {y : It} (hy : xs[k]? = some y) (h : y.ok = false ∨ ¬ y.seq = (k : Int) + 1) : itsOk xs = false := by
  have hk : k < xs.length := (List.getElem?_eq_some_iff.1 hy).1
  rw [Bool.eq_false_iff]
  intro e
  unfold itsOk at e
  rw [List.all_eq_true] at e
  have := e k (List.mem_range.mpr hk)
  rw [getD_at hy, Bool.and_eq_true] at this
  rcases h with h | h
  · rw [h] at this; cases this.1
  · exact h (of_decide_eq_true this.2)
theorem itsOk_all {xs : List It} (h : ∀ (k : Nat) (y : It), xs[k]? = some y → y.ok = true ∧ y.seq = (k : Int) + 1) : itsOk xs = true := by
  unfold itsOk
  rw [List.all_eq_true]
  intro k hk
  have hk' : k < xs.length := List.mem_range.mp hk
  have q := h k _ (List.getElem?_eq_getElem hk')
  rw [getD_at (List.getElem?_eq_getElem hk'), q.1, decide_eq_true q.2]
  rfl
theorem itsOk_at {xs : List It} (h : itsOk xs = true) {k : Nat} {y : It} (hy : xs[k]? = some y) : y.ok = true ∧ y.seq = (k : Int) + 1 := by
  refine ⟨?_, ?_⟩
  · by_cases q : y.ok = true
    · exact q
    · rw [itsOk_not hy (.inl (by simpa using q))] at h; cases h
  · by_cases q : y.seq = (k : Int) + 1
    · exact q
    · rw [itsOk_not hy (.inr q)] at h; cases h
/-- An agent that is right. -/
def Ag.ok (x : Ag) : Bool := decide (0 ≤ x.id ∧ x.id ≤ 2) && decide (0 ≤ x.epoch ∧ x.epoch ≤ 1000) && decide (0 ≤ x.granted ∧ x.granted ≤ 60) && decide (x.sealed.length ≤ 60) && decide (0 ≤ x.next ∧ x.next ≤ 60) && (x.taken.ok && x.taken.under x.sealed.length) && (x.live || decide (x.granted ≤ 0)) && itsOk x.sealed
theorem RdIt.first {w : World} {cs : Array Value} {y : It} {F : List Nat} (h : RdIt w (.agg cs) y F) : cs[0]? = some (.int .i64 y.seq) := by
  obtain ⟨a1, n1, c1, a2, n2, c2, a3, n3, c3, e⟩ := h.cells11
  injection e with e
  rw [e]
  rfl
set_option maxRecDepth 200000 in
set_option maxHeartbeats 4000000 in
theorem l8Below_any (a : Option Addr) (len cap : Nat) (m : Int) (ps : Sp) (F : List Nat) (w : World) (h : RdP w a len ps F) (hlen : len ≤ 140737488355328) :
    Calls Tryd.prog 27 #[.slice a len cap, .int .i64 m] w fun e w' => e = .returned (.bool (ps.ok && ps.under m)) ∧ Below w.heap.size w w' := by
  have HP : Hid (RdP w a len ps F) := h
  clear h
  go_enter Tryd.func27, Tryd.ntmps27
  go_wp2_with fail
  refine (setOkSpec_any a len cap ps F _ HP.out hlen).mono ?_
  rintro e w2 ⟨rfl, hq⟩
  have HB2 : Hid (Below w.heap.size w w2) := quiet_below hq
  obtain ⟨d5, hd5⟩ : ∃ d, d = ps.ok := ⟨_, rfl⟩
  rw [← hd5]
  have HD5 : Hid (d5 = ps.ok) := hd5
  clear hd5 hq
  cases d5
  · have HV : Hid ((ps.ok && ps.under m) = false) := by show _ = _; rw [← HD5.out]; rfl
    go_wp2
    go_ret
    exact ⟨ret_bool HV.out.symm, HB2.out⟩
  go_wp2
  go_loopw [5] (fun i wr => ∃ (k : Nat), k ≤ len ∧ i = .int .i64 k ∧ wr = w2 ∧ Hid (∀ j, j < k → 1 ≤ (ps.at j).1 ∧ (ps.at j).2 ≤ m)) (fun i _ => len - (intOf i).toNat)
  case atStart => exact ⟨0, by omega, rfl, rfl, fun j hj => by omega⟩
  case round =>
    obtain ⟨k, hk, rfl, hwr, HN⟩ := hrel
    have hwr' := hwr.symm
    subst hwr'
    clear hwr
    by_cases hlt : k < len
    · rcases (HP.out.below HB2.out).cells with ⟨h0, _, _⟩ | ⟨b0, off, hp0, hb0, _, hc⟩
      · omega
      have hb0' := hb0.symm
      subst hb0'
      clear hb0
      obtain ⟨p, hp⟩ : ∃ p, p = (ps.at k).1 := ⟨_, rfl⟩
      obtain ⟨q, hq⟩ : ∃ p, p = (ps.at k).2 := ⟨_, rfl⟩
      have e := hc k hlt
      have HX : Hid (p = (ps.at k).1 ∧ q = (ps.at k).2 ∧ k < ps.length) := ⟨hp, hq, by rw [HP.out.length]; exact hlt⟩
      have d1 : w2.cell? ⟨b0, off + k * 2, none⟩ = some (.int .i64 p) := by rw [hp]; exact e.1
      have d2 : w2.cell? ⟨b0, off + k * 2 + 1, none⟩ = some (.int .i64 q) := by rw [hq]; exact e.2
      have hI : (k : Int) < (len : Int) := by omega
      clear e hp hq hc hp0
      by_cases h1 : p < 1
      · have HV : Hid (ps.under m = false) := Sp.under_not HX.out.2.2 (fun e => absurd e.1 (by rw [← HX.out.1]; omega))
        go_wp2
        go_ret
        exact ⟨ret_bool (by rw [HV.out]; simp), HB2.out⟩
      by_cases h2 : m < q
      · have HV : Hid (ps.under m = false) := Sp.under_not HX.out.2.2 (fun e => absurd e.2 (by rw [← HX.out.2.1]; omega))
        go_wp2
        go_ret
        exact ⟨ret_bool (by rw [HV.out]; simp), HB2.out⟩
      have HN2 : Hid (∀ j, j < k + 1 → 1 ≤ (ps.at j).1 ∧ (ps.at j).2 ≤ m) := all_up HN.out ⟨by rw [← HX.out.1]; omega, by rw [← HX.out.2.1]; omega⟩
      go_wp2
      go_roundw
      case rel => exact ⟨k + 1, by omega, by go_num, trivial, HN2⟩
      case measure => simp [intOf]; omega
    · have HV : Hid (ps.under m = true) := Sp.under_all (fun j hj => HN.out j (by have := HP.out.length; omega))
      go_wp2
      go_ret
      exact ⟨ret_bool (by rw [HV.out, ← HD5.out]; rfl), HB2.out⟩
end Go.Proofs.YtgkbhhlkaifnoabDoor
