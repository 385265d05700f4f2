/- The walks through the model's IdOf, ItemOk, EntryOk. No statement of the seat is proved here. -/
import Derived.Test.YtgkbhhlkaifnoaaItHelp2
import Derived.Test.YtgkbhhlkaifnoaaSpModel
import Derived.Test.YtgkbhhlkaifnoaaSkOk
namespace Go.Proofs.Ytgkbhhlkaifnoaa
open Go.RowKit
def idOf (a s : Int) : Int := if (0 ≤ a ∧ a ≤ 2) ∧ 1 ≤ s ∧ s ≤ 60 then 100 * a + s else -1
def placeOk (k w : Int) : Bool := decide (0 ≤ k ∧ k ≤ 4) && decide (0 ≤ w ∧ w ≤ 20)
def It.ok (x : It) : Bool := decide (1 ≤ x.seq ∧ x.seq ≤ 60) && decide (0 ≤ x.cls ∧ x.cls ≤ 1) && placeOk x.key x.window && x.sk.ok
def En.ok (x : En) : Bool := placeOk x.key x.window && decide (0 < x.ids.length) && x.ids.ok && x.sk.ok
def En.zero : En := ⟨0, 0, [], Sk.zero⟩
set_option maxRecDepth 200000 in
theorem l6Agent_any (n : Int) (w : World) : Calls Try.prog 47 #[.int .i64 n] w fun e w' => e = .returned (.bool (decide (0 ≤ n ∧ n ≤ 2))) ∧ w' = w := by
  go_enter Try.func47, Try.ntmps47
  go_wp2_with fail
  refine (l1In_any _ _ _ _).mono ?_
  rintro e w2 ⟨rfl, hw2⟩
  have hw2' := hw2.symm
  subst hw2'
  clear hw2
  obtain ⟨d, hd⟩ : ∃ d, d = decide (0 ≤ n ∧ n ≤ 2) := ⟨_, rfl⟩
  rw [← hd]
  have HD : Hid (d = decide (0 ≤ n ∧ n ≤ 2)) := hd
  clear hd
  go_wp2
  go_ret
  exact ⟨ret_bool HD.out, rfl⟩
set_option maxRecDepth 200000 in
theorem l6Place_any (k p : Int) (w : World) : Calls Try.prog 88 #[.int .i64 k, .int .i64 p] w fun e w' => e = .returned (.bool (placeOk k p)) ∧ w' = w := by
  go_enter Try.func88, Try.ntmps88
  go_wp2_with fail
  refine (l1In_any _ _ _ _).mono ?_
  rintro e w2 ⟨rfl, hw2⟩
  have hw2' := hw2.symm
  subst hw2'
  clear hw2
  obtain ⟨d1, hd1⟩ : ∃ d, d = decide (0 ≤ k ∧ k ≤ 4) := ⟨_, rfl⟩
  rw [← hd1]
  have HD1 : Hid (d1 = decide (0 ≤ k ∧ k ≤ 4)) := hd1
  clear hd1
  cases d1
  · have HV : Hid (placeOk k p = false) := by show _ = _; unfold placeOk; rw [← HD1.out]; rfl
    go_wp2
    go_ret
    exact ⟨ret_bool HV.out.symm, rfl⟩
  go_wp2_with fail
  refine (l1In_any _ _ _ _).mono ?_
  rintro e w2 ⟨rfl, hw2⟩
  have hw2' := hw2.symm
  subst hw2'
  clear hw2
  obtain ⟨d2, hd2⟩ : ∃ d, d = decide (0 ≤ p ∧ p ≤ 20) := ⟨_, rfl⟩
  rw [← hd2]
  have HV : Hid (d2 = placeOk k p) := by show _ = _; unfold placeOk; rw [← HD1.out, ← hd2]; rfl
  clear hd2
  go_wp2
  go_ret
  exact ⟨ret_bool HV.out, rfl⟩
set_option maxRecDepth 200000 in
set_option maxHeartbeats 2000000 in
theorem itemOkSpec_any (v : Value) (x : It) (F : List Nat) (w : World) (h : RdIt w v x F) (hw : x.sk.wide) :
    Calls Try.prog 50 #[v] w fun e w' => e = .returned (.bool x.ok) ∧ Below w.heap.size w w' := by
  obtain ⟨a1, n1, c1, a2, n2, c2, a3, n3, c3, rfl, hr⟩ := h
  have HR : Hid (RdSk w (.agg #[.int .i64 x.sk.count, .int .i64 x.sk.sum, .int .i64 x.sk.min, .int .i64 x.sk.max, .slice a1 n1 c1, .slice a2 n2 c2, .slice a3 n3 c3]) x.sk F ∧ x.sk.wide) := ⟨hr, hw⟩
  have HB : Hid (Below w.heap.size w (w.alloc (.cells #[.int .i64 x.seq, .int .i64 x.cls, .int .i64 x.key, .int .i64 x.window, .int .i64 x.sk.count, .int .i64 x.sk.sum, .int .i64 x.sk.min, .int .i64 x.sk.max, .slice a1 n1 c1, .slice a2 n2 c2, .slice a3 n3 c3] 36)) ∧ Blk (w.alloc (.cells #[.int .i64 x.seq, .int .i64 x.cls, .int .i64 x.key, .int .i64 x.window, .int .i64 x.sk.count, .int .i64 x.sk.sum, .int .i64 x.sk.min, .int .i64 x.sk.max, .slice a1 n1 c1, .slice a2 n2 c2, .slice a3 n3 c3] 36)) w.heap.size #[.int .i64 x.seq, .int .i64 x.cls, .int .i64 x.key, .int .i64 x.window, .int .i64 x.sk.count, .int .i64 x.sk.sum, .int .i64 x.sk.min, .int .i64 x.sk.max, .slice a1 n1 c1, .slice a2 n2 c2, .slice a3 n3 c3] 36) := ⟨Below.allocW _ (Below.refl _ _) (Nat.le_refl _), Blk.made _ _ _⟩
  clear hr hw
  go_enter Try.func50, Try.ntmps50
  go_wp2_with fail
  refine (l1In_any _ _ _ _).mono ?_
  rintro e w2 ⟨rfl, hw2⟩
  have hw2' := hw2.symm
  subst hw2'
  clear hw2
  obtain ⟨d1, hd1⟩ : ∃ d, d = decide (1 ≤ x.seq ∧ x.seq ≤ 60) := ⟨_, rfl⟩
  rw [← hd1]
  have HD1 : Hid (d1 = decide (1 ≤ x.seq ∧ x.seq ≤ 60)) := hd1
  clear hd1
  cases d1
  · have HV : Hid (x.ok = false) := by show _ = _; unfold It.ok; rw [← HD1.out]; rfl
    go_wp2
    go_ret
    exact ⟨ret_bool HV.out.symm, HB.out.1⟩
  go_wp2_with fail
  refine (l1In_any _ _ _ _).mono ?_
  rintro e w2 ⟨rfl, hw2⟩
  have hw2' := hw2.symm
  subst hw2'
  clear hw2
  obtain ⟨d2, hd2⟩ : ∃ d, d = decide (0 ≤ x.cls ∧ x.cls ≤ 1) := ⟨_, rfl⟩
  rw [← hd2]
  have HD2 : Hid (d2 = decide (0 ≤ x.cls ∧ x.cls ≤ 1)) := hd2
  clear hd2
  cases d2
  · have HV : Hid (x.ok = false) := by show _ = _; unfold It.ok; rw [← HD1.out, ← HD2.out]; rfl
    go_wp2
    go_ret
    exact ⟨ret_bool HV.out.symm, HB.out.1⟩
  go_wp2_with fail
  refine (l6Place_any _ _ _).mono ?_
  rintro e w2 ⟨rfl, hw2⟩
  have hw2' := hw2.symm
  subst hw2'
  clear hw2
  obtain ⟨d3, hd3⟩ : ∃ d, d = placeOk x.key x.window := ⟨_, rfl⟩
  rw [← hd3]
  have HD3 : Hid (d3 = placeOk x.key x.window) := hd3
  clear hd3
  cases d3
  · have HV : Hid (x.ok = false) := by show _ = _; unfold It.ok; rw [← HD1.out, ← HD2.out, ← HD3.out]; rfl
    go_wp2
    go_ret
    exact ⟨ret_bool HV.out.symm, HB.out.1⟩
  go_wp2_with (first | go_skip | (with_reducible refine stopLoad 34 rfl ?_))
  refine load_cutw 34 w.heap.size 4 7 _ #[.int .i64 x.sk.count, .int .i64 x.sk.sum, .int .i64 x.sk.min, .int .i64 x.sk.max, .slice a1 n1 c1, .slice a2 n2 c2, .slice a3 n3 c3] 36 _ HB.out.2 rfl rfl rfl Try.underlying34 rfl infoSkI (by simp) rfl ?_
  go_wp2_with fail
  refine (okSpec_any _ x.sk F _ (HR.out.1.below HB.out.1) HR.out.2).mono ?_
  rintro e w2 ⟨rfl, hb2⟩
  have HB2 : Hid (Below w.heap.size w w2) := Below.next HB.out.1 hb2
  have HV : Hid (x.ok = x.sk.ok) := by show _ = _; unfold It.ok; rw [← HD1.out, ← HD2.out, ← HD3.out]; rfl
  clear hb2
  obtain ⟨d4, hd4⟩ : ∃ d, d = x.sk.ok := ⟨_, rfl⟩
  rw [← hd4] at HV ⊢
  clear hd4
  go_wp2
  go_ret
  exact ⟨ret_bool HV.out.symm, HB2.out⟩
end Go.Proofs.Ytgkbhhlkaifnoaa
