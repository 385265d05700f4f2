/- The walks through the model's IdOf, ItemOk, EntryOk. No statement of the seat is proved here. -/
import Derived.Test.YtjnamoppcklomaaGreatItHelp2
import Derived.Test.YtjnamoppcklomaaGreatSpModel
import Derived.Test.YtjnamoppcklomaaGreatSkOk
set_option maxRecDepth 200000
set_option maxHeartbeats 16000000
namespace Go.Proofs.YtjnamoppcklomaaGreat
open Go.RowKit
def idOf (a s : Int) : Int := if (0 ≤ a ∧ a ≤ 2) ∧ 1 ≤ s ∧ s ≤ 60 then 100 * a + s else -1
def placeOk (k w : Int) : Bool := decide (0 ≤ k ∧ k ≤ 4) && decide (0 ≤ w ∧ w ≤ 20)
def It.ok (x : It) : Bool := decide (1 ≤ x.seq ∧ x.seq ≤ 60) && decide (0 ≤ x.cls ∧ x.cls ≤ 1) && placeOk x.key x.window && x.sk.ok
def En.ok (x : En) : Bool := placeOk x.key x.window && decide (0 < x.ids.length) && x.ids.ok && x.sk.ok
def En.zero : En := ⟨0, 0, [], Sk.zero⟩
theorem rdEn_zero (W : World) : RdEn W (.agg #[.int .i64 0, .int .i64 0, .slice none 0 0, .int .i64 0, .int .i64 0, .int .i64 0, .int .i64 0, .slice none 0 0, .slice none 0 0, .slice none 0 0]) En.zero [] [] :=
 ⟨none, 0, 0, none, 0, 0, none, 0, 0, none, 0, 0, rfl, RdP.nil, ⟨none, 0, 0, none, 0, 0, none, 0, 0, [], [], [], rfl, ⟨rfl, .inl ⟨rfl, rfl⟩⟩, ⟨rfl, .inl ⟨rfl, rfl⟩⟩, ⟨rfl, .inl ⟨rfl, rfl⟩⟩, rfl⟩, fun _ => rfl, Nat.le_refl _⟩
theorem infoEnA : (Tryz.prog.info? 33).map (·.size) = some 10 := by kernel_rfl
theorem En.ok_sk {x : En} (h : x.ok = true) : x.sk.ok = true := by
 unfold En.ok at h
 simp only [Bool.and_eq_true] at h
 exact h.2
theorem l6Agent_any (n : Int) (w : World) : Calls Tryz.prog 140 #[.int .i64 n] w fun e w' => e = .returned (.bool (decide (0 ≤ n ∧ n ≤ 2))) ∧ w' = w := by
 go_enter Tryz.func140, Tryz.ntmps140
 go_wp2_with fail
 refine (l1In_any _ _ _ _).mono ?_
 rintro e w2 ⟨rfl, hw2⟩
 have hw2' := hw2.symm
 subst hw2'
 clear hw2
 obtain ⟨d, hd⟩ : ∃ d, d = decide (0 ≤ n ∧ n ≤ 2) := ⟨_, rfl⟩
 rw [← hd]
 have HD : Hid (d = decide (0 ≤ n ∧ n ≤ 2)) := hd
 clear hd
 go_wp2
 go_ret
 exact ⟨ret_bool HD.out, rfl⟩
theorem idSpec_any (a s : Int) (w : World) : Calls Tryz.prog 96 #[.int .i64 a, .int .i64 s] w fun e w' => e = .returned (.int .i64 (idOf a s)) ∧ w' = w := by
 go_enter Tryz.func96, Tryz.ntmps96
 go_wp2_with fail
 refine (l6Agent_any _ _).mono ?_
 rintro e w2 ⟨rfl, hw2⟩
 have hw2' := hw2.symm
 subst hw2'
 clear hw2
 by_cases h1 : 0 ≤ a ∧ a ≤ 2
 rotate_left
 ·
  rw [decF h1]
  have HV : Hid (idOf a s = -1) := by show _ = _; unfold idOf; rw [if_neg (fun e => h1 e.1)]
  clear h1
  go_wp2
  go_ret
  rw [HV.out]
  exact ⟨rfl, rfl⟩
 rw [decT h1]
 go_wp2_with fail
 refine (l1In_any _ _ _ _).mono ?_
 rintro e w2 ⟨rfl, hw2⟩
 have hw2' := hw2.symm
 subst hw2'
 clear hw2
 by_cases h2 : 1 ≤ s ∧ s ≤ 60
 rotate_left
 ·
  rw [decF h2]
  have HV : Hid (idOf a s = -1) := by show _ = _; unfold idOf; rw [if_neg (fun e => h2 e.2)]
  clear h1 h2
  go_wp2
  go_ret
  rw [HV.out]
  exact ⟨rfl, rfl⟩
 rw [decT h2]
 have HV : Hid (idOf a s = 100 * a + s) := by show _ = _; unfold idOf; rw [if_pos ⟨h1, h2⟩]
 obtain ⟨a0, a1⟩ := h1
 obtain ⟨s0, s1⟩ := h2
 go_wp2
 go_ret
 rw [HV.out]
 exact ⟨rfl, rfl⟩
theorem l6Place_any (k p : Int) (w : World) : Calls Tryz.prog 70 #[.int .i64 k, .int .i64 p] w fun e w' => e = .returned (.bool (placeOk k p)) ∧ w' = w := by
 go_enter Tryz.func70, Tryz.ntmps70
 go_wp2_with fail
 refine (l1In_any _ _ _ _).mono ?_
 rintro e w2 ⟨rfl, hw2⟩
 have hw2' := hw2.symm
 subst hw2'
 clear hw2
 obtain ⟨d1, hd1⟩ : ∃ d, d = decide (0 ≤ k ∧ k ≤ 4) := ⟨_, rfl⟩
 rw [← hd1]
 have HD1 : Hid (d1 = decide (0 ≤ k ∧ k ≤ 4)) := hd1
 clear hd1
 cases d1
 ·
  have HV : Hid (placeOk k p = false) := by show _ = _; unfold placeOk; rw [← HD1.out]; rfl
  go_wp2
  go_ret
  exact ⟨ret_bool HV.out.symm, rfl⟩
 go_wp2_with fail
 refine (l1In_any _ _ _ _).mono ?_
 rintro e w2 ⟨rfl, hw2⟩
 have hw2' := hw2.symm
 subst hw2'
 clear hw2
 obtain ⟨d2, hd2⟩ : ∃ d, d = decide (0 ≤ p ∧ p ≤ 20) := ⟨_, rfl⟩
 rw [← hd2]
 have HV : Hid (d2 = placeOk k p) := by show _ = _; unfold placeOk; rw [← HD1.out, ← hd2]; rfl
 clear hd2
 go_wp2
 go_ret
 exact ⟨ret_bool HV.out, rfl⟩
theorem itemOkSpec_any (v : Value) (x : It) (F : List Nat) (w : World) (h : RdIt w v x F) (hw : x.sk.wide) :
 Calls Tryz.prog 97 #[v] w fun e w' => e = .returned (.bool x.ok) ∧ Below w.heap.size w w' := by
 obtain ⟨a1, n1, c1, a2, n2, c2, a3, n3, c3, rfl, hr⟩ := h
 have HR : Hid (RdSk w (.agg #[.int .i64 x.sk.count, .int .i64 x.sk.sum, .int .i64 x.sk.min, .int .i64 x.sk.max, .slice a1 n1 c1, .slice a2 n2 c2, .slice a3 n3 c3]) x.sk F ∧ x.sk.wide) := ⟨hr, hw⟩
 have HB : Hid (Below w.heap.size w (w.alloc (.cells #[.int .i64 x.seq, .int .i64 x.cls, .int .i64 x.key, .int .i64 x.window, .int .i64 x.sk.count, .int .i64 x.sk.sum, .int .i64 x.sk.min, .int .i64 x.sk.max, .slice a1 n1 c1, .slice a2 n2 c2, .slice a3 n3 c3] 91)) ∧ Blk (w.alloc (.cells #[.int .i64 x.seq, .int .i64 x.cls, .int .i64 x.key, .int .i64 x.window, .int .i64 x.sk.count, .int .i64 x.sk.sum, .int .i64 x.sk.min, .int .i64 x.sk.max, .slice a1 n1 c1, .slice a2 n2 c2, .slice a3 n3 c3] 91)) w.heap.size #[.int .i64 x.seq, .int .i64 x.cls, .int .i64 x.key, .int .i64 x.window, .int .i64 x.sk.count, .int .i64 x.sk.sum, .int .i64 x.sk.min, .int .i64 x.sk.max, .slice a1 n1 c1, .slice a2 n2 c2, .slice a3 n3 c3] 91) := ⟨Below.allocW _ (Below.refl _ _) (Nat.le_refl _), Blk.made _ _ _⟩
 clear hr hw
 go_enter Tryz.func97, Tryz.ntmps97
 go_wp2_with fail
 refine (l1In_any _ _ _ _).mono ?_
 rintro e w2 ⟨rfl, hw2⟩
 have hw2' := hw2.symm
 subst hw2'
 clear hw2
 obtain ⟨d1, hd1⟩ : ∃ d, d = decide (1 ≤ x.seq ∧ x.seq ≤ 60) := ⟨_, rfl⟩
 rw [← hd1]
 have HD1 : Hid (d1 = decide (1 ≤ x.seq ∧ x.seq ≤ 60)) := hd1
 clear hd1
 cases d1
 ·
  have HV : Hid (x.ok = false) := by show _ = _; unfold It.ok; rw [← HD1.out]; rfl
  go_wp2
  go_ret
  exact ⟨ret_bool HV.out.symm, HB.out.1⟩
 go_wp2_with fail
 refine (l1In_any _ _ _ _).mono ?_
 rintro e w2 ⟨rfl, hw2⟩
 have hw2' := hw2.symm
 subst hw2'
 clear hw2
 obtain ⟨d2, hd2⟩ : ∃ d, d = decide (0 ≤ x.cls ∧ x.cls ≤ 1) := ⟨_, rfl⟩
 rw [← hd2]
 have HD2 : Hid (d2 = decide (0 ≤ x.cls ∧ x.cls ≤ 1)) := hd2
 clear hd2
 cases d2
 ·
  have HV : Hid (x.ok = false) := by show _ = _; unfold It.ok; rw [← HD1.out, ← HD2.out]; rfl
  go_wp2
  go_ret
  exact ⟨ret_bool HV.out.symm, HB.out.1⟩
 go_wp2_with fail
 refine (l6Place_any _ _ _).mono ?_
 rintro e w2 ⟨rfl, hw2⟩
 have hw2' := hw2.symm
 subst hw2'
 clear hw2
 obtain ⟨d3, hd3⟩ : ∃ d, d = placeOk x.key x.window := ⟨_, rfl⟩
 rw [← hd3]
 have HD3 : Hid (d3 = placeOk x.key x.window) := hd3
 clear hd3
 cases d3
 ·
  have HV : Hid (x.ok = false) := by show _ = _; unfold It.ok; rw [← HD1.out, ← HD2.out, ← HD3.out]; rfl
  go_wp2
  go_ret
  exact ⟨ret_bool HV.out.symm, HB.out.1⟩
 go_wp2_with (first | go_skip | (with_reducible refine stopLoad 31 rfl ?_))
 refine load_cutw 31 w.heap.size 4 7 _ #[.int .i64 x.sk.count, .int .i64 x.sk.sum, .int .i64 x.sk.min, .int .i64 x.sk.max, .slice a1 n1 c1, .slice a2 n2 c2, .slice a3 n3 c3] 91 _ HB.out.2 rfl rfl rfl Tryz.underlying31 rfl infoSkI (by simp) rfl ?_
 go_wp2_with fail
 refine (okSpec_any _ x.sk F _ (HR.out.1.below HB.out.1) HR.out.2).mono ?_
 rintro e w2 ⟨rfl, hb2⟩
 have HB2 : Hid (Below w.heap.size w w2) := Below.next HB.out.1 hb2
 have HV : Hid (x.ok = x.sk.ok) := by show _ = _; unfold It.ok; rw [← HD1.out, ← HD2.out, ← HD3.out]; rfl
 clear hb2
 obtain ⟨d4, hd4⟩ : ∃ d, d = x.sk.ok := ⟨_, rfl⟩
 rw [← hd4] at HV ⊢
 clear hd4
 go_wp2
 go_ret
 exact ⟨ret_bool HV.out.symm, HB2.out⟩
theorem entryOkSpec_any (v : Value) (x : En) (F G : List Nat) (w : World) (h : RdEn w v x F G) (hw : x.sk.wide) (hl : x.ids.length ≤ 140737488355328) :
 Calls Tryz.prog 32 #[v] w fun e w' => e = .returned (.bool x.ok) ∧ Below w.heap.size w w' := by
 obtain ⟨b, l, c, a1, n1, c1, a2, n2, c2, a3, n3, c3, rfl, hp, hr, _⟩ := h
 have HR : Hid (RdSk w (.agg #[.int .i64 x.sk.count, .int .i64 x.sk.sum, .int .i64 x.sk.min, .int .i64 x.sk.max, .slice a1 n1 c1, .slice a2 n2 c2, .slice a3 n3 c3]) x.sk G ∧ x.sk.wide) := ⟨hr, hw⟩
 have HP : Hid (RdP w b l x.ids F ∧ l ≤ 140737488355328 ∧ x.ids.length = l) := ⟨hp, by rw [← hp.length]; exact hl, hp.length⟩
 have HB : Hid (Below w.heap.size w (w.alloc (.cells #[.int .i64 x.key, .int .i64 x.window, .slice b l c, .int .i64 x.sk.count, .int .i64 x.sk.sum, .int .i64 x.sk.min, .int .i64 x.sk.max, .slice a1 n1 c1, .slice a2 n2 c2, .slice a3 n3 c3] 33)) ∧ Blk (w.alloc (.cells #[.int .i64 x.key, .int .i64 x.window, .slice b l c, .int .i64 x.sk.count, .int .i64 x.sk.sum, .int .i64 x.sk.min, .int .i64 x.sk.max, .slice a1 n1 c1, .slice a2 n2 c2, .slice a3 n3 c3] 33)) w.heap.size #[.int .i64 x.key, .int .i64 x.window, .slice b l c, .int .i64 x.sk.count, .int .i64 x.sk.sum, .int .i64 x.sk.min, .int .i64 x.sk.max, .slice a1 n1 c1, .slice a2 n2 c2, .slice a3 n3 c3] 33) := ⟨Below.allocW _ (Below.refl _ _) (Nat.le_refl _), Blk.made _ _ _⟩
 clear hr hw hp hl
 go_enter Tryz.func32, Tryz.ntmps32
 go_wp2_with fail
 refine (l6Place_any _ _ _).mono ?_
 rintro e w2 ⟨rfl, hw2⟩
 have hw2' := hw2.symm
 subst hw2'
 clear hw2
 obtain ⟨d1, hd1⟩ : ∃ d, d = placeOk x.key x.window := ⟨_, rfl⟩
 rw [← hd1]
 have HD1 : Hid (d1 = placeOk x.key x.window) := hd1
 clear hd1
 cases d1
 ·
  have HV : Hid (x.ok = false) := by show _ = _; unfold En.ok; rw [← HD1.out]; rfl
  go_wp2
  go_ret
  exact ⟨ret_bool HV.out.symm, HB.out.1⟩
 by_cases h0 : l = 0
 ·
  subst h0
  have HV : Hid (x.ok = false) := by show _ = _; unfold En.ok; rw [← HD1.out, HP.out.2.2]; rfl
  go_wp2
  go_ret
  exact ⟨ret_bool HV.out.symm, HB.out.1⟩
 have g1 : decide ((0 : Int) < (l : Int)) = true := decT (by omega)
 have g2 : decide (0 < l) = true := decT (by omega)
 have g3 : 0 < l := by omega
 clear h0
 go_wp2_with fail
 refine (setOkSpec_any b l c x.ids F _ (HP.out.1.below HB.out.1) HP.out.2.1).mono ?_
 rintro e w2 ⟨rfl, hq⟩
 have HB2 : Hid (Below w.heap.size w w2 ∧ Blk w2 w.heap.size #[.int .i64 x.key, .int .i64 x.window, .slice b l c, .int .i64 x.sk.count, .int .i64 x.sk.sum, .int .i64 x.sk.min, .int .i64 x.sk.max, .slice a1 n1 c1, .slice a2 n2 c2, .slice a3 n3 c3] 33) := ⟨Below.next HB.out.1 (quiet_below hq), HB.out.2.below (quiet_below hq)⟩
 obtain ⟨d2, hd2⟩ : ∃ d, d = x.ids.ok := ⟨_, rfl⟩
 rw [← hd2]
 have HD2 : Hid (d2 = x.ids.ok) := hd2
 clear hd2 hq HB
 cases d2
 ·
  have HV : Hid (x.ok = false) := by show _ = _; unfold En.ok; rw [← HD2.out]; simp
  go_wp2
  go_ret
  exact ⟨ret_bool HV.out.symm, HB2.out.1⟩
 go_wp2_with (first | go_skip | (with_reducible refine stopLoad 31 rfl ?_))
 refine load_cutw 31 w.heap.size 3 7 _ #[.int .i64 x.sk.count, .int .i64 x.sk.sum, .int .i64 x.sk.min, .int .i64 x.sk.max, .slice a1 n1 c1, .slice a2 n2 c2, .slice a3 n3 c3] 33 _ HB2.out.2 rfl rfl rfl Tryz.underlying31 rfl infoSkI (by simp) rfl ?_
 go_wp2_with fail
 refine (okSpec_any _ x.sk G _ (HR.out.1.below HB2.out.1) HR.out.2).mono ?_
 rintro e w3 ⟨rfl, hb3⟩
 have HB3 : Hid (Below w.heap.size w w3) := Below.next HB2.out.1 hb3
 have HV : Hid (x.ok = x.sk.ok) := by show _ = _; unfold En.ok; rw [← HD1.out, ← HD2.out, HP.out.2.2, g2]; rfl
 clear hb3
 obtain ⟨d4, hd4⟩ : ∃ d, d = x.sk.ok := ⟨_, rfl⟩
 rw [← hd4] at HV ⊢
 clear hd4
 go_wp2
 go_ret
 exact ⟨ret_bool HV.out.symm, HB3.out⟩
end Go.Proofs.YtjnamoppcklomaaGreat
