/- The walks through the program's IdOf, ItemOk and the reading of an entry. No statement of the seat is proved here. -/
import Derived.Test.YtbmbmnhamogghaoItModel
import Derived.Test.YtbmbmnhamogghaoTallyI
import Derived.Test.YtbmbmnhamogghaoSpImplA
namespace Go.Proofs.Ytbmbmnhamogghao
open Go.RowKit
set_option maxRecDepth 200000 in
theorem isSeq_any (n : Int) (w : World) : Calls Try.prog 36 #[.int .i64 n] w fun e w' => e = .returned (.bool (decide (1 ≤ n ∧ n ≤ 60))) ∧ w' = w := by
  have hd : ∀ d : Bool, d = decide (1 ≤ n ∧ n ≤ 60) → (d = true ↔ 1 ≤ n ∧ n ≤ 60) := by rintro d rfl; simp
  generalize decide (1 ≤ n ∧ n ≤ 60) = d at *
  have hd := hd d rfl
  by_cases h : 1 ≤ n
  · by_cases h2 : n ≤ 60
    · have e : Hid (d = true) := hd.2 ⟨h, h2⟩
      clear hd
      go_enter Try.func36, Try.ntmps36
      go_wp2
      go_ret
      rw [e.out]; exact ⟨rfl, rfl⟩
    · have e : Hid (d = false) := show d = false by cases d; rfl; exact absurd (hd.1 rfl).2 h2
      clear hd
      go_enter Try.func36, Try.ntmps36
      go_wp2
      go_ret
      rw [e.out]; exact ⟨rfl, rfl⟩
  · have e : Hid (d = false) := show d = false by cases d; rfl; exact absurd (hd.1 rfl).1 h
    clear hd
    go_enter Try.func36, Try.ntmps36
    go_wp2
    go_ret
    rw [e.out]; exact ⟨rfl, rfl⟩
set_option maxRecDepth 200000 in
theorem idImpl_any (a s : Int) (w : World) : Calls Try.prog 20 #[.int .i64 a, .int .i64 s] w fun e w' => e = .returned (.int .i64 (idOf a s)) ∧ w' = w := by
  go_enter Try.func20, Try.ntmps20
  go_wp2_with fail
  refine (inRange_any _ _ _).mono ?_
  rintro e w2 ⟨rfl, hw2⟩
  have hw2' := hw2.symm
  subst hw2'
  clear hw2
  by_cases h1 : 0 ≤ a ∧ a ≤ 2
  rotate_left
  · rw [decF h1]
    have HV : Hid (idOf a s = -1) := by show _ = _; unfold idOf; rw [if_neg (fun e => h1 e.1)]
    clear h1
    go_wp2
    go_ret
    rw [HV.out]
    exact ⟨rfl, rfl⟩
  rw [decT h1]
  go_wp2_with fail
  refine (isSeq_any _ _).mono ?_
  rintro e w2 ⟨rfl, hw2⟩
  have hw2' := hw2.symm
  subst hw2'
  clear hw2
  by_cases h2 : 1 ≤ s ∧ s ≤ 60
  rotate_left
  · rw [decF h2]
    have HV : Hid (idOf a s = -1) := by show _ = _; unfold idOf; rw [if_neg (fun e => h2 e.2)]
    clear h1 h2
    go_wp2
    go_ret
    rw [HV.out]
    exact ⟨rfl, rfl⟩
  rw [decT h2]
  have HV : Hid (idOf a s = 100 * a + s) := by show _ = _; unfold idOf; rw [if_pos ⟨h1, h2⟩]
  obtain ⟨a0, a1⟩ := h1
  obtain ⟨s0, s1⟩ := h2
  go_wp2
  go_ret
  rw [HV.out]
  exact ⟨rfl, rfl⟩
set_option maxRecDepth 200000 in
theorem isPlace_any (k p : Int) (w : World) : Calls Try.prog 41 #[.agg #[.int .i64 k, .int .i64 p]] w fun e w' => e = .returned (.bool (placeOk k p)) ∧ Below w.heap.size w w' := by
  have HB : Hid (Below w.heap.size w (w.alloc (.cells #[.int .i64 k, .int .i64 p] 63))) := (Below.refl _ _).alloc (Nat.le_refl _) _
  go_enter Try.func41, Try.ntmps41
  go_wp2_with fail
  refine (inRange_any _ _ _).mono ?_
  rintro e w2 ⟨rfl, hw2⟩
  have hw2' := hw2.symm
  subst hw2'
  clear hw2
  obtain ⟨d1, hd1⟩ : ∃ d, d = decide (0 ≤ k ∧ k ≤ 4) := ⟨_, rfl⟩
  rw [← hd1]
  have HD1 : Hid (d1 = decide (0 ≤ k ∧ k ≤ 4)) := hd1
  clear hd1
  cases d1
  · have HV : Hid (placeOk k p = false) := by show _ = _; unfold placeOk; rw [← HD1.out]; rfl
    go_wp2
    go_ret
    exact ⟨ret_bool HV.out.symm, HB.out⟩
  go_wp2_with fail
  refine (inRange_any _ _ _).mono ?_
  rintro e w2 ⟨rfl, hw2⟩
  have hw2' := hw2.symm
  subst hw2'
  clear hw2
  obtain ⟨d2, hd2⟩ : ∃ d, d = decide (0 ≤ p ∧ p ≤ 20) := ⟨_, rfl⟩
  rw [← hd2]
  have HV : Hid (d2 = placeOk k p) := by show _ = _; unfold placeOk; rw [← HD1.out, ← hd2]; rfl
  clear hd2
  go_wp2
  go_ret
  exact ⟨ret_bool HV.out, HB.out⟩
set_option maxRecDepth 200000 in
set_option maxHeartbeats 2000000 in
theorem itemOkImpl_any (v : Value) (x : It) (F : List Nat) (w : World) (h : RdIt w v x F) (hw : x.sk.wide) :
    Calls Try.prog 24 #[v] w fun e w' => e = .returned (.bool x.ok) ∧ Below w.heap.size w w' := by
  obtain ⟨a1, n1, c1, a2, n2, c2, a3, n3, c3, rfl, hr⟩ := h
  have HR : Hid (RdSk w (.agg #[.int .i64 x.sk.count, .int .i64 x.sk.sum, .int .i64 x.sk.min, .int .i64 x.sk.max, .slice a1 n1 c1, .slice a2 n2 c2, .slice a3 n3 c3]) x.sk F ∧ x.sk.wide) := ⟨hr, hw⟩
  have HB : Hid (Below w.heap.size w (w.alloc (.cells #[.int .i64 x.seq, .int .i64 x.cls, .int .i64 x.key, .int .i64 x.window, .int .i64 x.sk.count, .int .i64 x.sk.sum, .int .i64 x.sk.min, .int .i64 x.sk.max, .slice a1 n1 c1, .slice a2 n2 c2, .slice a3 n3 c3] 45)) ∧ Blk (w.alloc (.cells #[.int .i64 x.seq, .int .i64 x.cls, .int .i64 x.key, .int .i64 x.window, .int .i64 x.sk.count, .int .i64 x.sk.sum, .int .i64 x.sk.min, .int .i64 x.sk.max, .slice a1 n1 c1, .slice a2 n2 c2, .slice a3 n3 c3] 45)) w.heap.size #[.int .i64 x.seq, .int .i64 x.cls, .int .i64 x.key, .int .i64 x.window, .int .i64 x.sk.count, .int .i64 x.sk.sum, .int .i64 x.sk.min, .int .i64 x.sk.max, .slice a1 n1 c1, .slice a2 n2 c2, .slice a3 n3 c3] 45) := ⟨Below.allocW _ (Below.refl _ _) (Nat.le_refl _), Blk.made _ _ _⟩
  clear hr hw
  go_enter Try.func24, Try.ntmps24
  go_wp2_with fail
  refine (isSeq_any _ _).mono ?_
  rintro e w2 ⟨rfl, hw2⟩
  have hw2' := hw2.symm
  subst hw2'
  clear hw2
  obtain ⟨d1, hd1⟩ : ∃ d, d = decide (1 ≤ x.seq ∧ x.seq ≤ 60) := ⟨_, rfl⟩
  rw [← hd1]
  have HD1 : Hid (d1 = decide (1 ≤ x.seq ∧ x.seq ≤ 60)) := hd1
  clear hd1
  cases d1
  · have HV : Hid (x.ok = false) := by show _ = _; unfold It.ok; rw [← HD1.out]; rfl
    go_wp2
    go_ret
    exact ⟨ret_bool HV.out.symm, HB.out.1⟩
  go_wp2_with fail
  refine (inRange_any _ _ _).mono ?_
  rintro e w2 ⟨rfl, hw2⟩
  have hw2' := hw2.symm
  subst hw2'
  clear hw2
  obtain ⟨d2, hd2⟩ : ∃ d, d = decide (0 ≤ x.cls ∧ x.cls ≤ 1) := ⟨_, rfl⟩
  rw [← hd2]
  have HD2 : Hid (d2 = decide (0 ≤ x.cls ∧ x.cls ≤ 1)) := hd2
  clear hd2
  cases d2
  · have HV : Hid (x.ok = false) := by show _ = _; unfold It.ok; rw [← HD1.out, ← HD2.out]; rfl
    go_wp2
    go_ret
    exact ⟨ret_bool HV.out.symm, HB.out.1⟩
  go_wp2_with fail
  refine (isPlace_any _ _ _).mono ?_
  rintro e w2 ⟨rfl, hb2⟩
  have HB2 : Hid (Below w.heap.size w w2 ∧ Blk w2 w.heap.size #[.int .i64 x.seq, .int .i64 x.cls, .int .i64 x.key, .int .i64 x.window, .int .i64 x.sk.count, .int .i64 x.sk.sum, .int .i64 x.sk.min, .int .i64 x.sk.max, .slice a1 n1 c1, .slice a2 n2 c2, .slice a3 n3 c3] 45) := ⟨Below.next HB.out.1 hb2, HB.out.2.below hb2⟩
  clear hb2
  obtain ⟨d3, hd3⟩ : ∃ d, d = placeOk x.key x.window := ⟨_, rfl⟩
  rw [← hd3]
  have HD3 : Hid (d3 = placeOk x.key x.window) := hd3
  clear hd3
  cases d3
  · have HV : Hid (x.ok = false) := by show _ = _; unfold It.ok; rw [← HD1.out, ← HD2.out, ← HD3.out]; rfl
    go_wp2
    go_ret
    exact ⟨ret_bool HV.out.symm, HB2.out.1⟩
  go_wp2_with (first | go_skip | (with_reducible refine stopLoad 43 rfl ?_))
  refine load_cutw 43 w.heap.size 4 7 _ #[.int .i64 x.sk.count, .int .i64 x.sk.sum, .int .i64 x.sk.min, .int .i64 x.sk.max, .slice a1 n1 c1, .slice a2 n2 c2, .slice a3 n3 c3] 45 _ HB2.out.2 rfl rfl rfl Try.underlying43 rfl infoSkI (by simp) rfl ?_
  go_wp2_with fail
  refine (okImpl_any _ x.sk F _ (HR.out.1.below HB2.out.1) HR.out.2).mono ?_
  rintro e w3 ⟨rfl, hb3⟩
  have HB3 : Hid (Below w.heap.size w w3) := Below.next HB2.out.1 hb3
  have HV : Hid (x.ok = x.sk.ok) := by show _ = _; unfold It.ok; rw [← HD1.out, ← HD2.out, ← HD3.out]; rfl
  clear hb3
  obtain ⟨d4, hd4⟩ : ∃ d, d = x.sk.ok := ⟨_, rfl⟩
  rw [← hd4] at HV ⊢
  clear hd4
  go_wp2
  go_ret
  exact ⟨ret_bool HV.out.symm, HB3.out⟩
/-- The cells of an entry as the program holds it. -/
def hc (k p : Int) (a : Option Addr) (l c : Nat) (ys : List Int) : Array Value := (.int .i64 k :: .int .i64 p :: .slice a l c :: ys.map (Value.int .i64)).toArray
theorem hc_size {k p : Int} {a : Option Addr} {l c : Nat} {ys : List Int} (h : ys.length = 28) : (hc k p a l c ys).size = 31 := by
  unfold hc; simp [h]
theorem hc_one (k p : Int) (a : Option Addr) (l c : Nat) (ys : List Int) : (hc k p a l c ys).all (·.oneCell') = true := by
  unfold hc
  simp [Value.oneCell']
section
variable {P : Program} {ops : Array Oper} {Q : Exit → Act → World → Prop} {rest : List Oper} {a : Act} {w : World} {o : Oper}
theorem stopBuild (ty : TypeId) {fs : Array (Nat × Operand)} (_ho : o.op = .build ty fs) (h : Stop (wpList P ops Q (o :: rest) a w)) : wpList P ops Q (o :: rest) a w := h
/-- A value that is put together, by a law of its own. -/
theorem built_any {ty : TypeId} {fs : Array (Nat × Operand)} (v : Value) (hw : Region.wanted o (yielded ops a.tmps) = true) (ho : o.op = .build ty fs) (hr : (Instr.build ty (fs.map fun p => (p.1, a.eval p.2))).run P w = .ok v w) (h : wpList P ops Q rest (a.put o.dst v) w) : Stop (wpList P ops Q (o :: rest) a w) :=
  wpList_step fun K hK => by
    rw [if_pos hw]
    unfold Oper.wp execOp
    simp only [ho]
    simp [hr]
    exact hK _ _ h
end
end Go.Proofs.Ytbmbmnhamogghao
