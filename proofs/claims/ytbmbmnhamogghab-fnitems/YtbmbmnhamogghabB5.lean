/- Several texts of mine, laid together. No statement of the seat is proved here. -/
import Derived.Test.YtbmbmnhamogghabB4
import Derived.Test.YtbmbmnhamogghabB1
import Derived.Laws.BitsAllLaws
import Derived.Deep.QuietTactic
import Derived.BigQuiet
import Derived.Test.YtbmbmnhamogghabB2
/- The program's look at all numbers of its row. No statement of the seat is proved here. -/
namespace Go.Proofs.Ytbmbmnhamogghab
open Go.RowKit
def inB (xs : List Int) : Bool :=
  decide (0 ≤ xs.getD 0 0 ∧ xs.getD 0 0 ≤ 1000000000) && decide (0 ≤ xs.getD 1 0 ∧ xs.getD 1 0 ≤ 1000000000) && decide (0 ≤ xs.getD 2 0 ∧ xs.getD 2 0 ≤ 1000000) && decide (0 ≤ xs.getD 3 0 ∧ xs.getD 3 0 ≤ 1000000) &&
  ((xs.drop 20).take 4).all (okN 1000000000 false) && ((xs.drop 24).take 4).all (okN 1000000000 false) && ((xs.drop 4).take 8).all (okN 1000000000 false) && ((xs.drop 12).take 8).all (okN 17 false)
theorem rdI_tc {W : World} {g off n : Nat} {xs : List Int} {t : TypeId} (h : Blk W g (tc xs) t) (hfit : off + n ≤ xs.length) (hp : 0 < n) : RdI W (some ⟨g, off, none⟩) n ((xs.drop off).take n) [g] := by
  refine ⟨by simp; omega, .inr ⟨g, off, hp, rfl, rfl, fun i hi => ?_⟩⟩
  rw [h.cell, tc_get (by omega)]
  simp [hi]
theorem rdI_tc0 {W : World} {g n : Nat} {xs : List Int} {t : TypeId} (h : Blk W g (tc xs) t) (hn : xs.length = n) (hp : 0 < n) : RdI W (some ⟨g, 0, none⟩) n xs [g] := by
  have := rdI_tc h (off := 0) (n := n) (by omega) hp
  rw [List.drop_zero, List.take_of_length_le (by omega)] at this
  exact this
theorem run_index_row {P : Program} (w : World) (t u e : TypeId) (zs : List Int) (i : Int) (n : Nat) (hn : i = n) (h2 : n < 2) (ht : P.underlying t = some (.array 2 u)) (hu : P.underlying u = some (.array 4 e)) (hs : ∀ w, (sizeOf u).run P w = .ok 4 w) :
    (Instr.index t (.agg (tc zs)) (.int .i64 i)).run P w = .ok (.agg (tc ((zs.drop (n * 4)).take 4))) w := by
  have hagg : (isAgg u).run P w = .ok true w := by unfold isAgg; rw [Sem.run_bind, run_underlying hu w]; simp
  subst hn
  have h3 : (0 : Int) ≤ n ∧ (n : Int) < 2 := by omega
  unfold Instr.index part
  simp [asIntOf, run_underlying ht, Sem.run_bind, h3, hs, hagg, tc_extract]
  intro h; omega
set_option maxRecDepth 200000 in
set_option maxHeartbeats 2000000 in
theorem inBounds_any (xs : List Int) (w : World) (hx : xs.length = 28) :
    Calls Try.prog 77 #[.agg (tc xs)] w fun e w' => e = .returned (.bool (inB xs)) ∧ Below w.heap.size w w' := by
  have HL : Hid (xs.length = 28) := hx
  have HT : Hid (Blk (w.alloc (.cells (tc xs) 56)) w.heap.size (tc xs) 56 ∧ Below w.heap.size w (w.alloc (.cells (tc xs) 56))) := ⟨Blk.made _ _ _, (Below.refl _ _).alloc (Nat.le_refl _) _⟩
  obtain ⟨d, hd⟩ : ∃ d, d = inB xs := ⟨_, rfl⟩
  rw [← hd]
  have HD : Hid (d = inB xs) := hd
  obtain ⟨x0, hx0⟩ : ∃ x, x = xs.getD 0 0 := ⟨_, rfl⟩
  obtain ⟨x1, hx1⟩ : ∃ x, x = xs.getD 1 0 := ⟨_, rfl⟩
  obtain ⟨x2, hx2⟩ : ∃ x, x = xs.getD 2 0 := ⟨_, rfl⟩
  obtain ⟨x3, hx3⟩ : ∃ x, x = xs.getD 3 0 := ⟨_, rfl⟩
  have a0 : (tc xs)[0]? = some (.int .i64 x0) := by rw [hx0]; exact tc_get (by omega)
  have a1 : (tc xs)[1]? = some (.int .i64 x1) := by rw [hx1]; exact tc_get (by omega)
  have a2 : (tc xs)[2]? = some (.int .i64 x2) := by rw [hx2]; exact tc_get (by omega)
  have a3 : (tc xs)[3]? = some (.int .i64 x3) := by rw [hx3]; exact tc_get (by omega)
  have HX : Hid (x0 = xs.getD 0 0 ∧ x1 = xs.getD 1 0 ∧ x2 = xs.getD 2 0 ∧ x3 = xs.getD 3 0) := ⟨hx0, hx1, hx2, hx3⟩
  clear hx hd hx0 hx1 hx2 hx3
  go_enter Try.func77, Try.ntmps77
  go_wp2_with fail
  refine (inRange_any _ _ _).mono ?_
  rintro e w1 ⟨rfl, hw1⟩
  have hw1' := hw1.symm
  subst hw1'
  clear hw1
  by_cases p0 : 0 ≤ x0 ∧ x0 ≤ 1000000000
  rotate_left
  · rw [dec_false p0]
    have HN : Hid (d = false) := by show d = _; rw [HD.out]; unfold inB; rw [← HX.out.1, dec_false p0]; simp
    clear p0
    go_wp2
    go_ret
    exact ⟨ret_bool HN.out.symm, HT.out.2⟩
  rw [dec_true p0]
  have P0 : Hid (decide (0 ≤ x0 ∧ x0 ≤ 1000000000) = true) := dec_true p0
  clear p0
  go_wp2_with fail
  refine (inRange_any _ _ _).mono ?_
  rintro e w1 ⟨rfl, hw1⟩
  have hw1' := hw1.symm
  subst hw1'
  clear hw1
  by_cases p1 : 0 ≤ x1 ∧ x1 ≤ 1000000000
  rotate_left
  · rw [dec_false p1]
    have HN : Hid (d = false) := by show d = _; rw [HD.out]; unfold inB; rw [← HX.out.2.1, dec_false p1]; simp
    clear p1
    go_wp2
    go_ret
    exact ⟨ret_bool HN.out.symm, HT.out.2⟩
  rw [dec_true p1]
  have P1 : Hid (decide (0 ≤ x1 ∧ x1 ≤ 1000000000) = true) := dec_true p1
  clear p1
  go_wp2_with fail
  refine (inRange_any _ _ _).mono ?_
  rintro e w1 ⟨rfl, hw1⟩
  have hw1' := hw1.symm
  subst hw1'
  clear hw1
  by_cases p2 : 0 ≤ x2 ∧ x2 ≤ 1000000
  rotate_left
  · rw [dec_false p2]
    have HN : Hid (d = false) := by show d = _; rw [HD.out]; unfold inB; rw [← HX.out.2.2.1, dec_false p2]; simp
    clear p2
    go_wp2
    go_ret
    exact ⟨ret_bool HN.out.symm, HT.out.2⟩
  rw [dec_true p2]
  have P2 : Hid (decide (0 ≤ x2 ∧ x2 ≤ 1000000) = true) := dec_true p2
  clear p2
  go_wp2_with fail
  refine (inRange_any _ _ _).mono ?_
  rintro e w1 ⟨rfl, hw1⟩
  have hw1' := hw1.symm
  subst hw1'
  clear hw1
  by_cases p3 : 0 ≤ x3 ∧ x3 ≤ 1000000
  rotate_left
  · rw [dec_false p3]
    have HN : Hid (d = false) := by show d = _; rw [HD.out]; unfold inB; rw [← HX.out.2.2.2, dec_false p3]; simp
    clear p3
    go_wp2
    go_ret
    exact ⟨ret_bool HN.out.symm, HT.out.2⟩
  rw [dec_true p3]
  have P3 : Hid (decide (0 ≤ x3 ∧ x3 ≤ 1000000) = true) := dec_true p3
  clear p3
  go_wp2_with (first | go_skip | (with_reducible refine stopLoad 54 rfl ?_))
  refine load_part 54 w.heap.size 20 8 xs 56 _ HT.out.1 rfl rfl rfl Try.underlying54 rfl (by kernel_rfl) (by rw [HL.out]; omega) ?_
  obtain ⟨A, hA⟩ : ∃ A, A = (xs.drop 20).take 8 := ⟨_, rfl⟩
  rw [← hA]
  obtain ⟨R0, hR0⟩ : ∃ A, A = (xs.drop 20).take 4 := ⟨_, rfl⟩
  obtain ⟨R1, hR1⟩ : ∃ A, A = (xs.drop 24).take 4 := ⟨_, rfl⟩
  have HRE : Hid (R0 = (xs.drop 20).take 4 ∧ R1 = (xs.drop 24).take 4) := ⟨hR0, hR1⟩
  have HRL : Hid (R0.length = 4 ∧ R1.length = 4) := ⟨by rw [hR0]; simp; have := HL.out; omega, by rw [hR1]; simp; have := HL.out; omega⟩
  have i0 : ∀ w, (Instr.index 54 (.agg (tc A)) (.int .i64 0)).run Try.prog w = .ok (.agg (tc R0)) w := fun w => by
    rw [run_index_row w 54 53 3 A 0 0 rfl (by omega) Try.underlying54 Try.underlying53 (fun _ => by simp), hA, hR0]
    simp [List.take_take]
  have i1 : ∀ w, (Instr.index 54 (.agg (tc A)) (.int .i64 1)).run Try.prog w = .ok (.agg (tc R1)) w := fun w => by
    rw [run_index_row w 54 53 3 A 1 1 rfl (by omega) Try.underlying54 Try.underlying53 (fun _ => by simp), hA, hR1]
    rw [List.drop_take, List.drop_drop, List.take_take]
    rfl
  clear hA hR0 hR1
  go_wp2
  refine wp_loop_rounds 3 ?_
  rw [rounds_succ]
  go_wp2_with (first | (with_reducible refine stopStore 53 rfl ?_))
  refine store_fresh 53 (w.heap.size + 1) (by simp) (tc (List.replicate 4 0)) (tc R0) 53 rfl rfl rfl rfl (by rw [tc_size, HRL.out.1]; kernel_rfl) (by rw [tc_size, tc_size, HRL.out.1]; rfl) (tc_one _) ?_
  intro W0 hg0 hb0
  have HB0 : Hid (Below w.heap.size w W0 ∧ Blk W0 w.heap.size (tc xs) 56) := ⟨Below.next HT.out.2 hb0, HT.out.1.below hb0⟩
  have HG0 : Hid (Blk W0 _ (tc R0) 53) := hg0
  clear hg0 hb0
  go_wp2_with fail
  refine (allInRange_any _ 4 _ R0 _ 1000000000 _ (rdI_tc0 HG0.out HRL.out.1 (by omega)) (by omega)).mono ?_
  rintro e w1 ⟨rfl, hw1⟩
  have hw1' := hw1.symm
  subst hw1'
  clear hw1
  cases l0 : R0.all (okN 1000000000 false)
  · have HN : Hid (d = false) := by show d = _; rw [HD.out]; unfold inB; rw [← HRE.out.1, l0]; simp
    clear l0
    go_wp2
    go_ret
    exact ⟨ret_bool HN.out.symm, HB0.out.1⟩
  have L0 : Hid (R0.all (okN 1000000000 false) = true) := l0
  clear l0
  go_wp2_with fail
  rw [rounds_succ]
  go_wp2_with (first | (with_reducible refine stopStore 53 rfl ?_))
  refine store_fresh 53 W0.heap.size rfl (tc (List.replicate 4 0)) (tc R1) 53 rfl rfl rfl rfl (by rw [tc_size, HRL.out.2]; kernel_rfl) (by rw [tc_size, tc_size, HRL.out.2]; rfl) (tc_one _) ?_
  intro W1 hg1 hb1
  have HB1 : Hid (Below w.heap.size w W1 ∧ Blk W1 w.heap.size (tc xs) 56) := ⟨Below.next HB0.out.1 hb1, HB0.out.2.below hb1⟩
  have HG1 : Hid (Blk W1 _ (tc R1) 53) := hg1
  clear hg1 hb1
  go_wp2_with fail
  refine (allInRange_any _ 4 _ R1 _ 1000000000 _ (rdI_tc0 HG1.out HRL.out.2 (by omega)) (by omega)).mono ?_
  rintro e w1 ⟨rfl, hw1⟩
  have hw1' := hw1.symm
  subst hw1'
  clear hw1
  cases l1 : R1.all (okN 1000000000 false)
  · have HN : Hid (d = false) := by show d = _; rw [HD.out]; unfold inB; rw [← HRE.out.2, l1]; simp
    clear l1
    go_wp2
    go_ret
    exact ⟨ret_bool HN.out.symm, HB1.out.1⟩
  have L1 : Hid (R1.all (okN 1000000000 false) = true) := l1
  clear l1
  go_wp2_with fail
  rw [rounds_succ]
  go_wp2_with fail
  refine (allInRange_any _ 8 _ ((xs.drop 4).take 8) _ 1000000000 _ (rdI_tc HB1.out.2 (by have := HL.out; omega) (by omega)) (by omega)).mono ?_
  rintro e w1 ⟨rfl, hw1⟩
  have hw1' := hw1.symm
  subst hw1'
  clear hw1
  cases l2 : ((xs.drop 4).take 8).all (okN 1000000000 false)
  · have HN : Hid (d = false) := by show d = _; rw [HD.out]; unfold inB; rw [l2]; simp
    clear l2
    go_wp2
    go_ret
    exact ⟨ret_bool HN.out.symm, HB1.out.1⟩
  have L2 : Hid (((xs.drop 4).take 8).all (okN 1000000000 false) = true) := l2
  clear l2
  go_wp2_with fail
  refine (allInRange_any _ 8 _ ((xs.drop 12).take 8) _ 17 _ (rdI_tc HB1.out.2 (by have := HL.out; omega) (by omega)) (by omega)).mono ?_
  rintro e w1 ⟨rfl, hw1⟩
  have hw1' := hw1.symm
  subst hw1'
  clear hw1
  obtain ⟨d2, hd2⟩ : ∃ d, d = ((xs.drop 12).take 8).all (okN 17 false) := ⟨_, rfl⟩
  rw [← hd2]
  have HE : Hid (d = d2) := by show d = _; rw [HD.out]; unfold inB; rw [← HX.out.1, ← HX.out.2.1, ← HX.out.2.2.1, ← HX.out.2.2.2, P0.out, P1.out, P2.out, P3.out, ← HRE.out.1, ← HRE.out.2, L0.out, L1.out, L2.out, hd2]; simp
  clear hd2
  go_wp2
  go_ret
  exact ⟨ret_bool HE.out.symm, HB1.out.1⟩
end Go.Proofs.Ytbmbmnhamogghab
/- What the program lays out of its row: a summary in memory of its own. No statement of the seat is proved here. -/
namespace Go.Proofs.Ytbmbmnhamogghab
open Go.RowKit
set_option maxRecDepth 200000 in
set_option maxHeartbeats 400000 in
theorem copiedList_any (b off len cap : Nat) (zs : List Int) (F : List Nat) (w : World) (h : RdI w (some ⟨b, off, none⟩) len zs F) (hp : 0 < len) (hlen : len ≤ 1048576) :
    Calls Try.prog 71 #[.slice (some ⟨b, off, none⟩) len cap] w fun e w' => NewI w zs e w' := by
  obtain ⟨i0, hi, hz0, hz1, hz2⟩ := info_parts infoInt
  have HR : Hid (RdI w (some ⟨b, off, none⟩) len zs F) := h
  have hlz := h.length
  obtain ⟨ad, had, hsrc⟩ := h.src (Below.refl _ _) hp
  obtain rfl := Option.some.inj had
  have HSrc : Hid (∀ j v, (zs.map (Value.int .i64))[j]? = some v → w.cell? ((⟨b, off, none⟩ : Addr).add j) = some v) := hsrc
  have HO : Hid (w.ownsRow w.heap.size 3 1 (.slice none 0 0) 0 []) := ⟨rfl, .inl ⟨rfl, rfl⟩⟩
  clear h hsrc had
  go_enter Try.func71, Try.ntmps71
  go_wp2_with (at_builtin; (refine wpList_append_own _ rfl _ _ 25 rfl w.heap.size 3 i0 (.int .i64 0) 1 8 Try.underlying25 hi hz0 hz1 hz2 rfl (by decide) _ 0 [] rfl HO.out ⟨b, off, none⟩ len cap (zs.map (Value.int .i64)) rfl (by simp [hlz]) HSrc.out (ints_one _) (by unfold maxLen; omega) (by omega) (by omega) ?_))
  intro v w2 hown hgrow _
  have HN : Hid (w2.ownsRow w.heap.size 3 1 v len (zs.map (Value.int .i64)) ∧ Below w.heap.size w w2) := ⟨by simpa using hown, (Below.refl _ _).grown hgrow (by omega) (fun k hk => by cases hk)⟩
  clear hown hgrow
  go_wp2
  go_ret
  obtain ⟨a, c, F', rfl, hr, ho⟩ := rdI_of_own HN.out.1
  exact ⟨a, len, c, F', rfl, hr, ho, HN.out.2⟩
/-- The summary whose numbers these are. -/
def skOf (xs : List Int) : Sk := ⟨xs.getD 0 0, xs.getD 1 0, xs.getD 2 0, xs.getD 3 0, (xs.drop 4).take 8, (xs.drop 12).take 8, [(xs.drop 20).take 4, (xs.drop 24).take 4]⟩
theorem Own.perm {B : Nat} {w : World} {F G : List Nat} (h : Own B w F) (p : F.Perm G) : Own B w G :=
  ⟨p.nodup h.nodup, fun b hb => h.free b (p.mem_iff.2 hb), fun b hb => h.ge b (p.mem_iff.2 hb)⟩
theorem Own.blk {B : Nat} {w : World} {F : List Nat} {g : Nat} {cs : Array Value} {t : TypeId} (h : Own B w F) (b : Blk w g cs t) (hg : g ∉ F) (hB : B ≤ g) : Own B w (F ++ [g]) :=
  h.app ⟨by simp, fun x hx o => by (obtain rfl : x = g := by simpa using hx); exact b.frozen o, fun x hx => by (obtain rfl : x = g := by simpa using hx); exact hB⟩ (fun x hx hx' => hg (by (obtain rfl : x = g := by simpa using hx'); exact hx))
theorem two_rows4 {wx : World} {x2 x3 : Option Addr} {l2 l3 : List Int} {X2 X3 : List Nat} {g : Nat} {j2 j3 : Nat} {t : TypeId} (br : Blk wx g #[.slice x2 4 j2, .slice x3 4 j3] t) (r2 : RdI wx x2 4 l2 X2) (r3 : RdI wx x3 4 l3 X3) : RdII wx (some ⟨g, 0, none⟩) 2 [l2, l3] (g :: (X2 ++ X3)) := by
  refine ⟨rfl, .inr ⟨g, 0, X2 ++ X3, by omega, rfl, rfl, ?_⟩⟩
  show RdM wx [ints l2, ints l3] g 0 (X2 ++ X3)
  rw [RdM]
  refine ⟨_, X2, X3, by rw [br.cell 0]; rfl, rd_ints.2 ⟨_, 4, j2, rfl, r2⟩, ?_, rfl⟩
  rw [RdM]
  exact ⟨_, X3, [], by rw [br.cell 1]; rfl, rd_ints.2 ⟨_, 4, j3, rfl, r3⟩, by simp [RdM], by simp⟩
/-- Four lists that were made one behind the other, and a row of the last two. -/
theorem four_lists {w0 w1 w2 w3 w4 w5 : World} {a1 a2 a3 a4 : Option Addr} {n1 n2 n3 n4 : Nat} {l1 l2 l3 l4 : List Int} {F1 F2 F3 F4 : List Nat} {cs : Array Value} {t : TypeId}
    (r1 : RdI w1 a1 n1 l1 F1) (o1 : Own w0.heap.size w1 F1) (b1 : Below w0.heap.size w0 w1) (r2 : RdI w2 a2 n2 l2 F2) (o2 : Own w1.heap.size w2 F2) (b2 : Below w1.heap.size w1 w2) (r3 : RdI w3 a3 n3 l3 F3) (o3 : Own w2.heap.size w3 F3) (b3 : Below w2.heap.size w2 w3)
    (r4 : RdI w4 a4 n4 l4 F4) (o4 : Own w3.heap.size w4 F4) (b4 : Below w3.heap.size w3 w4) (k : Blk w5 w4.heap.size cs t) (b5 : Below w4.heap.size w4 w5) :
    RdI w5 a1 n1 l1 F1 ∧ RdI w5 a2 n2 l2 F2 ∧ RdI w5 a3 n3 l3 F3 ∧ RdI w5 a4 n4 l4 F4 ∧ Own w0.heap.size w5 (F1 ++ (F2 ++ (w4.heap.size :: (F3 ++ F4)))) := by
  have s1 := b1.size; have s2 := b2.size; have s3 := b3.size; have s4 := b4.size
  have p2 := (o1.below r1.lt b2).join o2 r1.lt s1
  have q1 := r1.below b2
  have l2 : ∀ b ∈ F1 ++ F2, b < w2.heap.size := fun b h => (List.mem_append.1 h).elim (q1.lt b) (r2.lt b)
  have p3 := (p2.below l2 b3).join o3 l2 (by omega)
  have l3 : ∀ b ∈ F1 ++ F2 ++ F3, b < w3.heap.size := fun b h => (List.mem_append.1 h).elim (fun h => by have := l2 b h; omega) (r3.lt b)
  have p4 := (p3.below l3 b4).join o4 l3 (by omega)
  have l4 : ∀ b ∈ F1 ++ F2 ++ F3 ++ F4, b < w4.heap.size := fun b h => (List.mem_append.1 h).elim (fun h => by have := l3 b h; omega) (r4.lt b)
  have p5 := (p4.below l4 b5).blk k (fun h => by have := l4 _ h; omega) (by omega)
  refine ⟨((q1.below b3).below b4).below b5, ((r2.below b3).below b4).below b5, (r3.below b4).below b5, r4.below b5, p5.perm ?_⟩
  rw [List.perm_iff_count]
  intro x
  simp only [List.count_append, List.count_cons, List.count_nil]
  omega
/-- The row lies there, and its four first numbers are these. -/
def SkHeld (g : Nat) (xs : List Int) (x0 x1 x2 x3 : Int) (W : World) : Prop := Blk W g (tc xs) 56 ∧ W.cell? ⟨g, 0, none⟩ = some (.int .i64 x0) ∧ W.cell? ⟨g, 1, none⟩ = some (.int .i64 x1) ∧ W.cell? ⟨g, 2, none⟩ = some (.int .i64 x2) ∧ W.cell? ⟨g, 3, none⟩ = some (.int .i64 x3)
set_option maxRecDepth 200000 in
set_option maxHeartbeats 4000000 in
theorem sketch_any (xs : List Int) (w : World) (hx : xs.length = 28) :
    Calls Try.prog 61 #[.agg (tc xs)] w fun e w' => NewSk w (skOf xs) e w' := by
  have HL : Hid (xs.length = 28) := hx
  obtain ⟨x0, hx0⟩ : ∃ x, x = xs.getD 0 0 := ⟨_, rfl⟩
  obtain ⟨x1, hx1⟩ : ∃ x, x = xs.getD 1 0 := ⟨_, rfl⟩
  obtain ⟨x2, hx2⟩ : ∃ x, x = xs.getD 2 0 := ⟨_, rfl⟩
  obtain ⟨x3, hx3⟩ : ∃ x, x = xs.getD 3 0 := ⟨_, rfl⟩
  have HX : Hid (x0 = xs.getD 0 0 ∧ x1 = xs.getD 1 0 ∧ x2 = xs.getD 2 0 ∧ x3 = xs.getD 3 0) := ⟨hx0, hx1, hx2, hx3⟩
  have mkS : ∀ W, Blk W w.heap.size (tc xs) 56 → SkHeld w.heap.size xs x0 x1 x2 x3 W := fun W b =>
    ⟨b, by rw [b.cell, hx0]; exact tc_get (by omega), by rw [b.cell, hx1]; exact tc_get (by omega), by rw [b.cell, hx2]; exact tc_get (by omega), by rw [b.cell, hx3]; exact tc_get (by omega)⟩
  have keepS : ∀ {W W' : World}, SkHeld w.heap.size xs x0 x1 x2 x3 W → Below W.heap.size W W' → SkHeld w.heap.size xs x0 x1 x2 x3 W' := fun h b => mkS _ (h.1.below b)
  have HT : Hid (_ ∧ _ ∧ _) := two_made w (tc xs) #[.int .i64 0, .int .i64 0, .int .i64 0, .int .i64 0, .slice none 0 0, .slice none 0 0, .slice none 0 0] 56 28
  clear hx hx0 hx1 hx2 hx3
  go_enter Try.func61, Try.ntmps61
  go_wp2
  obtain ⟨W0, hW0⟩ : ∃ W0, W0 = (w.alloc (.cells (tc xs) 56)).alloc (.cells #[.int .i64 0, .int .i64 0, .int .i64 0, .int .i64 0, .slice none 0 0, .slice none 0 0, .slice none 0 0] 28) := ⟨_, rfl⟩
  rw [← hW0] at HT ⊢
  clear hW0
  have HS : Hid (SkHeld w.heap.size xs x0 x1 x2 x3 W0.drew) := mkS _ HT.out.1.drew
  refine wp_region_held (S := SkHeld w.heap.size xs x0 x1 x2 x3) (by kernel_rfl) ?_
  change wpAnyH _ _ _ _ _ _ _ _ (World.drew _)
  refine takeH (o := ?o1) 0 (.pointer (some ⟨w.heap.size, 0, none⟩)) ?h1 ?r1
  case h1 => simp only [List.getElem?_toArray, List.getElem?_cons_zero]; rfl
  refine ⟨_, by simp [Act.put]; rfl, by kernel_rfl, by kernel_rfl, by kernel_rfl, fun _ _ _ h => h, (.inl ⟨rfl, fun W _ => by go_simp⟩), HS.out, ?_⟩
  refine takeH (o := ?o2) 1 (.int .i64 x0) ?h2 ?r2
  case h2 => simp only [List.getElem?_toArray, List.getElem?_cons_succ, List.getElem?_cons_zero]; rfl
  refine ⟨_, by simp [Act.put]; rfl, by kernel_rfl, by kernel_rfl, by kernel_rfl, fun _ _ _ h => h, (.inl ⟨rfl, fun W hW => by have c := hW.2.1; go_simp⟩), HS.out, ?_⟩
  refine takeH (o := ?o3) 2 (.pointer (some ⟨w.heap.size, 1, none⟩)) ?h3 ?r3
  case h3 => simp only [List.getElem?_toArray, List.getElem?_cons_succ, List.getElem?_cons_zero]; rfl
  refine ⟨_, by simp [Act.put]; rfl, by kernel_rfl, by kernel_rfl, by kernel_rfl, fun _ _ _ h => h, (.inl ⟨rfl, fun W _ => by go_simp⟩), HS.out, ?_⟩
  refine takeH (o := ?o4) 3 (.int .i64 x1) ?h4 ?r4
  case h4 => simp only [List.getElem?_toArray, List.getElem?_cons_succ, List.getElem?_cons_zero]; rfl
  refine ⟨_, by simp [Act.put]; rfl, by kernel_rfl, by kernel_rfl, by kernel_rfl, fun _ _ _ h => h, (.inl ⟨rfl, fun W hW => by have c := hW.2.2.1; go_simp⟩), HS.out, ?_⟩
  refine takeH (o := ?o5) 4 (.pointer (some ⟨w.heap.size, 2, none⟩)) ?h5 ?r5
  case h5 => simp only [List.getElem?_toArray, List.getElem?_cons_succ, List.getElem?_cons_zero]; rfl
  refine ⟨_, by simp [Act.put]; rfl, by kernel_rfl, by kernel_rfl, by kernel_rfl, fun _ _ _ h => h, (.inl ⟨rfl, fun W _ => by go_simp⟩), HS.out, ?_⟩
  refine takeH (o := ?o6) 5 (.int .i64 x2) ?h6 ?r6
  case h6 => simp only [List.getElem?_toArray, List.getElem?_cons_succ, List.getElem?_cons_zero]; rfl
  refine ⟨_, by simp [Act.put]; rfl, by kernel_rfl, by kernel_rfl, by kernel_rfl, fun _ _ _ h => h, (.inl ⟨rfl, fun W hW => by have c := hW.2.2.2.1; go_simp⟩), HS.out, ?_⟩
  refine takeH (o := ?o7) 6 (.pointer (some ⟨w.heap.size, 3, none⟩)) ?h7 ?r7
  case h7 => simp only [List.getElem?_toArray, List.getElem?_cons_succ, List.getElem?_cons_zero]; rfl
  refine ⟨_, by simp [Act.put]; rfl, by kernel_rfl, by kernel_rfl, by kernel_rfl, fun _ _ _ h => h, (.inl ⟨rfl, fun W _ => by go_simp⟩), HS.out, ?_⟩
  refine takeH (o := ?o8) 7 (.int .i64 x3) ?h8 ?r8
  case h8 => simp only [List.getElem?_toArray, List.getElem?_cons_succ, List.getElem?_cons_zero]; rfl
  refine ⟨_, by simp [Act.put]; rfl, by kernel_rfl, by kernel_rfl, by kernel_rfl, fun _ _ _ h => h, (.inl ⟨rfl, fun W hW => by have c := hW.2.2.2.2; go_simp⟩), HS.out, ?_⟩
  refine takeH (o := ?o9) 8 (.pointer (some ⟨w.heap.size, 4, none⟩)) ?h9 ?r9
  case h9 => simp only [List.getElem?_toArray, List.getElem?_cons_succ, List.getElem?_cons_zero]; rfl
  refine ⟨_, by simp [Act.put]; rfl, by kernel_rfl, by kernel_rfl, by kernel_rfl, fun _ _ _ h => h, (.inl ⟨rfl, fun W _ => by go_simp⟩), HS.out, ?_⟩
  refine takeH (o := ?o10) 9 (.slice (some ⟨w.heap.size, 4, none⟩) 8 8) ?h10 ?r10
  case h10 => simp only [List.getElem?_toArray, List.getElem?_cons_succ, List.getElem?_cons_zero]; rfl
  refine ⟨_, by simp [Act.put]; rfl, by kernel_rfl, by kernel_rfl, by kernel_rfl, fun _ _ _ h => h, (.inl ⟨rfl, fun W _ => by go_simp⟩), HS.out, ?_⟩
  refine takeH (o := ?o11) 11 (.pointer (some ⟨w.heap.size, 12, none⟩)) ?h11 ?r11
  case h11 => simp only [List.getElem?_toArray, List.getElem?_cons_succ, List.getElem?_cons_zero]; rfl
  refine ⟨_, by simp [Act.put]; rfl, by kernel_rfl, by kernel_rfl, by kernel_rfl, fun _ _ _ h => h, (.inl ⟨rfl, fun W _ => by go_simp⟩), HS.out, ?_⟩
  refine takeH (o := ?o12) 12 (.slice (some ⟨w.heap.size, 12, none⟩) 8 8) ?h12 ?r12
  case h12 => simp only [List.getElem?_toArray, List.getElem?_cons_succ, List.getElem?_cons_zero]; rfl
  refine ⟨_, by simp [Act.put]; rfl, by kernel_rfl, by kernel_rfl, by kernel_rfl, fun _ _ _ h => h, (.inl ⟨rfl, fun W _ => by go_simp⟩), HS.out, ?_⟩
  refine takeH (o := ?o13) 14 (.pointer (some ⟨w.heap.size, 20, none⟩)) ?h13 ?r13
  case h13 => simp only [List.getElem?_toArray, List.getElem?_cons_succ, List.getElem?_cons_zero]; rfl
  refine ⟨_, by simp [Act.put]; rfl, by kernel_rfl, by kernel_rfl, by kernel_rfl, fun _ _ _ h => h, (.inl ⟨rfl, fun W _ => by go_simp⟩), HS.out, ?_⟩
  refine takeH (o := ?o14) 15 (.pointer (some ⟨w.heap.size, 20, none⟩)) ?h14 ?r14
  case h14 => simp only [List.getElem?_toArray, List.getElem?_cons_succ, List.getElem?_cons_zero]; rfl
  refine ⟨_, by simp [Act.put]; rfl, by kernel_rfl, by kernel_rfl, by kernel_rfl, fun _ _ _ h => h, (.inl ⟨rfl, fun W _ => by go_simp⟩), HS.out, ?_⟩
  refine takeH (o := ?o15) 16 (.slice (some ⟨w.heap.size, 20, none⟩) 4 4) ?h15 ?r15
  case h15 => simp only [List.getElem?_toArray, List.getElem?_cons_succ, List.getElem?_cons_zero]; rfl
  refine ⟨_, by simp [Act.put]; rfl, by kernel_rfl, by kernel_rfl, by kernel_rfl, fun _ _ _ h => h, (.inl ⟨rfl, fun W _ => by go_simp⟩), HS.out, ?_⟩
  refine takeH (o := ?o16) 18 (.pointer (some ⟨w.heap.size, 20, none⟩)) ?h16 ?r16
  case h16 => simp only [List.getElem?_toArray, List.getElem?_cons_succ, List.getElem?_cons_zero]; rfl
  refine ⟨_, by simp [Act.put]; rfl, by kernel_rfl, by kernel_rfl, by kernel_rfl, fun _ _ _ h => h, (.inl ⟨rfl, fun W _ => by go_simp⟩), HS.out, ?_⟩
  refine takeH (o := ?o17) 19 (.pointer (some ⟨w.heap.size, 24, none⟩)) ?h17 ?r17
  case h17 => simp only [List.getElem?_toArray, List.getElem?_cons_succ, List.getElem?_cons_zero]; rfl
  refine ⟨_, by simp [Act.put]; rfl, by kernel_rfl, by kernel_rfl, by kernel_rfl, fun _ _ _ h => h, (.inl ⟨rfl, fun W _ => by go_simp⟩), HS.out, ?_⟩
  refine takeH (o := ?o18) 20 (.slice (some ⟨w.heap.size, 24, none⟩) 4 4) ?h18 ?r18
  case h18 => simp only [List.getElem?_toArray, List.getElem?_cons_succ, List.getElem?_cons_zero]; rfl
  refine ⟨_, by simp [Act.put]; rfl, by kernel_rfl, by kernel_rfl, by kernel_rfl, fun _ _ _ h => h, (.inl ⟨rfl, fun W _ => by go_simp⟩), HS.out, ?_⟩
  refine onlyH (o := ?o19) 10 (by kernel_rfl) ?h19 ?r19
  case h19 => simp only [List.getElem?_toArray, List.getElem?_cons_succ, List.getElem?_cons_zero]; rfl
  intro K hK
  refine op_call1 71 _ _ Try.f71 (fun v w' => ∃ a len cap F, v = .slice a len cap ∧ RdI w' a len ((xs.drop 4).take 8) F ∧ Own W0.drew.heap.size w' F ∧ Below W0.drew.heap.size W0.drew w') rfl rfl Try.func71 (by kernel_rfl) (by kernel_rfl) ((copiedList_any w.heap.size 4 8 8 ((xs.drop 4).take 8) _ W0.drew (rdI_tc HS.out.1 (by rw [HL.out]; omega) (by omega)) (by omega) (by omega)).mono (by rintro e w' ⟨a, len, cap, F, rfl, h1, h2, h3⟩; exact ⟨_, rfl, a, len, cap, F, rfl, h1, h2, h3⟩)) ?_
  rintro v W1 ⟨y1, m1, d1, G1, rfl, r1z, o1z, b1z⟩
  obtain rfl : m1 = 8 := by rw [← r1z.length]; simp; have := HL.out; omega
  refine ⟨_, by simp [Act.put]; rfl, hK _ _ ⟨keepS HS.out b1z, ?_⟩⟩
  have HS1 : Hid (SkHeld w.heap.size xs x0 x1 x2 x3 W1) := keepS HS.out b1z
  have HR1 : Hid (RdI W1 y1 8 ((xs.drop 4).take 8) G1 ∧ Own W0.drew.heap.size W1 G1 ∧ Below W0.drew.heap.size W0.drew W1) := ⟨r1z, o1z, b1z⟩
  clear hK r1z o1z b1z
  refine onlyH (o := ?o20) 13 (by kernel_rfl) ?h20 ?r20
  case h20 => simp only [List.getElem?_toArray, List.getElem?_cons_succ, List.getElem?_cons_zero]; rfl
  intro K hK
  refine op_call1 71 _ _ Try.f71 (fun v w' => ∃ a len cap F, v = .slice a len cap ∧ RdI w' a len ((xs.drop 12).take 8) F ∧ Own W1.heap.size w' F ∧ Below W1.heap.size W1 w') rfl rfl Try.func71 (by kernel_rfl) (by kernel_rfl) ((copiedList_any w.heap.size 12 8 8 ((xs.drop 12).take 8) _ W1 (rdI_tc HS1.out.1 (by rw [HL.out]; omega) (by omega)) (by omega) (by omega)).mono (by rintro e w' ⟨a, len, cap, F, rfl, h1, h2, h3⟩; exact ⟨_, rfl, a, len, cap, F, rfl, h1, h2, h3⟩)) ?_
  rintro v W2 ⟨y2, m2, d2, G2, rfl, r2z, o2z, b2z⟩
  obtain rfl : m2 = 8 := by rw [← r2z.length]; simp; have := HL.out; omega
  refine ⟨_, by simp [Act.put]; rfl, hK _ _ ⟨keepS HS1.out b2z, ?_⟩⟩
  have HS2 : Hid (SkHeld w.heap.size xs x0 x1 x2 x3 W2) := keepS HS1.out b2z
  have HR2 : Hid (RdI W2 y2 8 ((xs.drop 12).take 8) G2 ∧ Own W1.heap.size W2 G2 ∧ Below W1.heap.size W1 W2) := ⟨r2z, o2z, b2z⟩
  clear hK r2z o2z b2z
  refine onlyH (o := ?o21) 17 (by kernel_rfl) ?h21 ?r21
  case h21 => simp only [List.getElem?_toArray, List.getElem?_cons_succ, List.getElem?_cons_zero]; rfl
  intro K hK
  refine op_call1 71 _ _ Try.f71 (fun v w' => ∃ a len cap F, v = .slice a len cap ∧ RdI w' a len ((xs.drop 20).take 4) F ∧ Own W2.heap.size w' F ∧ Below W2.heap.size W2 w') rfl rfl Try.func71 (by kernel_rfl) (by kernel_rfl) ((copiedList_any w.heap.size 20 4 4 ((xs.drop 20).take 4) _ W2 (rdI_tc HS2.out.1 (by rw [HL.out]; omega) (by omega)) (by omega) (by omega)).mono (by rintro e w' ⟨a, len, cap, F, rfl, h1, h2, h3⟩; exact ⟨_, rfl, a, len, cap, F, rfl, h1, h2, h3⟩)) ?_
  rintro v W3 ⟨y3, m3, d3, G3, rfl, r3z, o3z, b3z⟩
  obtain rfl : m3 = 4 := by rw [← r3z.length]; simp; have := HL.out; omega
  refine ⟨_, by simp [Act.put]; rfl, hK _ _ ⟨keepS HS2.out b3z, ?_⟩⟩
  have HS3 : Hid (SkHeld w.heap.size xs x0 x1 x2 x3 W3) := keepS HS2.out b3z
  have HR3 : Hid (RdI W3 y3 4 ((xs.drop 20).take 4) G3 ∧ Own W2.heap.size W3 G3 ∧ Below W2.heap.size W2 W3) := ⟨r3z, o3z, b3z⟩
  clear hK r3z o3z b3z
  refine onlyH (o := ?o22) 21 (by kernel_rfl) ?h22 ?r22
  case h22 => simp only [List.getElem?_toArray, List.getElem?_cons_succ, List.getElem?_cons_zero]; rfl
  intro K hK
  refine op_call1 71 _ _ Try.f71 (fun v w' => ∃ a len cap F, v = .slice a len cap ∧ RdI w' a len ((xs.drop 24).take 4) F ∧ Own W3.heap.size w' F ∧ Below W3.heap.size W3 w') rfl rfl Try.func71 (by kernel_rfl) (by kernel_rfl) ((copiedList_any w.heap.size 24 4 4 ((xs.drop 24).take 4) _ W3 (rdI_tc HS3.out.1 (by rw [HL.out]; omega) (by omega)) (by omega) (by omega)).mono (by rintro e w' ⟨a, len, cap, F, rfl, h1, h2, h3⟩; exact ⟨_, rfl, a, len, cap, F, rfl, h1, h2, h3⟩)) ?_
  rintro v W4 ⟨y4, m4, d4, G4, rfl, r4z, o4z, b4z⟩
  obtain rfl : m4 = 4 := by rw [← r4z.length]; simp; have := HL.out; omega
  refine ⟨_, by simp [Act.put]; rfl, hK _ _ ⟨keepS HS3.out b4z, ?_⟩⟩
  have HS4 : Hid (SkHeld w.heap.size xs x0 x1 x2 x3 W4) := keepS HS3.out b4z
  have HR4 : Hid (RdI W4 y4 4 ((xs.drop 24).take 4) G4 ∧ Own W3.heap.size W4 G4 ∧ Below W3.heap.size W3 W4) := ⟨r4z, o4z, b4z⟩
  clear hK r4z o4z b4z
  refine onlyH (o := ?o23) 22 (by kernel_rfl) ?h23 ?r23
  case h23 => simp only [List.getElem?_toArray, List.getElem?_cons_succ, List.getElem?_cons_zero]; rfl
  intro K hK
  refine op_turn (.slice (some ⟨W4.heap.size, 0, none⟩) 2 2) (W4.alloc (.cells #[.slice y3 4 d3, .slice y4 4 d4] 25)) rfl (by go_simp) ⟨_, by simp [Act.put]; rfl, hK _ _ ⟨keepS HS4.out ((Below.refl _ _).alloc (Nat.le_refl _) _), ?_⟩⟩
  clear hK
  obtain ⟨W5, hW5⟩ : ∃ W5, W5 = W4.alloc (.cells #[.slice y3 4 d3, .slice y4 4 d4] 25) := ⟨_, rfl⟩
  have HB5 : Hid (Blk W5 W4.heap.size #[.slice y3 4 d3, .slice y4 4 d4] 25 ∧ Below W4.heap.size W4 W5) := by rw [hW5]; exact ⟨Blk.made _ _ _, (Below.refl _ _).alloc (Nat.le_refl _) _⟩
  rw [← hW5]
  clear hW5
  have HS5 : Hid (SkHeld w.heap.size xs x0 x1 x2 x3 W5) := keepS HS4.out HB5.out.2
  have HRes : Hid (Blk W5 (w.heap.size + 1) #[.int .i64 0, .int .i64 0, .int .i64 0, .int .i64 0, .slice none 0 0, .slice none 0 0, .slice none 0 0] 28) := ((((HT.out.2.1.drew.below HR1.out.2.2).below HR2.out.2.2).below HR3.out.2.2).below HR4.out.2.2).below HB5.out.2
  refine takeH (o := ?o24) 23 (.agg #[.int .i64 x0, .int .i64 x1, .int .i64 x2, .int .i64 x3, .slice y1 8 d1, .slice y2 8 d2, .slice (some ⟨W4.heap.size, 0, none⟩) 2 2]) ?h24 ?r24
  case h24 => simp only [List.getElem?_toArray, List.getElem?_cons_succ, List.getElem?_cons_zero]; rfl
  refine ⟨_, by simp [Act.put]; rfl, by kernel_rfl, by kernel_rfl, by kernel_rfl, fun _ _ _ h => h, (.inl ⟨rfl, fun W _ => by go_simp⟩), HS5.out, ?_⟩
  refine onlyH (o := ?o25) 24 (by kernel_rfl) ?h25 ?r25
  case h25 => simp only [List.getElem?_toArray, List.getElem?_cons_succ, List.getElem?_cons_zero]; rfl
  intro K hK
  refine op_store 28 (w.heap.size + 1) _ #[.int .i64 x0, .int .i64 x1, .int .i64 x2, .int .i64 x3, .slice y1 8 d1, .slice y2 8 d2, .slice (some ⟨W4.heap.size, 0, none⟩) 2 2] 28 rfl rfl rfl rfl HRes.out (by kernel_rfl) rfl (by kernel_rfl) ⟨_, by simp [Act.put]; rfl, hK _ _ ⟨mkS _ (HS5.out.1.setRowOther (by omega)), ?_⟩⟩
  clear hK
  refine wpAnyH_done (by kernel_rfl) ?_ _
  go_wp2
  refine bodyPost_ret (results_cell_row Try.results61 _ _ (w.heap.size + 1) _ _ _ _ rfl HRes.out.setRow Try.underlying28 rfl (by kernel_rfl)) rfl ?_
  have R := four_lists HR1.out.1 HR1.out.2.1 HR1.out.2.2 HR2.out.1 HR2.out.2.1 HR2.out.2.2 HR3.out.1 HR3.out.2.1 HR3.out.2.2 HR4.out.1 HR4.out.2.1 HR4.out.2.2 HB5.out.1 HB5.out.2
  have hsz : w.heap.size + 1 < W0.drew.heap.size := HT.out.2.1.drew.lt
  have bel := Below.next (Below.next (Below.next (Below.next (Below.next HT.out.2.2.drew HR1.out.2.2) HR2.out.2.2) HR3.out.2.2) HR4.out.2.2) HB5.out.2
  have nr : w.heap.size + 1 ∉ G1 ++ (G2 ++ (W4.heap.size :: (G3 ++ G4))) := fun hx => by have := R.2.2.2.2.ge _ hx; omega
  have ag : Agree W5 (W5.setRow (w.heap.size + 1) #[.int .i64 x0, .int .i64 x1, .int .i64 x2, .int .i64 x3, .slice y1 8 d1, .slice y2 8 d2, .slice (some ⟨W4.heap.size, 0, none⟩) 2 2]) (G1 ++ (G2 ++ (W4.heap.size :: (G3 ++ G4)))) := fun b hb => setRow_other W5 _ b _ (fun e => nr (e ▸ hb))
  have two := two_rows4 HB5.out.1 R.2.2.1 R.2.2.2.1
  refine ⟨_, G1 ++ (G2 ++ (W4.heap.size :: (G3 ++ G4))), rfl, ⟨y1, 8, d1, y2, 8, d2, _, 2, 2, G1, G2, W4.heap.size :: (G3 ++ G4), ?_, R.1.agree ag.left, R.2.1.agree ag.right.left, two.agree ag.right.right, rfl⟩, (R.2.2.2.2.agree ag).mono (by omega), below_setRow bel (by omega) _⟩
  rw [HX.out.1, HX.out.2.1, HX.out.2.2.1, HX.out.2.2.2]
  rfl
end Go.Proofs.Ytbmbmnhamogghab
/- The walks through the helpers by which the laws draw their inputs: a cursor over the code's bytes. No statement of the seat is proved here. -/
namespace Go.Proofs.Ytbmbmnhamogghab
open Go.RowKit

/-- A cursor that lies in block g, over the bytes zs. -/
structure Cur (w : World) (g : Nat) (a : Option Addr) (len cap : Nat) (zs : List Int) (i h : Int) : Prop where
  c0 : w.cell? ⟨g, 0, none⟩ = some (.slice a len cap)
  c1 : w.cell? ⟨g, 1, none⟩ = some (.int .i64 i)
  c2 : w.cell? ⟨g, 2, none⟩ = some (.int .i64 h)
  f1 : w.frozen? ⟨g, 1, none⟩ = false
  f2 : w.frozen? ⟨g, 2, none⟩ = false
  i0 : 0 ≤ i
  i1 : i ≤ len
  rd : RdB w a len zs
  ap : ∀ x, a = some x → 0 < len → x.block ≠ g

theorem and255 (z : Int) : 0 ≤ bits .and .i64 z 255 ∧ bits .and .i64 z 255 ≤ 255 := by
  have e : ((BitVec.ofInt 64 z) &&& (BitVec.ofInt 64 255)).toNat ≤ 255 := by
    rw [BitVec.toNat_and]
    exact Nat.le_trans Nat.and_le_right (by decide)
  have h : bits .and .i64 z 255 = IntKind.i64.wrap (((BitVec.ofInt 64 z) &&& (BitVec.ofInt 64 255)).toNat : Int) := rfl
  rw [h]
  generalize ((BitVec.ofInt 64 z) &&& (BitVec.ofInt 64 255)).toNat = c at e
  simp [IntKind.wrap, IntKind.bits, IntKind.signed]
  omega

theorem grown_set (w : World) (g j : Nat) (v : Value) : w.grownBy (w.setCell ⟨g, j, none⟩ v) (some g) :=
  ⟨rfl, rfl, rfl, by simp, fun k _ hk => Below.heap_setCell w ⟨g, j, none⟩ v k (fun e => hk (by simp [e]))⟩
theorem grown_tr {a b c : World} {row : Option Nat} (h : a.grownBy b row) (k : b.grownBy c row) : a.grownBy c row :=
  ⟨k.os.trans h.os, k.tape.trans h.tape, k.output.trans h.output, Nat.le_trans h.size k.size, fun j hj hr => (k.block j (Nat.lt_of_lt_of_le hj h.size) hr).trans (h.block j hj hr)⟩
theorem grown_drewN {w w' : World} {row : Option Nat} (n : Nat) (h : w.grownBy w' row) : w.grownBy (w'.drewN n) row := ⟨h.os, h.tape, h.output, h.size, h.block⟩
theorem Cur.drewN {w : World} {g : Nat} {a : Option Addr} {len cap : Nat} {zs : List Int} {i h : Int} (C : Cur w g a len cap zs i h) (n : Nat) : Cur (w.drewN n) g a len cap zs i h :=
  ⟨C.c0, C.c1, C.c2, C.f1, C.f2, C.i0, C.i1, ⟨C.rd.length, C.rd.range, C.rd.cells⟩, C.ap⟩
theorem RdB.set {w : World} {g j : Nat} {a : Option Addr} {len : Nat} {zs : List Int} (h : RdB w a len zs) (ap : ∀ x, a = some x → 0 < len → x.block ≠ g) (v : Value) : RdB (w.setCell ⟨g, j, none⟩ v) a len zs := by
  refine ⟨h.length, h.range, ?_⟩
  rcases h.cells with h0 | ⟨b, off, ha, hc⟩
  · exact .inl h0
  · refine .inr ⟨b, off, ha, fun i hi => ?_⟩
    have hne : b ≠ g := ap _ ha (by omega)
    rw [World.cell?_setCell_other _ _ _ _ (by intro e; simp only [Addr.mk.injEq] at e; exact hne e.1.symm)]
    exact hc i hi
theorem Cur.seth {w : World} {g : Nat} {a : Option Addr} {len cap : Nat} {zs : List Int} {i h : Int} (C : Cur w g a len cap zs i h) (H : Int) : Cur (w.setCell ⟨g, 2, none⟩ (.int .i64 H)) g a len cap zs i H := by
  refine ⟨?_, ?_, ?_, ?_, ?_, C.i0, C.i1, C.rd.set C.ap _, C.ap⟩
  · rw [World.cell?_setCell_other _ _ _ _ (by simp)]; exact C.c0
  · rw [World.cell?_setCell_other _ _ _ _ (by simp)]; exact C.c1
  · exact World.cell?_setCell_same _ _ _ C.c2
  · exact (World.frozen?_setCell _ _ _ _).trans C.f1
  · exact (World.frozen?_setCell _ _ _ _).trans C.f2
theorem Cur.seti {w : World} {g : Nat} {a : Option Addr} {len cap : Nat} {zs : List Int} {i h : Int} (C : Cur w g a len cap zs i h) (j : Int) (h0 : 0 ≤ j) (h1 : j ≤ len) : Cur (w.setCell ⟨g, 1, none⟩ (.int .i64 j)) g a len cap zs j h := by
  refine ⟨?_, ?_, ?_, ?_, ?_, h0, h1, C.rd.set C.ap _, C.ap⟩
  · rw [World.cell?_setCell_other _ _ _ _ (by simp)]; exact C.c0
  · exact World.cell?_setCell_same _ _ _ C.c1
  · rw [World.cell?_setCell_other _ _ _ _ (by simp)]; exact C.c2
  · exact (World.frozen?_setCell _ _ _ _).trans C.f1
  · exact (World.frozen?_setCell _ _ _ _).trans C.f2

set_option maxRecDepth 200000 in
set_option maxHeartbeats 800000 in
theorem l1Byte_any (g : Nat) (a : Option Addr) (len cap : Nat) (zs : List Int) (i h : Int) (w : World) (C : Cur w g a len cap zs i h) (hlen : len ≤ 1048576) :
    Calls Try.prog 68 #[.pointer (some ⟨g, 0, none⟩)] w fun e w' => ∃ x i' h', e = .returned (.int .i64 x) ∧ 0 ≤ x ∧ x ≤ 255 ∧ Cur w' g a len cap zs i' h' ∧ w.grownBy w' (some g) := by
  have HC : Hid (Cur w g a len cap zs i h) := C
  obtain ⟨c0, c1, c2, f1, f2, i0, i1, rd, ap⟩ := C
  obtain ⟨k, rfl⟩ := Int.eq_ofNat_of_zero_le i0
  have hk : k ≤ len := by omega
  have Hrd : Hid (RdB w a len zs) := rd
  have Hap : Hid (∀ x, a = some x → 0 < len → x.block ≠ g) := ap
  clear ap i0 i1
  by_cases hlt : k < len
  · obtain ⟨b, off, rfl, hc⟩ : ∃ b off, a = some ⟨b, off, none⟩ ∧ ∀ i, i < len → w.cell? ⟨b, off + i, none⟩ = some (.int .u8 (zs.getD i 0)) := by
      rcases rd.cells with h0 | h0
      · omega
      · exact h0
    have hne : ¬ b = g := Hap.out _ rfl (by omega)
    have hck := hc k hlt
    have hb := getD_range rd.range k
    clear rd hc
    go_enter Try.func68, Try.ntmps68
    go_wp2
    generalize wrap64 (wrap64 (h * 6364136223846793005) + 1442695040888963407) = H
    go_quiet (fail)
    go_wp2
    generalize bits BinOp.and IntKind.i64 (bits BinOp.xor IntKind.i64 (H / 8589934592) (H / 35184372088832)) 255 = x
    go_quiet (fail)
    go_wp2
    go_quiet (fail)
    go_wp2
    go_ret
    exact ⟨_, (k : Int) + 1, H, rfl, (and255 _).1, (and255 _).2, ((HC.out.seth H).drewN _).seti _ (by omega) (by omega), grown_tr (grown_drewN _ (grown_set _ _ _ _)) (grown_set _ _ _ _)⟩
  · have hge : decide ((k : Int) < (len : Int)) = false := by simp; omega
    clear rd
    go_enter Try.func68, Try.ntmps68
    go_wp2
    generalize wrap64 (wrap64 (h * 6364136223846793005) + 1442695040888963407) = H
    go_quiet (fail)
    go_wp2
    have hx := and255 (bits BinOp.xor IntKind.i64 (H / 8589934592) (H / 35184372088832))
    generalize bits BinOp.and IntKind.i64 (bits BinOp.xor IntKind.i64 (H / 8589934592) (H / 35184372088832)) 255 = x at hx
    go_quiet (fail)
    go_wp2
    go_ret
    exact ⟨x, k, H, rfl, hx.1, hx.2, ((HC.out.seth H).drewN _).drewN _, grown_drewN _ (grown_drewN _ (grown_set _ _ _ _))⟩

set_option maxRecDepth 200000 in
set_option maxHeartbeats 800000 in
theorem l1Below_any (g : Nat) (a : Option Addr) (len cap : Nat) (zs : List Int) (i h : Int) (n : Int) (w : World) (C : Cur w g a len cap zs i h) (hlen : len ≤ 1048576) (hn : 0 < n) (hn' : n ≤ 2147483647) :
    Calls Try.prog 35 #[.pointer (some ⟨g, 0, none⟩), .int .i64 n] w fun e w' => ∃ x i' h', e = .returned (.int .i64 x) ∧ 0 ≤ x ∧ x < n ∧ Cur w' g a len cap zs i' h' ∧ w.grownBy w' (some g) := by
  have HC : Hid (Cur w g a len cap zs i h) := C
  have hd : decide (n ≤ 0) = false := by simp; omega
  clear C
  by_cases hs : n ≤ 256
  · go_enter Try.func35, Try.ntmps35
    go_wp2_with fail
    refine (l1Byte_any g a len cap zs i h _ HC.out hlen).mono ?_
    rintro e w1 ⟨x, i', h', rfl, hx0, hx1, C1, g1⟩
    have HC1 : Hid (Cur w1 g a len cap zs i' h') := C1
    clear C1
    go_wp2
    go_ret
    exact ⟨x % n, i', h', rfl, Int.emod_nonneg _ (by omega), Int.emod_lt_of_pos _ (by omega), HC1.out, g1⟩
  · have hd2 : decide (n ≤ 256) = false := by simp; omega
    go_enter Try.func35, Try.ntmps35
    go_wp2_with fail
    refine (l1Byte_any g a len cap zs i h _ HC.out hlen).mono ?_
    rintro e w1 ⟨x1, i1, h1, rfl, hx10, hx11, C1, g1⟩
    go_wp2_with fail
    refine (l1Byte_any g a len cap zs i1 h1 _ C1 hlen).mono ?_
    rintro e w2 ⟨x2, i2, h2, rfl, hx20, hx21, C2, g2⟩
    have g2 := grown_tr g1 g2
    clear C1 g1
    go_wp2_with fail
    refine (l1Byte_any g a len cap zs i2 h2 _ C2 hlen).mono ?_
    rintro e w3 ⟨x3, i3, h3, rfl, hx30, hx31, C3, g3⟩
    have g3 := grown_tr g2 g3
    clear C2 g2
    go_wp2_with fail
    refine (l1Byte_any g a len cap zs i3 h3 _ C3 hlen).mono ?_
    rintro e w4 ⟨x4, i4, h4, rfl, hx40, hx41, C4, g4⟩
    have g4 := grown_tr g3 g4
    have HC4 : Hid (Cur w4 g a len cap zs i4 h4) := C4
    clear C3 g3 C4
    go_wp2
    go_ret
    exact ⟨_, i4, h4, rfl, Int.emod_nonneg _ (by omega), Int.emod_lt_of_pos _ (by omega), HC4.out, g4⟩

theorem cur_new (w : World) (a : Option Addr) (len cap : Nat) (zs : List Int) (H : Int) (T : TypeId) (hR : RdB w a len zs) : Cur (w.alloc (.cells #[.slice a len cap, .int .i64 0, .int .i64 H] T)) w.heap.size a len cap zs 0 H := by
  refine ⟨by simp [go_sem], by simp [go_sem], by simp [go_sem], by simp [go_sem], by simp [go_sem], by omega, by omega, hR.below ((Below.refl _ _).alloc (Nat.le_refl _) _), fun x hx hl => ?_⟩
  rcases hR.cells with h0 | ⟨b, off, ha, hc⟩
  · omega
  · rw [hx] at ha
    cases ha
    have := World.block_lt_of_cell? _ _ (hc 0 hl)
    simp at this
    exact fun e => by simp at e; omega

theorem Cur.below {w w' : World} {g : Nat} {a : Option Addr} {len cap : Nat} {zs : List Int} {i h : Int} (C : Cur w g a len cap zs i h) (hb : Below w.heap.size w w') : Cur w' g a len cap zs i h := by
  have hg : g < w.heap.size := World.block_lt_of_cell? _ _ C.c0
  exact ⟨(hb.cell (p := ⟨g, 0, none⟩) hg).trans C.c0, (hb.cell (p := ⟨g, 1, none⟩) hg).trans C.c1, (hb.cell (p := ⟨g, 2, none⟩) hg).trans C.c2, (hb.frozen (p := ⟨g, 1, none⟩) hg).trans C.f1, (hb.frozen (p := ⟨g, 2, none⟩) hg).trans C.f2, C.i0, C.i1, C.rd.below hb, C.ap⟩
theorem Cur.alloc {w : World} {g : Nat} {a : Option Addr} {len cap : Nat} {zs : List Int} {i h : Int} (C : Cur w g a len cap zs i h) (o : Obj) : Cur (w.alloc o) g a len cap zs i h :=
  C.below ((Below.refl _ _).alloc (Nat.le_refl _) _)

set_option maxRecDepth 200000 in
/-- A new cursor. -/
theorem l1New_any (a : Option Addr) (len cap : Nat) (zs : List Int) (w : World) (hR : RdB w a len zs) (hlen : len ≤ 1048576) :
    Calls Try.prog 34 #[.slice a len cap] w fun e w' => e = .returned (.pointer (some ⟨w.heap.size, 0, none⟩)) ∧ (∃ h, Cur w' w.heap.size a len cap zs 0 h) ∧ Below w.heap.size w w' := by
  have HR : Hid (RdB w a len zs) := hR
  rcases hR.cells with h0 | ⟨b, off, rfl, hc⟩
  · subst h0
    clear hR
    go_enter Try.func34, Try.ntmps34
    go_wp2
    refine wp_loop_rounds 1 ?_
    rw [rounds_succ]
    go_wp2
    go_ret
    exact ⟨rfl, ⟨_, cur_new _ _ _ _ _ _ _ HR.out⟩, (Below.refl _ _).alloc (Nat.le_refl _) _⟩
  · clear hR
    go_enter Try.func34, Try.ntmps34
    go_wp2
    go_loop [3, 4] (fun s i => ∃ (q H : Int), 0 ≤ q ∧ q ≤ len ∧ i = .int .i64 q ∧ s = .int .i64 H) (fun _ i => len - (intOf i).toNat)
    case atStart => exact ⟨0, _, by omega, by omega, rfl, rfl⟩
    case round =>
      obtain ⟨q, H, hq0, hq, rfl, rfl⟩ := hrel
      by_cases hlt : q < (len : Int)
      · have hck := hc q.toNat (by omega)
        by_cases h4 : q < 4000
        · go_wp2
          go_round
          case rel => exact ⟨q + 1, _, by omega, by omega, by go_num, rfl⟩
          case measure => simp [intOf]; omega
        · have h4' : decide (q < 4000) = false := by simpa using h4
          go_wp2
          go_ret
          exact ⟨rfl, ⟨_, cur_new _ _ _ _ _ _ _ HR.out⟩, (Below.refl _ _).alloc (Nat.le_refl _) _⟩
      · have hge : decide (q < (len : Int)) = false := by simpa using hlt
        go_wp2
        go_ret
        exact ⟨rfl, ⟨_, cur_new _ _ _ _ _ _ _ HR.out⟩, (Below.refl _ _).alloc (Nat.le_refl _) _⟩
end Go.Proofs.Ytbmbmnhamogghab
/- The walks through the picks of one out of a list, which all draws share. No statement of the seat is proved here. -/
namespace Go.Proofs.Ytbmbmnhamogghab
open Go.RowKit

theorem getD_mem {α : Type} (xs : List α) (d : α) (j : Nat) (h : j < xs.length) : xs.getD j d ∈ xs := by
  rw [List.getD_eq_getElem?_getD, List.getElem?_eq_getElem h]; exact List.getElem_mem h

set_option maxRecDepth 200000 in
theorem pickInt_cur (g L lcap : Nat) (a : Option Addr) (len cap : Nat) (zs : List Int) (i h : Int) (xs : List Int) (w : World) (C : Cur w g a len cap zs i h) (hlen : len ≤ 1048576)
    (hxs : ∀ j, j < xs.length → w.cell? ⟨L, j, none⟩ = some (.int .i64 (xs.getD j 0))) (hL : ¬ L = g) (n : Nat) (hne : n = xs.length) (hn : 0 < n) (hn' : n ≤ 256) :
    Calls Try.prog 41 #[.pointer (some ⟨g, 0, none⟩), .slice (some ⟨L, 0, none⟩) n lcap] w fun e w' => ∃ y i' h', y ∈ xs ∧ e = .returned (.int .i64 y) ∧ Cur w' g a len cap zs i' h' ∧ w.grownBy w' (some g) := by
  have HX : Hid (∀ j, j < xs.length → w.cell? ⟨L, j, none⟩ = some (.int .i64 (xs.getD j 0))) := hxs
  have HN : Hid (n = xs.length) := hne
  have hn0 : (0 : Int) < n := by omega
  have hn1 : (n : Int) ≤ 2147483647 := by omega
  clear hxs hn hn' hne
  go_enter Try.func41, Try.ntmps41
  go_wp2_with fail
  refine (l1Below_any g a len cap zs i h _ _ C hlen hn0 hn1).mono ?_
  rintro e w1 ⟨x, i', h', rfl, hx0, hx1, C1, g1⟩
  obtain ⟨j, rfl⟩ := Int.eq_ofNat_of_zero_le hx0
  have hj : j < n := by omega
  have hLw : L < w.heap.size := World.block_lt_of_cell? _ _ (HX.out j (by rw [← HN.out]; exact hj))
  have hcj : w1.cell? ⟨L, j, none⟩ = some (.int .i64 (xs.getD j 0)) := (World.cell?_of_block (g1.block L hLw (by simpa using hL))).trans (HX.out j (by rw [← HN.out]; exact hj))
  have Hg1 : Hid (w.grownBy w1 (some g)) := g1
  have Hm : Hid (xs.getD j 0 ∈ xs) := getD_mem xs 0 j (by rw [← HN.out]; exact hj)
  have HC1 : Hid (Cur w1 g a len cap zs i' h') := C1
  clear C C1 g1
  go_wp2
  go_ret
  exact ⟨_, i', h', Hm.out, ret_int (by simp), HC1.out, Hg1.out⟩
set_option maxRecDepth 200000 in
theorem pickInt_any (g L lcap : Nat) (a : Option Addr) (len cap : Nat) (zs : List Int) (i h : Int) (xs : List Int) (w : World) (C : Cur w g a len cap zs i h) (hlen : len ≤ 1048576)
    (hxs : ∀ j, j < xs.length → w.cell? ⟨L, j, none⟩ = some (.int .i64 (xs.getD j 0))) (hL : ¬ L = g) (n : Nat) (hne : n = xs.length) (hn : 0 < n) (hn' : n ≤ 256) :
    Calls Try.prog 41 #[.pointer (some ⟨g, 0, none⟩), .slice (some ⟨L, 0, none⟩) n lcap] w fun e w' => (∃ y, y ∈ xs ∧ e = .returned (.int .i64 y)) ∧ w.grownBy w' (some g) :=
  (pickInt_cur g L lcap a len cap zs i h xs w C hlen hxs hL n hne hn hn').mono fun _ _ ⟨y, _, _, hy, he, _, hg⟩ => ⟨⟨y, hy, he⟩, hg⟩
theorem lit_ints (w : World) (xs : List Int) (T : TypeId) (j : Nat) (hj : j < xs.length) : (w.alloc (.cells (xs.map (Value.int .i64)).toArray T)).cell? ⟨w.heap.size, j, none⟩ = some (.int .i64 (xs.getD j 0)) := by
  rw [World.cell?_alloc_at (hn := rfl)]
  simp [List.getElem?_eq_getElem hj]
theorem lit_texts (w : World) (xs : List ByteArray) (T : TypeId) (j : Nat) (hj : j < xs.length) : (w.alloc (.cells (xs.map Value.string).toArray T)).cell? ⟨w.heap.size, j, none⟩ = some (.string (xs.getD j ⟨#[]⟩)) := by
  rw [World.cell?_alloc_at (hn := rfl)]
  simp [List.getElem?_eq_getElem hj]
theorem below_cur {w w1 w2 w3 : World} {o : Obj} (h1 : Below w.heap.size w w1) (h2 : w2 = w1.alloc o) (h3 : w2.grownBy w3 (some w.heap.size)) : Below w.heap.size w w3 := by
  subst h2
  exact (h1.alloc h1.size o).grown h3 (by simp; exact Nat.le_trans h1.size (by omega)) (fun k hk => by simp at hk; omega)
theorem Cur.keep {w w' : World} {g : Nat} {a : Option Addr} {len cap : Nat} {zs : List Int} {i h : Int} (C : Cur w g a len cap zs i h) (hg : Below w.heap.size w w') : Cur w' g a len cap zs i h := by
  have hl : g < w.heap.size := World.block_lt_of_cell? _ _ C.c0
  refine ⟨?_, ?_, ?_, ?_, ?_, C.i0, C.i1, C.rd.below hg, C.ap⟩
  · rw [hg.cell (p := ⟨g, 0, none⟩) hl]; exact C.c0
  · rw [hg.cell (p := ⟨g, 1, none⟩) hl]; exact C.c1
  · rw [hg.cell (p := ⟨g, 2, none⟩) hl]; exact C.c2
  · rw [World.frozen?, hg.block g hl]; exact C.f1
  · rw [World.frozen?, hg.block g hl]; exact C.f2
end Go.Proofs.Ytbmbmnhamogghab
/- The walks through the draws of chapter 3: some list of numbers, some summary. No statement of the seat is proved here. -/
namespace Go.Proofs.Ytbmbmnhamogghab
open Go.RowKit
theorem own_keep {w w' : World} {B e size g : Nat} {v : Value} {n : Nat} {xs : List Value} (h : w.ownsRow B e size v n xs) (k : w.grownBy w' (some g)) (hg : g < B) : w'.ownsRow B e size v n xs := by
  refine ⟨h.1, ?_⟩
  rcases h.2 with h' | ⟨b, cap, cur, h1, h2, h3, h4⟩
  · exact .inl h'
  · have hb : b < w.heap.size := (h.lt b (by rw [h1]; rfl)).2
    exact .inr ⟨b, cap, cur, h1, h2, by rw [k.block b hb (fun e => by simp at e; omega)]; exact h3, h4⟩
/-- A cursor stays where its block, and what is elder than w, stay. -/
theorem cur_agree {w w' : World} {g : Nat} {a : Option Addr} {len cap : Nat} {zs : List Int} {i h : Int} (C : Cur w g a len cap zs i h) (_hg : g < w.heap.size) (e : w'.heap[g]? = w.heap[g]?) (hb : ∀ b, b < w.heap.size → (∃ off, a = some ⟨b, off, none⟩ ∧ 0 < len) → w'.heap[b]? = w.heap[b]?) : Cur w' g a len cap zs i h := by
  refine ⟨(World.cell?_of_block (w := w) (a := ⟨g, 0, none⟩) e).trans C.c0, (World.cell?_of_block (w := w) (a := ⟨g, 1, none⟩) e).trans C.c1, (World.cell?_of_block (w := w) (a := ⟨g, 2, none⟩) e).trans C.c2, (World.frozen?_of_block (w := w) (a := ⟨g, 1, none⟩) e).trans C.f1, (World.frozen?_of_block (w := w) (a := ⟨g, 2, none⟩) e).trans C.f2, C.i0, C.i1, ?_, C.ap⟩
  refine ⟨C.rd.length, C.rd.range, ?_⟩
  rcases C.rd.cells with h0 | ⟨b, off, ha, hc⟩
  · exact .inl h0
  · by_cases hl : len = 0
    · exact .inl hl
    · have hlt : b < w.heap.size := World.block_lt_of_cell? _ _ (hc 0 (by omega))
      exact .inr ⟨b, off, ha, fun j hj => (World.cell?_of_block (w := w) (a := ⟨b, off + j, none⟩) (hb b hlt ⟨off, ha, by omega⟩)).trans (hc j hj)⟩
def valList (p : Int) : List Int := [0, 1, 7, 8, 100, 5000, 1000000, p, 1000001, -1]
/-- What the drawing of a list tells: some list, in memory of its own; the cursor goes on. -/
def DrewList (w : World) (g : Nat) (a : Option Addr) (len cap : Nat) (zs : List Int) (e : Ending) (w' : World) : Prop :=
  ∃ a' n c xs F i' h', e = .returned (.slice a' n c) ∧ RdI w' a' n xs F ∧ n ≤ 6 ∧ Own w.heap.size w' F ∧ Cur w' g a len cap zs i' h' ∧ w.grownBy w' (some g)
set_option maxRecDepth 200000 in
set_option maxHeartbeats 2000000 in
theorem l3Values_any (g : Nat) (a : Option Addr) (len cap : Nat) (zs : List Int) (i h : Int) (w : World) (C : Cur w g a len cap zs i h) (hlen : len ≤ 1048576) :
    Calls Try.prog 88 #[.pointer (some ⟨g, 0, none⟩)] w fun e w' => DrewList w g a len cap zs e w' := by
  obtain ⟨i0, hi, hz0, hz1, hz2⟩ := info_parts infoInt
  have hgw : g < w.heap.size := World.block_lt_of_cell? _ _ C.c0
  have HA : Hid (∀ b off, a = some ⟨b, off, none⟩ → 0 < len → b < w.heap.size) := fun b off e hp => by
    rcases C.rd.cells with h0 | ⟨b', off', ha, hc⟩
    · omega
    · rw [e] at ha; cases ha; exact World.block_lt_of_cell? _ _ (hc 0 hp)
  have HC : Hid (Cur (w.alloc (.cells #[] 3)) g a len cap zs i h) := C.keep ((Below.refl _ _).alloc (Nat.le_refl _) _)
  have HO : Hid ((w.alloc (.cells #[] 3)).ownsRow w.heap.size 3 1 (.slice (some ⟨w.heap.size, 0, none⟩) 0 0) 0 []) := own_empty w _
  have HG : Hid (w.grownBy (w.alloc (.cells #[] 3)) (some g)) := World.grownBy_alloc _ _ _
  clear C
  go_enter Try.func88, Try.ntmps88
  go_wp2_with fail
  refine (l1Below_any g a len cap zs i h 6 _ HC.out hlen (by omega) (by omega)).mono ?_
  rintro e w1 ⟨x, i1, h1, rfl, x0, x1, C1, g1⟩
  obtain ⟨n, rfl⟩ := Int.eq_ofNat_of_zero_le x0
  have hn : n ≤ 6 := by omega
  have HC1 : Hid (Cur w1 g a len cap zs i1 h1) := C1
  have HO1 : Hid (w1.ownsRow w.heap.size 3 1 (.slice (some ⟨w.heap.size, 0, none⟩) 0 0) 0 []) := own_keep HO.out g1 hgw
  have HG1 : Hid (w.grownBy w1 (some g)) := grown_tr HG.out g1
  clear C1 g1 HC HO HG x0 x1
  go_wp2
  go_loopw [3, 5] (fun v j wr => ∃ (k : Nat) (xs : List Int) (i2 h2 : Int), k ≤ n ∧ j = .int .i64 k ∧ Hid (wr.ownsRow w.heap.size 3 1 v k (xs.map (Value.int .i64))) ∧ Hid (Cur wr g a len cap zs i2 h2) ∧ Hid (w.grownBy wr (some g))) (fun _ j _ => n - (intOf j).toNat)
  case atStart => exact ⟨0, [], i1, h1, by omega, rfl, HO1, HC1, HG1⟩
  case round =>
    clear HO1 HC1 HG1
    obtain ⟨k, xs, i2, h2, hk, rfl, HO, HC, HG⟩ := hrel
    by_cases hlt : k < n
    · go_wp2_with fail
      refine (l1Byte_any g a len cap zs i2 h2 _ HC.out hlen).mono ?_
      rintro e w3 ⟨x, i3, h3, rfl, x0, x1, C3, g3⟩
      have hg3 : g < w3.heap.size := World.block_lt_of_cell? _ _ C3.c0
      have HC3 : Hid (Cur w3 g a len cap zs i3 h3) := C3
      have HO3 : Hid (w3.ownsRow w.heap.size 3 1 u3 k (xs.map (Value.int .i64))) := own_keep HO.out g3 hgw
      have HG3 : Hid (w.grownBy w3 (some g)) := grown_tr HG.out g3
      clear C3 g3 HO HC HG x0 x1
      go_wp2_with fail
      refine (pickInt_cur g w3.heap.size _ a len cap zs i3 h3 (valList x) _ (HC3.out.keep ((Below.refl _ _).alloc (Nat.le_refl _) _)) hlen (fun j hj => lit_ints w3 (valList x) 3 j hj) (by omega) _ rfl (by simp [valList]) (by simp [valList])).mono ?_
      rintro e w5 ⟨y, i5, h5, _, rfl, C5, g5⟩
      have HC5 : Hid (Cur w5 g a len cap zs i5 h5) := C5
      have HO5 : Hid (w5.ownsRow w.heap.size 3 1 u3 k (xs.map (Value.int .i64))) := own_keep (HO3.out.alloc _) g5 hgw
      have HG5 : Hid (w.grownBy w5 (some g)) := grown_tr (grown_tr HG3.out (World.grownBy_alloc _ _ _)) g5
      have hsz : w.heap.size ≤ w5.heap.size := HG5.out.size
      clear C5 g5 HC3 HO3 HG3
      go_wp2_with (at_builtin; (refine wpList_append_own _ rfl _ _ 25 rfl w.heap.size 3 i0 (.int .i64 0) 1 8 Try.underlying25 hi hz0 hz1 hz2 rfl (by decide) _ k (xs.map (Value.int .i64)) rfl (HO5.out.alloc _) ⟨w5.heap.size, 0, none⟩ 1 1 [.int .i64 y] rfl rfl (cell_new1 _ _ _) (by intro u hu; simp at hu; subst hu; rfl) (by unfold maxLen; omega) (by omega) (by simp; omega) ?_))
      intro v' w6 hown hgrow _
      have HO6 : Hid (w6.ownsRow w.heap.size 3 1 v' (k + 1) ((xs ++ [y]).map (Value.int .i64))) := by rw [List.map_append]; exact hown
      have hne : ∀ b, u3.ownBlock = some b → w.heap.size ≤ b := fun b hb => (HO5.out.lt b hb).1
      have HB6 : Hid (Below w5.heap.size w5 (w5.alloc (.cells #[.int .i64 y] 3))) := (Below.refl _ _).alloc (Nat.le_refl _) _
      have hblk : ∀ b, b < w5.heap.size → ¬ u3.ownBlock = some b → w6.heap[b]? = w5.heap[b]? := fun b hb hn => (hgrow.block b (by have := HB6.out.size; omega) (fun e => hn e.symm)).trans (HB6.out.block b hb)
      have HC6 : Hid (Cur w6 g a len cap zs i5 h5) := cur_agree HC5.out (by have := HG5.out.size; omega) (hblk g (by have := HG5.out.size; omega) (fun e => by have := hne g e; omega)) (fun b hb ⟨off, ha, hp⟩ => hblk b hb (fun e => by have := hne b e; have := HA.out b off ha hp; omega))
      have HG6 : Hid (w.grownBy w6 (some g)) := ⟨hgrow.os.trans HG5.out.os, hgrow.tape.trans HG5.out.tape, hgrow.output.trans HG5.out.output, by have := hgrow.size; have := HB6.out.size; omega, fun b hb hn => (hblk b (by omega) (fun e => by have := hne b e; omega)).trans (HG5.out.block b hb hn)⟩
      clear hown hgrow hne hblk HB6 HC5 HO5 HG5
      go_wp2
      go_roundw
      case rel => exact ⟨k + 1, xs ++ [y], i5, h5, by omega, by go_num, HO6, HC6, HG6⟩
      case measure => simp [intOf]; omega
    · obtain rfl : k = n := by omega
      go_wp2
      go_ret
      obtain ⟨a', c', F, rfl, hr, ho⟩ := rdI_of_own HO.out
      exact ⟨a', k, c', xs, F, i2, h2, rfl, hr, hn, ho, HC.out, HG.out⟩
end Go.Proofs.Ytbmbmnhamogghab
/- What lies behind a list, up to its capacity. No statement of the seat is proved here. -/
namespace Go.Proofs.Ytbmbmnhamogghab
open Go.RowKit
theorem RdI.at {W : World} {b off n : Nat} {zs : List Int} {F : List Nat} (h : RdI W (some ⟨b, off, none⟩) n zs F) (j : Nat) (hj : j < n) : W.cell? ⟨b, off + j, none⟩ = some (.int .i64 (zs.getD j 0)) := by
  rcases h.cells with ⟨h0, _⟩ | ⟨b', off', _, he, _, hc⟩
  · omega
  · obtain ⟨rfl, rfl⟩ : b = b' ∧ off = off' := by simpa using he
    exact hc j hj
/-- The list of n numbers begins its block, and the block holds as many cells as the list's capacity says. -/
structure Room (W : World) (b o n k : Nat) : Prop where
  off : o = 0
  blk : ∃ cs, Blk W b cs 3 ∧ cs.size = k
  le : n ≤ k
  max : k ≤ maxLen
theorem Room.of_own {W : World} {lo b o n k : Nat} {xs : List Value} (hn : 0 < n) (h : W.ownsRow lo 3 1 (.slice (some ⟨b, o, none⟩) n k) n xs) : Room W b o n k := by
  rcases h.2 with ⟨_, h0⟩ | ⟨g, cap, cur, e, _, hg, h1, h2, h3, _⟩
  · omega
  · cases e
    exact ⟨rfl, ⟨cur, hg, by omega⟩, h1, h2⟩
theorem Room.agree {W W' : World} {b o n k : Nat} (h : Room W b o n k) (e : W'.heap[b]? = W.heap[b]?) : Room W' b o n k := by
  obtain ⟨cs, hb, hs⟩ := h.blk
  exact ⟨h.off, ⟨cs, hb.agree e, hs⟩, h.le, h.max⟩
theorem Room.set {W : World} {b o n k : Nat} (h : Room W b o n k) (b' j : Nat) (v : Value) : Room (W.setCell ⟨b', j, none⟩ v) b o n k := by
  by_cases e : b = b'
  · subst e
    obtain ⟨cs, hb, hs⟩ := h.blk
    exact ⟨h.off, ⟨_, hb.set j v, by simpa using hs⟩, h.le, h.max⟩
  · exact h.agree (Below.heap_setCell W ⟨b', j, none⟩ v b e)
theorem Room.lt {W : World} {b o n k : Nat} (h : Room W b o n k) : b < W.heap.size := by
  obtain ⟨cs, hb, _⟩ := h.blk
  exact hb.lt
theorem Room.below {W W' : World} {b o n k : Nat} (h : Room W b o n k) (hb : Below W.heap.size W W') : Room W' b o n k := h.agree (hb.block b h.lt)
theorem Room.grown {W W' : World} {b o n k q : Nat} (h : Room W b o n k) (hg : W.grownBy W' (some q)) (hq : b ≠ q) : Room W' b o n k := h.agree (hg.block b h.lt (fun e => hq (by simpa using e)))
theorem Room.to_own {W : World} {lo b o n k : Nat} {zs : List Int} {F : List Nat} (h : Room W b o n k) (r : RdI W (some ⟨b, o, none⟩) n zs F) (hl : lo ≤ b) : W.ownsRow lo 3 1 (.slice (some ⟨b, o, none⟩) n k) n (zs.map (Value.int .i64)) := by
  obtain ⟨rfl, ⟨cs, hb, hs⟩, h1, h2⟩ := h
  refine ⟨by rw [List.length_map, r.length]; omega, .inr ⟨b, k, cs, rfl, hl, hb, h1, h2, by omega, ?_⟩⟩
  apply List.ext_getElem?
  intro j
  by_cases hj : j < n
  · have e := r.at j hj
    rw [hb.cell] at e
    rw [List.getElem?_take_of_lt (by omega), Array.getElem?_toList, ← Nat.zero_add j, e, Nat.zero_add, List.getElem?_map]
    have hz : j < zs.length := by rw [r.length]; exact hj
    rw [List.getElem?_eq_getElem hz, List.getD_eq_getElem?_getD, List.getElem?_eq_getElem hz]
    rfl
  · rw [List.getElem?_eq_none (by rw [List.length_take]; omega), List.getElem?_eq_none (by rw [List.length_map, r.length]; omega)]
/-- The same of a list's address; F: its blocks. -/
def RoomS (W : World) (a : Option Addr) (n k : Nat) (F : List Nat) : Prop := ∃ b o, a = some ⟨b, o, none⟩ ∧ F = [b] ∧ Room W b o n k
theorem RoomS.agree {W W' : World} {a : Option Addr} {n k : Nat} {F : List Nat} (h : RoomS W a n k F) (e : Agree W W' F) : RoomS W' a n k F := by
  obtain ⟨b, o, ha, rfl, hr⟩ := h
  exact ⟨b, o, ha, rfl, hr.agree (e b (by simp))⟩
theorem RoomS.below {W W' : World} {a : Option Addr} {n k : Nat} {F : List Nat} (h : RoomS W a n k F) (hb : Below W.heap.size W W') : RoomS W' a n k F := by
  obtain ⟨b, o, ha, rfl, hr⟩ := h
  exact ⟨b, o, ha, rfl, hr.below hb⟩
end Go.Proofs.Ytbmbmnhamogghab
