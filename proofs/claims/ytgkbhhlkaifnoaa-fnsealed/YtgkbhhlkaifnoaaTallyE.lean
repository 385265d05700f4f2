/- A summary that is right, by the program. No statement of the seat is proved here. -/
import Derived.Test.YtgkbhhlkaifnoaaTallyD
namespace Go.Proofs.Ytgkbhhlkaifnoaa
open Go.RowKit
/-- Whether a summary's numbers, in one row, are right. -/
def okT (s : Sk) (xs : List Int) : Bool := s.shaped && inB xs && (if xs.getD 0 0 = 0 then decide (xs = List.replicate 28 0) else decide (xs.getD 2 0 ≤ xs.getD 3 0))
set_option maxRecDepth 200000 in
set_option maxHeartbeats 2000000 in
theorem okTally_any (v : Value) (s : Sk) (F : List Nat) (w : World) (h : RdSk w v s F) (hw : s.wide) :
    Calls Try.prog 115 #[v] w fun e w' => ∃ xs ys : List Int, e = .returned (.tuple #[.agg (tc ys), .bool (okT s xs)]) ∧ xs.length = 28 ∧ ys.length = 28 ∧ (s.shaped = true → xs = s.tl) ∧ (okT s xs = true → ys = xs) ∧ Below w.heap.size w w' := by
  have HH : Hid (RdSk w v s F ∧ s.wide) := ⟨h, hw⟩
  obtain ⟨a1, n1, c1, a2, n2, c2, a3, n3, c3, F1, F2, F3, rfl, h1, h2, h3, _⟩ := h
  clear h1 h2 h3 hw
  have Z28 := two_made w #[.int .i64 s.count, .int .i64 s.sum, .int .i64 s.min, .int .i64 s.max, .slice a1 n1 c1, .slice a2 n2 c2, .slice a3 n3 c3] (tc (List.replicate 28 0)) 34 103
  have HZ : Hid (_ ∧ _ ∧ _) := Z28
  clear Z28
  go_enter Try.func115, Try.ntmps115
  go_wp2_with fail
  refine (tallyOf_any _ s F _ (HH.out.1.below HZ.out.2.2) HH.out.2).mono ?_
  rintro e w1 ⟨xs, rfl, hxl, hxe, hb1⟩
  have HX : Hid (xs.length = 28 ∧ (s.shaped = true → xs = s.tl)) := ⟨hxl, hxe⟩
  have HB : Hid (Blk w1 (w.heap.size + 1) (tc (List.replicate 28 0)) 103 ∧ Below w.heap.size w w1) := ⟨HZ.out.2.1.below hb1, Below.next HZ.out.2.2 hb1⟩
  clear hb1 HZ hxl hxe
  go_wp2_with (with_reducible refine stopStore 103 rfl ?_)
  refine store_fresh 103 w1.heap.size rfl (tc (List.replicate 28 0)) (tc xs) 103 rfl rfl rfl rfl (tallySize HX.out.1) (by rw [tc_size, tc_size, HX.out.1]; rfl) (tc_one _) ?_
  intro W2 hg2 hb2
  have HG2 : Hid (Blk W2 w1.heap.size (tc xs) 103 ∧ Blk W2 (w.heap.size + 1) (tc (List.replicate 28 0)) 103 ∧ Below w.heap.size w W2) := ⟨hg2, HB.out.1.below hb2, Below.next HB.out.2 hb2⟩
  have hlt : w.heap.size + 1 < w1.heap.size := HB.out.1.lt
  clear hg2 hb2
  obtain ⟨d, hd⟩ : ∃ d, d = okT s xs := ⟨_, rfl⟩
  have HD : Hid (d = okT s xs) := hd
  clear hd
  cases es : s.shaped
  · have HN : Hid (okT s xs = false) := by show _ = false; unfold okT; rw [es]; rfl
    clear es
    go_wp2_with (first | go_skip | (with_reducible refine stopStore 103 rfl ?_))
    refine store_known 103 (w.heap.size + 1) _ (tc (List.replicate 28 0)) 103 HG2.out.2.1 rfl rfl rfl rfl infoTally rfl (tc_one _) ?_
    go_wp2
    refine bodyPost_ret (results_row_tmp Try.results115 _ _ (w.heap.size + 1) _ _ _ _ rfl HG2.out.2.1.setRow Try.underlying103 rfl infoTally) rfl ?_
    exact ⟨xs, List.replicate 28 0, by rw [HN.out]; rfl, HX.out.1, rfl, HX.out.2, fun e => by (rw [HN.out] at e; cases e), below_setRow HG2.out.2.2 (by omega) _⟩
  have ES : Hid (s.shaped = true) := es
  clear es
  go_wp2_with (first | go_skip | (with_reducible refine stopLoad 103 rfl ?_))
  refine load_part 103 w1.heap.size 0 28 xs 103 _ HG2.out.1 rfl rfl rfl Try.underlying103 rfl infoTally (by rw [HX.out.1]; omega) ?_
  rw [List.drop_zero, List.take_of_length_le (Nat.le_of_eq HX.out.1)]
  go_wp2_with fail
  refine (inBounds_any xs _ HX.out.1).mono ?_
  rintro e W3 ⟨rfl, hb3⟩
  have HG3 : Hid (Blk W3 w1.heap.size (tc xs) 103 ∧ Blk W3 (w.heap.size + 1) (tc (List.replicate 28 0)) 103 ∧ Below w.heap.size w W3) := ⟨HG2.out.1.below hb3, HG2.out.2.1.below hb3, Below.next HG2.out.2.2 hb3⟩
  clear hb3
  cases ei : inB xs
  · have HN : Hid (okT s xs = false) := by show _ = false; unfold okT; rw [ES.out, ei]; rfl
    clear ei
    go_wp2_with (first | go_skip | (with_reducible refine stopStore 103 rfl ?_))
    refine store_known 103 (w.heap.size + 1) _ (tc (List.replicate 28 0)) 103 HG3.out.2.1 rfl rfl rfl rfl infoTally rfl (tc_one _) ?_
    go_wp2
    refine bodyPost_ret (results_row_tmp Try.results115 _ _ (w.heap.size + 1) _ _ _ _ rfl HG3.out.2.1.setRow Try.underlying103 rfl infoTally) rfl ?_
    exact ⟨xs, List.replicate 28 0, by rw [HN.out]; rfl, HX.out.1, rfl, HX.out.2, fun e => by (rw [HN.out] at e; cases e), below_setRow HG3.out.2.2 (by omega) _⟩
  have EI : Hid (inB xs = true) := ei
  clear ei
  obtain ⟨x0, hx0⟩ : ∃ x, x = xs.getD 0 0 := ⟨_, rfl⟩
  obtain ⟨x2, hx2⟩ : ∃ x, x = xs.getD 2 0 := ⟨_, rfl⟩
  obtain ⟨x3, hx3⟩ : ∃ x, x = xs.getD 3 0 := ⟨_, rfl⟩
  have c0 : W3.cell? ⟨w1.heap.size, 0, none⟩ = some (.int .i64 x0) := by rw [HG3.out.1.cell, hx0]; exact tc_get (by rw [HX.out.1]; omega)
  have HC : Hid (∀ W, Blk W w1.heap.size (tc xs) 103 → W.cell? ⟨w1.heap.size, 2, none⟩ = some (.int .i64 x2) ∧ W.cell? ⟨w1.heap.size, 3, none⟩ = some (.int .i64 x3)) := fun W b => ⟨by rw [b.cell, hx2]; exact tc_get (by rw [HX.out.1]; omega), by rw [b.cell, hx3]; exact tc_get (by rw [HX.out.1]; omega)⟩
  have HXE : Hid (x0 = xs.getD 0 0 ∧ x2 = xs.getD 2 0 ∧ x3 = xs.getD 3 0) := ⟨hx0, hx2, hx3⟩
  clear hx0 hx2 hx3
  by_cases q0 : x0 = 0
  rotate_left
  · have q0' : (x0 == 0) = false := by simpa using q0
    have HV : Hid (okT s xs = decide (x2 ≤ x3)) := by
      show _ = _
      unfold okT
      rw [ES.out, EI.out, if_neg (by rw [← HXE.out.1]; exact q0), ← HXE.out.2.1, ← HXE.out.2.2]; rfl
    clear q0
    go_wp2
    refine wp_region_held (S := fun W => Blk W w1.heap.size (tc xs) 103) (by kernel_rfl) ?_
    change wpAnyH _ _ _ _ _ _ _ _ (World.drew _)
    have HS : Hid (Blk W3.drew w1.heap.size (tc xs) 103) := HG3.out.1.drew
    refine takeH (o := ?o1) 0 (.agg (tc xs)) ?h1 ?r1
    case h1 => simp only [aT, aZ]; rfl
    refine ⟨_, by simp [Act.put]; rfl, by kernel_rfl, by kernel_rfl, by kernel_rfl, fun _ _ _ h => h, (yields_whole 103 w1.heap.size (tc xs) 103 _ rfl rfl rfl Try.underlying103 rfl (tallySize HX.out.1) (fun W hW => hW)), HS.out, ?_⟩
    refine takeH (o := ?o2) 1 (.pointer (some ⟨w1.heap.size, 2, none⟩)) ?h2 ?r2
    case h2 => simp only [aT, aS, aZ]; rfl
    refine ⟨_, by simp [Act.put]; rfl, by kernel_rfl, by kernel_rfl, by kernel_rfl, fun _ _ _ h => h, (.inl ⟨rfl, fun W _ => by go_simp⟩), HS.out, ?_⟩
    refine takeH (o := ?o3) 2 (.int .i64 x2) ?h3 ?r3
    case h3 => simp only [aT, aS, aZ]; rfl
    refine ⟨_, by simp [Act.put]; rfl, by kernel_rfl, by kernel_rfl, by kernel_rfl, fun _ _ _ h => h, (.inl ⟨rfl, fun W hW => by have c := (HC.out W hW).1; go_simp⟩), HS.out, ?_⟩
    refine takeH (o := ?o4) 3 (.pointer (some ⟨w1.heap.size, 3, none⟩)) ?h4 ?r4
    case h4 => simp only [aT, aS, aZ]; rfl
    refine ⟨_, by simp [Act.put]; rfl, by kernel_rfl, by kernel_rfl, by kernel_rfl, fun _ _ _ h => h, (.inl ⟨rfl, fun W _ => by go_simp⟩), HS.out, ?_⟩
    refine takeH (o := ?o5) 4 (.int .i64 x3) ?h5 ?r5
    case h5 => simp only [aT, aS, aZ]; rfl
    refine ⟨_, by simp [Act.put]; rfl, by kernel_rfl, by kernel_rfl, by kernel_rfl, fun _ _ _ h => h, (.inl ⟨rfl, fun W hW => by have c := (HC.out W hW).2; go_simp⟩), HS.out, ?_⟩
    refine takeH (o := ?o6) 5 (.bool (decide (x2 ≤ x3))) ?h6 ?r6
    case h6 => simp only [aT, aS, aZ]; rfl
    refine ⟨_, by simp [Act.put]; rfl, by kernel_rfl, by kernel_rfl, by kernel_rfl, fun _ _ _ h => h, (.inl ⟨rfl, fun W _ => by go_simp⟩), HS.out, ?_⟩
    refine onlyH (o := ?o7) 6 (by kernel_rfl) ?h7 ?r7
    case h7 => simp only [aT, aS, aZ]; rfl
    intro K hK
    refine op_store 103 (w.heap.size + 1) (tc (List.replicate 28 0)) (tc xs) 103 rfl rfl rfl rfl HG3.out.2.1.drew (tallySize HX.out.1) (by rw [tc_size, tc_size, HX.out.1]; rfl) (tc_one _) ⟨_, by simp [Act.put]; rfl, hK _ _ ⟨HS.out.setRowOther (by omega), ?_⟩⟩
    clear hK
    refine onlyH (o := ?o8) 7 (by kernel_rfl) ?h8 ?r8
    case h8 => simp only [aT, aS, aZ]; rfl
    intro K hK
    refine op_value (.bool (decide (x2 ≤ x3))) rfl (by go_simp) ⟨_, by simp [Act.put]; rfl, hK _ _ ⟨HS.out.setRowOther (by omega), ?_⟩⟩
    clear hK
    refine wpAnyH_done (by kernel_rfl) ?_ _
    go_wp2
    refine bodyPost_ret (results_row_tmp Try.results115 _ _ (w.heap.size + 1) _ _ _ _ rfl HG3.out.2.1.drew.setRow Try.underlying103 rfl (tallySize HX.out.1)) rfl ?_
    exact ⟨xs, xs, by rw [HV.out]; rfl, HX.out.1, HX.out.1, HX.out.2, fun _ => rfl, below_setRow HG3.out.2.2.drew (by omega) _⟩
  subst q0
  have q0' : ((0 : Int) == 0) = true := by simp
  have HV : Hid (okT s xs = decide (xs = List.replicate 28 0)) := by
    show _ = _
    unfold okT
    rw [ES.out, EI.out, if_pos (HXE.out.1.symm)]; rfl
  go_wp2
  refine wp_region_held (S := fun W => Blk W w1.heap.size (tc xs) 103) (by kernel_rfl) ?_
  change wpAnyH _ _ _ _ _ _ _ _ (World.drew _)
  have HS : Hid (Blk W3.drew w1.heap.size (tc xs) 103) := HG3.out.1.drew
  refine takeH (o := ?o9) 0 (.agg (tc xs)) ?h9 ?r9
  case h9 => simp only [aT, aZ]; rfl
  refine ⟨_, by simp [Act.put]; rfl, by kernel_rfl, by kernel_rfl, by kernel_rfl, fun _ _ _ h => h, (yields_whole 103 w1.heap.size (tc xs) 103 _ rfl rfl rfl Try.underlying103 rfl (tallySize HX.out.1) (fun W hW => hW)), HS.out, ?_⟩
  refine takeH (o := ?o10) 1 (.agg (tc xs)) ?h10 ?r10
  case h10 => simp only [aT, aS, aZ]; rfl
  refine ⟨_, by simp [Act.put]; rfl, by kernel_rfl, by kernel_rfl, by kernel_rfl, fun _ _ _ h => h, (yields_whole 103 w1.heap.size (tc xs) 103 _ rfl rfl rfl Try.underlying103 rfl (tallySize HX.out.1) (fun W hW => hW)), HS.out, ?_⟩
  refine takeH (o := ?o11) 2 (.agg (tc (List.replicate 28 0))) ?h11 ?r11
  case h11 => simp only [aT, aS, aZ]; rfl
  refine ⟨_, by simp [Act.put]; rfl, by kernel_rfl, by kernel_rfl, by kernel_rfl, fun _ _ _ h => h, (.inl ⟨rfl, fun W _ => by go_simp; rfl⟩), HS.out, ?_⟩
  refine onlyH (o := ?o12) 3 (by kernel_rfl) ?h12 ?r12
  case h12 => simp only [aT, aS, aZ]; rfl
  intro K hK
  refine op_call2 70 _ _ _ Try.f70 (fun w' => Below W3.drew.heap.size W3.drew w') (.bool (decide (xs = List.replicate 28 0))) rfl rfl Try.func70 (by kernel_rfl) (by kernel_rfl) (same_any xs (List.replicate 28 0) _ HX.out.1 rfl) ⟨_, by simp [Act.put]; rfl, fun W4 hb4 => hK _ _ ⟨HS.out.below hb4, ?_⟩⟩
  have HG4 : Hid (Blk W4 w1.heap.size (tc xs) 103 ∧ Blk W4 (w.heap.size + 1) (tc (List.replicate 28 0)) 103 ∧ Below w.heap.size w W4) := ⟨HG3.out.1.drew.below hb4, HG3.out.2.1.drew.below hb4, Below.next HG3.out.2.2.drew hb4⟩
  clear hb4 hK
  refine onlyH (o := ?o13) 4 (by kernel_rfl) ?h13 ?r13
  case h13 => simp only [aT, aS, aZ]; rfl
  intro K hK
  refine op_store 103 (w.heap.size + 1) (tc (List.replicate 28 0)) (tc xs) 103 rfl rfl rfl rfl HG4.out.2.1 (tallySize HX.out.1) (by rw [tc_size, tc_size, HX.out.1]; rfl) (tc_one _) ⟨_, by simp [Act.put]; rfl, hK _ _ ⟨HG4.out.1.setRowOther (by omega), ?_⟩⟩
  clear hK
  refine onlyH (o := ?o14) 5 (by kernel_rfl) ?h14 ?r14
  case h14 => simp only [aT, aS, aZ]; rfl
  intro K hK
  refine op_value (.bool (decide (xs = List.replicate 28 0))) rfl (by go_simp) ⟨_, by simp [Act.put]; rfl, hK _ _ ⟨HG4.out.1.setRowOther (by omega), ?_⟩⟩
  clear hK
  refine wpAnyH_done (by kernel_rfl) ?_ _
  go_wp2
  refine bodyPost_ret (results_row_tmp Try.results115 _ _ (w.heap.size + 1) _ _ _ _ rfl HG4.out.2.1.setRow Try.underlying103 rfl (tallySize HX.out.1)) rfl ?_
  exact ⟨xs, xs, by rw [HV.out]; rfl, HX.out.1, HX.out.1, HX.out.2, fun _ => rfl, below_setRow HG4.out.2.2 (by omega) _⟩
end Go.Proofs.Ytgkbhhlkaifnoaa
