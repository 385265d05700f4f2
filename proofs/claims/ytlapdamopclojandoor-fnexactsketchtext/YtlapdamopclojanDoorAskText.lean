/- The walks through SketchText, of the program and of the model. No statement of the seat is proved here. -/
import Derived.Test.YtlapdamopclojanDoorAskMean
import Derived.Test.YtlapdamopclojanDoorDigits
namespace Go.Proofs.YtlapdamopclojanDoor
open Go.RowKit Go.Sort
def itB (n : Int) : ByteArray := ⟨(Lib.itoa n).toArray⟩
theorem itoa_len (n : Int) (h0 : 0 ≤ n) (h1 : n ≤ 9223372036854775807) : (Lib.itoa n).length ≤ 20 := by
  by_cases h : 0 < n
  · rw [← itoa_pos n h]
    have := dig_small 20 n.toNat [] (by have : (10 : Nat) ^ 20 = 100000000000000000000 := by decide
                                        omega)
    simpa using this
  · obtain rfl : n = 0 := by omega
    rw [Lib.itoa, if_neg (by omega)]
    rw [show (0 : Int).toNat = 0 from rfl, Lib.decDigits_one (i := 0) (by omega)]
    simp
theorem itB_size (n : Int) (h0 : 0 ≤ n) (h1 : n ≤ 9223372036854775807) : (itB n).size ≤ 20 := by
  unfold itB
  rw [size_list]
  exact itoa_len n h0 h1
def textN (s : Sk) : ByteArray := if s.ok = true then itB s.count ++ ⟨#[32]⟩ ++ itB s.sum ++ ⟨#[32]⟩ ++ itB s.min ++ ⟨#[32]⟩ ++ itB s.max else ⟨#[63]⟩
theorem textN_not {s : Sk} (h : s.ok = false) : textN s = ⟨#[63]⟩ := by unfold textN; rw [h]; rfl
theorem textN_ok {s : Sk} (h : s.ok = true) : textN s = itB s.count ++ ⟨#[32]⟩ ++ itB s.sum ++ ⟨#[32]⟩ ++ itB s.min ++ ⟨#[32]⟩ ++ itB s.max := by unfold textN; rw [if_pos h]
theorem join4 (a b c d : ByteArray) : (⟨(Lib.join ([a, b, c, d].map (·.data.toList)) (⟨#[32]⟩ : ByteArray).data.toList).toArray⟩ : ByteArray) = a ++ ⟨#[32]⟩ ++ b ++ ⟨#[32]⟩ ++ c ++ ⟨#[32]⟩ ++ d := by
  apply ByteArray.ext
  apply Array.ext'
  simp [Lib.join, List.intercalate, List.intersperse, ByteArray.data_append]
theorem join4_len (a b c d : ByteArray) (ha : a.size ≤ 20) (hb : b.size ≤ 20) (hc : c.size ≤ 20) (hd : d.size ≤ 20) : (Lib.join ([a, b, c, d].map (·.data.toList)) (⟨#[32]⟩ : ByteArray).data.toList).length ≤ 140737488355328 := by
  have e := congrArg ByteArray.size (join4 a b c d)
  rw [size_list] at e
  rw [e]
  simp [ByteArray.size_append]
  have : (⟨#[32]⟩ : ByteArray).size = 1 := rfl
  omega
theorem cells4 (w : World) (a b c d : ByteArray) (t : TypeId) : ∀ (j : Nat) x, [a, b, c, d][j]? = some x → (w.alloc (.cells #[.string a, .string b, .string c, .string d] t)).cell? ⟨w.heap.size, 0 + j, none⟩ = some (.string x) := by
  intro j x h
  rw [World.cell?_alloc_at (hn := rfl)]
  match j, h with
  | 0, h => simp at h; subst h; rfl
  | 1, h => simp at h; subst h; rfl
  | 2, h => simp at h; subst h; rfl
  | 3, h => simp at h; subst h; rfl
  | j + 4, h => simp at h
set_option maxRecDepth 100000 in
set_option maxHeartbeats 4000000 in
theorem textImpl_any (v : Value) (s : Sk) (F : List Nat) (w : World) (h : RdSk w v s F) (hw : s.wide) {GT : Nat} (gT : Tryd.prog.globalNamed "internal/strconv.uint64pow10" = some GT) (ht : Lib.TabIs Tryd.prog w "internal/strconv.uint64pow10" .u64 Lib.pow10Tab) :
    Calls Tryd.prog 7 #[v] w fun e w' => e = .returned (.string (textN s)) ∧ Below w.heap.size w w' := by
  have HH : Hid (RdSk w v s F ∧ s.wide) := ⟨h, hw⟩
  have HTAB : Hid ((Lib.TabIs Tryd.prog w "internal/strconv.uint64pow10" .u64 Lib.pow10Tab) ∧ Tryd.prog.globalNamed "internal/strconv.uint64pow10" = some GT) := ⟨ht, gT⟩
  obtain ⟨a1, n1, c1, a2, n2, c2, a3, n3, c3, F1, F2, F3, rfl, h1, h2, h3, _⟩ := h
  clear h1 h2 h3 hw ht gT
  have HT : Hid (Below w.heap.size w (w.alloc (.cells #[.int .i64 s.count, .int .i64 s.sum, .int .i64 s.min, .int .i64 s.max, .slice a1 n1 c1, .slice a2 n2 c2, .slice a3 n3 c3] 28))) := (Below.refl _ _).alloc (Nat.le_refl _) _
  go_enter Tryd.func7, Tryd.ntmps7
  go_wp2_with fail
  refine (okTally_any _ s F _ (HH.out.1.below HT.out) HH.out.2).mono ?_
  rintro e w1 ⟨xs, ys, rfl, _, hy, hx, hyx, hb1⟩
  have hok := okT_ok hx
  have HB : Hid (ys.length = 28 ∧ Below w.heap.size w w1 ∧ (s.ok = true → ys = s.tl)) := ⟨hy, Below.next HT.out hb1, fun e => by rw [hyx (hok.trans e)]; exact hx (Sk.ok_shaped e)⟩
  rw [hok]
  clear hb1 hy hx hyx hok
  obtain ⟨d, hd⟩ : ∃ d, d = s.ok := ⟨_, rfl⟩
  rw [← hd]
  have HD : Hid (d = s.ok) := hd
  clear hd
  go_wp2_with (with_reducible refine stopStore 42 rfl ?_)
  refine store_fresh 42 w1.heap.size rfl (tc (List.replicate 28 0)) (tc ys) 42 rfl rfl rfl rfl (tallySize HB.out.1) (by rw [tc_size, tc_size, HB.out.1]; rfl) (tc_one _) ?_
  intro W2 hg2 hb2
  have HB2 : Hid (Blk W2 w1.heap.size (tc ys) 42 ∧ Below w.heap.size w W2) := ⟨hg2, Below.next HB.out.2.1 hb2⟩
  clear hb2 hg2
  cases d
  · have HV := textN_not HD.out.symm
    go_wp2
    go_ret
    rw [HV]
    exact ⟨rfl, HB2.out.2⟩
  obtain ⟨x0, hx0⟩ : ∃ x, x = s.count := ⟨_, rfl⟩
  obtain ⟨x1, hx1⟩ : ∃ x, x = s.sum := ⟨_, rfl⟩
  obtain ⟨x2, hx2⟩ : ∃ x, x = s.min := ⟨_, rfl⟩
  obtain ⟨x3, hx3⟩ : ∃ x, x = s.max := ⟨_, rfl⟩
  have hE := okHead_of HD.out.symm
  have HV : Hid (textN s = itB x0 ++ ⟨#[32]⟩ ++ itB x1 ++ ⟨#[32]⟩ ++ itB x2 ++ ⟨#[32]⟩ ++ itB x3) := by rw [hx0, hx1, hx2, hx3]; exact textN_ok HD.out.symm
  have HC : Hid (∀ W, Blk W w1.heap.size (tc ys) 42 → W.cell? ⟨w1.heap.size, 0, none⟩ = some (.int .i64 x0) ∧ W.cell? ⟨w1.heap.size, 1, none⟩ = some (.int .i64 x1) ∧ W.cell? ⟨w1.heap.size, 2, none⟩ = some (.int .i64 x2) ∧ W.cell? ⟨w1.heap.size, 3, none⟩ = some (.int .i64 x3)) := fun W b => by
    have e := HB.out.2.2 HD.out.symm
    subst e
    exact ⟨by rw [b.cell, hx0]; rfl, by rw [b.cell, hx1]; rfl, by rw [b.cell, hx2]; rfl, by rw [b.cell, hx3]; rfl⟩
  have HX : Hid ((0 ≤ x0 ∧ x0 ≤ 1000000000) ∧ (0 ≤ x1 ∧ x1 ≤ 1000000000) ∧ (0 ≤ x2 ∧ x2 ≤ 1000000) ∧ (0 ≤ x3 ∧ x3 ≤ 1000000)) := by rw [hx0, hx1, hx2, hx3]; exact hE
  have HS : Hid (Blk W2.drew w1.heap.size (tc ys) 42) := HB2.out.1.drew
  have HW : Hid (Below w.heap.size w W2.drew) := HB2.out.2.drew
  clear hx0 hx1 hx2 hx3 hE HB HB2
  go_wp2
  refine wp_region_held (S := fun W => Blk W w1.heap.size (tc ys) 42) (by kernel_rfl) ?_
  change wpAnyH _ _ _ _ _ _ _ _ (World.drew _)
  refine takeH (o := ?o1) 0 (.pointer (some ⟨w1.heap.size, 0, none⟩)) ?h1 ?r1
  case h1 => simp only [List.getElem?_toArray, List.getElem?_cons_zero]; rfl
  refine ⟨_, by simp [Act.put]; rfl, by kernel_rfl, by kernel_rfl, by kernel_rfl, fun _ _ _ h => h, (.inl ⟨rfl, fun W _ => by go_simp⟩), HS.out, ?_⟩
  refine takeH (o := ?o2) 1 (.int .i64 x0) ?h2 ?r2
  case h2 => simp only [List.getElem?_toArray, List.getElem?_cons_succ, List.getElem?_cons_zero]; rfl
  refine ⟨_, by simp [Act.put]; rfl, by kernel_rfl, by kernel_rfl, by kernel_rfl, fun _ _ _ h => h, (.inl ⟨rfl, fun W hW => by have c := (HC.out W hW).1; go_simp⟩), HS.out, ?_⟩
  refine takeH (o := ?o3) 3 (.pointer (some ⟨w1.heap.size, 1, none⟩)) ?h3 ?r3
  case h3 => simp only [List.getElem?_toArray, List.getElem?_cons_succ, List.getElem?_cons_zero]; rfl
  refine ⟨_, by simp [Act.put]; rfl, by kernel_rfl, by kernel_rfl, by kernel_rfl, fun _ _ _ h => h, (.inl ⟨rfl, fun W _ => by go_simp⟩), HS.out, ?_⟩
  refine takeH (o := ?o4) 4 (.int .i64 x1) ?h4 ?r4
  case h4 => simp only [List.getElem?_toArray, List.getElem?_cons_succ, List.getElem?_cons_zero]; rfl
  refine ⟨_, by simp [Act.put]; rfl, by kernel_rfl, by kernel_rfl, by kernel_rfl, fun _ _ _ h => h, (.inl ⟨rfl, fun W hW => by have c := (HC.out W hW).2.1; go_simp⟩), HS.out, ?_⟩
  refine takeH (o := ?o5) 6 (.pointer (some ⟨w1.heap.size, 2, none⟩)) ?h5 ?r5
  case h5 => simp only [List.getElem?_toArray, List.getElem?_cons_succ, List.getElem?_cons_zero]; rfl
  refine ⟨_, by simp [Act.put]; rfl, by kernel_rfl, by kernel_rfl, by kernel_rfl, fun _ _ _ h => h, (.inl ⟨rfl, fun W _ => by go_simp⟩), HS.out, ?_⟩
  refine takeH (o := ?o6) 7 (.int .i64 x2) ?h6 ?r6
  case h6 => simp only [List.getElem?_toArray, List.getElem?_cons_succ, List.getElem?_cons_zero]; rfl
  refine ⟨_, by simp [Act.put]; rfl, by kernel_rfl, by kernel_rfl, by kernel_rfl, fun _ _ _ h => h, (.inl ⟨rfl, fun W hW => by have c := (HC.out W hW).2.2.1; go_simp⟩), HS.out, ?_⟩
  refine takeH (o := ?o7) 9 (.pointer (some ⟨w1.heap.size, 3, none⟩)) ?h7 ?r7
  case h7 => simp only [List.getElem?_toArray, List.getElem?_cons_succ, List.getElem?_cons_zero]; rfl
  refine ⟨_, by simp [Act.put]; rfl, by kernel_rfl, by kernel_rfl, by kernel_rfl, fun _ _ _ h => h, (.inl ⟨rfl, fun W _ => by go_simp⟩), HS.out, ?_⟩
  refine takeH (o := ?o8) 10 (.int .i64 x3) ?h8 ?r8
  case h8 => simp only [List.getElem?_toArray, List.getElem?_cons_succ, List.getElem?_cons_zero]; rfl
  refine ⟨_, by simp [Act.put]; rfl, by kernel_rfl, by kernel_rfl, by kernel_rfl, fun _ _ _ h => h, (.inl ⟨rfl, fun W hW => by have c := (HC.out W hW).2.2.2; go_simp⟩), HS.out, ?_⟩
  refine onlyH (o := ?o9) 2 (by kernel_rfl) ?h9 ?r9
  case h9 => simp only [List.getElem?_toArray, List.getElem?_cons_succ, List.getElem?_cons_zero]; rfl
  intro K hK
  refine op_call1 17 _ _ Tryd.f17 (fun v w' => v = .string (itB x0) ∧ Below W2.drew.heap.size W2.drew w') rfl rfl Tryd.func17 (by kernel_rfl) (by kernel_rfl) ((digImpl_any x0 W2.drew (by have := HX.out.1; omega) (by have := HX.out.1; omega) (tab_below HTAB.out.2 HTAB.out.1 HW.out)).mono (by rintro e w' ⟨rfl, h3⟩; exact ⟨_, rfl, rfl, h3⟩)) ?_
  rintro _ v0 ⟨rfl, bz⟩
  refine ⟨_, by simp [Act.put]; rfl, hK _ _ ⟨HS.out.below bz, ?_⟩⟩
  have HS : Hid (Blk v0 w1.heap.size (tc ys) 42) := HS.out.below bz
  have HW : Hid (Below w.heap.size w v0) := Below.next HW.out bz
  clear hK bz
  refine onlyH (o := ?o10) 5 (by kernel_rfl) ?h10 ?r10
  case h10 => simp only [List.getElem?_toArray, List.getElem?_cons_succ, List.getElem?_cons_zero]; rfl
  intro K hK
  refine op_call1 17 _ _ Tryd.f17 (fun v w' => v = .string (itB x1) ∧ Below v0.heap.size v0 w') rfl rfl Tryd.func17 (by kernel_rfl) (by kernel_rfl) ((digImpl_any x1 v0 (by have := HX.out.2.1; omega) (by have := HX.out.2.1; omega) (tab_below HTAB.out.2 HTAB.out.1 HW.out)).mono (by rintro e w' ⟨rfl, h3⟩; exact ⟨_, rfl, rfl, h3⟩)) ?_
  rintro _ v1 ⟨rfl, bz⟩
  refine ⟨_, by simp [Act.put]; rfl, hK _ _ ⟨HS.out.below bz, ?_⟩⟩
  have HS : Hid (Blk v1 w1.heap.size (tc ys) 42) := HS.out.below bz
  have HW : Hid (Below w.heap.size w v1) := Below.next HW.out bz
  clear hK bz
  refine onlyH (o := ?o11) 8 (by kernel_rfl) ?h11 ?r11
  case h11 => simp only [List.getElem?_toArray, List.getElem?_cons_succ, List.getElem?_cons_zero]; rfl
  intro K hK
  refine op_call1 17 _ _ Tryd.f17 (fun v w' => v = .string (itB x2) ∧ Below v1.heap.size v1 w') rfl rfl Tryd.func17 (by kernel_rfl) (by kernel_rfl) ((digImpl_any x2 v1 (by have := HX.out.2.2.1; omega) (by have := HX.out.2.2.1; omega) (tab_below HTAB.out.2 HTAB.out.1 HW.out)).mono (by rintro e w' ⟨rfl, h3⟩; exact ⟨_, rfl, rfl, h3⟩)) ?_
  rintro _ v2 ⟨rfl, bz⟩
  refine ⟨_, by simp [Act.put]; rfl, hK _ _ ⟨HS.out.below bz, ?_⟩⟩
  have HS : Hid (Blk v2 w1.heap.size (tc ys) 42) := HS.out.below bz
  have HW : Hid (Below w.heap.size w v2) := Below.next HW.out bz
  clear hK bz
  refine onlyH (o := ?o12) 11 (by kernel_rfl) ?h12 ?r12
  case h12 => simp only [List.getElem?_toArray, List.getElem?_cons_succ, List.getElem?_cons_zero]; rfl
  intro K hK
  refine op_call1 17 _ _ Tryd.f17 (fun v w' => v = .string (itB x3) ∧ Below v2.heap.size v2 w') rfl rfl Tryd.func17 (by kernel_rfl) (by kernel_rfl) ((digImpl_any x3 v2 (by have := HX.out.2.2.2; omega) (by have := HX.out.2.2.2; omega) (tab_below HTAB.out.2 HTAB.out.1 HW.out)).mono (by rintro e w' ⟨rfl, h3⟩; exact ⟨_, rfl, rfl, h3⟩)) ?_
  rintro _ v3 ⟨rfl, bz⟩
  refine ⟨_, by simp [Act.put]; rfl, hK _ _ ⟨HS.out.below bz, ?_⟩⟩
  have HS : Hid (Blk v3 w1.heap.size (tc ys) 42) := HS.out.below bz
  have HW : Hid (Below w.heap.size w v3) := Below.next HW.out bz
  clear hK bz
  refine onlyH (o := ?o13) 12 (by kernel_rfl) ?h13 ?r13
  case h13 => simp only [List.getElem?_toArray, List.getElem?_cons_succ, List.getElem?_cons_zero]; rfl
  intro K hK
  refine op_turn (.slice (some ⟨v3.heap.size, 0, none⟩) 4 4) (v3.alloc (.cells #[.string (itB x0), .string (itB x1), .string (itB x2), .string (itB x3)] 9)) rfl (by go_simp) ⟨_, by simp [Act.put]; rfl, hK _ _ ⟨HS.out.alloc _, ?_⟩⟩
  have HL : Hid (∀ (j : Nat) x, [itB x0, itB x1, itB x2, itB x3][j]? = some x → (v3.alloc (.cells #[.string (itB x0), .string (itB x1), .string (itB x2), .string (itB x3)] 9)).cell? ⟨v3.heap.size, 0 + j, none⟩ = some (.string x)) := cells4 v3 _ _ _ _ _
  have hlt : v3.heap.size < (v3.alloc (.cells #[.string (itB x0), .string (itB x1), .string (itB x2), .string (itB x3)] 9)).heap.size := by simp
  have HS : Hid (Blk (v3.alloc (.cells #[.string (itB x0), .string (itB x1), .string (itB x2), .string (itB x3)] 9)) w1.heap.size (tc ys) 42) := HS.out.alloc _
  have HW : Hid (Below w.heap.size w (v3.alloc (.cells #[.string (itB x0), .string (itB x1), .string (itB x2), .string (itB x3)] 9))) := Below.next HW.out ((Below.refl _ _).alloc (Nat.le_refl _) _)
  obtain ⟨v4, hv4⟩ : ∃ W, W = (v3.alloc (.cells #[.string (itB x0), .string (itB x1), .string (itB x2), .string (itB x3)] 9)) := ⟨_, rfl⟩
  rw [← hv4] at HL hlt HS HW ⊢
  clear hK hv4
  refine onlyH (o := ?o14) 13 (by kernel_rfl) ?h14 ?r14
  case h14 => simp only [List.getElem?_toArray, List.getElem?_cons_succ, List.getElem?_cons_zero]; rfl
  intro K hK
  refine op_call2' 16 _ _ _ Tryd.f16 (fun v w' => v = .string (itB x0 ++ ⟨#[32]⟩ ++ itB x1 ++ ⟨#[32]⟩ ++ itB x2 ++ ⟨#[32]⟩ ++ itB x3) ∧ Below v4.heap.size v4 w') rfl rfl Tryd.func16 (by kernel_rfl) (by kernel_rfl) ((Tryd.strings_Join v3.heap.size 0 4 [itB x0, itB x1, itB x2, itB x3] ⟨#[32]⟩ v4 HL.out hlt (by simp) (by simp) (join4_len _ _ _ _ (itB_size _ (by have := HX.out.1; omega) (by have := HX.out.1; omega)) (itB_size _ (by have := HX.out.2.1; omega) (by have := HX.out.2.1; omega)) (itB_size _ (by have := HX.out.2.2.1; omega) (by have := HX.out.2.2.1; omega)) (itB_size _ (by have := HX.out.2.2.2; omega) (by have := HX.out.2.2.2; omega)))).mono (by rintro e w' ⟨rfl, h3⟩; exact ⟨_, rfl, by rw [join4], h3⟩)) ?_
  rintro _ v5 ⟨rfl, bz⟩
  refine ⟨_, by simp [Act.put]; rfl, hK _ _ ⟨HS.out.below bz, ?_⟩⟩
  have HS : Hid (Blk v5 w1.heap.size (tc ys) 42) := HS.out.below bz
  have HW : Hid (Below w.heap.size w v5) := Below.next HW.out bz
  clear hK bz HL hlt
  rw [← HV.out]
  refine takeH (o := ?o15) 14 (.string (textN s)) ?h15 ?r15
  case h15 => simp only [List.getElem?_toArray, List.getElem?_cons_succ, List.getElem?_cons_zero]; rfl
  refine ⟨_, by simp [Act.put]; rfl, by kernel_rfl, by kernel_rfl, by kernel_rfl, fun _ _ _ h => h, (.inl ⟨rfl, fun W _ => by go_simp⟩), HS.out, ?_⟩
  refine wpAnyH_done (by kernel_rfl) ?_ _
  go_wp2
  go_ret
  exact ⟨rfl, HW.out⟩
set_option maxRecDepth 100000 in
set_option maxHeartbeats 4000000 in
theorem textSpec_any (v : Value) (s : Sk) (F : List Nat) (w : World) (h : RdSk w v s F) (hw : s.wide) :
    Calls Tryd.prog 5 #[v] w fun e w' => e = .returned (.string (textN s)) ∧ Below w.heap.size w w' := by
  have HH : Hid (RdSk w v s F ∧ s.wide) := ⟨h, hw⟩
  obtain ⟨a1, n1, c1, a2, n2, c2, a3, n3, c3, F1, F2, F3, rfl, h1, h2, h3, _⟩ := h
  clear h1 h2 h3 hw
  have HT : Hid (Blk (w.alloc (.cells #[.int .i64 s.count, .int .i64 s.sum, .int .i64 s.min, .int .i64 s.max, .slice a1 n1 c1, .slice a2 n2 c2, .slice a3 n3 c3] 28)) w.heap.size #[.int .i64 s.count, .int .i64 s.sum, .int .i64 s.min, .int .i64 s.max, .slice a1 n1 c1, .slice a2 n2 c2, .slice a3 n3 c3] 28 ∧ Below w.heap.size w (w.alloc (.cells #[.int .i64 s.count, .int .i64 s.sum, .int .i64 s.min, .int .i64 s.max, .slice a1 n1 c1, .slice a2 n2 c2, .slice a3 n3 c3] 28))) := ⟨Blk.made _ _ _, (Below.refl _ _).alloc (Nat.le_refl _) _⟩
  go_enter Tryd.func5, Tryd.ntmps5
  go_wp2_with fail
  refine (okSpec_any _ s F _ (HH.out.1.below HT.out.2) HH.out.2).mono ?_
  rintro e w1 ⟨rfl, hb1⟩
  have HB : Hid (Blk w1 w.heap.size #[.int .i64 s.count, .int .i64 s.sum, .int .i64 s.min, .int .i64 s.max, .slice a1 n1 c1, .slice a2 n2 c2, .slice a3 n3 c3] 28 ∧ Below w.heap.size w w1) := ⟨HT.out.1.below hb1, Below.next HT.out.2 hb1⟩
  clear hb1
  obtain ⟨d, hd⟩ : ∃ d, d = s.ok := ⟨_, rfl⟩
  rw [← hd]
  have HD : Hid (d = s.ok) := hd
  clear hd
  cases d
  · have HV := textN_not HD.out.symm
    go_wp2
    go_ret
    rw [HV]
    exact ⟨rfl, HB.out.2⟩
  obtain ⟨x0, hx0⟩ : ∃ x, x = s.count := ⟨_, rfl⟩
  obtain ⟨x1, hx1⟩ : ∃ x, x = s.sum := ⟨_, rfl⟩
  obtain ⟨x2, hx2⟩ : ∃ x, x = s.min := ⟨_, rfl⟩
  obtain ⟨x3, hx3⟩ : ∃ x, x = s.max := ⟨_, rfl⟩
  have hE := okHead_of HD.out.symm
  have HV : Hid (textN s = itB x0 ++ ⟨#[32]⟩ ++ itB x1 ++ ⟨#[32]⟩ ++ itB x2 ++ ⟨#[32]⟩ ++ itB x3) := by rw [hx0, hx1, hx2, hx3]; exact textN_ok HD.out.symm
  have HC : Hid (∀ W, Blk W w.heap.size #[.int .i64 s.count, .int .i64 s.sum, .int .i64 s.min, .int .i64 s.max, .slice a1 n1 c1, .slice a2 n2 c2, .slice a3 n3 c3] 28 → W.cell? ⟨w.heap.size, 0, none⟩ = some (.int .i64 x0) ∧ W.cell? ⟨w.heap.size, 1, none⟩ = some (.int .i64 x1) ∧ W.cell? ⟨w.heap.size, 2, none⟩ = some (.int .i64 x2) ∧ W.cell? ⟨w.heap.size, 3, none⟩ = some (.int .i64 x3)) := fun W b => ⟨by rw [b.cell, hx0]; rfl, by rw [b.cell, hx1]; rfl, by rw [b.cell, hx2]; rfl, by rw [b.cell, hx3]; rfl⟩
  have HX : Hid ((0 ≤ x0 ∧ x0 ≤ 1000000000) ∧ (0 ≤ x1 ∧ x1 ≤ 1000000000) ∧ (0 ≤ x2 ∧ x2 ≤ 1000000) ∧ (0 ≤ x3 ∧ x3 ≤ 1000000)) := by rw [hx0, hx1, hx2, hx3]; exact hE
  have HS : Hid (Blk w1.drew w.heap.size #[.int .i64 s.count, .int .i64 s.sum, .int .i64 s.min, .int .i64 s.max, .slice a1 n1 c1, .slice a2 n2 c2, .slice a3 n3 c3] 28) := HB.out.1.drew
  have HW : Hid (Below w.heap.size w w1.drew) := HB.out.2.drew
  obtain ⟨s0, hs0⟩ : ∃ b, b = itB x0 := ⟨_, rfl⟩
  obtain ⟨s1, hs1⟩ : ∃ b, b = itB x1 := ⟨_, rfl⟩
  obtain ⟨s2, hs2⟩ : ∃ b, b = itB x2 := ⟨_, rfl⟩
  obtain ⟨s3, hs3⟩ : ∃ b, b = itB x3 := ⟨_, rfl⟩
  rw [← hs0, ← hs1, ← hs2, ← hs3] at HV
  have HE : Hid (s0 = itB x0 ∧ s1 = itB x1 ∧ s2 = itB x2 ∧ s3 = itB x3) := ⟨hs0, hs1, hs2, hs3⟩
  have z0 : s0.size ≤ 20 := by rw [hs0]; exact itB_size _ (by have := HX.out.1; omega) (by have := HX.out.1; omega)
  have z1 : s1.size ≤ 20 := by rw [hs1]; exact itB_size _ (by have := HX.out.2.1; omega) (by have := HX.out.2.1; omega)
  have z2 : s2.size ≤ 20 := by rw [hs2]; exact itB_size _ (by have := HX.out.2.2.1; omega) (by have := HX.out.2.2.1; omega)
  have z3 : s3.size ≤ 20 := by rw [hs3]; exact itB_size _ (by have := HX.out.2.2.2; omega) (by have := HX.out.2.2.2; omega)
  clear hx0 hx1 hx2 hx3 hE HB hs0 hs1 hs2 hs3
  go_wp2
  refine wp_region_held (S := fun W => Blk W w.heap.size #[.int .i64 s.count, .int .i64 s.sum, .int .i64 s.min, .int .i64 s.max, .slice a1 n1 c1, .slice a2 n2 c2, .slice a3 n3 c3] 28) (by kernel_rfl) ?_
  change wpAnyH _ _ _ _ _ _ _ _ (World.drew _)
  refine takeH (o := ?o16) 0 (.pointer (some ⟨w.heap.size, 0, none⟩)) ?h16 ?r16
  case h16 => simp only [List.getElem?_toArray, List.getElem?_cons_zero]; rfl
  refine ⟨_, by simp [Act.put]; rfl, by kernel_rfl, by kernel_rfl, by kernel_rfl, fun _ _ _ h => h, (.inl ⟨rfl, fun W _ => by go_simp⟩), HS.out, ?_⟩
  refine takeH (o := ?o17) 1 (.int .i64 x0) ?h17 ?r17
  case h17 => simp only [List.getElem?_toArray, List.getElem?_cons_succ, List.getElem?_cons_zero]; rfl
  refine ⟨_, by simp [Act.put]; rfl, by kernel_rfl, by kernel_rfl, by kernel_rfl, fun _ _ _ h => h, (.inl ⟨rfl, fun W hW => by have c := (HC.out W hW).1; go_simp⟩), HS.out, ?_⟩
  refine takeH (o := ?o18) 4 (.pointer (some ⟨w.heap.size, 1, none⟩)) ?h18 ?r18
  case h18 => simp only [List.getElem?_toArray, List.getElem?_cons_succ, List.getElem?_cons_zero]; rfl
  refine ⟨_, by simp [Act.put]; rfl, by kernel_rfl, by kernel_rfl, by kernel_rfl, fun _ _ _ h => h, (.inl ⟨rfl, fun W _ => by go_simp⟩), HS.out, ?_⟩
  refine takeH (o := ?o19) 5 (.int .i64 x1) ?h19 ?r19
  case h19 => simp only [List.getElem?_toArray, List.getElem?_cons_succ, List.getElem?_cons_zero]; rfl
  refine ⟨_, by simp [Act.put]; rfl, by kernel_rfl, by kernel_rfl, by kernel_rfl, fun _ _ _ h => h, (.inl ⟨rfl, fun W hW => by have c := (HC.out W hW).2.1; go_simp⟩), HS.out, ?_⟩
  refine takeH (o := ?o20) 9 (.pointer (some ⟨w.heap.size, 2, none⟩)) ?h20 ?r20
  case h20 => simp only [List.getElem?_toArray, List.getElem?_cons_succ, List.getElem?_cons_zero]; rfl
  refine ⟨_, by simp [Act.put]; rfl, by kernel_rfl, by kernel_rfl, by kernel_rfl, fun _ _ _ h => h, (.inl ⟨rfl, fun W _ => by go_simp⟩), HS.out, ?_⟩
  refine takeH (o := ?o21) 10 (.int .i64 x2) ?h21 ?r21
  case h21 => simp only [List.getElem?_toArray, List.getElem?_cons_succ, List.getElem?_cons_zero]; rfl
  refine ⟨_, by simp [Act.put]; rfl, by kernel_rfl, by kernel_rfl, by kernel_rfl, fun _ _ _ h => h, (.inl ⟨rfl, fun W hW => by have c := (HC.out W hW).2.2.1; go_simp⟩), HS.out, ?_⟩
  refine takeH (o := ?o22) 14 (.pointer (some ⟨w.heap.size, 3, none⟩)) ?h22 ?r22
  case h22 => simp only [List.getElem?_toArray, List.getElem?_cons_succ, List.getElem?_cons_zero]; rfl
  refine ⟨_, by simp [Act.put]; rfl, by kernel_rfl, by kernel_rfl, by kernel_rfl, fun _ _ _ h => h, (.inl ⟨rfl, fun W _ => by go_simp⟩), HS.out, ?_⟩
  refine takeH (o := ?o23) 15 (.int .i64 x3) ?h23 ?r23
  case h23 => simp only [List.getElem?_toArray, List.getElem?_cons_succ, List.getElem?_cons_zero]; rfl
  refine ⟨_, by simp [Act.put]; rfl, by kernel_rfl, by kernel_rfl, by kernel_rfl, fun _ _ _ h => h, (.inl ⟨rfl, fun W hW => by have c := (HC.out W hW).2.2.2; go_simp⟩), HS.out, ?_⟩
  refine onlyH (o := ?o24) 2 (by kernel_rfl) ?h24 ?r24
  case h24 => simp only [List.getElem?_toArray, List.getElem?_cons_succ, List.getElem?_cons_zero]; rfl
  intro K hK
  refine op_call1 12 _ _ Tryd.f12 (fun v w' => v = .string s0 ∧ Below w1.drew.heap.size w1.drew w') rfl rfl Tryd.func12 (by kernel_rfl) (by kernel_rfl) ((digSpec_any x0 w1.drew (by have := HX.out.1; omega) (by have := HX.out.1; omega)).mono (by rintro e w' ⟨rfl, h3⟩; exact ⟨_, rfl, by rw [HE.out.1]; rfl, h3⟩)) ?_
  rintro _ v0 ⟨rfl, bz⟩
  refine ⟨_, by simp [Act.put]; rfl, hK _ _ ⟨HS.out.below bz, ?_⟩⟩
  have HS : Hid (Blk v0 w.heap.size #[.int .i64 s.count, .int .i64 s.sum, .int .i64 s.min, .int .i64 s.max, .slice a1 n1 c1, .slice a2 n2 c2, .slice a3 n3 c3] 28) := HS.out.below bz
  have HW : Hid (Below w.heap.size w v0) := Below.next HW.out bz
  clear hK bz
  refine takeH (o := ?o25) 3 (.string (s0 ++ (⟨#[32]⟩ : ByteArray))) ?h25 ?r25
  case h25 => simp only [List.getElem?_toArray, List.getElem?_cons_succ, List.getElem?_cons_zero]; rfl
  refine ⟨_, by simp [Act.put]; rfl, by kernel_rfl, by kernel_rfl, by kernel_rfl, fun _ _ _ h => h, (.inl ⟨rfl, fun W _ => by go_simp; omega⟩), HS.out, ?_⟩
  refine onlyH (o := ?o26) 6 (by kernel_rfl) ?h26 ?r26
  case h26 => simp only [List.getElem?_toArray, List.getElem?_cons_succ, List.getElem?_cons_zero]; rfl
  intro K hK
  refine op_call1 12 _ _ Tryd.f12 (fun v w' => v = .string s1 ∧ Below v0.heap.size v0 w') rfl rfl Tryd.func12 (by kernel_rfl) (by kernel_rfl) ((digSpec_any x1 v0 (by have := HX.out.2.1; omega) (by have := HX.out.2.1; omega)).mono (by rintro e w' ⟨rfl, h3⟩; exact ⟨_, rfl, by rw [HE.out.2.1]; rfl, h3⟩)) ?_
  rintro _ v1 ⟨rfl, bz⟩
  refine ⟨_, by simp [Act.put]; rfl, hK _ _ ⟨HS.out.below bz, ?_⟩⟩
  have HS : Hid (Blk v1 w.heap.size #[.int .i64 s.count, .int .i64 s.sum, .int .i64 s.min, .int .i64 s.max, .slice a1 n1 c1, .slice a2 n2 c2, .slice a3 n3 c3] 28) := HS.out.below bz
  have HW : Hid (Below w.heap.size w v1) := Below.next HW.out bz
  clear hK bz
  refine takeH (o := ?o27) 7 (.string (s0 ++ (⟨#[32]⟩ : ByteArray) ++ s1)) ?h27 ?r27
  case h27 => simp only [List.getElem?_toArray, List.getElem?_cons_succ, List.getElem?_cons_zero]; rfl
  refine ⟨_, by simp [Act.put]; rfl, by kernel_rfl, by kernel_rfl, by kernel_rfl, fun _ _ _ h => h, (.inl ⟨rfl, fun W _ => by go_simp; omega⟩), HS.out, ?_⟩
  refine takeH (o := ?o28) 8 (.string (s0 ++ (⟨#[32]⟩ : ByteArray) ++ s1 ++ (⟨#[32]⟩ : ByteArray))) ?h28 ?r28
  case h28 => simp only [List.getElem?_toArray, List.getElem?_cons_succ, List.getElem?_cons_zero]; rfl
  refine ⟨_, by simp [Act.put]; rfl, by kernel_rfl, by kernel_rfl, by kernel_rfl, fun _ _ _ h => h, (.inl ⟨rfl, fun W _ => by go_simp; omega⟩), HS.out, ?_⟩
  refine onlyH (o := ?o29) 11 (by kernel_rfl) ?h29 ?r29
  case h29 => simp only [List.getElem?_toArray, List.getElem?_cons_succ, List.getElem?_cons_zero]; rfl
  intro K hK
  refine op_call1 12 _ _ Tryd.f12 (fun v w' => v = .string s2 ∧ Below v1.heap.size v1 w') rfl rfl Tryd.func12 (by kernel_rfl) (by kernel_rfl) ((digSpec_any x2 v1 (by have := HX.out.2.2.1; omega) (by have := HX.out.2.2.1; omega)).mono (by rintro e w' ⟨rfl, h3⟩; exact ⟨_, rfl, by rw [HE.out.2.2.1]; rfl, h3⟩)) ?_
  rintro _ v2 ⟨rfl, bz⟩
  refine ⟨_, by simp [Act.put]; rfl, hK _ _ ⟨HS.out.below bz, ?_⟩⟩
  have HS : Hid (Blk v2 w.heap.size #[.int .i64 s.count, .int .i64 s.sum, .int .i64 s.min, .int .i64 s.max, .slice a1 n1 c1, .slice a2 n2 c2, .slice a3 n3 c3] 28) := HS.out.below bz
  have HW : Hid (Below w.heap.size w v2) := Below.next HW.out bz
  clear hK bz
  refine takeH (o := ?o30) 12 (.string (s0 ++ (⟨#[32]⟩ : ByteArray) ++ s1 ++ (⟨#[32]⟩ : ByteArray) ++ s2)) ?h30 ?r30
  case h30 => simp only [List.getElem?_toArray, List.getElem?_cons_succ, List.getElem?_cons_zero]; rfl
  refine ⟨_, by simp [Act.put]; rfl, by kernel_rfl, by kernel_rfl, by kernel_rfl, fun _ _ _ h => h, (.inl ⟨rfl, fun W _ => by go_simp; omega⟩), HS.out, ?_⟩
  refine takeH (o := ?o31) 13 (.string (s0 ++ (⟨#[32]⟩ : ByteArray) ++ s1 ++ (⟨#[32]⟩ : ByteArray) ++ s2 ++ (⟨#[32]⟩ : ByteArray))) ?h31 ?r31
  case h31 => simp only [List.getElem?_toArray, List.getElem?_cons_succ, List.getElem?_cons_zero]; rfl
  refine ⟨_, by simp [Act.put]; rfl, by kernel_rfl, by kernel_rfl, by kernel_rfl, fun _ _ _ h => h, (.inl ⟨rfl, fun W _ => by go_simp; omega⟩), HS.out, ?_⟩
  refine onlyH (o := ?o32) 16 (by kernel_rfl) ?h32 ?r32
  case h32 => simp only [List.getElem?_toArray, List.getElem?_cons_succ, List.getElem?_cons_zero]; rfl
  intro K hK
  refine op_call1 12 _ _ Tryd.f12 (fun v w' => v = .string s3 ∧ Below v2.heap.size v2 w') rfl rfl Tryd.func12 (by kernel_rfl) (by kernel_rfl) ((digSpec_any x3 v2 (by have := HX.out.2.2.2; omega) (by have := HX.out.2.2.2; omega)).mono (by rintro e w' ⟨rfl, h3⟩; exact ⟨_, rfl, by rw [HE.out.2.2.2]; rfl, h3⟩)) ?_
  rintro _ v3 ⟨rfl, bz⟩
  refine ⟨_, by simp [Act.put]; rfl, hK _ _ ⟨HS.out.below bz, ?_⟩⟩
  have HS : Hid (Blk v3 w.heap.size #[.int .i64 s.count, .int .i64 s.sum, .int .i64 s.min, .int .i64 s.max, .slice a1 n1 c1, .slice a2 n2 c2, .slice a3 n3 c3] 28) := HS.out.below bz
  have HW : Hid (Below w.heap.size w v3) := Below.next HW.out bz
  clear hK bz
  refine takeH (o := ?o33) 17 (.string (s0 ++ (⟨#[32]⟩ : ByteArray) ++ s1 ++ (⟨#[32]⟩ : ByteArray) ++ s2 ++ (⟨#[32]⟩ : ByteArray) ++ s3)) ?h33 ?r33
  case h33 => simp only [List.getElem?_toArray, List.getElem?_cons_succ, List.getElem?_cons_zero]; rfl
  refine ⟨_, by simp [Act.put]; rfl, by kernel_rfl, by kernel_rfl, by kernel_rfl, fun _ _ _ h => h, (.inl ⟨rfl, fun W _ => by go_simp; omega⟩), HS.out, ?_⟩
  rw [← HV.out]
  refine takeH (o := ?o34) 18 (.string (textN s)) ?h34 ?r34
  case h34 => simp only [List.getElem?_toArray, List.getElem?_cons_succ, List.getElem?_cons_zero]; rfl
  refine ⟨_, by simp [Act.put]; rfl, by kernel_rfl, by kernel_rfl, by kernel_rfl, fun _ _ _ h => h, (.inl ⟨rfl, fun W _ => by go_simp⟩), HS.out, ?_⟩
  refine wpAnyH_done (by kernel_rfl) ?_ _
  go_wp2
  go_ret
  exact ⟨rfl, HW.out⟩
end Go.Proofs.YtlapdamopclojanDoor
