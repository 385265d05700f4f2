/- Several texts of mine, laid together. No statement of the seat is proved here. -/
import Derived.Test.YtbmbmnhamogghabB3
import Derived.Test.YtbmbmnhamogghabB4
import Derived.Test.YtbmbmnhamogghabSkCopy
import Derived.Test.YtbmbmnhamogghabB5
import Derived.Test.YtbmbmnhamogghabB2
import Derived.Deep.DeepCutAuto
/- The walk through the model's EntryOf. No statement of the seat is proved here. -/
namespace Go.Proofs.Ytbmbmnhamogghab
open Go.RowKit
def It.entryOk (a : Int) (x : It) : Bool := x.ok && decide (0 ≤ idOf a x.seq)
def It.entry (a : Int) (x : It) : En := if x.entryOk a = true then ⟨x.key, x.window, [(idOf a x.seq, idOf a x.seq)], x.sk⟩ else En.zero
theorem It.entry_not {a : Int} {x : It} (h : x.entryOk a = false) : x.entry a = En.zero := by unfold It.entry; rw [h]; rfl
theorem It.entry_yes {a : Int} {x : It} (h : x.entryOk a = true) : x.entry a = ⟨x.key, x.window, [(idOf a x.seq, idOf a x.seq)], x.sk⟩ := by unfold It.entry; rw [if_pos h]
theorem It.ok_sk {x : It} (h : x.ok = true) : x.sk.ok = true := by
  unfold It.ok at h
  simp only [Bool.and_eq_true] at h
  exact h.2
theorem ok_full {s : Sk} (h : s.ok = true) : s.full := by
  unfold Sk.ok at h
  simp only [Bool.and_eq_true] at h
  obtain ⟨⟨h1, _⟩, h3⟩ := h
  unfold okHead at h1
  unfold okLists at h3
  simp only [Bool.and_eq_true, decide_eq_true_eq] at h1 h3
  have e0 := okL_len h3.1.1.1
  have e1 := okL_len h3.1.1.2
  have e2 := okL_len h3.1.2
  have e3 := okL_len h3.2
  have er : s.rows.length = 2 := h1.2
  refine ⟨by omega, by omega, by omega, fun z hz => ?_⟩
  obtain ⟨r0, r1, hs⟩ : ∃ r0 r1, s.rows = [r0, r1] := by
    match hs : s.rows, er with
    | [r0, r1], _ => exact ⟨r0, r1, rfl⟩
  rw [hs] at hz e2 e3
  simp at hz e2 e3
  rcases hz with rfl | rfl <;> omega
theorem rdP_single {W : World} {g : Nat} {n : Int} {t : TypeId} (h : Blk W g #[.int .i64 n, .int .i64 n] t) : RdP W (some ⟨g, 0, none⟩) 1 [(n, n)] [g] :=
  ⟨rfl, rdI_tcv (xs := flat [(n, n)]) (by simpa [tcv, flat] using h) (by simp [flat]) (by omega)⟩
theorem infoItA : (Try.prog.info? 40).map (·.size) = some 11 := by kernel_rfl
set_option maxRecDepth 100000 in
set_option maxHeartbeats 8000000 in
theorem entryOfSpec_any (ag : Int) (v : Value) (x : It) (F : List Nat) (w : World) (h : RdIt w v x F) (hw : x.sk.wide) :
    Calls Try.prog 15 #[.int .i64 ag, v] w fun e w' => NewEn2 w (x.entry ag) (x.entryOk ag) e w' := by
  have HX : Hid (RdIt w v x F ∧ x.sk.wide) := ⟨h, hw⟩
  obtain ⟨a1, n1, c1, a2, n2, c2, a3, n3, c3, rfl, hr⟩ := h
  have HR : Hid (RdSk w (.agg #[.int .i64 x.sk.count, .int .i64 x.sk.sum, .int .i64 x.sk.min, .int .i64 x.sk.max, .slice a1 n1 c1, .slice a2 n2 c2, .slice a3 n3 c3]) x.sk F) := hr
  have HT : Hid (Blk ((w.alloc (.cells #[.int .i64 x.seq, .int .i64 x.cls, .int .i64 x.key, .int .i64 x.window, .int .i64 x.sk.count, .int .i64 x.sk.sum, .int .i64 x.sk.min, .int .i64 x.sk.max, .slice a1 n1 c1, .slice a2 n2 c2, .slice a3 n3 c3] 40)).alloc (.cells #[.int .i64 0, .int .i64 0, .slice none 0 0, .int .i64 0, .int .i64 0, .int .i64 0, .int .i64 0, .slice none 0 0, .slice none 0 0, .slice none 0 0] 30)) w.heap.size #[.int .i64 x.seq, .int .i64 x.cls, .int .i64 x.key, .int .i64 x.window, .int .i64 x.sk.count, .int .i64 x.sk.sum, .int .i64 x.sk.min, .int .i64 x.sk.max, .slice a1 n1 c1, .slice a2 n2 c2, .slice a3 n3 c3] 40) := (Blk.made _ _ _).alloc _
  have HZ : Hid (Blk ((w.alloc (.cells #[.int .i64 x.seq, .int .i64 x.cls, .int .i64 x.key, .int .i64 x.window, .int .i64 x.sk.count, .int .i64 x.sk.sum, .int .i64 x.sk.min, .int .i64 x.sk.max, .slice a1 n1 c1, .slice a2 n2 c2, .slice a3 n3 c3] 40)).alloc (.cells #[.int .i64 0, .int .i64 0, .slice none 0 0, .int .i64 0, .int .i64 0, .int .i64 0, .int .i64 0, .slice none 0 0, .slice none 0 0, .slice none 0 0] 30)) (w.heap.size + 1) #[.int .i64 0, .int .i64 0, .slice none 0 0, .int .i64 0, .int .i64 0, .int .i64 0, .int .i64 0, .slice none 0 0, .slice none 0 0, .slice none 0 0] 30 ∧ Below w.heap.size w ((w.alloc (.cells #[.int .i64 x.seq, .int .i64 x.cls, .int .i64 x.key, .int .i64 x.window, .int .i64 x.sk.count, .int .i64 x.sk.sum, .int .i64 x.sk.min, .int .i64 x.sk.max, .slice a1 n1 c1, .slice a2 n2 c2, .slice a3 n3 c3] 40)).alloc (.cells #[.int .i64 0, .int .i64 0, .slice none 0 0, .int .i64 0, .int .i64 0, .int .i64 0, .int .i64 0, .slice none 0 0, .slice none 0 0, .slice none 0 0] 30))) := ⟨by have := Blk.made (w.alloc (.cells #[.int .i64 x.seq, .int .i64 x.cls, .int .i64 x.key, .int .i64 x.window, .int .i64 x.sk.count, .int .i64 x.sk.sum, .int .i64 x.sk.min, .int .i64 x.sk.max, .slice a1 n1 c1, .slice a2 n2 c2, .slice a3 n3 c3] 40)) #[.int .i64 0, .int .i64 0, .slice none 0 0, .int .i64 0, .int .i64 0, .int .i64 0, .int .i64 0, .slice none 0 0, .slice none 0 0, .slice none 0 0] 30; simpa using this, Below.allocW _ (Below.allocW _ (Below.refl _ _) (Nat.le_refl _)) (Nat.le_refl _)⟩
  clear hr hw
  go_enter Try.func15, Try.ntmps15
  go_wp2_with fail
  refine (idSpec_any _ _ _).mono ?_
  rintro e w1 ⟨rfl, hw1⟩
  have hw1' := hw1.symm
  subst hw1'
  clear hw1
  obtain ⟨id, hid⟩ : ∃ i, i = idOf ag x.seq := ⟨_, rfl⟩
  rw [← hid]
  have HID : Hid (id = idOf ag x.seq) := hid
  clear hid
  go_wp2_with (first | go_skip | (with_reducible refine stopLoad 40 rfl ?_))
  refine load_known 40 w.heap.size _ 40 _ HT.out rfl rfl rfl Try.underlying40 rfl infoItA ?_
  go_wp2_with fail
  refine (itemOkSpec_any _ x F _ (HX.out.1.below HZ.out.2) HX.out.2).mono ?_
  rintro e w2 ⟨rfl, hb⟩
  have HT2 : Hid (Blk w2 w.heap.size #[.int .i64 x.seq, .int .i64 x.cls, .int .i64 x.key, .int .i64 x.window, .int .i64 x.sk.count, .int .i64 x.sk.sum, .int .i64 x.sk.min, .int .i64 x.sk.max, .slice a1 n1 c1, .slice a2 n2 c2, .slice a3 n3 c3] 40) := HT.out.below hb
  have HZ2 : Hid (Blk w2 (w.heap.size + 1) #[.int .i64 0, .int .i64 0, .slice none 0 0, .int .i64 0, .int .i64 0, .int .i64 0, .int .i64 0, .slice none 0 0, .slice none 0 0, .slice none 0 0] 30 ∧ Below w.heap.size w w2) := ⟨HZ.out.1.below hb, Below.next HZ.out.2 hb⟩
  obtain ⟨d, hd⟩ : ∃ d, d = x.ok := ⟨_, rfl⟩
  rw [← hd]
  have HD : Hid (d = x.ok) := hd
  clear hd hb HT HZ
  cases d
  · have HV : Hid (x.entryOk ag = false) := by show _ = _; unfold It.entryOk; rw [← HD.out]; rfl
    go_wp2_with (first | go_skip | (with_reducible refine stopStore 30 rfl ?_))
    refine store_known 30 (w.heap.size + 1) #[.int .i64 0, .int .i64 0, .slice none 0 0, .int .i64 0, .int .i64 0, .int .i64 0, .int .i64 0, .slice none 0 0, .slice none 0 0, .slice none 0 0] #[.int .i64 0, .int .i64 0, .slice none 0 0, .int .i64 0, .int .i64 0, .int .i64 0, .int .i64 0, .slice none 0 0, .slice none 0 0, .slice none 0 0] 30 HZ2.out.1 rfl rfl rfl rfl infoEnA rfl (by simp [Value.oneCell']) ?_
    have HE : Hid (Blk _ (w.heap.size + 1) #[.int .i64 0, .int .i64 0, .slice none 0 0, .int .i64 0, .int .i64 0, .int .i64 0, .int .i64 0, .slice none 0 0, .slice none 0 0, .slice none 0 0] 30 ∧ Below w.heap.size w _) := ⟨HZ2.out.1.setRow (ds := #[.int .i64 0, .int .i64 0, .slice none 0 0, .int .i64 0, .int .i64 0, .int .i64 0, .int .i64 0, .slice none 0 0, .slice none 0 0, .slice none 0 0]), below_setRow (g := w.heap.size + 1) HZ2.out.2 (by omega) #[.int .i64 0, .int .i64 0, .slice none 0 0, .int .i64 0, .int .i64 0, .int .i64 0, .int .i64 0, .slice none 0 0, .slice none 0 0, .slice none 0 0]⟩
    go_wp2
    refine bodyPost_ret (results_row_tmp Try.results15 _ _ (w.heap.size + 1) _ _ (0, 0) _ rfl HE.out.1 Try.underlying30 rfl infoEnA) rfl ?_
    rw [It.entry_not HV.out, HV.out]
    exact ⟨_, [], [], rfl, rdEn_zero _, Own.nil, Own.nil, by simp, HE.out.2⟩
  by_cases hneg : id < 0
  · have HV : Hid (x.entryOk ag = false) := by show _ = _; unfold It.entryOk; rw [← HID.out, decF (p := 0 ≤ id) (by omega)]; simp
    have gd : decide (id < 0) = true := decT hneg
    go_wp2_with (first | go_skip | (with_reducible refine stopStore 30 rfl ?_))
    refine store_known 30 (w.heap.size + 1) #[.int .i64 0, .int .i64 0, .slice none 0 0, .int .i64 0, .int .i64 0, .int .i64 0, .int .i64 0, .slice none 0 0, .slice none 0 0, .slice none 0 0] #[.int .i64 0, .int .i64 0, .slice none 0 0, .int .i64 0, .int .i64 0, .int .i64 0, .int .i64 0, .slice none 0 0, .slice none 0 0, .slice none 0 0] 30 HZ2.out.1 rfl rfl rfl rfl infoEnA rfl (by simp [Value.oneCell']) ?_
    have HE : Hid (Blk _ (w.heap.size + 1) #[.int .i64 0, .int .i64 0, .slice none 0 0, .int .i64 0, .int .i64 0, .int .i64 0, .int .i64 0, .slice none 0 0, .slice none 0 0, .slice none 0 0] 30 ∧ Below w.heap.size w _) := ⟨HZ2.out.1.setRow (ds := #[.int .i64 0, .int .i64 0, .slice none 0 0, .int .i64 0, .int .i64 0, .int .i64 0, .int .i64 0, .slice none 0 0, .slice none 0 0, .slice none 0 0]), below_setRow (g := w.heap.size + 1) HZ2.out.2 (by omega) #[.int .i64 0, .int .i64 0, .slice none 0 0, .int .i64 0, .int .i64 0, .int .i64 0, .int .i64 0, .slice none 0 0, .slice none 0 0, .slice none 0 0]⟩
    go_wp2
    refine bodyPost_ret (results_row_tmp Try.results15 _ _ (w.heap.size + 1) _ _ (0, 0) _ rfl HE.out.1 Try.underlying30 rfl infoEnA) rfl ?_
    rw [It.entry_not HV.out, HV.out]
    exact ⟨_, [], [], rfl, rdEn_zero _, Own.nil, Own.nil, by simp, HE.out.2⟩
  have gd : decide (id < 0) = false := decF hneg
  have HV : Hid (x.entryOk ag = true) := by show _ = _; unfold It.entryOk; rw [← HD.out, ← HID.out, decT (p := 0 ≤ id) (by omega)]; rfl
  go_wp2
  have HS : Hid (Blk w2.drew w.heap.size #[.int .i64 x.seq, .int .i64 x.cls, .int .i64 x.key, .int .i64 x.window, .int .i64 x.sk.count, .int .i64 x.sk.sum, .int .i64 x.sk.min, .int .i64 x.sk.max, .slice a1 n1 c1, .slice a2 n2 c2, .slice a3 n3 c3] 40) := HT2.out.drew
  have HZ3 : Hid (Blk w2.drew (w.heap.size + 1) #[.int .i64 0, .int .i64 0, .slice none 0 0, .int .i64 0, .int .i64 0, .int .i64 0, .int .i64 0, .slice none 0 0, .slice none 0 0, .slice none 0 0] 30 ∧ Below w.heap.size w w2.drew) := ⟨HZ2.out.1.drew, HZ2.out.2.drew⟩
  clear HT2 HZ2 gd
  refine wp_region_held (S := fun W => Blk W w.heap.size #[.int .i64 x.seq, .int .i64 x.cls, .int .i64 x.key, .int .i64 x.window, .int .i64 x.sk.count, .int .i64 x.sk.sum, .int .i64 x.sk.min, .int .i64 x.sk.max, .slice a1 n1 c1, .slice a2 n2 c2, .slice a3 n3 c3] 40) (by kernel_rfl) ?_
  change wpAnyH _ _ _ _ _ _ _ _ (World.drew _)
  refine takeH (o := ?o1) 0 (.pointer (some ⟨w.heap.size, 2, none⟩)) ?h1 ?r1
  case h1 => simp only [List.getElem?_toArray, List.getElem?_cons_zero]; rfl
  refine ⟨_, by simp [Act.put]; rfl, by kernel_rfl, by kernel_rfl, by kernel_rfl, fun _ _ _ h => h, (.inl ⟨rfl, fun W _ => by go_simp⟩), HS.out, ?_⟩
  refine takeH (o := ?o2) 1 (.int .i64 x.key) ?h2 ?r2
  case h2 => simp only [List.getElem?_toArray, List.getElem?_cons_succ, List.getElem?_cons_zero]; rfl
  refine ⟨_, by simp [Act.put]; rfl, by kernel_rfl, by kernel_rfl, by kernel_rfl, fun _ _ _ h => h, (.inl ⟨rfl, fun W hW => by have c := hW.cell 2; simp only [List.getElem?_toArray, List.getElem?_cons_succ, List.getElem?_cons_zero] at c; go_simp⟩), HS.out, ?_⟩
  refine takeH (o := ?o3) 2 (.pointer (some ⟨w.heap.size, 3, none⟩)) ?h3 ?r3
  case h3 => simp only [List.getElem?_toArray, List.getElem?_cons_succ, List.getElem?_cons_zero]; rfl
  refine ⟨_, by simp [Act.put]; rfl, by kernel_rfl, by kernel_rfl, by kernel_rfl, fun _ _ _ h => h, (.inl ⟨rfl, fun W _ => by go_simp⟩), HS.out, ?_⟩
  refine takeH (o := ?o4) 3 (.int .i64 x.window) ?h4 ?r4
  case h4 => simp only [List.getElem?_toArray, List.getElem?_cons_succ, List.getElem?_cons_zero]; rfl
  refine ⟨_, by simp [Act.put]; rfl, by kernel_rfl, by kernel_rfl, by kernel_rfl, fun _ _ _ h => h, (.inl ⟨rfl, fun W hW => by have c := hW.cell 3; simp only [List.getElem?_toArray, List.getElem?_cons_succ, List.getElem?_cons_zero] at c; go_simp⟩), HS.out, ?_⟩
  refine takeH (o := ?o5) 4 (.int .i64 id) ?h5 ?r5
  case h5 => simp only [List.getElem?_toArray, List.getElem?_cons_succ, List.getElem?_cons_zero]; rfl
  refine ⟨_, by simp [Act.put]; rfl, by kernel_rfl, by kernel_rfl, by kernel_rfl, fun _ _ _ h => h, (.inl ⟨rfl, fun W _ => by go_simp⟩), HS.out, ?_⟩
  refine takeH (o := ?o6) 5 (.int .i64 id) ?h6 ?r6
  case h6 => simp only [List.getElem?_toArray, List.getElem?_cons_succ, List.getElem?_cons_zero]; rfl
  refine ⟨_, by simp [Act.put]; rfl, by kernel_rfl, by kernel_rfl, by kernel_rfl, fun _ _ _ h => h, (.inl ⟨rfl, fun W _ => by go_simp⟩), HS.out, ?_⟩
  refine takeH (o := ?o7) 6 (.agg #[.int .i64 id, .int .i64 id]) ?h7 ?r7
  case h7 => simp only [List.getElem?_toArray, List.getElem?_cons_succ, List.getElem?_cons_zero]; rfl
  refine ⟨_, by simp [Act.put]; rfl, by kernel_rfl, by kernel_rfl, by kernel_rfl, fun _ _ _ h => h, (.inl ⟨rfl, fun W _ => by go_simp⟩), HS.out, ?_⟩
  refine takeH (o := ?o8) 8 (.pointer (some ⟨w.heap.size, 4, none⟩)) ?h8 ?r8
  case h8 => simp only [List.getElem?_toArray, List.getElem?_cons_succ, List.getElem?_cons_zero]; rfl
  refine ⟨_, by simp [Act.put]; rfl, by kernel_rfl, by kernel_rfl, by kernel_rfl, fun _ _ _ h => h, (.inl ⟨rfl, fun W _ => by go_simp⟩), HS.out, ?_⟩
  refine takeH (o := ?o9) 9 (.agg #[.int .i64 x.sk.count, .int .i64 x.sk.sum, .int .i64 x.sk.min, .int .i64 x.sk.max, .slice a1 n1 c1, .slice a2 n2 c2, .slice a3 n3 c3]) ?h9 ?r9
  case h9 => simp only [List.getElem?_toArray, List.getElem?_cons_succ, List.getElem?_cons_zero]; rfl
  refine ⟨_, by simp [Act.put]; rfl, by kernel_rfl, by kernel_rfl, by kernel_rfl, fun _ _ _ h => h, (yields_cut 28 w.heap.size 4 7 _ #[.int .i64 x.sk.count, .int .i64 x.sk.sum, .int .i64 x.sk.min, .int .i64 x.sk.max, .slice a1 n1 c1, .slice a2 n2 c2, .slice a3 n3 c3] 40 _ rfl rfl rfl Try.underlying28 rfl (by kernel_rfl) (by simp) rfl (fun W hW => hW)), HS.out, ?_⟩
  refine twoH (o := ?o10) (o' := ?p10) 7 10 (by kernel_rfl) ?h10 ?g10 ?r10 ?s10
  case h10 => simp only [List.getElem?_toArray, List.getElem?_cons_succ, List.getElem?_cons_zero]; rfl
  case g10 => simp only [List.getElem?_toArray, List.getElem?_cons_succ, List.getElem?_cons_zero]; rfl
  case r10 =>
    intro K hK
    refine op_turn (.slice (some ⟨w2.heap.size, 0, none⟩) 1 1) (w2.drew.alloc (.cells #[.int .i64 id, .int .i64 id] 68)) rfl (by go_simp) ⟨_, by simp [Act.put]; rfl, hK _ _ ⟨HS.out.alloc _, ?_⟩⟩
    have HS4 : Hid (Blk (w2.drew.alloc (.cells #[.int .i64 id, .int .i64 id] 68)) w.heap.size #[.int .i64 x.seq, .int .i64 x.cls, .int .i64 x.key, .int .i64 x.window, .int .i64 x.sk.count, .int .i64 x.sk.sum, .int .i64 x.sk.min, .int .i64 x.sk.max, .slice a1 n1 c1, .slice a2 n2 c2, .slice a3 n3 c3] 40) := HS.out.alloc _
    have HZ4 : Hid (Blk (w2.drew.alloc (.cells #[.int .i64 id, .int .i64 id] 68)) (w.heap.size + 1) #[.int .i64 0, .int .i64 0, .slice none 0 0, .int .i64 0, .int .i64 0, .int .i64 0, .int .i64 0, .slice none 0 0, .slice none 0 0, .slice none 0 0] 30 ∧ Below w.heap.size w (w2.drew.alloc (.cells #[.int .i64 id, .int .i64 id] 68))) := ⟨HZ3.out.1.alloc _, Below.allocW _ HZ3.out.2 (Nat.le_refl _)⟩
    have HL : Hid (Blk (w2.drew.alloc (.cells #[.int .i64 id, .int .i64 id] 68)) w2.heap.size #[.int .i64 id, .int .i64 id] 68 ∧ w.heap.size + 1 < w2.heap.size) := ⟨Blk.made _ _ _, HZ3.out.1.lt⟩
    obtain ⟨gg, hgg⟩ : ∃ n, n = w2.heap.size := ⟨_, rfl⟩
    obtain ⟨w4, hw4⟩ : ∃ W, W = w2.drew.alloc (.cells #[.int .i64 id, .int .i64 id] 68) := ⟨_, rfl⟩
    rw [← hw4] at HS4 HZ4 HL ⊢
    rw [← hgg] at HL ⊢
    clear hK hw4 hgg HS HZ3
    refine onlyH (o := ?o11) 10 (by kernel_rfl) ?h11 ?r11
    case h11 => simp only [List.getElem?_toArray, List.getElem?_cons_succ, List.getElem?_cons_zero]; rfl
    intro K hK
    refine op_call1 40 _ _ Try.f40 (fun v w' => ∃ X, RdSk w' v x.sk X ∧ Own w4.heap.size w' X ∧ Below w4.heap.size w4 w') rfl rfl Try.func40 (by kernel_rfl) (by kernel_rfl) ((l3Copy_any _ x.sk F w4 (HR.out.below HZ4.out.2) (ok_full (It.ok_sk HD.out.symm))).mono (by rintro e w' ⟨v, X, rfl, h1, h2, h3⟩; exact ⟨_, rfl, X, h1, h2, h3⟩)) ?_
    rintro vm w5 ⟨X, rm, om, bz⟩
    obtain ⟨e1, r1, f1, e2, r2, f2, e3, r3, f3, rfl⟩ := rm.cells7
    refine ⟨_, by simp [Act.put]; rfl, hK _ _ ⟨HS4.out.below bz, ?_⟩⟩
    have HS5 : Hid (Blk w5 w.heap.size #[.int .i64 x.seq, .int .i64 x.cls, .int .i64 x.key, .int .i64 x.window, .int .i64 x.sk.count, .int .i64 x.sk.sum, .int .i64 x.sk.min, .int .i64 x.sk.max, .slice a1 n1 c1, .slice a2 n2 c2, .slice a3 n3 c3] 40) := HS4.out.below bz
    have HZ5 : Hid (Blk w5 (w.heap.size + 1) #[.int .i64 0, .int .i64 0, .slice none 0 0, .int .i64 0, .int .i64 0, .int .i64 0, .int .i64 0, .slice none 0 0, .slice none 0 0, .slice none 0 0] 30 ∧ Below w.heap.size w w5) := ⟨HZ4.out.1.below bz, Below.next HZ4.out.2 bz⟩
    have hl := HL.out.1.below bz
    have HG : Hid (RdSk w5 (.agg #[.int .i64 x.sk.count, .int .i64 x.sk.sum, .int .i64 x.sk.min, .int .i64 x.sk.max, .slice e1 r1 f1, .slice e2 r2 f2, .slice e3 r3 f3]) x.sk X ∧ Own (w.heap.size + 2) w5 X ∧ RdP w5 (some ⟨gg, 0, none⟩) 1 [(id, id)] [gg] ∧ Own (w.heap.size + 2) w5 [gg] ∧ (∀ b ∈ [gg], b ∉ X) ∧ w.heap.size + 1 < gg) := ⟨rm, om.mono (by have := HZ4.out.1.lt; omega), rdP_single hl, ⟨by simp, fun b hb o => by (obtain rfl : b = gg := by simpa using hb); exact hl.frozen o, fun b hb => by (obtain rfl : b = gg := by simpa using hb); have := HL.out.2; omega⟩, fun b hb hx => by (obtain rfl : b = gg := by simpa using hb); have := om.ge _ hx; have := HL.out.1.lt; omega, HL.out.2⟩
    clear hK bz rm om hl HL HS4 HZ4
    refine takeH (o := ?o12) 11 (.agg #[.int .i64 x.key, .int .i64 x.window, .slice (some ⟨gg, 0, none⟩) 1 1, .int .i64 x.sk.count, .int .i64 x.sk.sum, .int .i64 x.sk.min, .int .i64 x.sk.max, .slice e1 r1 f1, .slice e2 r2 f2, .slice e3 r3 f3]) ?h12 ?r12
    case h12 => simp only [List.getElem?_toArray, List.getElem?_cons_succ, List.getElem?_cons_zero]; rfl
    refine ⟨_, by simp [Act.put]; rfl, by kernel_rfl, by kernel_rfl, by kernel_rfl, fun _ _ _ h => h, (.inl ⟨rfl, fun W _ => by go_simp⟩), HS5.out, ?_⟩
    refine onlyH (o := ?o13) 12 (by kernel_rfl) ?h13 ?r13
    case h13 => simp only [List.getElem?_toArray, List.getElem?_cons_succ, List.getElem?_cons_zero]; rfl
    intro K hK
    refine op_store 30 (w.heap.size + 1) #[.int .i64 0, .int .i64 0, .slice none 0 0, .int .i64 0, .int .i64 0, .int .i64 0, .int .i64 0, .slice none 0 0, .slice none 0 0, .slice none 0 0] #[.int .i64 x.key, .int .i64 x.window, .slice (some ⟨gg, 0, none⟩) 1 1, .int .i64 x.sk.count, .int .i64 x.sk.sum, .int .i64 x.sk.min, .int .i64 x.sk.max, .slice e1 r1 f1, .slice e2 r2 f2, .slice e3 r3 f3] 30 rfl rfl rfl rfl HZ5.out.1 infoEnA rfl (by simp [Value.oneCell']) ⟨_, by simp [Act.put]; rfl, hK _ _ ⟨HS5.out.setRowOther (by omega), ?_⟩⟩
    clear hK
    refine takeH (o := ?o14) 13 (.bool true) ?h14 ?r14
    case h14 => simp only [List.getElem?_toArray, List.getElem?_cons_succ, List.getElem?_cons_zero]; rfl
    refine ⟨_, by simp [Act.put]; rfl, by kernel_rfl, by kernel_rfl, by kernel_rfl, fun _ _ _ h => h, (.inl ⟨rfl, fun W _ => by go_simp⟩), (HS5.out.setRowOther (by omega)), ?_⟩
    refine wpAnyH_done (by kernel_rfl) ?_ _
    have nf : w.heap.size + 1 ∉ [gg] := by have := HG.out.2.2.2.2.2; simp; omega
    have nx : w.heap.size + 1 ∉ X := fun hx => by have := HG.out.2.1.ge _ hx; omega
    obtain ⟨E, hE⟩ : ∃ E : Array Value, E = #[.int .i64 x.key, .int .i64 x.window, .slice (some ⟨gg, 0, none⟩) 1 1, .int .i64 x.sk.count, .int .i64 x.sk.sum, .int .i64 x.sk.min, .int .i64 x.sk.max, .slice e1 r1 f1, .slice e2 r2 f2, .slice e3 r3 f3] := ⟨_, rfl⟩
    rw [← hE]
    obtain ⟨w9, hw9⟩ : ∃ W, W = w5.setRow (w.heap.size + 1) E := ⟨_, rfl⟩
    have HF : Hid (Blk w9 (w.heap.size + 1) E 30 ∧ RdP w9 (some ⟨gg, 0, none⟩) 1 [(id, id)] [gg] ∧ RdSk w9 (.agg #[.int .i64 x.sk.count, .int .i64 x.sk.sum, .int .i64 x.sk.min, .int .i64 x.sk.max, .slice e1 r1 f1, .slice e2 r2 f2, .slice e3 r3 f3]) x.sk X ∧ Own w.heap.size w9 [gg] ∧ Own w.heap.size w9 X ∧ (∀ b ∈ [gg], b ∉ X) ∧ Below w.heap.size w w9) := by
      rw [hw9]
      exact ⟨HZ5.out.1.setRow, HG.out.2.2.1.agree (Agree.row nf E), HG.out.1.agree (Agree.row nx E), (HG.out.2.2.2.1.agree (Agree.row nf E)).mono (by omega), (HG.out.2.1.agree (Agree.row nx E)).mono (by omega), HG.out.2.2.2.2.1, below_setRow HZ5.out.2 (by omega) _⟩
    have HE : Hid (E = #[.int .i64 x.key, .int .i64 x.window, .slice (some ⟨gg, 0, none⟩) 1 1, .int .i64 x.sk.count, .int .i64 x.sk.sum, .int .i64 x.sk.min, .int .i64 x.sk.max, .slice e1 r1 f1, .slice e2 r2 f2, .slice e3 r3 f3] ∧ E.size = 10) := ⟨hE, by rw [hE]; rfl⟩
    rw [← hw9]
    clear hE hw9 HG nf nx
    go_wp2
    refine bodyPost_ret (results_row_tmp Try.results15 _ _ (w.heap.size + 1) _ _ (0, 0) _ rfl HF.out.1 Try.underlying30 rfl (by rw [HE.out.2]; exact infoEnA)) rfl ?_
    rw [It.entry_yes HV.out, HV.out, ← HID.out]
    exact ⟨_, [gg], X, rfl, ⟨some ⟨gg, 0, none⟩, 1, 1, e1, r1, f1, e2, r2, f2, e3, r3, f3, by rw [HE.out.1], HF.out.2.1, HF.out.2.2.1, fun e => (by cases e), Nat.le_refl _⟩, HF.out.2.2.2.1, HF.out.2.2.2.2.1, HF.out.2.2.2.2.2.1, HF.out.2.2.2.2.2.2⟩
  case s10 =>
    intro K hK
    refine op_call1 40 _ _ Try.f40 (fun v w' => ∃ X, RdSk w' v x.sk X ∧ Own w2.drew.heap.size w' X ∧ Below w2.drew.heap.size w2.drew w') rfl rfl Try.func40 (by kernel_rfl) (by kernel_rfl) ((l3Copy_any _ x.sk F w2.drew (HR.out.below HZ3.out.2) (ok_full (It.ok_sk HD.out.symm))).mono (by rintro e w' ⟨v, X, rfl, h1, h2, h3⟩; exact ⟨_, rfl, X, h1, h2, h3⟩)) ?_
    rintro vm w4 ⟨X, rm, om, bz⟩
    obtain ⟨e1, r1, f1, e2, r2, f2, e3, r3, f3, rfl⟩ := rm.cells7
    refine ⟨_, by simp [Act.put]; rfl, hK _ _ ⟨HS.out.below bz, ?_⟩⟩
    have HS4 : Hid (Blk w4 w.heap.size #[.int .i64 x.seq, .int .i64 x.cls, .int .i64 x.key, .int .i64 x.window, .int .i64 x.sk.count, .int .i64 x.sk.sum, .int .i64 x.sk.min, .int .i64 x.sk.max, .slice a1 n1 c1, .slice a2 n2 c2, .slice a3 n3 c3] 40) := HS.out.below bz
    have HZ4 : Hid (Blk w4 (w.heap.size + 1) #[.int .i64 0, .int .i64 0, .slice none 0 0, .int .i64 0, .int .i64 0, .int .i64 0, .int .i64 0, .slice none 0 0, .slice none 0 0, .slice none 0 0] 30 ∧ Below w.heap.size w w4) := ⟨HZ3.out.1.below bz, Below.next HZ3.out.2 bz⟩
    have HM : Hid (RdSk w4 (.agg #[.int .i64 x.sk.count, .int .i64 x.sk.sum, .int .i64 x.sk.min, .int .i64 x.sk.max, .slice e1 r1 f1, .slice e2 r2 f2, .slice e3 r3 f3]) x.sk X ∧ Own (w.heap.size + 2) w4 X) := ⟨rm, om.mono (by have := HZ3.out.1.lt; omega)⟩
    clear hK bz rm om HS HZ3
    refine onlyH (o := ?o15) 7 (by kernel_rfl) ?h15 ?r15
    case h15 => simp only [List.getElem?_toArray, List.getElem?_cons_succ, List.getElem?_cons_zero]; rfl
    intro K hK
    refine op_turn (.slice (some ⟨w4.heap.size, 0, none⟩) 1 1) (w4.alloc (.cells #[.int .i64 id, .int .i64 id] 68)) rfl (by go_simp) ⟨_, by simp [Act.put]; rfl, hK _ _ ⟨HS4.out.alloc _, ?_⟩⟩
    have HS5 : Hid (Blk (w4.alloc (.cells #[.int .i64 id, .int .i64 id] 68)) w.heap.size #[.int .i64 x.seq, .int .i64 x.cls, .int .i64 x.key, .int .i64 x.window, .int .i64 x.sk.count, .int .i64 x.sk.sum, .int .i64 x.sk.min, .int .i64 x.sk.max, .slice a1 n1 c1, .slice a2 n2 c2, .slice a3 n3 c3] 40) := HS4.out.alloc _
    have HZ5 : Hid (Blk (w4.alloc (.cells #[.int .i64 id, .int .i64 id] 68)) (w.heap.size + 1) #[.int .i64 0, .int .i64 0, .slice none 0 0, .int .i64 0, .int .i64 0, .int .i64 0, .int .i64 0, .slice none 0 0, .slice none 0 0, .slice none 0 0] 30 ∧ Below w.heap.size w (w4.alloc (.cells #[.int .i64 id, .int .i64 id] 68))) := ⟨HZ4.out.1.alloc _, Below.allocW _ HZ4.out.2 (Nat.le_refl _)⟩
    have bal : Below w4.heap.size w4 (w4.alloc (.cells #[.int .i64 id, .int .i64 id] 68)) := Below.allocW _ (Below.refl _ _) (Nat.le_refl _)
    have hl : Blk (w4.alloc (.cells #[.int .i64 id, .int .i64 id] 68)) w4.heap.size #[.int .i64 id, .int .i64 id] 68 := Blk.made _ _ _
    have hz4 := HZ4.out.1.lt
    have HG : Hid (RdSk (w4.alloc (.cells #[.int .i64 id, .int .i64 id] 68)) (.agg #[.int .i64 x.sk.count, .int .i64 x.sk.sum, .int .i64 x.sk.min, .int .i64 x.sk.max, .slice e1 r1 f1, .slice e2 r2 f2, .slice e3 r3 f3]) x.sk X ∧ Own (w.heap.size + 2) (w4.alloc (.cells #[.int .i64 id, .int .i64 id] 68)) X ∧ RdP (w4.alloc (.cells #[.int .i64 id, .int .i64 id] 68)) (some ⟨w4.heap.size, 0, none⟩) 1 [(id, id)] [w4.heap.size] ∧ Own (w.heap.size + 2) (w4.alloc (.cells #[.int .i64 id, .int .i64 id] 68)) [w4.heap.size] ∧ (∀ b ∈ [w4.heap.size], b ∉ X) ∧ w.heap.size + 1 < w4.heap.size) := ⟨HM.out.1.below bal, HM.out.2.below HM.out.1.lt bal, rdP_single hl, ⟨by simp, fun b hb o => by (obtain rfl : b = w4.heap.size := by simpa using hb); exact hl.frozen o, fun b hb => by (obtain rfl : b = w4.heap.size := by simpa using hb); omega⟩, fun b hb hx => by (obtain rfl : b = w4.heap.size := by simpa using hb); have := HM.out.1.lt _ hx; omega, hz4⟩
    obtain ⟨gg, hgg⟩ : ∃ n, n = w4.heap.size := ⟨_, rfl⟩
    obtain ⟨w5, hw5⟩ : ∃ W, W = w4.alloc (.cells #[.int .i64 id, .int .i64 id] 68) := ⟨_, rfl⟩
    rw [← hw5] at HS5 HZ5 HG ⊢
    rw [← hgg] at HG ⊢
    clear hK hw5 hgg HS4 HZ4 HM bal hl hz4
    refine takeH (o := ?o16) 11 (.agg #[.int .i64 x.key, .int .i64 x.window, .slice (some ⟨gg, 0, none⟩) 1 1, .int .i64 x.sk.count, .int .i64 x.sk.sum, .int .i64 x.sk.min, .int .i64 x.sk.max, .slice e1 r1 f1, .slice e2 r2 f2, .slice e3 r3 f3]) ?h16 ?r16
    case h16 => simp only [List.getElem?_toArray, List.getElem?_cons_succ, List.getElem?_cons_zero]; rfl
    refine ⟨_, by simp [Act.put]; rfl, by kernel_rfl, by kernel_rfl, by kernel_rfl, fun _ _ _ h => h, (.inl ⟨rfl, fun W _ => by go_simp⟩), HS5.out, ?_⟩
    refine onlyH (o := ?o17) 12 (by kernel_rfl) ?h17 ?r17
    case h17 => simp only [List.getElem?_toArray, List.getElem?_cons_succ, List.getElem?_cons_zero]; rfl
    intro K hK
    refine op_store 30 (w.heap.size + 1) #[.int .i64 0, .int .i64 0, .slice none 0 0, .int .i64 0, .int .i64 0, .int .i64 0, .int .i64 0, .slice none 0 0, .slice none 0 0, .slice none 0 0] #[.int .i64 x.key, .int .i64 x.window, .slice (some ⟨gg, 0, none⟩) 1 1, .int .i64 x.sk.count, .int .i64 x.sk.sum, .int .i64 x.sk.min, .int .i64 x.sk.max, .slice e1 r1 f1, .slice e2 r2 f2, .slice e3 r3 f3] 30 rfl rfl rfl rfl HZ5.out.1 infoEnA rfl (by simp [Value.oneCell']) ⟨_, by simp [Act.put]; rfl, hK _ _ ⟨HS5.out.setRowOther (by omega), ?_⟩⟩
    clear hK
    refine takeH (o := ?o18) 13 (.bool true) ?h18 ?r18
    case h18 => simp only [List.getElem?_toArray, List.getElem?_cons_succ, List.getElem?_cons_zero]; rfl
    refine ⟨_, by simp [Act.put]; rfl, by kernel_rfl, by kernel_rfl, by kernel_rfl, fun _ _ _ h => h, (.inl ⟨rfl, fun W _ => by go_simp⟩), (HS5.out.setRowOther (by omega)), ?_⟩
    refine wpAnyH_done (by kernel_rfl) ?_ _
    have nf : w.heap.size + 1 ∉ [gg] := by have := HG.out.2.2.2.2.2; simp; omega
    have nx : w.heap.size + 1 ∉ X := fun hx => by have := HG.out.2.1.ge _ hx; omega
    obtain ⟨E, hE⟩ : ∃ E : Array Value, E = #[.int .i64 x.key, .int .i64 x.window, .slice (some ⟨gg, 0, none⟩) 1 1, .int .i64 x.sk.count, .int .i64 x.sk.sum, .int .i64 x.sk.min, .int .i64 x.sk.max, .slice e1 r1 f1, .slice e2 r2 f2, .slice e3 r3 f3] := ⟨_, rfl⟩
    rw [← hE]
    obtain ⟨w9, hw9⟩ : ∃ W, W = w5.setRow (w.heap.size + 1) E := ⟨_, rfl⟩
    have HF : Hid (Blk w9 (w.heap.size + 1) E 30 ∧ RdP w9 (some ⟨gg, 0, none⟩) 1 [(id, id)] [gg] ∧ RdSk w9 (.agg #[.int .i64 x.sk.count, .int .i64 x.sk.sum, .int .i64 x.sk.min, .int .i64 x.sk.max, .slice e1 r1 f1, .slice e2 r2 f2, .slice e3 r3 f3]) x.sk X ∧ Own w.heap.size w9 [gg] ∧ Own w.heap.size w9 X ∧ (∀ b ∈ [gg], b ∉ X) ∧ Below w.heap.size w w9) := by
      rw [hw9]
      exact ⟨HZ5.out.1.setRow, HG.out.2.2.1.agree (Agree.row nf E), HG.out.1.agree (Agree.row nx E), (HG.out.2.2.2.1.agree (Agree.row nf E)).mono (by omega), (HG.out.2.1.agree (Agree.row nx E)).mono (by omega), HG.out.2.2.2.2.1, below_setRow HZ5.out.2 (by omega) _⟩
    have HE : Hid (E = #[.int .i64 x.key, .int .i64 x.window, .slice (some ⟨gg, 0, none⟩) 1 1, .int .i64 x.sk.count, .int .i64 x.sk.sum, .int .i64 x.sk.min, .int .i64 x.sk.max, .slice e1 r1 f1, .slice e2 r2 f2, .slice e3 r3 f3] ∧ E.size = 10) := ⟨hE, by rw [hE]; rfl⟩
    rw [← hw9]
    clear hE hw9 HG nf nx
    go_wp2
    refine bodyPost_ret (results_row_tmp Try.results15 _ _ (w.heap.size + 1) _ _ (0, 0) _ rfl HF.out.1 Try.underlying30 rfl (by rw [HE.out.2]; exact infoEnA)) rfl ?_
    rw [It.entry_yes HV.out, HV.out, ← HID.out]
    exact ⟨_, [gg], X, rfl, ⟨some ⟨gg, 0, none⟩, 1, 1, e1, r1, f1, e2, r2, f2, e3, r3, f3, by rw [HE.out.1], HF.out.2.1, HF.out.2.2.1, fun e => (by cases e), Nat.le_refl _⟩, HF.out.2.2.2.1, HF.out.2.2.2.2.1, HF.out.2.2.2.2.2.1, HF.out.2.2.2.2.2.2⟩
end Go.Proofs.Ytbmbmnhamogghab
/- A summary that is right, by the program. No statement of the seat is proved here. -/
namespace Go.Proofs.Ytbmbmnhamogghab
open Go.RowKit
/-- Whether a summary's numbers, in one row, are right. -/
def okT (s : Sk) (xs : List Int) : Bool := s.shaped && inB xs && (if xs.getD 0 0 = 0 then decide (xs = List.replicate 28 0) else decide (xs.getD 2 0 ≤ xs.getD 3 0))
set_option maxRecDepth 200000 in
set_option maxHeartbeats 2000000 in
theorem okTally_any (v : Value) (s : Sk) (F : List Nat) (w : World) (h : RdSk w v s F) (hw : s.wide) :
    Calls Try.prog 55 #[v] w fun e w' => ∃ xs ys : List Int, e = .returned (.tuple #[.agg (tc ys), .bool (okT s xs)]) ∧ xs.length = 28 ∧ ys.length = 28 ∧ (s.shaped = true → xs = s.tl) ∧ (okT s xs = true → ys = xs) ∧ Below w.heap.size w w' := by
  have HH : Hid (RdSk w v s F ∧ s.wide) := ⟨h, hw⟩
  obtain ⟨a1, n1, c1, a2, n2, c2, a3, n3, c3, F1, F2, F3, rfl, h1, h2, h3, _⟩ := h
  clear h1 h2 h3 hw
  have Z28 := two_made w #[.int .i64 s.count, .int .i64 s.sum, .int .i64 s.min, .int .i64 s.max, .slice a1 n1 c1, .slice a2 n2 c2, .slice a3 n3 c3] (tc (List.replicate 28 0)) 28 56
  have HZ : Hid (_ ∧ _ ∧ _) := Z28
  clear Z28
  go_enter Try.func55, Try.ntmps55
  go_wp2_with fail
  refine (tallyOf_any _ s F _ (HH.out.1.below HZ.out.2.2) HH.out.2).mono ?_
  rintro e w1 ⟨xs, rfl, hxl, hxe, hb1⟩
  have HX : Hid (xs.length = 28 ∧ (s.shaped = true → xs = s.tl)) := ⟨hxl, hxe⟩
  have HB : Hid (Blk w1 (w.heap.size + 1) (tc (List.replicate 28 0)) 56 ∧ Below w.heap.size w w1) := ⟨HZ.out.2.1.below hb1, Below.next HZ.out.2.2 hb1⟩
  clear hb1 HZ hxl hxe
  go_wp2_with (with_reducible refine stopStore 56 rfl ?_)
  refine store_fresh 56 w1.heap.size rfl (tc (List.replicate 28 0)) (tc xs) 56 rfl rfl rfl rfl (tallySize HX.out.1) (by rw [tc_size, tc_size, HX.out.1]; rfl) (tc_one _) ?_
  intro W2 hg2 hb2
  have HG2 : Hid (Blk W2 w1.heap.size (tc xs) 56 ∧ Blk W2 (w.heap.size + 1) (tc (List.replicate 28 0)) 56 ∧ Below w.heap.size w W2) := ⟨hg2, HB.out.1.below hb2, Below.next HB.out.2 hb2⟩
  have hlt : w.heap.size + 1 < w1.heap.size := HB.out.1.lt
  clear hg2 hb2
  obtain ⟨d, hd⟩ : ∃ d, d = okT s xs := ⟨_, rfl⟩
  have HD : Hid (d = okT s xs) := hd
  clear hd
  cases es : s.shaped
  · have HN : Hid (okT s xs = false) := by show _ = false; unfold okT; rw [es]; rfl
    clear es
    go_wp2_with (first | go_skip | (with_reducible refine stopStore 56 rfl ?_))
    refine store_known 56 (w.heap.size + 1) _ (tc (List.replicate 28 0)) 56 HG2.out.2.1 rfl rfl rfl rfl infoTally rfl (tc_one _) ?_
    go_wp2
    refine bodyPost_ret (results_row_tmp Try.results55 _ _ (w.heap.size + 1) _ _ _ _ rfl HG2.out.2.1.setRow Try.underlying56 rfl infoTally) rfl ?_
    exact ⟨xs, List.replicate 28 0, by rw [HN.out]; rfl, HX.out.1, rfl, HX.out.2, fun e => by (rw [HN.out] at e; cases e), below_setRow HG2.out.2.2 (by omega) _⟩
  have ES : Hid (s.shaped = true) := es
  clear es
  go_wp2_with (first | go_skip | (with_reducible refine stopLoad 56 rfl ?_))
  refine load_part 56 w1.heap.size 0 28 xs 56 _ HG2.out.1 rfl rfl rfl Try.underlying56 rfl infoTally (by rw [HX.out.1]; omega) ?_
  rw [List.drop_zero, List.take_of_length_le (Nat.le_of_eq HX.out.1)]
  go_wp2_with fail
  refine (inBounds_any xs _ HX.out.1).mono ?_
  rintro e W3 ⟨rfl, hb3⟩
  have HG3 : Hid (Blk W3 w1.heap.size (tc xs) 56 ∧ Blk W3 (w.heap.size + 1) (tc (List.replicate 28 0)) 56 ∧ Below w.heap.size w W3) := ⟨HG2.out.1.below hb3, HG2.out.2.1.below hb3, Below.next HG2.out.2.2 hb3⟩
  clear hb3
  cases ei : inB xs
  · have HN : Hid (okT s xs = false) := by show _ = false; unfold okT; rw [ES.out, ei]; rfl
    clear ei
    go_wp2_with (first | go_skip | (with_reducible refine stopStore 56 rfl ?_))
    refine store_known 56 (w.heap.size + 1) _ (tc (List.replicate 28 0)) 56 HG3.out.2.1 rfl rfl rfl rfl infoTally rfl (tc_one _) ?_
    go_wp2
    refine bodyPost_ret (results_row_tmp Try.results55 _ _ (w.heap.size + 1) _ _ _ _ rfl HG3.out.2.1.setRow Try.underlying56 rfl infoTally) rfl ?_
    exact ⟨xs, List.replicate 28 0, by rw [HN.out]; rfl, HX.out.1, rfl, HX.out.2, fun e => by (rw [HN.out] at e; cases e), below_setRow HG3.out.2.2 (by omega) _⟩
  have EI : Hid (inB xs = true) := ei
  clear ei
  obtain ⟨x0, hx0⟩ : ∃ x, x = xs.getD 0 0 := ⟨_, rfl⟩
  obtain ⟨x2, hx2⟩ : ∃ x, x = xs.getD 2 0 := ⟨_, rfl⟩
  obtain ⟨x3, hx3⟩ : ∃ x, x = xs.getD 3 0 := ⟨_, rfl⟩
  have c0 : W3.cell? ⟨w1.heap.size, 0, none⟩ = some (.int .i64 x0) := by rw [HG3.out.1.cell, hx0]; exact tc_get (by rw [HX.out.1]; omega)
  have HC : Hid (∀ W, Blk W w1.heap.size (tc xs) 56 → W.cell? ⟨w1.heap.size, 2, none⟩ = some (.int .i64 x2) ∧ W.cell? ⟨w1.heap.size, 3, none⟩ = some (.int .i64 x3)) := fun W b => ⟨by rw [b.cell, hx2]; exact tc_get (by rw [HX.out.1]; omega), by rw [b.cell, hx3]; exact tc_get (by rw [HX.out.1]; omega)⟩
  have HXE : Hid (x0 = xs.getD 0 0 ∧ x2 = xs.getD 2 0 ∧ x3 = xs.getD 3 0) := ⟨hx0, hx2, hx3⟩
  clear hx0 hx2 hx3
  by_cases q0 : x0 = 0
  rotate_left
  · have q0' : (x0 == 0) = false := by simpa using q0
    have HV : Hid (okT s xs = decide (x2 ≤ x3)) := by
      show _ = _
      unfold okT
      rw [ES.out, EI.out, if_neg (by rw [← HXE.out.1]; exact q0), ← HXE.out.2.1, ← HXE.out.2.2]; rfl
    clear q0
    go_wp2
    refine wp_region_held (S := fun W => Blk W w1.heap.size (tc xs) 56) (by kernel_rfl) ?_
    change wpAnyH _ _ _ _ _ _ _ _ (World.drew _)
    have HS : Hid (Blk W3.drew w1.heap.size (tc xs) 56) := HG3.out.1.drew
    refine takeH (o := ?o1) 0 (.agg (tc xs)) ?h1 ?r1
    case h1 => simp only [List.getElem?_toArray, List.getElem?_cons_zero]; rfl
    refine ⟨_, by simp [Act.put]; rfl, by kernel_rfl, by kernel_rfl, by kernel_rfl, fun _ _ _ h => h, (yields_whole 56 w1.heap.size (tc xs) 56 _ rfl rfl rfl Try.underlying56 rfl (tallySize HX.out.1) (fun W hW => hW)), HS.out, ?_⟩
    refine takeH (o := ?o2) 1 (.pointer (some ⟨w1.heap.size, 2, none⟩)) ?h2 ?r2
    case h2 => simp only [List.getElem?_toArray, List.getElem?_cons_succ, List.getElem?_cons_zero]; rfl
    refine ⟨_, by simp [Act.put]; rfl, by kernel_rfl, by kernel_rfl, by kernel_rfl, fun _ _ _ h => h, (.inl ⟨rfl, fun W _ => by go_simp⟩), HS.out, ?_⟩
    refine takeH (o := ?o3) 2 (.int .i64 x2) ?h3 ?r3
    case h3 => simp only [List.getElem?_toArray, List.getElem?_cons_succ, List.getElem?_cons_zero]; rfl
    refine ⟨_, by simp [Act.put]; rfl, by kernel_rfl, by kernel_rfl, by kernel_rfl, fun _ _ _ h => h, (.inl ⟨rfl, fun W hW => by have c := (HC.out W hW).1; go_simp⟩), HS.out, ?_⟩
    refine takeH (o := ?o4) 3 (.pointer (some ⟨w1.heap.size, 3, none⟩)) ?h4 ?r4
    case h4 => simp only [List.getElem?_toArray, List.getElem?_cons_succ, List.getElem?_cons_zero]; rfl
    refine ⟨_, by simp [Act.put]; rfl, by kernel_rfl, by kernel_rfl, by kernel_rfl, fun _ _ _ h => h, (.inl ⟨rfl, fun W _ => by go_simp⟩), HS.out, ?_⟩
    refine takeH (o := ?o5) 4 (.int .i64 x3) ?h5 ?r5
    case h5 => simp only [List.getElem?_toArray, List.getElem?_cons_succ, List.getElem?_cons_zero]; rfl
    refine ⟨_, by simp [Act.put]; rfl, by kernel_rfl, by kernel_rfl, by kernel_rfl, fun _ _ _ h => h, (.inl ⟨rfl, fun W hW => by have c := (HC.out W hW).2; go_simp⟩), HS.out, ?_⟩
    refine takeH (o := ?o6) 5 (.bool (decide (x2 ≤ x3))) ?h6 ?r6
    case h6 => simp only [List.getElem?_toArray, List.getElem?_cons_succ, List.getElem?_cons_zero]; rfl
    refine ⟨_, by simp [Act.put]; rfl, by kernel_rfl, by kernel_rfl, by kernel_rfl, fun _ _ _ h => h, (.inl ⟨rfl, fun W _ => by go_simp⟩), HS.out, ?_⟩
    refine onlyH (o := ?o7) 6 (by kernel_rfl) ?h7 ?r7
    case h7 => simp only [List.getElem?_toArray, List.getElem?_cons_succ, List.getElem?_cons_zero]; rfl
    intro K hK
    refine op_store 56 (w.heap.size + 1) (tc (List.replicate 28 0)) (tc xs) 56 rfl rfl rfl rfl HG3.out.2.1.drew (tallySize HX.out.1) (by rw [tc_size, tc_size, HX.out.1]; rfl) (tc_one _) ⟨_, by simp [Act.put]; rfl, hK _ _ ⟨HS.out.setRowOther (by omega), ?_⟩⟩
    clear hK
    refine onlyH (o := ?o8) 7 (by kernel_rfl) ?h8 ?r8
    case h8 => simp only [List.getElem?_toArray, List.getElem?_cons_succ, List.getElem?_cons_zero]; rfl
    intro K hK
    refine op_value (.bool (decide (x2 ≤ x3))) rfl (by go_simp) ⟨_, by simp [Act.put]; rfl, hK _ _ ⟨HS.out.setRowOther (by omega), ?_⟩⟩
    clear hK
    refine wpAnyH_done (by kernel_rfl) ?_ _
    go_wp2
    refine bodyPost_ret (results_row_tmp Try.results55 _ _ (w.heap.size + 1) _ _ _ _ rfl HG3.out.2.1.drew.setRow Try.underlying56 rfl (tallySize HX.out.1)) rfl ?_
    exact ⟨xs, xs, by rw [HV.out]; rfl, HX.out.1, HX.out.1, HX.out.2, fun _ => rfl, below_setRow HG3.out.2.2.drew (by omega) _⟩
  subst q0
  have q0' : ((0 : Int) == 0) = true := by simp
  have HV : Hid (okT s xs = decide (xs = List.replicate 28 0)) := by
    show _ = _
    unfold okT
    rw [ES.out, EI.out, if_pos (HXE.out.1.symm)]; rfl
  go_wp2
  refine wp_region_held (S := fun W => Blk W w1.heap.size (tc xs) 56) (by kernel_rfl) ?_
  change wpAnyH _ _ _ _ _ _ _ _ (World.drew _)
  have HS : Hid (Blk W3.drew w1.heap.size (tc xs) 56) := HG3.out.1.drew
  refine takeH (o := ?o9) 0 (.agg (tc xs)) ?h9 ?r9
  case h9 => simp only [List.getElem?_toArray, List.getElem?_cons_zero]; rfl
  refine ⟨_, by simp [Act.put]; rfl, by kernel_rfl, by kernel_rfl, by kernel_rfl, fun _ _ _ h => h, (yields_whole 56 w1.heap.size (tc xs) 56 _ rfl rfl rfl Try.underlying56 rfl (tallySize HX.out.1) (fun W hW => hW)), HS.out, ?_⟩
  refine takeH (o := ?o10) 1 (.agg (tc xs)) ?h10 ?r10
  case h10 => simp only [List.getElem?_toArray, List.getElem?_cons_succ, List.getElem?_cons_zero]; rfl
  refine ⟨_, by simp [Act.put]; rfl, by kernel_rfl, by kernel_rfl, by kernel_rfl, fun _ _ _ h => h, (yields_whole 56 w1.heap.size (tc xs) 56 _ rfl rfl rfl Try.underlying56 rfl (tallySize HX.out.1) (fun W hW => hW)), HS.out, ?_⟩
  refine takeH (o := ?o11) 2 (.agg (tc (List.replicate 28 0))) ?h11 ?r11
  case h11 => simp only [List.getElem?_toArray, List.getElem?_cons_succ, List.getElem?_cons_zero]; rfl
  refine ⟨_, by simp [Act.put]; rfl, by kernel_rfl, by kernel_rfl, by kernel_rfl, fun _ _ _ h => h, (.inl ⟨rfl, fun W _ => by go_simp; rfl⟩), HS.out, ?_⟩
  refine onlyH (o := ?o12) 3 (by kernel_rfl) ?h12 ?r12
  case h12 => simp only [List.getElem?_toArray, List.getElem?_cons_succ, List.getElem?_cons_zero]; rfl
  intro K hK
  refine op_call2 49 _ _ _ Try.f49 (fun w' => Below W3.drew.heap.size W3.drew w') (.bool (decide (xs = List.replicate 28 0))) rfl rfl Try.func49 (by kernel_rfl) (by kernel_rfl) (same_any xs (List.replicate 28 0) _ HX.out.1 rfl) ⟨_, by simp [Act.put]; rfl, fun W4 hb4 => hK _ _ ⟨HS.out.below hb4, ?_⟩⟩
  have HG4 : Hid (Blk W4 w1.heap.size (tc xs) 56 ∧ Blk W4 (w.heap.size + 1) (tc (List.replicate 28 0)) 56 ∧ Below w.heap.size w W4) := ⟨HG3.out.1.drew.below hb4, HG3.out.2.1.drew.below hb4, Below.next HG3.out.2.2.drew hb4⟩
  clear hb4 hK
  refine onlyH (o := ?o13) 4 (by kernel_rfl) ?h13 ?r13
  case h13 => simp only [List.getElem?_toArray, List.getElem?_cons_succ, List.getElem?_cons_zero]; rfl
  intro K hK
  refine op_store 56 (w.heap.size + 1) (tc (List.replicate 28 0)) (tc xs) 56 rfl rfl rfl rfl HG4.out.2.1 (tallySize HX.out.1) (by rw [tc_size, tc_size, HX.out.1]; rfl) (tc_one _) ⟨_, by simp [Act.put]; rfl, hK _ _ ⟨HG4.out.1.setRowOther (by omega), ?_⟩⟩
  clear hK
  refine onlyH (o := ?o14) 5 (by kernel_rfl) ?h14 ?r14
  case h14 => simp only [List.getElem?_toArray, List.getElem?_cons_succ, List.getElem?_cons_zero]; rfl
  intro K hK
  refine op_value (.bool (decide (xs = List.replicate 28 0))) rfl (by go_simp) ⟨_, by simp [Act.put]; rfl, hK _ _ ⟨HG4.out.1.setRowOther (by omega), ?_⟩⟩
  clear hK
  refine wpAnyH_done (by kernel_rfl) ?_ _
  go_wp2
  refine bodyPost_ret (results_row_tmp Try.results55 _ _ (w.heap.size + 1) _ _ _ _ rfl HG4.out.2.1.setRow Try.underlying56 rfl (tallySize HX.out.1)) rfl ?_
  exact ⟨xs, xs, by rw [HV.out]; rfl, HX.out.1, HX.out.1, HX.out.2, fun _ => rfl, below_setRow HG4.out.2.2 (by omega) _⟩
end Go.Proofs.Ytbmbmnhamogghab
/- What the program's row of numbers comes to: right just where the summary is; the sum is the merged summary. No statement of the seat is proved here. -/
namespace Go.Proofs.Ytbmbmnhamogghab
open Go.RowKit
/-- A summary whose lists are as long as told, written out. -/
theorem Sk.written {s : Sk} (h : s.shaped = true) : ∃ h0 h1 h2 h3 h4 h5 h6 h7 r0 r1 r2 r3 r4 r5 r6 r7 p0 p1 p2 p3 q0 q1 q2 q3, s = ⟨s.count, s.sum, s.min, s.max, [h0, h1, h2, h3, h4, h5, h6, h7], [r0, r1, r2, r3, r4, r5, r6, r7], [[p0, p1, p2, p3], [q0, q1, q2, q3]]⟩ := by
  obtain ⟨e1, e2, x, y, e3, e4, e5⟩ := Sk.shaped_parts h
  obtain ⟨h0, h1, h2, h3, h4, h5, h6, h7, eh⟩ := len8 e1
  obtain ⟨r0, r1, r2, r3, r4, r5, r6, r7, er⟩ := len8 e2
  obtain ⟨p0, p1, p2, p3, rfl⟩ := len4 e4
  obtain ⟨q0, q1, q2, q3, rfl⟩ := len4 e5
  refine ⟨h0, h1, h2, h3, h4, h5, h6, h7, r0, r1, r2, r3, r4, r5, r6, r7, p0, p1, p2, p3, q0, q1, q2, q3, ?_⟩
  cases s
  simp_all
theorem okL_shape {l : List Int} {n : Nat} {m : Int} {z : Bool} (h : okL l n m z = true) : l.length = n := by
  unfold okL at h; simp at h; exact h.1
theorem Sk.ok_shaped {s : Sk} (h : s.ok = true) : s.shaped = true := by
  unfold Sk.ok okHead okLists at h
  simp only [Bool.and_eq_true, decide_eq_true_eq] at h
  obtain ⟨⟨⟨_, hr⟩, _⟩, ⟨⟨⟨l1, l2⟩, l3⟩, l4⟩⟩ := h
  have e1 := okL_shape l1; have e2 := okL_shape l2; have e3 := okL_shape l3; have e4 := okL_shape l4
  obtain ⟨x, y, e⟩ : ∃ x y, s.rows = [x, y] := by
    match s.rows, hr with
    | [x, y], _ => exact ⟨x, y, rfl⟩
  unfold Sk.shaped
  rw [e] at e3 e4 ⊢
  simp at e3 e4
  simp [e1, e2, e3, e4]
set_option maxHeartbeats 2000000 in
theorem okT_ok {s : Sk} {xs : List Int} (hx : s.shaped = true → xs = s.tl) : okT s xs = s.ok := by
  cases hs : s.shaped
  · have h1 : okT s xs = false := by unfold okT; rw [hs]; rfl
    rw [h1]
    cases ho : s.ok
    · rfl
    · rw [Sk.ok_shaped ho] at hs; cases hs
  · have hx := hx hs
    subst hx
    obtain ⟨h0, h1, h2, h3, h4, h5, h6, h7, r0, r1, r2, r3, r4, r5, r6, r7, p0, p1, p2, p3, q0, q1, q2, q3, e⟩ := Sk.written hs
    generalize s.count = c at e
    generalize s.sum = sm at e
    generalize s.min = mn at e
    generalize s.max = mx at e
    subst e
    rw [Bool.eq_iff_iff]
    unfold okT
    rw [hs]
    by_cases q : c = 0
    · subst q
      simp [inB, Sk.tl, Sk.ok, okHead, okZero, okLists, okL, okN, List.replicate]
      omega
    · simp [inB, Sk.tl, Sk.ok, okHead, okZero, okLists, okL, okN, q]
      omega
end Go.Proofs.Ytbmbmnhamogghab
/- The walk through the model's Insert, of a summary whose lists are as long as told: what comes of it is such a one again. No statement of the seat is proved here. -/
namespace Go.Proofs.Ytbmbmnhamogghab
open Go.RowKit
/-- A summary that is being worked on: where its parts lie. -/
structure Out (w : World) (lo g : Nat) (c sm mn mx : Int) (b1 o1 k1 b2 o2 k2 p po k3 b3 o3 j0 b4 o4 j1 : Nat) (l1 l2 x y : List Int) (W : World) : Prop where
  blk : Blk W g #[.int .i64 c, .int .i64 sm, .int .i64 mn, .int .i64 mx, .slice (some ⟨b1, o1, none⟩) 8 k1, .slice (some ⟨b2, o2, none⟩) 8 k2, .slice (some ⟨p, po, none⟩) 2 k3] 28
  hist : RdI W (some ⟨b1, o1, none⟩) 8 l1 [b1]
  regs : RdI W (some ⟨b2, o2, none⟩) 8 l2 [b2]
  c0 : W.cell? ⟨p, po, none⟩ = some (.slice (some ⟨b3, o3, none⟩) 4 j0)
  c1 : W.cell? ⟨p, po + 1, none⟩ = some (.slice (some ⟨b4, o4, none⟩) 4 j1)
  row0 : RdI W (some ⟨b3, o3, none⟩) 4 x [b3]
  row1 : RdI W (some ⟨b4, o4, none⟩) 4 y [b4]
  own : Own lo W [g, b1, b2, p, b3, b4]
  bel : Below w.heap.size w W
  lw : w.heap.size + 1 < lo
  room : Room W b1 o1 8 k1
  wide : 2 ≤ k3
section
variable {w : World} {lo g : Nat} {c sm mn mx : Int} {b1 o1 k1 b2 o2 k2 p po k3 b3 o3 j0 b4 o4 j1 : Nat} {l1 l2 x y : List Int} {W : World}
theorem Out.nd (h : Out w lo g c sm mn mx b1 o1 k1 b2 o2 k2 p po k3 b3 o3 j0 b4 o4 j1 l1 l2 x y W) : (g ≠ b1 ∧ g ≠ b2 ∧ g ≠ p ∧ g ≠ b3 ∧ g ≠ b4) ∧ (b1 ≠ b2 ∧ b1 ≠ p ∧ b1 ≠ b3 ∧ b1 ≠ b4) ∧ (b2 ≠ p ∧ b2 ≠ b3 ∧ b2 ≠ b4) ∧ (p ≠ b3 ∧ p ≠ b4) ∧ b3 ≠ b4 := by
  have := h.own.nodup
  simp at this
  omega
theorem Out.ges (h : Out w lo g c sm mn mx b1 o1 k1 b2 o2 k2 p po k3 b3 o3 j0 b4 o4 j1 l1 l2 x y W) : lo ≤ g ∧ lo ≤ b1 ∧ lo ≤ b2 ∧ lo ≤ p ∧ lo ≤ b3 ∧ lo ≤ b4 :=
  ⟨h.own.ge g (by simp), h.own.ge b1 (by simp), h.own.ge b2 (by simp), h.own.ge p (by simp), h.own.ge b3 (by simp), h.own.ge b4 (by simp)⟩
theorem cell_keep {u : Value} (h : W.cell? ⟨p, po, none⟩ = some u) {q j : Nat} {n : Value} (hq : p ≠ q) : (W.setCell ⟨q, j, none⟩ n).cell? ⟨p, po, none⟩ = some u :=
  (World.cell?_of_block (w := W) (a := ⟨p, po, none⟩) (Below.heap_setCell W ⟨q, j, none⟩ n p hq)).trans h
theorem Out.setC (h : Out w lo g c sm mn mx b1 o1 k1 b2 o2 k2 p po k3 b3 o3 j0 b4 o4 j1 l1 l2 x y W) (n : Int) : Out w lo g n sm mn mx b1 o1 k1 b2 o2 k2 p po k3 b3 o3 j0 b4 o4 j1 l1 l2 x y (W.setCell ⟨g, 0, none⟩ (.int .i64 n)) := by
  have nd := h.nd
  have ge := h.ges
  have lw := h.lw
  exact ⟨h.blk.set 0 (.int .i64 n), h.hist.agree (.set (by simp; omega) _ _), h.regs.agree (.set (by simp; omega) _ _), cell_keep h.c0 (by omega), cell_keep h.c1 (by omega), h.row0.agree (.set (by simp; omega) _ _), h.row1.agree (.set (by simp; omega) _ _), h.own.set _ _ _, h.bel.setCell (by show w.heap.size ≤ g; omega) _, h.lw, h.room.set _ _ _, h.wide⟩
theorem Out.setS (h : Out w lo g c sm mn mx b1 o1 k1 b2 o2 k2 p po k3 b3 o3 j0 b4 o4 j1 l1 l2 x y W) (n : Int) : Out w lo g c n mn mx b1 o1 k1 b2 o2 k2 p po k3 b3 o3 j0 b4 o4 j1 l1 l2 x y (W.setCell ⟨g, 1, none⟩ (.int .i64 n)) := by
  have nd := h.nd
  have ge := h.ges
  have lw := h.lw
  exact ⟨h.blk.set 1 (.int .i64 n), h.hist.agree (.set (by simp; omega) _ _), h.regs.agree (.set (by simp; omega) _ _), cell_keep h.c0 (by omega), cell_keep h.c1 (by omega), h.row0.agree (.set (by simp; omega) _ _), h.row1.agree (.set (by simp; omega) _ _), h.own.set _ _ _, h.bel.setCell (by show w.heap.size ≤ g; omega) _, h.lw, h.room.set _ _ _, h.wide⟩
theorem Out.setMn (h : Out w lo g c sm mn mx b1 o1 k1 b2 o2 k2 p po k3 b3 o3 j0 b4 o4 j1 l1 l2 x y W) (n : Int) : Out w lo g c sm n mx b1 o1 k1 b2 o2 k2 p po k3 b3 o3 j0 b4 o4 j1 l1 l2 x y (W.setCell ⟨g, 2, none⟩ (.int .i64 n)) := by
  have nd := h.nd
  have ge := h.ges
  have lw := h.lw
  exact ⟨h.blk.set 2 (.int .i64 n), h.hist.agree (.set (by simp; omega) _ _), h.regs.agree (.set (by simp; omega) _ _), cell_keep h.c0 (by omega), cell_keep h.c1 (by omega), h.row0.agree (.set (by simp; omega) _ _), h.row1.agree (.set (by simp; omega) _ _), h.own.set _ _ _, h.bel.setCell (by show w.heap.size ≤ g; omega) _, h.lw, h.room.set _ _ _, h.wide⟩
theorem Out.setMx (h : Out w lo g c sm mn mx b1 o1 k1 b2 o2 k2 p po k3 b3 o3 j0 b4 o4 j1 l1 l2 x y W) (n : Int) : Out w lo g c sm mn n b1 o1 k1 b2 o2 k2 p po k3 b3 o3 j0 b4 o4 j1 l1 l2 x y (W.setCell ⟨g, 3, none⟩ (.int .i64 n)) := by
  have nd := h.nd
  have ge := h.ges
  have lw := h.lw
  exact ⟨h.blk.set 3 (.int .i64 n), h.hist.agree (.set (by simp; omega) _ _), h.regs.agree (.set (by simp; omega) _ _), cell_keep h.c0 (by omega), cell_keep h.c1 (by omega), h.row0.agree (.set (by simp; omega) _ _), h.row1.agree (.set (by simp; omega) _ _), h.own.set _ _ _, h.bel.setCell (by show w.heap.size ≤ g; omega) _, h.lw, h.room.set _ _ _, h.wide⟩
theorem Out.setHist (h : Out w lo g c sm mn mx b1 o1 k1 b2 o2 k2 p po k3 b3 o3 j0 b4 o4 j1 l1 l2 x y W) (j : Nat) (hj : j < 8) (n : Int) : Out w lo g c sm mn mx b1 o1 k1 b2 o2 k2 p po k3 b3 o3 j0 b4 o4 j1 (l1.set j n) l2 x y (W.setCell ⟨b1, o1 + j, none⟩ (.int .i64 n)) := by
  have nd := h.nd
  have ge := h.ges
  have lw := h.lw
  exact ⟨h.blk.setOther (by omega) _ _, h.hist.set (by omega) j hj n, h.regs.agree (.set (by simp; omega) _ _), cell_keep h.c0 (by omega), cell_keep h.c1 (by omega), h.row0.agree (.set (by simp; omega) _ _), h.row1.agree (.set (by simp; omega) _ _), h.own.set _ _ _, h.bel.setCell (by show w.heap.size ≤ b1; omega) _, h.lw, h.room.set _ _ _, h.wide⟩
theorem Out.setRegs (h : Out w lo g c sm mn mx b1 o1 k1 b2 o2 k2 p po k3 b3 o3 j0 b4 o4 j1 l1 l2 x y W) (j : Nat) (hj : j < 8) (n : Int) : Out w lo g c sm mn mx b1 o1 k1 b2 o2 k2 p po k3 b3 o3 j0 b4 o4 j1 l1 (l2.set j n) x y (W.setCell ⟨b2, o2 + j, none⟩ (.int .i64 n)) := by
  have nd := h.nd
  have ge := h.ges
  have lw := h.lw
  exact ⟨h.blk.setOther (by omega) _ _, h.hist.agree (.set (by simp; omega) _ _), h.regs.set (by omega) j hj n, cell_keep h.c0 (by omega), cell_keep h.c1 (by omega), h.row0.agree (.set (by simp; omega) _ _), h.row1.agree (.set (by simp; omega) _ _), h.own.set _ _ _, h.bel.setCell (by show w.heap.size ≤ b2; omega) _, h.lw, h.room.set _ _ _, h.wide⟩
theorem Out.setRow0 (h : Out w lo g c sm mn mx b1 o1 k1 b2 o2 k2 p po k3 b3 o3 j0 b4 o4 j1 l1 l2 x y W) (j : Nat) (hj : j < 4) (n : Int) : Out w lo g c sm mn mx b1 o1 k1 b2 o2 k2 p po k3 b3 o3 j0 b4 o4 j1 l1 l2 (x.set j n) y (W.setCell ⟨b3, o3 + j, none⟩ (.int .i64 n)) := by
  have nd := h.nd
  have ge := h.ges
  have lw := h.lw
  exact ⟨h.blk.setOther (by omega) _ _, h.hist.agree (.set (by simp; omega) _ _), h.regs.agree (.set (by simp; omega) _ _), cell_keep h.c0 (by omega), cell_keep h.c1 (by omega), h.row0.set (by omega) j hj n, h.row1.agree (.set (by simp; omega) _ _), h.own.set _ _ _, h.bel.setCell (by show w.heap.size ≤ b3; omega) _, h.lw, h.room.set _ _ _, h.wide⟩
theorem Out.setRow1 (h : Out w lo g c sm mn mx b1 o1 k1 b2 o2 k2 p po k3 b3 o3 j0 b4 o4 j1 l1 l2 x y W) (j : Nat) (hj : j < 4) (n : Int) : Out w lo g c sm mn mx b1 o1 k1 b2 o2 k2 p po k3 b3 o3 j0 b4 o4 j1 l1 l2 x (y.set j n) (W.setCell ⟨b4, o4 + j, none⟩ (.int .i64 n)) := by
  have nd := h.nd
  have ge := h.ges
  have lw := h.lw
  exact ⟨h.blk.setOther (by omega) _ _, h.hist.agree (.set (by simp; omega) _ _), h.regs.agree (.set (by simp; omega) _ _), cell_keep h.c0 (by omega), cell_keep h.c1 (by omega), h.row0.agree (.set (by simp; omega) _ _), h.row1.set (by omega) j hj n, h.own.set _ _ _, h.bel.setCell (by show w.heap.size ≤ b4; omega) _, h.lw, h.room.set _ _ _, h.wide⟩
theorem Out.drew (h : Out w lo g c sm mn mx b1 o1 k1 b2 o2 k2 p po k3 b3 o3 j0 b4 o4 j1 l1 l2 x y W) : Out w lo g c sm mn mx b1 o1 k1 b2 o2 k2 p po k3 b3 o3 j0 b4 o4 j1 l1 l2 x y W.drew := ⟨h.blk, h.hist.below (Below.refl _ _).drew, h.regs.below (Below.refl _ _).drew, h.c0, h.c1, h.row0.below (Below.refl _ _).drew, h.row1.below (Below.refl _ _).drew, h.own.agree (fun _ _ => rfl), h.bel.drew, h.lw, h.room.agree rfl, h.wide⟩
end
theorem Out.below {w : World} {lo g : Nat} {c sm mn mx : Int} {b1 o1 k1 b2 o2 k2 p po k3 b3 o3 j0 b4 o4 j1 : Nat} {l1 l2 x y : List Int} {W W' : World} (h : Out w lo g c sm mn mx b1 o1 k1 b2 o2 k2 p po k3 b3 o3 j0 b4 o4 j1 l1 l2 x y W) (b : Below W.heap.size W W') : Out w lo g c sm mn mx b1 o1 k1 b2 o2 k2 p po k3 b3 o3 j0 b4 o4 j1 l1 l2 x y W' := by
  have e1 := h.hist.lt b1 (by simp)
  have e2 := h.regs.lt b2 (by simp)
  have e3 := h.row0.lt b3 (by simp)
  have e4 := h.row1.lt b4 (by simp)
  have e5 : p < W.heap.size := World.block_lt_of_cell? _ _ h.c0
  have e6 := h.blk.lt
  exact ⟨h.blk.below b, h.hist.below b, h.regs.below b, (b.cell (by exact e5)).trans h.c0, (b.cell (by exact e5)).trans h.c1, h.row0.below b, h.row1.below b, h.own.below (fun q hq => by simp at hq; omega) b, Below.next h.bel b, h.lw, h.room.below b, h.wide⟩
theorem RdI.single {w : World} {a : Option Addr} {n : Nat} {zs : List Int} {F : List Nat} (h : RdI w a n zs F) (hp : 0 < n) : ∃ b off, a = some ⟨b, off, none⟩ ∧ F = [b] := by
  rcases h.cells with ⟨h0, _⟩ | ⟨b, off, _, e, f, _⟩
  · omega
  · exact ⟨b, off, e, f⟩
theorem out_of {w W : World} {lo g : Nat} {cs : Array Value} {s : Sk} {F : List Nat} (r : RdSk W (.agg cs) s F) (k : Blk W g cs 28) (o : Own lo W F) (hg : lo ≤ g) (ap : g ∉ F) (hs : s.shaped = true) (bel : Below w.heap.size w W) (lw : w.heap.size + 1 < lo) (rm : Roomy W (.agg cs)) :
    ∃ b1 o1 k1 b2 o2 k2 p po k3 b3 o3 j0 b4 o4 j1 l1 l2 x y, Out w lo g s.count s.sum s.min s.max b1 o1 k1 b2 o2 k2 p po k3 b3 o3 j0 b4 o4 j1 l1 l2 x y W := by
  obtain ⟨a1, n1, c1, a2, n2, c2, a3, n3, c3, F1, F2, F3, e, h1, h2, h3, rfl⟩ := r
  obtain ⟨e1, e2, x, y, er, ex, ey⟩ := Sk.shaped_parts hs
  cases e
  obtain ⟨_, _, _, _, a1', n1', k1', F', _, a3', n3', k3', e', ⟨bb, oo, ea, _, rr⟩, kk⟩ := rm
  injection e' with e'
  have e' := congrArg Array.toList e'
  simp at e'
  obtain ⟨_, _, _, _, ⟨rfl, rfl, rfl⟩, _, ⟨rfl, rfl, rfl⟩⟩ := e'
  obtain rfl : n1 = 8 := by rw [← h1.length]; exact e1
  obtain rfl : n2 = 8 := by rw [← h2.length]; exact e2
  obtain rfl : n3 = 2 := by rw [← h3.length, er]; rfl
  obtain ⟨b1, o1, rfl, rfl⟩ := h1.single (by omega)
  obtain ⟨b2, o2, rfl, rfl⟩ := h2.single (by omega)
  rcases h3.cells with ⟨h0, _⟩ | ⟨p, po, F', _, rfl, rfl, hm⟩
  · omega
  rw [er] at hm
  simp only [List.map_cons, List.map_nil] at hm
  rw [RdM] at hm
  obtain ⟨v3, X, F2', hc0, hr0, hm, rfl⟩ := hm
  rw [RdM] at hm
  obtain ⟨v4, Y, F4', hc1, hr1, hm, rfl⟩ := hm
  rw [RdM] at hm
  subst hm
  obtain ⟨a3, n3, j0, rfl, r3⟩ := rd_ints.1 hr0
  obtain ⟨a4, n4, j1, rfl, r4⟩ := rd_ints.1 hr1
  obtain rfl : n3 = 4 := by rw [← r3.length]; exact ex
  obtain rfl : n4 = 4 := by rw [← r4.length]; exact ey
  obtain ⟨b3, o3, rfl, rfl⟩ := r3.single (by omega)
  obtain ⟨b4, o4, rfl, rfl⟩ := r4.single (by omega)
  refine ⟨b1, o1, c1, b2, o2, c2, p, po, c3, b3, o3, j0, b4, o4, j1, s.hist, s.regs, x, y, k, h1, h2, hc0, hc1, r3, r4, ?_, bel, lw, by cases ea; exact rr, kk⟩
  have o' : Own lo W [b1, b2, p, b3, b4] := by simpa using o
  have ap' : g ∉ [b1, b2, p, b3, b4] := by simpa using ap
  exact ⟨List.nodup_cons.2 ⟨ap', o'.nodup⟩, fun q hq i => (List.mem_cons.1 hq).elim (fun e => by subst e; exact k.frozen i) (fun hq => o'.free q hq i), fun q hq => (List.mem_cons.1 hq).elim (fun e => by omega) (o'.ge q)⟩
theorem out_to {w W : World} {lo g : Nat} {c sm mn mx : Int} {b1 o1 k1 b2 o2 k2 p po k3 b3 o3 j0 b4 o4 j1 : Nat} {l1 l2 x y : List Int} (h : Out w lo g c sm mn mx b1 o1 k1 b2 o2 k2 p po k3 b3 o3 j0 b4 o4 j1 l1 l2 x y W) :
    RdSk W (.agg #[.int .i64 c, .int .i64 sm, .int .i64 mn, .int .i64 mx, .slice (some ⟨b1, o1, none⟩) 8 k1, .slice (some ⟨b2, o2, none⟩) 8 k2, .slice (some ⟨p, po, none⟩) 2 k3]) ⟨c, sm, mn, mx, l1, l2, [x, y]⟩ [b1, b2, p, b3, b4] ∧ Own lo W [b1, b2, p, b3, b4] ∧ (⟨c, sm, mn, mx, l1, l2, [x, y]⟩ : Sk).shaped = true := by
  refine ⟨⟨_, 8, k1, _, 8, k2, _, 2, k3, [b1], [b2], [p, b3, b4], rfl, h.hist, h.regs, ⟨rfl, .inr ⟨p, po, [b3, b4], by omega, rfl, rfl, ?_⟩⟩, rfl⟩, ⟨(List.nodup_cons.1 h.own.nodup).2, fun q hq => h.own.free q (List.mem_cons_of_mem _ hq), fun q hq => h.own.ge q (List.mem_cons_of_mem _ hq)⟩, ?_⟩
  · show RdM W [ints x, ints y] p po [b3, b4]
    rw [RdM]
    refine ⟨_, [b3], [b4], h.c0, rd_ints.2 ⟨_, _, _, rfl, h.row0⟩, ?_, rfl⟩
    rw [RdM]
    exact ⟨_, [b4], [], h.c1, rd_ints.2 ⟨_, _, _, rfl, h.row1⟩, by simp [RdM], rfl⟩
  · unfold Sk.shaped
    simp [h.hist.length, h.regs.length, h.row0.length, h.row1.length]
theorem out_rd {w W : World} {lo g : Nat} {c sm mn mx : Int} {b1 o1 k1 b2 o2 k2 p po k3 b3 o3 j0 b4 o4 j1 : Nat} {l1 l2 x y : List Int} (h : Out w lo g c sm mn mx b1 o1 k1 b2 o2 k2 p po k3 b3 o3 j0 b4 o4 j1 l1 l2 x y W) :
    RdR W (.agg #[.int .i64 c, .int .i64 sm, .int .i64 mn, .int .i64 mx, .slice (some ⟨b1, o1, none⟩) 8 k1, .slice (some ⟨b2, o2, none⟩) 8 k2, .slice (some ⟨p, po, none⟩) 2 k3]) ⟨c, sm, mn, mx, l1, l2, [x, y]⟩ [b1, b2, p, b3, b4] ∧ Own lo W [b1, b2, p, b3, b4] ∧ (⟨c, sm, mn, mx, l1, l2, [x, y]⟩ : Sk).shaped = true := by
  obtain ⟨r, o, hs⟩ := out_to h
  exact ⟨⟨r, _, _, _, _, _, _, _, [b1], _, _, _, _, rfl, ⟨b1, o1, rfl, rfl, h.room⟩, by simp, h.wide⟩, o, hs⟩
theorem shaped_full {s : Sk} (h : s.shaped = true) : s.full := by
  obtain ⟨e1, e2, x, y, e3, e4, e5⟩ := Sk.shaped_parts h
  refine ⟨by omega, by omega, by rw [e3]; simp, fun z hz => ?_⟩
  rw [e3] at hz
  simp at hz
  rcases hz with rfl | rfl <;> omega
theorem shaped_wide {s : Sk} (h : s.shaped = true) : s.wide := by
  obtain ⟨e1, e2, x, y, e3, e4, e5⟩ := Sk.shaped_parts h
  refine ⟨by omega, by omega, by rw [e3]; simp, fun z hz => ?_⟩
  rw [e3] at hz
  simp at hz
  rcases hz with rfl | rfl <;> omega
end Go.Proofs.Ytbmbmnhamogghab
