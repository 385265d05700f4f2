/- The walk through the model's EntryOf. No statement of the seat is proved here. -/
import Derived.Test.YtjndcfamfminkabItModel
import Derived.Test.YtjndcfamfminkabSkShape
import Derived.Test.YtjndcfamfminkabSkCopy
namespace Go.Proofs.Ytjndcfamfminkab
open Go.RowKit
def It.entryOk (a : Int) (x : It) : Bool := x.ok && decide (0 ≤ idOf a x.seq)
def It.entry (a : Int) (x : It) : En := if x.entryOk a = true then ⟨x.key, x.window, [(idOf a x.seq, idOf a x.seq)], x.sk⟩ else En.zero
theorem It.entry_not {a : Int} {x : It} (h : x.entryOk a = false) : x.entry a = En.zero := by unfold It.entry; rw [h]; rfl
theorem It.entry_yes {a : Int} {x : It} (h : x.entryOk a = true) : x.entry a = ⟨x.key, x.window, [(idOf a x.seq, idOf a x.seq)], x.sk⟩ := by unfold It.entry; rw [if_pos h]
theorem It.ok_sk {x : It} (h : x.ok = true) : x.sk.ok = true := by
  unfold It.ok at h
  simp only [Bool.and_eq_true] at h
  exact h.2
theorem ok_full {s : Sk} (h : s.ok = true) : s.full := by
  unfold Sk.ok at h
  simp only [Bool.and_eq_true] at h
  obtain ⟨⟨h1, _⟩, h3⟩ := h
  unfold okHead at h1
  unfold okLists at h3
  simp only [Bool.and_eq_true, decide_eq_true_eq] at h1 h3
  have e0 := okL_len h3.1.1.1
  have e1 := okL_len h3.1.1.2
  have e2 := okL_len h3.1.2
  have e3 := okL_len h3.2
  have er : s.rows.length = 2 := h1.2
  refine ⟨by omega, by omega, by omega, fun z hz => ?_⟩
  obtain ⟨r0, r1, hs⟩ : ∃ r0 r1, s.rows = [r0, r1] := by
    match hs : s.rows, er with
    | [r0, r1], _ => exact ⟨r0, r1, rfl⟩
  rw [hs] at hz e2 e3
  simp at hz e2 e3
  rcases hz with rfl | rfl <;> omega
theorem rdP_single {W : World} {g : Nat} {n : Int} {t : TypeId} (h : Blk W g #[.int .i64 n, .int .i64 n] t) : RdP W (some ⟨g, 0, none⟩) 1 [(n, n)] [g] :=
  ⟨rfl, rdI_tcv (xs := flat [(n, n)]) (by simpa [tcv, flat] using h) (by simp [flat]) (by omega)⟩
theorem infoItA : (Try.prog.info? 40).map (·.size) = some 11 := by kernel_rfl
set_option maxRecDepth 100000 in
set_option maxHeartbeats 8000000 in
theorem entryOfSpec_z (ag : Int) (v : Value) (x : It) (F : List Nat) (w : World) (h : RdIt w v x F) (hw : x.sk.wide) :
    Calls Try.prog 17 #[.int .i64 ag, v] w fun e w' => NewEn2 w (x.entry ag) (x.entryOk ag) e w' ∧ (x.entryOk ag = false → e = .returned (.tuple #[.agg #[.int .i64 0, .int .i64 0, .slice none 0 0, .int .i64 0, .int .i64 0, .int .i64 0, .int .i64 0, .slice none 0 0, .slice none 0 0, .slice none 0 0], .bool false])) := by
  have HX : Hid (RdIt w v x F ∧ x.sk.wide) := ⟨h, hw⟩
  obtain ⟨a1, n1, c1, a2, n2, c2, a3, n3, c3, rfl, hr⟩ := h
  have HR : Hid (RdSk w (.agg #[.int .i64 x.sk.count, .int .i64 x.sk.sum, .int .i64 x.sk.min, .int .i64 x.sk.max, .slice a1 n1 c1, .slice a2 n2 c2, .slice a3 n3 c3]) x.sk F) := hr
  have HT : Hid (Blk ((w.alloc (.cells #[.int .i64 x.seq, .int .i64 x.cls, .int .i64 x.key, .int .i64 x.window, .int .i64 x.sk.count, .int .i64 x.sk.sum, .int .i64 x.sk.min, .int .i64 x.sk.max, .slice a1 n1 c1, .slice a2 n2 c2, .slice a3 n3 c3] 40)).alloc (.cells #[.int .i64 0, .int .i64 0, .slice none 0 0, .int .i64 0, .int .i64 0, .int .i64 0, .int .i64 0, .slice none 0 0, .slice none 0 0, .slice none 0 0] 30)) w.heap.size #[.int .i64 x.seq, .int .i64 x.cls, .int .i64 x.key, .int .i64 x.window, .int .i64 x.sk.count, .int .i64 x.sk.sum, .int .i64 x.sk.min, .int .i64 x.sk.max, .slice a1 n1 c1, .slice a2 n2 c2, .slice a3 n3 c3] 40) := (Blk.made _ _ _).alloc _
  have HZ : Hid (Blk ((w.alloc (.cells #[.int .i64 x.seq, .int .i64 x.cls, .int .i64 x.key, .int .i64 x.window, .int .i64 x.sk.count, .int .i64 x.sk.sum, .int .i64 x.sk.min, .int .i64 x.sk.max, .slice a1 n1 c1, .slice a2 n2 c2, .slice a3 n3 c3] 40)).alloc (.cells #[.int .i64 0, .int .i64 0, .slice none 0 0, .int .i64 0, .int .i64 0, .int .i64 0, .int .i64 0, .slice none 0 0, .slice none 0 0, .slice none 0 0] 30)) (w.heap.size + 1) #[.int .i64 0, .int .i64 0, .slice none 0 0, .int .i64 0, .int .i64 0, .int .i64 0, .int .i64 0, .slice none 0 0, .slice none 0 0, .slice none 0 0] 30 ∧ Below w.heap.size w ((w.alloc (.cells #[.int .i64 x.seq, .int .i64 x.cls, .int .i64 x.key, .int .i64 x.window, .int .i64 x.sk.count, .int .i64 x.sk.sum, .int .i64 x.sk.min, .int .i64 x.sk.max, .slice a1 n1 c1, .slice a2 n2 c2, .slice a3 n3 c3] 40)).alloc (.cells #[.int .i64 0, .int .i64 0, .slice none 0 0, .int .i64 0, .int .i64 0, .int .i64 0, .int .i64 0, .slice none 0 0, .slice none 0 0, .slice none 0 0] 30))) := ⟨by have := Blk.made (w.alloc (.cells #[.int .i64 x.seq, .int .i64 x.cls, .int .i64 x.key, .int .i64 x.window, .int .i64 x.sk.count, .int .i64 x.sk.sum, .int .i64 x.sk.min, .int .i64 x.sk.max, .slice a1 n1 c1, .slice a2 n2 c2, .slice a3 n3 c3] 40)) #[.int .i64 0, .int .i64 0, .slice none 0 0, .int .i64 0, .int .i64 0, .int .i64 0, .int .i64 0, .slice none 0 0, .slice none 0 0, .slice none 0 0] 30; simpa using this, Below.allocW _ (Below.allocW _ (Below.refl _ _) (Nat.le_refl _)) (Nat.le_refl _)⟩
  clear hr hw
  go_enter Try.func17, Try.ntmps17
  go_wp2_with fail
  refine (idSpec_any _ _ _).mono ?_
  rintro e w1 ⟨rfl, hw1⟩
  have hw1' := hw1.symm
  subst hw1'
  clear hw1
  obtain ⟨id, hid⟩ : ∃ i, i = idOf ag x.seq := ⟨_, rfl⟩
  rw [← hid]
  have HID : Hid (id = idOf ag x.seq) := hid
  clear hid
  go_wp2_with (first | go_skip | (with_reducible refine stopLoad 40 rfl ?_))
  refine load_known 40 w.heap.size _ 40 _ HT.out rfl rfl rfl Try.underlying40 rfl infoItA ?_
  go_wp2_with fail
  refine (itemOkSpec_any _ x F _ (HX.out.1.below HZ.out.2) HX.out.2).mono ?_
  rintro e w2 ⟨rfl, hb⟩
  have HT2 : Hid (Blk w2 w.heap.size #[.int .i64 x.seq, .int .i64 x.cls, .int .i64 x.key, .int .i64 x.window, .int .i64 x.sk.count, .int .i64 x.sk.sum, .int .i64 x.sk.min, .int .i64 x.sk.max, .slice a1 n1 c1, .slice a2 n2 c2, .slice a3 n3 c3] 40) := HT.out.below hb
  have HZ2 : Hid (Blk w2 (w.heap.size + 1) #[.int .i64 0, .int .i64 0, .slice none 0 0, .int .i64 0, .int .i64 0, .int .i64 0, .int .i64 0, .slice none 0 0, .slice none 0 0, .slice none 0 0] 30 ∧ Below w.heap.size w w2) := ⟨HZ.out.1.below hb, Below.next HZ.out.2 hb⟩
  obtain ⟨d, hd⟩ : ∃ d, d = x.ok := ⟨_, rfl⟩
  rw [← hd]
  have HD : Hid (d = x.ok) := hd
  clear hd hb HT HZ
  cases d
  · have HV : Hid (x.entryOk ag = false) := by show _ = _; unfold It.entryOk; rw [← HD.out]; rfl
    go_wp2_with (first | go_skip | (with_reducible refine stopStore 30 rfl ?_))
    refine store_known 30 (w.heap.size + 1) #[.int .i64 0, .int .i64 0, .slice none 0 0, .int .i64 0, .int .i64 0, .int .i64 0, .int .i64 0, .slice none 0 0, .slice none 0 0, .slice none 0 0] #[.int .i64 0, .int .i64 0, .slice none 0 0, .int .i64 0, .int .i64 0, .int .i64 0, .int .i64 0, .slice none 0 0, .slice none 0 0, .slice none 0 0] 30 HZ2.out.1 rfl rfl rfl rfl infoEnA rfl (by simp [Value.oneCell']) ?_
    have HE : Hid (Blk _ (w.heap.size + 1) #[.int .i64 0, .int .i64 0, .slice none 0 0, .int .i64 0, .int .i64 0, .int .i64 0, .int .i64 0, .slice none 0 0, .slice none 0 0, .slice none 0 0] 30 ∧ Below w.heap.size w _) := ⟨HZ2.out.1.setRow (ds := #[.int .i64 0, .int .i64 0, .slice none 0 0, .int .i64 0, .int .i64 0, .int .i64 0, .int .i64 0, .slice none 0 0, .slice none 0 0, .slice none 0 0]), below_setRow (g := w.heap.size + 1) HZ2.out.2 (by omega) #[.int .i64 0, .int .i64 0, .slice none 0 0, .int .i64 0, .int .i64 0, .int .i64 0, .int .i64 0, .slice none 0 0, .slice none 0 0, .slice none 0 0]⟩
    go_wp2
    refine bodyPost_ret (results_row_tmp Try.results17 _ _ (w.heap.size + 1) _ _ (0, 0) _ rfl HE.out.1 Try.underlying30 rfl infoEnA) rfl ?_
    rw [It.entry_not HV.out, HV.out]
    exact ⟨⟨_, [], [], rfl, rdEn_zero _, Own.nil, Own.nil, by simp, HE.out.2⟩, fun _ => rfl⟩
  by_cases hneg : id < 0
  · have HV : Hid (x.entryOk ag = false) := by show _ = _; unfold It.entryOk; rw [← HID.out, decF (p := 0 ≤ id) (by omega)]; simp
    have gd : decide (id < 0) = true := decT hneg
    go_wp2_with (first | go_skip | (with_reducible refine stopStore 30 rfl ?_))
    refine store_known 30 (w.heap.size + 1) #[.int .i64 0, .int .i64 0, .slice none 0 0, .int .i64 0, .int .i64 0, .int .i64 0, .int .i64 0, .slice none 0 0, .slice none 0 0, .slice none 0 0] #[.int .i64 0, .int .i64 0, .slice none 0 0, .int .i64 0, .int .i64 0, .int .i64 0, .int .i64 0, .slice none 0 0, .slice none 0 0, .slice none 0 0] 30 HZ2.out.1 rfl rfl rfl rfl infoEnA rfl (by simp [Value.oneCell']) ?_
    have HE : Hid (Blk _ (w.heap.size + 1) #[.int .i64 0, .int .i64 0, .slice none 0 0, .int .i64 0, .int .i64 0, .int .i64 0, .int .i64 0, .slice none 0 0, .slice none 0 0, .slice none 0 0] 30 ∧ Below w.heap.size w _) := ⟨HZ2.out.1.setRow (ds := #[.int .i64 0, .int .i64 0, .slice none 0 0, .int .i64 0, .int .i64 0, .int .i64 0, .int .i64 0, .slice none 0 0, .slice none 0 0, .slice none 0 0]), below_setRow (g := w.heap.size + 1) HZ2.out.2 (by omega) #[.int .i64 0, .int .i64 0, .slice none 0 0, .int .i64 0, .int .i64 0, .int .i64 0, .int .i64 0, .slice none 0 0, .slice none 0 0, .slice none 0 0]⟩
    go_wp2
    refine bodyPost_ret (results_row_tmp Try.results17 _ _ (w.heap.size + 1) _ _ (0, 0) _ rfl HE.out.1 Try.underlying30 rfl infoEnA) rfl ?_
    rw [It.entry_not HV.out, HV.out]
    exact ⟨⟨_, [], [], rfl, rdEn_zero _, Own.nil, Own.nil, by simp, HE.out.2⟩, fun _ => rfl⟩
  have gd : decide (id < 0) = false := decF hneg
  have HV : Hid (x.entryOk ag = true) := by show _ = _; unfold It.entryOk; rw [← HD.out, ← HID.out, decT (p := 0 ≤ id) (by omega)]; rfl
  go_wp2
  have HS : Hid (Blk w2.drew w.heap.size #[.int .i64 x.seq, .int .i64 x.cls, .int .i64 x.key, .int .i64 x.window, .int .i64 x.sk.count, .int .i64 x.sk.sum, .int .i64 x.sk.min, .int .i64 x.sk.max, .slice a1 n1 c1, .slice a2 n2 c2, .slice a3 n3 c3] 40) := HT2.out.drew
  have HZ3 : Hid (Blk w2.drew (w.heap.size + 1) #[.int .i64 0, .int .i64 0, .slice none 0 0, .int .i64 0, .int .i64 0, .int .i64 0, .int .i64 0, .slice none 0 0, .slice none 0 0, .slice none 0 0] 30 ∧ Below w.heap.size w w2.drew) := ⟨HZ2.out.1.drew, HZ2.out.2.drew⟩
  clear HT2 HZ2 gd
  refine wp_region_held (S := fun W => Blk W w.heap.size #[.int .i64 x.seq, .int .i64 x.cls, .int .i64 x.key, .int .i64 x.window, .int .i64 x.sk.count, .int .i64 x.sk.sum, .int .i64 x.sk.min, .int .i64 x.sk.max, .slice a1 n1 c1, .slice a2 n2 c2, .slice a3 n3 c3] 40) (by kernel_rfl) ?_
  change wpAnyH _ _ _ _ _ _ _ _ (World.drew _)
  refine takeH (o := ?o1) 0 (.pointer (some ⟨w.heap.size, 2, none⟩)) ?h1 ?r1
  case h1 => simp only [aT, aZ]; rfl
  refine ⟨_, by simp [Act.put]; rfl, by kernel_rfl, by kernel_rfl, by kernel_rfl, fun _ _ _ h => h, (.inl ⟨rfl, fun W _ => by go_simp⟩), HS.out, ?_⟩
  refine takeH (o := ?o2) 1 (.int .i64 x.key) ?h2 ?r2
  case h2 => simp only [aT, aS, aZ]; rfl
  refine ⟨_, by simp [Act.put]; rfl, by kernel_rfl, by kernel_rfl, by kernel_rfl, fun _ _ _ h => h, (.inl ⟨rfl, fun W hW => by have c := hW.cell 2; simp only [aT, aS, aZ] at c; go_simp⟩), HS.out, ?_⟩
  refine takeH (o := ?o3) 2 (.pointer (some ⟨w.heap.size, 3, none⟩)) ?h3 ?r3
  case h3 => simp only [aT, aS, aZ]; rfl
  refine ⟨_, by simp [Act.put]; rfl, by kernel_rfl, by kernel_rfl, by kernel_rfl, fun _ _ _ h => h, (.inl ⟨rfl, fun W _ => by go_simp⟩), HS.out, ?_⟩
  refine takeH (o := ?o4) 3 (.int .i64 x.window) ?h4 ?r4
  case h4 => simp only [aT, aS, aZ]; rfl
  refine ⟨_, by simp [Act.put]; rfl, by kernel_rfl, by kernel_rfl, by kernel_rfl, fun _ _ _ h => h, (.inl ⟨rfl, fun W hW => by have c := hW.cell 3; simp only [aT, aS, aZ] at c; go_simp⟩), HS.out, ?_⟩
  refine takeH (o := ?o5) 4 (.int .i64 id) ?h5 ?r5
  case h5 => simp only [aT, aS, aZ]; rfl
  refine ⟨_, by simp [Act.put]; rfl, by kernel_rfl, by kernel_rfl, by kernel_rfl, fun _ _ _ h => h, (.inl ⟨rfl, fun W _ => by go_simp⟩), HS.out, ?_⟩
  refine takeH (o := ?o6) 5 (.int .i64 id) ?h6 ?r6
  case h6 => simp only [aT, aS, aZ]; rfl
  refine ⟨_, by simp [Act.put]; rfl, by kernel_rfl, by kernel_rfl, by kernel_rfl, fun _ _ _ h => h, (.inl ⟨rfl, fun W _ => by go_simp⟩), HS.out, ?_⟩
  refine takeH (o := ?o7) 6 (.agg #[.int .i64 id, .int .i64 id]) ?h7 ?r7
  case h7 => simp only [aT, aS, aZ]; rfl
  refine ⟨_, by simp [Act.put]; rfl, by kernel_rfl, by kernel_rfl, by kernel_rfl, fun _ _ _ h => h, (.inl ⟨rfl, fun W _ => by go_simp⟩), HS.out, ?_⟩
  refine takeH (o := ?o8) 8 (.pointer (some ⟨w.heap.size, 4, none⟩)) ?h8 ?r8
  case h8 => simp only [aT, aS, aZ]; rfl
  refine ⟨_, by simp [Act.put]; rfl, by kernel_rfl, by kernel_rfl, by kernel_rfl, fun _ _ _ h => h, (.inl ⟨rfl, fun W _ => by go_simp⟩), HS.out, ?_⟩
  refine takeH (o := ?o9) 9 (.agg #[.int .i64 x.sk.count, .int .i64 x.sk.sum, .int .i64 x.sk.min, .int .i64 x.sk.max, .slice a1 n1 c1, .slice a2 n2 c2, .slice a3 n3 c3]) ?h9 ?r9
  case h9 => simp only [aT, aS, aZ]; rfl
  refine ⟨_, by simp [Act.put]; rfl, by kernel_rfl, by kernel_rfl, by kernel_rfl, fun _ _ _ h => h, (yields_cut 28 w.heap.size 4 7 _ #[.int .i64 x.sk.count, .int .i64 x.sk.sum, .int .i64 x.sk.min, .int .i64 x.sk.max, .slice a1 n1 c1, .slice a2 n2 c2, .slice a3 n3 c3] 40 _ rfl rfl rfl Try.underlying28 rfl (by kernel_rfl) (by simp) rfl (fun W hW => hW)), HS.out, ?_⟩
  refine twoH (o := ?o10) (o' := ?p10) 7 10 (by kernel_rfl) ?h10 ?g10 ?r10 ?s10
  case h10 => simp only [aT, aS, aZ]; rfl
  case g10 => simp only [aT, aS, aZ]; rfl
  case r10 =>
    intro K hK
    refine op_turn (.slice (some ⟨w2.heap.size, 0, none⟩) 1 1) (w2.drew.alloc (.cells #[.int .i64 id, .int .i64 id] 87)) rfl (by go_simp) ⟨_, by simp [Act.put]; rfl, hK _ _ ⟨HS.out.alloc _, ?_⟩⟩
    have HS4 : Hid (Blk (w2.drew.alloc (.cells #[.int .i64 id, .int .i64 id] 87)) w.heap.size #[.int .i64 x.seq, .int .i64 x.cls, .int .i64 x.key, .int .i64 x.window, .int .i64 x.sk.count, .int .i64 x.sk.sum, .int .i64 x.sk.min, .int .i64 x.sk.max, .slice a1 n1 c1, .slice a2 n2 c2, .slice a3 n3 c3] 40) := HS.out.alloc _
    have HZ4 : Hid (Blk (w2.drew.alloc (.cells #[.int .i64 id, .int .i64 id] 87)) (w.heap.size + 1) #[.int .i64 0, .int .i64 0, .slice none 0 0, .int .i64 0, .int .i64 0, .int .i64 0, .int .i64 0, .slice none 0 0, .slice none 0 0, .slice none 0 0] 30 ∧ Below w.heap.size w (w2.drew.alloc (.cells #[.int .i64 id, .int .i64 id] 87))) := ⟨HZ3.out.1.alloc _, Below.allocW _ HZ3.out.2 (Nat.le_refl _)⟩
    have HL : Hid (Blk (w2.drew.alloc (.cells #[.int .i64 id, .int .i64 id] 87)) w2.heap.size #[.int .i64 id, .int .i64 id] 87 ∧ w.heap.size + 1 < w2.heap.size) := ⟨Blk.made _ _ _, HZ3.out.1.lt⟩
    obtain ⟨gg, hgg⟩ : ∃ n, n = w2.heap.size := ⟨_, rfl⟩
    obtain ⟨w4, hw4⟩ : ∃ W, W = w2.drew.alloc (.cells #[.int .i64 id, .int .i64 id] 87) := ⟨_, rfl⟩
    rw [← hw4] at HS4 HZ4 HL ⊢
    rw [← hgg] at HL ⊢
    clear hK hw4 hgg HS HZ3
    refine onlyH (o := ?o11) 10 (by kernel_rfl) ?h11 ?r11
    case h11 => simp only [aT, aS, aZ]; rfl
    intro K hK
    refine op_call1 58 _ _ Try.f58 (fun v w' => ∃ X, RdSk w' v x.sk X ∧ Own w4.heap.size w' X ∧ Below w4.heap.size w4 w') rfl rfl Try.func58 (by kernel_rfl) (by kernel_rfl) ((l3Copy_any _ x.sk F w4 (HR.out.below HZ4.out.2) (ok_full (It.ok_sk HD.out.symm))).mono (by rintro e w' ⟨v, X, rfl, h1, h2, h3⟩; exact ⟨_, rfl, X, h1, h2, h3⟩)) ?_
    rintro vm w5 ⟨X, rm, om, bz⟩
    obtain ⟨e1, r1, f1, e2, r2, f2, e3, r3, f3, rfl⟩ := rm.cells7
    refine ⟨_, by simp [Act.put]; rfl, hK _ _ ⟨HS4.out.below bz, ?_⟩⟩
    have HS5 : Hid (Blk w5 w.heap.size #[.int .i64 x.seq, .int .i64 x.cls, .int .i64 x.key, .int .i64 x.window, .int .i64 x.sk.count, .int .i64 x.sk.sum, .int .i64 x.sk.min, .int .i64 x.sk.max, .slice a1 n1 c1, .slice a2 n2 c2, .slice a3 n3 c3] 40) := HS4.out.below bz
    have HZ5 : Hid (Blk w5 (w.heap.size + 1) #[.int .i64 0, .int .i64 0, .slice none 0 0, .int .i64 0, .int .i64 0, .int .i64 0, .int .i64 0, .slice none 0 0, .slice none 0 0, .slice none 0 0] 30 ∧ Below w.heap.size w w5) := ⟨HZ4.out.1.below bz, Below.next HZ4.out.2 bz⟩
    have hl := HL.out.1.below bz
    have HG : Hid (RdSk w5 (.agg #[.int .i64 x.sk.count, .int .i64 x.sk.sum, .int .i64 x.sk.min, .int .i64 x.sk.max, .slice e1 r1 f1, .slice e2 r2 f2, .slice e3 r3 f3]) x.sk X ∧ Own (w.heap.size + 2) w5 X ∧ RdP w5 (some ⟨gg, 0, none⟩) 1 [(id, id)] [gg] ∧ Own (w.heap.size + 2) w5 [gg] ∧ (∀ b ∈ [gg], b ∉ X) ∧ w.heap.size + 1 < gg) := ⟨rm, om.mono (by have := HZ4.out.1.lt; omega), rdP_single hl, ⟨by simp, fun b hb o => by (obtain rfl : b = gg := by simpa using hb); exact hl.frozen o, fun b hb => by (obtain rfl : b = gg := by simpa using hb); have := HL.out.2; omega⟩, fun b hb hx => by (obtain rfl : b = gg := by simpa using hb); have := om.ge _ hx; have := HL.out.1.lt; omega, HL.out.2⟩
    clear hK bz rm om hl HL HS4 HZ4
    refine takeH (o := ?o12) 11 (.agg #[.int .i64 x.key, .int .i64 x.window, .slice (some ⟨gg, 0, none⟩) 1 1, .int .i64 x.sk.count, .int .i64 x.sk.sum, .int .i64 x.sk.min, .int .i64 x.sk.max, .slice e1 r1 f1, .slice e2 r2 f2, .slice e3 r3 f3]) ?h12 ?r12
    case h12 => simp only [aT, aS, aZ]; rfl
    refine ⟨_, by simp [Act.put]; rfl, by kernel_rfl, by kernel_rfl, by kernel_rfl, fun _ _ _ h => h, (.inl ⟨rfl, fun W _ => by go_simp⟩), HS5.out, ?_⟩
    refine onlyH (o := ?o13) 12 (by kernel_rfl) ?h13 ?r13
    case h13 => simp only [aT, aS, aZ]; rfl
    intro K hK
    refine op_store 30 (w.heap.size + 1) #[.int .i64 0, .int .i64 0, .slice none 0 0, .int .i64 0, .int .i64 0, .int .i64 0, .int .i64 0, .slice none 0 0, .slice none 0 0, .slice none 0 0] #[.int .i64 x.key, .int .i64 x.window, .slice (some ⟨gg, 0, none⟩) 1 1, .int .i64 x.sk.count, .int .i64 x.sk.sum, .int .i64 x.sk.min, .int .i64 x.sk.max, .slice e1 r1 f1, .slice e2 r2 f2, .slice e3 r3 f3] 30 rfl rfl rfl rfl HZ5.out.1 infoEnA rfl (by simp [Value.oneCell']) ⟨_, by simp [Act.put]; rfl, hK _ _ ⟨HS5.out.setRowOther (by omega), ?_⟩⟩
    clear hK
    refine takeH (o := ?o14) 13 (.bool true) ?h14 ?r14
    case h14 => simp only [aT, aS, aZ]; rfl
    refine ⟨_, by simp [Act.put]; rfl, by kernel_rfl, by kernel_rfl, by kernel_rfl, fun _ _ _ h => h, (.inl ⟨rfl, fun W _ => by go_simp⟩), (HS5.out.setRowOther (by omega)), ?_⟩
    refine wpAnyH_done (by kernel_rfl) ?_ _
    have nf : w.heap.size + 1 ∉ [gg] := by have := HG.out.2.2.2.2.2; simp; omega
    have nx : w.heap.size + 1 ∉ X := fun hx => by have := HG.out.2.1.ge _ hx; omega
    obtain ⟨E, hE⟩ : ∃ E : Array Value, E = #[.int .i64 x.key, .int .i64 x.window, .slice (some ⟨gg, 0, none⟩) 1 1, .int .i64 x.sk.count, .int .i64 x.sk.sum, .int .i64 x.sk.min, .int .i64 x.sk.max, .slice e1 r1 f1, .slice e2 r2 f2, .slice e3 r3 f3] := ⟨_, rfl⟩
    rw [← hE]
    obtain ⟨w9, hw9⟩ : ∃ W, W = w5.setRow (w.heap.size + 1) E := ⟨_, rfl⟩
    have HF : Hid (Blk w9 (w.heap.size + 1) E 30 ∧ RdP w9 (some ⟨gg, 0, none⟩) 1 [(id, id)] [gg] ∧ RdSk w9 (.agg #[.int .i64 x.sk.count, .int .i64 x.sk.sum, .int .i64 x.sk.min, .int .i64 x.sk.max, .slice e1 r1 f1, .slice e2 r2 f2, .slice e3 r3 f3]) x.sk X ∧ Own w.heap.size w9 [gg] ∧ Own w.heap.size w9 X ∧ (∀ b ∈ [gg], b ∉ X) ∧ Below w.heap.size w w9) := by
      rw [hw9]
      exact ⟨HZ5.out.1.setRow, HG.out.2.2.1.agree (Agree.row nf E), HG.out.1.agree (Agree.row nx E), (HG.out.2.2.2.1.agree (Agree.row nf E)).mono (by omega), (HG.out.2.1.agree (Agree.row nx E)).mono (by omega), HG.out.2.2.2.2.1, below_setRow HZ5.out.2 (by omega) _⟩
    have HE : Hid (E = #[.int .i64 x.key, .int .i64 x.window, .slice (some ⟨gg, 0, none⟩) 1 1, .int .i64 x.sk.count, .int .i64 x.sk.sum, .int .i64 x.sk.min, .int .i64 x.sk.max, .slice e1 r1 f1, .slice e2 r2 f2, .slice e3 r3 f3] ∧ E.size = 10) := ⟨hE, by rw [hE]; rfl⟩
    rw [← hw9]
    clear hE hw9 HG nf nx
    go_wp2
    refine bodyPost_ret (results_row_tmp Try.results17 _ _ (w.heap.size + 1) _ _ (0, 0) _ rfl HF.out.1 Try.underlying30 rfl (by rw [HE.out.2]; exact infoEnA)) rfl ?_
    rw [It.entry_yes HV.out, HV.out, ← HID.out]
    exact ⟨⟨_, [gg], X, rfl, ⟨some ⟨gg, 0, none⟩, 1, 1, e1, r1, f1, e2, r2, f2, e3, r3, f3, by rw [HE.out.1], HF.out.2.1, HF.out.2.2.1, fun e => (by cases e), Nat.le_refl _⟩, HF.out.2.2.2.1, HF.out.2.2.2.2.1, HF.out.2.2.2.2.2.1, HF.out.2.2.2.2.2.2⟩, fun e => by cases e⟩
  case s10 =>
    intro K hK
    refine op_call1 58 _ _ Try.f58 (fun v w' => ∃ X, RdSk w' v x.sk X ∧ Own w2.drew.heap.size w' X ∧ Below w2.drew.heap.size w2.drew w') rfl rfl Try.func58 (by kernel_rfl) (by kernel_rfl) ((l3Copy_any _ x.sk F w2.drew (HR.out.below HZ3.out.2) (ok_full (It.ok_sk HD.out.symm))).mono (by rintro e w' ⟨v, X, rfl, h1, h2, h3⟩; exact ⟨_, rfl, X, h1, h2, h3⟩)) ?_
    rintro vm w4 ⟨X, rm, om, bz⟩
    obtain ⟨e1, r1, f1, e2, r2, f2, e3, r3, f3, rfl⟩ := rm.cells7
    refine ⟨_, by simp [Act.put]; rfl, hK _ _ ⟨HS.out.below bz, ?_⟩⟩
    have HS4 : Hid (Blk w4 w.heap.size #[.int .i64 x.seq, .int .i64 x.cls, .int .i64 x.key, .int .i64 x.window, .int .i64 x.sk.count, .int .i64 x.sk.sum, .int .i64 x.sk.min, .int .i64 x.sk.max, .slice a1 n1 c1, .slice a2 n2 c2, .slice a3 n3 c3] 40) := HS.out.below bz
    have HZ4 : Hid (Blk w4 (w.heap.size + 1) #[.int .i64 0, .int .i64 0, .slice none 0 0, .int .i64 0, .int .i64 0, .int .i64 0, .int .i64 0, .slice none 0 0, .slice none 0 0, .slice none 0 0] 30 ∧ Below w.heap.size w w4) := ⟨HZ3.out.1.below bz, Below.next HZ3.out.2 bz⟩
    have HM : Hid (RdSk w4 (.agg #[.int .i64 x.sk.count, .int .i64 x.sk.sum, .int .i64 x.sk.min, .int .i64 x.sk.max, .slice e1 r1 f1, .slice e2 r2 f2, .slice e3 r3 f3]) x.sk X ∧ Own (w.heap.size + 2) w4 X) := ⟨rm, om.mono (by have := HZ3.out.1.lt; omega)⟩
    clear hK bz rm om HS HZ3
    refine onlyH (o := ?o15) 7 (by kernel_rfl) ?h15 ?r15
    case h15 => simp only [aT, aS, aZ]; rfl
    intro K hK
    refine op_turn (.slice (some ⟨w4.heap.size, 0, none⟩) 1 1) (w4.alloc (.cells #[.int .i64 id, .int .i64 id] 87)) rfl (by go_simp) ⟨_, by simp [Act.put]; rfl, hK _ _ ⟨HS4.out.alloc _, ?_⟩⟩
    have HS5 : Hid (Blk (w4.alloc (.cells #[.int .i64 id, .int .i64 id] 87)) w.heap.size #[.int .i64 x.seq, .int .i64 x.cls, .int .i64 x.key, .int .i64 x.window, .int .i64 x.sk.count, .int .i64 x.sk.sum, .int .i64 x.sk.min, .int .i64 x.sk.max, .slice a1 n1 c1, .slice a2 n2 c2, .slice a3 n3 c3] 40) := HS4.out.alloc _
    have HZ5 : Hid (Blk (w4.alloc (.cells #[.int .i64 id, .int .i64 id] 87)) (w.heap.size + 1) #[.int .i64 0, .int .i64 0, .slice none 0 0, .int .i64 0, .int .i64 0, .int .i64 0, .int .i64 0, .slice none 0 0, .slice none 0 0, .slice none 0 0] 30 ∧ Below w.heap.size w (w4.alloc (.cells #[.int .i64 id, .int .i64 id] 87))) := ⟨HZ4.out.1.alloc _, Below.allocW _ HZ4.out.2 (Nat.le_refl _)⟩
    have bal : Below w4.heap.size w4 (w4.alloc (.cells #[.int .i64 id, .int .i64 id] 87)) := Below.allocW _ (Below.refl _ _) (Nat.le_refl _)
    have hl : Blk (w4.alloc (.cells #[.int .i64 id, .int .i64 id] 87)) w4.heap.size #[.int .i64 id, .int .i64 id] 87 := Blk.made _ _ _
    have hz4 := HZ4.out.1.lt
    have HG : Hid (RdSk (w4.alloc (.cells #[.int .i64 id, .int .i64 id] 87)) (.agg #[.int .i64 x.sk.count, .int .i64 x.sk.sum, .int .i64 x.sk.min, .int .i64 x.sk.max, .slice e1 r1 f1, .slice e2 r2 f2, .slice e3 r3 f3]) x.sk X ∧ Own (w.heap.size + 2) (w4.alloc (.cells #[.int .i64 id, .int .i64 id] 87)) X ∧ RdP (w4.alloc (.cells #[.int .i64 id, .int .i64 id] 87)) (some ⟨w4.heap.size, 0, none⟩) 1 [(id, id)] [w4.heap.size] ∧ Own (w.heap.size + 2) (w4.alloc (.cells #[.int .i64 id, .int .i64 id] 87)) [w4.heap.size] ∧ (∀ b ∈ [w4.heap.size], b ∉ X) ∧ w.heap.size + 1 < w4.heap.size) := ⟨HM.out.1.below bal, HM.out.2.below HM.out.1.lt bal, rdP_single hl, ⟨by simp, fun b hb o => by (obtain rfl : b = w4.heap.size := by simpa using hb); exact hl.frozen o, fun b hb => by (obtain rfl : b = w4.heap.size := by simpa using hb); omega⟩, fun b hb hx => by (obtain rfl : b = w4.heap.size := by simpa using hb); have := HM.out.1.lt _ hx; omega, hz4⟩
    obtain ⟨gg, hgg⟩ : ∃ n, n = w4.heap.size := ⟨_, rfl⟩
    obtain ⟨w5, hw5⟩ : ∃ W, W = w4.alloc (.cells #[.int .i64 id, .int .i64 id] 87) := ⟨_, rfl⟩
    rw [← hw5] at HS5 HZ5 HG ⊢
    rw [← hgg] at HG ⊢
    clear hK hw5 hgg HS4 HZ4 HM bal hl hz4
    refine takeH (o := ?o16) 11 (.agg #[.int .i64 x.key, .int .i64 x.window, .slice (some ⟨gg, 0, none⟩) 1 1, .int .i64 x.sk.count, .int .i64 x.sk.sum, .int .i64 x.sk.min, .int .i64 x.sk.max, .slice e1 r1 f1, .slice e2 r2 f2, .slice e3 r3 f3]) ?h16 ?r16
    case h16 => simp only [aT, aS, aZ]; rfl
    refine ⟨_, by simp [Act.put]; rfl, by kernel_rfl, by kernel_rfl, by kernel_rfl, fun _ _ _ h => h, (.inl ⟨rfl, fun W _ => by go_simp⟩), HS5.out, ?_⟩
    refine onlyH (o := ?o17) 12 (by kernel_rfl) ?h17 ?r17
    case h17 => simp only [aT, aS, aZ]; rfl
    intro K hK
    refine op_store 30 (w.heap.size + 1) #[.int .i64 0, .int .i64 0, .slice none 0 0, .int .i64 0, .int .i64 0, .int .i64 0, .int .i64 0, .slice none 0 0, .slice none 0 0, .slice none 0 0] #[.int .i64 x.key, .int .i64 x.window, .slice (some ⟨gg, 0, none⟩) 1 1, .int .i64 x.sk.count, .int .i64 x.sk.sum, .int .i64 x.sk.min, .int .i64 x.sk.max, .slice e1 r1 f1, .slice e2 r2 f2, .slice e3 r3 f3] 30 rfl rfl rfl rfl HZ5.out.1 infoEnA rfl (by simp [Value.oneCell']) ⟨_, by simp [Act.put]; rfl, hK _ _ ⟨HS5.out.setRowOther (by omega), ?_⟩⟩
    clear hK
    refine takeH (o := ?o18) 13 (.bool true) ?h18 ?r18
    case h18 => simp only [aT, aS, aZ]; rfl
    refine ⟨_, by simp [Act.put]; rfl, by kernel_rfl, by kernel_rfl, by kernel_rfl, fun _ _ _ h => h, (.inl ⟨rfl, fun W _ => by go_simp⟩), (HS5.out.setRowOther (by omega)), ?_⟩
    refine wpAnyH_done (by kernel_rfl) ?_ _
    have nf : w.heap.size + 1 ∉ [gg] := by have := HG.out.2.2.2.2.2; simp; omega
    have nx : w.heap.size + 1 ∉ X := fun hx => by have := HG.out.2.1.ge _ hx; omega
    obtain ⟨E, hE⟩ : ∃ E : Array Value, E = #[.int .i64 x.key, .int .i64 x.window, .slice (some ⟨gg, 0, none⟩) 1 1, .int .i64 x.sk.count, .int .i64 x.sk.sum, .int .i64 x.sk.min, .int .i64 x.sk.max, .slice e1 r1 f1, .slice e2 r2 f2, .slice e3 r3 f3] := ⟨_, rfl⟩
    rw [← hE]
    obtain ⟨w9, hw9⟩ : ∃ W, W = w5.setRow (w.heap.size + 1) E := ⟨_, rfl⟩
    have HF : Hid (Blk w9 (w.heap.size + 1) E 30 ∧ RdP w9 (some ⟨gg, 0, none⟩) 1 [(id, id)] [gg] ∧ RdSk w9 (.agg #[.int .i64 x.sk.count, .int .i64 x.sk.sum, .int .i64 x.sk.min, .int .i64 x.sk.max, .slice e1 r1 f1, .slice e2 r2 f2, .slice e3 r3 f3]) x.sk X ∧ Own w.heap.size w9 [gg] ∧ Own w.heap.size w9 X ∧ (∀ b ∈ [gg], b ∉ X) ∧ Below w.heap.size w w9) := by
      rw [hw9]
      exact ⟨HZ5.out.1.setRow, HG.out.2.2.1.agree (Agree.row nf E), HG.out.1.agree (Agree.row nx E), (HG.out.2.2.2.1.agree (Agree.row nf E)).mono (by omega), (HG.out.2.1.agree (Agree.row nx E)).mono (by omega), HG.out.2.2.2.2.1, below_setRow HZ5.out.2 (by omega) _⟩
    have HE : Hid (E = #[.int .i64 x.key, .int .i64 x.window, .slice (some ⟨gg, 0, none⟩) 1 1, .int .i64 x.sk.count, .int .i64 x.sk.sum, .int .i64 x.sk.min, .int .i64 x.sk.max, .slice e1 r1 f1, .slice e2 r2 f2, .slice e3 r3 f3] ∧ E.size = 10) := ⟨hE, by rw [hE]; rfl⟩
    rw [← hw9]
    clear hE hw9 HG nf nx
    go_wp2
    refine bodyPost_ret (results_row_tmp Try.results17 _ _ (w.heap.size + 1) _ _ (0, 0) _ rfl HF.out.1 Try.underlying30 rfl (by rw [HE.out.2]; exact infoEnA)) rfl ?_
    rw [It.entry_yes HV.out, HV.out, ← HID.out]
    exact ⟨⟨_, [gg], X, rfl, ⟨some ⟨gg, 0, none⟩, 1, 1, e1, r1, f1, e2, r2, f2, e3, r3, f3, by rw [HE.out.1], HF.out.2.1, HF.out.2.2.1, fun e => (by cases e), Nat.le_refl _⟩, HF.out.2.2.2.1, HF.out.2.2.2.2.1, HF.out.2.2.2.2.2.1, HF.out.2.2.2.2.2.2⟩, fun e => by cases e⟩
set_option maxRecDepth 200000 in
theorem entryOfSpec_any (ag : Int) (v : Value) (x : It) (F : List Nat) (w : World) (h : RdIt w v x F) (hw : x.sk.wide) :
    Calls Try.prog 17 #[.int .i64 ag, v] w fun e w' => NewEn2 w (x.entry ag) (x.entryOk ag) e w' := (entryOfSpec_z ag v x F w h hw).mono fun _ _ h => h.1
end Go.Proofs.Ytjndcfamfminkab
