/- The model's RowSame. No statement of the seat is proved here. -/
import Derived.Test.YtillnoeailnnfabRwHelp
import Derived.Test.YtillnoeailnnfabItSameS
namespace Go.Proofs.Ytillnoeailnnfab
open Go.RowKit
set_option maxRecDepth 200000 in
theorem sameSpecE_any (v u : Value) (x y : En) (F G : List Nat) (w : World) (h : RdE w v x F) (k : RdE w u y G) (hw : x.wide) (kw : y.wide) :
    Calls Try.prog 16 #[v, u] w fun e w' => e = .returned (.bool (decide (x = y))) ∧ Below w.heap.size w w' := by
  obtain ⟨F1, F2, rfl, h⟩ := h
  obtain ⟨G1, G2, rfl, k⟩ := k
  exact entrySameSpec_any v u x y F1 F2 G1 G2 w h k hw.1 kw.1 (by have := hw.2; omega) (by have := kw.2; omega)
set_option maxRecDepth 200000 in
set_option maxHeartbeats 2000000 in
theorem l10Entries_any (a b : Option Addr) (la lb ca cb : Nat) (xs ys : List En) (F G : List Nat) (w : World) (ha : RdL enK w a la xs F) (hb : RdL enK w b lb ys G) (hla : la ≤ 140737488355328) (hlb : lb ≤ 140737488355328) (hw : ∀ x ∈ xs, x.wide) (kw : ∀ y ∈ ys, y.wide) :
    Calls Try.prog 10 #[.slice a la ca, .slice b lb cb] w fun e w' => e = .returned (.bool (decide (xs = ys))) ∧ Below w.heap.size w w' := by
  have HX : Hid (RdL enK w a la xs F ∧ ∀ x ∈ xs, x.wide) := ⟨ha, hw⟩
  have HY : Hid (RdL enK w b lb ys G ∧ ∀ x ∈ ys, x.wide) := ⟨hb, kw⟩
  clear ha hb hw kw
  by_cases hl : la = lb
  rotate_left
  · have hne : ((la : Int) != (lb : Int)) = true := by simpa using (by omega : ¬ (la : Int) = (lb : Int))
    have HV : Hid (decide (xs = ys) = false) := dec_false (fun e => hl (by have h1 := HX.out.1.length; have h2 := HY.out.1.length; rw [← h1, ← h2, e]))
    clear hl
    go_enter Try.func10, Try.ntmps10
    go_wp2
    go_ret
    exact ⟨ret_bool HV.out.symm, Below.refl _ _⟩
  subst hl
  have hbne : ((la : Int) != (la : Int)) = false := by simp
  go_enter Try.func10, Try.ntmps10
  go_wp2_with fail
  go_loopw [5] (fun i wr => ∃ k : Nat, k ≤ la ∧ i = .int .i64 k ∧ Hid (xs.take k = ys.take k ∧ Below w.heap.size w wr)) (fun i _ => la - (intOf i).toNat)
  case atStart => exact ⟨0, by omega, rfl, rfl, Below.refl _ _⟩
  case round =>
    obtain ⟨k, hk, rfl, HT⟩ := hrel
    by_cases hlt : k < la
    · have hI : (k : Int) < (la : Int) := by omega
      obtain ⟨b1, o1, x, cs, Fi, rfl, hbw1, hx, hs1, hcc1, hr1⟩ := ens_at HX.out.1 hlt
      obtain ⟨b2, o2, y, ds, Gi, rfl, hbw2, hy, hs2, hcc2, hr2⟩ := ens_at HY.out.1 hlt
      have HP : Hid (xs[k]? = some x ∧ ys[k]? = some y ∧ x.wide ∧ y.wide ∧ cs.size = 10 ∧ ds.size = 10) := ⟨hx, hy, HX.out.2 x (List.mem_of_getElem? hx), HY.out.2 y (List.mem_of_getElem? hy), hs1, hs2⟩
      have HCW : Hid (∀ W, Below w.heap.size w W → ((∀ j, j < 10 → W.cell? ⟨b1, o1 + k * 10 + j, none⟩ = cs[j]?) ∧ ∀ j, j < 10 → W.cell? ⟨b2, o2 + k * 10 + j, none⟩ = ds[j]?) ∧ RdE W (.agg cs) x Fi ∧ RdE W (.agg ds) y Gi) := fun W hB => ⟨⟨fun j hj => by rw [← hcc1 j hj]; exact hB.cell (p := ⟨b1, o1 + k * 10 + j, none⟩) hbw1, fun j hj => by rw [← hcc2 j hj]; exact hB.cell (p := ⟨b2, o2 + k * 10 + j, none⟩) hbw2⟩, hr1.below hB, hr2.below hB⟩
      clear hx hy hs1 hs2 hcc1 hcc2 hr1 hr2
      go_wp2_with fail
      have HTd : Hid (Below w.heap.size w wr.drew) := Below.drew HT.out.2
      obtain ⟨Y, hY⟩ : ∃ Y, Y = wr.drew := ⟨_, rfl⟩
      rw [← hY] at HTd
      refine wp_region_held (S := fun W => (∀ j, j < 10 → W.cell? ⟨b1, o1 + k * 10 + j, none⟩ = cs[j]?) ∧ ∀ j, j < 10 → W.cell? ⟨b2, o2 + k * 10 + j, none⟩ = ds[j]?) (by kernel_rfl) ?_
      change wpAnyH _ _ _ _ _ _ _ _ (World.drew _)
      rw [← hY]
      clear hY
      refine takeH (o := ?o1) 0 (.slice (some ⟨b1, o1, none⟩) la ca) ?h1 ?r1
      case h1 => simp only [aT, aZ]; rfl
      refine ⟨_, by simp [Act.put]; rfl, by kernel_rfl, by kernel_rfl, by kernel_rfl, fun _ _ _ h => h, (.inl ⟨rfl, fun W _ => by kernel_rfl⟩), (HCW.out _ HTd.out).1, ?_⟩
      refine takeH (o := ?o2) 1 (.int .i64 k) ?h2 ?r2
      case h2 => simp only [aT, aS, aZ]; rfl
      refine ⟨_, by simp [Act.put]; rfl, by kernel_rfl, by kernel_rfl, by kernel_rfl, fun _ _ _ h => h, (.inl ⟨rfl, fun W _ => by kernel_rfl⟩), (HCW.out _ HTd.out).1, ?_⟩
      refine takeH (o := ?o3) 2 (.pointer (some ⟨b1, o1 + k * 10, none⟩)) ?h3 ?r3
      case h3 => simp only [aT, aS, aZ]; rfl
      refine ⟨_, by simp [Act.put]; rfl, by kernel_rfl, by kernel_rfl, by kernel_rfl, fun _ _ _ h => h, (.inl ⟨rfl, fun W _ => by go_simp; first | done | (intro h; omega) | (rw [if_pos (by omega)]; rfl)⟩), (HCW.out _ HTd.out).1, ?_⟩
      refine takeH (o := ?o4) 3 (.agg cs) ?h4 ?r4
      case h4 => simp only [aT, aS, aZ]; rfl
      refine ⟨_, by simp [Act.put]; rfl, by kernel_rfl, by kernel_rfl, by kernel_rfl, fun _ _ _ h => h, (yields_at 42 b1 (o1 + k * 10) 10 cs _ rfl rfl rfl Try.underlying42 rfl infoEnS2 HP.out.2.2.2.2.1 (fun W hW => hW.1)), (HCW.out _ HTd.out).1, ?_⟩
      refine takeH (o := ?o5) 4 (.slice (some ⟨b2, o2, none⟩) la cb) ?h5 ?r5
      case h5 => simp only [aT, aS, aZ]; rfl
      refine ⟨_, by simp [Act.put]; rfl, by kernel_rfl, by kernel_rfl, by kernel_rfl, fun _ _ _ h => h, (.inl ⟨rfl, fun W _ => by kernel_rfl⟩), (HCW.out _ HTd.out).1, ?_⟩
      refine takeH (o := ?o6) 5 (.int .i64 k) ?h6 ?r6
      case h6 => simp only [aT, aS, aZ]; rfl
      refine ⟨_, by simp [Act.put]; rfl, by kernel_rfl, by kernel_rfl, by kernel_rfl, fun _ _ _ h => h, (.inl ⟨rfl, fun W _ => by kernel_rfl⟩), (HCW.out _ HTd.out).1, ?_⟩
      refine takeH (o := ?o7) 6 (.pointer (some ⟨b2, o2 + k * 10, none⟩)) ?h7 ?r7
      case h7 => simp only [aT, aS, aZ]; rfl
      refine ⟨_, by simp [Act.put]; rfl, by kernel_rfl, by kernel_rfl, by kernel_rfl, fun _ _ _ h => h, (.inl ⟨rfl, fun W _ => by go_simp; first | done | (intro h; omega) | (rw [if_pos (by omega)]; rfl)⟩), (HCW.out _ HTd.out).1, ?_⟩
      refine takeH (o := ?o8) 7 (.agg ds) ?h8 ?r8
      case h8 => simp only [aT, aS, aZ]; rfl
      refine ⟨_, by simp [Act.put]; rfl, by kernel_rfl, by kernel_rfl, by kernel_rfl, fun _ _ _ h => h, (yields_at 42 b2 (o2 + k * 10) 10 ds _ rfl rfl rfl Try.underlying42 rfl infoEnS2 HP.out.2.2.2.2.2 (fun W hW => hW.2)), (HCW.out _ HTd.out).1, ?_⟩
      refine onlyH (o := ?o9) 8 (by kernel_rfl) ?h9 ?r9
      case h9 => simp only [aT, aS, aZ]; rfl
      intro K hK
      obtain ⟨d, hd⟩ : ∃ d, d = decide (x = y) := ⟨_, rfl⟩
      have HD : Hid (d = decide (x = y)) := hd
      refine op_call2' 16 _ _ _ Try.f16 (fun v w' => v = .bool d ∧ Below Y.heap.size Y w') rfl rfl Try.func16 (by kernel_rfl) (by kernel_rfl) ((sameSpecE_any (.agg cs) (.agg ds) x y Fi Gi Y (HCW.out _ HTd.out).2.1 (HCW.out _ HTd.out).2.2 HP.out.2.2.1 HP.out.2.2.2.1).mono (by rintro e w' ⟨rfl, h1⟩; exact ⟨_, rfl, by rw [hd], h1⟩)) ?_
      rintro v Y2 ⟨rfl, hb2⟩
      have HB3 : Hid (Below w.heap.size w Y2) := Below.next HTd.out hb2
      clear hb2 hd
      refine ⟨_, by simp [Act.put]; rfl, hK _ _ ⟨(HCW.out _ HB3.out).1, ?_⟩⟩
      clear hK
      refine onlyH (o := ?o10) 9 (by kernel_rfl) ?h10 ?r10
      case h10 => simp only [aT, aS, aZ]; rfl
      intro K hK
      refine op_value (.bool (!d)) rfl (by go_simp) ⟨_, by simp [Act.put]; rfl, hK _ _ ⟨(HCW.out _ HB3.out).1, ?_⟩⟩
      clear hK
      refine wpAnyH_done (by kernel_rfl) ?_ _
      cases d
      · have HV : Hid (decide (xs = ys) = false) := ens_ne_at HP.out.1 HP.out.2.1 (of_decide_eq_false HD.out.symm)
        go_wp2
        go_ret
        exact ⟨ret_bool HV.out.symm, HB3.out⟩
      · have HE : Hid (xs.take (k + 1) = ys.take (k + 1)) := ens_eq_step HP.out.1 HP.out.2.1 HT.out.1 (of_decide_eq_true HD.out.symm)
        go_wp2
        go_roundw
        case rel => exact ⟨k + 1, by omega, by go_num, HE.out, HB3.out⟩
        case measure => simp [intOf]; omega
    · obtain rfl : k = la := by omega
      have HV : Hid (decide (xs = ys) = true) := by
        have := HT.out.1
        rw [List.take_of_length_le (by rw [HX.out.1.length]; omega), List.take_of_length_le (by rw [HY.out.1.length]; omega)] at this
        exact dec_true this
      go_wp2
      go_ret
      exact ⟨ret_bool HV.out.symm, HT.out.2⟩
set_option maxRecDepth 200000 in
set_option maxHeartbeats 1000000 in
theorem rowSameSpec_any (v u : Value) (x y : Rw) (F G : List Nat) (w : World) (h : RdRw w v x F) (k : RdRw w u y G) (hw : x.wide) (kw : y.wide) :
    Calls Try.prog 5 #[v, u] w fun e w' => e = .returned (.bool (decide (x = y))) ∧ Below w.heap.size w w' := by
  obtain ⟨a, n, c, rfl, hL, _⟩ := h
  obtain ⟨b, m, d, rfl, kL, _⟩ := k
  have HX : Hid (RdL enK w a n x.list F ∧ RdL enK w b m y.list G ∧ n ≤ 140737488355328 ∧ m ≤ 140737488355328 ∧ (∀ z ∈ x.list, z.wide) ∧ ∀ z ∈ y.list, z.wide) := ⟨hL, kL, by rw [← hL.length]; exact Nat.le_trans hw.2 (by omega), by rw [← kL.length]; exact Nat.le_trans kw.2 (by omega), hw.1, kw.1⟩
  have HT : Hid (Two w #[.slice a n c] #[.slice b m d] 29 ((w.alloc (.cells #[.slice a n c] 29)).alloc (.cells #[.slice b m d] 29))) := Two.made w _ _ _
  clear hL kL hw kw
  go_enter Try.func5, Try.ntmps5
  go_wp2_with fail
  refine (l10Entries_any a b n m c d x.list y.list F G _ (HX.out.1.below HT.out.bel) (HX.out.2.1.below HT.out.bel) HX.out.2.2.1 HX.out.2.2.2.1 HX.out.2.2.2.2.1 HX.out.2.2.2.2.2).mono ?_
  rintro e w2 ⟨rfl, hb2⟩
  have HT2 : Hid (Below w.heap.size w w2) := Below.next HT.out.bel hb2
  have HE : Hid (decide (x.list = y.list) = decide (x = y)) := decide_eq_decide.2 ⟨Rw.eq_of, fun e => by rw [e]⟩
  obtain ⟨g, hg⟩ : ∃ d, d = decide (x.list = y.list) := ⟨_, rfl⟩
  rw [← hg]
  have HG : Hid (g = decide (x = y)) := hg.trans HE.out
  clear hb2 HT hg
  go_wp2
  go_ret
  exact ⟨ret_bool HG.out, HT2.out⟩
end Go.Proofs.Ytillnoeailnnfab
