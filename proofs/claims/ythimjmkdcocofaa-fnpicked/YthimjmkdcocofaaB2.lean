/- Several texts of mine, laid together. No statement of the seat is proved here. -/
import Derived.Test.YthimjmkdcocofaaB1
import Derived.Test.YthimjmkdcocofaaOwn
import Derived.Test.YthimjmkdcocofaaPart
import Derived.Test.YthimjmkdcocofaaArrEq
import Derived.Test.YthimjmkdcocofaaIntRows
import Derived.Test.YthimjmkdcocofaaSpData
import Derived.Test.YthimjmkdcocofaaItHelp
import Derived.Test.YthimjmkdcocofaaSkRoom
import Derived.Test.YthimjmkdcocofaaSkCopy
/- The walk through the model's Pick. No statement of the seat is proved here. -/
namespace Go.Proofs.Ythimjmkdcocofaa
open Go.RowKit
set_option maxRecDepth 200000 in
set_option maxHeartbeats 8000000 in
theorem pick_spec_bad (a1 a2 : Option Addr) (n1 k1 n2 k2 : Nat) (ss ws : List Int) (F1 F2 : List Nat) (q : Int) (v : Value) (x : Tu) (F : List Nat) (w : World) (h1 : RdI w a1 n1 ss F1) (h2 : RdI w a2 n2 ws F2) (h3 : RdTu w v x F) (hl1 : n1 ≤ 1048576) (hl2 : n2 ≤ 1048576) (hx : x.fits) (hbad : picks ss ws q x = false) :
    Calls Try.prog 10 #[.slice a1 n1 k1, .slice a2 n2 k2, .int .i64 q, v] w fun e w' => NewPick w (pick ss ws q x) e w' := by
  have HS1 : Hid (RdI w a1 n1 ss F1 ∧ n1 ≤ 140737488355328) := ⟨h1, by omega⟩
  have HS2 : Hid (RdI w a2 n2 ws F2 ∧ n2 ≤ 140737488355328) := ⟨h2, by omega⟩
  obtain ⟨cs, rfl, hz, _⟩ := h3.cells
  have HT : Hid (RdTu w (.agg cs) x F ∧ x.fits ∧ cs.size = 3) := ⟨h3, hx, hz⟩
  have HB : Hid (Two w cs #[.int .i64 0, .bool false, .slice none 0 0] 26 ((w.alloc (.cells cs 26)).alloc (.cells #[.int .i64 0, .bool false, .slice none 0 0] 26))) := Two.made w _ _ _
  have HV : Hid (pick ss ws q x = (-1, x) ∧ (nums ss 0 200 && nums ws 1 4 && decide (1 ≤ q ∧ q ≤ 60) && x.ok) = false) := ⟨pick_bad hbad, hbad⟩
  clear hbad
  clear h1 h2 h3 hx hz hl1 hl2
  go_enter Try.func10, Try.ntmps10
  go_wp2_with (first | go_skip | (with_reducible refine stopLoad 26 rfl ?_) | (with_reducible refine stopStore 26 rfl ?_))
  refine load_known 26 w.heap.size cs 26 _ HB.out.fst rfl rfl rfl Try.underlying26 rfl (tuSize HT.out.2.2) ?_
  go_wp2_with fail
  refine (l11Copy_any _ x F _ (HT.out.1.below HB.out.bel) HT.out.2.1).mono ?_
  rintro e w1 ⟨v1, G, rfl, r1, o1, b1⟩
  obtain ⟨c1, rfl, z1, n1'⟩ := r1.cells
  have H1 : Hid (Two w cs #[.int .i64 0, .bool false, .slice none 0 0] 26 w1 ∧ RdTu w1 (.agg c1) x G ∧ (∀ b ∈ G, w.heap.size + 2 ≤ b) ∧ Own w.heap.size w1 G ∧ w.heap.size + 2 ≤ w1.heap.size) := ⟨HB.out.below b1, r1, fun b hb => Nat.le_trans HB.out.snd.lt (o1.ge b hb), o1.mono HB.out.bel.size, Nat.le_trans HB.out.snd.lt b1.size⟩
  have HC : Hid (c1.size = 3 ∧ c1.all (·.oneCell') = true) := ⟨z1, n1'⟩
  clear r1 o1 b1 z1 n1' HB
  go_wp2_with (first | go_skip | (with_reducible refine stopLoad 26 rfl ?_) | (with_reducible refine stopStore 26 rfl ?_))
  refine store_fresh 26 w1.heap.size rfl #[.int .i64 0, .bool false, .slice none 0 0] c1 26 rfl rfl rfl rfl (tuSize HC.out.1) HC.out.1.symm HC.out.2 ?_
  intro w2 hg hb
  have HK : Hid (PkH w cs c1 x w1.heap.size G w2) := ⟨H1.out.1.below hb, hg, H1.out.2.1.below hb, H1.out.2.2.2.1.below H1.out.2.1.lt hb, H1.out.2.2.2.2, H1.out.2.2.1, fun hx => by have := H1.out.2.1.lt _ hx; omega⟩
  obtain ⟨X, hX⟩ : ∃ X, X = w1.heap.size := ⟨_, rfl⟩
  rw [← hX] at HK ⊢
  clear hg hb H1 hX
  go_wp2_with fail
  refine (l11Nums_any _ _ _ ss F1 _ _ _ (HS1.out.1.below HK.out.two.bel) HS1.out.2).mono ?_
  rintro e w' ⟨rfl, hw⟩
  have hw' := hw.symm
  subst hw'
  clear hw
  obtain ⟨d1, hd1⟩ : ∃ d, d = nums ss 0 200 := ⟨_, rfl⟩
  rw [← hd1] at HV ⊢
  clear hd1
  cases d1
  · skip
    go_wp2_with fail
    refine wp_region_held (S := fun W => Blk W X c1 26) (by kernel_rfl) ?_
    change wpAnyH _ _ _ _ _ _ _ _ (World.drew _)
    have BD := (Below.refl w2.heap.size w2).drew
    obtain ⟨Y0, hY0⟩ : ∃ Y, Y = w2.drew := ⟨_, rfl⟩
    rw [← hY0] at BD ⊢
    have HK : Hid (PkH w cs c1 x X G Y0) := HK.out.below BD
    have HS : Hid (Blk Y0 X c1 26) := HK.out.blk
    clear hY0 BD
    refine takeH (o := ?o1) 0 (.agg c1) ?h1 ?r1
    case h1 => simp only [aT, aZ]; rfl
    refine ⟨_, by simp [Act.put]; rfl, by kernel_rfl, by kernel_rfl, by kernel_rfl, fun _ _ _ h => h, (yields_whole 26 _ c1 26 _ rfl rfl rfl Try.underlying26 rfl (tuSize HC.out.1) (fun W hW => hW)), HS.out, ?_⟩
    refine takeH (o := ?o2) 1 (.int .i64 (-1)) ?h2 ?r2
    case h2 => simp only [aT, aS, aZ]; rfl
    refine ⟨_, by simp [Act.put]; rfl, by kernel_rfl, by kernel_rfl, by kernel_rfl, fun _ _ _ h => h, (.inl ⟨rfl, fun W _ => by kernel_rfl⟩), HS.out, ?_⟩
    refine onlyH (o := ?o3) 2 (by kernel_rfl) ?h3 ?r3
    case h3 => simp only [aT, aS, aZ]; rfl
    intro K hK
    refine op_store 26 (w.heap.size + 1) #[.int .i64 0, .bool false, .slice none 0 0] c1 26 rfl rfl rfl rfl HK.out.two.snd (tuSize HC.out.1) HC.out.1.symm HC.out.2 ⟨_, by simp [Act.put]; rfl, hK _ _ ⟨HS.out.setRowOther (by have := HK.out.ge; omega), ?_⟩⟩
    clear hK
    refine wpAnyH_done (by kernel_rfl) ?_ _
    go_wp2
    refine bodyPost_ret (results_tmp_rowT Try.results10 _ _ (w.heap.size + 1) _ _ (0, 0) _ rfl HK.out.two.snd.setRow Try.underlying26 rfl (tuSize HC.out.1)) rfl ?_
    rw [HV.out.1]
    have ag := Agree.row (w := Y0) (g := w.heap.size + 1) (F := G) (fun hx => by have := HK.out.gg _ hx; omega) c1
    exact ⟨_, G, rfl, HK.out.rd.agree ag, HK.out.own.agree ag, below_setRow HK.out.two.bel (by omega) _⟩
  · skip
    go_wp2_with fail
    refine (l11Nums_any _ _ _ ws F2 _ _ _ (HS2.out.1.below HK.out.two.bel) HS2.out.2).mono ?_
    rintro e w' ⟨rfl, hw⟩
    have hw' := hw.symm
    subst hw'
    clear hw
    obtain ⟨d2, hd2⟩ : ∃ d, d = nums ws 1 4 := ⟨_, rfl⟩
    rw [← hd2] at HV ⊢
    clear hd2
    cases d2
    · skip
      go_wp2_with fail
      refine wp_region_held (S := fun W => Blk W X c1 26) (by kernel_rfl) ?_
      change wpAnyH _ _ _ _ _ _ _ _ (World.drew _)
      have BD := (Below.refl w2.heap.size w2).drew
      obtain ⟨Y0, hY0⟩ : ∃ Y, Y = w2.drew := ⟨_, rfl⟩
      rw [← hY0] at BD ⊢
      have HK : Hid (PkH w cs c1 x X G Y0) := HK.out.below BD
      have HS : Hid (Blk Y0 X c1 26) := HK.out.blk
      clear hY0 BD
      refine takeH (o := ?o4) 0 (.agg c1) ?h4 ?r4
      case h4 => simp only [aT, aZ]; rfl
      refine ⟨_, by simp [Act.put]; rfl, by kernel_rfl, by kernel_rfl, by kernel_rfl, fun _ _ _ h => h, (yields_whole 26 _ c1 26 _ rfl rfl rfl Try.underlying26 rfl (tuSize HC.out.1) (fun W hW => hW)), HS.out, ?_⟩
      refine takeH (o := ?o5) 1 (.int .i64 (-1)) ?h5 ?r5
      case h5 => simp only [aT, aS, aZ]; rfl
      refine ⟨_, by simp [Act.put]; rfl, by kernel_rfl, by kernel_rfl, by kernel_rfl, fun _ _ _ h => h, (.inl ⟨rfl, fun W _ => by kernel_rfl⟩), HS.out, ?_⟩
      refine onlyH (o := ?o6) 2 (by kernel_rfl) ?h6 ?r6
      case h6 => simp only [aT, aS, aZ]; rfl
      intro K hK
      refine op_store 26 (w.heap.size + 1) #[.int .i64 0, .bool false, .slice none 0 0] c1 26 rfl rfl rfl rfl HK.out.two.snd (tuSize HC.out.1) HC.out.1.symm HC.out.2 ⟨_, by simp [Act.put]; rfl, hK _ _ ⟨HS.out.setRowOther (by have := HK.out.ge; omega), ?_⟩⟩
      clear hK
      refine wpAnyH_done (by kernel_rfl) ?_ _
      go_wp2
      refine bodyPost_ret (results_tmp_rowT Try.results10 _ _ (w.heap.size + 1) _ _ (0, 0) _ rfl HK.out.two.snd.setRow Try.underlying26 rfl (tuSize HC.out.1)) rfl ?_
      rw [HV.out.1]
      have ag := Agree.row (w := Y0) (g := w.heap.size + 1) (F := G) (fun hx => by have := HK.out.gg _ hx; omega) c1
      exact ⟨_, G, rfl, HK.out.rd.agree ag, HK.out.own.agree ag, below_setRow HK.out.two.bel (by omega) _⟩
    · skip
      go_wp2_with fail
      refine (l1In_any _ _ _ _).mono ?_
      rintro e w' ⟨rfl, hw⟩
      have hw' := hw.symm
      subst hw'
      clear hw
      obtain ⟨d3, hd3⟩ : ∃ d, d = decide (1 ≤ q ∧ q ≤ 60) := ⟨_, rfl⟩
      rw [← hd3] at HV ⊢
      clear hd3
      cases d3
      · skip
        go_wp2_with fail
        refine wp_region_held (S := fun W => Blk W X c1 26) (by kernel_rfl) ?_
        change wpAnyH _ _ _ _ _ _ _ _ (World.drew _)
        have BD := (Below.refl w2.heap.size w2).drew
        obtain ⟨Y0, hY0⟩ : ∃ Y, Y = w2.drew := ⟨_, rfl⟩
        rw [← hY0] at BD ⊢
        have HK : Hid (PkH w cs c1 x X G Y0) := HK.out.below BD
        have HS : Hid (Blk Y0 X c1 26) := HK.out.blk
        clear hY0 BD
        refine takeH (o := ?o7) 0 (.agg c1) ?h7 ?r7
        case h7 => simp only [aT, aZ]; rfl
        refine ⟨_, by simp [Act.put]; rfl, by kernel_rfl, by kernel_rfl, by kernel_rfl, fun _ _ _ h => h, (yields_whole 26 _ c1 26 _ rfl rfl rfl Try.underlying26 rfl (tuSize HC.out.1) (fun W hW => hW)), HS.out, ?_⟩
        refine takeH (o := ?o8) 1 (.int .i64 (-1)) ?h8 ?r8
        case h8 => simp only [aT, aS, aZ]; rfl
        refine ⟨_, by simp [Act.put]; rfl, by kernel_rfl, by kernel_rfl, by kernel_rfl, fun _ _ _ h => h, (.inl ⟨rfl, fun W _ => by kernel_rfl⟩), HS.out, ?_⟩
        refine onlyH (o := ?o9) 2 (by kernel_rfl) ?h9 ?r9
        case h9 => simp only [aT, aS, aZ]; rfl
        intro K hK
        refine op_store 26 (w.heap.size + 1) #[.int .i64 0, .bool false, .slice none 0 0] c1 26 rfl rfl rfl rfl HK.out.two.snd (tuSize HC.out.1) HC.out.1.symm HC.out.2 ⟨_, by simp [Act.put]; rfl, hK _ _ ⟨HS.out.setRowOther (by have := HK.out.ge; omega), ?_⟩⟩
        clear hK
        refine wpAnyH_done (by kernel_rfl) ?_ _
        go_wp2
        refine bodyPost_ret (results_tmp_rowT Try.results10 _ _ (w.heap.size + 1) _ _ (0, 0) _ rfl HK.out.two.snd.setRow Try.underlying26 rfl (tuSize HC.out.1)) rfl ?_
        rw [HV.out.1]
        have ag := Agree.row (w := Y0) (g := w.heap.size + 1) (F := G) (fun hx => by have := HK.out.gg _ hx; omega) c1
        exact ⟨_, G, rfl, HK.out.rd.agree ag, HK.out.own.agree ag, below_setRow HK.out.two.bel (by omega) _⟩
      · skip
        go_wp2_with (first | go_skip | (with_reducible refine stopLoad 26 rfl ?_) | (with_reducible refine stopStore 26 rfl ?_))
        refine load_any 26 w.heap.size cs 26 _ HK.out.two.fst rfl rfl rfl Try.underlying26 rfl (tuSize HT.out.2.2) ?_
        go_wp2_with fail
        refine (turnOkSpec_any _ x F _ (HT.out.1.below HK.out.two.bel) HT.out.2.1.wide).mono ?_
        rintro e w3 ⟨rfl, hb⟩
        have HK : Hid (PkH w cs c1 x X G w3) := HK.out.below hb
        clear hb
        obtain ⟨d4, hd4⟩ : ∃ d, d = x.ok := ⟨_, rfl⟩
        rw [← hd4] at HV ⊢
        clear hd4
        cases d4
        · skip
          go_wp2_with fail
          refine wp_region_held (S := fun W => Blk W X c1 26) (by kernel_rfl) ?_
          change wpAnyH _ _ _ _ _ _ _ _ (World.drew _)
          have BD := (Below.refl w3.heap.size w3).drew
          obtain ⟨Y0, hY0⟩ : ∃ Y, Y = w3.drew := ⟨_, rfl⟩
          rw [← hY0] at BD ⊢
          have HK : Hid (PkH w cs c1 x X G Y0) := HK.out.below BD
          have HS : Hid (Blk Y0 X c1 26) := HK.out.blk
          clear hY0 BD
          refine takeH (o := ?o10) 0 (.agg c1) ?h10 ?r10
          case h10 => simp only [aT, aZ]; rfl
          refine ⟨_, by simp [Act.put]; rfl, by kernel_rfl, by kernel_rfl, by kernel_rfl, fun _ _ _ h => h, (yields_whole 26 _ c1 26 _ rfl rfl rfl Try.underlying26 rfl (tuSize HC.out.1) (fun W hW => hW)), HS.out, ?_⟩
          refine takeH (o := ?o11) 1 (.int .i64 (-1)) ?h11 ?r11
          case h11 => simp only [aT, aS, aZ]; rfl
          refine ⟨_, by simp [Act.put]; rfl, by kernel_rfl, by kernel_rfl, by kernel_rfl, fun _ _ _ h => h, (.inl ⟨rfl, fun W _ => by kernel_rfl⟩), HS.out, ?_⟩
          refine onlyH (o := ?o12) 2 (by kernel_rfl) ?h12 ?r12
          case h12 => simp only [aT, aS, aZ]; rfl
          intro K hK
          refine op_store 26 (w.heap.size + 1) #[.int .i64 0, .bool false, .slice none 0 0] c1 26 rfl rfl rfl rfl HK.out.two.snd (tuSize HC.out.1) HC.out.1.symm HC.out.2 ⟨_, by simp [Act.put]; rfl, hK _ _ ⟨HS.out.setRowOther (by have := HK.out.ge; omega), ?_⟩⟩
          clear hK
          refine wpAnyH_done (by kernel_rfl) ?_ _
          go_wp2
          refine bodyPost_ret (results_tmp_rowT Try.results10 _ _ (w.heap.size + 1) _ _ (0, 0) _ rfl HK.out.two.snd.setRow Try.underlying26 rfl (tuSize HC.out.1)) rfl ?_
          rw [HV.out.1]
          have ag := Agree.row (w := Y0) (g := w.heap.size + 1) (F := G) (fun hx => by have := HK.out.gg _ hx; omega) c1
          exact ⟨_, G, rfl, HK.out.rd.agree ag, HK.out.own.agree ag, below_setRow HK.out.two.bel (by omega) _⟩
        · exact absurd HV.out.2 (by simp)
set_option maxRecDepth 200000 in
set_option maxHeartbeats 16000000 in
theorem pick_spec_good (a1 a2 : Option Addr) (n1 k1 n2 k2 : Nat) (ss ws : List Int) (F1 F2 : List Nat) (q : Int) (v : Value) (x : Tu) (F : List Nat) (w : World) (h1 : RdI w a1 n1 ss F1) (h2 : RdI w a2 n2 ws F2) (h3 : RdTu w v x F) (hl1 : n1 ≤ 1048576) (hl2 : n2 ≤ 1048576) (hx : x.fits) (hgood : picks ss ws q x = true) :
    Calls Try.prog 10 #[.slice a1 n1 k1, .slice a2 n2 k2, .int .i64 q, v] w fun e w' => NewPick w (pick ss ws q x) e w' := by
  have HS1 : Hid (RdI w a1 n1 ss F1 ∧ n1 ≤ 140737488355328) := ⟨h1, by omega⟩
  have HS2 : Hid (RdI w a2 n2 ws F2 ∧ n2 ≤ 140737488355328) := ⟨h2, by omega⟩
  obtain ⟨cs, rfl, hz, _⟩ := h3.cells
  have HT : Hid (RdTu w (.agg cs) x F ∧ x.fits ∧ cs.size = 3) := ⟨h3, hx, hz⟩
  have HB : Hid (Two w cs #[.int .i64 0, .bool false, .slice none 0 0] 26 ((w.alloc (.cells cs 26)).alloc (.cells #[.int .i64 0, .bool false, .slice none 0 0] 26))) := Two.made w _ _ _
  obtain ⟨e1, e2, e3, e4⟩ := picks_all hgood
  have hn1 : n1 = 3 := by rw [← h1.length]; exact (nums_iff.1 e1).1
  have hn2 : n2 = 3 := by rw [← h2.length]; exact (nums_iff.1 e2).1
  subst hn1 hn2
  obtain ⟨b1, o1, rfl, rfl⟩ := h1.single (by omega)
  obtain ⟨b2, o2, rfl, rfl⟩ := h2.single (by omega)
  have HE : Hid (nums ss 0 200 = true ∧ nums ws 1 4 = true ∧ decide (1 ≤ q ∧ q ≤ 60) = true ∧ x.ok = true ∧ picks ss ws q x = true) := ⟨e1, e2, e3, e4, hgood⟩
  have hq : 1 ≤ q ∧ q ≤ 60 := of_decide_eq_true e3
  clear e1 e2 e3 e4 hgood
  clear h1 h2 h3 hx hz hl1 hl2
  go_enter Try.func10, Try.ntmps10
  go_wp2_with (first | go_skip | (with_reducible refine stopLoad 26 rfl ?_) | (with_reducible refine stopStore 26 rfl ?_))
  refine load_known 26 w.heap.size cs 26 _ HB.out.fst rfl rfl rfl Try.underlying26 rfl (tuSize HT.out.2.2) ?_
  go_wp2_with fail
  refine (l11Copy_any _ x F _ (HT.out.1.below HB.out.bel) HT.out.2.1).mono ?_
  rintro e w1 ⟨v1, G, rfl, r1, o1, b1⟩
  obtain ⟨c1, rfl, z1, n1'⟩ := r1.cells
  have H1 : Hid (Two w cs #[.int .i64 0, .bool false, .slice none 0 0] 26 w1 ∧ RdTu w1 (.agg c1) x G ∧ (∀ b ∈ G, w.heap.size + 2 ≤ b) ∧ Own w.heap.size w1 G ∧ w.heap.size + 2 ≤ w1.heap.size) := ⟨HB.out.below b1, r1, fun b hb => Nat.le_trans HB.out.snd.lt (o1.ge b hb), o1.mono HB.out.bel.size, Nat.le_trans HB.out.snd.lt b1.size⟩
  have HC : Hid (c1.size = 3 ∧ c1.all (·.oneCell') = true) := ⟨z1, n1'⟩
  clear r1 o1 b1 z1 n1' HB
  go_wp2_with (first | go_skip | (with_reducible refine stopLoad 26 rfl ?_) | (with_reducible refine stopStore 26 rfl ?_))
  refine store_fresh 26 w1.heap.size rfl #[.int .i64 0, .bool false, .slice none 0 0] c1 26 rfl rfl rfl rfl (tuSize HC.out.1) HC.out.1.symm HC.out.2 ?_
  intro w2 hg hb
  have HK : Hid (PkH w cs c1 x w1.heap.size G w2) := ⟨H1.out.1.below hb, hg, H1.out.2.1.below hb, H1.out.2.2.2.1.below H1.out.2.1.lt hb, H1.out.2.2.2.2, H1.out.2.2.1, fun hx => by have := H1.out.2.1.lt _ hx; omega⟩
  obtain ⟨X, hX⟩ : ∃ X, X = w1.heap.size := ⟨_, rfl⟩
  rw [← hX] at HK ⊢
  clear hg hb H1 hX
  go_wp2_with fail
  refine (l11Nums_any _ _ _ ss [b1] _ _ _ (HS1.out.1.below HK.out.two.bel) HS1.out.2).mono ?_
  rintro e w' ⟨rfl, hw⟩
  have hw' := hw.symm
  subst hw'
  clear hw
  rw [HE.out.1]
  go_wp2_with fail
  refine (l11Nums_any _ _ _ ws [b2] _ _ _ (HS2.out.1.below HK.out.two.bel) HS2.out.2).mono ?_
  rintro e w' ⟨rfl, hw⟩
  have hw' := hw.symm
  subst hw'
  clear hw
  rw [HE.out.2.1]
  go_wp2_with fail
  refine (l1In_any _ _ _ _).mono ?_
  rintro e w' ⟨rfl, hw⟩
  have hw' := hw.symm
  subst hw'
  clear hw
  rw [HE.out.2.2.1]
  go_wp2_with (first | go_skip | (with_reducible refine stopLoad 26 rfl ?_) | (with_reducible refine stopStore 26 rfl ?_))
  refine load_any 26 w.heap.size cs 26 _ HK.out.two.fst rfl rfl rfl Try.underlying26 rfl (tuSize HT.out.2.2) ?_
  go_wp2_with fail
  refine (turnOkSpec_any _ x F _ (HT.out.1.below HK.out.two.bel) HT.out.2.1.wide).mono ?_
  rintro e w3 ⟨rfl, hb⟩
  have HK : Hid (PkH w cs c1 x X G w3) := HK.out.below hb
  clear hb
  rw [HE.out.2.2.2.1]
  go_wp2_with fail
  refine (l11Nums_any _ _ _ ss [b1] _ _ _ (HS1.out.1.below HK.out.two.bel) HS1.out.2).mono ?_
  rintro e w' ⟨rfl, hw⟩
  have hw' := hw.symm
  subst hw'
  clear hw
  obtain ⟨z, hz⟩ : ∃ z, z = nums ss 0 0 := ⟨_, rfl⟩
  rw [← hz]
  have HZ : Hid (z = nums ss 0 0) := hz
  clear hz
  cases z
  rotate_left
  · skip
    have HV : Hid (pick ss ws q x = (-1, Tu.new)) := pick_zero HE.out.2.2.2.2 HZ.out.symm
    go_wp2_with fail
    refine (turnNewSpec_any _).mono ?_
    rintro e w5 ⟨v5, G5, rfl, r5, o5, b5⟩
    obtain ⟨c5, rfl, z5, n5⟩ := r5.cells
    have H5 : Hid (Two w cs #[.int .i64 0, .bool false, .slice none 0 0] 26 w5 ∧ RdTu w5 (.agg c5) Tu.new G5 ∧ Own w.heap.size w5 G5 ∧ c5.size = 3 ∧ c5.all (·.oneCell') = true ∧ ∀ b ∈ G5, w.heap.size + 2 ≤ b) := ⟨HK.out.two.below b5, r5, o5.mono HK.out.two.bel.size, z5, n5, fun b hb => Nat.le_trans HK.out.two.snd.lt (o5.ge b hb)⟩
    clear r5 o5 b5 z5 n5
    go_wp2_with (first | go_skip | (with_reducible refine stopLoad 26 rfl ?_) | (with_reducible refine stopStore 26 rfl ?_))
    refine store_known 26 (w.heap.size + 1) _ c5 26 H5.out.1.snd rfl rfl rfl rfl (tuSize H5.out.2.2.2.1) H5.out.2.2.2.1.symm H5.out.2.2.2.2.1 ?_
    go_wp2
    refine bodyPost_ret (results_tmp_rowT Try.results10 _ _ (w.heap.size + 1) _ _ (0, 0) _ rfl H5.out.1.snd.setRow Try.underlying26 rfl (tuSize H5.out.2.2.2.1)) rfl ?_
    rw [HV.out]
    have ag := Agree.row (w := w5) (g := w.heap.size + 1) (F := G5) (fun hx => by have := H5.out.2.2.2.2.2 _ hx; omega) c5
    exact ⟨_, G5, rfl, H5.out.2.1.agree ag, H5.out.2.2.1.agree ag, below_setRow H5.out.1.bel (by omega) _⟩
  have HV : Hid (pick ss ws q x = ((pickN ss ws q 20000 x).who, pickN ss ws q 20000 x)) := pick_some HE.out.2.2.2.2 HZ.out.symm
  have HI : Hid (PickIn ss ws q x) := picks_in HE.out.2.2.2.2 HZ.out.symm
  obtain ⟨l0, l1, l2, hl3, _⟩ := ok_three HE.out.2.2.2.1
  obtain ⟨L, off, cap, hc1, hpv⟩ : ∃ L off cap, c1 = #[.int .i64 x.who, .bool x.fresh, .slice (some ⟨L, off, none⟩) 3 cap] ∧ PV w3 (w.heap.size + 2) X L off cap x := by
    obtain ⟨bb, ll, cc, he, hR⟩ := HK.out.rd
    obtain rfl : ll = 3 := by rw [← hR.length, hl3]; rfl
    obtain ⟨L, off, rfl, rfl⟩ := hR.single (by omega)
    injection he with he
    exact ⟨L, off, cc, he, by have := HK.out.blk; rw [he] at this; exact this, hR, ⟨HK.out.own.nodup, HK.out.own.free, HK.out.gg⟩, fun e => HK.out.ne (e ▸ by simp), HK.out.ge⟩
  have HP : Hid (PV w3 (w.heap.size + 2) X L off cap x ∧ Blk w3 (w.heap.size + 1) #[.int .i64 0, .bool false, .slice none 0 0] 26 ∧ Below w.heap.size w w3) := ⟨hpv, HK.out.two.snd, HK.out.two.bel⟩
  clear hl3 hc1 hpv HC HK HT
  go_wp2_with fail
  go_loopg [35] 20000 (fun g _ wr => ∃ y, Hid (PickIn ss ws q y ∧ y.mu ss < g ∧ pickN ss ws q g y = pickN ss ws q 20000 x ∧ PV wr (w.heap.size + 2) X L off cap y ∧ Below w.heap.size w wr ∧ Blk wr (w.heap.size + 1) #[.int .i64 0, .bool false, .slice none 0 0] 26))
  case atStart => exact ⟨x, HI.out, mu_le HI.out.ok, rfl, HP.out.1, HP.out.2.2, HP.out.2.1⟩
  case round =>
    clear HP HI
    obtain ⟨y, HY⟩ := hrel
    obtain ⟨yk, yf, ys⟩ := y
    obtain ⟨m0, m1, m2, hm, hm0, hm1, hm2, hk0⟩ := ok_three HY.out.1.ok
    obtain ⟨k, rfl⟩ : ∃ k : Nat, yk = k := ⟨yk.toNat, by have := hk0.1; simp only at this; omega⟩
    have hk3 : k < 3 := by have := hk0.2; simp only at this; omega
    have HR : Hid (0 ≤ ys.getD k 0 ∧ ys.getD k 0 ≤ 1000) := by
      have hm' : ys = [m0, m1, m2] := hm
      subst hm'
      show _ ∧ _
      match k, hk3 with
      | 0, _ => exact hm0
      | 1, _ => exact hm1
      | 2, _ => exact hm2
    clear hm hm0 hm1 hm2 hk0
    obtain ⟨s, hs⟩ : ∃ s, s = ss.getD k 0 := ⟨_, rfl⟩
    obtain ⟨wt, hwt⟩ : ∃ s, s = ws.getD k 0 := ⟨_, rfl⟩
    obtain ⟨sh, hsh⟩ : ∃ s, s = q * wt := ⟨_, rfl⟩
    have hsr : 0 ≤ s ∧ s ≤ 200 := by
      obtain ⟨p1, p2⟩ := nums_iff.1 HE.out.1
      rw [hs]; exact p2 _ (mem_getD (by omega))
    have hwr : 1 ≤ wt ∧ wt ≤ 4 := by
      obtain ⟨p1, p2⟩ := nums_iff.1 HE.out.2.1
      rw [hwt]; exact p2 _ (mem_getD (by omega))
    have hshr : 1 ≤ sh ∧ sh ≤ 240 := by rw [hsh]; exact share_range hq hwr
    have hmul : q * wt = sh := hsh.symm
    have hwp : IntKind.i64.wrap sh = sh := by simp [IntKind.wrap, IntKind.bits, IntKind.signed]; omega
    have HQ : Hid (s = ss.getD k 0 ∧ wt = ws.getD k 0 ∧ sh = q * wt) := ⟨hs, hwt, hsh⟩
    have HAT : Hid (Tu.at ⟨(k : Int), yf, ys⟩ ss ws q = Tu.step ⟨(k : Int), yf, ys⟩ s sh) := by
      show _ = _; unfold Tu.at; simp only [Int.toNat_natCast]; rw [← hs, ← hwt, hmul]
    have HCS : Hid (wr.cell? ⟨b1, o1 + k, none⟩ = some (.int .i64 s) ∧ wr.cell? ⟨b2, o2 + k, none⟩ = some (.int .i64 wt)) := ⟨by rw [hs]; exact (HS1.out.1.below HY.out.2.2.2.2.1).at k hk3, by rw [hwt]; exact (HS2.out.1.below HY.out.2.2.2.2.1).at k hk3⟩
    clear hs hwt hsh
    obtain ⟨g, hg⟩ : ∃ g, gk = g + 1 := ⟨gk - 1, by have := HY.out.2.1; omega⟩
    subst hg
    have hI : (k : Int) < 3 := by omega
    have HPA : Hid (PickIn ss ws q ⟨(k : Int), yf, ys⟩ ∧ Tu.mu ⟨(k : Int), yf, ys⟩ ss < g + 1 ∧ pickN ss ws q (g + 1) ⟨(k : Int), yf, ys⟩ = pickN ss ws q 20000 x) := ⟨HY.out.1, HY.out.2.1, HY.out.2.2.1⟩
    have HA : Hid (PV wr (w.heap.size + 2) X L off cap ⟨(k : Int), yf, ys⟩ ∧ Below w.heap.size w wr ∧ Blk wr (w.heap.size + 1) #[.int .i64 0, .bool false, .slice none 0 0] 26) := HY.out.2.2.2
    have S4 : ∀ W f zs, PV W (w.heap.size + 2) X L off cap ⟨(k : Int), f, zs⟩ → Below w.heap.size w W → W.cell? ⟨X, 0, none⟩ = some (.int .i64 (k : Int)) ∧ W.cell? ⟨X, 2, none⟩ = some (.slice (some ⟨L, off, none⟩) 3 cap) ∧ W.cell? ⟨b1, o1 + k, none⟩ = some (.int .i64 s) ∧ W.cell? ⟨b2, o2 + k, none⟩ = some (.int .i64 wt) := by
      intro W f zs h b
      refine ⟨h.blk.cell 0, h.blk.cell 2, ?_, ?_⟩
      · rw [HQ.out.1]; exact (HS1.out.1.below b).at k hk3
      · rw [HQ.out.2.1]; exact (HS2.out.1.below b).at k hk3
    have HS4 : Hid (∀ W f zs, PV W (w.heap.size + 2) X L off cap ⟨(k : Int), f, zs⟩ → Below w.heap.size w W → W.cell? ⟨X, 0, none⟩ = some (.int .i64 (k : Int)) ∧ W.cell? ⟨X, 2, none⟩ = some (.slice (some ⟨L, off, none⟩) 3 cap) ∧ W.cell? ⟨b1, o1 + k, none⟩ = some (.int .i64 s) ∧ W.cell? ⟨b2, o2 + k, none⟩ = some (.int .i64 wt)) := S4
    have hNX : ∀ z : Tu × Bool, z = Tu.step ⟨(k : Int), yf, ys⟩ s sh → z.2 = false → ∀ m, m = ((k : Int) + 1) % 3 → PickIn ss ws q ⟨m, true, z.1.left⟩ ∧ Tu.mu ⟨m, true, z.1.left⟩ ss < g ∧ pickN ss ws q g ⟨m, true, z.1.left⟩ = pickN ss ws q 20000 x := by
      intro z hz hb m hm
      have hn : (Tu.at ⟨(k : Int), yf, ys⟩ ss ws q).2 = false := by rw [HAT.out, ← hz]; exact hb
      have hnx : (Tu.at ⟨(k : Int), yf, ys⟩ ss ws q).1.next = ⟨m, true, z.1.left⟩ := by rw [HAT.out, ← hz, hm]; unfold Tu.next; rw [hz, step_who]
      obtain ⟨p1, p2⟩ := step_mu HPA.out.1 hn
      have p3 := HPA.out.2.2
      rw [pickN_no hn] at p3
      rw [hnx] at p1 p2 p3
      exact ⟨p2, by have := HPA.out.2.1; omega, p3⟩
    have HNX : Hid (∀ z : Tu × Bool, z = Tu.step ⟨(k : Int), yf, ys⟩ s sh → z.2 = false → ∀ m, m = ((k : Int) + 1) % 3 → PickIn ss ws q ⟨m, true, z.1.left⟩ ∧ Tu.mu ⟨m, true, z.1.left⟩ ss < g ∧ pickN ss ws q g ⟨m, true, z.1.left⟩ = pickN ss ws q 20000 x) := hNX
    clear S4 hNX HY HCS
    obtain ⟨c0, c2, cs1, cw1⟩ := HS4.out _ _ _ HA.out.1 HA.out.2.1
    by_cases h0 : s = 0
    · have h0' : (s == 0) = true := by simpa using h0
      have HE0 : Hid (Tu.step ⟨(k : Int), yf, ys⟩ s sh = (⟨(k : Int), yf, ys.set k 0⟩, false)) := by show _ = _; unfold Tu.step; rw [if_pos h0]; simp
      have ca := HA.out.1.cellAt k hk3
      have cf := HA.out.1.frozenAt k
      have e1 := HA.out.1.el k hk3 0
      have HB1 : Hid (PV (wr.setCell ⟨L, off + k, none⟩ (.int .i64 0)) (w.heap.size + 2) X L off cap ⟨(k : Int), yf, (ys.set k 0)⟩ ∧ Below w.heap.size w (wr.setCell ⟨L, off + k, none⟩ (.int .i64 0)) ∧ Blk (wr.setCell ⟨L, off + k, none⟩ (.int .i64 0)) (w.heap.size + 1) #[.int .i64 0, .bool false, .slice none 0 0] 26) := ⟨e1, HA.out.2.1.setCell (by have := HA.out.1.ge2; show w.heap.size ≤ L; omega) _, HA.out.2.2.setOther (by have := HA.out.1.ge2; omega) _ _⟩
      clear h0 e1
      go_wp2_with (first | go_skip | (with_reducible refine stopLoad 26 rfl ?_) | (with_reducible refine stopStore 26 rfl ?_))
      obtain ⟨Wb, hWb⟩ : ∃ W, W = wr.setCell ⟨L, off + k, none⟩ (.int .i64 0) := ⟨_, rfl⟩
      rw [← hWb] at HB1 ⊢
      clear hWb ca cf c0 c2 cs1 cw1
      refine load_known 26 X #[.int .i64 (k : Int), .bool yf, .slice (some ⟨L, off, none⟩) 3 cap] 26 _ HB1.out.1.blk rfl rfl rfl Try.underlying26 rfl infoTuI ?_
      go_wp2_with fail
      refine (l11Next_any (some ⟨L, off, none⟩) 3 cap (k : Int) yf _ (by omega)).mono ?_
      rintro e w5 ⟨rfl, b5⟩
      obtain ⟨m, hm⟩ : ∃ m, m = ((k : Int) + 1) % 3 := ⟨_, rfl⟩
      rw [← hm]
      have HM : Hid (m = ((k : Int) + 1) % 3) := hm
      have H5 : Hid (PV w5 (w.heap.size + 2) X L off cap ⟨(k : Int), yf, (ys.set k 0)⟩ ∧ Below w.heap.size w w5 ∧ Blk w5 (w.heap.size + 1) #[.int .i64 0, .bool false, .slice none 0 0] 26) := ⟨HB1.out.1.below b5, Below.next HB1.out.2.1 b5, HB1.out.2.2.below b5⟩
      clear hm b5
      go_wp2_with (first | go_skip | (with_reducible refine stopLoad 26 rfl ?_) | (with_reducible refine stopStore 26 rfl ?_))
      refine store_known 26 X _ #[.int .i64 m, .bool true, .slice (some ⟨L, off, none⟩) 3 cap] 26 H5.out.1.blk rfl rfl rfl rfl infoTuI rfl (by simp [Value.oneCell']) ?_
      have HN : Hid (PV (w5.setRow X #[.int .i64 m, .bool true, .slice (some ⟨L, off, none⟩) 3 cap]) (w.heap.size + 2) X L off cap ⟨m, true, (ys.set k 0)⟩ ∧ Below w.heap.size w (w5.setRow X #[.int .i64 m, .bool true, .slice (some ⟨L, off, none⟩) 3 cap]) ∧ Blk (w5.setRow X #[.int .i64 m, .bool true, .slice (some ⟨L, off, none⟩) 3 cap]) (w.heap.size + 1) #[.int .i64 0, .bool false, .slice none 0 0] 26) := ⟨H5.out.1.row m true, below_setRow H5.out.2.1 (by have := H5.out.1.ge; omega) _, H5.out.2.2.setRowOther (by have := H5.out.1.ge; omega)⟩
      obtain ⟨w6, hw6⟩ : ∃ W, W = w5.setRow X #[.int .i64 m, .bool true, .slice (some ⟨L, off, none⟩) 3 cap] := ⟨_, rfl⟩
      rw [← hw6] at HN ⊢
      clear hw6 H5
      go_wp2
      go_roundg g
      case measure => omega
      case rel =>
        obtain ⟨p1, p2, p3⟩ := HNX.out _ (HE0.out).symm rfl m HM.out
        exact ⟨⟨m, true, (ys.set k 0)⟩, p1, p2, p3, HN.out.1, HN.out.2.1, HN.out.2.2⟩
    have h0' : (s == 0) = false := by simpa using h0
    have H0 : Hid (¬ s = 0) := h0
    have c1 := HA.out.1.blk.cell 1
    simp only [aT, aS, aZ] at c1
    clear h0
    cases yf
    · skip
      obtain ⟨lv, hlv⟩ : ∃ l, l = ys.getD k 0 := ⟨_, rfl⟩
      have hlr : 0 ≤ lv ∧ lv ≤ 1000 := by rw [hlv]; exact HR.out
      have HLV : Hid (ys.getD k 0 = lv) := hlv.symm
      have HST : Hid (Tu.step ⟨(k : Int), false, ys⟩ s sh = if s ≤ lv then (⟨(k : Int), false, ys.set k (lv - s)⟩, true) else (⟨(k : Int), false, ys⟩, false)) := by
        show _ = _; unfold Tu.step; rw [if_neg H0.out]
        simp only [Int.toNat_natCast, Bool.false_eq_true, if_false]
        rw [← hlv, set_same ys k lv hlv]
      clear hlv
      go_wp2_with fail
      obtain ⟨Wc, hWc⟩ : ∃ W, W = wr := ⟨_, rfl⟩
      rw [← hWc] at HA ⊢
      have HC : Hid (PV Wc (w.heap.size + 2) X L off cap ⟨(k : Int), false, ys⟩ ∧ Below w.heap.size w Wc ∧ Blk Wc (w.heap.size + 1) #[.int .i64 0, .bool false, .slice none 0 0] 26) := HA.out
      clear hWc HA c0 c1 c2 cs1 cw1
      by_cases hle : s ≤ lv
      rotate_left
      · skip
        have hld : decide (s ≤ lv) = false := dec_false hle
        have HE1 : Hid (Tu.step ⟨(k : Int), false, ys⟩ s sh = (⟨(k : Int), false, ys⟩, false)) := by show _ = _; rw [HST.out, if_neg hle]
        refine wp_region_held (S := fun W => (W.cell? ⟨X, 0, none⟩ = some (.int .i64 (k : Int)) ∧ W.cell? ⟨X, 2, none⟩ = some (.slice (some ⟨L, off, none⟩) 3 cap) ∧ W.cell? ⟨b1, o1 + k, none⟩ = some (.int .i64 s) ∧ W.cell? ⟨b2, o2 + k, none⟩ = some (.int .i64 wt)) ∧ W.cell? ⟨L, off + k, none⟩ = some (.int .i64 lv)) (by kernel_rfl) ?_
        change wpAnyH _ _ _ _ _ _ _ _ (World.drew _)
        have BD := (Below.refl Wc.heap.size Wc).drew
        obtain ⟨Y5, hY5⟩ : ∃ Y, Y = Wc.drew := ⟨_, rfl⟩
        rw [← hY5] at BD ⊢
        have HD : Hid (PV Y5 (w.heap.size + 2) X L off cap ⟨(k : Int), false, ys⟩ ∧ Below w.heap.size w Y5 ∧ Blk Y5 (w.heap.size + 1) #[.int .i64 0, .bool false, .slice none 0 0] 26) := ⟨HC.out.1.below BD, Below.next HC.out.2.1 BD, HC.out.2.2.below BD⟩
        have HSS : Hid ((Y5.cell? ⟨X, 0, none⟩ = some (.int .i64 (k : Int)) ∧ Y5.cell? ⟨X, 2, none⟩ = some (.slice (some ⟨L, off, none⟩) 3 cap) ∧ Y5.cell? ⟨b1, o1 + k, none⟩ = some (.int .i64 s) ∧ Y5.cell? ⟨b2, o2 + k, none⟩ = some (.int .i64 wt)) ∧ Y5.cell? ⟨L, off + k, none⟩ = some (.int .i64 lv)) := ⟨HS4.out _ _ _ HD.out.1 HD.out.2.1, by rw [← HLV.out]; exact HD.out.1.cellAt k hk3⟩
        clear hY5 BD HC
        refine takeH (o := ?o13) 0 (.slice (some ⟨b1, o1, none⟩) 3 k1) ?h13 ?r13
        case h13 => simp only [aT, aZ]; rfl
        refine ⟨_, by simp [Act.put]; rfl, by kernel_rfl, by kernel_rfl, by kernel_rfl, fun _ _ _ h => h, (.inl ⟨rfl, fun W _ => by kernel_rfl⟩), HSS.out, ?_⟩
        refine takeH (o := ?o14) 1 (.pointer (some ⟨X, 0, none⟩)) ?h14 ?r14
        case h14 => simp only [aT, aS, aZ]; rfl
        refine ⟨_, by simp [Act.put]; rfl, by kernel_rfl, by kernel_rfl, by kernel_rfl, fun _ _ _ h => h, (.inl ⟨rfl, fun W _ => by go_simp⟩), HSS.out, ?_⟩
        refine takeH (o := ?o15) 2 (.int .i64 (k : Int)) ?h15 ?r15
        case h15 => simp only [aT, aS, aZ]; rfl
        refine ⟨_, by simp [Act.put]; rfl, by kernel_rfl, by kernel_rfl, by kernel_rfl, fun _ _ _ h => h, (.inl ⟨rfl, fun W hW => by have c := hW.1.1; go_simp⟩), HSS.out, ?_⟩
        refine takeH (o := ?o16) 3 (.pointer (some ⟨b1, o1 + k, none⟩)) ?h16 ?r16
        case h16 => simp only [aT, aS, aZ]; rfl
        refine ⟨_, by simp [Act.put]; rfl, by kernel_rfl, by kernel_rfl, by kernel_rfl, fun _ _ _ h => h, (.inl ⟨rfl, fun W _ => by go_simp; first | done | (intro h; omega) | (rw [if_pos (by omega)]; rfl)⟩), HSS.out, ?_⟩
        refine takeH (o := ?o17) 4 (.int .i64 s) ?h17 ?r17
        case h17 => simp only [aT, aS, aZ]; rfl
        refine ⟨_, by simp [Act.put]; rfl, by kernel_rfl, by kernel_rfl, by kernel_rfl, fun _ _ _ h => h, (.inl ⟨rfl, fun W hW => by have c := hW.1.2.2.1; go_simp⟩), HSS.out, ?_⟩
        refine takeH (o := ?o18) 5 (.pointer (some ⟨X, 2, none⟩)) ?h18 ?r18
        case h18 => simp only [aT, aS, aZ]; rfl
        refine ⟨_, by simp [Act.put]; rfl, by kernel_rfl, by kernel_rfl, by kernel_rfl, fun _ _ _ h => h, (.inl ⟨rfl, fun W _ => by go_simp⟩), HSS.out, ?_⟩
        refine takeH (o := ?o19) 6 (.slice (some ⟨L, off, none⟩) 3 cap) ?h19 ?r19
        case h19 => simp only [aT, aS, aZ]; rfl
        refine ⟨_, by simp [Act.put]; rfl, by kernel_rfl, by kernel_rfl, by kernel_rfl, fun _ _ _ h => h, (.inl ⟨rfl, fun W hW => by have c := hW.1.2.1; go_simp⟩), HSS.out, ?_⟩
        refine takeH (o := ?o20) 7 (.pointer (some ⟨X, 0, none⟩)) ?h20 ?r20
        case h20 => simp only [aT, aS, aZ]; rfl
        refine ⟨_, by simp [Act.put]; rfl, by kernel_rfl, by kernel_rfl, by kernel_rfl, fun _ _ _ h => h, (.inl ⟨rfl, fun W _ => by go_simp⟩), HSS.out, ?_⟩
        refine takeH (o := ?o21) 8 (.int .i64 (k : Int)) ?h21 ?r21
        case h21 => simp only [aT, aS, aZ]; rfl
        refine ⟨_, by simp [Act.put]; rfl, by kernel_rfl, by kernel_rfl, by kernel_rfl, fun _ _ _ h => h, (.inl ⟨rfl, fun W hW => by have c := hW.1.1; go_simp⟩), HSS.out, ?_⟩
        refine takeH (o := ?o22) 9 (.pointer (some ⟨L, off + k, none⟩)) ?h22 ?r22
        case h22 => simp only [aT, aS, aZ]; rfl
        refine ⟨_, by simp [Act.put]; rfl, by kernel_rfl, by kernel_rfl, by kernel_rfl, fun _ _ _ h => h, (.inl ⟨rfl, fun W _ => by go_simp; first | done | (intro h; omega) | (rw [if_pos (by omega)]; rfl)⟩), HSS.out, ?_⟩
        refine takeH (o := ?o23) 10 (.int .i64 lv) ?h23 ?r23
        case h23 => simp only [aT, aS, aZ]; rfl
        refine ⟨_, by simp [Act.put]; rfl, by kernel_rfl, by kernel_rfl, by kernel_rfl, fun _ _ _ h => h, (.inl ⟨rfl, fun W hW => by have c := hW.2; go_simp⟩), HSS.out, ?_⟩
        refine takeH (o := ?o24) 11 (.bool false) ?h24 ?r24
        case h24 => simp only [aT, aS, aZ]; rfl
        refine ⟨_, by simp [Act.put]; rfl, by kernel_rfl, by kernel_rfl, by kernel_rfl, fun _ _ _ h => h, (.inl ⟨rfl, fun W _ => by go_simp⟩), HSS.out, ?_⟩
        refine wpAnyH_done (by kernel_rfl) ?_ _
        go_wp2_with (first | go_skip | (with_reducible refine stopLoad 26 rfl ?_) | (with_reducible refine stopStore 26 rfl ?_))
        refine load_known 26 X #[.int .i64 (k : Int), .bool false, .slice (some ⟨L, off, none⟩) 3 cap] 26 _ HD.out.1.blk rfl rfl rfl Try.underlying26 rfl infoTuI ?_
        go_wp2_with fail
        refine (l11Next_any (some ⟨L, off, none⟩) 3 cap (k : Int) false _ (by omega)).mono ?_
        rintro e w5 ⟨rfl, b5⟩
        obtain ⟨m, hm⟩ : ∃ m, m = ((k : Int) + 1) % 3 := ⟨_, rfl⟩
        rw [← hm]
        have HM : Hid (m = ((k : Int) + 1) % 3) := hm
        have H5 : Hid (PV w5 (w.heap.size + 2) X L off cap ⟨(k : Int), false, ys⟩ ∧ Below w.heap.size w w5 ∧ Blk w5 (w.heap.size + 1) #[.int .i64 0, .bool false, .slice none 0 0] 26) := ⟨HD.out.1.below b5, Below.next HD.out.2.1 b5, HD.out.2.2.below b5⟩
        clear hm b5
        go_wp2_with (first | go_skip | (with_reducible refine stopLoad 26 rfl ?_) | (with_reducible refine stopStore 26 rfl ?_))
        refine store_known 26 X _ #[.int .i64 m, .bool true, .slice (some ⟨L, off, none⟩) 3 cap] 26 H5.out.1.blk rfl rfl rfl rfl infoTuI rfl (by simp [Value.oneCell']) ?_
        have HN : Hid (PV (w5.setRow X #[.int .i64 m, .bool true, .slice (some ⟨L, off, none⟩) 3 cap]) (w.heap.size + 2) X L off cap ⟨m, true, ys⟩ ∧ Below w.heap.size w (w5.setRow X #[.int .i64 m, .bool true, .slice (some ⟨L, off, none⟩) 3 cap]) ∧ Blk (w5.setRow X #[.int .i64 m, .bool true, .slice (some ⟨L, off, none⟩) 3 cap]) (w.heap.size + 1) #[.int .i64 0, .bool false, .slice none 0 0] 26) := ⟨H5.out.1.row m true, below_setRow H5.out.2.1 (by have := H5.out.1.ge; omega) _, H5.out.2.2.setRowOther (by have := H5.out.1.ge; omega)⟩
        obtain ⟨w6, hw6⟩ : ∃ W, W = w5.setRow X #[.int .i64 m, .bool true, .slice (some ⟨L, off, none⟩) 3 cap] := ⟨_, rfl⟩
        rw [← hw6] at HN ⊢
        clear hw6 H5
        go_wp2
        go_roundg g
        case measure => omega
        case rel =>
          obtain ⟨p1, p2, p3⟩ := HNX.out _ (HE1.out).symm rfl m HM.out
          exact ⟨⟨m, true, ys⟩, p1, p2, p3, HN.out.1, HN.out.2.1, HN.out.2.2⟩
      · skip
        have hld : decide (s ≤ lv) = true := dec_true hle
        have HE1 : Hid (Tu.step ⟨(k : Int), false, ys⟩ s sh = (⟨(k : Int), false, ys.set k (lv - s)⟩, true)) := by show _ = _; rw [HST.out, if_pos hle]
        refine wp_region_held (S := fun W => (W.cell? ⟨X, 0, none⟩ = some (.int .i64 (k : Int)) ∧ W.cell? ⟨X, 2, none⟩ = some (.slice (some ⟨L, off, none⟩) 3 cap) ∧ W.cell? ⟨b1, o1 + k, none⟩ = some (.int .i64 s) ∧ W.cell? ⟨b2, o2 + k, none⟩ = some (.int .i64 wt)) ∧ W.cell? ⟨L, off + k, none⟩ = some (.int .i64 lv)) (by kernel_rfl) ?_
        change wpAnyH _ _ _ _ _ _ _ _ (World.drew _)
        have BD := (Below.refl Wc.heap.size Wc).drew
        obtain ⟨Y5, hY5⟩ : ∃ Y, Y = Wc.drew := ⟨_, rfl⟩
        rw [← hY5] at BD ⊢
        have HD : Hid (PV Y5 (w.heap.size + 2) X L off cap ⟨(k : Int), false, ys⟩ ∧ Below w.heap.size w Y5 ∧ Blk Y5 (w.heap.size + 1) #[.int .i64 0, .bool false, .slice none 0 0] 26) := ⟨HC.out.1.below BD, Below.next HC.out.2.1 BD, HC.out.2.2.below BD⟩
        have HSS : Hid ((Y5.cell? ⟨X, 0, none⟩ = some (.int .i64 (k : Int)) ∧ Y5.cell? ⟨X, 2, none⟩ = some (.slice (some ⟨L, off, none⟩) 3 cap) ∧ Y5.cell? ⟨b1, o1 + k, none⟩ = some (.int .i64 s) ∧ Y5.cell? ⟨b2, o2 + k, none⟩ = some (.int .i64 wt)) ∧ Y5.cell? ⟨L, off + k, none⟩ = some (.int .i64 lv)) := ⟨HS4.out _ _ _ HD.out.1 HD.out.2.1, by rw [← HLV.out]; exact HD.out.1.cellAt k hk3⟩
        clear hY5 BD HC
        refine takeH (o := ?o25) 0 (.slice (some ⟨b1, o1, none⟩) 3 k1) ?h25 ?r25
        case h25 => simp only [aT, aZ]; rfl
        refine ⟨_, by simp [Act.put]; rfl, by kernel_rfl, by kernel_rfl, by kernel_rfl, fun _ _ _ h => h, (.inl ⟨rfl, fun W _ => by kernel_rfl⟩), HSS.out, ?_⟩
        refine takeH (o := ?o26) 1 (.pointer (some ⟨X, 0, none⟩)) ?h26 ?r26
        case h26 => simp only [aT, aS, aZ]; rfl
        refine ⟨_, by simp [Act.put]; rfl, by kernel_rfl, by kernel_rfl, by kernel_rfl, fun _ _ _ h => h, (.inl ⟨rfl, fun W _ => by go_simp⟩), HSS.out, ?_⟩
        refine takeH (o := ?o27) 2 (.int .i64 (k : Int)) ?h27 ?r27
        case h27 => simp only [aT, aS, aZ]; rfl
        refine ⟨_, by simp [Act.put]; rfl, by kernel_rfl, by kernel_rfl, by kernel_rfl, fun _ _ _ h => h, (.inl ⟨rfl, fun W hW => by have c := hW.1.1; go_simp⟩), HSS.out, ?_⟩
        refine takeH (o := ?o28) 3 (.pointer (some ⟨b1, o1 + k, none⟩)) ?h28 ?r28
        case h28 => simp only [aT, aS, aZ]; rfl
        refine ⟨_, by simp [Act.put]; rfl, by kernel_rfl, by kernel_rfl, by kernel_rfl, fun _ _ _ h => h, (.inl ⟨rfl, fun W _ => by go_simp; first | done | (intro h; omega) | (rw [if_pos (by omega)]; rfl)⟩), HSS.out, ?_⟩
        refine takeH (o := ?o29) 4 (.int .i64 s) ?h29 ?r29
        case h29 => simp only [aT, aS, aZ]; rfl
        refine ⟨_, by simp [Act.put]; rfl, by kernel_rfl, by kernel_rfl, by kernel_rfl, fun _ _ _ h => h, (.inl ⟨rfl, fun W hW => by have c := hW.1.2.2.1; go_simp⟩), HSS.out, ?_⟩
        refine takeH (o := ?o30) 5 (.pointer (some ⟨X, 2, none⟩)) ?h30 ?r30
        case h30 => simp only [aT, aS, aZ]; rfl
        refine ⟨_, by simp [Act.put]; rfl, by kernel_rfl, by kernel_rfl, by kernel_rfl, fun _ _ _ h => h, (.inl ⟨rfl, fun W _ => by go_simp⟩), HSS.out, ?_⟩
        refine takeH (o := ?o31) 6 (.slice (some ⟨L, off, none⟩) 3 cap) ?h31 ?r31
        case h31 => simp only [aT, aS, aZ]; rfl
        refine ⟨_, by simp [Act.put]; rfl, by kernel_rfl, by kernel_rfl, by kernel_rfl, fun _ _ _ h => h, (.inl ⟨rfl, fun W hW => by have c := hW.1.2.1; go_simp⟩), HSS.out, ?_⟩
        refine takeH (o := ?o32) 7 (.pointer (some ⟨X, 0, none⟩)) ?h32 ?r32
        case h32 => simp only [aT, aS, aZ]; rfl
        refine ⟨_, by simp [Act.put]; rfl, by kernel_rfl, by kernel_rfl, by kernel_rfl, fun _ _ _ h => h, (.inl ⟨rfl, fun W _ => by go_simp⟩), HSS.out, ?_⟩
        refine takeH (o := ?o33) 8 (.int .i64 (k : Int)) ?h33 ?r33
        case h33 => simp only [aT, aS, aZ]; rfl
        refine ⟨_, by simp [Act.put]; rfl, by kernel_rfl, by kernel_rfl, by kernel_rfl, fun _ _ _ h => h, (.inl ⟨rfl, fun W hW => by have c := hW.1.1; go_simp⟩), HSS.out, ?_⟩
        refine takeH (o := ?o34) 9 (.pointer (some ⟨L, off + k, none⟩)) ?h34 ?r34
        case h34 => simp only [aT, aS, aZ]; rfl
        refine ⟨_, by simp [Act.put]; rfl, by kernel_rfl, by kernel_rfl, by kernel_rfl, fun _ _ _ h => h, (.inl ⟨rfl, fun W _ => by go_simp; first | done | (intro h; omega) | (rw [if_pos (by omega)]; rfl)⟩), HSS.out, ?_⟩
        refine takeH (o := ?o35) 10 (.int .i64 lv) ?h35 ?r35
        case h35 => simp only [aT, aS, aZ]; rfl
        refine ⟨_, by simp [Act.put]; rfl, by kernel_rfl, by kernel_rfl, by kernel_rfl, fun _ _ _ h => h, (.inl ⟨rfl, fun W hW => by have c := hW.2; go_simp⟩), HSS.out, ?_⟩
        refine takeH (o := ?o36) 11 (.bool true) ?h36 ?r36
        case h36 => simp only [aT, aS, aZ]; rfl
        refine ⟨_, by simp [Act.put]; rfl, by kernel_rfl, by kernel_rfl, by kernel_rfl, fun _ _ _ h => h, (.inl ⟨rfl, fun W _ => by go_simp⟩), HSS.out, ?_⟩
        refine wpAnyH_done (by kernel_rfl) ?_ _
        go_wp2_with fail
        refine wp_region_held (S := fun W => W.cell? ⟨X, 0, none⟩ = some (.int .i64 (k : Int)) ∧ W.cell? ⟨X, 2, none⟩ = some (.slice (some ⟨L, off, none⟩) 3 cap) ∧ W.cell? ⟨b1, o1 + k, none⟩ = some (.int .i64 s) ∧ W.cell? ⟨b2, o2 + k, none⟩ = some (.int .i64 wt)) (by kernel_rfl) ?_
        change wpAnyH _ _ _ _ _ _ _ _ (World.drew _)
        have BD := (Below.refl Y5.heap.size Y5).drew
        obtain ⟨Y6, hY6⟩ : ∃ Y, Y = Y5.drew := ⟨_, rfl⟩
        rw [← hY6] at BD ⊢
        have HD6 : Hid (PV Y6 (w.heap.size + 2) X L off cap ⟨(k : Int), false, ys⟩ ∧ Below w.heap.size w Y6 ∧ Blk Y6 (w.heap.size + 1) #[.int .i64 0, .bool false, .slice none 0 0] 26) := ⟨HD.out.1.below BD, Below.next HD.out.2.1 BD, HD.out.2.2.below BD⟩
        have HS6 : Hid (Y6.cell? ⟨X, 0, none⟩ = some (.int .i64 (k : Int)) ∧ Y6.cell? ⟨X, 2, none⟩ = some (.slice (some ⟨L, off, none⟩) 3 cap) ∧ Y6.cell? ⟨b1, o1 + k, none⟩ = some (.int .i64 s) ∧ Y6.cell? ⟨b2, o2 + k, none⟩ = some (.int .i64 wt)) := HS4.out _ _ _ HD6.out.1 HD6.out.2.1
        clear hY6 BD HD HSS
        refine takeH (o := ?o37) 0 (.pointer (some ⟨X, 2, none⟩)) ?h37 ?r37
        case h37 => simp only [aT, aZ]; rfl
        refine ⟨_, by simp [Act.put]; rfl, by kernel_rfl, by kernel_rfl, by kernel_rfl, fun _ _ _ h => h, (.inl ⟨rfl, fun W _ => by go_simp⟩), HS6.out, ?_⟩
        refine takeH (o := ?o38) 1 (.slice (some ⟨L, off, none⟩) 3 cap) ?h38 ?r38
        case h38 => simp only [aT, aS, aZ]; rfl
        refine ⟨_, by simp [Act.put]; rfl, by kernel_rfl, by kernel_rfl, by kernel_rfl, fun _ _ _ h => h, (.inl ⟨rfl, fun W hW => by have c := hW.2.1; go_simp⟩), HS6.out, ?_⟩
        refine takeH (o := ?o39) 2 (.pointer (some ⟨X, 0, none⟩)) ?h39 ?r39
        case h39 => simp only [aT, aS, aZ]; rfl
        refine ⟨_, by simp [Act.put]; rfl, by kernel_rfl, by kernel_rfl, by kernel_rfl, fun _ _ _ h => h, (.inl ⟨rfl, fun W _ => by go_simp⟩), HS6.out, ?_⟩
        refine takeH (o := ?o40) 3 (.int .i64 (k : Int)) ?h40 ?r40
        case h40 => simp only [aT, aS, aZ]; rfl
        refine ⟨_, by simp [Act.put]; rfl, by kernel_rfl, by kernel_rfl, by kernel_rfl, fun _ _ _ h => h, (.inl ⟨rfl, fun W hW => by have c := hW.1; go_simp⟩), HS6.out, ?_⟩
        refine takeH (o := ?o41) 4 (.pointer (some ⟨X, 2, none⟩)) ?h41 ?r41
        case h41 => simp only [aT, aS, aZ]; rfl
        refine ⟨_, by simp [Act.put]; rfl, by kernel_rfl, by kernel_rfl, by kernel_rfl, fun _ _ _ h => h, (.inl ⟨rfl, fun W _ => by go_simp⟩), HS6.out, ?_⟩
        refine takeH (o := ?o42) 5 (.slice (some ⟨L, off, none⟩) 3 cap) ?h42 ?r42
        case h42 => simp only [aT, aS, aZ]; rfl
        refine ⟨_, by simp [Act.put]; rfl, by kernel_rfl, by kernel_rfl, by kernel_rfl, fun _ _ _ h => h, (.inl ⟨rfl, fun W hW => by have c := hW.2.1; go_simp⟩), HS6.out, ?_⟩
        refine takeH (o := ?o43) 6 (.pointer (some ⟨X, 0, none⟩)) ?h43 ?r43
        case h43 => simp only [aT, aS, aZ]; rfl
        refine ⟨_, by simp [Act.put]; rfl, by kernel_rfl, by kernel_rfl, by kernel_rfl, fun _ _ _ h => h, (.inl ⟨rfl, fun W _ => by go_simp⟩), HS6.out, ?_⟩
        refine takeH (o := ?o44) 7 (.int .i64 (k : Int)) ?h44 ?r44
        case h44 => simp only [aT, aS, aZ]; rfl
        refine ⟨_, by simp [Act.put]; rfl, by kernel_rfl, by kernel_rfl, by kernel_rfl, fun _ _ _ h => h, (.inl ⟨rfl, fun W hW => by have c := hW.1; go_simp⟩), HS6.out, ?_⟩
        refine takeH (o := ?o45) 8 (.pointer (some ⟨L, off + k, none⟩)) ?h45 ?r45
        case h45 => simp only [aT, aS, aZ]; rfl
        refine ⟨_, by simp [Act.put]; rfl, by kernel_rfl, by kernel_rfl, by kernel_rfl, fun _ _ _ h => h, (.inl ⟨rfl, fun W _ => by go_simp; first | done | (intro h; omega) | (rw [if_pos (by omega)]; rfl)⟩), HS6.out, ?_⟩
        refine takeH (o := ?o46) 10 (.slice (some ⟨b1, o1, none⟩) 3 k1) ?h46 ?r46
        case h46 => simp only [aT, aS, aZ]; rfl
        refine ⟨_, by simp [Act.put]; rfl, by kernel_rfl, by kernel_rfl, by kernel_rfl, fun _ _ _ h => h, (.inl ⟨rfl, fun W _ => by kernel_rfl⟩), HS6.out, ?_⟩
        refine takeH (o := ?o47) 11 (.pointer (some ⟨X, 0, none⟩)) ?h47 ?r47
        case h47 => simp only [aT, aS, aZ]; rfl
        refine ⟨_, by simp [Act.put]; rfl, by kernel_rfl, by kernel_rfl, by kernel_rfl, fun _ _ _ h => h, (.inl ⟨rfl, fun W _ => by go_simp⟩), HS6.out, ?_⟩
        refine takeH (o := ?o48) 12 (.int .i64 (k : Int)) ?h48 ?r48
        case h48 => simp only [aT, aS, aZ]; rfl
        refine ⟨_, by simp [Act.put]; rfl, by kernel_rfl, by kernel_rfl, by kernel_rfl, fun _ _ _ h => h, (.inl ⟨rfl, fun W hW => by have c := hW.1; go_simp⟩), HS6.out, ?_⟩
        refine takeH (o := ?o49) 13 (.pointer (some ⟨b1, o1 + k, none⟩)) ?h49 ?r49
        case h49 => simp only [aT, aS, aZ]; rfl
        refine ⟨_, by simp [Act.put]; rfl, by kernel_rfl, by kernel_rfl, by kernel_rfl, fun _ _ _ h => h, (.inl ⟨rfl, fun W _ => by go_simp; first | done | (intro h; omega) | (rw [if_pos (by omega)]; rfl)⟩), HS6.out, ?_⟩
        refine takeH (o := ?o50) 14 (.int .i64 s) ?h50 ?r50
        case h50 => simp only [aT, aS, aZ]; rfl
        refine ⟨_, by simp [Act.put]; rfl, by kernel_rfl, by kernel_rfl, by kernel_rfl, fun _ _ _ h => h, (.inl ⟨rfl, fun W hW => by have c := hW.2.2.1; go_simp⟩), HS6.out, ?_⟩
        have ca : Y6.cell? ⟨L, off + k, none⟩ = some (.int .i64 lv) := by rw [← HLV.out]; exact HD6.out.1.cellAt k hk3
        have hws : IntKind.i64.wrap (lv - s) = lv - s := by simp [IntKind.wrap, IntKind.bits, IntKind.signed]; omega
        refine onlyH (o := ?o51) 9 (by kernel_rfl) ?h51 ?r51
        case h51 => simp only [aT, aS, aZ]; rfl
        intro K hK
        refine op_value (.int .i64 lv) rfl (by go_simp) ⟨_, by simp [Act.put]; rfl, hK _ _ ⟨HS6.out, ?_⟩⟩
        clear hK
        clear ca
        refine takeH (o := ?o52) 15 (.int .i64 (lv - s)) ?h52 ?r52
        case h52 => simp only [aT, aS, aZ]; rfl
        refine ⟨_, by simp [Act.put]; rfl, by kernel_rfl, by kernel_rfl, by kernel_rfl, fun _ _ _ h => h, (.inl ⟨rfl, fun W _ => by go_simp⟩), HS6.out, ?_⟩
        refine takeH (o := ?o53) 16 (.pointer (some ⟨L, off + k, none⟩)) ?h53 ?r53
        case h53 => simp only [aT, aS, aZ]; rfl
        refine ⟨_, by simp [Act.put]; rfl, by kernel_rfl, by kernel_rfl, by kernel_rfl, fun _ _ _ h => h, (.inl ⟨rfl, fun W _ => by go_simp; first | done | (intro h; omega) | (rw [if_pos (by omega)]; rfl)⟩), HS6.out, ?_⟩
        refine onlyH (o := ?o54) 17 (by kernel_rfl) ?h54 ?r54
        case h54 => simp only [aT, aS, aZ]; rfl
        intro K hK
        have ca : Y6.cell? ⟨L, off + k, none⟩ = some (.int .i64 lv) := by rw [← HLV.out]; exact HD6.out.1.cellAt k hk3
        have cf := HD6.out.1.frozenAt k
        have H7 : Hid (PV (Y6.setCell ⟨L, off + k, none⟩ (.int .i64 (lv - s))) (w.heap.size + 2) X L off cap ⟨(k : Int), false, (ys.set k (lv - s))⟩ ∧ Below w.heap.size w (Y6.setCell ⟨L, off + k, none⟩ (.int .i64 (lv - s))) ∧ Blk (Y6.setCell ⟨L, off + k, none⟩ (.int .i64 (lv - s))) (w.heap.size + 1) #[.int .i64 0, .bool false, .slice none 0 0] 26) := ⟨HD6.out.1.el k hk3 _, HD6.out.2.1.setCell (by have := HD6.out.1.ge2; show w.heap.size ≤ L; omega) _, HD6.out.2.2.setOther (by have := HD6.out.1.ge2; omega) _ _⟩
        refine op_skip (Y6.setCell ⟨L, off + k, none⟩ (.int .i64 (lv - s))) rfl (by go_simp) ⟨_, by simp [Act.put]; rfl, hK _ _ ⟨HS4.out _ _ _ H7.out.1 H7.out.2.1, ?_⟩⟩
        clear hK ca cf
        obtain ⟨Y7, hY7⟩ : ∃ Y, Y = Y6.setCell ⟨L, off + k, none⟩ (.int .i64 (lv - s)) := ⟨_, rfl⟩
        rw [← hY7] at H7 ⊢
        clear hY7 HD6 HS6
        refine wpAnyH_done (by kernel_rfl) ?_ _
        go_wp2_with fail
        refine wp_region_held (S := fun W => Blk W X #[.int .i64 (k : Int), .bool false, .slice (some ⟨L, off, none⟩) 3 cap] 26) (by kernel_rfl) ?_
        change wpAnyH _ _ _ _ _ _ _ _ (World.drew _)
        have BD := (Below.refl Y7.heap.size Y7).drew
        obtain ⟨Y8, hY8⟩ : ∃ Y, Y = Y7.drew := ⟨_, rfl⟩
        rw [← hY8] at BD ⊢
        have H8 : Hid (PV Y8 (w.heap.size + 2) X L off cap ⟨(k : Int), false, (ys.set k (lv - s))⟩ ∧ Below w.heap.size w Y8 ∧ Blk Y8 (w.heap.size + 1) #[.int .i64 0, .bool false, .slice none 0 0] 26) := ⟨H7.out.1.below BD, Below.next H7.out.2.1 BD, H7.out.2.2.below BD⟩
        have HS8 : Hid (Blk Y8 X #[.int .i64 (k : Int), .bool false, .slice (some ⟨L, off, none⟩) 3 cap] 26) := H8.out.1.blk
        clear hY8 BD H7
        refine takeH (o := ?o55) 0 (.pointer (some ⟨X, 0, none⟩)) ?h55 ?r55
        case h55 => simp only [aT, aZ]; rfl
        refine ⟨_, by simp [Act.put]; rfl, by kernel_rfl, by kernel_rfl, by kernel_rfl, fun _ _ _ h => h, (.inl ⟨rfl, fun W _ => by go_simp⟩), HS8.out, ?_⟩
        refine takeH (o := ?o56) 1 (.int .i64 (k : Int)) ?h56 ?r56
        case h56 => simp only [aT, aS, aZ]; rfl
        refine ⟨_, by simp [Act.put]; rfl, by kernel_rfl, by kernel_rfl, by kernel_rfl, fun _ _ _ h => h, (.inl ⟨rfl, fun W hW => by have c := hW.cell 0; simp only [aT, aZ] at c; go_simp⟩), HS8.out, ?_⟩
        refine takeH (o := ?o57) 2 (.agg #[.int .i64 (k : Int), .bool false, .slice (some ⟨L, off, none⟩) 3 cap]) ?h57 ?r57
        case h57 => simp only [aT, aS, aZ]; rfl
        refine ⟨_, by simp [Act.put]; rfl, by kernel_rfl, by kernel_rfl, by kernel_rfl, fun _ _ _ h => h, (yields_whole 26 _ #[.int .i64 (k : Int), .bool false, .slice (some ⟨L, off, none⟩) 3 cap] 26 _ rfl rfl rfl Try.underlying26 rfl infoTuI (fun W hW => hW)), HS8.out, ?_⟩
        refine takeH (o := ?o58) 3 (.int .i64 (k : Int)) ?h58 ?r58
        case h58 => simp only [aT, aS, aZ]; rfl
        refine ⟨_, by simp [Act.put]; rfl, by kernel_rfl, by kernel_rfl, by kernel_rfl, fun _ _ _ h => h, (.inl ⟨rfl, fun W _ => by kernel_rfl⟩), HS8.out, ?_⟩
        refine onlyH (o := ?o59) 4 (by kernel_rfl) ?h59 ?r59
        case h59 => simp only [aT, aS, aZ]; rfl
        intro K hK
        refine op_store 26 (w.heap.size + 1) #[.int .i64 0, .bool false, .slice none 0 0] #[.int .i64 (k : Int), .bool false, .slice (some ⟨L, off, none⟩) 3 cap] 26 rfl rfl rfl rfl H8.out.2.2 infoTuI rfl (by simp [Value.oneCell']) ⟨_, by simp [Act.put]; rfl, hK _ _ ⟨HS8.out.setRowOther (by have := H8.out.1.ge; omega), ?_⟩⟩
        clear hK
        refine wpAnyH_done (by kernel_rfl) ?_ _
        go_wp2
        refine bodyPost_ret (results_tmp_rowT Try.results10 _ _ (w.heap.size + 1) _ _ (0, 0) _ rfl H8.out.2.2.setRow Try.underlying26 rfl infoTuI) rfl ?_
        have p3 := HPA.out.2.2
        rw [pickN_yes (by rw [HAT.out, HE1.out]), HAT.out, HE1.out] at p3
        rw [HV.out, ← p3]
        have ag := Agree.row (w := Y8) (g := w.heap.size + 1) (F := [L]) (fun hx => by have := H8.out.1.ge2; simp at hx; omega) #[.int .i64 (k : Int), .bool false, .slice (some ⟨L, off, none⟩) 3 cap]
        exact ⟨_, [L], rfl, H8.out.1.value.agree ag, (H8.out.1.own.agree ag).mono (by omega), below_setRow H8.out.2.1 (by omega) _⟩
    · skip
      obtain ⟨l, hl⟩ : ∃ l, l = ys.getD k 0 := ⟨_, rfl⟩
      have hlr0 : 0 ≤ l ∧ l ≤ 1000 := by rw [hl]; exact HR.out
      obtain ⟨lv, hlv⟩ : ∃ m, m = min (l + sh) 1000 := ⟨_, rfl⟩
      have hlr : 0 ≤ lv ∧ lv ≤ 1000 := by omega
      have HL0 : Hid (ys.getD k 0 = l ∧ lv = min (l + sh) 1000) := ⟨hl.symm, hlv⟩
      have hwl : IntKind.i64.wrap (l + sh) = l + sh := by simp [IntKind.wrap, IntKind.bits, IntKind.signed]; omega
      clear hl hlv
      go_wp2_with fail
      refine wp_region_held (S := fun W => W.cell? ⟨X, 0, none⟩ = some (.int .i64 (k : Int)) ∧ W.cell? ⟨X, 2, none⟩ = some (.slice (some ⟨L, off, none⟩) 3 cap) ∧ W.cell? ⟨b1, o1 + k, none⟩ = some (.int .i64 s) ∧ W.cell? ⟨b2, o2 + k, none⟩ = some (.int .i64 wt)) (by kernel_rfl) ?_
      change wpAnyH _ _ _ _ _ _ _ _ (World.drew _)
      have BD := (Below.refl wr.heap.size wr).drew
      obtain ⟨Y0, hY0⟩ : ∃ Y, Y = wr.drew := ⟨_, rfl⟩
      rw [← hY0] at BD ⊢
      have HA0 : Hid (PV Y0 (w.heap.size + 2) X L off cap ⟨(k : Int), true, ys⟩ ∧ Below w.heap.size w Y0 ∧ Blk Y0 (w.heap.size + 1) #[.int .i64 0, .bool false, .slice none 0 0] 26) := ⟨HA.out.1.below BD, Below.next HA.out.2.1 BD, HA.out.2.2.below BD⟩
      have HSS : Hid (Y0.cell? ⟨X, 0, none⟩ = some (.int .i64 (k : Int)) ∧ Y0.cell? ⟨X, 2, none⟩ = some (.slice (some ⟨L, off, none⟩) 3 cap) ∧ Y0.cell? ⟨b1, o1 + k, none⟩ = some (.int .i64 s) ∧ Y0.cell? ⟨b2, o2 + k, none⟩ = some (.int .i64 wt)) := HS4.out _ _ _ HA0.out.1 HA0.out.2.1
      clear hY0 BD HA c0 c1 c2 cs1 cw1
      refine takeH (o := ?o60) 0 (.pointer (some ⟨X, 2, none⟩)) ?h60 ?r60
      case h60 => simp only [aT, aZ]; rfl
      refine ⟨_, by simp [Act.put]; rfl, by kernel_rfl, by kernel_rfl, by kernel_rfl, fun _ _ _ h => h, (.inl ⟨rfl, fun W _ => by go_simp⟩), HSS.out, ?_⟩
      refine takeH (o := ?o61) 1 (.slice (some ⟨L, off, none⟩) 3 cap) ?h61 ?r61
      case h61 => simp only [aT, aS, aZ]; rfl
      refine ⟨_, by simp [Act.put]; rfl, by kernel_rfl, by kernel_rfl, by kernel_rfl, fun _ _ _ h => h, (.inl ⟨rfl, fun W hW => by have c := hW.2.1; go_simp⟩), HSS.out, ?_⟩
      refine takeH (o := ?o62) 2 (.pointer (some ⟨X, 0, none⟩)) ?h62 ?r62
      case h62 => simp only [aT, aS, aZ]; rfl
      refine ⟨_, by simp [Act.put]; rfl, by kernel_rfl, by kernel_rfl, by kernel_rfl, fun _ _ _ h => h, (.inl ⟨rfl, fun W _ => by go_simp⟩), HSS.out, ?_⟩
      refine takeH (o := ?o63) 3 (.int .i64 (k : Int)) ?h63 ?r63
      case h63 => simp only [aT, aS, aZ]; rfl
      refine ⟨_, by simp [Act.put]; rfl, by kernel_rfl, by kernel_rfl, by kernel_rfl, fun _ _ _ h => h, (.inl ⟨rfl, fun W hW => by have c := hW.1; go_simp⟩), HSS.out, ?_⟩
      refine takeH (o := ?o64) 4 (.pointer (some ⟨X, 2, none⟩)) ?h64 ?r64
      case h64 => simp only [aT, aS, aZ]; rfl
      refine ⟨_, by simp [Act.put]; rfl, by kernel_rfl, by kernel_rfl, by kernel_rfl, fun _ _ _ h => h, (.inl ⟨rfl, fun W _ => by go_simp⟩), HSS.out, ?_⟩
      refine takeH (o := ?o65) 5 (.slice (some ⟨L, off, none⟩) 3 cap) ?h65 ?r65
      case h65 => simp only [aT, aS, aZ]; rfl
      refine ⟨_, by simp [Act.put]; rfl, by kernel_rfl, by kernel_rfl, by kernel_rfl, fun _ _ _ h => h, (.inl ⟨rfl, fun W hW => by have c := hW.2.1; go_simp⟩), HSS.out, ?_⟩
      refine takeH (o := ?o66) 6 (.pointer (some ⟨X, 0, none⟩)) ?h66 ?r66
      case h66 => simp only [aT, aS, aZ]; rfl
      refine ⟨_, by simp [Act.put]; rfl, by kernel_rfl, by kernel_rfl, by kernel_rfl, fun _ _ _ h => h, (.inl ⟨rfl, fun W _ => by go_simp⟩), HSS.out, ?_⟩
      refine takeH (o := ?o67) 7 (.int .i64 (k : Int)) ?h67 ?r67
      case h67 => simp only [aT, aS, aZ]; rfl
      refine ⟨_, by simp [Act.put]; rfl, by kernel_rfl, by kernel_rfl, by kernel_rfl, fun _ _ _ h => h, (.inl ⟨rfl, fun W hW => by have c := hW.1; go_simp⟩), HSS.out, ?_⟩
      refine takeH (o := ?o68) 8 (.pointer (some ⟨L, off + k, none⟩)) ?h68 ?r68
      case h68 => simp only [aT, aS, aZ]; rfl
      refine ⟨_, by simp [Act.put]; rfl, by kernel_rfl, by kernel_rfl, by kernel_rfl, fun _ _ _ h => h, (.inl ⟨rfl, fun W _ => by go_simp; first | done | (intro h; omega) | (rw [if_pos (by omega)]; rfl)⟩), HSS.out, ?_⟩
      refine takeH (o := ?o69) 10 (.int .i64 q) ?h69 ?r69
      case h69 => simp only [aT, aS, aZ]; rfl
      refine ⟨_, by simp [Act.put]; rfl, by kernel_rfl, by kernel_rfl, by kernel_rfl, fun _ _ _ h => h, (.inl ⟨rfl, fun W _ => by kernel_rfl⟩), HSS.out, ?_⟩
      refine takeH (o := ?o70) 11 (.slice (some ⟨b2, o2, none⟩) 3 k2) ?h70 ?r70
      case h70 => simp only [aT, aS, aZ]; rfl
      refine ⟨_, by simp [Act.put]; rfl, by kernel_rfl, by kernel_rfl, by kernel_rfl, fun _ _ _ h => h, (.inl ⟨rfl, fun W _ => by kernel_rfl⟩), HSS.out, ?_⟩
      refine takeH (o := ?o71) 12 (.pointer (some ⟨X, 0, none⟩)) ?h71 ?r71
      case h71 => simp only [aT, aS, aZ]; rfl
      refine ⟨_, by simp [Act.put]; rfl, by kernel_rfl, by kernel_rfl, by kernel_rfl, fun _ _ _ h => h, (.inl ⟨rfl, fun W _ => by go_simp⟩), HSS.out, ?_⟩
      refine takeH (o := ?o72) 13 (.int .i64 (k : Int)) ?h72 ?r72
      case h72 => simp only [aT, aS, aZ]; rfl
      refine ⟨_, by simp [Act.put]; rfl, by kernel_rfl, by kernel_rfl, by kernel_rfl, fun _ _ _ h => h, (.inl ⟨rfl, fun W hW => by have c := hW.1; go_simp⟩), HSS.out, ?_⟩
      refine takeH (o := ?o73) 14 (.pointer (some ⟨b2, o2 + k, none⟩)) ?h73 ?r73
      case h73 => simp only [aT, aS, aZ]; rfl
      refine ⟨_, by simp [Act.put]; rfl, by kernel_rfl, by kernel_rfl, by kernel_rfl, fun _ _ _ h => h, (.inl ⟨rfl, fun W _ => by go_simp; first | done | (intro h; omega) | (rw [if_pos (by omega)]; rfl)⟩), HSS.out, ?_⟩
      refine takeH (o := ?o74) 15 (.int .i64 wt) ?h74 ?r74
      case h74 => simp only [aT, aS, aZ]; rfl
      refine ⟨_, by simp [Act.put]; rfl, by kernel_rfl, by kernel_rfl, by kernel_rfl, fun _ _ _ h => h, (.inl ⟨rfl, fun W hW => by have c := hW.2.2.2; go_simp⟩), HSS.out, ?_⟩
      refine takeH (o := ?o75) 16 (.int .i64 sh) ?h75 ?r75
      case h75 => simp only [aT, aS, aZ]; rfl
      refine ⟨_, by simp [Act.put]; rfl, by kernel_rfl, by kernel_rfl, by kernel_rfl, fun _ _ _ h => h, (.inl ⟨rfl, fun W _ => by go_simp⟩), HSS.out, ?_⟩
      have ca : Y0.cell? ⟨L, off + k, none⟩ = some (.int .i64 l) := by rw [← HL0.out.1]; exact HA0.out.1.cellAt k hk3
      refine onlyH (o := ?o76) 9 (by kernel_rfl) ?h76 ?r76
      case h76 => simp only [aT, aS, aZ]; rfl
      intro K hK
      refine op_value (.int .i64 l) rfl (by go_simp) ⟨_, by simp [Act.put]; rfl, hK _ _ ⟨HSS.out, ?_⟩⟩
      clear hK
      clear ca
      refine takeH (o := ?o77) 17 (.int .i64 (l + sh)) ?h77 ?r77
      case h77 => simp only [aT, aS, aZ]; rfl
      refine ⟨_, by simp [Act.put]; rfl, by kernel_rfl, by kernel_rfl, by kernel_rfl, fun _ _ _ h => h, (.inl ⟨rfl, fun W _ => by go_simp⟩), HSS.out, ?_⟩
      refine onlyH (o := ?o78) 18 (by kernel_rfl) ?h78 ?r78
      case h78 => simp only [aT, aS, aZ]; rfl
      intro K hK
      refine op_call2 38 _ _ _ Try.f38 (fun w' => w' = Y0) (.int .i64 lv) rfl rfl Try.func38 (by kernel_rfl) (by kernel_rfl) ((l1Min_any (l + sh) 1000 Y0).mono (by rintro e w' ⟨rfl, rfl⟩; exact ⟨by rw [HL0.out.2], rfl⟩)) ⟨_, by simp [Act.put]; rfl, ?_⟩
      intro w' hw'
      have hw2' := hw'.symm
      subst hw2'
      clear hw'
      refine hK _ _ ⟨HSS.out, ?_⟩
      clear hK
      refine takeH (o := ?o79) 19 (.pointer (some ⟨L, off + k, none⟩)) ?h79 ?r79
      case h79 => simp only [aT, aS, aZ]; rfl
      refine ⟨_, by simp [Act.put]; rfl, by kernel_rfl, by kernel_rfl, by kernel_rfl, fun _ _ _ h => h, (.inl ⟨rfl, fun W _ => by go_simp; first | done | (intro h; omega) | (rw [if_pos (by omega)]; rfl)⟩), HSS.out, ?_⟩
      refine onlyH (o := ?o80) 20 (by kernel_rfl) ?h80 ?r80
      case h80 => simp only [aT, aS, aZ]; rfl
      intro K hK
      have ca : Y0.cell? ⟨L, off + k, none⟩ = some (.int .i64 l) := by rw [← HL0.out.1]; exact HA0.out.1.cellAt k hk3
      have cf := HA0.out.1.frozenAt k
      have H1 : Hid (PV (Y0.setCell ⟨L, off + k, none⟩ (.int .i64 lv)) (w.heap.size + 2) X L off cap ⟨(k : Int), true, (ys.set k lv)⟩ ∧ Below w.heap.size w (Y0.setCell ⟨L, off + k, none⟩ (.int .i64 lv)) ∧ Blk (Y0.setCell ⟨L, off + k, none⟩ (.int .i64 lv)) (w.heap.size + 1) #[.int .i64 0, .bool false, .slice none 0 0] 26) := ⟨HA0.out.1.el k hk3 lv, HA0.out.2.1.setCell (by have := HA0.out.1.ge2; show w.heap.size ≤ L; omega) _, HA0.out.2.2.setOther (by have := HA0.out.1.ge2; omega) _ _⟩
      refine op_skip (Y0.setCell ⟨L, off + k, none⟩ (.int .i64 lv)) rfl (by go_simp) ⟨_, by simp [Act.put]; rfl, hK _ _ ⟨HS4.out _ _ _ H1.out.1 H1.out.2.1, ?_⟩⟩
      clear hK ca cf
      obtain ⟨Y1, hY1⟩ : ∃ Y, Y = Y0.setCell ⟨L, off + k, none⟩ (.int .i64 lv) := ⟨_, rfl⟩
      rw [← hY1] at H1 ⊢
      have HLS : Hid (k < ys.length) := by show _ < _; have := HA0.out.1.rd.length; simp only at this; omega
      clear hY1 HA0 HSS
      refine wpAnyH_done (by kernel_rfl) ?_ _
      have c1 := H1.out.1.blk.cell 1
      have f1 := H1.out.1.blk.frozen 1
      simp only [aT, aS, aZ] at c1
      have HC : Hid (PV (Y1.setCell ⟨X, 1, none⟩ (.bool false)) (w.heap.size + 2) X L off cap ⟨(k : Int), false, (ys.set k lv)⟩ ∧ Below w.heap.size w (Y1.setCell ⟨X, 1, none⟩ (.bool false)) ∧ Blk (Y1.setCell ⟨X, 1, none⟩ (.bool false)) (w.heap.size + 1) #[.int .i64 0, .bool false, .slice none 0 0] 26) := ⟨H1.out.1.fr false, H1.out.2.1.setCell (by have := H1.out.1.ge; show w.heap.size ≤ X; omega) _, H1.out.2.2.setOther (by have := H1.out.1.ge; omega) 1 _⟩
      have HLV : Hid ((ys.set k lv).getD k 0 = lv) := by show _ = _; have := HLS.out; simp [this]
      have HST : Hid (Tu.step ⟨(k : Int), true, ys⟩ s sh = if s ≤ lv then (⟨(k : Int), false, (ys.set k lv).set k (lv - s)⟩, true) else (⟨(k : Int), false, ys.set k lv⟩, false)) := by
        show _ = _; unfold Tu.step; rw [if_neg H0.out]
        simp only [Int.toNat_natCast, if_true, List.set_set]
        rw [HL0.out.1, ← HL0.out.2]
      go_upto_region 12 with fail
      obtain ⟨Wc, hWc⟩ : ∃ W, W = Y1.setCell ⟨X, 1, none⟩ (.bool false) := ⟨_, rfl⟩
      rw [← hWc] at HC ⊢
      clear hWc c1 f1 H1
      by_cases hle : s ≤ lv
      rotate_left
      · skip
        have hld : decide (s ≤ lv) = false := dec_false hle
        have HE1 : Hid (Tu.step ⟨(k : Int), true, ys⟩ s sh = (⟨(k : Int), false, (ys.set k lv)⟩, false)) := by show _ = _; rw [HST.out, if_neg hle]
        refine wp_region_held (S := fun W => (W.cell? ⟨X, 0, none⟩ = some (.int .i64 (k : Int)) ∧ W.cell? ⟨X, 2, none⟩ = some (.slice (some ⟨L, off, none⟩) 3 cap) ∧ W.cell? ⟨b1, o1 + k, none⟩ = some (.int .i64 s) ∧ W.cell? ⟨b2, o2 + k, none⟩ = some (.int .i64 wt)) ∧ W.cell? ⟨L, off + k, none⟩ = some (.int .i64 lv)) (by kernel_rfl) ?_
        change wpAnyH _ _ _ _ _ _ _ _ (World.drew _)
        have BD := (Below.refl Wc.heap.size Wc).drew
        obtain ⟨Y5, hY5⟩ : ∃ Y, Y = Wc.drew := ⟨_, rfl⟩
        rw [← hY5] at BD ⊢
        have HD : Hid (PV Y5 (w.heap.size + 2) X L off cap ⟨(k : Int), false, (ys.set k lv)⟩ ∧ Below w.heap.size w Y5 ∧ Blk Y5 (w.heap.size + 1) #[.int .i64 0, .bool false, .slice none 0 0] 26) := ⟨HC.out.1.below BD, Below.next HC.out.2.1 BD, HC.out.2.2.below BD⟩
        have HSS : Hid ((Y5.cell? ⟨X, 0, none⟩ = some (.int .i64 (k : Int)) ∧ Y5.cell? ⟨X, 2, none⟩ = some (.slice (some ⟨L, off, none⟩) 3 cap) ∧ Y5.cell? ⟨b1, o1 + k, none⟩ = some (.int .i64 s) ∧ Y5.cell? ⟨b2, o2 + k, none⟩ = some (.int .i64 wt)) ∧ Y5.cell? ⟨L, off + k, none⟩ = some (.int .i64 lv)) := ⟨HS4.out _ _ _ HD.out.1 HD.out.2.1, by rw [← HLV.out]; exact HD.out.1.cellAt k hk3⟩
        clear hY5 BD HC
        refine takeH (o := ?o81) 0 (.slice (some ⟨b1, o1, none⟩) 3 k1) ?h81 ?r81
        case h81 => simp only [aT, aZ]; rfl
        refine ⟨_, by simp [Act.put]; rfl, by kernel_rfl, by kernel_rfl, by kernel_rfl, fun _ _ _ h => h, (.inl ⟨rfl, fun W _ => by kernel_rfl⟩), HSS.out, ?_⟩
        refine takeH (o := ?o82) 1 (.pointer (some ⟨X, 0, none⟩)) ?h82 ?r82
        case h82 => simp only [aT, aS, aZ]; rfl
        refine ⟨_, by simp [Act.put]; rfl, by kernel_rfl, by kernel_rfl, by kernel_rfl, fun _ _ _ h => h, (.inl ⟨rfl, fun W _ => by go_simp⟩), HSS.out, ?_⟩
        refine takeH (o := ?o83) 2 (.int .i64 (k : Int)) ?h83 ?r83
        case h83 => simp only [aT, aS, aZ]; rfl
        refine ⟨_, by simp [Act.put]; rfl, by kernel_rfl, by kernel_rfl, by kernel_rfl, fun _ _ _ h => h, (.inl ⟨rfl, fun W hW => by have c := hW.1.1; go_simp⟩), HSS.out, ?_⟩
        refine takeH (o := ?o84) 3 (.pointer (some ⟨b1, o1 + k, none⟩)) ?h84 ?r84
        case h84 => simp only [aT, aS, aZ]; rfl
        refine ⟨_, by simp [Act.put]; rfl, by kernel_rfl, by kernel_rfl, by kernel_rfl, fun _ _ _ h => h, (.inl ⟨rfl, fun W _ => by go_simp; first | done | (intro h; omega) | (rw [if_pos (by omega)]; rfl)⟩), HSS.out, ?_⟩
        refine takeH (o := ?o85) 4 (.int .i64 s) ?h85 ?r85
        case h85 => simp only [aT, aS, aZ]; rfl
        refine ⟨_, by simp [Act.put]; rfl, by kernel_rfl, by kernel_rfl, by kernel_rfl, fun _ _ _ h => h, (.inl ⟨rfl, fun W hW => by have c := hW.1.2.2.1; go_simp⟩), HSS.out, ?_⟩
        refine takeH (o := ?o86) 5 (.pointer (some ⟨X, 2, none⟩)) ?h86 ?r86
        case h86 => simp only [aT, aS, aZ]; rfl
        refine ⟨_, by simp [Act.put]; rfl, by kernel_rfl, by kernel_rfl, by kernel_rfl, fun _ _ _ h => h, (.inl ⟨rfl, fun W _ => by go_simp⟩), HSS.out, ?_⟩
        refine takeH (o := ?o87) 6 (.slice (some ⟨L, off, none⟩) 3 cap) ?h87 ?r87
        case h87 => simp only [aT, aS, aZ]; rfl
        refine ⟨_, by simp [Act.put]; rfl, by kernel_rfl, by kernel_rfl, by kernel_rfl, fun _ _ _ h => h, (.inl ⟨rfl, fun W hW => by have c := hW.1.2.1; go_simp⟩), HSS.out, ?_⟩
        refine takeH (o := ?o88) 7 (.pointer (some ⟨X, 0, none⟩)) ?h88 ?r88
        case h88 => simp only [aT, aS, aZ]; rfl
        refine ⟨_, by simp [Act.put]; rfl, by kernel_rfl, by kernel_rfl, by kernel_rfl, fun _ _ _ h => h, (.inl ⟨rfl, fun W _ => by go_simp⟩), HSS.out, ?_⟩
        refine takeH (o := ?o89) 8 (.int .i64 (k : Int)) ?h89 ?r89
        case h89 => simp only [aT, aS, aZ]; rfl
        refine ⟨_, by simp [Act.put]; rfl, by kernel_rfl, by kernel_rfl, by kernel_rfl, fun _ _ _ h => h, (.inl ⟨rfl, fun W hW => by have c := hW.1.1; go_simp⟩), HSS.out, ?_⟩
        refine takeH (o := ?o90) 9 (.pointer (some ⟨L, off + k, none⟩)) ?h90 ?r90
        case h90 => simp only [aT, aS, aZ]; rfl
        refine ⟨_, by simp [Act.put]; rfl, by kernel_rfl, by kernel_rfl, by kernel_rfl, fun _ _ _ h => h, (.inl ⟨rfl, fun W _ => by go_simp; first | done | (intro h; omega) | (rw [if_pos (by omega)]; rfl)⟩), HSS.out, ?_⟩
        refine takeH (o := ?o91) 10 (.int .i64 lv) ?h91 ?r91
        case h91 => simp only [aT, aS, aZ]; rfl
        refine ⟨_, by simp [Act.put]; rfl, by kernel_rfl, by kernel_rfl, by kernel_rfl, fun _ _ _ h => h, (.inl ⟨rfl, fun W hW => by have c := hW.2; go_simp⟩), HSS.out, ?_⟩
        refine takeH (o := ?o92) 11 (.bool false) ?h92 ?r92
        case h92 => simp only [aT, aS, aZ]; rfl
        refine ⟨_, by simp [Act.put]; rfl, by kernel_rfl, by kernel_rfl, by kernel_rfl, fun _ _ _ h => h, (.inl ⟨rfl, fun W _ => by go_simp⟩), HSS.out, ?_⟩
        refine wpAnyH_done (by kernel_rfl) ?_ _
        go_wp2_with (first | go_skip | (with_reducible refine stopLoad 26 rfl ?_) | (with_reducible refine stopStore 26 rfl ?_))
        refine load_known 26 X #[.int .i64 (k : Int), .bool false, .slice (some ⟨L, off, none⟩) 3 cap] 26 _ HD.out.1.blk rfl rfl rfl Try.underlying26 rfl infoTuI ?_
        go_wp2_with fail
        refine (l11Next_any (some ⟨L, off, none⟩) 3 cap (k : Int) false _ (by omega)).mono ?_
        rintro e w5 ⟨rfl, b5⟩
        obtain ⟨m, hm⟩ : ∃ m, m = ((k : Int) + 1) % 3 := ⟨_, rfl⟩
        rw [← hm]
        have HM : Hid (m = ((k : Int) + 1) % 3) := hm
        have H5 : Hid (PV w5 (w.heap.size + 2) X L off cap ⟨(k : Int), false, (ys.set k lv)⟩ ∧ Below w.heap.size w w5 ∧ Blk w5 (w.heap.size + 1) #[.int .i64 0, .bool false, .slice none 0 0] 26) := ⟨HD.out.1.below b5, Below.next HD.out.2.1 b5, HD.out.2.2.below b5⟩
        clear hm b5
        go_wp2_with (first | go_skip | (with_reducible refine stopLoad 26 rfl ?_) | (with_reducible refine stopStore 26 rfl ?_))
        refine store_known 26 X _ #[.int .i64 m, .bool true, .slice (some ⟨L, off, none⟩) 3 cap] 26 H5.out.1.blk rfl rfl rfl rfl infoTuI rfl (by simp [Value.oneCell']) ?_
        have HN : Hid (PV (w5.setRow X #[.int .i64 m, .bool true, .slice (some ⟨L, off, none⟩) 3 cap]) (w.heap.size + 2) X L off cap ⟨m, true, (ys.set k lv)⟩ ∧ Below w.heap.size w (w5.setRow X #[.int .i64 m, .bool true, .slice (some ⟨L, off, none⟩) 3 cap]) ∧ Blk (w5.setRow X #[.int .i64 m, .bool true, .slice (some ⟨L, off, none⟩) 3 cap]) (w.heap.size + 1) #[.int .i64 0, .bool false, .slice none 0 0] 26) := ⟨H5.out.1.row m true, below_setRow H5.out.2.1 (by have := H5.out.1.ge; omega) _, H5.out.2.2.setRowOther (by have := H5.out.1.ge; omega)⟩
        obtain ⟨w6, hw6⟩ : ∃ W, W = w5.setRow X #[.int .i64 m, .bool true, .slice (some ⟨L, off, none⟩) 3 cap] := ⟨_, rfl⟩
        rw [← hw6] at HN ⊢
        clear hw6 H5
        go_wp2
        go_roundg g
        case measure => omega
        case rel =>
          obtain ⟨p1, p2, p3⟩ := HNX.out _ (HE1.out).symm rfl m HM.out
          exact ⟨⟨m, true, (ys.set k lv)⟩, p1, p2, p3, HN.out.1, HN.out.2.1, HN.out.2.2⟩
      · skip
        have hld : decide (s ≤ lv) = true := dec_true hle
        have HE1 : Hid (Tu.step ⟨(k : Int), true, ys⟩ s sh = (⟨(k : Int), false, (ys.set k lv).set k (lv - s)⟩, true)) := by show _ = _; rw [HST.out, if_pos hle]
        refine wp_region_held (S := fun W => (W.cell? ⟨X, 0, none⟩ = some (.int .i64 (k : Int)) ∧ W.cell? ⟨X, 2, none⟩ = some (.slice (some ⟨L, off, none⟩) 3 cap) ∧ W.cell? ⟨b1, o1 + k, none⟩ = some (.int .i64 s) ∧ W.cell? ⟨b2, o2 + k, none⟩ = some (.int .i64 wt)) ∧ W.cell? ⟨L, off + k, none⟩ = some (.int .i64 lv)) (by kernel_rfl) ?_
        change wpAnyH _ _ _ _ _ _ _ _ (World.drew _)
        have BD := (Below.refl Wc.heap.size Wc).drew
        obtain ⟨Y5, hY5⟩ : ∃ Y, Y = Wc.drew := ⟨_, rfl⟩
        rw [← hY5] at BD ⊢
        have HD : Hid (PV Y5 (w.heap.size + 2) X L off cap ⟨(k : Int), false, (ys.set k lv)⟩ ∧ Below w.heap.size w Y5 ∧ Blk Y5 (w.heap.size + 1) #[.int .i64 0, .bool false, .slice none 0 0] 26) := ⟨HC.out.1.below BD, Below.next HC.out.2.1 BD, HC.out.2.2.below BD⟩
        have HSS : Hid ((Y5.cell? ⟨X, 0, none⟩ = some (.int .i64 (k : Int)) ∧ Y5.cell? ⟨X, 2, none⟩ = some (.slice (some ⟨L, off, none⟩) 3 cap) ∧ Y5.cell? ⟨b1, o1 + k, none⟩ = some (.int .i64 s) ∧ Y5.cell? ⟨b2, o2 + k, none⟩ = some (.int .i64 wt)) ∧ Y5.cell? ⟨L, off + k, none⟩ = some (.int .i64 lv)) := ⟨HS4.out _ _ _ HD.out.1 HD.out.2.1, by rw [← HLV.out]; exact HD.out.1.cellAt k hk3⟩
        clear hY5 BD HC
        refine takeH (o := ?o93) 0 (.slice (some ⟨b1, o1, none⟩) 3 k1) ?h93 ?r93
        case h93 => simp only [aT, aZ]; rfl
        refine ⟨_, by simp [Act.put]; rfl, by kernel_rfl, by kernel_rfl, by kernel_rfl, fun _ _ _ h => h, (.inl ⟨rfl, fun W _ => by kernel_rfl⟩), HSS.out, ?_⟩
        refine takeH (o := ?o94) 1 (.pointer (some ⟨X, 0, none⟩)) ?h94 ?r94
        case h94 => simp only [aT, aS, aZ]; rfl
        refine ⟨_, by simp [Act.put]; rfl, by kernel_rfl, by kernel_rfl, by kernel_rfl, fun _ _ _ h => h, (.inl ⟨rfl, fun W _ => by go_simp⟩), HSS.out, ?_⟩
        refine takeH (o := ?o95) 2 (.int .i64 (k : Int)) ?h95 ?r95
        case h95 => simp only [aT, aS, aZ]; rfl
        refine ⟨_, by simp [Act.put]; rfl, by kernel_rfl, by kernel_rfl, by kernel_rfl, fun _ _ _ h => h, (.inl ⟨rfl, fun W hW => by have c := hW.1.1; go_simp⟩), HSS.out, ?_⟩
        refine takeH (o := ?o96) 3 (.pointer (some ⟨b1, o1 + k, none⟩)) ?h96 ?r96
        case h96 => simp only [aT, aS, aZ]; rfl
        refine ⟨_, by simp [Act.put]; rfl, by kernel_rfl, by kernel_rfl, by kernel_rfl, fun _ _ _ h => h, (.inl ⟨rfl, fun W _ => by go_simp; first | done | (intro h; omega) | (rw [if_pos (by omega)]; rfl)⟩), HSS.out, ?_⟩
        refine takeH (o := ?o97) 4 (.int .i64 s) ?h97 ?r97
        case h97 => simp only [aT, aS, aZ]; rfl
        refine ⟨_, by simp [Act.put]; rfl, by kernel_rfl, by kernel_rfl, by kernel_rfl, fun _ _ _ h => h, (.inl ⟨rfl, fun W hW => by have c := hW.1.2.2.1; go_simp⟩), HSS.out, ?_⟩
        refine takeH (o := ?o98) 5 (.pointer (some ⟨X, 2, none⟩)) ?h98 ?r98
        case h98 => simp only [aT, aS, aZ]; rfl
        refine ⟨_, by simp [Act.put]; rfl, by kernel_rfl, by kernel_rfl, by kernel_rfl, fun _ _ _ h => h, (.inl ⟨rfl, fun W _ => by go_simp⟩), HSS.out, ?_⟩
        refine takeH (o := ?o99) 6 (.slice (some ⟨L, off, none⟩) 3 cap) ?h99 ?r99
        case h99 => simp only [aT, aS, aZ]; rfl
        refine ⟨_, by simp [Act.put]; rfl, by kernel_rfl, by kernel_rfl, by kernel_rfl, fun _ _ _ h => h, (.inl ⟨rfl, fun W hW => by have c := hW.1.2.1; go_simp⟩), HSS.out, ?_⟩
        refine takeH (o := ?o100) 7 (.pointer (some ⟨X, 0, none⟩)) ?h100 ?r100
        case h100 => simp only [aT, aS, aZ]; rfl
        refine ⟨_, by simp [Act.put]; rfl, by kernel_rfl, by kernel_rfl, by kernel_rfl, fun _ _ _ h => h, (.inl ⟨rfl, fun W _ => by go_simp⟩), HSS.out, ?_⟩
        refine takeH (o := ?o101) 8 (.int .i64 (k : Int)) ?h101 ?r101
        case h101 => simp only [aT, aS, aZ]; rfl
        refine ⟨_, by simp [Act.put]; rfl, by kernel_rfl, by kernel_rfl, by kernel_rfl, fun _ _ _ h => h, (.inl ⟨rfl, fun W hW => by have c := hW.1.1; go_simp⟩), HSS.out, ?_⟩
        refine takeH (o := ?o102) 9 (.pointer (some ⟨L, off + k, none⟩)) ?h102 ?r102
        case h102 => simp only [aT, aS, aZ]; rfl
        refine ⟨_, by simp [Act.put]; rfl, by kernel_rfl, by kernel_rfl, by kernel_rfl, fun _ _ _ h => h, (.inl ⟨rfl, fun W _ => by go_simp; first | done | (intro h; omega) | (rw [if_pos (by omega)]; rfl)⟩), HSS.out, ?_⟩
        refine takeH (o := ?o103) 10 (.int .i64 lv) ?h103 ?r103
        case h103 => simp only [aT, aS, aZ]; rfl
        refine ⟨_, by simp [Act.put]; rfl, by kernel_rfl, by kernel_rfl, by kernel_rfl, fun _ _ _ h => h, (.inl ⟨rfl, fun W hW => by have c := hW.2; go_simp⟩), HSS.out, ?_⟩
        refine takeH (o := ?o104) 11 (.bool true) ?h104 ?r104
        case h104 => simp only [aT, aS, aZ]; rfl
        refine ⟨_, by simp [Act.put]; rfl, by kernel_rfl, by kernel_rfl, by kernel_rfl, fun _ _ _ h => h, (.inl ⟨rfl, fun W _ => by go_simp⟩), HSS.out, ?_⟩
        refine wpAnyH_done (by kernel_rfl) ?_ _
        go_wp2_with fail
        refine wp_region_held (S := fun W => W.cell? ⟨X, 0, none⟩ = some (.int .i64 (k : Int)) ∧ W.cell? ⟨X, 2, none⟩ = some (.slice (some ⟨L, off, none⟩) 3 cap) ∧ W.cell? ⟨b1, o1 + k, none⟩ = some (.int .i64 s) ∧ W.cell? ⟨b2, o2 + k, none⟩ = some (.int .i64 wt)) (by kernel_rfl) ?_
        change wpAnyH _ _ _ _ _ _ _ _ (World.drew _)
        have BD := (Below.refl Y5.heap.size Y5).drew
        obtain ⟨Y6, hY6⟩ : ∃ Y, Y = Y5.drew := ⟨_, rfl⟩
        rw [← hY6] at BD ⊢
        have HD6 : Hid (PV Y6 (w.heap.size + 2) X L off cap ⟨(k : Int), false, (ys.set k lv)⟩ ∧ Below w.heap.size w Y6 ∧ Blk Y6 (w.heap.size + 1) #[.int .i64 0, .bool false, .slice none 0 0] 26) := ⟨HD.out.1.below BD, Below.next HD.out.2.1 BD, HD.out.2.2.below BD⟩
        have HS6 : Hid (Y6.cell? ⟨X, 0, none⟩ = some (.int .i64 (k : Int)) ∧ Y6.cell? ⟨X, 2, none⟩ = some (.slice (some ⟨L, off, none⟩) 3 cap) ∧ Y6.cell? ⟨b1, o1 + k, none⟩ = some (.int .i64 s) ∧ Y6.cell? ⟨b2, o2 + k, none⟩ = some (.int .i64 wt)) := HS4.out _ _ _ HD6.out.1 HD6.out.2.1
        clear hY6 BD HD HSS
        refine takeH (o := ?o105) 0 (.pointer (some ⟨X, 2, none⟩)) ?h105 ?r105
        case h105 => simp only [aT, aZ]; rfl
        refine ⟨_, by simp [Act.put]; rfl, by kernel_rfl, by kernel_rfl, by kernel_rfl, fun _ _ _ h => h, (.inl ⟨rfl, fun W _ => by go_simp⟩), HS6.out, ?_⟩
        refine takeH (o := ?o106) 1 (.slice (some ⟨L, off, none⟩) 3 cap) ?h106 ?r106
        case h106 => simp only [aT, aS, aZ]; rfl
        refine ⟨_, by simp [Act.put]; rfl, by kernel_rfl, by kernel_rfl, by kernel_rfl, fun _ _ _ h => h, (.inl ⟨rfl, fun W hW => by have c := hW.2.1; go_simp⟩), HS6.out, ?_⟩
        refine takeH (o := ?o107) 2 (.pointer (some ⟨X, 0, none⟩)) ?h107 ?r107
        case h107 => simp only [aT, aS, aZ]; rfl
        refine ⟨_, by simp [Act.put]; rfl, by kernel_rfl, by kernel_rfl, by kernel_rfl, fun _ _ _ h => h, (.inl ⟨rfl, fun W _ => by go_simp⟩), HS6.out, ?_⟩
        refine takeH (o := ?o108) 3 (.int .i64 (k : Int)) ?h108 ?r108
        case h108 => simp only [aT, aS, aZ]; rfl
        refine ⟨_, by simp [Act.put]; rfl, by kernel_rfl, by kernel_rfl, by kernel_rfl, fun _ _ _ h => h, (.inl ⟨rfl, fun W hW => by have c := hW.1; go_simp⟩), HS6.out, ?_⟩
        refine takeH (o := ?o109) 4 (.pointer (some ⟨X, 2, none⟩)) ?h109 ?r109
        case h109 => simp only [aT, aS, aZ]; rfl
        refine ⟨_, by simp [Act.put]; rfl, by kernel_rfl, by kernel_rfl, by kernel_rfl, fun _ _ _ h => h, (.inl ⟨rfl, fun W _ => by go_simp⟩), HS6.out, ?_⟩
        refine takeH (o := ?o110) 5 (.slice (some ⟨L, off, none⟩) 3 cap) ?h110 ?r110
        case h110 => simp only [aT, aS, aZ]; rfl
        refine ⟨_, by simp [Act.put]; rfl, by kernel_rfl, by kernel_rfl, by kernel_rfl, fun _ _ _ h => h, (.inl ⟨rfl, fun W hW => by have c := hW.2.1; go_simp⟩), HS6.out, ?_⟩
        refine takeH (o := ?o111) 6 (.pointer (some ⟨X, 0, none⟩)) ?h111 ?r111
        case h111 => simp only [aT, aS, aZ]; rfl
        refine ⟨_, by simp [Act.put]; rfl, by kernel_rfl, by kernel_rfl, by kernel_rfl, fun _ _ _ h => h, (.inl ⟨rfl, fun W _ => by go_simp⟩), HS6.out, ?_⟩
        refine takeH (o := ?o112) 7 (.int .i64 (k : Int)) ?h112 ?r112
        case h112 => simp only [aT, aS, aZ]; rfl
        refine ⟨_, by simp [Act.put]; rfl, by kernel_rfl, by kernel_rfl, by kernel_rfl, fun _ _ _ h => h, (.inl ⟨rfl, fun W hW => by have c := hW.1; go_simp⟩), HS6.out, ?_⟩
        refine takeH (o := ?o113) 8 (.pointer (some ⟨L, off + k, none⟩)) ?h113 ?r113
        case h113 => simp only [aT, aS, aZ]; rfl
        refine ⟨_, by simp [Act.put]; rfl, by kernel_rfl, by kernel_rfl, by kernel_rfl, fun _ _ _ h => h, (.inl ⟨rfl, fun W _ => by go_simp; first | done | (intro h; omega) | (rw [if_pos (by omega)]; rfl)⟩), HS6.out, ?_⟩
        refine takeH (o := ?o114) 10 (.slice (some ⟨b1, o1, none⟩) 3 k1) ?h114 ?r114
        case h114 => simp only [aT, aS, aZ]; rfl
        refine ⟨_, by simp [Act.put]; rfl, by kernel_rfl, by kernel_rfl, by kernel_rfl, fun _ _ _ h => h, (.inl ⟨rfl, fun W _ => by kernel_rfl⟩), HS6.out, ?_⟩
        refine takeH (o := ?o115) 11 (.pointer (some ⟨X, 0, none⟩)) ?h115 ?r115
        case h115 => simp only [aT, aS, aZ]; rfl
        refine ⟨_, by simp [Act.put]; rfl, by kernel_rfl, by kernel_rfl, by kernel_rfl, fun _ _ _ h => h, (.inl ⟨rfl, fun W _ => by go_simp⟩), HS6.out, ?_⟩
        refine takeH (o := ?o116) 12 (.int .i64 (k : Int)) ?h116 ?r116
        case h116 => simp only [aT, aS, aZ]; rfl
        refine ⟨_, by simp [Act.put]; rfl, by kernel_rfl, by kernel_rfl, by kernel_rfl, fun _ _ _ h => h, (.inl ⟨rfl, fun W hW => by have c := hW.1; go_simp⟩), HS6.out, ?_⟩
        refine takeH (o := ?o117) 13 (.pointer (some ⟨b1, o1 + k, none⟩)) ?h117 ?r117
        case h117 => simp only [aT, aS, aZ]; rfl
        refine ⟨_, by simp [Act.put]; rfl, by kernel_rfl, by kernel_rfl, by kernel_rfl, fun _ _ _ h => h, (.inl ⟨rfl, fun W _ => by go_simp; first | done | (intro h; omega) | (rw [if_pos (by omega)]; rfl)⟩), HS6.out, ?_⟩
        refine takeH (o := ?o118) 14 (.int .i64 s) ?h118 ?r118
        case h118 => simp only [aT, aS, aZ]; rfl
        refine ⟨_, by simp [Act.put]; rfl, by kernel_rfl, by kernel_rfl, by kernel_rfl, fun _ _ _ h => h, (.inl ⟨rfl, fun W hW => by have c := hW.2.2.1; go_simp⟩), HS6.out, ?_⟩
        have ca : Y6.cell? ⟨L, off + k, none⟩ = some (.int .i64 lv) := by rw [← HLV.out]; exact HD6.out.1.cellAt k hk3
        have hws : IntKind.i64.wrap (lv - s) = lv - s := by simp [IntKind.wrap, IntKind.bits, IntKind.signed]; omega
        refine onlyH (o := ?o119) 9 (by kernel_rfl) ?h119 ?r119
        case h119 => simp only [aT, aS, aZ]; rfl
        intro K hK
        refine op_value (.int .i64 lv) rfl (by go_simp) ⟨_, by simp [Act.put]; rfl, hK _ _ ⟨HS6.out, ?_⟩⟩
        clear hK
        clear ca
        refine takeH (o := ?o120) 15 (.int .i64 (lv - s)) ?h120 ?r120
        case h120 => simp only [aT, aS, aZ]; rfl
        refine ⟨_, by simp [Act.put]; rfl, by kernel_rfl, by kernel_rfl, by kernel_rfl, fun _ _ _ h => h, (.inl ⟨rfl, fun W _ => by go_simp⟩), HS6.out, ?_⟩
        refine takeH (o := ?o121) 16 (.pointer (some ⟨L, off + k, none⟩)) ?h121 ?r121
        case h121 => simp only [aT, aS, aZ]; rfl
        refine ⟨_, by simp [Act.put]; rfl, by kernel_rfl, by kernel_rfl, by kernel_rfl, fun _ _ _ h => h, (.inl ⟨rfl, fun W _ => by go_simp; first | done | (intro h; omega) | (rw [if_pos (by omega)]; rfl)⟩), HS6.out, ?_⟩
        refine onlyH (o := ?o122) 17 (by kernel_rfl) ?h122 ?r122
        case h122 => simp only [aT, aS, aZ]; rfl
        intro K hK
        have ca : Y6.cell? ⟨L, off + k, none⟩ = some (.int .i64 lv) := by rw [← HLV.out]; exact HD6.out.1.cellAt k hk3
        have cf := HD6.out.1.frozenAt k
        have H7 : Hid (PV (Y6.setCell ⟨L, off + k, none⟩ (.int .i64 (lv - s))) (w.heap.size + 2) X L off cap ⟨(k : Int), false, ((ys.set k lv).set k (lv - s))⟩ ∧ Below w.heap.size w (Y6.setCell ⟨L, off + k, none⟩ (.int .i64 (lv - s))) ∧ Blk (Y6.setCell ⟨L, off + k, none⟩ (.int .i64 (lv - s))) (w.heap.size + 1) #[.int .i64 0, .bool false, .slice none 0 0] 26) := ⟨HD6.out.1.el k hk3 _, HD6.out.2.1.setCell (by have := HD6.out.1.ge2; show w.heap.size ≤ L; omega) _, HD6.out.2.2.setOther (by have := HD6.out.1.ge2; omega) _ _⟩
        refine op_skip (Y6.setCell ⟨L, off + k, none⟩ (.int .i64 (lv - s))) rfl (by go_simp) ⟨_, by simp [Act.put]; rfl, hK _ _ ⟨HS4.out _ _ _ H7.out.1 H7.out.2.1, ?_⟩⟩
        clear hK ca cf
        obtain ⟨Y7, hY7⟩ : ∃ Y, Y = Y6.setCell ⟨L, off + k, none⟩ (.int .i64 (lv - s)) := ⟨_, rfl⟩
        rw [← hY7] at H7 ⊢
        clear hY7 HD6 HS6
        refine wpAnyH_done (by kernel_rfl) ?_ _
        go_wp2_with fail
        refine wp_region_held (S := fun W => Blk W X #[.int .i64 (k : Int), .bool false, .slice (some ⟨L, off, none⟩) 3 cap] 26) (by kernel_rfl) ?_
        change wpAnyH _ _ _ _ _ _ _ _ (World.drew _)
        have BD := (Below.refl Y7.heap.size Y7).drew
        obtain ⟨Y8, hY8⟩ : ∃ Y, Y = Y7.drew := ⟨_, rfl⟩
        rw [← hY8] at BD ⊢
        have H8 : Hid (PV Y8 (w.heap.size + 2) X L off cap ⟨(k : Int), false, ((ys.set k lv).set k (lv - s))⟩ ∧ Below w.heap.size w Y8 ∧ Blk Y8 (w.heap.size + 1) #[.int .i64 0, .bool false, .slice none 0 0] 26) := ⟨H7.out.1.below BD, Below.next H7.out.2.1 BD, H7.out.2.2.below BD⟩
        have HS8 : Hid (Blk Y8 X #[.int .i64 (k : Int), .bool false, .slice (some ⟨L, off, none⟩) 3 cap] 26) := H8.out.1.blk
        clear hY8 BD H7
        refine takeH (o := ?o123) 0 (.pointer (some ⟨X, 0, none⟩)) ?h123 ?r123
        case h123 => simp only [aT, aZ]; rfl
        refine ⟨_, by simp [Act.put]; rfl, by kernel_rfl, by kernel_rfl, by kernel_rfl, fun _ _ _ h => h, (.inl ⟨rfl, fun W _ => by go_simp⟩), HS8.out, ?_⟩
        refine takeH (o := ?o124) 1 (.int .i64 (k : Int)) ?h124 ?r124
        case h124 => simp only [aT, aS, aZ]; rfl
        refine ⟨_, by simp [Act.put]; rfl, by kernel_rfl, by kernel_rfl, by kernel_rfl, fun _ _ _ h => h, (.inl ⟨rfl, fun W hW => by have c := hW.cell 0; simp only [aT, aZ] at c; go_simp⟩), HS8.out, ?_⟩
        refine takeH (o := ?o125) 2 (.agg #[.int .i64 (k : Int), .bool false, .slice (some ⟨L, off, none⟩) 3 cap]) ?h125 ?r125
        case h125 => simp only [aT, aS, aZ]; rfl
        refine ⟨_, by simp [Act.put]; rfl, by kernel_rfl, by kernel_rfl, by kernel_rfl, fun _ _ _ h => h, (yields_whole 26 _ #[.int .i64 (k : Int), .bool false, .slice (some ⟨L, off, none⟩) 3 cap] 26 _ rfl rfl rfl Try.underlying26 rfl infoTuI (fun W hW => hW)), HS8.out, ?_⟩
        refine takeH (o := ?o126) 3 (.int .i64 (k : Int)) ?h126 ?r126
        case h126 => simp only [aT, aS, aZ]; rfl
        refine ⟨_, by simp [Act.put]; rfl, by kernel_rfl, by kernel_rfl, by kernel_rfl, fun _ _ _ h => h, (.inl ⟨rfl, fun W _ => by kernel_rfl⟩), HS8.out, ?_⟩
        refine onlyH (o := ?o127) 4 (by kernel_rfl) ?h127 ?r127
        case h127 => simp only [aT, aS, aZ]; rfl
        intro K hK
        refine op_store 26 (w.heap.size + 1) #[.int .i64 0, .bool false, .slice none 0 0] #[.int .i64 (k : Int), .bool false, .slice (some ⟨L, off, none⟩) 3 cap] 26 rfl rfl rfl rfl H8.out.2.2 infoTuI rfl (by simp [Value.oneCell']) ⟨_, by simp [Act.put]; rfl, hK _ _ ⟨HS8.out.setRowOther (by have := H8.out.1.ge; omega), ?_⟩⟩
        clear hK
        refine wpAnyH_done (by kernel_rfl) ?_ _
        go_wp2
        refine bodyPost_ret (results_tmp_rowT Try.results10 _ _ (w.heap.size + 1) _ _ (0, 0) _ rfl H8.out.2.2.setRow Try.underlying26 rfl infoTuI) rfl ?_
        have p3 := HPA.out.2.2
        rw [pickN_yes (by rw [HAT.out, HE1.out]), HAT.out, HE1.out] at p3
        rw [HV.out, ← p3]
        have ag := Agree.row (w := Y8) (g := w.heap.size + 1) (F := [L]) (fun hx => by have := H8.out.1.ge2; simp at hx; omega) #[.int .i64 (k : Int), .bool false, .slice (some ⟨L, off, none⟩) 3 cap]
        exact ⟨_, [L], rfl, H8.out.1.value.agree ag, (H8.out.1.own.agree ag).mono (by omega), below_setRow H8.out.2.1 (by omega) _⟩
set_option maxRecDepth 200000 in
theorem pick_spec_any (a1 a2 : Option Addr) (n1 k1 n2 k2 : Nat) (ss ws : List Int) (F1 F2 : List Nat) (q : Int) (v : Value) (x : Tu) (F : List Nat) (w : World) (h1 : RdI w a1 n1 ss F1) (h2 : RdI w a2 n2 ws F2) (h3 : RdTu w v x F) (hl1 : n1 ≤ 1048576) (hl2 : n2 ≤ 1048576) (hx : x.fits) :
    Calls Try.prog 10 #[.slice a1 n1 k1, .slice a2 n2 k2, .int .i64 q, v] w fun e w' => NewPick w (pick ss ws q x) e w' := by
  cases h : picks ss ws q x
  · exact pick_spec_bad a1 a2 n1 k1 n2 k2 ss ws F1 F2 q v x F w h1 h2 h3 hl1 hl2 hx h
  · exact pick_spec_good a1 a2 n1 k1 n2 k2 ss ws F1 F2 q v x F w h1 h2 h3 hl1 hl2 hx h
end Go.Proofs.Ythimjmkdcocofaa
/- Slices of structs, whatever an element holds, as plain data. No statement of the seat is proved here. -/
namespace Go.Proofs.Ythimjmkdcocofaa
open Go.RowKit
/-- What an element is: how many cells it has, and how its value is read. -/
structure ElK (α : Type) where
  n : Nat
  R : World → Value → α → List Nat → Prop
  agree : ∀ {w w' : World} {v : Value} {x : α} {F : List Nat}, R w v x F → Agree w w' F → R w' v x F
  lt : ∀ {w : World} {v : Value} {x : α} {F : List Nat}, R w v x F → ∀ b ∈ F, b < w.heap.size
  cells : ∀ {w : World} {v : Value} {x : α} {F : List Nat}, R w v x F → ∃ cs : Array Value, v = .agg cs ∧ cs.size = n ∧ cs.all (·.oneCell') = true
  pos : 0 < n
section
variable {α : Type} (K : ElK α)
/-- From off on block b holds these elements. -/
def RdEls (w : World) (b : Nat) : List α → Nat → List Nat → Prop
  | [], _, F => F = []
  | x :: xs, off, F => ∃ (cs : Array Value) (F1 F2 : List Nat), cs.size = K.n ∧ (∀ j, j < K.n → w.cell? ⟨b, off + j, none⟩ = cs[j]?) ∧ K.R w (.agg cs) x F1 ∧ RdEls w b xs (off + K.n) F2 ∧ F = F1 ++ F2
/-- The cells of several elements, one behind the other. -/
def RdC (w : World) : List α → List Value → List Nat → Prop
  | [], vs, F => vs = [] ∧ F = []
  | x :: xs, vs, F => ∃ (cs : Array Value) (vs' : List Value) (F1 F2 : List Nat), vs = cs.toList ++ vs' ∧ cs.size = K.n ∧ K.R w (.agg cs) x F1 ∧ RdC w xs vs' F2 ∧ F = F1 ++ F2
/-- A slice of such elements that can be read; F: its block, and theirs. -/
structure RdL (w : World) (a : Option Addr) (len : Nat) (xs : List α) (F : List Nat) : Prop where
  length : xs.length = len
  cells : (len = 0 ∧ F = []) ∨ ∃ b off F', 0 < len ∧ a = some ⟨b, off, none⟩ ∧ F = b :: F' ∧ RdEls K w b xs off F'
end
section
variable {α : Type} {K : ElK α} {w w' : World}
theorem RdEls.agree : ∀ {xs : List α} {b off : Nat} {F : List Nat}, RdEls K w b xs off F → w'.heap[b]? = w.heap[b]? → Agree w w' F → RdEls K w' b xs off F
  | [], b, off, F, h, _, _ => h
  | x :: xs, b, off, F, h, hb, ha => by
    obtain ⟨cs, F1, F2, h1, h2, h3, h4, rfl⟩ := h
    exact ⟨cs, F1, F2, h1, fun j hj => (World.cell?_of_block (w := w) (a := ⟨b, off + j, none⟩) hb).trans (h2 j hj), K.agree h3 ha.left, RdEls.agree h4 hb ha.right, rfl⟩
theorem RdEls.lt : ∀ {xs : List α} {b off : Nat} {F : List Nat}, RdEls K w b xs off F → ∀ x ∈ F, x < w.heap.size
  | [], b, off, F, h => by rw [RdEls] at h; simp [h]
  | x :: xs, b, off, F, h => by
    obtain ⟨cs, F1, F2, h1, h2, h3, h4, rfl⟩ := h
    intro y hy
    rcases List.mem_append.1 hy with hy | hy
    · exact K.lt h3 y hy
    · exact RdEls.lt h4 y hy
theorem RdEls.get : ∀ {xs : List α} {b off : Nat} {F : List Nat}, RdEls K w b xs off F → ∀ (i : Nat) (hi : i < xs.length), ∃ (cs : Array Value) (Fi : List Nat), cs.size = K.n ∧ (∀ j, j < K.n → w.cell? ⟨b, off + i * K.n + j, none⟩ = cs[j]?) ∧ K.R w (.agg cs) xs[i] Fi ∧ ∀ y ∈ Fi, y ∈ F
  | [], b, off, F, h, i, hi => by simp at hi
  | x :: xs, b, off, F, h, i, hi => by
    obtain ⟨cs, F1, F2, h1, h2, h3, h4, rfl⟩ := h
    cases i with
    | zero => exact ⟨cs, F1, h1, fun j hj => by rw [Nat.zero_mul, Nat.add_zero]; exact h2 j hj, h3, fun y hy => List.mem_append_left _ hy⟩
    | succ i =>
      obtain ⟨ds, Fi, k1, k2, k3, k4⟩ := RdEls.get h4 i (by simpa using hi)
      refine ⟨ds, Fi, k1, fun j hj => ?_, k3, fun y hy => List.mem_append_right _ (k4 y hy)⟩
      rw [show off + (i + 1) * K.n + j = off + K.n + i * K.n + j by rw [Nat.succ_mul]; omega]
      exact k2 j hj
theorem RdEls.first {x : α} {xs : List α} {b off : Nat} {F : List Nat} (h : RdEls K w b (x :: xs) off F) : b < w.heap.size := by
  obtain ⟨cs, F1, F2, h1, h2, _⟩ := h
  have c := h2 0 K.pos
  rw [Array.getElem?_eq_getElem (by rw [h1]; exact K.pos)] at c
  exact World.block_lt_of_cell? _ _ c
theorem RdL.agree {a : Option Addr} {len : Nat} {xs : List α} {F : List Nat} (h : RdL K w a len xs F) (ha : Agree w w' F) : RdL K w' a len xs F := by
  refine ⟨h.length, ?_⟩
  rcases h.cells with h0 | ⟨b, off, F', hp, e, rfl, hm⟩
  · exact .inl h0
  · exact .inr ⟨b, off, F', hp, e, rfl, hm.agree (ha b List.mem_cons_self) (fun x hx => ha x (List.mem_cons_of_mem _ hx))⟩
theorem RdL.lt {a : Option Addr} {len : Nat} {xs : List α} {F : List Nat} (h : RdL K w a len xs F) : ∀ b ∈ F, b < w.heap.size := by
  rcases h.cells with ⟨_, rfl⟩ | ⟨b, off, F', hp, e, rfl, hm⟩
  · simp
  · intro x hx
    rcases List.mem_cons.1 hx with rfl | hx
    · cases xs with
      | nil => have := h.length; simp at this; omega
      | cons y ys => exact hm.first
    · exact hm.lt x hx
theorem RdL.below {a : Option Addr} {len : Nat} {xs : List α} {F : List Nat} (h : RdL K w a len xs F) (hb : Below w.heap.size w w') : RdL K w' a len xs F := h.agree (.below hb h.lt)
theorem RdL.nil : RdL K w none 0 [] [] := ⟨rfl, .inl ⟨rfl, rfl⟩⟩
theorem RdL.zero {a : Option Addr} : RdL K w a 0 [] [] := ⟨rfl, .inl ⟨rfl, rfl⟩⟩
/-- One of its elements: its cells, what they hold. -/
theorem RdL.get {a : Option Addr} {len : Nat} {xs : List α} {F : List Nat} (h : RdL K w a len xs F) (i : Nat) (hi : i < len) : ∃ b off, a = some ⟨b, off, none⟩ ∧ b ∈ F ∧ ∃ (cs : Array Value) (Fi : List Nat), cs.size = K.n ∧ (∀ j, j < K.n → w.cell? ⟨b, off + i * K.n + j, none⟩ = cs[j]?) ∧ (∀ x, xs[i]? = some x → K.R w (.agg cs) x Fi) ∧ ∀ y ∈ Fi, y ∈ F := by
  rcases h.cells with ⟨h0, _⟩ | ⟨b, off, F', hp, e, rfl, hm⟩
  · omega
  · obtain ⟨cs, Fi, k1, k2, k3, k4⟩ := hm.get i (by rw [h.length]; exact hi)
    refine ⟨b, off, e, List.mem_cons_self, cs, Fi, k1, k2, fun x hx => ?_, fun y hy => List.mem_cons_of_mem _ (k4 y hy)⟩
    rw [List.getElem?_eq_getElem (by rw [h.length]; exact hi)] at hx
    cases hx
    exact k3
theorem RdC.agree : ∀ {xs : List α} {vs : List Value} {F : List Nat}, RdC K w xs vs F → Agree w w' F → RdC K w' xs vs F
  | [], vs, F, h, _ => h
  | x :: xs, vs, F, h, ha => by
    obtain ⟨cs, vs', F1, F2, h1, h2, h3, h4, rfl⟩ := h
    exact ⟨cs, vs', F1, F2, h1, h2, K.agree h3 ha.left, RdC.agree h4 ha.right, rfl⟩
theorem RdC.lt : ∀ {xs : List α} {vs : List Value} {F : List Nat}, RdC K w xs vs F → ∀ x ∈ F, x < w.heap.size
  | [], vs, F, h => by rw [RdC] at h; simp [h.2]
  | x :: xs, vs, F, h => by
    obtain ⟨cs, vs', F1, F2, h1, h2, h3, h4, rfl⟩ := h
    intro y hy
    rcases List.mem_append.1 hy with hy | hy
    · exact K.lt h3 y hy
    · exact RdC.lt h4 y hy
theorem RdC.below {xs : List α} {vs : List Value} {F : List Nat} (h : RdC K w xs vs F) (hb : Below w.heap.size w w') : RdC K w' xs vs F := h.agree (.below hb h.lt)
theorem RdC.length : ∀ {xs : List α} {vs : List Value} {F : List Nat}, RdC K w xs vs F → vs.length = xs.length * K.n
  | [], vs, F, h => by rw [RdC] at h; simp [h.1]
  | x :: xs, vs, F, h => by
    obtain ⟨cs, vs', F1, F2, h1, h2, h3, h4, rfl⟩ := h
    rw [h1, List.length_append, Array.length_toList, h2, RdC.length h4, List.length_cons, Nat.succ_mul]; omega
theorem RdC.nil : RdC K w [] [] [] := ⟨rfl, rfl⟩
theorem RdC.snoc : ∀ {xs : List α} {vs : List Value} {F : List Nat} {x : α} {cs : Array Value} {G : List Nat}, RdC K w xs vs F → K.R w (.agg cs) x G → cs.size = K.n → RdC K w (xs ++ [x]) (vs ++ cs.toList) (F ++ G)
  | [], vs, F, x, cs, G, h, k, hs => by
    rw [RdC] at h
    obtain ⟨rfl, rfl⟩ := h
    exact ⟨cs, [], G, [], by simp, hs, k, RdC.nil, by simp⟩
  | y :: xs, vs, F, x, cs, G, h, k, hs => by
    obtain ⟨ds, vs', F1, F2, rfl, h2, h3, h4, rfl⟩ := h
    exact ⟨ds, vs' ++ cs.toList, F1, F2 ++ G, by simp, h2, h3, RdC.snoc h4 k hs, by simp⟩
/-- The cells lie in a block: the elements are read there. -/
theorem rdEls_of : ∀ {xs : List α} {vs : List Value} {F : List Nat} {g : Nat} (off : Nat), RdC K w xs vs F → (∀ i, i < vs.length → w.cell? ⟨g, off + i, none⟩ = vs[i]?) → RdEls K w g xs off F
  | [], vs, F, g, off, h, _ => by rw [RdC] at h; exact h.2
  | x :: xs, vs, F, g, off, h, hc => by
    obtain ⟨cs, vs', F1, F2, rfl, h2, h3, h4, rfl⟩ := h
    refine ⟨cs, F1, F2, h2, fun j hj => ?_, h3, rdEls_of (off + K.n) h4 (fun i hi => ?_), rfl⟩
    · have hl : j < cs.toList.length := by rw [Array.length_toList, h2]; exact hj
      rw [hc j (by rw [List.length_append]; omega), List.getElem?_append_left hl, Array.getElem?_toList]
    · have := hc (K.n + i) (by rw [List.length_append, Array.length_toList, h2]; omega)
      rw [show off + K.n + i = off + (K.n + i) by omega, this, List.getElem?_append_right (by rw [Array.length_toList, h2]; omega), Array.length_toList, h2, Nat.add_sub_cancel_left]
/-- A row that the call made, each of its elements with its own reading. -/
theorem rdL_of_own {B e m : Nat} {v : Value} {xs : List α} {vs : List Value} {G : List Nat} (h : w.ownsRow B e K.n v m vs) (hr : RdC K w xs vs G) (hG : Own B w G) (hd : ∀ g, v.ownBlock = some g → g ∉ G) : ∃ a cap F, v = .slice a m cap ∧ RdL K w a m xs F ∧ Own B w F ∧ (a = none → cap = 0) ∧ m ≤ cap := by
  have hl : xs.length = m := by
    have h1 := hr.length
    have h2 := h.1
    exact Nat.eq_of_mul_eq_mul_right K.pos (h1.symm.trans h2)
  rcases h.2 with ⟨e1, e2⟩ | ⟨g, cap, cur, e1, h1, h2, h3, h4, h5, h6⟩
  · subst e1
    subst e2
    obtain rfl : xs = [] := List.eq_nil_of_length_eq_zero hl
    exact ⟨_, 0, [], rfl, RdL.nil, Own.nil, fun _ => rfl, Nat.le_refl _⟩
  · subst e1
    by_cases h0 : m = 0
    · subst h0
      obtain rfl : xs = [] := List.eq_nil_of_length_eq_zero hl
      exact ⟨_, cap, [], rfl, RdL.zero, Own.nil, (fun e => by cases e), h3⟩
    · refine ⟨_, cap, g :: G, rfl, ⟨hl, .inr ⟨g, 0, G, by omega, rfl, rfl, rdEls_of 0 hr (fun i hi => ?_)⟩⟩, ⟨?_, fun b hb o => ?_, fun b hb => ?_⟩, (fun e => by cases e), h3⟩
      · rw [Nat.zero_add]; exact h.cellAt i (by rw [← h.1]; exact hi)
      · exact List.nodup_cons.2 ⟨hd g rfl, hG.nodup⟩
      · rcases List.mem_cons.1 hb with rfl | hb
        · exact h.frozenAt o
        · exact hG.free b hb o
      · rcases List.mem_cons.1 hb with rfl | hb
        · exact h1
        · exact hG.ge b hb
end
end Go.Proofs.Ythimjmkdcocofaa
/- Operations on a slice of structs: a whole element is loaded. No statement of the seat is proved here. -/
namespace Go.Proofs.Ythimjmkdcocofaa
open Go.RowKit
section
variable {P : Program} {ops : Array Oper} {Q : Exit → Act → World → Prop} {rest : List Oper} {a : Act} {w : World} {x y : Operand} {o : Oper} {S : World → Prop}
theorem run_loadVar_at (w : World) (g off n : Nat) (ty : TypeId) (cs : Array Value) (d : TypeDesc) (hc : ∀ j, j < n → w.cell? ⟨g, off + j, none⟩ = cs[j]?) (hn : cs.size = n) (hu : P.underlying ty = some d) (hd : (match d with | .struct _ | .array _ _ => true | _ => false) = true) (hi : (P.info? ty).map (·.size) = some n) :
    (loadVar ty ⟨g, off, none⟩).run P w = .ok (.agg cs) w := by
  have hlen : cs.toList.length = n := by rw [Array.length_toList, hn]
  have hl := run_loadCells_list (P := P) w ⟨g, off, none⟩ cs.toList (fun j v hv => by
      have hadd : (⟨g, off, none⟩ : Addr).add j = ⟨g, off + j, none⟩ := by unfold Addr.add; split <;> simp_all
      have hj : j < n := by rw [← hlen]; exact (List.getElem?_eq_some_iff.1 hv).1
      rw [hadd, hc j hj, ← hv, Array.getElem?_toList])
  rw [hlen] at hl
  cases hq : P.info? ty with
  | none => simp [hq] at hi
  | some i =>
    have hs : i.size = n := by simpa [hq] using hi
    have hagg : (isAgg ty).run P w = .ok true w := by
      unfold isAgg
      rw [Sem.run_bind, run_underlying hu w]
      cases d <;> simp_all
    simp only [loadVar, Sem.run_bind, hagg, sizeOf, typeInfo, Result.andThen_ok, if_true]
    simp [hq, hs, hl]
/-- A whole element out of memory, plain or guarded. -/
theorem load_at (ty : TypeId) (g off n : Nat) (cs : Array Value) (d : TypeDesc) (hc : ∀ j, j < n → w.cell? ⟨g, off + j, none⟩ = cs[j]?) (hn : cs.size = n) (hw : Region.wanted o (yielded ops a.tmps) = true) (ho : o.op = .load ty x) (hx : a.eval x = .pointer (some ⟨g, off, none⟩))
    (hu : P.underlying ty = some d) (hd : (match d with | .struct _ | .array _ _ => true | _ => false) = true) (hi : (P.info? ty).map (·.size) = some n)
    (h : wpList P ops Q rest (a.put o.dst (.agg cs)) w) : Stop (wpList P ops Q (o :: rest) a w) := by
  refine wpList_wanted hw fun K hK => ?_
  unfold Oper.wp execOp
  simp only [ho, hx, Instr.loadAt, Instr.sureAddr, Sem.run_bind, Sem.run_pure, Result.andThen_ok, run_loadVar_at w g off n ty cs d hc hn hu hd hi]
  exact hK _ _ h
/-- The same within a region that draws its order. -/
theorem yields_at (ty : TypeId) (g off n : Nat) (cs : Array Value) (d : TypeDesc) (hw : Region.wanted o (yielded ops a.tmps) = true) (ho : o.op = .load ty x) (hx : a.eval x = .pointer (some ⟨g, off, none⟩)) (hu : P.underlying ty = some d) (hd : (match d with | .struct _ | .array _ _ => true | _ => false) = true)
    (hi : (P.info? ty).map (·.size) = some n) (hn : cs.size = n) (hS : ∀ W, S W → ∀ j, j < n → W.cell? ⟨g, off + j, none⟩ = cs[j]?) : YieldsIf P ops S o (.agg cs) a :=
  .inl ⟨hw, fun W hW => by
    unfold execOp
    simp only [ho, hx, Instr.loadAt, Instr.sureAddr, Sem.run_bind, Sem.run_pure, Result.andThen_ok, run_loadVar_at W g off n ty cs d (hS W hW) hn hu hd hi]⟩
end
end Go.Proofs.Ythimjmkdcocofaa
/- A slice of structs that is made and filled, element by element. No statement of the seat is proved here. -/
namespace Go.Proofs.Ythimjmkdcocofaa
open Go.RowKit
section
variable {α : Type} {K : ElK α}
/-- A copy behind k rounds: what is filled, and the zeros behind it. -/
structure CopyL (K : ElK α) (w : World) (T : TypeId) (zs : List Value) (xs : List α) (k : Nat) (vs : List Value) (G : List Nat) (wr : World) : Prop where
  blk : Blk wr w.heap.size (vs ++ zs.drop (k * K.n)).toArray T
  rd : RdC K wr (xs.take k) vs G
  mine : Own (w.heap.size + 1) wr G
  bel : Below w.heap.size w wr
theorem take_snoc_at {xs : List α} {k : Nat} {x : α} (h : xs[k]? = some x) : xs.take (k + 1) = xs.take k ++ [x] := by
  rw [List.take_add_one, h]; rfl
theorem cut_fill {vs zs ds : List Value} {k n : Nat} (hv : vs.length = k * n) (hd : ds.length = n) : cutIn (vs ++ zs.drop (k * n)).toArray (k * n) ds.toArray = ((vs ++ ds) ++ zs.drop ((k + 1) * n)).toArray := by
  unfold cutIn
  simp only [List.size_toArray]
  rw [List.take_left' hv, hd, List.drop_append, hv, List.drop_drop, List.drop_of_length_le (by omega)]
  congr 1
  rw [List.nil_append]
  congr 2
  rw [Nat.succ_mul]; omega
theorem CopyL.step {w wr w2 : World} {T : TypeId} {zs : List Value} {xs : List α} {k : Nat} {vs : List Value} {G F : List Nat} {cs : Array Value} {x : α}
    (h : CopyL K w T zs xs k vs G wr) (hx : xs[k]? = some x) (hr : K.R w2 (.agg cs) x F) (hn : cs.size = K.n) (ho : Own wr.heap.size w2 F) (hb : Below wr.heap.size wr w2) :
    Blk w2 w.heap.size (vs ++ zs.drop (k * K.n)).toArray T ∧ cutIn (vs ++ zs.drop (k * K.n)).toArray (k * K.n) cs = ((vs ++ cs.toList) ++ zs.drop ((k + 1) * K.n)).toArray ∧
      CopyL K w T zs xs (k + 1) (vs ++ cs.toList) (G ++ F) (w2.setRow w.heap.size ((vs ++ cs.toList) ++ zs.drop ((k + 1) * K.n)).toArray) := by
  have hg := h.blk.lt
  have hk : k < xs.length := (List.getElem?_eq_some_iff.1 hx).1
  have hGlt := h.rd.lt
  have hv : vs.length = k * K.n := by rw [h.rd.length, List.length_take, Nat.min_eq_left (by omega)]
  have hG : w.heap.size ∉ G := fun hx => by have := h.mine.ge _ hx; omega
  have hF : w.heap.size ∉ F := fun hx => by have := ho.ge _ hx; omega
  have b2 := h.blk.below hb
  refine ⟨b2, ?_, ⟨b2.setRow, ?_, ?_, below_setRow (h.bel.trans (hb.mono (by omega))) (Nat.le_refl _) _⟩⟩
  · have := cut_fill (vs := vs) (zs := zs) (ds := cs.toList) (k := k) hv (by rw [Array.length_toList, hn])
    simpa using this
  · rw [take_snoc_at hx]
    exact RdC.snoc ((h.rd.below hb).agree (Agree.row hG _)) (K.agree hr (Agree.row hF _)) hn
  · have := (h.mine.below hGlt hb).join ho hGlt (by omega)
    exact this.agree (Agree.row (fun hx => (List.mem_append.1 hx).elim hG hF) _)
theorem CopyL.done {w wr : World} {T : TypeId} {zs : List Value} {xs : List α} {len : Nat} {vs : List Value} {G : List Nat} (h : CopyL K w T zs xs len vs G wr) (hl : xs.length = len) (hz : zs.length = len * K.n) :
    ∃ F, RdL K wr (some ⟨w.heap.size, 0, none⟩) len xs F ∧ Own w.heap.size wr F := by
  by_cases h0 : len = 0
  · subst h0
    obtain rfl : xs = [] := List.eq_nil_of_length_eq_zero hl
    exact ⟨[], RdL.zero, Own.nil⟩
  · have rd := h.rd
    rw [List.take_of_length_le (Nat.le_of_eq hl)] at rd
    have bk := h.blk
    rw [← hz, List.drop_length, List.append_nil] at bk
    refine ⟨w.heap.size :: G, ⟨hl, .inr ⟨_, 0, G, by omega, rfl, rfl, rdEls_of 0 rd (fun i hi => ?_)⟩⟩, ⟨?_, fun b hb o => ?_, fun b hb => ?_⟩⟩
    · rw [Nat.zero_add, bk.cell]; simp
    · exact List.nodup_cons.2 ⟨fun hx => by have := h.mine.ge _ hx; omega, h.mine.nodup⟩
    · rcases List.mem_cons.1 hb with rfl | hb
      · exact h.blk.frozen o
      · exact h.mine.free b hb o
    · rcases List.mem_cons.1 hb with rfl | hb
      · omega
      · have := h.mine.ge b hb; omega
def NewL (K : ElK α) (w : World) (xs : List α) (e : Ending) (w' : World) : Prop :=
  ∃ a len cap F, e = .returned (.slice a len cap) ∧ RdL K w' a len xs F ∧ Own w.heap.size w' F ∧ Below w.heap.size w w' ∧ Capd a len cap
/-- The kind of an element's own weight, summed up. -/
def sumOfL (f : α → Int) : List α → Int
  | [] => 0
  | x :: xs => f x + sumOfL f xs
theorem sumOfL_take {f : α → Int} {xs : List α} {k : Nat} {x : α} (h : xs[k]? = some x) : sumOfL f (xs.take (k + 1)) = sumOfL f (xs.take k) + f x := by
  rw [take_snoc_at h]
  generalize xs.take k = ys
  induction ys with
  | nil => simp [sumOfL]
  | cons y ys ih => simp only [List.cons_append, sumOfL, ih]; omega
theorem sumOfL_nonneg {f : α → Int} (hf : ∀ x, 0 ≤ f x) : ∀ xs : List α, 0 ≤ sumOfL f xs
  | [] => by simp [sumOfL]
  | x :: xs => by have := hf x; have := sumOfL_nonneg hf xs; simp only [sumOfL]; omega
theorem sumOfL_mem {f : α → Int} (hf : ∀ x, 0 ≤ f x) : ∀ (xs : List α) (x : α), x ∈ xs → f x ≤ sumOfL f xs
  | [], x, h => by cases h
  | y :: ys, x, h => by
    have h1 := hf y
    have h2 := sumOfL_nonneg hf ys
    rcases List.mem_cons.1 h with rfl | h
    · simp only [sumOfL]; omega
    · have := sumOfL_mem hf ys x h; simp only [sumOfL]; omega
theorem sumOfL_split {f : α → Int} : ∀ (xs ys : List α), sumOfL f (xs ++ ys) = sumOfL f xs + sumOfL f ys
  | [], ys => by simp [sumOfL]
  | x :: xs, ys => by simp only [List.cons_append, sumOfL, sumOfL_split xs ys]; omega
theorem sumOfL_le_take {f : α → Int} (hf : ∀ x, 0 ≤ f x) (xs : List α) (k : Nat) : sumOfL f (xs.take k) ≤ sumOfL f xs := by
  have h := sumOfL_split (f := f) (xs.take k) (xs.drop k)
  rw [List.take_append_drop] at h
  have := sumOfL_nonneg hf (xs.drop k)
  omega
end
end Go.Proofs.Ythimjmkdcocofaa
/- sameInts of one list; rows of tests. No statement of the seat is proved here. -/
namespace Go.Proofs.Ythimjmkdcocofaa
open Go.RowKit
set_option maxRecDepth 200000 in
set_option maxHeartbeats 2000000 in
theorem sameInts_sameT (a b : Option Addr) (n c d : Nat) (zs : List Int) (F G : List Nat) (w : World) (h : RdI w a n zs F) (k : RdI w b n zs G) (hn : n ≤ 1048576) :
    Calls Try.prog 11 #[.slice a n c, .slice b n d] w fun e w' => e = .returned (.bool true) ∧ Below w.heap.size w w' := by
  have HR : Hid (RdI w a n zs F ∧ RdI w b n zs G) := ⟨h, k⟩
  clear h k
  go_enter Try.func11, Try.ntmps11
  have hnn : ((n : Int) != (n : Int)) = false := by simp
  go_wp2
  clear hnn
  go_loopw [5] (fun i wr => ∃ (k : Nat), k ≤ n ∧ i = .int .i64 k ∧ Hid (Below w.heap.size w wr)) (fun i _ => n - (intOf i).toNat)
  case atStart => exact ⟨0, by omega, rfl, Below.refl _ _⟩
  case round =>
    obtain ⟨k, hk, rfl, HB⟩ := hrel
    by_cases hlt : k < n
    · obtain ⟨p, o, rfl⟩ := HR.out.1.addr (by omega)
      obtain ⟨q, u, rfl⟩ := HR.out.2.addr (by omega)
      have e := HR.out.1.at k hlt
      have e' := HR.out.2.at k hlt
      obtain ⟨y, hy⟩ : ∃ y, y = zs.getD k 0 := ⟨_, rfl⟩
      rw [← hy] at e e'
      have hI2 : decide ((k : Int) < (n : Int)) = true := decT (by omega)
      go_wp2_with fail
      obtain ⟨Y, hY⟩ : ∃ Y, Y = wr.drew := ⟨_, rfl⟩
      have HY : Hid (Below w.heap.size w Y) := by rw [hY]; exact HB.out.drew
      have HC : Hid (Y.cell? ⟨p, o + k, none⟩ = some (.int .i64 y) ∧ Y.cell? ⟨q, u + k, none⟩ = some (.int .i64 y)) := ⟨(HY.out.cell (by exact World.block_lt_of_cell? _ _ e)).trans e, (HY.out.cell (by exact World.block_lt_of_cell? _ _ e')).trans e'⟩
      clear e e' hy HB hI2
      refine wp_region_held (S := fun W => W.cell? ⟨p, o + k, none⟩ = some (.int .i64 y) ∧ W.cell? ⟨q, u + k, none⟩ = some (.int .i64 y)) (by kernel_rfl) ?_
      change wpAnyH _ _ _ _ _ _ _ _ (World.drew _)
      rw [← hY]
      clear hY
      refine takeH (o := ?o85) 0 (.slice (some ⟨p, o, none⟩) n c) ?h85 ?r85
      case h85 => simp only [aT, aZ]; rfl
      refine ⟨_, by simp [Act.put]; rfl, by kernel_rfl, by kernel_rfl, by kernel_rfl, fun _ _ _ h => h, (.inl ⟨rfl, fun W _ => by kernel_rfl⟩), HC.out, ?_⟩
      refine takeH (o := ?o86) 1 (.int .i64 k) ?h86 ?r86
      case h86 => simp only [aT, aS, aZ]; rfl
      refine ⟨_, by simp [Act.put]; rfl, by kernel_rfl, by kernel_rfl, by kernel_rfl, fun _ _ _ h => h, (.inl ⟨rfl, fun W _ => by kernel_rfl⟩), HC.out, ?_⟩
      refine takeH (o := ?o87) 2 (.pointer (some ⟨p, o + k, none⟩)) ?h87 ?r87
      case h87 => simp only [aT, aS, aZ]; rfl
      refine ⟨_, by simp [Act.put]; rfl, by kernel_rfl, by kernel_rfl, by kernel_rfl, fun _ _ _ h => h, (.inl ⟨rfl, fun W _ => by go_simp; first | done | (intro h; omega) | (rw [if_pos (by omega)]; rfl)⟩), HC.out, ?_⟩
      refine takeH (o := ?o88) 3 (.int .i64 y) ?h88 ?r88
      case h88 => simp only [aT, aS, aZ]; rfl
      refine ⟨_, by simp [Act.put]; rfl, by kernel_rfl, by kernel_rfl, by kernel_rfl, fun _ _ _ h => h, (.inl ⟨rfl, fun W hW => by have c := hW.1; go_simp⟩), HC.out, ?_⟩
      refine takeH (o := ?o89) 4 (.slice (some ⟨q, u, none⟩) n d) ?h89 ?r89
      case h89 => simp only [aT, aS, aZ]; rfl
      refine ⟨_, by simp [Act.put]; rfl, by kernel_rfl, by kernel_rfl, by kernel_rfl, fun _ _ _ h => h, (.inl ⟨rfl, fun W _ => by kernel_rfl⟩), HC.out, ?_⟩
      refine takeH (o := ?o90) 5 (.int .i64 k) ?h90 ?r90
      case h90 => simp only [aT, aS, aZ]; rfl
      refine ⟨_, by simp [Act.put]; rfl, by kernel_rfl, by kernel_rfl, by kernel_rfl, fun _ _ _ h => h, (.inl ⟨rfl, fun W _ => by kernel_rfl⟩), HC.out, ?_⟩
      refine takeH (o := ?o91) 6 (.pointer (some ⟨q, u + k, none⟩)) ?h91 ?r91
      case h91 => simp only [aT, aS, aZ]; rfl
      refine ⟨_, by simp [Act.put]; rfl, by kernel_rfl, by kernel_rfl, by kernel_rfl, fun _ _ _ h => h, (.inl ⟨rfl, fun W _ => by go_simp; first | done | (intro h; omega) | (rw [if_pos (by omega)]; rfl)⟩), HC.out, ?_⟩
      refine takeH (o := ?o92) 7 (.int .i64 y) ?h92 ?r92
      case h92 => simp only [aT, aS, aZ]; rfl
      refine ⟨_, by simp [Act.put]; rfl, by kernel_rfl, by kernel_rfl, by kernel_rfl, fun _ _ _ h => h, (.inl ⟨rfl, fun W hW => by have c := hW.2; go_simp⟩), HC.out, ?_⟩
      refine takeH (o := ?o93) 8 (.bool false) ?h93 ?r93
      case h93 => simp only [aT, aS, aZ]; rfl
      refine ⟨_, by simp [Act.put]; rfl, by kernel_rfl, by kernel_rfl, by kernel_rfl, fun _ _ _ h => h, (.inl ⟨rfl, fun W _ => by go_simp⟩), HC.out, ?_⟩
      refine wpAnyH_done (by kernel_rfl) ?_ _
      clear HC
      go_wp2
      go_roundw
      case rel => exact ⟨k + 1, by omega, by go_num, HY.out⟩
      case measure => simp [intOf]; omega
    · have hI2 : decide ((k : Int) < (n : Int)) = false := dec_false (by omega)
      go_wp2
      go_ret
      exact ⟨rfl, HB.out⟩
theorem any_next {zs : List Int} {k : Nat} (p : Int → Bool) (h : k < zs.length) : (zs.take (k + 1)).any p = ((zs.take k).any p || p (zs.getD k 0)) := by
  have e : zs.take (k + 1) = zs.take k ++ [zs.getD k 0] := by
    rw [List.getD_eq_getElem?_getD, List.getElem?_eq_getElem h]
    exact (List.take_append_getElem h).symm
  rw [e, List.any_append]; simp
def badOf (c : Int) (x : Tu) : Bool := !x.ok || decide (c < 1) || decide (60 < c)
def outS (z : Int) : Bool := decide (z < 0) || decide (200 < z)
def outW (z : Int) : Bool := decide (z < 1) || decide (4 < z)
def posS (z : Int) : Bool := decide (0 < z)
theorem pick_none {ss ws : List Int} {c : Int} {x : Tu} (h1 : ss.length = 3) (h2 : ws.length = 3) (h : picks ss ws c x = false ∨ (picks ss ws c x = true ∧ nums ss 0 0 = true)) : (!(ss.any posS) || (badOf c x || ss.any outS || ws.any outW)) = true := by
  rcases h with h | ⟨_, h⟩
  · cases hb : (badOf c x || ss.any outS || ws.any outW)
    · exfalso
      simp only [Bool.or_eq_false_iff] at hb
      obtain ⟨⟨hb1, hb2⟩, hb3⟩ := hb
      unfold badOf at hb1
      simp only [Bool.or_eq_false_iff, Bool.not_eq_false', decide_eq_false_iff_not] at hb1
      have e1 : nums ss 0 200 = true := nums_iff.2 ⟨h1, fun z hz => by
        have := List.any_eq_false.1 hb2 z hz
        unfold outS at this
        simp at this
        omega⟩
      have e2 : nums ws 1 4 = true := nums_iff.2 ⟨h2, fun z hz => by
        have := List.any_eq_false.1 hb3 z hz
        unfold outW at this
        simp at this
        omega⟩
      unfold picks at h
      rw [e1, e2, hb1.1.1] at h
      simp at h
      omega
    · simp
  · have : ss.any posS = false := by
      rw [List.any_eq_false]
      intro z hz
      have := (nums_iff.1 h).2 z hz
      unfold posS
      simp; omega
    rw [this]; rfl
end Go.Proofs.Ythimjmkdcocofaa
