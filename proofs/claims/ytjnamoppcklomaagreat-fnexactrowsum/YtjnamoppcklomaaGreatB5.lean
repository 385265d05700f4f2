/- Several texts of mine, laid together. No statement of the seat is proved here. -/
import Derived.Test.YtjnamoppcklomaaGreatB3
import Derived.Test.YtjnamoppcklomaaGreatB2
import Derived.Test.YtjnamoppcklomaaGreatB4
import Derived.Test.YtjnamoppcklomaaGreatItHelp2
import Derived.Test.YtjnamoppcklomaaGreatLstCopy
import Derived.Test.YtjnamoppcklomaaGreatSpHelp
import Derived.Test.YtjnamoppcklomaaGreatSkLaw
import Derived.Test.YtjnamoppcklomaaGreatItOpen
import Derived.Test.YtjnamoppcklomaaGreatSpOpen
import Derived.Deep.Slices
import Derived.Test.YtjnamoppcklomaaGreatEnData
import Derived.Test.YtjnamoppcklomaaGreatItLaw
import Derived.Test.YtjnamoppcklomaaGreatSkMarks
import Derived.Laws.IdiomCopy
import Derived.Test.YtjnamoppcklomaaGreatB1
/- The program's pushed and RowPush. No statement of the seat is proved here. -/
namespace Go.Proofs.YtjnamoppcklomaaGreat
open Go.RowKit
set_option maxRecDepth 200000 in
theorem addImplE_any (v u : Value) (x y : En) (F G : List Nat) (w : World) (h : RdE w v x F) (k : RdE w u y G) (hx : x.wide) (hy : y.wide) :
    Calls Tryz.prog 67 #[v, u] w fun e w' => ∃ v' F, e = .returned (.tuple #[v', .bool (x.addOk y)]) ∧ RdE w' v' (x.addR y) F ∧ Own w.heap.size w' F ∧ Below w.heap.size w w' := by
  obtain ⟨F1, F2, rfl, h⟩ := h
  obtain ⟨G1, G2, rfl, k⟩ := k
  refine (entryAddImpl_any v u x y F1 F2 G1 G2 w h k hx.1 hy.1 (by have := hx.2; have := hy.2; omega)).mono ?_
  rintro e w' ⟨v', F', G', rfl, r, o, o', d, b⟩
  exact ⟨v', F' ++ G', rfl, ⟨F', G', rfl, r⟩, o.app o' d, b⟩
/-- What pushed has before it. -/
structure PuW (w : World) (A : Array Value) (es : Array Value) (W : World) : Prop where
  box : Blk W w.heap.size A 60
  en : Blk W (w.heap.size + 1) es 33
  res : Blk W (w.heap.size + 1 + 1) #[.slice none 0 0] 60
  bel : Below w.heap.size w W
theorem PuW.below {w W W' : World} {A es : Array Value} (h : PuW w A es W) (b : Below W.heap.size W W') : PuW w A es W' := ⟨h.box.below b, h.en.below b, h.res.below b, Below.next h.bel b⟩
theorem PuW.made (w : World) (A es : Array Value) : PuW w A es (((w.alloc (.cells A 60)).alloc (.cells es 33)).alloc (.cells #[.slice none 0 0] 60)) :=
  ⟨((Blk.made _ _ _).alloc _).alloc _, (Blk.made_eq (by simp)).alloc _, Blk.made_eq (by simp), Below.allocW _ (Below.allocW _ (Below.allocW _ (Below.refl _ _) (Nat.le_refl _)) (by simp)) (by simp <;> omega)⟩
theorem PuW.size {w W : World} {A es : Array Value} (h : PuW w A es W) : w.heap.size + 3 ≤ W.heap.size := h.res.lt
def PushedA (w : World) (xs : List En) (F G : List Nat) (r : Ending) (w' : World) : Prop := ∃ v', r = .returned (.agg #[v']) ∧ ∃ H, Shal w xs v' H w' ∧ (∀ b ∈ H, b ∈ F ∨ b ∈ G ∨ w.heap.size ≤ b) ∧ ∀ g n c, v' = .slice (some ⟨g, 0, none⟩) n c → g ∉ H ∧ w.heap.size ≤ g
theorem Shal.apart {w w' : World} {xs : List En} {v : Value} {H : List Nat} (h : Shal w xs v H w') (hp : 0 < xs.length) {m : Nat} (hm : m ≤ w.heap.size) (hl : ∀ b ∈ H, b < w.heap.size) : ∀ g n c, v = .slice (some ⟨g, 0, none⟩) n c → g ∉ H ∧ m ≤ g := by
  intro g n c e
  obtain ⟨g', cap, e', _, _, hge, _⟩ := h.row hp
  rw [e'] at e
  injection e with e1
  injection e1 with e1
  injection e1 with e1
  subst e1
  exact ⟨fun hx => by have := hl _ hx; omega, by omega⟩
set_option maxRecDepth 200000 in
set_option maxHeartbeats 8000000 in
theorem pushed_gen (v u : Value) (x : Rw) (F : List Nat) (e : En) (G : List Nat) (join : Bool) (w : World) (h : RdRw w v x F) (k : RdE w u e G) (hw : ∀ y ∈ x.list, y.wide) (he : e.wide) (hl : x.list.length ≤ 2097151) :
    Calls Tryz.prog 28 #[v, u, .bool join] w fun r w' => PushedA w (pushL x.list e join) F G r w' := by
  have HH : Hid (RdRw w v x F ∧ RdE w u e G ∧ (∀ y ∈ x.list, y.wide) ∧ e.wide ∧ x.list.length ≤ 2097151) := ⟨h, k, hw, he, hl⟩
  obtain ⟨es, rfl, hes, hes1⟩ := RdE.cells k
  have HE : Hid (es.size = 10 ∧ es.all (·.oneCell') = true) := ⟨hes, hes1⟩
  obtain ⟨a, n, c, rfl, hL, hcp⟩ := h
  have HL : Hid (RdL enK w a n x.list F ∧ x.list.length = n) := ⟨hL, hL.length⟩
  have hn : n ≤ 2097151 := by rw [← hL.length]; exact hl
  have HP : Hid (PuW w #[.slice a n c] es _) := PuW.made w #[.slice a n c] es
  clear k hw he hl hes hes1 hL hcp
  go_enter Tryz.func28, Tryz.ntmps28
  go_wp2_with fail
  refine (indexFunc_any a n c x.list F e es G (w.heap.size + 1) _ (HL.out.1.below HP.out.bel) (HH.out.2.1.below HP.out.bel) HP.out.en (by omega)).mono ?_
  rintro r w1 ⟨rfl, hb⟩
  have HP1 : Hid (PuW w #[.slice a n c] es w1) := HP.out.below hb
  clear hb HP
  by_cases hno : join = false ∨ hitAt x.list e = none
  · have HV : Hid (pushL x.list e join = x.list ++ [e]) := pushL_none hno
    obtain ⟨i, hi⟩ : ∃ i, i = idxV (hitAt x.list e) := ⟨_, rfl⟩
    rw [← hi]
    have hneg : join = true → i < 0 := fun hj => by
      rcases hno with h | h
      · rw [hj] at h; cases h
      · rw [hi, h]; decide
    have HD : Hid (True) := trivial
    clear hno hi
    cases join
    · clear hneg
      go_wp2_with (first | go_skip | (with_reducible refine stopLoad 60 rfl ?_) | (with_reducible refine stopLoad 33 rfl ?_))
      refine load_any 60 w.heap.size #[.slice a n c] 60 _ HP1.out.box rfl rfl rfl Tryz.underlying60 rfl infoQI2 ?_
      go_wp2_with (first | go_skip | (with_reducible refine stopLoad 33 rfl ?_))
      refine load_any 33 (w.heap.size + 1) es 33 _ HP1.out.en rfl rfl rfl Tryz.underlying33 rfl (enSize HE.out.1) ?_
      go_wp2_with fail
      refine (behind_any _ _ x F e G _ (HH.out.1.below HP1.out.bel) (HH.out.2.1.below HP1.out.bel) (by have := HH.out.2.2.2.2; omega)).mono ?_
      rintro r w2 ⟨v', rfl, H, hS, hH⟩
      obtain ⟨g, m, cap, rfl⟩ := hS.val (by simp)
      have HS : Hid (Shal w1 (x.list ++ [e]) (.slice (some ⟨g, 0, none⟩) m cap) H w2 ∧ (∀ b ∈ H, b ∈ F ∨ b ∈ G) ∧ Blk w2 (w.heap.size + 1 + 1) #[.slice none 0 0] 60 ∧ w.heap.size + 1 + 1 ∉ H) := ⟨hS, hH, HP1.out.res.below hS.choose_spec.2.2.2, fun hx => by
        rcases hH _ hx with h | h
        · have := HL.out.1.lt _ h; omega
        · have := HH.out.2.1.lt _ h; omega⟩
      clear hS hH
      go_wp2_with (first | go_skip | (with_reducible refine stopStore 60 rfl ?_))
      refine store_known 60 (w.heap.size + 1 + 1) _ #[.slice (some ⟨g, 0, none⟩) m cap] 60 HS.out.2.2.1 rfl rfl rfl rfl infoQI2 rfl (by simp [Value.oneCell']) ?_
      go_wp2
      refine bodyPost_ret (results_cell_row Tryz.results28 _ _ (w.heap.size + 1 + 1) _ _ (0, 0) _ rfl HS.out.2.2.1.setRow Tryz.underlying60 rfl infoQI2) rfl ?_
      rw [HV.out]
      exact ⟨_, rfl, H, HS.out.1.into HP1.out.bel (by omega) (by have := HP1.out.size; omega) HS.out.2.2.2 _, fun b hb => (HS.out.2.1 b hb).imp id .inl, HS.out.1.apart (by simp) (by have := HP1.out.size; omega) (fun b hb => by
        have := HP1.out.size
        rcases HS.out.2.1 b hb with h | h
        · have := HL.out.1.lt _ h; omega
        · have := HH.out.2.1.lt _ h; omega)⟩
    · have hi0 : i < 0 := hneg rfl
      clear hneg
      go_wp2_with (first | go_skip | (with_reducible refine stopLoad 60 rfl ?_) | (with_reducible refine stopLoad 33 rfl ?_))
      refine load_any 60 w.heap.size #[.slice a n c] 60 _ HP1.out.box rfl rfl rfl Tryz.underlying60 rfl infoQI2 ?_
      go_wp2_with (first | go_skip | (with_reducible refine stopLoad 33 rfl ?_))
      refine load_any 33 (w.heap.size + 1) es 33 _ HP1.out.en rfl rfl rfl Tryz.underlying33 rfl (enSize HE.out.1) ?_
      go_wp2_with fail
      refine (behind_any _ _ x F e G _ (HH.out.1.below HP1.out.bel) (HH.out.2.1.below HP1.out.bel) (by have := HH.out.2.2.2.2; omega)).mono ?_
      rintro r w2 ⟨v', rfl, H, hS, hH⟩
      obtain ⟨g, m, cap, rfl⟩ := hS.val (by simp)
      have HS : Hid (Shal w1 (x.list ++ [e]) (.slice (some ⟨g, 0, none⟩) m cap) H w2 ∧ (∀ b ∈ H, b ∈ F ∨ b ∈ G) ∧ Blk w2 (w.heap.size + 1 + 1) #[.slice none 0 0] 60 ∧ w.heap.size + 1 + 1 ∉ H) := ⟨hS, hH, HP1.out.res.below hS.choose_spec.2.2.2, fun hx => by
        rcases hH _ hx with h | h
        · have := HL.out.1.lt _ h; omega
        · have := HH.out.2.1.lt _ h; omega⟩
      clear hS hH
      go_wp2_with (first | go_skip | (with_reducible refine stopStore 60 rfl ?_))
      refine store_known 60 (w.heap.size + 1 + 1) _ #[.slice (some ⟨g, 0, none⟩) m cap] 60 HS.out.2.2.1 rfl rfl rfl rfl infoQI2 rfl (by simp [Value.oneCell']) ?_
      go_wp2
      refine bodyPost_ret (results_cell_row Tryz.results28 _ _ (w.heap.size + 1 + 1) _ _ (0, 0) _ rfl HS.out.2.2.1.setRow Tryz.underlying60 rfl infoQI2) rfl ?_
      rw [HV.out]
      exact ⟨_, rfl, H, HS.out.1.into HP1.out.bel (by omega) (by have := HP1.out.size; omega) HS.out.2.2.2 _, fun b hb => (HS.out.2.1 b hb).imp id .inl, HS.out.1.apart (by simp) (by have := HP1.out.size; omega) (fun b hb => by
        have := HP1.out.size
        rcases HS.out.2.1 b hb with h | h
        · have := HL.out.1.lt _ h; omega
        · have := HH.out.2.1.lt _ h; omega)⟩
  · obtain ⟨k, hk⟩ : ∃ k, hitAt x.list e = some k := by cases hh : hitAt x.list e; exact absurd (.inr hh) hno; exact ⟨_, rfl⟩
    have hj : join = true := by cases join; exact absurd (.inl rfl) hno; rfl
    subst hj
    obtain ⟨y, hy, _, _⟩ := hitAt_lt hk
    have HV : Hid (pushL x.list e true = x.list.set k (y.addR e)) := pushL_hit hk hy
    have hkn : k < n := by rw [← HL.out.2]; exact (List.getElem?_eq_some_iff.1 hy).1
    rw [hk]
    have hI : (k : Int) < (n : Int) := by omega
    have hI0 : ¬ ((k : Int) < 0) := by omega
    obtain ⟨b, off, y', cs, Fi, rfl, hbw, hy', hcs, hcc, hr⟩ := ens_at HL.out.1 hkn
    rw [hy] at hy'; cases hy'
    have HY : Hid (RdE w (.agg cs) y Fi ∧ cs.size = 10 ∧ y.wide ∧ x.list[k]? = some y ∧ b < w.heap.size ∧ ∀ j, j < 10 → w.cell? ⟨b, off + k * 10 + j, none⟩ = cs[j]?) := ⟨hr, hcs, HH.out.2.2.1 y (List.mem_of_getElem? hy), hy, hbw, hcc⟩
    clear hno hk hy hbw hcs hcc hr
    go_wp2_with fail
    have HPd : Hid (PuW w #[.slice (some ⟨b, off, none⟩) n c] es w1.drew) := HP1.out.below (Below.refl _ _).drew
    obtain ⟨Y0, hY0⟩ : ∃ Y, Y = w1.drew := ⟨_, rfl⟩
    rw [← hY0] at HPd
    have HS : Hid (∀ W, PuW w #[.slice (some ⟨b, off, none⟩) n c] es W → Blk W w.heap.size #[.slice (some ⟨b, off, none⟩) n c] 60 ∧ Blk W (w.heap.size + 1) es 33 ∧ ∀ j, j < 10 → W.cell? ⟨b, off + k * 10 + j, none⟩ = cs[j]?) := fun W hP => ⟨hP.box, hP.en, fun j hj => (hP.bel.cell (p := ⟨b, off + k * 10 + j, none⟩) HY.out.2.2.2.2.1).trans (HY.out.2.2.2.2.2 j hj)⟩
    clear HP1
    refine wp_region_held (S := fun W => Blk W w.heap.size #[.slice (some ⟨b, off, none⟩) n c] 60 ∧ Blk W (w.heap.size + 1) es 33 ∧ ∀ j, j < 10 → W.cell? ⟨b, off + k * 10 + j, none⟩ = cs[j]?) (by kernel_rfl) ?_
    change wpAnyH _ _ _ _ _ _ _ _ (World.drew _)
    rw [← hY0]
    clear hY0
    refine takeH (o := ?o19) 0 (.pointer (some ⟨w.heap.size, 0, none⟩)) ?h19 ?r19
    case h19 => simp only [aT, aZ]; rfl
    refine ⟨_, by simp [Act.put]; rfl, by kernel_rfl, by kernel_rfl, by kernel_rfl, fun _ _ _ h => h, (.inl ⟨rfl, fun W _ => by kernel_rfl⟩), (HS.out _ HPd.out), ?_⟩
    refine takeH (o := ?o20) 1 (.slice (some ⟨b, off, none⟩) n c) ?h20 ?r20
    case h20 => simp only [aT, aS, aZ]; rfl
    refine ⟨_, by simp [Act.put]; rfl, by kernel_rfl, by kernel_rfl, by kernel_rfl, fun _ _ _ h => h, (.inl ⟨rfl, fun W hW => by have c := hW.1.cell 0; simp only [aT, aZ] at c; go_simp⟩), (HS.out _ HPd.out), ?_⟩
    refine takeH (o := ?o21) 2 (.int .i64 k) ?h21 ?r21
    case h21 => simp only [aT, aS, aZ]; rfl
    refine ⟨_, by simp [Act.put]; rfl, by kernel_rfl, by kernel_rfl, by kernel_rfl, fun _ _ _ h => h, (.inl ⟨rfl, fun W _ => by kernel_rfl⟩), (HS.out _ HPd.out), ?_⟩
    refine takeH (o := ?o22) 3 (.pointer (some ⟨b, off + k * 10, none⟩)) ?h22 ?r22
    case h22 => simp only [aT, aS, aZ]; rfl
    refine ⟨_, by simp [Act.put]; rfl, by kernel_rfl, by kernel_rfl, by kernel_rfl, fun _ _ _ h => h, (.inl ⟨rfl, fun W _ => by go_simp; first | done | (intro h; omega) | (rw [if_pos (by omega)]; rfl)⟩), (HS.out _ HPd.out), ?_⟩
    refine takeH (o := ?o23) 4 (.agg cs) ?h23 ?r23
    case h23 => simp only [aT, aS, aZ]; rfl
    refine ⟨_, by simp [Act.put]; rfl, by kernel_rfl, by kernel_rfl, by kernel_rfl, fun _ _ _ h => h, (yields_at 33 b (off + k * 10) 10 cs _ rfl rfl rfl Tryz.underlying33 rfl infoEnG2 HY.out.2.1 (fun W hW => hW.2.2)), (HS.out _ HPd.out), ?_⟩
    refine takeH (o := ?o24) 5 (.agg es) ?h24 ?r24
    case h24 => simp only [aT, aS, aZ]; rfl
    refine ⟨_, by simp [Act.put]; rfl, by kernel_rfl, by kernel_rfl, by kernel_rfl, fun _ _ _ h => h, (yields_whole 33 (w.heap.size + 1) es 33 _ rfl rfl rfl Tryz.underlying33 rfl (enSize HE.out.1) (fun W hW => hW.2.1)), (HS.out _ HPd.out), ?_⟩
    refine twoH (o := ?o25) (o' := ?p25) 6 10 (by kernel_rfl) ?h25 ?g25 ?r25 ?s25
    case h25 => simp only [aT, aS, aZ]; rfl
    case g25 => simp only [aT, aS, aZ]; rfl
    case r25 =>
      intro K hK
      refine op_call2' 67 _ _ _ Tryz.f67 (fun v w' => ∃ rr R, v = .tuple #[.agg rr, .bool (y.addOk e)] ∧ rr.size = 10 ∧ rr.all (·.oneCell') = true ∧ RdE w' (.agg rr) (y.addR e) R ∧ Own Y0.heap.size w' R ∧ Below Y0.heap.size Y0 w') rfl rfl Tryz.func67 (by kernel_rfl) (by kernel_rfl) ((addImplE_any (.agg cs) (.agg es) y e Fi G Y0 (HY.out.1.below HPd.out.bel) (HH.out.2.1.below HPd.out.bel) HY.out.2.2.1 HH.out.2.2.2.1).mono (by
        rintro e' w' ⟨v', R, rfl, h1, h2, h3⟩
        obtain ⟨rr, rfl, h4, h5⟩ := RdE.cells h1
        exact ⟨_, rfl, rr, R, rfl, h4, h5, h1, h2, h3⟩)) ?_
      rintro _ Y1 ⟨rr, R, rfl, rs, r1, rd, ro, rb⟩
      have HP1 : Hid (PuW w #[.slice (some ⟨b, off, none⟩) n c] es Y1) := HPd.out.below rb
      have RR1 : Hid (RdE Y1 (.agg rr) (y.addR e) R ∧ w.heap.size ≤ Y0.heap.size ∧ (∀ b ∈ R, Y0.heap.size ≤ b) ∧ rr.size = 10 ∧ rr.all (·.oneCell') = true) := ⟨rd, by have := HPd.out.size; omega, ro.ge, rs, r1⟩
      have HNR : Hid (∀ b ∈ R, w.heap.size + 3 ≤ b) := fun b hb => Nat.le_trans HPd.out.size (ro.ge b hb)
      refine ⟨_, by simp [Act.put]; rfl, hK _ _ ⟨HS.out _ HP1.out, ?_⟩⟩
      clear hK rs r1 rd ro rb
      refine takeH (o := ?o26) 7 (.tuple #[.agg rr, .bool (y.addOk e)]) ?h26 ?r26
      case h26 => simp only [aT, aS, aZ]; rfl
      refine ⟨_, by simp [Act.put]; rfl, by kernel_rfl, by kernel_rfl, by kernel_rfl, fun _ _ _ h => h, (.inl ⟨rfl, fun W _ => by kernel_rfl⟩), (HS.out _ HP1.out), ?_⟩
      refine takeH (o := ?o27) 8 (.agg rr) ?h27 ?r27
      case h27 => simp only [aT, aS, aZ]; rfl
      refine ⟨_, by simp [Act.put]; rfl, by kernel_rfl, by kernel_rfl, by kernel_rfl, fun _ _ _ h => h, (.inl ⟨rfl, fun W _ => by kernel_rfl⟩), (HS.out _ HP1.out), ?_⟩
      refine takeH (o := ?o28) 9 (.bool (y.addOk e)) ?h28 ?r28
      case h28 => simp only [aT, aS, aZ]; rfl
      refine ⟨_, by simp [Act.put]; rfl, by kernel_rfl, by kernel_rfl, by kernel_rfl, fun _ _ _ h => h, (.inl ⟨rfl, fun W _ => by kernel_rfl⟩), (HS.out _ HP1.out), ?_⟩
      refine onlyH (o := ?o29) 10 (by kernel_rfl) ?h29 ?r29
      case h29 => simp only [aT, aS, aZ]; rfl
      intro K hK
      refine op_turn (.pointer (some ⟨Y1.heap.size, 0, none⟩)) (Y1.alloc (.cells #[.int .i64 0, .int .i64 0, .slice none 0 0, .int .i64 0, .int .i64 0, .int .i64 0, .int .i64 0, .slice none 0 0, .slice none 0 0, .slice none 0 0] 33)) rfl (by kernel_rfl) ⟨_, by simp [Act.put]; rfl, hK _ _ ⟨HS.out _ (HP1.out.below ((Below.refl _ _).alloc (Nat.le_refl _) _)), ?_⟩⟩
      have bz : Below Y1.heap.size Y1 (Y1.alloc (.cells #[.int .i64 0, .int .i64 0, .slice none 0 0, .int .i64 0, .int .i64 0, .int .i64 0, .int .i64 0, .slice none 0 0, .slice none 0 0, .slice none 0 0] 33)) := (Below.refl _ _).alloc (Nat.le_refl _) _
      have tx : Blk (Y1.alloc (.cells #[.int .i64 0, .int .i64 0, .slice none 0 0, .int .i64 0, .int .i64 0, .int .i64 0, .int .i64 0, .slice none 0 0, .slice none 0 0, .slice none 0 0] 33)) Y1.heap.size #[.int .i64 0, .int .i64 0, .slice none 0 0, .int .i64 0, .int .i64 0, .int .i64 0, .int .i64 0, .slice none 0 0, .slice none 0 0, .slice none 0 0] 33 := Blk.made _ _ _
      obtain ⟨Y2, hW2⟩ : ∃ Z, Z = (Y1.alloc (.cells #[.int .i64 0, .int .i64 0, .slice none 0 0, .int .i64 0, .int .i64 0, .int .i64 0, .int .i64 0, .slice none 0 0, .slice none 0 0, .slice none 0 0] 33)) := ⟨_, rfl⟩
      rw [← hW2] at bz tx ⊢
      obtain ⟨X, hX⟩ : ∃ z, z = Y1.heap.size := ⟨_, rfl⟩
      rw [← hX] at tx ⊢
      have HP2 : Hid (PuW w #[.slice (some ⟨b, off, none⟩) n c] es Y2) := HP1.out.below bz
      have TX2 : Hid (Blk Y2 X #[.int .i64 0, .int .i64 0, .slice none 0 0, .int .i64 0, .int .i64 0, .int .i64 0, .int .i64 0, .slice none 0 0, .slice none 0 0, .slice none 0 0] 33 ∧ w.heap.size + 3 ≤ X) := ⟨tx, by rw [hX]; exact HP1.out.size⟩
      have RR2 : Hid (RdE Y2 (.agg rr) (y.addR e) R ∧ w.heap.size ≤ X ∧ (∀ b ∈ R, w.heap.size ≤ b) ∧ rr.size = 10 ∧ rr.all (·.oneCell') = true) := ⟨RR1.out.1.below bz, by have := HP1.out.size; omega, fun b hb => Nat.le_trans RR1.out.2.1 (RR1.out.2.2.1 b hb), RR1.out.2.2.2⟩
      have XR2 : Hid (X ∉ R) := fun hx => by have := RR1.out.1.lt X hx; omega
      clear hK bz tx hX hW2
      refine onlyH (o := ?o30) 11 (by kernel_rfl) ?h30 ?r30
      case h30 => simp only [aT, aS, aZ]; rfl
      intro K hK
      have HPs : Hid (PuW w #[.slice (some ⟨b, off, none⟩) n c] es (Y2.setRow X rr)) := by
        have := TX2.out.2
        exact ⟨HP2.out.box.setRowOther (by omega), HP2.out.en.setRowOther (by omega), HP2.out.res.setRowOther (by omega), below_setRow HP2.out.bel (by omega) _⟩
      have HX : Hid (Blk (Y2.setRow X rr) X rr 33 ∧ RdE (Y2.setRow X rr) (.agg rr) (y.addR e) R ∧ (∀ b ∈ R, w.heap.size ≤ b) ∧ rr.size = 10) := ⟨TX2.out.1.setRow, RR2.out.1.agree (Agree.row XR2.out _), fun b hb => by have h1 := RR2.out.2.2.1 b hb; have h2 := RR2.out.2.1; omega, RR2.out.2.2.2.1⟩
      refine op_store 33 X #[.int .i64 0, .int .i64 0, .slice none 0 0, .int .i64 0, .int .i64 0, .int .i64 0, .int .i64 0, .slice none 0 0, .slice none 0 0, .slice none 0 0] rr 33 rfl rfl rfl rfl TX2.out.1 (enSize RR2.out.2.2.2.1) RR2.out.2.2.2.1.symm RR2.out.2.2.2.2 ⟨_, by simp [Act.put]; rfl, hK _ _ ⟨HS.out _ HPs.out, ?_⟩⟩
      obtain ⟨Y9, hY9⟩ : ∃ Z, Z = (Y2.setRow X rr) := ⟨_, rfl⟩
      rw [← hY9] at HPs HX ⊢
      clear hK hY9
      refine takeH (o := ?o31) 12 (.bool (y.addOk e)) ?h31 ?r31
      case h31 => simp only [aT, aS, aZ]; rfl
      refine ⟨_, by simp [Act.put]; rfl, by kernel_rfl, by kernel_rfl, by kernel_rfl, fun _ _ _ h => h, (.inl ⟨rfl, fun W _ => by kernel_rfl⟩), (HS.out _ HPs.out), ?_⟩
      refine wpAnyH_done (by kernel_rfl) ?_ _
      go_wp2_with (first | go_skip | (with_reducible refine stopLoad 60 rfl ?_) | (with_reducible refine stopLoad 33 rfl ?_))
      refine load_any 60 w.heap.size #[.slice (some ⟨b, off, none⟩) n c] 60 _ HPs.out.box rfl rfl rfl Tryz.underlying60 rfl infoQI2 ?_
      go_wp2_with (first | go_skip | (with_reducible refine stopLoad 33 rfl ?_))
      refine load_any 33 X rr 33 _ HX.out.1 rfl rfl rfl Tryz.underlying33 rfl (enSize HX.out.2.2.2) ?_
      go_wp2_with fail
      refine (with_any _ _ x F (y.addR e) R k _ (HH.out.1.below HPs.out.bel) HX.out.2.1 (by rw [HL.out.2]; exact hkn) (by have := HH.out.2.2.2.2; omega)).mono ?_
      rintro r w2 ⟨v', rfl, H, hS, hH⟩
      obtain ⟨g, m, cap, rfl⟩ := hS.val (by rw [List.length_set, HL.out.2]; omega)
      have HT : Hid (Shal Y9 (x.list.set k (y.addR e)) (.slice (some ⟨g, 0, none⟩) m cap) H w2 ∧ (∀ b ∈ H, b ∈ F ∨ b ∈ R) ∧ Blk w2 (w.heap.size + 1 + 1) #[.slice none 0 0] 60 ∧ w.heap.size + 1 + 1 ∉ H) := ⟨hS, hH, HPs.out.res.below hS.choose_spec.2.2.2, fun hx => by
        rcases hH _ hx with h | h
        · have := HL.out.1.lt _ h; omega
        · have := HNR.out _ h; omega⟩
      clear hS hH
      go_wp2_with (first | go_skip | (with_reducible refine stopStore 60 rfl ?_))
      refine store_known 60 (w.heap.size + 1 + 1) _ #[.slice (some ⟨g, 0, none⟩) m cap] 60 HT.out.2.2.1 rfl rfl rfl rfl infoQI2 rfl (by simp [Value.oneCell']) ?_
      go_wp2
      refine bodyPost_ret (results_cell_row Tryz.results28 _ _ (w.heap.size + 1 + 1) _ _ (0, 0) _ rfl HT.out.2.2.1.setRow Tryz.underlying60 rfl infoQI2) rfl ?_
      rw [HV.out]
      exact ⟨_, rfl, H, HT.out.1.into HPs.out.bel (by omega) (by have := HPs.out.size; omega) HT.out.2.2.2 _, (fun b hb => by
        rcases HT.out.2.1 b hb with h | h
        · exact .inl h
        · exact .inr (.inr (HX.out.2.2.1 b h))), HT.out.1.apart (by rw [List.length_set, HL.out.2]; omega) (by have := HPs.out.size; omega) (fun b hb => by
        rcases HT.out.2.1 b hb with h | h
        · have := HL.out.1.lt _ h; have := HPs.out.size; omega
        · exact HX.out.2.1.lt _ h)⟩
    case s25 =>
      intro K hK
      refine op_turn (.pointer (some ⟨Y0.heap.size, 0, none⟩)) (Y0.alloc (.cells #[.int .i64 0, .int .i64 0, .slice none 0 0, .int .i64 0, .int .i64 0, .int .i64 0, .int .i64 0, .slice none 0 0, .slice none 0 0, .slice none 0 0] 33)) rfl (by kernel_rfl) ⟨_, by simp [Act.put]; rfl, hK _ _ ⟨HS.out _ (HPd.out.below ((Below.refl _ _).alloc (Nat.le_refl _) _)), ?_⟩⟩
      have bz : Below Y0.heap.size Y0 (Y0.alloc (.cells #[.int .i64 0, .int .i64 0, .slice none 0 0, .int .i64 0, .int .i64 0, .int .i64 0, .int .i64 0, .slice none 0 0, .slice none 0 0, .slice none 0 0] 33)) := (Below.refl _ _).alloc (Nat.le_refl _) _
      have tx : Blk (Y0.alloc (.cells #[.int .i64 0, .int .i64 0, .slice none 0 0, .int .i64 0, .int .i64 0, .int .i64 0, .int .i64 0, .slice none 0 0, .slice none 0 0, .slice none 0 0] 33)) Y0.heap.size #[.int .i64 0, .int .i64 0, .slice none 0 0, .int .i64 0, .int .i64 0, .int .i64 0, .int .i64 0, .slice none 0 0, .slice none 0 0, .slice none 0 0] 33 := Blk.made _ _ _
      obtain ⟨Y4, hW4⟩ : ∃ Z, Z = (Y0.alloc (.cells #[.int .i64 0, .int .i64 0, .slice none 0 0, .int .i64 0, .int .i64 0, .int .i64 0, .int .i64 0, .slice none 0 0, .slice none 0 0, .slice none 0 0] 33)) := ⟨_, rfl⟩
      rw [← hW4] at bz tx ⊢
      obtain ⟨X, hX⟩ : ∃ z, z = Y0.heap.size := ⟨_, rfl⟩
      rw [← hX] at tx ⊢
      have HP4 : Hid (PuW w #[.slice (some ⟨b, off, none⟩) n c] es Y4) := HPd.out.below bz
      have TX4 : Hid (Blk Y4 X #[.int .i64 0, .int .i64 0, .slice none 0 0, .int .i64 0, .int .i64 0, .int .i64 0, .int .i64 0, .slice none 0 0, .slice none 0 0, .slice none 0 0] 33 ∧ w.heap.size + 3 ≤ X) := ⟨tx, by rw [hX]; exact HPd.out.size⟩
      clear hK bz tx hX hW4
      refine onlyH (o := ?o32) 6 (by kernel_rfl) ?h32 ?r32
      case h32 => simp only [aT, aS, aZ]; rfl
      intro K hK
      refine op_call2' 67 _ _ _ Tryz.f67 (fun v w' => ∃ rr R, v = .tuple #[.agg rr, .bool (y.addOk e)] ∧ rr.size = 10 ∧ rr.all (·.oneCell') = true ∧ RdE w' (.agg rr) (y.addR e) R ∧ Own Y4.heap.size w' R ∧ Below Y4.heap.size Y4 w') rfl rfl Tryz.func67 (by kernel_rfl) (by kernel_rfl) ((addImplE_any (.agg cs) (.agg es) y e Fi G Y4 (HY.out.1.below HP4.out.bel) (HH.out.2.1.below HP4.out.bel) HY.out.2.2.1 HH.out.2.2.2.1).mono (by
        rintro e' w' ⟨v', R, rfl, h1, h2, h3⟩
        obtain ⟨rr, rfl, h4, h5⟩ := RdE.cells h1
        exact ⟨_, rfl, rr, R, rfl, h4, h5, h1, h2, h3⟩)) ?_
      rintro _ Y5 ⟨rr, R, rfl, rs, r1, rd, ro, rb⟩
      have HP5 : Hid (PuW w #[.slice (some ⟨b, off, none⟩) n c] es Y5) := HP4.out.below rb
      have RR5 : Hid (RdE Y5 (.agg rr) (y.addR e) R ∧ w.heap.size ≤ Y4.heap.size ∧ (∀ b ∈ R, Y4.heap.size ≤ b) ∧ rr.size = 10 ∧ rr.all (·.oneCell') = true) := ⟨rd, by have := HP4.out.size; omega, ro.ge, rs, r1⟩
      have HNR : Hid (∀ b ∈ R, w.heap.size + 3 ≤ b) := fun b hb => Nat.le_trans HP4.out.size (ro.ge b hb)
      have TX5 : Hid (Blk Y5 X #[.int .i64 0, .int .i64 0, .slice none 0 0, .int .i64 0, .int .i64 0, .int .i64 0, .int .i64 0, .slice none 0 0, .slice none 0 0, .slice none 0 0] 33 ∧ w.heap.size + 3 ≤ X) := ⟨TX4.out.1.below rb, TX4.out.2⟩
      have XR5 : Hid (X ∉ R) := fun hx => by have h1 := ro.ge X hx; have h2 := TX4.out.1.lt; omega
      refine ⟨_, by simp [Act.put]; rfl, hK _ _ ⟨HS.out _ HP5.out, ?_⟩⟩
      clear hK rs r1 rd ro rb
      refine takeH (o := ?o33) 7 (.tuple #[.agg rr, .bool (y.addOk e)]) ?h33 ?r33
      case h33 => simp only [aT, aS, aZ]; rfl
      refine ⟨_, by simp [Act.put]; rfl, by kernel_rfl, by kernel_rfl, by kernel_rfl, fun _ _ _ h => h, (.inl ⟨rfl, fun W _ => by kernel_rfl⟩), (HS.out _ HP5.out), ?_⟩
      refine takeH (o := ?o34) 8 (.agg rr) ?h34 ?r34
      case h34 => simp only [aT, aS, aZ]; rfl
      refine ⟨_, by simp [Act.put]; rfl, by kernel_rfl, by kernel_rfl, by kernel_rfl, fun _ _ _ h => h, (.inl ⟨rfl, fun W _ => by kernel_rfl⟩), (HS.out _ HP5.out), ?_⟩
      refine takeH (o := ?o35) 9 (.bool (y.addOk e)) ?h35 ?r35
      case h35 => simp only [aT, aS, aZ]; rfl
      refine ⟨_, by simp [Act.put]; rfl, by kernel_rfl, by kernel_rfl, by kernel_rfl, fun _ _ _ h => h, (.inl ⟨rfl, fun W _ => by kernel_rfl⟩), (HS.out _ HP5.out), ?_⟩
      refine onlyH (o := ?o36) 11 (by kernel_rfl) ?h36 ?r36
      case h36 => simp only [aT, aS, aZ]; rfl
      intro K hK
      have HPs : Hid (PuW w #[.slice (some ⟨b, off, none⟩) n c] es (Y5.setRow X rr)) := by
        have := TX5.out.2
        exact ⟨HP5.out.box.setRowOther (by omega), HP5.out.en.setRowOther (by omega), HP5.out.res.setRowOther (by omega), below_setRow HP5.out.bel (by omega) _⟩
      have HX : Hid (Blk (Y5.setRow X rr) X rr 33 ∧ RdE (Y5.setRow X rr) (.agg rr) (y.addR e) R ∧ (∀ b ∈ R, w.heap.size ≤ b) ∧ rr.size = 10) := ⟨TX5.out.1.setRow, RR5.out.1.agree (Agree.row XR5.out _), fun b hb => by have h1 := RR5.out.2.2.1 b hb; have h2 := RR5.out.2.1; omega, RR5.out.2.2.2.1⟩
      refine op_store 33 X #[.int .i64 0, .int .i64 0, .slice none 0 0, .int .i64 0, .int .i64 0, .int .i64 0, .int .i64 0, .slice none 0 0, .slice none 0 0, .slice none 0 0] rr 33 rfl rfl rfl rfl TX5.out.1 (enSize RR5.out.2.2.2.1) RR5.out.2.2.2.1.symm RR5.out.2.2.2.2 ⟨_, by simp [Act.put]; rfl, hK _ _ ⟨HS.out _ HPs.out, ?_⟩⟩
      obtain ⟨Y9, hY9⟩ : ∃ Z, Z = (Y5.setRow X rr) := ⟨_, rfl⟩
      rw [← hY9] at HPs HX ⊢
      clear hK hY9
      refine takeH (o := ?o37) 12 (.bool (y.addOk e)) ?h37 ?r37
      case h37 => simp only [aT, aS, aZ]; rfl
      refine ⟨_, by simp [Act.put]; rfl, by kernel_rfl, by kernel_rfl, by kernel_rfl, fun _ _ _ h => h, (.inl ⟨rfl, fun W _ => by kernel_rfl⟩), (HS.out _ HPs.out), ?_⟩
      refine wpAnyH_done (by kernel_rfl) ?_ _
      go_wp2_with (first | go_skip | (with_reducible refine stopLoad 60 rfl ?_) | (with_reducible refine stopLoad 33 rfl ?_))
      refine load_any 60 w.heap.size #[.slice (some ⟨b, off, none⟩) n c] 60 _ HPs.out.box rfl rfl rfl Tryz.underlying60 rfl infoQI2 ?_
      go_wp2_with (first | go_skip | (with_reducible refine stopLoad 33 rfl ?_))
      refine load_any 33 X rr 33 _ HX.out.1 rfl rfl rfl Tryz.underlying33 rfl (enSize HX.out.2.2.2) ?_
      go_wp2_with fail
      refine (with_any _ _ x F (y.addR e) R k _ (HH.out.1.below HPs.out.bel) HX.out.2.1 (by rw [HL.out.2]; exact hkn) (by have := HH.out.2.2.2.2; omega)).mono ?_
      rintro r w2 ⟨v', rfl, H, hS, hH⟩
      obtain ⟨g, m, cap, rfl⟩ := hS.val (by rw [List.length_set, HL.out.2]; omega)
      have HT : Hid (Shal Y9 (x.list.set k (y.addR e)) (.slice (some ⟨g, 0, none⟩) m cap) H w2 ∧ (∀ b ∈ H, b ∈ F ∨ b ∈ R) ∧ Blk w2 (w.heap.size + 1 + 1) #[.slice none 0 0] 60 ∧ w.heap.size + 1 + 1 ∉ H) := ⟨hS, hH, HPs.out.res.below hS.choose_spec.2.2.2, fun hx => by
        rcases hH _ hx with h | h
        · have := HL.out.1.lt _ h; omega
        · have := HNR.out _ h; omega⟩
      clear hS hH
      go_wp2_with (first | go_skip | (with_reducible refine stopStore 60 rfl ?_))
      refine store_known 60 (w.heap.size + 1 + 1) _ #[.slice (some ⟨g, 0, none⟩) m cap] 60 HT.out.2.2.1 rfl rfl rfl rfl infoQI2 rfl (by simp [Value.oneCell']) ?_
      go_wp2
      refine bodyPost_ret (results_cell_row Tryz.results28 _ _ (w.heap.size + 1 + 1) _ _ (0, 0) _ rfl HT.out.2.2.1.setRow Tryz.underlying60 rfl infoQI2) rfl ?_
      rw [HV.out]
      exact ⟨_, rfl, H, HT.out.1.into HPs.out.bel (by omega) (by have := HPs.out.size; omega) HT.out.2.2.2 _, (fun b hb => by
        rcases HT.out.2.1 b hb with h | h
        · exact .inl h
        · exact .inr (.inr (HX.out.2.2.1 b h))), HT.out.1.apart (by rw [List.length_set, HL.out.2]; omega) (by have := HPs.out.size; omega) (fun b hb => by
        rcases HT.out.2.1 b hb with h | h
        · have := HL.out.1.lt _ h; have := HPs.out.size; omega
        · exact HX.out.2.1.lt _ h)⟩
end Go.Proofs.YtjnamoppcklomaaGreat
/- The program's RowSum. No statement of the seat is proved here. -/
namespace Go.Proofs.YtjnamoppcklomaaGreat
open Go.RowKit
theorem sumP_succ {P xs : List En} {k : Nat} {y : En} (hy : xs[k]? = some y) : sumP P (xs.take (k + 1)) = pushL (sumP P (xs.take k)) y true := by
  rw [take_snoc_en hy]; unfold sumP; rw [List.foldl_append]; rfl
/-- The sums so far, in the queue's cell Q. -/
structure SuS (w : World) (A : Array Value) (xs : List En) (Q : Nat) (p : Option Addr) (c : Nat) (W : World) : Prop where
  bel : Below w.heap.size w W
  box : Blk W w.heap.size A 26
  q : Blk W Q #[.slice p xs.length c] 60
  lo : w.heap.size < Q
  row : ∃ FF, RdRw W (.agg #[.slice p xs.length c]) ⟨xs⟩ FF ∧ Q ∉ FF
  shal : 0 < xs.length → ∃ H, Shal w xs (.slice p xs.length c) H W ∧ ∀ g n c', Value.slice p xs.length c = .slice (some ⟨g, 0, none⟩) n c' → g ∉ H ∧ Q ≠ g
/-- What stands when the sums are in place. -/
structure SuE (w : World) (xs : List En) (Q : Nat) (p : Option Addr) (l c : Nat) (W : World) : Prop where
  bel : Below w.heap.size w W
  q : Blk W Q #[.slice p l c] 60
  row : ∃ FF, RdRw W (.agg #[.slice p l c]) ⟨xs⟩ FF
set_option maxRecDepth 200000 in
theorem sums_sorted {w W : World} {A : Array Value} {P M : List En} {Q : Nat} {p : Option Addr} {c : Nat} (h : SuS w A P Q p c W) (hl : P.length ≤ 1000) (hperm : P.Perm M) (ha : Asc M) :
    Calls Tryz.prog 37 #[.slice p P.length c, .func (.func 38) #[] #[]] W fun e w2 => e = .returned (.tuple #[]) ∧ SuE w M Q p P.length c w2 := by
  by_cases hp : 0 < P.length
  · obtain ⟨H, hS, hH⟩ := h.shal hp
    refine (sorted_any w W P M _ H hS hp hl hperm ha (fun g cap e => (hH g _ _ e).1)).mono ?_
    rintro e w2 ⟨rfl, hr, hb, hq⟩
    exact ⟨rfl, hb, h.q.agree (hq Q h.q.lt (fun g n c e => (hH g _ _ e).2) Q (List.mem_singleton.2 rfl)), hr⟩
  · have e0 : P.length = 0 := by omega
    have hP := List.eq_nil_of_length_eq_zero e0
    subst hP
    have hM : M = [] := List.eq_nil_of_length_eq_zero (by rw [← hperm.length_eq]; rfl)
    subst hM
    refine (sort_none p c _ W).mono ?_
    rintro e w2 ⟨rfl, rfl⟩
    exact ⟨rfl, h.bel, h.q, ⟨_, h.row.choose_spec.1⟩⟩
theorem SuS.below {w W W' : World} {A : Array Value} {xs : List En} {Q : Nat} {p : Option Addr} {c : Nat} (h : SuS w A xs Q p c W) (hb : Below W.heap.size W W') : Below w.heap.size w W' ∧ Blk W' w.heap.size A 26 ∧ Blk W' Q #[.slice p xs.length c] 60 ∧ w.heap.size < Q ∧ (∃ FF, RdRw W' (.agg #[.slice p xs.length c]) ⟨xs⟩ FF ∧ Q ∉ FF) ∧ Q < W'.heap.size :=
  ⟨Below.next h.bel hb, h.box.below hb, h.q.below hb, h.lo, by obtain ⟨FF, r, n⟩ := h.row; exact ⟨FF, r.below hb, n⟩, by have := h.q.lt; have := hb.size; omega⟩
theorem sums_pushed {w W W' : World} {A : Array Value} {P xs : List En} {Q : Nat} {p : Option Addr} {c : Nat} {F G : List Nat} {v' : Value} {H : List Nat} (hbel : Below w.heap.size w W) (hbox : Blk W w.heap.size A 26) (hlo : w.heap.size < Q) (hQ : Q < W.heap.size) (hF : Q ∉ F) (hG : Q ∉ G) (hp : 0 < xs.length)
    (hS : Shal W xs v' H W') (hH : ∀ b ∈ H, b ∈ F ∨ b ∈ G ∨ W.heap.size ≤ b) (ha : ∀ g n c, v' = .slice (some ⟨g, 0, none⟩) n c → g ∉ H ∧ W.heap.size ≤ g) (hq : Blk W Q #[.slice p P.length c] 60) :
    ∃ g c', v' = .slice (some ⟨g, 0, none⟩) xs.length c' ∧ Blk W' Q #[.slice p P.length c] 60 ∧ SuS w A xs Q (some ⟨g, 0, none⟩) c' (W'.setRow Q #[v']) := by
  obtain ⟨g, c', rfl, _⟩ := hS.row hp
  have hb : Below W.heap.size W W' := hS.choose_spec.2.2.2
  have hQH : Q ∉ H := fun hx => by
    rcases hH _ hx with h | h | h
    · exact hF h
    · exact hG h
    · omega
  have hS' := hS.into hbel (Nat.le_of_lt hlo) hQ hQH #[.slice (some ⟨g, 0, none⟩) xs.length c']
  obtain ⟨FF, r, hr⟩ := hS.rd hp
  obtain ⟨hg, hge⟩ := ha g _ _ rfl
  have hq' : Blk W' Q #[.slice p P.length c] 60 := hq.below hb
  have hQF : Q ∉ FF := fun hx => by
    rcases hr _ hx with h | h
    · exact hQH h
    · omega
  refine ⟨g, c', rfl, hq', below_setRow (Below.next hbel hb) (Nat.le_of_lt hlo) _, (hbox.below hb).setRowOther (by omega), hq'.setRow, hlo, ⟨FF, r.agree (Agree.row hQF _), hQF⟩, fun _ => ⟨H, hS', fun g' n c e => ?_⟩⟩
  injection e with e1
  injection e1 with e1
  injection e1 with e1
  subst e1
  exact ⟨hg, by omega⟩
set_option maxRecDepth 200000 in
set_option maxHeartbeats 8000000 in
theorem rowSumImpl_any (v : Value) (x : Rw) (F : List Nat) (w : World) (h : RdRw w v x F) (hw : x.fits) :
    Calls Tryz.prog 10 #[v] w fun e w' => NewEs w x.sums e w' := by
  have HH : Hid (RdRw w v x F ∧ x.fits) := ⟨h, hw⟩
  obtain ⟨a, n, c, rfl, hL, hcp⟩ := h
  have HL : Hid (RdL enK w a n x.list F ∧ x.list.length = n ∧ x.fits) := ⟨hL, hL.length, hw⟩
  have hn : n ≤ 1048576 := by rw [← hL.length]; exact hw.len
  have HB : Hid (Below w.heap.size w (w.alloc (.cells #[.slice a n c] 26)) ∧ Blk (w.alloc (.cells #[.slice a n c] 26)) w.heap.size #[.slice a n c] 26) := ⟨Below.allocW _ (Below.refl _ _) (Nat.le_refl _), Blk.made _ _ _⟩
  clear hL hw hcp
  have hfd : ∀ (w : World) (q : Option Addr) (n d : Nat), (Instr.field 60 (.agg #[.slice q n d]) 0).run Tryz.prog w = .ok (.slice q n d) w := fun _ _ _ _ => by kernel_rfl
  go_enter Tryz.func10, Tryz.ntmps10
  go_wp2_with (first | go_skip | (with_reducible refine stopLoad 26 rfl ?_))
  refine load_any 26 w.heap.size #[.slice a n c] 26 _ HB.out.2 rfl rfl rfl Tryz.underlying26 rfl (rwSize rfl) ?_
  go_wp2_with fail
  refine (rowOkImpl_any _ x F _ (HH.out.1.below HB.out.1) HH.out.2).mono ?_
  rintro e w2 ⟨rfl, hb⟩
  have HW : Hid (Below w.heap.size w w2 ∧ Blk w2 w.heap.size #[.slice a n c] 26) := ⟨Below.next HB.out.1 hb, HB.out.2.below hb⟩
  obtain ⟨d, hd⟩ : ∃ d, d = x.ok := ⟨_, rfl⟩
  rw [← hd]
  have HD : Hid (d = x.ok) := hd
  clear hd hb HB HH
  cases d
  · have HV : Hid (x.sums = []) := by show _ = _; unfold Rw.sums; rw [← HD.out]; rfl
    go_wp2
    go_ret
    exact ⟨none, 0, w.heap.size, [], [], by rw [HV.out]; rfl, by rw [HV.out]; exact GrowL.start HW.out.1.size, Nat.le_refl _, HW.out.1⟩
  have HQ : Hid (SuS w #[.slice a n c] (sumP [] (x.list.take 0)) w2.heap.size none 0 (w2.alloc (.cells #[.slice none 0 0] 60))) := by
    have hz : sumP [] (x.list.take 0) = [] := by rw [List.take_zero]; rfl
    show SuS _ _ _ _ _ _ _
    rw [hz]
    exact ⟨Below.allocW _ HW.out.1 (Nat.le_refl _), HW.out.2.alloc _, Blk.made _ _ _, HW.out.2.lt, ⟨[], ⟨none, 0, 0, rfl, RdL.zero, (fun _ => rfl), Nat.le_refl _⟩, (fun hx => by cases hx)⟩, fun h0 => by cases h0⟩
  have c0 := HQ.out.box.cell 0
  simp only [aT, aZ] at c0
  go_wp2
  go_loopw [12] (fun i wr => ∃ (k : Nat) (p : Option Addr) (kc : Nat), k ≤ n ∧ i = .int .i64 k ∧ Hid (SuS w #[.slice a n c] (sumP [] (x.list.take k)) w2.heap.size p kc wr)) (fun i _ => n - (intOf i).toNat)
  case atStart => exact ⟨0, none, 0, by omega, rfl, HQ⟩
  case round =>
    clear HQ c0
    obtain ⟨k, p, kc, hk, rfl, HS⟩ := hrel
    have HM : Hid (_ ∧ _) := sums_at HD.out.symm HL.out.2.2 k
    by_cases hlt : k < n
    · have hI : (k : Int) < (n : Int) := by omega
      obtain ⟨b, off, y, cs, Fi, rfl, hbw, hy, hcs, hcc, hr⟩ := ens_at HL.out.1 hlt
      have HY : Hid (x.list[k]? = some y ∧ cs.size = 10 ∧ RdE wr (.agg cs) y Fi ∧ (∀ j, j < 10 → wr.cell? ⟨b, off + k * 10 + j, none⟩ = cs[j]?) ∧ cs.all (·.oneCell') = true ∧ y.fits ∧ ∀ g ∈ Fi, g < w.heap.size) := ⟨hy, hcs, hr.below HS.out.bel, fun j hj => (HS.out.bel.cell (p := ⟨b, off + k * 10 + j, none⟩) hbw).trans (hcc j hj), by
        obtain ⟨cs', e, _, h1⟩ := RdE.cells hr
        injection e with e
        rw [e]
        exact h1, HL.out.2.2.each y (List.mem_of_getElem? hy), hr.lt⟩
      clear hbw hy hcs hcc hr
      go_wp2_with (first | go_skip | (with_reducible refine stopLoad 33 rfl ?_))
      refine load_at 33 b (off + k * 10) 10 cs _ HY.out.2.2.2.1 HY.out.2.1 rfl rfl rfl Tryz.underlying33 rfl infoEnG2 ?_
      go_wp2_with (first | go_skip | (with_reducible refine stopStore 33 rfl ?_))
      refine store_fresh 33 wr.heap.size rfl #[.int .i64 0, .int .i64 0, .slice none 0 0, .int .i64 0, .int .i64 0, .int .i64 0, .int .i64 0, .slice none 0 0, .slice none 0 0, .slice none 0 0] cs 33 rfl rfl rfl rfl (by rw [HY.out.2.1]; exact infoEnG2) (by rw [HY.out.2.1]; rfl) HY.out.2.2.2.2.1 ?_
      intro w3 hg3 hb3
      have HS3 : Hid (_ ∧ _) := HS.out.below hb3
      have HX : Hid (Blk w3 wr.heap.size cs 33 ∧ RdE w3 (.agg cs) y Fi) := ⟨hg3, HY.out.2.2.1.below hb3⟩
      obtain ⟨X, hX⟩ : ∃ X, X = wr.heap.size := ⟨_, rfl⟩
      rw [← hX] at HX ⊢
      clear hg3 hb3 hX HS
      go_wp2_with (first | go_skip | (with_reducible refine stopLoad 60 rfl ?_))
      refine load_any 60 w2.heap.size #[.slice p (sumP [] (x.list.take k)).length kc] 60 _ HS3.out.2.2.1 rfl rfl rfl Tryz.underlying60 rfl infoQI2 ?_
      go_wp2_with (first | go_skip | (with_reducible refine stopLoad 33 rfl ?_))
      refine load_any 33 X cs 33 _ HX.out.1 rfl rfl rfl Tryz.underlying33 rfl (enSize HY.out.2.1) ?_
      go_wp2_with fail
      obtain ⟨FF, hRF⟩ := HS3.out.2.2.2.2.1
      have HRF : Hid (RdRw w3 (.agg #[.slice p (sumP [] (x.list.take k)).length kc]) ⟨sumP [] (x.list.take k)⟩ FF ∧ w2.heap.size ∉ FF) := hRF
      clear hRF
      refine (pushed_gen _ _ ⟨sumP [] (x.list.take k)⟩ FF y Fi true _ HRF.out.1 HX.out.2 (fun z hz => (HM.out.2.1 z (HM.out.2.2.2.1.mem_iff.1 hz)).2.wide) HY.out.2.2.2.2.2.1.wide (by show (sumP [] (x.list.take k)).length ≤ _; rw [HM.out.2.2.2.1.length_eq]; have := HM.out.2.2.1; omega)).mono ?_
      rintro r w4 ⟨v', rfl, H, hS, hH, ha⟩
      rw [← sumP_succ HY.out.1] at hS
      have HP : Hid (_ ) := sums_pushed HS3.out.1 HS3.out.2.1 HS3.out.2.2.2.1 HS3.out.2.2.2.2.2 HRF.out.2 (fun hx => by have h1 := HY.out.2.2.2.2.2.2 _ hx; have h2 := HS3.out.2.2.2.1; omega) (by rw [sumP_succ HY.out.1]; exact (pushL_size _ _ _).2.2) hS hH ha HS3.out.2.2.1
      obtain ⟨g, c', rfl, hq', hs'⟩ := HP.out
      have HT : Hid (Blk w4 w2.heap.size #[.slice p (sumP [] (x.list.take k)).length kc] 60 ∧ SuS w #[.slice (some ⟨b, off, none⟩) n c] (sumP [] (x.list.take (k + 1))) w2.heap.size (some ⟨g, 0, none⟩) c' (w4.setRow w2.heap.size #[.slice (some ⟨g, 0, none⟩) (sumP [] (x.list.take (k + 1))).length c'])) := ⟨hq', hs'⟩
      clear hS hH ha HP hq' hs' HS3 HX HRF HM
      go_wp2_with (first | go_skip | (with_reducible refine stopStore 60 rfl ?_))
      refine store_known 60 w2.heap.size _ #[.slice (some ⟨g, 0, none⟩) (sumP [] (x.list.take (k + 1))).length c'] 60 HT.out.1 rfl rfl rfl rfl infoQI2 rfl (by simp [Value.oneCell']) ?_
      obtain ⟨W5, hW5⟩ : ∃ W, W = w4.setRow w2.heap.size #[.slice (some ⟨g, 0, none⟩) (sumP [] (x.list.take (k + 1))).length c'] := ⟨_, rfl⟩
      have HT5 : Hid (SuS w #[.slice (some ⟨b, off, none⟩) n c] (sumP [] (x.list.take (k + 1))) w2.heap.size (some ⟨g, 0, none⟩) c' W5) := by rw [hW5]; exact HT.out.2
      rw [← hW5]
      clear hW5 HT
      go_wp2
      go_roundw
      case rel => exact ⟨k + 1, _, _, by omega, by go_num, HT5⟩
      case measure => simp [intOf]; omega
    · obtain rfl : k = n := by omega
      have hI : ¬ (k : Int) < (k : Int) := by omega
      have HV : Hid (x.sums = sumM [] (x.list.take k)) := by show _ = _; unfold Rw.sums; rw [if_pos HD.out.symm, List.take_of_length_le (by rw [HL.out.2.1]; exact Nat.le_refl _)]
      have c0 := HS.out.q.cell 0
      simp only [aT, aZ] at c0
      go_wp2_with fail
      refine (sums_sorted HS.out (by rw [HM.out.2.2.2.1.length_eq]; have := HM.out.2.2.1; omega) HM.out.2.2.2.1 HM.out.1).mono ?_
      rintro e w5 ⟨rfl, hE⟩
      have HE : Hid (SuE w (sumM [] (x.list.take k)) w2.heap.size p (sumP [] (x.list.take k)).length kc w5) := hE
      clear hE c0 HS
      go_wp2_with (first | go_skip | (with_reducible refine stopLoad 60 rfl ?_))
      refine load_any 60 w2.heap.size #[.slice p (sumP [] (x.list.take k)).length kc] 60 _ HE.out.q rfl rfl rfl Tryz.underlying60 rfl infoQI2 ?_
      go_wp2_with fail
      obtain ⟨FF, hr⟩ := HE.out.row
      refine (each_grow _ ⟨sumM [] (x.list.take k)⟩ FF _ hr (fun z hz => (HM.out.2.1 z hz).2) (by have := HM.out.2.2.1; show (sumM [] (x.list.take k)).length ≤ _; omega)).mono ?_
      rintro e w6 ⟨q1, d1, F1, lo, vs, GG, rfl, r1, cp1, o1, hb6, g1, hlo⟩
      have HR : Hid (Below w.heap.size w w6 ∧ GrowL enK 33 (sumM [] (x.list.take k)) lo (sumM [] (x.list.take k)).length (.slice q1 (sumM [] (x.list.take k)).length d1) vs GG w6 ∧ w.heap.size ≤ lo) := ⟨Below.next HE.out.bel hb6, g1, by have := HE.out.bel.size; omega⟩
      clear hr r1 cp1 o1 hb6 g1 hlo HE HM
      go_wp2
      go_ret
      exact ⟨q1, d1, lo, vs, GG, by rw [HV.out]; rfl, by rw [HV.out]; exact HR.out.2.1, HR.out.2.2, HR.out.1⟩
end Go.Proofs.YtjnamoppcklomaaGreat
/- Frames, as plain data. No statement of the seat is proved here. -/
namespace Go.Proofs.YtjnamoppcklomaaGreat
open Go.RowKit
structure Fr where
  kind : Int
  agent : Int
  epoch : Int
  granted : Int
  taken : Sp
  item : It
  deriving DecidableEq
/-- A frame's value that can be read; F: its set's block, G: its item's. -/
def RdFr (w : World) (v : Value) (e : Fr) (F G : List Nat) : Prop :=
  ∃ b l c a1 n1 c1 a2 n2 c2 a3 n3 c3, v = .agg #[.int .i64 e.kind, .int .i64 e.agent, .int .i64 e.epoch, .int .i64 e.granted, .slice b l c, .int .i64 e.item.seq, .int .i64 e.item.cls, .int .i64 e.item.key, .int .i64 e.item.window, .int .i64 e.item.sk.count, .int .i64 e.item.sk.sum, .int .i64 e.item.sk.min, .int .i64 e.item.sk.max, .slice a1 n1 c1, .slice a2 n2 c2, .slice a3 n3 c3] ∧
    RdP w b l e.taken F ∧ RdIt w (.agg #[.int .i64 e.item.seq, .int .i64 e.item.cls, .int .i64 e.item.key, .int .i64 e.item.window, .int .i64 e.item.sk.count, .int .i64 e.item.sk.sum, .int .i64 e.item.sk.min, .int .i64 e.item.sk.max, .slice a1 n1 c1, .slice a2 n2 c2, .slice a3 n3 c3]) e.item G ∧ Capd b l c
theorem RdFr.agree {w w' : World} {v : Value} {e : Fr} {F G : List Nat} (h : RdFr w v e F G) (ha : Agree w w' F) (hg : Agree w w' G) : RdFr w' v e F G := by
  obtain ⟨b, l, c, a1, n1, c1, a2, n2, c2, a3, n3, c3, hv, hp, hr, hcp⟩ := h
  exact ⟨b, l, c, a1, n1, c1, a2, n2, c2, a3, n3, c3, hv, hp.agree ha, hr.agree hg, hcp⟩
theorem RdFr.lt1 {w : World} {v : Value} {e : Fr} {F G : List Nat} (h : RdFr w v e F G) : ∀ b ∈ F, b < w.heap.size := by
  obtain ⟨b, l, c, a1, n1, c1, a2, n2, c2, a3, n3, c3, hv, hp, hr, _⟩ := h
  exact hp.lt
theorem RdFr.lt2 {w : World} {v : Value} {e : Fr} {F G : List Nat} (h : RdFr w v e F G) : ∀ b ∈ G, b < w.heap.size := by
  obtain ⟨b, l, c, a1, n1, c1, a2, n2, c2, a3, n3, c3, hv, hp, hr, _⟩ := h
  exact hr.lt
theorem RdFr.below {w w' : World} {v : Value} {e : Fr} {F G : List Nat} (h : RdFr w v e F G) (hb : Below w.heap.size w w') : RdFr w' v e F G := h.agree (.below hb h.lt1) (.below hb h.lt2)
theorem Fr.eq_of {x y : Fr} (h1 : x.kind = y.kind) (h2 : x.agent = y.agent) (h3 : x.epoch = y.epoch) (h4 : x.granted = y.granted) (h5 : x.taken = y.taken) (h6 : x.item = y.item) : x = y := by
  cases x; cases y; simp_all
theorem RdIt.cells11 {w : World} {v : Value} {x : It} {F : List Nat} (h : RdIt w v x F) : ∃ a1 n1 c1 a2 n2 c2 a3 n3 c3, v = .agg #[.int .i64 x.seq, .int .i64 x.cls, .int .i64 x.key, .int .i64 x.window, .int .i64 x.sk.count, .int .i64 x.sk.sum, .int .i64 x.sk.min, .int .i64 x.sk.max, .slice a1 n1 c1, .slice a2 n2 c2, .slice a3 n3 c3] := by
  obtain ⟨a1, n1, c1, a2, n2, c2, a3, n3, c3, rfl, _⟩ := h
  exact ⟨a1, n1, c1, a2, n2, c2, a3, n3, c3, rfl⟩
end Go.Proofs.YtjnamoppcklomaaGreat
/- Agents, as plain data. No statement of the seat is proved here. -/
namespace Go.Proofs.YtjnamoppcklomaaGreat
open Go.RowKit
/-- An item as an element of a slice. -/
def itK : ElK It where
  n := 11
  R := RdIt
  agree := fun h ha => RdIt.agree h ha
  lt := fun h => RdIt.lt h
  cells := fun h => by
    obtain ⟨a1, n1, c1, a2, n2, c2, a3, n3, c3, rfl⟩ := RdIt.cells11 h
    exact ⟨_, rfl, rfl, by simp [Value.oneCell']⟩
  pos := by decide
structure Ag where
  id : Int
  epoch : Int
  live : Bool
  granted : Int
  sealed : List It
  taken : Sp
  next : Int
  deriving DecidableEq
/-- An agent's value that can be read; F: its items' blocks, G: its set's. -/
def RdAg (w : World) (v : Value) (x : Ag) (F G : List Nat) : Prop :=
  ∃ a1 n1 c1 a2 n2 c2, v = .agg #[.int .i64 x.id, .int .i64 x.epoch, .bool x.live, .int .i64 x.granted, .slice a1 n1 c1, .slice a2 n2 c2, .int .i64 x.next] ∧
    RdL itK w a1 n1 x.sealed F ∧ RdP w a2 n2 x.taken G ∧ Capd a1 n1 c1 ∧ Capd a2 n2 c2
theorem RdAg.agree {w w' : World} {v : Value} {x : Ag} {F G : List Nat} (h : RdAg w v x F G) (ha : Agree w w' F) (hg : Agree w w' G) : RdAg w' v x F G := by
  obtain ⟨a1, n1, c1, a2, n2, c2, hv, h1, h2, k1, k2⟩ := h
  exact ⟨a1, n1, c1, a2, n2, c2, hv, h1.agree ha, h2.agree hg, k1, k2⟩
theorem RdAg.lt1 {w : World} {v : Value} {x : Ag} {F G : List Nat} (h : RdAg w v x F G) : ∀ b ∈ F, b < w.heap.size := by
  obtain ⟨a1, n1, c1, a2, n2, c2, hv, h1, h2, _⟩ := h
  exact h1.lt
theorem RdAg.lt2 {w : World} {v : Value} {x : Ag} {F G : List Nat} (h : RdAg w v x F G) : ∀ b ∈ G, b < w.heap.size := by
  obtain ⟨a1, n1, c1, a2, n2, c2, hv, h1, h2, _⟩ := h
  exact h2.lt
theorem RdAg.below {w w' : World} {v : Value} {x : Ag} {F G : List Nat} (h : RdAg w v x F G) (hb : Below w.heap.size w w') : RdAg w' v x F G := h.agree (.below hb h.lt1) (.below hb h.lt2)
theorem RdAg.cells {w : World} {v : Value} {x : Ag} {F G : List Nat} (h : RdAg w v x F G) : ∃ cs : Array Value, v = .agg cs ∧ cs.size = 7 ∧ cs.all (·.oneCell') = true := by
  obtain ⟨a1, n1, c1, a2, n2, c2, rfl, _⟩ := h
  exact ⟨_, rfl, rfl, by simp [Value.oneCell']⟩
theorem Ag.eq_of {x y : Ag} (h1 : x.id = y.id) (h2 : x.epoch = y.epoch) (h3 : x.live = y.live) (h4 : x.granted = y.granted) (h5 : x.sealed = y.sealed) (h6 : x.taken = y.taken) (h7 : x.next = y.next) : x = y := by
  cases x; cases y; simp_all
/-- What a list of items weighs. -/
def itsSize (xs : List It) : Int := sumOfL (fun x => x.sk.size) xs
end Go.Proofs.YtjnamoppcklomaaGreat
/- The walks through the helpers of the laws over slices of items. No statement of the seat is proved here. -/
namespace Go.Proofs.YtjnamoppcklomaaGreat
open Go.RowKit
end Go.Proofs.YtjnamoppcklomaaGreat
/- The walks through the helpers of the laws over agents. No statement of the seat is proved here. -/
namespace Go.Proofs.YtjnamoppcklomaaGreat
open Go.RowKit
/-- What an agent weighs. -/
def Ag.size (x : Ag) : Int := (x.sealed.length : Int) + itsSize x.sealed + x.taken.length
end Go.Proofs.YtjnamoppcklomaaGreat
/- Agents that came in; slices of items and of spans, as cells. No statement of the seat is proved here. -/
namespace Go.Proofs.YtjnamoppcklomaaGreat
open Go.RowKit Go.WideShapes Go.ChangeShapes Go.ChangeAt Go.Deep
section
variable {α : Type} {K : ElK α} {w : World}
/-- Elements one behind the other, each with its reading. -/
theorem rdEls_open (Good : α → Prop) : ∀ (n : Nat) (b off : Nat) (C : Nat → Array Value), (∀ r, r < n → (C r).size = K.n ∧ (∀ j, j < K.n → w.cell? ⟨b, off + r * K.n + j, none⟩ = (C r)[j]?) ∧ ∃ x F, K.R w (.agg (C r)) x F ∧ Good x) → ∃ xs F, xs.length = n ∧ RdEls K w b xs off F ∧ ∀ x ∈ xs, Good x
  | 0, b, off, C, _ => ⟨[], [], rfl, rfl, by simp⟩
  | n + 1, b, off, C, h => by
    obtain ⟨xs, F2, h1, h2, h3⟩ := rdEls_open Good n b (off + K.n) (fun r => C (r + 1)) (fun r hr => by
      obtain ⟨k1, k2, k3⟩ := h (r + 1) (by omega)
      refine ⟨k1, fun j hj => ?_, k3⟩
      rw [show off + K.n + r * K.n + j = off + (r + 1) * K.n + j by rw [Nat.succ_mul]; omega]
      exact k2 j hj)
    obtain ⟨k1, k2, x, F1, k3, k4⟩ := h 0 (by omega)
    refine ⟨x :: xs, F1 ++ F2, by simp [h1], ⟨C 0, F1, F2, k1, fun j hj => ?_, k3, h2, rfl⟩, ?_⟩
    · have := k2 j hj
      rw [Nat.zero_mul, Nat.add_zero] at this
      exact this
    · intro y hy
      rcases List.mem_cons.1 hy with rfl | hy
      · exact k4
      · exact h3 y hy
end
set_option maxRecDepth 100000 in
set_option maxHeartbeats 1000000 in
theorem open_sps {H : Type} {enc : TypeId × Value → H} {W : World} {v : Value} {fuel : Nat} {z : DataW H × List MemPlace} (g : DataW.trod enc Tryz.prog W 0 (fun _ => true) true fuel 124 [v] = some z) :
    ∃ a len cap ps F, v = .slice a len cap ∧ RdP W a len ps F ∧ len ≤ 9223372036854775807 ∧ Capd a len cap := by
  have c3 : Tryz.prog.cellsOf 3 = 1 := by kernel_rfl
  have c2 : Tryz.prog.cellsOf 185 = 2 := by kernel_rfl
  rcases open_slice_pairs Tryz.underlying124 Tryz.underlying185 c2 rfl rfl c3 c3 g with ⟨q, _⟩ | ⟨x, len, cap, m, n, V0, V1, D0, D1, P0, P1, q, _, hl, hm, hmm, _, hx⟩
  · simp at q
    subst q
    exact ⟨none, 0, 0, [], [], rfl, RdP.nil, by omega, fun _ => rfl, Nat.le_refl _⟩
  · simp at q
    subst q
    have hm2 : m = cap := by rw [hmm]; simp
    subst hm2
    have hb : len ≤ 9223372036854775807 := by unfold maxLen at hm; omega
    have ints : ∀ i, i < m → ∃ y z : Int, V0 i = .int .i64 y ∧ V1 i = .int .i64 z ∧ (Lit.int .i64 y).wf = true ∧ (Lit.int .i64 z).wf = true := fun i hi => by
      obtain ⟨_, _, h3, h4⟩ := hx i hi
      obtain ⟨y, q0, _, w0⟩ := DataW.trod_int Tryz.underlying3 h3
      obtain ⟨z, q1, _, w1⟩ := DataW.trod_int Tryz.underlying3 h4
      simp at q0 q1
      exact ⟨y, z, q0, q1, w0, w1⟩
    have hN : ∀ i, i < m → V0 i = .int .i64 (intOf (V0 i)) ∧ V1 i = .int .i64 (intOf (V1 i)) ∧ Fit64 (intOf (V0 i)) ∧ Fit64 (intOf (V1 i)) := fun i hi => by
      obtain ⟨y, z, e0, e1, w0, w1⟩ := ints i hi
      rw [e0, e1]
      exact ⟨rfl, rfl, int_wf w0, int_wf w1⟩
    by_cases h0 : len = 0
    · subst h0
      exact ⟨_, 0, _, [], [], rfl, RdP.nil, by omega, fun e => (by cases e), hl⟩
    · obtain ⟨b, off, rfl⟩ := sp_addr (hx 0 (by omega)).1
      refine ⟨_, len, m, (List.range len).map fun i => (intOf (V0 i), intOf (V1 i)), [b], rfl, rdP_mk _ (by simp) (by omega) (fun i hi => ?_), hb, fun e => (by cases e), hl⟩
      · rw [flat_range len _ _ i hi]
        have h1 := (hx i (by omega)).1
        have h2 := (hx i (by omega)).2.1
        rw [sp_add] at h1 h2
        rw [(hN i (by omega)).1] at h1
        rw [(hN i (by omega)).2.1] at h2
        exact ⟨h1, by rw [show off + i * 2 + 1 = off + (i * 2 + 1) by omega]; exact h2⟩
end Go.Proofs.YtjnamoppcklomaaGreat
/- Slices of entries that came in, as cells. No statement of the seat is proved here. -/
namespace Go.Proofs.YtjnamoppcklomaaGreat
open Go.RowKit Go.WideShapes Go.ChangeShapes Go.ChangeAt Go.Deep
set_option maxRecDepth 100000 in
set_option maxHeartbeats 1000000 in
theorem open_en10g {H : Type} {enc : TypeId × Value → H} {W : World} {e0 e1 e2 e3 e4 e5 e6 e7 e8 e9 : Value} {d : DataW H} {p : List MemPlace} (h : DataW.Trod enc Tryz.prog W 0 (fun _ => true) true 127 (.agg ⟨[e0, e1, e2, e3, e4, e5, e6, e7, e8, e9]⟩) d p) :
    ∃ x F, RdE W (.agg ⟨[e0, e1, e2, e3, e4, e5, e6, e7, e8, e9]⟩) x F ∧ x.vast := by
  have c3 : Tryz.prog.cellsOf 3 = 1 := by kernel_rfl
  have c4 : Tryz.prog.cellsOf 124 = 1 := by kernel_rfl
  have c7 : Tryz.prog.cellsOf 125 = 7 := by kernel_rfl
  obtain ⟨fuel, hf⟩ := h
  obtain ⟨xs, n, _, _, _, hlen, hx⟩ := DataW.trod_struct Tryz.underlying127 hf
  match xs, hlen with
  | [y0, y1, y2, y3], _ =>
    have g0 := hx 0 _ rfl
    have g1 := hx 1 _ rfl
    have g2 := hx 2 _ rfl
    have g3 := hx 3 _ rfl
    simp [Value.cells, c3, c4, c7] at g0 g1 g2 g3
    clear hx
    obtain ⟨i0, q0, _, _⟩ := DataW.trod_int Tryz.underlying3 g0
    obtain ⟨i1, q1, _, _⟩ := DataW.trod_int Tryz.underlying3 g1
    simp at q0 q1
    subst q0 q1
    obtain ⟨s, G, hr, hv7⟩ := open_sk7 (e0 := e3) (e1 := e4) (e2 := e5) (e3 := e6) (e4 := e7) (e5 := e8) (e6 := e9) ⟨_, g3⟩
    obtain ⟨a1, n1, c1, a2, n2, c2', a3, n3, c3', ev⟩ := hr.cells7
    simp only [Value.agg.injEq] at ev
    cases ev
    obtain ⟨b, l, c, ps, F, rfl, hp, hb, hcp⟩ := open_sps g2
    exact ⟨⟨i0, i1, ps, s⟩, F ++ G, ⟨F, G, rfl, b, l, c, a1, n1, c1, a2, n2, c2', a3, n3, c3', rfl, hp, hr, hcp⟩, hv7, by rw [hp.length]; exact hb⟩
set_option maxRecDepth 100000 in
set_option maxHeartbeats 1000000 in
theorem open_ens {H : Type} {enc : TypeId × Value → H} {W : World} {v : Value} {fuel : Nat} {z : DataW H × List MemPlace} (g : DataW.trod enc Tryz.prog W 0 (fun _ => true) true fuel 46 [v] = some z) :
    ∃ a len cap xs F, v = .slice a len cap ∧ RdL enK W a len xs F ∧ len ≤ 9223372036854775807 ∧ Capd a len cap ∧ ∀ x ∈ xs, x.vast := by
  have c10 : Tryz.prog.cellsOf 127 = 10 := by kernel_rfl
  rcases open_slice Tryz.underlying46 g with ⟨q, _⟩ | ⟨x, len, cap, m, n, D, Pl, q, _, hl, hm, hmm, _, hx⟩
  · simp at q
    subst q
    exact ⟨none, 0, 0, [], [], rfl, RdL.nil, by omega, ⟨fun _ => rfl, Nat.le_refl _⟩, by simp⟩
  · simp at q
    subst q
    have hm2 : m = cap := by rw [hmm]; simp
    subst hm2
    have hb : len ≤ 9223372036854775807 := by unfold maxLen at hm; omega
    rw [c10] at hx
    by_cases h0 : len = 0
    · subst h0
      exact ⟨_, 0, _, [], [], rfl, RdL.zero, by omega, ⟨(fun e => by cases e), hl⟩, by simp⟩
    have each : ∀ i, i < m → ∃ c : Array Value, c.size = 10 ∧ (∀ j, j < 10 → W.cell? (x.add (i * 10 + j)) = c[j]?) ∧ ∃ y F, RdE W (.agg c) y F ∧ y.vast := fun i hi => by
      obtain ⟨cs', h1, h2⟩ := hx i hi
      obtain ⟨_, hlen, hcell⟩ := World.cells?_some h1
      refine ⟨⟨cs'⟩, hlen, fun j hj => ?_, ?_⟩
      · have := hcell j hj
        rw [add_add] at this
        rw [this]
        simp
      · match cs', hlen with
        | [e0, e1, e2, e3, e4, e5, e6, e7, e8, e9], _ => exact open_en10g (d := D i) (p := Pl i) ⟨n, by simpa [Value.cells] using h2⟩
    obtain ⟨C, hC⟩ := choose_lt each
    have a0 : ∃ b off, x = ⟨b, off, none⟩ := by
      obtain ⟨k1, k2, _⟩ := hC 0 (by omega)
      have c := k2 0 (by omega)
      rw [Array.getElem?_eq_getElem (by rw [k1]; omega)] at c
      obtain ⟨b, off, spot⟩ := x
      have hspot : spot = none := by simpa [Addr.add] using World.cell?_spot c
      subst hspot
      exact ⟨b, off, rfl⟩
    obtain ⟨b, off, rfl⟩ := a0
    obtain ⟨xs, F, k1, k2, k3⟩ := rdEls_open (K := enK) (w := W) (fun y => y.vast) len b off C (fun r hr => by
      obtain ⟨h1, h2, h3⟩ := hC r (by omega)
      refine ⟨h1, fun j hj => ?_, h3⟩
      have := h2 j hj
      rw [sp_add] at this
      rw [Nat.add_assoc]
      exact this)
    exact ⟨_, len, m, xs, b :: F, rfl, ⟨k1, .inr ⟨b, off, F, by omega, rfl, rfl, k2⟩⟩, hb, ⟨(fun e => by cases e), hl⟩, k3⟩
end Go.Proofs.YtjnamoppcklomaaGreat
/- Entries and items that are marked; an entry in a variable of the law's own. No statement of the seat is proved here. -/
namespace Go.Proofs.YtjnamoppcklomaaGreat
open Go.RowKit
/-- The pairs that a marked set bears. -/
def markP (k : Int) (n : Nat) : Sp := (List.range n).map fun i : Nat => (k + 2 * (i : Int), k + 2 * (i : Int) + 1)
theorem flat_markP (k : Int) (n : Nat) : flat (markP k n) = marksI k (2 * n) := by
  induction n with
  | zero => rfl
  | succ n ih =>
    have e : markP k (n + 1) = markP k n ++ [(k + 2 * (n : Int), k + 2 * (n : Int) + 1)] := by unfold markP; rw [List.range_succ, List.map_append]; rfl
    rw [e, flat_append, ih, show 2 * (n + 1) = 2 * n + 1 + 1 by omega, marksI, marksI, List.append_assoc]
    have e1 : k + ((2 * n : Nat) : Int) = k + 2 * (n : Int) := by omega
    have e2 : k + ((2 * n + 1 : Nat) : Int) = k + 2 * (n : Int) + 1 := by omega
    rw [e1, e2]
    rfl
theorem markP_length (k : Int) (n : Nat) : (markP k n).length = n := by unfold markP; simp
def En.many (x : En) : Int := 2 * x.ids.length + x.sk.many
def En.marked (k : Int) (x : En) : En := ⟨x.key, x.window, markP k x.ids.length, x.sk.marked (k + 2 * x.ids.length)⟩
structure MarkedE (B : Nat) (w : World) (v : Value) (k : Int) (x : En) (F : List Nat) (w' : World) : Prop where
  rd : RdE w' v (x.marked k) F
  own : Own B w' F
  only : Only F w w'
theorem Sk.many_nonneg (s : Sk) : 0 ≤ s.many := by
  have := sumLen_nonneg s.rows
  unfold Sk.many
  omega
/-- An entry in a variable of the call's own: its struct lies in block g, its lists in memory between lo and hi. -/
structure VarE (W : World) (lo hi g : Nat) (cs : Array Value) (s : En) (F : List Nat) : Prop where
  blk : Blk W g cs 33
  rd : RdE W (.agg cs) s F
  sz : cs.size = 10
  own : Own lo W F
  lt : ∀ b ∈ F, b < hi
  ge : lo ≤ g
  glt : g < hi
  apart : g ∉ F
theorem VarE.below {W W' : World} {lo hi g : Nat} {cs : Array Value} {s : En} {F : List Nat} (h : VarE W lo hi g cs s F) (b : Below W.heap.size W W') : VarE W' lo hi g cs s F :=
  ⟨h.blk.below b, h.rd.below b, h.sz, h.own.below h.rd.lt b, h.lt, h.ge, h.glt, h.apart⟩
theorem VarE.fresh {w0 w1 W : World} {cs : Array Value} {s : En} {F : List Nat} (r : RdE w1 (.agg cs) s F) (o : Own w0.heap.size w1 F) (b : Below w0.heap.size w0 w1) (sz : cs.size = 10) (k : Blk W w1.heap.size cs 33) (b2 : Below w1.heap.size w1 W) : VarE W w0.heap.size W.heap.size w1.heap.size cs s F :=
  ⟨k, r.below b2, sz, o.below r.lt b2, fun x hx => by have := r.lt x hx; have := b2.size; omega, b.size, k.lt, fun hx => by have := r.lt _ hx; omega⟩
theorem VarE.only {W W' : World} {lo hi g lo' hi' g' : Nat} {cs ds : Array Value} {s t : En} {F G : List Nat} (h : VarE W lo hi g cs s F) (k : VarE W lo' hi' g' ds t G) (o : Only G W W') (hd : hi ≤ lo' ∨ hi' ≤ lo) : VarE W' lo hi g cs s F := by
  have d : ∀ b ∈ F, b ∉ G := fun b hb hg => by have := h.lt b hb; have := h.own.ge b hb; have := k.lt b hg; have := k.own.ge b hg; omega
  have e : g ∉ G := fun hg => by have := h.ge; have := h.glt; have := k.lt g hg; have := k.own.ge g hg; omega
  exact ⟨h.blk.agree (o.block g h.blk.lt e), h.rd.agree (o.agree h.rd.lt d), h.sz, h.own.agree (o.agree h.rd.lt d), h.lt, h.ge, h.glt, h.apart⟩
theorem VarE.bel {w W W' : World} {lo' hi' g' : Nat} {ds : Array Value} {t : En} {G : List Nat} (k : VarE W lo' hi' g' ds t G) (o : Only G W W') (h : Below w.heap.size w W) (hb : w.heap.size ≤ lo') : Below w.heap.size w W' :=
  o.below h h.size (fun b hg => by have := k.own.ge b hg; omega)
theorem VarE.mark {W W' : World} {lo hi g : Nat} {cs : Array Value} {s : En} {F : List Nat} {k : Int} (h : VarE W lo hi g cs s F) (m : MarkedE lo W (.agg cs) k s F W') : VarE W' lo hi g cs (s.marked k) F :=
  ⟨h.blk.agree (m.only.block g h.blk.lt h.apart), m.rd, h.sz, m.own, h.lt, h.ge, h.glt, h.apart⟩
/-- The boxes of two arguments lie there. -/
def EnBoxes (g : Nat) (cs ds : Array Value) (W : World) : Prop := Blk W g cs 127 ∧ Blk W (g + 1) ds 127
theorem EnBoxes.below {g : Nat} {cs ds : Array Value} {W W' : World} (h : EnBoxes g cs ds W) (b : Below W.heap.size W W') : EnBoxes g cs ds W' := ⟨h.1.below b, h.2.below b⟩
theorem EnBoxes.setRow {g k : Nat} {cs ds es : Array Value} {W : World} (h : EnBoxes g cs ds W) (hk : g + 1 < k) : EnBoxes g cs ds (W.setRow k es) := ⟨h.1.setRowOther (by omega), h.2.setRowOther (by omega)⟩
end Go.Proofs.YtjnamoppcklomaaGreat
/- Items of a list, marked in place, and held against their marks. No statement of the seat is proved here. -/
namespace Go.Proofs.YtjnamoppcklomaaGreat
open Go.RowKit
section
variable {α : Type} {K : ElK α} {w w' : World}
theorem RdEls.agreeC : ∀ {xs : List α} {b off : Nat} {F : List Nat}, RdEls K w b xs off F → (∀ o, off ≤ o → w'.cell? ⟨b, o, none⟩ = w.cell? ⟨b, o, none⟩) → Agree w w' F → RdEls K w' b xs off F
  | [], b, off, F, h, _, _ => h
  | x :: xs, b, off, F, h, hc, ha => by
    obtain ⟨cs, F1, F2, h1, h2, h3, h4, rfl⟩ := h
    exact ⟨cs, F1, F2, h1, fun j hj => (hc _ (by omega)).trans (h2 j hj), K.agree h3 ha.left, RdEls.agreeC h4 (fun o ho => hc o (by omega)) ha.right, rfl⟩
/-- One element of a list, and what is left when it is turned in place. -/
theorem RdEls.part : ∀ {xs : List α} {b off : Nat} {F : List Nat}, RdEls K w b xs off F → ∀ (i : Nat) (hi : i < xs.length), ∃ (F1 : List Nat) (cs : Array Value) (Fi F2 : List Nat), F = F1 ++ (Fi ++ F2) ∧ cs.size = K.n ∧ (∀ j, j < K.n → w.cell? ⟨b, off + i * K.n + j, none⟩ = cs[j]?) ∧ K.R w (.agg cs) xs[i] Fi ∧
    ∀ {w' : World} {ds : Array Value} {y : α}, ds.size = K.n → (∀ j, j < K.n → w'.cell? ⟨b, off + i * K.n + j, none⟩ = ds[j]?) → K.R w' (.agg ds) y Fi → (∀ o, (o < off + i * K.n ∨ off + (i + 1) * K.n ≤ o) → w'.cell? ⟨b, o, none⟩ = w.cell? ⟨b, o, none⟩) → Agree w w' (F1 ++ F2) → RdEls K w' b (xs.set i y) off F
  | [], b, off, F, h, i, hi => by simp at hi
  | x :: xs, b, off, F, h, i, hi => by
    obtain ⟨cs, F1, F2, h1, h2, h3, h4, rfl⟩ := h
    cases i with
    | zero =>
      refine ⟨[], cs, F1, F2, rfl, h1, fun j hj => by rw [Nat.zero_mul, Nat.add_zero]; exact h2 j hj, h3, fun {w' ds y} k1 k2 k3 k4 k5 => ?_⟩
      refine ⟨ds, F1, F2, k1, fun j hj => ?_, k3, h4.agreeC (fun o ho => k4 o (.inr (by rw [Nat.zero_add, Nat.one_mul]; exact ho))) k5, rfl⟩
      have := k2 j hj
      rw [Nat.zero_mul, Nat.add_zero] at this
      exact this
    | succ i =>
      obtain ⟨G1, ds, Gi, G2, e, k1, k2, k3, k4⟩ := RdEls.part h4 i (by simpa using hi)
      have ea : ∀ m, off + (m + 1) * K.n = off + K.n + m * K.n := fun m => by rw [Nat.succ_mul]; omega
      refine ⟨F1 ++ G1, ds, Gi, G2, by rw [e, List.append_assoc], k1, fun j hj => ?_, k3, fun {w' es y} q1 q2 q3 q4 q5 => ?_⟩
      · rw [ea]; exact k2 j hj
      · have q5' : Agree w w' F1 := fun b hb => q5 b (by simp [hb])
        have q6' : Agree w w' (G1 ++ G2) := fun b hb => q5 b (by rcases List.mem_append.1 hb with hb | hb <;> simp [hb])
        refine ⟨cs, F1, F2, h1, fun j hj => (q4 _ (.inl ?_)).trans (h2 j hj), K.agree h3 q5', ?_, rfl⟩
        · rw [ea]; have := Nat.zero_le (i * K.n); omega
        · refine k4 q1 (fun j hj => ?_) q3 (fun o ho => q4 o ?_) q6'
          · have := q2 j hj; rw [ea] at this; exact this
          · rw [ea, ea]
            exact ho
end
/-- An item that is marked whole. -/
def It.markS (k : Int) (y : It) : It := ⟨k, k + 1, k + 2, k + 3, ⟨k + 4, k + 5, k + 6, k + 7, marksI (k + 8) y.sk.hist.length, marksI (k + 8 + y.sk.hist.length) y.sk.regs.length, marksII (k + 8 + y.sk.hist.length + y.sk.regs.length) y.sk.rows⟩⟩
def It.manyS (y : It) : Int := 8 + y.sk.many
def itsMany : List It → Int
  | [] => 0
  | y :: xs => y.manyS + itsMany xs
def itsMark (k : Int) : List It → List It
  | [] => []
  | y :: xs => y.markS k :: itsMark (k + y.manyS) xs
theorem itsMark_length : ∀ (k : Int) (xs : List It), (itsMark k xs).length = xs.length
  | k, [] => rfl
  | k, y :: xs => by simp only [itsMark, List.length_cons, itsMark_length]
theorem It.manyS_nonneg (y : It) : 0 ≤ y.manyS := by have := Sk.many_nonneg y.sk; unfold It.manyS; omega
theorem itsMark_append : ∀ (k : Int) (xs ys : List It), itsMark k (xs ++ ys) = itsMark k xs ++ itsMark (k + itsMany xs) ys
  | k, [], ys => by simp [itsMark, itsMany]
  | k, y :: xs, ys => by
    simp only [List.cons_append, itsMark, itsMany, itsMark_append (k + y.manyS) xs ys]
    rw [Int.add_assoc]
theorem itsMark_set {k : Int} {xs : List It} {i : Nat} {y : It} (h : xs[i]? = some y) : (itsMark k (xs.take i) ++ xs.drop i).set i (y.markS (k + itsMany (xs.take i))) = itsMark k (xs.take (i + 1)) ++ xs.drop (i + 1) := by
  have hi : i < xs.length := (List.getElem?_eq_some_iff.1 h).1
  have hl : (itsMark k (xs.take i)).length = i := by rw [itsMark_length, List.length_take]; omega
  have hd : xs.drop i = y :: xs.drop (i + 1) := by
    rw [List.drop_eq_getElem_cons hi]
    have := (List.getElem?_eq_some_iff.1 h).2
    rw [this]
  have e : itsMark k (xs.take i ++ [y]) = itsMark k (xs.take i) ++ [y.markS (k + itsMany (xs.take i))] := by rw [itsMark_append]; simp [itsMark]
  rw [hd, take_snoc_at h, e, List.append_assoc]
  rw [List.set_append]
  simp [hl]
structure MarkingL (B : Nat) (w : World) (b off len : Nat) (k : Int) (xs : List It) (i : Nat) (F : List Nat) (w' : World) : Prop where
  rd : RdEls itK w' b (itsMark k (xs.take i) ++ xs.drop i) off F
  own : Own B w' (b :: F)
  only : Only (b :: F) w w'
def vals8 (z : Int) : List Value := [.int .i64 z, .int .i64 (z + 1), .int .i64 (z + 1 + 1), .int .i64 (z + 1 + 1 + 1), .int .i64 (z + 1 + 1 + 1 + 1), .int .i64 (z + 1 + 1 + 1 + 1 + 1), .int .i64 (z + 1 + 1 + 1 + 1 + 1 + 1), .int .i64 (z + 1 + 1 + 1 + 1 + 1 + 1 + 1)]
theorem setCells_heap (b : Nat) : ∀ (vs : List Value) (o : Nat) (w : World) (x : Nat), x ≠ b → (w.setCells b o vs).heap[x]? = w.heap[x]?
  | [], _, _, _, _ => rfl
  | v :: r, o, w, x, h => by rw [World.setCells, setCells_heap b r (o + 1) _ x h, Below.heap_setCell w ⟨b, o, none⟩ v x h]
theorem setCells_own (b B : Nat) {F : List Nat} : ∀ (vs : List Value) (o : Nat) (w : World), Own B w F → Own B (w.setCells b o vs) F
  | [], _, _, h => h
  | v :: r, o, _, h => setCells_own b B r (o + 1) _ (h.set b o v)
theorem setCells_only (b : Nat) {F : List Nat} (hb : b ∈ F) : ∀ (vs : List Value) (o : Nat) (w w0 : World), Only F w0 w → Only F w0 (w.setCells b o vs)
  | [], _, _, _, h => h
  | v :: r, o, _, w0, h => setCells_only b hb r (o + 1) _ w0 (h.set hb o v)
/-- Eight cells of a row, numbered. -/
structure Set8 (w : World) (b A : Nat) (z : Int) (W : World) : Prop where
  inn : ∀ j, j < 8 → W.cell? ⟨b, A + j, none⟩ = some (.int .i64 (z + j))
  out : ∀ o, (o < A ∨ A + 8 ≤ o) → W.cell? ⟨b, o, none⟩ = w.cell? ⟨b, o, none⟩
  oth : ∀ x, x ≠ b → W.heap[x]? = w.heap[x]?
  own : ∀ (B : Nat) (F : List Nat), Own B w F → Own B W F
  only : ∀ (F : List Nat) (w0 : World), b ∈ F → Only F w0 w → Only F w0 W
  lt : b < W.heap.size
theorem Set8.agr {w W : World} {b A : Nat} {z : Int} (h : Set8 w b A z W) {G : List Nat} (hb : b ∉ G) : Agree w W G := fun x hx => h.oth x (fun e => hb (e ▸ hx))
theorem Set8.made (w : World) (b A : Nat) (z : Int) (hc : ∀ j, j < 8 → (w.cell? ⟨b, A + j, none⟩).isSome = true) : Set8 w b A z (w.setCells b A (vals8 z)) := by
  have i := World.cell?_setCells_in b (vals8 z) A w (fun j hj => hc j hj)
  have inn : ∀ j, j < 8 → (w.setCells b A (vals8 z)).cell? ⟨b, A + j, none⟩ = some (.int .i64 (z + j)) := fun j hj => by
    rw [i j hj]
    match j, hj with
    | 0, _ => show some (Value.int .i64 z) = _; simp
    | 1, _ => rfl
    | 2, _ => show some (Value.int .i64 (z + 1 + 1)) = _; congr 2; omega
    | 3, _ => show some (Value.int .i64 (z + 1 + 1 + 1)) = _; congr 2; omega
    | 4, _ => show some (Value.int .i64 (z + 1 + 1 + 1 + 1)) = _; congr 2; omega
    | 5, _ => show some (Value.int .i64 (z + 1 + 1 + 1 + 1 + 1)) = _; congr 2; omega
    | 6, _ => show some (Value.int .i64 (z + 1 + 1 + 1 + 1 + 1 + 1)) = _; congr 2; omega
    | 7, _ => show some (Value.int .i64 (z + 1 + 1 + 1 + 1 + 1 + 1 + 1)) = _; congr 2; omega
  exact ⟨inn, fun o ho => World.cell?_setCells_out b (vals8 z) A w _ (fun _ _ => ho), fun x hx => setCells_heap b _ _ _ x hx, fun B F h => setCells_own b B _ _ _ h, fun F w0 hb h => setCells_only b hb _ _ _ w0 h, World.block_lt_of_cell? _ _ (inn 0 (by omega))⟩
theorem MarkingL.step {B : Nat} {w wr W8 w9 w10 w11 : World} {b off len : Nat} {k z : Int} {xs : List It} {i : Nat} {F' F1 F2 G1 G2 G3 : List Nat} {y : It} {a1 a2 a3 : Option Addr} {n1 n2 n3 c1 c2 c3 : Nat} (h : MarkingL B w b off len k xs i F' wr) (hy : xs[i]? = some y)
    (hF : F' = F1 ++ ((G1 ++ (G2 ++ G3)) ++ F2))
    (hb : ∀ {w' : World} {ds : Array Value} {y : It}, ds.size = 11 → (∀ j, j < 11 → w'.cell? ⟨b, off + i * 11 + j, none⟩ = ds[j]?) → RdIt w' (.agg ds) y (G1 ++ (G2 ++ G3)) → (∀ o, (o < off + i * 11 ∨ off + (i + 1) * 11 ≤ o) → w'.cell? ⟨b, o, none⟩ = wr.cell? ⟨b, o, none⟩) → Agree wr w' (F1 ++ F2) → RdEls itK w' b ((itsMark k (xs.take i) ++ xs.drop i).set i y) off F')
    (s : Set8 wr b (off + i * 11) z W8) (e8 : wr.cell? ⟨b, off + i * 11 + 8, none⟩ = some (.slice a1 n1 c1)) (e9 : wr.cell? ⟨b, off + i * 11 + 9, none⟩ = some (.slice a2 n2 c2)) (e10 : wr.cell? ⟨b, off + i * 11 + 10, none⟩ = some (.slice a3 n3 c3))
    (p1 : b ∉ G1) (p2 : b ∉ G2) (p3 : b ∉ G3) (d12 : ∀ x ∈ G1, x ∉ G2) (d13 : ∀ x ∈ G1, x ∉ G3) (d23 : ∀ x ∈ G2, x ∉ G3) 
    (m1 : MarkedI B W8 a1 n1 (z + 8) G1 w9) (m2 : MarkedI B w9 a2 n2 (z + 8 + n1) G2 w10) (m3 : MarkedII B w10 a3 n3 (z + 8 + n1 + n2) y.sk.rows G3 w11) (h1 : y.sk.hist.length = n1) (h2 : y.sk.regs.length = n2) (hz : z = k + itsMany (xs.take i)) : MarkingL B w b off len k xs (i + 1) F' w11 := by
  have s9 := m1.only.size
  have s10 := m2.only.size
  have q9 : ∀ x, x < W8.heap.size → x ∉ G1 → x ∉ G2 → x ∉ G3 → w11.heap[x]? = W8.heap[x]? := fun x hx g1 g2 g3 => ((m3.only.block x (by omega) g3).trans (m2.only.block x (by omega) g2)).trans (m1.only.block x hx g1)
  have qb := q9 b s.lt p1 p2 p3
  have cb : ∀ o, w11.cell? ⟨b, o, none⟩ = W8.cell? ⟨b, o, none⟩ := fun o => World.cell?_of_block (w := W8) (a := ⟨b, o, none⟩) qb
  have o := h.own
  have ob : b ∉ F' := (List.nodup_cons.1 o.nodup).1
  have nd := (List.nodup_cons.1 o.nodup).2
  have lF : ∀ x ∈ F', x < wr.heap.size := h.rd.lt
  have sW : wr.heap.size ≤ W8.heap.size := (s.only [b] wr (by simp) (Only.refl _ _)).size
  have r1 : RdI w11 a1 n1 (marksI (z + 8) n1) G1 := (m1.rd.agree (m2.only.agree m1.rd.lt d12)).agree (m3.only.agree (fun x hx => by have := m1.rd.lt x hx; omega) d13)
  have r2 : RdI w11 a2 n2 (marksI (z + 8 + n1) n2) G2 := m2.rd.agree (m3.only.agree m2.rd.lt d23)
  have rit : RdIt w11 (.agg #[.int .i64 z, .int .i64 (z + 1), .int .i64 (z + 2), .int .i64 (z + 3), .int .i64 (z + 4), .int .i64 (z + 5), .int .i64 (z + 6), .int .i64 (z + 7), .slice a1 n1 c1, .slice a2 n2 c2, .slice a3 n3 c3]) (y.markS z) (G1 ++ (G2 ++ G3)) := by
    refine ⟨a1, n1, c1, a2, n2, c2, a3, n3, c3, rfl, a1, n1, c1, a2, n2, c2, a3, n3, c3, G1, G2, G3, rfl, ?_, ?_, ?_, rfl⟩
    · show RdI w11 a1 n1 (marksI (z + 8) y.sk.hist.length) G1
      rw [h1]; exact r1
    · show RdI w11 a2 n2 (marksI (z + 8 + y.sk.hist.length) y.sk.regs.length) G2
      rw [h1, h2]; exact r2
    · show RdII w11 a3 n3 (marksII (z + 8 + y.sk.hist.length + y.sk.regs.length) y.sk.rows) G3
      rw [h1, h2]; exact m3.rd
  have hin : ∀ x ∈ F1 ++ F2, x ∈ F' ∧ x ∉ G1 ∧ x ∉ G2 ∧ x ∉ G3 := fun x hx => by
    rw [hF] at nd ⊢
    rw [List.nodup_append] at nd
    obtain ⟨_, nd2, dj⟩ := nd
    rw [List.nodup_append] at nd2
    obtain ⟨_, _, dj2⟩ := nd2
    rcases List.mem_append.1 hx with hx | hx
    · exact ⟨by simp [hx], fun q => dj x hx x (by simp [q]) rfl, fun q => dj x hx x (by simp [q]) rfl, fun q => dj x hx x (by simp [q]) rfl⟩
    · exact ⟨by simp [hx], fun q => dj2 x (by simp [q]) x hx rfl, fun q => dj2 x (by simp [q]) x hx rfl, fun q => dj2 x (by simp [q]) x hx rfl⟩
  have ag : Agree wr w11 (F1 ++ F2) := fun x hx => by
    obtain ⟨g0, g1, g2, g3⟩ := hin x hx
    have := lF x g0
    exact (q9 x (by omega) g1 g2 g3).trans (s.oth x (fun e => ob (e ▸ g0)))
  refine ⟨?_, ⟨o.nodup, fun x hx q => ?_, o.ge⟩, ?_⟩
  · rw [← itsMark_set hy, ← hz]
    refine hb rfl (fun j hj => ?_) rit (fun o ho => (cb o).trans (s.out o (by omega))) ag
    rw [cb]
    match j, hj with
    | 0, _ => have := s.inn 0 (by omega); simpa using this
    | 1, _ => exact s.inn 1 (by omega)
    | 2, _ => exact s.inn 2 (by omega)
    | 3, _ => exact s.inn 3 (by omega)
    | 4, _ => exact s.inn 4 (by omega)
    | 5, _ => exact s.inn 5 (by omega)
    | 6, _ => exact s.inn 6 (by omega)
    | 7, _ => exact s.inn 7 (by omega)
    | 8, _ => exact (s.out _ (by omega)).trans e8
    | 9, _ => exact (s.out _ (by omega)).trans e9
    | 10, _ => exact (s.out _ (by omega)).trans e10
  · have ow := s.own _ _ o
    rcases List.mem_cons.1 hx with rfl | hx
    · exact (World.frozen?_of_block (w := W8) (a := ⟨x, q, none⟩) qb).trans (ow.free x (by simp) q)
    · by_cases g1 : x ∈ G1
      · have a1' : w11.heap[x]? = w9.heap[x]? := (m3.only.block x (by have := m1.rd.lt x g1; omega) (d13 x g1)).trans (m2.only.block x (m1.rd.lt x g1) (d12 x g1))
        exact (World.frozen?_of_block (w := w9) (a := ⟨x, q, none⟩) a1').trans (m1.own.free x g1 q)
      · by_cases g2 : x ∈ G2
        · exact (World.frozen?_of_block (w := w10) (a := ⟨x, q, none⟩) (m3.only.block x (m2.rd.lt x g2) (d23 x g2))).trans (m2.own.free x g2 q)
        · by_cases g3 : x ∈ G3
          · exact m3.own.free x g3 q
          · exact (World.frozen?_of_block (w := W8) (a := ⟨x, q, none⟩) (q9 x (by have := lF x hx; omega) g1 g2 g3)).trans (ow.free x (by simp [hx]) q)
  · have t0 := s.only (b :: F') w (by simp) h.only
    have t1 := t0.trans (m1.only.mono (fun x hx => by rw [hF]; simp [hx]))
    have t2 := t1.trans (m2.only.mono (fun x hx => by rw [hF]; simp [hx]))
    exact t2.trans (m3.only.mono (fun x hx => by rw [hF]; simp [hx]))
end Go.Proofs.YtjnamoppcklomaaGreat
/- Entries of a list, marked in place, and held against their marks. No statement of the seat is proved here. -/
namespace Go.Proofs.YtjnamoppcklomaaGreat
open Go.RowKit
/-- An entry that is marked whole. -/
def En.markS (k : Int) (y : En) : En := ⟨k, k + 1, markP (k + 2) y.ids.length, ⟨k + 2 + 2 * y.ids.length, k + 2 + 2 * y.ids.length + 1, k + 2 + 2 * y.ids.length + 2, k + 2 + 2 * y.ids.length + 3, marksI (k + 2 + 2 * y.ids.length + 4) y.sk.hist.length, marksI (k + 2 + 2 * y.ids.length + 4 + y.sk.hist.length) y.sk.regs.length, marksII (k + 2 + 2 * y.ids.length + 4 + y.sk.hist.length + y.sk.regs.length) y.sk.rows⟩⟩
def En.manyS (y : En) : Int := 6 + 2 * y.ids.length + y.sk.many
def ensMany : List En → Int
  | [] => 0
  | y :: xs => y.manyS + ensMany xs
def ensMark (k : Int) : List En → List En
  | [] => []
  | y :: xs => y.markS k :: ensMark (k + y.manyS) xs
theorem ensMark_length : ∀ (k : Int) (xs : List En), (ensMark k xs).length = xs.length
  | k, [] => rfl
  | k, y :: xs => by simp only [ensMark, List.length_cons, ensMark_length]
theorem En.manyS_nonneg (y : En) : 0 ≤ y.manyS := by have := Sk.many_nonneg y.sk; unfold En.manyS; omega
theorem ensMany_nonneg : ∀ xs : List En, 0 ≤ ensMany xs
  | [] => by simp [ensMany]
  | y :: xs => by have := En.manyS_nonneg y; have := ensMany_nonneg xs; simp only [ensMany]; omega
theorem ensMany_append : ∀ xs ys : List En, ensMany (xs ++ ys) = ensMany xs + ensMany ys
  | [], ys => by simp [ensMany]
  | y :: xs, ys => by simp only [List.cons_append, ensMany, ensMany_append xs ys]; omega
theorem ensMark_append : ∀ (k : Int) (xs ys : List En), ensMark k (xs ++ ys) = ensMark k xs ++ ensMark (k + ensMany xs) ys
  | k, [], ys => by simp [ensMark, ensMany]
  | k, y :: xs, ys => by
    simp only [List.cons_append, ensMark, ensMany, ensMark_append (k + y.manyS) xs ys]
    rw [Int.add_assoc]
theorem ensMany_snoc {xs : List En} {i : Nat} {y : En} (h : xs[i]? = some y) : ensMany (xs.take (i + 1)) = ensMany (xs.take i) + y.manyS := by
  rw [take_snoc_at h, ensMany_append]; simp [ensMany]
theorem ensMark_set {k : Int} {xs : List En} {i : Nat} {y : En} (h : xs[i]? = some y) : (ensMark k (xs.take i) ++ xs.drop i).set i (y.markS (k + ensMany (xs.take i))) = ensMark k (xs.take (i + 1)) ++ xs.drop (i + 1) := by
  have hi : i < xs.length := (List.getElem?_eq_some_iff.1 h).1
  have hl : (ensMark k (xs.take i)).length = i := by rw [ensMark_length, List.length_take]; omega
  have hd : xs.drop i = y :: xs.drop (i + 1) := by
    rw [List.drop_eq_getElem_cons hi]
    have := (List.getElem?_eq_some_iff.1 h).2
    rw [this]
  have e : ensMark k (xs.take i ++ [y]) = ensMark k (xs.take i) ++ [y.markS (k + ensMany (xs.take i))] := by rw [ensMark_append]; simp [ensMark]
  rw [hd, take_snoc_at h, e, List.append_assoc]
  rw [List.set_append]
  simp [hl]
theorem ensMark_at {k : Int} {xs : List En} {i : Nat} {y : En} (h : xs[i]? = some y) : (ensMark k xs)[i]? = some (y.markS (k + ensMany (xs.take i))) := by
  have hi : i < xs.length := (List.getElem?_eq_some_iff.1 h).1
  have hl : (ensMark k (xs.take i)).length = i := by rw [ensMark_length, List.length_take]; omega
  have hd : xs = xs.take i ++ (y :: xs.drop (i + 1)) := by
    have e := List.take_append_drop i xs
    rw [List.drop_eq_getElem_cons hi, (List.getElem?_eq_some_iff.1 h).2] at e
    exact e.symm
  conv => lhs; rw [hd, ensMark_append, ensMark]
  rw [List.getElem?_append_right (by omega), hl]
  simp
theorem ensMany_le {xs : List En} (i : Nat) : ensMany (xs.take i) ≤ ensMany xs := by
  have := ensMany_append (xs.take i) (xs.drop i)
  rw [List.take_append_drop] at this
  have := ensMany_nonneg (xs.drop i)
  omega
structure MarkedEs (B : Nat) (w : World) (a : Option Addr) (len : Nat) (k : Int) (xs : List En) (F : List Nat) (w' : World) : Prop where
  rd : RdL enK w' a len (ensMark k xs) F
  own : Own B w' F
  only : Only F w w'
structure MarkingE (B : Nat) (w : World) (b off len : Nat) (k : Int) (xs : List En) (i : Nat) (F : List Nat) (w' : World) : Prop where
  rd : RdEls enK w' b (ensMark k (xs.take i) ++ xs.drop i) off F
  own : Own B w' (b :: F)
  only : Only (b :: F) w w'
theorem MarkingE.step {B : Nat} {w wr W : World} {b off len : Nat} {k z : Int} {xs : List En} {i : Nat} {F' F1 Fi F2 : List Nat} {y : En} {ds : Array Value} (h : MarkingE B w b off len k xs i F' wr) (hy : xs[i]? = some y)
    (hF : F' = F1 ++ (Fi ++ F2))
    (hb : ∀ {w' : World} {ds : Array Value} {y : En}, ds.size = 10 → (∀ j, j < 10 → w'.cell? ⟨b, off + i * 10 + j, none⟩ = ds[j]?) → RdE w' (.agg ds) y Fi → (∀ o, (o < off + i * 10 ∨ off + (i + 1) * 10 ≤ o) → w'.cell? ⟨b, o, none⟩ = wr.cell? ⟨b, o, none⟩) → Agree wr w' (F1 ++ F2) → RdEls enK w' b ((ensMark k (xs.take i) ++ xs.drop i).set i y) off F')
    (hz : z = k + ensMany (xs.take i)) (hds : ds.size = 10) (hin : ∀ j, j < 10 → W.cell? ⟨b, off + i * 10 + j, none⟩ = ds[j]?) (hR : RdE W (.agg ds) (y.markS z) Fi) (hout : ∀ o, (o < off + i * 10 ∨ off + (i + 1) * 10 ≤ o) → W.cell? ⟨b, o, none⟩ = wr.cell? ⟨b, o, none⟩)
    (honly : Only (b :: Fi) wr W) (hfr : ∀ q, W.frozen? ⟨b, q, none⟩ = false) (hown : Own B W Fi) : MarkingE B w b off len k xs (i + 1) F' W := by
  have o := h.own
  have ob : b ∉ F' := (List.nodup_cons.1 o.nodup).1
  have nd := (List.nodup_cons.1 o.nodup).2
  have lF : ∀ x ∈ F', x < wr.heap.size := h.rd.lt
  have hnot : ∀ x ∈ F1 ++ F2, x ∈ F' ∧ x ∉ (b :: Fi) := fun x hx => by
    rw [hF] at nd ob ⊢
    rw [List.nodup_append] at nd
    obtain ⟨_, nd2, dj⟩ := nd
    rw [List.nodup_append] at nd2
    obtain ⟨_, _, dj2⟩ := nd2
    rcases List.mem_append.1 hx with hx | hx
    · refine ⟨by simp [hx], fun q => ?_⟩
      rcases List.mem_cons.1 q with rfl | q
      · exact ob (by simp [hx])
      · exact dj x hx x (by simp [q]) rfl
    · refine ⟨by simp [hx], fun q => ?_⟩
      rcases List.mem_cons.1 q with rfl | q
      · exact ob (by simp [hx])
      · exact dj2 x q x hx rfl
  have ag : Agree wr W (F1 ++ F2) := fun x hx => honly.block x (lF x (hnot x hx).1) (hnot x hx).2
  refine ⟨?_, ⟨o.nodup, fun x hx q => ?_, o.ge⟩, ?_⟩
  · rw [← ensMark_set hy, ← hz]
    exact hb hds hin hR hout ag
  · rcases List.mem_cons.1 hx with rfl | hx
    · exact hfr q
    · by_cases g : x ∈ Fi
      · exact hown.free x g q
      · have hx12 : x ∈ F1 ++ F2 := by
          rw [hF] at hx
          simp only [List.mem_append] at hx ⊢
          rcases hx with hx | hx | hx
          · exact .inl hx
          · exact absurd hx g
          · exact .inr hx
        exact (World.frozen?_of_block (w := wr) (a := ⟨x, q, none⟩) (ag x hx12)).trans (o.free x (by simp [hx]) q)
  · refine h.only.trans (honly.mono (fun x hx => ?_))
    rcases List.mem_cons.1 hx with rfl | hx
    · simp
    · rw [hF]; simp [hx]
/-- Some cells of a row, numbered. -/
structure SetN (n : Nat) (w : World) (b A : Nat) (z : Int) (W : World) : Prop where
  inn : ∀ j, j < n → W.cell? ⟨b, A + j, none⟩ = some (.int .i64 (z + j))
  out : ∀ o, (o < A ∨ A + n ≤ o) → W.cell? ⟨b, o, none⟩ = w.cell? ⟨b, o, none⟩
  oth : ∀ x, x ≠ b → W.heap[x]? = w.heap[x]?
  own : ∀ (B : Nat) (F : List Nat), Own B w F → Own B W F
  only : ∀ (F : List Nat) (w0 : World), b ∈ F → Only F w0 w → Only F w0 W
  lt : b < W.heap.size
theorem SetN.agr {n : Nat} {w W : World} {b A : Nat} {z : Int} (h : SetN n w b A z W) {G : List Nat} (hb : b ∉ G) : Agree w W G := fun x hx => h.oth x (fun e => hb (e ▸ hx))
def vals2 (z : Int) : List Value := [.int .i64 z, .int .i64 (z + 1)]
def vals4 (z : Int) : List Value := [.int .i64 z, .int .i64 (z + 1), .int .i64 (z + 1 + 1), .int .i64 (z + 1 + 1 + 1)]
theorem SetN.made2 (w : World) (b A : Nat) (z : Int) (hc : ∀ j, j < 2 → (w.cell? ⟨b, A + j, none⟩).isSome = true) : SetN 2 w b A z (w.setCells b A (vals2 z)) := by
  have i := World.cell?_setCells_in b (vals2 z) A w (fun j hj => hc j hj)
  have inn : ∀ j, j < 2 → (w.setCells b A (vals2 z)).cell? ⟨b, A + j, none⟩ = some (.int .i64 (z + j)) := fun j hj => by
    rw [i j hj]
    match j, hj with
    | 0, _ => show some (Value.int .i64 z) = _; simp
    | 1, _ => rfl
  exact ⟨inn, fun o ho => World.cell?_setCells_out b (vals2 z) A w _ (fun _ _ => ho), fun x hx => setCells_heap b _ _ _ x hx, fun B F h => setCells_own b B _ _ _ h, fun F w0 hb h => setCells_only b hb _ _ _ w0 h, World.block_lt_of_cell? _ _ (inn 0 (by omega))⟩
theorem SetN.made4 (w : World) (b A : Nat) (z : Int) (hc : ∀ j, j < 4 → (w.cell? ⟨b, A + j, none⟩).isSome = true) : SetN 4 w b A z (w.setCells b A (vals4 z)) := by
  have i := World.cell?_setCells_in b (vals4 z) A w (fun j hj => hc j hj)
  have inn : ∀ j, j < 4 → (w.setCells b A (vals4 z)).cell? ⟨b, A + j, none⟩ = some (.int .i64 (z + j)) := fun j hj => by
    rw [i j hj]
    match j, hj with
    | 0, _ => show some (Value.int .i64 z) = _; simp
    | 1, _ => rfl
    | 2, _ => show some (Value.int .i64 (z + 1 + 1)) = _; congr 2; omega
    | 3, _ => show some (Value.int .i64 (z + 1 + 1 + 1)) = _; congr 2; omega
  exact ⟨inn, fun o ho => World.cell?_setCells_out b (vals4 z) A w _ (fun _ _ => ho), fun x hx => setCells_heap b _ _ _ x hx, fun B F h => setCells_own b B _ _ _ h, fun F w0 hb h => setCells_only b hb _ _ _ w0 h, World.block_lt_of_cell? _ _ (inn 0 (by omega))⟩
set_option maxRecDepth 200000 in
set_option maxHeartbeats 8000000 in
theorem markEntryS_any (B : Nat) (a : Option Addr) (len cap : Nat) (xs : List En) (F : List Nat) (k : Int) (w : World) (h : RdL enK w a len xs F) (ho : Own B w F) (hw : ∀ y ∈ xs, y.wide) (hlen : len ≤ 1048576) (hk0 : 0 ≤ k) (hk1 : k + ensMany xs ≤ 1000000000000) :
    Calls Tryz.prog 22 #[.slice a len cap, .int .i64 k] w fun e w' => e = .returned (.int .i64 (k + ensMany xs)) ∧ MarkedEs B w a len k xs F w' := by
  have HL : Hid (xs.length = len ∧ (∀ y ∈ xs, y.wide)) := ⟨h.length, hw⟩
  have HK1 : Hid (k + ensMany xs ≤ 1000000000000 ∧ 0 ≤ k) := ⟨hk1, hk0⟩
  clear hk1 hk0 hw
  rcases h.cells with ⟨h0, hF⟩ | ⟨b, off, F', hp, rfl, hF, hc⟩
  · subst h0
    have hx : xs = [] := List.eq_nil_of_length_eq_zero HL.out.1
    subst hx
    have HH : Hid (Own B w F ∧ F = []) := ⟨ho, hF⟩
    clear h ho hF
    go_enter Tryz.func22, Tryz.ntmps22
    go_wp2
    refine wp_loop_rounds 1 ?_
    rw [rounds_succ]
    go_wp2
    go_ret
    exact ⟨ret_int (by simp [ensMany]), ⟨⟨rfl, .inl ⟨rfl, HH.out.2⟩⟩, HH.out.1, Only.refl _ _⟩⟩
  · subst hF
    have HM : Hid (MarkingE B w b off len k xs 0 F' w) := ⟨by simpa [ensMark] using hc, ho, Only.refl _ _⟩
    clear h ho hc
    go_enter Tryz.func22, Tryz.ntmps22
    go_wp2
    go_loopw [1, 5] (fun q i wr => ∃ (j : Nat) (z : Int), j ≤ len ∧ i = .int .i64 j ∧ q = .int .i64 z ∧ Hid (z = k + ensMany (xs.take j)) ∧ Hid (MarkingE B w b off len k xs j F' wr)) (fun _ i _ => len - (intOf i).toNat)
    case atStart => exact ⟨0, k, by omega, rfl, rfl, by show _ = _; simp [ensMany], HM⟩
    case round =>
      obtain ⟨i, z, hi, rfl, rfl, HZ, HMi⟩ := hrel
      clear HM
      by_cases hlt : i < len
      · have hI : (i : Int) < (len : Int) := by omega
        obtain ⟨y, hy⟩ : ∃ y, xs[i]? = some y := ⟨_, List.getElem?_eq_getElem (by rw [HL.out.1]; exact hlt)⟩
        have hil : (ensMark k (xs.take i)).length = i := by rw [ensMark_length, List.length_take]; have := HL.out.1; omega
        have hlen2 : i < (ensMark k (xs.take i) ++ xs.drop i).length := by rw [List.length_append, hil, List.length_drop]; have := HL.out.1; omega
        obtain ⟨F1, cs, Fi, F2, hFF, hcs, hcc, hR, hback⟩ := HMi.out.rd.part i hlen2
        have hyi : (ensMark k (xs.take i) ++ xs.drop i)[i] = y := by
          have e : (ensMark k (xs.take i) ++ xs.drop i)[i]? = some y := by
            rw [List.getElem?_append_right (by omega), hil, Nat.sub_self, List.getElem?_drop, Nat.add_zero]; exact hy
          exact (List.getElem?_eq_some_iff.1 e).2
        rw [hyi] at hR
        obtain ⟨G0, Gs, hFi, b0, l0, c0, a1, n1, c1, a2, n2, c2, a3, n3, c3, ecs, hp0, ⟨a1', n1', c1', a2', n2', c2', a3', n3', c3', G1, G2, G3, esk, r1, r2, r3, hG⟩, hcp⟩ := hR
        injection ecs with ecs
        subst ecs
        injection esk with esk
        injection esk with esk
        simp at esk
        obtain ⟨⟨rfl, rfl, rfl⟩, ⟨rfl, rfl, rfl⟩, rfl, rfl, rfl⟩ := esk
        have HB : Hid (∀ {w' : World} {ds : Array Value} {y : En}, ds.size = 10 → (∀ j, j < 10 → w'.cell? ⟨b, off + i * 10 + j, none⟩ = ds[j]?) → RdE w' (.agg ds) y Fi → (∀ o, (o < off + i * 10 ∨ off + (i + 1) * 10 ≤ o) → w'.cell? ⟨b, o, none⟩ = wr.cell? ⟨b, o, none⟩) → Agree wr w' (F1 ++ F2) → RdEls enK w' b ((ensMark k (xs.take i) ++ xs.drop i).set i y) off F') := hback
        have HR : Hid (RdP wr b0 l0 y.ids G0 ∧ RdI wr a1 n1 y.sk.hist G1 ∧ RdI wr a2 n2 y.sk.regs G2 ∧ RdII wr a3 n3 y.sk.rows G3 ∧ Fi = G0 ++ (G1 ++ (G2 ++ G3)) ∧ F' = F1 ++ (Fi ++ F2) ∧ Capd b0 l0 c0) := ⟨hp0, r1, r2, r3, by rw [hFi, hG], hFF, hcp⟩
        have HY : Hid (xs[i]? = some y ∧ y.wide ∧ y.sk.hist.length = n1 ∧ y.sk.regs.length = n2 ∧ y.sk.rows.length = n3 ∧ y.ids.length = l0) := ⟨hy, HL.out.2 y (List.mem_of_getElem? hy), r1.length, r2.length, r3.length, hp0.length⟩
        have hl0 : l0 ≤ 1048576 := by rw [← hp0.length]; exact (HL.out.2 y (List.mem_of_getElem? hy)).2
        have HZ2 : Hid (z + y.manyS ≤ 1000000000000 ∧ 0 ≤ y.sk.many) := by
          have h1 := ensMany_snoc hy
          have h2 := ensMany_le (xs := xs) (i + 1)
          have h3 := HK1.out
          have h4 := HZ.out
          have h5 := Sk.many_nonneg y.sk
          exact ⟨by omega, h5⟩
        have z0 : 0 ≤ z := by have := HZ.out; have := HK1.out; have := ensMany_nonneg (xs.take i); omega
        have z1 : z ≤ 1000000000000 := by have := HZ2.out; have := En.manyS_nonneg y; omega
        have HC : Hid (∀ j v, (#[.int .i64 y.key, .int .i64 y.window, .slice b0 l0 c0, .int .i64 y.sk.count, .int .i64 y.sk.sum, .int .i64 y.sk.min, .int .i64 y.sk.max, .slice a1 n1 c1, .slice a2 n2 c2, .slice a3 n3 c3] : Array Value)[j]? = some v → j < 10 → wr.cell? ⟨b, off + i * 10 + j, none⟩ = some v) := fun j v hv hj => by rw [← hv]; exact hcc j hj
        have e0 : wr.cell? ⟨b, off + i * 10, none⟩ = some (.int .i64 y.key) := HC.out 0 _ rfl (by decide)
        have e1 : wr.cell? ⟨b, off + i * 10 + 1, none⟩ = some (.int .i64 y.window) := HC.out 1 _ rfl (by decide)
        have e2 : wr.cell? ⟨b, off + i * 10 + 2, none⟩ = some (.slice b0 l0 c0) := HC.out 2 _ rfl (by decide)
        have HFR : Hid (∀ o, wr.frozen? ⟨b, o, none⟩ = false) := fun o => HMi.out.own.free b (by simp) o
        have f0 := HFR.out (off + i * 10)
        have f1 := HFR.out (off + i * 10 + 1)
        clear hcs hcc hback r1 r2 r3 hG hFF hFi hp0 hcp hy hil hlen2 hyi
        go_wp2_with fail
        have S2 := SetN.made2 wr b (off + i * 10) z (by intro j hj; match j, hj with
          | 0, _ => rw [Nat.add_zero, e0]; rfl
          | 1, _ => rw [e1]; rfl)
        change Calls _ _ _ (World.setCells wr b (off + i * 10) (vals2 z)) _
        have HFR2 : Hid (∀ o, (World.setCells wr b (off + i * 10) (vals2 z)).frozen? ⟨b, o, none⟩ = false) := by
          have o := S2.own _ _ HMi.out.own
          exact fun q => o.free b (by simp) q
        obtain ⟨W2, hW2⟩ : ∃ W, W = World.setCells wr b (off + i * 10) (vals2 z) := ⟨_, rfl⟩
        rw [← hW2] at S2 HFR2 ⊢
        have HS2 : Hid (SetN 2 wr b (off + i * 10) z W2) := S2
        clear hW2 S2 e0 e1 e2 f0 f1
        have HO : Hid ((Own B wr G0 ∧ Own B wr G1 ∧ Own B wr G2 ∧ Own B wr G3) ∧ (b ∉ G0 ∧ b ∉ G1 ∧ b ∉ G2 ∧ b ∉ G3) ∧ ((∀ x ∈ G0, x ∉ G1) ∧ (∀ x ∈ G0, x ∉ G2) ∧ (∀ x ∈ G0, x ∉ G3)) ∧ (∀ x ∈ G1, x ∉ G2) ∧ (∀ x ∈ G1, x ∉ G3) ∧ (∀ x ∈ G2, x ∉ G3)) := by
          have o := HMi.out.own
          have ob : b ∉ F' := (List.nodup_cons.1 o.nodup).1
          have oF : Own B wr F' := ⟨(List.nodup_cons.1 o.nodup).2, fun x hx q => o.free x (List.mem_cons_of_mem _ hx) q, fun x hx => o.ge x (List.mem_cons_of_mem _ hx)⟩
          rw [HR.out.2.2.2.2.2.1, HR.out.2.2.2.2.1] at oF ob
          have o2 := oF.right.left
          have a0 := o2.apart
          have o3 := o2.right
          have a1 := o3.apart
          exact ⟨⟨o2.left, o3.left, o3.right.left, o3.right.right⟩, ⟨fun hx => ob (by simp [hx]), fun hx => ob (by simp [hx]), fun hx => ob (by simp [hx]), fun hx => ob (by simp [hx])⟩, ⟨fun x hx q => a0 x hx (by simp [q]), fun x hx q => a0 x hx (by simp [q]), fun x hx q => a0 x hx (by simp [q])⟩, fun x hx q => a1 x hx (by simp [q]), fun x hx q => a1 x hx (by simp [q]), o3.right.apart⟩
        have HI2 : Hid (RdI W2 b0 (2 * l0) (flat y.ids) G0 ∧ Own B W2 G0) := ⟨HR.out.1.rd.agree (HS2.out.agr HO.out.2.1.1), HS2.out.own _ _ HO.out.1.1⟩
        obtain ⟨y2, hy2⟩ : ∃ t, t = z + 1 + 1 := ⟨_, rfl⟩
        rw [← hy2]
        have HY2 : Hid (y2 = z + 2) := by show _ = _; omega
        have y20 : 0 ≤ y2 := by omega
        have HM2 : Hid (y2 + 2 * (l0 : Int) + 4 + n1 + n2 + sumLen y.sk.rows ≤ 1000000000000 ∧ 0 ≤ sumLen y.sk.rows) := by
          have h1 := HZ2.out.1
          have h2 := HY2.out
          unfold En.manyS Sk.many at h1
          have h3 := HY.out.2.2.1
          have h4 := HY.out.2.2.2.1
          have h6 := HY.out.2.2.2.2.2
          have h5 := sumLen_nonneg y.sk.rows
          exact ⟨by omega, h5⟩
        clear hy2 z1
        refine (markSpanS_any B b0 l0 c0 (flat y.ids) G0 y2 W2 HI2.out.1 HI2.out.2 y20 (by have := HM2.out; omega)).mono ?_
        rintro e w3 ⟨rfl, m0⟩
        have H3 : Hid (MarkedP B W2 b0 l0 y2 G0 w3) := m0
        have HB3 : Hid (∀ o, w3.cell? ⟨b, o, none⟩ = W2.cell? ⟨b, o, none⟩) := fun o => World.cell?_of_block (w := W2) (a := ⟨b, o, none⟩) (m0.only.block b HS2.out.lt HO.out.2.1.1)
        have HFR3 : Hid (∀ o, w3.frozen? ⟨b, o, none⟩ = false) := fun o => (World.frozen?_of_block (w := W2) (a := ⟨b, o, none⟩) (m0.only.block b HS2.out.lt HO.out.2.1.1)).trans (HFR2.out o)
        have g3 : w3.cell? ⟨b, off + i * 10 + 3, none⟩ = some (.int .i64 y.sk.count) := (HB3.out _).trans ((HS2.out.out _ (by omega)).trans (HC.out 3 _ rfl (by decide)))
        have g4 : w3.cell? ⟨b, off + i * 10 + 4, none⟩ = some (.int .i64 y.sk.sum) := (HB3.out _).trans ((HS2.out.out _ (by omega)).trans (HC.out 4 _ rfl (by decide)))
        have g5 : w3.cell? ⟨b, off + i * 10 + 5, none⟩ = some (.int .i64 y.sk.min) := (HB3.out _).trans ((HS2.out.out _ (by omega)).trans (HC.out 5 _ rfl (by decide)))
        have g6 : w3.cell? ⟨b, off + i * 10 + 6, none⟩ = some (.int .i64 y.sk.max) := (HB3.out _).trans ((HS2.out.out _ (by omega)).trans (HC.out 6 _ rfl (by decide)))
        have g7 : w3.cell? ⟨b, off + i * 10 + 7, none⟩ = some (.slice a1 n1 c1) := (HB3.out _).trans ((HS2.out.out _ (by omega)).trans (HC.out 7 _ rfl (by decide)))
        have f3 := HFR3.out (off + i * 10 + 3)
        have f4 := HFR3.out (off + i * 10 + 4)
        have f5 := HFR3.out (off + i * 10 + 5)
        have f6 := HFR3.out (off + i * 10 + 6)
        obtain ⟨y3, hy3⟩ : ∃ t, t = y2 + 2 * (l0 : Int) := ⟨_, rfl⟩
        rw [← hy3]
        have HY3 : Hid (y3 = z + 2 + 2 * (l0 : Int)) := by have := HY2.out; show _ = _; omega
        have y30 : 0 ≤ y3 := by omega
        have y31 : y3 ≤ 1000000000000 := by have := HM2.out; omega
        clear hy3 m0
        go_wp2_with fail
        have S4 := SetN.made4 w3 b (off + i * 10 + 3) y3 (by intro j hj; match j, hj with
          | 0, _ => rw [Nat.add_zero, g3]; rfl
          | 1, _ => rw [show off + i * 10 + 3 + 1 = off + i * 10 + 4 by omega, g4]; rfl
          | 2, _ => rw [show off + i * 10 + 3 + 2 = off + i * 10 + 5 by omega, g5]; rfl
          | 3, _ => rw [show off + i * 10 + 3 + 3 = off + i * 10 + 6 by omega, g6]; rfl)
        change Calls _ _ _ (World.setCells w3 b (off + i * 10 + 3) (vals4 y3)) _
        have HFR4 : Hid (∀ o, (World.setCells w3 b (off + i * 10 + 3) (vals4 y3)).frozen? ⟨b, o, none⟩ = false) := by
          have o3 : Own 0 w3 [b] := ⟨by simp, fun x hx q => by obtain rfl : x = b := by simpa using hx
                                                               exact HFR3.out q, fun x hx => Nat.zero_le _⟩
          have o := S4.own _ _ o3
          exact fun q => o.free b (by simp) q
        obtain ⟨W4, hW4⟩ : ∃ W, W = World.setCells w3 b (off + i * 10 + 3) (vals4 y3) := ⟨_, rfl⟩
        rw [← hW4] at S4 HFR4 ⊢
        have HS4 : Hid (SetN 4 w3 b (off + i * 10 + 3) y3 W4) := S4
        clear hW4 S4 g3 g4 g5 g6 g7 f3 f4 f5 f6 y31
        have lt1 : ∀ x ∈ G1, x < W2.heap.size := fun x hx => by have := HR.out.2.1.lt x hx; have := (HS2.out.only [b] wr (by simp) (Only.refl _ _)).size; omega
        have lt2 : ∀ x ∈ G2, x < W2.heap.size := fun x hx => by have := HR.out.2.2.1.lt x hx; have := (HS2.out.only [b] wr (by simp) (Only.refl _ _)).size; omega
        have lt3 : ∀ x ∈ G3, x < W2.heap.size := fun x hx => by have := HR.out.2.2.2.1.lt x hx; have := (HS2.out.only [b] wr (by simp) (Only.refl _ _)).size; omega
        have ag1 : Agree wr W4 G1 := fun x hx => (HS4.out.agr HO.out.2.1.2.1 x hx).trans ((H3.out.only.block x (lt1 x hx) (fun q => HO.out.2.2.1.1 x q hx)).trans (HS2.out.agr HO.out.2.1.2.1 x hx))
        have ag2 : Agree wr W4 G2 := fun x hx => (HS4.out.agr HO.out.2.1.2.2.1 x hx).trans ((H3.out.only.block x (lt2 x hx) (fun q => HO.out.2.2.1.2.1 x q hx)).trans (HS2.out.agr HO.out.2.1.2.2.1 x hx))
        have ag3 : Agree wr W4 G3 := fun x hx => (HS4.out.agr HO.out.2.1.2.2.2 x hx).trans ((H3.out.only.block x (lt3 x hx) (fun q => HO.out.2.2.1.2.2 x q hx)).trans (HS2.out.agr HO.out.2.1.2.2.2 x hx))
        have HR4 : Hid ((RdI W4 a1 n1 y.sk.hist G1 ∧ RdI W4 a2 n2 y.sk.regs G2 ∧ RdII W4 a3 n3 y.sk.rows G3) ∧ (Own B W4 G1 ∧ Own B W4 G2 ∧ Own B W4 G3) ∧ (RdI W4 b0 (2 * l0) (marksI y2 (2 * l0)) G0 ∧ Own B W4 G0) ∧ Only (b :: G0) wr W4) := by
          refine ⟨⟨HR.out.2.1.agree ag1, HR.out.2.2.1.agree ag2, HR.out.2.2.2.1.agree ag3⟩, ⟨HO.out.1.2.1.agree ag1, HO.out.1.2.2.1.agree ag2, HO.out.1.2.2.2.agree ag3⟩, ⟨H3.out.rd.agree (HS4.out.agr HO.out.2.1.1), H3.out.own.agree (HS4.out.agr HO.out.2.1.1)⟩, ?_⟩
          have t0 := HS2.out.only (b :: G0) wr (by simp) (Only.refl _ _)
          exact HS4.out.only (b :: G0) wr (by simp) (t0.trans (H3.out.only.mono (fun x hx => by simp [hx])))
        have HC4 : Hid (∀ j v, ((#[.int .i64 z, .int .i64 (z + 1), .slice b0 l0 c0, .int .i64 y3, .int .i64 (y3 + 1), .int .i64 (y3 + 2), .int .i64 (y3 + 3), .slice a1 n1 c1, .slice a2 n2 c2, .slice a3 n3 c3] : Array Value)[j]? = some v) → W4.cell? ⟨b, off + i * 10 + j, none⟩ = some v) := by
          intro j v hv
          have up : ∀ o, (o < off + i * 10 + 3 ∨ off + i * 10 + 3 + 4 ≤ o) → W4.cell? ⟨b, o, none⟩ = W2.cell? ⟨b, o, none⟩ := fun o ho => (HS4.out.out o ho).trans (HB3.out o)
          match j, hv with
          | 0, hv => cases hv; rw [up _ (by omega)]; have := HS2.out.inn 0 (by omega); simpa using this
          | 1, hv => cases hv; rw [up _ (by omega)]; exact HS2.out.inn 1 (by omega)
          | 2, hv => cases hv; rw [up _ (by omega), HS2.out.out _ (by omega)]; exact HC.out 2 _ rfl (by decide)
          | 3, hv => cases hv; have := HS4.out.inn 0 (by omega); simpa using this
          | 4, hv => cases hv; have := HS4.out.inn 1 (by omega); rw [show off + i * 10 + 3 + 1 = off + i * 10 + 4 by omega] at this; exact this
          | 5, hv => cases hv; have := HS4.out.inn 2 (by omega); rw [show off + i * 10 + 3 + 2 = off + i * 10 + 5 by omega] at this; exact this
          | 6, hv => cases hv; have := HS4.out.inn 3 (by omega); rw [show off + i * 10 + 3 + 3 = off + i * 10 + 6 by omega] at this; exact this
          | 7, hv => cases hv; rw [up _ (by omega), HS2.out.out _ (by omega)]; exact HC.out 7 _ rfl (by decide)
          | 8, hv => cases hv; rw [up _ (by omega), HS2.out.out _ (by omega)]; exact HC.out 8 _ rfl (by decide)
          | 9, hv => cases hv; rw [up _ (by omega), HS2.out.out _ (by omega)]; exact HC.out 9 _ rfl (by decide)
          | j + 10, hv => simp at hv
        have HT4 : Hid (∀ o, (o < off + i * 10 ∨ off + (i + 1) * 10 ≤ o) → W4.cell? ⟨b, o, none⟩ = wr.cell? ⟨b, o, none⟩) := fun o ho => (HS4.out.out o (by omega)).trans ((HB3.out o).trans (HS2.out.out o (by omega)))
        have HL4 : Hid (b < W4.heap.size) := HS4.out.lt
        clear ag1 ag2 ag3 lt1 lt2 lt3 HS2 HS4 HB3 HFR HFR2 HFR3 HI2 H3
        obtain ⟨y8, hy8⟩ : ∃ t, t = y3 + 1 + 1 + 1 + 1 := ⟨_, rfl⟩
        rw [← hy8]
        have HY8 : Hid (y8 = y3 + 4) := by show _ = _; omega
        have y80 : 0 ≤ y8 := by omega
        have HM8 : Hid (y8 + n1 + n2 + sumLen y.sk.rows ≤ 1000000000000 ∧ 0 ≤ sumLen y.sk.rows) := by have := HM2.out; have := HY8.out; have := HY3.out; have := HY2.out; exact ⟨by omega, by omega⟩
        clear hy8
        refine (markIntS_any B a1 n1 c1 y.sk.hist G1 y8 W4 HR4.out.1.1 HR4.out.2.1.1 y80 (by have := HM8.out; omega)).mono ?_
        rintro e w9 ⟨rfl, m1⟩
        have H9 : Hid (MarkedI B W4 a1 n1 y8 G1 w9) := m1
        have c8 : w9.cell? ⟨b, off + i * 10 + 8, none⟩ = some (.slice a2 n2 c2) := (World.cell?_of_block (w := W4) (a := ⟨b, off + i * 10 + 8, none⟩) (m1.only.block b HL4.out HO.out.2.1.2.1)).trans (HC4.out 8 _ rfl)
        obtain ⟨y9, hy9⟩ : ∃ t, t = y8 + (n1 : Int) := ⟨_, rfl⟩
        rw [← hy9]
        have HY9 : Hid (y9 = y8 + (n1 : Int)) := hy9
        have y90 : 0 ≤ y9 := by omega
        clear hy9 m1
        go_wp2_with fail
        have q2 := H9.out.only.agree HR4.out.1.2.1.lt (fun x hx q => HO.out.2.2.2.1 x q hx)
        refine (markIntS_any B a2 n2 c2 y.sk.regs G2 y9 w9 (HR4.out.1.2.1.agree q2) (HR4.out.2.1.2.1.agree q2) y90 (by have := HM8.out; have := HY9.out; omega)).mono ?_
        rintro e w10 ⟨rfl, m2⟩
        have H10 : Hid (MarkedI B w9 a2 n2 y9 G2 w10) := m2
        have c9 : w10.cell? ⟨b, off + i * 10 + 9, none⟩ = some (.slice a3 n3 c3) := by
          have q1 := m2.only.block b (Nat.lt_of_lt_of_le HL4.out H9.out.only.size) HO.out.2.1.2.2.1
          have q2 := H9.out.only.block b HL4.out HO.out.2.1.2.1
          exact (World.cell?_of_block (w := W4) (a := ⟨b, off + i * 10 + 9, none⟩) (q1.trans q2)).trans (HC4.out 9 _ rfl)
        obtain ⟨y10, hy10⟩ : ∃ t, t = y9 + (n2 : Int) := ⟨_, rfl⟩
        rw [← hy10]
        have HY10 : Hid (y10 = y9 + (n2 : Int)) := hy10
        have y100 : 0 ≤ y10 := by omega
        clear hy10 m2 c8 q2
        go_wp2_with fail
        have q3 := H9.out.only.agree HR4.out.1.2.2.lt (fun x hx q => HO.out.2.2.2.2.1 x q hx)
        have q4 := H10.out.only.agree (fun x hx => Nat.lt_of_lt_of_le (HR4.out.1.2.2.lt x hx) H9.out.only.size) (fun x hx q => HO.out.2.2.2.2.2 x q hx)
        refine (markIntSS_any B a3 n3 c3 y.sk.rows G3 y10 w10 ((HR4.out.1.2.2.agree q3).agree q4) ((HR4.out.2.1.2.2.agree q3).agree q4) y100 (by have := HM8.out; have := HY9.out; have := HY10.out; omega) (by have := HY.out.2.1.1.rows; have := HY.out.2.2.2.2.1; omega)).mono ?_
        rintro e w11 ⟨rfl, m3⟩
        have H11 : Hid (MarkedII B w10 a3 n3 y10 y.sk.rows G3 w11) := m3
        obtain ⟨y11, hy11⟩ : ∃ t, t = y10 + sumLen y.sk.rows := ⟨_, rfl⟩
        rw [← hy11]
        have HY11 : Hid (y11 = k + ensMany (xs.take (i + 1))) := by
          show _ = _
          rw [ensMany_snoc HY.out.1]
          have h1 := HY8.out; have h2 := HY9.out; have h3 := HY10.out; have h4 := HZ.out; have h7 := HY3.out
          have h5 := HY.out.2.2.1; have h6 := HY.out.2.2.2.1; have h8 := HY.out.2.2.2.2.2
          unfold En.manyS Sk.many
          omega
        have HN : Hid (MarkingE B w b off len k xs (i + 1) F' w11) := by
          have s9 := H9.out.only.size
          have s10 := H10.out.only.size
          have q9 : ∀ x, x < W4.heap.size → x ∉ G1 → x ∉ G2 → x ∉ G3 → w11.heap[x]? = W4.heap[x]? := fun x hx g1 g2 g3 => ((H11.out.only.block x (by omega) g3).trans (H10.out.only.block x (by omega) g2)).trans (H9.out.only.block x hx g1)
          have qb := q9 b HL4.out HO.out.2.1.2.1 HO.out.2.1.2.2.1 HO.out.2.1.2.2.2
          have cb : ∀ o, w11.cell? ⟨b, o, none⟩ = W4.cell? ⟨b, o, none⟩ := fun o => World.cell?_of_block (w := W4) (a := ⟨b, o, none⟩) qb
          have lt0 : ∀ x ∈ G0, x < W4.heap.size := HR4.out.2.2.1.1.lt
          have agG0 : Agree W4 w11 G0 := fun x hx => q9 x (lt0 x hx) (HO.out.2.2.1.1 x hx) (HO.out.2.2.1.2.1 x hx) (HO.out.2.2.1.2.2 x hx)
          have ag1a := H10.out.only.agree H9.out.rd.lt HO.out.2.2.2.1
          have ag1b := H11.out.only.agree (fun x hx => Nat.lt_of_lt_of_le (H9.out.rd.lt x hx) s10) HO.out.2.2.2.2.1
          have ag2a := H11.out.only.agree H10.out.rd.lt HO.out.2.2.2.2.2
          have hl : y.ids.length = l0 := HY.out.2.2.2.2.2
          have ez : z + 2 = y2 := by have := HY2.out; omega
          have ez3 : z + 2 + 2 * (y.ids.length : Int) = y3 := by rw [hl]; have := HY3.out; omega
          have ez8 : y3 + 4 = y8 := by have := HY8.out; omega
          have R : RdE w11 (.agg #[.int .i64 z, .int .i64 (z + 1), .slice b0 l0 c0, .int .i64 y3, .int .i64 (y3 + 1), .int .i64 (y3 + 2), .int .i64 (y3 + 3), .slice a1 n1 c1, .slice a2 n2 c2, .slice a3 n3 c3]) (y.markS z) Fi := by
            rw [HR.out.2.2.2.2.1]
            refine ⟨G0, G1 ++ (G2 ++ G3), rfl, b0, l0, c0, a1, n1, c1, a2, n2, c2, a3, n3, c3, ?_, ⟨?_, ?_⟩, ⟨a1, n1, c1, a2, n2, c2, a3, n3, c3, G1, G2, G3, rfl, ?_, ?_, ?_, rfl⟩, HR.out.2.2.2.2.2.2⟩
            · unfold En.markS; simp only [ez3]
            · show (markP (z + 2) y.ids.length).length = l0
              rw [markP_length]; exact hl
            · show RdI w11 b0 (2 * l0) (flat (markP (z + 2) y.ids.length)) G0
              rw [flat_markP, hl, ez]
              exact HR4.out.2.2.1.1.agree agG0
            · show RdI w11 a1 n1 (marksI (z + 2 + 2 * (y.ids.length : Int) + 4) y.sk.hist.length) G1
              rw [ez3, ez8, HY.out.2.2.1]
              exact (H9.out.rd.agree ag1a).agree ag1b
            · show RdI w11 a2 n2 (marksI (z + 2 + 2 * (y.ids.length : Int) + 4 + y.sk.hist.length) y.sk.regs.length) G2
              rw [ez3, ez8, HY.out.2.2.1, HY.out.2.2.2.1, ← HY9.out]
              exact H10.out.rd.agree ag2a
            · show RdII w11 a3 n3 (marksII (z + 2 + 2 * (y.ids.length : Int) + 4 + y.sk.hist.length + y.sk.regs.length) y.sk.rows) G3
              rw [ez3, ez8, HY.out.2.2.1, HY.out.2.2.2.1, ← HY9.out, ← HY10.out]
              exact H11.out.rd
          refine HMi.out.step HY.out.1 HR.out.2.2.2.2.2.1 (fun {w' ds y'} q1 q2 q3 q4 q5 => HB.out (w' := w') (ds := ds) (y := y') q1 q2 q3 q4 q5) HZ.out rfl (fun j hj => ?_) R (fun o ho => (cb o).trans (HT4.out o ho)) ?_ (fun q => (World.frozen?_of_block (w := W4) (a := ⟨b, q, none⟩) qb).trans (HFR4.out q)) ?_
          · rw [cb]
            match j, hj with
            | 0, _ => exact HC4.out 0 _ rfl
            | 1, _ => exact HC4.out 1 _ rfl
            | 2, _ => exact HC4.out 2 _ rfl
            | 3, _ => exact HC4.out 3 _ rfl
            | 4, _ => exact HC4.out 4 _ rfl
            | 5, _ => exact HC4.out 5 _ rfl
            | 6, _ => exact HC4.out 6 _ rfl
            | 7, _ => exact HC4.out 7 _ rfl
            | 8, _ => exact HC4.out 8 _ rfl
            | 9, _ => exact HC4.out 9 _ rfl
          · rw [HR.out.2.2.2.2.1]
            have t0 : Only (b :: (G0 ++ (G1 ++ (G2 ++ G3)))) wr W4 := HR4.out.2.2.2.mono (fun x hx => by rcases List.mem_cons.1 hx with rfl | hx <;> simp [*])
            have t1 := t0.trans (H9.out.only.mono (fun x hx => by simp [hx]))
            have t2 := t1.trans (H10.out.only.mono (fun x hx => by simp [hx]))
            exact t2.trans (H11.out.only.mono (fun x hx => by simp [hx]))
          · rw [HR.out.2.2.2.2.1]
            have p0 := HR4.out.2.2.1.2.agree agG0
            have p1 := (H9.out.own.agree ag1a).agree ag1b
            have p2 := H10.out.own.agree ag2a
            have p3 := H11.out.own
            exact p0.app (p1.app (p2.app p3 HO.out.2.2.2.2.2) (fun x hx q => (List.mem_append.1 q).elim (HO.out.2.2.2.1 x hx) (HO.out.2.2.2.2.1 x hx))) (fun x hx q => (List.mem_append.1 q).elim (HO.out.2.2.1.1 x hx) (fun q => (List.mem_append.1 q).elim (HO.out.2.2.1.2.1 x hx) (HO.out.2.2.1.2.2 x hx)))
        clear hy11 m3 c9 q3 q4 H9 H10 H11 HR4 HC4 HT4 HL4 HFR4 HO HC HR HMi HB
        go_wp2
        go_roundw
        case rel => exact ⟨i + 1, y11, by omega, by go_num, rfl, HY11, HN⟩
        case measure => simp [intOf]; omega
      · obtain rfl : i = len := by omega
        have HE : Hid (MarkedEs B w (some ⟨b, off, none⟩) i k xs (b :: F') wr ∧ z = k + ensMany xs) := by
          have h1 := HMi.out.rd
          have hx : xs.take i = xs := List.take_of_length_le (by have := HL.out.1; omega)
          have hd : xs.drop i = [] := List.drop_of_length_le (by have := HL.out.1; omega)
          rw [hx, hd, List.append_nil] at h1
          refine ⟨⟨⟨by rw [ensMark_length]; exact HL.out.1, .inr ⟨b, off, F', hp, rfl, rfl, h1⟩⟩, HMi.out.own, HMi.out.only⟩, ?_⟩
          rw [HZ.out, hx]
        have hI : ¬ (i : Int) < (i : Int) := by omega
        go_wp2
        go_ret
        exact ⟨ret_int HE.out.2, HE.out.1⟩
set_option maxRecDepth 200000 in
set_option maxHeartbeats 8000000 in
theorem heldEntryS_any (a : Option Addr) (len cap : Nat) (xs : List En) (F : List Nat) (k : Int) (w : World) (h : RdL enK w a len (ensMark k xs) F) (hw : ∀ y ∈ xs, y.wide) (hlen : len ≤ 1048576) (hk0 : 0 ≤ k) (hk1 : k + ensMany xs ≤ 1000000000000) :
    Calls Tryz.prog 23 #[.slice a len cap, .int .i64 k] w fun e w' => e = .returned (.int .i64 (k + ensMany xs)) ∧ Below w.heap.size w w' := by
  have hxl : xs.length = len := by rw [← ensMark_length k xs]; exact h.length
  have HL : Hid (xs.length = len ∧ (∀ y ∈ xs, y.wide) ∧ RdL enK w a len (ensMark k xs) F) := ⟨hxl, hw, h⟩
  have HK1 : Hid (k + ensMany xs ≤ 1000000000000 ∧ 0 ≤ k) := ⟨hk1, hk0⟩
  clear hk1 hk0 hw h hxl
  go_enter Tryz.func23, Tryz.ntmps23
  go_wp2
  go_loopw [1, 5] (fun q i wr => ∃ (j : Nat) (z : Int), j ≤ len ∧ i = .int .i64 j ∧ q = .int .i64 z ∧ Hid (z = k + ensMany (xs.take j)) ∧ Hid (Below w.heap.size w wr)) (fun _ i _ => len - (intOf i).toNat)
  case atStart => exact ⟨0, k, by omega, rfl, rfl, by show _ = _; simp [ensMany], Below.refl _ _⟩
  case round =>
    obtain ⟨i, z, hi, rfl, rfl, HZ, HB⟩ := hrel
    by_cases hlt : i < len
    · have hI : (i : Int) < (len : Int) := by omega
      obtain ⟨y, hy⟩ : ∃ y, xs[i]? = some y := ⟨_, List.getElem?_eq_getElem (by rw [HL.out.1]; exact hlt)⟩
      obtain ⟨b, off, ha, hbF, cs, Fi, hcs, hcc, hR, _⟩ := HL.out.2.2.get i hlt
      have ha' := ha.symm
      subst ha'
      have hbw : b < w.heap.size := HL.out.2.2.lt b hbF
      have hR' := hR _ (ensMark_at hy)
      rw [← HZ.out] at hR'
      obtain ⟨G0, Gs, hFi, b0, l0, c0, a1, n1, c1, a2, n2, c2, a3, n3, c3, ecs, hp0, ⟨a1', n1', c1', a2', n2', c2', a3', n3', c3', G1, G2, G3, esk, r1, r2, r3, hG⟩, hcp⟩ := hR'
      injection ecs with ecs
      subst ecs
      injection esk with esk
      injection esk with esk
      simp at esk
      obtain ⟨⟨rfl, rfl, rfl⟩, ⟨rfl, rfl, rfl⟩, rfl, rfl, rfl⟩ := esk
      have e0 : l0 = y.ids.length := by rw [← hp0.length]; show (markP (z + 2) y.ids.length).length = _; rw [markP_length]
      obtain ⟨y3, hy3⟩ : ∃ t, t = z + 2 + 2 * (l0 : Int) := ⟨_, rfl⟩
      have e1 : n1 = y.sk.hist.length := by rw [← r1.length]; show (marksI (z + 2 + 2 * (y.ids.length : Int) + 4) y.sk.hist.length).length = _; rw [marksI_length]
      have e2 : n2 = y.sk.regs.length := by rw [← r2.length]; show (marksI (z + 2 + 2 * (y.ids.length : Int) + 4 + y.sk.hist.length) y.sk.regs.length).length = _; rw [marksI_length]
      have e3 : n3 = y.sk.rows.length := by rw [← r3.length]; show (marksII (z + 2 + 2 * (y.ids.length : Int) + 4 + y.sk.hist.length + y.sk.regs.length) y.sk.rows).length = _; rw [marksII_length]
      have r0' : RdI w b0 (2 * l0) (marksI (z + 2) (2 * l0)) G0 := by have := hp0.rd; unfold En.markS at this; simp only at this; rw [flat_markP, ← e0] at this; exact this
      have r1' : RdI w a1 n1 (marksI (y3 + 4) n1) G1 := by have := r1; unfold En.markS at this; simp only at this; rw [← e0, ← hy3, ← e1] at this; exact this
      have r2' : RdI w a2 n2 (marksI (y3 + 4 + n1) n2) G2 := by have := r2; unfold En.markS at this; simp only at this; rw [← e0, ← hy3, ← e1, ← e2] at this; exact this
      have r3' : RdII w a3 n3 (marksII (y3 + 4 + n1 + n2) y.sk.rows) G3 := by have := r3; unfold En.markS at this; simp only at this; rw [← e0, ← hy3, ← e1, ← e2] at this; exact this
      have HR : Hid (RdI w b0 (2 * l0) (marksI (z + 2) (2 * l0)) G0 ∧ RdI w a1 n1 (marksI (y3 + 4) n1) G1 ∧ RdI w a2 n2 (marksI (y3 + 4 + n1) n2) G2 ∧ RdII w a3 n3 (marksII (y3 + 4 + n1 + n2) y.sk.rows) G3) := ⟨r0', r1', r2', r3'⟩
      have HY : Hid (xs[i]? = some y ∧ y.wide ∧ n1 = y.sk.hist.length ∧ n2 = y.sk.regs.length ∧ n3 = y.sk.rows.length ∧ l0 = y.ids.length) := ⟨hy, HL.out.2.1 y (List.mem_of_getElem? hy), e1, e2, e3, e0⟩
      have hl0 : l0 ≤ 1048576 := by rw [e0]; exact (HL.out.2.1 y (List.mem_of_getElem? hy)).2
      have HY3 : Hid (y3 = z + 2 + 2 * (l0 : Int)) := hy3
      have HCC : Hid (∀ W, Below w.heap.size w W → ∀ j v, (#[.int .i64 z, .int .i64 (z + 1), .slice b0 l0 c0, .int .i64 y3, .int .i64 (y3 + 1), .int .i64 (y3 + 2), .int .i64 (y3 + 3), .slice a1 n1 c1, .slice a2 n2 c2, .slice a3 n3 c3] : Array Value)[j]? = some v → j < 10 → W.cell? ⟨b, off + i * 10 + j, none⟩ = some v) := fun W hB j v hv hj => by
        have q : W.cell? ⟨b, off + i * 10 + j, none⟩ = w.cell? ⟨b, off + i * 10 + j, none⟩ := hB.cell (p := ⟨b, off + i * 10 + j, none⟩) hbw
        have h0 : w.cell? ⟨b, off + i * 10 + j, none⟩ = _ := hcc j hj
        rw [q, ← hv, h0]
        unfold En.markS
        simp only [← e0, ← hy3]
      have HZ2 : Hid (z + y.manyS ≤ 1000000000000 ∧ 0 ≤ y.sk.many) := by
        have h1 := ensMany_snoc hy
        have h2 := ensMany_le (xs := xs) (i + 1)
        have h3 := HK1.out
        have h4 := HZ.out
        have h5 := Sk.many_nonneg y.sk
        exact ⟨by omega, h5⟩
      have z0 : 0 ≤ z := by have := HZ.out; have := HK1.out; have := ensMany_nonneg (xs.take i); omega
      have z1 : z ≤ 1000000000000 := by have := HZ2.out; have := En.manyS_nonneg y; omega
      have h0 : wr.cell? ⟨b, off + i * 10, none⟩ = some (.int .i64 z) := HCC.out wr HB.out 0 _ rfl (by decide)
      have h1 : wr.cell? ⟨b, off + i * 10 + 1, none⟩ = some (.int .i64 (z + 1)) := HCC.out wr HB.out 1 _ rfl (by decide)
      have h2 : wr.cell? ⟨b, off + i * 10 + 2, none⟩ = some (.slice b0 l0 c0) := HCC.out wr HB.out 2 _ rfl (by decide)
      clear r1 r2 r3 r0' r1' r2' r3' e0 e1 e2 e3 hG hFi hcp hp0 hR hcc hcs hy ha hbF hbw hy3
      go_wp2_with fail
      obtain ⟨y2, hy2⟩ : ∃ t, t = z + 1 + 1 := ⟨_, rfl⟩
      rw [← hy2]
      have HY2 : Hid (y2 = z + 2) := by show _ = _; omega
      have y20 : 0 ≤ y2 := by omega
      have HM2 : Hid (y2 + 2 * (l0 : Int) + 4 + n1 + n2 + sumLen y.sk.rows ≤ 1000000000000 ∧ 0 ≤ sumLen y.sk.rows) := by
        have h1 := HZ2.out.1
        have h2 := HY2.out
        unfold En.manyS Sk.many at h1
        have h3 := HY.out.2.2.1
        have h4 := HY.out.2.2.2.1
        have h6 := HY.out.2.2.2.2.2
        have h5 := sumLen_nonneg y.sk.rows
        exact ⟨by omega, h5⟩
      clear hy2 z1 h0 h1 h2
      refine (heldSpanS_any b0 l0 c0 G0 y2 wr (by rw [HY2.out]; exact HR.out.1.below HB.out) y20 (by have := HM2.out; omega)).mono ?_
      rintro e w3 ⟨rfl, hb3⟩
      have HB3 : Hid (Below w.heap.size w w3) := Below.next HB.out hb3
      obtain ⟨y3', hy3'⟩ : ∃ t, t = y2 + 2 * (l0 : Int) := ⟨_, rfl⟩
      rw [← hy3']
      have ey : y3' = y3 := by have := HY3.out; have := HY2.out; omega
      clear hy3' hb3
      subst ey
      have y30 : 0 ≤ y3' := by have := HY3.out; omega
      have y3n : decide (y3' < 0) = false := dec_false (by omega)
      have y31 : y3' ≤ 1000000000000 := by have := HM2.out; have := HY3.out; have := HY2.out; omega
      have g3 : w3.cell? ⟨b, off + i * 10 + 3, none⟩ = some (.int .i64 y3') := HCC.out w3 HB3.out 3 _ rfl (by decide)
      have g4 : w3.cell? ⟨b, off + i * 10 + 4, none⟩ = some (.int .i64 (y3' + 1)) := HCC.out w3 HB3.out 4 _ rfl (by decide)
      have g5 : w3.cell? ⟨b, off + i * 10 + 5, none⟩ = some (.int .i64 (y3' + 1 + 1)) := (HCC.out w3 HB3.out 5 _ rfl (by decide)).trans (by show some (Value.int .i64 (y3' + 2)) = _; rw [show (y3' + 1 + 1 : Int) = y3' + 2 from by omega])
      have g6 : w3.cell? ⟨b, off + i * 10 + 6, none⟩ = some (.int .i64 (y3' + 1 + 1 + 1)) := (HCC.out w3 HB3.out 6 _ rfl (by decide)).trans (by show some (Value.int .i64 (y3' + 3)) = _; rw [show (y3' + 1 + 1 + 1 : Int) = y3' + 3 from by omega])
      have g7 : w3.cell? ⟨b, off + i * 10 + 7, none⟩ = some (.slice a1 n1 c1) := HCC.out w3 HB3.out 7 _ rfl (by decide)
      go_wp2_with fail
      obtain ⟨y8, hy8⟩ : ∃ t, t = y3' + 1 + 1 + 1 + 1 := ⟨_, rfl⟩
      rw [← hy8]
      have HY8 : Hid (y8 = y3' + 4) := by show _ = _; omega
      have y80 : 0 ≤ y8 := by omega
      have HM8 : Hid (y8 + n1 + n2 + sumLen y.sk.rows ≤ 1000000000000 ∧ 0 ≤ sumLen y.sk.rows) := by have := HM2.out; have := HY8.out; have := HY3.out; have := HY2.out; exact ⟨by omega, by omega⟩
      clear hy8 g3 g4 g5 g6 g7 y3n y31
      refine (heldIntS_any a1 n1 c1 G1 y8 w3 (by rw [HY8.out]; exact HR.out.2.1.below HB3.out) y80 (by have := HM8.out; omega)).mono ?_
      rintro e w9 ⟨rfl, hb9⟩
      have HB9 : Hid (Below w.heap.size w w9) := Below.next HB3.out hb9
      have c8 := HCC.out w9 HB9.out 8 _ rfl (by decide)
      obtain ⟨y9, hy9⟩ : ∃ t, t = y8 + (n1 : Int) := ⟨_, rfl⟩
      rw [← hy9]
      have HY9 : Hid (y9 = y8 + (n1 : Int)) := hy9
      have y90 : 0 ≤ y9 := by omega
      have y9n : decide (y9 < 0) = false := dec_false (by omega)
      clear hy9 hb9
      go_wp2_with fail
      refine (heldIntS_any a2 n2 c2 G2 y9 w9 (by rw [HY9.out, HY8.out]; exact HR.out.2.2.1.below HB9.out) y90 (by have := HM8.out; have := HY9.out; omega)).mono ?_
      rintro e w10 ⟨rfl, hb10⟩
      have HB10 : Hid (Below w.heap.size w w10) := Below.next HB9.out hb10
      have c9 := HCC.out w10 HB10.out 9 _ rfl (by decide)
      obtain ⟨y10, hy10⟩ : ∃ t, t = y9 + (n2 : Int) := ⟨_, rfl⟩
      rw [← hy10]
      have HY10 : Hid (y10 = y9 + (n2 : Int)) := hy10
      have y100 : 0 ≤ y10 := by omega
      have y10n : decide (y10 < 0) = false := dec_false (by omega)
      clear hy10 hb10 c8
      go_wp2_with fail
      refine (heldIntSS_any a3 n3 c3 y.sk.rows G3 y10 w10 (by rw [HY10.out, HY9.out, HY8.out]; exact HR.out.2.2.2.below HB10.out) y100 (by have := HM8.out; have := HY9.out; have := HY10.out; omega) (by have := HY.out.2.1.1.rows; have := HY.out.2.2.2.2.1; omega)).mono ?_
      rintro e w11 ⟨rfl, hb11⟩
      have HB11 : Hid (Below w.heap.size w w11) := Below.next HB10.out hb11
      obtain ⟨y11, hy11⟩ : ∃ t, t = y10 + sumLen y.sk.rows := ⟨_, rfl⟩
      rw [← hy11]
      have HY11 : Hid (y11 = k + ensMany (xs.take (i + 1))) := by
        show _ = _
        rw [ensMany_snoc HY.out.1]
        have h1 := HY8.out; have h2 := HY9.out; have h3 := HY10.out; have h4 := HZ.out; have h7 := HY3.out
        have h5 := HY.out.2.2.1; have h6 := HY.out.2.2.2.1; have h8 := HY.out.2.2.2.2.2
        unfold En.manyS Sk.many
        omega
      have y110 : 0 ≤ y11 := by have := HM8.out; omega
      have y11n : decide (y11 < 0) = false := dec_false (by omega)
      clear hy11 hb11 c9
      go_wp2
      go_roundw
      case rel => exact ⟨i + 1, y11, by omega, by go_num, rfl, HY11, HB11⟩
      case measure => simp [intOf]; omega
    · obtain rfl : i = len := by omega
      have HV : Hid (z = k + ensMany xs) := by show _ = _; rw [HZ.out, List.take_of_length_le (by have := HL.out.1; omega)]
      have hI : ¬ (i : Int) < (i : Int) := by omega
      go_wp2
      go_ret
      exact ⟨ret_int HV.out, HB.out⟩
end Go.Proofs.YtjnamoppcklomaaGreat
/- Rows that came in, that are marked; a row in a variable of the law's own. No statement of the seat is proved here. -/
namespace Go.Proofs.YtjnamoppcklomaaGreat
open Go.RowKit Go.WideShapes Go.ChangeShapes Go.ChangeAt Go.Deep
def Rw.many (x : Rw) : Int := ensMany x.list
def Rw.marked (k : Int) (x : Rw) : Rw := ⟨ensMark k x.list⟩
theorem Rw.many_nonneg (x : Rw) : 0 ≤ x.many := ensMany_nonneg _
theorem ensMany_size : ∀ xs : List En, ensMany xs ≤ 6 * xs.length + 2 * ensSize xs
  | [] => by simp [ensMany, ensSize, sumOfL]
  | y :: xs => by
    have h := ensMany_size xs
    have h0 := sumLen_nonneg y.sk.rows
    have h1 : y.sk.many ≤ y.sk.size := by unfold Sk.size Sk.many; omega
    have h2 := Sk.many_nonneg y.sk
    unfold ensSize at h ⊢
    simp only [ensMany, sumOfL, List.length_cons, En.manyS, En.wt]
    unfold En.wt at h
    omega
theorem Rw.fits.many {x : Rw} (h : x.fits) : x.many ≤ 8388608 := by
  have h1 := ensMany_size x.list
  have h2 := ensSize_nonneg x.list
  unfold Rw.fits Rw.size at h
  unfold Rw.many
  omega
structure MarkedRw (B : Nat) (w : World) (v : Value) (k : Int) (x : Rw) (F : List Nat) (w' : World) : Prop where
  rd : RdRw w' v (x.marked k) F
  own : Own B w' F
  only : Only F w w'
set_option maxRecDepth 100000 in
set_option maxHeartbeats 1000000 in
theorem open_Rw {H : Type} {enc : TypeId × Value → H} {W : World} {base : Nat} {v : Value} {d : DataW H} {p : List MemPlace} (hv : Value.okWide Tryz.prog W .any base 48 v) (h : DataW.Trod enc Tryz.prog W 0 (fun _ => true) true 48 v d p) :
    ∃ x F, RdRw W v x F ∧ x.vast := by
  obtain ⟨cs, rfl, hsz⟩ := okWide_struct Tryz.underlying48 hv
  have hC : Tryz.prog.cellsOf 48 = 1 := by kernel_rfl
  have c4 : Tryz.prog.cellsOf 46 = 1 := by kernel_rfl
  rw [hC] at hsz
  obtain ⟨l⟩ := cs
  match l, hsz with
  | [e0], _ =>
    obtain ⟨fuel, hf⟩ := h
    obtain ⟨xs, n, _, _, _, hlen, hx⟩ := DataW.trod_struct Tryz.underlying48 hf
    match xs, hlen with
    | [y0], _ =>
      have g0 := hx 0 _ rfl
      simp [Value.cells, c4] at g0
      clear hx
      obtain ⟨a, len, cap, xs, F, rfl, hp, hb, hcp, hv⟩ := open_ens g0
      exact ⟨⟨xs⟩, F, ⟨a, len, cap, rfl, hp, hcp⟩, hv, by show xs.length ≤ _; rw [hp.length]; exact hb⟩
set_option maxRecDepth 200000 in
set_option maxHeartbeats 1000000 in
theorem markRw_any (B : Nat) (v : Value) (x : Rw) (F : List Nat) (k : Int) (w : World) (h : RdRw w v x F) (ho : Own B w F) (hw : x.wide) (hk0 : 0 ≤ k) (hk1 : k + x.many ≤ 1000000000000) :
    Calls Tryz.prog 21 #[v, .int .i64 k] w fun e w' => e = .returned (.int .i64 (k + x.many)) ∧ MarkedRw B w v k x F w' := by
  obtain ⟨a, n, c, rfl, hL, hc⟩ := h
  have HM : Hid (x.many = ensMany x.list ∧ k + x.many ≤ 1000000000000 ∧ ∀ y ∈ x.list, y.wide) := ⟨rfl, hk1, hw.1⟩
  have hl : n ≤ 1048576 := by rw [← hL.length]; exact hw.2
  have HCP : Hid (Capd a n c) := hc
  have HB : Hid (Below w.heap.size w (w.alloc (.cells #[.slice a n c] 26)) ∧ Blk (w.alloc (.cells #[.slice a n c] 26)) w.heap.size #[.slice a n c] 26) := ⟨Below.allocW _ (Below.refl _ _) (Nat.le_refl _), Blk.made _ _ _⟩
  have HR : Hid (RdL enK w a n x.list F ∧ Own B w F) := ⟨hL, ho⟩
  clear hL ho hw hk1 hc
  go_enter Tryz.func21, Tryz.ntmps21
  go_wp2_with fail
  refine (markEntryS_any B a n c x.list F k _ (HR.out.1.below HB.out.1) (HR.out.2.below HR.out.1.lt HB.out.1) HM.out.2.2 hl hk0 (by have := HM.out; omega)).mono ?_
  rintro e w2 ⟨rfl, m2⟩
  have H2 : Hid (MarkedEs B (w.alloc (.cells #[.slice a n c] 26)) a n k x.list F w2) := m2
  clear m2
  obtain ⟨y2, hy2⟩ : ∃ y, y = k + ensMany x.list := ⟨_, rfl⟩
  rw [← hy2]
  have HY2 : Hid (y2 = k + ensMany x.list) := hy2
  clear hy2
  go_wp2
  go_ret
  exact ⟨ret_int (by have := HM.out; have := HY2.out; omega), ⟨⟨a, n, c, rfl, H2.out.rd, HCP.out⟩, H2.out.own, (Only.of_below HB.out.1).trans H2.out.only⟩⟩
structure VarRw (W : World) (lo hi g : Nat) (cs : Array Value) (s : Rw) (F : List Nat) : Prop where
  blk : Blk W g cs 26
  rd : RdRw W (.agg cs) s F
  sz : cs.size = 1
  own : Own lo W F
  lt : ∀ b ∈ F, b < hi
  ge : lo ≤ g
  glt : g < hi
  apart : g ∉ F
theorem VarRw.below {W W' : World} {lo hi g : Nat} {cs : Array Value} {s : Rw} {F : List Nat} (h : VarRw W lo hi g cs s F) (b : Below W.heap.size W W') : VarRw W' lo hi g cs s F :=
  ⟨h.blk.below b, h.rd.below b, h.sz, h.own.below h.rd.lt b, h.lt, h.ge, h.glt, h.apart⟩
theorem VarRw.fresh {w0 w1 W : World} {cs : Array Value} {s : Rw} {F : List Nat} (r : RdRw w1 (.agg cs) s F) (o : Own w0.heap.size w1 F) (b : Below w0.heap.size w0 w1) (sz : cs.size = 1) (k : Blk W w1.heap.size cs 26) (b2 : Below w1.heap.size w1 W) : VarRw W w0.heap.size W.heap.size w1.heap.size cs s F :=
  ⟨k, r.below b2, sz, o.below r.lt b2, fun x hx => by have := r.lt x hx; have := b2.size; omega, b.size, k.lt, fun hx => by have := r.lt _ hx; omega⟩
theorem VarRw.only {W W' : World} {lo hi g lo' hi' g' : Nat} {cs ds : Array Value} {s t : Rw} {F G : List Nat} (h : VarRw W lo hi g cs s F) (k : VarRw W lo' hi' g' ds t G) (o : Only G W W') (hd : hi ≤ lo' ∨ hi' ≤ lo) : VarRw W' lo hi g cs s F := by
  have d : ∀ b ∈ F, b ∉ G := fun b hb hg => by have := h.lt b hb; have := h.own.ge b hb; have := k.lt b hg; have := k.own.ge b hg; omega
  have e : g ∉ G := fun hg => by have := h.ge; have := h.glt; have := k.lt g hg; have := k.own.ge g hg; omega
  exact ⟨h.blk.agree (o.block g h.blk.lt e), h.rd.agree (o.agree h.rd.lt d), h.sz, h.own.agree (o.agree h.rd.lt d), h.lt, h.ge, h.glt, h.apart⟩
theorem VarRw.bel {w W W' : World} {lo' hi' g' : Nat} {ds : Array Value} {t : Rw} {G : List Nat} (k : VarRw W lo' hi' g' ds t G) (o : Only G W W') (h : Below w.heap.size w W) (hb : w.heap.size ≤ lo') : Below w.heap.size w W' :=
  o.below h h.size (fun b hg => by have := k.own.ge b hg; omega)
theorem VarRw.mark {W W' : World} {lo hi g : Nat} {cs : Array Value} {s : Rw} {F : List Nat} {k : Int} (h : VarRw W lo hi g cs s F) (m : MarkedRw lo W (.agg cs) k s F W') : VarRw W' lo hi g cs (s.marked k) F :=
  ⟨h.blk.agree (m.only.block g h.blk.lt h.apart), m.rd, h.sz, m.own, h.lt, h.ge, h.glt, h.apart⟩
end Go.Proofs.YtjnamoppcklomaaGreat
/- What the sums of a row that fits come to: each is wide, they are few, and their marks are. No statement of the seat is proved here. -/
namespace Go.Proofs.YtjnamoppcklomaaGreat
open Go.RowKit
theorem ensMany_perm {xs ys : List En} (p : xs.Perm ys) : ensMany xs = ensMany ys := by
  induction p with
  | nil => rfl
  | cons x _ ih => simp only [ensMany, ih]
  | swap x y l => simp only [ensMany]; omega
  | trans _ _ h k => exact h.trans k
theorem Rw.sums_fine {x : Rw} (h : x.fits) : (∀ y ∈ x.sums, y.wide) ∧ x.sums.length ≤ 24 ∧ 0 ≤ ensMany x.sums ∧ ensMany x.sums ≤ 2097296 := by
  unfold Rw.sums
  by_cases hok : x.ok = true
  · rw [if_pos hok]
    obtain ⟨_, h2, h3, h4, _, h6⟩ := sums_at hok h x.list.length
    rw [List.take_length] at h2 h3 h4 h6
    refine ⟨fun y hy => (h2 y hy).2.wide, h3, ensMany_nonneg _, ?_⟩
    have h7 := ensMany_perm h4
    have h8 := ensMany_size (sumP [] x.list)
    have h9 := h4.length_eq
    omega
  · rw [if_neg hok]; simp [ensMany]
theorem NewEs.parts {w w' : World} {e : Ending} {xs : List En} (h : NewEs w xs e w') : ∃ (a : Option Addr) (k : Nat) (Y : List Nat), e = .returned (.slice a xs.length k) ∧ RdL enK w' a xs.length xs Y ∧ Own w.heap.size w' Y ∧ Below w.heap.size w w' := by
  obtain ⟨q, k, lo, vs, GG, he, hg, hl, hb⟩ := h
  obtain ⟨a, cap, Y, hv, ry, oy, _⟩ := hg.done rfl
  injection hv with h1 h2 h3
  subst h1
  exact ⟨q, k, Y, he, ry, oy.mono hl, hb⟩
end Go.Proofs.YtjnamoppcklomaaGreat
