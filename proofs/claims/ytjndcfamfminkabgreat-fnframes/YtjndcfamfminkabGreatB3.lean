/- Several texts of mine, laid together. No statement of the seat is proved here. -/
import Derived.Test.YtjndcfamfminkabGreatB2
import Derived.Test.YtjndcfamfminkabGreatB1
import Derived.Test.YtjndcfamfminkabGreatSkOk
import Derived.ArgAppend
import Derived.Deep.DeepCutAuto
import Derived.WalkMore
import Derived.ScopeJumps
import Derived.Test.YtjndcfamfminkabGreatTallyB
import Derived.Test.YtjndcfamfminkabGreatTallyC
import Derived.Test.YtjndcfamfminkabGreatTallyMath
import Derived.Test.YtjndcfamfminkabGreatTallyS
import Derived.Test.YtjndcfamfminkabGreatSkLaw
import Derived.Test.YtjndcfamfminkabGreatItModel
/- The walks through the program's numbers, bytesOfNumbers and SketchBytes. No statement of the seat is proved here. -/
namespace Go.Proofs.YtjndcfamfminkabGreat
open Go.RowKit
section
variable {P : Program} {ops : Array Oper} {Q : Exit → Act → World → Prop} {a : Act} {w : World} {o : Oper} {K : Act → World → Prop}
/-- An append that is a region's only one that may come up. -/
theorem op_append7 (s x : Operand) (t : TypeId) (hw : Region.wanted o (yielded ops a.tmps) = true) (ho : o.op = .call { callee := .builtin .append, args := #[s, x], argTypes := #[t, t] })
    (base : Nat) (e : TypeId) (i : TypeInfo) (z : Value) (size bytes : Nat) (ht : P.underlying t = some (.slice e)) (hi : P.info? e = some i) (hz : i.zero = some z)
    (hsize : i.size = size) (hby : i.bytes = bytes) (hzs : z.cells.size = size) (hsz : 0 < size)
    (v : Value) (n : Nat) (xs : List Value) (hs : a.eval s = v) (hown : w.ownsRow base e size v n xs)
    (ad : Addr) (m c : Nat) (news : List Value) (hx : a.eval x = .slice (some ad) m c) (hl : news.length = m * size) (hnews : ∀ j u, news[j]? = some u → w.cell? (ad.add j) = some u) (h1 : ∀ u ∈ news, u.oneCell' = true)
    (h63 : n + m ≤ maxLen) (hbytes : (n + m) * bytes ≤ 140737488355328) (hbase : base ≤ w.heap.size)
    (h : ∀ v' w', w'.ownsRow base e size v' (n + m) (xs ++ news) → w.grownBy w' v.ownBlock → ∃ a', a.put o.dst v' = a' ∧ K a' w') : if Region.wanted o (yielded ops a.tmps) = true then Oper.wp P o a w K Q else K (a.put o.dst undef) w := by
  rw [if_pos hw]
  refine wp_append_own w s x t ho base e i z size bytes ht hi hz hsize hby hzs hsz v n xs hs hown ad m c news hx hl hnews h1 h63 hbytes hbase ?_
  intro v' w' h2 h3 _
  obtain ⟨_, rfl, h4⟩ := h v' w' h2 h3
  exact h4
end
theorem nums_rows {ys : List Int} (h : ys.length = 28) : [ys.getD 0 0, ys.getD 1 0, ys.getD 2 0, ys.getD 3 0] ++ (ys.drop 4).take 8 ++ (ys.drop 12).take 8 ++ (ys.drop 20).take 4 ++ (ys.drop 24).take 4 = ys := by
  have e := skOf_nums h
  unfold Sk.nums skOf at e
  simpa using e
theorem NumSt.below {w W W' : World} {cs : Array Value} {t : TypeId} {v : Value} {xs : List Int} (h : NumSt w cs t v xs W) (hb : Below W.heap.size W W') : NumSt w cs t v xs W' := ⟨h.box.below hb, ownsRow_below h.own hb, Below.next h.bel hb⟩
set_option maxRecDepth 200000 in
set_option maxHeartbeats 4000000 in
theorem numbers_any (ys : List Int) (w : World) (hy : ys.length = 28) :
    Calls Tryz.prog 44 #[.agg (tc ys)] w fun e w' => ∃ u, e = .returned u ∧ w'.ownsRow w.heap.size 3 1 u ys.length (ys.map (Value.int .i64)) ∧ Below w.heap.size w w' := by
  obtain ⟨i0, hi, hz0, hz1, hz2⟩ := info_parts infoInt
  have HL : Hid (ys.length = 28) := hy
  obtain ⟨x0, hx0⟩ : ∃ x, x = ys.getD 0 0 := ⟨_, rfl⟩
  obtain ⟨x1, hx1⟩ : ∃ x, x = ys.getD 1 0 := ⟨_, rfl⟩
  obtain ⟨x2, hx2⟩ : ∃ x, x = ys.getD 2 0 := ⟨_, rfl⟩
  obtain ⟨x3, hx3⟩ : ∃ x, x = ys.getD 3 0 := ⟨_, rfl⟩
  have HX : Hid (x0 = ys.getD 0 0 ∧ x1 = ys.getD 1 0 ∧ x2 = ys.getD 2 0 ∧ x3 = ys.getD 3 0) := ⟨hx0, hx1, hx2, hx3⟩
  have b0 : Blk (w.alloc (.cells (tc ys) 75)) w.heap.size (tc ys) 75 := Blk.made _ _ _
  have c0 : (w.alloc (.cells (tc ys) 75)).cell? ⟨w.heap.size, 0, none⟩ = some (.int .i64 x0) := by rw [b0.cell, hx0]; exact tc_get (by omega)
  have c1 : (w.alloc (.cells (tc ys) 75)).cell? ⟨w.heap.size, 1, none⟩ = some (.int .i64 x1) := by rw [b0.cell, hx1]; exact tc_get (by omega)
  have c2 : (w.alloc (.cells (tc ys) 75)).cell? ⟨w.heap.size, 2, none⟩ = some (.int .i64 x2) := by rw [b0.cell, hx2]; exact tc_get (by omega)
  have c3 : (w.alloc (.cells (tc ys) 75)).cell? ⟨w.heap.size, 3, none⟩ = some (.int .i64 x3) := by rw [b0.cell, hx3]; exact tc_get (by omega)
  have HS0 : Hid (NumSt w (tc ys) 75 (.slice (some ⟨w.heap.size + 1, 0, none⟩) 4 4) [x0, x1, x2, x3] ((w.alloc (.cells (tc ys) 75)).alloc (.cells #[.int .i64 x0, .int .i64 x1, .int .i64 x2, .int .i64 x3] 3))) := by
    have m := two_made w (tc ys) #[.int .i64 x0, .int .i64 x1, .int .i64 x2, .int .i64 x3] 75 3
    have o := World.ownsRow_lit (base := w.heap.size + 1) (e := 3) (size := 1) (w.alloc (.cells (tc ys) 75)) #[.int .i64 x0, .int .i64 x1, .int .i64 x2, .int .i64 x3] 4 (by simp) (by unfold maxLen; omega) rfl
    have e : (w.alloc (.cells (tc ys) 75)).heap.size = w.heap.size + 1 := by simp
    rw [e] at o
    exact ⟨m.1, o, m.2.2⟩
  clear hx0 hx1 hx2 hx3 hy b0
  go_enter Tryz.func44, Tryz.ntmps44
  go_wp2
  clear c0 c1 c2 c3
  obtain ⟨W0, hW0⟩ : ∃ W0, W0 = (w.alloc (.cells (tc ys) 75)).alloc (.cells #[.int .i64 x0, .int .i64 x1, .int .i64 x2, .int .i64 x3] 3) := ⟨_, rfl⟩
  rw [← hW0] at HS0 ⊢
  clear hW0
  have HS : Hid (NumSt w (tc ys) 75 (.slice (some ⟨w.heap.size + 1, 0, none⟩) 4 4) [x0, x1, x2, x3] W0.drew) := ⟨HS0.out.box.drew, HS0.out.own, HS0.out.bel.drew⟩
  clear HS0
  refine wp_region_held (S := fun _ => True) (by kernel_rfl) ?_
  change wpAnyH _ _ _ _ _ _ _ _ (World.drew _)
  refine takeH (o := ?o1) 0 (.slice (some ⟨w.heap.size + 1, 0, none⟩) 4 4) ?h1 ?r1
  case h1 => simp only [aT, aZ]; rfl
  refine ⟨_, by simp [Act.put]; rfl, by kernel_rfl, by kernel_rfl, by kernel_rfl, fun _ _ _ h => h, (.inl ⟨rfl, fun W _ => by go_simp⟩), trivial, ?_⟩
  refine takeH (o := ?o2) 1 (.pointer (some ⟨w.heap.size, 4, none⟩)) ?h2 ?r2
  case h2 => simp only [aT, aS, aZ]; rfl
  refine ⟨_, by simp [Act.put]; rfl, by kernel_rfl, by kernel_rfl, by kernel_rfl, fun _ _ _ h => h, (.inl ⟨rfl, fun W _ => by go_simp⟩), trivial, ?_⟩
  refine takeH (o := ?o3) 2 (.slice (some ⟨w.heap.size, 4, none⟩) 8 8) ?h3 ?r3
  case h3 => simp only [aT, aS, aZ]; rfl
  refine ⟨_, by simp [Act.put]; rfl, by kernel_rfl, by kernel_rfl, by kernel_rfl, fun _ _ _ h => h, (.inl ⟨rfl, fun W _ => by go_simp⟩), trivial, ?_⟩
  refine takeH (o := ?o4) 4 (.pointer (some ⟨w.heap.size, 12, none⟩)) ?h4 ?r4
  case h4 => simp only [aT, aS, aZ]; rfl
  refine ⟨_, by simp [Act.put]; rfl, by kernel_rfl, by kernel_rfl, by kernel_rfl, fun _ _ _ h => h, (.inl ⟨rfl, fun W _ => by go_simp⟩), trivial, ?_⟩
  refine takeH (o := ?o5) 5 (.slice (some ⟨w.heap.size, 12, none⟩) 8 8) ?h5 ?r5
  case h5 => simp only [aT, aS, aZ]; rfl
  refine ⟨_, by simp [Act.put]; rfl, by kernel_rfl, by kernel_rfl, by kernel_rfl, fun _ _ _ h => h, (.inl ⟨rfl, fun W _ => by go_simp⟩), trivial, ?_⟩
  refine onlyH (o := ?o6) 3 (by kernel_rfl) ?h6 ?r6
  case h6 => simp only [aT, aS, aZ]; rfl
  intro K hK
  refine op_append7 _ _ 25 rfl rfl (w.heap.size + 1) 3 i0 (.int .i64 0) 1 8 Tryz.underlying25 hi hz0 hz1 hz2 rfl (by decide) _ _ _ rfl HS.out.own ⟨w.heap.size, 4, none⟩ 8 8 (((ys.drop 4).take 8).map (Value.int .i64)) rfl (by have := HL.out; simp; omega) ((rdI_tc HS.out.box (by have := HL.out; omega) (by omega)).from (Below.refl _ _) (by omega)) (ints_one _) (by unfold maxLen; simp) (by simp) HS.out.size ?_
  intro v1 w1 hown hgrow
  have HS1 : Hid (NumSt w _ _ v1 _ w1) := HS.out.app (by have := HL.out; simp; omega) hown hgrow
  clear hown hgrow HS
  refine ⟨_, by simp [Act.put]; rfl, hK _ _ ⟨trivial, ?_⟩⟩
  clear hK
  refine onlyH (o := ?o7) 6 (by kernel_rfl) ?h7 ?r7
  case h7 => simp only [aT, aS, aZ]; rfl
  intro K hK
  refine op_append7 _ _ 25 rfl rfl (w.heap.size + 1) 3 i0 (.int .i64 0) 1 8 Tryz.underlying25 hi hz0 hz1 hz2 rfl (by decide) _ _ _ rfl HS1.out.own ⟨w.heap.size, 12, none⟩ 8 8 (((ys.drop 12).take 8).map (Value.int .i64)) rfl (by have := HL.out; simp; omega) ((rdI_tc HS1.out.box (by have := HL.out; omega) (by omega)).from (Below.refl _ _) (by omega)) (ints_one _) (by have := HL.out; unfold maxLen; simp; omega) (by have := HL.out; simp; omega) HS1.out.size ?_
  intro v2 w2 hown hgrow
  have HS2 : Hid (NumSt w _ _ v2 _ w2) := HS1.out.app (by have := HL.out; simp; omega) hown hgrow
  clear hown hgrow HS1
  refine ⟨_, by simp [Act.put]; rfl, hK _ _ ⟨trivial, ?_⟩⟩
  clear hK
  refine onlyH (o := ?o8) 7 (by kernel_rfl) ?h8 ?r8
  case h8 => simp only [aT, aS, aZ]; rfl
  intro K hK
  refine op_value v2 rfl (by go_simp) ⟨_, by simp [Act.put]; rfl, hK _ _ ⟨trivial, ?_⟩⟩
  clear hK
  refine wpAnyH_done (by kernel_rfl) ?_ _
  go_wp2_with (first | go_skip | (with_reducible refine stopLoad 73 rfl ?_))
  refine load_part 73 w.heap.size 20 8 ys 75 _ HS2.out.box rfl rfl rfl Tryz.underlying73 rfl (by kernel_rfl) (by rw [HL.out]; omega) ?_
  obtain ⟨A, hA⟩ : ∃ A, A = (ys.drop 20).take 8 := ⟨_, rfl⟩
  rw [← hA]
  obtain ⟨R0, hR0⟩ : ∃ A, A = (ys.drop 20).take 4 := ⟨_, rfl⟩
  obtain ⟨R1, hR1⟩ : ∃ A, A = (ys.drop 24).take 4 := ⟨_, rfl⟩
  have HRE : Hid (R0 = (ys.drop 20).take 4 ∧ R1 = (ys.drop 24).take 4) := ⟨hR0, hR1⟩
  have HRL : Hid (R0.length = 4 ∧ R1.length = 4) := ⟨by rw [hR0]; simp; have := HL.out; omega, by rw [hR1]; simp; have := HL.out; omega⟩
  have j0 : ∀ w, (Instr.index 73 (.agg (tc A)) (.int .i64 0)).run Tryz.prog w = .ok (.agg (tc R0)) w := fun w => by
    rw [run_index_row w 73 72 3 A 0 0 rfl (by omega) Tryz.underlying73 Tryz.underlying72 (fun _ => by simp), hA, hR0]
    simp [List.take_take]
  have j1 : ∀ w, (Instr.index 73 (.agg (tc A)) (.int .i64 1)).run Tryz.prog w = .ok (.agg (tc R1)) w := fun w => by
    rw [run_index_row w 73 72 3 A 1 1 rfl (by omega) Tryz.underlying73 Tryz.underlying72 (fun _ => by simp), hA, hR1]
    rw [List.drop_take, List.drop_drop, List.take_take]
    rfl
  clear hA hR0 hR1
  go_wp2
  refine wp_loop_rounds 3 ?_
  rw [rounds_succ]
  go_wp2_with (first | (with_reducible refine stopStore 72 rfl ?_))
  refine store_fresh 72 w2.heap.size rfl (tc (List.replicate 4 0)) (tc R0) 72 rfl rfl rfl rfl (by rw [tc_size, HRL.out.1]; kernel_rfl) (by rw [tc_size, tc_size, HRL.out.1]; rfl) (tc_one _) ?_
  intro W3 hg0 hb0
  have HS3 : Hid (NumSt w _ _ v2 _ W3) := HS2.out.below hb0
  have HG0 : Hid (Blk W3 _ (tc R0) 72) := hg0
  clear hg0 hb0 HS2
  go_wp2_with (with_reducible refine stopAppend rfl ?_)
  refine Stop.intro (wpList_append_own _ rfl _ _ 25 rfl (w.heap.size + 1) 3 i0 (.int .i64 0) 1 8 Tryz.underlying25 hi hz0 hz1 hz2 rfl (by decide) _ _ _ rfl HS3.out.own ⟨w2.heap.size, 0, none⟩ 4 4 (R0.map (Value.int .i64)) rfl (by simp [HRL.out.1]) ((rdI_tc0 HG0.out HRL.out.1 (by omega)).from (Below.refl _ _) (by omega)) (ints_one _) (by have := HL.out; unfold maxLen; simp; omega) (by have := HL.out; simp; omega) HS3.out.size ?_)
  intro v4 w4 hown hgrow _
  have HS4 : Hid (NumSt w _ _ v4 _ w4) := HS3.out.app HRL.out.1 hown hgrow
  clear hown hgrow HS3 HG0
  go_wp2_with fail
  rw [rounds_succ]
  go_wp2_with (first | (with_reducible refine stopStore 72 rfl ?_))
  refine store_fresh 72 w4.heap.size rfl (tc (List.replicate 4 0)) (tc R1) 72 rfl rfl rfl rfl (by rw [tc_size, HRL.out.2]; kernel_rfl) (by rw [tc_size, tc_size, HRL.out.2]; rfl) (tc_one _) ?_
  intro W5 hg1 hb1
  have HS5 : Hid (NumSt w _ _ v4 _ W5) := HS4.out.below hb1
  have HG1 : Hid (Blk W5 _ (tc R1) 72) := hg1
  clear hg1 hb1 HS4
  go_wp2_with (with_reducible refine stopAppend rfl ?_)
  refine Stop.intro (wpList_append_own _ rfl _ _ 25 rfl (w.heap.size + 1) 3 i0 (.int .i64 0) 1 8 Tryz.underlying25 hi hz0 hz1 hz2 rfl (by decide) _ _ _ rfl HS5.out.own ⟨w4.heap.size, 0, none⟩ 4 4 (R1.map (Value.int .i64)) rfl (by simp [HRL.out.2]) ((rdI_tc0 HG1.out HRL.out.2 (by omega)).from (Below.refl _ _) (by omega)) (ints_one _) (by have := HL.out; have := HRL.out; unfold maxLen; simp; omega) (by have := HL.out; have := HRL.out; simp; omega) HS5.out.size ?_)
  intro v6 w6 hown hgrow _
  have HS6 : Hid (NumSt w _ _ v6 _ w6) := HS5.out.app HRL.out.2 hown hgrow
  clear hown hgrow HS5 HG1
  go_wp2_with fail
  rw [rounds_succ]
  have HE : Hid ([x0, x1, x2, x3] ++ (ys.drop 4).take 8 ++ (ys.drop 12).take 8 ++ R0 ++ R1 = ys) := by
    show _ = _
    rw [HX.out.1, HX.out.2.1, HX.out.2.2.1, HX.out.2.2.2, HRE.out.1, HRE.out.2]
    exact nums_rows HL.out
  rw [HE.out] at HS6
  go_wp2
  go_ret
  exact ⟨_, rfl, own_mono7 HS6.out.own (by omega), HS6.out.bel⟩
set_option maxRecDepth 100000 in
set_option maxHeartbeats 4000000 in
theorem bytesOfNumbers_any (a : Option Addr) (len cap : Nat) (zs : List Int) (F : List Nat) (w : World) (h : RdI w a len zs F) (hr : ∀ z ∈ zs, InN z) (hlen : len ≤ 1048576) :
    Calls Tryz.prog 22 #[.slice a len cap] w fun e w' => ∃ v, e = .returned v ∧ w'.ownsRow w.heap.size 5 1 v (putAll zs).length ((putAll zs).map (Value.int .u8)) ∧ Below w.heap.size w w' := by
  obtain ⟨i0, hi, hz0, hz1, hz2⟩ := info_parts Tryz.info5
  have HL : Hid (zs.length = len ∧ RdI w a len zs F ∧ ∀ z ∈ zs, InN z) := ⟨h.length, h, hr⟩
  clear h hr
  go_enter Tryz.func22, Tryz.ntmps22
  go_wp2
  go_loopw [3, 8] (fun v i wr => ∃ (k : Nat), k ≤ len ∧ i = .int .i64 k ∧ Hid (wr.ownsRow w.heap.size 5 1 v (putAll (zs.take k)).length ((putAll (zs.take k)).map (Value.int .u8))) ∧ Hid (Below w.heap.size w wr)) (fun _ i _ => len - (intOf i).toNat)
  case atStart => exact ⟨0, by omega, rfl, World.ownsRow_nil _ _ _ _, Below.refl _ _⟩
  case round =>
    obtain ⟨k, hk, rfl, HO, HB⟩ := hrel
    by_cases hlt : k < len
    · rcases (HL.out.2.1.below HB.out).cells with ⟨h0, _⟩ | ⟨b, off, _, rfl, _, hc⟩
      · omega
      have hkl : k < zs.length := by rw [HL.out.1]; exact hlt
      obtain ⟨y, hy⟩ : ∃ y, y = zs.getD k 0 := ⟨_, rfl⟩
      have d := hc k hlt
      rw [← hy] at d
      have HY : Hid (y = zs.getD k 0 ∧ k < zs.length) := ⟨hy, hkl⟩
      have HN : Hid (InN y) := HL.out.2.2 y (by rw [hy, List.getD_eq_getElem?_getD, List.getElem?_eq_getElem hkl]; exact List.getElem_mem hkl)
      have hI : (k : Int) < (len : Int) := by omega
      clear hc hy
      go_wp2_with fail
      refine (putImpl_any y _ (by have := HN.out.1; omega) (by have := HN.out.2; omega)).mono ?_
      rintro e w1 ⟨v1, rfl, hown1, hb1⟩
      obtain ⟨g1, cap1, hv1, _⟩ := own_shape7 hown1 (encOf_pos HN.out)
      have hv1' := hv1.symm
      subst hv1'
      have H1 : Hid (w1.ownsRow w.heap.size 5 1 u3 (putAll (zs.take k)).length ((putAll (zs.take k)).map (Value.int .u8)) ∧ Below w.heap.size w w1) := ⟨ownsRow_below HO.out hb1, Below.next HB.out hb1⟩
      have HE : Hid (∀ j u, ((encOf y).map (Value.int .u8))[j]? = some u → w1.cell? ((⟨g1, 0, none⟩ : Addr).add j) = some u) := own_news hown1
      have hl1 := putAll_len (zs.take k)
      have hl2 := encOf_len y
      have hl3 : (zs.take k).length ≤ k := by rw [List.length_take]; omega
      clear hown1 hb1 hv1 d HB HO
      go_wp2_with (first | go_skip | (with_reducible refine stopAppend rfl ?_))
      refine Stop.intro (wpList_append_own _ rfl _ _ 22 rfl w.heap.size 5 i0 (.int .u8 0) 1 1 Tryz.underlying22 hi hz0 hz1 hz2 rfl (by decide) _ _ _ rfl H1.out.1 ⟨g1, 0, none⟩ (encOf y).length cap1 ((encOf y).map (Value.int .u8)) rfl (by simp) HE.out (u8_one _) (by unfold maxLen; omega) (by omega) H1.out.2.size ?_)
      intro v2 w2 hown hgrow _
      have HO3 : Hid (w2.ownsRow w.heap.size 5 1 v2 (putAll (zs.take (k + 1))).length ((putAll (zs.take (k + 1))).map (Value.int .u8))) := by
        rw [putAll_take zs k HY.out.2, ← HY.out.1, List.length_append, List.map_append]
        exact hown
      have HB3 : Hid (Below w.heap.size w w2) := H1.out.2.grown hgrow H1.out.2.size (fun g hg => (H1.out.1.lt g hg).1)
      clear hown hgrow H1 HE hl1 hl2 hl3
      go_wp2
      go_roundw
      case rel => exact ⟨k + 1, by omega, by go_num, HO3, HB3⟩
      case measure => simp [intOf]; omega
    · obtain rfl : k = len := by omega
      have HV : Hid (zs.take k = zs) := List.take_of_length_le (by rw [HL.out.1]; omega)
      rw [HV.out] at HO
      go_wp2
      go_ret
      exact ⟨_, rfl, HO.out, HB.out⟩
end Go.Proofs.YtjndcfamfminkabGreat
/- The walks through the model's l7Spoil and its drawing of bytes that may be a frame. No statement of the seat is proved here. -/
namespace Go.Proofs.YtjndcfamfminkabGreat
open Go.RowKit
/-- Bytes that are worked on, and the cursor. -/
structure SpB (w0 : World) (q : Nat) (a : Option Addr) (len cap : Nat) (zs : List Int) (i h : Int) (v : Value) (n : Nat) (ys : List Int) (W : World) : Prop where
  cur : Cur W q a len cap zs i h
  own : W.ownsRow w0.heap.size 5 1 v n (ys.map (Value.int .u8))
  rng : ∀ y ∈ ys, 0 ≤ y ∧ y ≤ 255
  many : n ≤ 600
  grown : w0.grownBy W (some q)
section
variable {w0 W W' : World} {q : Nat} {a : Option Addr} {len cap : Nat} {zs : List Int} {i h i' h' : Int} {v : Value} {n : Nat} {ys : List Int}
theorem SpB.length (H : SpB w0 q a len cap zs i h v n ys W) : ys.length = n := by have := H.own.1; simpa using this
theorem SpB.next (H : SpB w0 q a len cap zs i h v n ys W) (hq : q < w0.heap.size) (C : Cur W' q a len cap zs i' h') (g : W.grownBy W' (some q)) : SpB w0 q a len cap zs i' h' v n ys W' :=
  ⟨C, H.own.kept g (by
    by_cases e : v.ownBlock = some q
    · exact absurd (H.own.lt q e).1 (by omega)
    · exact .inr e), H.rng, H.many, grown_tr H.grown g⟩
theorem SpB.drew (H : SpB w0 q a len cap zs i h v n ys W) : SpB w0 q a len cap zs i h v n ys W.drew := ⟨H.cur.below (Below.refl _ _).drew, H.own, H.rng, H.many, grown_tr H.grown (grown_below q (Below.refl _ _).drew)⟩
theorem SpB.shape (H : SpB w0 q a len cap zs i h v n ys W) : ∃ p c, v = .slice p n c := by
  rcases H.own.2 with ⟨e, e2⟩ | ⟨g, cap, cur, e, _⟩
  · subst e2; exact ⟨_, _, e⟩
  · exact ⟨_, _, e⟩
theorem SpB.cut {g c k : Nat} (H : SpB w0 q a len cap zs i h (.slice (some ⟨g, 0, none⟩) n c) n ys W) (hk : k ≤ n) : SpB w0 q a len cap zs i h (.slice (some ⟨g, 0, none⟩) k c) k (ys.take k) W := by
  have hl := H.length
  refine ⟨H.cur, ⟨by simp; omega, ?_⟩, fun y hy => H.rng y (List.mem_of_mem_take hy), by have := H.many; omega, H.grown⟩
  rcases H.own.2 with ⟨e, _⟩ | ⟨g', cap', cur, e, h1, h2, h3, h4, h5, h6⟩
  · cases e
  · cases e
    refine .inr ⟨g, c, cur, rfl, h1, h2, by omega, h4, h5, ?_⟩
    rw [Nat.mul_one] at h6 ⊢
    rw [List.map_take, ← h6, List.take_take, Nat.min_eq_left hk]
theorem SpB.store {g c j : Nat} (H : SpB w0 q a len cap zs i h (.slice (some ⟨g, 0, none⟩) n c) n ys W) (hq : q < w0.heap.size) (ha : ∀ b, (∃ off, a = some ⟨b, off, none⟩ ∧ 0 < len) → b < w0.heap.size) {x : Int} (hx : 0 ≤ x ∧ x ≤ 255) : SpB w0 q a len cap zs i h (.slice (some ⟨g, 0, none⟩) n c) n (ys.set j x) (W.setCell ⟨g, j, none⟩ (.int .u8 x)) := by
  have lo := (H.own.lt g rfl).1
  refine ⟨cur_cell H.cur (by omega) (fun b hb => by have := ha b hb; omega), ?_, fun y hy => ?_, H.many, grown_cell H.grown lo⟩
  · rw [List.map_set]
    exact (H.own.stored j (.int .u8 x)).1
  · rcases List.mem_or_eq_of_mem_set hy with p | p
    · exact H.rng y p
    · rw [p]; exact hx
theorem SpB.cell {g c j : Nat} (H : SpB w0 q a len cap zs i h (.slice (some ⟨g, 0, none⟩) n c) n ys W) (hj : j < n) : W.cell? ⟨g, j, none⟩ = some (.int .u8 (ys.getD j 0)) := by
  have hl := H.length
  rw [H.own.cellAt j (by omega), List.getElem?_map, List.getElem?_eq_getElem (by omega), List.getD_eq_getElem?_getD, List.getElem?_eq_getElem (by omega)]
  rfl
theorem SpB.frozen {g c : Nat} (H : SpB w0 q a len cap zs i h (.slice (some ⟨g, 0, none⟩) n c) n ys W) (j : Nat) : W.frozen? ⟨g, j, none⟩ = false := H.own.frozenAt j
theorem SpB.rd {g c : Nat} (H : SpB w0 q a len cap zs i h (.slice (some ⟨g, 0, none⟩) n c) n ys W) : RdB W (some ⟨g, 0, none⟩) n ys := RdB.of_own H.own H.rng
end
theorem wrapS {n : Int} (h : -9223372036854775808 ≤ n ∧ n ≤ 9223372036854775807) : IntKind.i64.wrap n = n := by
  simp [IntKind.wrap, IntKind.bits, IntKind.signed]
  omega
theorem own_monoS {w : World} {B B' e size n : Nat} {v : Value} {xs : List Value} (h : w.ownsRow B e size v n xs) (hB : B' ≤ B) : w.ownsRow B' e size v n xs := by
  refine ⟨h.1, ?_⟩
  rcases h.2 with q | ⟨g, cap, cur, h1, h2, h3⟩
  · exact .inl q
  · exact .inr ⟨g, cap, cur, h1, by omega, h3⟩
theorem xor8 (x z : Int) : 0 ≤ bits .xor .u8 x z ∧ bits .xor .u8 x z ≤ 255 := by
  have h : bits .xor .u8 x z = IntKind.u8.wrap (((BitVec.ofInt 8 x) ^^^ (BitVec.ofInt 8 z)).toNat : Int) := rfl
  rw [h]
  generalize ((BitVec.ofInt 8 x) ^^^ (BitVec.ofInt 8 z)).toNat = c
  simp [IntKind.wrap, IntKind.bits, IntKind.signed]
  omega
def DrewB (w0 : World) (q : Nat) (a : Option Addr) (len cap : Nat) (zs : List Int) (e : Ending) (w' : World) : Prop := ∃ v n ys i' h', e = .returned v ∧ SpB w0 q a len cap zs i' h' v n ys w'
set_option maxRecDepth 200000 in
set_option maxHeartbeats 8000000 in
theorem l7Spoil_any (w0 : World) (q : Nat) (a : Option Addr) (len cap : Nat) (zs : List Int) (i h : Int) (v : Value) (n : Nat) (ys : List Int) (w : World) (H : SpB w0 q a len cap zs i h v n ys w) (hq : q < w0.heap.size) (ha : ∀ b, (∃ off, a = some ⟨b, off, none⟩ ∧ 0 < len) → b < w0.heap.size) (hlen : len ≤ 1048576) :
    Calls Tryz.prog 38 #[.pointer (some ⟨q, 0, none⟩), v] w fun e w' => DrewB w0 q a len cap zs e w' := by
  obtain ⟨i0, hi, hz0, hz1, hz2⟩ := info_parts Tryz.info5
  have HA : Hid (∀ b, (∃ off, a = some ⟨b, off, none⟩ ∧ 0 < len) → b < w0.heap.size) := ha
  clear ha
  have H0 : Hid (SpB w0 q a len cap zs i h v n ys w) := H
  by_cases hn : n = 0
  · subst hn
    obtain ⟨p, c, rfl⟩ := H.shape
    clear H
    go_enter Tryz.func38, Tryz.ntmps38
    go_wp2
    go_ret
    exact ⟨_, 0, ys, i, h, rfl, H0.out⟩
  obtain ⟨g, c, rfl, hnc⟩ := own_shape7 H.own (by omega)
  have hm := H.many
  have hn0 : ((n : Int) == 0) = false := by simpa using (by omega : ¬ (n : Int) = 0)
  clear H
  go_enter Tryz.func38, Tryz.ntmps38
  go_wp2_with fail
  refine (l1Below_any q a len cap zs i h 6 _ H0.out.cur hlen (by omega) (by omega)).mono ?_
  rintro e w1 ⟨y, i1, h1, rfl, y0, y6, C1, g1⟩
  have H1 : Hid (SpB w0 q a len cap zs i1 h1 (.slice (some ⟨g, 0, none⟩) n c) n ys w1) := H0.out.next hq C1 g1
  clear C1 g1 H0
  by_cases q0 : y = 0
  · subst q0
    go_wp2_with fail
    refine (l1Below_any q a len cap zs i1 h1 n _ H1.out.cur hlen (by omega) (by omega)).mono ?_
    rintro e w2 ⟨j, i2, h2, rfl, j0, jn, C2, g2⟩
    have H2 : Hid (SpB w0 q a len cap zs i2 h2 (.slice (some ⟨g, 0, none⟩) n c) n ys w2) := H1.out.next hq C2 g2
    clear C2 g2 H1
    obtain ⟨t, rfl⟩ := Int.eq_ofNat_of_zero_le j0
    have htn : t < n := by omega
    clear j0
    go_wp2_with fail
    have htI : (t : Int) < (n : Int) := by omega
    have hx0 := H2.out.rng (ys.getD t 0) (mem_getD (d := 0) (by rw [H2.out.length]; omega))
    obtain ⟨x, hx⟩ : ∃ x, x = ys.getD t 0 := ⟨_, rfl⟩
    rw [← hx] at hx0
    have HX : Hid (x = ys.getD t 0) := hx
    clear hx
    have H2d : Hid (SpB w0 q a len cap zs i2 h2 (.slice (some ⟨g, 0, none⟩) n c) n ys w2.drew) := H2.out.drew
    clear H2
    refine wp_region_held (S := fun _ => True) (by kernel_rfl) ?_
    change wpAnyH _ _ _ _ _ _ _ _ (World.drew _)
    refine takeH (o := ?o35) 0 (.slice (some ⟨g, 0, none⟩) n c) ?h35 ?r35
    case h35 => simp only [aT, aZ]; rfl
    refine ⟨_, by simp [Act.put]; rfl, by kernel_rfl, by kernel_rfl, by kernel_rfl, fun _ _ _ h => h, (.inl ⟨rfl, fun W _ => by kernel_rfl⟩), trivial, ?_⟩
    refine takeH (o := ?o36) 1 (.int .i64 (t : Int)) ?h36 ?r36
    case h36 => simp only [aT, aS, aZ]; rfl
    refine ⟨_, by simp [Act.put]; rfl, by kernel_rfl, by kernel_rfl, by kernel_rfl, fun _ _ _ h => h, (.inl ⟨rfl, fun W _ => by kernel_rfl⟩), trivial, ?_⟩
    refine takeH (o := ?o37) 2 (.slice (some ⟨g, 0, none⟩) n c) ?h37 ?r37
    case h37 => simp only [aT, aS, aZ]; rfl
    refine ⟨_, by simp [Act.put]; rfl, by kernel_rfl, by kernel_rfl, by kernel_rfl, fun _ _ _ h => h, (.inl ⟨rfl, fun W _ => by kernel_rfl⟩), trivial, ?_⟩
    refine takeH (o := ?o38) 3 (.int .i64 (t : Int)) ?h38 ?r38
    case h38 => simp only [aT, aS, aZ]; rfl
    refine ⟨_, by simp [Act.put]; rfl, by kernel_rfl, by kernel_rfl, by kernel_rfl, fun _ _ _ h => h, (.inl ⟨rfl, fun W _ => by kernel_rfl⟩), trivial, ?_⟩
    refine takeH (o := ?o39) 4 (.pointer (some ⟨g, t, none⟩)) ?h39 ?r39
    case h39 => simp only [aT, aS, aZ]; rfl
    refine ⟨_, by simp [Act.put]; rfl, by kernel_rfl, by kernel_rfl, by kernel_rfl, fun _ _ _ h => h, (.inl ⟨rfl, fun W _ => by go_simp; first | done | (intro h; omega)⟩), trivial, ?_⟩
    refine takeH (o := ?o40) 6 (.pointer (some ⟨q, 0, none⟩)) ?h40 ?r40
    case h40 => simp only [aT, aS, aZ]; rfl
    refine ⟨_, by simp [Act.put]; rfl, by kernel_rfl, by kernel_rfl, by kernel_rfl, fun _ _ _ h => h, (.inl ⟨rfl, fun W _ => by kernel_rfl⟩), trivial, ?_⟩
    refine twoH (o := ?o41) (o' := ?p41) 5 7 (by kernel_rfl) ?h41 ?g41 ?r41 ?s41
    case h41 => simp only [aT, aS, aZ]; rfl
    case g41 => simp only [aT, aS, aZ]; rfl
    case r41 =>
      intro K hK
      have cx := H2d.out.cell htn
      rw [← HX.out] at cx
      refine op_value (.int .u8 x) rfl (by go_simp) ⟨_, by simp [Act.put]; rfl, hK _ _ ⟨trivial, ?_⟩⟩
      clear hK cx
      refine onlyH (o := ?o42) 7 (by kernel_rfl) ?h42 ?r42
      case h42 => simp only [aT, aS, aZ]; rfl
      intro K hK
      refine op_call2v 46 _ _ _ Tryz.f46 (fun v w' => ∃ x i' h', v = .int .i64 x ∧ 0 ≤ x ∧ x < 255 ∧ Cur w' q a len cap zs i' h' ∧ w2.drew.grownBy w' (some q)) rfl rfl Tryz.func46 (by kernel_rfl) (by kernel_rfl) ((l1Below_any q a len cap zs i2 h2 255 _ H2d.out.cur hlen (by omega) (by omega)).mono (by rintro e w' ⟨x, i', h', rfl, k1, k2, k3, k4⟩; exact ⟨_, rfl, x, i', h', rfl, k1, k2, k3, k4⟩)) ?_
      rintro v w3 ⟨z, i3, h3, rfl, zz0, zz1, C3, g3⟩
      have H3 : Hid (SpB w0 q a len cap zs i3 h3 (.slice (some ⟨g, 0, none⟩) n c) n ys w3) := H2d.out.next hq C3 g3
      refine ⟨_, by simp [Act.put]; rfl, hK _ _ ⟨trivial, ?_⟩⟩
      clear hK C3 g3 H2d
      refine takeH (o := ?o43) 8 (.int .i64 (1 + z)) ?h43 ?r43
      case h43 => simp only [aT, aS, aZ]; rfl
      refine ⟨_, by simp [Act.put]; rfl, by kernel_rfl, by kernel_rfl, by kernel_rfl, fun _ _ _ h => h, (.inl ⟨rfl, fun W _ => by first | (go_simp; done) | (go_simp; simp [IntKind.wrap, IntKind.bits, IntKind.signed]; done) | (go_simp; omega) | (go_simp; (simp [IntKind.wrap, IntKind.bits, IntKind.signed]; omega))⟩), trivial, ?_⟩
      refine takeH (o := ?o44) 9 (.int .u8 (1 + z)) ?h44 ?r44
      case h44 => simp only [aT, aS, aZ]; rfl
      refine ⟨_, by simp [Act.put]; rfl, by kernel_rfl, by kernel_rfl, by kernel_rfl, fun _ _ _ h => h, (.inl ⟨rfl, fun W _ => by first | (go_simp; done) | (go_simp; simp [IntKind.wrap, IntKind.bits, IntKind.signed]; done) | (go_simp; omega) | (go_simp; (simp [IntKind.wrap, IntKind.bits, IntKind.signed]; omega))⟩), trivial, ?_⟩
      refine takeH (o := ?o45) 10 (.int .u8 (bits .xor .u8 x (1 + z))) ?h45 ?r45
      case h45 => simp only [aT, aS, aZ]; rfl
      refine ⟨_, by simp [Act.put]; rfl, by kernel_rfl, by kernel_rfl, by kernel_rfl, fun _ _ _ h => h, (.inl ⟨rfl, fun W _ => by first | (go_simp; done) | (go_simp; simp [IntKind.wrap, IntKind.bits, IntKind.signed]; done) | (go_simp; omega) | (go_simp; (simp [IntKind.wrap, IntKind.bits, IntKind.signed]; omega))⟩), trivial, ?_⟩
      refine takeH (o := ?o46) 11 (.pointer (some ⟨g, t, none⟩)) ?h46 ?r46
      case h46 => simp only [aT, aS, aZ]; rfl
      refine ⟨_, by simp [Act.put]; rfl, by kernel_rfl, by kernel_rfl, by kernel_rfl, fun _ _ _ h => h, (.inl ⟨rfl, fun W _ => by go_simp; first | done | (intro h; omega)⟩), trivial, ?_⟩
      refine onlyH (o := ?o47) 12 (by kernel_rfl) ?h47 ?r47
      case h47 => simp only [aT, aS, aZ]; rfl
      intro K hK
      have cs := H3.out.cell htn
      have fs := H3.out.frozen t
      have H5 : Hid (SpB w0 q a len cap zs i3 h3 (.slice (some ⟨g, 0, none⟩) n c) n (ys.set t (bits .xor .u8 x (1 + z))) (w3.setCell ⟨g, t, none⟩ (.int .u8 (bits .xor .u8 x (1 + z))))) := H3.out.store hq HA.out (xor8 _ _)
      refine op_skip (w3.setCell ⟨g, t, none⟩ (.int .u8 (bits .xor .u8 x (1 + z)))) rfl (by go_simp) ⟨_, by simp [Act.put]; rfl, hK _ _ ⟨trivial, ?_⟩⟩
      clear hK cs fs H3
      refine wpAnyH_done (by kernel_rfl) ?_ _
      obtain ⟨w5, hw5⟩ : ∃ W, W = w3.setCell ⟨g, t, none⟩ (.int .u8 (bits .xor .u8 x (1 + z))) := ⟨_, rfl⟩
      obtain ⟨ys5, hys5⟩ : ∃ ys5, ys5 = ys.set t (bits .xor .u8 x (1 + z)) := ⟨_, rfl⟩
      rw [← hw5, ← hys5] at H5
      rw [← hw5]
      clear hw5 hys5 HX hx0 zz0 zz1 htI
      go_wp2
      go_ret
      exact ⟨_, n, _, _, _, rfl, H5.out⟩
    case s41 =>
      intro K hK
      refine op_call2v 46 _ _ _ Tryz.f46 (fun v w' => ∃ x i' h', v = .int .i64 x ∧ 0 ≤ x ∧ x < 255 ∧ Cur w' q a len cap zs i' h' ∧ w2.drew.grownBy w' (some q)) rfl rfl Tryz.func46 (by kernel_rfl) (by kernel_rfl) ((l1Below_any q a len cap zs i2 h2 255 _ H2d.out.cur hlen (by omega) (by omega)).mono (by rintro e w' ⟨x, i', h', rfl, k1, k2, k3, k4⟩; exact ⟨_, rfl, x, i', h', rfl, k1, k2, k3, k4⟩)) ?_
      rintro v w3 ⟨z, i3, h3, rfl, zz0, zz1, C3, g3⟩
      have H3 : Hid (SpB w0 q a len cap zs i3 h3 (.slice (some ⟨g, 0, none⟩) n c) n ys w3) := H2d.out.next hq C3 g3
      refine ⟨_, by simp [Act.put]; rfl, hK _ _ ⟨trivial, ?_⟩⟩
      clear hK C3 g3 H2d
      refine takeH (o := ?o48) 8 (.int .i64 (1 + z)) ?h48 ?r48
      case h48 => simp only [aT, aS, aZ]; rfl
      refine ⟨_, by simp [Act.put]; rfl, by kernel_rfl, by kernel_rfl, by kernel_rfl, fun _ _ _ h => h, (.inl ⟨rfl, fun W _ => by first | (go_simp; done) | (go_simp; simp [IntKind.wrap, IntKind.bits, IntKind.signed]; done) | (go_simp; omega) | (go_simp; (simp [IntKind.wrap, IntKind.bits, IntKind.signed]; omega))⟩), trivial, ?_⟩
      refine takeH (o := ?o49) 9 (.int .u8 (1 + z)) ?h49 ?r49
      case h49 => simp only [aT, aS, aZ]; rfl
      refine ⟨_, by simp [Act.put]; rfl, by kernel_rfl, by kernel_rfl, by kernel_rfl, fun _ _ _ h => h, (.inl ⟨rfl, fun W _ => by first | (go_simp; done) | (go_simp; simp [IntKind.wrap, IntKind.bits, IntKind.signed]; done) | (go_simp; omega) | (go_simp; (simp [IntKind.wrap, IntKind.bits, IntKind.signed]; omega))⟩), trivial, ?_⟩
      refine onlyH (o := ?o50) 5 (by kernel_rfl) ?h50 ?r50
      case h50 => simp only [aT, aS, aZ]; rfl
      intro K hK
      have cx := H3.out.cell htn
      rw [← HX.out] at cx
      refine op_value (.int .u8 x) rfl (by go_simp) ⟨_, by simp [Act.put]; rfl, hK _ _ ⟨trivial, ?_⟩⟩
      clear hK cx
      refine takeH (o := ?o51) 10 (.int .u8 (bits .xor .u8 x (1 + z))) ?h51 ?r51
      case h51 => simp only [aT, aS, aZ]; rfl
      refine ⟨_, by simp [Act.put]; rfl, by kernel_rfl, by kernel_rfl, by kernel_rfl, fun _ _ _ h => h, (.inl ⟨rfl, fun W _ => by first | (go_simp; done) | (go_simp; simp [IntKind.wrap, IntKind.bits, IntKind.signed]; done) | (go_simp; omega) | (go_simp; (simp [IntKind.wrap, IntKind.bits, IntKind.signed]; omega))⟩), trivial, ?_⟩
      refine takeH (o := ?o52) 11 (.pointer (some ⟨g, t, none⟩)) ?h52 ?r52
      case h52 => simp only [aT, aS, aZ]; rfl
      refine ⟨_, by simp [Act.put]; rfl, by kernel_rfl, by kernel_rfl, by kernel_rfl, fun _ _ _ h => h, (.inl ⟨rfl, fun W _ => by go_simp; first | done | (intro h; omega)⟩), trivial, ?_⟩
      refine onlyH (o := ?o53) 12 (by kernel_rfl) ?h53 ?r53
      case h53 => simp only [aT, aS, aZ]; rfl
      intro K hK
      have cs := H3.out.cell htn
      have fs := H3.out.frozen t
      have H5 : Hid (SpB w0 q a len cap zs i3 h3 (.slice (some ⟨g, 0, none⟩) n c) n (ys.set t (bits .xor .u8 x (1 + z))) (w3.setCell ⟨g, t, none⟩ (.int .u8 (bits .xor .u8 x (1 + z))))) := H3.out.store hq HA.out (xor8 _ _)
      refine op_skip (w3.setCell ⟨g, t, none⟩ (.int .u8 (bits .xor .u8 x (1 + z)))) rfl (by go_simp) ⟨_, by simp [Act.put]; rfl, hK _ _ ⟨trivial, ?_⟩⟩
      clear hK cs fs H3
      refine wpAnyH_done (by kernel_rfl) ?_ _
      obtain ⟨w5, hw5⟩ : ∃ W, W = w3.setCell ⟨g, t, none⟩ (.int .u8 (bits .xor .u8 x (1 + z))) := ⟨_, rfl⟩
      obtain ⟨ys5, hys5⟩ : ∃ ys5, ys5 = ys.set t (bits .xor .u8 x (1 + z)) := ⟨_, rfl⟩
      rw [← hw5, ← hys5] at H5
      rw [← hw5]
      clear hw5 hys5 HX hx0 zz0 zz1 htI
      go_wp2
      go_ret
      exact ⟨_, n, _, _, _, rfl, H5.out⟩
  have z0 : (y == 0) = false := by simpa using q0
  by_cases q1 : y = 1
  · subst q1
    go_wp2_with fail
    refine (l1Below_any q a len cap zs i1 h1 n _ H1.out.cur hlen (by omega) (by omega)).mono ?_
    rintro e w2 ⟨j, i2, h2, rfl, j0, jn, C2, g2⟩
    have H2 : Hid (SpB w0 q a len cap zs i2 h2 (.slice (some ⟨g, 0, none⟩) n c) n ys w2) := H1.out.next hq C2 g2
    clear C2 g2 H1
    obtain ⟨t, rfl⟩ := Int.eq_ofNat_of_zero_le j0
    have htn : t < n := by omega
    have htc : (t : Int) ≤ (c : Int) := by omega
    clear j0
    go_wp2
    go_ret
    exact ⟨_, t, _, _, _, rfl, H2.out.cut (by omega)⟩
  have z1 : (y == 1) = false := by simpa using q1
  by_cases q2 : y = 2
  · subst q2
    by_cases h8 : n ≤ 8
    · have d8 : decide ((8 : Int) < (n : Int)) = false := dec_false (by omega)
      go_wp2
      go_ret
      exact ⟨_, n, _, _, _, rfl, H1.out⟩
    have d8 : decide ((8 : Int) < (n : Int)) = true := dec_true (by omega)
    go_wp2_with fail
    refine (l1Below_any q a len cap zs i1 h1 ((n : Int) - 7) _ H1.out.cur hlen (by omega) (by omega)).mono ?_
    rintro e w2 ⟨j, i2, h2, rfl, j0, jn, C2, g2⟩
    have H2 : Hid (SpB w0 q a len cap zs i2 h2 (.slice (some ⟨g, 0, none⟩) n c) n ys w2) := H1.out.next hq C2 g2
    clear C2 g2 H1
    obtain ⟨t0, rfl⟩ := Int.eq_ofNat_of_zero_le j0
    clear j0 d8
    go_wp2_with fail
    obtain ⟨t, ht⟩ : ∃ t : Nat, t = 2 + t0 := ⟨_, rfl⟩
    have htn : t < n := by omega
    rw [show (2 : Int) + (t0 : Int) = (t : Int) by omega]
    clear ht jn
    have htI : (t : Int) < (n : Int) := by omega
    have hx0 := H2.out.rng (ys.getD t 0) (mem_getD (d := 0) (by rw [H2.out.length]; omega))
    obtain ⟨x, hx⟩ : ∃ x, x = ys.getD t 0 := ⟨_, rfl⟩
    rw [← hx] at hx0
    have HX : Hid (x = ys.getD t 0) := hx
    clear hx
    have H2d : Hid (SpB w0 q a len cap zs i2 h2 (.slice (some ⟨g, 0, none⟩) n c) n ys w2.drew) := H2.out.drew
    clear H2
    refine wp_region_held (S := fun _ => True) (by kernel_rfl) ?_
    change wpAnyH _ _ _ _ _ _ _ _ (World.drew _)
    refine takeH (o := ?o16) 0 (.slice (some ⟨g, 0, none⟩) n c) ?h16 ?r16
    case h16 => simp only [aT, aZ]; rfl
    refine ⟨_, by simp [Act.put]; rfl, by kernel_rfl, by kernel_rfl, by kernel_rfl, fun _ _ _ h => h, (.inl ⟨rfl, fun W _ => by kernel_rfl⟩), trivial, ?_⟩
    refine takeH (o := ?o17) 1 (.int .i64 (t : Int)) ?h17 ?r17
    case h17 => simp only [aT, aS, aZ]; rfl
    refine ⟨_, by simp [Act.put]; rfl, by kernel_rfl, by kernel_rfl, by kernel_rfl, fun _ _ _ h => h, (.inl ⟨rfl, fun W _ => by kernel_rfl⟩), trivial, ?_⟩
    refine takeH (o := ?o18) 2 (.slice (some ⟨g, 0, none⟩) n c) ?h18 ?r18
    case h18 => simp only [aT, aS, aZ]; rfl
    refine ⟨_, by simp [Act.put]; rfl, by kernel_rfl, by kernel_rfl, by kernel_rfl, fun _ _ _ h => h, (.inl ⟨rfl, fun W _ => by kernel_rfl⟩), trivial, ?_⟩
    refine takeH (o := ?o19) 3 (.int .i64 (t : Int)) ?h19 ?r19
    case h19 => simp only [aT, aS, aZ]; rfl
    refine ⟨_, by simp [Act.put]; rfl, by kernel_rfl, by kernel_rfl, by kernel_rfl, fun _ _ _ h => h, (.inl ⟨rfl, fun W _ => by kernel_rfl⟩), trivial, ?_⟩
    refine takeH (o := ?o20) 4 (.pointer (some ⟨g, t, none⟩)) ?h20 ?r20
    case h20 => simp only [aT, aS, aZ]; rfl
    refine ⟨_, by simp [Act.put]; rfl, by kernel_rfl, by kernel_rfl, by kernel_rfl, fun _ _ _ h => h, (.inl ⟨rfl, fun W _ => by go_simp; first | done | (intro h; omega)⟩), trivial, ?_⟩
    refine takeH (o := ?o21) 6 (.pointer (some ⟨q, 0, none⟩)) ?h21 ?r21
    case h21 => simp only [aT, aS, aZ]; rfl
    refine ⟨_, by simp [Act.put]; rfl, by kernel_rfl, by kernel_rfl, by kernel_rfl, fun _ _ _ h => h, (.inl ⟨rfl, fun W _ => by kernel_rfl⟩), trivial, ?_⟩
    refine twoH (o := ?o22) (o' := ?p22) 5 7 (by kernel_rfl) ?h22 ?g22 ?r22 ?s22
    case h22 => simp only [aT, aS, aZ]; rfl
    case g22 => simp only [aT, aS, aZ]; rfl
    case r22 =>
      intro K hK
      have cx := H2d.out.cell htn
      rw [← HX.out] at cx
      refine op_value (.int .u8 x) rfl (by go_simp) ⟨_, by simp [Act.put]; rfl, hK _ _ ⟨trivial, ?_⟩⟩
      clear hK cx
      refine onlyH (o := ?o23) 7 (by kernel_rfl) ?h23 ?r23
      case h23 => simp only [aT, aS, aZ]; rfl
      intro K hK
      refine op_call2v 46 _ _ _ Tryz.f46 (fun v w' => ∃ x i' h', v = .int .i64 x ∧ 0 ≤ x ∧ x < 255 ∧ Cur w' q a len cap zs i' h' ∧ w2.drew.grownBy w' (some q)) rfl rfl Tryz.func46 (by kernel_rfl) (by kernel_rfl) ((l1Below_any q a len cap zs i2 h2 255 _ H2d.out.cur hlen (by omega) (by omega)).mono (by rintro e w' ⟨x, i', h', rfl, k1, k2, k3, k4⟩; exact ⟨_, rfl, x, i', h', rfl, k1, k2, k3, k4⟩)) ?_
      rintro v w3 ⟨z, i3, h3, rfl, zz0, zz1, C3, g3⟩
      have H3 : Hid (SpB w0 q a len cap zs i3 h3 (.slice (some ⟨g, 0, none⟩) n c) n ys w3) := H2d.out.next hq C3 g3
      refine ⟨_, by simp [Act.put]; rfl, hK _ _ ⟨trivial, ?_⟩⟩
      clear hK C3 g3 H2d
      refine takeH (o := ?o24) 8 (.int .i64 (1 + z)) ?h24 ?r24
      case h24 => simp only [aT, aS, aZ]; rfl
      refine ⟨_, by simp [Act.put]; rfl, by kernel_rfl, by kernel_rfl, by kernel_rfl, fun _ _ _ h => h, (.inl ⟨rfl, fun W _ => by first | (go_simp; done) | (go_simp; simp [IntKind.wrap, IntKind.bits, IntKind.signed]; done) | (go_simp; omega) | (go_simp; (simp [IntKind.wrap, IntKind.bits, IntKind.signed]; omega))⟩), trivial, ?_⟩
      refine takeH (o := ?o25) 9 (.int .u8 (1 + z)) ?h25 ?r25
      case h25 => simp only [aT, aS, aZ]; rfl
      refine ⟨_, by simp [Act.put]; rfl, by kernel_rfl, by kernel_rfl, by kernel_rfl, fun _ _ _ h => h, (.inl ⟨rfl, fun W _ => by first | (go_simp; done) | (go_simp; simp [IntKind.wrap, IntKind.bits, IntKind.signed]; done) | (go_simp; omega) | (go_simp; (simp [IntKind.wrap, IntKind.bits, IntKind.signed]; omega))⟩), trivial, ?_⟩
      refine takeH (o := ?o26) 10 (.int .u8 (bits .xor .u8 x (1 + z))) ?h26 ?r26
      case h26 => simp only [aT, aS, aZ]; rfl
      refine ⟨_, by simp [Act.put]; rfl, by kernel_rfl, by kernel_rfl, by kernel_rfl, fun _ _ _ h => h, (.inl ⟨rfl, fun W _ => by first | (go_simp; done) | (go_simp; simp [IntKind.wrap, IntKind.bits, IntKind.signed]; done) | (go_simp; omega) | (go_simp; (simp [IntKind.wrap, IntKind.bits, IntKind.signed]; omega))⟩), trivial, ?_⟩
      refine takeH (o := ?o27) 11 (.pointer (some ⟨g, t, none⟩)) ?h27 ?r27
      case h27 => simp only [aT, aS, aZ]; rfl
      refine ⟨_, by simp [Act.put]; rfl, by kernel_rfl, by kernel_rfl, by kernel_rfl, fun _ _ _ h => h, (.inl ⟨rfl, fun W _ => by go_simp; first | done | (intro h; omega)⟩), trivial, ?_⟩
      refine onlyH (o := ?o28) 12 (by kernel_rfl) ?h28 ?r28
      case h28 => simp only [aT, aS, aZ]; rfl
      intro K hK
      have cs := H3.out.cell htn
      have fs := H3.out.frozen t
      have H5 : Hid (SpB w0 q a len cap zs i3 h3 (.slice (some ⟨g, 0, none⟩) n c) n (ys.set t (bits .xor .u8 x (1 + z))) (w3.setCell ⟨g, t, none⟩ (.int .u8 (bits .xor .u8 x (1 + z))))) := H3.out.store hq HA.out (xor8 _ _)
      refine op_skip (w3.setCell ⟨g, t, none⟩ (.int .u8 (bits .xor .u8 x (1 + z)))) rfl (by go_simp) ⟨_, by simp [Act.put]; rfl, hK _ _ ⟨trivial, ?_⟩⟩
      clear hK cs fs H3
      refine wpAnyH_done (by kernel_rfl) ?_ _
      obtain ⟨w5, hw5⟩ : ∃ W, W = w3.setCell ⟨g, t, none⟩ (.int .u8 (bits .xor .u8 x (1 + z))) := ⟨_, rfl⟩
      obtain ⟨ys5, hys5⟩ : ∃ ys5, ys5 = ys.set t (bits .xor .u8 x (1 + z)) := ⟨_, rfl⟩
      rw [← hw5, ← hys5] at H5
      rw [← hw5]
      clear hw5 hys5 HX hx0 zz0 zz1 htI
      obtain ⟨k, hk⟩ : ∃ k, n = k + 4 := ⟨n - 4, by omega⟩
      subst hk
      have e4 : ((k + 4 : Nat) : Int) - 4 = (k : Int) := by omega
      have hkc : (k : Int) ≤ (c : Int) := by omega
      go_wp2_with fail
      obtain ⟨Y, hY⟩ : ∃ Y, Y = w5.drew := ⟨_, rfl⟩
      have H6 : Hid (SpB w0 q a len cap zs i3 h3 (.slice (some ⟨g, 0, none⟩) (k + 4) c) (k + 4) ys5 Y) := by rw [hY]; exact H5.out.drew
      clear H5
      refine wp_region_held (S := fun _ => True) (by kernel_rfl) ?_
      change wpAnyH _ _ _ _ _ _ _ _ (World.drew _)
      rw [← hY]
      clear hY
      refine takeH (o := ?o1) 1 (.slice (some ⟨g, 0, none⟩) (k + 4) c) ?h1 ?r1
      case h1 => simp only [aT, aS, aZ]; rfl
      refine ⟨_, by simp [Act.put]; rfl, by kernel_rfl, by kernel_rfl, by kernel_rfl, fun _ _ _ h => h, (.inl ⟨rfl, fun W _ => by kernel_rfl⟩), trivial, ?_⟩
      refine takeH (o := ?o2) 2 (.slice (some ⟨g, 0, none⟩) (k + 4) c) ?h2 ?r2
      case h2 => simp only [aT, aS, aZ]; rfl
      refine ⟨_, by simp [Act.put]; rfl, by kernel_rfl, by kernel_rfl, by kernel_rfl, fun _ _ _ h => h, (.inl ⟨rfl, fun W _ => by kernel_rfl⟩), trivial, ?_⟩
      refine takeH (o := ?o3) 3 (.int .i64 ((k + 4 : Nat) : Int)) ?h3 ?r3
      case h3 => simp only [aT, aS, aZ]; rfl
      refine ⟨_, by simp [Act.put]; rfl, by kernel_rfl, by kernel_rfl, by kernel_rfl, fun _ _ _ h => h, (.inl ⟨rfl, fun W _ => by go_simp⟩), trivial, ?_⟩
      refine takeH (o := ?o4) 4 (.int .i64 (k : Int)) ?h4 ?r4
      case h4 => simp only [aT, aS, aZ]; rfl
      refine ⟨_, by simp [Act.put]; rfl, by kernel_rfl, by kernel_rfl, by kernel_rfl, fun _ _ _ h => h, (.inl ⟨rfl, fun W _ => by go_simp; first | done | (refine wrapS ?_; omega) | omega⟩), trivial, ?_⟩
      refine takeH (o := ?o5) 5 (.slice (some ⟨g, 0, none⟩) k c) ?h5 ?r5
      case h5 => simp only [aT, aS, aZ]; rfl
      refine ⟨_, by simp [Act.put]; rfl, by kernel_rfl, by kernel_rfl, by kernel_rfl, fun _ _ _ h => h, (.inl ⟨rfl, fun W _ => by go_simp⟩), trivial, ?_⟩
      refine takeH (o := ?o6) 7 (.slice (some ⟨g, 0, none⟩) (k + 4) c) ?h6 ?r6
      case h6 => simp only [aT, aS, aZ]; rfl
      refine ⟨_, by simp [Act.put]; rfl, by kernel_rfl, by kernel_rfl, by kernel_rfl, fun _ _ _ h => h, (.inl ⟨rfl, fun W _ => by kernel_rfl⟩), trivial, ?_⟩
      refine takeH (o := ?o7) 8 (.slice (some ⟨g, 0, none⟩) (k + 4) c) ?h7 ?r7
      case h7 => simp only [aT, aS, aZ]; rfl
      refine ⟨_, by simp [Act.put]; rfl, by kernel_rfl, by kernel_rfl, by kernel_rfl, fun _ _ _ h => h, (.inl ⟨rfl, fun W _ => by kernel_rfl⟩), trivial, ?_⟩
      refine takeH (o := ?o8) 9 (.int .i64 ((k + 4 : Nat) : Int)) ?h8 ?r8
      case h8 => simp only [aT, aS, aZ]; rfl
      refine ⟨_, by simp [Act.put]; rfl, by kernel_rfl, by kernel_rfl, by kernel_rfl, fun _ _ _ h => h, (.inl ⟨rfl, fun W _ => by go_simp⟩), trivial, ?_⟩
      refine takeH (o := ?o9) 10 (.int .i64 (k : Int)) ?h9 ?r9
      case h9 => simp only [aT, aS, aZ]; rfl
      refine ⟨_, by simp [Act.put]; rfl, by kernel_rfl, by kernel_rfl, by kernel_rfl, fun _ _ _ h => h, (.inl ⟨rfl, fun W _ => by go_simp; first | done | (refine wrapS ?_; omega) | omega⟩), trivial, ?_⟩
      refine takeH (o := ?o10) 11 (.slice (some ⟨g, 0, none⟩) k c) ?h10 ?r10
      case h10 => simp only [aT, aS, aZ]; rfl
      refine ⟨_, by simp [Act.put]; rfl, by kernel_rfl, by kernel_rfl, by kernel_rfl, fun _ _ _ h => h, (.inl ⟨rfl, fun W _ => by go_simp⟩), trivial, ?_⟩
      refine onlyH (o := ?o11) 0 (by kernel_rfl) ?h11 ?r11
      case h11 => simp only [aT, aZ]; rfl
      intro K hK
      have bE : Below Y.heap.size Y (Y.alloc (.cells #[] 5)) := (Below.refl _ _).alloc (Nat.le_refl _) _
      have H7 : Hid (SpB w0 q a len cap zs i3 h3 (.slice (some ⟨g, 0, none⟩) (k + 4) c) (k + 4) ys5 (Y.alloc (.cells #[] 5))) := H6.out.next hq (H6.out.cur.below bE) (grown_below q bE)
      refine op_turn (.slice (some ⟨Y.heap.size, 0, none⟩) 0 0) (Y.alloc (.cells #[] 5)) rfl (by kernel_rfl) ⟨_, by simp [Act.put]; rfl, hK _ _ ⟨trivial, ?_⟩⟩
      clear hK bE H6
      obtain ⟨Y1, hY1⟩ : ∃ Z, Z = Y.alloc (.cells #[] 5) := ⟨_, rfl⟩
      rw [← hY1] at H7 ⊢
      clear hY1
      have HCut : Hid (SpB w0 q a len cap zs i3 h3 (.slice (some ⟨g, 0, none⟩) k c) k (ys5.take k) Y1) := H7.out.cut (by omega)
      refine onlyH (o := ?o12) 6 (by kernel_rfl) ?h12 ?r12
      case h12 => simp only [aT, aS, aZ]; rfl
      intro K hK
      refine op_grows _ _ 22 rfl rfl 5 i0 (.int .u8 0) 1 1 Tryz.underlying22 hi hz0 hz1 hz2 rfl (by decide) (some _) rfl ⟨g, 0, none⟩ k c ((ys5.take k).map (Value.int .u8)) rfl (by rw [List.length_map, HCut.out.length]; omega) (HCut.out.own.cells rfl) (u8_one _) (by omega) (by unfold maxLen; omega) (by omega) ?_
      intro v8 Y2 hown bx
      have hg8 : Y1.grownBy Y2 (some q) := grown_below q bx
      have H8 : Hid (SpB w0 q a len cap zs i3 h3 (.slice (some ⟨g, 0, none⟩) k c) k (ys5.take k) Y2 ∧ Y2.ownsRow w0.heap.size 5 1 v8 k ((ys5.take k).map (Value.int .u8))) := ⟨HCut.out.next hq (HCut.out.cur.below bx) hg8, own_monoS hown HCut.out.grown.size⟩
      refine ⟨_, by simp [Act.put]; rfl, hK _ _ ⟨trivial, ?_⟩⟩
      clear hK hown bx hg8 HCut H7
      refine onlyH (o := ?o13) 12 (by kernel_rfl) ?h13 ?r13
      case h13 => simp only [aT, aS, aZ]; rfl
      intro K hK
      refine op_call1 39 _ _ Tryz.f39 (fun v w' => v = .slice (some ⟨Y2.heap.size, 0, none⟩) 4 4 ∧ w' = Y2.alloc (.cells ((sumOf (ys5.take k)).map (Value.int .u8)).toArray 5)) rfl rfl Tryz.func39 (by kernel_rfl) (by kernel_rfl) ((l7Sum_any (some ⟨g, 0, none⟩) k c (ys5.take k) Y2 H8.out.1.rd (by omega)).mono (by rintro e w' ⟨rfl, h1⟩; exact ⟨_, rfl, rfl, h1⟩)) ?_
      rintro v Y3 ⟨rfl, hY3⟩
      have b3 : Below Y2.heap.size Y2 Y3 := by rw [hY3]; exact (Below.refl _ _).alloc (Nat.le_refl _) _
      have hn3 : Hid (∀ j u, ((sumOf (ys5.take k)).map (Value.int .u8))[j]? = some u → Y3.cell? ((⟨Y2.heap.size, 0, none⟩ : Addr).add j) = some u) := by
        intro j u hu
        have ea : ((⟨Y2.heap.size, 0, none⟩ : Addr).add j) = ⟨Y2.heap.size, j, none⟩ := by simp [Addr.add]; try (intro h; omega)
        rw [hY3, ea, (Blk.made Y2 _ _).cell j]
        simpa using hu
      have H8 : Hid (SpB w0 q a len cap zs i3 h3 (.slice (some ⟨g, 0, none⟩) k c) k (ys5.take k) Y3 ∧ Y3.ownsRow w0.heap.size 5 1 v8 k ((ys5.take k).map (Value.int .u8))) := ⟨H8.out.1.next hq (H8.out.1.cur.below b3) (grown_below q b3), ownsRow_below H8.out.2 b3⟩
      refine ⟨_, by simp [Act.put]; rfl, hK _ _ ⟨trivial, ?_⟩⟩
      clear hK hY3 b3
      refine onlyH (o := ?o14) 13 (by kernel_rfl) ?h14 ?r14
      case h14 => simp only [aT, aS, aZ]; rfl
      intro K hK
      refine op_append7 _ _ 22 rfl rfl w0.heap.size 5 i0 (.int .u8 0) 1 1 Tryz.underlying22 hi hz0 hz1 hz2 rfl (by decide) _ _ _ rfl H8.out.2 ⟨Y2.heap.size, 0, none⟩ 4 4 ((sumOf (ys5.take k)).map (Value.int .u8)) rfl (by rw [List.length_map, sumOf_len]) hn3.out (u8_one _) (by unfold maxLen; omega) (by omega) H8.out.1.grown.size ?_
      intro v9 Y4 hown hgrow
      have H9 : Hid (SpB w0 q a len cap zs i3 h3 v9 (k + 4) (ys5.take k ++ sumOf (ys5.take k)) Y4) := by
        have ob : ∀ j, v8.ownBlock = some j → w0.heap.size ≤ j := fun j hj => (H8.out.2.lt j hj).1
        refine ⟨cur_agree H8.out.1.cur (World.block_lt_of_cell? _ _ H8.out.1.cur.c0) (hgrow.block _ (World.block_lt_of_cell? _ _ H8.out.1.cur.c0) (fun e => by have := ob _ e.symm; omega)) (fun b hb hx => hgrow.block b hb (fun e => by have := ob _ e.symm; have := HA.out b hx; omega)), by rw [List.map_append]; exact hown, fun y hy => ?_, hm, ?_⟩
        · rcases List.mem_append.1 hy with p | p
          · exact H8.out.1.rng y p
          · exact sumOf_range _ H8.out.1.rng y p
        · exact ⟨hgrow.os.trans H8.out.1.grown.os, hgrow.tape.trans H8.out.1.grown.tape, hgrow.output.trans H8.out.1.grown.output, Nat.le_trans H8.out.1.grown.size hgrow.size, fun j hj hr => (hgrow.block j (Nat.lt_of_lt_of_le hj H8.out.1.grown.size) (fun e => by have := ob _ e.symm; omega)).trans (H8.out.1.grown.block j hj hr)⟩
      refine ⟨_, by simp [Act.put]; rfl, hK _ _ ⟨trivial, ?_⟩⟩
      clear hK hown hgrow H8 hn3
      refine onlyH (o := ?o15) 14 (by kernel_rfl) ?h15 ?r15
      case h15 => simp only [aT, aS, aZ]; rfl
      intro K hK
      refine op_value (v9) rfl (by kernel_rfl) ⟨_, by simp [Act.put]; rfl, hK _ _ ⟨trivial, ?_⟩⟩
      clear hK
      refine wpAnyH_done (by kernel_rfl) ?_ _
      go_wp2
      go_ret
      exact ⟨_, k + 4, _, _, _, rfl, H9.out⟩
    case s22 =>
      intro K hK
      refine op_call2v 46 _ _ _ Tryz.f46 (fun v w' => ∃ x i' h', v = .int .i64 x ∧ 0 ≤ x ∧ x < 255 ∧ Cur w' q a len cap zs i' h' ∧ w2.drew.grownBy w' (some q)) rfl rfl Tryz.func46 (by kernel_rfl) (by kernel_rfl) ((l1Below_any q a len cap zs i2 h2 255 _ H2d.out.cur hlen (by omega) (by omega)).mono (by rintro e w' ⟨x, i', h', rfl, k1, k2, k3, k4⟩; exact ⟨_, rfl, x, i', h', rfl, k1, k2, k3, k4⟩)) ?_
      rintro v w3 ⟨z, i3, h3, rfl, zz0, zz1, C3, g3⟩
      have H3 : Hid (SpB w0 q a len cap zs i3 h3 (.slice (some ⟨g, 0, none⟩) n c) n ys w3) := H2d.out.next hq C3 g3
      refine ⟨_, by simp [Act.put]; rfl, hK _ _ ⟨trivial, ?_⟩⟩
      clear hK C3 g3 H2d
      refine takeH (o := ?o29) 8 (.int .i64 (1 + z)) ?h29 ?r29
      case h29 => simp only [aT, aS, aZ]; rfl
      refine ⟨_, by simp [Act.put]; rfl, by kernel_rfl, by kernel_rfl, by kernel_rfl, fun _ _ _ h => h, (.inl ⟨rfl, fun W _ => by first | (go_simp; done) | (go_simp; simp [IntKind.wrap, IntKind.bits, IntKind.signed]; done) | (go_simp; omega) | (go_simp; (simp [IntKind.wrap, IntKind.bits, IntKind.signed]; omega))⟩), trivial, ?_⟩
      refine takeH (o := ?o30) 9 (.int .u8 (1 + z)) ?h30 ?r30
      case h30 => simp only [aT, aS, aZ]; rfl
      refine ⟨_, by simp [Act.put]; rfl, by kernel_rfl, by kernel_rfl, by kernel_rfl, fun _ _ _ h => h, (.inl ⟨rfl, fun W _ => by first | (go_simp; done) | (go_simp; simp [IntKind.wrap, IntKind.bits, IntKind.signed]; done) | (go_simp; omega) | (go_simp; (simp [IntKind.wrap, IntKind.bits, IntKind.signed]; omega))⟩), trivial, ?_⟩
      refine onlyH (o := ?o31) 5 (by kernel_rfl) ?h31 ?r31
      case h31 => simp only [aT, aS, aZ]; rfl
      intro K hK
      have cx := H3.out.cell htn
      rw [← HX.out] at cx
      refine op_value (.int .u8 x) rfl (by go_simp) ⟨_, by simp [Act.put]; rfl, hK _ _ ⟨trivial, ?_⟩⟩
      clear hK cx
      refine takeH (o := ?o32) 10 (.int .u8 (bits .xor .u8 x (1 + z))) ?h32 ?r32
      case h32 => simp only [aT, aS, aZ]; rfl
      refine ⟨_, by simp [Act.put]; rfl, by kernel_rfl, by kernel_rfl, by kernel_rfl, fun _ _ _ h => h, (.inl ⟨rfl, fun W _ => by first | (go_simp; done) | (go_simp; simp [IntKind.wrap, IntKind.bits, IntKind.signed]; done) | (go_simp; omega) | (go_simp; (simp [IntKind.wrap, IntKind.bits, IntKind.signed]; omega))⟩), trivial, ?_⟩
      refine takeH (o := ?o33) 11 (.pointer (some ⟨g, t, none⟩)) ?h33 ?r33
      case h33 => simp only [aT, aS, aZ]; rfl
      refine ⟨_, by simp [Act.put]; rfl, by kernel_rfl, by kernel_rfl, by kernel_rfl, fun _ _ _ h => h, (.inl ⟨rfl, fun W _ => by go_simp; first | done | (intro h; omega)⟩), trivial, ?_⟩
      refine onlyH (o := ?o34) 12 (by kernel_rfl) ?h34 ?r34
      case h34 => simp only [aT, aS, aZ]; rfl
      intro K hK
      have cs := H3.out.cell htn
      have fs := H3.out.frozen t
      have H5 : Hid (SpB w0 q a len cap zs i3 h3 (.slice (some ⟨g, 0, none⟩) n c) n (ys.set t (bits .xor .u8 x (1 + z))) (w3.setCell ⟨g, t, none⟩ (.int .u8 (bits .xor .u8 x (1 + z))))) := H3.out.store hq HA.out (xor8 _ _)
      refine op_skip (w3.setCell ⟨g, t, none⟩ (.int .u8 (bits .xor .u8 x (1 + z)))) rfl (by go_simp) ⟨_, by simp [Act.put]; rfl, hK _ _ ⟨trivial, ?_⟩⟩
      clear hK cs fs H3
      refine wpAnyH_done (by kernel_rfl) ?_ _
      obtain ⟨w5, hw5⟩ : ∃ W, W = w3.setCell ⟨g, t, none⟩ (.int .u8 (bits .xor .u8 x (1 + z))) := ⟨_, rfl⟩
      obtain ⟨ys5, hys5⟩ : ∃ ys5, ys5 = ys.set t (bits .xor .u8 x (1 + z)) := ⟨_, rfl⟩
      rw [← hw5, ← hys5] at H5
      rw [← hw5]
      clear hw5 hys5 HX hx0 zz0 zz1 htI
      obtain ⟨k, hk⟩ : ∃ k, n = k + 4 := ⟨n - 4, by omega⟩
      subst hk
      have e4 : ((k + 4 : Nat) : Int) - 4 = (k : Int) := by omega
      have hkc : (k : Int) ≤ (c : Int) := by omega
      go_wp2_with fail
      obtain ⟨Y, hY⟩ : ∃ Y, Y = w5.drew := ⟨_, rfl⟩
      have H6 : Hid (SpB w0 q a len cap zs i3 h3 (.slice (some ⟨g, 0, none⟩) (k + 4) c) (k + 4) ys5 Y) := by rw [hY]; exact H5.out.drew
      clear H5
      refine wp_region_held (S := fun _ => True) (by kernel_rfl) ?_
      change wpAnyH _ _ _ _ _ _ _ _ (World.drew _)
      rw [← hY]
      clear hY
      refine takeH (o := ?ob1) 1 (.slice (some ⟨g, 0, none⟩) (k + 4) c) ?hb1 ?rb1
      case hb1 => simp only [aT, aS, aZ]; rfl
      refine ⟨_, by simp [Act.put]; rfl, by kernel_rfl, by kernel_rfl, by kernel_rfl, fun _ _ _ h => h, (.inl ⟨rfl, fun W _ => by kernel_rfl⟩), trivial, ?_⟩
      refine takeH (o := ?ob2) 2 (.slice (some ⟨g, 0, none⟩) (k + 4) c) ?hb2 ?rb2
      case hb2 => simp only [aT, aS, aZ]; rfl
      refine ⟨_, by simp [Act.put]; rfl, by kernel_rfl, by kernel_rfl, by kernel_rfl, fun _ _ _ h => h, (.inl ⟨rfl, fun W _ => by kernel_rfl⟩), trivial, ?_⟩
      refine takeH (o := ?ob3) 3 (.int .i64 ((k + 4 : Nat) : Int)) ?hb3 ?rb3
      case hb3 => simp only [aT, aS, aZ]; rfl
      refine ⟨_, by simp [Act.put]; rfl, by kernel_rfl, by kernel_rfl, by kernel_rfl, fun _ _ _ h => h, (.inl ⟨rfl, fun W _ => by go_simp⟩), trivial, ?_⟩
      refine takeH (o := ?ob4) 4 (.int .i64 (k : Int)) ?hb4 ?rb4
      case hb4 => simp only [aT, aS, aZ]; rfl
      refine ⟨_, by simp [Act.put]; rfl, by kernel_rfl, by kernel_rfl, by kernel_rfl, fun _ _ _ h => h, (.inl ⟨rfl, fun W _ => by go_simp; first | done | (refine wrapS ?_; omega) | omega⟩), trivial, ?_⟩
      refine takeH (o := ?ob5) 5 (.slice (some ⟨g, 0, none⟩) k c) ?hb5 ?rb5
      case hb5 => simp only [aT, aS, aZ]; rfl
      refine ⟨_, by simp [Act.put]; rfl, by kernel_rfl, by kernel_rfl, by kernel_rfl, fun _ _ _ h => h, (.inl ⟨rfl, fun W _ => by go_simp⟩), trivial, ?_⟩
      refine takeH (o := ?ob6) 7 (.slice (some ⟨g, 0, none⟩) (k + 4) c) ?hb6 ?rb6
      case hb6 => simp only [aT, aS, aZ]; rfl
      refine ⟨_, by simp [Act.put]; rfl, by kernel_rfl, by kernel_rfl, by kernel_rfl, fun _ _ _ h => h, (.inl ⟨rfl, fun W _ => by kernel_rfl⟩), trivial, ?_⟩
      refine takeH (o := ?ob7) 8 (.slice (some ⟨g, 0, none⟩) (k + 4) c) ?hb7 ?rb7
      case hb7 => simp only [aT, aS, aZ]; rfl
      refine ⟨_, by simp [Act.put]; rfl, by kernel_rfl, by kernel_rfl, by kernel_rfl, fun _ _ _ h => h, (.inl ⟨rfl, fun W _ => by kernel_rfl⟩), trivial, ?_⟩
      refine takeH (o := ?ob8) 9 (.int .i64 ((k + 4 : Nat) : Int)) ?hb8 ?rb8
      case hb8 => simp only [aT, aS, aZ]; rfl
      refine ⟨_, by simp [Act.put]; rfl, by kernel_rfl, by kernel_rfl, by kernel_rfl, fun _ _ _ h => h, (.inl ⟨rfl, fun W _ => by go_simp⟩), trivial, ?_⟩
      refine takeH (o := ?ob9) 10 (.int .i64 (k : Int)) ?hb9 ?rb9
      case hb9 => simp only [aT, aS, aZ]; rfl
      refine ⟨_, by simp [Act.put]; rfl, by kernel_rfl, by kernel_rfl, by kernel_rfl, fun _ _ _ h => h, (.inl ⟨rfl, fun W _ => by go_simp; first | done | (refine wrapS ?_; omega) | omega⟩), trivial, ?_⟩
      refine takeH (o := ?ob10) 11 (.slice (some ⟨g, 0, none⟩) k c) ?hb10 ?rb10
      case hb10 => simp only [aT, aS, aZ]; rfl
      refine ⟨_, by simp [Act.put]; rfl, by kernel_rfl, by kernel_rfl, by kernel_rfl, fun _ _ _ h => h, (.inl ⟨rfl, fun W _ => by go_simp⟩), trivial, ?_⟩
      refine onlyH (o := ?ob11) 0 (by kernel_rfl) ?hb11 ?rb11
      case hb11 => simp only [aT, aZ]; rfl
      intro K hK
      have bE : Below Y.heap.size Y (Y.alloc (.cells #[] 5)) := (Below.refl _ _).alloc (Nat.le_refl _) _
      have H7 : Hid (SpB w0 q a len cap zs i3 h3 (.slice (some ⟨g, 0, none⟩) (k + 4) c) (k + 4) ys5 (Y.alloc (.cells #[] 5))) := H6.out.next hq (H6.out.cur.below bE) (grown_below q bE)
      refine op_turn (.slice (some ⟨Y.heap.size, 0, none⟩) 0 0) (Y.alloc (.cells #[] 5)) rfl (by kernel_rfl) ⟨_, by simp [Act.put]; rfl, hK _ _ ⟨trivial, ?_⟩⟩
      clear hK bE H6
      obtain ⟨Y1, hY1⟩ : ∃ Z, Z = Y.alloc (.cells #[] 5) := ⟨_, rfl⟩
      rw [← hY1] at H7 ⊢
      clear hY1
      have HCut : Hid (SpB w0 q a len cap zs i3 h3 (.slice (some ⟨g, 0, none⟩) k c) k (ys5.take k) Y1) := H7.out.cut (by omega)
      refine onlyH (o := ?ob12) 6 (by kernel_rfl) ?hb12 ?rb12
      case hb12 => simp only [aT, aS, aZ]; rfl
      intro K hK
      refine op_grows _ _ 22 rfl rfl 5 i0 (.int .u8 0) 1 1 Tryz.underlying22 hi hz0 hz1 hz2 rfl (by decide) (some _) rfl ⟨g, 0, none⟩ k c ((ys5.take k).map (Value.int .u8)) rfl (by rw [List.length_map, HCut.out.length]; omega) (HCut.out.own.cells rfl) (u8_one _) (by omega) (by unfold maxLen; omega) (by omega) ?_
      intro v8 Y2 hown bx
      have hg8 : Y1.grownBy Y2 (some q) := grown_below q bx
      have H8 : Hid (SpB w0 q a len cap zs i3 h3 (.slice (some ⟨g, 0, none⟩) k c) k (ys5.take k) Y2 ∧ Y2.ownsRow w0.heap.size 5 1 v8 k ((ys5.take k).map (Value.int .u8))) := ⟨HCut.out.next hq (HCut.out.cur.below bx) hg8, own_monoS hown HCut.out.grown.size⟩
      refine ⟨_, by simp [Act.put]; rfl, hK _ _ ⟨trivial, ?_⟩⟩
      clear hK hown bx hg8 HCut H7
      refine onlyH (o := ?ob13) 12 (by kernel_rfl) ?hb13 ?rb13
      case hb13 => simp only [aT, aS, aZ]; rfl
      intro K hK
      refine op_call1 39 _ _ Tryz.f39 (fun v w' => v = .slice (some ⟨Y2.heap.size, 0, none⟩) 4 4 ∧ w' = Y2.alloc (.cells ((sumOf (ys5.take k)).map (Value.int .u8)).toArray 5)) rfl rfl Tryz.func39 (by kernel_rfl) (by kernel_rfl) ((l7Sum_any (some ⟨g, 0, none⟩) k c (ys5.take k) Y2 H8.out.1.rd (by omega)).mono (by rintro e w' ⟨rfl, h1⟩; exact ⟨_, rfl, rfl, h1⟩)) ?_
      rintro v Y3 ⟨rfl, hY3⟩
      have b3 : Below Y2.heap.size Y2 Y3 := by rw [hY3]; exact (Below.refl _ _).alloc (Nat.le_refl _) _
      have hn3 : Hid (∀ j u, ((sumOf (ys5.take k)).map (Value.int .u8))[j]? = some u → Y3.cell? ((⟨Y2.heap.size, 0, none⟩ : Addr).add j) = some u) := by
        intro j u hu
        have ea : ((⟨Y2.heap.size, 0, none⟩ : Addr).add j) = ⟨Y2.heap.size, j, none⟩ := by simp [Addr.add]; try (intro h; omega)
        rw [hY3, ea, (Blk.made Y2 _ _).cell j]
        simpa using hu
      have H8 : Hid (SpB w0 q a len cap zs i3 h3 (.slice (some ⟨g, 0, none⟩) k c) k (ys5.take k) Y3 ∧ Y3.ownsRow w0.heap.size 5 1 v8 k ((ys5.take k).map (Value.int .u8))) := ⟨H8.out.1.next hq (H8.out.1.cur.below b3) (grown_below q b3), ownsRow_below H8.out.2 b3⟩
      refine ⟨_, by simp [Act.put]; rfl, hK _ _ ⟨trivial, ?_⟩⟩
      clear hK hY3 b3
      refine onlyH (o := ?ob14) 13 (by kernel_rfl) ?hb14 ?rb14
      case hb14 => simp only [aT, aS, aZ]; rfl
      intro K hK
      refine op_append7 _ _ 22 rfl rfl w0.heap.size 5 i0 (.int .u8 0) 1 1 Tryz.underlying22 hi hz0 hz1 hz2 rfl (by decide) _ _ _ rfl H8.out.2 ⟨Y2.heap.size, 0, none⟩ 4 4 ((sumOf (ys5.take k)).map (Value.int .u8)) rfl (by rw [List.length_map, sumOf_len]) hn3.out (u8_one _) (by unfold maxLen; omega) (by omega) H8.out.1.grown.size ?_
      intro v9 Y4 hown hgrow
      have H9 : Hid (SpB w0 q a len cap zs i3 h3 v9 (k + 4) (ys5.take k ++ sumOf (ys5.take k)) Y4) := by
        have ob : ∀ j, v8.ownBlock = some j → w0.heap.size ≤ j := fun j hj => (H8.out.2.lt j hj).1
        refine ⟨cur_agree H8.out.1.cur (World.block_lt_of_cell? _ _ H8.out.1.cur.c0) (hgrow.block _ (World.block_lt_of_cell? _ _ H8.out.1.cur.c0) (fun e => by have := ob _ e.symm; omega)) (fun b hb hx => hgrow.block b hb (fun e => by have := ob _ e.symm; have := HA.out b hx; omega)), by rw [List.map_append]; exact hown, fun y hy => ?_, hm, ?_⟩
        · rcases List.mem_append.1 hy with p | p
          · exact H8.out.1.rng y p
          · exact sumOf_range _ H8.out.1.rng y p
        · exact ⟨hgrow.os.trans H8.out.1.grown.os, hgrow.tape.trans H8.out.1.grown.tape, hgrow.output.trans H8.out.1.grown.output, Nat.le_trans H8.out.1.grown.size hgrow.size, fun j hj hr => (hgrow.block j (Nat.lt_of_lt_of_le hj H8.out.1.grown.size) (fun e => by have := ob _ e.symm; omega)).trans (H8.out.1.grown.block j hj hr)⟩
      refine ⟨_, by simp [Act.put]; rfl, hK _ _ ⟨trivial, ?_⟩⟩
      clear hK hown hgrow H8 hn3
      refine onlyH (o := ?ob15) 14 (by kernel_rfl) ?hb15 ?rb15
      case hb15 => simp only [aT, aS, aZ]; rfl
      intro K hK
      refine op_value (v9) rfl (by kernel_rfl) ⟨_, by simp [Act.put]; rfl, hK _ _ ⟨trivial, ?_⟩⟩
      clear hK
      refine wpAnyH_done (by kernel_rfl) ?_ _
      go_wp2
      go_ret
      exact ⟨_, k + 4, _, _, _, rfl, H9.out⟩
  have z2 : (y == 2) = false := by simpa using q2
  go_wp2
  go_ret
  exact ⟨_, n, _, _, _, rfl, H1.out⟩
set_option maxRecDepth 200000 in
set_option maxHeartbeats 4000000 in
theorem drawFrameOf_any (a : Option Addr) (len cap : Nat) (zs : List Int) (w : World) (hR : RdB w a len zs) (hlen : len ≤ 1048576) :
    Calls Tryz.prog 10 #[.slice a len cap] w fun e w' => ∃ (v : Value) (n : Nat) (ys : List Int), e = .returned v ∧ w'.ownsRow w.heap.size 5 1 v n (ys.map (Value.int .u8)) ∧ (∀ y ∈ ys, 0 ≤ y ∧ y ≤ 255) ∧ n ≤ 600 ∧ Below w.heap.size w w' := by
  have HR : Hid (RdB w a len zs) := hR
  clear hR
  go_enter Tryz.func10, Tryz.ntmps10
  go_wp2_with fail
  refine (l1New_any a len cap zs _ HR.out hlen).mono ?_
  rintro e w1 ⟨rfl, ⟨h, C1⟩, b1⟩
  have lw : w.heap.size < w1.heap.size := World.block_lt_of_cell? _ _ C1.c0
  have HC : Hid (Cur w1 w.heap.size a len cap zs 0 h ∧ Below w.heap.size w w1) := ⟨C1, b1⟩
  clear C1 b1
  go_wp2_with fail
  refine (l7Draw_any w.heap.size a len cap zs 0 h _ HC.out.1 hlen).mono ?_
  rintro e w2 ⟨v, f, F, G, i2, h2, rfl, rf, wf, mf, oF, oG, ap, C2, g2⟩
  have HF : Hid (RdFr w2 v f F G ∧ f.item.sk.wide ∧ f.taken.length ≤ 20 ∧ Cur w2 w.heap.size a len cap zs i2 h2 ∧ Below w.heap.size w w2 ∧ w1.grownBy w2 (some w.heap.size)) := ⟨rf, wf, mf, C2, HC.out.2.grown g2 HC.out.2.size (fun j hj => by simp at hj; omega), g2⟩
  clear rf wf mf oF oG ap C2 g2
  go_wp2_with fail
  refine (frameBytesSpec_any v f F G _ HF.out.1 HF.out.2.1 (by have := HF.out.2.2.1; omega)).mono ?_
  rintro e w3 ⟨u, rfl, hown, b3⟩
  have hbl := f.bytes_len
  have HS : Hid (SpB w1 w.heap.size a len cap zs i2 h2 u f.bytes.length f.bytes w3 ∧ Below w.heap.size w w3) := ⟨⟨HF.out.2.2.2.1.below b3, own_monoS hown HF.out.2.2.2.2.2.size, f.bytes_range, by omega, grown_tr HF.out.2.2.2.2.2 (grown_below _ b3)⟩, Below.next HF.out.2.2.2.2.1 b3⟩
  have HL : Hid (∀ b, (∃ off, a = some ⟨b, off, none⟩ ∧ 0 < len) → b < w1.heap.size) := cur_lt HC.out.1
  have L1 : Hid (w.heap.size ≤ w1.heap.size) := Nat.le_of_lt lw
  clear hown b3 hbl HF
  go_wp2_with fail
  refine (l1Once_any w.heap.size a len cap zs i2 h2 2 _ HS.out.1.cur hlen (by omega) (by omega)).mono ?_
  rintro e w4 ⟨d, i4, h4, rfl, C4, g4⟩
  have HS4 : Hid (SpB w1 w.heap.size a len cap zs i4 h4 u f.bytes.length f.bytes w4 ∧ Below w.heap.size w w4) := ⟨HS.out.1.next lw C4 g4, HS.out.2.grown g4 HS.out.2.size (fun j hj => by simp at hj; omega)⟩
  clear C4 g4 HS
  cases d
  · go_wp2_with fail
    refine (l7Spoil_any w1 w.heap.size a len cap zs i4 h4 u _ f.bytes _ HS4.out.1 lw HL.out hlen).mono ?_
    rintro e w5 ⟨v5, n5, y5, i5, h5, rfl, H5⟩
    have HE : Hid (w5.ownsRow w.heap.size 5 1 v5 n5 (y5.map (Value.int .u8)) ∧ (∀ y ∈ y5, 0 ≤ y ∧ y ≤ 255) ∧ n5 ≤ 600 ∧ Below w.heap.size w w5) := ⟨own_monoS H5.own L1.out, H5.rng, H5.many, HC.out.2.grown H5.grown HC.out.2.size (fun j hj => by simp at hj; omega)⟩
    clear H5
    go_wp2
    go_ret
    exact ⟨_, n5, y5, rfl, HE.out⟩
  · go_wp2
    go_ret
    exact ⟨_, _, _, rfl, own_monoS HS4.out.1.own L1.out, HS4.out.1.rng, HS4.out.1.many, HS4.out.2⟩
end Go.Proofs.YtjndcfamfminkabGreat
/- The walk through the model's drawing of a summary and a share. No statement of the seat is proved here. -/
namespace Go.Proofs.YtjndcfamfminkabGreat
open Go.RowKit
theorem below_grown {w w1 w2 : World} {q : Nat} (h : Below w.heap.size w w1) (k : w1.grownBy w2 (some q)) (hq : w.heap.size ≤ q) : Below w.heap.size w w2 := h.grown k h.size (fun j hj => by simp at hj; omega)
theorem full_wide {s : Sk} (h : s.full) : s.wide := ⟨by have := h.hist; omega, by have := h.regs; omega, by have := h.rows; omega, fun z hz => by have := h.row z hz; omega⟩
end Go.Proofs.YtjndcfamfminkabGreat
/- The walks through the model's drawing of summaries and of bytes that may be a summary. No statement of the seat is proved here. -/
namespace Go.Proofs.YtjndcfamfminkabGreat
open Go.RowKit
def DrewSkB (w : World) (e : Ending) (w' : World) : Prop := ∃ cs s F, e = .returned (.agg cs) ∧ RdSk w' (.agg cs) s F ∧ s.full ∧ Own w.heap.size w' F ∧ Below w.heap.size w w' ∧ cs.size = 7 ∧ cs.all (·.oneCell') = true
theorem infoSkS7 : (Tryz.prog.info? 28).map (·.size) = some 7 := by kernel_rfl
set_option maxRecDepth 200000 in
set_option maxHeartbeats 4000000 in
theorem drawSketchBytes_any (a : Option Addr) (len cap : Nat) (zs : List Int) (w : World) (hR : RdB w a len zs) (hlen : len ≤ 1048576) :
    Calls Tryz.prog 12 #[.slice a len cap] w fun e w' => DrewSkB w e w' := by
  have HT : Hid (Blk (w.alloc (.cells #[.int .i64 0, .int .i64 0, .int .i64 0, .int .i64 0, .slice none 0 0, .slice none 0 0, .slice none 0 0] 28)) w.heap.size #[.int .i64 0, .int .i64 0, .int .i64 0, .int .i64 0, .slice none 0 0, .slice none 0 0, .slice none 0 0] 28 ∧ Below w.heap.size w (w.alloc (.cells #[.int .i64 0, .int .i64 0, .int .i64 0, .int .i64 0, .slice none 0 0, .slice none 0 0, .slice none 0 0] 28))) := ⟨Blk.made _ _ _, (Below.refl _ _).alloc (Nat.le_refl _) _⟩
  have HR : Hid (RdB w a len zs) := hR
  have hsz : (w.alloc (.cells #[.int .i64 0, .int .i64 0, .int .i64 0, .int .i64 0, .slice none 0 0, .slice none 0 0, .slice none 0 0] 28)).heap.size = w.heap.size + 1 := by simp
  clear hR
  go_enter Tryz.func12, Tryz.ntmps12
  go_wp2_with fail
  refine (l1New_any a len cap zs _ (HR.out.below HT.out.2) hlen).mono ?_
  rintro e w1 ⟨rfl, ⟨h0, C⟩, b1⟩
  rw [hsz] at C ⊢
  have HC : Hid (Cur w1 (w.heap.size + 1) a len cap zs 0 h0 ∧ Blk w1 w.heap.size #[.int .i64 0, .int .i64 0, .int .i64 0, .int .i64 0, .slice none 0 0, .slice none 0 0, .slice none 0 0] 28 ∧ Below w.heap.size w w1) := ⟨C, HT.out.1.below b1, Below.next HT.out.2 b1⟩
  clear C b1 HT HR hsz
  go_wp2_with fail
  refine (l3Draw_any (w.heap.size + 1) a len cap zs 0 h0 _ HC.out.1 hlen).mono ?_
  rintro e w2 ⟨vv, s, F, i2, h2, rfl, rr, hs, oo, C2, g2⟩
  obtain ⟨cs, rfl, e7, e1⟩ := rr.cells
  have hq1 : w.heap.size + 1 < w1.heap.size := World.block_lt_of_cell? _ _ HC.out.1.c0
  have HE : Hid (RdSk w2 (.agg cs) s F ∧ Own (w.heap.size + 1) w2 F ∧ s.full ∧ cs.size = 7 ∧ cs.all (·.oneCell') = true ∧ Blk w2 w.heap.size #[.int .i64 0, .int .i64 0, .int .i64 0, .int .i64 0, .slice none 0 0, .slice none 0 0, .slice none 0 0] 28 ∧ Below w.heap.size w w2) := ⟨rr, oo.mono (by omega), hs, e7, e1, HC.out.2.1.grown g2 (by omega), below_grown HC.out.2.2 g2 (by omega)⟩
  have hds : (Tryz.prog.info? 28).map (·.size) = some cs.size := by rw [e7]; exact infoSkS7
  clear rr hs oo C2 g2 e7 e1 HC
  go_wp2_with (first | go_skip | (with_reducible refine stopStore 28 rfl ?_))
  refine store_known 28 w.heap.size _ cs 28 HE.out.2.2.2.2.2.1 rfl rfl rfl rfl hds (by rw [HE.out.2.2.2.1]; rfl) HE.out.2.2.2.2.1 ?_
  go_wp2
  refine bodyPost_ret (results_cell_row Tryz.results12 _ _ w.heap.size _ _ (0, 0) _ rfl HE.out.2.2.2.2.2.1.setRow Tryz.underlying28 rfl hds) rfl ?_
  have nF : w.heap.size ∉ F := fun hx => by have := HE.out.2.1.ge _ hx; omega
  exact ⟨cs, s, F, rfl, HE.out.1.agree (Agree.row nF _), HE.out.2.2.1, (HE.out.2.1.agree (Agree.row nF _)).mono (by omega), below_setRow HE.out.2.2.2.2.2.2 (Nat.le_refl _) _, HE.out.2.2.2.1, HE.out.2.2.2.2.1⟩
theorem skBytes_len (s : Sk) : s.bytes.length ≤ 140 := Sk.bytes_len s
set_option maxRecDepth 200000 in
set_option maxHeartbeats 4000000 in
theorem drawSketchOf_any (a : Option Addr) (len cap : Nat) (zs : List Int) (w : World) (hR : RdB w a len zs) (hlen : len ≤ 1048576) :
    Calls Tryz.prog 15 #[.slice a len cap] w fun e w' => ∃ (v : Value) (n : Nat) (ys : List Int), e = .returned v ∧ w'.ownsRow w.heap.size 5 1 v n (ys.map (Value.int .u8)) ∧ (∀ y ∈ ys, 0 ≤ y ∧ y ≤ 255) ∧ n ≤ 600 ∧ Below w.heap.size w w' := by
  obtain ⟨i0, hi, hz0, hz1, hz2⟩ := info_parts Tryz.info5
  have HR : Hid (RdB w a len zs) := hR
  clear hR
  go_enter Tryz.func15, Tryz.ntmps15
  go_wp2_with fail
  refine (l1New_any a len cap zs _ HR.out hlen).mono ?_
  rintro e w1 ⟨rfl, ⟨h, C1⟩, b1⟩
  have lw : w.heap.size < w1.heap.size := World.block_lt_of_cell? _ _ C1.c0
  have HC : Hid (Cur w1 w.heap.size a len cap zs 0 h ∧ Below w.heap.size w w1) := ⟨C1, b1⟩
  clear C1 b1
  have HL : Hid (∀ b, (∃ off, a = some ⟨b, off, none⟩ ∧ 0 < len) → b < w1.heap.size) := cur_lt HC.out.1
  have L1 : Hid (w.heap.size ≤ w1.heap.size) := Nat.le_of_lt lw
  go_wp2_with fail
  refine (l3Draw_any w.heap.size a len cap zs 0 h _ HC.out.1 hlen).mono ?_
  rintro e w2 ⟨vv, s, F, i2, h2, rfl, rr, hs, oo, C2, g2⟩
  have HF : Hid (RdSk w2 vv s F ∧ s.wide ∧ Cur w2 w.heap.size a len cap zs i2 h2 ∧ w1.grownBy w2 (some w.heap.size)) := ⟨rr, full_wide hs, C2, g2⟩
  clear rr hs oo C2 g2
  go_wp2_with fail
  refine (sketchBytesSpec_any vv s F _ HF.out.1 HF.out.2.1).mono ?_
  rintro e w3 ⟨u, rfl, hown, b3⟩
  have hbl := skBytes_len s
  obtain ⟨n, hn⟩ : ∃ n, n = s.bytes.length := ⟨_, rfl⟩
  rw [← hn] at hown hbl
  have H3 : Hid (SpB w1 w.heap.size a len cap zs i2 h2 u n s.bytes w3) := ⟨HF.out.2.2.1.below b3, own_monoS hown HF.out.2.2.2.size, Sk.bytes_range s, by omega, grown_tr HF.out.2.2.2 (grown_below _ b3)⟩
  obtain ⟨ys, hys⟩ : ∃ ys, ys = s.bytes := ⟨_, rfl⟩
  rw [← hys] at H3
  have HDone : Hid (∀ (v : Value) (m : Nat) (xs : List Int) (i' h' : Int) (W : World), SpB w1 w.heap.size a len cap zs i' h' v m xs W → ∃ (v' : Value) (n' : Nat) (ys' : List Int), Ending.returned v = .returned v' ∧ W.ownsRow w.heap.size 5 1 v' n' (ys'.map (Value.int .u8)) ∧ (∀ y ∈ ys', 0 ≤ y ∧ y ≤ 255) ∧ n' ≤ 600 ∧ Below w.heap.size w W) := fun v m xs i' h' W H => ⟨v, m, xs, rfl, own_monoS H.own L1.out, H.rng, H.many, HC.out.2.grown H.grown HC.out.2.size (fun j hj => by simp at hj; omega)⟩
  clear hown b3 HF hn hys HC L1
  by_cases hn0 : n = 0
  · subst hn0
    obtain ⟨p, c, rfl⟩ := H3.out.shape
    go_wp2
    go_ret
    exact HDone.out _ _ _ _ _ _ H3.out
  obtain ⟨g, c, rfl, hnc⟩ := own_shape7 H3.out.own (by omega)
  have hpos : (0 : Int) < (n : Int) := by omega
  go_wp2_with fail
  refine (l1Below_any w.heap.size a len cap zs i2 h2 5 _ H3.out.cur hlen (by omega) (by omega)).mono ?_
  rintro e w4 ⟨y, i4, h4, rfl, y0, y5, C4, g4⟩
  have H4 : Hid (SpB w1 w.heap.size a len cap zs i4 h4 (.slice (some ⟨g, 0, none⟩) n c) n ys w4) := H3.out.next lw C4 g4
  clear C4 g4 H3
  by_cases q0 : y = 0
  · subst q0
    go_wp2_with (first | go_skip | (with_reducible refine stopAppend rfl ?_))
    have H4a : Hid (SpB w1 w.heap.size a len cap zs i4 h4 (.slice (some ⟨g, 0, none⟩) n c) n ys (w4.alloc (.cells #[.int .u8 0] 5))) := H4.out.next lw (H4.out.cur.below ((Below.refl _ _).alloc (Nat.le_refl _) _)) (grown_below _ ((Below.refl _ _).alloc (Nat.le_refl _) _))
    refine Stop.intro (wpList_append_own _ rfl _ _ 22 rfl w1.heap.size 5 i0 (.int .u8 0) 1 1 Tryz.underlying22 hi hz0 hz1 hz2 rfl (by decide) _ _ _ rfl H4a.out.own ⟨w4.heap.size, 0, none⟩ 1 1 [.int .u8 0] rfl rfl (cell_one7 _ _ _) (by intro u hu; simp at hu; rw [hu]; rfl) (by unfold maxLen; omega) (by omega) H4a.out.grown.size ?_)
    intro v5 w5 hown hgrow _
    have H5 : Hid (SpB w1 w.heap.size a len cap zs i4 h4 v5 (n + 1) (ys ++ [0]) w5) := by
      have ob : ∀ j, (Value.slice (some ⟨g, 0, none⟩) n c).ownBlock = some j → w1.heap.size ≤ j := fun j hj => (H4a.out.own.lt j hj).1
      refine ⟨cur_agree H4a.out.cur (World.block_lt_of_cell? _ _ H4a.out.cur.c0) (hgrow.block _ (World.block_lt_of_cell? _ _ H4a.out.cur.c0) (fun e => by have := ob _ e.symm; omega)) (fun b hb hx => hgrow.block b hb (fun e => by have := ob _ e.symm; have := HL.out b hx; omega)), by rw [List.map_append]; exact hown, fun y hy => ?_, by omega, ?_⟩
      · rcases List.mem_append.1 hy with p | p
        · exact H4a.out.rng y p
        · simp at p; omega
      · exact ⟨hgrow.os.trans H4a.out.grown.os, hgrow.tape.trans H4a.out.grown.tape, hgrow.output.trans H4a.out.grown.output, Nat.le_trans H4a.out.grown.size hgrow.size, fun j hj hr => (hgrow.block j (Nat.lt_of_lt_of_le hj H4a.out.grown.size) (fun e => by have := ob _ e.symm; omega)).trans (H4a.out.grown.block j hj hr)⟩
    clear hown hgrow H4a H4
    go_wp2
    go_ret
    exact HDone.out _ _ _ _ _ _ H5.out
  have z0 : (y == 0) = false := by simpa using q0
  by_cases q1 : y = 1
  · subst q1
    go_wp2_with fail
    refine (l1Below_any w.heap.size a len cap zs i4 h4 n _ H4.out.cur hlen (by omega) (by omega)).mono ?_
    rintro e w5 ⟨j, i5, h5, rfl, j0, jn, C5, g5⟩
    have H5 : Hid (SpB w1 w.heap.size a len cap zs i5 h5 (.slice (some ⟨g, 0, none⟩) n c) n ys w5) := H4.out.next lw C5 g5
    clear C5 g5 H4
    obtain ⟨t, rfl⟩ := Int.eq_ofNat_of_zero_le j0
    have htn : t < n := by omega
    have htc : (t : Int) ≤ (c : Int) := by omega
    clear j0
    go_wp2
    go_ret
    exact HDone.out _ _ _ _ _ _ (H5.out.cut (by omega))
  have z1 : (y == 1) = false := by simpa using q1
  by_cases q2 : y = 2
  · subst q2
    go_wp2_with fail
    refine (l1Below_any w.heap.size a len cap zs i4 h4 n _ H4.out.cur hlen (by omega) (by omega)).mono ?_
    rintro e w5 ⟨j, i5, h5, rfl, j0, jn, C5, g5⟩
    have H5 : Hid (SpB w1 w.heap.size a len cap zs i5 h5 (.slice (some ⟨g, 0, none⟩) n c) n ys w5) := H4.out.next lw C5 g5
    clear C5 g5 H4
    obtain ⟨t, rfl⟩ := Int.eq_ofNat_of_zero_le j0
    have htn : t < n := by omega
    have htI : (t : Int) < (n : Int) := by omega
    clear j0
    go_wp2_with fail
    refine (l1Byte_any w.heap.size a len cap zs i5 h5 _ H5.out.cur hlen).mono ?_
    rintro e w6 ⟨x, i6, h6, rfl, x0, x1, C6, g6⟩
    have H6 : Hid (SpB w1 w.heap.size a len cap zs i6 h6 (.slice (some ⟨g, 0, none⟩) n c) n ys w6) := H5.out.next lw C6 g6
    clear C6 g6 H5
    have cs := H6.out.cell htn
    have fs := H6.out.frozen t
    have H7 : Hid (SpB w1 w.heap.size a len cap zs i6 h6 (.slice (some ⟨g, 0, none⟩) n c) n (ys.set t x) (w6.setCell ⟨g, t, none⟩ (.int .u8 x))) := H6.out.store lw HL.out ⟨x0, x1⟩
    have hwr : IntKind.u8.wrap x = x := by simp [IntKind.wrap, IntKind.bits, IntKind.signed]; omega
    clear H6
    go_wp2
    all_goals
      go_ret
      exact HDone.out _ _ _ _ _ _ H7.out
  have z2 : (y == 2) = false := by simpa using q2
  go_wp2
  go_ret
  exact HDone.out _ _ _ _ _ _ H4.out
end Go.Proofs.YtjndcfamfminkabGreat
/- What the model reads, in turn, of a frame's bytes. No statement of the seat is proved here. -/
namespace Go.Proofs.YtjndcfamfminkabGreat
open Go.RowKit
def pairsTo (l : List Int) : Nat → Sp
  | 0 => []
  | k + 1 => pairsTo l k ++ [(l.getD (2 * k) 0, l.getD (2 * k + 1) 0)]
theorem pairsTo_len (l : List Int) : ∀ k, (pairsTo l k).length = k
  | 0 => rfl
  | k + 1 => by rw [pairsTo, List.length_append, pairsTo_len l k]; rfl
theorem pairsTo_flat : ∀ (ps : Sp) (k : Nat), k ≤ ps.length → pairsTo (flat ps) k = ps.take k
  | ps, 0, _ => by simp [pairsTo]
  | ps, k + 1, h => by
    rw [pairsTo, pairsTo_flat ps k (by omega), List.getD_eq_getElem?_getD, List.getD_eq_getElem?_getD, flat_lo, flat_hi, List.take_add_one, List.getElem?_eq_getElem (show k < ps.length by omega)]
    rfl
theorem pairsTo_all {ps : Sp} {n : Nat} (h : n = ps.length) : pairsTo (flat ps) n = ps := by
  rw [pairsTo_flat ps n (by omega), List.take_of_length_le (by omega)]
def headOf (g : Fr) : List Int := [g.kind, g.agent, g.epoch, g.granted, (g.taken.length : Int)]
def tailOf (g : Fr) : List Int := [g.item.seq, g.item.cls, g.item.key, g.item.window]
theorem headOf_in {g : Fr} (hg : g.ok = true) : ∀ x ∈ headOf g, InN x := fun x hx => Fr.right_numbers (Fr.ok_right hg) x (by
  unfold Fr.numbers
  exact List.mem_append_left _ (List.mem_append_left _ hx))
theorem frIs_noBody2 {B : List Int} (h : ∀ g : Fr, g.ok = true → B ≠ g.body) : FrIs (B ++ sumOf B) Fr.zero false := by
  refine frIs_ne (fun g hg e => ?_)
  rw [Fr.bytes_ok hg] at e
  exact h g hg (app4_inj (sumOf_len _) (sumOf_len _) e).1
theorem body_head {g : Fr} (hg : g.ok = true) : getTo g.body 2 5 = some (headOf g, 2 + ((putAll (headOf g)).length : Int)) := by
  have a := getTo_all [87, 82] (headOf g) (putAll (flat g.taken) ++ (if g.kind = 1 then putAll (tailOf g) ++ g.item.sk.bytes else [])) (headOf_in hg) (m := 5) rfl
  unfold Fr.body
  rw [List.append_assoc]
  exact a
theorem body_spans {g : Fr} (hg : g.ok = true) : getTo g.body (2 + ((putAll (headOf g)).length : Int)) (2 * g.taken.length) = some (flat g.taken, 2 + ((putAll (headOf g)).length : Int) + ((putAll (flat g.taken)).length : Int)) := by
  have a := getTo_all ([87, 82] ++ putAll (headOf g)) (flat g.taken) (if g.kind = 1 then putAll (tailOf g) ++ g.item.sk.bytes else []) (Fr.right_spans (Fr.ok_right hg)) (flat_length _)
  rw [List.length_append, Int.natCast_add] at a
  unfold Fr.body
  exact a
theorem body_item {g : Fr} (hg : g.ok = true) (hk : g.kind = 1) : getTo g.body (2 + ((putAll (headOf g)).length : Int) + ((putAll (flat g.taken)).length : Int)) 4 = some (tailOf g, 2 + ((putAll (headOf g)).length : Int) + ((putAll (flat g.taken)).length : Int) + ((putAll (tailOf g)).length : Int)) := by
  have i := (Fr.ok_right hg).item
  rw [if_pos hk] at i
  obtain ⟨i1, i2, i3, i4, _⟩ := It.ok_nums i
  have a := getTo_all ([87, 82] ++ putAll (headOf g) ++ putAll (flat g.taken)) (tailOf g) g.item.sk.bytes (by
    intro x hx
    unfold tailOf at hx
    simp only [List.mem_cons, List.not_mem_nil, or_false] at hx
    unfold InN at *
    rcases hx with rfl | rfl | rfl | rfl <;> omega) (m := 4) rfl
  rw [List.length_append, List.length_append, Int.natCast_add, Int.natCast_add] at a
  unfold Fr.body
  rw [if_pos hk, ← List.append_assoc]
  exact a
theorem body_rest {g : Fr} (hk : g.kind = 1) : g.body.drop (2 + (putAll (headOf g)).length + (putAll (flat g.taken)).length + (putAll (tailOf g)).length) = g.item.sk.bytes := by
  unfold Fr.body
  rw [if_pos hk, ← List.append_assoc]
  refine List.drop_left' ?_
  rw [List.length_append, List.length_append, List.length_append]
  rfl
/-- The head is not there. -/
theorem of_head {B : List Int} (h : getTo B 2 5 = none) : FrIs (B ++ sumOf B) Fr.zero false := frIs_noBody2 (fun g hg e => by
  rw [e, body_head hg] at h; cases h)
theorem of_many {B l : List Int} {p : Int} (h : getTo B 2 5 = some (l, p)) (hb : 100 < l.getD 4 0) : FrIs (B ++ sumOf B) Fr.zero false := frIs_noBody2 (fun g hg e => by
  rw [e, body_head hg] at h; cases h
  have := (Fr.ok_right hg).many
  have q : (headOf g).getD 4 0 = (g.taken.length : Int) := rfl
  omega)
/-- What a body with this head is. -/
theorem of_eq {B l : List Int} {p : Int} (h : getTo B 2 5 = some (l, p)) {g : Fr} (hg : g.ok = true) (e : B = g.body) : l = headOf g ∧ p = 2 + ((putAll (headOf g)).length : Int) := by
  rw [e, body_head hg] at h; cases h; exact ⟨rfl, rfl⟩
theorem of_spans {B l : List Int} {p : Int} {n : Nat} (h : getTo B 2 5 = some (l, p)) (hn : l.getD 4 0 = (n : Int)) (k : getTo B p (2 * n) = none) : FrIs (B ++ sumOf B) Fr.zero false := frIs_noBody2 (fun g hg e => by
  obtain ⟨rfl, rfl⟩ := of_eq h hg e
  have q : (headOf g).getD 4 0 = (g.taken.length : Int) := rfl
  obtain rfl : n = g.taken.length := by omega
  rw [e, body_spans hg] at k; cases k)
theorem of_eq2 {B l m : List Int} {p q : Int} {n : Nat} (h : getTo B 2 5 = some (l, p)) (hn : l.getD 4 0 = (n : Int)) (k : getTo B p (2 * n) = some (m, q)) {g : Fr} (hg : g.ok = true) (e : B = g.body) :
    l = headOf g ∧ n = g.taken.length ∧ m = flat g.taken ∧ q = 2 + ((putAll (headOf g)).length : Int) + ((putAll (flat g.taken)).length : Int) := by
  obtain ⟨rfl, rfl⟩ := of_eq h hg e
  have z : (headOf g).getD 4 0 = (g.taken.length : Int) := rfl
  obtain rfl : n = g.taken.length := by omega
  rw [e, body_spans hg] at k; cases k
  exact ⟨rfl, rfl, rfl, rfl⟩
theorem of_item {B l m : List Int} {p q : Int} {n : Nat} (h : getTo B 2 5 = some (l, p)) (hn : l.getD 4 0 = (n : Int)) (k : getTo B p (2 * n) = some (m, q)) (h1 : l.getD 0 0 = 1) (j : getTo B q 4 = none) : FrIs (B ++ sumOf B) Fr.zero false := frIs_noBody2 (fun g hg e => by
  obtain ⟨rfl, rfl, rfl, rfl⟩ := of_eq2 h hn k hg e
  have z : (headOf g).getD 0 0 = g.kind := rfl
  rw [e, body_item hg (by omega)] at j; cases j)
theorem of_eq3 {B l m t : List Int} {p q r : Int} {n : Nat} (h : getTo B 2 5 = some (l, p)) (hn : l.getD 4 0 = (n : Int)) (k : getTo B p (2 * n) = some (m, q)) (h1 : l.getD 0 0 = 1) (j : getTo B q 4 = some (t, r)) {g : Fr} (hg : g.ok = true) (e : B = g.body) :
    l = headOf g ∧ n = g.taken.length ∧ m = flat g.taken ∧ t = tailOf g ∧ B.drop r.toNat = g.item.sk.bytes ∧ g.kind = 1 := by
  obtain ⟨rfl, rfl, rfl, rfl⟩ := of_eq2 h hn k hg e
  have z : (headOf g).getD 0 0 = g.kind := rfl
  have hk : g.kind = 1 := by omega
  rw [e, body_item hg hk] at j; cases j
  refine ⟨rfl, rfl, rfl, rfl, ?_, hk⟩
  rw [e, ← body_rest hk]
  congr 1
theorem of_sketch {B l m t : List Int} {p q r : Int} {n : Nat} {s : Sk} (h : getTo B 2 5 = some (l, p)) (hn : l.getD 4 0 = (n : Int)) (k : getTo B p (2 * n) = some (m, q)) (h1 : l.getD 0 0 = 1) (j : getTo B q 4 = some (t, r)) (hs : SkIs (B.drop r.toNat) s false) : FrIs (B ++ sumOf B) Fr.zero false := frIs_noBody2 (fun g hg e => by
  obtain ⟨rfl, rfl, rfl, rfl, e5, hk⟩ := of_eq3 h hn k h1 j hg e
  have i := (Fr.ok_right hg).item
  rw [if_pos hk] at i
  unfold SkIs at hs
  rw [if_neg (by simp)] at hs
  exact hs.2 _ (It.ok_nums i).2.2.2.2 e5)
/-- All of it is read: it is that frame, or none. -/
theorem of_done {B l m t : List Int} {p q r : Int} {n : Nat} {s : Sk} (h : getTo B 2 5 = some (l, p)) (hn : l.getD 4 0 = (n : Int)) (k : getTo B p (2 * n) = some (m, q)) (h1 : l.getD 0 0 = 1) (j : getTo B q 4 = some (t, r)) (hs : SkIs (B.drop r.toNat) s true)
    {f : Fr} (hf : f = ⟨l.getD 0 0, l.getD 1 0, l.getD 2 0, l.getD 3 0, pairsTo m n, ⟨t.getD 0 0, t.getD 1 0, t.getD 2 0, t.getD 3 0, s⟩⟩) (hno : ¬ (f.ok = true ∧ f.bytes = B ++ sumOf B)) : FrIs (B ++ sumOf B) Fr.zero false := by
  refine frIs_ne (fun g hg e => hno ?_)
  have eb : B = g.body := by
    rw [Fr.bytes_ok hg] at e
    exact (app4_inj (sumOf_len _) (sumOf_len _) e).1
  obtain ⟨rfl, rfl, rfl, rfl, e5, hk⟩ := of_eq3 h hn k h1 j hg eb
  have i := (Fr.ok_right hg).item
  rw [if_pos hk] at i
  have es : s = g.item.sk := by
    unfold SkIs at hs
    rw [if_pos rfl] at hs
    exact Sk.bytes_inj hs.1 (It.ok_nums i).2.2.2.2 (hs.2.symm.trans e5)
  have ef : f = g := by
    rw [hf, pairsTo_all rfl, es]
    rfl
  rw [ef]
  exact ⟨hg, e.symm⟩
theorem of_done0 {B l m : List Int} {p q : Int} {n : Nat} (h : getTo B 2 5 = some (l, p)) (hn : l.getD 4 0 = (n : Int)) (k : getTo B p (2 * n) = some (m, q)) (h1 : ¬ l.getD 0 0 = 1)
    {f : Fr} (hf : f = ⟨l.getD 0 0, l.getD 1 0, l.getD 2 0, l.getD 3 0, pairsTo m n, It.zero⟩) (hno : ¬ (f.ok = true ∧ f.bytes = B ++ sumOf B)) : FrIs (B ++ sumOf B) Fr.zero false := by
  refine frIs_ne (fun g hg e => hno ?_)
  have eb : B = g.body := by
    rw [Fr.bytes_ok hg] at e
    exact (app4_inj (sumOf_len _) (sumOf_len _) e).1
  obtain ⟨rfl, rfl, rfl, rfl⟩ := of_eq2 h hn k hg eb
  have z : (headOf g).getD 0 0 = g.kind := rfl
  have hk : ¬ g.kind = 1 := by omega
  have i := (Fr.ok_right hg).item
  rw [if_neg hk] at i
  have ef : f = g := by
    rw [hf, pairsTo_all rfl, ← i]
    rfl
  rw [ef]
  exact ⟨hg, e.symm⟩
theorem of_short {zs : List Int} (h : zs.length < 6) : FrIs zs Fr.zero false := frIs_ne (fun g hg e => by
  have := Fr.bytes_min hg
  rw [← e] at this
  omega)
end Go.Proofs.YtjndcfamfminkabGreat
/- The walk through the model's SketchOf. No statement of the seat is proved here. -/
namespace Go.Proofs.YtjndcfamfminkabGreat
open Go.RowKit
/-- The place of the result, what is worked on, the list that is read. -/
structure SkW (w : World) (T gn : Nat) (cs : Array Value) (l : List Int) (W : World) : Prop where
  res : Blk W w.heap.size #[.int .i64 0, .int .i64 0, .int .i64 0, .int .i64 0, .slice none 0 0, .slice none 0 0, .slice none 0 0] 28
  loc : Blk W T cs 28
  src : RdI W (some ⟨gn, 0, none⟩) 28 l [gn]
  bel : Below w.heap.size w W
  ord : w.heap.size < gn ∧ gn < T
theorem SkW.below {w W W' : World} {T gn : Nat} {cs : Array Value} {l : List Int} (h : SkW w T gn cs l W) (b : Below W.heap.size W W') : SkW w T gn cs l W' := ⟨h.res.below b, h.loc.below b, h.src.below b, Below.next h.bel b, h.ord⟩
theorem SkW.set {w W : World} {T gn : Nat} {cs : Array Value} {l : List Int} (h : SkW w T gn cs l W) (j : Nat) (v : Value) : SkW w T gn (cs.setIfInBounds j v) l (W.setCell ⟨T, j, none⟩ v) := by
  have o := h.ord
  exact ⟨h.res.setOther (by omega) j v, h.loc.set j v, h.src.agree (.set (by simp; omega) j v), h.bel.setCell (by show w.heap.size ≤ T; omega) v, h.ord⟩
theorem two_lists {W : World} {B : Nat} {F G : List Nat} {s1 : Nat} (hF : Own B W F) (hG : Own s1 W G) (hlt : ∀ b ∈ F, b < s1) (hB : B ≤ s1) : Own B W (F ++ G) ∧ Own B W (G ++ F) :=
  ⟨hF.join hG hlt hB, (hF.join hG hlt hB).perm List.perm_append_comm⟩
set_option maxRecDepth 200000 in
set_option maxHeartbeats 8000000 in
theorem sketchOfSpec_any (a : Option Addr) (len cap : Nat) (zs : List Int) (w : World) (h : RdB w a len zs) (hlen : len ≤ 1048576) :
    Calls Tryz.prog 16 #[.slice a len cap] w fun e w' => NewSk2 w (SkIs zs) e w' := by
  obtain ⟨i0, hi, hz0, hz1, hz2⟩ := info_parts infoInt
  have HR : Hid (RdB w a len zs) := h
  have HZ : Hid (zs.length = len ∧ ∀ x ∈ zs, 0 ≤ x ∧ x ≤ 255) := ⟨h.length, h.range⟩
  have HT : Hid (Blk (w.alloc (.cells #[.int .i64 0, .int .i64 0, .int .i64 0, .int .i64 0, .slice none 0 0, .slice none 0 0, .slice none 0 0] 28)) w.heap.size #[.int .i64 0, .int .i64 0, .int .i64 0, .int .i64 0, .slice none 0 0, .slice none 0 0, .slice none 0 0] 28 ∧ Below w.heap.size w (w.alloc (.cells #[.int .i64 0, .int .i64 0, .int .i64 0, .int .i64 0, .slice none 0 0, .slice none 0 0, .slice none 0 0] 28))) := ⟨Blk.made _ _ _, (Below.refl _ _).alloc (Nat.le_refl _) _⟩
  clear h
  go_enter Tryz.func16, Tryz.ntmps16
  go_wp2_with fail
  refine (l7Get_any a len cap 0 28 zs _ (HR.out.below HT.out.2) hlen (by omega)).mono ?_
  rintro e w1 ⟨⟨v, l, q, rfl, hown, hg⟩, hb1⟩
  have HT1 : Hid (Blk w1 w.heap.size #[.int .i64 0, .int .i64 0, .int .i64 0, .int .i64 0, .slice none 0 0, .slice none 0 0, .slice none 0 0] 28 ∧ Below w.heap.size w w1) := ⟨HT.out.1.below hb1, Below.next HT.out.2 hb1⟩
  clear hb1
  cases hgt : getTo zs 0 28 with
  | none =>
    have HV : Hid (SkIs zs Sk.zero false) := skIs_getNone hgt
    clear hgt hg hown HT
    simp only [Option.isSome]
    go_wp2_with (first | go_skip | (with_reducible refine stopStore 28 rfl ?_))
    refine store_known 28 w.heap.size _ #[.int .i64 0, .int .i64 0, .int .i64 0, .int .i64 0, .slice none 0 0, .slice none 0 0, .slice none 0 0] 28 HT1.out.1 rfl rfl rfl rfl infoSkI rfl (by simp [Value.oneCell']) ?_
    go_wp2
    refine bodyPost_ret (results_row_tmp Tryz.results16 _ _ w.heap.size _ _ _ _ rfl HT1.out.1.setRow Tryz.underlying28 rfl infoSkI) rfl ?_
    exact ⟨_, Sk.zero, false, [], rfl, rdSk_zero7 _, Own.nil, below_setRow HT1.out.2 (Nat.le_refl _) _, HV.out⟩
  | some r =>
    obtain ⟨l', q'⟩ := r
    rw [hgt] at hg
    simp only [Option.getD] at hg
    cases hg
    simp only [Option.isSome]
    by_cases hq : q = len
    rotate_left
    · have hqb : (q != (len : Int)) = true := by simpa using hq
      have HV : Hid (SkIs zs Sk.zero false) := skIs_getOff hgt (by rw [HZ.out.1]; exact hq)
      clear hgt hown HT hq
      go_wp2_with (first | go_skip | (with_reducible refine stopStore 28 rfl ?_))
      refine store_known 28 w.heap.size _ #[.int .i64 0, .int .i64 0, .int .i64 0, .int .i64 0, .slice none 0 0, .slice none 0 0, .slice none 0 0] 28 HT1.out.1 rfl rfl rfl rfl infoSkI rfl (by simp [Value.oneCell']) ?_
      go_wp2
      refine bodyPost_ret (results_row_tmp Tryz.results16 _ _ w.heap.size _ _ _ _ rfl HT1.out.1.setRow Tryz.underlying28 rfl infoSkI) rfl ?_
      exact ⟨_, Sk.zero, false, [], rfl, rdSk_zero7 _, Own.nil, below_setRow HT1.out.2 (Nat.le_refl _) _, HV.out⟩
    subst hq
    have hqb : ((len : Int) != (len : Int)) = false := by simp
    have HA : Hid (zs = putAll l ∧ (∀ x ∈ l, InN x) ∧ l.length = 28) := skIs_getAll HZ.out.2 (by rw [hgt, HZ.out.1])
    rw [HA.out.2.2] at hown
    obtain ⟨gn, cn, rfl, hcn⟩ := own_shape7 hown (by omega)
    obtain ⟨Fs, hrd, _, hFs⟩ := RdI.of_own hown
    have hgn := (hown.lt gn rfl).1
    have hgn2 := (hown.lt gn rfl).2
    have HS1 : Hid (RdI w1 (some ⟨gn, 0, none⟩) 28 l [gn]) := by
      rcases hrd.cells with ⟨h0, _⟩ | ⟨b', off', hp, e, hF, hc⟩
      · omega
      · cases e; exact ⟨hrd.length, .inr ⟨gn, 0, hp, rfl, rfl, hc⟩⟩
    have hgw : w.heap.size < gn := by simp at hgn; omega
    obtain ⟨x0, hx0⟩ : ∃ x, x = l.getD 0 0 := ⟨_, rfl⟩
    obtain ⟨x1, hx1⟩ : ∃ x, x = l.getD 1 0 := ⟨_, rfl⟩
    obtain ⟨x2, hx2⟩ : ∃ x, x = l.getD 2 0 := ⟨_, rfl⟩
    obtain ⟨x3, hx3⟩ : ∃ x, x = l.getD 3 0 := ⟨_, rfl⟩
    have HX : Hid (x0 = l.getD 0 0 ∧ x1 = l.getD 1 0 ∧ x2 = l.getD 2 0 ∧ x3 = l.getD 3 0) := ⟨hx0, hx1, hx2, hx3⟩
    have HS : Hid (NumHeld gn 0 x0 x1 x2 x3 w1.drew) := by rw [hx0, hx1, hx2, hx3]; exact (HS1.out.below (Below.refl _ _).drew).numHeld (by omega)
    have HKN : Hid (∀ W, RdI W (some ⟨gn, 0, none⟩) 28 l [gn] → NumHeld gn 0 x0 x1 x2 x3 W) := fun W r => by rw [hx0, hx1, hx2, hx3]; exact r.numHeld (by omega)
    clear hown hrd hFs hgt hx0 hx1 hx2 hx3 HT hgn
    go_wp2
    refine wp_region_held (S := NumHeld gn 0 x0 x1 x2 x3) (by kernel_rfl) ?_
    change wpAnyH _ _ _ _ _ _ _ _ (World.drew _)
    refine takeH (o := ?o1) 0 (.slice (some ⟨gn, 0, none⟩) 28 cn) ?h1 ?r1
    case h1 => simp only [aT, aZ]; rfl
    refine ⟨_, by simp [Act.put]; rfl, by kernel_rfl, by kernel_rfl, by kernel_rfl, fun _ _ _ h => h, (.inl ⟨rfl, fun W _ => by go_simp⟩), HS.out, ?_⟩
    refine takeH (o := ?o2) 1 (.pointer (some ⟨gn, 0, none⟩)) ?h2 ?r2
    case h2 => simp only [aT, aS, aZ]; rfl
    refine ⟨_, by simp [Act.put]; rfl, by kernel_rfl, by kernel_rfl, by kernel_rfl, fun _ _ _ h => h, (.inl ⟨rfl, fun W _ => by go_simp⟩), HS.out, ?_⟩
    refine takeH (o := ?o3) 2 (.int .i64 x0) ?h3 ?r3
    case h3 => simp only [aT, aS, aZ]; rfl
    refine ⟨_, by simp [Act.put]; rfl, by kernel_rfl, by kernel_rfl, by kernel_rfl, fun _ _ _ h => h, (.inl ⟨rfl, fun W hW => by have c := hW.1; go_simp⟩), HS.out, ?_⟩
    refine takeH (o := ?o4) 3 (.slice (some ⟨gn, 0, none⟩) 28 cn) ?h4 ?r4
    case h4 => simp only [aT, aS, aZ]; rfl
    refine ⟨_, by simp [Act.put]; rfl, by kernel_rfl, by kernel_rfl, by kernel_rfl, fun _ _ _ h => h, (.inl ⟨rfl, fun W _ => by go_simp⟩), HS.out, ?_⟩
    refine takeH (o := ?o5) 4 (.pointer (some ⟨gn, 1, none⟩)) ?h5 ?r5
    case h5 => simp only [aT, aS, aZ]; rfl
    refine ⟨_, by simp [Act.put]; rfl, by kernel_rfl, by kernel_rfl, by kernel_rfl, fun _ _ _ h => h, (.inl ⟨rfl, fun W _ => by go_simp⟩), HS.out, ?_⟩
    refine takeH (o := ?o6) 5 (.int .i64 x1) ?h6 ?r6
    case h6 => simp only [aT, aS, aZ]; rfl
    refine ⟨_, by simp [Act.put]; rfl, by kernel_rfl, by kernel_rfl, by kernel_rfl, fun _ _ _ h => h, (.inl ⟨rfl, fun W hW => by have c := hW.2.1; go_simp⟩), HS.out, ?_⟩
    refine takeH (o := ?o7) 6 (.slice (some ⟨gn, 0, none⟩) 28 cn) ?h7 ?r7
    case h7 => simp only [aT, aS, aZ]; rfl
    refine ⟨_, by simp [Act.put]; rfl, by kernel_rfl, by kernel_rfl, by kernel_rfl, fun _ _ _ h => h, (.inl ⟨rfl, fun W _ => by go_simp⟩), HS.out, ?_⟩
    refine takeH (o := ?o8) 7 (.pointer (some ⟨gn, 2, none⟩)) ?h8 ?r8
    case h8 => simp only [aT, aS, aZ]; rfl
    refine ⟨_, by simp [Act.put]; rfl, by kernel_rfl, by kernel_rfl, by kernel_rfl, fun _ _ _ h => h, (.inl ⟨rfl, fun W _ => by go_simp⟩), HS.out, ?_⟩
    refine takeH (o := ?o9) 8 (.int .i64 x2) ?h9 ?r9
    case h9 => simp only [aT, aS, aZ]; rfl
    refine ⟨_, by simp [Act.put]; rfl, by kernel_rfl, by kernel_rfl, by kernel_rfl, fun _ _ _ h => h, (.inl ⟨rfl, fun W hW => by have c := hW.2.2.1; go_simp⟩), HS.out, ?_⟩
    refine takeH (o := ?o10) 9 (.slice (some ⟨gn, 0, none⟩) 28 cn) ?h10 ?r10
    case h10 => simp only [aT, aS, aZ]; rfl
    refine ⟨_, by simp [Act.put]; rfl, by kernel_rfl, by kernel_rfl, by kernel_rfl, fun _ _ _ h => h, (.inl ⟨rfl, fun W _ => by go_simp⟩), HS.out, ?_⟩
    refine takeH (o := ?o11) 10 (.pointer (some ⟨gn, 3, none⟩)) ?h11 ?r11
    case h11 => simp only [aT, aS, aZ]; rfl
    refine ⟨_, by simp [Act.put]; rfl, by kernel_rfl, by kernel_rfl, by kernel_rfl, fun _ _ _ h => h, (.inl ⟨rfl, fun W _ => by go_simp⟩), HS.out, ?_⟩
    refine takeH (o := ?o12) 11 (.int .i64 x3) ?h12 ?r12
    case h12 => simp only [aT, aS, aZ]; rfl
    refine ⟨_, by simp [Act.put]; rfl, by kernel_rfl, by kernel_rfl, by kernel_rfl, fun _ _ _ h => h, (.inl ⟨rfl, fun W hW => by have c := hW.2.2.2; go_simp⟩), HS.out, ?_⟩
    refine takeH (o := ?o13) 12 (.agg #[.int .i64 x0, .int .i64 x1, .int .i64 x2, .int .i64 x3, .slice none 0 0, .slice none 0 0, .slice none 0 0]) ?h13 ?r13
    case h13 => simp only [aT, aS, aZ]; rfl
    refine ⟨_, by simp [Act.put]; rfl, by kernel_rfl, by kernel_rfl, by kernel_rfl, fun _ _ _ h => h, (.inl ⟨rfl, fun W _ => by go_simp⟩), HS.out, ?_⟩
    refine onlyH (o := ?o14) 13 (by kernel_rfl) ?h14 ?r14
    case h14 => simp only [aT, aS, aZ]; rfl
    intro K hK
    have bA : Below w1.drew.heap.size w1.drew (w1.drew.alloc (.cells #[.int .i64 0, .int .i64 0, .int .i64 0, .int .i64 0, .slice none 0 0, .slice none 0 0, .slice none 0 0] 28)) := (Below.refl _ _).alloc (Nat.le_refl _) _
    have HA1 : Hid (SkW w w1.heap.size gn #[.int .i64 0, .int .i64 0, .int .i64 0, .int .i64 0, .slice none 0 0, .slice none 0 0, .slice none 0 0] l (w1.drew.alloc (.cells #[.int .i64 0, .int .i64 0, .int .i64 0, .int .i64 0, .slice none 0 0, .slice none 0 0, .slice none 0 0] 28))) := ⟨HT1.out.1.drew.below bA, Blk.made w1.drew _ _, (HS1.out.below (Below.refl _ _).drew).below bA, Below.next HT1.out.2.drew bA, hgw, hgn2⟩
    refine op_turn (.pointer (some ⟨w1.heap.size, 0, none⟩)) (w1.drew.alloc (.cells #[.int .i64 0, .int .i64 0, .int .i64 0, .int .i64 0, .slice none 0 0, .slice none 0 0, .slice none 0 0] 28)) rfl (by go_simp) ⟨_, by simp [Act.put]; rfl, hK _ _ ⟨HKN.out _ HA1.out.src, ?_⟩⟩
    clear hK bA
    refine onlyH (o := ?o15) 14 (by kernel_rfl) ?h15 ?r15
    case h15 => simp only [aT, aS, aZ]; rfl
    intro K hK
    have HA2 : Hid (SkW w w1.heap.size gn #[.int .i64 x0, .int .i64 x1, .int .i64 x2, .int .i64 x3, .slice none 0 0, .slice none 0 0, .slice none 0 0] l ((w1.drew.alloc (.cells #[.int .i64 0, .int .i64 0, .int .i64 0, .int .i64 0, .slice none 0 0, .slice none 0 0, .slice none 0 0] 28)).setRow w1.heap.size #[.int .i64 x0, .int .i64 x1, .int .i64 x2, .int .i64 x3, .slice none 0 0, .slice none 0 0, .slice none 0 0])) := by
      have o := HA1.out.ord
      exact ⟨HA1.out.res.setRowOther (by omega), HA1.out.loc.setRow, HA1.out.src.agree (Agree.row (by simp; omega) _), below_setRow HA1.out.bel (by omega) _, o⟩
    refine op_store 28 w1.heap.size #[.int .i64 0, .int .i64 0, .int .i64 0, .int .i64 0, .slice none 0 0, .slice none 0 0, .slice none 0 0] #[.int .i64 x0, .int .i64 x1, .int .i64 x2, .int .i64 x3, .slice none 0 0, .slice none 0 0, .slice none 0 0] 28 rfl rfl rfl rfl HA1.out.loc infoSkI rfl (by simp [Value.oneCell']) ⟨_, by simp [Act.put]; rfl, hK _ _ ⟨HKN.out _ HA2.out.src, ?_⟩⟩
    clear hK HA1
    refine wpAnyH_done (by kernel_rfl) ?_ _
    obtain ⟨W1, hW1⟩ : ∃ W, W = (w1.drew.alloc (.cells #[.int .i64 0, .int .i64 0, .int .i64 0, .int .i64 0, .slice none 0 0, .slice none 0 0, .slice none 0 0] 28)).setRow w1.heap.size #[.int .i64 x0, .int .i64 x1, .int .i64 x2, .int .i64 x3, .slice none 0 0, .slice none 0 0, .slice none 0 0] := ⟨_, rfl⟩
    rw [← hW1] at HA2 ⊢
    obtain ⟨T, hT⟩ : ∃ T, T = w1.heap.size := ⟨_, rfl⟩
    rw [← hT] at HA2 ⊢
    clear hW1 hT HS HS1 HT1 hgn2 hgw HKN
    have bE : Below W1.heap.size W1 (W1.alloc (.cells #[] 3)) := (Below.refl _ _).alloc (Nat.le_refl _) _
    have HE1 : Hid (SkW w T gn #[.int .i64 x0, .int .i64 x1, .int .i64 x2, .int .i64 x3, .slice none 0 0, .slice none 0 0, .slice none 0 0] l (W1.alloc (.cells #[] 3))) := HA2.out.below bE
    have bE1 : Hid (Below W1.heap.size W1 (W1.alloc (.cells #[] 3))) := bE
    clear bE
    go_wp2_with (with_reducible refine stopAppend rfl ?_)
    refine Stop.intro (wpList_append_grows _ rfl _ _ 25 rfl 3 i0 (.int .i64 0) 1 8 Tryz.underlying25 hi hz0 hz1 hz2 rfl (by decide) (some ⟨W1.heap.size, 0, none⟩) 0 0 [] rfl (by intro h; cases h) (by simp) (fun _ _ j u hj => by simp at hj) ⟨gn, 4, none⟩ 8 (cn - 4) (((l.drop 4).take 8).map (Value.int .i64)) rfl (by have := HA.out.2.2; simp; omega) ((HE1.out.src.part (k := 4) (n := 8) (by omega) (by omega)).from (Below.refl _ _) (by omega)) (ints_one _) (by omega) (by unfold maxLen; omega) (by omega) ?_)
    intro v1 W2 hown hgrow
    have bG : Below (W1.alloc (.cells #[] 3)).heap.size (W1.alloc (.cells #[] 3)) W2 := (Below.refl _ _).grown hgrow (Nat.le_refl _) (fun g e => by cases e)
    obtain ⟨p1, q1, X1, rfl, hr1, ho1⟩ := rdI_of_own (by simpa using hown : W2.ownsRow (W1.alloc (.cells #[] 3)).heap.size 3 1 v1 8 (((l.drop 4).take 8).map (Value.int .i64)))
    have HB1 : Hid (SkW w T gn #[.int .i64 x0, .int .i64 x1, .int .i64 x2, .int .i64 x3, .slice none 0 0, .slice none 0 0, .slice none 0 0] l W2) := HE1.out.below bG
    have lT : T < W1.heap.size := HA2.out.loc.lt
    have hW : W1.heap.size ≤ (W1.alloc (.cells #[] 3)).heap.size := bE1.out.size
    have nT : T ∉ X1 := fun hx => by have := ho1.ge _ hx; omega
    have HP1 : Hid (RdI (W2.setCell ⟨T, 4, none⟩ (.slice p1 8 q1)) p1 8 ((l.drop 4).take 8) X1 ∧ Own (T + 1) (W2.setCell ⟨T, 4, none⟩ (.slice p1 8 q1)) X1) := ⟨hr1.agree (.set nT 4 _), (ho1.mono (by omega)).agree (.set nT 4 _)⟩
    have HA3 : Hid (SkW w T gn #[.int .i64 x0, .int .i64 x1, .int .i64 x2, .int .i64 x3, .slice p1 8 q1, .slice none 0 0, .slice none 0 0] l (W2.setCell ⟨T, 4, none⟩ (.slice p1 8 q1))) := HB1.out.set 4 _
    have c4 := HB1.out.loc.cell 4
    have f4 := HB1.out.loc.frozen 4
    simp only [aT, aS, aZ] at c4
    clear hown hgrow bG hr1 ho1 nT lT hW HB1 HE1 bE1 HA2
    obtain ⟨W3, hW3⟩ : ∃ W, W = W2.setCell ⟨T, 4, none⟩ (.slice p1 8 q1) := ⟨_, rfl⟩
    rw [← hW3] at HA3 HP1
    go_upto_region 8 with fail
    rw [← hW3]
    clear hW3 c4 f4
    have bE : Below W3.heap.size W3 (W3.alloc (.cells #[] 3)) := (Below.refl _ _).alloc (Nat.le_refl _) _
    have HE2 : Hid (SkW w T gn #[.int .i64 x0, .int .i64 x1, .int .i64 x2, .int .i64 x3, .slice p1 8 q1, .slice none 0 0, .slice none 0 0] l (W3.alloc (.cells #[] 3))) := HA3.out.below bE
    have bE2 : Hid (Below W3.heap.size W3 (W3.alloc (.cells #[] 3))) := bE
    clear bE
    go_wp2_with (with_reducible refine stopAppend rfl ?_)
    refine Stop.intro (wpList_append_grows _ rfl _ _ 25 rfl 3 i0 (.int .i64 0) 1 8 Tryz.underlying25 hi hz0 hz1 hz2 rfl (by decide) (some ⟨W3.heap.size, 0, none⟩) 0 0 [] rfl (by intro h; cases h) (by simp) (fun _ _ j u hj => by simp at hj) ⟨gn, 12, none⟩ 8 (cn - 12) (((l.drop 12).take 8).map (Value.int .i64)) rfl (by have := HA.out.2.2; simp; omega) ((HE2.out.src.part (k := 12) (n := 8) (by omega) (by omega)).from (Below.refl _ _) (by omega)) (ints_one _) (by omega) (by unfold maxLen; omega) (by omega) ?_)
    intro v2 W4 hown hgrow
    have bG : Below (W3.alloc (.cells #[] 3)).heap.size (W3.alloc (.cells #[] 3)) W4 := (Below.refl _ _).grown hgrow (Nat.le_refl _) (fun g e => by cases e)
    obtain ⟨p2, q2, X2, rfl, hr2, ho2⟩ := rdI_of_own (by simpa using hown : W4.ownsRow (W3.alloc (.cells #[] 3)).heap.size 3 1 v2 8 (((l.drop 12).take 8).map (Value.int .i64)))
    have HB2 : Hid (SkW w T gn #[.int .i64 x0, .int .i64 x1, .int .i64 x2, .int .i64 x3, .slice p1 8 q1, .slice none 0 0, .slice none 0 0] l W4) := HE2.out.below bG
    have lT : T < W3.heap.size := HA3.out.loc.lt
    have hW : W3.heap.size ≤ (W3.alloc (.cells #[] 3)).heap.size := bE2.out.size
    have nT : T ∉ X2 := fun hx => by have := ho2.ge _ hx; omega
    have lX1 : ∀ b ∈ X1, b < W3.heap.size := HP1.out.1.lt
    have nT1 : T ∉ X1 := fun hx => by have := HP1.out.2.ge _ hx; omega
    have bb : Below W3.heap.size W3 W4 := bE2.out.trans (bG.mono bE2.out.size)
    have HP2 : Hid (RdI (W4.setCell ⟨T, 5, none⟩ (.slice p2 8 q2)) p1 8 ((l.drop 4).take 8) X1 ∧ RdI (W4.setCell ⟨T, 5, none⟩ (.slice p2 8 q2)) p2 8 ((l.drop 12).take 8) X2 ∧ Own (T + 1) (W4.setCell ⟨T, 5, none⟩ (.slice p2 8 q2)) (X1 ++ X2)) := ⟨(HP1.out.1.below bb).agree (.set nT1 5 _), hr2.agree (.set nT 5 _), ((HP1.out.2.below lX1 bb).agree (.set nT1 5 _)).join (ho2.agree (.set nT 5 _)) (fun b hb => by have := lX1 b hb; omega) (by omega)⟩
    have HA4 : Hid (SkW w T gn #[.int .i64 x0, .int .i64 x1, .int .i64 x2, .int .i64 x3, .slice p1 8 q1, .slice p2 8 q2, .slice none 0 0] l (W4.setCell ⟨T, 5, none⟩ (.slice p2 8 q2))) := HB2.out.set 5 _
    have c5 := HB2.out.loc.cell 5
    have f5 := HB2.out.loc.frozen 5
    simp only [aT, aS, aZ] at c5
    clear hown hgrow bG hr2 ho2 nT nT1 lX1 bb lT hW HB2 HE2 bE2 HA3 HP1
    go_wp2
    obtain ⟨W5, hW5⟩ : ∃ W, W = W4.setCell ⟨T, 5, none⟩ (.slice p2 8 q2) := ⟨_, rfl⟩
    rw [← hW5] at HA4 HP2 ⊢
    clear hW5 c5 f5
    have HD : Hid (SkW w T gn #[.int .i64 x0, .int .i64 x1, .int .i64 x2, .int .i64 x3, .slice p1 8 q1, .slice p2 8 q2, .slice none 0 0] l W5.drew ∧ RdI W5.drew p1 8 ((l.drop 4).take 8) X1 ∧ RdI W5.drew p2 8 ((l.drop 12).take 8) X2 ∧ Own (T + 1) W5.drew (X1 ++ X2)) := ⟨HA4.out.below (Below.refl _ _).drew, HP2.out.1.below (Below.refl _ _).drew, HP2.out.2.1.below (Below.refl _ _).drew, HP2.out.2.2.agree (fun _ _ => rfl)⟩
    clear HA4 HP2
    refine wp_region_held (S := fun _ => True) (by kernel_rfl) ?_
    change wpAnyH _ _ _ _ _ _ _ _ (World.drew _)
    obtain ⟨Y, hY⟩ : ∃ Y, Y = W5.drew := ⟨_, rfl⟩
    rw [← hY] at HD ⊢
    clear hY
    refine takeH (o := ?o16) 1 (.slice (some ⟨gn, 0, none⟩) 28 cn) ?h16 ?r16
    case h16 => simp only [aT, aS, aZ]; rfl
    refine ⟨_, by simp [Act.put]; rfl, by kernel_rfl, by kernel_rfl, by kernel_rfl, fun _ _ _ h => h, (.inl ⟨rfl, fun W _ => by go_simp⟩), trivial, ?_⟩
    refine takeH (o := ?o17) 2 (.int .i64 20) ?h17 ?r17
    case h17 => simp only [aT, aS, aZ]; rfl
    refine ⟨_, by simp [Act.put]; rfl, by kernel_rfl, by kernel_rfl, by kernel_rfl, fun _ _ _ h => h, (.inl ⟨rfl, fun W _ => by go_simp⟩), trivial, ?_⟩
    refine takeH (o := ?o18) 3 (.int .i64 20) ?h18 ?r18
    case h18 => simp only [aT, aS, aZ]; rfl
    refine ⟨_, by simp [Act.put]; rfl, by kernel_rfl, by kernel_rfl, by kernel_rfl, fun _ _ _ h => h, (.inl ⟨rfl, fun W _ => by go_simp⟩), trivial, ?_⟩
    refine takeH (o := ?o19) 4 (.int .i64 24) ?h19 ?r19
    case h19 => simp only [aT, aS, aZ]; rfl
    refine ⟨_, by simp [Act.put]; rfl, by kernel_rfl, by kernel_rfl, by kernel_rfl, fun _ _ _ h => h, (.inl ⟨rfl, fun W _ => by go_simp; rfl⟩), trivial, ?_⟩
    refine takeH (o := ?o20) 5 (.slice (some ⟨gn, 20, none⟩) 4 (cn - 20)) ?h20 ?r20
    case h20 => simp only [aT, aS, aZ]; rfl
    refine ⟨_, by simp [Act.put]; rfl, by kernel_rfl, by kernel_rfl, by kernel_rfl, fun _ _ _ h => h, (.inl ⟨rfl, fun W _ => by go_simp; rw [if_pos (by omega : (24 : Int) ≤ (cn : Int)), if_neg (by omega : ¬ cn = 20)]⟩), trivial, ?_⟩
    refine takeH (o := ?o21) 8 (.slice (some ⟨gn, 0, none⟩) 28 cn) ?h21 ?r21
    case h21 => simp only [aT, aS, aZ]; rfl
    refine ⟨_, by simp [Act.put]; rfl, by kernel_rfl, by kernel_rfl, by kernel_rfl, fun _ _ _ h => h, (.inl ⟨rfl, fun W _ => by go_simp⟩), trivial, ?_⟩
    refine takeH (o := ?o22) 9 (.int .i64 20) ?h22 ?r22
    case h22 => simp only [aT, aS, aZ]; rfl
    refine ⟨_, by simp [Act.put]; rfl, by kernel_rfl, by kernel_rfl, by kernel_rfl, fun _ _ _ h => h, (.inl ⟨rfl, fun W _ => by go_simp⟩), trivial, ?_⟩
    refine takeH (o := ?o23) 10 (.int .i64 24) ?h23 ?r23
    case h23 => simp only [aT, aS, aZ]; rfl
    refine ⟨_, by simp [Act.put]; rfl, by kernel_rfl, by kernel_rfl, by kernel_rfl, fun _ _ _ h => h, (.inl ⟨rfl, fun W _ => by go_simp; rfl⟩), trivial, ?_⟩
    refine takeH (o := ?o24) 11 (.slice (some ⟨gn, 24, none⟩) 4 (cn - 24)) ?h24 ?r24
    case h24 => simp only [aT, aS, aZ]; rfl
    refine ⟨_, by simp [Act.put]; rfl, by kernel_rfl, by kernel_rfl, by kernel_rfl, fun _ _ _ h => h, (.inl ⟨rfl, fun W _ => by go_simp; omega⟩), trivial, ?_⟩
    have BYY : Hid (Below Y.heap.size Y Y) := Below.refl _ _
    refine twoH (o := ?o25) (o' := ?p25) 0 7 (by kernel_rfl) ?h25 ?g25 ?r25 ?s25
    case h25 => simp only [aT, aZ]; rfl
    case g25 => simp only [aT, aS, aZ]; rfl
    case r25 =>
      intro K hK
      have bx1 : Hid (Below Y.heap.size Y (Y.alloc (.cells #[] 3))) := (Below.refl _ _).alloc (Nat.le_refl _) _
      refine op_turn (.slice (some ⟨Y.heap.size, 0, none⟩) 0 0) (Y.alloc (.cells #[] 3)) rfl (by go_simp) ⟨_, by simp [Act.put]; rfl, hK _ _ ⟨trivial, ?_⟩⟩
      clear hK
      obtain ⟨Y1, hY1⟩ : ∃ Z, Z = Y.alloc (.cells #[] 3) := ⟨_, rfl⟩
      rw [← hY1] at bx1 ⊢
      clear hY1
      have BYY1 : Hid (Below Y.heap.size Y Y1) := Below.next BYY.out bx1.out
      refine twoH (o := ?o26) (o' := ?p26) 6 7 (by kernel_rfl) ?h26 ?g26 ?r26 ?s26
      case h26 => simp only [aT, aS, aZ]; rfl
      case g26 => simp only [aT, aS, aZ]; rfl
      case r26 =>
        intro K hK
        refine op_grows _ _ 25 rfl rfl 3 i0 (.int .i64 0) 1 8 Tryz.underlying25 hi hz0 hz1 hz2 rfl (by decide) (some _) rfl ⟨gn, 20, none⟩ 4 (cn - 20) (((l.drop 20).take 4).map (Value.int .i64)) rfl (by have := HA.out.2.2; simp; omega) (((HD.out.1.src.below BYY1.out).part (k := 20) (n := 4) (by omega) (by omega)).from (Below.refl _ _) (by omega)) (ints_one _) (by omega) (by unfold maxLen; omega) (by omega) ?_
        intro vA Y2 hown bx
        obtain ⟨rA, kA, XA, rfl, hr, ho⟩ := rdI_of_own hown
        have RA : Hid (RdI Y2 rA 4 ((l.drop 20).take 4) XA ∧ Own Y1.heap.size Y2 XA) := ⟨hr, ho⟩
        have bx2 : Hid (Below Y1.heap.size Y1 Y2) := bx
        have BYY2 : Hid (Below Y.heap.size Y Y2) := Below.next BYY1.out bx
        refine ⟨_, by simp [Act.put]; rfl, hK _ _ ⟨trivial, ?_⟩⟩
        clear hK hown hr ho bx
        have RA : Hid (RdI Y2 rA 4 ((l.drop 20).take 4) XA ∧ Own Y.heap.size Y2 XA ∧ ∀ b ∈ XA, b < Y2.heap.size) := ⟨RA.out.1, RA.out.2.mono BYY1.out.size, fun b hb => RA.out.1.lt b hb⟩
        refine onlyH (o := ?o27) 7 (by kernel_rfl) ?h27 ?r27
        case h27 => simp only [aT, aS, aZ]; rfl
        intro K hK
        have bx3 : Hid (Below Y2.heap.size Y2 (Y2.alloc (.cells #[] 3))) := (Below.refl _ _).alloc (Nat.le_refl _) _
        refine op_turn (.slice (some ⟨Y2.heap.size, 0, none⟩) 0 0) (Y2.alloc (.cells #[] 3)) rfl (by go_simp) ⟨_, by simp [Act.put]; rfl, hK _ _ ⟨trivial, ?_⟩⟩
        clear hK
        obtain ⟨Y3, hY3⟩ : ∃ Z, Z = Y2.alloc (.cells #[] 3) := ⟨_, rfl⟩
        rw [← hY3] at bx3 ⊢
        clear hY3
        have BYY3 : Hid (Below Y.heap.size Y Y3) := Below.next BYY2.out bx3.out
        have RA : Hid (RdI Y3 rA 4 ((l.drop 20).take 4) XA ∧ Own Y.heap.size Y3 XA ∧ ∀ b ∈ XA, b < Y2.heap.size) := ⟨RA.out.1.below bx3.out, RA.out.2.1.below RA.out.1.lt bx3.out, fun b hb => RA.out.1.lt b hb⟩
        refine onlyH (o := ?o28) 12 (by kernel_rfl) ?h28 ?r28
        case h28 => simp only [aT, aS, aZ]; rfl
        intro K hK
        refine op_grows _ _ 25 rfl rfl 3 i0 (.int .i64 0) 1 8 Tryz.underlying25 hi hz0 hz1 hz2 rfl (by decide) (some _) rfl ⟨gn, 24, none⟩ 4 (cn - 24) (((l.drop 24).take 4).map (Value.int .i64)) rfl (by have := HA.out.2.2; simp; omega) (((HD.out.1.src.below BYY3.out).part (k := 24) (n := 4) (by omega) (by omega)).from (Below.refl _ _) (by omega)) (ints_one _) (by omega) (by unfold maxLen; omega) (by omega) ?_
        intro vB Y4 hown bx
        obtain ⟨rB, kB, XB, rfl, hr, ho⟩ := rdI_of_own hown
        have RB : Hid (RdI Y4 rB 4 ((l.drop 24).take 4) XB ∧ Own Y3.heap.size Y4 XB) := ⟨hr, ho⟩
        have bx4 : Hid (Below Y3.heap.size Y3 Y4) := bx
        have BYY4 : Hid (Below Y.heap.size Y Y4) := Below.next BYY3.out bx
        refine ⟨_, by simp [Act.put]; rfl, hK _ _ ⟨trivial, ?_⟩⟩
        clear hK hown hr ho bx
        have RA : Hid (RdI Y4 rA 4 ((l.drop 20).take 4) XA ∧ Own Y.heap.size Y4 XA ∧ ∀ b ∈ XA, b < Y3.heap.size) := ⟨RA.out.1.below bx4.out, RA.out.2.1.below RA.out.1.lt bx4.out, fun b hb => RA.out.1.lt b hb⟩
        have JJ := two_lists (B := Y.heap.size) RA.out.2.1 RB.out.2 (fun b hb => RA.out.2.2 b hb) (BYY3.out.size)
        have HRW : Hid (RdI Y4 rA 4 ((l.drop 20).take 4) XA ∧ RdI Y4 rB 4 ((l.drop 24).take 4) XB ∧ Own Y.heap.size Y4 (XA ++ XB)) := ⟨RA.out.1, RB.out.1, JJ.1⟩
        clear JJ RA RB
        refine onlyH (o := ?o29) 13 (by kernel_rfl) ?h29 ?r29
        case h29 => simp only [aT, aS, aZ]; rfl
        intro K hK
        have bV : Below Y4.heap.size Y4 (Y4.alloc (.cells #[.slice rA 4 kA, .slice rB 4 kB] 25)) := (Below.refl _ _).alloc (Nat.le_refl _) _
        have HF : Hid (SkW w T gn #[.int .i64 x0, .int .i64 x1, .int .i64 x2, .int .i64 x3, .slice p1 8 q1, .slice p2 8 q2, .slice none 0 0] l (Y4.alloc (.cells #[.slice rA 4 kA, .slice rB 4 kB] 25)) ∧ RdI (Y4.alloc (.cells #[.slice rA 4 kA, .slice rB 4 kB] 25)) p1 8 ((l.drop 4).take 8) X1 ∧ RdI (Y4.alloc (.cells #[.slice rA 4 kA, .slice rB 4 kB] 25)) p2 8 ((l.drop 12).take 8) X2 ∧ RdII (Y4.alloc (.cells #[.slice rA 4 kA, .slice rB 4 kB] 25)) (some ⟨Y4.heap.size, 0, none⟩) 2 [(l.drop 20).take 4, (l.drop 24).take 4] (Y4.heap.size :: (XA ++ XB)) ∧ Own (T + 1) (Y4.alloc (.cells #[.slice rA 4 kA, .slice rB 4 kB] 25)) (X1 ++ (X2 ++ (Y4.heap.size :: (XA ++ XB))))) := by
          have bY := Below.next BYY4.out bV
          have bl := Blk.made Y4 #[.slice rA 4 kA, .slice rB 4 kB] 25
          have o12 := HD.out.2.2.2.below (fun b hb => (List.mem_append.1 hb).elim (HD.out.2.1.lt b) (HD.out.2.2.1.lt b)) bY
          have lAB : ∀ b ∈ XA ++ XB, b < Y4.heap.size := fun b hb => (List.mem_append.1 hb).elim (HRW.out.1.lt b) (HRW.out.2.1.lt b)
          have oAB := (HRW.out.2.2.below lAB bV).blk bl (fun hx => by have := lAB _ hx; omega) BYY4.out.size
          have lT : T < Y.heap.size := HD.out.1.loc.lt
          refine ⟨HD.out.1.below bY, HD.out.2.1.below bY, HD.out.2.2.1.below bY, two_rows4 bl (HRW.out.1.below bV) (HRW.out.2.1.below bV), ?_⟩
          have j := o12.join (oAB.perm List.perm_append_comm) (fun b hb => (List.mem_append.1 hb).elim (HD.out.2.1.lt b) (HD.out.2.2.1.lt b)) (by omega)
          rw [List.append_assoc] at j
          exact j
        refine op_turn (.slice (some ⟨Y4.heap.size, 0, none⟩) 2 2) (Y4.alloc (.cells #[.slice rA 4 kA, .slice rB 4 kB] 25)) rfl (by go_simp) ⟨_, by simp [Act.put]; rfl, hK _ _ ⟨trivial, ?_⟩⟩
        clear hK bV HRW HD
        obtain ⟨Z, hZ⟩ : ∃ Z, Z = Y4.alloc (.cells #[.slice rA 4 kA, .slice rB 4 kB] 25) := ⟨_, rfl⟩
        rw [← hZ] at HF ⊢
        clear hZ
        have gZ : T + 1 ≤ Y4.heap.size := HF.out.2.2.2.2.ge _ (by simp)
        refine takeH (o := ?o30) 14 (.pointer (some ⟨T, 6, none⟩)) ?h30 ?r30
        case h30 => simp only [aT, aS, aZ]; rfl
        refine ⟨_, by simp [Act.put]; rfl, by kernel_rfl, by kernel_rfl, by kernel_rfl, fun _ _ _ h => h, (.inl ⟨rfl, fun W _ => by go_simp⟩), trivial, ?_⟩
        refine onlyH (o := ?o31) 15 (by kernel_rfl) ?h31 ?r31
        case h31 => simp only [aT, aS, aZ]; rfl
        intro K hK
        have c6 := HF.out.1.loc.cell 6
        have f6 := HF.out.1.loc.frozen 6
        simp only [aT, aS, aZ] at c6
        refine op_skip (Z.setCell ⟨T, 6, none⟩ (.slice (some ⟨Y4.heap.size, 0, none⟩) 2 2)) rfl (by go_simp) ⟨_, by simp [Act.put]; rfl, hK _ _ ⟨trivial, ?_⟩⟩
        clear hK c6 f6
        refine wpAnyH_done (by kernel_rfl) ?_ _
        have nT : T ∉ X1 ++ (X2 ++ (Y4.heap.size :: (XA ++ XB))) := fun hx => by have := HF.out.2.2.2.2.ge _ hx; omega
        have HG : Hid (SkW w T gn #[.int .i64 x0, .int .i64 x1, .int .i64 x2, .int .i64 x3, .slice p1 8 q1, .slice p2 8 q2, .slice (some ⟨Y4.heap.size, 0, none⟩) 2 2] l (Z.setCell ⟨T, 6, none⟩ (.slice (some ⟨Y4.heap.size, 0, none⟩) 2 2)) ∧ RdSk (Z.setCell ⟨T, 6, none⟩ (.slice (some ⟨Y4.heap.size, 0, none⟩) 2 2)) (.agg #[.int .i64 x0, .int .i64 x1, .int .i64 x2, .int .i64 x3, .slice p1 8 q1, .slice p2 8 q2, .slice (some ⟨Y4.heap.size, 0, none⟩) 2 2]) (skOf l) (X1 ++ (X2 ++ (Y4.heap.size :: (XA ++ XB)))) ∧ Own (T + 1) (Z.setCell ⟨T, 6, none⟩ (.slice (some ⟨Y4.heap.size, 0, none⟩) 2 2)) (X1 ++ (X2 ++ (Y4.heap.size :: (XA ++ XB))))) := by
          have ag := Agree.set (w := Z) nT 6 (.slice (some ⟨Y4.heap.size, 0, none⟩) 2 2)
          refine ⟨HF.out.1.set 6 _, ?_, HF.out.2.2.2.2.agree ag⟩
          refine ⟨p1, 8, q1, p2, 8, q2, some ⟨Y4.heap.size, 0, none⟩, 2, 2, X1, X2, Y4.heap.size :: (XA ++ XB), ?_, HF.out.2.1.agree ag.left, HF.out.2.2.1.agree ag.right.left, HF.out.2.2.2.1.agree ag.right.right, rfl⟩
          rw [HX.out.1, HX.out.2.1, HX.out.2.2.1, HX.out.2.2.2]
          rfl
        obtain ⟨W6, hW6⟩ : ∃ W, W = Z.setCell ⟨T, 6, none⟩ (.slice (some ⟨Y4.heap.size, 0, none⟩) 2 2) := ⟨_, rfl⟩
        obtain ⟨ds, hds⟩ : ∃ ds : Array Value, ds = #[.int .i64 x0, .int .i64 x1, .int .i64 x2, .int .i64 x3, .slice p1 8 q1, .slice p2 8 q2, .slice (some ⟨Y4.heap.size, 0, none⟩) 2 2] := ⟨_, rfl⟩
        obtain ⟨X, hX⟩ : ∃ X, X = X1 ++ (X2 ++ (Y4.heap.size :: (XA ++ XB))) := ⟨_, rfl⟩
        have hd7 : ds.size = 7 := by rw [hds]; rfl
        have hdone : ds.all (·.oneCell') = true := by rw [hds]; simp [Value.oneCell']
        rw [← hW6, ← hds, ← hX] at HG
        rw [← hW6]
        have HD7 : Hid (ds.size = 7 ∧ ds.all (·.oneCell') = true) := ⟨hd7, hdone⟩
        clear hW6 hds hX hd7 hdone nT HF gZ
        go_wp2_with (first | go_skip | (with_reducible refine stopLoad 28 rfl ?_))
        refine load_known 28 T ds 28 _ HG.out.1.loc rfl rfl rfl Tryz.underlying28 rfl (by rw [HD7.out.1]; exact infoSkI) ?_
        go_wp2_with fail
        refine (okSpec_any _ (skOf l) X _ HG.out.2.1 (wide_skOf HA.out.2.2)).mono ?_
        rintro e W8 ⟨rfl, hb8⟩
        have HW8 : Hid (RdSk W8 (.agg ds) (skOf l) X ∧ Own (T + 1) W8 X ∧ SkW w T gn ds l W8) := ⟨HG.out.2.1.below hb8, HG.out.2.2.below HG.out.2.1.lt hb8, HG.out.1.below hb8⟩
        have oT := HG.out.1.ord
        clear hb8 HG
        obtain ⟨d, hd⟩ : ∃ d, d = (skOf l).ok := ⟨_, rfl⟩
        rw [← hd]
        have HDD : Hid (d = (skOf l).ok) := hd
        clear hd
        cases d
        · have HV : Hid (SkIs zs Sk.zero false) := skIs_bad HA.out.2.1 HA.out.1 HDD.out.symm
          go_wp2_with (first | go_skip | (with_reducible refine stopStore 28 rfl ?_))
          refine store_known 28 w.heap.size _ #[.int .i64 0, .int .i64 0, .int .i64 0, .int .i64 0, .slice none 0 0, .slice none 0 0, .slice none 0 0] 28 HW8.out.2.2.res rfl rfl rfl rfl infoSkI rfl (by simp [Value.oneCell']) ?_
          go_wp2
          refine bodyPost_ret (results_row_tmp Tryz.results16 _ _ w.heap.size _ _ _ _ rfl HW8.out.2.2.res.setRow Tryz.underlying28 rfl infoSkI) rfl ?_
          exact ⟨_, Sk.zero, false, [], rfl, rdSk_zero7 _, Own.nil, below_setRow HW8.out.2.2.bel (Nat.le_refl _) _, HV.out⟩
        have HV : Hid (SkIs zs (skOf l) true) := skIs_yes HA.out.2.2 HA.out.1 HDD.out.symm
        go_wp2_with (first | go_skip | (with_reducible refine stopLoad 28 rfl ?_))
        refine load_known 28 T ds 28 _ HW8.out.2.2.loc rfl rfl rfl Tryz.underlying28 rfl (by rw [HD7.out.1]; exact infoSkI) ?_
        go_wp2_with (first | go_skip | (with_reducible refine stopStore 28 rfl ?_))
        refine store_known 28 w.heap.size _ ds 28 HW8.out.2.2.res rfl rfl rfl rfl (by rw [HD7.out.1]; exact infoSkI) (by rw [HD7.out.1]; rfl) HD7.out.2 ?_
        have nX : w.heap.size ∉ X := fun hx => by have := HW8.out.2.1.ge _ hx; omega
        have HF : Hid (RdSk (W8.setRow w.heap.size ds) (.agg ds) (skOf l) X ∧ Own w.heap.size (W8.setRow w.heap.size ds) X ∧ Below w.heap.size w (W8.setRow w.heap.size ds) ∧ Blk (W8.setRow w.heap.size ds) w.heap.size ds 28) := ⟨HW8.out.1.agree (Agree.row nX ds), (HW8.out.2.1.agree (Agree.row nX ds)).mono (by omega), below_setRow HW8.out.2.2.bel (Nat.le_refl _) _, HW8.out.2.2.res.setRow⟩
        have hds : (Tryz.prog.info? 28).map (·.size) = some ds.size := by rw [HD7.out.1]; exact infoSkI
        clear HW8 nX
        go_wp2
        refine bodyPost_ret (results_row_tmp Tryz.results16 _ _ w.heap.size _ _ _ _ rfl HF.out.2.2.2 Tryz.underlying28 rfl hds) rfl ?_
        exact ⟨_, skOf l, true, X, rfl, HF.out.1, HF.out.2.1, HF.out.2.2.1, HV.out⟩
      case s26 =>
        intro K hK
        have bx5 : Hid (Below Y1.heap.size Y1 (Y1.alloc (.cells #[] 3))) := (Below.refl _ _).alloc (Nat.le_refl _) _
        refine op_turn (.slice (some ⟨Y1.heap.size, 0, none⟩) 0 0) (Y1.alloc (.cells #[] 3)) rfl (by go_simp) ⟨_, by simp [Act.put]; rfl, hK _ _ ⟨trivial, ?_⟩⟩
        clear hK
        obtain ⟨Y5, hY5⟩ : ∃ Z, Z = Y1.alloc (.cells #[] 3) := ⟨_, rfl⟩
        rw [← hY5] at bx5 ⊢
        clear hY5
        have BYY5 : Hid (Below Y.heap.size Y Y5) := Below.next BYY1.out bx5.out
        refine onlyH (o := ?o32) 6 (by kernel_rfl) ?h32 ?r32
        case h32 => simp only [aT, aS, aZ]; rfl
        intro K hK
        refine op_grows _ _ 25 rfl rfl 3 i0 (.int .i64 0) 1 8 Tryz.underlying25 hi hz0 hz1 hz2 rfl (by decide) (some _) rfl ⟨gn, 20, none⟩ 4 (cn - 20) (((l.drop 20).take 4).map (Value.int .i64)) rfl (by have := HA.out.2.2; simp; omega) (((HD.out.1.src.below BYY5.out).part (k := 20) (n := 4) (by omega) (by omega)).from (Below.refl _ _) (by omega)) (ints_one _) (by omega) (by unfold maxLen; omega) (by omega) ?_
        intro vA Y6 hown bx
        obtain ⟨rA, kA, XA, rfl, hr, ho⟩ := rdI_of_own hown
        have RA : Hid (RdI Y6 rA 4 ((l.drop 20).take 4) XA ∧ Own Y5.heap.size Y6 XA) := ⟨hr, ho⟩
        have bx6 : Hid (Below Y5.heap.size Y5 Y6) := bx
        have BYY6 : Hid (Below Y.heap.size Y Y6) := Below.next BYY5.out bx
        refine ⟨_, by simp [Act.put]; rfl, hK _ _ ⟨trivial, ?_⟩⟩
        clear hK hown hr ho bx
        have RA : Hid (RdI Y6 rA 4 ((l.drop 20).take 4) XA ∧ Own Y.heap.size Y6 XA ∧ ∀ b ∈ XA, b < Y6.heap.size) := ⟨RA.out.1, RA.out.2.mono BYY5.out.size, fun b hb => RA.out.1.lt b hb⟩
        refine onlyH (o := ?o33) 12 (by kernel_rfl) ?h33 ?r33
        case h33 => simp only [aT, aS, aZ]; rfl
        intro K hK
        refine op_grows _ _ 25 rfl rfl 3 i0 (.int .i64 0) 1 8 Tryz.underlying25 hi hz0 hz1 hz2 rfl (by decide) (some _) rfl ⟨gn, 24, none⟩ 4 (cn - 24) (((l.drop 24).take 4).map (Value.int .i64)) rfl (by have := HA.out.2.2; simp; omega) (((HD.out.1.src.below BYY6.out).part (k := 24) (n := 4) (by omega) (by omega)).from (Below.refl _ _) (by omega)) (ints_one _) (by omega) (by unfold maxLen; omega) (by omega) ?_
        intro vB Y7 hown bx
        obtain ⟨rB, kB, XB, rfl, hr, ho⟩ := rdI_of_own hown
        have RB : Hid (RdI Y7 rB 4 ((l.drop 24).take 4) XB ∧ Own Y6.heap.size Y7 XB) := ⟨hr, ho⟩
        have bx7 : Hid (Below Y6.heap.size Y6 Y7) := bx
        have BYY7 : Hid (Below Y.heap.size Y Y7) := Below.next BYY6.out bx
        refine ⟨_, by simp [Act.put]; rfl, hK _ _ ⟨trivial, ?_⟩⟩
        clear hK hown hr ho bx
        have RA : Hid (RdI Y7 rA 4 ((l.drop 20).take 4) XA ∧ Own Y.heap.size Y7 XA ∧ ∀ b ∈ XA, b < Y6.heap.size) := ⟨RA.out.1.below bx7.out, RA.out.2.1.below RA.out.1.lt bx7.out, fun b hb => RA.out.1.lt b hb⟩
        have JJ := two_lists (B := Y.heap.size) RA.out.2.1 RB.out.2 (fun b hb => RA.out.2.2 b hb) (BYY6.out.size)
        have HRW : Hid (RdI Y7 rA 4 ((l.drop 20).take 4) XA ∧ RdI Y7 rB 4 ((l.drop 24).take 4) XB ∧ Own Y.heap.size Y7 (XA ++ XB)) := ⟨RA.out.1, RB.out.1, JJ.1⟩
        clear JJ RA RB
        refine onlyH (o := ?o34) 13 (by kernel_rfl) ?h34 ?r34
        case h34 => simp only [aT, aS, aZ]; rfl
        intro K hK
        have bV : Below Y7.heap.size Y7 (Y7.alloc (.cells #[.slice rA 4 kA, .slice rB 4 kB] 25)) := (Below.refl _ _).alloc (Nat.le_refl _) _
        have HF : Hid (SkW w T gn #[.int .i64 x0, .int .i64 x1, .int .i64 x2, .int .i64 x3, .slice p1 8 q1, .slice p2 8 q2, .slice none 0 0] l (Y7.alloc (.cells #[.slice rA 4 kA, .slice rB 4 kB] 25)) ∧ RdI (Y7.alloc (.cells #[.slice rA 4 kA, .slice rB 4 kB] 25)) p1 8 ((l.drop 4).take 8) X1 ∧ RdI (Y7.alloc (.cells #[.slice rA 4 kA, .slice rB 4 kB] 25)) p2 8 ((l.drop 12).take 8) X2 ∧ RdII (Y7.alloc (.cells #[.slice rA 4 kA, .slice rB 4 kB] 25)) (some ⟨Y7.heap.size, 0, none⟩) 2 [(l.drop 20).take 4, (l.drop 24).take 4] (Y7.heap.size :: (XA ++ XB)) ∧ Own (T + 1) (Y7.alloc (.cells #[.slice rA 4 kA, .slice rB 4 kB] 25)) (X1 ++ (X2 ++ (Y7.heap.size :: (XA ++ XB))))) := by
          have bY := Below.next BYY7.out bV
          have bl := Blk.made Y7 #[.slice rA 4 kA, .slice rB 4 kB] 25
          have o12 := HD.out.2.2.2.below (fun b hb => (List.mem_append.1 hb).elim (HD.out.2.1.lt b) (HD.out.2.2.1.lt b)) bY
          have lAB : ∀ b ∈ XA ++ XB, b < Y7.heap.size := fun b hb => (List.mem_append.1 hb).elim (HRW.out.1.lt b) (HRW.out.2.1.lt b)
          have oAB := (HRW.out.2.2.below lAB bV).blk bl (fun hx => by have := lAB _ hx; omega) BYY7.out.size
          have lT : T < Y.heap.size := HD.out.1.loc.lt
          refine ⟨HD.out.1.below bY, HD.out.2.1.below bY, HD.out.2.2.1.below bY, two_rows4 bl (HRW.out.1.below bV) (HRW.out.2.1.below bV), ?_⟩
          have j := o12.join (oAB.perm List.perm_append_comm) (fun b hb => (List.mem_append.1 hb).elim (HD.out.2.1.lt b) (HD.out.2.2.1.lt b)) (by omega)
          rw [List.append_assoc] at j
          exact j
        refine op_turn (.slice (some ⟨Y7.heap.size, 0, none⟩) 2 2) (Y7.alloc (.cells #[.slice rA 4 kA, .slice rB 4 kB] 25)) rfl (by go_simp) ⟨_, by simp [Act.put]; rfl, hK _ _ ⟨trivial, ?_⟩⟩
        clear hK bV HRW HD
        obtain ⟨Z, hZ⟩ : ∃ Z, Z = Y7.alloc (.cells #[.slice rA 4 kA, .slice rB 4 kB] 25) := ⟨_, rfl⟩
        rw [← hZ] at HF ⊢
        clear hZ
        have gZ : T + 1 ≤ Y7.heap.size := HF.out.2.2.2.2.ge _ (by simp)
        refine takeH (o := ?o35) 14 (.pointer (some ⟨T, 6, none⟩)) ?h35 ?r35
        case h35 => simp only [aT, aS, aZ]; rfl
        refine ⟨_, by simp [Act.put]; rfl, by kernel_rfl, by kernel_rfl, by kernel_rfl, fun _ _ _ h => h, (.inl ⟨rfl, fun W _ => by go_simp⟩), trivial, ?_⟩
        refine onlyH (o := ?o36) 15 (by kernel_rfl) ?h36 ?r36
        case h36 => simp only [aT, aS, aZ]; rfl
        intro K hK
        have c6 := HF.out.1.loc.cell 6
        have f6 := HF.out.1.loc.frozen 6
        simp only [aT, aS, aZ] at c6
        refine op_skip (Z.setCell ⟨T, 6, none⟩ (.slice (some ⟨Y7.heap.size, 0, none⟩) 2 2)) rfl (by go_simp) ⟨_, by simp [Act.put]; rfl, hK _ _ ⟨trivial, ?_⟩⟩
        clear hK c6 f6
        refine wpAnyH_done (by kernel_rfl) ?_ _
        have nT : T ∉ X1 ++ (X2 ++ (Y7.heap.size :: (XA ++ XB))) := fun hx => by have := HF.out.2.2.2.2.ge _ hx; omega
        have HG : Hid (SkW w T gn #[.int .i64 x0, .int .i64 x1, .int .i64 x2, .int .i64 x3, .slice p1 8 q1, .slice p2 8 q2, .slice (some ⟨Y7.heap.size, 0, none⟩) 2 2] l (Z.setCell ⟨T, 6, none⟩ (.slice (some ⟨Y7.heap.size, 0, none⟩) 2 2)) ∧ RdSk (Z.setCell ⟨T, 6, none⟩ (.slice (some ⟨Y7.heap.size, 0, none⟩) 2 2)) (.agg #[.int .i64 x0, .int .i64 x1, .int .i64 x2, .int .i64 x3, .slice p1 8 q1, .slice p2 8 q2, .slice (some ⟨Y7.heap.size, 0, none⟩) 2 2]) (skOf l) (X1 ++ (X2 ++ (Y7.heap.size :: (XA ++ XB)))) ∧ Own (T + 1) (Z.setCell ⟨T, 6, none⟩ (.slice (some ⟨Y7.heap.size, 0, none⟩) 2 2)) (X1 ++ (X2 ++ (Y7.heap.size :: (XA ++ XB))))) := by
          have ag := Agree.set (w := Z) nT 6 (.slice (some ⟨Y7.heap.size, 0, none⟩) 2 2)
          refine ⟨HF.out.1.set 6 _, ?_, HF.out.2.2.2.2.agree ag⟩
          refine ⟨p1, 8, q1, p2, 8, q2, some ⟨Y7.heap.size, 0, none⟩, 2, 2, X1, X2, Y7.heap.size :: (XA ++ XB), ?_, HF.out.2.1.agree ag.left, HF.out.2.2.1.agree ag.right.left, HF.out.2.2.2.1.agree ag.right.right, rfl⟩
          rw [HX.out.1, HX.out.2.1, HX.out.2.2.1, HX.out.2.2.2]
          rfl
        obtain ⟨W6, hW6⟩ : ∃ W, W = Z.setCell ⟨T, 6, none⟩ (.slice (some ⟨Y7.heap.size, 0, none⟩) 2 2) := ⟨_, rfl⟩
        obtain ⟨ds, hds⟩ : ∃ ds : Array Value, ds = #[.int .i64 x0, .int .i64 x1, .int .i64 x2, .int .i64 x3, .slice p1 8 q1, .slice p2 8 q2, .slice (some ⟨Y7.heap.size, 0, none⟩) 2 2] := ⟨_, rfl⟩
        obtain ⟨X, hX⟩ : ∃ X, X = X1 ++ (X2 ++ (Y7.heap.size :: (XA ++ XB))) := ⟨_, rfl⟩
        have hd7 : ds.size = 7 := by rw [hds]; rfl
        have hdone : ds.all (·.oneCell') = true := by rw [hds]; simp [Value.oneCell']
        rw [← hW6, ← hds, ← hX] at HG
        rw [← hW6]
        have HD7 : Hid (ds.size = 7 ∧ ds.all (·.oneCell') = true) := ⟨hd7, hdone⟩
        clear hW6 hds hX hd7 hdone nT HF gZ
        go_wp2_with (first | go_skip | (with_reducible refine stopLoad 28 rfl ?_))
        refine load_known 28 T ds 28 _ HG.out.1.loc rfl rfl rfl Tryz.underlying28 rfl (by rw [HD7.out.1]; exact infoSkI) ?_
        go_wp2_with fail
        refine (okSpec_any _ (skOf l) X _ HG.out.2.1 (wide_skOf HA.out.2.2)).mono ?_
        rintro e W8 ⟨rfl, hb8⟩
        have HW8 : Hid (RdSk W8 (.agg ds) (skOf l) X ∧ Own (T + 1) W8 X ∧ SkW w T gn ds l W8) := ⟨HG.out.2.1.below hb8, HG.out.2.2.below HG.out.2.1.lt hb8, HG.out.1.below hb8⟩
        have oT := HG.out.1.ord
        clear hb8 HG
        obtain ⟨d, hd⟩ : ∃ d, d = (skOf l).ok := ⟨_, rfl⟩
        rw [← hd]
        have HDD : Hid (d = (skOf l).ok) := hd
        clear hd
        cases d
        · have HV : Hid (SkIs zs Sk.zero false) := skIs_bad HA.out.2.1 HA.out.1 HDD.out.symm
          go_wp2_with (first | go_skip | (with_reducible refine stopStore 28 rfl ?_))
          refine store_known 28 w.heap.size _ #[.int .i64 0, .int .i64 0, .int .i64 0, .int .i64 0, .slice none 0 0, .slice none 0 0, .slice none 0 0] 28 HW8.out.2.2.res rfl rfl rfl rfl infoSkI rfl (by simp [Value.oneCell']) ?_
          go_wp2
          refine bodyPost_ret (results_row_tmp Tryz.results16 _ _ w.heap.size _ _ _ _ rfl HW8.out.2.2.res.setRow Tryz.underlying28 rfl infoSkI) rfl ?_
          exact ⟨_, Sk.zero, false, [], rfl, rdSk_zero7 _, Own.nil, below_setRow HW8.out.2.2.bel (Nat.le_refl _) _, HV.out⟩
        have HV : Hid (SkIs zs (skOf l) true) := skIs_yes HA.out.2.2 HA.out.1 HDD.out.symm
        go_wp2_with (first | go_skip | (with_reducible refine stopLoad 28 rfl ?_))
        refine load_known 28 T ds 28 _ HW8.out.2.2.loc rfl rfl rfl Tryz.underlying28 rfl (by rw [HD7.out.1]; exact infoSkI) ?_
        go_wp2_with (first | go_skip | (with_reducible refine stopStore 28 rfl ?_))
        refine store_known 28 w.heap.size _ ds 28 HW8.out.2.2.res rfl rfl rfl rfl (by rw [HD7.out.1]; exact infoSkI) (by rw [HD7.out.1]; rfl) HD7.out.2 ?_
        have nX : w.heap.size ∉ X := fun hx => by have := HW8.out.2.1.ge _ hx; omega
        have HF : Hid (RdSk (W8.setRow w.heap.size ds) (.agg ds) (skOf l) X ∧ Own w.heap.size (W8.setRow w.heap.size ds) X ∧ Below w.heap.size w (W8.setRow w.heap.size ds) ∧ Blk (W8.setRow w.heap.size ds) w.heap.size ds 28) := ⟨HW8.out.1.agree (Agree.row nX ds), (HW8.out.2.1.agree (Agree.row nX ds)).mono (by omega), below_setRow HW8.out.2.2.bel (Nat.le_refl _) _, HW8.out.2.2.res.setRow⟩
        have hds : (Tryz.prog.info? 28).map (·.size) = some ds.size := by rw [HD7.out.1]; exact infoSkI
        clear HW8 nX
        go_wp2
        refine bodyPost_ret (results_row_tmp Tryz.results16 _ _ w.heap.size _ _ _ _ rfl HF.out.2.2.2 Tryz.underlying28 rfl hds) rfl ?_
        exact ⟨_, skOf l, true, X, rfl, HF.out.1, HF.out.2.1, HF.out.2.2.1, HV.out⟩
    case s25 =>
      intro K hK
      have bx8 : Hid (Below Y.heap.size Y (Y.alloc (.cells #[] 3))) := (Below.refl _ _).alloc (Nat.le_refl _) _
      refine op_turn (.slice (some ⟨Y.heap.size, 0, none⟩) 0 0) (Y.alloc (.cells #[] 3)) rfl (by go_simp) ⟨_, by simp [Act.put]; rfl, hK _ _ ⟨trivial, ?_⟩⟩
      clear hK
      obtain ⟨Y8, hY8⟩ : ∃ Z, Z = Y.alloc (.cells #[] 3) := ⟨_, rfl⟩
      rw [← hY8] at bx8 ⊢
      clear hY8
      have BYY8 : Hid (Below Y.heap.size Y Y8) := Below.next BYY.out bx8.out
      refine onlyH (o := ?o37) 0 (by kernel_rfl) ?h37 ?r37
      case h37 => simp only [aT, aZ]; rfl
      intro K hK
      have bx9 : Hid (Below Y8.heap.size Y8 (Y8.alloc (.cells #[] 3))) := (Below.refl _ _).alloc (Nat.le_refl _) _
      refine op_turn (.slice (some ⟨Y8.heap.size, 0, none⟩) 0 0) (Y8.alloc (.cells #[] 3)) rfl (by go_simp) ⟨_, by simp [Act.put]; rfl, hK _ _ ⟨trivial, ?_⟩⟩
      clear hK
      obtain ⟨Y9, hY9⟩ : ∃ Z, Z = Y8.alloc (.cells #[] 3) := ⟨_, rfl⟩
      rw [← hY9] at bx9 ⊢
      clear hY9
      have BYY9 : Hid (Below Y.heap.size Y Y9) := Below.next BYY8.out bx9.out
      refine onlyH (o := ?o38) 6 (by kernel_rfl) ?h38 ?r38
      case h38 => simp only [aT, aS, aZ]; rfl
      intro K hK
      refine op_grows _ _ 25 rfl rfl 3 i0 (.int .i64 0) 1 8 Tryz.underlying25 hi hz0 hz1 hz2 rfl (by decide) (some _) rfl ⟨gn, 20, none⟩ 4 (cn - 20) (((l.drop 20).take 4).map (Value.int .i64)) rfl (by have := HA.out.2.2; simp; omega) (((HD.out.1.src.below BYY9.out).part (k := 20) (n := 4) (by omega) (by omega)).from (Below.refl _ _) (by omega)) (ints_one _) (by omega) (by unfold maxLen; omega) (by omega) ?_
      intro vA Y10 hown bx
      obtain ⟨rA, kA, XA, rfl, hr, ho⟩ := rdI_of_own hown
      have RA : Hid (RdI Y10 rA 4 ((l.drop 20).take 4) XA ∧ Own Y9.heap.size Y10 XA) := ⟨hr, ho⟩
      have bx10 : Hid (Below Y9.heap.size Y9 Y10) := bx
      have BYY10 : Hid (Below Y.heap.size Y Y10) := Below.next BYY9.out bx
      refine ⟨_, by simp [Act.put]; rfl, hK _ _ ⟨trivial, ?_⟩⟩
      clear hK hown hr ho bx
      have RA : Hid (RdI Y10 rA 4 ((l.drop 20).take 4) XA ∧ Own Y.heap.size Y10 XA ∧ ∀ b ∈ XA, b < Y10.heap.size) := ⟨RA.out.1, RA.out.2.mono BYY9.out.size, fun b hb => RA.out.1.lt b hb⟩
      refine onlyH (o := ?o39) 12 (by kernel_rfl) ?h39 ?r39
      case h39 => simp only [aT, aS, aZ]; rfl
      intro K hK
      refine op_grows _ _ 25 rfl rfl 3 i0 (.int .i64 0) 1 8 Tryz.underlying25 hi hz0 hz1 hz2 rfl (by decide) (some _) rfl ⟨gn, 24, none⟩ 4 (cn - 24) (((l.drop 24).take 4).map (Value.int .i64)) rfl (by have := HA.out.2.2; simp; omega) (((HD.out.1.src.below BYY10.out).part (k := 24) (n := 4) (by omega) (by omega)).from (Below.refl _ _) (by omega)) (ints_one _) (by omega) (by unfold maxLen; omega) (by omega) ?_
      intro vB Y11 hown bx
      obtain ⟨rB, kB, XB, rfl, hr, ho⟩ := rdI_of_own hown
      have RB : Hid (RdI Y11 rB 4 ((l.drop 24).take 4) XB ∧ Own Y10.heap.size Y11 XB) := ⟨hr, ho⟩
      have bx11 : Hid (Below Y10.heap.size Y10 Y11) := bx
      have BYY11 : Hid (Below Y.heap.size Y Y11) := Below.next BYY10.out bx
      refine ⟨_, by simp [Act.put]; rfl, hK _ _ ⟨trivial, ?_⟩⟩
      clear hK hown hr ho bx
      have RA : Hid (RdI Y11 rA 4 ((l.drop 20).take 4) XA ∧ Own Y.heap.size Y11 XA ∧ ∀ b ∈ XA, b < Y10.heap.size) := ⟨RA.out.1.below bx11.out, RA.out.2.1.below RA.out.1.lt bx11.out, fun b hb => RA.out.1.lt b hb⟩
      have JJ := two_lists (B := Y.heap.size) RA.out.2.1 RB.out.2 (fun b hb => RA.out.2.2 b hb) (BYY10.out.size)
      have HRW : Hid (RdI Y11 rA 4 ((l.drop 20).take 4) XA ∧ RdI Y11 rB 4 ((l.drop 24).take 4) XB ∧ Own Y.heap.size Y11 (XA ++ XB)) := ⟨RA.out.1, RB.out.1, JJ.1⟩
      clear JJ RA RB
      refine onlyH (o := ?o40) 13 (by kernel_rfl) ?h40 ?r40
      case h40 => simp only [aT, aS, aZ]; rfl
      intro K hK
      have bV : Below Y11.heap.size Y11 (Y11.alloc (.cells #[.slice rA 4 kA, .slice rB 4 kB] 25)) := (Below.refl _ _).alloc (Nat.le_refl _) _
      have HF : Hid (SkW w T gn #[.int .i64 x0, .int .i64 x1, .int .i64 x2, .int .i64 x3, .slice p1 8 q1, .slice p2 8 q2, .slice none 0 0] l (Y11.alloc (.cells #[.slice rA 4 kA, .slice rB 4 kB] 25)) ∧ RdI (Y11.alloc (.cells #[.slice rA 4 kA, .slice rB 4 kB] 25)) p1 8 ((l.drop 4).take 8) X1 ∧ RdI (Y11.alloc (.cells #[.slice rA 4 kA, .slice rB 4 kB] 25)) p2 8 ((l.drop 12).take 8) X2 ∧ RdII (Y11.alloc (.cells #[.slice rA 4 kA, .slice rB 4 kB] 25)) (some ⟨Y11.heap.size, 0, none⟩) 2 [(l.drop 20).take 4, (l.drop 24).take 4] (Y11.heap.size :: (XA ++ XB)) ∧ Own (T + 1) (Y11.alloc (.cells #[.slice rA 4 kA, .slice rB 4 kB] 25)) (X1 ++ (X2 ++ (Y11.heap.size :: (XA ++ XB))))) := by
        have bY := Below.next BYY11.out bV
        have bl := Blk.made Y11 #[.slice rA 4 kA, .slice rB 4 kB] 25
        have o12 := HD.out.2.2.2.below (fun b hb => (List.mem_append.1 hb).elim (HD.out.2.1.lt b) (HD.out.2.2.1.lt b)) bY
        have lAB : ∀ b ∈ XA ++ XB, b < Y11.heap.size := fun b hb => (List.mem_append.1 hb).elim (HRW.out.1.lt b) (HRW.out.2.1.lt b)
        have oAB := (HRW.out.2.2.below lAB bV).blk bl (fun hx => by have := lAB _ hx; omega) BYY11.out.size
        have lT : T < Y.heap.size := HD.out.1.loc.lt
        refine ⟨HD.out.1.below bY, HD.out.2.1.below bY, HD.out.2.2.1.below bY, two_rows4 bl (HRW.out.1.below bV) (HRW.out.2.1.below bV), ?_⟩
        have j := o12.join (oAB.perm List.perm_append_comm) (fun b hb => (List.mem_append.1 hb).elim (HD.out.2.1.lt b) (HD.out.2.2.1.lt b)) (by omega)
        rw [List.append_assoc] at j
        exact j
      refine op_turn (.slice (some ⟨Y11.heap.size, 0, none⟩) 2 2) (Y11.alloc (.cells #[.slice rA 4 kA, .slice rB 4 kB] 25)) rfl (by go_simp) ⟨_, by simp [Act.put]; rfl, hK _ _ ⟨trivial, ?_⟩⟩
      clear hK bV HRW HD
      obtain ⟨Z, hZ⟩ : ∃ Z, Z = Y11.alloc (.cells #[.slice rA 4 kA, .slice rB 4 kB] 25) := ⟨_, rfl⟩
      rw [← hZ] at HF ⊢
      clear hZ
      have gZ : T + 1 ≤ Y11.heap.size := HF.out.2.2.2.2.ge _ (by simp)
      refine takeH (o := ?o41) 14 (.pointer (some ⟨T, 6, none⟩)) ?h41 ?r41
      case h41 => simp only [aT, aS, aZ]; rfl
      refine ⟨_, by simp [Act.put]; rfl, by kernel_rfl, by kernel_rfl, by kernel_rfl, fun _ _ _ h => h, (.inl ⟨rfl, fun W _ => by go_simp⟩), trivial, ?_⟩
      refine onlyH (o := ?o42) 15 (by kernel_rfl) ?h42 ?r42
      case h42 => simp only [aT, aS, aZ]; rfl
      intro K hK
      have c6 := HF.out.1.loc.cell 6
      have f6 := HF.out.1.loc.frozen 6
      simp only [aT, aS, aZ] at c6
      refine op_skip (Z.setCell ⟨T, 6, none⟩ (.slice (some ⟨Y11.heap.size, 0, none⟩) 2 2)) rfl (by go_simp) ⟨_, by simp [Act.put]; rfl, hK _ _ ⟨trivial, ?_⟩⟩
      clear hK c6 f6
      refine wpAnyH_done (by kernel_rfl) ?_ _
      have nT : T ∉ X1 ++ (X2 ++ (Y11.heap.size :: (XA ++ XB))) := fun hx => by have := HF.out.2.2.2.2.ge _ hx; omega
      have HG : Hid (SkW w T gn #[.int .i64 x0, .int .i64 x1, .int .i64 x2, .int .i64 x3, .slice p1 8 q1, .slice p2 8 q2, .slice (some ⟨Y11.heap.size, 0, none⟩) 2 2] l (Z.setCell ⟨T, 6, none⟩ (.slice (some ⟨Y11.heap.size, 0, none⟩) 2 2)) ∧ RdSk (Z.setCell ⟨T, 6, none⟩ (.slice (some ⟨Y11.heap.size, 0, none⟩) 2 2)) (.agg #[.int .i64 x0, .int .i64 x1, .int .i64 x2, .int .i64 x3, .slice p1 8 q1, .slice p2 8 q2, .slice (some ⟨Y11.heap.size, 0, none⟩) 2 2]) (skOf l) (X1 ++ (X2 ++ (Y11.heap.size :: (XA ++ XB)))) ∧ Own (T + 1) (Z.setCell ⟨T, 6, none⟩ (.slice (some ⟨Y11.heap.size, 0, none⟩) 2 2)) (X1 ++ (X2 ++ (Y11.heap.size :: (XA ++ XB))))) := by
        have ag := Agree.set (w := Z) nT 6 (.slice (some ⟨Y11.heap.size, 0, none⟩) 2 2)
        refine ⟨HF.out.1.set 6 _, ?_, HF.out.2.2.2.2.agree ag⟩
        refine ⟨p1, 8, q1, p2, 8, q2, some ⟨Y11.heap.size, 0, none⟩, 2, 2, X1, X2, Y11.heap.size :: (XA ++ XB), ?_, HF.out.2.1.agree ag.left, HF.out.2.2.1.agree ag.right.left, HF.out.2.2.2.1.agree ag.right.right, rfl⟩
        rw [HX.out.1, HX.out.2.1, HX.out.2.2.1, HX.out.2.2.2]
        rfl
      obtain ⟨W6, hW6⟩ : ∃ W, W = Z.setCell ⟨T, 6, none⟩ (.slice (some ⟨Y11.heap.size, 0, none⟩) 2 2) := ⟨_, rfl⟩
      obtain ⟨ds, hds⟩ : ∃ ds : Array Value, ds = #[.int .i64 x0, .int .i64 x1, .int .i64 x2, .int .i64 x3, .slice p1 8 q1, .slice p2 8 q2, .slice (some ⟨Y11.heap.size, 0, none⟩) 2 2] := ⟨_, rfl⟩
      obtain ⟨X, hX⟩ : ∃ X, X = X1 ++ (X2 ++ (Y11.heap.size :: (XA ++ XB))) := ⟨_, rfl⟩
      have hd7 : ds.size = 7 := by rw [hds]; rfl
      have hdone : ds.all (·.oneCell') = true := by rw [hds]; simp [Value.oneCell']
      rw [← hW6, ← hds, ← hX] at HG
      rw [← hW6]
      have HD7 : Hid (ds.size = 7 ∧ ds.all (·.oneCell') = true) := ⟨hd7, hdone⟩
      clear hW6 hds hX hd7 hdone nT HF gZ
      go_wp2_with (first | go_skip | (with_reducible refine stopLoad 28 rfl ?_))
      refine load_known 28 T ds 28 _ HG.out.1.loc rfl rfl rfl Tryz.underlying28 rfl (by rw [HD7.out.1]; exact infoSkI) ?_
      go_wp2_with fail
      refine (okSpec_any _ (skOf l) X _ HG.out.2.1 (wide_skOf HA.out.2.2)).mono ?_
      rintro e W8 ⟨rfl, hb8⟩
      have HW8 : Hid (RdSk W8 (.agg ds) (skOf l) X ∧ Own (T + 1) W8 X ∧ SkW w T gn ds l W8) := ⟨HG.out.2.1.below hb8, HG.out.2.2.below HG.out.2.1.lt hb8, HG.out.1.below hb8⟩
      have oT := HG.out.1.ord
      clear hb8 HG
      obtain ⟨d, hd⟩ : ∃ d, d = (skOf l).ok := ⟨_, rfl⟩
      rw [← hd]
      have HDD : Hid (d = (skOf l).ok) := hd
      clear hd
      cases d
      · have HV : Hid (SkIs zs Sk.zero false) := skIs_bad HA.out.2.1 HA.out.1 HDD.out.symm
        go_wp2_with (first | go_skip | (with_reducible refine stopStore 28 rfl ?_))
        refine store_known 28 w.heap.size _ #[.int .i64 0, .int .i64 0, .int .i64 0, .int .i64 0, .slice none 0 0, .slice none 0 0, .slice none 0 0] 28 HW8.out.2.2.res rfl rfl rfl rfl infoSkI rfl (by simp [Value.oneCell']) ?_
        go_wp2
        refine bodyPost_ret (results_row_tmp Tryz.results16 _ _ w.heap.size _ _ _ _ rfl HW8.out.2.2.res.setRow Tryz.underlying28 rfl infoSkI) rfl ?_
        exact ⟨_, Sk.zero, false, [], rfl, rdSk_zero7 _, Own.nil, below_setRow HW8.out.2.2.bel (Nat.le_refl _) _, HV.out⟩
      have HV : Hid (SkIs zs (skOf l) true) := skIs_yes HA.out.2.2 HA.out.1 HDD.out.symm
      go_wp2_with (first | go_skip | (with_reducible refine stopLoad 28 rfl ?_))
      refine load_known 28 T ds 28 _ HW8.out.2.2.loc rfl rfl rfl Tryz.underlying28 rfl (by rw [HD7.out.1]; exact infoSkI) ?_
      go_wp2_with (first | go_skip | (with_reducible refine stopStore 28 rfl ?_))
      refine store_known 28 w.heap.size _ ds 28 HW8.out.2.2.res rfl rfl rfl rfl (by rw [HD7.out.1]; exact infoSkI) (by rw [HD7.out.1]; rfl) HD7.out.2 ?_
      have nX : w.heap.size ∉ X := fun hx => by have := HW8.out.2.1.ge _ hx; omega
      have HF : Hid (RdSk (W8.setRow w.heap.size ds) (.agg ds) (skOf l) X ∧ Own w.heap.size (W8.setRow w.heap.size ds) X ∧ Below w.heap.size w (W8.setRow w.heap.size ds) ∧ Blk (W8.setRow w.heap.size ds) w.heap.size ds 28) := ⟨HW8.out.1.agree (Agree.row nX ds), (HW8.out.2.1.agree (Agree.row nX ds)).mono (by omega), below_setRow HW8.out.2.2.bel (Nat.le_refl _) _, HW8.out.2.2.res.setRow⟩
      have hds : (Tryz.prog.info? 28).map (·.size) = some ds.size := by rw [HD7.out.1]; exact infoSkI
      clear HW8 nX
      go_wp2
      refine bodyPost_ret (results_row_tmp Tryz.results16 _ _ w.heap.size _ _ _ _ rfl HF.out.2.2.2 Tryz.underlying28 rfl hds) rfl ?_
      exact ⟨_, skOf l, true, X, rfl, HF.out.1, HF.out.2.1, HF.out.2.2.1, HV.out⟩
end Go.Proofs.YtjndcfamfminkabGreat
/- The walk through the program's GetNum: it defers, it calls readNum, it recovers. No statement of the seat is proved here. -/
namespace Go.Proofs.YtjndcfamfminkabGreat
open Go.RowKit

set_option maxRecDepth 200000 in
theorem read_no (a : Option Addr) (len cap : Nat) (p : Int) (zs : List Int) (w : World) (h : RdB w a len zs) (hlen : len ≤ 1048576) (hcap : len ≤ cap) (ha : a = none → cap = 0) (hres : res zs p = none) :
    Calls Tryz.prog 85 #[.slice a len cap, .int .i64 p] w fun e w' => e = .panicked [{ v := .iface 9 (.string ⟨#[110, 111, 32, 110, 117, 109, 98, 101, 114]⟩), recovered := false }] ∧ w' = w := by
  have := read_any a len cap p zs w h hlen hcap ha
  rw [hres] at this
  exact this
set_option maxRecDepth 200000 in
theorem read_yes (a : Option Addr) (len cap : Nat) (p n : Int) (u : Nat) (zs : List Int) (w : World) (h : RdB w a len zs) (hlen : len ≤ 1048576) (hcap : len ≤ cap) (ha : a = none → cap = 0) (hres : res zs p = some (n, u)) :
    Calls Tryz.prog 85 #[.slice a len cap, .int .i64 p] w fun e w' => e = .returned (.tuple #[.int .i64 n, .int .i64 (p + u)]) ∧ w' = w := by
  have := read_any a len cap p zs w h hlen hcap ha
  rw [hres] at this
  exact this

theorem below3 (w : World) (a b c : Obj) : Below w.heap.size w (((w.alloc a).alloc b).alloc c) :=
  (((Below.refl _ _).alloc (Nat.le_refl _) _).alloc (by simp) _).alloc (by simp; omega) _

set_option maxRecDepth 200000 in
set_option maxHeartbeats 800000 in
theorem getImpl_no (a : Option Addr) (len cap : Nat) (p : Int) (zs : List Int) (w : World) (h : RdB w a len zs) (hlen : len ≤ 1048576) (hcap : len ≤ cap) (ha : a = none → cap = 0) (hres : res zs p = none) :
    Calls Tryz.prog 62 #[.slice a len cap, .int .i64 p] w fun e w' => e = .returned (.tuple #[.int .i64 0, .int .i64 0, .bool false]) ∧ Below w.heap.size w w' := by
  have hmf : ∀ (fn : Fn) (first cap : Array Value) (w : World), (Instr.makeFunc fn first cap).run Tryz.prog w = .ok (.func fn first cap) w := fun _ _ _ _ => rfl
  have HR : Hid (RdB w a len zs) := h
  have Hres : Hid (res zs p = none) := hres
  clear h hres
  go_enter_defers Tryz.func62, Tryz.ntmps62
  go_wp2_with fail
  refine (read_no a len cap p zs _ (HR.out.below (below3 _ _ _ _)) hlen hcap ha Hres.out).mono ?_
  rintro e w1 ⟨rfl, rfl⟩
  go_wp2
  refine leaves_cons (f := 84) (args := #[.pointer (some ⟨w.heap.size, 0, none⟩), .pointer (some ⟨w.heap.size + 1, 0, none⟩), .pointer (some ⟨w.heap.size + 2, 0, none⟩)]) (by simp) (by simp [go_sem]) ?_
  refine (catch_panicking ⟨w.heap.size, 0, none⟩ ⟨w.heap.size + 1, 0, none⟩ ⟨w.heap.size + 2, 0, none⟩ (.int .i64 0) (.int .i64 0) (.bool false) _ _ [] _ (by simp) (by simp) (by simp) ?_ ?_ ?_ ?_ ?_ ?_).mono ?_
  · simp [go_sem]
  · simp [go_sem]
  · simp [go_sem]
  · simp [go_sem]
  · simp [go_sem]
  · simp [go_sem]
  rintro e u' w2 ⟨rfl, rfl, rfl⟩
  clear HR Hres hmf
  simp [Leaves, settle, results, Tryz.results62, go_sem]
  exact below3 _ _ _ _

set_option maxRecDepth 200000 in
set_option maxHeartbeats 800000 in
theorem getImpl_yes (a : Option Addr) (len cap : Nat) (p n : Int) (u : Nat) (zs : List Int) (w : World) (h : RdB w a len zs) (hlen : len ≤ 1048576) (hcap : len ≤ cap) (ha : a = none → cap = 0) (hres : res zs p = some (n, u)) :
    Calls Tryz.prog 62 #[.slice a len cap, .int .i64 p] w fun e w' => e = .returned (.tuple #[.int .i64 n, .int .i64 (p + u), .bool true]) ∧ Below w.heap.size w w' := by
  have hmf : ∀ (fn : Fn) (first cap : Array Value) (w : World), (Instr.makeFunc fn first cap).run Tryz.prog w = .ok (.func fn first cap) w := fun _ _ _ _ => rfl
  have HR : Hid (RdB w a len zs) := h
  have Hres : Hid (res zs p = some (n, u)) := hres
  clear h hres
  go_enter_defers Tryz.func62, Tryz.ntmps62
  go_wp2_with fail
  refine (read_yes a len cap p n u zs _ (HR.out.below (below3 _ _ _ _)) hlen hcap ha Hres.out).mono ?_
  rintro e w1 ⟨rfl, rfl⟩
  clear HR Hres
  go_wp2
  go_region
  all_goals (try go_wp2)
  all_goals
    refine leaves_cons (f := 84) (args := #[.pointer (some ⟨w.heap.size, 0, none⟩), .pointer (some ⟨w.heap.size + 1, 0, none⟩), .pointer (some ⟨w.heap.size + 2, 0, none⟩)]) (by simp) (by simp [go_sem]) ?_
    refine (catch_idle _ _ _ _).mono ?_
    rintro e u' w2 ⟨rfl, rfl, rfl⟩
    simp [Leaves, settle, results, Tryz.results62, go_sem]
    exact (below3 _ _ _ _).drew

set_option maxRecDepth 200000 in
theorem getImpl_any (a : Option Addr) (len cap : Nat) (p : Int) (zs : List Int) (w : World) (h : RdB w a len zs) (hlen : len ≤ 1048576) (hcap : len ≤ cap) (ha : a = none → cap = 0) :
    Calls Tryz.prog 62 #[.slice a len cap, .int .i64 p] w fun e w' => e = .returned (out3 (res zs p) p) ∧ Below w.heap.size w w' := by
  cases hr : res zs p with
  | none => exact getImpl_no a len cap p zs w h hlen hcap ha hr
  | some x => exact getImpl_yes a len cap p x.1 x.2 zs w h hlen hcap ha hr
end Go.Proofs.YtjndcfamfminkabGreat
/- The walk through the program's numbersOfBytes. No statement of the seat is proved here. -/
namespace Go.Proofs.YtjndcfamfminkabGreat
open Go.RowKit
theorem putAll_ge {l : List Int} (h : ∀ x ∈ l, InN x) : l.length ≤ (putAll l).length := by
  induction l with
  | nil => simp
  | cons a l ih =>
    have p := encOf_pos (h a (List.mem_cons_self ..))
    have e : putAll (a :: l) = encOf a ++ putAll l := by simp [putAll]
    have i := ih (fun x hx => h x (List.mem_cons_of_mem _ hx))
    rw [e, List.length_append, List.length_cons]
    omega
theorem allIs_len {zs l : List Int} {d : Bool} (h : AllIs zs l d) : l.length ≤ zs.length ∧ ∀ x ∈ l, InN x := by
  unfold AllIs at h
  cases d <;> simp only [if_true, Bool.false_eq_true, if_false] at h
  · rw [h.1]; exact ⟨by simp, by simp⟩
  · rw [h.1]; exact ⟨putAll_ge h.2, h.2⟩
/-- Where the bytes do not fit. -/
def Unfit (zs : List Int) (w : World) (a : Act) (W : World) : Prop := Below w.heap.size w W ∧ AllIs zs [] false ∧ ∃ u0 u1 u2 u3 u4 u5 u6 u7 u8 u9 u10 u11 u12 u13 u14 u15 u16 u17 u18 u19 u20 u21 u22 u23 u24 u25 u26 u27 u28 : Value, a = { tmps := #[u0, u1, u2, u3, u4, u5, u6, u7, u8, u9, u10, u11, u12, u13, u14, u15, u16, u17, u18, u19, u20, u21, u22, u23, u24, u25, u26, u27, u28], defers := [] }
set_option maxRecDepth 100000 in
set_option maxHeartbeats 4000000 in
theorem numbersOfBytes_any (a : Option Addr) (len cap : Nat) (zs : List Int) (w : World) (h : RdB w a len zs) (hlen : len ≤ 1048576) (hcap : len ≤ cap) (ha : a = none → cap = 0) :
    Calls Tryz.prog 27 #[.slice a len cap] w fun e w' => (∃ v l d, e = .returned (.tuple #[v, .bool d]) ∧ w'.ownsRow w.heap.size 3 1 v l.length (l.map (Value.int .i64)) ∧ AllIs zs l d) ∧ Below w.heap.size w w' := by
  obtain ⟨i0, hi, hz0, hz1, hz2⟩ := info_parts infoInt
  have HR : Hid (RdB w a len zs ∧ len ≤ cap ∧ (a = none → cap = 0)) := ⟨h, hcap, ha⟩
  have HL : Hid (zs.length = len ∧ ∀ x ∈ zs, 0 ≤ x ∧ x ≤ 255) := ⟨h.length, h.range⟩
  clear h hcap ha
  go_enter Tryz.func27, Tryz.ntmps27
  go_wp2
  refine wp_scope_jumps 1 (Unfit zs w) (fun _ _ => 0) rfl ?_ ?_
  rotate_left
  · rintro a' W ⟨hb, hz, u0, u1, u2, u3, u4, u5, u6, u7, u8, u9, u10, u11, u12, u13, u14, u15, u16, u17, u18, u19, u20, u21, u22, u23, u24, u25, u26, u27, u28, rfl⟩
    have HB : Hid (Below w.heap.size w W) := hb
    have HZ : Hid (AllIs zs [] false) := hz
    clear hb hz
    go_wp2
    simp only [Exit.jump]
    go_ret2
    exact ⟨⟨_, [], false, rfl, World.ownsRow_nil _ _ _ _, HZ.out⟩, HB.out⟩
  go_wp2
  go_step3
  go_wp2
  go_loopw [4, 5] (fun v at_ wr => ∃ (k : Nat) (l : List Int) (q : Int), at_ = .int .i64 q ∧ 0 ≤ q ∧ q ≤ len ∧ Hid (getTo zs 0 k = some (l, q)) ∧ Hid (wr.ownsRow w.heap.size 3 1 v l.length (l.map (Value.int .i64)) ∧ Below w.heap.size w wr)) (fun _ i _ => len - (intOf i).toNat)
  case atStart => exact ⟨0, [], 0, rfl, by omega, by omega, rfl, World.ownsRow_nil _ _ _ _, Below.refl _ _⟩
  case round =>
    obtain ⟨k, l, q, rfl, hq0, hq1, HG, HO⟩ := hrel
    go_wp2_with fail
    refine (getImpl_any a len cap q zs _ (HR.out.1.below HO.out.2) hlen HR.out.2.1 HR.out.2.2).mono ?_
    rintro e w1 ⟨rfl, hb1⟩
    have HO1 : Hid (w1.ownsRow w.heap.size 3 1 u4 l.length (l.map (Value.int .i64)) ∧ Below w.heap.size w w1) := ⟨ownsRow_below HO.out.1 hb1, Below.next HO.out.2 hb1⟩
    clear hb1 HO
    obtain ⟨r, hr⟩ : ∃ r, r = res zs q := ⟨_, rfl⟩
    rw [← hr]
    have HRes : Hid (r = res zs q) := hr
    clear hr
    rcases r with _ | ⟨n, u⟩
    · simp only [out3]
      by_cases hqe : q = len
      · have hqb : (q == (len : Int)) = true := by simpa using hqe
        have HV : Hid (AllIs zs l true) := all_here HL.out.2 (k := k) (by rw [HG.out, hqe, HL.out.1])
        clear hqe
        go_wp2
        simp only [Exit.jump]
        go_ret2
        exact ⟨⟨_, l, true, rfl, HO1.out.1, HV.out⟩, HO1.out.2⟩
      · have hqb : (q == (len : Int)) = false := by simpa using hqe
        have HV : Hid (AllIs zs [] false) := all_none HG.out HRes.out.symm (by rw [HL.out.1]; exact hqe)
        clear hqe
        go_wp2
        go_step3
        exact ⟨rfl, HO1.out.2, HV.out, _, _, _, _, _, _, _, _, _, _, _, _, _, _, _, _, _, _, _, _, _, _, _, _, _, _, _, _, _, rfl⟩
    · have HG2 : Hid (getTo zs 0 (k + 1) = some (l ++ [n], q + u)) := by show _ = _; rw [getTo, HG.out]; simp only; rw [← HRes.out]
      have hI := getTo_inv (p := 0) HL.out.2 (Nat.zero_le _) (by simpa using HG.out)
      have hr2 := res_inv HL.out.2 HRes.out.symm
      have hup : 0 < u := by rw [hr2.2.2.1]; exact encOf_pos hr2.2.1
      have hql : q + u ≤ len := by have := hr2.2.2.2.1; have := HL.out.1; omega
      have hll : l.length ≤ len := by have := putAll_ge hI.1; have := hI.2.2.1; have := HL.out.1; omega
      clear hI hr2
      simp only [out3]
      obtain ⟨q2, hq2⟩ : ∃ q2, q2 = q + (u : Int) := ⟨_, rfl⟩
      have hq2a : q < q2 := by omega
      have hq2b : q2 ≤ len := by omega
      rw [← hq2] at HG2 ⊢
      clear hq2 hql hup HG HRes
      go_wp2_with (with_reducible refine stopAppend rfl ?_)
      refine Stop.intro (wpList_append_own _ rfl _ _ 25 rfl w.heap.size 3 i0 (.int .i64 0) 1 8 Tryz.underlying25 hi hz0 hz1 hz2 rfl (by decide) _ _ _ rfl (HO1.out.1.alloc _) ⟨w1.heap.size, 0, none⟩ 1 1 [.int .i64 n] rfl rfl (cell_one7 _ _ _) (by intro u hu; simp at hu; subst hu; rfl) (by unfold maxLen; omega) (by omega) (by have := HO1.out.2.size; simp; omega) ?_)
      intro v2 w2 hown hgrow _
      have hal : Below w.heap.size w (w1.alloc (.cells #[.int .i64 n] 3)) := Below.allocW _ HO1.out.2 (Nat.le_refl _)
      have hb2 : Below w.heap.size w w2 := hal.grown hgrow hal.size (fun g hg => (HO1.out.1.lt g hg).1)
      have HO2 : Hid (w2.ownsRow w.heap.size 3 1 v2 (l ++ [n]).length ((l ++ [n]).map (Value.int .i64)) ∧ Below w.heap.size w w2) := by
        refine ⟨?_, hb2⟩
        rw [List.length_append, List.map_append]
        exact hown
      clear hown hgrow hal hb2 HO1 hll
      go_wp2
      go_roundw
      case rel => exact ⟨k + 1, l ++ [n], q2, rfl, by omega, by omega, HG2, HO2⟩
      case measure => simp [intOf]; omega
end Go.Proofs.YtjndcfamfminkabGreat
/- Two lists, two summaries held against each other, by the model and by the library. No statement of the seat is proved here. -/
namespace Go.Proofs.YtjndcfamfminkabGreat
open Go.RowKit
set_option maxRecDepth 200000 in
set_option maxHeartbeats 1000000 in
theorem l1Same_any (a b : Option Addr) (la lb ca cb : Nat) (xs ys : List Int) (F G : List Nat) (w : World) (ha : RdI w a la xs F) (hb : RdI w b lb ys G) (hla : la ≤ 140737488355328) (hlb : lb ≤ 140737488355328) :
    Calls Tryz.prog 49 #[.slice a la ca, .slice b lb cb] w fun e w' => e = .returned (.bool (decide (xs = ys))) ∧ Below w.heap.size w w' := by
  have Hx : Hid (xs.length = la) := ha.length
  have Hy : Hid (ys.length = lb) := hb.length
  by_cases hl : la = lb
  · subst hl
    have hbne : ((la : Int) != (la : Int)) = false := by simp
    by_cases h0 : la = 0
    · subst h0
      have ex : xs = [] := List.eq_nil_of_length_eq_zero ha.length
      have ey : ys = [] := List.eq_nil_of_length_eq_zero hb.length
      clear ha hb
      go_enter Tryz.func49, Tryz.ntmps49
      go_wp2
      refine wp_loop_rounds 1 ?_
      rw [rounds_succ]
      go_wp2
      go_ret
      exact ⟨ret_bool (by rw [ex, ey]; rfl), Below.refl _ _⟩
    · obtain ⟨b1, o1, rfl, hc1⟩ : ∃ b off, a = some ⟨b, off, none⟩ ∧ ∀ i, i < la → w.cell? ⟨b, off + i, none⟩ = some (.int .i64 (xs.getD i 0)) := by
        rcases ha.cells with h | ⟨b, off, _, h1, _, h2⟩
        · exact absurd h.1 h0
        · exact ⟨b, off, h1, h2⟩
      obtain ⟨b2, o2, rfl, hc2⟩ : ∃ b' off, b = some ⟨b', off, none⟩ ∧ ∀ i, i < la → w.cell? ⟨b', off + i, none⟩ = some (.int .i64 (ys.getD i 0)) := by
        rcases hb.cells with h | ⟨b, off, _, h1, _, h2⟩
        · exact absurd h.1 h0
        · exact ⟨b, off, h1, h2⟩
      have hb1 : b1 < w.heap.size := World.block_lt_of_cell? _ _ (hc1 0 (by omega))
      have hb2 : b2 < w.heap.size := World.block_lt_of_cell? _ _ (hc2 0 (by omega))
      clear ha hb
      go_enter Tryz.func49, Tryz.ntmps49
      go_wp2
      go_loopw [5] (fun i wr => ∃ k : Nat, k ≤ la ∧ i = .int .i64 k ∧ Hid (xs.take k = ys.take k) ∧ Below w.heap.size w wr) (fun i _ => la - (intOf i).toNat)
      case atStart => exact ⟨0, by omega, rfl, rfl, Below.refl _ _⟩
      case round =>
        obtain ⟨k, hk, rfl, HT, hbel⟩ := hrel
        by_cases hlt : k < la
        · have d1 : wr.cell? ⟨b1, o1 + k, none⟩ = some (.int .i64 (xs.getD k 0)) := (hbel.cell (by exact hb1)).trans (hc1 k hlt)
          have d2 : wr.cell? ⟨b2, o2 + k, none⟩ = some (.int .i64 (ys.getD k 0)) := (hbel.cell (by exact hb2)).trans (hc2 k hlt)
          by_cases he : xs[k]?.getD 0 = ys[k]?.getD 0
          · have hne : (xs[k]?.getD 0 != ys[k]?.getD 0) = false := by simp [he]
            have HE : Hid (xs[k]?.getD 0 = ys[k]?.getD 0) := he
            clear he hc1 hc2
            go_wp2
            go_region
            all_goals (try go_wp2)
            all_goals
              go_roundw
              case rel => exact ⟨k + 1, by omega, by go_num, eqI_step (by rw [Hx.out, Hy.out]) (by rw [Hx.out]; exact hlt) HT.out HE.out, by repeat (first | exact hbel | apply Below.drew)⟩
              case measure => simp [intOf]; omega
          · have hne : (xs[k]?.getD 0 != ys[k]?.getD 0) = true := by simp [he]
            have HE : Hid (¬ xs[k]?.getD 0 = ys[k]?.getD 0) := he
            clear he hc1 hc2
            go_wp2
            go_region
            all_goals (try go_wp2)
            all_goals
              go_ret
              exact ⟨ret_bool (neI_of_at HE.out).symm, by repeat (first | exact hbel | apply Below.drew)⟩
        · obtain rfl : k = la := by omega
          go_wp2
          go_ret
          exact ⟨ret_bool (eqI_end Hx.out Hy.out HT.out).symm, hbel⟩
  · have hbne : ((la : Int) != (lb : Int)) = true := by simp; omega
    have e : decide (xs = ys) = false := by
      rw [decide_eq_false_iff_not]; intro e; subst e; exact hl (Hx.out.symm.trans Hy.out)
    clear ha hb
    go_enter Tryz.func49, Tryz.ntmps49
    go_wp2
    go_ret
    exact ⟨ret_bool e.symm, Below.refl _ _⟩
set_option maxRecDepth 200000 in
set_option maxHeartbeats 1000000 in
theorem slEqual_any (a b : Option Addr) (la lb ca cb : Nat) (xs ys : List Int) (F G : List Nat) (w : World) (ha : RdI w a la xs F) (hb : RdI w b lb ys G) (hla : la ≤ 140737488355328) (hlb : lb ≤ 140737488355328) :
    Calls Tryz.prog 106 #[.slice a la ca, .slice b lb cb] w fun e w' => e = .returned (.bool (decide (xs = ys))) ∧ Below w.heap.size w w' := by
  have Hx : Hid (xs.length = la) := ha.length
  have Hy : Hid (ys.length = lb) := hb.length
  by_cases hl : la = lb
  · subst hl
    have hbne : ((la : Int) != (la : Int)) = false := by simp
    by_cases h0 : la = 0
    · subst h0
      have ex : xs = [] := List.eq_nil_of_length_eq_zero ha.length
      have ey : ys = [] := List.eq_nil_of_length_eq_zero hb.length
      clear ha hb
      go_enter Tryz.func106, Tryz.ntmps106
      go_wp2
      refine wp_loop_rounds 1 ?_
      rw [rounds_succ]
      go_wp2
      go_ret
      exact ⟨ret_bool (by rw [ex, ey]; rfl), Below.refl _ _⟩
    · obtain ⟨b1, o1, rfl, hc1⟩ : ∃ b off, a = some ⟨b, off, none⟩ ∧ ∀ i, i < la → w.cell? ⟨b, off + i, none⟩ = some (.int .i64 (xs.getD i 0)) := by
        rcases ha.cells with h | ⟨b, off, _, h1, _, h2⟩
        · exact absurd h.1 h0
        · exact ⟨b, off, h1, h2⟩
      obtain ⟨b2, o2, rfl, hc2⟩ : ∃ b' off, b = some ⟨b', off, none⟩ ∧ ∀ i, i < la → w.cell? ⟨b', off + i, none⟩ = some (.int .i64 (ys.getD i 0)) := by
        rcases hb.cells with h | ⟨b, off, _, h1, _, h2⟩
        · exact absurd h.1 h0
        · exact ⟨b, off, h1, h2⟩
      have hb1 : b1 < w.heap.size := World.block_lt_of_cell? _ _ (hc1 0 (by omega))
      have hb2 : b2 < w.heap.size := World.block_lt_of_cell? _ _ (hc2 0 (by omega))
      clear ha hb
      go_enter Tryz.func106, Tryz.ntmps106
      go_wp2
      go_loopw [13] (fun i wr => ∃ k : Nat, k ≤ la ∧ i = .int .i64 k ∧ Hid (xs.take k = ys.take k) ∧ Below w.heap.size w wr) (fun i _ => la - (intOf i).toNat)
      case atStart => exact ⟨0, by omega, rfl, rfl, Below.refl _ _⟩
      case round =>
        obtain ⟨k, hk, rfl, HT, hbel⟩ := hrel
        by_cases hlt : k < la
        · have d1 : wr.cell? ⟨b1, o1 + k, none⟩ = some (.int .i64 (xs.getD k 0)) := (hbel.cell (by exact hb1)).trans (hc1 k hlt)
          have d2 : wr.cell? ⟨b2, o2 + k, none⟩ = some (.int .i64 (ys.getD k 0)) := (hbel.cell (by exact hb2)).trans (hc2 k hlt)
          by_cases he : xs[k]?.getD 0 = ys[k]?.getD 0
          · have hne : (xs[k]?.getD 0 != ys[k]?.getD 0) = false := by simp [he]
            have HE : Hid (xs[k]?.getD 0 = ys[k]?.getD 0) := he
            clear he hc1 hc2
            go_wp2
            go_region
            all_goals (try go_wp2)
            all_goals
              go_roundw
              case rel => exact ⟨k + 1, by omega, by go_num, eqI_step (by rw [Hx.out, Hy.out]) (by rw [Hx.out]; exact hlt) HT.out HE.out, by repeat (first | exact hbel | apply Below.drew)⟩
              case measure => simp [intOf]; omega
          · have hne : (xs[k]?.getD 0 != ys[k]?.getD 0) = true := by simp [he]
            have HE : Hid (¬ xs[k]?.getD 0 = ys[k]?.getD 0) := he
            clear he hc1 hc2
            go_wp2
            go_region
            all_goals (try go_wp2)
            all_goals
              go_ret
              exact ⟨ret_bool (neI_of_at HE.out).symm, by repeat (first | exact hbel | apply Below.drew)⟩
        · obtain rfl : k = la := by omega
          go_wp2
          go_ret
          exact ⟨ret_bool (eqI_end Hx.out Hy.out HT.out).symm, hbel⟩
  · have hbne : ((la : Int) != (lb : Int)) = true := by simp; omega
    have e : decide (xs = ys) = false := by
      rw [decide_eq_false_iff_not]; intro e; subst e; exact hl (Hx.out.symm.trans Hy.out)
    clear ha hb
    go_enter Tryz.func106, Tryz.ntmps106
    go_wp2
    go_ret
    exact ⟨ret_bool e.symm, Below.refl _ _⟩
/-- The two boxes lie there, and nothing elder has changed. -/
structure Boxes (w : World) (A B : Array Value) (t : TypeId) (W : World) : Prop where
  fst : Blk W w.heap.size A t
  snd : Blk W (w.heap.size + 1) B t
  bel : Below w.heap.size w W
theorem Boxes.below {w W W' : World} {A B : Array Value} {t : TypeId} (h : Boxes w A B t W) (b : Below W.heap.size W W') : Boxes w A B t W' := ⟨h.fst.below b, h.snd.below b, Below.next h.bel b⟩
theorem Boxes.drew {w W : World} {A B : Array Value} {t : TypeId} (h : Boxes w A B t W) : Boxes w A B t W.drew := ⟨h.fst, h.snd, h.bel.drew⟩
set_option maxRecDepth 200000 in
set_option maxHeartbeats 4000000 in
theorem sameSpec_any (v u : Value) (s t : Sk) (F G : List Nat) (w : World) (h : RdSk w v s F) (k : RdSk w u t G) (hw : s.wide) (kw : t.wide) :
    Calls Tryz.prog 18 #[v, u] w fun e w' => e = .returned (.bool (decide (s = t))) ∧ Below w.heap.size w w' := by
  obtain ⟨a1, n1, c1, a2, n2, c2, a3, n3, c3, F1, F2, F3, rfl, h1, h2, h3, _⟩ := h
  obtain ⟨b1, m1, d1, b2, m2, d2, b3, m3, d3, G1, G2, G3, rfl, k1, k2, k3, _⟩ := k
  have H1 : Hid (RdI w a1 n1 s.hist F1 ∧ RdI w b1 m1 t.hist G1 ∧ n1 ≤ 140737488355328 ∧ m1 ≤ 140737488355328) := ⟨h1, k1, by rw [← h1.length]; exact hw.hist, by rw [← k1.length]; exact kw.hist⟩
  have H2 : Hid (RdI w a2 n2 s.regs F2 ∧ RdI w b2 m2 t.regs G2 ∧ n2 ≤ 140737488355328 ∧ m2 ≤ 140737488355328) := ⟨h2, k2, by rw [← h2.length]; exact hw.regs, by rw [← k2.length]; exact kw.regs⟩
  have H3 : Hid (RdII w a3 n3 s.rows F3 ∧ RdII w b3 m3 t.rows G3 ∧ n3 ≤ 140737488355328 ∧ m3 ≤ 140737488355328) := ⟨h3, k3, by rw [← h3.length]; exact hw.rows, by rw [← k3.length]; exact kw.rows⟩
  have hn3 : n3 ≤ 140737488355328 := H3.out.2.2.1
  have hm3 : m3 ≤ 140737488355328 := H3.out.2.2.2
  have HW : Hid (s.wide ∧ t.wide) := ⟨hw, kw⟩
  clear h1 h2 h3 k1 k2 k3 hw kw
  have HT : Hid (_ ∧ _ ∧ _) := two_made w #[.int .i64 s.count, .int .i64 s.sum, .int .i64 s.min, .int .i64 s.max, .slice a1 n1 c1, .slice a2 n2 c2, .slice a3 n3 c3] #[.int .i64 t.count, .int .i64 t.sum, .int .i64 t.min, .int .i64 t.max, .slice b1 m1 d1, .slice b2 m2 d2, .slice b3 m3 d3] 28 28
  obtain ⟨d, hd⟩ : ∃ d, d = decide (s = t) := ⟨_, rfl⟩
  rw [← hd]
  have HD : Hid (d = decide (s = t)) := hd
  clear hd
  go_enter Tryz.func18, Tryz.ntmps18
  by_cases q1 : s.count = t.count
  rotate_left
  · have q' : (s.count != t.count) = true := by simpa using q1
    have HN : Hid (d = false) := by show d = _; rw [HD.out]; exact dec_false (fun e => q1 (by rw [e]))
    clear q1
    go_wp2
    go_ret
    exact ⟨ret_bool HN.out.symm, HT.out.2.2⟩
  have Q1 : Hid (s.count = t.count) := q1
  have q1' : (s.count != t.count) = false := by simpa using q1
  clear q1
  by_cases q2 : s.sum = t.sum
  rotate_left
  · have q' : (s.sum != t.sum) = true := by simpa using q2
    have HN : Hid (d = false) := by show d = _; rw [HD.out]; exact dec_false (fun e => q2 (by rw [e]))
    clear q2
    go_wp2
    go_ret
    exact ⟨ret_bool HN.out.symm, HT.out.2.2⟩
  have Q2 : Hid (s.sum = t.sum) := q2
  have q2' : (s.sum != t.sum) = false := by simpa using q2
  clear q2
  by_cases q3 : s.min = t.min
  rotate_left
  · have q' : (s.min != t.min) = true := by simpa using q3
    have HN : Hid (d = false) := by show d = _; rw [HD.out]; exact dec_false (fun e => q3 (by rw [e]))
    clear q3
    go_wp2
    go_ret
    exact ⟨ret_bool HN.out.symm, HT.out.2.2⟩
  have Q3 : Hid (s.min = t.min) := q3
  have q3' : (s.min != t.min) = false := by simpa using q3
  clear q3
  by_cases q4 : s.max = t.max
  rotate_left
  · have q' : (s.max != t.max) = true := by simpa using q4
    have HN : Hid (d = false) := by show d = _; rw [HD.out]; exact dec_false (fun e => q4 (by rw [e]))
    clear q4
    go_wp2
    go_ret
    exact ⟨ret_bool HN.out.symm, HT.out.2.2⟩
  have Q4 : Hid (s.max = t.max) := q4
  have q4' : (s.max != t.max) = false := by simpa using q4
  clear q4
  go_wp2_with fail
  refine (l1Same_any a1 b1 n1 m1 c1 d1 s.hist t.hist F1 G1 _ (H1.out.1.below HT.out.2.2) (H1.out.2.1.below HT.out.2.2) H1.out.2.2.1 H1.out.2.2.2).mono ?_
  rintro e w1 ⟨rfl, hb1⟩
  have HB1 : Hid (Boxes w #[.int .i64 s.count, .int .i64 s.sum, .int .i64 s.min, .int .i64 s.max, .slice a1 n1 c1, .slice a2 n2 c2, .slice a3 n3 c3] #[.int .i64 t.count, .int .i64 t.sum, .int .i64 t.min, .int .i64 t.max, .slice b1 m1 d1, .slice b2 m2 d2, .slice b3 m3 d3] 28 w1) := ⟨HT.out.1.below hb1, HT.out.2.1.below hb1, Below.next HT.out.2.2 hb1⟩
  clear hb1 HT
  cases e5 : decide (s.hist = t.hist)
  · have HN : Hid (d = false) := by show d = _; rw [HD.out]; exact dec_false (fun e => by rw [e] at e5; simp at e5)
    clear e5
    go_wp2
    go_ret
    exact ⟨ret_bool HN.out.symm, HB1.out.bel⟩
  have Q5 : Hid (s.hist = t.hist) := (show s.hist = t.hist from of_decide_eq_true e5)
  clear e5
  have x5 := HB1.out.fst.cell 5
  have y5 := HB1.out.snd.cell 5
  simp only [aT, aS, aZ] at x5 y5
  go_wp2_with fail
  refine (l1Same_any a2 b2 n2 m2 c2 d2 s.regs t.regs F2 G2 _ (H2.out.1.below HB1.out.bel) (H2.out.2.1.below HB1.out.bel) H2.out.2.2.1 H2.out.2.2.2).mono ?_
  rintro e w2 ⟨rfl, hb2⟩
  have HB2 : Hid (Boxes w #[.int .i64 s.count, .int .i64 s.sum, .int .i64 s.min, .int .i64 s.max, .slice a1 n1 c1, .slice a2 n2 c2, .slice a3 n3 c3] #[.int .i64 t.count, .int .i64 t.sum, .int .i64 t.min, .int .i64 t.max, .slice b1 m1 d1, .slice b2 m2 d2, .slice b3 m3 d3] 28 w2) := HB1.out.below hb2
  clear hb2 x5 y5 HB1
  cases e6 : decide (s.regs = t.regs)
  · have HN : Hid (d = false) := by show d = _; rw [HD.out]; exact dec_false (fun e => by rw [e] at e6; simp at e6)
    clear e6
    go_wp2
    go_ret
    exact ⟨ret_bool HN.out.symm, HB2.out.bel⟩
  have Q6 : Hid (s.regs = t.regs) := (show s.regs = t.regs from of_decide_eq_true e6)
  clear e6
  have x6 := HB2.out.fst.cell 6
  have y6 := HB2.out.snd.cell 6
  simp only [aT, aS, aZ] at x6 y6
  by_cases q7 : n3 = m3
  rotate_left
  · have q7' : ((n3 : Int) != (m3 : Int)) = true := by simp; omega
    have HN : Hid (d = false) := by show d = _; rw [HD.out]; exact dec_false (fun e => q7 (by rw [← H3.out.1.length, ← H3.out.2.1.length, e]))
    clear q7
    go_wp2
    go_ret
    exact ⟨ret_bool HN.out.symm, HB2.out.bel⟩
  subst q7
  have q7' : ((n3 : Int) != (n3 : Int)) = false := by simp
  go_wp2
  clear x6 y6 q7'
  go_loopw [5] (fun i wr => ∃ k : Nat, k ≤ n3 ∧ i = .int .i64 k ∧ Hid (s.rows.take k = t.rows.take k) ∧ Hid (Boxes w #[.int .i64 s.count, .int .i64 s.sum, .int .i64 s.min, .int .i64 s.max, .slice a1 n1 c1, .slice a2 n2 c2, .slice a3 n3 c3] #[.int .i64 t.count, .int .i64 t.sum, .int .i64 t.min, .int .i64 t.max, .slice b1 m1 d1, .slice b2 m2 d2, .slice b3 n3 d3] 28 wr)) (fun i _ => n3 - (intOf i).toNat)
  case atStart => exact ⟨0, by omega, rfl, rfl, HB2.out⟩
  case round =>
    clear HB2
    obtain ⟨k, hk, rfl, HK, HB⟩ := hrel
    have x6 := HB.out.fst.cell 6
    simp only [aT, aS, aZ] at x6
    by_cases hlt : k < n3
    · obtain ⟨p1, f1, X1, rfl, hm1⟩ : ∃ b off F', a3 = some ⟨b, off, none⟩ ∧ RdM w (s.rows.map ints) b off F' := by
        rcases H3.out.1.cells with ⟨h0, _⟩ | ⟨b, off, F', _, e, _, hm⟩
        · omega
        · exact ⟨b, off, F', e, hm⟩
      obtain ⟨p2, f2, X2, rfl, hm2⟩ : ∃ b off F', b3 = some ⟨b, off, none⟩ ∧ RdM w (t.rows.map ints) b off F' := by
        rcases H3.out.2.1.cells with ⟨h0, _⟩ | ⟨b, off, F', _, e, _, hm⟩
        · omega
        · exact ⟨b, off, F', e, hm⟩
      obtain ⟨e1, l1, g1, Y1, hc1, hr1, _⟩ := RdII.row hm1 H3.out.1.length k hlt
      obtain ⟨e2, l2, g2, Y2, hc2, hr2, _⟩ := RdII.row hm2 H3.out.2.1.length k hlt
      have hp1 : p1 < w.heap.size := World.block_lt_of_cell? _ _ hc1
      have hp2 : p2 < w.heap.size := World.block_lt_of_cell? _ _ hc2
      have HC : Hid (∀ W, Boxes w #[.int .i64 s.count, .int .i64 s.sum, .int .i64 s.min, .int .i64 s.max, .slice a1 n1 c1, .slice a2 n2 c2, .slice (some ⟨p1, f1, none⟩) n3 c3] #[.int .i64 t.count, .int .i64 t.sum, .int .i64 t.min, .int .i64 t.max, .slice b1 m1 d1, .slice b2 m2 d2, .slice (some ⟨p2, f2, none⟩) n3 d3] 28 W → W.cell? ⟨w.heap.size, 6, none⟩ = some (.slice (some ⟨p1, f1, none⟩) n3 c3) ∧ W.cell? ⟨w.heap.size + 1, 6, none⟩ = some (.slice (some ⟨p2, f2, none⟩) n3 d3) ∧ W.cell? ⟨p1, f1 + k, none⟩ = some (.slice e1 l1 g1) ∧ W.cell? ⟨p2, f2 + k, none⟩ = some (.slice e2 l2 g2)) := fun W b =>
        ⟨by rw [b.fst.cell]; rfl, by rw [b.snd.cell]; rfl, (b.bel.cell (by exact hp1)).trans hc1, (b.bel.cell (by exact hp2)).trans hc2⟩
      have HQ : Hid (RdI w e1 l1 (s.rows.getD k []) Y1 ∧ RdI w e2 l2 (t.rows.getD k []) Y2 ∧ l1 ≤ 140737488355328 ∧ l2 ≤ 140737488355328) := ⟨hr1, hr2, by rw [← hr1.length]; exact HW.out.1.row _ (mem_getD (by rw [H3.out.1.length]; exact hlt)), by rw [← hr2.length]; exact HW.out.2.row _ (mem_getD (by rw [H3.out.2.1.length]; exact hlt))⟩
      have HS : Hid (Boxes w #[.int .i64 s.count, .int .i64 s.sum, .int .i64 s.min, .int .i64 s.max, .slice a1 n1 c1, .slice a2 n2 c2, .slice (some ⟨p1, f1, none⟩) n3 c3] #[.int .i64 t.count, .int .i64 t.sum, .int .i64 t.min, .int .i64 t.max, .slice b1 m1 d1, .slice b2 m2 d2, .slice (some ⟨p2, f2, none⟩) n3 d3] 28 wr.drew) := HB.out.drew
      clear hc1 hc2 hr1 hr2 hm1 hm2
      go_wp2
      clear x6
      refine wp_region_held (S := Boxes w #[.int .i64 s.count, .int .i64 s.sum, .int .i64 s.min, .int .i64 s.max, .slice a1 n1 c1, .slice a2 n2 c2, .slice (some ⟨p1, f1, none⟩) n3 c3] #[.int .i64 t.count, .int .i64 t.sum, .int .i64 t.min, .int .i64 t.max, .slice b1 m1 d1, .slice b2 m2 d2, .slice (some ⟨p2, f2, none⟩) n3 d3] 28) (by kernel_rfl) ?_
      change wpAnyH _ _ _ _ _ _ _ _ (World.drew _)
      refine takeH (o := ?o1) 0 (.pointer (some ⟨w.heap.size, 6, none⟩)) ?h1 ?r1
      case h1 => simp only [aT, aZ]; rfl
      refine ⟨_, by simp [Act.put]; rfl, by kernel_rfl, by kernel_rfl, by kernel_rfl, fun _ _ _ h => h, (.inl ⟨rfl, fun W _ => by go_simp⟩), HS.out, ?_⟩
      refine takeH (o := ?o2) 1 (.slice (some ⟨p1, f1, none⟩) n3 c3) ?h2 ?r2
      case h2 => simp only [aT, aS, aZ]; rfl
      refine ⟨_, by simp [Act.put]; rfl, by kernel_rfl, by kernel_rfl, by kernel_rfl, fun _ _ _ h => h, (.inl ⟨rfl, fun W hW => by have c := (HC.out W hW).1; go_simp⟩), HS.out, ?_⟩
      refine takeH (o := ?o3) 2 (.int .i64 k) ?h3 ?r3
      case h3 => simp only [aT, aS, aZ]; rfl
      refine ⟨_, by simp [Act.put]; rfl, by kernel_rfl, by kernel_rfl, by kernel_rfl, fun _ _ _ h => h, (.inl ⟨rfl, fun W _ => by go_simp⟩), HS.out, ?_⟩
      refine takeH (o := ?o4) 3 (.pointer (some ⟨p1, f1 + k, none⟩)) ?h4 ?r4
      case h4 => simp only [aT, aS, aZ]; rfl
      refine ⟨_, by simp [Act.put]; rfl, by kernel_rfl, by kernel_rfl, by kernel_rfl, fun _ _ _ h => h, (.inl ⟨rfl, fun W _ => by go_simp⟩), HS.out, ?_⟩
      refine takeH (o := ?o5) 4 (.slice e1 l1 g1) ?h5 ?r5
      case h5 => simp only [aT, aS, aZ]; rfl
      refine ⟨_, by simp [Act.put]; rfl, by kernel_rfl, by kernel_rfl, by kernel_rfl, fun _ _ _ h => h, (.inl ⟨rfl, fun W hW => by have c := (HC.out W hW).2.2.1; go_simp⟩), HS.out, ?_⟩
      refine takeH (o := ?o6) 5 (.pointer (some ⟨w.heap.size + 1, 6, none⟩)) ?h6 ?r6
      case h6 => simp only [aT, aS, aZ]; rfl
      refine ⟨_, by simp [Act.put]; rfl, by kernel_rfl, by kernel_rfl, by kernel_rfl, fun _ _ _ h => h, (.inl ⟨rfl, fun W _ => by go_simp⟩), HS.out, ?_⟩
      refine takeH (o := ?o7) 6 (.slice (some ⟨p2, f2, none⟩) n3 d3) ?h7 ?r7
      case h7 => simp only [aT, aS, aZ]; rfl
      refine ⟨_, by simp [Act.put]; rfl, by kernel_rfl, by kernel_rfl, by kernel_rfl, fun _ _ _ h => h, (.inl ⟨rfl, fun W hW => by have c := (HC.out W hW).2.1; go_simp⟩), HS.out, ?_⟩
      refine takeH (o := ?o8) 7 (.int .i64 k) ?h8 ?r8
      case h8 => simp only [aT, aS, aZ]; rfl
      refine ⟨_, by simp [Act.put]; rfl, by kernel_rfl, by kernel_rfl, by kernel_rfl, fun _ _ _ h => h, (.inl ⟨rfl, fun W _ => by go_simp⟩), HS.out, ?_⟩
      refine takeH (o := ?o9) 8 (.pointer (some ⟨p2, f2 + k, none⟩)) ?h9 ?r9
      case h9 => simp only [aT, aS, aZ]; rfl
      refine ⟨_, by simp [Act.put]; rfl, by kernel_rfl, by kernel_rfl, by kernel_rfl, fun _ _ _ h => h, (.inl ⟨rfl, fun W _ => by go_simp⟩), HS.out, ?_⟩
      refine takeH (o := ?o10) 9 (.slice e2 l2 g2) ?h10 ?r10
      case h10 => simp only [aT, aS, aZ]; rfl
      refine ⟨_, by simp [Act.put]; rfl, by kernel_rfl, by kernel_rfl, by kernel_rfl, fun _ _ _ h => h, (.inl ⟨rfl, fun W hW => by have c := (HC.out W hW).2.2.2; go_simp⟩), HS.out, ?_⟩
      refine onlyH (o := ?o11) 10 (by kernel_rfl) ?h11 ?r11
      case h11 => simp only [aT, aS, aZ]; rfl
      intro K hK
      cases ee : decide (s.rows.getD k [] = t.rows.getD k [])
      · have HN : Hid (d = false) := by show d = _; rw [HD.out]; exact dec_false (fun e => by rw [e] at ee; simp at ee)
        refine op_call2 49 _ _ _ Tryz.f49 (fun w' => Below wr.drew.heap.size wr.drew w') (.bool false) rfl rfl Tryz.func49 (by kernel_rfl) (by kernel_rfl) (by rw [← ee]; exact l1Same_any e1 e2 l1 l2 g1 g2 _ _ Y1 Y2 wr.drew (HQ.out.1.below HB.out.bel.drew) (HQ.out.2.1.below HB.out.bel.drew) HQ.out.2.2.1 HQ.out.2.2.2) ⟨_, by simp [Act.put]; rfl, ?_⟩
        intro W5 b5
        have HB5 : Hid (Boxes w #[.int .i64 s.count, .int .i64 s.sum, .int .i64 s.min, .int .i64 s.max, .slice a1 n1 c1, .slice a2 n2 c2, .slice (some ⟨p1, f1, none⟩) n3 c3] #[.int .i64 t.count, .int .i64 t.sum, .int .i64 t.min, .int .i64 t.max, .slice b1 m1 d1, .slice b2 m2 d2, .slice (some ⟨p2, f2, none⟩) n3 d3] 28 W5) := HS.out.below b5
        refine hK _ _ ⟨HB5.out, ?_⟩
        clear hK b5 ee
        refine takeH (o := ?o12) 11 (.bool true) ?h12 ?r12
        case h12 => simp only [aT, aS, aZ]; rfl
        refine ⟨_, by simp [Act.put]; rfl, by kernel_rfl, by kernel_rfl, by kernel_rfl, fun _ _ _ h => h, (.inl ⟨rfl, fun W _ => by go_simp⟩), HB5.out, ?_⟩
        refine wpAnyH_done (by kernel_rfl) ?_ _
        go_wp2
        go_ret
        exact ⟨ret_bool HN.out.symm, HB5.out.bel⟩
      · have HK2 : Hid (s.rows.take (k + 1) = t.rows.take (k + 1)) := eqII_step (by rw [H3.out.1.length, H3.out.2.1.length]) (by rw [H3.out.1.length]; exact hlt) HK.out (of_decide_eq_true ee)
        refine op_call2 49 _ _ _ Tryz.f49 (fun w' => Below wr.drew.heap.size wr.drew w') (.bool true) rfl rfl Tryz.func49 (by kernel_rfl) (by kernel_rfl) (by rw [← ee]; exact l1Same_any e1 e2 l1 l2 g1 g2 _ _ Y1 Y2 wr.drew (HQ.out.1.below HB.out.bel.drew) (HQ.out.2.1.below HB.out.bel.drew) HQ.out.2.2.1 HQ.out.2.2.2) ⟨_, by simp [Act.put]; rfl, ?_⟩
        intro W5 b5
        have HB5 : Hid (Boxes w #[.int .i64 s.count, .int .i64 s.sum, .int .i64 s.min, .int .i64 s.max, .slice a1 n1 c1, .slice a2 n2 c2, .slice (some ⟨p1, f1, none⟩) n3 c3] #[.int .i64 t.count, .int .i64 t.sum, .int .i64 t.min, .int .i64 t.max, .slice b1 m1 d1, .slice b2 m2 d2, .slice (some ⟨p2, f2, none⟩) n3 d3] 28 W5) := HS.out.below b5
        refine hK _ _ ⟨HB5.out, ?_⟩
        clear hK b5 ee
        refine takeH (o := ?o13) 11 (.bool false) ?h13 ?r13
        case h13 => simp only [aT, aS, aZ]; rfl
        refine ⟨_, by simp [Act.put]; rfl, by kernel_rfl, by kernel_rfl, by kernel_rfl, fun _ _ _ h => h, (.inl ⟨rfl, fun W _ => by go_simp⟩), HB5.out, ?_⟩
        refine wpAnyH_done (by kernel_rfl) ?_ _
        go_wp2
        go_roundw
        case rel => exact ⟨k + 1, by omega, by go_num, HK2, HB5⟩
        case measure => simp [intOf]; omega
    · obtain rfl : k = n3 := by omega
      have HE : Hid (s.rows = t.rows) := by
        have := HK.out
        rw [List.take_of_length_le (Nat.le_of_eq H3.out.1.length), List.take_of_length_le (Nat.le_of_eq H3.out.2.1.length)] at this
        exact this
      have HN : Hid (d = true) := by show d = _; rw [HD.out]; exact dec_true (Sk.eq_of Q1.out Q2.out Q3.out Q4.out Q5.out Q6.out HE.out)
      go_wp2
      go_ret
      exact ⟨ret_bool HN.out.symm, HB.out.bel⟩
end Go.Proofs.YtjndcfamfminkabGreat
/- The walks through the program's SketchSame. No statement of the seat is proved here. -/
namespace Go.Proofs.YtjndcfamfminkabGreat
open Go.RowKit
def numsEq (s t : Sk) : Bool := decide (s.count = t.count ∧ s.sum = t.sum ∧ s.min = t.min ∧ s.max = t.max)
set_option maxRecDepth 200000 in
set_option maxHeartbeats 1000000 in
theorem sameNumbers_any (v u : Value) (s t : Sk) (F G : List Nat) (w : World) (h : RdSk w v s F) (k : RdSk w u t G) :
    Calls Tryz.prog 99 #[v, u] w fun e w' => e = .returned (.bool (numsEq s t)) ∧ Below w.heap.size w w' := by
  obtain ⟨a1, n1, c1, a2, n2, c2, a3, n3, c3, F1, F2, F3, rfl, _⟩ := h
  obtain ⟨b1, m1, d1, b2, m2, d2, b3, m3, d3, G1, G2, G3, rfl, _⟩ := k
  have HT : Hid (_ ∧ _ ∧ _) := two_made w #[.int .i64 s.count, .int .i64 s.sum, .int .i64 s.min, .int .i64 s.max, .slice a1 n1 c1, .slice a2 n2 c2, .slice a3 n3 c3] #[.int .i64 t.count, .int .i64 t.sum, .int .i64 t.min, .int .i64 t.max, .slice b1 m1 d1, .slice b2 m2 d2, .slice b3 m3 d3] 28 28
  obtain ⟨d, hd⟩ : ∃ d, d = numsEq s t := ⟨_, rfl⟩
  rw [← hd]
  have HD : Hid (d = decide (s.count = t.count ∧ s.sum = t.sum ∧ s.min = t.min ∧ s.max = t.max)) := hd
  clear hd
  go_enter Tryz.func99, Tryz.ntmps99
  by_cases q1 : s.count = t.count
  rotate_left
  · have q' : (s.count == t.count) = false := by simpa using q1
    have HN : Hid (d = false) := by show d = _; rw [HD.out]; exact dec_false (fun e => q1 e.1)
    clear q1
    go_wp2
    go_ret
    exact ⟨ret_bool HN.out.symm, HT.out.2.2⟩
  have Q1 : Hid (s.count = t.count) := q1
  have q1' : (s.count == t.count) = true := by simpa using q1
  clear q1
  by_cases q2 : s.sum = t.sum
  rotate_left
  · have q' : (s.sum == t.sum) = false := by simpa using q2
    have HN : Hid (d = false) := by show d = _; rw [HD.out]; exact dec_false (fun e => q2 e.2.1)
    clear q2
    go_wp2
    go_ret
    exact ⟨ret_bool HN.out.symm, HT.out.2.2⟩
  have Q2 : Hid (s.sum = t.sum) := q2
  have q2' : (s.sum == t.sum) = true := by simpa using q2
  clear q2
  by_cases q3 : s.min = t.min
  rotate_left
  · have q' : (s.min == t.min) = false := by simpa using q3
    have HN : Hid (d = false) := by show d = _; rw [HD.out]; exact dec_false (fun e => q3 e.2.2.1)
    clear q3
    go_wp2
    go_ret
    exact ⟨ret_bool HN.out.symm, HT.out.2.2⟩
  have Q3 : Hid (s.min = t.min) := q3
  have q3' : (s.min == t.min) = true := by simpa using q3
  clear q3
  by_cases q4 : s.max = t.max
  rotate_left
  · have q' : (s.max == t.max) = false := by simpa using q4
    have HN : Hid (d = false) := by show d = _; rw [HD.out]; exact dec_false (fun e => q4 e.2.2.2)
    clear q4
    go_wp2
    go_ret
    exact ⟨ret_bool HN.out.symm, HT.out.2.2⟩
  have Q4 : Hid (s.max = t.max) := q4
  have q4' : (s.max == t.max) = true := by simpa using q4
  clear q4
  have HN : Hid (d = true) := by show d = _; rw [HD.out]; exact dec_true ⟨Q1.out, Q2.out, Q3.out, Q4.out⟩
  go_wp2
  go_ret
  exact ⟨ret_bool HN.out.symm, HT.out.2.2⟩
set_option maxRecDepth 200000 in
set_option maxHeartbeats 2000000 in
theorem eqFunc_any (a b : Option Addr) (la lb ca cb : Nat) (xs ys : List (List Int)) (F G : List Nat) (w : World) (ha : RdII w a la xs F) (hb : RdII w b lb ys G) (hla : la ≤ 140737488355328) (hlb : lb ≤ 140737488355328)
    (hxr : ∀ z ∈ xs, z.length ≤ 140737488355328) (hyr : ∀ z ∈ ys, z.length ≤ 140737488355328) :
    Calls Tryz.prog 107 #[.slice a la ca, .slice b lb cb, .func (.func 106) #[] #[]] w fun e w' => e = .returned (.bool (decide (xs = ys))) ∧ Below w.heap.size w w' := by
  have Hx : Hid (xs.length = la) := ha.length
  have Hy : Hid (ys.length = lb) := hb.length
  have Hxr : Hid (∀ z ∈ xs, z.length ≤ 140737488355328) := hxr
  have Hyr : Hid (∀ z ∈ ys, z.length ≤ 140737488355328) := hyr
  clear hxr hyr
  by_cases hl : la = lb
  · subst hl
    have hbne : ((la : Int) != (la : Int)) = false := by simp
    by_cases h0 : la = 0
    · subst h0
      have ex : xs = [] := List.eq_nil_of_length_eq_zero ha.length
      have ey : ys = [] := List.eq_nil_of_length_eq_zero hb.length
      clear ha hb
      go_enter Tryz.func107, Tryz.ntmps107
      go_wp2
      refine wp_loop_rounds 1 ?_
      rw [rounds_succ]
      go_wp2
      go_ret
      exact ⟨ret_bool (by rw [ex, ey]; rfl), Below.refl _ _⟩
    · obtain ⟨b1, o1, F1, rfl, hm1⟩ : ∃ b off F', a = some ⟨b, off, none⟩ ∧ RdM w (xs.map ints) b off F' := by
        rcases ha.cells with h | ⟨b, off, F', _, h1, _, h2⟩
        · exact absurd h.1 h0
        · exact ⟨b, off, F', h1, h2⟩
      obtain ⟨b2, o2, F2, rfl, hm2⟩ : ∃ b' off F', b = some ⟨b', off, none⟩ ∧ RdM w (ys.map ints) b' off F' := by
        rcases hb.cells with h | ⟨b, off, F', _, h1, _, h2⟩
        · exact absurd h.1 h0
        · exact ⟨b, off, F', h1, h2⟩
      have HM1 : Hid (RdM w (xs.map ints) b1 o1 F1) := hm1
      have HM2 : Hid (RdM w (ys.map ints) b2 o2 F2) := hm2
      clear ha hb hm1 hm2
      go_enter Tryz.func107, Tryz.ntmps107
      go_wp2
      go_loopw [17] (fun i wr => ∃ k : Nat, k ≤ la ∧ i = .int .i64 k ∧ Hid (xs.take k = ys.take k) ∧ Hid (Below w.heap.size w wr)) (fun i _ => la - (intOf i).toNat)
      case atStart => exact ⟨0, by omega, rfl, rfl, Below.refl _ _⟩
      case round =>
        obtain ⟨k, hk, rfl, HT, HB⟩ := hrel
        by_cases hlt : k < la
        · obtain ⟨a1, n1, c1, G1, hc1, hr1, _⟩ := RdII.row HM1.out Hx.out k hlt
          obtain ⟨a2, n2, c2, G2, hc2, hr2, _⟩ := RdII.row HM2.out Hy.out k hlt
          have hb1 : b1 < w.heap.size := World.block_lt_of_cell? _ _ hc1
          have hb2 : b2 < w.heap.size := World.block_lt_of_cell? _ _ hc2
          have d1 : wr.cell? ⟨b1, o1 + k, none⟩ = some (.slice a1 n1 c1) := (HB.out.cell (by exact hb1)).trans hc1
          have d2 : wr.cell? ⟨b2, o2 + k, none⟩ = some (.slice a2 n2 c2) := (HB.out.cell (by exact hb2)).trans hc2
          have HQ : Hid (RdI w a1 n1 (xs.getD k []) G1 ∧ RdI w a2 n2 (ys.getD k []) G2 ∧ n1 ≤ 140737488355328 ∧ n2 ≤ 140737488355328) := ⟨hr1, hr2, by rw [← hr1.length]; exact Hxr.out _ (mem_getD (by rw [Hx.out]; exact hlt)), by rw [← hr2.length]; exact Hyr.out _ (mem_getD (by rw [Hy.out]; exact hlt))⟩
          clear hr1 hr2 hc1 hc2
          go_wp2_with fail
          refine (slEqual_any a1 a2 n1 n2 c1 c2 _ _ G1 G2 _ (HQ.out.1.below HB.out) (HQ.out.2.1.below HB.out) HQ.out.2.2.1 HQ.out.2.2.2).mono ?_
          rintro e w1 ⟨rfl, hbz⟩
          have HB1 : Hid (Below w.heap.size w w1) := Below.next HB.out hbz
          clear hbz
          cases ee : decide (xs.getD k [] = ys.getD k [])
          · have HE : Hid (¬ xs.getD k [] = ys.getD k []) := (show ¬ xs.getD k [] = ys.getD k [] from of_decide_eq_false ee)
            clear ee
            go_wp2
            go_ret
            exact ⟨ret_bool (neII_of_at HE.out).symm, HB1.out⟩
          · have HE : Hid (xs.take (k + 1) = ys.take (k + 1)) := eqII_step (by rw [Hx.out, Hy.out]) (by rw [Hx.out]; exact hlt) HT.out (of_decide_eq_true ee)
            clear ee
            go_wp2
            go_roundw
            case rel => exact ⟨k + 1, by omega, by go_num, HE, HB1⟩
            case measure => simp [intOf]; omega
        · obtain rfl : k = la := by omega
          go_wp2
          go_ret
          exact ⟨ret_bool (eqII_end Hx.out Hy.out HT.out).symm, HB.out⟩
  · have hbne : ((la : Int) != (lb : Int)) = true := by simp; omega
    have e : decide (xs = ys) = false := by
      rw [decide_eq_false_iff_not]; intro e; subst e; exact hl (Hx.out.symm.trans Hy.out)
    clear ha hb
    go_enter Tryz.func107, Tryz.ntmps107
    go_wp2
    go_ret
    exact ⟨ret_bool e.symm, Below.refl _ _⟩
def listsEq (s t : Sk) : Bool := decide (s.hist = t.hist ∧ s.regs = t.regs ∧ s.rows = t.rows)
set_option maxRecDepth 200000 in
set_option maxHeartbeats 2000000 in
theorem sameLists_any (v u : Value) (s t : Sk) (F G : List Nat) (w : World) (h : RdSk w v s F) (k : RdSk w u t G) (hw : s.wide) (kw : t.wide) :
    Calls Tryz.prog 100 #[v, u] w fun e w' => e = .returned (.bool (listsEq s t)) ∧ Below w.heap.size w w' := by
  obtain ⟨a1, n1, c1, a2, n2, c2, a3, n3, c3, F1, F2, F3, rfl, h1, h2, h3, _⟩ := h
  obtain ⟨b1, m1, d1, b2, m2, d2, b3, m3, d3, G1, G2, G3, rfl, k1, k2, k3, _⟩ := k
  have H1 : Hid (RdI w a1 n1 s.hist F1 ∧ RdI w b1 m1 t.hist G1 ∧ n1 ≤ 140737488355328 ∧ m1 ≤ 140737488355328) := ⟨h1, k1, by rw [← h1.length]; exact hw.hist, by rw [← k1.length]; exact kw.hist⟩
  have H2 : Hid (RdI w a2 n2 s.regs F2 ∧ RdI w b2 m2 t.regs G2 ∧ n2 ≤ 140737488355328 ∧ m2 ≤ 140737488355328) := ⟨h2, k2, by rw [← h2.length]; exact hw.regs, by rw [← k2.length]; exact kw.regs⟩
  have H3 : Hid (RdII w a3 n3 s.rows F3 ∧ RdII w b3 m3 t.rows G3 ∧ n3 ≤ 140737488355328 ∧ m3 ≤ 140737488355328) := ⟨h3, k3, by rw [← h3.length]; exact hw.rows, by rw [← k3.length]; exact kw.rows⟩
  have hn3 : n3 ≤ 140737488355328 := H3.out.2.2.1
  have hm3 : m3 ≤ 140737488355328 := H3.out.2.2.2
  have HW : Hid (s.wide ∧ t.wide) := ⟨hw, kw⟩
  clear h1 h2 h3 k1 k2 k3 hw kw
  have HT : Hid (_ ∧ _ ∧ _) := two_made w #[.int .i64 s.count, .int .i64 s.sum, .int .i64 s.min, .int .i64 s.max, .slice a1 n1 c1, .slice a2 n2 c2, .slice a3 n3 c3] #[.int .i64 t.count, .int .i64 t.sum, .int .i64 t.min, .int .i64 t.max, .slice b1 m1 d1, .slice b2 m2 d2, .slice b3 m3 d3] 28 28
  obtain ⟨d, hd⟩ : ∃ d, d = listsEq s t := ⟨_, rfl⟩
  rw [← hd]
  have HD : Hid (d = decide (s.hist = t.hist ∧ s.regs = t.regs ∧ s.rows = t.rows)) := hd
  clear hd
  go_enter Tryz.func100, Tryz.ntmps100
  go_wp2_with fail
  refine (slEqual_any a1 b1 n1 m1 c1 d1 s.hist t.hist F1 G1 _ (H1.out.1.below HT.out.2.2) (H1.out.2.1.below HT.out.2.2) H1.out.2.2.1 H1.out.2.2.2).mono ?_
  rintro e w1 ⟨rfl, hb1⟩
  have HB1 : Hid (Boxes w #[.int .i64 s.count, .int .i64 s.sum, .int .i64 s.min, .int .i64 s.max, .slice a1 n1 c1, .slice a2 n2 c2, .slice a3 n3 c3] #[.int .i64 t.count, .int .i64 t.sum, .int .i64 t.min, .int .i64 t.max, .slice b1 m1 d1, .slice b2 m2 d2, .slice b3 m3 d3] 28 w1) := ⟨HT.out.1.below hb1, HT.out.2.1.below hb1, Below.next HT.out.2.2 hb1⟩
  clear hb1 HT
  cases e5 : decide (s.hist = t.hist)
  · have HN : Hid (d = false) := by show d = _; rw [HD.out]; exact dec_false (fun e => by rw [e.1] at e5; simp at e5)
    clear e5
    go_wp2
    go_ret
    exact ⟨ret_bool HN.out.symm, HB1.out.bel⟩
  have Q5 : Hid (s.hist = t.hist) := (show s.hist = t.hist from of_decide_eq_true e5)
  clear e5
  have x5 := HB1.out.fst.cell 5
  have y5 := HB1.out.snd.cell 5
  simp only [aT, aS, aZ] at x5 y5
  go_wp2_with fail
  refine (slEqual_any a2 b2 n2 m2 c2 d2 s.regs t.regs F2 G2 _ (H2.out.1.below HB1.out.bel) (H2.out.2.1.below HB1.out.bel) H2.out.2.2.1 H2.out.2.2.2).mono ?_
  rintro e w2 ⟨rfl, hb2⟩
  have HB2 : Hid (Boxes w #[.int .i64 s.count, .int .i64 s.sum, .int .i64 s.min, .int .i64 s.max, .slice a1 n1 c1, .slice a2 n2 c2, .slice a3 n3 c3] #[.int .i64 t.count, .int .i64 t.sum, .int .i64 t.min, .int .i64 t.max, .slice b1 m1 d1, .slice b2 m2 d2, .slice b3 m3 d3] 28 w2) := HB1.out.below hb2
  clear hb2 x5 y5 HB1
  cases e6 : decide (s.regs = t.regs)
  · have HN : Hid (d = false) := by show d = _; rw [HD.out]; exact dec_false (fun e => by rw [e.2.1] at e6; simp at e6)
    clear e6
    go_wp2
    go_ret
    exact ⟨ret_bool HN.out.symm, HB2.out.bel⟩
  have Q6 : Hid (s.regs = t.regs) := (show s.regs = t.regs from of_decide_eq_true e6)
  clear e6
  have x6 := HB2.out.fst.cell 6
  have y6 := HB2.out.snd.cell 6
  simp only [aT, aS, aZ] at x6 y6
  go_wp2_with fail
  refine (eqFunc_any a3 b3 n3 m3 c3 d3 s.rows t.rows F3 G3 _ (H3.out.1.below HB2.out.bel) (H3.out.2.1.below HB2.out.bel) hn3 hm3 HW.out.1.row HW.out.2.row).mono ?_
  rintro e w3 ⟨rfl, hb3⟩
  have HB3 : Hid (Below w.heap.size w w3) := Below.next HB2.out.bel hb3
  clear hb3 x6 y6
  obtain ⟨d3', hd3⟩ : ∃ d, d = decide (s.rows = t.rows) := ⟨_, rfl⟩
  rw [← hd3]
  have HN : Hid (d = d3') := by
    show d = _
    rw [HD.out, hd3]
    by_cases e : s.rows = t.rows
    · rw [dec_true e, dec_true ⟨Q5.out, Q6.out, e⟩]
    · rw [dec_false e, dec_false (fun x => e x.2.2)]
  clear hd3
  go_wp2
  go_ret
  exact ⟨ret_bool HN.out.symm, HB3.out⟩
theorem sk_tl {s : Sk} (h : s.shaped = true) : skOf s.tl = s := by
  obtain ⟨h0, h1, h2, h3, h4, h5, h6, h7, r0, r1, r2, r3, r4, r5, r6, r7, p0, p1, p2, p3, q0, q1, q2, q3, e⟩ := Sk.written h
  clear h
  generalize s.count = c at e
  generalize s.sum = sm at e
  generalize s.min = mn at e
  generalize s.max = mx at e
  subst e
  rfl
theorem tl_inj {s t : Sk} (hs : s.shaped = true) (ht : t.shaped = true) : decide (s.tl = t.tl) = decide (s = t) := by
  by_cases e : s = t
  · subst e; simp
  · rw [dec_false e]
    exact dec_false (fun x => e (by rw [← sk_tl hs, ← sk_tl ht, x]))
set_option maxRecDepth 200000 in
set_option maxHeartbeats 4000000 in
theorem sameImpl_any (v u : Value) (s t : Sk) (F G : List Nat) (w : World) (h : RdSk w v s F) (k : RdSk w u t G) (hw : s.wide) (kw : t.wide) :
    Calls Tryz.prog 96 #[v, u] w fun e w' => e = .returned (.bool (decide (s = t))) ∧ Below w.heap.size w w' := by
  have HH : Hid (RdSk w v s F ∧ RdSk w u t G ∧ s.wide ∧ t.wide) := ⟨h, k, hw, kw⟩
  obtain ⟨cs, rfl, hc7, hc1⟩ := h.cells
  obtain ⟨ds, rfl, hd7, hd1⟩ := k.cells
  have HC : Hid (cs.size = 7 ∧ ds.size = 7) := ⟨hc7, hd7⟩
  have HT : Hid (_ ∧ _ ∧ _) := two_made w cs ds 28 28
  obtain ⟨d, hd⟩ : ∃ d, d = decide (s = t) := ⟨_, rfl⟩
  rw [← hd]
  have HD : Hid (d = decide (s = t)) := hd
  clear h k hw kw hc7 hc1 hd7 hd1 hd
  go_enter Tryz.func96, Tryz.ntmps96
  go_wp2_with (first | go_skip | (with_reducible refine stopLoad 28 rfl ?_) | (with_reducible refine stopLoad 75 rfl ?_) | (with_reducible refine stopStore 75 rfl ?_))
  refine load_any 28 w.heap.size cs 28 _ HT.out.1 rfl rfl rfl Tryz.underlying28 rfl (skSize HC.out.1) ?_
  go_wp2_with fail
  refine (tallyOf_any _ s F _ (HH.out.1.below HT.out.2.2) HH.out.2.2.1).mono ?_
  rintro e w1 ⟨xs, rfl, xl, xe, b1⟩
  have HX : Hid (xs.length = 28 ∧ (s.shaped = true → xs = s.tl)) := ⟨xl, xe⟩
  have HW1 : Hid (Boxes w cs ds 28 w1) := ⟨HT.out.1.below b1, HT.out.2.1.below b1, Below.next HT.out.2.2 b1⟩
  clear xl xe b1 HT
  go_wp2_with (first | go_skip | (with_reducible refine stopLoad 28 rfl ?_) | (with_reducible refine stopLoad 75 rfl ?_) | (with_reducible refine stopStore 75 rfl ?_))
  refine store_fresh 75 w1.heap.size rfl (tc (List.replicate 28 0)) (tc xs) 75 rfl rfl rfl rfl (tallySize HX.out.1) (by rw [tc_size, tc_size, HX.out.1]; rfl) (tc_one _) ?_
  intro W2 hg2 b2
  have HW2 : Hid (Boxes w cs ds 28 W2 ∧ Blk W2 w1.heap.size (tc xs) 75) := ⟨HW1.out.below b2, hg2⟩
  clear hg2 b2 HW1
  go_wp2_with (first | go_skip | (with_reducible refine stopLoad 28 rfl ?_) | (with_reducible refine stopLoad 75 rfl ?_) | (with_reducible refine stopStore 75 rfl ?_))
  refine load_any 28 (w.heap.size + 1) ds 28 _ HW2.out.1.snd rfl rfl rfl Tryz.underlying28 rfl (skSize HC.out.2) ?_
  go_wp2_with fail
  refine (tallyOf_any _ t G _ (HH.out.2.1.below HW2.out.1.bel) HH.out.2.2.2).mono ?_
  rintro e w3 ⟨ys, rfl, xl, xe, b3⟩
  have HY : Hid (ys.length = 28 ∧ (t.shaped = true → ys = t.tl)) := ⟨xl, xe⟩
  have HW3 : Hid (Boxes w cs ds 28 w3 ∧ Blk w3 w1.heap.size (tc xs) 75) := ⟨HW2.out.1.below b3, HW2.out.2.below b3⟩
  clear xl xe b3 HW2
  go_wp2_with (first | go_skip | (with_reducible refine stopLoad 28 rfl ?_) | (with_reducible refine stopLoad 75 rfl ?_) | (with_reducible refine stopStore 75 rfl ?_))
  refine store_fresh 75 w3.heap.size rfl (tc (List.replicate 28 0)) (tc ys) 75 rfl rfl rfl rfl (tallySize HY.out.1) (by rw [tc_size, tc_size, HY.out.1]; rfl) (tc_one _) ?_
  intro W4 hg4 b4
  have HW4 : Hid (Boxes w cs ds 28 W4 ∧ Blk W4 w1.heap.size (tc xs) 75 ∧ Blk W4 w3.heap.size (tc ys) 75) := ⟨HW3.out.1.below b4, HW3.out.2.below b4, hg4⟩
  clear hg4 b4 HW3
  by_cases both : s.shaped = true ∧ t.shaped = true
  · have HE : Hid (d = decide (xs = ys)) := by show d = _; rw [HD.out, HX.out.2 both.1, HY.out.2 both.2]; exact (tl_inj both.1 both.2).symm
    obtain ⟨sa, sb⟩ := both
    rw [sa, sb]
    clear sa sb
    go_wp2_with (first | go_skip | (with_reducible refine stopLoad 28 rfl ?_) | (with_reducible refine stopLoad 75 rfl ?_) | (with_reducible refine stopStore 75 rfl ?_))
    refine load_any 75 w1.heap.size (tc xs) 75 _ HW4.out.2.1 rfl rfl rfl Tryz.underlying75 rfl (tallySize HX.out.1) ?_
    go_wp2_with (first | go_skip | (with_reducible refine stopLoad 28 rfl ?_) | (with_reducible refine stopLoad 75 rfl ?_) | (with_reducible refine stopStore 75 rfl ?_))
    refine load_any 75 w3.heap.size (tc ys) 75 _ HW4.out.2.2 rfl rfl rfl Tryz.underlying75 rfl (tallySize HY.out.1) ?_
    go_wp2_with fail
    refine (same_any xs ys _ HX.out.1 HY.out.1).mono ?_
    rintro e w5 ⟨rfl, b5⟩
    have HB5 : Hid (Below w.heap.size w w5) := Below.next HW4.out.1.bel b5
    rw [← HE.out]
    clear b5
    go_wp2
    go_ret
    exact ⟨rfl, HB5.out⟩
  · have hb : (s.shaped && t.shaped) = false := by
      cases e1 : s.shaped
      · rfl
      · cases e2 : t.shaped
        · rfl
        · exact absurd ⟨e1, e2⟩ both
    have rest : ∀ W (_ : W = W4), True := fun _ _ => trivial
    clear both rest
    cases sa : s.shaped
    · clear hb
      go_wp2_with (first | go_skip | (with_reducible refine stopLoad 28 rfl ?_) | (with_reducible refine stopLoad 75 rfl ?_) | (with_reducible refine stopStore 75 rfl ?_))
      refine load_any 28 w.heap.size cs 28 _ HW4.out.1.fst rfl rfl rfl Tryz.underlying28 rfl (skSize HC.out.1) ?_
      go_wp2_with (first | go_skip | (with_reducible refine stopLoad 28 rfl ?_) | (with_reducible refine stopLoad 75 rfl ?_) | (with_reducible refine stopStore 75 rfl ?_))
      refine load_any 28 (w.heap.size + 1) ds 28 _ HW4.out.1.snd rfl rfl rfl Tryz.underlying28 rfl (skSize HC.out.2) ?_
      go_wp2_with fail
      refine (sameNumbers_any _ _ s t F G _ (HH.out.1.below HW4.out.1.bel) (HH.out.2.1.below HW4.out.1.bel)).mono ?_
      rintro e w5 ⟨rfl, b5⟩
      have HB5 : Hid (Boxes w cs ds 28 w5) := HW4.out.1.below b5
      clear b5
      cases en : numsEq s t
      · have HN : Hid (d = false) := by show d = _; rw [HD.out]; exact dec_false (fun e => by rw [e] at en; simp [numsEq] at en)
        clear en
        go_wp2
        go_ret
        exact ⟨ret_bool HN.out.symm, HB5.out.bel⟩
      have HN1 : Hid (s.count = t.count ∧ s.sum = t.sum ∧ s.min = t.min ∧ s.max = t.max) := (show s.count = t.count ∧ s.sum = t.sum ∧ s.min = t.min ∧ s.max = t.max from of_decide_eq_true en)
      clear en
      go_wp2_with (first | go_skip | (with_reducible refine stopLoad 28 rfl ?_) | (with_reducible refine stopLoad 75 rfl ?_) | (with_reducible refine stopStore 75 rfl ?_))
      refine load_any 28 w.heap.size cs 28 _ HB5.out.fst rfl rfl rfl Tryz.underlying28 rfl (skSize HC.out.1) ?_
      go_wp2_with (first | go_skip | (with_reducible refine stopLoad 28 rfl ?_) | (with_reducible refine stopLoad 75 rfl ?_) | (with_reducible refine stopStore 75 rfl ?_))
      refine load_any 28 (w.heap.size + 1) ds 28 _ HB5.out.snd rfl rfl rfl Tryz.underlying28 rfl (skSize HC.out.2) ?_
      go_wp2_with fail
      refine (sameLists_any _ _ s t F G _ (HH.out.1.below HB5.out.bel) (HH.out.2.1.below HB5.out.bel) HH.out.2.2.1 HH.out.2.2.2).mono ?_
      rintro e w6 ⟨rfl, b6⟩
      have HB6 : Hid (Below w.heap.size w w6) := Below.next HB5.out.bel b6
      clear b6
      obtain ⟨dl, hdl⟩ : ∃ d, d = listsEq s t := ⟨_, rfl⟩
      rw [← hdl]
      have HN : Hid (d = dl) := by
        show d = _
        rw [HD.out, hdl]
        unfold listsEq
        by_cases e : s.hist = t.hist ∧ s.regs = t.regs ∧ s.rows = t.rows
        · rw [dec_true e, dec_true (Sk.eq_of HN1.out.1 HN1.out.2.1 HN1.out.2.2.1 HN1.out.2.2.2 e.1 e.2.1 e.2.2)]
        · rw [dec_false e]; exact dec_false (fun x => e (by rw [x]; exact ⟨rfl, rfl, rfl⟩))
      clear hdl
      go_wp2
      go_ret
      exact ⟨ret_bool HN.out.symm, HB6.out⟩
    · rw [sa] at hb
      have sb : t.shaped = false := by simpa using hb
      rw [sb]
      clear hb sa sb
      go_wp2_with (first | go_skip | (with_reducible refine stopLoad 28 rfl ?_) | (with_reducible refine stopLoad 75 rfl ?_) | (with_reducible refine stopStore 75 rfl ?_))
      refine load_any 28 w.heap.size cs 28 _ HW4.out.1.fst rfl rfl rfl Tryz.underlying28 rfl (skSize HC.out.1) ?_
      go_wp2_with (first | go_skip | (with_reducible refine stopLoad 28 rfl ?_) | (with_reducible refine stopLoad 75 rfl ?_) | (with_reducible refine stopStore 75 rfl ?_))
      refine load_any 28 (w.heap.size + 1) ds 28 _ HW4.out.1.snd rfl rfl rfl Tryz.underlying28 rfl (skSize HC.out.2) ?_
      go_wp2_with fail
      refine (sameNumbers_any _ _ s t F G _ (HH.out.1.below HW4.out.1.bel) (HH.out.2.1.below HW4.out.1.bel)).mono ?_
      rintro e w5 ⟨rfl, b5⟩
      have HB5 : Hid (Boxes w cs ds 28 w5) := HW4.out.1.below b5
      clear b5
      cases en : numsEq s t
      · have HN : Hid (d = false) := by show d = _; rw [HD.out]; exact dec_false (fun e => by rw [e] at en; simp [numsEq] at en)
        clear en
        go_wp2
        go_ret
        exact ⟨ret_bool HN.out.symm, HB5.out.bel⟩
      have HN1 : Hid (s.count = t.count ∧ s.sum = t.sum ∧ s.min = t.min ∧ s.max = t.max) := (show s.count = t.count ∧ s.sum = t.sum ∧ s.min = t.min ∧ s.max = t.max from of_decide_eq_true en)
      clear en
      go_wp2_with (first | go_skip | (with_reducible refine stopLoad 28 rfl ?_) | (with_reducible refine stopLoad 75 rfl ?_) | (with_reducible refine stopStore 75 rfl ?_))
      refine load_any 28 w.heap.size cs 28 _ HB5.out.fst rfl rfl rfl Tryz.underlying28 rfl (skSize HC.out.1) ?_
      go_wp2_with (first | go_skip | (with_reducible refine stopLoad 28 rfl ?_) | (with_reducible refine stopLoad 75 rfl ?_) | (with_reducible refine stopStore 75 rfl ?_))
      refine load_any 28 (w.heap.size + 1) ds 28 _ HB5.out.snd rfl rfl rfl Tryz.underlying28 rfl (skSize HC.out.2) ?_
      go_wp2_with fail
      refine (sameLists_any _ _ s t F G _ (HH.out.1.below HB5.out.bel) (HH.out.2.1.below HB5.out.bel) HH.out.2.2.1 HH.out.2.2.2).mono ?_
      rintro e w6 ⟨rfl, b6⟩
      have HB6 : Hid (Below w.heap.size w w6) := Below.next HB5.out.bel b6
      clear b6
      obtain ⟨dl, hdl⟩ : ∃ d, d = listsEq s t := ⟨_, rfl⟩
      rw [← hdl]
      have HN : Hid (d = dl) := by
        show d = _
        rw [HD.out, hdl]
        unfold listsEq
        by_cases e : s.hist = t.hist ∧ s.regs = t.regs ∧ s.rows = t.rows
        · rw [dec_true e, dec_true (Sk.eq_of HN1.out.1 HN1.out.2.1 HN1.out.2.2.1 HN1.out.2.2.2 e.1 e.2.1 e.2.2)]
        · rw [dec_false e]; exact dec_false (fun x => e (by rw [x]; exact ⟨rfl, rfl, rfl⟩))
      clear hdl
      go_wp2
      go_ret
      exact ⟨ret_bool HN.out.symm, HB6.out⟩
end Go.Proofs.YtjndcfamfminkabGreat
/- Sets of numbers: what makes two of them the same, and what is made of both. No statement of the seat is proved here. -/
namespace Go.Proofs.YtjndcfamfminkabGreat
open Go.RowKit
/-- Right from l on: the spans rise, with a gap between any two. -/
def okFrom : Int → Sp → Prop
  | _, [] => True
  | l, p :: ps => (l ≤ p.1 ∧ p.1 ≤ p.2 ∧ p.2 ≤ 9999) ∧ okFrom (p.2 + 2) ps
/-- What is right, seen from the k-th span on. -/
def floorAt (ps : Sp) (k : Nat) : Int := if k = 0 then 0 else (ps.at (k - 1)).2 + 2
theorem okAt_iff (ps : Sp) (k : Nat) : ps.okAt k = true ↔ (if k = 0 then 0 else (ps.at (k - 1)).2 + 2) ≤ (ps.at k).1 ∧ 0 ≤ (ps.at k).1 ∧ (ps.at k).1 ≤ (ps.at k).2 ∧ (ps.at k).2 ≤ 9999 := by
  unfold Sp.okAt
  simp only [Bool.and_eq_true, Bool.or_eq_true, decide_eq_true_eq]
  split <;> omega
/-- A span is laid behind o: apart, or into its last one. -/
def lay1 (o : Sp) (x : Int × Int) : Sp := if o = [] ∨ (o.at (o.length - 1)).2 + 1 < x.1 then o ++ [x] else o.take (o.length - 1) ++ [((o.at (o.length - 1)).1, max (o.at (o.length - 1)).2 x.2)]
def lay (o xs : Sp) : Sp := xs.foldl lay1 o
/-- How many spans begin no later than n. -/
def cutN : Sp → Int → Nat
  | [], _ => 0
  | p :: ps, n => if p.1 ≤ n then cutN ps n + 1 else 0
/-- Both sets, gone through once; o: what has come. -/
def both : Sp → Sp → Sp → Sp
  | a, [], o => lay o a
  | a, x :: b, o => both (a.drop (cutN a x.1)) b (lay1 (lay o (a.take (cutN a x.1))) x)
/-- Right so far; the last span begins at m or ahead of it. -/
structure LayOk (o : Sp) (m : Int) : Prop where
  ok : okFrom 0 o
  le : ∀ o' t, o = o' ++ [t] → t.1 ≤ m
theorem LayOk.nil (m : Int) : LayOk [] m := ⟨trivial, fun o' t h => by simp at h⟩
theorem LayOk.up {o : Sp} {m m' : Int} (h : LayOk o m) (hm : m ≤ m') : LayOk o m' := ⟨h.ok, fun o' t e => Int.le_trans (h.le o' t e) hm⟩
end Go.Proofs.YtjndcfamfminkabGreat
/- The walks through the program's SetOk, SetHas and SetSize. No statement of the seat is proved here. -/
namespace Go.Proofs.YtjndcfamfminkabGreat
open Go.RowKit
theorem cells_of {w : World} {a : Option Addr} {len : Nat} {ps : Sp} {F : List Nat} (h : RdP w a len ps F) : len = 0 ∨ ∃ b off, a = some ⟨b, off, none⟩ ∧ b < w.heap.size ∧ SpCells w b off len ps := by
  rcases h.cells with ⟨h0, _⟩ | ⟨b, off, hp, e, _, hc⟩
  · exact .inl h0
  · exact .inr ⟨b, off, e, World.block_lt_of_cell? _ _ (hc 0 hp).1, hc⟩
theorem floorAt_succ (ps : Sp) (k : Nat) : floorAt ps (k + 1) = (ps.at k).2 + 2 := by unfold floorAt; rw [if_neg (by omega), show k + 1 - 1 = k by omega]
set_option maxRecDepth 200000 in
set_option maxHeartbeats 2000000 in
theorem setOkImpl_any (a : Option Addr) (len cap : Nat) (ps : Sp) (F : List Nat) (w : World) (h : RdP w a len ps F) (hlen : len ≤ 2097152) :
    Calls Tryz.prog 80 #[.slice a len cap] w fun e w' => e = .returned (.bool ps.ok) ∧ Below w.heap.size w w' := by
  have HL : Hid (ps.length = len) := h.length
  have HC : Hid (len = 0 ∨ ∃ b off, a = some ⟨b, off, none⟩ ∧ b < w.heap.size ∧ SpCells w b off len ps) := cells_of h
  clear h
  go_enter Tryz.func80, Tryz.ntmps80
  go_wp2
  go_loopw [3, 8] (fun q i wr => ∃ (k : Nat) (l : Int), k ≤ len ∧ i = .int .i64 k ∧ q = .int .i64 l ∧ 0 ≤ l ∧ l ≤ 10001 ∧ Hid (Below w.heap.size w wr) ∧ Hid (l = floorAt ps k ∧ ∀ j, j < k → ps.okAt j = true)) (fun _ i _ => len - (intOf i).toNat)
  case atStart => exact ⟨0, 0, by omega, rfl, rfl, by omega, by omega, Below.refl _ _, rfl, fun j hj => by omega⟩
  case round =>
    obtain ⟨k, l, hk, rfl, rfl, l0, l1, HB, HN⟩ := hrel
    by_cases hlt : k < len
    · have hca := HC.out
      rcases hca with h0 | ⟨b, off, rfl, hbw, hc⟩
      · omega
      obtain ⟨x, hx⟩ : ∃ x, x = (ps.at k).1 := ⟨_, rfl⟩
      obtain ⟨y, hy⟩ : ∃ x, x = (ps.at k).2 := ⟨_, rfl⟩
      have e := hc k hlt
      rw [← hx, ← hy] at e
      have d1 : wr.cell? ⟨b, off + k * 2, none⟩ = some (.int .i64 x) := (HB.out.cell (by exact hbw)).trans e.1
      have d2 : wr.cell? ⟨b, off + k * 2 + 1, none⟩ = some (.int .i64 y) := (HB.out.cell (by exact hbw)).trans e.2
      have HX : Hid (x = (ps.at k).1 ∧ y = (ps.at k).2) := ⟨hx, hy⟩
      have HB2 : Hid (Below w.heap.size w (wr.alloc (.cells #[.int .i64 x, .int .i64 y] 61))) := Below.allocW _ HB.out (Nat.le_refl _)
      have HOK : Hid (ps.okAt k = true ↔ l ≤ x ∧ 0 ≤ x ∧ x ≤ y ∧ y ≤ 9999) := by
        have := okAt_iff ps k
        rw [← hx, ← hy] at this
        rw [HN.out.1]
        exact this
      have hI : (k : Int) < (len : Int) := by omega
      have hkl : k < ps.length := by rw [HL.out]; exact hlt
      clear e hx hy hc HB
      by_cases c1 : x < l
      · have c1d : decide (x < l) = true := decT c1
        have HV : Hid (ps.ok = false) := Sp.ok_not hkl (by rw [Bool.eq_false_iff]; exact fun e => by have := HOK.out.1 e; omega)
        go_wp2
        go_ret
        rw [HV.out]
        exact ⟨rfl, HB2.out⟩
      have c1d : decide (x < l) = false := decF c1
      by_cases c2 : y < x
      · have c2d : decide (y < x) = true := decT c2
        have HV : Hid (ps.ok = false) := Sp.ok_not hkl (by rw [Bool.eq_false_iff]; exact fun e => by have := HOK.out.1 e; omega)
        go_wp2
        go_ret
        rw [HV.out]
        exact ⟨rfl, HB2.out⟩
      have c2d : decide (y < x) = false := decF c2
      by_cases c3 : 9999 < y
      · have c3d : decide (9999 < y) = true := decT c3
        have HV : Hid (ps.ok = false) := Sp.ok_not hkl (by rw [Bool.eq_false_iff]; exact fun e => by have := HOK.out.1 e; omega)
        go_wp2
        go_ret
        rw [HV.out]
        exact ⟨rfl, HB2.out⟩
      have c3d : decide (9999 < y) = false := decF c3
      have HN2 : Hid (y + 2 = floorAt ps (k + 1) ∧ ∀ j, j < k + 1 → ps.okAt j = true) := ⟨by rw [floorAt_succ, HX.out.2], all_up HN.out.2 (HOK.out.2 ⟨by omega, by omega, by omega, by omega⟩)⟩
      go_wp2
      go_roundw
      case rel => exact ⟨k + 1, y + 2, by omega, by go_num, by go_num, by omega, by omega, HB2, HN2⟩
      case measure => simp [intOf]; omega
    · obtain rfl : k = len := by omega
      have HV : Hid (ps.ok = true) := Sp.ok_all (fun j hj => HN.out.2 j (by rw [← HL.out]; exact hj))
      go_wp2
      go_ret
      rw [HV.out]
      exact ⟨rfl, HB.out⟩
end Go.Proofs.YtjndcfamfminkabGreat
/- The walks through the program's IdOf, ItemOk and the reading of an entry. No statement of the seat is proved here. -/
namespace Go.Proofs.YtjndcfamfminkabGreat
open Go.RowKit
set_option maxRecDepth 200000 in
theorem isSeq_any (n : Int) (w : World) : Calls Tryz.prog 94 #[.int .i64 n] w fun e w' => e = .returned (.bool (decide (1 ≤ n ∧ n ≤ 60))) ∧ w' = w := by
  have hd : ∀ d : Bool, d = decide (1 ≤ n ∧ n ≤ 60) → (d = true ↔ 1 ≤ n ∧ n ≤ 60) := by rintro d rfl; simp
  generalize decide (1 ≤ n ∧ n ≤ 60) = d at *
  have hd := hd d rfl
  by_cases h : 1 ≤ n
  · by_cases h2 : n ≤ 60
    · have e : Hid (d = true) := hd.2 ⟨h, h2⟩
      clear hd
      go_enter Tryz.func94, Tryz.ntmps94
      go_wp2
      go_ret
      rw [e.out]; exact ⟨rfl, rfl⟩
    · have e : Hid (d = false) := show d = false by cases d; rfl; exact absurd (hd.1 rfl).2 h2
      clear hd
      go_enter Tryz.func94, Tryz.ntmps94
      go_wp2
      go_ret
      rw [e.out]; exact ⟨rfl, rfl⟩
  · have e : Hid (d = false) := show d = false by cases d; rfl; exact absurd (hd.1 rfl).1 h
    clear hd
    go_enter Tryz.func94, Tryz.ntmps94
    go_wp2
    go_ret
    rw [e.out]; exact ⟨rfl, rfl⟩
set_option maxRecDepth 200000 in
theorem isPlace_any (k p : Int) (w : World) : Calls Tryz.prog 95 #[.agg #[.int .i64 k, .int .i64 p]] w fun e w' => e = .returned (.bool (placeOk k p)) ∧ Below w.heap.size w w' := by
  have HB : Hid (Below w.heap.size w (w.alloc (.cells #[.int .i64 k, .int .i64 p] 117))) := (Below.refl _ _).alloc (Nat.le_refl _) _
  go_enter Tryz.func95, Tryz.ntmps95
  go_wp2_with fail
  refine (inRange_any _ _ _).mono ?_
  rintro e w2 ⟨rfl, hw2⟩
  have hw2' := hw2.symm
  subst hw2'
  clear hw2
  obtain ⟨d1, hd1⟩ : ∃ d, d = decide (0 ≤ k ∧ k ≤ 4) := ⟨_, rfl⟩
  rw [← hd1]
  have HD1 : Hid (d1 = decide (0 ≤ k ∧ k ≤ 4)) := hd1
  clear hd1
  cases d1
  · have HV : Hid (placeOk k p = false) := by show _ = _; unfold placeOk; rw [← HD1.out]; rfl
    go_wp2
    go_ret
    exact ⟨ret_bool HV.out.symm, HB.out⟩
  go_wp2_with fail
  refine (inRange_any _ _ _).mono ?_
  rintro e w2 ⟨rfl, hw2⟩
  have hw2' := hw2.symm
  subst hw2'
  clear hw2
  obtain ⟨d2, hd2⟩ : ∃ d, d = decide (0 ≤ p ∧ p ≤ 20) := ⟨_, rfl⟩
  rw [← hd2]
  have HV : Hid (d2 = placeOk k p) := by show _ = _; unfold placeOk; rw [← HD1.out, ← hd2]; rfl
  clear hd2
  go_wp2
  go_ret
  exact ⟨ret_bool HV.out, HB.out⟩
set_option maxRecDepth 200000 in
set_option maxHeartbeats 2000000 in
theorem itemOkImpl_any (v : Value) (x : It) (F : List Nat) (w : World) (h : RdIt w v x F) (hw : x.sk.wide) :
    Calls Tryz.prog 81 #[v] w fun e w' => e = .returned (.bool x.ok) ∧ Below w.heap.size w w' := by
  obtain ⟨a1, n1, c1, a2, n2, c2, a3, n3, c3, rfl, hr⟩ := h
  have HR : Hid (RdSk w (.agg #[.int .i64 x.sk.count, .int .i64 x.sk.sum, .int .i64 x.sk.min, .int .i64 x.sk.max, .slice a1 n1 c1, .slice a2 n2 c2, .slice a3 n3 c3]) x.sk F ∧ x.sk.wide) := ⟨hr, hw⟩
  have HB : Hid (Below w.heap.size w (w.alloc (.cells #[.int .i64 x.seq, .int .i64 x.cls, .int .i64 x.key, .int .i64 x.window, .int .i64 x.sk.count, .int .i64 x.sk.sum, .int .i64 x.sk.min, .int .i64 x.sk.max, .slice a1 n1 c1, .slice a2 n2 c2, .slice a3 n3 c3] 30)) ∧ Blk (w.alloc (.cells #[.int .i64 x.seq, .int .i64 x.cls, .int .i64 x.key, .int .i64 x.window, .int .i64 x.sk.count, .int .i64 x.sk.sum, .int .i64 x.sk.min, .int .i64 x.sk.max, .slice a1 n1 c1, .slice a2 n2 c2, .slice a3 n3 c3] 30)) w.heap.size #[.int .i64 x.seq, .int .i64 x.cls, .int .i64 x.key, .int .i64 x.window, .int .i64 x.sk.count, .int .i64 x.sk.sum, .int .i64 x.sk.min, .int .i64 x.sk.max, .slice a1 n1 c1, .slice a2 n2 c2, .slice a3 n3 c3] 30) := ⟨Below.allocW _ (Below.refl _ _) (Nat.le_refl _), Blk.made _ _ _⟩
  clear hr hw
  go_enter Tryz.func81, Tryz.ntmps81
  go_wp2_with fail
  refine (isSeq_any _ _).mono ?_
  rintro e w2 ⟨rfl, hw2⟩
  have hw2' := hw2.symm
  subst hw2'
  clear hw2
  obtain ⟨d1, hd1⟩ : ∃ d, d = decide (1 ≤ x.seq ∧ x.seq ≤ 60) := ⟨_, rfl⟩
  rw [← hd1]
  have HD1 : Hid (d1 = decide (1 ≤ x.seq ∧ x.seq ≤ 60)) := hd1
  clear hd1
  cases d1
  · have HV : Hid (x.ok = false) := by show _ = _; unfold It.ok; rw [← HD1.out]; rfl
    go_wp2
    go_ret
    exact ⟨ret_bool HV.out.symm, HB.out.1⟩
  go_wp2_with fail
  refine (inRange_any _ _ _).mono ?_
  rintro e w2 ⟨rfl, hw2⟩
  have hw2' := hw2.symm
  subst hw2'
  clear hw2
  obtain ⟨d2, hd2⟩ : ∃ d, d = decide (0 ≤ x.cls ∧ x.cls ≤ 1) := ⟨_, rfl⟩
  rw [← hd2]
  have HD2 : Hid (d2 = decide (0 ≤ x.cls ∧ x.cls ≤ 1)) := hd2
  clear hd2
  cases d2
  · have HV : Hid (x.ok = false) := by show _ = _; unfold It.ok; rw [← HD1.out, ← HD2.out]; rfl
    go_wp2
    go_ret
    exact ⟨ret_bool HV.out.symm, HB.out.1⟩
  go_wp2_with fail
  refine (isPlace_any _ _ _).mono ?_
  rintro e w2 ⟨rfl, hb2⟩
  have HB2 : Hid (Below w.heap.size w w2 ∧ Blk w2 w.heap.size #[.int .i64 x.seq, .int .i64 x.cls, .int .i64 x.key, .int .i64 x.window, .int .i64 x.sk.count, .int .i64 x.sk.sum, .int .i64 x.sk.min, .int .i64 x.sk.max, .slice a1 n1 c1, .slice a2 n2 c2, .slice a3 n3 c3] 30) := ⟨Below.next HB.out.1 hb2, HB.out.2.below hb2⟩
  clear hb2
  obtain ⟨d3, hd3⟩ : ∃ d, d = placeOk x.key x.window := ⟨_, rfl⟩
  rw [← hd3]
  have HD3 : Hid (d3 = placeOk x.key x.window) := hd3
  clear hd3
  cases d3
  · have HV : Hid (x.ok = false) := by show _ = _; unfold It.ok; rw [← HD1.out, ← HD2.out, ← HD3.out]; rfl
    go_wp2
    go_ret
    exact ⟨ret_bool HV.out.symm, HB2.out.1⟩
  go_wp2_with (first | go_skip | (with_reducible refine stopLoad 28 rfl ?_))
  refine load_cutw 28 w.heap.size 4 7 _ #[.int .i64 x.sk.count, .int .i64 x.sk.sum, .int .i64 x.sk.min, .int .i64 x.sk.max, .slice a1 n1 c1, .slice a2 n2 c2, .slice a3 n3 c3] 30 _ HB2.out.2 rfl rfl rfl Tryz.underlying28 rfl infoSkI (by simp) rfl ?_
  go_wp2_with fail
  refine (okImpl_any _ x.sk F _ (HR.out.1.below HB2.out.1) HR.out.2).mono ?_
  rintro e w3 ⟨rfl, hb3⟩
  have HB3 : Hid (Below w.heap.size w w3) := Below.next HB2.out.1 hb3
  have HV : Hid (x.ok = x.sk.ok) := by show _ = _; unfold It.ok; rw [← HD1.out, ← HD2.out, ← HD3.out]; rfl
  clear hb3
  obtain ⟨d4, hd4⟩ : ∃ d, d = x.sk.ok := ⟨_, rfl⟩
  rw [← hd4] at HV ⊢
  clear hd4
  go_wp2
  go_ret
  exact ⟨ret_bool HV.out.symm, HB3.out⟩
/-- The cells of an entry as the program holds it. -/
def hc (k p : Int) (a : Option Addr) (l c : Nat) (ys : List Int) : Array Value := (.int .i64 k :: .int .i64 p :: .slice a l c :: ys.map (Value.int .i64)).toArray
section
variable {P : Program} {ops : Array Oper} {Q : Exit → Act → World → Prop} {rest : List Oper} {a : Act} {w : World} {o : Oper}
end
end Go.Proofs.YtjndcfamfminkabGreat
