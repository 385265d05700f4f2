/- The walks through the helpers of the laws over slices of slices of numbers. No statement of the seat is proved here. -/
import Derived.Test.YtjnamoppcklomaaGreatIntLists
import Derived.Deep.RegionWith
namespace Go.Proofs.YtjnamoppcklomaaGreat
open Go.RowKit

theorem take_snoc {α : Type} (l : List α) (d : α) (k : Nat) (h : k < l.length) : l.take (k + 1) = l.take k ++ [l.getD k d] := by
  rw [List.take_add_one, List.getElem?_eq_getElem h, List.getD_eq_getElem?_getD, List.getElem?_eq_getElem h]; rfl
theorem set_next {α : Type} (vs : List α) (z v : α) (k len : Nat) (hk : vs.length = k) (hl : k < len) : (vs ++ List.replicate (len - k) z).set k v = (vs ++ [v]) ++ List.replicate (len - (k + 1)) z := by
  rw [List.set_append_right k _ (by omega), hk, Nat.sub_self, show len - k = (len - (k + 1)) + 1 by omega]
  simp [List.replicate_succ]
theorem Agree.set {w : World} {F : List Nat} {g : Nat} (h : g ∉ F) (j : Nat) (v : Value) : Agree w (w.setCell ⟨g, j, none⟩ v) F := fun b hb => Below.heap_setCell w ⟨g, j, none⟩ v b (fun e => h (by have e2 : b = g := e; rw [← e2]; exact hb))

/-- A copy of a row of rows, behind k rounds. -/
structure CopyII (w : World) (g : Nat) (zss : List (List Int)) (k len : Nat) (vs : List Value) (G : List Nat) (wr : World) : Prop where
  own : wr.ownsRow w.heap.size 28 1 (.slice (some ⟨g, 0, none⟩) len len) len (vs ++ List.replicate (len - k) (.slice none 0 0))
  rd : RdS wr ((zss.take k).map ints) vs G
  mine : Own (w.heap.size + 1) wr G
  bel : Below w.heap.size w wr
theorem CopyII.step {w wr w2 : World} {zss : List (List Int)} {k len : Nat} {vs : List Value} {G F : List Nat} {a : Option Addr} {n cap : Nat}
    (h : CopyII w w.heap.size zss k len vs G wr) (hk : k < len) (hl : zss.length = len) (hr : RdI w2 a n (zss.getD k []) F) (ho : Own wr.heap.size w2 F) (hb : Below wr.heap.size wr w2) :
    CopyII w w.heap.size zss (k + 1) len (vs ++ [.slice a n cap]) (G ++ F) (w2.setCell ⟨w.heap.size, k, none⟩ (.slice a n cap)) := by
  have hg := (h.own.lt w.heap.size rfl).2
  have hGlt := h.rd.lt
  have hv : vs.length = k := by rw [h.rd.length]; simp; omega
  have hG : w.heap.size ∉ G := fun hx => by have := h.mine.ge _ hx; omega
  have hF : w.heap.size ∉ F := fun hx => by have := ho.ge _ hx; omega
  have own2 := (ownsRow_below h.own hb).stored k (.slice a n cap)
  rw [set_next vs _ _ k len hv hk] at own2
  refine ⟨own2.1, ?_, ?_, (h.bel.trans (hb.mono (by omega))).setCell (Nat.le_refl _) _⟩
  · rw [take_snoc zss [] k (by omega), List.map_append]
    exact RdS.snoc ((h.rd.below hb).agree (.set hG _ _)) (rd_ints.2 ⟨a, n, cap, rfl, hr.agree (.set hF _ _)⟩)
  · have := (h.mine.below hGlt hb).join ho hGlt (by omega)
    exact this.agree (.set (fun hx => (List.mem_append.1 hx).elim hG hF) _ _)
theorem CopyII.done {w wr : World} {zss : List (List Int)} {len : Nat} {vs : List Value} {G : List Nat} (h : CopyII w w.heap.size zss len len vs G wr) (hl : zss.length = len) :
    ∃ F, RdII wr (some ⟨w.heap.size, 0, none⟩) len zss F ∧ Own w.heap.size wr F := by
  by_cases h0 : len = 0
  · exact ⟨[], ⟨hl, .inl ⟨h0, rfl⟩⟩, Own.nil⟩
  · have rd := h.rd
    rw [List.take_of_length_le (Nat.le_of_eq hl)] at rd
    have hv : vs.length = len := by rw [rd.length]; simpa using hl
    have own := h.own
    rw [Nat.sub_self, List.replicate_zero, List.append_nil] at own
    refine ⟨w.heap.size :: G, ⟨hl, .inr ⟨_, 0, G, by omega, rfl, rfl, rdM_of_own 0 rd (fun i hi => ?_)⟩⟩, ⟨?_, fun b hb o => ?_, fun b hb => ?_⟩⟩
    · rw [Nat.zero_add]; exact own.cellAt i (by omega)
    · exact List.nodup_cons.2 ⟨fun hx => by have := h.mine.ge _ hx; omega, h.mine.nodup⟩
    · rcases List.mem_cons.1 hb with rfl | hb
      · exact own.frozenAt o
      · exact h.mine.free b hb o
    · rcases List.mem_cons.1 hb with rfl | hb
      · omega
      · have := h.mine.ge b hb; omega
def NewII (w : World) (zss : List (List Int)) (e : Ending) (w' : World) : Prop :=
  ∃ a len cap F, e = .returned (.slice a len cap) ∧ RdII w' a len zss F ∧ Own w.heap.size w' F ∧ Below w.heap.size w w'
theorem infoInts : (Tryz.prog.info? 28).map (fun i => (i.zero, i.size, i.bytes)) = some (some (.slice none 0 0), 1, 24) := by kernel_rfl
set_option maxRecDepth 200000 in
set_option maxHeartbeats 1000000 in
theorem toIntSS_any (a : Option Addr) (len cap : Nat) (zss : List (List Int)) (F : List Nat) (w : World) (h : RdII w a len zss F) (hlen : len ≤ 1048576) (hrow : ∀ zs ∈ zss, zs.length ≤ 1048576) :
    Calls Tryz.prog 162 #[.slice a len cap] w fun e w' => NewII w zss e w' := by
  obtain ⟨i0, hi, hz0, hz1, hz2⟩ := info_parts infoInts
  have HL : Hid (zss.length = len) := h.length
  have HRow : Hid (∀ zs ∈ zss, zs.length ≤ 1048576) := hrow
  have hbase : w.heap.size ≤ w.heap.size := Nat.le_refl _
  clear hrow
  rcases h.cells with ⟨h0, _⟩ | ⟨b, off, F', hp, rfl, _, hm⟩
  · subst h0
    have hz : zss = [] := List.eq_nil_of_length_eq_zero h.length
    subst hz
    clear h
    go_enter Tryz.func162, Tryz.ntmps162
    go_wp2_with (at_make; refine wpList_make_full _ rfl _ _ 29 rfl w.heap.size 28 i0 (.slice none 0 0) 1 Tryz.underlying29 hi hz0 hz1 .i64 .i64 _ _ 0 rfl rfl (by simp) (by simp) (by omega) (by unfold maxLen; omega) (Nat.le_refl _) ?_; intro w1 hown hgrow)
    refine wp_loop_rounds 1 ?_
    rw [rounds_succ]
    go_wp2
    go_ret
    exact ⟨_, 0, 0, [], rfl, ⟨rfl, .inl ⟨rfl, rfl⟩⟩, Own.nil, (Below.refl _ _).grown hgrow (Nat.le_refl _) (fun k hk => by cases hk)⟩
  · have HM : Hid (RdM w (zss.map ints) b off F') := hm
    clear h hm
    go_enter Tryz.func162, Tryz.ntmps162
    go_wp2_with (at_make; refine wpList_make_full _ rfl _ _ 29 rfl w.heap.size 28 i0 (.slice none 0 0) 1 Tryz.underlying29 hi hz0 hz1 .i64 .i64 _ _ len rfl rfl rfl rfl (by rw [hz2]; omega) (by unfold maxLen; omega) (Nat.le_refl _) ?_; intro w1 hown hgrow)
    go_loopw [4] (fun i wr => ∃ (k : Nat) (vs : List Value) (G : List Nat), k ≤ len ∧ i = .int .i64 k ∧ Hid (CopyII w w.heap.size zss k len vs G wr)) (fun i _ => len - (intOf i).toNat)
    case atStart =>
      refine ⟨0, [], [], by omega, rfl, ⟨?_, ?_, Own.nil, (Below.refl _ _).grown hgrow (Nat.le_refl _) (fun k hk => by cases hk)⟩⟩
      · simpa [Value.cells, toList_madeCells_one] using hown
      · simp [RdS]
    case round =>
      obtain ⟨k, vs, G, hk, rfl, HC⟩ := hrel
      by_cases hlt : k < len
      · obtain ⟨ar, nr, cr, Fr, hcr, hrr, _⟩ := RdII.row HM.out HL.out k hlt
        have hblt : b < w.heap.size := World.block_lt_of_cell? _ _ hcr
        have hck : wr.cell? ⟨b, off + k, none⟩ = some (.slice ar nr cr) := (HC.out.bel.cell (by exact hblt)).trans hcr
        have hrr2 := hrr.below HC.out.bel
        have HRR : Hid (RdI wr ar nr (zss.getD k []) Fr) := hrr2
        have hnr : nr ≤ 1048576 := by
          rw [← hrr.length]
          refine HRow.out _ ?_
          rw [List.getD_eq_getElem?_getD, List.getElem?_eq_getElem (by rw [HL.out]; exact hlt)]
          exact List.getElem_mem _
        clear hrr hrr2 hcr
        go_wp2_with fail
        refine (toIntS_any ar nr cr (zss.getD k []) Fr _ HRR.out hnr).mono ?_
        rintro e w2 ⟨a2, n2, c2, F2, rfl, hr2, ho2, hb2⟩
        have HC2 := HC.out.step (cap := c2) hlt HL.out hr2 ho2 hb2
        have own2 := ownsRow_below HC.out.own hb2
        obtain ⟨v0, hcg⟩ := own_some own2 k hlt
        have hcf := own2.frozenAt k
        have HC3 : Hid (CopyII w w.heap.size zss (k + 1) len (vs ++ [.slice a2 n2 c2]) (G ++ F2) (w2.setCell ⟨w.heap.size, k, none⟩ (.slice a2 n2 c2))) := HC2
        clear HC HC2 own2 hr2 ho2 hb2 hck HRR
        go_wp2
        go_roundw
        case rel => exact ⟨k + 1, _, _, by omega, by go_num, HC3⟩
        case measure => simp [intOf]; omega
      · obtain rfl : k = len := by omega
        obtain ⟨F2, hr, ho⟩ := HC.out.done HL.out
        have HR : Hid (RdII wr (some ⟨w.heap.size, 0, none⟩) k zss F2 ∧ Own w.heap.size wr F2) := ⟨hr, ho⟩
        clear hr ho
        go_wp2
        go_ret
        exact ⟨_, _, _, F2, rfl, HR.out.1, HR.out.2, HC.out.bel⟩
theorem eqII_step {xs ys : List (List Int)} {k : Nat} (hl : xs.length = ys.length) (hk : k < xs.length) (h : xs.take k = ys.take k) (he : xs.getD k [] = ys.getD k []) : xs.take (k + 1) = ys.take (k + 1) := by
  rw [take_snoc xs [] k hk, take_snoc ys [] k (by omega), h, he]
theorem neII_of_at {xs ys : List (List Int)} {k : Nat} (he : ¬ xs.getD k [] = ys.getD k []) : decide (xs = ys) = false := by
  rw [decide_eq_false_iff_not]; intro e; subst e; exact he rfl
theorem eqII_end {xs ys : List (List Int)} {k : Nat} (hx : xs.length = k) (hy : ys.length = k) (h : xs.take k = ys.take k) : decide (xs = ys) = true := by
  rw [decide_eq_true_iff]
  rw [List.take_of_length_le (Nat.le_of_eq hx), List.take_of_length_le (Nat.le_of_eq hy)] at h
  exact h
theorem RdI.heap {w w' : World} {a : Option Addr} {len : Nat} {zs : List Int} {F : List Nat} (h : RdI w a len zs F) (e : w'.heap = w.heap) : RdI w' a len zs F := h.agree (fun b _ => by rw [e])
theorem mem_getD {α : Type} {l : List α} {d : α} {k : Nat} (h : k < l.length) : l.getD k d ∈ l := by
  rw [List.getD_eq_getElem?_getD, List.getElem?_eq_getElem h]; exact List.getElem_mem _
set_option maxRecDepth 200000 in
set_option maxHeartbeats 1000000 in
theorem eqIntSS_any (a b : Option Addr) (la lb ca cb : Nat) (xs ys : List (List Int)) (F G : List Nat) (w : World) (ha : RdII w a la xs F) (hb : RdII w b lb ys G) (hla : la ≤ 140737488355328) (hlb : lb ≤ 140737488355328)
    (hxr : ∀ z ∈ xs, z.length ≤ 140737488355328) (hyr : ∀ z ∈ ys, z.length ≤ 140737488355328) :
    Calls Tryz.prog 139 #[.slice a la ca, .slice b lb cb] w fun e w' => e = .returned (.bool (decide (xs = ys))) ∧ Below w.heap.size w w' := by
  have Hx : Hid (xs.length = la) := ha.length
  have Hy : Hid (ys.length = lb) := hb.length
  have Hxr : Hid (∀ z ∈ xs, z.length ≤ 140737488355328) := hxr
  have Hyr : Hid (∀ z ∈ ys, z.length ≤ 140737488355328) := hyr
  clear hxr hyr
  by_cases hl : la = lb
  · subst hl
    have hbne : ((la : Int) != (la : Int)) = false := by simp
    by_cases h0 : la = 0
    · subst h0
      have ex : xs = [] := List.eq_nil_of_length_eq_zero ha.length
      have ey : ys = [] := List.eq_nil_of_length_eq_zero hb.length
      clear ha hb
      go_enter Tryz.func139, Tryz.ntmps139
      go_wp2
      refine wp_loop_rounds 1 ?_
      rw [rounds_succ]
      go_wp2
      go_ret
      exact ⟨ret_bool (by rw [ex, ey]; rfl), Below.refl _ _⟩
    · obtain ⟨b1, o1, F1, rfl, hm1⟩ : ∃ b off F', a = some ⟨b, off, none⟩ ∧ RdM w (xs.map ints) b off F' := by
        rcases ha.cells with h | ⟨b, off, F', _, h1, _, h2⟩
        · exact absurd h.1 h0
        · exact ⟨b, off, F', h1, h2⟩
      obtain ⟨b2, o2, F2, rfl, hm2⟩ : ∃ b' off F', b = some ⟨b', off, none⟩ ∧ RdM w (ys.map ints) b' off F' := by
        rcases hb.cells with h | ⟨b, off, F', _, h1, _, h2⟩
        · exact absurd h.1 h0
        · exact ⟨b, off, F', h1, h2⟩
      have HM1 : Hid (RdM w (xs.map ints) b1 o1 F1) := hm1
      have HM2 : Hid (RdM w (ys.map ints) b2 o2 F2) := hm2
      clear ha hb hm1 hm2
      go_enter Tryz.func139, Tryz.ntmps139
      go_wp2
      go_loopw [5] (fun i wr => ∃ k : Nat, k ≤ la ∧ i = .int .i64 k ∧ Hid (xs.take k = ys.take k) ∧ Below w.heap.size w wr) (fun i _ => la - (intOf i).toNat)
      case atStart => exact ⟨0, by omega, rfl, rfl, Below.refl _ _⟩
      case round =>
        obtain ⟨k, hk, rfl, HT, hbel⟩ := hrel
        by_cases hlt : k < la
        · obtain ⟨a1, n1, c1, G1, hc1, hr1, _⟩ := RdII.row HM1.out Hx.out k hlt
          obtain ⟨a2, n2, c2, G2, hc2, hr2, _⟩ := RdII.row HM2.out Hy.out k hlt
          have hb1 : b1 < w.heap.size := World.block_lt_of_cell? _ _ hc1
          have hb2 : b2 < w.heap.size := World.block_lt_of_cell? _ _ hc2
          have d1 : wr.cell? ⟨b1, o1 + k, none⟩ = some (.slice a1 n1 c1) := (hbel.cell (by exact hb1)).trans hc1
          have d2 : wr.cell? ⟨b2, o2 + k, none⟩ = some (.slice a2 n2 c2) := (hbel.cell (by exact hb2)).trans hc2
          have hn1 : n1 ≤ 140737488355328 := by rw [← hr1.length]; exact Hxr.out _ (mem_getD (by rw [Hx.out]; exact hlt))
          have hn2 : n2 ≤ 140737488355328 := by rw [← hr2.length]; exact Hyr.out _ (mem_getD (by rw [Hy.out]; exact hlt))
          have HQ : Hid (∀ wx, Below w.heap.size w wx → Calls Tryz.prog 138 #[.slice a1 n1 c1, .slice a2 n2 c2] wx fun e w' => e = .returned (.bool (decide (xs.getD k [] = ys.getD k []))) ∧ Below w.heap.size w w') :=
            fun wx hx => (eqIntS_any a1 a2 n1 n2 c1 c2 _ _ _ _ wx (hr1.below hx) (hr2.below hx) hn1 hn2).mono fun _ _ ⟨he, hb⟩ => ⟨he, hx.trans (hb.mono hx.size)⟩
          clear hr1 hr2 hc1 hc2
          by_cases he : xs.getD k [] = ys.getD k []
          · have HE : Hid (xs.getD k [] = ys.getD k []) := he
            have hd : decide (xs.getD k [] = ys.getD k []) = true := by simpa using he
            rw [hd] at HQ
            clear he hd
            go_wp2
            go_region_with (go_at_call 138; refine (HQ.out _ (by repeat (first | exact hbel | apply Below.drew))).mono ?_; rintro e w1 ⟨rfl, hb1⟩)
            all_goals
              go_wp2
              go_roundw
              case rel => exact ⟨k + 1, by omega, by go_num, eqII_step (by rw [Hx.out, Hy.out]) (by rw [Hx.out]; exact hlt) HT.out HE.out, by repeat (first | assumption | apply Below.drew)⟩
              case measure => simp [intOf]; omega
          · have HE : Hid (¬ xs.getD k [] = ys.getD k []) := he
            have hd : decide (xs.getD k [] = ys.getD k []) = false := by simpa using he
            rw [hd] at HQ
            clear he hd
            go_wp2
            go_region_with (go_at_call 138; refine (HQ.out _ (by repeat (first | exact hbel | apply Below.drew))).mono ?_; rintro e w1 ⟨rfl, hb1⟩)
            all_goals
              go_wp2
              go_ret
              exact ⟨ret_bool (neII_of_at HE.out).symm, by repeat (first | assumption | apply Below.drew)⟩
        · obtain rfl : k = la := by omega
          go_wp2
          go_ret
          exact ⟨ret_bool (eqII_end Hx.out Hy.out HT.out).symm, hbel⟩
  · have hbne : ((la : Int) != (lb : Int)) = true := by simp; omega
    have e : decide (xs = ys) = false := by
      rw [decide_eq_false_iff_not]; intro e; subst e; exact hl (Hx.out.symm.trans Hy.out)
    clear ha hb
    go_enter Tryz.func139, Tryz.ntmps139
    go_wp2
    go_ret
    exact ⟨ret_bool e.symm, Below.refl _ _⟩
/-- What rows weigh: one each, and their numbers. -/
def sumLen (l : List (List Int)) : Int := (l.map (fun z => (z.length : Int))).sum
theorem sumLen_snoc (l : List (List Int)) (k : Nat) (h : k < l.length) : sumLen (l.take (k + 1)) = sumLen (l.take k) + ((l.getD k []).length : Int) := by
  unfold sumLen
  rw [take_snoc l [] k h]; simp
theorem sumLen_nonneg (l : List (List Int)) : 0 ≤ sumLen l := by
  unfold sumLen
  induction l with
  | nil => simp
  | cons a l ih => simp; omega
theorem sumLen_le (l : List (List Int)) (k : Nat) : sumLen (l.take k) ≤ sumLen l := by
  have e : sumLen l = sumLen (l.take k) + sumLen (l.drop k) := by
    unfold sumLen
    rw [← List.sum_append, ← List.map_append, List.take_append_drop]
  have := sumLen_nonneg (l.drop k)
  omega
theorem sumLen_mem (l : List (List Int)) (z : List Int) (h : z ∈ l) : (z.length : Int) ≤ sumLen l := by
  unfold sumLen
  induction l with
  | nil => simp at h
  | cons a l ih =>
    have h0 : (0 : Int) ≤ sumLen l := sumLen_nonneg l
    unfold sumLen at h0
    rcases List.mem_cons.1 h with rfl | h
    · simp; omega
    · have := ih h; simp; omega
end Go.Proofs.YtjnamoppcklomaaGreat
