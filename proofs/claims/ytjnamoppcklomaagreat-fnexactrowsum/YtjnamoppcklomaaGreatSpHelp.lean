/- The walks through the helpers of the laws over slices of spans: weighing, comparing, marking, looking whether the marks stand. No statement of the seat is proved here. -/
import Derived.Test.YtjnamoppcklomaaGreatSpData
import Derived.Test.YtjnamoppcklomaaGreatWhole
namespace Go.Proofs.YtjnamoppcklomaaGreat
open Go.RowKit
set_option maxRecDepth 200000 in
/-- What a weighing tells: below 0 where there was too much; else what is left. -/
theorem szSpanS_vast (a : Option Addr) (len cap : Nat) (left : Int) (w : World) (hlen : len ≤ 9223372036854775807) (hl0 : 0 ≤ left) (hl1 : left ≤ 1048576) :
    Calls Tryz.prog 133 #[.slice a len cap, .int .i64 left] w fun e w' => (∃ r, e = .returned (.int .i64 r) ∧ r ≤ left ∧ (0 ≤ r → r = left - len) ∧ (r < 0 → left < len)) ∧ w' = w := by
  obtain ⟨m, hm⟩ : ∃ m : Int, m = (len : Int) := ⟨_, rfl⟩
  have hm0 : 0 ≤ m := by omega
  have hm1 : m ≤ 9223372036854775807 := by omega
  have HM : Hid (m = (len : Int)) := hm
  by_cases h : left < (len : Int)
  · go_enter Tryz.func133, Tryz.ntmps133
    go_wp2
    go_ret
    exact ⟨⟨-1, rfl, by omega, by omega, by omega⟩, rfl⟩
  · go_enter Tryz.func133, Tryz.ntmps133
    go_wp2
    go_ret
    exact ⟨⟨left - len, rfl, by omega, by omega, by omega⟩, rfl⟩
theorem eqP_step {xs ys : Sp} {k : Nat} (hl : xs.length = ys.length) (hk : k < xs.length) (h : xs.take k = ys.take k) (he : xs[k]?.getD (0, 0) = ys[k]?.getD (0, 0)) : xs.take (k + 1) = ys.take (k + 1) := by
  rw [takeP_succ xs k hk, takeP_succ ys k (by omega), h, he]
theorem neP_of_at {xs ys : Sp} {k : Nat} (he : ¬ xs[k]?.getD (0, 0) = ys[k]?.getD (0, 0)) : decide (xs = ys) = false := by
  rw [decide_eq_false_iff_not]; intro e; subst e; exact he rfl
theorem eqP_end {xs ys : Sp} {k : Nat} (hx : xs.length = k) (hy : ys.length = k) (h : xs.take k = ys.take k) : decide (xs = ys) = true := by
  rw [decide_eq_true_iff]
  rw [List.take_of_length_le (Nat.le_of_eq hx), List.take_of_length_le (Nat.le_of_eq hy)] at h
  exact h
set_option maxRecDepth 200000 in
set_option maxHeartbeats 400000 in
theorem eqSpan_any (x y x' y' : Int) (w : World) : Calls Tryz.prog 137 #[.agg #[.int .i64 x, .int .i64 y], .agg #[.int .i64 x', .int .i64 y']] w fun e w' => e = .returned (.bool (decide (x = x' ∧ y = y'))) ∧ Below w.heap.size w w' := by
  have HB : Hid (Below w.heap.size w ((w.alloc (.cells #[.int .i64 x, .int .i64 y] 74)).alloc (.cells #[.int .i64 x', .int .i64 y'] 74))) := Below.allocW _ (Below.allocW _ (Below.refl _ _) (Nat.le_refl _)) (Nat.le_refl _)
  by_cases h1 : x = x'
  · by_cases h2 : y = y'
    · have e1 : (x != x') = false := by simp [h1]
      have e2 : (y != y') = false := by simp [h2]
      have HV : Hid (decide (x = x' ∧ y = y') = true) := decide_eq_true ⟨h1, h2⟩
      clear h1 h2
      go_enter Tryz.func137, Tryz.ntmps137
      go_wp2
      go_ret
      exact ⟨ret_bool HV.out.symm, HB.out⟩
    · have e1 : (x != x') = false := by simp [h1]
      have e2 : (y != y') = true := by simp [h2]
      have HV : Hid (decide (x = x' ∧ y = y') = false) := decide_eq_false (fun e => h2 e.2)
      clear h1 h2
      go_enter Tryz.func137, Tryz.ntmps137
      go_wp2
      go_ret
      exact ⟨ret_bool HV.out.symm, HB.out⟩
  · have e1 : (x != x') = true := by simp [h1]
    have HV : Hid (decide (x = x' ∧ y = y') = false) := decide_eq_false (fun e => h1 e.1)
    clear h1
    go_enter Tryz.func137, Tryz.ntmps137
    go_wp2
    go_ret
    exact ⟨ret_bool HV.out.symm, HB.out⟩
/-- Two spans lie in memory. -/
def TwoAt (b1 p1 b2 p2 : Nat) (x y x' y' : Int) (W : World) : Prop := (W.cell? ⟨b1, p1, none⟩ = some (.int .i64 x) ∧ W.cell? ⟨b1, p1 + 1, none⟩ = some (.int .i64 y)) ∧ W.cell? ⟨b2, p2, none⟩ = some (.int .i64 x') ∧ W.cell? ⟨b2, p2 + 1, none⟩ = some (.int .i64 y')
theorem TwoAt.below {b1 p1 b2 p2 : Nat} {x y x' y' : Int} {W W' : World} (h : TwoAt b1 p1 b2 p2 x y x' y' W) (hb : Below W.heap.size W W') : TwoAt b1 p1 b2 p2 x y x' y' W' :=
  ⟨⟨(hb.cell (World.block_lt_of_cell? _ _ h.1.1)).trans h.1.1, (hb.cell (World.block_lt_of_cell? _ _ h.1.2)).trans h.1.2⟩, (hb.cell (World.block_lt_of_cell? _ _ h.2.1)).trans h.2.1, (hb.cell (World.block_lt_of_cell? _ _ h.2.2)).trans h.2.2⟩
set_option maxRecDepth 200000 in
set_option maxHeartbeats 1000000 in
theorem eqSpanS_any (a b : Option Addr) (la lb ca cb : Nat) (xs ys : Sp) (F G : List Nat) (w : World) (ha : RdP w a la xs F) (hb : RdP w b lb ys G) (hla : la ≤ 140737488355328) (hlb : lb ≤ 140737488355328) :
    Calls Tryz.prog 93 #[.slice a la ca, .slice b lb cb] w fun e w' => e = .returned (.bool (decide (xs = ys))) ∧ Below w.heap.size w w' := by
  have Hx : Hid (xs.length = la) := ha.length
  have Hy : Hid (ys.length = lb) := hb.length
  by_cases hl : la = lb
  · subst hl
    have hbne : ((la : Int) != (la : Int)) = false := by simp
    rcases ha.cells with ⟨rfl, _, ex⟩ | ⟨b1, o1, hp, rfl, _, hc1⟩
    · have ey : ys = [] := List.eq_nil_of_length_eq_zero hb.length
      clear ha hb
      go_enter Tryz.func93, Tryz.ntmps93
      go_wp2
      refine wp_loop_rounds 1 ?_
      rw [rounds_succ]
      go_wp2
      go_ret
      exact ⟨ret_bool (by rw [ex, ey]; rfl), Below.refl _ _⟩
    · rcases hb.cells with ⟨h0, _⟩ | ⟨b2, o2, _, rfl, _, hc2⟩
      · omega
      have HC : Hid (∀ k, k < la → TwoAt b1 (o1 + k * 2) b2 (o2 + k * 2) (xs[k]?.getD (0, 0)).1 (xs[k]?.getD (0, 0)).2 (ys[k]?.getD (0, 0)).1 (ys[k]?.getD (0, 0)).2 w) := fun k hk => ⟨hc1 k hk, hc2 k hk⟩
      clear ha hb hc1 hc2
      go_enter Tryz.func93, Tryz.ntmps93
      go_wp2
      go_loopw [5] (fun i wr => ∃ k : Nat, k ≤ la ∧ i = .int .i64 k ∧ Hid (xs.take k = ys.take k ∧ Below w.heap.size w wr)) (fun i _ => la - (intOf i).toNat)
      case atStart => exact ⟨0, by omega, rfl, rfl, Below.refl _ _⟩
      case round =>
        obtain ⟨k, hk, rfl, HT⟩ := hrel
        by_cases hlt : k < la
        · obtain ⟨x, hx⟩ : ∃ x, x = (xs[k]?.getD (0, 0)).1 := ⟨_, rfl⟩
          obtain ⟨y, hy⟩ : ∃ x, x = (xs[k]?.getD (0, 0)).2 := ⟨_, rfl⟩
          obtain ⟨x', hx'⟩ : ∃ x, x = (ys[k]?.getD (0, 0)).1 := ⟨_, rfl⟩
          obtain ⟨y', hy'⟩ : ∃ x, x = (ys[k]?.getD (0, 0)).2 := ⟨_, rfl⟩
          have HE : Hid ((x = x' ∧ y = y') ↔ xs[k]?.getD (0, 0) = ys[k]?.getD (0, 0)) := by rw [hx, hy, hx', hy']; exact Prod.ext_iff.symm
          have HS : Hid (TwoAt b1 (o1 + k * 2) b2 (o2 + k * 2) x y x' y' wr.drew) := by rw [hx, hy, hx', hy']; exact (HC.out k hlt).below HT.out.2.drew
          clear hx hy hx' hy'
          go_wp2
          refine wp_region_held (S := TwoAt b1 (o1 + k * 2) b2 (o2 + k * 2) x y x' y') (by kernel_rfl) ?_
          change wpAnyH _ _ _ _ _ _ _ _ (World.drew _)
          refine takeH (o := ?o1) 0 (.slice (some ⟨b1, o1, none⟩) la ca) ?h1 ?r1
          case h1 => simp only [aT, aZ]; rfl
          refine ⟨_, by simp [Act.put]; rfl, by kernel_rfl, by kernel_rfl, by kernel_rfl, fun _ _ _ h => h, (.inl ⟨rfl, fun W _ => by go_simp⟩), HS.out, ?_⟩
          refine takeH (o := ?o2) 1 (.int .i64 k) ?h2 ?r2
          case h2 => simp only [aT, aS, aZ]; rfl
          refine ⟨_, by simp [Act.put]; rfl, by kernel_rfl, by kernel_rfl, by kernel_rfl, fun _ _ _ h => h, (.inl ⟨rfl, fun W _ => by go_simp⟩), HS.out, ?_⟩
          refine takeH (o := ?o3) 2 (.pointer (some ⟨b1, o1 + k * 2, none⟩)) ?h3 ?r3
          case h3 => simp only [aT, aS, aZ]; rfl
          refine ⟨_, by simp [Act.put]; rfl, by kernel_rfl, by kernel_rfl, by kernel_rfl, fun _ _ _ h => h, (.inl ⟨rfl, fun W _ => by go_simp⟩), HS.out, ?_⟩
          refine takeH (o := ?o4) 3 (.agg #[.int .i64 x, .int .i64 y]) ?h4 ?r4
          case h4 => simp only [aT, aS, aZ]; rfl
          refine ⟨_, by simp [Act.put]; rfl, by kernel_rfl, by kernel_rfl, by kernel_rfl, fun _ _ _ h => h, (.inl ⟨rfl, fun W hW => by have c1 := hW.1.1; have c2 := hW.1.2; go_simp⟩), HS.out, ?_⟩
          refine takeH (o := ?o5) 4 (.slice (some ⟨b2, o2, none⟩) la cb) ?h5 ?r5
          case h5 => simp only [aT, aS, aZ]; rfl
          refine ⟨_, by simp [Act.put]; rfl, by kernel_rfl, by kernel_rfl, by kernel_rfl, fun _ _ _ h => h, (.inl ⟨rfl, fun W _ => by go_simp⟩), HS.out, ?_⟩
          refine takeH (o := ?o6) 5 (.int .i64 k) ?h6 ?r6
          case h6 => simp only [aT, aS, aZ]; rfl
          refine ⟨_, by simp [Act.put]; rfl, by kernel_rfl, by kernel_rfl, by kernel_rfl, fun _ _ _ h => h, (.inl ⟨rfl, fun W _ => by go_simp⟩), HS.out, ?_⟩
          refine takeH (o := ?o7) 6 (.pointer (some ⟨b2, o2 + k * 2, none⟩)) ?h7 ?r7
          case h7 => simp only [aT, aS, aZ]; rfl
          refine ⟨_, by simp [Act.put]; rfl, by kernel_rfl, by kernel_rfl, by kernel_rfl, fun _ _ _ h => h, (.inl ⟨rfl, fun W _ => by go_simp⟩), HS.out, ?_⟩
          refine takeH (o := ?o8) 7 (.agg #[.int .i64 x', .int .i64 y']) ?h8 ?r8
          case h8 => simp only [aT, aS, aZ]; rfl
          refine ⟨_, by simp [Act.put]; rfl, by kernel_rfl, by kernel_rfl, by kernel_rfl, fun _ _ _ h => h, (.inl ⟨rfl, fun W hW => by have c1 := hW.2.1; have c2 := hW.2.2; go_simp⟩), HS.out, ?_⟩
          refine onlyH (o := ?o9) 8 (by kernel_rfl) ?h9 ?r9
          case h9 => simp only [aT, aS, aZ]; rfl
          intro K hK
          obtain ⟨d, hd⟩ : ∃ d, d = decide (x = x' ∧ y = y') := ⟨_, rfl⟩
          refine op_call2 137 _ _ _ Tryz.f137 (fun w' => Below wr.drew.heap.size wr.drew w') (.bool d) rfl rfl Tryz.func137 (by kernel_rfl) (by kernel_rfl) (by rw [hd]; exact eqSpan_any x y x' y' wr.drew) ⟨_, by simp [Act.put]; rfl, ?_⟩
          intro w3 b3
          refine hK _ _ ⟨HS.out.below b3, ?_⟩
          have H3 : Hid (Below w.heap.size w w3) := Below.next HT.out.2.drew b3
          have HS : Hid (TwoAt b1 (o1 + k * 2) b2 (o2 + k * 2) x y x' y' w3) := HS.out.below b3
          have HD : Hid (d = decide (x = x' ∧ y = y')) := hd
          clear hK b3 hd
          refine takeH (o := ?o10) 9 (.bool !d) ?h10 ?r10
          case h10 => simp only [aT, aS, aZ]; rfl
          refine ⟨_, by simp [Act.put]; rfl, by kernel_rfl, by kernel_rfl, by kernel_rfl, fun _ _ _ h => h, (.inl ⟨rfl, fun W _ => by go_simp⟩), HS.out, ?_⟩
          refine wpAnyH_done (by kernel_rfl) ?_ _
          cases d
          · have HV : Hid (decide (xs = ys) = false) := neP_of_at (fun e => by have := HD.out.symm; rw [decide_eq_false_iff_not] at this; exact this (HE.out.2 e))
            go_wp2
            go_ret
            exact ⟨ret_bool HV.out.symm, H3.out⟩
          · have HV : Hid (xs.take (k + 1) = ys.take (k + 1) ∧ Below w.heap.size w w3) := ⟨eqP_step (by rw [Hx.out, Hy.out]) (by rw [Hx.out]; exact hlt) HT.out.1 (HE.out.1 (of_decide_eq_true HD.out.symm)), H3.out⟩
            go_wp2
            go_roundw
            case rel => exact ⟨k + 1, by omega, by go_num, HV⟩
            case measure => simp [intOf]; omega
        · obtain rfl : k = la := by omega
          go_wp2
          go_ret
          exact ⟨ret_bool (eqP_end Hx.out Hy.out HT.out.1).symm, HT.out.2⟩
  · have hbne : ((la : Int) != (lb : Int)) = true := by simp; omega
    have e : decide (xs = ys) = false := by
      rw [decide_eq_false_iff_not]; intro e; subst e; exact hl (Hx.out.symm.trans Hy.out)
    clear ha hb
    go_enter Tryz.func93, Tryz.ntmps93
    go_wp2
    go_ret
    exact ⟨ret_bool e.symm, Below.refl _ _⟩
theorem MarkingI.step2 {B : Nat} {w wr : World} {b off len : Nat} {k : Int} {zs : List Int} {j : Nat} (h : MarkingI B w (some ⟨b, off, none⟩) (2 * len) k zs (2 * j) [b] wr) (hl : zs.length = 2 * len) (hj : j < len) :
    MarkingI B w (some ⟨b, off, none⟩) (2 * len) k zs (2 * (j + 1)) [b] ((wr.setCell ⟨b, off + j * 2, none⟩ (.int .i64 (k + 2 * j))).setCell ⟨b, off + j * 2 + 1, none⟩ (.int .i64 (k + 2 * j + 1))) := by
  have h1 := h.step hl (by omega)
  have h2 := h1.step hl (by omega)
  rw [show off + (2 * j + 1) = off + j * 2 + 1 by omega, show off + 2 * j = off + j * 2 by omega] at h2
  rw [show k + ((2 * j : Nat) : Int) = k + 2 * (j : Int) by omega, show k + ((2 * j + 1 : Nat) : Int) = k + 2 * (j : Int) + 1 by omega] at h2
  exact h2
/-- The marks that a slice of spans bears. -/
structure MarkedP (B : Nat) (w : World) (a : Option Addr) (len : Nat) (k : Int) (F : List Nat) (w' : World) : Prop where
  rd : RdI w' a (2 * len) (marksI k (2 * len)) F
  own : Own B w' F
  only : Only F w w'
set_option maxRecDepth 200000 in
set_option maxHeartbeats 400000 in
theorem markSpanS_any (B : Nat) (a : Option Addr) (len cap : Nat) (zs : List Int) (F : List Nat) (k : Int) (w : World) (h : RdI w a (2 * len) zs F) (ho : Own B w F) (hk0 : 0 ≤ k) (hk1 : k + 2 * len ≤ 1000000000000) :
    Calls Tryz.prog 50 #[.slice a len cap, .int .i64 k] w fun e w' => e = .returned (.int .i64 (k + 2 * len)) ∧ MarkedP B w a len k F w' := by
  have HL : Hid (zs.length = 2 * len) := h.length
  rcases h.cells with ⟨h0, hF⟩ | ⟨b, off, hp, rfl, hF, hc⟩
  · obtain rfl : len = 0 := by omega
    subst hF
    clear h
    go_enter Tryz.func50, Tryz.ntmps50
    go_wp2
    refine wp_loop_rounds 1 ?_
    rw [rounds_succ]
    go_wp2
    go_ret
    exact ⟨ret_int (by simp), ⟨⟨rfl, .inl ⟨rfl, rfl⟩⟩, ho, Only.refl _ _⟩⟩
  · subst hF
    have HM : Hid (MarkingI B w (some ⟨b, off, none⟩) (2 * len) k zs (2 * 0) [b] w) := ⟨by simpa [markedI, marksI] using h, ho, Only.refl _ _⟩
    clear h ho hc
    go_enter Tryz.func50, Tryz.ntmps50
    go_wp2
    go_loopw [1, 5] (fun q i wr => ∃ j : Nat, j ≤ len ∧ i = .int .i64 j ∧ q = .int .i64 (k + 2 * j) ∧ Hid (MarkingI B w (some ⟨b, off, none⟩) (2 * len) k zs (2 * j) [b] wr)) (fun _ i _ => len - (intOf i).toNat)
    case atStart => exact ⟨0, by omega, rfl, by go_num, HM⟩
    case round =>
      obtain ⟨j, hj, rfl, rfl, HMj⟩ := hrel
      by_cases hlt : j < len
      · have hcell : ∃ v u, wr.cell? ⟨b, off + j * 2, none⟩ = some v ∧ wr.cell? ⟨b, off + j * 2 + 1, none⟩ = some u := by
          rcases HMj.out.rd.cells with ⟨h0, _⟩ | ⟨b', off', _, he, _, hc⟩
          · omega
          · obtain ⟨rfl, rfl⟩ : b = b' ∧ off = off' := by simpa using he
            have c1 := hc (2 * j) (by omega)
            have c2 := hc (2 * j + 1) (by omega)
            rw [show off + 2 * j = off + j * 2 by omega] at c1
            rw [show off + (2 * j + 1) = off + j * 2 + 1 by omega] at c2
            exact ⟨_, _, c1, c2⟩
        obtain ⟨v0, u0, hcg, hcg2⟩ := hcell
        have hcf := HMj.out.own.free b (by simp) (off + j * 2)
        have hcf2 := HMj.out.own.free b (by simp) (off + j * 2 + 1)
        have R : Hid (MarkingI B w (some ⟨b, off, none⟩) (2 * len) k zs (2 * (j + 1)) [b] ((wr.setCell ⟨b, off + j * 2, none⟩ (.int .i64 (k + 2 * j))).setCell ⟨b, off + j * 2 + 1, none⟩ (.int .i64 (k + 2 * j + 1)))) := HMj.out.step2 HL.out hlt
        clear HMj
        go_wp2
        go_roundw
        case rel => exact ⟨j + 1, by omega, by go_num, by go_num, R⟩
        case measure => simp [intOf]; omega
      · obtain rfl : j = len := by omega
        go_wp2
        go_ret
        exact ⟨rfl, by have := HMj.out.rd; rw [markedI_end k (2 * j) zs HL.out] at this; exact this, HMj.out.own, HMj.out.only⟩
set_option maxRecDepth 200000 in
set_option maxHeartbeats 400000 in
theorem heldSpanS_any (a : Option Addr) (len cap : Nat) (F : List Nat) (k : Int) (w : World) (h : RdI w a (2 * len) (marksI k (2 * len)) F) (hk0 : 0 ≤ k) (hk1 : k + 2 * len ≤ 1000000000000) :
    Calls Tryz.prog 53 #[.slice a len cap, .int .i64 k] w fun e w' => e = .returned (.int .i64 (k + 2 * len)) ∧ Below w.heap.size w w' := by
  rcases h.cells with ⟨h0, hF⟩ | ⟨b, off, hp, rfl, hF, hc⟩
  · obtain rfl : len = 0 := by omega
    clear h
    go_enter Tryz.func53, Tryz.ntmps53
    go_wp2
    refine wp_loop_rounds 1 ?_
    rw [rounds_succ]
    go_wp2
    go_ret
    exact ⟨ret_int (by simp), Below.refl _ _⟩
  · have HC : Hid (∀ j, j < len → w.cell? ⟨b, off + j * 2, none⟩ = some (.int .i64 (k + 2 * j)) ∧ w.cell? ⟨b, off + j * 2 + 1, none⟩ = some (.int .i64 (k + 2 * j + 1))) := fun j hj => by
      have c1 := hc (2 * j) (by omega)
      have c2 := hc (2 * j + 1) (by omega)
      rw [marksI_getD k _ _ (by omega)] at c1 c2
      rw [show off + 2 * j = off + j * 2 by omega, show k + ((2 * j : Nat) : Int) = k + 2 * (j : Int) by omega] at c1
      rw [show off + (2 * j + 1) = off + j * 2 + 1 by omega, show k + ((2 * j + 1 : Nat) : Int) = k + 2 * (j : Int) + 1 by omega] at c2
      exact ⟨c1, c2⟩
    clear h hc
    go_enter Tryz.func53, Tryz.ntmps53
    go_wp2
    go_loopw [1, 5] (fun q i wr => ∃ j : Nat, j ≤ len ∧ i = .int .i64 j ∧ q = .int .i64 (k + 2 * j) ∧ Hid (Below w.heap.size w wr)) (fun _ i _ => len - (intOf i).toNat)
    case atStart => exact ⟨0, by omega, rfl, by go_num, Below.refl _ _⟩
    case round =>
      obtain ⟨j, hj, rfl, rfl, HB⟩ := hrel
      by_cases hlt : j < len
      · have hcj := HC.out j hlt
        obtain ⟨x, hx⟩ : ∃ x, x = k + 2 * (j : Int) := ⟨_, rfl⟩
        have d1 : wr.cell? ⟨b, off + j * 2, none⟩ = some (.int .i64 x) := by rw [hx]; exact (HB.out.cell (World.block_lt_of_cell? _ _ hcj.1)).trans hcj.1
        have d2 : wr.cell? ⟨b, off + j * 2 + 1, none⟩ = some (.int .i64 (x + 1)) := by rw [hx]; exact (HB.out.cell (World.block_lt_of_cell? _ _ hcj.2)).trans hcj.2
        have n1 : (x != x) = false := by simp
        have n2 : (x + 1 != x + 1) = false := by simp
        have b1 : 0 ≤ x := by omega
        have b2 : x ≤ 1000000000000 := by omega
        have HX : Hid (x = k + 2 * (j : Int)) := hx
        rw [← hx]
        clear hcj hx
        go_wp2
        go_roundw
        case rel => exact ⟨j + 1, by omega, by go_num, by rw [HX.out]; go_num, HB⟩
        case measure => simp [intOf]; omega
      · obtain rfl : j = len := by omega
        go_wp2
        go_ret
        exact ⟨rfl, HB.out⟩
end Go.Proofs.YtjnamoppcklomaaGreat
