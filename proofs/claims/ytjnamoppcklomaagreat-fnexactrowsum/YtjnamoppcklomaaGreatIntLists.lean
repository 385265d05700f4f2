/- The walks through the helpers of the laws over slices of numbers, and over slices of such: copying, comparing, weighing. No statement of the seat is proved here. -/
import Derived.Test.YtjnamoppcklomaaGreatOwn
namespace Go.Proofs.YtjnamoppcklomaaGreat
open Go.RowKit

/-- What a copy holds behind k rounds. -/
def halfI (zs : List Int) (k len : Nat) : List Int := zs.take k ++ List.replicate (len - k) 0
theorem halfI_zero (zs : List Int) (len : Nat) : halfI zs 0 len = List.replicate len 0 := by simp [halfI]
theorem halfI_end (zs : List Int) (len : Nat) (h : zs.length = len) : halfI zs len len = zs := by
  simp [halfI, List.take_of_length_le (Nat.le_of_eq h)]
theorem halfI_step (zs : List Int) (k len : Nat) (h : zs.length = len) (hk : k < len) : ((halfI zs k len).map (Value.int .i64)).set k (.int .i64 (zs[k]?.getD 0)) = (halfI zs (k + 1) len).map (Value.int .i64) := by
  have e : (halfI zs k len).set k (zs[k]?.getD 0) = halfI zs (k + 1) len := by
    unfold halfI
    have hkl : (zs.take k).length = k := by simp; omega
    rw [List.set_append_right k _ (by omega), hkl, Nat.sub_self, take_succ' zs k (by omega)]
    have e : List.replicate (len - k) (0 : Int) = 0 :: List.replicate (len - (k + 1)) 0 := by
      rw [show len - k = (len - (k + 1)) + 1 by omega]; rfl
    rw [e]
    simp
  rw [← e, List.map_set]

theorem infoInt : (Tryz.prog.info? 3).map (fun i => (i.zero, i.size, i.bytes)) = some (some (.int .i64 0), 1, 8) := by kernel_rfl
def NewI (w : World) (zs : List Int) (e : Ending) (w' : World) : Prop :=
  ∃ a len cap F, e = .returned (.slice a len cap) ∧ RdI w' a len zs F ∧ Own w.heap.size w' F ∧ Below w.heap.size w w'
set_option maxRecDepth 200000 in
set_option maxHeartbeats 400000 in
theorem toIntS_own (a : Option Addr) (len cap : Nat) (zs : List Int) (F : List Nat) (w : World) (h : RdI w a len zs F) (hlen : len ≤ 1048576) :
    Calls Tryz.prog 161 #[.slice a len cap] w fun e w' => e = .returned (.slice (some ⟨w.heap.size, 0, none⟩) len len) ∧
      w'.ownsRow w.heap.size 3 1 (.slice (some ⟨w.heap.size, 0, none⟩) len len) len (zs.map (Value.int .i64)) ∧ Below w.heap.size w w' := by
  obtain ⟨i0, hi, hz0, hz1, hz2⟩ := info_parts infoInt
  have HL : Hid (zs.length = len) := h.length
  have hbase : w.heap.size ≤ w.heap.size := Nat.le_refl _
  rcases h.cells with ⟨h0, _⟩ | ⟨b, off, _, rfl, _, hc⟩
  · subst h0
    have hz : zs = [] := List.eq_nil_of_length_eq_zero h.length
    subst hz
    clear h
    go_enter Tryz.func161, Tryz.ntmps161
    go_wp2_with (at_make; refine wpList_make_full _ rfl _ _ 28 rfl w.heap.size 3 i0 (.int .i64 0) 1 Tryz.underlying28 hi hz0 hz1 .i64 .i64 _ _ 0 rfl rfl (by simp) (by simp) (by omega) (by unfold maxLen; omega) (Nat.le_refl _) ?_; intro w1 hown hgrow)
    refine wp_loop_rounds 1 ?_
    rw [rounds_succ]
    go_wp2
    go_ret
    exact ⟨rfl, by simpa [Value.cells, toList_madeCells_one] using hown, (Below.refl _ _).grown hgrow (Nat.le_refl _) (fun k hk => by cases hk)⟩
  · have hb : 0 < len → b < w.heap.size := fun h0 => World.block_lt_of_cell? _ _ (hc 0 h0)
    clear h
    go_enter Tryz.func161, Tryz.ntmps161
    go_wp2_with (at_make; refine wpList_make_full _ rfl _ _ 28 rfl w.heap.size 3 i0 (.int .i64 0) 1 Tryz.underlying28 hi hz0 hz1 .i64 .i64 _ _ len rfl rfl rfl rfl (by rw [hz2]; omega) (by unfold maxLen; omega) (Nat.le_refl _) ?_; intro w1 hown hgrow)
    go_loopw [4] (fun i wr => ∃ k : Nat, k ≤ len ∧ i = .int .i64 k ∧ wr.ownsRow w.heap.size 3 1 (.slice (some ⟨w.heap.size, 0, none⟩) len len) len ((halfI zs k len).map (Value.int .i64)) ∧ Below w.heap.size w wr) (fun i _ => len - (intOf i).toNat)
    case atStart =>
      refine ⟨0, by omega, rfl, ?_, (Below.refl _ _).grown hgrow (Nat.le_refl _) (fun k hk => by cases hk)⟩
      rw [halfI_zero]
      simpa [Value.cells, toList_madeCells_one] using hown
    case round =>
      obtain ⟨k, hk, rfl, hown', hbel⟩ := hrel
      by_cases hlt : k < len
      · have hck : wr.cell? ⟨b, off + k, none⟩ = some (.int .i64 (zs.getD k 0)) := (hbel.cell (by exact hb (by omega))).trans (hc k hlt)
        obtain ⟨v0, hcg⟩ := own_some hown' k hlt
        have hcf := hown'.frozenAt k
        have R := hown'.stored k (.int .i64 (zs[k]?.getD 0))
        rw [halfI_step zs k len HL.out hlt] at R
        obtain ⟨R1, R2⟩ := R
        clear hown'
        go_wp2
        go_roundw
        case rel => exact ⟨k + 1, by omega, by go_num, R1, hbel.setCell (Nat.le_refl _) _⟩
        case measure => simp [intOf]; omega
      · obtain rfl : k = len := by omega
        rw [halfI_end zs k HL.out] at hown'
        go_wp2
        go_ret
        exact ⟨rfl, hown', hbel⟩
set_option maxRecDepth 200000 in
/-- What a copy of a slice of numbers tells. -/
theorem toIntS_any (a : Option Addr) (len cap : Nat) (zs : List Int) (F : List Nat) (w : World) (h : RdI w a len zs F) (hlen : len ≤ 1048576) :
    Calls Tryz.prog 161 #[.slice a len cap] w fun e w' => NewI w zs e w' :=
  (toIntS_own a len cap zs F w h hlen).mono fun _ _ ⟨he, ho, hb⟩ => by
    obtain ⟨G, hr, hg, _⟩ := RdI.of_own ho
    exact ⟨_, _, _, G, he, hr, hg, hb⟩

theorem eqI_step {xs ys : List Int} {k : Nat} (hl : xs.length = ys.length) (hk : k < xs.length) (h : xs.take k = ys.take k) (he : xs[k]?.getD 0 = ys[k]?.getD 0) : xs.take (k + 1) = ys.take (k + 1) := by
  rw [take_succ' xs k hk, take_succ' ys k (by omega), h, he]
theorem neI_of_at {xs ys : List Int} {k : Nat} (he : ¬ xs[k]?.getD 0 = ys[k]?.getD 0) : decide (xs = ys) = false := by
  rw [decide_eq_false_iff_not]; intro e; subst e; exact he rfl
theorem eqI_end {xs ys : List Int} {k : Nat} (hx : xs.length = k) (hy : ys.length = k) (h : xs.take k = ys.take k) : decide (xs = ys) = true := by
  rw [decide_eq_true_iff]
  rw [List.take_of_length_le (Nat.le_of_eq hx), List.take_of_length_le (Nat.le_of_eq hy)] at h
  exact h
set_option maxRecDepth 200000 in
set_option maxHeartbeats 400000 in
theorem eqIntS_any (a b : Option Addr) (la lb ca cb : Nat) (xs ys : List Int) (F G : List Nat) (w : World) (ha : RdI w a la xs F) (hb : RdI w b lb ys G) (hla : la ≤ 140737488355328) (hlb : lb ≤ 140737488355328) :
    Calls Tryz.prog 138 #[.slice a la ca, .slice b lb cb] w fun e w' => e = .returned (.bool (decide (xs = ys))) ∧ Below w.heap.size w w' := by
  have Hx : Hid (xs.length = la) := ha.length
  have Hy : Hid (ys.length = lb) := hb.length
  by_cases hl : la = lb
  · subst hl
    have hbne : ((la : Int) != (la : Int)) = false := by simp
    by_cases h0 : la = 0
    · subst h0
      have ex : xs = [] := List.eq_nil_of_length_eq_zero ha.length
      have ey : ys = [] := List.eq_nil_of_length_eq_zero hb.length
      clear ha hb
      go_enter Tryz.func138, Tryz.ntmps138
      go_wp2
      refine wp_loop_rounds 1 ?_
      rw [rounds_succ]
      go_wp2
      go_ret
      exact ⟨ret_bool (by rw [ex, ey]; rfl), Below.refl _ _⟩
    · obtain ⟨b1, o1, rfl, hc1⟩ : ∃ b off, a = some ⟨b, off, none⟩ ∧ ∀ i, i < la → w.cell? ⟨b, off + i, none⟩ = some (.int .i64 (xs.getD i 0)) := by
        rcases ha.cells with h | ⟨b, off, _, h1, _, h2⟩
        · exact absurd h.1 h0
        · exact ⟨b, off, h1, h2⟩
      obtain ⟨b2, o2, rfl, hc2⟩ : ∃ b' off, b = some ⟨b', off, none⟩ ∧ ∀ i, i < la → w.cell? ⟨b', off + i, none⟩ = some (.int .i64 (ys.getD i 0)) := by
        rcases hb.cells with h | ⟨b, off, _, h1, _, h2⟩
        · exact absurd h.1 h0
        · exact ⟨b, off, h1, h2⟩
      have hb1 : b1 < w.heap.size := World.block_lt_of_cell? _ _ (hc1 0 (by omega))
      have hb2 : b2 < w.heap.size := World.block_lt_of_cell? _ _ (hc2 0 (by omega))
      clear ha hb
      go_enter Tryz.func138, Tryz.ntmps138
      go_wp2
      go_loopw [5] (fun i wr => ∃ k : Nat, k ≤ la ∧ i = .int .i64 k ∧ Hid (xs.take k = ys.take k) ∧ Below w.heap.size w wr) (fun i _ => la - (intOf i).toNat)
      case atStart => exact ⟨0, by omega, rfl, rfl, Below.refl _ _⟩
      case round =>
        obtain ⟨k, hk, rfl, HT, hbel⟩ := hrel
        by_cases hlt : k < la
        · have d1 : wr.cell? ⟨b1, o1 + k, none⟩ = some (.int .i64 (xs.getD k 0)) := (hbel.cell (by exact hb1)).trans (hc1 k hlt)
          have d2 : wr.cell? ⟨b2, o2 + k, none⟩ = some (.int .i64 (ys.getD k 0)) := (hbel.cell (by exact hb2)).trans (hc2 k hlt)
          by_cases he : xs[k]?.getD 0 = ys[k]?.getD 0
          · have hne : (xs[k]?.getD 0 != ys[k]?.getD 0) = false := by simp [he]
            have HE : Hid (xs[k]?.getD 0 = ys[k]?.getD 0) := he
            clear he hc1 hc2
            go_wp2
            go_region
            all_goals (try go_wp2)
            all_goals
              go_roundw
              case rel => exact ⟨k + 1, by omega, by go_num, eqI_step (by rw [Hx.out, Hy.out]) (by rw [Hx.out]; exact hlt) HT.out HE.out, by repeat (first | exact hbel | apply Below.drew)⟩
              case measure => simp [intOf]; omega
          · have hne : (xs[k]?.getD 0 != ys[k]?.getD 0) = true := by simp [he]
            have HE : Hid (¬ xs[k]?.getD 0 = ys[k]?.getD 0) := he
            clear he hc1 hc2
            go_wp2
            go_region
            all_goals (try go_wp2)
            all_goals
              go_ret
              exact ⟨ret_bool (neI_of_at HE.out).symm, by repeat (first | exact hbel | apply Below.drew)⟩
        · obtain rfl : k = la := by omega
          go_wp2
          go_ret
          exact ⟨ret_bool (eqI_end Hx.out Hy.out HT.out).symm, hbel⟩
  · have hbne : ((la : Int) != (lb : Int)) = true := by simp; omega
    have e : decide (xs = ys) = false := by
      rw [decide_eq_false_iff_not]; intro e; subst e; exact hl (Hx.out.symm.trans Hy.out)
    clear ha hb
    go_enter Tryz.func138, Tryz.ntmps138
    go_wp2
    go_ret
    exact ⟨ret_bool e.symm, Below.refl _ _⟩
/-- What a weighing tells: below 0 where there was too much; else what is left. -/
def Weighed (left n : Int) (e : Ending) : Prop := ∃ r, e = .returned (.int .i64 r) ∧ r ≤ left ∧ (0 ≤ r → r = left - n) ∧ (r < 0 → left < n)
end Go.Proofs.YtjnamoppcklomaaGreat
