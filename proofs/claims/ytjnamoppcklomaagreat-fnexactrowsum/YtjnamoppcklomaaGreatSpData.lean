/- Slices of spans, as plain data: pairs of numbers, in memory one behind the other. No statement of the seat is proved here. -/
import Derived.Test.YtjnamoppcklomaaGreatMarkMath
namespace Go.Proofs.YtjnamoppcklomaaGreat
open Go.RowKit
abbrev Sp := List (Int × Int)
def flat : Sp → List Int
  | [] => []
  | p :: ps => p.1 :: p.2 :: flat ps
theorem flat_length : ∀ ps : Sp, (flat ps).length = 2 * ps.length
  | [] => rfl
  | p :: ps => by simp [flat, flat_length ps]; omega
theorem flat_lo : ∀ (ps : Sp) (i : Nat), (flat ps)[2 * i]?.getD 0 = (ps[i]?.getD (0, 0)).1
  | [], i => by simp [flat]
  | p :: ps, 0 => by simp [flat]
  | p :: ps, i + 1 => by rw [show 2 * (i + 1) = 2 * i + 1 + 1 by omega, flat]; simpa using flat_lo ps i
theorem flat_hi : ∀ (ps : Sp) (i : Nat), (flat ps)[2 * i + 1]?.getD 0 = (ps[i]?.getD (0, 0)).2
  | [], i => by simp [flat]
  | p :: ps, 0 => by simp [flat]
  | p :: ps, i + 1 => by rw [show 2 * (i + 1) + 1 = 2 * i + 1 + 1 + 1 by omega, flat]; simpa using flat_hi ps i
theorem flat_append : ∀ (ps qs : Sp), flat (ps ++ qs) = flat ps ++ flat qs
  | [], qs => rfl
  | p :: ps, qs => by simp [flat, flat_append ps qs]
/-- A slice of spans that can be read; F: its block. -/
structure RdP (w : World) (a : Option Addr) (len : Nat) (ps : Sp) (F : List Nat) : Prop where
  length : ps.length = len
  rd : RdI w a (2 * len) (flat ps) F
theorem RdP.below {w w' : World} {a : Option Addr} {len : Nat} {ps : Sp} {F : List Nat} (h : RdP w a len ps F) (hb : Below w.heap.size w w') : RdP w' a len ps F := ⟨h.length, h.rd.below hb⟩
theorem RdP.agree {w w' : World} {a : Option Addr} {len : Nat} {ps : Sp} {F : List Nat} (h : RdP w a len ps F) (hb : Agree w w' F) : RdP w' a len ps F := ⟨h.length, h.rd.agree hb⟩
theorem RdP.lt {w : World} {a : Option Addr} {len : Nat} {ps : Sp} {F : List Nat} (h : RdP w a len ps F) : ∀ b ∈ F, b < w.heap.size := h.rd.lt
theorem RdP.cells {w : World} {a : Option Addr} {len : Nat} {ps : Sp} {F : List Nat} (h : RdP w a len ps F) : (len = 0 ∧ F = [] ∧ ps = []) ∨ ∃ b off, 0 < len ∧ a = some ⟨b, off, none⟩ ∧ F = [b] ∧ ∀ i, i < len → w.cell? ⟨b, off + i * 2, none⟩ = some (.int .i64 (ps[i]?.getD (0, 0)).1) ∧ w.cell? ⟨b, off + i * 2 + 1, none⟩ = some (.int .i64 (ps[i]?.getD (0, 0)).2) := by
  rcases h.rd.cells with ⟨h0, hF⟩ | ⟨b, off, hp, ha, hF, hc⟩
  · left
    have hl := h.length
    refine ⟨by omega, hF, List.eq_nil_of_length_eq_zero (by omega)⟩
  · right
    refine ⟨b, off, by omega, ha, hF, fun i hi => ?_⟩
    have e1 := hc (2 * i) (by omega)
    have e2 := hc (2 * i + 1) (by omega)
    rw [List.getD_eq_getElem?_getD, flat_lo] at e1
    rw [List.getD_eq_getElem?_getD, flat_hi] at e2
    rw [show off + i * 2 = off + 2 * i by omega]
    exact ⟨e1, by rw [show off + 2 * i + 1 = off + (2 * i + 1) by omega]; exact e2⟩
theorem RdP.nil {w : World} {a : Option Addr} : RdP w a 0 [] [] := ⟨rfl, rfl, .inl ⟨rfl, rfl⟩⟩
/-- Out of a row that the call made. -/
theorem RdP.of_own {w : World} {B e len cap g : Nat} {ps : Sp} (h : w.ownsRow B e 2 (.slice (some ⟨g, 0, none⟩) len cap) len ((flat ps).map (Value.int .i64))) : ∃ F, RdP w (some ⟨g, 0, none⟩) len ps F ∧ Own B w F ∧ ∀ b ∈ F, b = g := by
  have hl : (flat ps).length = len * 2 := by simpa using h.1
  rw [flat_length] at hl
  by_cases h0 : len = 0
  · exact ⟨[], ⟨by omega, by rw [flat_length]; omega, .inl ⟨by omega, rfl⟩⟩, Own.nil, by simp⟩
  · have hlt := h.lt g rfl
    refine ⟨[g], ⟨by omega, by rw [flat_length]; omega, .inr ⟨g, 0, by omega, rfl, rfl, fun i hi => ?_⟩⟩, ⟨by simp, fun b hb o => ?_, fun b hb => ?_⟩, by simp⟩
    · rw [Nat.zero_add, h.cellAt i (by omega)]
      simp [List.getElem?_eq_getElem (show i < (flat ps).length by rw [flat_length]; omega)]
    · obtain rfl : b = g := by simpa using hb
      exact h.frozenAt o
    · obtain rfl : b = g := by simpa using hb
      exact hlt.1
/-- What is known of a slice's room. -/
abbrev Capd (a : Option Addr) (l c : Nat) : Prop := (a = none → c = 0) ∧ l ≤ c
def NewP (w : World) (ps : Sp) (e : Ending) (w' : World) : Prop :=
  ∃ a len cap F, e = .returned (.slice a len cap) ∧ RdP w' a len ps F ∧ Own w.heap.size w' F ∧ Below w.heap.size w w' ∧ Capd a len cap
/-- The same, and the room behind it is no less than its length. -/
def NewPc (w : World) (ps : Sp) (e : Ending) (w' : World) : Prop :=
  ∃ a len cap F, e = .returned (.slice a len cap) ∧ RdP w' a len ps F ∧ Own w.heap.size w' F ∧ Below w.heap.size w w' ∧ (a = none → cap = 0) ∧ len ≤ cap
theorem NewPc.p {w : World} {ps : Sp} {e : Ending} {w' : World} (h : NewPc w ps e w') : NewP w ps e w' := by
  obtain ⟨a, len, cap, F, h1, h2, h3, h4, h5, h6⟩ := h
  exact ⟨a, len, cap, F, h1, h2, h3, h4, h5, h6⟩
theorem infoSpan : (Tryz.prog.info? 74).map (fun i => (i.zero, i.size, i.bytes)) = some (some (.agg #[.int .i64 0, .int .i64 0]), 2, 16) := by kernel_rfl
def tcv (xs : List Int) : Array Value := (xs.map (Value.int .i64)).toArray
theorem tcv_get {xs : List Int} {i : Nat} (h : i < xs.length) : (tcv xs)[i]? = some (.int .i64 (xs.getD i 0)) := by simp [tcv, h]
theorem tcv_set (xs : List Int) (i : Nat) (x : Int) : (tcv xs).setIfInBounds i (.int .i64 x) = tcv (xs.set i x) := by simp [tcv]
theorem rdI_tcv {W : World} {g n : Nat} {xs : List Int} {t : TypeId} (h : Blk W g (tcv xs) t) (hn : xs.length = n) (hp : 0 < n) : RdI W (some ⟨g, 0, none⟩) n xs [g] :=
  ⟨hn, .inr ⟨g, 0, hp, rfl, rfl, fun i hi => by rw [Nat.zero_add, h.cell, tcv_get (by omega)]⟩⟩
theorem own_blk {w : World} {B e s n g : Nat} {xs : List Value} (h : w.ownsRow B e s (.slice (some ⟨g, 0, none⟩) n n) n xs) (hn : 0 < n) : Blk w g xs.toArray e := by
  rcases h.2 with ⟨_, h0⟩ | ⟨g', cap, cur, e1, _, hg, h1, h2, h3, h4⟩
  · omega
  · cases e1
    have e2 : cur.toList = xs := by
      have e3 : cur.toList.take (n * s) = cur.toList := List.take_of_length_le (by rw [Array.length_toList]; omega)
      rw [e3] at h4
      exact h4
    rw [← e2]
    exact hg
/-- What a copy holds behind k rounds. -/
def halfP (ps : Sp) (k len : Nat) : List Int := flat (ps.take k) ++ List.replicate (2 * (len - k)) 0
theorem halfP_zero (ps : Sp) (len : Nat) : halfP ps 0 len = List.replicate (2 * len) 0 := by simp [halfP, flat]
theorem halfP_end (ps : Sp) (len : Nat) (h : ps.length = len) : halfP ps len len = flat ps := by simp [halfP, List.take_of_length_le (Nat.le_of_eq h)]
theorem takeP_succ (ps : Sp) (k : Nat) (hk : k < ps.length) : ps.take (k + 1) = ps.take k ++ [ps[k]?.getD (0, 0)] := by
  rw [List.take_add_one, List.getElem?_eq_getElem hk]; rfl
theorem halfP_length (ps : Sp) (k len : Nat) (h : ps.length = len) (hk : k ≤ len) : (halfP ps k len).length = 2 * len := by
  simp [halfP, flat_length]; omega
theorem halfP_step (ps : Sp) (k len : Nat) (h : ps.length = len) (hk : k < len) : ((halfP ps k len).set (k * 2) (ps[k]?.getD (0, 0)).1).set (k * 2 + 1) (ps[k]?.getD (0, 0)).2 = halfP ps (k + 1) len := by
  unfold halfP
  have hkl : (flat (ps.take k)).length = k * 2 := by rw [flat_length]; simp; omega
  rw [List.set_append_right (k * 2) _ (by omega), hkl, Nat.sub_self, takeP_succ ps k (by omega), flat_append]
  have e : List.replicate (2 * (len - k)) (0 : Int) = 0 :: 0 :: List.replicate (2 * (len - (k + 1))) 0 := by
    rw [show 2 * (len - k) = 2 * (len - (k + 1)) + 1 + 1 by omega]; rfl
  rw [e, List.set_append_right (k * 2 + 1) _ (by omega), hkl, show k * 2 + 1 - k * 2 = 1 by omega]
  simp [flat]
theorem made_flat (len : Nat) : (madeCells (Value.agg #[Value.int IntKind.i64 0, Value.int IntKind.i64 0]).cells (len * 2)).toList.toArray = tcv (List.replicate (2 * len) 0) := by
  have hz : ∀ j, (Value.agg #[Value.int IntKind.i64 0, Value.int IntKind.i64 0]).cells[j % (Value.agg #[Value.int IntKind.i64 0, Value.int IntKind.i64 0]).cells.size]! = Value.int .i64 0 := fun j => by
    have hj : j % 2 = 0 ∨ j % 2 = 1 := by omega
    rcases hj with e | e <;> simp [Value.cells, e]
  apply Array.ext
  · simp [madeCells, tcv]; omega
  · intro i h1 h2
    simp only [madeCells, tcv] at h1 h2 ⊢
    simp only [List.getElem_toArray, Array.getElem_toList, Array.getElem_map, List.getElem_map, List.getElem_replicate]
    exact hz _
set_option maxRecDepth 200000 in
set_option maxHeartbeats 400000 in
theorem toSpan_any (x y : Int) (w : World) : Calls Tryz.prog 160 #[.agg #[.int .i64 x, .int .i64 y]] w fun e w' => e = .returned (.agg #[.int .i64 x, .int .i64 y]) ∧ Below w.heap.size w w' := by
  have HB : Hid (Below w.heap.size w (((w.alloc (.cells #[.int .i64 x, .int .i64 y] 185)).alloc (.cells #[.int .i64 x, .int .i64 y] 74)).alloc (.cells #[.int .i64 x, .int .i64 y] 74))) := Below.allocW _ (Below.allocW _ (Below.allocW _ (Below.refl _ _) (Nat.le_refl _)) (Nat.le_refl _)) (Nat.le_refl _)
  have HK : Hid (Blk (((w.alloc (.cells #[.int .i64 x, .int .i64 y] 185)).alloc (.cells #[.int .i64 x, .int .i64 y] 74)).alloc (.cells #[.int .i64 x, .int .i64 y] 74)) (w.heap.size + 1) #[.int .i64 x, .int .i64 y] 74) := (Blk.made_eq (by simp)).alloc _
  go_enter Tryz.func160, Tryz.ntmps160
  go_wp2
  refine bodyPost_ret (results_cell_row Tryz.results160 _ _ (w.heap.size + 1) _ _ (0, 0) _ rfl HK.out Tryz.underlying74 rfl (by kernel_rfl)) rfl ?_
  exact ⟨rfl, HB.out⟩
set_option maxRecDepth 200000 in
set_option maxHeartbeats 1000000 in
theorem toSpanS_cap (a : Option Addr) (len cap : Nat) (ps : Sp) (F : List Nat) (w : World) (h : RdP w a len ps F) (hlen : len ≤ 1048576) :
    Calls Tryz.prog 135 #[.slice a len cap] w fun e w' => NewPc w ps e w' := by
  obtain ⟨i0, hi, hz0, hz1, hz2⟩ := info_parts infoSpan
  have HL : Hid (ps.length = len) := h.length
  rcases h.cells with ⟨rfl, _, rfl⟩ | ⟨b, off, hp, rfl, _, hc⟩
  · clear h
    go_enter Tryz.func135, Tryz.ntmps135
    go_wp2_with (at_make; refine wpList_make_full _ rfl _ _ 27 rfl w.heap.size 74 i0 (.agg #[.int .i64 0, .int .i64 0]) 2 Tryz.underlying27 hi hz0 hz1 .i64 .i64 _ _ 0 rfl rfl (by simp) (by simp) (by omega) (by unfold maxLen; omega) (Nat.le_refl _) ?_; intro w1 hown hgrow)
    refine wp_loop_rounds 1 ?_
    rw [rounds_succ]
    go_wp2
    go_ret
    exact ⟨_, 0, 0, [], rfl, RdP.nil, Own.nil, (Below.refl _ _).grown hgrow (Nat.le_refl _) (fun k hk => by cases hk), (fun e => by cases e), Nat.le_refl _⟩
  · have HB : Hid (b < w.heap.size ∧ ∀ i, i < len → w.cell? ⟨b, off + i * 2, none⟩ = some (.int .i64 (ps[i]?.getD (0, 0)).1) ∧ w.cell? ⟨b, off + i * 2 + 1, none⟩ = some (.int .i64 (ps[i]?.getD (0, 0)).2)) := ⟨World.block_lt_of_cell? _ _ (hc 0 hp).1, hc⟩
    clear h hc
    go_enter Tryz.func135, Tryz.ntmps135
    go_wp2_with (at_make; refine wpList_make_full _ rfl _ _ 27 rfl w.heap.size 74 i0 (.agg #[.int .i64 0, .int .i64 0]) 2 Tryz.underlying27 hi hz0 hz1 .i64 .i64 _ _ len rfl rfl rfl rfl (by rw [hz2]; omega) (by unfold maxLen; omega) (Nat.le_refl _) ?_; intro w1 hown hgrow)
    have HM : Hid (Blk w1 w.heap.size (tcv (halfP ps 0 len)) 74 ∧ Below w.heap.size w w1) := by
      refine ⟨?_, (Below.refl _ _).grown hgrow (Nat.le_refl _) (fun k hk => by cases hk)⟩
      have e := own_blk hown hp
      rw [halfP_zero]
      have e2 : (madeCells (Value.agg #[Value.int IntKind.i64 0, Value.int IntKind.i64 0]).cells (len * 2)).toList.toArray = tcv (List.replicate (2 * len) 0) := made_flat len
      rw [← e2]
      exact e
    clear hown hgrow
    go_loopw [4] (fun i wr => ∃ k : Nat, k ≤ len ∧ i = .int .i64 k ∧ Hid (Blk wr w.heap.size (tcv (halfP ps k len)) 74 ∧ Below w.heap.size w wr)) (fun i _ => len - (intOf i).toNat)
    case atStart => exact ⟨0, by omega, rfl, HM⟩
    case round =>
      clear HM
      obtain ⟨k, hk, rfl, HM⟩ := hrel
      by_cases hlt : k < len
      · obtain ⟨x, hx⟩ : ∃ x, x = (ps[k]?.getD (0, 0)).1 := ⟨_, rfl⟩
        obtain ⟨y, hy⟩ : ∃ y, y = (ps[k]?.getD (0, 0)).2 := ⟨_, rfl⟩
        have e := HB.out.2 k hlt
        rw [← hx, ← hy] at e
        have d1 : wr.cell? ⟨b, off + k * 2, none⟩ = some (.int .i64 x) := (HM.out.2.cell (by exact HB.out.1)).trans e.1
        have d2 : wr.cell? ⟨b, off + k * 2 + 1, none⟩ = some (.int .i64 y) := (HM.out.2.cell (by exact HB.out.1)).trans e.2
        have HX : Hid (x = (ps[k]?.getD (0, 0)).1 ∧ y = (ps[k]?.getD (0, 0)).2) := ⟨hx, hy⟩
        clear e hx hy
        go_wp2_with fail
        refine (toSpan_any x y _).mono ?_
        rintro e w2 ⟨rfl, hb2⟩
        have hl2 := halfP_length ps k len HL.out (by omega)
        have H2 : Hid (Blk w2 w.heap.size (tcv (halfP ps k len)) 74 ∧ Below w.heap.size w w2) := ⟨HM.out.1.below hb2, Below.next HM.out.2 hb2⟩
        have g1 := H2.out.1.cell (k * 2)
        have g2 := H2.out.1.cell (k * 2 + 1)
        rw [tcv_get (by omega)] at g1 g2
        have f1 := H2.out.1.frozen (k * 2)
        have f2 := H2.out.1.frozen (k * 2 + 1)
        have R : Hid (Blk ((w2.setCell ⟨w.heap.size, k * 2, none⟩ (.int .i64 x)).setCell ⟨w.heap.size, k * 2 + 1, none⟩ (.int .i64 y)) w.heap.size (tcv (halfP ps (k + 1) len)) 74 ∧ Below w.heap.size w ((w2.setCell ⟨w.heap.size, k * 2, none⟩ (.int .i64 x)).setCell ⟨w.heap.size, k * 2 + 1, none⟩ (.int .i64 y))) := by
          refine ⟨?_, (H2.out.2.setCell (Nat.le_refl _) _).setCell (Nat.le_refl _) _⟩
          have := (H2.out.1.set (k * 2) (.int .i64 x)).set (k * 2 + 1) (.int .i64 y)
          rw [tcv_set, tcv_set, HX.out.1, HX.out.2, halfP_step ps k len HL.out hlt] at this
          rw [HX.out.1, HX.out.2]
          exact this
        clear hb2 HM H2 hl2
        go_wp2
        go_roundw
        case rel => exact ⟨k + 1, by omega, by go_num, R⟩
        case measure => simp [intOf]; omega
      · obtain rfl : k = len := by omega
        go_wp2
        go_ret
        have e := HM.out.1
        rw [halfP_end ps k HL.out] at e
        have hl := flat_length ps
        exact ⟨_, k, k, [w.heap.size], rfl, ⟨HL.out, rdI_tcv e (by rw [flat_length, HL.out]) (by omega)⟩, ⟨by simp, fun b hb o => by simp at hb; subst hb; exact e.frozen o, by simp⟩, HM.out.2, (fun e => by cases e), Nat.le_refl _⟩
set_option maxRecDepth 200000 in
theorem toSpanS_any (a : Option Addr) (len cap : Nat) (ps : Sp) (F : List Nat) (w : World) (h : RdP w a len ps F) (hlen : len ≤ 1048576) :
    Calls Tryz.prog 135 #[.slice a len cap] w fun e w' => NewP w ps e w' := (toSpanS_cap a len cap ps F w h hlen).mono (fun _ _ h => h.p)
end Go.Proofs.YtjnamoppcklomaaGreat
