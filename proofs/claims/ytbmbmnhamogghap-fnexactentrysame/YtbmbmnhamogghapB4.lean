/- Several texts of mine, laid together. No statement of the seat is proved here. -/
import Derived.Test.YtbmbmnhamogghapB2
import Derived.Test.YtbmbmnhamogghapB3
import Derived.ProofKit
import Derived.OpenShut
import Derived.ChangeSlices
import Derived.WideShapes
import Derived.Deep.SlicePairs
import Derived.Laws.CopyRow
/- Slices of spans, as plain data: pairs of numbers, in memory one behind the other. No statement of the seat is proved here. -/
namespace Go.Proofs.Ytbmbmnhamogghap
open Go.RowKit
abbrev Sp := List (Int × Int)
def flat : Sp → List Int
  | [] => []
  | p :: ps => p.1 :: p.2 :: flat ps
theorem flat_length : ∀ ps : Sp, (flat ps).length = 2 * ps.length
  | [] => rfl
  | p :: ps => by simp [flat, flat_length ps]; omega
theorem flat_lo : ∀ (ps : Sp) (i : Nat), (flat ps)[2 * i]?.getD 0 = (ps[i]?.getD (0, 0)).1
  | [], i => by simp [flat]
  | p :: ps, 0 => by simp [flat]
  | p :: ps, i + 1 => by rw [show 2 * (i + 1) = 2 * i + 1 + 1 by omega, flat]; simpa using flat_lo ps i
theorem flat_hi : ∀ (ps : Sp) (i : Nat), (flat ps)[2 * i + 1]?.getD 0 = (ps[i]?.getD (0, 0)).2
  | [], i => by simp [flat]
  | p :: ps, 0 => by simp [flat]
  | p :: ps, i + 1 => by rw [show 2 * (i + 1) + 1 = 2 * i + 1 + 1 + 1 by omega, flat]; simpa using flat_hi ps i
theorem flat_append : ∀ (ps qs : Sp), flat (ps ++ qs) = flat ps ++ flat qs
  | [], qs => rfl
  | p :: ps, qs => by simp [flat, flat_append ps qs]
theorem flat_inj : ∀ {ps qs : Sp}, flat ps = flat qs → ps = qs
  | [], [], _ => rfl
  | [], q :: qs, h => by simp [flat] at h
  | p :: ps, [], h => by simp [flat] at h
  | p :: ps, q :: qs, h => by
    simp only [flat, List.cons.injEq] at h
    obtain ⟨h1, h2, h3⟩ := h
    rw [flat_inj h3, Prod.ext h1 h2]
/-- A slice of spans that can be read; F: its block. -/
structure RdP (w : World) (a : Option Addr) (len : Nat) (ps : Sp) (F : List Nat) : Prop where
  length : ps.length = len
  rd : RdI w a (2 * len) (flat ps) F
theorem RdP.below {w w' : World} {a : Option Addr} {len : Nat} {ps : Sp} {F : List Nat} (h : RdP w a len ps F) (hb : Below w.heap.size w w') : RdP w' a len ps F := ⟨h.length, h.rd.below hb⟩
theorem RdP.agree {w w' : World} {a : Option Addr} {len : Nat} {ps : Sp} {F : List Nat} (h : RdP w a len ps F) (hb : Agree w w' F) : RdP w' a len ps F := ⟨h.length, h.rd.agree hb⟩
theorem RdP.lt {w : World} {a : Option Addr} {len : Nat} {ps : Sp} {F : List Nat} (h : RdP w a len ps F) : ∀ b ∈ F, b < w.heap.size := h.rd.lt
theorem RdP.cells {w : World} {a : Option Addr} {len : Nat} {ps : Sp} {F : List Nat} (h : RdP w a len ps F) : (len = 0 ∧ F = [] ∧ ps = []) ∨ ∃ b off, 0 < len ∧ a = some ⟨b, off, none⟩ ∧ F = [b] ∧ ∀ i, i < len → w.cell? ⟨b, off + i * 2, none⟩ = some (.int .i64 (ps[i]?.getD (0, 0)).1) ∧ w.cell? ⟨b, off + i * 2 + 1, none⟩ = some (.int .i64 (ps[i]?.getD (0, 0)).2) := by
  rcases h.rd.cells with ⟨h0, hF⟩ | ⟨b, off, hp, ha, hF, hc⟩
  · left
    have hl := h.length
    refine ⟨by omega, hF, List.eq_nil_of_length_eq_zero (by omega)⟩
  · right
    refine ⟨b, off, by omega, ha, hF, fun i hi => ?_⟩
    have e1 := hc (2 * i) (by omega)
    have e2 := hc (2 * i + 1) (by omega)
    rw [List.getD_eq_getElem?_getD, flat_lo] at e1
    rw [List.getD_eq_getElem?_getD, flat_hi] at e2
    rw [show off + i * 2 = off + 2 * i by omega]
    exact ⟨e1, by rw [show off + 2 * i + 1 = off + (2 * i + 1) by omega]; exact e2⟩
theorem RdP.nil {w : World} {a : Option Addr} : RdP w a 0 [] [] := ⟨rfl, rfl, .inl ⟨rfl, rfl⟩⟩
/-- Out of a row that the call made. -/
theorem RdP.of_own {w : World} {B e len cap g : Nat} {ps : Sp} (h : w.ownsRow B e 2 (.slice (some ⟨g, 0, none⟩) len cap) len ((flat ps).map (Value.int .i64))) : ∃ F, RdP w (some ⟨g, 0, none⟩) len ps F ∧ Own B w F ∧ ∀ b ∈ F, b = g := by
  have hl : (flat ps).length = len * 2 := by simpa using h.1
  rw [flat_length] at hl
  by_cases h0 : len = 0
  · exact ⟨[], ⟨by omega, by rw [flat_length]; omega, .inl ⟨by omega, rfl⟩⟩, Own.nil, by simp⟩
  · have hlt := h.lt g rfl
    refine ⟨[g], ⟨by omega, by rw [flat_length]; omega, .inr ⟨g, 0, by omega, rfl, rfl, fun i hi => ?_⟩⟩, ⟨by simp, fun b hb o => ?_, fun b hb => ?_⟩, by simp⟩
    · rw [Nat.zero_add, h.cellAt i (by omega)]
      simp [List.getElem?_eq_getElem (show i < (flat ps).length by rw [flat_length]; omega)]
    · obtain rfl : b = g := by simpa using hb
      exact h.frozenAt o
    · obtain rfl : b = g := by simpa using hb
      exact hlt.1
/-- What is known of a slice's room. -/
abbrev Capd (a : Option Addr) (l c : Nat) : Prop := (a = none → c = 0) ∧ l ≤ c
def NewP (w : World) (ps : Sp) (e : Ending) (w' : World) : Prop :=
  ∃ a len cap F, e = .returned (.slice a len cap) ∧ RdP w' a len ps F ∧ Own w.heap.size w' F ∧ Below w.heap.size w w' ∧ Capd a len cap
/-- The same, and the room behind it is no less than its length. -/
def NewPc (w : World) (ps : Sp) (e : Ending) (w' : World) : Prop :=
  ∃ a len cap F, e = .returned (.slice a len cap) ∧ RdP w' a len ps F ∧ Own w.heap.size w' F ∧ Below w.heap.size w w' ∧ (a = none → cap = 0) ∧ len ≤ cap
theorem NewPc.p {w : World} {ps : Sp} {e : Ending} {w' : World} (h : NewPc w ps e w') : NewP w ps e w' := by
  obtain ⟨a, len, cap, F, h1, h2, h3, h4, h5, h6⟩ := h
  exact ⟨a, len, cap, F, h1, h2, h3, h4, h5, h6⟩
theorem infoSpan : (Try.prog.info? 85).map (fun i => (i.zero, i.size, i.bytes)) = some (some (.agg #[.int .i64 0, .int .i64 0]), 2, 16) := by kernel_rfl
def tcv (xs : List Int) : Array Value := (xs.map (Value.int .i64)).toArray
theorem tcv_get {xs : List Int} {i : Nat} (h : i < xs.length) : (tcv xs)[i]? = some (.int .i64 (xs.getD i 0)) := by simp [tcv, h]
theorem tcv_set (xs : List Int) (i : Nat) (x : Int) : (tcv xs).setIfInBounds i (.int .i64 x) = tcv (xs.set i x) := by simp [tcv]
theorem rdI_tcv {W : World} {g n : Nat} {xs : List Int} {t : TypeId} (h : Blk W g (tcv xs) t) (hn : xs.length = n) (hp : 0 < n) : RdI W (some ⟨g, 0, none⟩) n xs [g] :=
  ⟨hn, .inr ⟨g, 0, hp, rfl, rfl, fun i hi => by rw [Nat.zero_add, h.cell, tcv_get (by omega)]⟩⟩
theorem own_blk {w : World} {B e s n g : Nat} {xs : List Value} (h : w.ownsRow B e s (.slice (some ⟨g, 0, none⟩) n n) n xs) (hn : 0 < n) : Blk w g xs.toArray e := by
  rcases h.2 with ⟨_, h0⟩ | ⟨g', cap, cur, e1, _, hg, h1, h2, h3, h4⟩
  · omega
  · cases e1
    have e2 : cur.toList = xs := by
      have e3 : cur.toList.take (n * s) = cur.toList := List.take_of_length_le (by rw [Array.length_toList]; omega)
      rw [e3] at h4
      exact h4
    rw [← e2]
    exact hg
/-- What a copy holds behind k rounds. -/
def halfP (ps : Sp) (k len : Nat) : List Int := flat (ps.take k) ++ List.replicate (2 * (len - k)) 0
theorem halfP_zero (ps : Sp) (len : Nat) : halfP ps 0 len = List.replicate (2 * len) 0 := by simp [halfP, flat]
theorem halfP_end (ps : Sp) (len : Nat) (h : ps.length = len) : halfP ps len len = flat ps := by simp [halfP, List.take_of_length_le (Nat.le_of_eq h)]
theorem takeP_succ (ps : Sp) (k : Nat) (hk : k < ps.length) : ps.take (k + 1) = ps.take k ++ [ps[k]?.getD (0, 0)] := by
  rw [List.take_add_one, List.getElem?_eq_getElem hk]; rfl
theorem halfP_length (ps : Sp) (k len : Nat) (h : ps.length = len) (hk : k ≤ len) : (halfP ps k len).length = 2 * len := by
  simp [halfP, flat_length]; omega
theorem halfP_step (ps : Sp) (k len : Nat) (h : ps.length = len) (hk : k < len) : ((halfP ps k len).set (k * 2) (ps[k]?.getD (0, 0)).1).set (k * 2 + 1) (ps[k]?.getD (0, 0)).2 = halfP ps (k + 1) len := by
  unfold halfP
  have hkl : (flat (ps.take k)).length = k * 2 := by rw [flat_length]; simp; omega
  rw [List.set_append_right (k * 2) _ (by omega), hkl, Nat.sub_self, takeP_succ ps k (by omega), flat_append]
  have e : List.replicate (2 * (len - k)) (0 : Int) = 0 :: 0 :: List.replicate (2 * (len - (k + 1))) 0 := by
    rw [show 2 * (len - k) = 2 * (len - (k + 1)) + 1 + 1 by omega]; rfl
  rw [e, List.set_append_right (k * 2 + 1) _ (by omega), hkl, show k * 2 + 1 - k * 2 = 1 by omega]
  simp [flat]
theorem made_flat (len : Nat) : (madeCells (Value.agg #[Value.int IntKind.i64 0, Value.int IntKind.i64 0]).cells (len * 2)).toList.toArray = tcv (List.replicate (2 * len) 0) := by
  have hz : ∀ j, (Value.agg #[Value.int IntKind.i64 0, Value.int IntKind.i64 0]).cells[j % (Value.agg #[Value.int IntKind.i64 0, Value.int IntKind.i64 0]).cells.size]! = Value.int .i64 0 := fun j => by
    have hj : j % 2 = 0 ∨ j % 2 = 1 := by omega
    rcases hj with e | e <;> simp [Value.cells, e]
  apply Array.ext
  · simp [madeCells, tcv]; omega
  · intro i h1 h2
    simp only [madeCells, tcv] at h1 h2 ⊢
    simp only [List.getElem_toArray, Array.getElem_toList, Array.getElem_map, List.getElem_map, List.getElem_replicate]
    exact hz _
set_option maxRecDepth 200000 in
set_option maxHeartbeats 400000 in
theorem toSpan_any (x y : Int) (w : World) : Calls Try.prog 72 #[.agg #[.int .i64 x, .int .i64 y]] w fun e w' => e = .returned (.agg #[.int .i64 x, .int .i64 y]) ∧ Below w.heap.size w w' := by
  have HB : Hid (Below w.heap.size w (((w.alloc (.cells #[.int .i64 x, .int .i64 y] 103)).alloc (.cells #[.int .i64 x, .int .i64 y] 85)).alloc (.cells #[.int .i64 x, .int .i64 y] 85))) := Below.allocW _ (Below.allocW _ (Below.allocW _ (Below.refl _ _) (Nat.le_refl _)) (Nat.le_refl _)) (Nat.le_refl _)
  have HK : Hid (Blk (((w.alloc (.cells #[.int .i64 x, .int .i64 y] 103)).alloc (.cells #[.int .i64 x, .int .i64 y] 85)).alloc (.cells #[.int .i64 x, .int .i64 y] 85)) (w.heap.size + 1) #[.int .i64 x, .int .i64 y] 85) := (Blk.made_eq (by simp)).alloc _
  go_enter Try.func72, Try.ntmps72
  go_wp2
  refine bodyPost_ret (results_cell_row Try.results72 _ _ (w.heap.size + 1) _ _ (0, 0) _ rfl HK.out Try.underlying85 rfl (by kernel_rfl)) rfl ?_
  exact ⟨rfl, HB.out⟩
set_option maxRecDepth 200000 in
set_option maxHeartbeats 1000000 in
theorem toSpanS_cap (a : Option Addr) (len cap : Nat) (ps : Sp) (F : List Nat) (w : World) (h : RdP w a len ps F) (hlen : len ≤ 1048576) :
    Calls Try.prog 38 #[.slice a len cap] w fun e w' => NewPc w ps e w' := by
  obtain ⟨i0, hi, hz0, hz1, hz2⟩ := info_parts infoSpan
  have HL : Hid (ps.length = len) := h.length
  rcases h.cells with ⟨rfl, _, rfl⟩ | ⟨b, off, hp, rfl, _, hc⟩
  · clear h
    go_enter Try.func38, Try.ntmps38
    go_wp2_with (at_make; refine wpList_make_full _ rfl _ _ 31 rfl w.heap.size 85 i0 (.agg #[.int .i64 0, .int .i64 0]) 2 Try.underlying31 hi hz0 hz1 .i64 .i64 _ _ 0 rfl rfl (by simp) (by simp) (by omega) (by unfold maxLen; omega) (Nat.le_refl _) ?_; intro w1 hown hgrow)
    refine wp_loop_rounds 1 ?_
    rw [rounds_succ]
    go_wp2
    go_ret
    exact ⟨_, 0, 0, [], rfl, RdP.nil, Own.nil, (Below.refl _ _).grown hgrow (Nat.le_refl _) (fun k hk => by cases hk), (fun e => by cases e), Nat.le_refl _⟩
  · have HB : Hid (b < w.heap.size ∧ ∀ i, i < len → w.cell? ⟨b, off + i * 2, none⟩ = some (.int .i64 (ps[i]?.getD (0, 0)).1) ∧ w.cell? ⟨b, off + i * 2 + 1, none⟩ = some (.int .i64 (ps[i]?.getD (0, 0)).2)) := ⟨World.block_lt_of_cell? _ _ (hc 0 hp).1, hc⟩
    clear h hc
    go_enter Try.func38, Try.ntmps38
    go_wp2_with (at_make; refine wpList_make_full _ rfl _ _ 31 rfl w.heap.size 85 i0 (.agg #[.int .i64 0, .int .i64 0]) 2 Try.underlying31 hi hz0 hz1 .i64 .i64 _ _ len rfl rfl rfl rfl (by rw [hz2]; omega) (by unfold maxLen; omega) (Nat.le_refl _) ?_; intro w1 hown hgrow)
    have HM : Hid (Blk w1 w.heap.size (tcv (halfP ps 0 len)) 85 ∧ Below w.heap.size w w1) := by
      refine ⟨?_, (Below.refl _ _).grown hgrow (Nat.le_refl _) (fun k hk => by cases hk)⟩
      have e := own_blk hown hp
      rw [halfP_zero]
      have e2 : (madeCells (Value.agg #[Value.int IntKind.i64 0, Value.int IntKind.i64 0]).cells (len * 2)).toList.toArray = tcv (List.replicate (2 * len) 0) := made_flat len
      rw [← e2]
      exact e
    clear hown hgrow
    go_loopw [4] (fun i wr => ∃ k : Nat, k ≤ len ∧ i = .int .i64 k ∧ Hid (Blk wr w.heap.size (tcv (halfP ps k len)) 85 ∧ Below w.heap.size w wr)) (fun i _ => len - (intOf i).toNat)
    case atStart => exact ⟨0, by omega, rfl, HM⟩
    case round =>
      clear HM
      obtain ⟨k, hk, rfl, HM⟩ := hrel
      by_cases hlt : k < len
      · obtain ⟨x, hx⟩ : ∃ x, x = (ps[k]?.getD (0, 0)).1 := ⟨_, rfl⟩
        obtain ⟨y, hy⟩ : ∃ y, y = (ps[k]?.getD (0, 0)).2 := ⟨_, rfl⟩
        have e := HB.out.2 k hlt
        rw [← hx, ← hy] at e
        have d1 : wr.cell? ⟨b, off + k * 2, none⟩ = some (.int .i64 x) := (HM.out.2.cell (by exact HB.out.1)).trans e.1
        have d2 : wr.cell? ⟨b, off + k * 2 + 1, none⟩ = some (.int .i64 y) := (HM.out.2.cell (by exact HB.out.1)).trans e.2
        have HX : Hid (x = (ps[k]?.getD (0, 0)).1 ∧ y = (ps[k]?.getD (0, 0)).2) := ⟨hx, hy⟩
        clear e hx hy
        go_wp2_with fail
        refine (toSpan_any x y _).mono ?_
        rintro e w2 ⟨rfl, hb2⟩
        have hl2 := halfP_length ps k len HL.out (by omega)
        have H2 : Hid (Blk w2 w.heap.size (tcv (halfP ps k len)) 85 ∧ Below w.heap.size w w2) := ⟨HM.out.1.below hb2, Below.next HM.out.2 hb2⟩
        have g1 := H2.out.1.cell (k * 2)
        have g2 := H2.out.1.cell (k * 2 + 1)
        rw [tcv_get (by omega)] at g1 g2
        have f1 := H2.out.1.frozen (k * 2)
        have f2 := H2.out.1.frozen (k * 2 + 1)
        have R : Hid (Blk ((w2.setCell ⟨w.heap.size, k * 2, none⟩ (.int .i64 x)).setCell ⟨w.heap.size, k * 2 + 1, none⟩ (.int .i64 y)) w.heap.size (tcv (halfP ps (k + 1) len)) 85 ∧ Below w.heap.size w ((w2.setCell ⟨w.heap.size, k * 2, none⟩ (.int .i64 x)).setCell ⟨w.heap.size, k * 2 + 1, none⟩ (.int .i64 y))) := by
          refine ⟨?_, (H2.out.2.setCell (Nat.le_refl _) _).setCell (Nat.le_refl _) _⟩
          have := (H2.out.1.set (k * 2) (.int .i64 x)).set (k * 2 + 1) (.int .i64 y)
          rw [tcv_set, tcv_set, HX.out.1, HX.out.2, halfP_step ps k len HL.out hlt] at this
          rw [HX.out.1, HX.out.2]
          exact this
        clear hb2 HM H2 hl2
        go_wp2
        go_roundw
        case rel => exact ⟨k + 1, by omega, by go_num, R⟩
        case measure => simp [intOf]; omega
      · obtain rfl : k = len := by omega
        go_wp2
        go_ret
        have e := HM.out.1
        rw [halfP_end ps k HL.out] at e
        have hl := flat_length ps
        exact ⟨_, k, k, [w.heap.size], rfl, ⟨HL.out, rdI_tcv e (by rw [flat_length, HL.out]) (by omega)⟩, ⟨by simp, fun b hb o => by simp at hb; subst hb; exact e.frozen o, by simp⟩, HM.out.2, (fun e => by cases e), Nat.le_refl _⟩
set_option maxRecDepth 200000 in
theorem toSpanS_any (a : Option Addr) (len cap : Nat) (ps : Sp) (F : List Nat) (w : World) (h : RdP w a len ps F) (hlen : len ≤ 1048576) :
    Calls Try.prog 38 #[.slice a len cap] w fun e w' => NewP w ps e w' := (toSpanS_cap a len cap ps F w h hlen).mono (fun _ _ h => h.p)
end Go.Proofs.Ytbmbmnhamogghap
/- The walks through the helpers of the laws over slices of spans: weighing, comparing, marking, looking whether the marks stand. No statement of the seat is proved here. -/
namespace Go.Proofs.Ytbmbmnhamogghap
open Go.RowKit
set_option maxRecDepth 200000 in
/-- What a weighing tells: below 0 where there was too much; else what is left. -/
theorem szSpanS_vast (a : Option Addr) (len cap : Nat) (left : Int) (w : World) (hlen : len ≤ 9223372036854775807) (hl0 : 0 ≤ left) (hl1 : left ≤ 1048576) :
    Calls Try.prog 33 #[.slice a len cap, .int .i64 left] w fun e w' => (∃ r, e = .returned (.int .i64 r) ∧ r ≤ left ∧ (0 ≤ r → r = left - len) ∧ (r < 0 → left < len)) ∧ w' = w := by
  obtain ⟨m, hm⟩ : ∃ m : Int, m = (len : Int) := ⟨_, rfl⟩
  have hm0 : 0 ≤ m := by omega
  have hm1 : m ≤ 9223372036854775807 := by omega
  have HM : Hid (m = (len : Int)) := hm
  by_cases h : left < (len : Int)
  · go_enter Try.func33, Try.ntmps33
    go_wp2
    go_ret
    exact ⟨⟨-1, rfl, by omega, by omega, by omega⟩, rfl⟩
  · go_enter Try.func33, Try.ntmps33
    go_wp2
    go_ret
    exact ⟨⟨left - len, rfl, by omega, by omega, by omega⟩, rfl⟩
theorem eqP_step {xs ys : Sp} {k : Nat} (hl : xs.length = ys.length) (hk : k < xs.length) (h : xs.take k = ys.take k) (he : xs[k]?.getD (0, 0) = ys[k]?.getD (0, 0)) : xs.take (k + 1) = ys.take (k + 1) := by
  rw [takeP_succ xs k hk, takeP_succ ys k (by omega), h, he]
theorem neP_of_at {xs ys : Sp} {k : Nat} (he : ¬ xs[k]?.getD (0, 0) = ys[k]?.getD (0, 0)) : decide (xs = ys) = false := by
  rw [decide_eq_false_iff_not]; intro e; subst e; exact he rfl
theorem eqP_end {xs ys : Sp} {k : Nat} (hx : xs.length = k) (hy : ys.length = k) (h : xs.take k = ys.take k) : decide (xs = ys) = true := by
  rw [decide_eq_true_iff]
  rw [List.take_of_length_le (Nat.le_of_eq hx), List.take_of_length_le (Nat.le_of_eq hy)] at h
  exact h
set_option maxRecDepth 200000 in
set_option maxHeartbeats 400000 in
theorem eqSpan_any (x y x' y' : Int) (w : World) : Calls Try.prog 78 #[.agg #[.int .i64 x, .int .i64 y], .agg #[.int .i64 x', .int .i64 y']] w fun e w' => e = .returned (.bool (decide (x = x' ∧ y = y'))) ∧ Below w.heap.size w w' := by
  have HB : Hid (Below w.heap.size w ((w.alloc (.cells #[.int .i64 x, .int .i64 y] 85)).alloc (.cells #[.int .i64 x', .int .i64 y'] 85))) := Below.allocW _ (Below.allocW _ (Below.refl _ _) (Nat.le_refl _)) (Nat.le_refl _)
  by_cases h1 : x = x'
  · by_cases h2 : y = y'
    · have e1 : (x != x') = false := by simp [h1]
      have e2 : (y != y') = false := by simp [h2]
      have HV : Hid (decide (x = x' ∧ y = y') = true) := decide_eq_true ⟨h1, h2⟩
      clear h1 h2
      go_enter Try.func78, Try.ntmps78
      go_wp2
      go_ret
      exact ⟨ret_bool HV.out.symm, HB.out⟩
    · have e1 : (x != x') = false := by simp [h1]
      have e2 : (y != y') = true := by simp [h2]
      have HV : Hid (decide (x = x' ∧ y = y') = false) := decide_eq_false (fun e => h2 e.2)
      clear h1 h2
      go_enter Try.func78, Try.ntmps78
      go_wp2
      go_ret
      exact ⟨ret_bool HV.out.symm, HB.out⟩
  · have e1 : (x != x') = true := by simp [h1]
    have HV : Hid (decide (x = x' ∧ y = y') = false) := decide_eq_false (fun e => h1 e.1)
    clear h1
    go_enter Try.func78, Try.ntmps78
    go_wp2
    go_ret
    exact ⟨ret_bool HV.out.symm, HB.out⟩
/-- Two spans lie in memory. -/
def TwoAt (b1 p1 b2 p2 : Nat) (x y x' y' : Int) (W : World) : Prop := (W.cell? ⟨b1, p1, none⟩ = some (.int .i64 x) ∧ W.cell? ⟨b1, p1 + 1, none⟩ = some (.int .i64 y)) ∧ W.cell? ⟨b2, p2, none⟩ = some (.int .i64 x') ∧ W.cell? ⟨b2, p2 + 1, none⟩ = some (.int .i64 y')
theorem TwoAt.below {b1 p1 b2 p2 : Nat} {x y x' y' : Int} {W W' : World} (h : TwoAt b1 p1 b2 p2 x y x' y' W) (hb : Below W.heap.size W W') : TwoAt b1 p1 b2 p2 x y x' y' W' :=
  ⟨⟨(hb.cell (World.block_lt_of_cell? _ _ h.1.1)).trans h.1.1, (hb.cell (World.block_lt_of_cell? _ _ h.1.2)).trans h.1.2⟩, (hb.cell (World.block_lt_of_cell? _ _ h.2.1)).trans h.2.1, (hb.cell (World.block_lt_of_cell? _ _ h.2.2)).trans h.2.2⟩
set_option maxRecDepth 200000 in
set_option maxHeartbeats 1000000 in
theorem eqSpanS_any (a b : Option Addr) (la lb ca cb : Nat) (xs ys : Sp) (F G : List Nat) (w : World) (ha : RdP w a la xs F) (hb : RdP w b lb ys G) (hla : la ≤ 140737488355328) (hlb : lb ≤ 140737488355328) :
    Calls Try.prog 41 #[.slice a la ca, .slice b lb cb] w fun e w' => e = .returned (.bool (decide (xs = ys))) ∧ Below w.heap.size w w' := by
  have Hx : Hid (xs.length = la) := ha.length
  have Hy : Hid (ys.length = lb) := hb.length
  by_cases hl : la = lb
  · subst hl
    have hbne : ((la : Int) != (la : Int)) = false := by simp
    rcases ha.cells with ⟨rfl, _, ex⟩ | ⟨b1, o1, hp, rfl, _, hc1⟩
    · have ey : ys = [] := List.eq_nil_of_length_eq_zero hb.length
      clear ha hb
      go_enter Try.func41, Try.ntmps41
      go_wp2
      refine wp_loop_rounds 1 ?_
      rw [rounds_succ]
      go_wp2
      go_ret
      exact ⟨ret_bool (by rw [ex, ey]; rfl), Below.refl _ _⟩
    · rcases hb.cells with ⟨h0, _⟩ | ⟨b2, o2, _, rfl, _, hc2⟩
      · omega
      have HC : Hid (∀ k, k < la → TwoAt b1 (o1 + k * 2) b2 (o2 + k * 2) (xs[k]?.getD (0, 0)).1 (xs[k]?.getD (0, 0)).2 (ys[k]?.getD (0, 0)).1 (ys[k]?.getD (0, 0)).2 w) := fun k hk => ⟨hc1 k hk, hc2 k hk⟩
      clear ha hb hc1 hc2
      go_enter Try.func41, Try.ntmps41
      go_wp2
      go_loopw [5] (fun i wr => ∃ k : Nat, k ≤ la ∧ i = .int .i64 k ∧ Hid (xs.take k = ys.take k ∧ Below w.heap.size w wr)) (fun i _ => la - (intOf i).toNat)
      case atStart => exact ⟨0, by omega, rfl, rfl, Below.refl _ _⟩
      case round =>
        obtain ⟨k, hk, rfl, HT⟩ := hrel
        by_cases hlt : k < la
        · obtain ⟨x, hx⟩ : ∃ x, x = (xs[k]?.getD (0, 0)).1 := ⟨_, rfl⟩
          obtain ⟨y, hy⟩ : ∃ x, x = (xs[k]?.getD (0, 0)).2 := ⟨_, rfl⟩
          obtain ⟨x', hx'⟩ : ∃ x, x = (ys[k]?.getD (0, 0)).1 := ⟨_, rfl⟩
          obtain ⟨y', hy'⟩ : ∃ x, x = (ys[k]?.getD (0, 0)).2 := ⟨_, rfl⟩
          have HE : Hid ((x = x' ∧ y = y') ↔ xs[k]?.getD (0, 0) = ys[k]?.getD (0, 0)) := by rw [hx, hy, hx', hy']; exact Prod.ext_iff.symm
          have HS : Hid (TwoAt b1 (o1 + k * 2) b2 (o2 + k * 2) x y x' y' wr.drew) := by rw [hx, hy, hx', hy']; exact (HC.out k hlt).below HT.out.2.drew
          clear hx hy hx' hy'
          go_wp2
          refine wp_region_held (S := TwoAt b1 (o1 + k * 2) b2 (o2 + k * 2) x y x' y') (by kernel_rfl) ?_
          change wpAnyH _ _ _ _ _ _ _ _ (World.drew _)
          refine takeH (o := ?o1) 0 (.slice (some ⟨b1, o1, none⟩) la ca) ?h1 ?r1
          case h1 => simp only [List.getElem?_toArray, List.getElem?_cons_zero]; rfl
          refine ⟨_, by simp [Act.put]; rfl, by kernel_rfl, by kernel_rfl, by kernel_rfl, fun _ _ _ h => h, (.inl ⟨rfl, fun W _ => by go_simp⟩), HS.out, ?_⟩
          refine takeH (o := ?o2) 1 (.int .i64 k) ?h2 ?r2
          case h2 => simp only [List.getElem?_toArray, List.getElem?_cons_succ, List.getElem?_cons_zero]; rfl
          refine ⟨_, by simp [Act.put]; rfl, by kernel_rfl, by kernel_rfl, by kernel_rfl, fun _ _ _ h => h, (.inl ⟨rfl, fun W _ => by go_simp⟩), HS.out, ?_⟩
          refine takeH (o := ?o3) 2 (.pointer (some ⟨b1, o1 + k * 2, none⟩)) ?h3 ?r3
          case h3 => simp only [List.getElem?_toArray, List.getElem?_cons_succ, List.getElem?_cons_zero]; rfl
          refine ⟨_, by simp [Act.put]; rfl, by kernel_rfl, by kernel_rfl, by kernel_rfl, fun _ _ _ h => h, (.inl ⟨rfl, fun W _ => by go_simp⟩), HS.out, ?_⟩
          refine takeH (o := ?o4) 3 (.agg #[.int .i64 x, .int .i64 y]) ?h4 ?r4
          case h4 => simp only [List.getElem?_toArray, List.getElem?_cons_succ, List.getElem?_cons_zero]; rfl
          refine ⟨_, by simp [Act.put]; rfl, by kernel_rfl, by kernel_rfl, by kernel_rfl, fun _ _ _ h => h, (.inl ⟨rfl, fun W hW => by have c1 := hW.1.1; have c2 := hW.1.2; go_simp⟩), HS.out, ?_⟩
          refine takeH (o := ?o5) 4 (.slice (some ⟨b2, o2, none⟩) la cb) ?h5 ?r5
          case h5 => simp only [List.getElem?_toArray, List.getElem?_cons_succ, List.getElem?_cons_zero]; rfl
          refine ⟨_, by simp [Act.put]; rfl, by kernel_rfl, by kernel_rfl, by kernel_rfl, fun _ _ _ h => h, (.inl ⟨rfl, fun W _ => by go_simp⟩), HS.out, ?_⟩
          refine takeH (o := ?o6) 5 (.int .i64 k) ?h6 ?r6
          case h6 => simp only [List.getElem?_toArray, List.getElem?_cons_succ, List.getElem?_cons_zero]; rfl
          refine ⟨_, by simp [Act.put]; rfl, by kernel_rfl, by kernel_rfl, by kernel_rfl, fun _ _ _ h => h, (.inl ⟨rfl, fun W _ => by go_simp⟩), HS.out, ?_⟩
          refine takeH (o := ?o7) 6 (.pointer (some ⟨b2, o2 + k * 2, none⟩)) ?h7 ?r7
          case h7 => simp only [List.getElem?_toArray, List.getElem?_cons_succ, List.getElem?_cons_zero]; rfl
          refine ⟨_, by simp [Act.put]; rfl, by kernel_rfl, by kernel_rfl, by kernel_rfl, fun _ _ _ h => h, (.inl ⟨rfl, fun W _ => by go_simp⟩), HS.out, ?_⟩
          refine takeH (o := ?o8) 7 (.agg #[.int .i64 x', .int .i64 y']) ?h8 ?r8
          case h8 => simp only [List.getElem?_toArray, List.getElem?_cons_succ, List.getElem?_cons_zero]; rfl
          refine ⟨_, by simp [Act.put]; rfl, by kernel_rfl, by kernel_rfl, by kernel_rfl, fun _ _ _ h => h, (.inl ⟨rfl, fun W hW => by have c1 := hW.2.1; have c2 := hW.2.2; go_simp⟩), HS.out, ?_⟩
          refine onlyH (o := ?o9) 8 (by kernel_rfl) ?h9 ?r9
          case h9 => simp only [List.getElem?_toArray, List.getElem?_cons_succ, List.getElem?_cons_zero]; rfl
          intro K hK
          obtain ⟨d, hd⟩ : ∃ d, d = decide (x = x' ∧ y = y') := ⟨_, rfl⟩
          refine op_call2 78 _ _ _ Try.f78 (fun w' => Below wr.drew.heap.size wr.drew w') (.bool d) rfl rfl Try.func78 (by kernel_rfl) (by kernel_rfl) (by rw [hd]; exact eqSpan_any x y x' y' wr.drew) ⟨_, by simp [Act.put]; rfl, ?_⟩
          intro w3 b3
          refine hK _ _ ⟨HS.out.below b3, ?_⟩
          have H3 : Hid (Below w.heap.size w w3) := Below.next HT.out.2.drew b3
          have HS : Hid (TwoAt b1 (o1 + k * 2) b2 (o2 + k * 2) x y x' y' w3) := HS.out.below b3
          have HD : Hid (d = decide (x = x' ∧ y = y')) := hd
          clear hK b3 hd
          refine takeH (o := ?o10) 9 (.bool !d) ?h10 ?r10
          case h10 => simp only [List.getElem?_toArray, List.getElem?_cons_succ, List.getElem?_cons_zero]; rfl
          refine ⟨_, by simp [Act.put]; rfl, by kernel_rfl, by kernel_rfl, by kernel_rfl, fun _ _ _ h => h, (.inl ⟨rfl, fun W _ => by go_simp⟩), HS.out, ?_⟩
          refine wpAnyH_done (by kernel_rfl) ?_ _
          cases d
          · have HV : Hid (decide (xs = ys) = false) := neP_of_at (fun e => by have := HD.out.symm; rw [decide_eq_false_iff_not] at this; exact this (HE.out.2 e))
            go_wp2
            go_ret
            exact ⟨ret_bool HV.out.symm, H3.out⟩
          · have HV : Hid (xs.take (k + 1) = ys.take (k + 1) ∧ Below w.heap.size w w3) := ⟨eqP_step (by rw [Hx.out, Hy.out]) (by rw [Hx.out]; exact hlt) HT.out.1 (HE.out.1 (of_decide_eq_true HD.out.symm)), H3.out⟩
            go_wp2
            go_roundw
            case rel => exact ⟨k + 1, by omega, by go_num, HV⟩
            case measure => simp [intOf]; omega
        · obtain rfl : k = la := by omega
          go_wp2
          go_ret
          exact ⟨ret_bool (eqP_end Hx.out Hy.out HT.out.1).symm, HT.out.2⟩
  · have hbne : ((la : Int) != (lb : Int)) = true := by simp; omega
    have e : decide (xs = ys) = false := by
      rw [decide_eq_false_iff_not]; intro e; subst e; exact hl (Hx.out.symm.trans Hy.out)
    clear ha hb
    go_enter Try.func41, Try.ntmps41
    go_wp2
    go_ret
    exact ⟨ret_bool e.symm, Below.refl _ _⟩
theorem MarkingI.step2 {B : Nat} {w wr : World} {b off len : Nat} {k : Int} {zs : List Int} {j : Nat} (h : MarkingI B w (some ⟨b, off, none⟩) (2 * len) k zs (2 * j) [b] wr) (hl : zs.length = 2 * len) (hj : j < len) :
    MarkingI B w (some ⟨b, off, none⟩) (2 * len) k zs (2 * (j + 1)) [b] ((wr.setCell ⟨b, off + j * 2, none⟩ (.int .i64 (k + 2 * j))).setCell ⟨b, off + j * 2 + 1, none⟩ (.int .i64 (k + 2 * j + 1))) := by
  have h1 := h.step hl (by omega)
  have h2 := h1.step hl (by omega)
  rw [show off + (2 * j + 1) = off + j * 2 + 1 by omega, show off + 2 * j = off + j * 2 by omega] at h2
  rw [show k + ((2 * j : Nat) : Int) = k + 2 * (j : Int) by omega, show k + ((2 * j + 1 : Nat) : Int) = k + 2 * (j : Int) + 1 by omega] at h2
  exact h2
/-- The marks that a slice of spans bears. -/
structure MarkedP (B : Nat) (w : World) (a : Option Addr) (len : Nat) (k : Int) (F : List Nat) (w' : World) : Prop where
  rd : RdI w' a (2 * len) (marksI k (2 * len)) F
  own : Own B w' F
  only : Only F w w'
set_option maxRecDepth 200000 in
set_option maxHeartbeats 400000 in
theorem markSpanS_any (B : Nat) (a : Option Addr) (len cap : Nat) (zs : List Int) (F : List Nat) (k : Int) (w : World) (h : RdI w a (2 * len) zs F) (ho : Own B w F) (hk0 : 0 ≤ k) (hk1 : k + 2 * len ≤ 1000000000000) :
    Calls Try.prog 51 #[.slice a len cap, .int .i64 k] w fun e w' => e = .returned (.int .i64 (k + 2 * len)) ∧ MarkedP B w a len k F w' := by
  have HL : Hid (zs.length = 2 * len) := h.length
  rcases h.cells with ⟨h0, hF⟩ | ⟨b, off, hp, rfl, hF, hc⟩
  · obtain rfl : len = 0 := by omega
    subst hF
    clear h
    go_enter Try.func51, Try.ntmps51
    go_wp2
    refine wp_loop_rounds 1 ?_
    rw [rounds_succ]
    go_wp2
    go_ret
    exact ⟨ret_int (by simp), ⟨⟨rfl, .inl ⟨rfl, rfl⟩⟩, ho, Only.refl _ _⟩⟩
  · subst hF
    have HM : Hid (MarkingI B w (some ⟨b, off, none⟩) (2 * len) k zs (2 * 0) [b] w) := ⟨by simpa [markedI, marksI] using h, ho, Only.refl _ _⟩
    clear h ho hc
    go_enter Try.func51, Try.ntmps51
    go_wp2
    go_loopw [1, 5] (fun q i wr => ∃ j : Nat, j ≤ len ∧ i = .int .i64 j ∧ q = .int .i64 (k + 2 * j) ∧ Hid (MarkingI B w (some ⟨b, off, none⟩) (2 * len) k zs (2 * j) [b] wr)) (fun _ i _ => len - (intOf i).toNat)
    case atStart => exact ⟨0, by omega, rfl, by go_num, HM⟩
    case round =>
      obtain ⟨j, hj, rfl, rfl, HMj⟩ := hrel
      by_cases hlt : j < len
      · have hcell : ∃ v u, wr.cell? ⟨b, off + j * 2, none⟩ = some v ∧ wr.cell? ⟨b, off + j * 2 + 1, none⟩ = some u := by
          rcases HMj.out.rd.cells with ⟨h0, _⟩ | ⟨b', off', _, he, _, hc⟩
          · omega
          · obtain ⟨rfl, rfl⟩ : b = b' ∧ off = off' := by simpa using he
            have c1 := hc (2 * j) (by omega)
            have c2 := hc (2 * j + 1) (by omega)
            rw [show off + 2 * j = off + j * 2 by omega] at c1
            rw [show off + (2 * j + 1) = off + j * 2 + 1 by omega] at c2
            exact ⟨_, _, c1, c2⟩
        obtain ⟨v0, u0, hcg, hcg2⟩ := hcell
        have hcf := HMj.out.own.free b (by simp) (off + j * 2)
        have hcf2 := HMj.out.own.free b (by simp) (off + j * 2 + 1)
        have R : Hid (MarkingI B w (some ⟨b, off, none⟩) (2 * len) k zs (2 * (j + 1)) [b] ((wr.setCell ⟨b, off + j * 2, none⟩ (.int .i64 (k + 2 * j))).setCell ⟨b, off + j * 2 + 1, none⟩ (.int .i64 (k + 2 * j + 1)))) := HMj.out.step2 HL.out hlt
        clear HMj
        go_wp2
        go_roundw
        case rel => exact ⟨j + 1, by omega, by go_num, by go_num, R⟩
        case measure => simp [intOf]; omega
      · obtain rfl : j = len := by omega
        go_wp2
        go_ret
        exact ⟨rfl, by have := HMj.out.rd; rw [markedI_end k (2 * j) zs HL.out] at this; exact this, HMj.out.own, HMj.out.only⟩
set_option maxRecDepth 200000 in
set_option maxHeartbeats 400000 in
theorem heldSpanS_any (a : Option Addr) (len cap : Nat) (F : List Nat) (k : Int) (w : World) (h : RdI w a (2 * len) (marksI k (2 * len)) F) (hk0 : 0 ≤ k) (hk1 : k + 2 * len ≤ 1000000000000) :
    Calls Try.prog 52 #[.slice a len cap, .int .i64 k] w fun e w' => e = .returned (.int .i64 (k + 2 * len)) ∧ Below w.heap.size w w' := by
  rcases h.cells with ⟨h0, hF⟩ | ⟨b, off, hp, rfl, hF, hc⟩
  · obtain rfl : len = 0 := by omega
    clear h
    go_enter Try.func52, Try.ntmps52
    go_wp2
    refine wp_loop_rounds 1 ?_
    rw [rounds_succ]
    go_wp2
    go_ret
    exact ⟨ret_int (by simp), Below.refl _ _⟩
  · have HC : Hid (∀ j, j < len → w.cell? ⟨b, off + j * 2, none⟩ = some (.int .i64 (k + 2 * j)) ∧ w.cell? ⟨b, off + j * 2 + 1, none⟩ = some (.int .i64 (k + 2 * j + 1))) := fun j hj => by
      have c1 := hc (2 * j) (by omega)
      have c2 := hc (2 * j + 1) (by omega)
      rw [marksI_getD k _ _ (by omega)] at c1 c2
      rw [show off + 2 * j = off + j * 2 by omega, show k + ((2 * j : Nat) : Int) = k + 2 * (j : Int) by omega] at c1
      rw [show off + (2 * j + 1) = off + j * 2 + 1 by omega, show k + ((2 * j + 1 : Nat) : Int) = k + 2 * (j : Int) + 1 by omega] at c2
      exact ⟨c1, c2⟩
    clear h hc
    go_enter Try.func52, Try.ntmps52
    go_wp2
    go_loopw [1, 5] (fun q i wr => ∃ j : Nat, j ≤ len ∧ i = .int .i64 j ∧ q = .int .i64 (k + 2 * j) ∧ Hid (Below w.heap.size w wr)) (fun _ i _ => len - (intOf i).toNat)
    case atStart => exact ⟨0, by omega, rfl, by go_num, Below.refl _ _⟩
    case round =>
      obtain ⟨j, hj, rfl, rfl, HB⟩ := hrel
      by_cases hlt : j < len
      · have hcj := HC.out j hlt
        obtain ⟨x, hx⟩ : ∃ x, x = k + 2 * (j : Int) := ⟨_, rfl⟩
        have d1 : wr.cell? ⟨b, off + j * 2, none⟩ = some (.int .i64 x) := by rw [hx]; exact (HB.out.cell (World.block_lt_of_cell? _ _ hcj.1)).trans hcj.1
        have d2 : wr.cell? ⟨b, off + j * 2 + 1, none⟩ = some (.int .i64 (x + 1)) := by rw [hx]; exact (HB.out.cell (World.block_lt_of_cell? _ _ hcj.2)).trans hcj.2
        have n1 : (x != x) = false := by simp
        have n2 : (x + 1 != x + 1) = false := by simp
        have b1 : 0 ≤ x := by omega
        have b2 : x ≤ 1000000000000 := by omega
        have HX : Hid (x = k + 2 * (j : Int)) := hx
        rw [← hx]
        clear hcj hx
        go_wp2
        go_roundw
        case rel => exact ⟨j + 1, by omega, by go_num, by rw [HX.out]; go_num, HB⟩
        case measure => simp [intOf]; omega
      · obtain rfl : j = len := by omega
        go_wp2
        go_ret
        exact ⟨rfl, HB.out⟩
end Go.Proofs.Ytbmbmnhamogghap
/- A slice of spans that comes in as an argument: what it holds. No statement of the seat is proved here. -/
namespace Go.Proofs.Ytbmbmnhamogghap
open Go.RowKit Go.WideShapes Go.ChangeShapes Go.ChangeAt Go.Deep
theorem sp_addr {w : World} {x : Addr} {v : Value} (h : w.cell? (x.add (0 * 2)) = some v) : ∃ b off, x = ⟨b, off, none⟩ := by
  obtain ⟨b, off, spot⟩ := x
  have hspot : spot = none := by simpa [Addr.add] using World.cell?_spot h
  subst hspot
  exact ⟨b, off, rfl⟩
theorem sp_add (b off i : Nat) : (⟨b, off, none⟩ : Addr).add i = ⟨b, off + i, none⟩ := by unfold Addr.add; split <;> simp_all
/-- Each number fits 64 bits. -/
def Fit64 (x : Int) : Prop := -9223372036854775808 ≤ x ∧ x ≤ 9223372036854775807
def Sp.fit (ps : Sp) : Prop := ∀ p ∈ ps, Fit64 p.1 ∧ Fit64 p.2
theorem flat_range (n : Nat) (f g : Nat → Int) : ∀ i, i < n → ((List.range n).map fun i => (f i, g i))[i]?.getD (0, 0) = (f i, g i) := fun i hi => by simp [hi]
theorem rdP_mk {W : World} {b off len : Nat} (ps : Sp) (hl : ps.length = len) (hp : 0 < len) (h : ∀ i, i < len → W.cell? ⟨b, off + i * 2, none⟩ = some (.int .i64 (ps[i]?.getD (0, 0)).1) ∧ W.cell? ⟨b, off + i * 2 + 1, none⟩ = some (.int .i64 (ps[i]?.getD (0, 0)).2)) : RdP W (some ⟨b, off, none⟩) len ps [b] := by
  refine ⟨hl, by rw [flat_length, hl], .inr ⟨b, off, by omega, rfl, rfl, fun j hj => ?_⟩⟩
  rw [List.getD_eq_getElem?_getD]
  have hj2 : j = 2 * (j / 2) ∨ j = 2 * (j / 2) + 1 := by omega
  rcases hj2 with e | e
  · rw [e, flat_lo, show off + 2 * (j / 2) = off + j / 2 * 2 by omega]
    exact (h (j / 2) (by omega)).1
  · rw [e, flat_hi, show off + (2 * (j / 2) + 1) = off + j / 2 * 2 + 1 by omega]
    exact (h (j / 2) (by omega)).2
set_option maxRecDepth 100000 in
set_option maxHeartbeats 1000000 in
theorem open_spans {H : Type} {enc : TypeId × Value → H} {W : World} {base : Nat} {v : Value} {d : DataW H} {p : List MemPlace} (hv : Value.okWide Try.prog W .any base 22 v) (h : DataW.Trod enc Try.prog W 0 (fun _ => true) true 22 v d p) :
    ∃ a len cap ps F, v = .slice a len cap ∧ RdP W a len ps F ∧ len ≤ 9223372036854775807 ∧ Sp.fit ps := by
  obtain ⟨a0, len0, cap0, rfl⟩ := okWide_slice Try.underlying22 hv
  have c3 : Try.prog.cellsOf 3 = 1 := by kernel_rfl
  have c2 : Try.prog.cellsOf 103 = 2 := by kernel_rfl
  obtain ⟨fuel, hf⟩ := h
  rcases open_slice_pairs Try.underlying22 Try.underlying103 c2 rfl rfl c3 c3 hf with ⟨q, _⟩ | ⟨x, len, cap, m, n, V0, V1, D0, D1, P0, P1, q, _, hl, hm, hmm, _, hx⟩
  · simp [Value.cells] at q
    obtain ⟨rfl, rfl, rfl⟩ := q
    exact ⟨none, 0, 0, [], [], rfl, RdP.nil, by omega, by simp [Sp.fit]⟩
  · simp [Value.cells] at q
    obtain ⟨rfl, rfl, rfl⟩ := q
    have hm2 : m = cap0 := by rw [hmm]; simp
    subst hm2
    have hb : len0 ≤ 9223372036854775807 := by unfold maxLen at hm; omega
    have ints : ∀ i, i < m → ∃ y z : Int, V0 i = .int .i64 y ∧ V1 i = .int .i64 z ∧ (Lit.int .i64 y).wf = true ∧ (Lit.int .i64 z).wf = true := fun i hi => by
      obtain ⟨_, _, h3, h4⟩ := hx i hi
      obtain ⟨y, q0, _, w0⟩ := DataW.trod_int Try.underlying3 h3
      obtain ⟨z, q1, _, w1⟩ := DataW.trod_int Try.underlying3 h4
      simp at q0 q1
      exact ⟨y, z, q0, q1, w0, w1⟩
    have hN : ∀ i, i < m → V0 i = .int .i64 (intOf (V0 i)) ∧ V1 i = .int .i64 (intOf (V1 i)) ∧ Fit64 (intOf (V0 i)) ∧ Fit64 (intOf (V1 i)) := fun i hi => by
      obtain ⟨y, z, e0, e1, w0, w1⟩ := ints i hi
      rw [e0, e1]
      exact ⟨rfl, rfl, int_wf w0, int_wf w1⟩
    by_cases h0 : len0 = 0
    · subst h0
      exact ⟨_, 0, _, [], [], rfl, RdP.nil, by omega, by simp [Sp.fit]⟩
    · obtain ⟨b, off, rfl⟩ := sp_addr (hx 0 (by omega)).1
      refine ⟨_, len0, m, (List.range len0).map fun i => (intOf (V0 i), intOf (V1 i)), [b], rfl, rdP_mk _ (by simp) (by omega) (fun i hi => ?_), hb, fun p hp => ?_⟩
      · rw [flat_range len0 _ _ i hi]
        have h1 := (hx i (by omega)).1
        have h2 := (hx i (by omega)).2.1
        rw [sp_add] at h1 h2
        rw [(hN i (by omega)).1] at h1
        rw [(hN i (by omega)).2.1] at h2
        exact ⟨h1, by rw [show off + i * 2 + 1 = off + (i * 2 + 1) by omega]; exact h2⟩
      · obtain ⟨i, hi, rfl⟩ := List.mem_map.1 hp
        have hi' : i < m := by have := List.mem_range.1 hi; omega
        exact ⟨(hN i hi').2.2.1, (hN i hi').2.2.2⟩
theorem sp_laidOut : laidOutB Try.prog = true := by kernel_rfl
end Go.Proofs.Ytbmbmnhamogghap
/- A part of a whole struct, out of memory and into it. No statement of the seat is proved here. -/
namespace Go.Proofs.Ytbmbmnhamogghap
open Go.RowKit
/-- The cells of a part; what a part that is stored leaves. -/
def cutOf (cs : Array Value) (off n : Nat) : Array Value := ((cs.toList.drop off).take n).toArray
def cutIn (cs : Array Value) (off : Nat) (ds : Array Value) : Array Value := (cs.toList.take off ++ ds.toList ++ cs.toList.drop (off + ds.size)).toArray
section
variable {P : Program} {ops : Array Oper} {Q : Exit → Act → World → Prop} {rest : List Oper} {a : Act} {w : World} {x y : Operand} {o : Oper}
theorem run_loadVar_cut (w : World) (g off n : Nat) (t ty : TypeId) (cs : Array Value) (d : TypeDesc) (hg : Blk w g cs t) (hu : P.underlying ty = some d) (hd : (match d with | .struct _ | .array _ _ => true | _ => false) = true) (hi : (P.info? ty).map (·.size) = some n) (hfit : off + n ≤ cs.size) :
    (loadVar ty ⟨g, off, none⟩).run P w = .ok (.agg (cutOf cs off n)) w := by
  have hlen : ((cs.toList.drop off).take n).length = n := by simp; omega
  have hl := run_loadCells_list (P := P) w ⟨g, off, none⟩ ((cs.toList.drop off).take n) (fun j v hv => by
      have hadd : (⟨g, off, none⟩ : Addr).add j = ⟨g, off + j, none⟩ := by unfold Addr.add; split <;> simp_all
      have hj : j < n := by rw [← hlen]; exact (List.getElem?_eq_some_iff.1 hv).1
      rw [hadd, hg.cell]
      rw [List.getElem?_take, if_pos hj, List.getElem?_drop] at hv
      simpa using hv)
  rw [hlen] at hl
  cases hq : P.info? ty with
  | none => simp [hq] at hi
  | some i =>
    have hs : i.size = n := by simpa [hq] using hi
    have hagg : (isAgg ty).run P w = .ok true w := by
      unfold isAgg
      rw [Sem.run_bind, run_underlying hu w]
      cases d <;> simp_all
    simp only [loadVar, Sem.run_bind, hagg, sizeOf, typeInfo, Result.andThen_ok, if_true]
    simp [cutOf, hq, hs, hl]
theorem load_cut (ty : TypeId) (g off n : Nat) (cs ds : Array Value) (t : TypeId) (d : TypeDesc) (hg : Blk w g cs t) (hgd : o.guard = none) (ho : o.op = .load ty x) (hx : a.eval x = .pointer (some ⟨g, off, none⟩))
    (hu : P.underlying ty = some d) (hd : (match d with | .struct _ | .array _ _ => true | _ => false) = true) (hi : (P.info? ty).map (·.size) = some n) (hfit : off + n ≤ cs.size) (hds : cutOf cs off n = ds)
    (h : wpList P ops Q rest (a.put o.dst (.agg ds)) w) : Stop (wpList P ops Q (o :: rest) a w) := by
  subst hds
  refine wpList_plain hgd fun K hK => ?_
  unfold Oper.wp execOp
  simp only [ho, hx, Instr.loadAt, Instr.sureAddr, Sem.run_bind, Sem.run_pure, Result.andThen_ok, run_loadVar_cut w g off n t ty cs d hg hu hd hi hfit]
  exact hK _ _ h
theorem load_cutw (ty : TypeId) (g off n : Nat) (cs ds : Array Value) (t : TypeId) (d : TypeDesc) (hg : Blk w g cs t) (hw : Region.wanted o (yielded ops a.tmps) = true) (ho : o.op = .load ty x) (hx : a.eval x = .pointer (some ⟨g, off, none⟩))
    (hu : P.underlying ty = some d) (hd : (match d with | .struct _ | .array _ _ => true | _ => false) = true) (hi : (P.info? ty).map (·.size) = some n) (hfit : off + n ≤ cs.size) (hds : cutOf cs off n = ds)
    (h : wpList P ops Q rest (a.put o.dst (.agg ds)) w) : Stop (wpList P ops Q (o :: rest) a w) := by
  subst hds
  refine wpList_step fun K hK => ?_
  rw [if_pos hw]
  unfold Oper.wp execOp
  simp only [ho, hx, Instr.loadAt, Instr.sureAddr, Sem.run_bind, Sem.run_pure, Result.andThen_ok, run_loadVar_cut w g off n t ty cs d hg hu hd hi hfit]
  exact hK _ _ h
theorem run_storeVar_cut (w : World) (g off : Nat) (t ty : TypeId) (cs ds : Array Value) (hg : Blk w g cs t) (hi : (P.info? ty).map (·.size) = some ds.size) (hfit : off + ds.size ≤ cs.size) (h1 : ds.all (·.oneCell') = true) :
    (storeVar ty ⟨g, off, none⟩ (.agg ds)).run P w = .ok () (w.setRow g (cutIn cs off ds)) := by
  have := run_storeCells_at P g off t ds.toList 0 cs w hg (by simpa using hfit) (fun v hv => (Array.all_eq_true_iff_forall_mem.1 h1) v (by simpa using hv))
  cases hq : P.info? ty with
  | none => simp [hq] at hi
  | some i =>
    have hs : i.size = ds.size := by simpa [hq] using hi
    simp [storeVar, Value.cells, sizeOf, typeInfo, hq, hs, this, cutIn]
theorem store_cut (ty : TypeId) (g off : Nat) (cs ds es : Array Value) (t : TypeId) (hg : Blk w g cs t) (hgd : o.guard = none) (ho : o.op = .store ty x y) (hx : a.eval x = .pointer (some ⟨g, off, none⟩)) (hy : a.eval y = .agg ds)
    (hi : (P.info? ty).map (·.size) = some ds.size) (hfit : off + ds.size ≤ cs.size) (h1 : ds.all (·.oneCell') = true) (hes : cutIn cs off ds = es)
    (h : wpList P ops Q rest (a.put o.dst undef) (w.setRow g es)) : Stop (wpList P ops Q (o :: rest) a w) := by
  subst hes
  refine wpList_plain hgd fun K hK => ?_
  unfold Oper.wp execOp
  simp only [ho, hx, hy, Instr.storeAt, Instr.sureAddr, Sem.run_bind, Sem.run_pure, Result.andThen_ok, run_storeVar_cut w g off t ty cs ds hg hi hfit h1]
  exact hK _ _ h
variable {S : World → Prop}
/-- A part of a struct that nobody in the region writes. -/
theorem yields_cut (ty : TypeId) (g off n : Nat) (cs ds : Array Value) (t : TypeId) (d : TypeDesc) (hw : Region.wanted o (yielded ops a.tmps) = true) (ho : o.op = .load ty x) (hx : a.eval x = .pointer (some ⟨g, off, none⟩)) (hu : P.underlying ty = some d) (hd : (match d with | .struct _ | .array _ _ => true | _ => false) = true)
    (hi : (P.info? ty).map (·.size) = some n) (hfit : off + n ≤ cs.size) (hds : cutOf cs off n = ds) (hS : ∀ W, S W → Blk W g cs t) : YieldsIf P ops S o (.agg ds) a :=
  .inl ⟨hw, fun W hW => by
    subst hds
    unfold execOp
    simp only [ho, hx, Instr.loadAt, Instr.sureAddr, Sem.run_bind, Sem.run_pure, Result.andThen_ok, run_loadVar_cut W g off n t ty cs d (hS W hW) hu hd hi hfit]⟩
end
end Go.Proofs.Ytbmbmnhamogghap
/- Items and entries, as plain data. No statement of the seat is proved here. -/
namespace Go.Proofs.Ytbmbmnhamogghap
open Go.RowKit
structure It where
  seq : Int
  cls : Int
  key : Int
  window : Int
  sk : Sk
  deriving DecidableEq
structure En where
  key : Int
  window : Int
  ids : Sp
  sk : Sk
  deriving DecidableEq
/-- An item's value that can be read. -/
def RdIt (w : World) (v : Value) (x : It) (F : List Nat) : Prop :=
  ∃ a1 n1 c1 a2 n2 c2 a3 n3 c3, v = .agg #[.int .i64 x.seq, .int .i64 x.cls, .int .i64 x.key, .int .i64 x.window, .int .i64 x.sk.count, .int .i64 x.sk.sum, .int .i64 x.sk.min, .int .i64 x.sk.max, .slice a1 n1 c1, .slice a2 n2 c2, .slice a3 n3 c3] ∧
    RdSk w (.agg #[.int .i64 x.sk.count, .int .i64 x.sk.sum, .int .i64 x.sk.min, .int .i64 x.sk.max, .slice a1 n1 c1, .slice a2 n2 c2, .slice a3 n3 c3]) x.sk F
/-- An entry's value that can be read; F: its numbers' block, G: its summary's. -/
def RdEn (w : World) (v : Value) (e : En) (F G : List Nat) : Prop :=
  ∃ b l c a1 n1 c1 a2 n2 c2 a3 n3 c3, v = .agg #[.int .i64 e.key, .int .i64 e.window, .slice b l c, .int .i64 e.sk.count, .int .i64 e.sk.sum, .int .i64 e.sk.min, .int .i64 e.sk.max, .slice a1 n1 c1, .slice a2 n2 c2, .slice a3 n3 c3] ∧
    RdP w b l e.ids F ∧ RdSk w (.agg #[.int .i64 e.sk.count, .int .i64 e.sk.sum, .int .i64 e.sk.min, .int .i64 e.sk.max, .slice a1 n1 c1, .slice a2 n2 c2, .slice a3 n3 c3]) e.sk G ∧ Capd b l c
theorem RdIt.agree {w w' : World} {v : Value} {x : It} {F : List Nat} (h : RdIt w v x F) (ha : Agree w w' F) : RdIt w' v x F := by
  obtain ⟨a1, n1, c1, a2, n2, c2, a3, n3, c3, hv, hr⟩ := h
  exact ⟨a1, n1, c1, a2, n2, c2, a3, n3, c3, hv, hr.agree ha⟩
theorem RdIt.lt {w : World} {v : Value} {x : It} {F : List Nat} (h : RdIt w v x F) : ∀ b ∈ F, b < w.heap.size := by
  obtain ⟨a1, n1, c1, a2, n2, c2, a3, n3, c3, hv, hr⟩ := h
  exact hr.lt
theorem RdIt.below {w w' : World} {v : Value} {x : It} {F : List Nat} (h : RdIt w v x F) (hb : Below w.heap.size w w') : RdIt w' v x F := h.agree (.below hb h.lt)
theorem RdEn.agree {w w' : World} {v : Value} {e : En} {F G : List Nat} (h : RdEn w v e F G) (ha : Agree w w' F) (hg : Agree w w' G) : RdEn w' v e F G := by
  obtain ⟨b, l, c, a1, n1, c1, a2, n2, c2, a3, n3, c3, hv, hp, hr, hcp⟩ := h
  exact ⟨b, l, c, a1, n1, c1, a2, n2, c2, a3, n3, c3, hv, hp.agree ha, hr.agree hg, hcp⟩
theorem RdEn.lt1 {w : World} {v : Value} {e : En} {F G : List Nat} (h : RdEn w v e F G) : ∀ b ∈ F, b < w.heap.size := by
  obtain ⟨b, l, c, a1, n1, c1, a2, n2, c2, a3, n3, c3, hv, hp, hr, _⟩ := h
  exact hp.lt
theorem RdEn.lt2 {w : World} {v : Value} {e : En} {F G : List Nat} (h : RdEn w v e F G) : ∀ b ∈ G, b < w.heap.size := by
  obtain ⟨b, l, c, a1, n1, c1, a2, n2, c2, a3, n3, c3, hv, hp, hr, _⟩ := h
  exact hr.lt
theorem RdEn.below {w w' : World} {v : Value} {e : En} {F G : List Nat} (h : RdEn w v e F G) (hb : Below w.heap.size w w') : RdEn w' v e F G := h.agree (.below hb h.lt1) (.below hb h.lt2)
def NewIt (w : World) (x : It) (e : Ending) (w' : World) : Prop := ∃ v F, e = .returned v ∧ RdIt w' v x F ∧ Own w.heap.size w' F ∧ Below w.heap.size w w'
def NewEn (w : World) (x : En) (e : Ending) (w' : World) : Prop := ∃ v F G, e = .returned v ∧ RdEn w' v x F G ∧ Own w.heap.size w' F ∧ Own w.heap.size w' G ∧ (∀ b ∈ F, b ∉ G) ∧ Below w.heap.size w w'
def NewEn2 (w : World) (x : En) (d : Bool) (e : Ending) (w' : World) : Prop := ∃ v F G, e = .returned (.tuple #[v, .bool d]) ∧ RdEn w' v x F G ∧ Own w.heap.size w' F ∧ Own w.heap.size w' G ∧ (∀ b ∈ F, b ∉ G) ∧ Below w.heap.size w w'
theorem It.eq_of {x y : It} (h1 : x.seq = y.seq) (h2 : x.cls = y.cls) (h3 : x.key = y.key) (h4 : x.window = y.window) (h5 : x.sk = y.sk) : x = y := by
  cases x; cases y; simp_all
theorem En.eq_of {x y : En} (h1 : x.key = y.key) (h2 : x.window = y.window) (h3 : x.ids = y.ids) (h4 : x.sk = y.sk) : x = y := by
  cases x; cases y; simp_all
end Go.Proofs.Ytbmbmnhamogghap
