/- Several texts of mine, laid together. No statement of the seat is proved here. -/
import Derived.Test.YtgkbhhlkaifnoaaGreatDoorB3
import Derived.Test.YtgkbhhlkaifnoaaGreatDoorB5
import Derived.Laws.StructEq
/- Sets as texts: the mathematics. No statement of the seat is proved here. -/
namespace Go.Proofs.YtgkbhhlkaifnoaaGreatDoor
open Go.RowKit Go.Sort
def itB (n : Int) : ByteArray := ⟨(Lib.itoa n).toArray⟩
theorem dig_21 (m : Nat) (h : m ≤ 9223372036854775808) : (dig m []).length ≤ 20 := by
  have := dig_small 20 m [] (by have : (10 : Nat) ^ 20 = 100000000000000000000 := by decide
                                omega)
  simpa using this
theorem itoa_len (n : Int) (h0 : -9223372036854775808 ≤ n) (h1 : n ≤ 9223372036854775807) : (Lib.itoa n).length ≤ 21 := by
  by_cases h : 0 < n
  · rw [← itoa_pos n h]
    have := dig_21 n.toNat (by omega)
    omega
  · by_cases h2 : n < 0
    · rw [← itoa_neg n h2]
      have := dig_21 (-n).toNat (by omega)
      simp only [List.length_cons]
      omega
    · obtain rfl : n = 0 := by omega
      rw [Lib.itoa, if_neg (by omega), show (0 : Int).toNat = 0 from rfl, Lib.decDigits_one (i := 0) (by omega)]
      simp
def In64 (n : Int) : Prop := -9223372036854775808 ≤ n ∧ n ≤ 9223372036854775807
theorem itB_size {n : Int} (h : In64 n) : (itB n).size ≤ 21 := by
  unfold itB
  rw [size_list]
  exact itoa_len n h.1 h.2
/-- A span as a text. -/
def spB (p : Int × Int) : ByteArray := if p.1 = p.2 then itB p.1 else itB p.1 ++ ⟨#[45]⟩ ++ itB p.2
theorem size1 (c : UInt8) : (⟨#[c]⟩ : ByteArray).size = 1 := rfl
theorem spB_size {p : Int × Int} (h1 : In64 p.1) (h2 : In64 p.2) : (spB p).size ≤ 43 := by
  have e1 := itB_size h1
  have e2 := itB_size h2
  unfold spB
  split
  · omega
  · rw [ByteArray.size_append, ByteArray.size_append, size1]
    omega
def joinB (bs : List ByteArray) : ByteArray := ⟨(Lib.join (bs.map (·.data.toList)) [44]).toArray⟩
theorem tail_len : ∀ (r : List (List UInt8)), (∀ y ∈ r, y.length ≤ 43) → (Lib.joinTail [44] r).length ≤ 44 * r.length
  | [], _ => by simp [Lib.joinTail]
  | y :: r, h => by
    have e := tail_len r (fun z hz => h z (by simp [hz]))
    have e2 := h y (by simp)
    simp only [Lib.joinTail, List.map_cons, List.flatten_cons, List.length_append, List.length_cons, List.length_nil] at e ⊢
    omega
theorem join_len (xs : List (List UInt8)) (h : ∀ y ∈ xs, y.length ≤ 43) : (Lib.join xs [44]).length ≤ 44 * xs.length := by
  cases xs with
  | nil => simp [Lib.join_nil]
  | cons x r =>
    rw [Lib.join_cons, List.length_append]
    have e := tail_len r (fun z hz => h z (by simp [hz]))
    have e2 := h x (by simp)
    simp only [List.length_cons]
    omega
/-- A set as a text. -/
def Sp.texts (ps : Sp) : List ByteArray := ps.map spB
def Sp.text (ps : Sp) : ByteArray := joinB ps.texts
def Sp.in64 (ps : Sp) : Prop := ∀ p ∈ ps, In64 p.1 ∧ In64 p.2
theorem texts_len {ps : Sp} (h : ps.in64) : ∀ y ∈ ps.texts.map (·.data.toList), y.length ≤ 43 := by
  intro y hy
  obtain ⟨b, hb, rfl⟩ := List.mem_map.1 hy
  obtain ⟨p, hp, rfl⟩ := List.mem_map.1 hb
  have e : (spB p).data.size ≤ 43 := spB_size (h p hp).1 (h p hp).2
  rw [Array.length_toList]
  exact e
end Go.Proofs.YtgkbhhlkaifnoaaGreatDoor
/- The walks through SetText, of the model and of the program. No statement of the seat is proved here. -/
namespace Go.Proofs.YtgkbhhlkaifnoaaGreatDoor
open Go.RowKit Go.Sort
abbrev TabAt (w : World) : Prop := Lib.TabIs Tryz.prog w "internal/strconv.uint64pow10" .u64 Lib.pow10Tab
set_option maxRecDepth 200000 in
theorem digImplB (n : Int) (s : ByteArray) (hs : s = itB n) (w : World) (h : In64 n) (ht : TabAt w) : Calls Tryz.prog 74 #[.int .i64 n] w fun e w' => e = .returned (.string s) ∧ Below w.heap.size w w' := by
  subst hs
  exact digImpl_any n w h.1 h.2 ht
theorem addB (a b c : ByteArray) (hc : c = a ++ b) (h : a.size + b.size ≤ 1000000000) : ∀ wx : World, (Op.stringOp .add a b).run Tryz.prog wx = .ok (.string c) wx := fun wx => by
  subst hc
  exact run_string_add_sum (P := Tryz.prog) wx a b (by omega)
end Go.Proofs.YtgkbhhlkaifnoaaGreatDoor
/- The walks through the program's SetText. No statement of the seat is proved here. -/
namespace Go.Proofs.YtgkbhhlkaifnoaaGreatDoor
open Go.RowKit Go.Sort
set_option maxRecDepth 100000 in
set_option maxHeartbeats 4000000 in
theorem spanText_any (x y : Int) (w : World) (hx : In64 x) (hy : In64 y) {GT : Nat} (gT : Tryz.prog.globalNamed "internal/strconv.uint64pow10" = some GT) (ht : TabAt w) :
    Calls Tryz.prog 39 #[.agg #[.int .i64 x, .int .i64 y]] w fun e w' => e = .returned (.string (spB (x, y))) ∧ Below w.heap.size w w' := by
  obtain ⟨wb, hwb⟩ : ∃ W, W = w.alloc (.cells #[.int .i64 x, .int .i64 y] 62) := ⟨_, rfl⟩
  have HW : Hid (Below w.heap.size w wb ∧ Blk wb w.heap.size #[.int .i64 x, .int .i64 y] 62) := by rw [hwb]; exact ⟨Below.allocW _ (Below.refl _ _) (Nat.le_refl _), Blk.made _ _ _⟩
  have HI : Hid (In64 x ∧ In64 y) := ⟨hx, hy⟩
  have HTB : Hid (∀ W, Below wb.heap.size wb W → TabAt W) := fun W hW => tab_below gT (tab_below gT ht HW.out.1) hW
  have HKE : Hid (∀ W, Below wb.heap.size wb W → Below wb.heap.size wb W ∧ W.cell? ⟨w.heap.size, 0, none⟩ = some (.int .i64 x) ∧ W.cell? ⟨w.heap.size, 1, none⟩ = some (.int .i64 y)) := fun W hW => ⟨hW, (HW.out.2.below hW).cell 0, (HW.out.2.below hW).cell 1⟩
  have HWB : Hid (wb = w.alloc (.cells #[.int .i64 x, .int .i64 y] 62)) := hwb
  obtain ⟨sx, hsx⟩ : ∃ s, s = itB x := ⟨_, rfl⟩
  obtain ⟨sy, hsy⟩ : ∃ s, s = itB y := ⟨_, rfl⟩
  have HS : Hid ((sx = itB x ∧ sx.size ≤ 21) ∧ sy = itB y ∧ sy.size ≤ 21) := ⟨⟨hsx, by rw [hsx]; exact itB_size hx⟩, hsy, by rw [hsy]; exact itB_size hy⟩
  have b0 : wb.cell? ⟨w.heap.size, 0, none⟩ = some (.int .i64 x) := HW.out.2.cell 0
  have b1 : wb.cell? ⟨w.heap.size, 1, none⟩ = some (.int .i64 y) := HW.out.2.cell 1
  have HD : Hid (Below wb.heap.size wb wb.drew) := (Below.refl _ _).drew
  clear gT ht hwb hsx hsy hx hy
  go_enter Tryz.func39, Tryz.ntmps39
  by_cases hxy : y = x
  · have e2 : (y == x) = true := by simp [hxy]
    have HV : Hid (spB (x, y) = sx) := by show _ = _; unfold spB; rw [if_pos hxy.symm, HS.out.1.1]
    clear hxy
    go_wp2
    rw [← HWB.out]
    go_region_held3 (fun W => Below wb.heap.size wb W ∧ W.cell? ⟨w.heap.size, 0, none⟩ = some (.int .i64 x) ∧ W.cell? ⟨w.heap.size, 1, none⟩ = some (.int .i64 y))
      ((refine HKE.out _ ?_; first | (with_reducible exact k1) | (with_reducible exact HD.out)))
      (first
        | (go_at_call 73; refine (single_any x _).mono ?_; rintro e w1 ⟨rfl, hb1⟩; have k1 : Below wb.heap.size wb w1 := (by refine Below.next ?_ hb1; exact And.left (‹Below wb.heap.size wb _ ∧ _›))))
    have K1 : Hid (Below wb.heap.size wb w1) := k1
    have c0 := (HKE.out _ K1.out).2.1
    clear k1 b0 b1 hb1
    go_wp2_with fail
    refine (digImplB x sx HS.out.1.1 _ HI.out.1 (HTB.out _ K1.out)).mono ?_
    rintro e w2 ⟨rfl, hb2⟩
    have HE : Hid (Below w.heap.size w w2) := (Below.next HW.out.1 (Below.next K1.out hb2))
    clear hb2
    go_wp2
    go_ret
    rw [HV.out]
    exact ⟨rfl, HE.out⟩
  · have e2 : (y == x) = false := by simpa using hxy
    obtain ⟨s1, hs1⟩ : ∃ c, c = sx ++ ⟨#[45]⟩ := ⟨_, rfl⟩
    have p1 := addB sx ⟨#[45]⟩ s1 hs1 (by have := HS.out.1.2; rw [size1]; omega)
    obtain ⟨s2, hs2⟩ : ∃ c, c = s1 ++ sy := ⟨_, rfl⟩
    have p2 := addB s1 sy s2 hs2 (by have := HS.out.1.2; have := HS.out.2.2; rw [hs1, ByteArray.size_append, size1]; omega)
    have HV : Hid (spB (x, y) = s2) := by show _ = _; unfold spB; rw [if_neg (fun e => hxy e.symm), hs2, hs1, HS.out.1.1, HS.out.2.1]
    clear hxy hs1 hs2
    go_wp2
    rw [← HWB.out]
    go_region_held3 (fun W => Below wb.heap.size wb W ∧ W.cell? ⟨w.heap.size, 0, none⟩ = some (.int .i64 x) ∧ W.cell? ⟨w.heap.size, 1, none⟩ = some (.int .i64 y))
      ((refine HKE.out _ ?_; first | (with_reducible exact k1) | (with_reducible exact HD.out)))
      (first
        | (go_at_call 73; refine (single_any x _).mono ?_; rintro e w1 ⟨rfl, hb1⟩; have k1 : Below wb.heap.size wb w1 := (by refine Below.next ?_ hb1; exact And.left (‹Below wb.heap.size wb _ ∧ _›))))
    have K1 : Hid (Below wb.heap.size wb w1.drew) := k1.drew
    have c0 := (HKE.out _ k1).2.1
    have c1 := (HKE.out _ k1).2.2
    clear k1 b0 b1 hb1
    go_wp2
    go_region_held3 (fun W => Below wb.heap.size wb W ∧ W.cell? ⟨w.heap.size, 0, none⟩ = some (.int .i64 x) ∧ W.cell? ⟨w.heap.size, 1, none⟩ = some (.int .i64 y))
      ((refine HKE.out _ ?_; first | (with_reducible exact k3) | (with_reducible exact k2) | (with_reducible exact K1.out)))
      (first
        | (have zz := k2; clear zz; go_at_call 74; refine (digImplB x sx HS.out.1.1 _ HI.out.1 (HTB.out _ k2)).mono ?_; rintro e w3 ⟨rfl, hb3⟩; have k3 : Below wb.heap.size wb w3 := Below.next k2 hb3)
        | (have zz := k2; clear zz; go_at_call 74; refine (digImplB y sy HS.out.2.1 _ HI.out.2 (HTB.out _ k2)).mono ?_; rintro e w3 ⟨rfl, hb3⟩; have k3 : Below wb.heap.size wb w3 := Below.next k2 hb3)
        | (go_at_call 74; refine (digImplB x sx HS.out.1.1 _ HI.out.1 (HTB.out _ K1.out)).mono ?_; rintro e w2 ⟨rfl, hb2⟩; have k2 : Below wb.heap.size wb w2 := Below.next K1.out hb2)
        | (go_at_call 74; refine (digImplB y sy HS.out.2.1 _ HI.out.2 (HTB.out _ K1.out)).mono ?_; rintro e w2 ⟨rfl, hb2⟩; have k2 : Below wb.heap.size wb w2 := Below.next K1.out hb2))
    all_goals
      have HE : Hid (Below w.heap.size w w3) := Below.next HW.out.1 k3
      clear k3 k2 hb2 hb3
      go_wp2
      go_ret
      rw [HV.out]
      exact ⟨rfl, HE.out⟩
end Go.Proofs.YtgkbhhlkaifnoaaGreatDoor
/- The walk through the program's SetText. No statement of the seat is proved here. -/
namespace Go.Proofs.YtgkbhhlkaifnoaaGreatDoor
open Go.RowKit Go.Sort
theorem infoTxt : (Tryz.prog.info? 9).map (fun i => (i.zero, i.size, i.bytes)) = some (some (.string ⟨#[]⟩), 1, 16) := by kernel_rfl
theorem cell_one (w : World) (u : Value) (t : TypeId) : ∀ (j : Nat) (x : Value), [u][j]? = some x → (w.alloc (.cells #[u] t)).cell? ((⟨w.heap.size, 0, none⟩ : Addr).add j) = some x := by
  intro j x hx
  match j, hx with
  | 0, hx =>
    obtain rfl : u = x := by simpa using hx
    simp [Addr.add]
  | j + 1, hx => simp at hx
theorem join_cells {w : World} {B e n g cap : Nat} {bs : List ByteArray} (h : w.ownsRow B e 1 (.slice (some ⟨g, 0, none⟩) n cap) n (bs.map Value.string)) : ∀ (j : Nat) x, bs[j]? = some x → w.cell? ⟨g, 0 + j, none⟩ = some (.string x) := by
  intro j x hx
  have hj : j < bs.length := (List.getElem?_eq_some_iff.1 hx).1
  have hl : bs.length = n := by simpa using h.1
  rw [Nat.zero_add, h.cellAt j (by omega), List.getElem?_map, hx]
  rfl
theorem texts_take {ps : Sp} {k : Nat} (hk : k < ps.length) : (Sp.texts (ps.take (k + 1))).map Value.string = (Sp.texts (ps.take k)).map Value.string ++ [.string (spB (ps.at k))] := by
  rw [takeP_succ ps k hk]
  simp [Sp.texts, Sp.at]
set_option maxRecDepth 100000 in
set_option maxHeartbeats 4000000 in
theorem textImplP_any (a : Option Addr) (len cap : Nat) (ps : Sp) (F : List Nat) (w : World) (h : RdP w a len ps F) (hlen : len ≤ 1048576) (h64 : ps.in64) {GT : Nat} (gT : Tryz.prog.globalNamed "internal/strconv.uint64pow10" = some GT) (ht : TabAt w) :
    Calls Tryz.prog 9 #[.slice a len cap] w fun e w' => e = .returned (.string ps.text) ∧ Below w.heap.size w w' := by
  obtain ⟨t0, hi, hz0, hz1, hz2⟩ := info_parts infoTxt
  have HL : Hid (ps.length = len) := h.length
  have H64 : Hid ps.in64 := h64
  have HC : Hid (len = 0 ∨ ∃ b off, a = some ⟨b, off, none⟩ ∧ b < w.heap.size ∧ SpCells w b off len ps) := cells_of h
  have HTAB : Hid (TabAt w ∧ Tryz.prog.globalNamed "internal/strconv.uint64pow10" = some GT) := ⟨ht, gT⟩
  clear h h64 gT ht
  go_enter Tryz.func9, Tryz.ntmps9
  go_wp2
  go_loopw [3, 8] (fun v i wr => ∃ (k : Nat), k ≤ len ∧ i = .int .i64 k ∧ Hid (wr.ownsRow w.heap.size 9 1 v k ((Sp.texts (ps.take k)).map Value.string)) ∧ Hid (Below w.heap.size w wr)) (fun _ i _ => len - (intOf i).toNat)
  case atStart => exact ⟨0, by omega, rfl, ⟨rfl, .inl ⟨rfl, rfl⟩⟩, Below.refl _ _⟩
  case round =>
    obtain ⟨k, hk, rfl, HO, HB⟩ := hrel
    by_cases hlt : k < len
    · have hca := HC.out
      rcases hca with h0 | ⟨b, off, rfl, hbw, hc⟩
      · omega
      obtain ⟨x, hx⟩ : ∃ x, x = (ps.at k).1 := ⟨_, rfl⟩
      obtain ⟨y, hy⟩ : ∃ x, x = (ps.at k).2 := ⟨_, rfl⟩
      have e := hc k hlt
      have hkl : k < ps.length := by rw [HL.out]; exact hlt
      have HXY : Hid (ps.at k = (x, y)) := by rw [hx, hy]; rfl
      rw [HXY.out] at e
      have HI : Hid (In64 x ∧ In64 y) := by have := H64.out _ (Sp.at_mem hkl); rw [HXY.out] at this; exact this
      have d1 : wr.cell? ⟨b, off + k * 2, none⟩ = some (.int .i64 x) := (HB.out.cell (by exact hbw)).trans e.1
      have d2 : wr.cell? ⟨b, off + k * 2 + 1, none⟩ = some (.int .i64 y) := (HB.out.cell (by exact hbw)).trans e.2
      have hI : (k : Int) < (len : Int) := by omega
      have HB1 : Hid (Below w.heap.size w (wr.alloc (.cells #[.int .i64 x, .int .i64 y] 62))) := Below.allocW _ HB.out (Nat.le_refl _)
      have HO1 : Hid ((wr.alloc (.cells #[.int .i64 x, .int .i64 y] 62)).ownsRow w.heap.size 9 1 u3 k ((Sp.texts (ps.take k)).map Value.string)) := HO.out.alloc _
      clear e hx hy hc
      go_wp2_with fail
      refine (spanText_any x y _ HI.out.1 HI.out.2 HTAB.out.2 (tab_below HTAB.out.2 HTAB.out.1 HB1.out)).mono ?_
      rintro e w1 ⟨rfl, hb⟩
      obtain ⟨s, hs⟩ : ∃ s, s = spB (x, y) := ⟨_, rfl⟩
      rw [← hs]
      have HS : Hid (s = spB (x, y)) := hs
      have HB2 : Hid (Below w.heap.size w w1) := Below.next HB1.out hb
      have HO2 : Hid (w1.ownsRow w.heap.size 9 1 u3 k ((Sp.texts (ps.take k)).map Value.string)) := ownsRow_below HO1.out hb
      clear hb hs d1 d2 HB HB1 HO HO1
      go_wp2_with (first | go_skip | (with_reducible refine stopAppend2 rfl ?_))
      refine Stop.intro (wpList_append_own _ rfl _ _ 75 rfl w.heap.size 9 t0 (.string ⟨#[]⟩) 1 16 Tryz.underlying75 hi hz0 hz1 hz2 rfl (by decide) _ k ((Sp.texts (ps.take k)).map Value.string) rfl (HO2.out.alloc _) ⟨w1.heap.size, 0, none⟩ 1 1 [.string s] rfl rfl (cell_one _ _ _) (by intro u hu; simp at hu; subst hu; rfl) (by unfold maxLen; omega) (by omega) (by have := HB2.out.size; simp; omega) ?_)
      intro v2 w2 hown hgrow _
      have HO3 : Hid (w2.ownsRow w.heap.size 9 1 v2 (k + 1) ((Sp.texts (ps.take (k + 1))).map Value.string)) := by
        rw [texts_take hkl, HXY.out, ← HS.out]
        exact hown
      have hal : Below w.heap.size w (w1.alloc (.cells #[.string s] 9)) := Below.allocW _ HB2.out (Nat.le_refl _)
      have HB3 : Hid (Below w.heap.size w w2) := hal.grown hgrow hal.size (fun g hg => (HO2.out.lt g hg).1)
      clear hown hgrow hal HO2 HB2
      go_wp2
      go_roundw
      case rel => exact ⟨k + 1, by omega, by go_num, HO3, HB3⟩
      case measure => simp [intOf]; omega
    · obtain rfl : k = len := by omega
      have HV : Hid (Sp.texts (ps.take k) = ps.texts) := by rw [List.take_of_length_le (by rw [HL.out]; omega)]; rfl
      have own := HO.out
      rw [HV.out] at own
      have HO2 : Hid (wr.ownsRow w.heap.size 9 1 u3 k (ps.texts.map Value.string)) := own
      have hlt2 : ps.texts.length = k := by simp [Sp.texts, HL.out]
      have HJ : Hid ((Lib.join (ps.texts.map (·.data.toList)) (⟨#[44]⟩ : ByteArray).data.toList).length ≤ 140737488355328) := by
        have := join_len _ (texts_len H64.out)
        rw [List.length_map, hlt2] at this
        show (Lib.join (ps.texts.map (·.data.toList)) [44]).length ≤ _
        omega
      rcases own.2 with ⟨rfl, h0⟩ | ⟨g, cp, cur, rfl, hg1, hg2, hg3, _⟩
      · have HE : Hid (ps.text = ⟨#[]⟩) := by
          have e : ps = [] := List.eq_nil_of_length_eq_zero (by rw [HL.out]; exact h0)
          subst e
          rfl
        clear own
        go_wp2_with fail
        refine (Tryz.strings_Join_none none 0 ⟨#[44]⟩ _).mono ?_
        rintro e w2 ⟨rfl, hw⟩
        have HB2 : Hid (Below w.heap.size w w2) := by rw [hw]; exact HB.out
        clear hw
        go_wp2
        go_ret
        rw [HE.out]
        exact ⟨rfl, HB2.out⟩
      · have HG : Hid (g < wr.heap.size ∧ k ≤ cp) := ⟨(own.lt g rfl).2, hg3⟩
        have HLL : Hid (ps.texts.length = k) := hlt2
        clear own hg1 hg2 hg3 hlt2
        go_wp2_with fail
        have hj := Tryz.strings_Join g 0 cp ps.texts ⟨#[44]⟩ wr (join_cells HO2.out) HG.out.1 (by rw [HLL.out]; omega) (by rw [HLL.out]; exact HG.out.2) HJ.out
        rw [HLL.out] at hj
        refine hj.mono ?_
        clear hj
        rintro e w2 ⟨rfl, hb⟩
        have HB2 : Hid (Below w.heap.size w w2) := Below.next HB.out hb
        obtain ⟨s, hs⟩ : ∃ s, s = (⟨(Lib.join (ps.texts.map (·.data.toList)) (⟨#[44]⟩ : ByteArray).data.toList).toArray⟩ : ByteArray) := ⟨_, rfl⟩
        rw [← hs]
        have HS : Hid (s = ps.text) := hs
        clear hb hs
        go_wp2
        go_ret
        rw [← HS.out]
        exact ⟨rfl, HB2.out⟩
end Go.Proofs.YtgkbhhlkaifnoaaGreatDoor
