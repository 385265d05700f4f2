/- The walk through the program's SetText. No statement of the seat is proved here. -/
import Derived.Test.YtjiciigaeeibgaoDoorSpTextI
namespace Go.Proofs.YtjiciigaeeibgaoDoor
open Go.RowKit Go.Sort
theorem infoTxt : (Tryd.prog.info? 9).map (fun i => (i.zero, i.size, i.bytes)) = some (some (.string ⟨#[]⟩), 1, 16) := by kernel_rfl
theorem cell_one (w : World) (u : Value) (t : TypeId) : ∀ (j : Nat) (x : Value), [u][j]? = some x → (w.alloc (.cells #[u] t)).cell? ((⟨w.heap.size, 0, none⟩ : Addr).add j) = some x := by
  intro j x hx
  match j, hx with
  | 0, hx =>
    obtain rfl : u = x := by simpa using hx
    simp [Addr.add]
  | j + 1, hx => simp at hx
theorem join_cells {w : World} {B e n g cap : Nat} {bs : List ByteArray} (h : w.ownsRow B e 1 (.slice (some ⟨g, 0, none⟩) n cap) n (bs.map Value.string)) : ∀ (j : Nat) x, bs[j]? = some x → w.cell? ⟨g, 0 + j, none⟩ = some (.string x) := by
  intro j x hx
  have hj : j < bs.length := (List.getElem?_eq_some_iff.1 hx).1
  have hl : bs.length = n := by simpa using h.1
  rw [Nat.zero_add, h.cellAt j (by omega), List.getElem?_map, hx]
  rfl
theorem texts_take {ps : Sp} {k : Nat} (hk : k < ps.length) : (Sp.texts (ps.take (k + 1))).map Value.string = (Sp.texts (ps.take k)).map Value.string ++ [.string (spB (ps.at k))] := by
  rw [takeP_succ ps k hk]
  simp [Sp.texts, Sp.at]
set_option maxRecDepth 100000 in
set_option maxHeartbeats 4000000 in
theorem textImplP_any (a : Option Addr) (len cap : Nat) (ps : Sp) (F : List Nat) (w : World) (h : RdP w a len ps F) (hlen : len ≤ 1048576) (h64 : ps.in64) {GT : Nat} (gT : Tryd.prog.globalNamed "internal/strconv.uint64pow10" = some GT) (ht : TabAt w) :
    Calls Tryd.prog 7 #[.slice a len cap] w fun e w' => e = .returned (.string ps.text) ∧ Below w.heap.size w w' := by
  obtain ⟨t0, hi, hz0, hz1, hz2⟩ := info_parts infoTxt
  have HL : Hid (ps.length = len) := h.length
  have H64 : Hid ps.in64 := h64
  have HC : Hid (len = 0 ∨ ∃ b off, a = some ⟨b, off, none⟩ ∧ b < w.heap.size ∧ SpCells w b off len ps) := cells_of h
  have HTAB : Hid (TabAt w ∧ Tryd.prog.globalNamed "internal/strconv.uint64pow10" = some GT) := ⟨ht, gT⟩
  clear h h64 gT ht
  go_enter Tryd.func7, Tryd.ntmps7
  go_wp2
  go_loopw [3, 8] (fun v i wr => ∃ (k : Nat), k ≤ len ∧ i = .int .i64 k ∧ Hid (wr.ownsRow w.heap.size 9 1 v k ((Sp.texts (ps.take k)).map Value.string)) ∧ Hid (Below w.heap.size w wr)) (fun _ i _ => len - (intOf i).toNat)
  case atStart => exact ⟨0, by omega, rfl, ⟨rfl, .inl ⟨rfl, rfl⟩⟩, Below.refl _ _⟩
  case round =>
    obtain ⟨k, hk, rfl, HO, HB⟩ := hrel
    by_cases hlt : k < len
    · have hca := HC.out
      rcases hca with h0 | ⟨b, off, rfl, hbw, hc⟩
      · omega
      obtain ⟨x, hx⟩ : ∃ x, x = (ps.at k).1 := ⟨_, rfl⟩
      obtain ⟨y, hy⟩ : ∃ x, x = (ps.at k).2 := ⟨_, rfl⟩
      have e := hc k hlt
      have hkl : k < ps.length := by rw [HL.out]; exact hlt
      have HXY : Hid (ps.at k = (x, y)) := by rw [hx, hy]; rfl
      rw [HXY.out] at e
      have HI : Hid (In64 x ∧ In64 y) := by have := H64.out _ (Sp.at_mem hkl); rw [HXY.out] at this; exact this
      have d1 : wr.cell? ⟨b, off + k * 2, none⟩ = some (.int .i64 x) := (HB.out.cell (by exact hbw)).trans e.1
      have d2 : wr.cell? ⟨b, off + k * 2 + 1, none⟩ = some (.int .i64 y) := (HB.out.cell (by exact hbw)).trans e.2
      have hI : (k : Int) < (len : Int) := by omega
      have HB1 : Hid (Below w.heap.size w (wr.alloc (.cells #[.int .i64 x, .int .i64 y] 31))) := Below.allocW _ HB.out (Nat.le_refl _)
      have HO1 : Hid ((wr.alloc (.cells #[.int .i64 x, .int .i64 y] 31)).ownsRow w.heap.size 9 1 u3 k ((Sp.texts (ps.take k)).map Value.string)) := HO.out.alloc _
      clear e hx hy hc
      go_wp2_with fail
      refine (spanText_any x y _ HI.out.1 HI.out.2 HTAB.out.2 (tab_below HTAB.out.2 HTAB.out.1 HB1.out)).mono ?_
      rintro e w1 ⟨rfl, hb⟩
      obtain ⟨s, hs⟩ : ∃ s, s = spB (x, y) := ⟨_, rfl⟩
      rw [← hs]
      have HS : Hid (s = spB (x, y)) := hs
      have HB2 : Hid (Below w.heap.size w w1) := Below.next HB1.out hb
      have HO2 : Hid (w1.ownsRow w.heap.size 9 1 u3 k ((Sp.texts (ps.take k)).map Value.string)) := ownsRow_below HO1.out hb
      clear hb hs d1 d2 HB HB1 HO HO1
      go_wp2_with (first | go_skip | (with_reducible refine stopAppend2 rfl ?_))
      refine Stop.intro (wpList_append_own _ rfl _ _ 34 rfl w.heap.size 9 t0 (.string ⟨#[]⟩) 1 16 Tryd.underlying34 hi hz0 hz1 hz2 rfl (by decide) _ k ((Sp.texts (ps.take k)).map Value.string) rfl (HO2.out.alloc _) ⟨w1.heap.size, 0, none⟩ 1 1 [.string s] rfl rfl (cell_one _ _ _) (by intro u hu; simp at hu; subst hu; rfl) (by unfold maxLen; omega) (by omega) (by have := HB2.out.size; simp; omega) ?_)
      intro v2 w2 hown hgrow _
      have HO3 : Hid (w2.ownsRow w.heap.size 9 1 v2 (k + 1) ((Sp.texts (ps.take (k + 1))).map Value.string)) := by
        rw [texts_take hkl, HXY.out, ← HS.out]
        exact hown
      have hal : Below w.heap.size w (w1.alloc (.cells #[.string s] 9)) := Below.allocW _ HB2.out (Nat.le_refl _)
      have HB3 : Hid (Below w.heap.size w w2) := hal.grown hgrow hal.size (fun g hg => (HO2.out.lt g hg).1)
      clear hown hgrow hal HO2 HB2
      go_wp2
      go_roundw
      case rel => exact ⟨k + 1, by omega, by go_num, HO3, HB3⟩
      case measure => simp [intOf]; omega
    · obtain rfl : k = len := by omega
      have HV : Hid (Sp.texts (ps.take k) = ps.texts) := by rw [List.take_of_length_le (by rw [HL.out]; omega)]; rfl
      have own := HO.out
      rw [HV.out] at own
      have HO2 : Hid (wr.ownsRow w.heap.size 9 1 u3 k (ps.texts.map Value.string)) := own
      have hlt2 : ps.texts.length = k := by simp [Sp.texts, HL.out]
      have HJ : Hid ((Lib.join (ps.texts.map (·.data.toList)) (⟨#[44]⟩ : ByteArray).data.toList).length ≤ 140737488355328) := by
        have := join_len _ (texts_len H64.out)
        rw [List.length_map, hlt2] at this
        show (Lib.join (ps.texts.map (·.data.toList)) [44]).length ≤ _
        omega
      rcases own.2 with ⟨rfl, h0⟩ | ⟨g, cp, cur, rfl, hg1, hg2, hg3, _⟩
      · have HE : Hid (ps.text = ⟨#[]⟩) := by
          have e : ps = [] := List.eq_nil_of_length_eq_zero (by rw [HL.out]; exact h0)
          subst e
          rfl
        clear own
        go_wp2_with fail
        refine (Tryd.strings_Join_none none 0 ⟨#[44]⟩ _).mono ?_
        rintro e w2 ⟨rfl, hw⟩
        have HB2 : Hid (Below w.heap.size w w2) := by rw [hw]; exact HB.out
        clear hw
        go_wp2
        go_ret
        rw [HE.out]
        exact ⟨rfl, HB2.out⟩
      · have HG : Hid (g < wr.heap.size ∧ k ≤ cp) := ⟨(own.lt g rfl).2, hg3⟩
        have HLL : Hid (ps.texts.length = k) := hlt2
        clear own hg1 hg2 hg3 hlt2
        go_wp2_with fail
        have hj := Tryd.strings_Join g 0 cp ps.texts ⟨#[44]⟩ wr (join_cells HO2.out) HG.out.1 (by rw [HLL.out]; omega) (by rw [HLL.out]; exact HG.out.2) HJ.out
        rw [HLL.out] at hj
        refine hj.mono ?_
        clear hj
        rintro e w2 ⟨rfl, hb⟩
        have HB2 : Hid (Below w.heap.size w w2) := Below.next HB.out hb
        obtain ⟨s, hs⟩ : ∃ s, s = (⟨(Lib.join (ps.texts.map (·.data.toList)) (⟨#[44]⟩ : ByteArray).data.toList).toArray⟩ : ByteArray) := ⟨_, rfl⟩
        rw [← hs]
        have HS : Hid (s = ps.text) := hs
        clear hb hs
        go_wp2
        go_ret
        rw [← HS.out]
        exact ⟨rfl, HB2.out⟩
end Go.Proofs.YtjiciigaeeibgaoDoor
