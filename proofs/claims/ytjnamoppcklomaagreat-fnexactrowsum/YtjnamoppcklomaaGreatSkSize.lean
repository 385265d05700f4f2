/- What a summary that comes in weighs, however long its lists are. No statement of the seat is proved here. -/
import Derived.Test.YtjnamoppcklomaaGreatSk
namespace Go.Proofs.YtjnamoppcklomaaGreat
open Go.RowKit
/-- Each list is no longer than a length can say. -/
structure Sk.vast (s : Sk) : Prop where
  hist : s.hist.length ≤ 9223372036854775807
  regs : s.regs.length ≤ 9223372036854775807
  rows : s.rows.length ≤ 9223372036854775807
  row : ∀ z ∈ s.rows, z.length ≤ 9223372036854775807
set_option maxRecDepth 200000 in
theorem szIntS_vast (a : Option Addr) (len cap : Nat) (left : Int) (w : World) (hlen : len ≤ 9223372036854775807) (hl0 : 0 ≤ left) (hl1 : left ≤ 1048576) :
    Calls Tryz.prog 158 #[.slice a len cap, .int .i64 left] w fun e w' => Weighed left len e ∧ w' = w := by
  by_cases h : left < (len : Int)
  · go_enter Tryz.func158, Tryz.ntmps158
    go_wp2
    go_ret
    exact ⟨⟨-1, rfl, by omega, by omega, by omega⟩, rfl⟩
  · go_enter Tryz.func158, Tryz.ntmps158
    go_wp2
    go_ret
    exact ⟨⟨left - len, rfl, by omega, by omega, by omega⟩, rfl⟩
set_option maxRecDepth 200000 in
set_option maxHeartbeats 1000000 in
theorem szIntSS_vast (a : Option Addr) (len cap : Nat) (zss : List (List Int)) (F : List Nat) (left : Int) (w : World) (h : RdII w a len zss F) (hlen : len ≤ 9223372036854775807) (hrow : ∀ z ∈ zss, z.length ≤ 9223372036854775807) (hl0 : 0 ≤ left) (hl1 : left ≤ 1048576) :
    Calls Tryz.prog 159 #[.slice a len cap, .int .i64 left] w fun e w' => Weighed left (len + sumLen zss) e ∧ w' = w := by
  have HL : Hid (zss.length = len) := h.length
  have HRow : Hid (∀ zs ∈ zss, zs.length ≤ 9223372036854775807) := hrow
  have hs0 := sumLen_nonneg zss
  clear hrow
  by_cases hbig : left < (len : Int)
  · clear h
    have HS : Hid (0 ≤ sumLen zss) := hs0
    clear hs0
    go_enter Tryz.func159, Tryz.ntmps159
    go_wp2
    go_ret
    have := HS.out
    exact ⟨⟨-1, rfl, by omega, by omega, by omega⟩, rfl⟩
  · rcases h.cells with ⟨h0, _⟩ | ⟨b, off, F', hp, rfl, _, hm⟩
    · subst h0
      have hz : zss = [] := List.eq_nil_of_length_eq_zero h.length
      subst hz
      clear h hs0
      go_enter Tryz.func159, Tryz.ntmps159
      go_wp2
      refine wp_loop_rounds 1 ?_
      rw [rounds_succ]
      go_wp2
      go_ret
      exact ⟨⟨left, ret_int (by simp), by omega, by simp [sumLen], by omega⟩, rfl⟩
    · have HM : Hid (RdM w (zss.map ints) b off F') := hm
      have HS : Hid (0 ≤ sumLen zss) := hs0
      have hsub0 : 0 ≤ left - (len : Int) := by omega
      clear h hm hs0
      go_enter Tryz.func159, Tryz.ntmps159
      go_wp2
      go_loop [1, 5] (fun s i => ∃ (k : Nat) (y : Int), k ≤ len ∧ 0 ≤ y ∧ y ≤ 1048576 ∧ i = .int .i64 k ∧ s = .int .i64 y ∧ Hid (y = left - len - sumLen (zss.take k))) (fun _ i => len - (intOf i).toNat)
      case atStart => exact ⟨0, _, by omega, hsub0, by omega, rfl, rfl, show _ = _ by simp [sumLen]⟩
      case round =>
        obtain ⟨k, y, hk, hy0, hy1, rfl, rfl, HY⟩ := hrel
        by_cases hlt : k < len
        · obtain ⟨a1, n1, c1, G1, hc1, hr1, _⟩ := RdII.row HM.out HL.out k hlt
          have hn1 : n1 ≤ 9223372036854775807 := by rw [← hr1.length]; exact HRow.out _ (mem_getD (by rw [HL.out]; exact hlt))
          have HN : Hid ((zss.getD k []).length = n1) := hr1.length
          clear hr1
          go_wp2_with fail
          refine (szIntS_vast a1 n1 c1 y _ hn1 hy0 hy1).mono ?_
          rintro e w1 ⟨⟨r, rfl, hr1, hr2, hr3⟩, hw1⟩
          have hw1' := hw1.symm
          subst hw1'
          clear hw1
          have hsn := sumLen_snoc zss k (by rw [HL.out]; exact hlt)
          have hle := sumLen_le zss (k + 1)
          have HF : Hid (sumLen (zss.take (k + 1)) = sumLen (zss.take k) + (n1 : Int) ∧ sumLen (zss.take (k + 1)) ≤ sumLen zss) := ⟨by rw [hsn, HN.out], hle⟩
          have HR : Hid (r ≤ y ∧ (0 ≤ r → r = y - n1) ∧ (r < 0 → y < n1)) := ⟨hr1, hr2, hr3⟩
          clear hsn hle hr1 hr2 hr3
          by_cases hneg : r < 0
          · go_wp2
            go_ret
            have h1 := HY.out; have h2 := HF.out; have h3 := HR.out
            exact ⟨⟨-1, rfl, by omega, by omega, by omega⟩, rfl⟩
          · have hr0 : 0 ≤ r := by omega
            go_wp2
            go_round
            case rel => exact ⟨k + 1, r, by omega, hr0, by have := HR.out; omega, by go_num, rfl, show r = _ by have h1 := HY.out; have h2 := HF.out; have h3 := HR.out; omega⟩
            case measure => simp [intOf]; omega
        · obtain rfl : k = len := by omega
          go_wp2
          go_ret
          have h1 := HY.out
          rw [List.take_of_length_le (Nat.le_of_eq HL.out)] at h1
          have h2 := HS.out
          exact ⟨⟨y, rfl, by omega, by omega, by omega⟩, rfl⟩
set_option maxRecDepth 200000 in
theorem szSketch_vast (v : Value) (s : Sk) (F : List Nat) (left : Int) (w : World) (h : RdSk w v s F) (hw : s.vast) (hl0 : 0 ≤ left) (hl1 : left ≤ 1048576) :
    Calls Tryz.prog 134 #[v, .int .i64 left] w fun e w' => Weighed left s.size e ∧ Below w.heap.size w w' := by
  obtain ⟨a1, n1, c1, a2, n2, c2, a3, n3, c3, F1, F2, F3, rfl, h1, h2, h3, _⟩ := h
  have e1 := h1.length
  have e2 := h2.length
  have e3 := h3.length
  have hn1 : n1 ≤ 9223372036854775807 := by rw [← e1]; exact hw.hist
  have hn2 : n2 ≤ 9223372036854775807 := by rw [← e2]; exact hw.regs
  have hn3 : n3 ≤ 9223372036854775807 := by rw [← e3]; exact hw.rows
  have HW : Hid (∀ z ∈ s.rows, z.length ≤ 9223372036854775807) := hw.row
  have HSz : Hid (s.size = n1 + n2 + (n3 + sumLen s.rows) ∧ 0 ≤ sumLen s.rows) := by
    have h0 := sumLen_nonneg s.rows
    exact ⟨by unfold Sk.size; omega, h0⟩
  have H3 : Hid (RdII w a3 n3 s.rows F3) := h3
  clear h1 h2 h3 hw e1 e2 e3
  go_enter Tryz.func134, Tryz.ntmps134
  go_wp2_with fail
  refine (szIntS_vast a1 n1 c1 left _ hn1 hl0 hl1).mono ?_
  rintro e w1 ⟨⟨r1, rfl, ra, rb, rc⟩, hw1⟩
  have hw1' := hw1.symm
  subst hw1'
  clear hw1
  have HR1 : Hid (r1 ≤ left ∧ (0 ≤ r1 → r1 = left - n1) ∧ (r1 < 0 → left < n1)) := ⟨ra, rb, rc⟩
  clear ra rb rc
  by_cases q1 : r1 < 0
  · go_wp2
    go_ret
    have x1 := HR1.out; have x2 := HSz.out
    exact ⟨⟨-1, rfl, by omega, by omega, by omega⟩, (Below.refl _ _).alloc (Nat.le_refl _) _⟩
  have p1 : 0 ≤ r1 := by omega
  have u1 : r1 ≤ 1048576 := by have := HR1.out; omega
  go_wp2_with fail
  refine (szIntS_vast a2 n2 c2 r1 _ hn2 p1 u1).mono ?_
  rintro e w1 ⟨⟨r2, rfl, ra, rb, rc⟩, hw1⟩
  have hw1' := hw1.symm
  subst hw1'
  clear hw1
  have HR2 : Hid (r2 ≤ r1 ∧ (0 ≤ r2 → r2 = r1 - n2) ∧ (r2 < 0 → r1 < n2)) := ⟨ra, rb, rc⟩
  clear ra rb rc
  by_cases q2 : r2 < 0
  · go_wp2
    go_ret
    have x1 := HR1.out; have x2 := HSz.out; have x3 := HR2.out
    exact ⟨⟨-1, rfl, by omega, by omega, by omega⟩, (Below.refl _ _).alloc (Nat.le_refl _) _⟩
  have p2 : 0 ≤ r2 := by omega
  have u2 : r2 ≤ 1048576 := by have := HR2.out; omega
  go_wp2_with fail
  refine (szIntSS_vast a3 n3 c3 s.rows F3 r2 _ (H3.out.below ((Below.refl _ _).alloc (Nat.le_refl _) _)) hn3 HW.out p2 u2).mono ?_
  rintro e w1 ⟨⟨r3, rfl, ra, rb, rc⟩, hw1⟩
  have hw1' := hw1.symm
  subst hw1'
  clear hw1
  have HR3 : Hid (r3 ≤ r2 ∧ (0 ≤ r3 → r3 = r2 - (n3 + sumLen s.rows)) ∧ (r3 < 0 → r2 < n3 + sumLen s.rows)) := ⟨ra, rb, rc⟩
  clear ra rb rc
  by_cases q3 : r3 < 0
  · go_wp2
    go_ret
    have x1 := HR1.out; have x2 := HSz.out; have x3 := HR2.out; have x4 := HR3.out
    exact ⟨⟨-1, rfl, by omega, by omega, by omega⟩, (Below.refl _ _).alloc (Nat.le_refl _) _⟩
  go_wp2
  go_ret
  have x1 := HR1.out; have x2 := HSz.out; have x3 := HR2.out; have x4 := HR3.out
  exact ⟨⟨r3, rfl, by omega, by omega, by omega⟩, (Below.refl _ _).alloc (Nat.le_refl _) _⟩
end Go.Proofs.YtjnamoppcklomaaGreat
