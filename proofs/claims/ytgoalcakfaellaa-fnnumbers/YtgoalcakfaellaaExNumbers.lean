/- For every byte slice (no condition): laws.FnNumbers returns true, and its argument reads afterwards as it did: numbers and texts are read as they were written, wherever they stand, and a byte that is another one turns the check sum. -/
import Derived.Test.YtgoalcakfaellaaNumParts
import Derived.Laws.AppendOwnNone
import Derived.Deep.RegionWith
import Derived.Test.YtgoalcakfaellaaRows
import Derived.WalkKit
import Derived.ProofKit
import Derived.OpenShut
import Derived.ShutString
import Derived.ChangeOld
import Derived.Below
namespace Go.Proofs.Ytgoalcakfaellaa.fnNumbers
open Go.ChangeShapes Go.WideShapes Go.ChangeAt Go.RowKit
open Go.ChangeMaps (open_string shut_string)
set_option linter.unusedVariables false

theorem own : ownKnob Try.prog.godebug = none := by kernel_rfl
theorem laidOut : laidOutB Try.prog = true := by kernel_rfl

def IsRow (k : IntKind) (w : World) (a : Option Addr) (len cap : Nat) (zs : List Int) : Prop :=
  (a = none ∧ len = 0 ∧ cap = 0 ∧ zs = []) ∨
  ∃ x, a = some x ∧ len ≤ cap ∧ cap ≤ maxLen ∧ zs.length = cap ∧ (∀ i, i < zs.length → w.cell? (x.add i) = some (.int k (zs.getD i 0))) ∧ ∀ n ∈ zs, (Lit.int k n).wf = true

theorem rd_of {w : World} {a : Option Addr} {len cap : Nat} {zs : List Int} (h : IsRow .u8 w a len cap zs) : RdB w a len (zs.take len) := by
  rcases h with ⟨rfl, rfl, rfl, rfl⟩ | ⟨x, rfl, hl, _, hz, hcell, hwz⟩
  · exact RdB.nil
  · refine ⟨by simp; omega, fun n hn => byte_wf (hwz n (List.mem_of_mem_take hn)), ?_⟩
    by_cases h0 : len = 0
    · exact .inl h0
    · obtain ⟨b, off, spot⟩ := x
      have hspot : spot = none := by simpa [Addr.add] using World.cell?_spot (hcell 0 (by omega))
      subst hspot
      refine .inr ⟨b, off, rfl, fun i hi => ?_⟩
      have := hcell i (by omega)
      rw [add_plain] at this
      simpa [List.getElem?_take, hi] using this

theorem num_range : ∀ y ∈ drawPutNumList, -9223372036854775808 ≤ y ∧ y ≤ 9223372036854775807 := by decide
theorem text_size : ∀ s ∈ drawPutTextList, s.size ≤ 9 := by decide
theorem text_pos (s : ByteArray) (h : s.size ≤ 1048576) : 0 < (textOf s).length := by
  rw [textOf_len]
  have : 0 < (encOf (s.size : Int)).length := by
    rw [encOf, if_pos ⟨by omega, by omega⟩, encN]
    split <;> simp
  omega
theorem enc_pos (n : Int) (h0 : 0 ≤ n) (h1 : n ≤ 2147483647) : 0 < (encOf n).length := by
  rw [encOf, if_pos ⟨h0, h1⟩, encN]
  split <;> simp
theorem pre_range (n : Int) : ∀ x ∈ ([7] ++ encOf n : List Int), 0 ≤ x ∧ x ≤ 255 := by
  intro x hx
  rcases List.mem_append.1 hx with h | h
  · simp at h; omega
  · exact encOf_range n x h
theorem b_range (pre : List Int) (s : ByteArray) (h : ∀ x ∈ pre, 0 ≤ x ∧ x ≤ 255) : ∀ x ∈ pre ++ textOf s, 0 ≤ x ∧ x ≤ 255 := by
  intro x hx
  rcases List.mem_append.1 hx with h' | h'
  · exact h x h'
  · exact textOf_range s x h'

set_option maxHeartbeats 2000000 in
theorem walk (a0 : Option Addr) (len0 cap0 : Nat) (z0 : List Int) (w : World) (w0 : IsRow .u8 w a0 len0 cap0 z0) :
    Calls Try.prog 3 #[.slice a0 len0 cap0] w fun e w' => e = .returned (.bool true) ∧ Below w.heap.size w w' := by
  have hR := rd_of w0
  generalize z0.take len0 = zs at hR
  clear w0
  obtain ⟨i0, hi, hz0, hz1, hz2⟩ := info_parts Try.info5
  by_cases hbig : (1048576 : Int) < (len0 : Int)
  · have hd : decide ((1048576 : Int) < (len0 : Int)) = true := by simpa using hbig
    clear hR hbig
    go_enter Try.func3, Try.ntmps3
    go_wp2_with fail
    refine (big_any _ _ _ _).mono ?_
    rintro e x1 ⟨rfl, rfl⟩
    rw [hd]
    go_wp2
    go_ret
    exact ⟨rfl, Below.refl _ _⟩
  · have hlen : len0 ≤ 1048576 := by omega
    have hd : decide ((1048576 : Int) < (len0 : Int)) = false := by simpa using hbig
    have HRc : Hid (RdB w a0 len0 zs) := hR
    clear hR hbig
    go_enter Try.func3, Try.ntmps3
    go_wp2_with fail
    refine (big_any _ _ _ _).mono ?_
    rintro e x1 ⟨rfl, hx1⟩
    have hx1' := hx1.symm
    subst hx1'
    clear hx1
    rw [hd]
    go_wp2_with fail
    refine (drawPutNum_any a0 len0 cap0 zs _ HRc.out hlen).mono ?_
    rintro e x1 ⟨⟨n, hn, rfl⟩, hb1⟩
    obtain ⟨hn0, hn1⟩ := num_range n hn
    clear hn hd
    have Rc := HRc.out.below hb1
    go_wp2_with fail
    refine (drawPutText_any a0 len0 cap0 zs _ Rc hlen).mono ?_
    rintro e x2 ⟨⟨s, hs, rfl⟩, hb2⟩
    have hs9 := text_size s hs
    have hb2 := hb1.trans (hb2.mono hb1.size)
    clear hs Rc hb1
    by_cases hin : 0 ≤ n ∧ n ≤ 2147483647
    · obtain ⟨hin0, hin1⟩ := hin
      obtain ⟨U, hU⟩ : ∃ U, U = (encOf n).length := ⟨_, rfl⟩
      have hUe := encOf_len n
      have hU0 : 0 < U := by rw [hU]; exact enc_pos n hin0 hin1
      have hU5 : U ≤ 5 := by omega
      have HU : Hid (U = (encOf n).length) := hU
      clear hUe hU
      go_wp2_with fail
      refine (putImpl_any n _ hn0 hn1).mono ?_
      rintro e x3 ⟨v3, rfl, own3, b3⟩
      rw [← HU.out] at own3
      have hb3 := hb2.trans (b3.mono hb2.size)
      obtain ⟨g3, c3, hv3, _⟩ := own_shape own3 hU0
      rw [hv3] at own3
      rw [hv3]
      have own4 := World.ownsRow_lit (base := x3.heap.size) (e := 5) (size := 1) x3 #[.int .u8 7] 1 (Nat.le_refl _) (by unfold maxLen; omega) rfl
      have own3a := own3.alloc (.cells #[.int .u8 7] 5)
      have hx3s := hb3.size
      have hb3a : Below w.heap.size w (x3.alloc (.cells #[.int .u8 7] 5)) := hb3.alloc hb3.size _
      clear hv3 b3 hb2 hb3 own3
      go_wp2_with (at_builtin; refine wpList_append_own _ rfl _ _ 22 rfl x3.heap.size 5 i0 (.int .u8 0) 1 1 Try.underlying22 hi hz0 hz1 hz2 rfl (by decide) _ _ _ rfl own4 ⟨g3, 0, none⟩ U c3 ((encOf n).map (Value.int .u8)) rfl ?o0 ?o1 ?o2 ?o3 ?o4 ?o5 ?_)
      case o0 => rw [HU.out]; simp
      case o1 => exact own3a.cells (g := g3) rfl
      case o2 => exact ints_oneCell _ _
      case o3 => unfold maxLen; omega
      case o4 => omega
      case o5 => simp
      intro v4 y4 own4b gr4 _
      have hb4 := hb3a.grown gr4 hb3a.size (fun k hk => by simp [Value.ownBlock] at hk; omega)
      have hy4 := gr4.size
      simp at hy4
      clear gr4 own4 own3a hb3a
      go_wp2_with fail
      refine (putTextImpl_any s _ (by omega)).mono ?_
      rintro e x5 ⟨v5, rfl, own5, b5⟩
      obtain ⟨T, hT⟩ : ∃ T, T = (textOf s).length := ⟨_, rfl⟩
      have hTl := textOf_len s
      have hTe := encOf_len (s.size : Int)
      have hT0 : 0 < T := by rw [hT]; exact text_pos s (by omega)
      rw [← hT] at own5 hTl
      have hT9 : T ≤ 14 := by omega
      clear hT hTl hTe
      have own4b := ownsRow_below own4b b5
      have hb5 := hb4.trans (b5.mono hb4.size)
      have hx5s := b5.size
      obtain ⟨g5, c5, hv5, _⟩ := own_shape own5 hT0
      rw [hv5] at own5
      rw [hv5]
      clear hv5 b5 hb4
      go_wp2_with (at_builtin; refine wpList_append_own _ rfl _ _ 22 rfl x3.heap.size 5 i0 (.int .u8 0) 1 1 Try.underlying22 hi hz0 hz1 hz2 rfl (by decide) _ _ _ rfl own4b ⟨g5, 0, none⟩ T c5 ((textOf s).map (Value.int .u8)) rfl ?p0 ?p1 ?p2 ?p3 ?p4 ?p5 ?_)
      case p0 => simpa using own5.1
      case p1 => exact own5.cells (g := g5) rfl
      case p2 => exact ints_oneCell _ _
      case p3 => unfold maxLen; omega
      case p4 => omega
      case p5 => omega
      intro v6 x6 own6 gr6 _
      have hb6 := hb5.grown gr6 hb5.size (fun k hk => Nat.le_trans hx3s (own4b.lt k hk).1)
      obtain ⟨B, hB⟩ : ∃ B, B = ([7] ++ encOf n) ++ textOf s := ⟨_, rfl⟩
      obtain ⟨N6, hN⟩ : ∃ N6, N6 = 1 + U + T := ⟨_, rfl⟩
      have own6 : x6.ownsRow x3.heap.size 5 1 v6 N6 (B.map (Value.int .u8)) := by rw [hB, hN]; simpa using own6
      have hBl : B.length = N6 := by simpa using own6.1
      have hBr : ∀ x ∈ B, 0 ≤ x ∧ x ≤ 255 := by rw [hB]; exact b_range ([7] ++ encOf n) s (pre_range n)
      have HT : Hid (outT (tres B (1 + (U : Int))) = .tuple #[.string s, .int .i64 (N6 : Int), .bool true]) := by
        show outT (tres B (1 + (U : Int))) = _
        have := tres_text ([7] ++ encOf n) s (by omega)
        rw [← hB] at this
        rw [show (1 + (U : Int)) = ((([7] ++ encOf n : List Int)).length : Int) by rw [HU.out]; simp; omega, this, hBl]; rfl
      have HG : Hid (out3 (res B 1) 1 = .tuple #[.int .i64 n, .int .i64 (1 + (U : Int)), .bool true]) := by
        show out3 (res B 1) 1 = _
        have := res_enc [7] (textOf s) n hin0 hin1
        rw [← hB] at this
        rw [show (1 : Int) = (([7] : List Int).length : Int) from rfl, this, HU.out]; rfl
      obtain ⟨g6, c6, hv6, hc6⟩ := own_shape own6 (by omega)
      rw [hv6] at own6
      rw [hv6]
      have HBr : Hid (∀ x ∈ B, 0 ≤ x ∧ x ≤ 255) := hBr
      have HBl : Hid (B.length = N6) := hBl
      have hpos : 0 < N6 := by omega
      have hN6 : N6 ≤ 1048576 := by omega
      clear hv6 gr6 own5 own4b hb5 hB hN hBr hBl hT0 hT9 hx5s
      -- how many bytes the model's number has
      go_wp2_with fail
      refine (putSpec_any n _ hn0 hn1).mono ?_
      rintro e x7 ⟨v7, rfl, own7, b7⟩
      rw [← HU.out] at own7
      obtain ⟨a7, c7, hv7⟩ := own_len own7
      rw [hv7]
      have own6 := ownsRow_below own6 b7
      have hbA := hb6.trans (b7.mono hb6.size)
      have R6 := RdB.of_own own6 HBr.out
      have hUI : (0 : Int) < (U : Int) := by omega
      clear own7 hv7 b7 hb6
      -- the number is read as it was
      go_wp2_with fail
      refine (getImpl_any (some ⟨g6, 0, none⟩) N6 c6 1 B _ R6 hN6 hc6 (by simp)).mono ?_
      rintro e x8 ⟨rfl, b8⟩
      rw [HG.out]
      have own6 := ownsRow_below own6 b8
      have hbA := hbA.trans (b8.mono hbA.size)
      have R6 := RdB.of_own own6 HBr.out
      have hnn : (n != n) = false := by simp
      have huu : ((1 : Int) + (U : Int) != 1 + (U : Int)) = false := by simp
      have hNN : ((N6 : Int) != (N6 : Int)) = false := by simp
      clear b8
      -- the text is read as it was
      go_wp2_with fail
      refine (textImpl_any (some ⟨g6, 0, none⟩) N6 c6 (1 + (U : Int)) B _ R6 hN6 hc6 (by simp)).mono ?_
      rintro e y9 ⟨rfl, hb9⟩
      rw [HT.out]
      have own6 := ownsRow_below own6 hb9
      have own6lt := (own6.lt g6 rfl).2
      have hbA := hbA.trans (hb9.mono hbA.size)
      have hsz9 := hbA.size
      have hlit := World.ownsRow_lit (base := y9.heap.size) (e := 5) (size := 1) y9 #[] 0 (Nat.le_refl _) (by unfold maxLen; omega) rfl
      have own6a := own6.alloc (.cells #[] 5)
      clear hb9 R6
      -- a copy of it
      go_wp2_with (at_builtin; refine wpList_append_own _ rfl _ _ 22 rfl y9.heap.size 5 i0 (.int .u8 0) 1 1 Try.underlying22 hi hz0 hz1 hz2 rfl (by decide) _ _ _ rfl hlit ⟨g6, 0, none⟩ N6 c6 (B.map (Value.int .u8)) rfl ?r0 ?r1 ?r2 ?r3 ?r4 ?r5 ?_)
      case r0 => simpa using own6.1
      case r1 => exact own6a.cells (g := g6) rfl
      case r2 => exact ints_oneCell _ _
      case r3 => unfold maxLen; omega
      case r4 => omega
      case r5 => simp
      intro v10 z10 own10 gr10 _
      have own10 : z10.ownsRow y9.heap.size 5 1 v10 N6 (B.map (Value.int .u8)) := by simpa using own10
      have own6 := own6a.kept gr10 (by right; simp [Value.ownBlock]; omega)
      have hb10 : Below w.heap.size w z10 := (hbA.alloc hsz9 _).grown gr10 (by simp; omega) (fun k hk => by simp [Value.ownBlock] at hk; omega)
      obtain ⟨g10, c10, hv10, _⟩ := own_shape own10 hpos
      rw [hv10] at own10
      rw [hv10]
      have hg10 : g6 < g10 := Nat.lt_of_lt_of_le own6lt (own10.lt g10 rfl).1
      have Hw9 : w.heap.size ≤ y9.heap.size := hsz9
      clear hlit gr10 hv10 own6a hbA hsz9
      have Rc := HRc.out.below hb10
      -- the place
      go_wp2_with fail
      refine (at0_any a0 len0 cap0 zs 3 _ Rc hlen (by omega)).mono ?_
      rintro e z10' ⟨rfl, hz10⟩
      subst hz10
      have hp := at0F_range zs len0 3 HRc.out.range
      have ht := at0F_range zs len0 4 HRc.out.range
      have HA4 : Hid (∀ wx : World, RdB wx a0 len0 zs → Calls Try.prog 12 #[.slice a0 len0 cap0, .int .i64 4] wx fun e w' => e = .returned (.int .i64 (at0F zs len0 4)) ∧ w' = wx) := fun wx hx => at0_any a0 len0 cap0 zs 4 wx hx hlen (by omega)
      generalize at0F zs len0 3 = p at hp ⊢
      generalize at0F zs len0 4 = t at ht HA4
      obtain ⟨j, hj⟩ : ∃ j : Nat, p % (N6 : Int) = (j : Int) := Int.eq_ofNat_of_zero_le (Int.emod_nonneg _ (by omega))
      have hjN : j < N6 := by have := Int.emod_lt_of_pos p (show (0 : Int) < N6 by omega); omega
      have hposI : (0 : Int) < (N6 : Int) := by omega
      have hcell : z10'.cell? ⟨g10, j, none⟩ = some (.int .u8 (B.getD j 0)) := by
        have := own10.cellAt j (by omega)
        rw [this]; simp [List.getElem?_eq_getElem (show j < B.length by rw [HBl.out]; exact hjN)]
      have hfroz := own10.frozenAt j
      have hbj := getD_range HBr.out j
      have Hp : Hid (0 ≤ p ∧ p ≤ 255) := hp
      go_wp2
      rw [hj]
      have Own10 : Hid (z10'.ownsRow y9.heap.size 5 1 (.slice (some ⟨g10, 0, none⟩) N6 c10) N6 (B.map (Value.int .u8))) := own10
      have Own6 : Hid (z10'.ownsRow x3.heap.size 5 1 (.slice (some ⟨g6, 0, none⟩) N6 c6) N6 (B.map (Value.int .u8))) := own6
      have Hb10 : Hid (Below w.heap.size w z10') := hb10
      clear hj hp own10 own6 hb10
      obtain ⟨c, hce⟩ : ∃ c, c = (B[j]?.getD 0 + (1 + t % 255)) % 256 := ⟨_, rfl⟩
      have hcr : 0 ≤ c ∧ c ≤ 255 := by omega
      have hcn : ¬ B[j]?.getD 0 = c := by omega
      have own11 := (Own10.out.stored j (.int .u8 c)).1
      rw [← List.map_set] at own11
      have hBs : ∀ x ∈ B.set j c, 0 ≤ x ∧ x ≤ 255 := by
        intro x hx
        rcases List.mem_or_eq_of_mem_set hx with h | h
        · exact HBr.out x h
        · rw [h]; exact hcr
      have R10 : RdB ((z10'.setCell ⟨g10, j, none⟩ (.int .u8 c)).drew) (some ⟨g10, 0, none⟩) N6 (B.set j c) := RdB.of_own own11.drew hBs
      have R6' : RdB ((z10'.setCell ⟨g10, j, none⟩ (.int .u8 c)).drew) (some ⟨g6, 0, none⟩) N6 B := by
        have r := (RdB.of_own Own6.out HBr.out).set (g := g10) (j := j) (by intro x hx _; cases hx; show g6 ≠ g10; omega) (.int .u8 c)
        exact ⟨r.length, r.range, r.cells⟩
      have hXY := crc_set B HBr.out j (by rw [HBl.out]; exact hjN) c hcr hcn
      have hY0 := (end_same B HBr.out).2
      have CX0 := crcImpl_any (some ⟨g10, 0, none⟩) N6 c10 (B.set j c) _ R10 hN6
      have CY0 := crcImpl_any (some ⟨g6, 0, none⟩) N6 c6 B _ R6' hN6
      generalize bits .xor .i64 (crc64 (B.set j c)) 4294967295 = X at hXY CX0
      generalize bits .xor .i64 (crc64 B) 4294967295 = Y at hXY CY0 hY0
      have hne : (X != Y) = true := by rw [bne_iff_ne]; exact hXY
      have hYp : 0 ≤ Y := hY0.1
      have HBel : Hid (Below w.heap.size w ((z10'.setCell ⟨g10, j, none⟩ (.int .u8 c)).drew)) := (Hb10.out.setCell (by have h1 := (Own10.out.lt g10 rfl).1; have h2 := Hw9; show w.heap.size ≤ g10; omega) _).drew
      rw [hce] at CX0 CY0 HBel
      have CX : Hid (Calls Try.prog 13 #[.slice (some ⟨g10, 0, none⟩) N6 c10] ((z10'.setCell ⟨g10, j, none⟩ (.int .u8 ((B[j]?.getD 0 + (1 + t % 255)) % 256))).drew) fun e w' => e = .returned (.int .i64 X) ∧ w' = (z10'.setCell ⟨g10, j, none⟩ (.int .u8 ((B[j]?.getD 0 + (1 + t % 255)) % 256))).drew) := CX0
      have CY : Hid (Calls Try.prog 13 #[.slice (some ⟨g6, 0, none⟩) N6 c6] ((z10'.setCell ⟨g10, j, none⟩ (.int .u8 ((B[j]?.getD 0 + (1 + t % 255)) % 256))).drew) fun e w' => e = .returned (.int .i64 Y) ∧ w' = (z10'.setCell ⟨g10, j, none⟩ (.int .u8 ((B[j]?.getD 0 + (1 + t % 255)) % 256))).drew) := CY0
      clear hXY hY0 CX0 CY0 R10 R6' own11 hBs hce hcr hcn
      go_region_with (go_at_call 12; refine (HA4.out _ ?_).mono ?_; exact ⟨Rc.length, Rc.range, Rc.cells⟩; rintro e wq ⟨rfl, rfl⟩)
      all_goals
        go_wp2_with fail
        refine Calls.mono CX.out ?_
        rintro e w11 ⟨rfl, rfl⟩
        go_wp2_with fail
        refine Calls.mono CY.out ?_
        rintro e w12 ⟨rfl, rfl⟩
        go_wp2_with fail
        refine Calls.mono CY.out ?_
        rintro e w13 ⟨rfl, rfl⟩
        go_wp2
        go_ret
        exact ⟨rfl, HBel.out⟩
    · go_wp2_with fail
      refine (putImpl_nil n _ hin).mono ?_
      rintro e x3 ⟨rfl, hx3⟩
      subst hx3
      have own4 := World.ownsRow_lit (base := x3.heap.size) (e := 5) (size := 1) x3 #[.int .u8 7] 1 (Nat.le_refl _) (by unfold maxLen; omega) rfl
      have hb4 : Below w.heap.size w (x3.alloc (.cells #[.int .u8 7] 5)) := hb2.alloc hb2.size _
      have hx3s := hb2.size
      clear hb2
      go_wp2_with (at_builtin; refine wpList_append_own_none rfl _ _ 22 rfl x3.heap.size 5 i0 1 Try.underlying22 hi _ 1 [.int .u8 7] rfl own4 rfl ?_)
      refine (putTextImpl_any s _ (by omega)).mono ?_
      rintro e x5 ⟨v5, rfl, own5, b5⟩
      obtain ⟨T, hT⟩ : ∃ T, T = (textOf s).length := ⟨_, rfl⟩
      have hTl := textOf_len s
      have hTe := encOf_len (s.size : Int)
      have hT0 : 0 < T := by rw [hT]; exact text_pos s (by omega)
      rw [← hT] at own5 hTl
      have hT9 : T ≤ 14 := by omega
      have HTe : Hid (T = (textOf s).length) := hT
      clear hT hTl hTe
      have own4 := ownsRow_below own4 b5
      have hb5 := hb4.trans (b5.mono hb4.size)
      have hx5s := b5.size
      simp at hx5s
      obtain ⟨g5, c5, hv5, _⟩ := own_shape own5 hT0
      rw [hv5] at own5
      rw [hv5]
      clear hv5 b5 hb4
      go_wp2_with (at_builtin; refine wpList_append_own _ rfl _ _ 22 rfl x3.heap.size 5 i0 (.int .u8 0) 1 1 Try.underlying22 hi hz0 hz1 hz2 rfl (by decide) _ _ _ rfl own4 ⟨g5, 0, none⟩ T c5 ((textOf s).map (Value.int .u8)) rfl ?p0 ?p1 ?p2 ?p3 ?p4 ?p5 ?_)
      case p0 => simpa using own5.1
      case p1 => exact own5.cells (g := g5) rfl
      case p2 => exact ints_oneCell _ _
      case p3 => unfold maxLen; omega
      case p4 => omega
      case p5 => omega
      intro v6 x6 own6 gr6 _
      have hb6 := hb5.grown gr6 hb5.size (fun k hk => by simp [Value.ownBlock] at hk; omega)
      obtain ⟨B, hB⟩ : ∃ B, B = [7] ++ textOf s := ⟨_, rfl⟩
      obtain ⟨N6, hN⟩ : ∃ N6, N6 = 1 + T := ⟨_, rfl⟩
      have own6 : x6.ownsRow x3.heap.size 5 1 v6 N6 (B.map (Value.int .u8)) := by rw [hB, hN]; simpa using own6
      have hBl : B.length = N6 := by simpa using own6.1
      have hBr : ∀ x ∈ B, 0 ≤ x ∧ x ≤ 255 := by rw [hB]; exact b_range [7] s (by decide)
      have HT : Hid (outT (tres B 1) = .tuple #[.string s, .int .i64 (N6 : Int), .bool true]) := by
        show outT (tres B 1) = _
        have := tres_text [7] s (by omega)
        rw [← hB] at this
        rw [show (1 : Int) = (([7] : List Int).length : Int) from rfl, this, hBl]; rfl
      obtain ⟨g6, c6, hv6, hc6⟩ := own_shape own6 (by omega)
      rw [hv6] at own6
      rw [hv6]
      have HBr : Hid (∀ x ∈ B, 0 ≤ x ∧ x ≤ 255) := hBr
      have HBl : Hid (B.length = N6) := hBl
      have hpos : 0 < N6 := by omega
      have hN6 : N6 ≤ 1048576 := by omega
      have hEn : encOf n = [] := by rw [encOf, if_neg hin]
      clear hv6 gr6 own5 own4 hb5 hB hN hBr hBl HTe hT0 hT9 hx5s
      -- how many bytes the model's number has
      go_wp2_with fail
      refine (putSpec_any n _ hn0 hn1).mono ?_
      rintro e x7 ⟨v7, rfl, own7, b7⟩
      rw [hEn] at own7
      obtain ⟨a7, c7, hv7⟩ := own_len own7
      rw [hv7]
      have own6 := ownsRow_below own6 b7
      have hbA := hb6.trans (b7.mono hb6.size)
      have R6 := RdB.of_own own6 HBr.out
      clear own7 hv7 b7 hb6 hEn
      have hNN : ((N6 : Int) != (N6 : Int)) = false := by simp
      -- the text is read as it was
      go_wp2_with fail
      refine (textImpl_any (some ⟨g6, 0, none⟩) N6 c6 1 B _ R6 hN6 hc6 (by simp)).mono ?_
      rintro e y9 ⟨rfl, hb9⟩
      rw [HT.out]
      have own6 := ownsRow_below own6 hb9
      have own6lt := (own6.lt g6 rfl).2
      have hbA := hbA.trans (hb9.mono hbA.size)
      have hsz9 := hbA.size
      have hlit := World.ownsRow_lit (base := y9.heap.size) (e := 5) (size := 1) y9 #[] 0 (Nat.le_refl _) (by unfold maxLen; omega) rfl
      have own6a := own6.alloc (.cells #[] 5)
      clear hb9 R6
      -- a copy of it
      go_wp2_with (at_builtin; refine wpList_append_own _ rfl _ _ 22 rfl y9.heap.size 5 i0 (.int .u8 0) 1 1 Try.underlying22 hi hz0 hz1 hz2 rfl (by decide) _ _ _ rfl hlit ⟨g6, 0, none⟩ N6 c6 (B.map (Value.int .u8)) rfl ?q0 ?q1 ?q2 ?q3 ?q4 ?q5 ?_)
      case q0 => simpa using own6.1
      case q1 => exact own6a.cells (g := g6) rfl
      case q2 => exact ints_oneCell _ _
      case q3 => unfold maxLen; omega
      case q4 => omega
      case q5 => simp
      intro v10 z10 own10 gr10 _
      have own10 : z10.ownsRow y9.heap.size 5 1 v10 N6 (B.map (Value.int .u8)) := by simpa using own10
      have own6 := own6a.kept gr10 (by right; simp [Value.ownBlock]; omega)
      have hb10 : Below w.heap.size w z10 := (hbA.alloc hsz9 _).grown gr10 (by simp; omega) (fun k hk => by simp [Value.ownBlock] at hk; omega)
      obtain ⟨g10, c10, hv10, _⟩ := own_shape own10 hpos
      rw [hv10] at own10
      rw [hv10]
      have hg10 : g6 < g10 := Nat.lt_of_lt_of_le own6lt (own10.lt g10 rfl).1
      have Hw9 : w.heap.size ≤ y9.heap.size := hsz9
      clear hlit gr10 hv10 own6a hbA hsz9
      have Rc := HRc.out.below hb10
      -- the place
      go_wp2_with fail
      refine (at0_any a0 len0 cap0 zs 3 _ Rc hlen (by omega)).mono ?_
      rintro e z10' ⟨rfl, hz10⟩
      subst hz10
      have hp := at0F_range zs len0 3 HRc.out.range
      have ht := at0F_range zs len0 4 HRc.out.range
      have HA4 : Hid (∀ wx : World, RdB wx a0 len0 zs → Calls Try.prog 12 #[.slice a0 len0 cap0, .int .i64 4] wx fun e w' => e = .returned (.int .i64 (at0F zs len0 4)) ∧ w' = wx) := fun wx hx => at0_any a0 len0 cap0 zs 4 wx hx hlen (by omega)
      generalize at0F zs len0 3 = p at hp ⊢
      generalize at0F zs len0 4 = t at ht HA4
      obtain ⟨j, hj⟩ : ∃ j : Nat, p % (N6 : Int) = (j : Int) := Int.eq_ofNat_of_zero_le (Int.emod_nonneg _ (by omega))
      have hjN : j < N6 := by have := Int.emod_lt_of_pos p (show (0 : Int) < N6 by omega); omega
      have hposI : (0 : Int) < (N6 : Int) := by omega
      have hcell : z10'.cell? ⟨g10, j, none⟩ = some (.int .u8 (B.getD j 0)) := by
        have := own10.cellAt j (by omega)
        rw [this]; simp [List.getElem?_eq_getElem (show j < B.length by rw [HBl.out]; exact hjN)]
      have hfroz := own10.frozenAt j
      have hbj := getD_range HBr.out j
      have Hp : Hid (0 ≤ p ∧ p ≤ 255) := hp
      go_wp2
      rw [hj]
      have Own10 : Hid (z10'.ownsRow y9.heap.size 5 1 (.slice (some ⟨g10, 0, none⟩) N6 c10) N6 (B.map (Value.int .u8))) := own10
      have Own6 : Hid (z10'.ownsRow x3.heap.size 5 1 (.slice (some ⟨g6, 0, none⟩) N6 c6) N6 (B.map (Value.int .u8))) := own6
      have Hb10 : Hid (Below w.heap.size w z10') := hb10
      clear hj hp own10 own6 hb10
      obtain ⟨c, hce⟩ : ∃ c, c = (B[j]?.getD 0 + (1 + t % 255)) % 256 := ⟨_, rfl⟩
      have hcr : 0 ≤ c ∧ c ≤ 255 := by omega
      have hcn : ¬ B[j]?.getD 0 = c := by omega
      have own11 := (Own10.out.stored j (.int .u8 c)).1
      rw [← List.map_set] at own11
      have hBs : ∀ x ∈ B.set j c, 0 ≤ x ∧ x ≤ 255 := by
        intro x hx
        rcases List.mem_or_eq_of_mem_set hx with h | h
        · exact HBr.out x h
        · rw [h]; exact hcr
      have R10 : RdB ((z10'.setCell ⟨g10, j, none⟩ (.int .u8 c)).drew) (some ⟨g10, 0, none⟩) N6 (B.set j c) := RdB.of_own own11.drew hBs
      have R6' : RdB ((z10'.setCell ⟨g10, j, none⟩ (.int .u8 c)).drew) (some ⟨g6, 0, none⟩) N6 B := by
        have r := (RdB.of_own Own6.out HBr.out).set (g := g10) (j := j) (by intro x hx _; cases hx; show g6 ≠ g10; omega) (.int .u8 c)
        exact ⟨r.length, r.range, r.cells⟩
      have hXY := crc_set B HBr.out j (by rw [HBl.out]; exact hjN) c hcr hcn
      have hY0 := (end_same B HBr.out).2
      have CX0 := crcImpl_any (some ⟨g10, 0, none⟩) N6 c10 (B.set j c) _ R10 hN6
      have CY0 := crcImpl_any (some ⟨g6, 0, none⟩) N6 c6 B _ R6' hN6
      generalize bits .xor .i64 (crc64 (B.set j c)) 4294967295 = X at hXY CX0
      generalize bits .xor .i64 (crc64 B) 4294967295 = Y at hXY CY0 hY0
      have hne : (X != Y) = true := by rw [bne_iff_ne]; exact hXY
      have hYp : 0 ≤ Y := hY0.1
      have HBel : Hid (Below w.heap.size w ((z10'.setCell ⟨g10, j, none⟩ (.int .u8 c)).drew)) := (Hb10.out.setCell (by have h1 := (Own10.out.lt g10 rfl).1; have h2 := Hw9; show w.heap.size ≤ g10; omega) _).drew
      rw [hce] at CX0 CY0 HBel
      have CX : Hid (Calls Try.prog 13 #[.slice (some ⟨g10, 0, none⟩) N6 c10] ((z10'.setCell ⟨g10, j, none⟩ (.int .u8 ((B[j]?.getD 0 + (1 + t % 255)) % 256))).drew) fun e w' => e = .returned (.int .i64 X) ∧ w' = (z10'.setCell ⟨g10, j, none⟩ (.int .u8 ((B[j]?.getD 0 + (1 + t % 255)) % 256))).drew) := CX0
      have CY : Hid (Calls Try.prog 13 #[.slice (some ⟨g6, 0, none⟩) N6 c6] ((z10'.setCell ⟨g10, j, none⟩ (.int .u8 ((B[j]?.getD 0 + (1 + t % 255)) % 256))).drew) fun e w' => e = .returned (.int .i64 Y) ∧ w' = (z10'.setCell ⟨g10, j, none⟩ (.int .u8 ((B[j]?.getD 0 + (1 + t % 255)) % 256))).drew) := CY0
      clear hXY hY0 CX0 CY0 R10 R6' own11 hBs hce hcr hcn
      go_region_with (go_at_call 12; refine (HA4.out _ ?_).mono ?_; exact ⟨Rc.length, Rc.range, Rc.cells⟩; rintro e wq ⟨rfl, rfl⟩)
      all_goals
        go_wp2_with fail
        refine Calls.mono CX.out ?_
        rintro e w11 ⟨rfl, rfl⟩
        go_wp2_with fail
        refine Calls.mono CY.out ?_
        rintro e w12 ⟨rfl, rfl⟩
        go_wp2_with fail
        refine Calls.mono CY.out ?_
        rintro e w13 ⟨rfl, rfl⟩
        go_wp2
        go_ret
        exact ⟨rfl, HBel.out⟩

set_option maxRecDepth 100000 in
theorem lifted (os : Os) (started : os.Started) (H : Type) (enc : TypeId × Value → H) :
    ReturnsInHanded {} Try.checked os 3 .any (Rows.fnNumbersSpec.pre6 enc Try.prog Try.f3 Rows.fnNumbersRow.domain false) (Rows.fnNumbersSpec.post enc Try.prog Try.f3 false true false false) := by
  refine returnsInHanded_of_change (C := Try.checked) own started (by kernel_rfl) Try.func3
    (ChangeSpec.witness6 (enc := enc) (C := Try.checked) false ⟨#[], #[.slice none 0 0], []⟩ 8 (by kernel_rfl) (by kernel_rfl) (by kernel_rfl) (by kernel_rfl)) ?_
  intro W base args ds gs before hval0 hW hcnd _
  have hval : ∀ (j : Nat) t v, Try.f3.params[j]? = some t → args[j]? = some v → Value.okWide Try.prog W .any base t v := hval0
  have hW' := hW
  obtain ⟨p, q, hA0, hV, rfl, hfz, hnd⟩ := hW
  have hA : DataW.TrodAll enc Try.prog W 0 (fun _ => true) true Try.f3.params.toList args.toList ds p := hA0
  rw [Try.params3] at hA hval
  obtain ⟨v0, vs0, d0, ds0, p0, q0, hargs, rfl, rfl, h0, r0⟩ := trodAll_cons hA
  obtain ⟨rfl, rfl, rfl⟩ := trodAll_nil r0
  obtain rfl : args = #[v0] := by cases args; simp_all
  obtain ⟨rfl, rfl⟩ := trodVars_none hV
  obtain ⟨a0, len0, cap0, rfl⟩ := okWide_slice Try.underlying22 (hval 0 22 v0 rfl rfl)
  have k0 := h0
  have lt0 : ∀ x ∈ p0, x.block < W.heap.size := by obtain ⟨m, hm⟩ := k0; exact DataW.trod_lt m _ _ _ hm
  obtain ⟨z0, w0⟩ : ∃ zs, IsRow .u8 W a0 len0 cap0 zs := by
    obtain ⟨fuel, hf⟩ := h0
    rcases open_ints Try.underlying22 Try.underlying5 (by kernel_rfl) hf with ⟨hcs, _⟩ | ⟨x, l, c, zs, hcs, _, hl, hm, hz, _, hcell, hwz⟩
    · simp [Value.cells] at hcs
      obtain ⟨rfl, rfl, rfl⟩ := hcs
      exact ⟨[], .inl ⟨rfl, rfl, rfl, rfl⟩⟩
    · simp [Value.cells] at hcs
      obtain ⟨rfl, rfl, rfl⟩ := hcs
      exact ⟨zs, .inr ⟨_, rfl, hl, hm, by simpa using hz, hcell, hwz⟩⟩
  clear hA0 hval0
  refine (walk a0 len0 cap0 z0 W w0).mono fun e W' ⟨he, bel⟩ => ?_
  subst he
  exact ⟨_, rfl, _, _, _, [], _, [], hW', trodAll_mk1 (shut_bool Try.underlying4 _), (trodAll_cons_mk (Below.trod laidOut (by kernel_rfl) (of_decide_eq_true (by kernel_rfl)) k0 bel lt0) trodAll_mk0), rfl, bel.frame _, fun h => by cases h⟩

theorem over : Rows.fnNumbersRow.holds Try.pinned (OpenSpec.ofChange Rows.fnNumbersSpec) :=
  OpenClaim.holds_of_wide 3 Try.f3 rfl rfl rfl rfl rfl rfl rfl ⟨rfl, rfl, rfl, rfl, rfl⟩ rfl rfl rfl rfl rfl (by kernel_rfl) Try.func3 (by kernel_rfl)
    (of_decide_eq_true (by kernel_rfl)) (by unfold Func.isWrapper; first | (rw [if_pos (by decide +kernel)]; kernel_rfl) | (rw [if_neg (by decide +kernel)]; exact ⟨rfl, rfl⟩))
    (fun os started H enc _ => lifted os started H enc)

theorem proved : Rows.FnNumbersSaid := over
#print axioms proved
end Go.Proofs.Ytgoalcakfaellaa.fnNumbers
