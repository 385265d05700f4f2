/- The walks through SetText, of the model and of the program. No statement of the seat is proved here. -/
import Derived.Test.YtjiciigaeeibgaoDoorSpText
import Derived.Test.YtjiciigaeeibgaoDoorSpImpl
namespace Go.Proofs.YtjiciigaeeibgaoDoor
open Go.RowKit Go.Sort
abbrev TabAt (w : World) : Prop := Lib.TabIs Tryd.prog w "internal/strconv.uint64pow10" .u64 Lib.pow10Tab
theorem digSpecB (n : Int) (s : ByteArray) (hs : s = itB n) (w : World) (h : In64 n) : Calls Tryd.prog 9 #[.int .i64 n] w fun e w' => e = .returned (.string s) ∧ Below w.heap.size w w' := by
  subst hs
  exact digSpec_any n w h.1 h.2
theorem digImplB (n : Int) (s : ByteArray) (hs : s = itB n) (w : World) (h : In64 n) (ht : TabAt w) : Calls Tryd.prog 15 #[.int .i64 n] w fun e w' => e = .returned (.string s) ∧ Below w.heap.size w w' := by
  subst hs
  exact digImpl_any n w h.1 h.2 ht
theorem addB (a b c : ByteArray) (hc : c = a ++ b) (h : a.size + b.size ≤ 1000000000) : ∀ wx : World, (Op.stringOp .add a b).run Tryd.prog wx = .ok (.string c) wx := fun wx => by
  subst hc
  exact run_string_add_sum (P := Tryd.prog) wx a b (by omega)
theorem empty_app (b : ByteArray) : (⟨#[]⟩ : ByteArray) ++ b = b := by
  apply ByteArray.ext
  rw [ByteArray.data_append]
  simp
set_option maxHeartbeats 4000000 in
theorem textSpecP_any (a : Option Addr) (len cap : Nat) (ps : Sp) (F : List Nat) (w : World) (h : RdP w a len ps F) (hlen : len ≤ 1048576) (h64 : ps.in64) :
    Calls Tryd.prog 5 #[.slice a len cap] w fun e w' => e = .returned (.string ps.text) ∧ Below w.heap.size w w' := by
  have HL : Hid (ps.length = len) := h.length
  have H64 : Hid ps.in64 := h64
  have HC : Hid (len = 0 ∨ ∃ b off, a = some ⟨b, off, none⟩ ∧ b < w.heap.size ∧ SpCells w b off len ps) := cells_of h
  clear h h64
  go_enter Tryd.func5, Tryd.ntmps5
  go_wp2
  go_loopw [3, 4] (fun t i wr => ∃ (k : Nat) (s : ByteArray), k ≤ len ∧ i = .int .i64 k ∧ t = .string s ∧ Hid (s = Sp.text (ps.take k)) ∧ Hid (Below w.heap.size w wr)) (fun _ i _ => len - (intOf i).toNat)
  case atStart => exact ⟨0, ⟨#[]⟩, by omega, rfl, rfl, rfl, Below.refl _ _⟩
  case round =>
    obtain ⟨k, s, hk, rfl, rfl, HT, HB⟩ := hrel
    by_cases hlt : k < len
    · have hca := HC.out
      rcases hca with h0 | ⟨b, off, rfl, hbw, hc⟩
      · omega
      obtain ⟨x, hx⟩ : ∃ x, x = (ps.at k).1 := ⟨_, rfl⟩
      obtain ⟨y, hy⟩ : ∃ x, x = (ps.at k).2 := ⟨_, rfl⟩
      have e := hc k hlt
      have hkl : k < ps.length := by rw [HL.out]; exact hlt
      have HXY : Hid (ps.at k = (x, y)) := by rw [hx, hy]; rfl
      rw [HXY.out] at e
      have HI : Hid (In64 x ∧ In64 y) := by have := H64.out _ (Sp.at_mem hkl); rw [HXY.out] at this; exact this
      have HCX : Hid (∀ W, Below w.heap.size w W → W.cell? ⟨b, off + k * 2, none⟩ = some (.int .i64 x) ∧ W.cell? ⟨b, off + k * 2 + 1, none⟩ = some (.int .i64 y)) := fun W hW => ⟨(hW.cell (by exact hbw)).trans e.1, (hW.cell (by exact hbw)).trans e.2⟩
      have hI : (k : Int) < (len : Int) := by omega
      have HSZ : Hid (s.size ≤ 44 * k) := by
        have := text_size (in64_take H64.out k)
        rw [List.length_take] at this
        show _ ≤ _
        rw [HT.out]
        omega
      obtain ⟨sx, hsx⟩ : ∃ s, s = itB x := ⟨_, rfl⟩
      obtain ⟨sy, hsy⟩ : ∃ s, s = itB y := ⟨_, rfl⟩
      have HS : Hid ((sx = itB x ∧ sx.size ≤ 21) ∧ sy = itB y ∧ sy.size ≤ 21) := ⟨⟨hsx, by rw [hsx]; exact itB_size HI.out.1⟩, hsy, by rw [hsy]; exact itB_size HI.out.2⟩
      have d1 := (HCX.out _ HB.out).1
      have d2 := (HCX.out _ HB.out).2
      clear e hx hy hc hsx hsy
      by_cases hk0 : k = 0
      · have hg : decide ((0 : Int) < (k : Int)) = false := decF (by omega)
        have hgn : decide (0 < k) = false := decF (by omega)
        have hgz : ¬ 0 < k := by omega
        have HK0 : Hid (k = 0) := hk0
        clear hk0
        by_cases hxy : y = x
        · have HS1 : Hid (s = s ∧ s.size ≤ 44 * k + 1) := ⟨rfl, by have := HSZ.out; omega⟩
          obtain ⟨s2, hs2⟩ : ∃ c, c = s ++ sx := ⟨_, rfl⟩
          have p2 := addB s sx s2 hs2 (by have := HS1.out.2; have := HS.out.1.2; omega)
          have HS2 : Hid (s2 = s ++ sx ∧ s2.size ≤ 44 * k + 22) := ⟨hs2, by have := HS1.out.2; have := HS.out.1.2; rw [hs2, ByteArray.size_append]; omega⟩
          clear hs2
          go_wp2_with fail
          refine (digSpecB x sx HS.out.1.1 _ HI.out.1).mono ?_
          rintro e w1 ⟨rfl, hb⟩
          have HB1 : Hid (Below w.heap.size w w1) := Below.next HB.out hb
          clear hb d1 d2
          have d1 := (HCX.out _ HB1.out).1
          have d2 := (HCX.out _ HB1.out).2
          have hne : (y != x) = false := by simp [hxy]
          have HF : Hid (s2 = Sp.text (ps.take (k + 1))) := by
            show _ = _
            have hk0 := HK0.out
            subst hk0
            rw [text_first hkl, HXY.out, HS2.out.1, HT.out, HS.out.1.1]
            unfold spB
            rw [if_pos hxy.symm]
            exact empty_app _
          clear hxy
          go_wp2
          go_quiet (fail)
          go_wp2
          go_roundw
          case rel => exact ⟨k + 1, s2, by omega, by go_num, rfl, HF, ⟨HB1.out.os, HB1.out.tape, HB1.out.output, HB1.out.size, HB1.out.block⟩⟩
          case measure => simp [intOf]; omega
        · have HS1 : Hid (s = s ∧ s.size ≤ 44 * k + 1) := ⟨rfl, by have := HSZ.out; omega⟩
          obtain ⟨s2, hs2⟩ : ∃ c, c = s ++ sx := ⟨_, rfl⟩
          have p2 := addB s sx s2 hs2 (by have := HS1.out.2; have := HS.out.1.2; omega)
          have HS2 : Hid (s2 = s ++ sx ∧ s2.size ≤ 44 * k + 22) := ⟨hs2, by have := HS1.out.2; have := HS.out.1.2; rw [hs2, ByteArray.size_append]; omega⟩
          clear hs2
          go_wp2_with fail
          refine (digSpecB x sx HS.out.1.1 _ HI.out.1).mono ?_
          rintro e w1 ⟨rfl, hb⟩
          have HB1 : Hid (Below w.heap.size w w1) := Below.next HB.out hb
          clear hb d1 d2
          have d1 := (HCX.out _ HB1.out).1
          have d2 := (HCX.out _ HB1.out).2
          have hne : (y != x) = true := by simpa using hxy
          obtain ⟨s3, hs3⟩ : ∃ c, c = s2 ++ ⟨#[45]⟩ := ⟨_, rfl⟩
          have p3 := addB s2 ⟨#[45]⟩ s3 hs3 (by have := HS2.out.2; rw [size1]; omega)
          obtain ⟨s4, hs4⟩ : ∃ c, c = s3 ++ sy := ⟨_, rfl⟩
          have p4 := addB s3 sy s4 hs4 (by have := HS2.out.2; have := HS.out.2.2; rw [hs3, ByteArray.size_append, size1]; omega)
          have HF : Hid (s4 = Sp.text (ps.take (k + 1))) := by
            show _ = _
            have hk0 := HK0.out
            subst hk0
            rw [text_first hkl, HXY.out, hs4, hs3, HS2.out.1, HT.out, HS.out.1.1, HS.out.2.1]
            unfold spB
            rw [if_neg (fun e => hxy e.symm)]
            show (⟨#[]⟩ : ByteArray) ++ _ ++ _ ++ _ = _
            rw [empty_app]
          clear hxy hs3 hs4
          go_wp2
          go_quiet (fail)
          obtain ⟨w2, hw2⟩ : ∃ W, W = w1.drewN nq := ⟨_, rfl⟩
          have HB2 : Hid (Below w.heap.size w w2) := by rw [hw2]; exact ⟨HB1.out.os, HB1.out.tape, HB1.out.output, HB1.out.size, HB1.out.block⟩
          rw [← hw2]
          clear hw2 d1 d2
          have d2 := (HCX.out _ HB2.out).2
          go_wp2_with fail
          refine (digSpecB y sy HS.out.2.1 _ HI.out.2).mono ?_
          rintro e w3 ⟨rfl, hb⟩
          have HB3 : Hid (Below w.heap.size w w3) := Below.next HB2.out hb
          clear hb
          go_wp2
          go_roundw
          case rel => exact ⟨k + 1, s4, by omega, by go_num, rfl, HF, HB3⟩
          case measure => simp [intOf]; omega
      have hg : decide ((0 : Int) < (k : Int)) = true := decT (by omega)
      have hgn : decide (0 < k) = true := decT (by omega)
      by_cases hxy : y = x
      · obtain ⟨s1, hs1⟩ : ∃ c, c = s ++ ⟨#[44]⟩ := ⟨_, rfl⟩
        have p1 := addB s ⟨#[44]⟩ s1 hs1 (by have := HSZ.out; rw [size1]; omega)
        have HS1 : Hid (s1 = s ++ ⟨#[44]⟩ ∧ s1.size ≤ 44 * k + 1) := ⟨hs1, by have := HSZ.out; rw [hs1, ByteArray.size_append, size1]; omega⟩
        clear hs1
        obtain ⟨s2, hs2⟩ : ∃ c, c = s1 ++ sx := ⟨_, rfl⟩
        have p2 := addB s1 sx s2 hs2 (by have := HS1.out.2; have := HS.out.1.2; omega)
        have HS2 : Hid (s2 = s1 ++ sx ∧ s2.size ≤ 44 * k + 22) := ⟨hs2, by have := HS1.out.2; have := HS.out.1.2; rw [hs2, ByteArray.size_append]; omega⟩
        clear hs2
        go_wp2_with fail
        refine (digSpecB x sx HS.out.1.1 _ HI.out.1).mono ?_
        rintro e w1 ⟨rfl, hb⟩
        have HB1 : Hid (Below w.heap.size w w1) := Below.next HB.out hb
        clear hb d1 d2
        have d1 := (HCX.out _ HB1.out).1
        have d2 := (HCX.out _ HB1.out).2
        have hne : (y != x) = false := by simp [hxy]
        have HF : Hid (s2 = Sp.text (ps.take (k + 1))) := by
          show _ = _
          rw [text_step hkl (by omega), HXY.out, HS2.out.1, HS1.out.1, HT.out, HS.out.1.1]
          unfold spB
          rw [if_pos hxy.symm]
        clear hxy
        go_wp2
        go_quiet (fail)
        go_wp2
        go_roundw
        case rel => exact ⟨k + 1, s2, by omega, by go_num, rfl, HF, ⟨HB1.out.os, HB1.out.tape, HB1.out.output, HB1.out.size, HB1.out.block⟩⟩
        case measure => simp [intOf]; omega
      · obtain ⟨s1, hs1⟩ : ∃ c, c = s ++ ⟨#[44]⟩ := ⟨_, rfl⟩
        have p1 := addB s ⟨#[44]⟩ s1 hs1 (by have := HSZ.out; rw [size1]; omega)
        have HS1 : Hid (s1 = s ++ ⟨#[44]⟩ ∧ s1.size ≤ 44 * k + 1) := ⟨hs1, by have := HSZ.out; rw [hs1, ByteArray.size_append, size1]; omega⟩
        clear hs1
        obtain ⟨s2, hs2⟩ : ∃ c, c = s1 ++ sx := ⟨_, rfl⟩
        have p2 := addB s1 sx s2 hs2 (by have := HS1.out.2; have := HS.out.1.2; omega)
        have HS2 : Hid (s2 = s1 ++ sx ∧ s2.size ≤ 44 * k + 22) := ⟨hs2, by have := HS1.out.2; have := HS.out.1.2; rw [hs2, ByteArray.size_append]; omega⟩
        clear hs2
        go_wp2_with fail
        refine (digSpecB x sx HS.out.1.1 _ HI.out.1).mono ?_
        rintro e w1 ⟨rfl, hb⟩
        have HB1 : Hid (Below w.heap.size w w1) := Below.next HB.out hb
        clear hb d1 d2
        have d1 := (HCX.out _ HB1.out).1
        have d2 := (HCX.out _ HB1.out).2
        have hne : (y != x) = true := by simpa using hxy
        obtain ⟨s3, hs3⟩ : ∃ c, c = s2 ++ ⟨#[45]⟩ := ⟨_, rfl⟩
        have p3 := addB s2 ⟨#[45]⟩ s3 hs3 (by have := HS2.out.2; rw [size1]; omega)
        obtain ⟨s4, hs4⟩ : ∃ c, c = s3 ++ sy := ⟨_, rfl⟩
        have p4 := addB s3 sy s4 hs4 (by have := HS2.out.2; have := HS.out.2.2; rw [hs3, ByteArray.size_append, size1]; omega)
        have HF : Hid (s4 = Sp.text (ps.take (k + 1))) := by
          show _ = _
          rw [text_step hkl (by omega), HXY.out, hs4, hs3, HS2.out.1, HS1.out.1, HT.out, HS.out.1.1, HS.out.2.1]
          unfold spB
          rw [if_neg (fun e => hxy e.symm)]
          simp only [ByteArray.append_assoc]
        clear hxy hs3 hs4
        go_wp2
        go_quiet (fail)
        obtain ⟨w2, hw2⟩ : ∃ W, W = w1.drewN nq := ⟨_, rfl⟩
        have HB2 : Hid (Below w.heap.size w w2) := by rw [hw2]; exact ⟨HB1.out.os, HB1.out.tape, HB1.out.output, HB1.out.size, HB1.out.block⟩
        rw [← hw2]
        clear hw2 d1 d2
        have d2 := (HCX.out _ HB2.out).2
        go_wp2_with fail
        refine (digSpecB y sy HS.out.2.1 _ HI.out.2).mono ?_
        rintro e w3 ⟨rfl, hb⟩
        have HB3 : Hid (Below w.heap.size w w3) := Below.next HB2.out hb
        clear hb
        go_wp2
        go_roundw
        case rel => exact ⟨k + 1, s4, by omega, by go_num, rfl, HF, HB3⟩
        case measure => simp [intOf]; omega
    · obtain rfl : k = len := by omega
      have HV : Hid (s = ps.text) := by
        have := HT.out
        rw [List.take_of_length_le (by rw [HL.out]; omega)] at this
        exact this
      go_wp2
      go_ret
      rw [← HV.out]
      exact ⟨rfl, HB.out⟩
end Go.Proofs.YtjiciigaeeibgaoDoor
