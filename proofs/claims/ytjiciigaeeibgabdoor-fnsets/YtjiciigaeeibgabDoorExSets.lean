/- For every byte slice (no condition): laws.FnSets returns true, and its argument reads afterwards as it did: two drawn sets are joined in any order, what comes of it is right, has the numbers of both and no other, and a number is added once; the library's tables start as the program's text lays them (the card ties them). -/
import Derived.Test.YtjiciigaeeibgabDoorCards
import Derived.Test.YtjiciigaeeibgabDoorTie
import Derived.Test.YtjiciigaeeibgabDoorLawBase
import Derived.Test.YtjiciigaeeibgabDoorSpDraw2
import Derived.Test.YtjiciigaeeibgabDoorSpVar
import Derived.Test.YtjiciigaeeibgabDoorSpCount
import Derived.Test.YtjiciigaeeibgabDoorSpImpl
import Derived.Test.YtjiciigaeeibgabDoorSpApart
import Derived.Test.YtjiciigaeeibgabDoorSpTextJ
import Derived.ProofKit
import Derived.OpenShut
import Derived.ShutString
import Derived.Below
import Derived.Deep.DeepHandedRow
namespace Go.Proofs.YtjiciigaeeibgabDoor.fnSets
open Go.ChangeShapes Go.WideShapes Go.ChangeAt Go.RowKit
set_option linter.unusedVariables false
theorem own : ownKnob Tryd.prog.godebug = none := by kernel_rfl
theorem gTab : Tryd.prog.globalNamed "internal/strconv.uint64pow10" = some 1 := by kernel_rfl
theorem gTabType : (Tryd.prog.globals[1]?).map (·.type) = some 85 := by kernel_rfl
theorem cellsA : Tryd.prog.cellsOf 85 = 20 := by kernel_rfl
theorem cellsE : Tryd.prog.cellsOf 78 = 1 := by kernel_rfl
/-- What the row's list gives: the table's cells hold its twenty numbers. -/
theorem table {W : World} (h : laidMetH Tryd.prog Rows.fnSetsRow.laid W) : Lib.TabIs Tryd.prog W "internal/strconv.uint64pow10" .u64 Lib.pow10Tab := by
  have h3 := laidMetH.filter (fun x => x.1 == "internal/strconv.uint64pow10") h
  have e : Rows.fnSetsRow.laid.filter (fun x => x.1 == "internal/strconv.uint64pow10") = [("internal/strconv.uint64pow10", Rows.laid_internal_strconv_uint64pow10)] := by kernel_rfl
  rw [e] at h3
  exact Lib.tabIs_of_head (rest := []) gTab gTabType Tryd.underlying85 Tryd.underlying78 cellsE cellsA h3

theorem laid0 : laidOutB Tryd.prog = true := by kernel_rfl
theorem ok_in64 {ps : Sp} (h : ps.ok = true) : ps.in64 := fun p hp => by
  have := inb_ok h p hp
  unfold InB at this
  unfold In64
  omega
theorem size_le {ps : Sp} (h : ps.ok = true) (hl : ps.length ≤ 32) : 0 ≤ ps.size ∧ ps.size ≤ 320000 := by
  rw [Sp.size_ok h]
  have := Sp.sum_range h ps.length (Nat.le_refl _)
  rw [List.take_length] at this
  omega
theorem size_abs (ps : Sp) (hl : ps.length ≤ 32) : 0 ≤ ps.size ∧ ps.size ≤ 320000 := by
  cases h : ps.ok with
  | true => exact size_le h hl
  | false => rw [Sp.size_not h]; omega
/-- What the law holds on to. -/
structure LiveS (w : World) (aa : Option Addr) (la ca : Nat) (ps : Sp) (ab : Option Addr) (lb cb : Nat) (qs : Sp) (aj : Option Addr) (lj : Nat) (Fj : List Nat) (ak : Option Addr) (lk : Nat) (Fk : List Nat) (W : World) : Prop where
  bel : Below w.heap.size w W
  sa : SetAt W aa la ca ps
  sb : SetAt W ab lb cb qs
  rj : RdP W aj lj (ps.join qs) Fj ∧ lj ≤ 32
  rk : RdP W ak lk (qs.join ps) Fk ∧ lk ≤ 32
set_option maxRecDepth 100000 in
set_option maxHeartbeats 16000000 in
theorem walk (a0 : Option Addr) (len0 cap0 : Nat) (zs : List Int) (w : World) (hR : RdB w a0 len0 zs) (ht : TabAt w) :
    Calls Tryd.prog 3 #[.slice a0 len0 cap0] w fun e w' => e = .returned (.bool true) ∧ Below w.heap.size w w' := by
  have HTAB : Hid (TabAt w) := ht
  clear ht
  by_cases hbig : (1048576 : Int) < (len0 : Int)
  · have hd : decide ((1048576 : Int) < (len0 : Int)) = true := by simpa using hbig
    clear hR hbig
    go_enter Tryd.func3, Tryd.ntmps3
    go_wp2_with fail
    refine (big_any _ _ _ _).mono ?_
    rintro e x1 ⟨rfl, rfl⟩
    rw [hd]
    go_wp2
    go_ret
    exact ⟨rfl, Below.refl _ _⟩
  · have hlen : len0 ≤ 1048576 := by omega
    have hd : decide ((1048576 : Int) < (len0 : Int)) = false := by simpa using hbig
    have HR : Hid (RdB w a0 len0 zs) := hR
    clear hR hbig
    go_enter Tryd.func3, Tryd.ntmps3
    go_wp2_with fail
    refine (big_any _ _ _ _).mono ?_
    rintro e x1 ⟨rfl, hx1⟩
    have hx1' := hx1.symm
    subst hx1'
    rw [hd]
    clear hd hx1
    go_wp2_with fail
    refine (drawSetJoin_any a0 len0 cap0 zs _ HR.out hlen).mono ?_
    rintro e w1 ⟨aa, la, ca, ps, ab, lb, cb, qs, rfl, s1, s2, b1⟩
    have Sa : Hid (SetAt w1 aa la ca ps) := s1
    have Sb : Hid (SetAt w1 ab lb cb qs) := s2
    have BEL : Hid (Below w.heap.size w w1) := b1
    have HLN : Hid (ps.length ≤ 8 ∧ qs.length ≤ 8) := ⟨by rw [s1.rd.choose_spec.length]; exact s1.len, by rw [s2.rd.choose_spec.length]; exact s2.len⟩
    clear s1 s2 b1
    go_wp2_with fail
    refine (joinImpl_any _ _ _ _ _ _ ps qs _ _ _ Sa.out.rd.choose_spec Sb.out.rd.choose_spec (by have := Sa.out.len; have := Sb.out.len; omega) Sa.out.cap).mono ?_
    rintro e w2 ⟨aj, lj, cj, Fj, rfl, rr, oo, hb, nn⟩
    have BEL : Hid (Below w.heap.size w w2) := Below.next BEL.out hb
    have Sa : Hid (SetAt w2 aa la ca ps) := Sa.out.below hb
    have Sb : Hid (SetAt w2 ab lb cb qs) := Sb.out.below hb
    have Rj : Hid (RdP w2 aj lj (ps.join qs) Fj ∧ lj ≤ 32) := ⟨rr, by rw [← rr.length]; have := join_length ps qs; have := HLN.out; omega⟩
    clear rr oo hb nn
    go_wp2_with fail
    refine (joinImpl_any _ _ _ _ _ _ qs ps _ _ _ Sb.out.rd.choose_spec Sa.out.rd.choose_spec (by have := Sa.out.len; have := Sb.out.len; omega) Sb.out.cap).mono ?_
    rintro e w3 ⟨ak, lk, ck, Fk, rfl, rr, oo, hb, nn⟩
    have BEL : Hid (Below w.heap.size w w3) := Below.next BEL.out hb
    have Sa : Hid (SetAt w3 aa la ca ps) := Sa.out.below hb
    have Sb : Hid (SetAt w3 ab lb cb qs) := Sb.out.below hb
    have Rj : Hid (RdP w3 aj lj (ps.join qs) Fj ∧ lj ≤ 32) := ⟨Rj.out.1.below hb, Rj.out.2⟩
    have Rk : Hid (RdP w3 ak lk (qs.join ps) Fk ∧ lk ≤ 32) := ⟨rr, by rw [← rr.length]; have := join_length qs ps; have := HLN.out; omega⟩
    clear rr oo hb nn
    go_wp2_with fail
    refine (joinSpec_any _ _ _ _ _ _ ps qs _ _ _ Sa.out.rd.choose_spec Sb.out.rd.choose_spec (by have := Sa.out.len; have := Sb.out.len; omega) Sa.out.some).mono ?_
    rintro e w4 ⟨az, lz, cz, Fz, rfl, rr, oo, hb, nn⟩
    have BEL : Hid (Below w.heap.size w w4) := Below.next BEL.out hb
    have Sa : Hid (SetAt w4 aa la ca ps) := Sa.out.below hb
    have Sb : Hid (SetAt w4 ab lb cb qs) := Sb.out.below hb
    have Rj : Hid (RdP w4 aj lj (ps.join qs) Fj ∧ lj ≤ 32) := ⟨Rj.out.1.below hb, Rj.out.2⟩
    have Rk : Hid (RdP w4 ak lk (qs.join ps) Fk ∧ lk ≤ 32) := ⟨Rk.out.1.below hb, Rk.out.2⟩
    clear rr oo hb nn
    rw [Bool.and_comm qs.ok ps.ok]
    obtain ⟨d, hd⟩ : ∃ d, d = (ps.ok && qs.ok) := ⟨_, rfl⟩
    rw [← hd]
    have HD : Hid (d = (ps.ok && qs.ok)) := hd
    clear hd
    have hdd : (d != d) = false := by simp
    go_wp2_with fail
    refine (apartImpl_any _ _ _ _ _ _ ps qs _ _ _ Sa.out.rd.choose_spec Sb.out.rd.choose_spec (by have := Sa.out.len; omega) (by have := Sb.out.len; omega) Sa.out.cap Sb.out.cap).mono ?_
    rintro e w5 ⟨rfl, hb⟩
    have BEL : Hid (Below w.heap.size w w5) := Below.next BEL.out hb
    have Sa : Hid (SetAt w5 aa la ca ps) := Sa.out.below hb
    have Sb : Hid (SetAt w5 ab lb cb qs) := Sb.out.below hb
    have Rj : Hid (RdP w5 aj lj (ps.join qs) Fj ∧ lj ≤ 32) := ⟨Rj.out.1.below hb, Rj.out.2⟩
    have Rk : Hid (RdP w5 ak lk (qs.join ps) Fk ∧ lk ≤ 32) := ⟨Rk.out.1.below hb, Rk.out.2⟩
    clear hb
    go_wp2_with fail
    refine (apartSpec_any _ _ _ _ _ _ ps qs _ _ _ Sa.out.rd.choose_spec Sb.out.rd.choose_spec (by have := Sa.out.len; omega) (by have := Sb.out.len; omega)).mono ?_
    rintro e w6 ⟨rfl, hq⟩
    have hb := quiet_below hq
    have BEL : Hid (Below w.heap.size w w6) := Below.next BEL.out hb
    have Sa : Hid (SetAt w6 aa la ca ps) := Sa.out.below hb
    have Sb : Hid (SetAt w6 ab lb cb qs) := Sb.out.below hb
    have Rj : Hid (RdP w6 aj lj (ps.join qs) Fj ∧ lj ≤ 32) := ⟨Rj.out.1.below hb, Rj.out.2⟩
    have Rk : Hid (RdP w6 ak lk (qs.join ps) Fk ∧ lk ≤ 32) := ⟨Rk.out.1.below hb, Rk.out.2⟩
    clear hb hq
    obtain ⟨f, hf⟩ : ∃ d, d = ps.apart qs := ⟨_, rfl⟩
    rw [← hf]
    have HFA : Hid (f = ps.apart qs) := hf
    clear hf
    have hff : (f != f) = false := by simp
    cases d
    · have HJ0 : Hid (lj = 0) := by
        have e := Rj.out.1.length
        rw [Sp.join_not HD.out.symm] at e
        exact e.symm
      have hj0 := HJ0.out
      subst hj0
      go_wp2
      go_ret
      exact ⟨rfl, BEL.out⟩
    have HOK : Hid (ps.ok = true ∧ qs.ok = true) := by
      have := HD.out.symm
      rw [Bool.and_eq_true] at this
      exact this
    go_wp2_with fail
    refine (drawSetAdd_any a0 len0 cap0 zs _ (HR.out.below BEL.out) hlen).mono ?_
    rintro e w7 ⟨as', ls, cs, rs, n, rfl, s1, hb⟩
    have BEL : Hid (Below w.heap.size w w7) := Below.next BEL.out hb
    have Sa : Hid (SetAt w7 aa la ca ps) := Sa.out.below hb
    have Sb : Hid (SetAt w7 ab lb cb qs) := Sb.out.below hb
    have Rj : Hid (RdP w7 aj lj (ps.join qs) Fj ∧ lj ≤ 32) := ⟨Rj.out.1.below hb, Rj.out.2⟩
    have Rk : Hid (RdP w7 ak lk (qs.join ps) Fk ∧ lk ≤ 32) := ⟨Rk.out.1.below hb, Rk.out.2⟩
    have Ss : Hid (SetAt w7 as' ls cs rs) := s1
    have HLS : Hid (rs.length ≤ 8) := by rw [s1.rd.choose_spec.length]; exact s1.len
    clear s1 hb
    go_wp2_with fail
    refine (addImpl_any _ _ _ rs n _ _ Ss.out.rd.choose_spec (by have := Ss.out.len; omega) Ss.out.cap).mono ?_
    rintro e w8 ⟨av, lv, cv, Fv, rfl, rr, oo, hb, nn⟩
    have BEL : Hid (Below w.heap.size w w8) := Below.next BEL.out hb
    have Sa : Hid (SetAt w8 aa la ca ps) := Sa.out.below hb
    have Sb : Hid (SetAt w8 ab lb cb qs) := Sb.out.below hb
    have Ss : Hid (SetAt w8 as' ls cs rs) := Ss.out.below hb
    have Rj : Hid (RdP w8 aj lj (ps.join qs) Fj ∧ lj ≤ 32) := ⟨Rj.out.1.below hb, Rj.out.2⟩
    have Rk : Hid (RdP w8 ak lk (qs.join ps) Fk ∧ lk ≤ 32) := ⟨Rk.out.1.below hb, Rk.out.2⟩
    have Rv : Hid (RdP w8 av lv ((rs.add n).1) Fv ∧ lv ≤ 32) := ⟨rr, by rw [← rr.length]; have := add_length rs n; have := HLS.out; omega⟩
    clear rr oo hb nn
    go_wp2_with fail
    refine (addSpec_any' _ _ _ rs n _ _ Ss.out.rd.choose_spec (by have := Ss.out.len; omega) Ss.out.some).mono ?_
    rintro e w9 ⟨ay, ly, cy, Fy, rfl, rr, oo, hb, nn⟩
    have BEL : Hid (Below w.heap.size w w9) := Below.next BEL.out hb
    have Sa : Hid (SetAt w9 aa la ca ps) := Sa.out.below hb
    have Sb : Hid (SetAt w9 ab lb cb qs) := Sb.out.below hb
    have Ss : Hid (SetAt w9 as' ls cs rs) := Ss.out.below hb
    have Rj : Hid (RdP w9 aj lj (ps.join qs) Fj ∧ lj ≤ 32) := ⟨Rj.out.1.below hb, Rj.out.2⟩
    have Rk : Hid (RdP w9 ak lk (qs.join ps) Fk ∧ lk ≤ 32) := ⟨Rk.out.1.below hb, Rk.out.2⟩
    have Rv : Hid (RdP w9 av lv ((rs.add n).1) Fv ∧ lv ≤ 32) := ⟨Rv.out.1.below hb, Rv.out.2⟩
    clear rr oo hb nn
    obtain ⟨m, hm⟩ : ∃ d, d = (rs.add n).2 := ⟨_, rfl⟩
    rw [← hm]
    have HM : Hid (m = (rs.add n).2) := hm
    clear hm
    have hmm : (m != m) = false := by simp
    cases m
    · have hx0 : True := trivial
      have HLV : Hid (LiveS w aa la ca ps ab lb cb qs aj lj Fj ak lk Fk w9) := ⟨BEL.out, Sa.out, Sb.out, Rj.out, Rk.out⟩
      clear BEL Sa Sb Rj Rk Ss Rv
      go_wp2
      go_loopw [17] (fun i wr => ∃ k : Nat, k ≤ 30 ∧ i = .int .i64 k ∧ Hid (LiveS w aa la ca ps ab lb cb qs aj lj Fj ak lk Fk wr)) (fun i _ => 30 - (intOf i).toNat)
      case atStart => exact ⟨0, by omega, rfl, HLV⟩
      case round =>
        clear HLV
        obtain ⟨k, hk, rfl, HLV⟩ := hrel
        have BEL : Hid (Below w.heap.size w wr) := HLV.out.bel
        have Sa : Hid (SetAt wr aa la ca ps) := HLV.out.sa
        have Sb : Hid (SetAt wr ab lb cb qs) := HLV.out.sb
        have Rj : Hid (RdP wr aj lj (ps.join qs) Fj ∧ lj ≤ 32) := HLV.out.rj
        have Rk : Hid (RdP wr ak lk (qs.join ps) Fk ∧ lk ≤ 32) := HLV.out.rk
        clear HLV
        by_cases hlt : k < 30
        · have hI : (k : Int) < 30 := by omega
          have HJH : Hid ((ps.join qs).has k = (ps.has k || qs.has k)) := (join_right HOK.out.1 HOK.out.2).2 k
          go_wp2_with fail
          refine (hasImpl_any _ _ _ (ps.join qs) (k : Int) _ _ Rj.out.1 (by have := Rj.out.2; omega)).mono ?_
          rintro e w10 ⟨rfl, hb⟩
          have BEL : Hid (Below w.heap.size w w10) := Below.next BEL.out hb
          have Sa : Hid (SetAt w10 aa la ca ps) := Sa.out.below hb
          have Sb : Hid (SetAt w10 ab lb cb qs) := Sb.out.below hb
          have Rj : Hid (RdP w10 aj lj (ps.join qs) Fj ∧ lj ≤ 32) := ⟨Rj.out.1.below hb, Rj.out.2⟩
          have Rk : Hid (RdP w10 ak lk (qs.join ps) Fk ∧ lk ≤ 32) := ⟨Rk.out.1.below hb, Rk.out.2⟩
          clear hb
          go_wp2_with fail
          refine (hasImpl_any _ _ _ (ps) (k : Int) _ _ Sa.out.rd.choose_spec (by have := Sa.out.len; omega)).mono ?_
          rintro e w11 ⟨rfl, hb⟩
          have BEL : Hid (Below w.heap.size w w11) := Below.next BEL.out hb
          have Sa : Hid (SetAt w11 aa la ca ps) := Sa.out.below hb
          have Sb : Hid (SetAt w11 ab lb cb qs) := Sb.out.below hb
          have Rj : Hid (RdP w11 aj lj (ps.join qs) Fj ∧ lj ≤ 32) := ⟨Rj.out.1.below hb, Rj.out.2⟩
          have Rk : Hid (RdP w11 ak lk (qs.join ps) Fk ∧ lk ≤ 32) := ⟨Rk.out.1.below hb, Rk.out.2⟩
          clear hb
          rw [HJH.out]
          obtain ⟨u, hu⟩ : ∃ b, b = ps.has k := ⟨_, rfl⟩
          rw [← hu]
          clear hu HJH
          cases u
          · have hx : True := trivial
            go_wp2_with fail
            refine (hasImpl_any _ _ _ (qs) (k : Int) _ _ Sb.out.rd.choose_spec (by have := Sb.out.len; omega)).mono ?_
            rintro e w12 ⟨rfl, hb⟩
            have BEL : Hid (Below w.heap.size w w12) := Below.next BEL.out hb
            have Sa : Hid (SetAt w12 aa la ca ps) := Sa.out.below hb
            have Sb : Hid (SetAt w12 ab lb cb qs) := Sb.out.below hb
            have Rj : Hid (RdP w12 aj lj (ps.join qs) Fj ∧ lj ≤ 32) := ⟨Rj.out.1.below hb, Rj.out.2⟩
            have Rk : Hid (RdP w12 ak lk (qs.join ps) Fk ∧ lk ≤ 32) := ⟨Rk.out.1.below hb, Rk.out.2⟩
            clear hb
            obtain ⟨v, hv⟩ : ∃ b, b = qs.has k := ⟨_, rfl⟩
            rw [← hv]
            clear hv
            have hvv : (v != v) = false := by simp
            have HL2 : Hid (LiveS w aa la ca ps ab lb cb qs aj lj Fj ak lk Fk w12) := ⟨BEL.out, Sa.out, Sb.out, Rj.out, Rk.out⟩
            clear BEL Sa Sb Rj Rk
            go_wp2
            go_roundw
            case rel => exact ⟨k + 1, by omega, by go_num, HL2⟩
            case measure => simp [intOf]; omega
          · have HL2 : Hid (LiveS w aa la ca ps ab lb cb qs aj lj Fj ak lk Fk w11) := ⟨BEL.out, Sa.out, Sb.out, Rj.out, Rk.out⟩
            clear BEL Sa Sb Rj Rk
            go_wp2
            go_roundw
            case rel => exact ⟨k + 1, by omega, by go_num, HL2⟩
            case measure => simp [intOf]; omega
        · obtain rfl : k = 30 := by omega
          have HIJ : Hid ((ps.join qs).in64) := ok_in64 (join_right HOK.out.1 HOK.out.2).1
          have HIK : Hid ((qs.join ps).in64) := ok_in64 (join_right HOK.out.2 HOK.out.1).1
          have HJK : Hid (qs.join ps = ps.join qs) := join_comm HOK.out.2 HOK.out.1
          go_wp2_with fail
          refine (textImplP_any _ _ _ (ps.join qs) _ _ Rj.out.1 (by have := Rj.out.2; omega) HIJ.out gTab (tab_below gTab HTAB.out BEL.out)).mono ?_
          rintro e w10 ⟨rfl, hb⟩
          have BEL : Hid (Below w.heap.size w w10) := Below.next BEL.out hb
          have Sa : Hid (SetAt w10 aa la ca ps) := Sa.out.below hb
          have Sb : Hid (SetAt w10 ab lb cb qs) := Sb.out.below hb
          have Rj : Hid (RdP w10 aj lj (ps.join qs) Fj ∧ lj ≤ 32) := ⟨Rj.out.1.below hb, Rj.out.2⟩
          have Rk : Hid (RdP w10 ak lk (qs.join ps) Fk ∧ lk ≤ 32) := ⟨Rk.out.1.below hb, Rk.out.2⟩
          clear hb
          go_wp2_with fail
          refine (textImplP_any _ _ _ (qs.join ps) _ _ Rk.out.1 (by have := Rk.out.2; omega) HIK.out gTab (tab_below gTab HTAB.out BEL.out)).mono ?_
          rintro e w11 ⟨rfl, hb⟩
          have BEL : Hid (Below w.heap.size w w11) := Below.next BEL.out hb
          have Sa : Hid (SetAt w11 aa la ca ps) := Sa.out.below hb
          have Sb : Hid (SetAt w11 ab lb cb qs) := Sb.out.below hb
          have Rj : Hid (RdP w11 aj lj (ps.join qs) Fj ∧ lj ≤ 32) := ⟨Rj.out.1.below hb, Rj.out.2⟩
          have Rk : Hid (RdP w11 ak lk (qs.join ps) Fk ∧ lk ≤ 32) := ⟨Rk.out.1.below hb, Rk.out.2⟩
          clear hb
          rw [HJK.out]
          obtain ⟨tx, htx⟩ : ∃ b, b = (ps.join qs).text := ⟨_, rfl⟩
          rw [← htx]
          clear htx
          go_wp2_with fail
          refine (setOkImpl_any _ _ _ (ps.join qs) _ _ Rj.out.1 (by have := Rj.out.2; omega)).mono ?_
          rintro e w12 ⟨rfl, hb⟩
          have BEL : Hid (Below w.heap.size w w12) := Below.next BEL.out hb
          have Sa : Hid (SetAt w12 aa la ca ps) := Sa.out.below hb
          have Sb : Hid (SetAt w12 ab lb cb qs) := Sb.out.below hb
          have Rj : Hid (RdP w12 aj lj (ps.join qs) Fj ∧ lj ≤ 32) := ⟨Rj.out.1.below hb, Rj.out.2⟩
          have Rk : Hid (RdP w12 ak lk (qs.join ps) Fk ∧ lk ≤ 32) := ⟨Rk.out.1.below hb, Rk.out.2⟩
          clear hb
          rw [(join_right HOK.out.1 HOK.out.2).1]
          have HSZ := join_size HOK.out.1 HOK.out.2
          obtain ⟨sj, hsj⟩ : ∃ z, z = (ps.join qs).size := ⟨_, rfl⟩
          obtain ⟨sa, hsa⟩ : ∃ z, z = ps.size := ⟨_, rfl⟩
          obtain ⟨sb, hsb⟩ : ∃ z, z = qs.size := ⟨_, rfl⟩
          have hja := size_le (join_right HOK.out.1 HOK.out.2).1 (by have := Rj.out.1.length; have := Rj.out.2; omega)
          have haa := size_le HOK.out.1 (by have := HLN.out.1; omega)
          have hbb := size_le HOK.out.2 (by have := HLN.out.2; omega)
          rw [← hsj, ← hsa, ← hsb] at HSZ
          rw [← hsj] at hja
          rw [← hsa] at haa
          rw [← hsb] at hbb
          have HZ : Hid ((sj = (ps.join qs).size ∧ sa = ps.size ∧ sb = qs.size) ∧ (f = true ↔ sj = sa + sb)) := ⟨⟨hsj, hsa, hsb⟩, by rw [HFA.out]; exact HSZ.2⟩
          have j0 := hja.1
          have j1 := hja.2
          have k0 := haa.1
          have k1 := haa.2
          have m0 := hbb.1
          have m1 := hbb.2
          have hle : decide (sj ≤ sa + sb) = true := decT HSZ.1
          have heq : (sj == sa + sb) = f := by
            rw [Bool.eq_iff_iff, HZ.out.2]
            simp
          clear hsj hsa hsb hja haa hbb HSZ
          go_wp2_with fail
          refine (sizeImpl_any _ _ _ (ps.join qs) _ _ Rj.out.1 (by have := Rj.out.2; omega)).mono ?_
          rintro e w13 ⟨rfl, hb⟩
          have BEL : Hid (Below w.heap.size w w13) := Below.next BEL.out hb
          have Sa : Hid (SetAt w13 aa la ca ps) := Sa.out.below hb
          have Sb : Hid (SetAt w13 ab lb cb qs) := Sb.out.below hb
          have Rj : Hid (RdP w13 aj lj (ps.join qs) Fj ∧ lj ≤ 32) := ⟨Rj.out.1.below hb, Rj.out.2⟩
          have Rk : Hid (RdP w13 ak lk (qs.join ps) Fk ∧ lk ≤ 32) := ⟨Rk.out.1.below hb, Rk.out.2⟩
          clear hb
          rw [← HZ.out.1.1]
          go_wp2_with fail
          refine (sizeImpl_any _ _ _ (ps) _ _ Sa.out.rd.choose_spec (by have := Sa.out.len; omega)).mono ?_
          rintro e w14 ⟨rfl, hb⟩
          have BEL : Hid (Below w.heap.size w w14) := Below.next BEL.out hb
          have Sa : Hid (SetAt w14 aa la ca ps) := Sa.out.below hb
          have Sb : Hid (SetAt w14 ab lb cb qs) := Sb.out.below hb
          have Rj : Hid (RdP w14 aj lj (ps.join qs) Fj ∧ lj ≤ 32) := ⟨Rj.out.1.below hb, Rj.out.2⟩
          have Rk : Hid (RdP w14 ak lk (qs.join ps) Fk ∧ lk ≤ 32) := ⟨Rk.out.1.below hb, Rk.out.2⟩
          clear hb
          rw [← HZ.out.1.2.1]
          go_wp2_with fail
          refine (sizeImpl_any _ _ _ (qs) _ _ Sb.out.rd.choose_spec (by have := Sb.out.len; omega)).mono ?_
          rintro e w15 ⟨rfl, hb⟩
          have BEL : Hid (Below w.heap.size w w15) := Below.next BEL.out hb
          have Sa : Hid (SetAt w15 aa la ca ps) := Sa.out.below hb
          have Sb : Hid (SetAt w15 ab lb cb qs) := Sb.out.below hb
          have Rj : Hid (RdP w15 aj lj (ps.join qs) Fj ∧ lj ≤ 32) := ⟨Rj.out.1.below hb, Rj.out.2⟩
          have Rk : Hid (RdP w15 ak lk (qs.join ps) Fk ∧ lk ≤ 32) := ⟨Rk.out.1.below hb, Rk.out.2⟩
          clear hb
          rw [← HZ.out.1.2.2]
          go_wp2_with fail
          refine (apartImpl_any _ _ _ _ _ _ ps qs _ _ _ Sa.out.rd.choose_spec Sb.out.rd.choose_spec (by have := Sa.out.len; omega) (by have := Sb.out.len; omega) Sa.out.cap Sb.out.cap).mono ?_
          rintro e w16 ⟨rfl, hb⟩
          have BEL : Hid (Below w.heap.size w w16) := Below.next BEL.out hb
          have Sa : Hid (SetAt w16 aa la ca ps) := Sa.out.below hb
          have Sb : Hid (SetAt w16 ab lb cb qs) := Sb.out.below hb
          have Rj : Hid (RdP w16 aj lj (ps.join qs) Fj ∧ lj ≤ 32) := ⟨Rj.out.1.below hb, Rj.out.2⟩
          have Rk : Hid (RdP w16 ak lk (qs.join ps) Fk ∧ lk ≤ 32) := ⟨Rk.out.1.below hb, Rk.out.2⟩
          clear hb
          rw [← HFA.out]
          go_wp2_with fail
          refine (sizeImpl_any _ _ _ (ps.join qs) _ _ Rj.out.1 (by have := Rj.out.2; omega)).mono ?_
          rintro e w17 ⟨rfl, hb⟩
          have BEL : Hid (Below w.heap.size w w17) := Below.next BEL.out hb
          have Sa : Hid (SetAt w17 aa la ca ps) := Sa.out.below hb
          have Sb : Hid (SetAt w17 ab lb cb qs) := Sb.out.below hb
          have Rj : Hid (RdP w17 aj lj (ps.join qs) Fj ∧ lj ≤ 32) := ⟨Rj.out.1.below hb, Rj.out.2⟩
          have Rk : Hid (RdP w17 ak lk (qs.join ps) Fk ∧ lk ≤ 32) := ⟨Rk.out.1.below hb, Rk.out.2⟩
          clear hb
          rw [← HZ.out.1.1]
          go_wp2_with fail
          refine (sizeImpl_any _ _ _ (ps) _ _ Sa.out.rd.choose_spec (by have := Sa.out.len; omega)).mono ?_
          rintro e w18 ⟨rfl, hb⟩
          have BEL : Hid (Below w.heap.size w w18) := Below.next BEL.out hb
          have Sa : Hid (SetAt w18 aa la ca ps) := Sa.out.below hb
          have Sb : Hid (SetAt w18 ab lb cb qs) := Sb.out.below hb
          have Rj : Hid (RdP w18 aj lj (ps.join qs) Fj ∧ lj ≤ 32) := ⟨Rj.out.1.below hb, Rj.out.2⟩
          have Rk : Hid (RdP w18 ak lk (qs.join ps) Fk ∧ lk ≤ 32) := ⟨Rk.out.1.below hb, Rk.out.2⟩
          clear hb
          rw [← HZ.out.1.2.1]
          go_wp2_with fail
          refine (sizeImpl_any _ _ _ (qs) _ _ Sb.out.rd.choose_spec (by have := Sb.out.len; omega)).mono ?_
          rintro e w19 ⟨rfl, hb⟩
          have BEL : Hid (Below w.heap.size w w19) := Below.next BEL.out hb
          have Sa : Hid (SetAt w19 aa la ca ps) := Sa.out.below hb
          have Sb : Hid (SetAt w19 ab lb cb qs) := Sb.out.below hb
          have Rj : Hid (RdP w19 aj lj (ps.join qs) Fj ∧ lj ≤ 32) := ⟨Rj.out.1.below hb, Rj.out.2⟩
          have Rk : Hid (RdP w19 ak lk (qs.join ps) Fk ∧ lk ≤ 32) := ⟨Rk.out.1.below hb, Rk.out.2⟩
          clear hb
          rw [← HZ.out.1.2.2]
          have hfe : (f == f) = true := by simp
          go_wp2
          go_ret
          exact ⟨rfl, BEL.out⟩
    · have HAR := add_right HM.out.symm
      have HR1 : Hid ((rs.add n).1.has n = true) := HAR.1
      have HR2 : Hid ((rs.add n).1.size = rs.size + 1) := HAR.2.1
      have HR3 : Hid (rs.has n = false) := HAR.2.2
      clear HAR
      have hsr := size_abs rs (by have := HLS.out; omega)
      obtain ⟨sr, hsr2⟩ : ∃ z, z = rs.size := ⟨_, rfl⟩
      rw [← hsr2] at hsr
      have r0 := hsr.1
      have r1 := hsr.2
      have HSR : Hid (sr = rs.size) := hsr2
      have hnn : ((sr + 1) != (sr + 1)) = false := by simp
      clear hsr hsr2
      go_wp2_with fail
      refine (hasImpl_any _ _ _ ((rs.add n).1) n _ _ Rv.out.1 (by have := Rv.out.2; omega)).mono ?_
      rintro e w10 ⟨rfl, hb⟩
      have BEL : Hid (Below w.heap.size w w10) := Below.next BEL.out hb
      have Sa : Hid (SetAt w10 aa la ca ps) := Sa.out.below hb
      have Sb : Hid (SetAt w10 ab lb cb qs) := Sb.out.below hb
      have Ss : Hid (SetAt w10 as' ls cs rs) := Ss.out.below hb
      have Rj : Hid (RdP w10 aj lj (ps.join qs) Fj ∧ lj ≤ 32) := ⟨Rj.out.1.below hb, Rj.out.2⟩
      have Rk : Hid (RdP w10 ak lk (qs.join ps) Fk ∧ lk ≤ 32) := ⟨Rk.out.1.below hb, Rk.out.2⟩
      have Rv : Hid (RdP w10 av lv ((rs.add n).1) Fv ∧ lv ≤ 32) := ⟨Rv.out.1.below hb, Rv.out.2⟩
      clear hb
      rw [HR1.out]
      go_wp2_with fail
      refine (sizeImpl_any _ _ _ ((rs.add n).1) _ _ Rv.out.1 (by have := Rv.out.2; omega)).mono ?_
      rintro e w11 ⟨rfl, hb⟩
      have BEL : Hid (Below w.heap.size w w11) := Below.next BEL.out hb
      have Sa : Hid (SetAt w11 aa la ca ps) := Sa.out.below hb
      have Sb : Hid (SetAt w11 ab lb cb qs) := Sb.out.below hb
      have Ss : Hid (SetAt w11 as' ls cs rs) := Ss.out.below hb
      have Rj : Hid (RdP w11 aj lj (ps.join qs) Fj ∧ lj ≤ 32) := ⟨Rj.out.1.below hb, Rj.out.2⟩
      have Rk : Hid (RdP w11 ak lk (qs.join ps) Fk ∧ lk ≤ 32) := ⟨Rk.out.1.below hb, Rk.out.2⟩
      have Rv : Hid (RdP w11 av lv ((rs.add n).1) Fv ∧ lv ≤ 32) := ⟨Rv.out.1.below hb, Rv.out.2⟩
      clear hb
      rw [HR2.out, ← HSR.out]
      go_wp2_with fail
      refine (sizeImpl_any _ _ _ (rs) _ _ Ss.out.rd.choose_spec (by have := Ss.out.len; omega)).mono ?_
      rintro e w12 ⟨rfl, hb⟩
      have BEL : Hid (Below w.heap.size w w12) := Below.next BEL.out hb
      have Sa : Hid (SetAt w12 aa la ca ps) := Sa.out.below hb
      have Sb : Hid (SetAt w12 ab lb cb qs) := Sb.out.below hb
      have Ss : Hid (SetAt w12 as' ls cs rs) := Ss.out.below hb
      have Rj : Hid (RdP w12 aj lj (ps.join qs) Fj ∧ lj ≤ 32) := ⟨Rj.out.1.below hb, Rj.out.2⟩
      have Rk : Hid (RdP w12 ak lk (qs.join ps) Fk ∧ lk ≤ 32) := ⟨Rk.out.1.below hb, Rk.out.2⟩
      have Rv : Hid (RdP w12 av lv ((rs.add n).1) Fv ∧ lv ≤ 32) := ⟨Rv.out.1.below hb, Rv.out.2⟩
      clear hb
      rw [← HSR.out]
      go_wp2_with fail
      refine (hasImpl_any _ _ _ (rs) n _ _ Ss.out.rd.choose_spec (by have := Ss.out.len; omega)).mono ?_
      rintro e w13 ⟨rfl, hb⟩
      have BEL : Hid (Below w.heap.size w w13) := Below.next BEL.out hb
      have Sa : Hid (SetAt w13 aa la ca ps) := Sa.out.below hb
      have Sb : Hid (SetAt w13 ab lb cb qs) := Sb.out.below hb
      have Ss : Hid (SetAt w13 as' ls cs rs) := Ss.out.below hb
      have Rj : Hid (RdP w13 aj lj (ps.join qs) Fj ∧ lj ≤ 32) := ⟨Rj.out.1.below hb, Rj.out.2⟩
      have Rk : Hid (RdP w13 ak lk (qs.join ps) Fk ∧ lk ≤ 32) := ⟨Rk.out.1.below hb, Rk.out.2⟩
      have Rv : Hid (RdP w13 av lv ((rs.add n).1) Fv ∧ lv ≤ 32) := ⟨Rv.out.1.below hb, Rv.out.2⟩
      clear hb
      rw [HR3.out]
      have HLV : Hid (LiveS w aa la ca ps ab lb cb qs aj lj Fj ak lk Fk w13) := ⟨BEL.out, Sa.out, Sb.out, Rj.out, Rk.out⟩
      clear BEL Sa Sb Rj Rk Ss Rv
      go_wp2
      go_loopw [17] (fun i wr => ∃ k : Nat, k ≤ 30 ∧ i = .int .i64 k ∧ Hid (LiveS w aa la ca ps ab lb cb qs aj lj Fj ak lk Fk wr)) (fun i _ => 30 - (intOf i).toNat)
      case atStart => exact ⟨0, by omega, rfl, HLV⟩
      case round =>
        clear HLV
        obtain ⟨k, hk, rfl, HLV⟩ := hrel
        have BEL : Hid (Below w.heap.size w wr) := HLV.out.bel
        have Sa : Hid (SetAt wr aa la ca ps) := HLV.out.sa
        have Sb : Hid (SetAt wr ab lb cb qs) := HLV.out.sb
        have Rj : Hid (RdP wr aj lj (ps.join qs) Fj ∧ lj ≤ 32) := HLV.out.rj
        have Rk : Hid (RdP wr ak lk (qs.join ps) Fk ∧ lk ≤ 32) := HLV.out.rk
        clear HLV
        by_cases hlt : k < 30
        · have hI : (k : Int) < 30 := by omega
          have HJH : Hid ((ps.join qs).has k = (ps.has k || qs.has k)) := (join_right HOK.out.1 HOK.out.2).2 k
          go_wp2_with fail
          refine (hasImpl_any _ _ _ (ps.join qs) (k : Int) _ _ Rj.out.1 (by have := Rj.out.2; omega)).mono ?_
          rintro e w14 ⟨rfl, hb⟩
          have BEL : Hid (Below w.heap.size w w14) := Below.next BEL.out hb
          have Sa : Hid (SetAt w14 aa la ca ps) := Sa.out.below hb
          have Sb : Hid (SetAt w14 ab lb cb qs) := Sb.out.below hb
          have Rj : Hid (RdP w14 aj lj (ps.join qs) Fj ∧ lj ≤ 32) := ⟨Rj.out.1.below hb, Rj.out.2⟩
          have Rk : Hid (RdP w14 ak lk (qs.join ps) Fk ∧ lk ≤ 32) := ⟨Rk.out.1.below hb, Rk.out.2⟩
          clear hb
          go_wp2_with fail
          refine (hasImpl_any _ _ _ (ps) (k : Int) _ _ Sa.out.rd.choose_spec (by have := Sa.out.len; omega)).mono ?_
          rintro e w15 ⟨rfl, hb⟩
          have BEL : Hid (Below w.heap.size w w15) := Below.next BEL.out hb
          have Sa : Hid (SetAt w15 aa la ca ps) := Sa.out.below hb
          have Sb : Hid (SetAt w15 ab lb cb qs) := Sb.out.below hb
          have Rj : Hid (RdP w15 aj lj (ps.join qs) Fj ∧ lj ≤ 32) := ⟨Rj.out.1.below hb, Rj.out.2⟩
          have Rk : Hid (RdP w15 ak lk (qs.join ps) Fk ∧ lk ≤ 32) := ⟨Rk.out.1.below hb, Rk.out.2⟩
          clear hb
          rw [HJH.out]
          obtain ⟨u, hu⟩ : ∃ b, b = ps.has k := ⟨_, rfl⟩
          rw [← hu]
          clear hu HJH
          cases u
          · have hx : True := trivial
            go_wp2_with fail
            refine (hasImpl_any _ _ _ (qs) (k : Int) _ _ Sb.out.rd.choose_spec (by have := Sb.out.len; omega)).mono ?_
            rintro e w16 ⟨rfl, hb⟩
            have BEL : Hid (Below w.heap.size w w16) := Below.next BEL.out hb
            have Sa : Hid (SetAt w16 aa la ca ps) := Sa.out.below hb
            have Sb : Hid (SetAt w16 ab lb cb qs) := Sb.out.below hb
            have Rj : Hid (RdP w16 aj lj (ps.join qs) Fj ∧ lj ≤ 32) := ⟨Rj.out.1.below hb, Rj.out.2⟩
            have Rk : Hid (RdP w16 ak lk (qs.join ps) Fk ∧ lk ≤ 32) := ⟨Rk.out.1.below hb, Rk.out.2⟩
            clear hb
            obtain ⟨v, hv⟩ : ∃ b, b = qs.has k := ⟨_, rfl⟩
            rw [← hv]
            clear hv
            have hvv : (v != v) = false := by simp
            have HL2 : Hid (LiveS w aa la ca ps ab lb cb qs aj lj Fj ak lk Fk w16) := ⟨BEL.out, Sa.out, Sb.out, Rj.out, Rk.out⟩
            clear BEL Sa Sb Rj Rk
            go_wp2
            go_roundw
            case rel => exact ⟨k + 1, by omega, by go_num, HL2⟩
            case measure => simp [intOf]; omega
          · have HL2 : Hid (LiveS w aa la ca ps ab lb cb qs aj lj Fj ak lk Fk w15) := ⟨BEL.out, Sa.out, Sb.out, Rj.out, Rk.out⟩
            clear BEL Sa Sb Rj Rk
            go_wp2
            go_roundw
            case rel => exact ⟨k + 1, by omega, by go_num, HL2⟩
            case measure => simp [intOf]; omega
        · obtain rfl : k = 30 := by omega
          have HIJ : Hid ((ps.join qs).in64) := ok_in64 (join_right HOK.out.1 HOK.out.2).1
          have HIK : Hid ((qs.join ps).in64) := ok_in64 (join_right HOK.out.2 HOK.out.1).1
          have HJK : Hid (qs.join ps = ps.join qs) := join_comm HOK.out.2 HOK.out.1
          go_wp2_with fail
          refine (textImplP_any _ _ _ (ps.join qs) _ _ Rj.out.1 (by have := Rj.out.2; omega) HIJ.out gTab (tab_below gTab HTAB.out BEL.out)).mono ?_
          rintro e w14 ⟨rfl, hb⟩
          have BEL : Hid (Below w.heap.size w w14) := Below.next BEL.out hb
          have Sa : Hid (SetAt w14 aa la ca ps) := Sa.out.below hb
          have Sb : Hid (SetAt w14 ab lb cb qs) := Sb.out.below hb
          have Rj : Hid (RdP w14 aj lj (ps.join qs) Fj ∧ lj ≤ 32) := ⟨Rj.out.1.below hb, Rj.out.2⟩
          have Rk : Hid (RdP w14 ak lk (qs.join ps) Fk ∧ lk ≤ 32) := ⟨Rk.out.1.below hb, Rk.out.2⟩
          clear hb
          go_wp2_with fail
          refine (textImplP_any _ _ _ (qs.join ps) _ _ Rk.out.1 (by have := Rk.out.2; omega) HIK.out gTab (tab_below gTab HTAB.out BEL.out)).mono ?_
          rintro e w15 ⟨rfl, hb⟩
          have BEL : Hid (Below w.heap.size w w15) := Below.next BEL.out hb
          have Sa : Hid (SetAt w15 aa la ca ps) := Sa.out.below hb
          have Sb : Hid (SetAt w15 ab lb cb qs) := Sb.out.below hb
          have Rj : Hid (RdP w15 aj lj (ps.join qs) Fj ∧ lj ≤ 32) := ⟨Rj.out.1.below hb, Rj.out.2⟩
          have Rk : Hid (RdP w15 ak lk (qs.join ps) Fk ∧ lk ≤ 32) := ⟨Rk.out.1.below hb, Rk.out.2⟩
          clear hb
          rw [HJK.out]
          obtain ⟨tx, htx⟩ : ∃ b, b = (ps.join qs).text := ⟨_, rfl⟩
          rw [← htx]
          clear htx
          go_wp2_with fail
          refine (setOkImpl_any _ _ _ (ps.join qs) _ _ Rj.out.1 (by have := Rj.out.2; omega)).mono ?_
          rintro e w16 ⟨rfl, hb⟩
          have BEL : Hid (Below w.heap.size w w16) := Below.next BEL.out hb
          have Sa : Hid (SetAt w16 aa la ca ps) := Sa.out.below hb
          have Sb : Hid (SetAt w16 ab lb cb qs) := Sb.out.below hb
          have Rj : Hid (RdP w16 aj lj (ps.join qs) Fj ∧ lj ≤ 32) := ⟨Rj.out.1.below hb, Rj.out.2⟩
          have Rk : Hid (RdP w16 ak lk (qs.join ps) Fk ∧ lk ≤ 32) := ⟨Rk.out.1.below hb, Rk.out.2⟩
          clear hb
          rw [(join_right HOK.out.1 HOK.out.2).1]
          have HSZ := join_size HOK.out.1 HOK.out.2
          obtain ⟨sj, hsj⟩ : ∃ z, z = (ps.join qs).size := ⟨_, rfl⟩
          obtain ⟨sa, hsa⟩ : ∃ z, z = ps.size := ⟨_, rfl⟩
          obtain ⟨sb, hsb⟩ : ∃ z, z = qs.size := ⟨_, rfl⟩
          have hja := size_le (join_right HOK.out.1 HOK.out.2).1 (by have := Rj.out.1.length; have := Rj.out.2; omega)
          have haa := size_le HOK.out.1 (by have := HLN.out.1; omega)
          have hbb := size_le HOK.out.2 (by have := HLN.out.2; omega)
          rw [← hsj, ← hsa, ← hsb] at HSZ
          rw [← hsj] at hja
          rw [← hsa] at haa
          rw [← hsb] at hbb
          have HZ : Hid ((sj = (ps.join qs).size ∧ sa = ps.size ∧ sb = qs.size) ∧ (f = true ↔ sj = sa + sb)) := ⟨⟨hsj, hsa, hsb⟩, by rw [HFA.out]; exact HSZ.2⟩
          have j0 := hja.1
          have j1 := hja.2
          have k0 := haa.1
          have k1 := haa.2
          have m0 := hbb.1
          have m1 := hbb.2
          have hle : decide (sj ≤ sa + sb) = true := decT HSZ.1
          have heq : (sj == sa + sb) = f := by
            rw [Bool.eq_iff_iff, HZ.out.2]
            simp
          clear hsj hsa hsb hja haa hbb HSZ
          go_wp2_with fail
          refine (sizeImpl_any _ _ _ (ps.join qs) _ _ Rj.out.1 (by have := Rj.out.2; omega)).mono ?_
          rintro e w17 ⟨rfl, hb⟩
          have BEL : Hid (Below w.heap.size w w17) := Below.next BEL.out hb
          have Sa : Hid (SetAt w17 aa la ca ps) := Sa.out.below hb
          have Sb : Hid (SetAt w17 ab lb cb qs) := Sb.out.below hb
          have Rj : Hid (RdP w17 aj lj (ps.join qs) Fj ∧ lj ≤ 32) := ⟨Rj.out.1.below hb, Rj.out.2⟩
          have Rk : Hid (RdP w17 ak lk (qs.join ps) Fk ∧ lk ≤ 32) := ⟨Rk.out.1.below hb, Rk.out.2⟩
          clear hb
          rw [← HZ.out.1.1]
          go_wp2_with fail
          refine (sizeImpl_any _ _ _ (ps) _ _ Sa.out.rd.choose_spec (by have := Sa.out.len; omega)).mono ?_
          rintro e w18 ⟨rfl, hb⟩
          have BEL : Hid (Below w.heap.size w w18) := Below.next BEL.out hb
          have Sa : Hid (SetAt w18 aa la ca ps) := Sa.out.below hb
          have Sb : Hid (SetAt w18 ab lb cb qs) := Sb.out.below hb
          have Rj : Hid (RdP w18 aj lj (ps.join qs) Fj ∧ lj ≤ 32) := ⟨Rj.out.1.below hb, Rj.out.2⟩
          have Rk : Hid (RdP w18 ak lk (qs.join ps) Fk ∧ lk ≤ 32) := ⟨Rk.out.1.below hb, Rk.out.2⟩
          clear hb
          rw [← HZ.out.1.2.1]
          go_wp2_with fail
          refine (sizeImpl_any _ _ _ (qs) _ _ Sb.out.rd.choose_spec (by have := Sb.out.len; omega)).mono ?_
          rintro e w19 ⟨rfl, hb⟩
          have BEL : Hid (Below w.heap.size w w19) := Below.next BEL.out hb
          have Sa : Hid (SetAt w19 aa la ca ps) := Sa.out.below hb
          have Sb : Hid (SetAt w19 ab lb cb qs) := Sb.out.below hb
          have Rj : Hid (RdP w19 aj lj (ps.join qs) Fj ∧ lj ≤ 32) := ⟨Rj.out.1.below hb, Rj.out.2⟩
          have Rk : Hid (RdP w19 ak lk (qs.join ps) Fk ∧ lk ≤ 32) := ⟨Rk.out.1.below hb, Rk.out.2⟩
          clear hb
          rw [← HZ.out.1.2.2]
          go_wp2_with fail
          refine (apartImpl_any _ _ _ _ _ _ ps qs _ _ _ Sa.out.rd.choose_spec Sb.out.rd.choose_spec (by have := Sa.out.len; omega) (by have := Sb.out.len; omega) Sa.out.cap Sb.out.cap).mono ?_
          rintro e w20 ⟨rfl, hb⟩
          have BEL : Hid (Below w.heap.size w w20) := Below.next BEL.out hb
          have Sa : Hid (SetAt w20 aa la ca ps) := Sa.out.below hb
          have Sb : Hid (SetAt w20 ab lb cb qs) := Sb.out.below hb
          have Rj : Hid (RdP w20 aj lj (ps.join qs) Fj ∧ lj ≤ 32) := ⟨Rj.out.1.below hb, Rj.out.2⟩
          have Rk : Hid (RdP w20 ak lk (qs.join ps) Fk ∧ lk ≤ 32) := ⟨Rk.out.1.below hb, Rk.out.2⟩
          clear hb
          rw [← HFA.out]
          go_wp2_with fail
          refine (sizeImpl_any _ _ _ (ps.join qs) _ _ Rj.out.1 (by have := Rj.out.2; omega)).mono ?_
          rintro e w21 ⟨rfl, hb⟩
          have BEL : Hid (Below w.heap.size w w21) := Below.next BEL.out hb
          have Sa : Hid (SetAt w21 aa la ca ps) := Sa.out.below hb
          have Sb : Hid (SetAt w21 ab lb cb qs) := Sb.out.below hb
          have Rj : Hid (RdP w21 aj lj (ps.join qs) Fj ∧ lj ≤ 32) := ⟨Rj.out.1.below hb, Rj.out.2⟩
          have Rk : Hid (RdP w21 ak lk (qs.join ps) Fk ∧ lk ≤ 32) := ⟨Rk.out.1.below hb, Rk.out.2⟩
          clear hb
          rw [← HZ.out.1.1]
          go_wp2_with fail
          refine (sizeImpl_any _ _ _ (ps) _ _ Sa.out.rd.choose_spec (by have := Sa.out.len; omega)).mono ?_
          rintro e w22 ⟨rfl, hb⟩
          have BEL : Hid (Below w.heap.size w w22) := Below.next BEL.out hb
          have Sa : Hid (SetAt w22 aa la ca ps) := Sa.out.below hb
          have Sb : Hid (SetAt w22 ab lb cb qs) := Sb.out.below hb
          have Rj : Hid (RdP w22 aj lj (ps.join qs) Fj ∧ lj ≤ 32) := ⟨Rj.out.1.below hb, Rj.out.2⟩
          have Rk : Hid (RdP w22 ak lk (qs.join ps) Fk ∧ lk ≤ 32) := ⟨Rk.out.1.below hb, Rk.out.2⟩
          clear hb
          rw [← HZ.out.1.2.1]
          go_wp2_with fail
          refine (sizeImpl_any _ _ _ (qs) _ _ Sb.out.rd.choose_spec (by have := Sb.out.len; omega)).mono ?_
          rintro e w23 ⟨rfl, hb⟩
          have BEL : Hid (Below w.heap.size w w23) := Below.next BEL.out hb
          have Sa : Hid (SetAt w23 aa la ca ps) := Sa.out.below hb
          have Sb : Hid (SetAt w23 ab lb cb qs) := Sb.out.below hb
          have Rj : Hid (RdP w23 aj lj (ps.join qs) Fj ∧ lj ≤ 32) := ⟨Rj.out.1.below hb, Rj.out.2⟩
          have Rk : Hid (RdP w23 ak lk (qs.join ps) Fk ∧ lk ≤ 32) := ⟨Rk.out.1.below hb, Rk.out.2⟩
          clear hb
          rw [← HZ.out.1.2.2]
          have hfe : (f == f) = true := by simp
          go_wp2
          go_ret
          exact ⟨rfl, BEL.out⟩
theorem contract (H : Type) (enc : TypeId × Value → H) (W : World) (base : Nat) (args : Array Value) (ds gs : List (DataW H)) (before : List MemPlace)
    (hval0 : ∀ (j : Nat) t v, Tryd.f3.params[j]? = some t → args[j]? = some v → Value.okWide Tryd.prog W .any base t v)
    (hW : DataW.Whole enc Tryd.prog Tryd.f3.params.toList Rows.fnSetsSpec.vars false W args.toList ds gs before) (hL : laidMetH Tryd.prog Rows.fnSetsRow.laid W) :
    Calls Tryd.prog 3 args W fun e W' => ∃ v, e = .returned v ∧ Rows.fnSetsSpec.post enc Tryd.prog Tryd.f3 false true false false W args v W' := by
  have hval := hval0
  have hW' := hW
  obtain ⟨p, q, hA0, hV, rfl, hfz, hnd⟩ := hW
  have hA : DataW.TrodAll enc Tryd.prog W 0 (fun _ => true) true Tryd.f3.params.toList args.toList ds p := hA0
  rw [Tryd.params3] at hA hval
  obtain ⟨v0, vs0, d0, ds0, p0, q0, hargs, rfl, rfl, h0, r0⟩ := trodAll_cons hA
  obtain ⟨rfl, rfl, rfl⟩ := trodAll_nil r0
  obtain rfl : args = #[v0] := by cases args; simp_all
  obtain ⟨rfl, rfl⟩ := trodVars_none hV
  obtain ⟨a0, len0, cap0, rfl⟩ := okWide_slice Tryd.underlying22 (hval 0 22 v0 rfl rfl)
  have k0 := h0
  have lt0 : ∀ x ∈ p0, x.block < W.heap.size := by obtain ⟨m, hm⟩ := k0; exact DataW.trod_lt m _ _ _ hm
  obtain ⟨z0, w0⟩ : ∃ zs, RdB W a0 len0 zs := by
    obtain ⟨fuel, hf⟩ := h0
    rcases open_ints Tryd.underlying22 Tryd.underlying5 (by kernel_rfl) hf with ⟨hcs, _⟩ | ⟨x, l, c, zs, hcs, _, hl, hm, hz, _, hcell, hwz⟩
    · simp [Value.cells] at hcs
      obtain ⟨rfl, rfl, rfl⟩ := hcs
      exact ⟨_, (rdOf (zs := []) (cap := 0) (.inl ⟨rfl, rfl, rfl, rfl⟩)).1⟩
    · simp [Value.cells] at hcs
      obtain ⟨rfl, rfl, rfl⟩ := hcs
      exact ⟨_, (rdOf (zs := zs) (cap := cap0) (.inr ⟨_, rfl, hl, hm, by simpa using hz, hcell, hwz⟩)).1⟩
  clear hA0 hval0
  refine (walk a0 len0 cap0 z0 W w0 (table hL)).mono fun e W' ⟨he, bel⟩ => ?_
  subst he
  exact ⟨_, rfl, _, _, _, [], _, [], hW', trodAll_mk1 (shut_bool Tryd.underlying4 _), (trodAll_cons_mk (Below.trod laid0 (by kernel_rfl) (of_decide_eq_true (by kernel_rfl)) k0 bel lt0) trodAll_mk0), rfl, bel.frame _, fun h => by cases h⟩
/-- The cells that a table's datum stands for. -/
def cellsOfData : DataW Unit → Array Value
  | .agg l => (l.map fun d => match d with | .lit (.int k n) => Value.int k n | _ => undef).toArray
  | _ => #[]
def setBlock (cs : Array Value) : Obj → Obj
  | .cells _ t frozen => .cells cs t frozen
  | o => o
/-- A world for the witness: the settled one, each table holding what its initialiser lays. -/
noncomputable def laidWorld (os : Os) : World :=
  { World.holding Tryd.prog os ⟨#[], #[], []⟩ with heap := (((World.holding Tryd.prog os ⟨#[], #[], []⟩).heap.modify 1 (setBlock (cellsOfData Rows.laid_internal_strconv_uint64pow10))).modify 2 (setBlock (cellsOfData Rows.laid_math_bits_deBruijn32tab))).modify 3 (setBlock (cellsOfData Rows.laid_math_bits_deBruijn64tab)) }
theorem gDb32 : Tryd.prog.globalNamed "math/bits.deBruijn32tab" = some 2 := by kernel_rfl
theorem gDb64 : Tryd.prog.globalNamed "math/bits.deBruijn64tab" = some 3 := by kernel_rfl
theorem laid_met (os : Os) : laidMet Tryd.prog Rows.fnSetsRow.laid ((laidWorld os).forCall (fun _ _ => 0) ⟨#[], #[.slice none 0 0], []⟩).memory :=
  laidMet_of_run' 8 (by kernel_rfl) (by kernel_rfl)
theorem reads (os : Os) {H : Type} (enc : TypeId × Value → H) : ∃ places, DataW.whole enc Tryd.prog ((laidWorld os).forCall (fun _ _ => 0) ⟨#[], #[.slice none 0 0], []⟩).memory Tryd.f3.params.toList Rows.fnSetsSpec.vars false #[Value.slice none 0 0].toList 8 = some ([.nil], [], places) :=
  ⟨[], by kernel_rfl⟩

set_option maxRecDepth 100000 in
theorem lifted (os : Os) (started : os.Started) (H : Type) (enc : TypeId × Value → H) (F : Stop.Interp) :
    ReturnsInHanded {} Tryd.checked os 3 .any ((OpenSpec.ofChange Rows.fnSetsSpec).preRow enc Tryd.prog Tryd.f3 Rows.fnSetsRow.domain false Rows.fnSetsRow.laid) (((OpenSpec.ofChange Rows.fnSetsSpec).at F).post enc Tryd.prog Tryd.f3 false true false false) := by
  obtain ⟨places, hx⟩ := reads os enc
  refine returnsInHanded_of_row (C := Tryd.checked) (s := OpenSpec.ofChange Rows.fnSetsSpec) own started (by kernel_rfl) Tryd.func3
    (witness_row_at (enc := enc) (C := Tryd.checked) false (laidWorld os) #[.slice none 0 0] rfl (by kernel_rfl) (by kernel_rfl) (by kernel_rfl)
      (OpenSpec.preRow_of_cond 8 hx (by kernel_rfl) (fun k hk => by cases hk) (by kernel_rfl) (laid_met os))) ?_
  intro W base args ds gs before hval hW _ _ _ hL _ _
  exact contract H enc W base args ds gs before hval hW hL

theorem said : Rows.FnSetsSaid :=
  OpenClaim.holds_of_cond 3 Tryd.f3 rfl rfl rfl rfl rfl rfl rfl ⟨rfl, rfl, rfl, rfl, rfl⟩ rfl rfl rfl rfl rfl (by kernel_rfl) Tryd.func3 (by kernel_rfl)
    (of_decide_eq_true (by kernel_rfl)) (by unfold Func.isWrapper; first | (rw [if_pos (by decide +kernel)]; kernel_rfl) | (rw [if_neg (by decide +kernel)]; exact ⟨rfl, rfl⟩))
    (fun os started H enc _ F => by rw [OpenClaim.pre_eq_preRow]; exact lifted os started H enc F)

theorem plain (f : FuncId) (fn : Func) (hf : Tryd.pinned.checked.prog.funcNamed "loop.example/g00491/laws.FnSets" = some f) (hfn : Tryd.pinned.checked.prog.funcs[f]? = some fn) :
    false = Tryd.pinned.checked.prog.looks [] ∧ ∀ (j : Nat) t, fn.params[j]? = some t → Tryd.pinned.checked.prog.wantsStandIn t = false := by
  obtain rfl : f = 3 := Option.some.inj ((show Tryd.prog.funcNamed "loop.example/g00491/laws.FnSets" = some 3 by kernel_rfl).symm.trans hf) |>.symm
  obtain rfl : fn = Tryd.f3 := (Option.some.inj (Tryd.func3.symm.trans hfn)).symm
  refine ⟨by kernel_rfl, fun j t ht => ?_⟩
  rw [Tryd.params3] at ht
  obtain rfl : t = 22 := by simpa using Array.mem_of_getElem? ht
  exact (show Tryd.prog.wantsStandIn 22 = false by kernel_rfl)

theorem proved : Rows.FnSetsCardSaid :=
  Claim7.holds_tied_plain_at .later [] _ _ _ _ said (fun _ h => by cases h) (by kernel_rfl) (fun _ h => by cases h) fnSets_row_tie rfl ⟨rfl, rfl⟩ (by kernel_rfl) rfl plain (by kernel_rfl)
#print axioms proved
end Go.Proofs.YtjiciigaeeibgabDoor.fnSets
