/- For every byte slice (no condition): laws.FnAdded returns true, and its argument reads afterwards as it did: sums that stop are the same in whatever order, and buckets rise with what is in them. -/
import Derived.Test.YtdinhhfdhlfgpaaLawBase
import Derived.Test.YtdinhhfdhlfgpaaStop
import Derived.Test.YtdinhhfdhlfgpaaDrawStop
import Derived.Test.YtdinhhfdhlfgpaaRows
import Derived.WalkKit
import Derived.ProofKit
import Derived.OpenShut
import Derived.ShutString
import Derived.ChangeOld
import Derived.Below
namespace Go.Proofs.Ytdinhhfdhlfgpaa.fnAdded
open Go.ChangeShapes Go.WideShapes Go.ChangeAt Go.RowKit
open Go.ChangeMaps (open_string shut_string)
set_option linter.unusedVariables false

theorem own : ownKnob Try.prog.godebug = none := by kernel_rfl
theorem laidOut : laidOutB Try.prog = true := by kernel_rfl

/-- WHAT THE WALK IS TOLD OF A SLICE OF INTEGERS THAT CAME IN: it is nil; or it leads to a row of 'cap' cells, the numbers 'zs' (the first 'len' are its elements, the rest its spare room), each fitting its kind. -/
def IsRow (k : IntKind) (w : World) (a : Option Addr) (len cap : Nat) (zs : List Int) : Prop :=
  (a = none ∧ len = 0 ∧ cap = 0 ∧ zs = []) ∨
  ∃ x, a = some x ∧ len ≤ cap ∧ cap ≤ maxLen ∧ zs.length = cap ∧ (∀ i, i < zs.length → w.cell? (x.add i) = some (.int k (zs.getD i 0))) ∧ ∀ n ∈ zs, (Lit.int k n).wf = true



set_option maxHeartbeats 2000000 in
theorem walk (a0 : Option Addr) (len0 cap0 : Nat) (z0 : List Int) (w : World) (w0 : IsRow .u8 w a0 len0 cap0 z0) :
    Calls Try.prog 4 #[.slice a0 len0 cap0] w fun e w' => e = .returned (.bool true) ∧ Below w.heap.size w w' := by
  obtain ⟨hR, hcap, hmax⟩ := rdOf w0
  generalize z0.take len0 = zs at hR
  clear w0
  by_cases hbig : (1048576 : Int) < (len0 : Int)
  · have hd : decide ((1048576 : Int) < (len0 : Int)) = true := by simpa using hbig
    clear hR hbig
    go_enter Try.func4, Try.ntmps4
    go_wp2_with fail
    refine (big_any _ _ _ _).mono ?_
    rintro e x1 ⟨rfl, rfl⟩
    rw [hd]
    go_wp2
    go_ret
    exact ⟨rfl, Below.refl _ _⟩
  · have hlen : len0 ≤ 1048576 := by omega
    have hd : decide ((1048576 : Int) < (len0 : Int)) = false := by simpa using hbig
    have HR : Hid (RdB w a0 len0 zs) := hR
    have HCap : Hid (len0 ≤ cap0 ∧ cap0 ≤ maxLen) := ⟨hcap, hmax⟩
    clear hR hbig hcap hmax
    go_enter Try.func4, Try.ntmps4
    go_wp2_with fail
    refine (big_any _ _ _ _).mono ?_
    rintro e x1 ⟨rfl, hx1⟩
    have hx1' := hx1.symm
    subst hx1'
    rw [hd]
    clear hd hx1
    go_wp2_with fail
    refine (drawAdd_any a0 len0 cap0 zs _ HR.out hlen).mono ?_
    rintro e w1 ⟨a, b, rfl, ha, hb, b1⟩
    have HB1 : Hid (Below w.heap.size w w1) := b1
    have HR1 : Hid (RdB w1 a0 len0 zs) := HR.out.below b1
    clear b1 HR ha hb
    go_wp2_with fail
    refine (tail_any a0 len0 cap0 zs _ HR1.out HCap.out.1 HCap.out.2).mono ?_
    rintro e x2 ⟨⟨a', len', cap', zs', rfl, R2, hl2, _, _⟩, hx2⟩
    have hx2' := hx2.symm
    subst hx2'
    have HR2 : Hid (RdB w1 a' len' zs') := R2
    have hlen' : len' ≤ 1048576 := by omega
    clear R2 HR1 HCap hx2
    go_wp2_with fail
    refine (drawAdd_any a' len' cap' zs' _ HR2.out hlen').mono ?_
    rintro e w2 ⟨d, d', rfl, _, _, b2⟩
    have HB : Hid (Below w.heap.size w w2) := HB1.out.trans (b2.mono HB1.out.size)
    clear b2 HB1 HR2 hl2 hlen'
    --REST
    obtain ⟨s, hs⟩ : ∃ s, s = addN a b := ⟨_, rfl⟩
    obtain ⟨u, hu⟩ : ∃ u, u = addN b d := ⟨_, rfl⟩
    obtain ⟨t, ht⟩ : ∃ t, t = addN a u := ⟨_, rfl⟩
    have hs2 := addN_range a b
    rw [← hs] at hs2
    obtain ⟨hs0, hs1⟩ := hs2
    have HS : Hid (addN a b = s) := hs.symm
    have HS' : Hid (addN b a = s) := by rw [addN_comm]; exact hs.symm
    have HU : Hid (addN b d = u) := hu.symm
    have HT : Hid (addN a u = t) := ht.symm
    have HT' : Hid (addN s d = t) := by rw [hs, addN_assoc, ← hu]; exact ht.symm
    clear hs hu ht
    go_wp2_with fail
    refine (addImpl_any _ _ _).mono ?_
    rintro e x ⟨rfl, hx⟩
    have hx' := hx.symm
    subst hx'
    clear hx
    rw [HS.out]
    go_wp2_with fail
    refine (addSpec_any _ _ _).mono ?_
    rintro e x ⟨rfl, hx⟩
    have hx' := hx.symm
    subst hx'
    clear hx
    rw [HS.out]
    go_wp2_with fail
    refine (addImpl_any _ _ _).mono ?_
    rintro e x ⟨rfl, hx⟩
    have hx' := hx.symm
    subst hx'
    clear hx
    rw [HS'.out]
    go_wp2_with fail
    refine (addImpl_any _ _ _).mono ?_
    rintro e x ⟨rfl, hx⟩
    have hx' := hx.symm
    subst hx'
    clear hx
    rw [HS.out]
    go_wp2_with fail
    refine (addImpl_any _ _ _).mono ?_
    rintro e x ⟨rfl, hx⟩
    have hx' := hx.symm
    subst hx'
    clear hx
    rw [HT'.out]
    go_wp2_with fail
    refine (addImpl_any _ _ _).mono ?_
    rintro e x ⟨rfl, hx⟩
    have hx' := hx.symm
    subst hx'
    clear hx
    rw [HU.out]
    go_wp2_with fail
    refine (addImpl_any _ _ _).mono ?_
    rintro e x ⟨rfl, hx⟩
    have hx' := hx.symm
    subst hx'
    clear hx
    rw [HT.out]
    clear HS HS' HU HT HT'
    obtain ⟨k, hk⟩ : ∃ k, k = bucketN a := ⟨_, rfl⟩
    have hk2 := bucketN_range a
    have hk3 := bucketN_mono a b
    have hk4 := low_parts a
    rw [← hk] at hk2 hk3 hk4
    obtain ⟨hk0, hk1⟩ := hk2
    have HK : Hid (bucketN a = k) := hk.symm
    have HK3 : Hid (a ≤ b → k ≤ bucketN b) := hk3
    have HK4 : Hid (0 ≤ a → a ≤ 1000000 → lowN k ≤ a ∧ bucketN (lowN k) = k ∧ (k + 1 < 8 → a < lowN (k + 1))) := hk4
    clear hk hk3 hk4
    go_wp2_with fail
    refine (bucketImpl_any _ _).mono ?_
    rintro e x ⟨rfl, hx⟩
    have hx' := hx.symm
    subst hx'
    clear hx
    rw [HK.out]
    go_wp2_with fail
    refine (bucketSpec_any _ _).mono ?_
    rintro e x ⟨rfl, hx⟩
    have hx' := hx.symm
    subst hx'
    clear hx
    rw [HK.out]
    by_cases hab : a ≤ b
    · obtain ⟨k2, hk2⟩ : ∃ k2, k2 = bucketN b := ⟨_, rfl⟩
      have hkk := HK3.out hab
      rw [← hk2] at hkk
      have HK2 : Hid (bucketN b = k2) := hk2.symm
      clear hk2 HK3 HK
      go_wp2_with fail
      refine (bucketImpl_any _ _).mono ?_
      rintro e x ⟨rfl, hx⟩
      have hx' := hx.symm
      subst hx'
      clear hx
      rw [HK2.out]
      clear HK2
      obtain ⟨l, hl⟩ : ∃ l, l = lowN k := ⟨_, rfl⟩
      have HL : Hid (lowN k = l) := hl.symm
      have HK5 : Hid (0 ≤ a → a ≤ 1000000 → l ≤ a ∧ bucketN l = k ∧ (k + 1 < 8 → a < lowN (k + 1))) := by rw [hl]; exact HK4.out
      clear hl HK4
      go_wp2_with fail
      refine (lowImpl_any _ _).mono ?_
      rintro e x ⟨rfl, hx⟩
      have hx' := hx.symm
      subst hx'
      clear hx
      rw [HL.out]
      clear HL
      by_cases hin : 0 ≤ a ∧ a ≤ 1000000
      · obtain ⟨hi0, hi1⟩ := hin
        obtain ⟨hla, hlb, hlc⟩ := HK5.out hi0 hi1
        have HLb : Hid (bucketN l = k) := hlb
        clear hlb HK5
        go_wp2_with fail
        refine (bucketImpl_any _ _).mono ?_
        rintro e x ⟨rfl, hx⟩
        have hx' := hx.symm
        subst hx'
        clear hx
        rw [HLb.out]
        clear HLb
        by_cases hk7 : k + 1 < 8
        · have hla2 := hlc hk7
          obtain ⟨l2, hl2⟩ : ∃ l2, l2 = lowN (k + 1) := ⟨_, rfl⟩
          rw [← hl2] at hla2
          have HL2 : Hid (lowN (k + 1) = l2) := hl2.symm
          clear hl2 hlc
          go_wp2_with fail
          refine (lowImpl_any _ _).mono ?_
          rintro e x ⟨rfl, hx⟩
          have hx' := hx.symm
          subst hx'
          clear hx
          rw [HL2.out]
          clear HL2
          obtain ⟨r, hr⟩ : ∃ r, r = rankN a := ⟨_, rfl⟩
          have hr2 := rankN_range a
          rw [← hr] at hr2
          obtain ⟨hr0, hr1⟩ := hr2
          have HRk : Hid (rankN a = r) := hr.symm
          clear hr
          go_wp2_with fail
          refine (rankImpl_any _ _).mono ?_
          rintro e x ⟨rfl, hx⟩
          have hx' := hx.symm
          subst hx'
          clear hx
          rw [HRk.out]
          go_wp2_with fail
          refine (rankImpl_any _ _).mono ?_
          rintro e x ⟨rfl, hx⟩
          have hx' := hx.symm
          subst hx'
          clear hx
          rw [HRk.out]
          clear HRk
          obtain ⟨m, hm⟩ : ∃ m, m = mixN a := ⟨_, rfl⟩
          have hm2 := mixN_range a
          rw [← hm] at hm2
          obtain ⟨hm0, hm1⟩ := hm2
          have HMx : Hid (mixN a = m) := hm.symm
          clear hm
          go_wp2_with fail
          refine (mixImpl_any _ _).mono ?_
          rintro e x ⟨rfl, hx⟩
          have hx' := hx.symm
          subst hx'
          clear hx
          rw [HMx.out]
          go_wp2_with fail
          refine (mixImpl_any _ _).mono ?_
          rintro e x ⟨rfl, hx⟩
          have hx' := hx.symm
          subst hx'
          clear hx
          rw [HMx.out]
          go_wp2
          go_ret
          exact ⟨rfl, HB.out⟩
        · clear hlc
          obtain ⟨r, hr⟩ : ∃ r, r = rankN a := ⟨_, rfl⟩
          have hr2 := rankN_range a
          rw [← hr] at hr2
          obtain ⟨hr0, hr1⟩ := hr2
          have HRk : Hid (rankN a = r) := hr.symm
          clear hr
          go_wp2_with fail
          refine (rankImpl_any _ _).mono ?_
          rintro e x ⟨rfl, hx⟩
          have hx' := hx.symm
          subst hx'
          clear hx
          rw [HRk.out]
          go_wp2_with fail
          refine (rankImpl_any _ _).mono ?_
          rintro e x ⟨rfl, hx⟩
          have hx' := hx.symm
          subst hx'
          clear hx
          rw [HRk.out]
          clear HRk
          obtain ⟨m, hm⟩ : ∃ m, m = mixN a := ⟨_, rfl⟩
          have hm2 := mixN_range a
          rw [← hm] at hm2
          obtain ⟨hm0, hm1⟩ := hm2
          have HMx : Hid (mixN a = m) := hm.symm
          clear hm
          go_wp2_with fail
          refine (mixImpl_any _ _).mono ?_
          rintro e x ⟨rfl, hx⟩
          have hx' := hx.symm
          subst hx'
          clear hx
          rw [HMx.out]
          go_wp2_with fail
          refine (mixImpl_any _ _).mono ?_
          rintro e x ⟨rfl, hx⟩
          have hx' := hx.symm
          subst hx'
          clear hx
          rw [HMx.out]
          go_wp2
          go_ret
          exact ⟨rfl, HB.out⟩
      · clear HK5
        by_cases hneg : a < 0
        · clear hin
          obtain ⟨r, hr⟩ : ∃ r, r = rankN a := ⟨_, rfl⟩
          have hr2 := rankN_range a
          rw [← hr] at hr2
          obtain ⟨hr0, hr1⟩ := hr2
          have HRk : Hid (rankN a = r) := hr.symm
          clear hr
          go_wp2_with fail
          refine (rankImpl_any _ _).mono ?_
          rintro e x ⟨rfl, hx⟩
          have hx' := hx.symm
          subst hx'
          clear hx
          rw [HRk.out]
          go_wp2_with fail
          refine (rankImpl_any _ _).mono ?_
          rintro e x ⟨rfl, hx⟩
          have hx' := hx.symm
          subst hx'
          clear hx
          rw [HRk.out]
          clear HRk
          obtain ⟨m, hm⟩ : ∃ m, m = mixN a := ⟨_, rfl⟩
          have hm2 := mixN_range a
          rw [← hm] at hm2
          obtain ⟨hm0, hm1⟩ := hm2
          have HMx : Hid (mixN a = m) := hm.symm
          clear hm
          go_wp2_with fail
          refine (mixImpl_any _ _).mono ?_
          rintro e x ⟨rfl, hx⟩
          have hx' := hx.symm
          subst hx'
          clear hx
          rw [HMx.out]
          go_wp2_with fail
          refine (mixImpl_any _ _).mono ?_
          rintro e x ⟨rfl, hx⟩
          have hx' := hx.symm
          subst hx'
          clear hx
          rw [HMx.out]
          go_wp2
          go_ret
          exact ⟨rfl, HB.out⟩
        · have hgt : 1000000 < a := by omega
          clear hin
          obtain ⟨r, hr⟩ : ∃ r, r = rankN a := ⟨_, rfl⟩
          have hr2 := rankN_range a
          rw [← hr] at hr2
          obtain ⟨hr0, hr1⟩ := hr2
          have HRk : Hid (rankN a = r) := hr.symm
          clear hr
          go_wp2_with fail
          refine (rankImpl_any _ _).mono ?_
          rintro e x ⟨rfl, hx⟩
          have hx' := hx.symm
          subst hx'
          clear hx
          rw [HRk.out]
          go_wp2_with fail
          refine (rankImpl_any _ _).mono ?_
          rintro e x ⟨rfl, hx⟩
          have hx' := hx.symm
          subst hx'
          clear hx
          rw [HRk.out]
          clear HRk
          obtain ⟨m, hm⟩ : ∃ m, m = mixN a := ⟨_, rfl⟩
          have hm2 := mixN_range a
          rw [← hm] at hm2
          obtain ⟨hm0, hm1⟩ := hm2
          have HMx : Hid (mixN a = m) := hm.symm
          clear hm
          go_wp2_with fail
          refine (mixImpl_any _ _).mono ?_
          rintro e x ⟨rfl, hx⟩
          have hx' := hx.symm
          subst hx'
          clear hx
          rw [HMx.out]
          go_wp2_with fail
          refine (mixImpl_any _ _).mono ?_
          rintro e x ⟨rfl, hx⟩
          have hx' := hx.symm
          subst hx'
          clear hx
          rw [HMx.out]
          go_wp2
          go_ret
          exact ⟨rfl, HB.out⟩
    · clear HK3 HK
      obtain ⟨l, hl⟩ : ∃ l, l = lowN k := ⟨_, rfl⟩
      have HL : Hid (lowN k = l) := hl.symm
      have HK5 : Hid (0 ≤ a → a ≤ 1000000 → l ≤ a ∧ bucketN l = k ∧ (k + 1 < 8 → a < lowN (k + 1))) := by rw [hl]; exact HK4.out
      clear hl HK4
      go_wp2_with fail
      refine (lowImpl_any _ _).mono ?_
      rintro e x ⟨rfl, hx⟩
      have hx' := hx.symm
      subst hx'
      clear hx
      rw [HL.out]
      clear HL
      by_cases hin : 0 ≤ a ∧ a ≤ 1000000
      · obtain ⟨hi0, hi1⟩ := hin
        obtain ⟨hla, hlb, hlc⟩ := HK5.out hi0 hi1
        have HLb : Hid (bucketN l = k) := hlb
        clear hlb HK5
        go_wp2_with fail
        refine (bucketImpl_any _ _).mono ?_
        rintro e x ⟨rfl, hx⟩
        have hx' := hx.symm
        subst hx'
        clear hx
        rw [HLb.out]
        clear HLb
        by_cases hk7 : k + 1 < 8
        · have hla2 := hlc hk7
          obtain ⟨l2, hl2⟩ : ∃ l2, l2 = lowN (k + 1) := ⟨_, rfl⟩
          rw [← hl2] at hla2
          have HL2 : Hid (lowN (k + 1) = l2) := hl2.symm
          clear hl2 hlc
          go_wp2_with fail
          refine (lowImpl_any _ _).mono ?_
          rintro e x ⟨rfl, hx⟩
          have hx' := hx.symm
          subst hx'
          clear hx
          rw [HL2.out]
          clear HL2
          obtain ⟨r, hr⟩ : ∃ r, r = rankN a := ⟨_, rfl⟩
          have hr2 := rankN_range a
          rw [← hr] at hr2
          obtain ⟨hr0, hr1⟩ := hr2
          have HRk : Hid (rankN a = r) := hr.symm
          clear hr
          go_wp2_with fail
          refine (rankImpl_any _ _).mono ?_
          rintro e x ⟨rfl, hx⟩
          have hx' := hx.symm
          subst hx'
          clear hx
          rw [HRk.out]
          go_wp2_with fail
          refine (rankImpl_any _ _).mono ?_
          rintro e x ⟨rfl, hx⟩
          have hx' := hx.symm
          subst hx'
          clear hx
          rw [HRk.out]
          clear HRk
          obtain ⟨m, hm⟩ : ∃ m, m = mixN a := ⟨_, rfl⟩
          have hm2 := mixN_range a
          rw [← hm] at hm2
          obtain ⟨hm0, hm1⟩ := hm2
          have HMx : Hid (mixN a = m) := hm.symm
          clear hm
          go_wp2_with fail
          refine (mixImpl_any _ _).mono ?_
          rintro e x ⟨rfl, hx⟩
          have hx' := hx.symm
          subst hx'
          clear hx
          rw [HMx.out]
          go_wp2_with fail
          refine (mixImpl_any _ _).mono ?_
          rintro e x ⟨rfl, hx⟩
          have hx' := hx.symm
          subst hx'
          clear hx
          rw [HMx.out]
          go_wp2
          go_ret
          exact ⟨rfl, HB.out⟩
        · clear hlc
          obtain ⟨r, hr⟩ : ∃ r, r = rankN a := ⟨_, rfl⟩
          have hr2 := rankN_range a
          rw [← hr] at hr2
          obtain ⟨hr0, hr1⟩ := hr2
          have HRk : Hid (rankN a = r) := hr.symm
          clear hr
          go_wp2_with fail
          refine (rankImpl_any _ _).mono ?_
          rintro e x ⟨rfl, hx⟩
          have hx' := hx.symm
          subst hx'
          clear hx
          rw [HRk.out]
          go_wp2_with fail
          refine (rankImpl_any _ _).mono ?_
          rintro e x ⟨rfl, hx⟩
          have hx' := hx.symm
          subst hx'
          clear hx
          rw [HRk.out]
          clear HRk
          obtain ⟨m, hm⟩ : ∃ m, m = mixN a := ⟨_, rfl⟩
          have hm2 := mixN_range a
          rw [← hm] at hm2
          obtain ⟨hm0, hm1⟩ := hm2
          have HMx : Hid (mixN a = m) := hm.symm
          clear hm
          go_wp2_with fail
          refine (mixImpl_any _ _).mono ?_
          rintro e x ⟨rfl, hx⟩
          have hx' := hx.symm
          subst hx'
          clear hx
          rw [HMx.out]
          go_wp2_with fail
          refine (mixImpl_any _ _).mono ?_
          rintro e x ⟨rfl, hx⟩
          have hx' := hx.symm
          subst hx'
          clear hx
          rw [HMx.out]
          go_wp2
          go_ret
          exact ⟨rfl, HB.out⟩
      · clear HK5
        by_cases hneg : a < 0
        · clear hin
          obtain ⟨r, hr⟩ : ∃ r, r = rankN a := ⟨_, rfl⟩
          have hr2 := rankN_range a
          rw [← hr] at hr2
          obtain ⟨hr0, hr1⟩ := hr2
          have HRk : Hid (rankN a = r) := hr.symm
          clear hr
          go_wp2_with fail
          refine (rankImpl_any _ _).mono ?_
          rintro e x ⟨rfl, hx⟩
          have hx' := hx.symm
          subst hx'
          clear hx
          rw [HRk.out]
          go_wp2_with fail
          refine (rankImpl_any _ _).mono ?_
          rintro e x ⟨rfl, hx⟩
          have hx' := hx.symm
          subst hx'
          clear hx
          rw [HRk.out]
          clear HRk
          obtain ⟨m, hm⟩ : ∃ m, m = mixN a := ⟨_, rfl⟩
          have hm2 := mixN_range a
          rw [← hm] at hm2
          obtain ⟨hm0, hm1⟩ := hm2
          have HMx : Hid (mixN a = m) := hm.symm
          clear hm
          go_wp2_with fail
          refine (mixImpl_any _ _).mono ?_
          rintro e x ⟨rfl, hx⟩
          have hx' := hx.symm
          subst hx'
          clear hx
          rw [HMx.out]
          go_wp2_with fail
          refine (mixImpl_any _ _).mono ?_
          rintro e x ⟨rfl, hx⟩
          have hx' := hx.symm
          subst hx'
          clear hx
          rw [HMx.out]
          go_wp2
          go_ret
          exact ⟨rfl, HB.out⟩
        · have hgt : 1000000 < a := by omega
          clear hin
          obtain ⟨r, hr⟩ : ∃ r, r = rankN a := ⟨_, rfl⟩
          have hr2 := rankN_range a
          rw [← hr] at hr2
          obtain ⟨hr0, hr1⟩ := hr2
          have HRk : Hid (rankN a = r) := hr.symm
          clear hr
          go_wp2_with fail
          refine (rankImpl_any _ _).mono ?_
          rintro e x ⟨rfl, hx⟩
          have hx' := hx.symm
          subst hx'
          clear hx
          rw [HRk.out]
          go_wp2_with fail
          refine (rankImpl_any _ _).mono ?_
          rintro e x ⟨rfl, hx⟩
          have hx' := hx.symm
          subst hx'
          clear hx
          rw [HRk.out]
          clear HRk
          obtain ⟨m, hm⟩ : ∃ m, m = mixN a := ⟨_, rfl⟩
          have hm2 := mixN_range a
          rw [← hm] at hm2
          obtain ⟨hm0, hm1⟩ := hm2
          have HMx : Hid (mixN a = m) := hm.symm
          clear hm
          go_wp2_with fail
          refine (mixImpl_any _ _).mono ?_
          rintro e x ⟨rfl, hx⟩
          have hx' := hx.symm
          subst hx'
          clear hx
          rw [HMx.out]
          go_wp2_with fail
          refine (mixImpl_any _ _).mono ?_
          rintro e x ⟨rfl, hx⟩
          have hx' := hx.symm
          subst hx'
          clear hx
          rw [HMx.out]
          go_wp2
          go_ret
          exact ⟨rfl, HB.out⟩

set_option maxRecDepth 100000 in
theorem lifted (os : Os) (started : os.Started) (H : Type) (enc : TypeId × Value → H) :
    ReturnsInHanded {} Try.checked os 4 .any (Rows.fnAddedSpec.pre6 enc Try.prog Try.f4 Rows.fnAddedRow.domain false) (Rows.fnAddedSpec.post enc Try.prog Try.f4 false true false false) := by
  refine returnsInHanded_of_change (C := Try.checked) own started (by kernel_rfl) Try.func4
    (ChangeSpec.witness6 (enc := enc) (C := Try.checked) false ⟨#[], #[.slice none 0 0], []⟩ 8 (by kernel_rfl) (by kernel_rfl) (by kernel_rfl) (by kernel_rfl)) ?_
  intro W base args ds gs before hval0 hW hcnd _
  have hval : ∀ (j : Nat) t v, Try.f4.params[j]? = some t → args[j]? = some v → Value.okWide Try.prog W .any base t v := hval0
  have hW' := hW
  obtain ⟨p, q, hA0, hV, rfl, hfz, hnd⟩ := hW
  have hA : DataW.TrodAll enc Try.prog W 0 (fun _ => true) true Try.f4.params.toList args.toList ds p := hA0
  rw [Try.params4] at hA hval
  obtain ⟨v0, vs0, d0, ds0, p0, q0, hargs, rfl, rfl, h0, r0⟩ := trodAll_cons hA
  obtain ⟨rfl, rfl, rfl⟩ := trodAll_nil r0
  obtain rfl : args = #[v0] := by cases args; simp_all
  obtain ⟨rfl, rfl⟩ := trodVars_none hV
  obtain ⟨a0, len0, cap0, rfl⟩ := okWide_slice Try.underlying22 (hval 0 22 v0 rfl rfl)
  have k0 := h0
  have lt0 : ∀ x ∈ p0, x.block < W.heap.size := by obtain ⟨m, hm⟩ := k0; exact DataW.trod_lt m _ _ _ hm
  obtain ⟨z0, w0⟩ : ∃ zs, IsRow .u8 W a0 len0 cap0 zs := by
    obtain ⟨fuel, hf⟩ := h0
    rcases open_ints Try.underlying22 Try.underlying5 (by kernel_rfl) hf with ⟨hcs, _⟩ | ⟨x, l, c, zs, hcs, _, hl, hm, hz, _, hcell, hwz⟩
    · simp [Value.cells] at hcs
      obtain ⟨rfl, rfl, rfl⟩ := hcs
      exact ⟨[], .inl ⟨rfl, rfl, rfl, rfl⟩⟩
    · simp [Value.cells] at hcs
      obtain ⟨rfl, rfl, rfl⟩ := hcs
      exact ⟨zs, .inr ⟨_, rfl, hl, hm, by simpa using hz, hcell, hwz⟩⟩
  clear hA0 hval0
  refine (walk a0 len0 cap0 z0 W w0).mono fun e W' ⟨he, bel⟩ => ?_
  subst he
  exact ⟨_, rfl, _, _, _, [], _, [], hW', trodAll_mk1 (shut_bool Try.underlying4 _), (trodAll_cons_mk (Below.trod laidOut (by kernel_rfl) (of_decide_eq_true (by kernel_rfl)) k0 bel lt0) trodAll_mk0), rfl, bel.frame _, fun h => by cases h⟩

theorem over : Rows.fnAddedRow.holds Try.pinned (OpenSpec.ofChange Rows.fnAddedSpec) :=
  OpenClaim.holds_of_wide 4 Try.f4 rfl rfl rfl rfl rfl rfl rfl ⟨rfl, rfl, rfl, rfl, rfl⟩ rfl rfl rfl rfl rfl (by kernel_rfl) Try.func4 (by kernel_rfl)
    (of_decide_eq_true (by kernel_rfl)) (by unfold Func.isWrapper; first | (rw [if_pos (by decide +kernel)]; kernel_rfl) | (rw [if_neg (by decide +kernel)]; exact ⟨rfl, rfl⟩))
    (fun os started H enc _ => lifted os started H enc)

theorem proved : Rows.FnAddedSaid := over
#print axioms proved
end Go.Proofs.Ytdinhhfdhlfgpaa.fnAdded
