/- The walks through the program's SetAdd and SetJoin. No statement of the seat is proved here. -/
import Derived.Test.YtjiciigaeeibgabDoorSpCopy
namespace Go.Proofs.YtjiciigaeeibgabDoor
open Go.RowKit
theorem inRangeP_any (n m : Int) (w : World) : Calls Tryd.prog 23 #[.int .i64 n, .int .i64 m] w fun e w' => e = .returned (.bool (decide (0 ≤ n ∧ n ≤ m))) ∧ w' = w := by
  by_cases h1 : 0 ≤ n
  · have e1 : decide (0 ≤ n) = true := decT h1
    by_cases h2 : n ≤ m
    · have e2 : decide (n ≤ m) = true := decT h2
      have HV : Hid (decide (0 ≤ n ∧ n ≤ m) = true) := decT ⟨h1, h2⟩
      clear h1 h2
      go_enter Tryd.func23, Tryd.ntmps23
      go_wp2
      go_ret
      exact ⟨ret_bool HV.out.symm, rfl⟩
    · have e2 : decide (n ≤ m) = false := decF h2
      have HV : Hid (decide (0 ≤ n ∧ n ≤ m) = false) := decF (fun e => h2 e.2)
      clear h1 h2
      go_enter Tryd.func23, Tryd.ntmps23
      go_wp2
      go_ret
      exact ⟨ret_bool HV.out.symm, rfl⟩
  · have e1 : decide (0 ≤ n) = false := decF h1
    have HV : Hid (decide (0 ≤ n ∧ n ≤ m) = false) := decF (fun e => h1 e.1)
    clear h1
    go_enter Tryd.func23, Tryd.ntmps23
    go_wp2
    go_ret
    exact ⟨ret_bool HV.out.symm, rfl⟩
theorem single_any (n : Int) (w : World) : Calls Tryd.prog 25 #[.int .i64 n] w fun e w' => e = .returned (.agg #[.int .i64 n, .int .i64 n]) ∧ Below w.heap.size w w' := by
  have HB : Hid (Below w.heap.size w (w.alloc (.cells #[.int .i64 n, .int .i64 n] 39))) := Below.allocW _ (Below.refl _ _) (Nat.le_refl _)
  have HK : Hid (Blk (w.alloc (.cells #[.int .i64 n, .int .i64 n] 39)) w.heap.size #[.int .i64 n, .int .i64 n] 39) := Blk.made _ _ _
  go_enter Tryd.func25, Tryd.ntmps25
  go_wp2
  refine bodyPost_ret (results_cell_row Tryd.results25 _ _ w.heap.size _ _ (0, 0) _ rfl HK.out Tryd.underlying39 rfl (by kernel_rfl)) rfl ?_
  exact ⟨rfl, HB.out⟩
theorem inb_ok {ps : Sp} (h : ps.ok = true) : ∀ p ∈ ps, InB p := inb_iff.1 (ok_inb h)
set_option maxHeartbeats 4000000 in
theorem addImpl_any (a : Option Addr) (len cap : Nat) (ps : Sp) (n : Int) (F : List Nat) (w : World) (h : RdP w a len ps F) (hlen : len ≤ 2097152) (hcap : len ≤ cap) :
    Calls Tryd.prog 11 #[.slice a len cap, .int .i64 n] w fun e w' => NewP2 w (ps.add n).1 (ps.add n).2 e w' := by
  have HR : Hid (RdP w a len ps F) := h
  clear h
  go_enter Tryd.func11, Tryd.ntmps11
  go_wp2_with fail
  refine (setOkImpl_any a len cap ps F _ HR.out hlen).mono ?_
  rintro e w1 ⟨rfl, hb⟩
  have HB0 : Hid (Below w.heap.size w w1) := hb
  clear hb
  obtain ⟨d, hd⟩ : ∃ d, d = ps.ok := ⟨_, rfl⟩
  rw [← hd]
  have HD : Hid (d = ps.ok) := hd
  clear hd
  cases d
  · have HV : Hid (ps.add n = (ps, false)) := Sp.add_not (fun e => by rw [← HD.out] at e; cases e.1)
    go_wp2_with fail
    refine (copiedSpans_any a len cap ps F _ (HR.out.below HB0.out) hlen).mono ?_
    rintro e w2 ⟨a', l', c', F', rfl, h1, h2, h3, h4⟩
    have HE : Hid (RdP w2 a' l' ps F' ∧ Own w.heap.size w2 F' ∧ Below w.heap.size w w2 ∧ (a' = none → c' = 0)) := ⟨h1, h2.mono HB0.out.size, Below.next HB0.out h3, h4⟩
    clear h1 h2 h3 h4
    go_wp2
    go_ret2
    rw [HV.out]
    exact ⟨a', l', c', F', rfl, HE.out⟩
  go_wp2_with fail
  refine (inRangeP_any _ _ _).mono ?_
  rintro e w2 ⟨rfl, hw2⟩
  have hw2' := hw2.symm
  subst hw2'
  clear hw2
  by_cases hb : 0 ≤ n ∧ n ≤ 9999
  rotate_left
  · rw [decF hb]
    have HV : Hid (ps.add n = (ps, false)) := Sp.add_not (fun e => hb e.2.1)
    clear hb
    go_wp2_with fail
    refine (copiedSpans_any a len cap ps F _ (HR.out.below HB0.out) hlen).mono ?_
    rintro e w2 ⟨a', l', c', F', rfl, h1, h2, h3, h4⟩
    have HE : Hid (RdP w2 a' l' ps F' ∧ Own w.heap.size w2 F' ∧ Below w.heap.size w w2 ∧ (a' = none → c' = 0)) := ⟨h1, h2.mono HB0.out.size, Below.next HB0.out h3, h4⟩
    clear h1 h2 h3 h4
    go_wp2
    go_ret2
    rw [HV.out]
    exact ⟨a', l', c', F', rfl, HE.out⟩
  rw [decT hb]
  have HBB : Hid (0 ≤ n ∧ n ≤ 9999) := hb
  clear hb
  go_wp2_with fail
  refine (single_any n _).mono ?_
  rintro e w2 ⟨rfl, hb⟩
  have HB1 : Hid (Below w.heap.size w w2) := Below.next HB0.out hb
  clear hb HB0
  go_wp2_with fail
  have HB2 : Hid (Below w.heap.size w (w2.alloc (.cells #[.int .i64 n, .int .i64 n] 39))) := Below.allocW _ HB1.out (Nat.le_refl _)
  refine (spansOfBoth_any a (some ⟨w2.heap.size, 0, none⟩) len 1 cap 1 ps [(n, n)] F [w2.heap.size] _ (HR.out.below HB2.out) (rdP_one (Blk.made _ _ _)) (by omega) hcap (inb_ok HD.out.symm) (fun p hp => by rw [List.mem_singleton.1 hp]; exact ⟨HBB.out, HBB.out⟩)).mono ?_
  rintro e w3 ⟨a', l', c', F', rfl, h1, h2, h3, h4⟩
  have hadd := both_add (a := ps) (n := n) HD.out.symm HBB.out
  have HA : Hid ((ps.add n).2 = decide (¬ (ps.add n).1 = ps)) := by show _ = _; rw [← hadd.1]; exact hadd.2
  have HE : Hid (RdP w3 a' l' (ps.add n).1 F' ∧ Own w.heap.size w3 F' ∧ Below w.heap.size w w3 ∧ (a' = none → c' = 0)) := ⟨by rw [← hadd.1]; exact h1, h2.mono HB2.out.size, Below.next HB2.out h3, h4⟩
  have hl' : l' ≤ 4194304 := by
    have e1 := h1.length
    have e2 := HE.out.1.length
    have e3 : (ps.add n).1.length ≤ ps.length + 1 := by
      unfold Sp.add
      split
      · exact put_length _ _ _
      · simp
    have e4 := HR.out.length
    omega
  clear h1 h2 h3 h4 hadd
  go_wp2_with fail
  refine (slEqualP_any a' a l' len c' cap (ps.add n).1 ps F' F _ HE.out.1 (HR.out.below HE.out.2.2.1) (by omega) (by omega)).mono ?_
  rintro e w4 ⟨rfl, hq⟩
  have HF : Hid (RdP w4 a' l' (ps.add n).1 F' ∧ Own w.heap.size w4 F' ∧ Below w.heap.size w w4 ∧ (a' = none → c' = 0)) := ⟨HE.out.1.quiet hq, HE.out.2.1.below HE.out.1.lt (quiet_below hq), Below.next HE.out.2.2.1 (quiet_below hq), HE.out.2.2.2⟩
  obtain ⟨f, hf⟩ : ∃ f, f = decide ((ps.add n).1 = ps) := ⟨_, rfl⟩
  rw [← hf]
  have HG : Hid ((ps.add n).2 = !f) := by
    show _ = _
    rw [HA.out, hf]
    by_cases c : (ps.add n).1 = ps <;> simp [c]
  clear hq HE hf
  go_wp2
  go_ret2
  rw [HG.out]
  exact ⟨a', l', c', F', rfl, HF.out⟩
set_option maxHeartbeats 4000000 in
theorem joinImpl_any (a b : Option Addr) (la lb ca cb : Nat) (ps qs : Sp) (F G : List Nat) (w : World) (h : RdP w a la ps F) (k : RdP w b lb qs G) (hlen : la + lb ≤ 2097152) (hca : la ≤ ca) :
    Calls Tryd.prog 6 #[.slice a la ca, .slice b lb cb] w fun e w' => NewP2 w (ps.join qs) (ps.ok && qs.ok) e w' := by
  have HR : Hid (RdP w a la ps F ∧ RdP w b lb qs G) := ⟨h, k⟩
  clear h k
  go_enter Tryd.func6, Tryd.ntmps6
  go_wp2_with fail
  refine (setOkImpl_any a la ca ps F _ HR.out.1 (by omega)).mono ?_
  rintro e w1 ⟨rfl, hb⟩
  have HB0 : Hid (Below w.heap.size w w1) := hb
  clear hb
  obtain ⟨d, hd⟩ : ∃ d, d = ps.ok := ⟨_, rfl⟩
  rw [← hd]
  have HD : Hid (d = ps.ok) := hd
  clear hd
  cases d
  · have HV : Hid (ps.join qs = [] ∧ (ps.ok && qs.ok) = false) := ⟨Sp.join_not (by rw [← HD.out]; rfl), by rw [← HD.out]; rfl⟩
    go_wp2
    go_ret2
    rw [HV.out.1, HV.out.2]
    exact ⟨_, 0, 0, [], rfl, RdP.nil, Own.nil, HB0.out, fun _ => rfl⟩
  go_wp2_with fail
  refine (setOkImpl_any b lb cb qs G _ (HR.out.2.below HB0.out) (by omega)).mono ?_
  rintro e w2 ⟨rfl, hb⟩
  have HB1 : Hid (Below w.heap.size w w2) := Below.next HB0.out hb
  clear hb HB0
  obtain ⟨d, hd⟩ : ∃ d, d = qs.ok := ⟨_, rfl⟩
  rw [← hd]
  have HE : Hid (d = qs.ok) := hd
  clear hd
  cases d
  · have HV : Hid (ps.join qs = [] ∧ (ps.ok && qs.ok) = false) := ⟨Sp.join_not (by rw [← HD.out, ← HE.out]; rfl), by rw [← HD.out, ← HE.out]; rfl⟩
    go_wp2
    go_ret2
    rw [HV.out.1, HV.out.2]
    exact ⟨_, 0, 0, [], rfl, RdP.nil, Own.nil, HB1.out, fun _ => rfl⟩
  have HV : Hid (both ps qs [] = ps.join qs ∧ (ps.ok && qs.ok) = true) := ⟨both_join HD.out.symm HE.out.symm, by rw [← HD.out, ← HE.out]; rfl⟩
  go_wp2_with fail
  refine (spansOfBoth_any a b la lb ca cb ps qs F G _ (HR.out.1.below HB1.out) (HR.out.2.below HB1.out) (by omega) hca (inb_ok HD.out.symm) (inb_ok HE.out.symm)).mono ?_
  rintro e w3 ⟨a', l', c', F', rfl, g1, g2, g3, g4⟩
  have HN : Hid (RdP w3 a' l' (ps.join qs) F' ∧ Own w.heap.size w3 F' ∧ Below w.heap.size w w3 ∧ (a' = none → c' = 0)) := ⟨by rw [← HV.out.1]; exact g1, g2.mono HB1.out.size, Below.next HB1.out g3, g4⟩
  clear g1 g2 g3 g4
  go_wp2
  go_ret2
  rw [HV.out.2]
  exact ⟨a', l', c', F', rfl, HN.out⟩
end Go.Proofs.YtjiciigaeeibgabDoor
