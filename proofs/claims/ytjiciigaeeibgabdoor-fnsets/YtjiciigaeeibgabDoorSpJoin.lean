/- The walks through the model's SetAdd and SetJoin. No statement of the seat is proved here. -/
import Derived.Test.YtjiciigaeeibgabDoorSpPut
import Derived.Laws.AppendOwnNone
namespace Go.Proofs.YtjiciigaeeibgabDoor
open Go.RowKit
/-- A set and a word. -/
def NewP2 (w : World) (ps : Sp) (d : Bool) (e : Ending) (w' : World) : Prop :=
  ∃ a len cap F, e = .returned (.tuple #[.slice a len cap, .bool d]) ∧ RdP w' a len ps F ∧ Own w.heap.size w' F ∧ Below w.heap.size w w' ∧ (a = none → cap = 0)
theorem NewP.from {w w1 w' : World} {ps : Sp} {e : Ending} (hb : Below w.heap.size w w1) (h : NewP w1 ps e w') : NewP w ps e w' := by
  obtain ⟨a, len, cap, F, h1, h2, h3, h4, h5⟩ := h
  exact ⟨a, len, cap, F, h1, h2, h3.mono hb.size, Below.next hb h4, h5⟩
theorem cells_flat {w : World} {b off len : Nat} {ps : Sp} {F : List Nat} (h : RdP w (some ⟨b, off, none⟩) len ps F) (hp : 0 < len) : ∀ j v, ((flat ps).map (Value.int .i64))[j]? = some v → w.cell? ((⟨b, off, none⟩ : Addr).add j) = some v := by
  intro j v hj
  rcases h.rd.cells with ⟨h0, _⟩ | ⟨b', off', _, he, _, hc⟩
  · omega
  · obtain ⟨rfl, rfl⟩ : b = b' ∧ off = off' := by simpa using he
    have hjl : j < (flat ps).length := by
      have := (List.getElem?_eq_some_iff.1 hj).1
      simpa using this
    rw [flat_length, h.length] at hjl
    rw [sp_add, hc j hjl]
    rw [List.getElem?_map] at hj
    rw [List.getD_eq_getElem?_getD]
    have hjl' : j < (flat ps).length := by rw [flat_length, h.length]; exact hjl
    rw [List.getElem?_eq_getElem hjl'] at hj ⊢
    simpa using hj
set_option maxHeartbeats 1000000 in
theorem l5Copy_any (a : Option Addr) (len cap : Nat) (ps : Sp) (F : List Nat) (w : World) (h : RdP w a len ps F) (hlen : len ≤ 2097152) (hn : a = none → cap = 0) :
    Calls Tryd.prog 29 #[.slice a len cap] w fun e w' => NewP w ps e w' := by
  obtain ⟨t0, hi, hz0, hz1, hz2⟩ := info_parts infoSpan
  have HO : Hid ((w.alloc (.cells #[] 39)).ownsRow w.heap.size 39 2 (.slice (some ⟨w.heap.size, 0, none⟩) 0 0) 0 []) := own_empty2 w _
  have HB : Hid (Below w.heap.size w (w.alloc (.cells #[] 39))) := (Below.refl _ _).alloc (Nat.le_refl _) _
  cases a with
  | none =>
    obtain rfl : cap = 0 := hn rfl
    rcases h.cells with ⟨rfl, _, rfl⟩ | ⟨b, off, hp, e, _⟩
    rotate_left
    · cases e
    clear h hn
    go_enter Tryd.func29, Tryd.ntmps29
    go_wp2_with (first | go_skip | (with_reducible refine stopAppend2 rfl ?_))
    refine Stop.intro (wpList_append_own_none rfl _ _ 24 rfl w.heap.size 39 t0 2 Tryd.underlying24 hi _ 0 [] rfl HO.out rfl ?_)
    go_wp2
    go_ret
    exact ⟨_, 0, 0, [], rfl, RdP.nil, Own.nil, HB.out, fun e => by cases e⟩
  | some ad =>
    have HC : Hid (∀ j v, ((flat ps).map (Value.int .i64))[j]? = some v → (w.alloc (.cells #[] 39)).cell? (ad.add j) = some v) := by
      rcases h.cells with ⟨rfl, _, rfl⟩ | ⟨b, off, hp, e, _⟩
      · exact fun j v hj => by simp [flat] at hj
      · cases e
        exact cells_flat (h.below HB.out) hp
    have HL : Hid (((flat ps).map (Value.int .i64)).length = len * 2) := by
      show _ = _
      rw [List.length_map, flat_length, h.length]; omega
    clear h hn
    go_enter Tryd.func29, Tryd.ntmps29
    go_wp2_with (first | go_skip | (with_reducible refine stopAppend2 rfl ?_))
    refine Stop.intro (wpList_append_own _ rfl _ _ 24 rfl w.heap.size 39 t0 (.agg #[.int .i64 0, .int .i64 0]) 2 16 Tryd.underlying24 hi hz0 hz1 hz2 rfl (by decide) _ 0 [] rfl HO.out ad len cap ((flat ps).map (Value.int .i64)) rfl HL.out HC.out (by intro u hu; simp at hu; obtain ⟨z, _, rfl⟩ := hu; rfl) (by unfold maxLen; omega) (by omega) (by simp) ?_)
    intro v' w1 hown hgrow _
    have HN : Hid (w1.ownsRow w.heap.size 39 2 v' len ((flat ps).map (Value.int .i64)) ∧ Below w.heap.size w w1) := by
      refine ⟨by simpa using hown, HB.out.grown hgrow HB.out.size (fun k hk => (HO.out.lt k hk).1)⟩
    clear hown hgrow
    go_wp2
    go_ret
    obtain ⟨a', c', F', rfl, hr, ho, hnn⟩ := rdP_of_own HN.out.1
    exact ⟨_, _, _, F', rfl, hr, ho, HN.out.2, hnn⟩
def Sp.add (ps : Sp) (n : Int) : Sp × Bool := if ps.ok = true ∧ (0 ≤ n ∧ n ≤ 9999) ∧ ps.has n = false then (put ps (n, n) false, true) else (ps, false)
theorem Sp.add_not {ps : Sp} {n : Int} (h : ¬ (ps.ok = true ∧ (0 ≤ n ∧ n ≤ 9999) ∧ ps.has n = false)) : ps.add n = (ps, false) := by unfold Sp.add; rw [if_neg h]
theorem Sp.add_yes {ps : Sp} {n : Int} (h1 : ps.ok = true) (h2 : 0 ≤ n ∧ n ≤ 9999) (h3 : ps.has n = false) : ps.add n = (put ps (n, n) false, true) := by unfold Sp.add; rw [if_pos ⟨h1, h2, h3⟩]
theorem ok_inb {ps : Sp} (h : ps.ok = true) : ∀ k, k < ps.length → InB (ps.at k) := fun k hk => by
  have := (Sp.okAt_parts (Sp.ok_at h k hk)).1
  unfold InB
  omega
set_option maxHeartbeats 2000000 in
theorem addSpec_any' (a : Option Addr) (len cap : Nat) (ps : Sp) (n : Int) (F : List Nat) (w : World) (h : RdP w a len ps F) (hlen : len ≤ 2097152) (hn : a = none → cap = 0) :
    Calls Tryd.prog 12 #[.slice a len cap, .int .i64 n] w fun e w' => NewP2 w (ps.add n).1 (ps.add n).2 e w' := by
  have HR : Hid (RdP w a len ps F) := h
  have HNN : Hid (a = none → cap = 0) := hn
  clear h hn
  go_enter Tryd.func12, Tryd.ntmps12
  go_wp2_with fail
  refine (setOkSpec_any a len cap ps F _ HR.out (by omega)).mono ?_
  rintro e w1 ⟨rfl, hq⟩
  have HQ0 : Hid (QuietTo w w1) := hq
  clear hq
  obtain ⟨d, hd⟩ : ∃ d, d = ps.ok := ⟨_, rfl⟩
  rw [← hd]
  have HD : Hid (d = ps.ok) := hd
  clear hd
  cases d
  · have HV : Hid (ps.add n = (ps, false)) := Sp.add_not (fun e => by rw [← HD.out] at e; cases e.1)
    go_wp2_with fail
    refine (l5Copy_any a len cap ps F _ (HR.out.quiet HQ0.out) hlen HNN.out).mono ?_
    rintro e w2 ⟨a', l', c', F', rfl, h1, h2, h3, h4⟩
    have HE : Hid (RdP w2 a' l' ps F' ∧ Own w.heap.size w2 F' ∧ Below w.heap.size w w2 ∧ (a' = none → c' = 0)) := ⟨h1, h2.mono (quiet_below HQ0.out).size, Below.next (quiet_below HQ0.out) h3, h4⟩
    clear h1 h2 h3 h4
    go_wp2
    go_ret2
    rw [HV.out]
    exact ⟨a', l', c', F', rfl, HE.out⟩
  go_wp2_with fail
  refine (l1In_any _ _ _ _).mono ?_
  rintro e w2 ⟨rfl, hw2⟩
  have hw2' := hw2.symm
  subst hw2'
  clear hw2
  by_cases hb : 0 ≤ n ∧ n ≤ 9999
  rotate_left
  · rw [decF hb]
    have HV : Hid (ps.add n = (ps, false)) := Sp.add_not (fun e => hb e.2.1)
    clear hb
    go_wp2_with fail
    refine (l5Copy_any a len cap ps F _ (HR.out.quiet HQ0.out) hlen HNN.out).mono ?_
    rintro e w2 ⟨a', l', c', F', rfl, h1, h2, h3, h4⟩
    have HE : Hid (RdP w2 a' l' ps F' ∧ Own w.heap.size w2 F' ∧ Below w.heap.size w w2 ∧ (a' = none → c' = 0)) := ⟨h1, h2.mono (quiet_below HQ0.out).size, Below.next (quiet_below HQ0.out) h3, h4⟩
    clear h1 h2 h3 h4
    go_wp2
    go_ret2
    rw [HV.out]
    exact ⟨a', l', c', F', rfl, HE.out⟩
  rw [decT hb]
  have HBB : Hid (0 ≤ n ∧ n ≤ 9999) := hb
  clear hb
  go_wp2_with fail
  refine (hasSpec_any a len cap ps n F _ (HR.out.quiet HQ0.out) (by omega)).mono ?_
  rintro e w2 ⟨rfl, hq⟩
  have HQ1 : Hid (QuietTo w w2) := HQ0.out.trans hq
  clear hq HQ0
  obtain ⟨f, hf⟩ : ∃ d, d = ps.has n := ⟨_, rfl⟩
  rw [← hf]
  have HF : Hid (f = ps.has n) := hf
  clear hf
  cases f
  rotate_left
  · have HV : Hid (ps.add n = (ps, false)) := Sp.add_not (fun e => by rw [← HF.out] at e; cases e.2.2)
    go_wp2_with fail
    refine (l5Copy_any a len cap ps F _ (HR.out.quiet HQ1.out) hlen HNN.out).mono ?_
    rintro e w3 ⟨a', l', c', F', rfl, h1, h2, h3, h4⟩
    have HE : Hid (RdP w3 a' l' ps F' ∧ Own w.heap.size w3 F' ∧ Below w.heap.size w w3 ∧ (a' = none → c' = 0)) := ⟨h1, h2.mono (quiet_below HQ1.out).size, Below.next (quiet_below HQ1.out) h3, h4⟩
    clear h1 h2 h3 h4
    go_wp2
    go_ret2
    rw [HV.out]
    exact ⟨a', l', c', F', rfl, HE.out⟩
  have HV : Hid (ps.add n = (put ps (n, n) false, true)) := Sp.add_yes HD.out.symm HBB.out HF.out.symm
  go_wp2_with fail
  refine (l5Put_any a len cap ps (n, n) F _ (HR.out.quiet HQ1.out) hlen (fun k hk => ok_inb HD.out.symm k (by rw [HR.out.length]; exact hk)) ⟨HBB.out, HBB.out⟩).mono ?_
  rintro e w3 ⟨a', l', c', F', rfl, h1, h2, h3, h4⟩
  have HE : Hid (RdP w3 a' l' (put ps (n, n) false) F' ∧ Own w.heap.size w3 F' ∧ Below w.heap.size w w3 ∧ (a' = none → c' = 0)) := ⟨h1, h2.mono (quiet_below HQ1.out).size, Below.next (quiet_below HQ1.out) h3, h4⟩
  clear h1 h2 h3 h4
  go_wp2
  go_ret2
  rw [HV.out]
  exact ⟨a', l', c', F', rfl, HE.out⟩
end Go.Proofs.YtjiciigaeeibgabDoor
