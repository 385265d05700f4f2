/- The walks through the model's SetAdd and SetJoin. No statement of the seat is proved here. -/
import Derived.Test.YtjnamoppcklomaaGreatSpPut
import Derived.Laws.AppendOwnNone
namespace Go.Proofs.YtjnamoppcklomaaGreat
open Go.RowKit
/-- A set and a word. -/
def NewP2 (w : World) (ps : Sp) (d : Bool) (e : Ending) (w' : World) : Prop :=
  ∃ a len cap F, e = .returned (.tuple #[.slice a len cap, .bool d]) ∧ RdP w' a len ps F ∧ Own w.heap.size w' F ∧ Below w.heap.size w w' ∧ Capd a len cap
theorem NewP.from {w w1 w' : World} {ps : Sp} {e : Ending} (hb : Below w.heap.size w w1) (h : NewP w1 ps e w') : NewP w ps e w' := by
  obtain ⟨a, len, cap, F, h1, h2, h3, h4, h5⟩ := h
  exact ⟨a, len, cap, F, h1, h2, h3.mono hb.size, Below.next hb h4, h5⟩
theorem cells_flat {w : World} {b off len : Nat} {ps : Sp} {F : List Nat} (h : RdP w (some ⟨b, off, none⟩) len ps F) (hp : 0 < len) : ∀ j v, ((flat ps).map (Value.int .i64))[j]? = some v → w.cell? ((⟨b, off, none⟩ : Addr).add j) = some v := by
  intro j v hj
  rcases h.rd.cells with ⟨h0, _⟩ | ⟨b', off', _, he, _, hc⟩
  · omega
  · obtain ⟨rfl, rfl⟩ : b = b' ∧ off = off' := by simpa using he
    have hjl : j < (flat ps).length := by
      have := (List.getElem?_eq_some_iff.1 hj).1
      simpa using this
    rw [flat_length, h.length] at hjl
    rw [sp_add, hc j hjl]
    rw [List.getElem?_map] at hj
    rw [List.getD_eq_getElem?_getD]
    have hjl' : j < (flat ps).length := by rw [flat_length, h.length]; exact hjl
    rw [List.getElem?_eq_getElem hjl'] at hj ⊢
    simpa using hj
set_option maxRecDepth 200000 in
set_option maxHeartbeats 1000000 in
theorem l5Copy_any (a : Option Addr) (len cap : Nat) (ps : Sp) (F : List Nat) (w : World) (h : RdP w a len ps F) (hlen : len ≤ 2097152) (hn : a = none → cap = 0) :
    Calls Tryz.prog 75 #[.slice a len cap] w fun e w' => NewP w ps e w' := by
  obtain ⟨t0, hi, hz0, hz1, hz2⟩ := info_parts infoSpan
  have HO : Hid ((w.alloc (.cells #[] 74)).ownsRow w.heap.size 74 2 (.slice (some ⟨w.heap.size, 0, none⟩) 0 0) 0 []) := own_empty2 w _
  have HB : Hid (Below w.heap.size w (w.alloc (.cells #[] 74))) := (Below.refl _ _).alloc (Nat.le_refl _) _
  cases a with
  | none =>
    obtain rfl : cap = 0 := hn rfl
    rcases h.cells with ⟨rfl, _, rfl⟩ | ⟨b, off, hp, e, _⟩
    rotate_left
    · cases e
    clear h hn
    go_enter Tryz.func75, Tryz.ntmps75
    go_wp2_with (first | go_skip | (with_reducible refine stopAppend2 rfl ?_))
    refine Stop.intro (wpList_append_own_none rfl _ _ 27 rfl w.heap.size 74 t0 2 Tryz.underlying27 hi _ 0 [] rfl HO.out rfl ?_)
    go_wp2
    go_ret
    exact ⟨_, 0, 0, [], rfl, RdP.nil, Own.nil, HB.out, (fun e => by cases e), Nat.le_refl _⟩
  | some ad =>
    have HC : Hid (∀ j v, ((flat ps).map (Value.int .i64))[j]? = some v → (w.alloc (.cells #[] 74)).cell? (ad.add j) = some v) := by
      rcases h.cells with ⟨rfl, _, rfl⟩ | ⟨b, off, hp, e, _⟩
      · exact fun j v hj => by simp [flat] at hj
      · cases e
        exact cells_flat (h.below HB.out) hp
    have HL : Hid (((flat ps).map (Value.int .i64)).length = len * 2) := by
      show _ = _
      rw [List.length_map, flat_length, h.length]; omega
    clear h hn
    go_enter Tryz.func75, Tryz.ntmps75
    go_wp2_with (first | go_skip | (with_reducible refine stopAppend2 rfl ?_))
    refine Stop.intro (wpList_append_own _ rfl _ _ 27 rfl w.heap.size 74 t0 (.agg #[.int .i64 0, .int .i64 0]) 2 16 Tryz.underlying27 hi hz0 hz1 hz2 rfl (by decide) _ 0 [] rfl HO.out ad len cap ((flat ps).map (Value.int .i64)) rfl HL.out HC.out (by intro u hu; simp at hu; obtain ⟨z, _, rfl⟩ := hu; rfl) (by unfold maxLen; omega) (by omega) (by simp) ?_)
    intro v' w1 hown hgrow _
    have HN : Hid (w1.ownsRow w.heap.size 74 2 v' len ((flat ps).map (Value.int .i64)) ∧ Below w.heap.size w w1) := by
      refine ⟨by simpa using hown, HB.out.grown hgrow HB.out.size (fun k hk => (HO.out.lt k hk).1)⟩
    clear hown hgrow
    go_wp2
    go_ret
    obtain ⟨a', c', F', rfl, hr, ho, hnn⟩ := rdP_of_own HN.out.1
    exact ⟨_, _, _, F', rfl, hr, ho, HN.out.2, hnn⟩
def Sp.add (ps : Sp) (n : Int) : Sp × Bool := if ps.ok = true ∧ (0 ≤ n ∧ n ≤ 9999) ∧ ps.has n = false then (put ps (n, n) false, true) else (ps, false)
theorem ok_inb {ps : Sp} (h : ps.ok = true) : ∀ k, k < ps.length → InB (ps.at k) := fun k hk => by
  have := (Sp.okAt_parts (Sp.ok_at h k hk)).1
  unfold InB
  omega
end Go.Proofs.YtjnamoppcklomaaGreat
