/- The walks through readNum and GetNum of the program: what is no number panics inside and is recovered at the face. No statement of the seat is proved here. -/
import Derived.Test.YtjndcfamfminkaqBase
import Derived.Test.YtjndcfamfminkaqGetNum
import Derived.Defers
import Derived.Recover
import Derived.Laws.Pointers
namespace Go.Proofs.Ytjndcfamfminkaq
open Go.RowKit

/-- The panic that says 'no number'. -/
def noNum : List PanicEntry := [{ v := .iface 9 (.string ⟨#[110, 111, 32, 110, 117, 109, 98, 101, 114]⟩), recovered := false }]
/-- How readNum ends: it returns the number and the place behind it, or it panics. -/
def outRead (r : Option (Int × Nat)) (p : Int) : Ending := match r with
  | none => .panicked noNum
  | some (n, u) => .returned (.tuple #[.int .i64 n, .int .i64 (p + u)])
theorem read_none {r : Option (Int × Nat)} (h : r = none) (p : Int) : Ending.panicked noNum = outRead r p := by rw [h]; rfl
theorem read_some {r : Option (Int × Nat)} {n m : Int} {u : Nat} {p : Int} (h : r = some (n, u)) (hm : m = p + u) : Ending.returned (.tuple #[.int .i64 n, .int .i64 m]) = outRead r p := by rw [h, hm]; rfl

set_option maxRecDepth 200000 in
theorem read_out (a : Option Addr) (len cap : Nat) (p : Int) (zs : List Int) (w : World) (hl : zs.length = len) (hp : ¬ (0 ≤ p ∧ p ≤ len)) :
    Calls Try.prog 120 #[.slice a len cap, .int .i64 p] w fun e w' => e = outRead (res zs p) p ∧ w' = w := by
  have HR : Hid (res zs p = none) := res_out zs p (by rw [hl]; omega)
  clear hl
  by_cases h0 : p < 0
  · clear hp
    go_enter Try.func120, Try.ntmps120
    go_wp2
    exact ⟨rfl, read_none HR.out p, rfl⟩
  · have h0' : decide (p < 0) = false := by simpa using h0
    have h1 : (len : Int) < p := by omega
    clear hp
    go_enter Try.func120, Try.ntmps120
    go_wp2
    exact ⟨rfl, read_none HR.out p, rfl⟩

set_option maxRecDepth 200000 in
set_option maxHeartbeats 800000 in
theorem read_in (b off len cap q : Nat) (zs : List Int) (w : World) (hl : zs.length = len) (hlen : len ≤ 1048576) (hcap : len ≤ cap) (hr : ∀ n ∈ zs, 0 ≤ n ∧ n ≤ 255)
    (hc : ∀ i, i < len → w.cell? ⟨b, off + i, none⟩ = some (.int .u8 (zs.getD i 0))) (hq : q < len) :
    Calls Try.prog 120 #[.slice (some ⟨b, off, none⟩) len cap, .int .i64 q] w fun e w' => e = outRead (res zs q) q ∧ w' = w := by
  have Hr : Hid (∀ n ∈ zs, 0 ≤ n ∧ n ≤ 255) := hr
  have HL : Hid (zs.length = len) := hl
  obtain ⟨r, hres⟩ : ∃ r, r = res zs q := ⟨_, rfl⟩
  rw [← hres]
  have H0 : Hid (r = dg (zs.drop (q + 0)) 0 0) := by rw [hres]; exact res_in zs q (by omega)
  have hd0 : decide ((q : Int) < 0) = false := by simp
  have hd1 : decide (len < q) = false := by simp; omega
  clear hr hl hres
  go_enter Try.func120, Try.ntmps120
  go_wp2
  clear hd0 hd1
  go_loop [6, 22] (fun s i => ∃ (k : Nat) (X : Int), k ≤ 5 ∧ k ≤ len - q ∧ i = .int .i64 k ∧ s = .int .i64 X ∧ 0 ≤ X ∧ Hid (k < 5 → X < 128 ^ k) ∧ Hid (r = dg (zs.drop (q + k)) k X)) (fun _ i => 5 - (intOf i).toNat)
  case atStart => exact ⟨0, 0, by omega, by omega, rfl, rfl, by omega, by show 0 < 5 → (0 : Int) < 128 ^ 0; decide, H0⟩
  case round =>
    obtain ⟨k, X, hk, hkl, rfl, rfl, hX, HX, HR⟩ := hrel
    clear H0
    by_cases hin : k < len - q
    · have hin' : q + k < len := by omega
      have hck := hc (q + k) hin'
      rw [← Nat.add_assoc] at hck
      have hb := getD_range Hr.out (q + k)
      obtain ⟨c, hce⟩ : ∃ c, c = zs[q + k]?.getD 0 := ⟨_, rfl⟩
      rw [List.getD_eq_getElem?_getD, ← hce] at hck
      rw [← hce] at hb
      have HC : Hid (c = zs[q + k]?.getD 0) := hce
      obtain ⟨hb0, hb1⟩ := hb
      have HinZ : Hid (q + k < zs.length) := by rw [HL.out]; exact hin'
      clear hce hc
      by_cases hk5 : k < 5
      · have hk5b : ((k : Int) == 5) = false := by simp; omega
        obtain ⟨Y, hYe⟩ : ∃ Y, Y = nxt k X c := ⟨_, rfl⟩
        have hor := add_nxt k hk5 X c hX (HX.out hk5)
        rw [← hYe] at hor
        have hYb := nxt_bd k hk5 X c hX (HX.out hk5)
        rw [← hYe] at hYb
        obtain ⟨hY0, hY1, hY2⟩ := hYb
        have HY1 : Hid (k + 1 < 5 → Y < 128 ^ (k + 1)) := fun _ => hY1
        have HY : Hid (Y = nxt k X c) := hYe
        clear hYe hY1
        by_cases h128 : c < 128
        · by_cases hk0 : 0 < k
          · by_cases hc0 : c = 0
            · have e2 : (c == 0) = true := by simp [hc0]
              have HN : Hid (r = none) := dg_bad HC.out HinZ.out HR.out HY.out h128 (.inl ⟨hk0, hc0⟩)
              clear hc0
              go_wp2
              exact ⟨rfl, read_none HN.out _, rfl⟩
            · have e2 : (c == 0) = false := by simp [hc0]
              by_cases hbig : 2147483647 < Y
              · have HN : Hid (r = none) := dg_bad HC.out HinZ.out HR.out HY.out h128 (.inr hbig)
                clear hc0
                go_wp2
                exact ⟨rfl, read_none HN.out _, rfl⟩
              · have HN : Hid (r = some (Y, k + 1)) := dg_good HC.out HinZ.out hk5 HR.out HY.out h128 (by omega)
                clear hc0
                go_wp2
                go_ret2
                exact ⟨read_some HN.out (by omega), rfl⟩
          · by_cases hbig : 2147483647 < Y
            · have HN : Hid (r = none) := dg_bad HC.out HinZ.out HR.out HY.out h128 (.inr hbig)
              go_wp2
              exact ⟨rfl, read_none HN.out _, rfl⟩
            · have HN : Hid (r = some (Y, k + 1)) := dg_good HC.out HinZ.out hk5 HR.out HY.out h128 (by omega)
              go_wp2
              go_ret2
              exact ⟨read_some HN.out (by omega), rfl⟩
        · have HN : Hid (r = dg (zs.drop (q + (k + 1))) (k + 1) Y) := dg_more HC.out HinZ.out hk5 HR.out HY.out (by omega)
          go_wp2
          go_round
          case rel => exact ⟨k + 1, Y, by omega, by omega, by go_num, by rw [hor], hY0, HY1, HN⟩
          case measure => simp [intOf]; omega
      · obtain rfl : k = 5 := by omega
        have HN : Hid (r = none) := dg_five HR.out
        go_wp2
        exact ⟨rfl, read_none HN.out _, rfl⟩
    · have HN : Hid (r = none) := dg_end (by rw [HL.out]; omega) HR.out
      go_wp2
      exact ⟨rfl, read_none HN.out _, rfl⟩

set_option maxRecDepth 200000 in
/-- Just behind the last byte, or at the one place of a slice without bytes. -/
theorem read_last (a : Option Addr) (len cap : Nat) (zs : List Int) (w : World) (hl : zs.length = len) (hlen : len ≤ 1048576) (hcap : len ≤ cap) (ha : a = none → cap = 0) :
    Calls Try.prog 120 #[.slice a len cap, .int .i64 len] w fun e w' => e = outRead (res zs len) len ∧ w' = w := by
  have HR : Hid (res zs (len : Int) = none) := res_out zs len (by rw [hl]; omega)
  have hd0 : decide ((len : Int) < 0) = false := by simp
  have hd1 : decide (len < len) = false := by simp
  clear hl
  cases a with
  | none =>
    obtain rfl : cap = 0 := ha rfl
    obtain rfl : len = 0 := by omega
    go_enter Try.func120, Try.ntmps120
    go_wp2
    refine wp_loop_rounds 1 ?_
    rw [rounds_succ]
    go_wp2
    exact ⟨rfl, read_none HR.out _, rfl⟩
  | some x =>
    go_enter Try.func120, Try.ntmps120
    go_wp2
    all_goals
      refine wp_loop_rounds 1 ?_
      rw [rounds_succ]
      go_wp2
      exact ⟨rfl, read_none HR.out _, rfl⟩

set_option maxRecDepth 200000 in
theorem read_any (a : Option Addr) (len cap : Nat) (p : Int) (zs : List Int) (w : World) (h : RdB w a len zs) (hlen : len ≤ 1048576) (hcap : len ≤ cap) (ha : a = none → cap = 0) :
    Calls Try.prog 120 #[.slice a len cap, .int .i64 p] w fun e w' => e = outRead (res zs p) p ∧ w' = w := by
  by_cases hp : 0 ≤ p ∧ p ≤ len
  · obtain ⟨q, rfl⟩ := Int.eq_ofNat_of_zero_le hp.1
    by_cases hq : q = len
    · subst hq
      exact read_last a q cap zs w h.length hlen hcap ha
    · rcases h.cells with h0 | ⟨b, off, rfl, hc⟩
      · omega
      · exact read_in b off len cap q zs w h.length hlen hcap h.range hc (by omega)
  · exact read_out a len cap p zs w h.length hp
set_option maxRecDepth 200000 in
theorem getSpec_any (a : Option Addr) (len cap : Nat) (p : Int) (zs : List Int) (w : World) (h : RdB w a len zs) (hlen : len ≤ 1048576) :
    Calls Try.prog 96 #[.slice a len cap, .int .i64 p] w fun e w' => e = .returned (out3 (res zs p) p) ∧ w' = w := by
  by_cases hp : 0 ≤ p ∧ p < len
  · obtain ⟨q, rfl⟩ := Int.eq_ofNat_of_zero_le hp.1
    rcases h.cells with h0 | ⟨b, off, rfl, hc⟩
    · omega
    · exact getSpec_in b off len cap q zs w h.length hlen h.range hc (by omega)
  · exact getSpec_out a len cap p zs w h.length hlen hp
/-- The deferred function, where the frame panics: the three results are laid anew. -/
theorem catch_panicking (p0 p1 p2 : Addr) (v0 v1 v2 : Value) (u : TypeId) (pv : Value) (older : List PanicEntry) (w : World)
    (h01 : ¬ p0 = p1) (h02 : ¬ p0 = p2) (h12 : ¬ p1 = p2)
    (hc0 : w.cell? p0 = some v0) (hz0 : w.frozen? p0 = false) (hc1 : w.cell? p1 = some v1) (hz1 : w.frozen? p1 = false) (hc2 : w.cell? p2 = some v2) (hz2 : w.frozen? p2 = false) :
    CallsD Try.prog 119 #[.pointer (some p0), .pointer (some p1), .pointer (some p2)] (.panicking ({ v := .iface u pv, recovered := false } :: older)) w fun e u' w' =>
      e = .returned (.tuple #[]) ∧ u' = .panicking ({ v := .iface u pv, recovered := true } :: older) ∧ w' = ((w.setCell p0 (.int .i64 0)).setCell p1 (.int .i64 0)).setCell p2 (.bool false) := by
  refine callsD_of_wpS Try.func119 rfl fun c₀ cs hu => ?_
  apply wpS_seq
  apply wpS_region
  simp [wpOpsS, go_sem, recoverD, hu, Try.ntmps119, Exit.thenS]
  refine wpS_cond (t := true) (by simp [Act.eval, Array.replicate]) ?_
  simp only [if_true]
  apply wpS_region
  simp [wpOpsS, go_sem, hc0, hz0, hc1, hz1, hc2, hz2, h01, h02, h12, bodyPostS, results, Try.results119]
theorem catch_idle (p0 p1 p2 : Addr) (w : World) :
    CallsD Try.prog 119 #[.pointer (some p0), .pointer (some p1), .pointer (some p2)] .returning w fun e u' w' => e = .returned (.tuple #[]) ∧ u' = .returning ∧ w' = w := by
  refine callsD_of_wpS Try.func119 rfl fun c₀ cs hu => ?_
  apply wpS_seq
  apply wpS_region
  simp [wpOpsS, go_sem, recoverD, hu, Try.ntmps119, Exit.thenS]
  refine wpS_cond (t := false) (by simp [Act.eval, Array.replicate]) ?_
  simp only [Bool.false_eq_true, if_false]
  refine wpS_of_wp (wp_skip ?_)
  cases c₀
  simp_all [bodyPostS, results, Try.results119]
end Go.Proofs.Ytjndcfamfminkaq
