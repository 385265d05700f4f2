/- The walks through GetNum, the program's and the model's. No statement of the seat is proved here. -/
import Derived.Test.YtjndcfamfminkaqBase
import Derived.Test.YtjndcfamfminkaqGetMath
namespace Go.Proofs.Ytjndcfamfminkaq
open Go.RowKit

theorem out_none {r : Option (Int × Nat)} (h : r = none) (p : Int) : Ending.returned (.tuple #[.int .i64 0, .int .i64 0, .bool false]) = .returned (out3 r p) := by rw [h]; rfl
theorem out_some {r : Option (Int × Nat)} {n m : Int} {u : Nat} {p : Int} (h : r = some (n, u)) (hm : m = p + u) : Ending.returned (.tuple #[.int .i64 n, .int .i64 m, .bool true]) = .returned (out3 r p) := by rw [h, hm]; rfl

set_option maxRecDepth 200000 in
/-- At no place within the bytes. -/
theorem getSpec_out (a : Option Addr) (len cap : Nat) (p : Int) (zs : List Int) (w : World) (hl : zs.length = len) (hlen : len ≤ 1048576) (hp : ¬ (0 ≤ p ∧ p < len)) :
    Calls Try.prog 96 #[.slice a len cap, .int .i64 p] w fun e w' => e = .returned (out3 (res zs p) p) ∧ w' = w := by
  have HR : Hid (res zs p = none) := res_out zs p (by rw [hl]; exact hp)
  clear hl
  by_cases h0 : p < 0
  · clear hp
    go_enter Try.func96, Try.ntmps96
    go_wp2
    refine wp_loop_rounds 1 ?_
    rw [rounds_succ]
    go_wp2
    go_ret3
    exact ⟨out_none HR.out p, rfl⟩
  · have h0' : decide (p < 0) = false := by simpa using h0
    have h1 : (len : Int) ≤ p := by omega
    clear hp
    go_enter Try.func96, Try.ntmps96
    go_wp2
    refine wp_loop_rounds 1 ?_
    rw [rounds_succ]
    go_wp2
    go_ret3
    exact ⟨out_none HR.out p, rfl⟩

set_option maxRecDepth 200000 in
set_option maxHeartbeats 800000 in
theorem getSpec_in (b off len cap q : Nat) (zs : List Int) (w : World) (hl : zs.length = len) (hlen : len ≤ 1048576) (hr : ∀ n ∈ zs, 0 ≤ n ∧ n ≤ 255)
    (hc : ∀ i, i < len → w.cell? ⟨b, off + i, none⟩ = some (.int .u8 (zs.getD i 0))) (hq : q < len) :
    Calls Try.prog 96 #[.slice (some ⟨b, off, none⟩) len cap, .int .i64 q] w fun e w' => e = .returned (out3 (res zs q) q) ∧ w' = w := by
  have Hr : Hid (∀ n ∈ zs, 0 ≤ n ∧ n ≤ 255) := hr
  have HL : Hid (zs.length = len) := hl
  obtain ⟨r, hres⟩ : ∃ r, r = res zs q := ⟨_, rfl⟩
  rw [← hres]
  have H0 : Hid (r = dg (zs.drop (q + 0)) 0 0) := by rw [hres]; exact res_in zs q (by omega)
  have hd0 : decide ((q : Int) < 0) = false := by simp
  clear hr hl hres
  go_enter Try.func96, Try.ntmps96
  go_wp2
  go_loop [7, 8] (fun s i => ∃ (k : Nat) (X : Int), k ≤ 5 ∧ i = .int .i64 k ∧ s = .int .i64 X ∧ 0 ≤ X ∧ Hid (X < 128 ^ k) ∧ Hid (r = dg (zs.drop (q + k)) k X)) (fun _ i => 5 - (intOf i).toNat)
  case atStart => exact ⟨0, 0, by omega, rfl, rfl, by omega, by show (0 : Int) < 128 ^ 0; decide, H0⟩
  case round =>
    obtain ⟨k, X, hk, rfl, rfl, hX, HX, HR⟩ := hrel
    clear H0
    by_cases hk5 : k < 5
    · by_cases hin : q + k < len
      · have hck := hc (q + k) hin
        have hb := getD_range Hr.out (q + k)
        obtain ⟨c, hce⟩ : ∃ c, c = zs[q + k]?.getD 0 := ⟨_, rfl⟩
        rw [List.getD_eq_getElem?_getD, ← hce] at hck
        rw [← hce] at hb
        have HC : Hid (c = zs[q + k]?.getD 0) := hce
        obtain ⟨hb0, hb1⟩ := hb
        obtain ⟨Y, hYe⟩ : ∃ Y, Y = nxt k X c := ⟨_, rfl⟩
        have hor := or_nxt k hk5 X c hX HX.out
        rw [← hYe] at hor
        have hYb := nxt_bd k hk5 X c hX HX.out
        rw [← hYe] at hYb
        obtain ⟨hY0, hY1, hY2⟩ := hYb
        have HY1 : Hid (Y < 128 ^ (k + 1)) := hY1
        have HY : Hid (Y = nxt k X c) := hYe
        have hinZ : q + k < zs.length := by rw [HL.out]; exact hin
        have HinZ : Hid (q + k < zs.length) := hinZ
        have hge : decide ((len : Int) - (k : Int) ≤ (q : Int)) = false := by simp; omega
        clear hce hYe hY1 hinZ hc
        by_cases h128 : c < 128
        · by_cases hk0 : 0 < k
          · by_cases hc0 : c = 0
            · have e2 : (c == 0) = true := by simp [hc0]
              have HN : Hid (r = none) := dg_bad HC.out HinZ.out HR.out HY.out h128 (.inl ⟨hk0, hc0⟩)
              clear hc0
              go_wp2
              go_ret3
              exact ⟨out_none HN.out _, rfl⟩
            · have e2 : (c == 0) = false := by simp [hc0]
              by_cases hbig : 2147483647 < Y
              · have HN : Hid (r = none) := dg_bad HC.out HinZ.out HR.out HY.out h128 (.inr hbig)
                clear hc0
                go_wp2
                go_ret3
                exact ⟨out_none HN.out _, rfl⟩
              · have HN : Hid (r = some (Y, k + 1)) := dg_good HC.out HinZ.out hk5 HR.out HY.out h128 (by omega)
                clear hc0
                go_wp2
                go_ret3
                exact ⟨out_some HN.out (by omega), rfl⟩
          · by_cases hbig : 2147483647 < Y
            · have HN : Hid (r = none) := dg_bad HC.out HinZ.out HR.out HY.out h128 (.inr hbig)
              go_wp2
              go_ret3
              exact ⟨out_none HN.out _, rfl⟩
            · have HN : Hid (r = some (Y, k + 1)) := dg_good HC.out HinZ.out hk5 HR.out HY.out h128 (by omega)
              go_wp2
              go_ret3
              exact ⟨out_some HN.out (by omega), rfl⟩
        · have HN : Hid (r = dg (zs.drop (q + (k + 1))) (k + 1) Y) := dg_more HC.out HinZ.out hk5 HR.out HY.out (by omega)
          go_wp2
          go_round
          case rel => exact ⟨k + 1, Y, by omega, by go_num, rfl, hY0, HY1, HN⟩
          case measure => simp [intOf]; omega
      · have HN : Hid (r = none) := dg_end (by rw [HL.out]; omega) HR.out
        have hge : decide ((len : Int) - (k : Int) ≤ (q : Int)) = true := by simp; omega
        go_wp2
        go_ret3
        exact ⟨out_none HN.out _, rfl⟩
    · obtain rfl : k = 5 := by omega
      have HN : Hid (r = none) := dg_five HR.out
      go_wp2
      go_ret3
      exact ⟨out_none HN.out _, rfl⟩
end Go.Proofs.Ytjndcfamfminkaq
