/- The walks through the model's l11Nums and TurnOk. No statement of the seat is proved here. -/
import Derived.Test.YthimjmkdcocofaaTuMath
import Derived.Test.YthimjmkdcocofaaTuHelp
import Derived.Test.YthimjmkdcocofaaInOf
import Derived.Test.YthimjmkdcocofaaItModel
import Derived.Test.YthimjmkdcocofaaSkOk
namespace Go.Proofs.Ythimjmkdcocofaa
open Go.RowKit
def inLH (lo hi : Int) (z : Int) : Bool := decide (lo ≤ z ∧ z ≤ hi)
set_option maxRecDepth 200000 in
set_option maxHeartbeats 1000000 in
theorem l11Nums_any (a : Option Addr) (len cap : Nat) (zs : List Int) (F : List Nat) (lo hi : Int) (w : World) (h : RdI w a len zs F) (hlen : len ≤ 140737488355328) :
    Calls Try.prog 35 #[.slice a len cap, .int .i64 lo, .int .i64 hi] w fun e w' => e = .returned (.bool (nums zs lo hi)) ∧ w' = w := by
  obtain ⟨d, hd⟩ : ∃ d, d = nums zs lo hi := ⟨_, rfl⟩
  rw [← hd]
  have HL : Hid (zs.length = len) := h.length
  by_cases hl : len = 3
  · subst hl
    have HD : Hid (d = zs.all (inLH lo hi)) := by show d = _; rw [hd, nums, HL.out]; rfl
    clear hd
    rcases h.cells with ⟨h0, _⟩ | ⟨b, off, hp, rfl, _, hc⟩
    · cases h0
    · have HC : Hid (∀ i, i < 3 → w.cell? ⟨b, off + i, none⟩ = some (.int .i64 (zs.getD i 0))) := hc
      clear h hc
      go_enter Try.func35, Try.ntmps35
      go_wp2
      go_loop [7] (fun i => ∃ k : Nat, k ≤ 3 ∧ i = .int .i64 k ∧ Hid ((zs.take k).all (inLH lo hi) = true)) (fun i => 3 - (intOf i).toNat)
      case atStart => exact ⟨0, by omega, rfl, show _ = true by simp⟩
      case round =>
        obtain ⟨k, hk, rfl, HA⟩ := hrel
        by_cases hlt : k < 3
        · have hck := HC.out k hlt
          obtain ⟨x, hx⟩ : ∃ x, x = zs[k]?.getD 0 := ⟨_, rfl⟩
          have hck2 : w.cell? ⟨b, off + k, none⟩ = some (.int .i64 x) := by rw [hx, hck]; simp
          have HX : Hid (x = zs[k]?.getD 0) := hx
          clear hck hx
          have hI : (k : Int) < 3 := by omega
          obtain ⟨y, hy⟩ : ∃ y, y = inLH lo hi x := ⟨_, rfl⟩
          have HY : Hid (y = inLH lo hi x) := hy
          have hyd : decide (lo ≤ x ∧ x ≤ hi) = y := by rw [hy]; rfl
          clear hy
          go_wp2_with fail
          refine (l1In_any _ _ _ _).mono ?_
          rintro e w1 ⟨rfl, hw1⟩
          have hw1' := hw1.symm
          subst hw1'
          rw [hyd]
          clear hw1 hyd
          cases y
          · have HN : Hid (zs.all (inLH lo hi) = false) := all_not (by rw [HL.out]; exact hlt) (by rw [← HX.out]; exact HY.out.symm)
            go_wp2
            go_ret
            exact ⟨ret_bool (by rw [HD.out, HN.out]), rfl⟩
          · have HA2 : Hid ((zs.take (k + 1)).all (inLH lo hi) = true) := all_snoc (by rw [HL.out]; exact hlt) HA.out (by rw [← HX.out]; exact HY.out.symm)
            go_wp2
            go_round
            case rel => exact ⟨k + 1, by omega, by go_num, HA2⟩
            case measure => simp [intOf]; omega
        · obtain rfl : k = 3 := by omega
          have HN : Hid (zs.all (inLH lo hi) = true) := by
            have := HA.out
            rw [List.take_of_length_le (by rw [HL.out]; exact Nat.le_refl _)] at this
            exact this
          go_wp2
          go_ret
          exact ⟨ret_bool (by rw [HD.out, HN.out]), rfl⟩
  · have HD : Hid (d = false) := by show d = _; rw [hd, nums, HL.out]; simp [hl]
    have hne : ((len : Int) != 3) = true := by simp; omega
    clear h hd
    go_enter Try.func35, Try.ntmps35
    go_wp2
    go_ret
    exact ⟨ret_bool (by rw [HD.out]), rfl⟩
set_option maxRecDepth 200000 in
set_option maxHeartbeats 1000000 in
theorem turnOkSpec_any (v : Value) (x : Tu) (F : List Nat) (w : World) (h : RdTu w v x F) (hw : x.wide) :
    Calls Try.prog 12 #[v] w fun e w' => e = .returned (.bool x.ok) ∧ Below w.heap.size w w' := by
  obtain ⟨b, l, c, rfl, hP⟩ := h
  have HP : Hid (RdI w b l x.left F ∧ l ≤ 140737488355328) := ⟨hP, by rw [← hP.length]; exact Nat.le_trans hw (by omega)⟩
  have HB : Hid (Below w.heap.size w (w.alloc (.cells #[.int .i64 x.who, .bool x.fresh, .slice b l c] 26)) ∧ Blk (w.alloc (.cells #[.int .i64 x.who, .bool x.fresh, .slice b l c] 26)) w.heap.size #[.int .i64 x.who, .bool x.fresh, .slice b l c] 26) := ⟨Below.allocW _ (Below.refl _ _) (Nat.le_refl _), Blk.made _ _ _⟩
  obtain ⟨p, hp⟩ : ∃ p, p = decide (0 ≤ x.who ∧ x.who ≤ 2) := ⟨_, rfl⟩
  have HV : Hid (x.ok = (p && nums x.left 0 1000)) := by show _ = _; rw [hp]; rfl
  clear hP hw
  go_enter Try.func12, Try.ntmps12
  go_wp2_with fail
  refine (l6Agent_any _ _).mono ?_
  rintro e w1 ⟨rfl, hw1⟩
  have hw1' := hw1.symm
  subst hw1'
  rw [← hp]
  clear hw1 hp
  cases p
  · go_wp2
    go_ret
    exact ⟨ret_bool (by rw [HV.out]; rfl), HB.out.1⟩
  · have c2 := HB.out.2.cell 2
    simp only [aT, aS, aZ] at c2
    go_wp2_with fail
    refine (l11Nums_any _ _ _ x.left F _ _ _ (HP.out.1.below HB.out.1) HP.out.2).mono ?_
    rintro e w2 ⟨rfl, hw2⟩
    have hw2' := hw2.symm
    subst hw2'
    clear hw2 c2
    obtain ⟨r, hr⟩ : ∃ r, r = nums x.left 0 1000 := ⟨_, rfl⟩
    rw [← hr]
    have HR : Hid (r = nums x.left 0 1000) := hr
    clear hr
    go_wp2
    go_ret
    exact ⟨ret_bool (by rw [HV.out, HR.out]; rfl), HB.out.1⟩
end Go.Proofs.Ythimjmkdcocofaa
