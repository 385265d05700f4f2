/- The walk through the model's l7Get. No statement of the seat is proved here. -/
import Derived.Test.YtjndcfamfminkaqFrNums
import Derived.Test.YtjndcfamfminkaqReadNum
namespace Go.Proofs.Ytjndcfamfminkaq
open Go.RowKit
/-- So many numbers, one behind the other, from that place on; and the place behind them. -/
def getTo (zs : List Int) (p : Int) : Nat → Option (List Int × Int)
  | 0 => some ([], p)
  | k + 1 => match getTo zs p k with
    | none => none
    | some (l, q) => match res zs q with
      | none => none
      | some (n, u) => some (l ++ [n], q + u)
theorem getTo_none {zs : List Int} {p : Int} {k : Nat} (h : getTo zs p k = none) : ∀ {m : Nat}, k ≤ m → getTo zs p m = none
  | 0, hm => by obtain rfl : k = 0 := by omega
                exact h
  | m + 1, hm => by
    by_cases e : k = m + 1
    · subst e; exact h
    · rw [getTo, getTo_none h (m := m) (by omega)]
theorem getTo_len {zs : List Int} {p : Int} : ∀ {k : Nat} {l : List Int} {q : Int}, getTo zs p k = some (l, q) → l.length = k
  | 0, l, q, h => by
    rw [getTo] at h
    cases h
    rfl
  | k + 1, l, q, h => by
    rw [getTo] at h
    split at h
    · cases h
    · rename_i l' q' e
      split at h
      · cases h
      · cases h
        rw [List.length_append, getTo_len e]
        rfl
theorem cell_one7 (w : World) (x : Value) (t : TypeId) : ∀ j u, [x][j]? = some u → (w.alloc (.cells #[x] t)).cell? ((⟨w.heap.size, 0, none⟩ : Addr).add j) = some u
  | 0, u, hx => by
    obtain rfl : x = u := by simpa using hx
    simp [Addr.add]
  | j + 1, u, hx => by simp at hx
set_option maxRecDepth 100000 in
set_option maxHeartbeats 4000000 in
theorem l7Get_any (a : Option Addr) (len cap : Nat) (p : Int) (m : Nat) (zs : List Int) (w : World) (h : RdB w a len zs) (hlen : len ≤ 1048576) (hm : m ≤ 1048576) :
    Calls Try.prog 52 #[.slice a len cap, .int .i64 p, .int .i64 m] w fun e w' => (∃ v l q, e = .returned (.tuple #[v, .int .i64 q, .bool (getTo zs p m).isSome]) ∧ w'.ownsRow w.heap.size 3 1 v l.length (l.map (Value.int .i64)) ∧ (getTo zs p m).getD ([], 0) = (l, q)) ∧ Below w.heap.size w w' := by
  obtain ⟨i0, hi, hz0, hz1, hz2⟩ := info_parts infoInt
  have HR : Hid (RdB w a len zs) := h
  clear h
  go_enter Try.func52, Try.ntmps52
  go_wp2
  go_loopw [1, 9, 10] (fun at_ v i wr => ∃ (k : Nat) (l : List Int) (q : Int), k ≤ m ∧ i = .int .i64 k ∧ at_ = .int .i64 q ∧ Hid (getTo zs p k = some (l, q)) ∧ Hid (wr.ownsRow w.heap.size 3 1 v l.length (l.map (Value.int .i64)) ∧ Below w.heap.size w wr)) (fun _ _ i _ => m - (intOf i).toNat)
  case atStart => exact ⟨0, [], p, by omega, rfl, rfl, rfl, own_empty w _, (Below.refl _ _).alloc (Nat.le_refl _) _⟩
  case round =>
    obtain ⟨k, l, q, hk, rfl, rfl, HG, HO⟩ := hrel
    by_cases hlt : k < m
    · have hI : (k : Int) < (m : Int) := by omega
      have hll := getTo_len HG.out
      go_wp2_with fail
      refine (getSpec_any a len cap q zs _ (HR.out.below HO.out.2) hlen).mono ?_
      rintro e w1 ⟨rfl, hw1⟩
      have hw1' := hw1.symm
      subst hw1'
      clear hw1
      obtain ⟨r, hr⟩ : ∃ r, r = res zs q := ⟨_, rfl⟩
      rw [← hr]
      have HRes : Hid (r = res zs q) := hr
      clear hr
      rcases r with _ | ⟨n, u⟩
      · have HV : Hid (getTo zs p m = none) := getTo_none (k := k + 1) (by rw [getTo, HG.out]; simp only; rw [← HRes.out]) (by omega)
        have HE : Hid ((wr.alloc (.cells #[] 3)).ownsRow wr.heap.size 3 1 (.slice (some ⟨wr.heap.size, 0, none⟩) 0 0) 0 []) := own_empty wr _
        simp only [out3]
        go_wp2
        go_ret3
        rw [HV.out]
        exact ⟨⟨_, [], 0, rfl, own_mono7 HE.out HO.out.2.size, rfl⟩, Below.next HO.out.2 ((Below.refl _ _).alloc (Nat.le_refl _) _)⟩
      · have HG2 : Hid (getTo zs p (k + 1) = some (l ++ [n], q + u)) := by show _ = _; rw [getTo, HG.out]; simp only; rw [← HRes.out]
        simp only [out3]
        obtain ⟨q2, hq2⟩ : ∃ q2, q2 = q + (u : Int) := ⟨_, rfl⟩
        rw [← hq2] at HG2 ⊢
        clear hq2
        go_wp2_with (with_reducible refine stopAppend rfl ?_)
        refine Stop.intro (wpList_append_own _ rfl _ _ 22 rfl w.heap.size 3 i0 (.int .i64 0) 1 8 Try.underlying22 hi hz0 hz1 hz2 rfl (by decide) _ _ _ rfl (HO.out.1.alloc _) ⟨wr.heap.size, 0, none⟩ 1 1 [.int .i64 n] rfl rfl (cell_one7 _ _ _) (by intro u hu; simp at hu; subst hu; rfl) (by unfold maxLen; omega) (by omega) (by have := HO.out.2.size; simp; omega) ?_)
        intro v2 w2 hown hgrow _
        have hal : Below w.heap.size w (wr.alloc (.cells #[.int .i64 n] 3)) := Below.allocW _ HO.out.2 (Nat.le_refl _)
        have hb2 : Below w.heap.size w w2 := hal.grown hgrow hal.size (fun g hg => (HO.out.1.lt g hg).1)
        have HO2 : Hid (w2.ownsRow w.heap.size 3 1 v2 (l ++ [n]).length ((l ++ [n]).map (Value.int .i64)) ∧ Below w.heap.size w w2) := by
          refine ⟨?_, hb2⟩
          rw [List.length_append, List.map_append]
          exact hown
        clear hown hgrow hal hb2 HO HG
        go_wp2
        go_roundw
        case rel => exact ⟨k + 1, l ++ [n], q2, by omega, by go_num, by rfl, HG2, HO2⟩
        case measure => simp [intOf]; omega
    · obtain rfl : k = m := by omega
      go_wp2
      go_ret3
      rw [HG.out]
      exact ⟨⟨_, l, q, rfl, HO.out.1, rfl⟩, HO.out.2⟩
end Go.Proofs.Ytjndcfamfminkaq
