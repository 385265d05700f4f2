/- The walks through GetText, the program's and the model's. No statement of the seat is proved here. -/
import Derived.Test.YtgoalcakfaellakGetImpl
import Derived.Laws.BytesArg
namespace Go.Proofs.Ytgoalcakfaellak
open Go.RowKit

theorem dg_bd : ∀ (l : List Int) (k : Nat) (X n : Int) (u : Nat), (∀ c ∈ l, 0 ≤ c ∧ c ≤ 255) → 0 ≤ X → dg l k X = some (n, u) → 0 ≤ n ∧ n ≤ 2147483647 ∧ k < u ∧ u ≤ k + l.length
  | [], k, X, n, u, _, _, h => by cases h
  | c :: r, k, X, n, u, hl, hX, h => by
    have hp : (0 : Int) ≤ 128 ^ k := Int.pow_nonneg (by decide)
    have hn : 0 ≤ X + c % 128 * 128 ^ k := by have := Int.mul_nonneg (show 0 ≤ c % 128 by omega) hp; omega
    simp only [dg] at h
    by_cases h5 : k = 5
    · rw [if_pos h5] at h; cases h
    · rw [if_neg h5] at h
      by_cases h1 : c < 128
      · rw [if_pos h1] at h
        by_cases h2 : (0 < k ∧ c = 0) ∨ 2147483647 < X + c % 128 * 128 ^ k
        · rw [if_pos h2] at h; cases h
        · rw [if_neg h2] at h
          simp only [Option.some.injEq, Prod.mk.injEq] at h
          obtain ⟨rfl, rfl⟩ := h
          exact ⟨hn, by omega, by omega, by simp⟩
      · rw [if_neg h1] at h
        have := dg_bd r (k + 1) _ n u (fun c hc => hl c (by simp [hc])) hn h
        exact ⟨this.1, this.2.1, by omega, by simp; omega⟩
theorem res_bd {zs : List Int} {p n : Int} {u : Nat} (hl : ∀ c ∈ zs, 0 ≤ c ∧ c ≤ 255) (h : res zs p = some (n, u)) : 0 ≤ p ∧ p + u ≤ zs.length ∧ 0 ≤ n ∧ n ≤ 2147483647 ∧ 0 < u := by
  unfold res at h
  split at h
  · rename_i hp
    have := dg_bd _ 0 0 n u (fun c hc => hl c (List.mem_of_mem_drop hc)) (by omega) h
    rw [List.length_drop] at this
    exact ⟨hp.1, by omega, this.1, this.2.1, by omega⟩
  · cases h

/-- The text that begins at that place, and the place behind it. -/
def tres (zs : List Int) (p : Int) : Option (ByteArray × Int) := match res zs p with
  | none => none
  | some (n, u) => if (zs.length : Int) - (p + u) < n then none else some (strOfNums ((zs.drop (p + u).toNat).take n.toNat), p + u + n)
def outT (r : Option (ByteArray × Int)) : Value := match r with
  | none => .tuple #[.string ⟨#[]⟩, .int .i64 0, .bool false]
  | some (s, m) => .tuple #[.string s, .int .i64 m, .bool true]
theorem outT_none {r : Option (ByteArray × Int)} (h : r = none) : Ending.returned (.tuple #[.string ⟨#[]⟩, .int .i64 0, .bool false]) = .returned (outT r) := by rw [h]; rfl
theorem outT_some {r : Option (ByteArray × Int)} {s : ByteArray} {m m' : Int} (h : r = some (s, m)) (hm : m' = m) : Ending.returned (.tuple #[.string s, .int .i64 m', .bool true]) = .returned (outT r) := by rw [h, hm]; rfl
theorem cut_cells {w : World} {b off len nx n : Nat} {zs : List Int} (hc : ∀ i, i < len → w.cell? ⟨b, off + i, none⟩ = some (.int .u8 (zs.getD i 0))) (hle : nx + n ≤ len) :
    ∀ i, i < n → w.cell? ⟨b, off + nx + i, none⟩ = some (.int .u8 (((zs.drop nx).take n).getD i 0)) := by
  intro i hi
  have := hc (nx + i) (by omega)
  rw [← Nat.add_assoc] at this
  rw [this]
  simp [hi]

set_option maxHeartbeats 800000 in
theorem textSpec_any (a : Option Addr) (len cap : Nat) (p : Int) (zs : List Int) (w : World) (h : RdB w a len zs) (hlen : len ≤ 1048576) (hcap : len ≤ cap) (ha : a = none → cap = 0) :
    Calls Try.prog 16 #[.slice a len cap, .int .i64 p] w fun e w' => e = .returned (outT (tres zs p)) ∧ Below w.heap.size w w' := by
  have HR : Hid (RdB w a len zs) := h
  cases hr : res zs p with
  | none =>
    have HT : Hid (tres zs p = none) := by show tres zs p = none; unfold tres; rw [hr]
    have HO : Hid (out3 (res zs p) p = .tuple #[.int .i64 0, .int .i64 0, .bool false]) := by show out3 (res zs p) p = _; rw [hr]; rfl
    clear h hr
    go_enter Try.func16, Try.ntmps16
    go_wp2_with fail
    refine (getSpec_any a len cap p zs _ HR.out hlen).mono ?_
    rintro e w1 ⟨rfl, hb⟩; subst hb
    rw [HO.out]
    go_wp2
    go_ret3
    exact ⟨outT_none HT.out, Below.refl _ _⟩
  | some x =>
    obtain ⟨n, u⟩ := x
    have hbd := res_bd h.range hr
    obtain ⟨q, rfl⟩ := Int.eq_ofNat_of_zero_le hbd.1
    obtain ⟨m, rfl⟩ := Int.eq_ofNat_of_zero_le hbd.2.2.1
    have hl := h.length
    have hnx : q + u ≤ len := by omega
    have HO : Hid (out3 (res zs q) q = .tuple #[.int .i64 m, .int .i64 ((q : Int) + u), .bool true]) := by show out3 (res zs q) q = _; rw [hr]; rfl
    obtain ⟨b, off, rfl, hc⟩ : ∃ b off, a = some ⟨b, off, none⟩ ∧ ∀ i, i < len → w.cell? ⟨b, off + i, none⟩ = some (.int .u8 (zs.getD i 0)) := by
      rcases h.cells with h0 | h0
      · omega
      · exact h0
    by_cases hbig : (len : Int) - ((q : Int) + u) < m
    · have HT : Hid (tres zs q = none) := by show tres zs q = none; unfold tres; rw [hr]; show (if _ then _ else _) = _; rw [if_pos (by omega)]
      clear h hr hbd hc hl
      go_enter Try.func16, Try.ntmps16
      go_wp2_with fail
      refine (getSpec_any (some ⟨b, off, none⟩) len cap q zs _ HR.out hlen).mono ?_
      rintro e w1 ⟨rfl, hb⟩; subst hb
      rw [HO.out]
      go_wp2
      go_ret3
      exact ⟨outT_none HT.out, Below.refl _ _⟩
    · have HT : Hid (tres zs q = some (strOfNums ((zs.drop (q + u)).take m), (q : Int) + u + m)) := by show tres zs q = _; unfold tres; rw [hr]; show (if _ then _ else _) = _; rw [if_neg (by omega)]; rfl
      have hfit : q + u + m ≤ len := by omega
      have hlt : ((zs.drop (q + u)).take m).length = m := by simp; omega
      by_cases hcq : q + u < cap
      · clear h hr hbd hbig
        go_enter Try.func16, Try.ntmps16
        go_wp2_with fail
        refine (getSpec_any (some ⟨b, off, none⟩) len cap q zs _ HR.out hlen).mono ?_
        rintro e w1 ⟨rfl, hb⟩; subst hb
        rw [HO.out]
        have hc1 : ∀ i, i < len → w1.cell? ⟨b, off + i, none⟩ = some (.int .u8 (zs.getD i 0)) := hc
        have kc := fun c : Nat => run_convert_bytes_arg (P := Try.prog) w1 22 5 Try.underlying22 Try.underlying5 b (off + (q + u)) m c ((zs.drop (q + u)).take m) hlt (cut_cells hc1 hfit) 9 Try.underlying9
        clear hc hc1 hlt
        go_wp2
        go_ret3
        exact ⟨outT_some HT.out (by omega), Below.refl _ _⟩
      · obtain rfl : m = 0 := by omega
        obtain rfl : cap = q + u := by omega
        obtain rfl : len = q + u := by omega
        clear h hr hbd hbig
        go_enter Try.func16, Try.ntmps16
        go_wp2_with fail
        refine (getSpec_any (some ⟨b, off, none⟩) (q + u) (q + u) q zs _ HR.out hlen).mono ?_
        rintro e w1 ⟨rfl, hb⟩; subst hb
        rw [HO.out]
        have kc := fun c : Nat => run_convert_bytes_arg (P := Try.prog) w1 22 5 Try.underlying22 Try.underlying5 b off 0 c [] rfl (by intro i hi; omega) 9 Try.underlying9
        clear hc hlt
        go_wp2
        go_ret3
        exact ⟨outT_some HT.out (by omega), Below.refl _ _⟩
set_option maxHeartbeats 800000 in
theorem textImpl_any (a : Option Addr) (len cap : Nat) (p : Int) (zs : List Int) (w : World) (h : RdB w a len zs) (hlen : len ≤ 1048576) (hcap : len ≤ cap) (ha : a = none → cap = 0) :
    Calls Try.prog 17 #[.slice a len cap, .int .i64 p] w fun e w' => e = .returned (outT (tres zs p)) ∧ Below w.heap.size w w' := by
  have HR : Hid (RdB w a len zs) := h
  cases hr : res zs p with
  | none =>
    have HT : Hid (tres zs p = none) := by show tres zs p = none; unfold tres; rw [hr]
    have HO : Hid (out3 (res zs p) p = .tuple #[.int .i64 0, .int .i64 0, .bool false]) := by show out3 (res zs p) p = _; rw [hr]; rfl
    clear h hr
    go_enter Try.func17, Try.ntmps17
    go_wp2_with fail
    refine (getImpl_any a len cap p zs _ HR.out hlen hcap ha).mono ?_
    rintro e w1 ⟨rfl, hb⟩
    rw [HO.out]
    go_wp2
    go_ret3
    exact ⟨outT_none HT.out, hb⟩
  | some x =>
    obtain ⟨n, u⟩ := x
    have hbd := res_bd h.range hr
    obtain ⟨q, rfl⟩ := Int.eq_ofNat_of_zero_le hbd.1
    obtain ⟨m, rfl⟩ := Int.eq_ofNat_of_zero_le hbd.2.2.1
    have hl := h.length
    have hnx : q + u ≤ len := by omega
    have HO : Hid (out3 (res zs q) q = .tuple #[.int .i64 m, .int .i64 ((q : Int) + u), .bool true]) := by show out3 (res zs q) q = _; rw [hr]; rfl
    obtain ⟨b, off, rfl, hc⟩ : ∃ b off, a = some ⟨b, off, none⟩ ∧ ∀ i, i < len → w.cell? ⟨b, off + i, none⟩ = some (.int .u8 (zs.getD i 0)) := by
      rcases h.cells with h0 | h0
      · omega
      · exact h0
    by_cases hbig : (len : Int) - ((q : Int) + u) < m
    · have HT : Hid (tres zs q = none) := by show tres zs q = none; unfold tres; rw [hr]; show (if _ then _ else _) = _; rw [if_pos (by omega)]
      clear h hr hbd hc hl
      go_enter Try.func17, Try.ntmps17
      go_wp2_with fail
      refine (getImpl_any (some ⟨b, off, none⟩) len cap q zs _ HR.out hlen hcap ha).mono ?_
      rintro e w1 ⟨rfl, hb⟩
      rw [HO.out]
      go_wp2
      go_ret3
      exact ⟨outT_none HT.out, hb⟩
    · have HT : Hid (tres zs q = some (strOfNums ((zs.drop (q + u)).take m), (q : Int) + u + m)) := by show tres zs q = _; unfold tres; rw [hr]; show (if _ then _ else _) = _; rw [if_neg (by omega)]; rfl
      have hfit : q + u + m ≤ len := by omega
      have hlt : ((zs.drop (q + u)).take m).length = m := by simp; omega
      by_cases hcq : q + u < cap
      · clear h hr hbd hbig
        go_enter Try.func17, Try.ntmps17
        go_wp2_with fail
        refine (getImpl_any (some ⟨b, off, none⟩) len cap q zs _ HR.out hlen hcap ha).mono ?_
        rintro e w1 ⟨rfl, hb⟩
        rw [HO.out]
        have hc1 : ∀ i, i < len → w1.cell? ⟨b, off + i, none⟩ = some (.int .u8 (zs.getD i 0)) := fun i hi => (hb.cell (p := ⟨b, off + i, none⟩) (World.block_lt_of_cell? _ _ (hc i hi))).trans (hc i hi)
        have kc := fun c : Nat => run_convert_bytes_arg (P := Try.prog) w1 22 5 Try.underlying22 Try.underlying5 b (off + (q + u)) m c ((zs.drop (q + u)).take m) hlt (cut_cells hc1 hfit) 9 Try.underlying9
        clear hc hc1 hlt
        go_wp2
        go_ret3
        exact ⟨outT_some HT.out (by omega), hb⟩
      · obtain rfl : m = 0 := by omega
        obtain rfl : cap = q + u := by omega
        obtain rfl : len = q + u := by omega
        clear h hr hbd hbig
        go_enter Try.func17, Try.ntmps17
        go_wp2_with fail
        refine (getImpl_any (some ⟨b, off, none⟩) (q + u) (q + u) q zs _ HR.out hlen hcap ha).mono ?_
        rintro e w1 ⟨rfl, hb⟩
        rw [HO.out]
        have kc := fun c : Nat => run_convert_bytes_arg (P := Try.prog) w1 22 5 Try.underlying22 Try.underlying5 b off 0 c [] rfl (by intro i hi; omega) 9 Try.underlying9
        clear hc hlt
        go_wp2
        go_ret3
        exact ⟨outT_some HT.out (by omega), hb⟩
end Go.Proofs.Ytgoalcakfaellak
