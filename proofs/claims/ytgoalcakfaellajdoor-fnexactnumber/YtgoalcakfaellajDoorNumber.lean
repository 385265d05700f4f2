/- The walks through Number, the program's and the model's: what is no number panics inside and is recovered at the face. No statement of the seat is proved here. -/
import Derived.Test.YtgoalcakfaellajDoorDigits
import Derived.Test.YtgoalcakfaellajDoorNumberMath
import Derived.Defers
import Derived.Recover
import Derived.Laws.Pointers
import Derived.Lib.ConvBytes
namespace Go.Proofs.YtgoalcakfaellajDoor
open Go.RowKit

def out2 (r : Option Int) : Value := match r with
  | none => .tuple #[.int .i64 0, .bool false]
  | some v => .tuple #[.int .i64 v, .bool true]
theorem out2_none {r : Option Int} (h : r = none) : Ending.returned (.tuple #[.int .i64 0, .bool false]) = .returned (out2 r) := by rw [h]; rfl
theorem out2_some {r : Option Int} {v : Int} (h : r = some v) : Ending.returned (.tuple #[.int .i64 v, .bool true]) = .returned (out2 r) := by rw [h]; rfl
theorem byte_mem (s : ByteArray) (k : Nat) (h : k < s.size) : s[k] ∈ s.data.toList := by
  have h' : k < s.data.toList.length := by simpa using h
  have : s[k] = s.data.toList[k] := rfl
  rw [this]; exact List.getElem_mem h'
theorem take_byte (s : ByteArray) (k : Nat) (h : k < s.size) : s.data.toList.take (k + 1) = s.data.toList.take k ++ [s[k]] := by
  rw [List.take_succ_eq_append_getElem (by simpa using h)]; rfl
theorem digits_more {s : ByteArray} {k : Nat} (h : k < s.size) (hd : ∀ c ∈ s.data.toList.take k, isDigit c) (hc : isDigit s[k]) : ∀ c ∈ s.data.toList.take (k + 1), isDigit c := by
  rw [take_byte s k h]
  intro c hx
  rcases List.mem_append.1 hx with h' | h'
  · exact hd c h'
  · simp only [List.mem_singleton] at h'; subst h'; exact hc
theorem val_more {s : ByteArray} {k : Nat} (h : k < s.size) {N c : Int} (hN : N = ((val (s.data.toList.take k) : Nat) : Int)) (hc : (s[k].toNat : Int) = c) (h48 : 48 ≤ c) : 10 * N + c - 48 = ((val (s.data.toList.take (k + 1)) : Nat) : Int) := by
  rw [take_byte s k h, val_snoc, hN]; omega
theorem list_eq {s : ByteArray} {l : List UInt8} (h : l = s.data.toList) : (⟨l.toArray⟩ : ByteArray) = s := by rw [h]
theorem list_ne {s : ByteArray} {l : List UInt8} (h : ¬ l = s.data.toList) : ((⟨l.toArray⟩ : ByteArray).toList == s.toList) = false := by
  rw [beq_eq_false_iff_ne]
  intro e
  rw [ByteArray.toList_eq, ByteArray.toList_eq] at e
  exact h (by simpa using e)

set_option maxHeartbeats 800000 in
theorem numSpec_any (s : ByteArray) (w : World) (hs : s.size ≤ 1048576) :
    Calls Tryd.prog 7 #[.string s] w fun e w' => e = .returned (out2 (numOf s.data.toList)) ∧ Below w.heap.size w w' := by
  have hsl : s.data.toList.length = s.size := by rw [Array.length_toList]; rfl
  obtain ⟨r, hr⟩ : ∃ r, r = numOf s.data.toList := ⟨_, rfl⟩
  rw [← hr]
  by_cases h1 : s.size < 1
  · have HN : Hid (r = none) := by rw [hr]; exact numOf_len (by omega)
    have d1 : decide ((s.size : Int) < 1) = true := by simp; omega
    clear hr hsl hs
    go_enter Tryd.func7, Tryd.ntmps7
    go_wp2
    go_ret2
    exact ⟨out2_none HN.out, Below.refl _ _⟩
  by_cases h6 : 6 < s.size
  · have HN : Hid (r = none) := by rw [hr]; exact numOf_len (by omega)
    have d1 : decide ((s.size : Int) < 1) = false := by simp; omega
    have d2 : decide ((6 : Int) < (s.size : Int)) = true := by simp; omega
    clear hr hsl hs h1
    go_enter Tryd.func7, Tryd.ntmps7
    go_wp2
    go_ret2
    exact ⟨out2_none HN.out, Below.refl _ _⟩
  have d1 : decide ((s.size : Int) < 1) = false := by simp; omega
  have d2 : decide ((6 : Int) < (s.size : Int)) = false := by simp; omega
  have Hr : Hid (r = numOf s.data.toList) := hr
  have Hsl : Hid (s.data.toList.length = s.size) := hsl
  have H6 : Hid (s.size ≤ 6) := by show s.size ≤ 6; omega
  have H1 : Hid (0 < s.size) := by show 0 < s.size; omega
  clear hr hsl h1 h6
  go_enter Tryd.func7, Tryd.ntmps7
  go_wp2
  clear d1 d2
  go_loop [4, 5] (fun n i => ∃ (k : Nat) (N : Int), k ≤ s.size ∧ i = .int .i64 k ∧ n = .int .i64 N ∧ 0 ≤ N ∧ N ≤ 999999 ∧ Hid (N = ((val (s.data.toList.take k) : Nat) : Int)) ∧ Hid (∀ c ∈ s.data.toList.take k, isDigit c)) (fun _ i => s.size - (intOf i).toNat)
  case atStart => exact ⟨0, 0, by omega, rfl, rfl, by omega, by omega, rfl, by intro c hc; cases hc⟩
  case round =>
    obtain ⟨k, N, hk, rfl, rfl, hN0, hN1, HV, HD⟩ := hrel
    by_cases hlt : k < s.size
    · obtain ⟨c, hc⟩ : ∃ c : Int, (s[k].toNat : Int) = c := ⟨_, rfl⟩
      by_cases h48 : c < 48
      · have HN : Hid (r = none) := by rw [Hr.out]; exact numOf_byte (byte_mem s k hlt) (fun h => by have := h.1; omega)
        go_wp2
        go_ret2
        exact ⟨out2_none HN.out, Below.refl _ _⟩
      · by_cases h57 : 57 < c
        · have HN : Hid (r = none) := by rw [Hr.out]; exact numOf_byte (byte_mem s k hlt) (fun h => by have := h.2; omega)
          have e48 : decide (c < 48) = false := by simpa using h48
          go_wp2
          go_ret2
          exact ⟨out2_none HN.out, Below.refl _ _⟩
        · have hdig : isDigit s[k] := ⟨by omega, by omega⟩
          have HD' : Hid (∀ c ∈ s.data.toList.take (k + 1), isDigit c) := digits_more hlt HD.out hdig
          have HV' : Hid (10 * N + c - 48 = ((val (s.data.toList.take (k + 1)) : Nat) : Int)) := val_more hlt HV.out hc (by omega)
          have hv6 : 10 * N + c - 48 ≤ 999999 := by
            rw [HV'.out]
            have := val_bd (s.data.toList.take (k + 1)) (by have := List.length_take_le (k + 1) s.data.toList; have := H6.out; omega) HD'.out
            omega
          have e48 : decide (c < 48) = false := by simpa using h48
          have e57 : decide (57 < c) = false := by simpa using h57
          clear hdig
          go_wp2
          go_round
          case rel => exact ⟨k + 1, 10 * N + c - 48, by omega, by go_num, by go_num, by omega, hv6, HV', HD'⟩
          case measure => simp [intOf]; omega
    · obtain rfl : k = s.size := by omega
      have et : s.data.toList.take s.size = s.data.toList := List.take_of_length_le (by rw [Hsl.out]; exact Nat.le_refl _)
      rw [et] at HV HD
      have hnum := numOf_digits s.data.toList (by rw [Hsl.out]; exact H1.out) (by rw [Hsl.out]; exact H6.out) HD.out
      rw [← HV.out, ← Hr.out] at hnum
      by_cases he : Lib.itoa N = s.data.toList
      · rw [if_pos he] at hnum
        have HN : Hid (r = some N) := hnum
        have hst := list_eq he
        clear hnum he et
        go_wp2_with fail
        refine (digSpec_any N _ (by omega) (by omega)).mono ?_
        rintro e w1 ⟨rfl, hb⟩
        rw [hst]
        clear hst
        go_wp2
        go_ret2
        exact ⟨out2_some HN.out, hb⟩
      · rw [if_neg he] at hnum
        have HN : Hid (r = none) := hnum
        have hst := list_ne he
        clear hnum he et
        go_wp2_with fail
        refine (digSpec_any N _ (by omega) (by omega)).mono ?_
        rintro e w1 ⟨rfl, hb⟩
        obtain ⟨t, ht⟩ : ∃ t, t = (⟨(Lib.itoa N).toArray⟩ : ByteArray) := ⟨_, rfl⟩
        rw [← ht] at hst
        rw [← ht]
        clear ht
        go_wp2
        go_ret2
        exact ⟨out2_none HN.out, hb⟩

theorem below_bytes (w : World) (e : TypeId) (t : ByteArray) : Below w.heap.size w (Lib.bytesWorld w e t) :=
  Lib.below_freeze ((Below.refl _ _).drew.alloc (Nat.le_refl _) _) (p := ⟨w.heap.size, (Lib.bytesCells w e t).size, none⟩) (Nat.le_refl _) _

/-- What the library's two sentinels and its table hold: what readDigits asks of the world. -/
structure Lib4 (w : World) : Prop where
  tab : Lib.TabIs Tryd.prog w "internal/strconv.uint64pow10" .u64 Lib.pow10Tab
  syn : ∃ te pe, w.cell? ⟨1, 0, none⟩ = some (.iface te pe)
  rng : ∃ te pe, w.cell? ⟨2, 0, none⟩ = some (.iface te pe)
theorem gPow : Tryd.prog.globalNamed "internal/strconv.uint64pow10" = some 0 := by kernel_rfl
theorem Lib4.below {w w' : World} (h : Lib4 w) (hb : Below w.heap.size w w') : Lib4 w' := by
  obtain ⟨t, ⟨a, b, hs⟩, ⟨c, d, hr⟩⟩ := h
  exact ⟨tab_below gPow t hb, ⟨a, b, (hb.cell (p := ⟨1, 0, none⟩) (World.block_lt_of_cell? _ _ hs)).trans hs⟩, ⟨c, d, (hb.cell (p := ⟨2, 0, none⟩) (World.block_lt_of_cell? _ _ hr)).trans hr⟩⟩

def noNum : List PanicEntry := [{ v := .iface 9 (.string ⟨#[110, 111, 32, 110, 117, 109, 98, 101, 114]⟩), recovered := false }]
def outDig (r : Option Int) : Ending := match r with
  | none => .panicked noNum
  | some v => .returned (.int .i64 v)
theorem dig_none {r : Option Int} (h : r = none) : Ending.panicked noNum = outDig r := by rw [h]; rfl
theorem dig_some {r : Option Int} {v : Int} (h : r = some v) : Ending.returned (.int .i64 v) = outDig r := by rw [h]; rfl
theorem numOf_err {l : List UInt8} (h : ∀ v, ¬ Lib.atoiAll l = .ok v) : numOf l = none := none_of fun v hv => h v (numOf_some hv).2.2.2

set_option maxHeartbeats 800000 in
theorem readDigits_any (s : ByteArray) (w : World) (hs : s.size ≤ 1048576) (hL : Lib4 w) :
    Calls Tryd.prog 11 #[.string s] w fun e w' => e = outDig (numOf s.data.toList) ∧ Below w.heap.size w w' := by
  have HL : Hid (Lib4 w) := hL
  clear hL
  obtain ⟨r, hr⟩ : ∃ r, r = numOf s.data.toList := ⟨_, rfl⟩
  rw [← hr]
  cases ha : Lib.atoiAll s.data.toList with
  | «syntax» =>
    have HN : Hid (r = none) := by rw [hr]; exact numOf_err (fun v h => by rw [ha] at h; cases h)
    have Ha : Hid (Lib.atoiAll s.data.toList = .«syntax») := ha
    obtain ⟨te, pe, hv⟩ := HL.out.syn
    clear hr ha
    go_enter Tryd.func11, Tryd.ntmps11
    go_wp2_with fail
    refine (Tryd.strconv_Atoi_syntax s (by omega) Ha.out _ _ hv (.inr ⟨_, _, rfl⟩)).mono ?_
    rintro e w1 ⟨M, rfl, hM, _, hb⟩
    go_wp2
    exact ⟨rfl, dig_none HN.out, hb⟩
  | range =>
    have HN : Hid (r = none) := by rw [hr]; exact numOf_err (fun v h => by rw [ha] at h; cases h)
    have Ha : Hid (Lib.atoiAll s.data.toList = .range) := ha
    obtain ⟨te, pe, hv⟩ := HL.out.rng
    clear hr ha
    go_enter Tryd.func11, Tryd.ntmps11
    go_wp2_with fail
    refine (Tryd.strconv_Atoi_range s (by omega) Ha.out _ _ hv (.inr ⟨_, _, rfl⟩)).mono ?_
    rintro e w1 ⟨M, rfl, hM, _, hb⟩
    go_wp2
    exact ⟨rfl, dig_none HN.out, hb⟩
  | ok v =>
    have Ha : Hid (Lib.atoiAll s.data.toList = .ok v) := ha
    have hvb := Lib.atoiAll_bounds ha
    have hnum : r = if 0 ≤ v ∧ v ≤ 999999 ∧ Lib.itoa v = s.data.toList then some v else none := by rw [hr, numOf, ha]
    clear hr ha
    go_enter Tryd.func11, Tryd.ntmps11
    have Hnum : Hid (r = if 0 ≤ v ∧ v ≤ 999999 ∧ Lib.itoa v = s.data.toList then some v else none) := hnum
    clear hnum
    go_wp2_with fail
    refine (Tryd.strconv_Atoi_ok s (by omega) v Ha.out _).mono ?_
    rintro e w1 ⟨rfl, hw⟩
    have hb : Below w.heap.size w w1 := by
      rcases hw with h | ⟨t, h⟩
      · rw [h]; exact Below.refl _ _
      · rw [h]; exact below_bytes _ _ _
    clear hw
    by_cases h0 : v < 0
    · have HN : Hid (r = none) := by show r = none; rw [Hnum.out, if_neg (by omega)]
      clear Hnum
      go_wp2
      exact ⟨rfl, dig_none HN.out, hb⟩
    · have e0 : decide (v < 0) = false := by simpa using h0
      by_cases h9 : 999999 < v
      · have HN : Hid (r = none) := by show r = none; rw [Hnum.out, if_neg (by omega)]
        clear Hnum
        go_wp2
        exact ⟨rfl, dig_none HN.out, hb⟩
      · have e9 : decide (999999 < v) = false := by simpa using h9
        have HL1 := (HL.out.below hb).tab
        by_cases he : Lib.itoa v = s.data.toList
        · have HN : Hid (r = some v) := by show r = some v; rw [Hnum.out, if_pos ⟨by omega, by omega, he⟩]
          have hst := list_eq he
          clear Hnum he
          go_wp2_with fail
          refine (digImpl_any v _ (by omega) (by omega) HL1).mono ?_
          rintro e w2 ⟨rfl, hb2⟩
          rw [hst]
          have hb2 := hb.trans (hb2.mono hb.size)
          clear hst hb HL1
          go_wp2
          go_ret
          exact ⟨dig_some HN.out, hb2⟩
        · have HN : Hid (r = none) := by show r = none; rw [Hnum.out, if_neg (fun h => he h.2.2)]
          have hst := list_ne he
          clear Hnum he
          go_wp2_with fail
          refine (digImpl_any v _ (by omega) (by omega) HL1).mono ?_
          rintro e w2 ⟨rfl, hb2⟩
          obtain ⟨t, ht⟩ : ∃ t, t = (⟨(Lib.itoa v).toArray⟩ : ByteArray) := ⟨_, rfl⟩
          rw [← ht] at hst
          rw [← ht]
          have hb2 := hb.trans (hb2.mono hb.size)
          clear ht hb HL1
          go_wp2
          exact ⟨rfl, dig_none HN.out, hb2⟩

theorem catch_panicking (p0 p1 : Addr) (v0 v1 : Value) (u : TypeId) (pv : Value) (older : List PanicEntry) (w : World) (h01 : ¬ p0 = p1)
    (hc0 : w.cell? p0 = some v0) (hz0 : w.frozen? p0 = false) (hc1 : w.cell? p1 = some v1) (hz1 : w.frozen? p1 = false) :
    CallsD Tryd.prog 10 #[.pointer (some p0), .pointer (some p1)] (.panicking ({ v := .iface u pv, recovered := false } :: older)) w fun e u' w' =>
      e = .returned (.tuple #[]) ∧ u' = .panicking ({ v := .iface u pv, recovered := true } :: older) ∧ w' = (w.setCell p0 (.int .i64 0)).setCell p1 (.bool false) := by
  refine callsD_of_wpS Tryd.func10 rfl fun c₀ cs hu => ?_
  apply wpS_seq
  apply wpS_region
  simp [wpOpsS, go_sem, recoverD, hu, Tryd.ntmps10, Exit.thenS]
  refine wpS_cond (t := true) (by simp [Act.eval, Array.replicate]) ?_
  simp only [if_true]
  apply wpS_region
  simp [wpOpsS, go_sem, hc0, hz0, hc1, hz1, h01, bodyPostS, results, Tryd.results10]
theorem catch_idle (p0 p1 : Addr) (w : World) :
    CallsD Tryd.prog 10 #[.pointer (some p0), .pointer (some p1)] .returning w fun e u' w' => e = .returned (.tuple #[]) ∧ u' = .returning ∧ w' = w := by
  refine callsD_of_wpS Tryd.func10 rfl fun c₀ cs hu => ?_
  apply wpS_seq
  apply wpS_region
  simp [wpOpsS, go_sem, recoverD, hu, Tryd.ntmps10, Exit.thenS]
  refine wpS_cond (t := false) (by simp [Act.eval, Array.replicate]) ?_
  simp only [Bool.false_eq_true, if_false]
  refine wpS_of_wp (wp_skip ?_)
  cases c₀
  simp_all [bodyPostS, results, Tryd.results10]
end Go.Proofs.YtgoalcakfaellajDoor
