/- The walks through the program's SetApart. No statement of the seat is proved here. -/
import Derived.Test.YtjiciigaeeibgabDoorSpCut
namespace Go.Proofs.YtjiciigaeeibgabDoor
open Go.RowKit
def slLen : Value → Nat
  | .slice _ n _ => n
  | _ => 0
/-- One of the two sets: where it lies. -/
structure ARd (w : World) (a : Option Addr) (l c : Nat) (xs : Sp) : Prop where
  rd : ∃ F, RdP w a l xs F
  cap : l ≤ c
  ok : okFrom 0 xs
theorem ARd.length {w : World} {a : Option Addr} {l c : Nat} {xs : Sp} (h : ARd w a l c xs) : xs.length = l := by
  obtain ⟨F, h⟩ := h.rd
  exact h.length
theorem okFrom_drop1 {xs : Sp} (h : okFrom 0 xs) (k : Nat) : okFrom 0 (xs.drop k) := by
  have h' := h
  rw [← List.take_append_drop k xs, okFrom_append] at h'
  have e : 0 ≤ endOf 0 (xs.take k) := by
    have : ∀ (ys : Sp) (l : Int), 0 ≤ l → okFrom l ys → 0 ≤ endOf l ys := by
      intro ys
      induction ys with
      | nil => intro l h _; exact h
      | cons p ys ih => intro l hl h; exact ih _ (by have := h.1; omega) h.2
    exact this _ _ (Int.le_refl _) h'.1
  exact okFrom_mono h'.2 e
theorem ARd.cells {w : World} {a : Option Addr} {l c : Nat} {xs : Sp} (h : ARd w a l c xs) (hl : 0 < l) : ∃ b off, a = some ⟨b, off, none⟩ ∧ w.cell? ⟨b, off, none⟩ = some (.int .i64 (xs.at 0).1) ∧ w.cell? ⟨b, off + 1, none⟩ = some (.int .i64 (xs.at 0).2) := by
  obtain ⟨F, h⟩ := h.rd
  rcases cells_of h with h0 | ⟨b, off, e, _, hc⟩
  · omega
  · have := hc 0 hl
    exact ⟨b, off, e, by simpa using this.1, by simpa using this.2⟩
theorem ARd.last {w : World} {a : Option Addr} {l : Nat} {xs : Sp} (h : ARd w a l 1 xs) (hl : 0 < l) : ARd w a (l - 1) 0 (xs.drop 1) := by
  have e := h.length
  have c := h.cap
  refine ⟨⟨[], ?_⟩, by omega, okFrom_drop1 h.ok 1⟩
  rw [List.drop_eq_nil_of_le (by omega), show l - 1 = 0 by omega]
  exact RdP.nil
theorem ARd.step {w : World} {b off : Nat} {l c : Nat} {xs : Sp} (h : ARd w (some ⟨b, off, none⟩) l c xs) (hl : 0 < l) : ARd w (some ⟨b, off + 2, none⟩) (l - 1) (c - 1) (xs.drop 1) := by
  have e := h.length
  have c := h.cap
  obtain ⟨F, hr⟩ := h.rd
  by_cases h1 : l = 1
  · refine ⟨⟨[], ?_⟩, by omega, okFrom_drop1 h.ok 1⟩
    rw [List.drop_eq_nil_of_le (by omega), show l - 1 = 0 by omega]
    exact RdP.nil
  · exact ⟨⟨F, by simpa using hr.drop (k := 1) (by omega)⟩, by omega, okFrom_drop1 h.ok 1⟩
theorem head_drop {xs : Sp} (h : 0 < xs.length) : xs = xs.at 0 :: xs.drop 1 := by simpa using drop_at (ps := xs) (k := 0) h
theorem meet_false {as' bs : Sp} (_ : okFrom 0 as') (hb : okFrom 0 bs) (la : 0 < as'.length) (lb : 0 < bs.length) (h1 : (as'.at 0).1 ≤ (bs.at 0).1) (h2 : (bs.at 0).1 ≤ (as'.at 0).2) : noMeet as' bs = false := by
  rw [head_drop la, head_drop lb]
  exact noMeet_hit h1 h2 (okFrom_at hb lb).2.1
theorem meet_step {as' bs : Sp} (hb : okFrom 0 bs) (la : 0 < as'.length) (lb : 0 < bs.length) (h2 : (as'.at 0).2 < (bs.at 0).1) : noMeet (as'.drop 1) bs = noMeet as' bs := by
  have e := head_drop lb
  have hb' := hb
  rw [e] at hb'
  conv => rhs; rw [head_drop la, e]
  rw [noMeet_drop hb' h2, ← e]
set_option maxHeartbeats 8000000 in
theorem noneInBoth_any (a b : Option Addr) (la lb ca cb : Nat) (ps qs : Sp) (w : World) (h : ARd w a la ca ps) (k : ARd w b lb cb qs) (hlen : la + lb ≤ 4194304) :
    Calls Tryd.prog 21 #[.slice a la ca, .slice b lb cb] w fun e w' => e = .returned (.bool (noMeet ps qs)) ∧ QuietTo w w' := by
  have HP0 : Hid (ARd w a la ca ps ∧ ARd w b lb cb qs) := ⟨h, k⟩
  clear h k
  go_enter Tryd.func21, Tryd.ntmps21
  go_wp2
  go_loopw [0, 1] (fun av bv wr => ∃ (as' bs : Sp) (aa bb : Option Addr) (l1 c1 l2 c2 : Nat), av = .slice aa l1 c1 ∧ bv = .slice bb l2 c2 ∧ l1 + l2 ≤ 4194304 ∧ Hid (ARd w aa l1 c1 as' ∧ ARd w bb l2 c2 bs) ∧ Hid (noMeet as' bs = noMeet ps qs) ∧ Hid (QuietTo w wr)) (fun av bv _ => slLen av + slLen bv)
  case atStart => exact ⟨ps, qs, a, b, la, ca, lb, cb, rfl, rfl, hlen, HP0, rfl, QuietTo.refl _⟩
  case round =>
    clear HP0
    obtain ⟨xs, ys, aa, bb, l1, c1, l2, c2, rfl, rfl, hl12, HP, HN, HQ⟩ := hrel
    by_cases h1 : l1 = 0
    · subst h1
      have HV : Hid (noMeet ps qs = true) := by
        have := HN.out
        rw [List.eq_nil_of_length_eq_zero HP.out.1.length, noMeet_nil] at this
        exact this.symm
      go_wp2
      go_ret
      rw [HV.out]
      exact ⟨rfl, HQ.out⟩
    have g1 : decide ((0 : Int) < (l1 : Int)) = true := decT (by omega)
    by_cases h2 : l2 = 0
    · subst h2
      have HV : Hid (noMeet ps qs = true) := by
        have := HN.out
        rw [List.eq_nil_of_length_eq_zero HP.out.2.length, noMeet_comm, noMeet_nil] at this
        exact this.symm
      go_wp2
      go_ret
      rw [HV.out]
      exact ⟨rfl, HQ.out⟩
    have g2 : decide ((0 : Int) < (l2 : Int)) = true := decT (by omega)
    have i1 : (0 : Int) < (l1 : Int) := by omega
    have i2 : (0 : Int) < (l2 : Int) := by omega
    have i3 : (1 : Int) ≤ (l1 : Int) := by omega
    have i4 : (1 : Int) ≤ (l2 : Int) := by omega
    obtain ⟨b1, o1, rfl, e1, e2⟩ := HP.out.1.cells (by omega)
    obtain ⟨b2, o2, rfl, e3, e4⟩ := HP.out.2.cells (by omega)
    obtain ⟨x, hx⟩ : ∃ x, x = (xs.at 0).1 := ⟨_, rfl⟩
    obtain ⟨y, hy⟩ : ∃ x, x = (xs.at 0).2 := ⟨_, rfl⟩
    obtain ⟨x', hx'⟩ : ∃ x, x = (ys.at 0).1 := ⟨_, rfl⟩
    obtain ⟨y', hy'⟩ : ∃ x, x = (ys.at 0).2 := ⟨_, rfl⟩
    rw [← hx] at e1
    rw [← hy] at e2
    rw [← hx'] at e3
    rw [← hy'] at e4
    have d1 : wr.cell? ⟨b1, o1, none⟩ = some (.int .i64 x) := (HQ.out.cell _).trans e1
    have d2 : wr.cell? ⟨b1, o1 + 1, none⟩ = some (.int .i64 y) := (HQ.out.cell _).trans e2
    have d3 : wr.cell? ⟨b2, o2, none⟩ = some (.int .i64 x') := (HQ.out.cell _).trans e3
    have d4 : wr.cell? ⟨b2, o2 + 1, none⟩ = some (.int .i64 y') := (HQ.out.cell _).trans e4
    have HX : Hid ((x = (xs.at 0).1 ∧ y = (xs.at 0).2) ∧ x' = (ys.at 0).1 ∧ y' = (ys.at 0).2) := ⟨⟨hx, hy⟩, hx', hy'⟩
    have HLN : Hid (0 < xs.length ∧ 0 < ys.length) := by rw [HP.out.1.length, HP.out.2.length]; exact ⟨by omega, by omega⟩
    clear hx hy hx' hy' e1 e2 e3 e4
    by_cases c : x' < x
    · have cd : decide (x' < x) = true := decT c
      by_cases m : x ≤ y'
      · have md : decide (x ≤ y') = true := decT m
        have HV : Hid (noMeet ps qs = false) := by
          show _ = _
          rw [← HN.out, noMeet_comm]
          exact meet_false HP.out.2.ok HP.out.1.ok HLN.out.2 HLN.out.1 (by rw [← HX.out.1.1, ← HX.out.2.1]; omega) (by rw [← HX.out.1.1, ← HX.out.2.2]; exact m)
        go_wp2
        go_quiet (fail)
        obtain ⟨wq, hwq⟩ : ∃ W, W = wr.drewN nq := ⟨_, rfl⟩
        have q1 : wq.cell? ⟨b1, o1, none⟩ = some (.int .i64 x) := by rw [hwq]; exact d1
        have q2 : wq.cell? ⟨b2, o2 + 1, none⟩ = some (.int .i64 y') := by rw [hwq]; exact d4
        have HQ2 : Hid (QuietTo w wq) := by rw [hwq]; exact HQ.out.drewN _
        rw [← hwq]
        clear hwq d1 d2 d3 d4
        go_wp2
        go_quiet (fail)
        go_wp2
        go_ret
        rw [HV.out]
        exact ⟨rfl, HQ2.out.drewN _⟩
      · have md : decide (x ≤ y') = false := decF m
        have HN2 : Hid (noMeet (ys.drop 1) xs = noMeet ps qs) := by
          show _ = _
          rw [meet_step HP.out.1.ok HLN.out.2 HLN.out.1 (by rw [← HX.out.1.1, ← HX.out.2.2]; omega), noMeet_comm]
          exact HN.out
        by_cases hc1 : c2 = 1
        · subst hc1
          have HA2 : Hid (ARd w (some ⟨b2, o2, none⟩) (l2 - 1) 0 (ys.drop 1) ∧ ARd w (some ⟨b1, o1, none⟩) l1 c1 xs) := ⟨HP.out.2.last (by omega), HP.out.1⟩
          go_wp2
          go_quiet (fail)
          obtain ⟨wq, hwq⟩ : ∃ W, W = wr.drewN nq := ⟨_, rfl⟩
          have q1 : wq.cell? ⟨b1, o1, none⟩ = some (.int .i64 x) := by rw [hwq]; exact d1
          have q2 : wq.cell? ⟨b2, o2 + 1, none⟩ = some (.int .i64 y') := by rw [hwq]; exact d4
          have HQ2 : Hid (QuietTo w wq) := by rw [hwq]; exact HQ.out.drewN _
          rw [← hwq]
          clear hwq d1 d2 d3 d4
          go_wp2
          go_quiet (fail)
          go_wp2
          go_roundw
          case rel => exact ⟨ys.drop 1, xs, _, _, _, _, _, _, rfl, rfl, by omega, HA2, HN2, HQ2.out.drewN _⟩
          case measure => simp [slLen]; omega
        · have HA2 : Hid (ARd w (some ⟨b2, o2 + 2, none⟩) (l2 - 1) (c2 - 1) (ys.drop 1) ∧ ARd w (some ⟨b1, o1, none⟩) l1 c1 xs) := ⟨HP.out.2.step (by omega), HP.out.1⟩
          go_wp2
          go_quiet (fail)
          obtain ⟨wq, hwq⟩ : ∃ W, W = wr.drewN nq := ⟨_, rfl⟩
          have q1 : wq.cell? ⟨b1, o1, none⟩ = some (.int .i64 x) := by rw [hwq]; exact d1
          have q2 : wq.cell? ⟨b2, o2 + 1, none⟩ = some (.int .i64 y') := by rw [hwq]; exact d4
          have HQ2 : Hid (QuietTo w wq) := by rw [hwq]; exact HQ.out.drewN _
          rw [← hwq]
          clear hwq d1 d2 d3 d4
          go_wp2
          go_quiet (fail)
          go_wp2
          go_roundw
          case rel => exact ⟨ys.drop 1, xs, _, _, _, _, _, _, rfl, rfl, by omega, HA2, HN2, HQ2.out.drewN _⟩
          case measure => simp [slLen]; omega
    · have cd : decide (x' < x) = false := decF c
      by_cases m : x' ≤ y
      · have md : decide (x' ≤ y) = true := decT m
        have HV : Hid (noMeet ps qs = false) := by
          show _ = _
          rw [← HN.out]
          exact meet_false HP.out.1.ok HP.out.2.ok HLN.out.1 HLN.out.2 (by rw [← HX.out.1.1, ← HX.out.2.1]; omega) (by rw [← HX.out.1.2, ← HX.out.2.1]; exact m)
        go_wp2
        go_quiet (fail)
        obtain ⟨wq, hwq⟩ : ∃ W, W = wr.drewN nq := ⟨_, rfl⟩
        have q1 : wq.cell? ⟨b2, o2, none⟩ = some (.int .i64 x') := by rw [hwq]; exact d3
        have q2 : wq.cell? ⟨b1, o1 + 1, none⟩ = some (.int .i64 y) := by rw [hwq]; exact d2
        have HQ2 : Hid (QuietTo w wq) := by rw [hwq]; exact HQ.out.drewN _
        rw [← hwq]
        clear hwq d1 d2 d3 d4
        go_wp2
        go_quiet (fail)
        go_wp2
        go_ret
        rw [HV.out]
        exact ⟨rfl, HQ2.out.drewN _⟩
      · have md : decide (x' ≤ y) = false := decF m
        have HN2 : Hid (noMeet (xs.drop 1) ys = noMeet ps qs) := by
          show _ = _
          rw [meet_step HP.out.2.ok HLN.out.1 HLN.out.2 (by rw [← HX.out.1.2, ← HX.out.2.1]; omega)]
          exact HN.out
        by_cases hc1 : c1 = 1
        · subst hc1
          have HA2 : Hid (ARd w (some ⟨b1, o1, none⟩) (l1 - 1) 0 (xs.drop 1) ∧ ARd w (some ⟨b2, o2, none⟩) l2 c2 ys) := ⟨HP.out.1.last (by omega), HP.out.2⟩
          go_wp2
          go_quiet (fail)
          obtain ⟨wq, hwq⟩ : ∃ W, W = wr.drewN nq := ⟨_, rfl⟩
          have q1 : wq.cell? ⟨b2, o2, none⟩ = some (.int .i64 x') := by rw [hwq]; exact d3
          have q2 : wq.cell? ⟨b1, o1 + 1, none⟩ = some (.int .i64 y) := by rw [hwq]; exact d2
          have HQ2 : Hid (QuietTo w wq) := by rw [hwq]; exact HQ.out.drewN _
          rw [← hwq]
          clear hwq d1 d2 d3 d4
          go_wp2
          go_quiet (fail)
          go_wp2
          go_roundw
          case rel => exact ⟨xs.drop 1, ys, _, _, _, _, _, _, rfl, rfl, by omega, HA2, HN2, HQ2.out.drewN _⟩
          case measure => simp [slLen]; omega
        · have HA2 : Hid (ARd w (some ⟨b1, o1 + 2, none⟩) (l1 - 1) (c1 - 1) (xs.drop 1) ∧ ARd w (some ⟨b2, o2, none⟩) l2 c2 ys) := ⟨HP.out.1.step (by omega), HP.out.2⟩
          go_wp2
          go_quiet (fail)
          obtain ⟨wq, hwq⟩ : ∃ W, W = wr.drewN nq := ⟨_, rfl⟩
          have q1 : wq.cell? ⟨b2, o2, none⟩ = some (.int .i64 x') := by rw [hwq]; exact d3
          have q2 : wq.cell? ⟨b1, o1 + 1, none⟩ = some (.int .i64 y) := by rw [hwq]; exact d2
          have HQ2 : Hid (QuietTo w wq) := by rw [hwq]; exact HQ.out.drewN _
          rw [← hwq]
          clear hwq d1 d2 d3 d4
          go_wp2
          go_quiet (fail)
          go_wp2
          go_roundw
          case rel => exact ⟨xs.drop 1, ys, _, _, _, _, _, _, rfl, rfl, by omega, HA2, HN2, HQ2.out.drewN _⟩
          case measure => simp [slLen]; omega
set_option maxHeartbeats 4000000 in
theorem apartImpl_any (a b : Option Addr) (la lb ca cb : Nat) (ps qs : Sp) (F G : List Nat) (w : World) (h : RdP w a la ps F) (k : RdP w b lb qs G) (hla : la ≤ 2097152) (hlb : lb ≤ 2097152) (hca : la ≤ ca) (hcb : lb ≤ cb) :
    Calls Tryd.prog 8 #[.slice a la ca, .slice b lb cb] w fun e w' => e = .returned (.bool (ps.apart qs)) ∧ Below w.heap.size w w' := by
  have HR : Hid (RdP w a la ps F ∧ RdP w b lb qs G) := ⟨h, k⟩
  clear h k
  go_enter Tryd.func8, Tryd.ntmps8
  go_wp2_with fail
  refine (setOkImpl_any a la ca ps F _ HR.out.1 hla).mono ?_
  rintro e w1 ⟨rfl, hb⟩
  have HB0 : Hid (Below w.heap.size w w1) := hb
  clear hb
  obtain ⟨d, hd⟩ : ∃ d, d = ps.ok := ⟨_, rfl⟩
  rw [← hd]
  have HD : Hid (d = ps.ok) := hd
  clear hd
  cases d
  · go_wp2
    go_ret
    rw [Sp.apart_not (by rw [← HD.out]; rfl)]
    exact ⟨rfl, HB0.out⟩
  go_wp2_with fail
  refine (setOkImpl_any b lb cb qs G _ (HR.out.2.below HB0.out) hlb).mono ?_
  rintro e w2 ⟨rfl, hb⟩
  have HB1 : Hid (Below w.heap.size w w2) := Below.next HB0.out hb
  clear hb HB0
  obtain ⟨d, hd⟩ : ∃ d, d = qs.ok := ⟨_, rfl⟩
  rw [← hd]
  have HE : Hid (d = qs.ok) := hd
  clear hd
  cases d
  · go_wp2
    go_ret
    rw [Sp.apart_not (by rw [← HD.out, ← HE.out]; rfl)]
    exact ⟨rfl, HB1.out⟩
  have HV : Hid (ps.apart qs = noMeet ps qs) := by
    show _ = _
    rw [apart_eq, ← HD.out, ← HE.out]
    rfl
  go_wp2_with fail
  refine (noneInBoth_any a b la lb ca cb ps qs _ ⟨⟨F, HR.out.1.below HB1.out⟩, hca, ok_iff.1 HD.out.symm⟩ ⟨⟨G, HR.out.2.below HB1.out⟩, hcb, ok_iff.1 HE.out.symm⟩ (by omega)).mono ?_
  rintro e w3 ⟨rfl, hq⟩
  have HB2 : Hid (Below w.heap.size w w3) := Below.next HB1.out (quiet_below hq)
  clear hq
  go_wp2
  go_ret
  rw [HV.out]
  exact ⟨rfl, HB2.out⟩
end Go.Proofs.YtjiciigaeeibgabDoor
