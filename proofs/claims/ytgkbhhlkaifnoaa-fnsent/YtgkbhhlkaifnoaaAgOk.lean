/- The walks through the model's l8Below and AgentOk. No statement of the seat is proved here. -/
import Derived.Test.YtgkbhhlkaifnoaaAgData
import Derived.Test.YtgkbhhlkaifnoaaItModel
import Derived.Test.YtgkbhhlkaifnoaaSpModel
import Derived.Test.YtgkbhhlkaifnoaaFrModel
import Derived.Test.YtgkbhhlkaifnoaaLstOps
namespace Go.Proofs.Ytgkbhhlkaifnoaa
open Go.RowKit
/-- Each item is right, and bears the number of its place. -/
def itsOk (xs : List It) : Bool := (List.range xs.length).all fun k => (xs.getD k It.zero).ok && decide ((xs.getD k It.zero).seq = (k : Int) + 1)
theorem getD_at {xs : List It} {k : Nat} {y : It} (h : xs[k]? = some y) : xs.getD k It.zero = y := by rw [List.getD_eq_getElem?_getD, h]; rfl
theorem itsOk_not {xs : List It} {k : Nat} {y : It} (hy : xs[k]? = some y) (h : y.ok = false ∨ ¬ y.seq = (k : Int) + 1) : itsOk xs = false := by
  have hk : k < xs.length := (List.getElem?_eq_some_iff.1 hy).1
  rw [Bool.eq_false_iff]
  intro e
  unfold itsOk at e
  rw [List.all_eq_true] at e
  have := e k (List.mem_range.mpr hk)
  rw [getD_at hy, Bool.and_eq_true] at this
  rcases h with h | h
  · rw [h] at this; cases this.1
  · exact h (of_decide_eq_true this.2)
theorem itsOk_all {xs : List It} (h : ∀ (k : Nat) (y : It), xs[k]? = some y → y.ok = true ∧ y.seq = (k : Int) + 1) : itsOk xs = true := by
  unfold itsOk
  rw [List.all_eq_true]
  intro k hk
  have hk' : k < xs.length := List.mem_range.mp hk
  have q := h k _ (List.getElem?_eq_getElem hk')
  rw [getD_at (List.getElem?_eq_getElem hk'), q.1, decide_eq_true q.2]
  rfl
theorem itsOk_at {xs : List It} (h : itsOk xs = true) {k : Nat} {y : It} (hy : xs[k]? = some y) : y.ok = true ∧ y.seq = (k : Int) + 1 := by
  refine ⟨?_, ?_⟩
  · by_cases q : y.ok = true
    · exact q
    · rw [itsOk_not hy (.inl (by simpa using q))] at h; cases h
  · by_cases q : y.seq = (k : Int) + 1
    · exact q
    · rw [itsOk_not hy (.inr q)] at h; cases h
/-- An agent that is right. -/
def Ag.ok (x : Ag) : Bool := decide (0 ≤ x.id ∧ x.id ≤ 2) && decide (0 ≤ x.epoch ∧ x.epoch ≤ 1000) && decide (0 ≤ x.granted ∧ x.granted ≤ 60) && decide (x.sealed.length ≤ 60) && decide (0 ≤ x.next ∧ x.next ≤ 60) && (x.taken.ok && x.taken.under x.sealed.length) && (x.live || decide (x.granted ≤ 0)) && itsOk x.sealed
theorem RdIt.first {w : World} {cs : Array Value} {y : It} {F : List Nat} (h : RdIt w (.agg cs) y F) : cs[0]? = some (.int .i64 y.seq) := by
  obtain ⟨a1, n1, c1, a2, n2, c2, a3, n3, c3, e⟩ := h.cells11
  injection e with e
  rw [e]
  rfl
set_option maxRecDepth 200000 in
set_option maxHeartbeats 4000000 in
theorem l8Below_any (a : Option Addr) (len cap : Nat) (m : Int) (ps : Sp) (F : List Nat) (w : World) (h : RdP w a len ps F) (hlen : len ≤ 140737488355328) :
    Calls Try.prog 49 #[.slice a len cap, .int .i64 m] w fun e w' => e = .returned (.bool (ps.ok && ps.under m)) ∧ Below w.heap.size w w' := by
  have HP : Hid (RdP w a len ps F) := h
  clear h
  go_enter Try.func49, Try.ntmps49
  go_wp2_with fail
  refine (setOkSpec_any a len cap ps F _ HP.out hlen).mono ?_
  rintro e w2 ⟨rfl, hq⟩
  have HB2 : Hid (Below w.heap.size w w2) := quiet_below hq
  obtain ⟨d5, hd5⟩ : ∃ d, d = ps.ok := ⟨_, rfl⟩
  rw [← hd5]
  have HD5 : Hid (d5 = ps.ok) := hd5
  clear hd5 hq
  cases d5
  · have HV : Hid ((ps.ok && ps.under m) = false) := by show _ = _; rw [← HD5.out]; rfl
    go_wp2
    go_ret
    exact ⟨ret_bool HV.out.symm, HB2.out⟩
  go_wp2
  go_loopw [5] (fun i wr => ∃ (k : Nat), k ≤ len ∧ i = .int .i64 k ∧ wr = w2 ∧ Hid (∀ j, j < k → 1 ≤ (ps.at j).1 ∧ (ps.at j).2 ≤ m)) (fun i _ => len - (intOf i).toNat)
  case atStart => exact ⟨0, by omega, rfl, rfl, fun j hj => by omega⟩
  case round =>
    obtain ⟨k, hk, rfl, hwr, HN⟩ := hrel
    have hwr' := hwr.symm
    subst hwr'
    clear hwr
    by_cases hlt : k < len
    · rcases (HP.out.below HB2.out).cells with ⟨h0, _, _⟩ | ⟨b0, off, hp0, hb0, _, hc⟩
      · omega
      have hb0' := hb0.symm
      subst hb0'
      clear hb0
      obtain ⟨p, hp⟩ : ∃ p, p = (ps.at k).1 := ⟨_, rfl⟩
      obtain ⟨q, hq⟩ : ∃ p, p = (ps.at k).2 := ⟨_, rfl⟩
      have e := hc k hlt
      have HX : Hid (p = (ps.at k).1 ∧ q = (ps.at k).2 ∧ k < ps.length) := ⟨hp, hq, by rw [HP.out.length]; exact hlt⟩
      have d1 : w2.cell? ⟨b0, off + k * 2, none⟩ = some (.int .i64 p) := by rw [hp]; exact e.1
      have d2 : w2.cell? ⟨b0, off + k * 2 + 1, none⟩ = some (.int .i64 q) := by rw [hq]; exact e.2
      have hI : (k : Int) < (len : Int) := by omega
      clear e hp hq hc hp0
      by_cases h1 : p < 1
      · have HV : Hid (ps.under m = false) := Sp.under_not HX.out.2.2 (fun e => absurd e.1 (by rw [← HX.out.1]; omega))
        go_wp2
        go_ret
        exact ⟨ret_bool (by rw [HV.out]; simp), HB2.out⟩
      by_cases h2 : m < q
      · have HV : Hid (ps.under m = false) := Sp.under_not HX.out.2.2 (fun e => absurd e.2 (by rw [← HX.out.2.1]; omega))
        go_wp2
        go_ret
        exact ⟨ret_bool (by rw [HV.out]; simp), HB2.out⟩
      have HN2 : Hid (∀ j, j < k + 1 → 1 ≤ (ps.at j).1 ∧ (ps.at j).2 ≤ m) := all_up HN.out ⟨by rw [← HX.out.1]; omega, by rw [← HX.out.2.1]; omega⟩
      go_wp2
      go_roundw
      case rel => exact ⟨k + 1, by omega, by go_num, trivial, HN2⟩
      case measure => simp [intOf]; omega
    · have HV : Hid (ps.under m = true) := Sp.under_all (fun j hj => HN.out j (by have := HP.out.length; omega))
      go_wp2
      go_ret
      exact ⟨ret_bool (by rw [HV.out, ← HD5.out]; rfl), HB2.out⟩
theorem infoItG : (Try.prog.info? 36).map (·.size) = some 11 := by kernel_rfl
set_option maxRecDepth 200000 in
set_option maxHeartbeats 8000000 in
theorem agentOkSpec_any (v : Value) (x : Ag) (F G : List Nat) (w : World) (h : RdAg w v x F G) (hw : ∀ y ∈ x.sealed, y.sk.wide) (hs : x.sealed.length ≤ 140737488355328) (hl : x.taken.length ≤ 140737488355328) :
    Calls Try.prog 15 #[v] w fun e w' => e = .returned (.bool x.ok) ∧ Below w.heap.size w w' := by
  obtain ⟨a1, n1, c1, a2, n2, c2, rfl, hL, hP, _, _⟩ := h
  obtain ⟨lx, hlx⟩ : ∃ b, b = x.live := ⟨_, rfl⟩
  rw [← hlx]
  have HLX : Hid (lx = x.live) := hlx
  have HL : Hid (RdL itK w a1 n1 x.sealed F ∧ (∀ y ∈ x.sealed, y.sk.wide) ∧ x.sealed.length = n1) := ⟨hL, hw, hL.length⟩
  have HP : Hid (RdP w a2 n2 x.taken G ∧ n2 ≤ 140737488355328) := ⟨hP, by rw [← hP.length]; exact hl⟩
  have hn1 : n1 ≤ 140737488355328 := by rw [← hL.length]; exact hs
  have HB : Hid (Below w.heap.size w (w.alloc (.cells #[.int .i64 x.id, .int .i64 x.epoch, .bool lx, .int .i64 x.granted, .slice a1 n1 c1, .slice a2 n2 c2, .int .i64 x.next] 27)) ∧ Blk (w.alloc (.cells #[.int .i64 x.id, .int .i64 x.epoch, .bool lx, .int .i64 x.granted, .slice a1 n1 c1, .slice a2 n2 c2, .int .i64 x.next] 27)) w.heap.size #[.int .i64 x.id, .int .i64 x.epoch, .bool lx, .int .i64 x.granted, .slice a1 n1 c1, .slice a2 n2 c2, .int .i64 x.next] 27) := ⟨Below.allocW _ (Below.refl _ _) (Nat.le_refl _), Blk.made _ _ _⟩
  have HOK0 : Hid (x.ok = (decide (0 ≤ x.id ∧ x.id ≤ 2) && decide (0 ≤ x.epoch ∧ x.epoch ≤ 1000) && decide (0 ≤ x.granted ∧ x.granted ≤ 60) && decide (n1 ≤ 60) && decide (0 ≤ x.next ∧ x.next ≤ 60) && (x.taken.ok && x.taken.under n1) && (lx || decide (x.granted ≤ 0)) && itsOk x.sealed)) := by
    show _ = _
    unfold Ag.ok
    rw [hL.length, hlx]
  clear hL hP hw hs hl hlx
  go_enter Try.func15, Try.ntmps15
  go_wp2_with fail
  refine (l6Agent_any _ _).mono ?_
  rintro e w2 ⟨rfl, hw2⟩
  have hw2' := hw2.symm
  subst hw2'
  clear hw2
  obtain ⟨d1, hd1⟩ : ∃ d, d = decide (0 ≤ x.id ∧ x.id ≤ 2) := ⟨_, rfl⟩
  rw [← hd1]
  have HD1 : Hid (d1 = decide (0 ≤ x.id ∧ x.id ≤ 2)) := hd1
  clear hd1
  cases d1
  · have HV : Hid (x.ok = false) := by show _ = _; rw [HOK0.out, ← HD1.out]; simp
    go_wp2
    go_ret
    exact ⟨ret_bool HV.out.symm, HB.out.1⟩
  go_wp2_with fail
  refine (l1In_any _ _ _ _).mono ?_
  rintro e w2 ⟨rfl, hw2⟩
  have hw2' := hw2.symm
  subst hw2'
  clear hw2
  obtain ⟨d2, hd2⟩ : ∃ d, d = decide (0 ≤ x.epoch ∧ x.epoch ≤ 1000) := ⟨_, rfl⟩
  rw [← hd2]
  have HD2 : Hid (d2 = decide (0 ≤ x.epoch ∧ x.epoch ≤ 1000)) := hd2
  clear hd2
  cases d2
  · have HV : Hid (x.ok = false) := by show _ = _; rw [HOK0.out, ← HD1.out, ← HD2.out]; simp
    go_wp2
    go_ret
    exact ⟨ret_bool HV.out.symm, HB.out.1⟩
  go_wp2_with fail
  refine (l1In_any _ _ _ _).mono ?_
  rintro e w2 ⟨rfl, hw2⟩
  have hw2' := hw2.symm
  subst hw2'
  clear hw2
  obtain ⟨d3, hd3⟩ : ∃ d, d = decide (0 ≤ x.granted ∧ x.granted ≤ 60) := ⟨_, rfl⟩
  rw [← hd3]
  have HD3 : Hid (d3 = decide (0 ≤ x.granted ∧ x.granted ≤ 60)) := hd3
  clear hd3
  cases d3
  · have HV : Hid (x.ok = false) := by show _ = _; rw [HOK0.out, ← HD1.out, ← HD2.out, ← HD3.out]; simp
    go_wp2
    go_ret
    exact ⟨ret_bool HV.out.symm, HB.out.1⟩
  by_cases h60 : 60 < n1
  · have hd : decide ((60 : Int) < (n1 : Int)) = true := dec_true (by omega)
    have HV : Hid (x.ok = false) := by show _ = _; rw [HOK0.out, decide_eq_false (by omega : ¬ n1 ≤ 60)]; simp
    go_wp2
    go_ret
    exact ⟨ret_bool HV.out.symm, HB.out.1⟩
  have hd60 : decide ((60 : Int) < (n1 : Int)) = false := dec_false (by omega)
  go_wp2_with fail
  refine (l1In_any _ _ _ _).mono ?_
  rintro e w2 ⟨rfl, hw2⟩
  have hw2' := hw2.symm
  subst hw2'
  clear hw2
  obtain ⟨d4, hd4⟩ : ∃ d, d = decide (0 ≤ x.next ∧ x.next ≤ 60) := ⟨_, rfl⟩
  rw [← hd4]
  have HD4 : Hid (d4 = decide (0 ≤ x.next ∧ x.next ≤ 60)) := hd4
  clear hd4
  cases d4
  · have HV : Hid (x.ok = false) := by show _ = _; rw [HOK0.out, ← HD1.out, ← HD2.out, ← HD3.out, ← HD4.out]; simp
    go_wp2
    go_ret
    exact ⟨ret_bool HV.out.symm, HB.out.1⟩
  have HOK : Hid (x.ok = ((x.taken.ok && x.taken.under n1) && (lx || decide (x.granted ≤ 0)) && itsOk x.sealed)) := by
    show _ = _
    rw [HOK0.out, ← HD1.out, ← HD2.out, ← HD3.out, ← HD4.out, decide_eq_true (by omega : n1 ≤ 60)]
    rfl
  clear HOK0 HD1 HD2 HD3 HD4
  go_wp2_with fail
  refine (l8Below_any a2 n2 c2 n1 x.taken G _ (HP.out.1.below HB.out.1) HP.out.2).mono ?_
  rintro e w3 ⟨rfl, hb3⟩
  have HB3 : Hid (Below w.heap.size w w3 ∧ Blk w3 w.heap.size #[.int .i64 x.id, .int .i64 x.epoch, .bool lx, .int .i64 x.granted, .slice a1 n1 c1, .slice a2 n2 c2, .int .i64 x.next] 27) := ⟨Below.next HB.out.1 hb3, HB.out.2.below hb3⟩
  obtain ⟨d5, hd5⟩ : ∃ d, d = (x.taken.ok && x.taken.under n1) := ⟨_, rfl⟩
  rw [← hd5]
  have HD5 : Hid (d5 = (x.taken.ok && x.taken.under n1)) := hd5
  clear hd5 hb3 HB
  have c2' := HB3.out.2.cell 2
  have c3' := HB3.out.2.cell 3
  have c4' := HB3.out.2.cell 4
  simp only [aT, aZ, List.getElem?_cons_succ] at c2' c3' c4'
  cases d5
  · have HV : Hid (x.ok = false) := by show _ = _; rw [HOK.out, ← HD5.out]; rfl
    go_wp2
    go_ret
    exact ⟨ret_bool HV.out.symm, HB3.out.1⟩
  have HLIVE : Hid ((lx || decide (x.granted ≤ 0)) = true → x.ok = itsOk x.sealed) := fun e => by rw [HOK.out, ← HD5.out, e]; rfl
  have HDEAD : Hid ((lx || decide (x.granted ≤ 0)) = false → x.ok = false) := fun e => by rw [HOK.out, ← HD5.out, e]; rfl
  clear HOK HD5
  cases lx
  · by_cases hg : 0 < x.granted
    · have hgd : decide (0 < x.granted) = true := dec_true hg
      have HV : Hid (x.ok = false) := HDEAD.out (by rw [decide_eq_false (by omega : ¬ x.granted ≤ 0)]; rfl)
      go_wp2
      go_ret
      exact ⟨ret_bool HV.out.symm, HB3.out.1⟩
    have hgd : decide (0 < x.granted) = false := dec_false hg
    have HOKF : Hid (x.ok = itsOk x.sealed) := HLIVE.out (by rw [decide_eq_true (by omega : x.granted ≤ 0)]; rfl)
    go_wp2_with fail
    go_loopw [3] (fun i wr => ∃ (k : Nat), k ≤ n1 ∧ i = .int .i64 k ∧ Hid (Below w.heap.size w wr ∧ Blk wr w.heap.size #[.int .i64 x.id, .int .i64 x.epoch, .bool false, .int .i64 x.granted, .slice a1 n1 c1, .slice a2 n2 c2, .int .i64 x.next] 27 ∧ ∀ j y, j < k → x.sealed[j]? = some y → y.ok = true ∧ y.seq = (j : Int) + 1)) (fun i _ => n1 - (intOf i).toNat)
    case atStart => exact ⟨0, by omega, rfl, HB3.out.1, HB3.out.2, fun j y hj => by omega⟩
    case round =>
      obtain ⟨k, hk, rfl, HR⟩ := hrel
      have c4' := HR.out.2.1.cell 4
      simp only [aT, aZ, List.getElem?_cons_succ] at c4'
      by_cases hlt : k < n1
      · have hI : (k : Int) < (n1 : Int) := by omega
        obtain ⟨b, off, ha, hbF, cs, Fi, hcs, hcc, hr, _⟩ := HL.out.1.get k hlt
        have ha' := ha.symm
        subst ha'
        have hbw : b < w.heap.size := HL.out.1.lt b hbF
        obtain ⟨y, hy⟩ : ∃ y, x.sealed[k]? = some y := ⟨_, List.getElem?_eq_getElem (by rw [HL.out.2.2]; exact hlt)⟩
        have HY : Hid (x.sealed[k]? = some y ∧ y.sk.wide ∧ cs.size = 11 ∧ RdIt w (.agg cs) y Fi) := ⟨hy, HL.out.2.1 y (List.mem_of_getElem? hy), hcs, hr y hy⟩
        have HCW : Hid (∀ W, Below w.heap.size w W → (∀ j, j < 11 → W.cell? ⟨b, off + k * 11 + j, none⟩ = cs[j]?) ∧ RdIt W (.agg cs) y Fi) := fun W hB => ⟨fun j hj => by
          have q := hcc j hj
          have q2 : W.cell? ⟨b, off + k * 11 + j, none⟩ = w.cell? ⟨b, off + k * 11 + j, none⟩ := hB.cell (p := ⟨b, off + k * 11 + j, none⟩) hbw
          exact q2.trans q, HY.out.2.2.2.below hB⟩
        clear ha hbF hcs hcc hr hy
        go_wp2_with (first | go_skip | (with_reducible refine stopLoad 36 rfl ?_))
        refine load_at 36 b (off + k * 11) 11 cs _ (HCW.out _ HR.out.1).1 HY.out.2.2.1 rfl rfl rfl Try.underlying36 rfl infoItG ?_
        go_wp2_with fail
        refine (itemOkSpec_any _ y Fi _ (HCW.out _ HR.out.1).2 HY.out.2.1).mono ?_
        rintro e w4 ⟨rfl, hb4⟩
        have HR4 : Hid (Below w.heap.size w w4 ∧ Blk w4 w.heap.size #[.int .i64 x.id, .int .i64 x.epoch, .bool false, .int .i64 x.granted, .slice (some ⟨b, off, none⟩) n1 c1, .slice a2 n2 c2, .int .i64 x.next] 27) := ⟨Below.next HR.out.1 hb4, HR.out.2.1.below hb4⟩
        obtain ⟨d, hd⟩ : ∃ d, d = y.ok := ⟨_, rfl⟩
        rw [← hd]
        have HD : Hid (d = y.ok) := hd
        clear hd hb4 c4'
        cases d
        · have HV : Hid (x.ok = false) := by show _ = _; rw [HOKF.out]; exact itsOk_not HY.out.1 (.inl HD.out.symm)
          go_wp2
          go_ret
          exact ⟨ret_bool HV.out.symm, HR4.out.1⟩
        have c4' := HR4.out.2.cell 4
        simp only [aT, aZ, List.getElem?_cons_succ] at c4'
        have cq : w4.cell? ⟨b, off + k * 11, none⟩ = some (.int .i64 y.seq) := by
          have := (HCW.out _ HR4.out.1).1 0 (by omega)
          rw [Nat.add_zero] at this
          rw [this]
          exact RdIt.first HY.out.2.2.2
        by_cases hq : y.seq = (k : Int) + 1
        · have hqb : (y.seq != (k : Int) + 1) = false := by simpa using hq
          have HN2 : Hid (∀ j z, j < k + 1 → x.sealed[j]? = some z → z.ok = true ∧ z.seq = (j : Int) + 1) := fun j z hj hz => by
            by_cases e : j = k
            · subst e
              rw [HY.out.1] at hz
              cases hz
              exact ⟨HD.out.symm, hq⟩
            · exact HR.out.2.2 j z (by omega) hz
          clear hq HR
          go_wp2
          go_roundw
          case rel => exact ⟨k + 1, by omega, by go_num, HR4.out.1, HR4.out.2, HN2.out⟩
          case measure => simp [intOf]; omega
        · have hqb : (y.seq != (k : Int) + 1) = true := by simpa using hq
          have HV : Hid (x.ok = false) := by show _ = _; rw [HOKF.out]; exact itsOk_not HY.out.1 (.inr hq)
          clear hq
          go_wp2
          go_ret
          exact ⟨ret_bool HV.out.symm, HR4.out.1⟩
      · have HV : Hid (x.ok = true) := by
          show _ = _
          rw [HOKF.out]
          exact itsOk_all (fun j z hz => HR.out.2.2 j z (by have := (List.getElem?_eq_some_iff.1 hz).1; have := HL.out.2.2; omega) hz)
        go_wp2
        go_ret
        exact ⟨ret_bool HV.out.symm, HR.out.1⟩
  have HOKF : Hid (x.ok = itsOk x.sealed) := HLIVE.out (by rfl)
  go_wp2_with fail
  go_loopw [3] (fun i wr => ∃ (k : Nat), k ≤ n1 ∧ i = .int .i64 k ∧ Hid (Below w.heap.size w wr ∧ Blk wr w.heap.size #[.int .i64 x.id, .int .i64 x.epoch, .bool true, .int .i64 x.granted, .slice a1 n1 c1, .slice a2 n2 c2, .int .i64 x.next] 27 ∧ ∀ j y, j < k → x.sealed[j]? = some y → y.ok = true ∧ y.seq = (j : Int) + 1)) (fun i _ => n1 - (intOf i).toNat)
  case atStart => exact ⟨0, by omega, rfl, HB3.out.1, HB3.out.2, fun j y hj => by omega⟩
  case round =>
    obtain ⟨k, hk, rfl, HR⟩ := hrel
    have c4' := HR.out.2.1.cell 4
    simp only [aT, aZ, List.getElem?_cons_succ] at c4'
    by_cases hlt : k < n1
    · have hI : (k : Int) < (n1 : Int) := by omega
      obtain ⟨b, off, ha, hbF, cs, Fi, hcs, hcc, hr, _⟩ := HL.out.1.get k hlt
      have ha' := ha.symm
      subst ha'
      have hbw : b < w.heap.size := HL.out.1.lt b hbF
      obtain ⟨y, hy⟩ : ∃ y, x.sealed[k]? = some y := ⟨_, List.getElem?_eq_getElem (by rw [HL.out.2.2]; exact hlt)⟩
      have HY : Hid (x.sealed[k]? = some y ∧ y.sk.wide ∧ cs.size = 11 ∧ RdIt w (.agg cs) y Fi) := ⟨hy, HL.out.2.1 y (List.mem_of_getElem? hy), hcs, hr y hy⟩
      have HCW : Hid (∀ W, Below w.heap.size w W → (∀ j, j < 11 → W.cell? ⟨b, off + k * 11 + j, none⟩ = cs[j]?) ∧ RdIt W (.agg cs) y Fi) := fun W hB => ⟨fun j hj => by
        have q := hcc j hj
        have q2 : W.cell? ⟨b, off + k * 11 + j, none⟩ = w.cell? ⟨b, off + k * 11 + j, none⟩ := hB.cell (p := ⟨b, off + k * 11 + j, none⟩) hbw
        exact q2.trans q, HY.out.2.2.2.below hB⟩
      clear ha hbF hcs hcc hr hy
      go_wp2_with (first | go_skip | (with_reducible refine stopLoad 36 rfl ?_))
      refine load_at 36 b (off + k * 11) 11 cs _ (HCW.out _ HR.out.1).1 HY.out.2.2.1 rfl rfl rfl Try.underlying36 rfl infoItG ?_
      go_wp2_with fail
      refine (itemOkSpec_any _ y Fi _ (HCW.out _ HR.out.1).2 HY.out.2.1).mono ?_
      rintro e w4 ⟨rfl, hb4⟩
      have HR4 : Hid (Below w.heap.size w w4 ∧ Blk w4 w.heap.size #[.int .i64 x.id, .int .i64 x.epoch, .bool true, .int .i64 x.granted, .slice (some ⟨b, off, none⟩) n1 c1, .slice a2 n2 c2, .int .i64 x.next] 27) := ⟨Below.next HR.out.1 hb4, HR.out.2.1.below hb4⟩
      obtain ⟨d, hd⟩ : ∃ d, d = y.ok := ⟨_, rfl⟩
      rw [← hd]
      have HD : Hid (d = y.ok) := hd
      clear hd hb4 c4'
      cases d
      · have HV : Hid (x.ok = false) := by show _ = _; rw [HOKF.out]; exact itsOk_not HY.out.1 (.inl HD.out.symm)
        go_wp2
        go_ret
        exact ⟨ret_bool HV.out.symm, HR4.out.1⟩
      have c4' := HR4.out.2.cell 4
      simp only [aT, aZ, List.getElem?_cons_succ] at c4'
      have cq : w4.cell? ⟨b, off + k * 11, none⟩ = some (.int .i64 y.seq) := by
        have := (HCW.out _ HR4.out.1).1 0 (by omega)
        rw [Nat.add_zero] at this
        rw [this]
        exact RdIt.first HY.out.2.2.2
      by_cases hq : y.seq = (k : Int) + 1
      · have hqb : (y.seq != (k : Int) + 1) = false := by simpa using hq
        have HN2 : Hid (∀ j z, j < k + 1 → x.sealed[j]? = some z → z.ok = true ∧ z.seq = (j : Int) + 1) := fun j z hj hz => by
          by_cases e : j = k
          · subst e
            rw [HY.out.1] at hz
            cases hz
            exact ⟨HD.out.symm, hq⟩
          · exact HR.out.2.2 j z (by omega) hz
        clear hq HR
        go_wp2
        go_roundw
        case rel => exact ⟨k + 1, by omega, by go_num, HR4.out.1, HR4.out.2, HN2.out⟩
        case measure => simp [intOf]; omega
      · have hqb : (y.seq != (k : Int) + 1) = true := by simpa using hq
        have HV : Hid (x.ok = false) := by show _ = _; rw [HOKF.out]; exact itsOk_not HY.out.1 (.inr hq)
        clear hq
        go_wp2
        go_ret
        exact ⟨ret_bool HV.out.symm, HR4.out.1⟩
    · have HV : Hid (x.ok = true) := by
        show _ = _
        rw [HOKF.out]
        exact itsOk_all (fun j z hz => HR.out.2.2 j z (by have := (List.getElem?_eq_some_iff.1 hz).1; have := HL.out.2.2; omega) hz)
      go_wp2
      go_ret
      exact ⟨ret_bool HV.out.symm, HR.out.1⟩
end Go.Proofs.Ytgkbhhlkaifnoaa
