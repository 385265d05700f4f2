/- Several texts of mine, laid together. No statement of the seat is proved here. -/
import Derived.Test.YtgkbhhlkaifnoaaB1
import Derived.Test.YtgkbhhlkaifnoaaItModel
import Derived.Test.YtgkbhhlkaifnoaaSpModel
import Derived.WalkKit
import Derived.Test.YtgkbhhlkaifnoaaBase
import Derived.Test.YtgkbhhlkaifnoaaInOf
import Derived.Test.YtgkbhhlkaifnoaaSkCopy
import Derived.Laws.BitsAllLaws
import Derived.Defers
import Derived.Recover
import Derived.Laws.Pointers
import Derived.Lib.SlBytesConst
import Derived.ArgAppend
import Derived.Test.YtgkbhhlkaifnoaaTallyS
import Derived.Deep.RegionLawGrows
import Derived.Test.YtgkbhhlkaifnoaaItHelp
import Derived.Test.YtgkbhhlkaifnoaaStop
import Derived.Test.YtgkbhhlkaifnoaaTallyB
import Derived.Test.YtgkbhhlkaifnoaaTallyC
import Derived.Test.YtgkbhhlkaifnoaaTallyMath
import Derived.Test.YtgkbhhlkaifnoaaSkLaw
/- The walks through the model's l8Below and AgentOk. No statement of the seat is proved here. -/
namespace Go.Proofs.Ytgkbhhlkaifnoaa
open Go.RowKit
/-- Each item is right, and bears the number of its place. -/
def itsOk (xs : List It) : Bool := (List.range xs.length).all fun k => (xs.getD k It.zero).ok && decide ((xs.getD k It.zero).seq = (k : Int) + 1)
theorem getD_at {xs : List It} {k : Nat} {y : It} (h : xs[k]? = some y) : xs.getD k It.zero = y := by rw [List.getD_eq_getElem?_getD, h]; rfl
theorem itsOk_not {xs : List It} {k : Nat} {y : It} (hy : xs[k]? = some y) (h : y.ok = false ∨ ¬ y.seq = (k : Int) + 1) : itsOk xs = false := by
 have hk : k < xs.length := (List.getElem?_eq_some_iff.1 hy).1
 rw [Bool.eq_false_iff]
 intro e
 unfold itsOk at e
 rw [List.all_eq_true] at e
 have := e k (List.mem_range.mpr hk)
 rw [getD_at hy, Bool.and_eq_true] at this
 rcases h with h | h
 ·
  rw [h] at this; cases this.1
 ·
  exact h (of_decide_eq_true this.2)
theorem itsOk_all {xs : List It} (h : ∀ (k : Nat) (y : It), xs[k]? = some y → y.ok = true ∧ y.seq = (k : Int) + 1) : itsOk xs = true := by
 unfold itsOk
 rw [List.all_eq_true]
 intro k hk
 have hk' : k < xs.length := List.mem_range.mp hk
 have q := h k _ (List.getElem?_eq_getElem hk')
 rw [getD_at (List.getElem?_eq_getElem hk'), q.1, decide_eq_true q.2]
 rfl
theorem itsOk_at {xs : List It} (h : itsOk xs = true) {k : Nat} {y : It} (hy : xs[k]? = some y) : y.ok = true ∧ y.seq = (k : Int) + 1 := by
 refine ⟨?_, ?_⟩
 ·
  by_cases q : y.ok = true
  ·
   exact q
  ·
   rw [itsOk_not hy (.inl (by simpa using q))] at h; cases h
 ·
  by_cases q : y.seq = (k : Int) + 1
  ·
   exact q
  ·
   rw [itsOk_not hy (.inr q)] at h; cases h
/-- An agent that is right. -/
def Ag.ok (x : Ag) : Bool := decide (0 ≤ x.id ∧ x.id ≤ 2) && decide (0 ≤ x.epoch ∧ x.epoch ≤ 1000) && decide (0 ≤ x.granted ∧ x.granted ≤ 60) && decide (x.sealed.length ≤ 60) && decide (0 ≤ x.next ∧ x.next ≤ 60) && (x.taken.ok && x.taken.under x.sealed.length) && (x.live || decide (x.granted ≤ 0)) && itsOk x.sealed
theorem RdIt.first {w : World} {cs : Array Value} {y : It} {F : List Nat} (h : RdIt w (.agg cs) y F) : cs[0]? = some (.int .i64 y.seq) := by
 obtain ⟨a1, n1, c1, a2, n2, c2, a3, n3, c3, e⟩ := h.cells11
 injection e with e
 rw [e]
 rfl
set_option maxRecDepth 200000 in
set_option maxHeartbeats 4000000 in
theorem l8Below_any (a : Option Addr) (len cap : Nat) (m : Int) (ps : Sp) (F : List Nat) (w : World) (h : RdP w a len ps F) (hlen : len ≤ 140737488355328) :
 Calls Try.prog 49 #[.slice a len cap, .int .i64 m] w fun e w' => e = .returned (.bool (ps.ok && ps.under m)) ∧ Below w.heap.size w w' := by
 have HP : Hid (RdP w a len ps F) := h
 clear h
 go_enter Try.func49, Try.ntmps49
 go_wp2_with fail
 refine (setOkSpec_any a len cap ps F _ HP.out hlen).mono ?_
 rintro e w2 ⟨rfl, hq⟩
 have HB2 : Hid (Below w.heap.size w w2) := quiet_below hq
 obtain ⟨d5, hd5⟩ : ∃ d, d = ps.ok := ⟨_, rfl⟩
 rw [← hd5]
 have HD5 : Hid (d5 = ps.ok) := hd5
 clear hd5 hq
 cases d5
 ·
  have HV : Hid ((ps.ok && ps.under m) = false) := by show _ = _; rw [← HD5.out]; rfl
  go_wp2
  go_ret
  exact ⟨ret_bool HV.out.symm, HB2.out⟩
 go_wp2
 go_loopw [5] (fun i wr => ∃ (k : Nat), k ≤ len ∧ i = .int .i64 k ∧ wr = w2 ∧ Hid (∀ j, j < k → 1 ≤ (ps.at j).1 ∧ (ps.at j).2 ≤ m)) (fun i _ => len - (intOf i).toNat)
 case atStart => exact ⟨0, by omega, rfl, rfl, fun j hj => by omega⟩
 case round =>
  obtain ⟨k, hk, rfl, hwr, HN⟩ := hrel
  have hwr' := hwr.symm
  subst hwr'
  clear hwr
  by_cases hlt : k < len
  ·
   rcases (HP.out.below HB2.out).cells with ⟨h0, _, _⟩ | ⟨b0, off, hp0, hb0, _, hc⟩
   ·
    omega
   have hb0' := hb0.symm
   subst hb0'
   clear hb0
   obtain ⟨p, hp⟩ : ∃ p, p = (ps.at k).1 := ⟨_, rfl⟩
   obtain ⟨q, hq⟩ : ∃ p, p = (ps.at k).2 := ⟨_, rfl⟩
   have e := hc k hlt
   have HX : Hid (p = (ps.at k).1 ∧ q = (ps.at k).2 ∧ k < ps.length) := ⟨hp, hq, by rw [HP.out.length]; exact hlt⟩
   have d1 : w2.cell? ⟨b0, off + k * 2, none⟩ = some (.int .i64 p) := by rw [hp]; exact e.1
   have d2 : w2.cell? ⟨b0, off + k * 2 + 1, none⟩ = some (.int .i64 q) := by rw [hq]; exact e.2
   have hI : (k : Int) < (len : Int) := by omega
   clear e hp hq hc hp0
   by_cases h1 : p < 1
   ·
    have HV : Hid (ps.under m = false) := Sp.under_not HX.out.2.2 (fun e => absurd e.1 (by rw [← HX.out.1]; omega))
    go_wp2
    go_ret
    exact ⟨ret_bool (by rw [HV.out]; simp), HB2.out⟩
   by_cases h2 : m < q
   ·
    have HV : Hid (ps.under m = false) := Sp.under_not HX.out.2.2 (fun e => absurd e.2 (by rw [← HX.out.2.1]; omega))
    go_wp2
    go_ret
    exact ⟨ret_bool (by rw [HV.out]; simp), HB2.out⟩
   have HN2 : Hid (∀ j, j < k + 1 → 1 ≤ (ps.at j).1 ∧ (ps.at j).2 ≤ m) := all_up HN.out ⟨by rw [← HX.out.1]; omega, by rw [← HX.out.2.1]; omega⟩
   go_wp2
   go_roundw
   case rel => exact ⟨k + 1, by omega, by go_num, trivial, HN2⟩
   case measure => simp [intOf]; omega
  ·
   have HV : Hid (ps.under m = true) := Sp.under_all (fun j hj => HN.out j (by have := HP.out.length; omega))
   go_wp2
   go_ret
   exact ⟨ret_bool (by rw [HV.out, ← HD5.out]; rfl), HB2.out⟩
theorem infoItG : (Try.prog.info? 36).map (·.size) = some 11 := by kernel_rfl
set_option maxRecDepth 200000 in
set_option maxHeartbeats 8000000 in
theorem agentOkSpec_any (v : Value) (x : Ag) (F G : List Nat) (w : World) (h : RdAg w v x F G) (hw : ∀ y ∈ x.sealed, y.sk.wide) (hs : x.sealed.length ≤ 140737488355328) (hl : x.taken.length ≤ 140737488355328) :
 Calls Try.prog 15 #[v] w fun e w' => e = .returned (.bool x.ok) ∧ Below w.heap.size w w' := by
 obtain ⟨a1, n1, c1, a2, n2, c2, rfl, hL, hP, _, _⟩ := h
 obtain ⟨lx, hlx⟩ : ∃ b, b = x.live := ⟨_, rfl⟩
 rw [← hlx]
 have HLX : Hid (lx = x.live) := hlx
 have HL : Hid (RdL itK w a1 n1 x.sealed F ∧ (∀ y ∈ x.sealed, y.sk.wide) ∧ x.sealed.length = n1) := ⟨hL, hw, hL.length⟩
 have HP : Hid (RdP w a2 n2 x.taken G ∧ n2 ≤ 140737488355328) := ⟨hP, by rw [← hP.length]; exact hl⟩
 have hn1 : n1 ≤ 140737488355328 := by rw [← hL.length]; exact hs
 have HB : Hid (Below w.heap.size w (w.alloc (.cells #[.int .i64 x.id, .int .i64 x.epoch, .bool lx, .int .i64 x.granted, .slice a1 n1 c1, .slice a2 n2 c2, .int .i64 x.next] 27)) ∧ Blk (w.alloc (.cells #[.int .i64 x.id, .int .i64 x.epoch, .bool lx, .int .i64 x.granted, .slice a1 n1 c1, .slice a2 n2 c2, .int .i64 x.next] 27)) w.heap.size #[.int .i64 x.id, .int .i64 x.epoch, .bool lx, .int .i64 x.granted, .slice a1 n1 c1, .slice a2 n2 c2, .int .i64 x.next] 27) := ⟨Below.allocW _ (Below.refl _ _) (Nat.le_refl _), Blk.made _ _ _⟩
 have HOK0 : Hid (x.ok = (decide (0 ≤ x.id ∧ x.id ≤ 2) && decide (0 ≤ x.epoch ∧ x.epoch ≤ 1000) && decide (0 ≤ x.granted ∧ x.granted ≤ 60) && decide (n1 ≤ 60) && decide (0 ≤ x.next ∧ x.next ≤ 60) && (x.taken.ok && x.taken.under n1) && (lx || decide (x.granted ≤ 0)) && itsOk x.sealed)) := by
  show _ = _
  unfold Ag.ok
  rw [hL.length, hlx]
 clear hL hP hw hs hl hlx
 go_enter Try.func15, Try.ntmps15
 go_wp2_with fail
 refine (l6Agent_any _ _).mono ?_
 rintro e w2 ⟨rfl, hw2⟩
 have hw2' := hw2.symm
 subst hw2'
 clear hw2
 obtain ⟨d1, hd1⟩ : ∃ d, d = decide (0 ≤ x.id ∧ x.id ≤ 2) := ⟨_, rfl⟩
 rw [← hd1]
 have HD1 : Hid (d1 = decide (0 ≤ x.id ∧ x.id ≤ 2)) := hd1
 clear hd1
 cases d1
 ·
  have HV : Hid (x.ok = false) := by show _ = _; rw [HOK0.out, ← HD1.out]; simp
  go_wp2
  go_ret
  exact ⟨ret_bool HV.out.symm, HB.out.1⟩
 go_wp2_with fail
 refine (l1In_any _ _ _ _).mono ?_
 rintro e w2 ⟨rfl, hw2⟩
 have hw2' := hw2.symm
 subst hw2'
 clear hw2
 obtain ⟨d2, hd2⟩ : ∃ d, d = decide (0 ≤ x.epoch ∧ x.epoch ≤ 1000) := ⟨_, rfl⟩
 rw [← hd2]
 have HD2 : Hid (d2 = decide (0 ≤ x.epoch ∧ x.epoch ≤ 1000)) := hd2
 clear hd2
 cases d2
 ·
  have HV : Hid (x.ok = false) := by show _ = _; rw [HOK0.out, ← HD1.out, ← HD2.out]; simp
  go_wp2
  go_ret
  exact ⟨ret_bool HV.out.symm, HB.out.1⟩
 go_wp2_with fail
 refine (l1In_any _ _ _ _).mono ?_
 rintro e w2 ⟨rfl, hw2⟩
 have hw2' := hw2.symm
 subst hw2'
 clear hw2
 obtain ⟨d3, hd3⟩ : ∃ d, d = decide (0 ≤ x.granted ∧ x.granted ≤ 60) := ⟨_, rfl⟩
 rw [← hd3]
 have HD3 : Hid (d3 = decide (0 ≤ x.granted ∧ x.granted ≤ 60)) := hd3
 clear hd3
 cases d3
 ·
  have HV : Hid (x.ok = false) := by show _ = _; rw [HOK0.out, ← HD1.out, ← HD2.out, ← HD3.out]; simp
  go_wp2
  go_ret
  exact ⟨ret_bool HV.out.symm, HB.out.1⟩
 by_cases h60 : 60 < n1
 ·
  have hd : decide ((60 : Int) < (n1 : Int)) = true := dec_true (by omega)
  have HV : Hid (x.ok = false) := by show _ = _; rw [HOK0.out, decide_eq_false (by omega : ¬ n1 ≤ 60)]; simp
  go_wp2
  go_ret
  exact ⟨ret_bool HV.out.symm, HB.out.1⟩
 have hd60 : decide ((60 : Int) < (n1 : Int)) = false := dec_false (by omega)
 go_wp2_with fail
 refine (l1In_any _ _ _ _).mono ?_
 rintro e w2 ⟨rfl, hw2⟩
 have hw2' := hw2.symm
 subst hw2'
 clear hw2
 obtain ⟨d4, hd4⟩ : ∃ d, d = decide (0 ≤ x.next ∧ x.next ≤ 60) := ⟨_, rfl⟩
 rw [← hd4]
 have HD4 : Hid (d4 = decide (0 ≤ x.next ∧ x.next ≤ 60)) := hd4
 clear hd4
 cases d4
 ·
  have HV : Hid (x.ok = false) := by show _ = _; rw [HOK0.out, ← HD1.out, ← HD2.out, ← HD3.out, ← HD4.out]; simp
  go_wp2
  go_ret
  exact ⟨ret_bool HV.out.symm, HB.out.1⟩
 have HOK : Hid (x.ok = ((x.taken.ok && x.taken.under n1) && (lx || decide (x.granted ≤ 0)) && itsOk x.sealed)) := by
  show _ = _
  rw [HOK0.out, ← HD1.out, ← HD2.out, ← HD3.out, ← HD4.out, decide_eq_true (by omega : n1 ≤ 60)]
  rfl
 clear HOK0 HD1 HD2 HD3 HD4
 go_wp2_with fail
 refine (l8Below_any a2 n2 c2 n1 x.taken G _ (HP.out.1.below HB.out.1) HP.out.2).mono ?_
 rintro e w3 ⟨rfl, hb3⟩
 have HB3 : Hid (Below w.heap.size w w3 ∧ Blk w3 w.heap.size #[.int .i64 x.id, .int .i64 x.epoch, .bool lx, .int .i64 x.granted, .slice a1 n1 c1, .slice a2 n2 c2, .int .i64 x.next] 27) := ⟨Below.next HB.out.1 hb3, HB.out.2.below hb3⟩
 obtain ⟨d5, hd5⟩ : ∃ d, d = (x.taken.ok && x.taken.under n1) := ⟨_, rfl⟩
 rw [← hd5]
 have HD5 : Hid (d5 = (x.taken.ok && x.taken.under n1)) := hd5
 clear hd5 hb3 HB
 have c2' := HB3.out.2.cell 2
 have c3' := HB3.out.2.cell 3
 have c4' := HB3.out.2.cell 4
 simp only [aT, aZ, List.getElem?_cons_succ] at c2' c3' c4'
 cases d5
 ·
  have HV : Hid (x.ok = false) := by show _ = _; rw [HOK.out, ← HD5.out]; rfl
  go_wp2
  go_ret
  exact ⟨ret_bool HV.out.symm, HB3.out.1⟩
 have HLIVE : Hid ((lx || decide (x.granted ≤ 0)) = true → x.ok = itsOk x.sealed) := fun e => by rw [HOK.out, ← HD5.out, e]; rfl
 have HDEAD : Hid ((lx || decide (x.granted ≤ 0)) = false → x.ok = false) := fun e => by rw [HOK.out, ← HD5.out, e]; rfl
 clear HOK HD5
 cases lx
 ·
  by_cases hg : 0 < x.granted
  ·
   have hgd : decide (0 < x.granted) = true := dec_true hg
   have HV : Hid (x.ok = false) := HDEAD.out (by rw [decide_eq_false (by omega : ¬ x.granted ≤ 0)]; rfl)
   go_wp2
   go_ret
   exact ⟨ret_bool HV.out.symm, HB3.out.1⟩
  have hgd : decide (0 < x.granted) = false := dec_false hg
  have HOKF : Hid (x.ok = itsOk x.sealed) := HLIVE.out (by rw [decide_eq_true (by omega : x.granted ≤ 0)]; rfl)
  go_wp2_with fail
  go_loopw [3] (fun i wr => ∃ (k : Nat), k ≤ n1 ∧ i = .int .i64 k ∧ Hid (Below w.heap.size w wr ∧ Blk wr w.heap.size #[.int .i64 x.id, .int .i64 x.epoch, .bool false, .int .i64 x.granted, .slice a1 n1 c1, .slice a2 n2 c2, .int .i64 x.next] 27 ∧ ∀ j y, j < k → x.sealed[j]? = some y → y.ok = true ∧ y.seq = (j : Int) + 1)) (fun i _ => n1 - (intOf i).toNat)
  case atStart => exact ⟨0, by omega, rfl, HB3.out.1, HB3.out.2, fun j y hj => by omega⟩
  case round =>
   obtain ⟨k, hk, rfl, HR⟩ := hrel
   have c4' := HR.out.2.1.cell 4
   simp only [aT, aZ, List.getElem?_cons_succ] at c4'
   by_cases hlt : k < n1
   ·
    have hI : (k : Int) < (n1 : Int) := by omega
    obtain ⟨b, off, ha, hbF, cs, Fi, hcs, hcc, hr, _⟩ := HL.out.1.get k hlt
    have ha' := ha.symm
    subst ha'
    have hbw : b < w.heap.size := HL.out.1.lt b hbF
    obtain ⟨y, hy⟩ : ∃ y, x.sealed[k]? = some y := ⟨_, List.getElem?_eq_getElem (by rw [HL.out.2.2]; exact hlt)⟩
    have HY : Hid (x.sealed[k]? = some y ∧ y.sk.wide ∧ cs.size = 11 ∧ RdIt w (.agg cs) y Fi) := ⟨hy, HL.out.2.1 y (List.mem_of_getElem? hy), hcs, hr y hy⟩
    have HCW : Hid (∀ W, Below w.heap.size w W → (∀ j, j < 11 → W.cell? ⟨b, off + k * 11 + j, none⟩ = cs[j]?) ∧ RdIt W (.agg cs) y Fi) := fun W hB => ⟨fun j hj => by
     have q := hcc j hj
     have q2 : W.cell? ⟨b, off + k * 11 + j, none⟩ = w.cell? ⟨b, off + k * 11 + j, none⟩ := hB.cell (p := ⟨b, off + k * 11 + j, none⟩) hbw
     exact q2.trans q, HY.out.2.2.2.below hB⟩
    clear ha hbF hcs hcc hr hy
    go_wp2_with (first | go_skip | (with_reducible refine stopLoad 36 rfl ?_))
    refine load_at 36 b (off + k * 11) 11 cs _ (HCW.out _ HR.out.1).1 HY.out.2.2.1 rfl rfl rfl Try.underlying36 rfl infoItG ?_
    go_wp2_with fail
    refine (itemOkSpec_any _ y Fi _ (HCW.out _ HR.out.1).2 HY.out.2.1).mono ?_
    rintro e w4 ⟨rfl, hb4⟩
    have HR4 : Hid (Below w.heap.size w w4 ∧ Blk w4 w.heap.size #[.int .i64 x.id, .int .i64 x.epoch, .bool false, .int .i64 x.granted, .slice (some ⟨b, off, none⟩) n1 c1, .slice a2 n2 c2, .int .i64 x.next] 27) := ⟨Below.next HR.out.1 hb4, HR.out.2.1.below hb4⟩
    obtain ⟨d, hd⟩ : ∃ d, d = y.ok := ⟨_, rfl⟩
    rw [← hd]
    have HD : Hid (d = y.ok) := hd
    clear hd hb4 c4'
    cases d
    ·
     have HV : Hid (x.ok = false) := by show _ = _; rw [HOKF.out]; exact itsOk_not HY.out.1 (.inl HD.out.symm)
     go_wp2
     go_ret
     exact ⟨ret_bool HV.out.symm, HR4.out.1⟩
    have c4' := HR4.out.2.cell 4
    simp only [aT, aZ, List.getElem?_cons_succ] at c4'
    have cq : w4.cell? ⟨b, off + k * 11, none⟩ = some (.int .i64 y.seq) := by
     have := (HCW.out _ HR4.out.1).1 0 (by omega)
     rw [Nat.add_zero] at this
     rw [this]
     exact RdIt.first HY.out.2.2.2
    by_cases hq : y.seq = (k : Int) + 1
    ·
     have hqb : (y.seq != (k : Int) + 1) = false := by simpa using hq
     have HN2 : Hid (∀ j z, j < k + 1 → x.sealed[j]? = some z → z.ok = true ∧ z.seq = (j : Int) + 1) := fun j z hj hz => by
      by_cases e : j = k
      ·
       subst e
       rw [HY.out.1] at hz
       cases hz
       exact ⟨HD.out.symm, hq⟩
      ·
       exact HR.out.2.2 j z (by omega) hz
     clear hq HR
     go_wp2
     go_roundw
     case rel => exact ⟨k + 1, by omega, by go_num, HR4.out.1, HR4.out.2, HN2.out⟩
     case measure => simp [intOf]; omega
    ·
     have hqb : (y.seq != (k : Int) + 1) = true := by simpa using hq
     have HV : Hid (x.ok = false) := by show _ = _; rw [HOKF.out]; exact itsOk_not HY.out.1 (.inr hq)
     clear hq
     go_wp2
     go_ret
     exact ⟨ret_bool HV.out.symm, HR4.out.1⟩
   ·
    have HV : Hid (x.ok = true) := by
     show _ = _
     rw [HOKF.out]
     exact itsOk_all (fun j z hz => HR.out.2.2 j z (by have := (List.getElem?_eq_some_iff.1 hz).1; have := HL.out.2.2; omega) hz)
    go_wp2
    go_ret
    exact ⟨ret_bool HV.out.symm, HR.out.1⟩
 have HOKF : Hid (x.ok = itsOk x.sealed) := HLIVE.out (by rfl)
 go_wp2_with fail
 go_loopw [3] (fun i wr => ∃ (k : Nat), k ≤ n1 ∧ i = .int .i64 k ∧ Hid (Below w.heap.size w wr ∧ Blk wr w.heap.size #[.int .i64 x.id, .int .i64 x.epoch, .bool true, .int .i64 x.granted, .slice a1 n1 c1, .slice a2 n2 c2, .int .i64 x.next] 27 ∧ ∀ j y, j < k → x.sealed[j]? = some y → y.ok = true ∧ y.seq = (j : Int) + 1)) (fun i _ => n1 - (intOf i).toNat)
 case atStart => exact ⟨0, by omega, rfl, HB3.out.1, HB3.out.2, fun j y hj => by omega⟩
 case round =>
  obtain ⟨k, hk, rfl, HR⟩ := hrel
  have c4' := HR.out.2.1.cell 4
  simp only [aT, aZ, List.getElem?_cons_succ] at c4'
  by_cases hlt : k < n1
  ·
   have hI : (k : Int) < (n1 : Int) := by omega
   obtain ⟨b, off, ha, hbF, cs, Fi, hcs, hcc, hr, _⟩ := HL.out.1.get k hlt
   have ha' := ha.symm
   subst ha'
   have hbw : b < w.heap.size := HL.out.1.lt b hbF
   obtain ⟨y, hy⟩ : ∃ y, x.sealed[k]? = some y := ⟨_, List.getElem?_eq_getElem (by rw [HL.out.2.2]; exact hlt)⟩
   have HY : Hid (x.sealed[k]? = some y ∧ y.sk.wide ∧ cs.size = 11 ∧ RdIt w (.agg cs) y Fi) := ⟨hy, HL.out.2.1 y (List.mem_of_getElem? hy), hcs, hr y hy⟩
   have HCW : Hid (∀ W, Below w.heap.size w W → (∀ j, j < 11 → W.cell? ⟨b, off + k * 11 + j, none⟩ = cs[j]?) ∧ RdIt W (.agg cs) y Fi) := fun W hB => ⟨fun j hj => by
    have q := hcc j hj
    have q2 : W.cell? ⟨b, off + k * 11 + j, none⟩ = w.cell? ⟨b, off + k * 11 + j, none⟩ := hB.cell (p := ⟨b, off + k * 11 + j, none⟩) hbw
    exact q2.trans q, HY.out.2.2.2.below hB⟩
   clear ha hbF hcs hcc hr hy
   go_wp2_with (first | go_skip | (with_reducible refine stopLoad 36 rfl ?_))
   refine load_at 36 b (off + k * 11) 11 cs _ (HCW.out _ HR.out.1).1 HY.out.2.2.1 rfl rfl rfl Try.underlying36 rfl infoItG ?_
   go_wp2_with fail
   refine (itemOkSpec_any _ y Fi _ (HCW.out _ HR.out.1).2 HY.out.2.1).mono ?_
   rintro e w4 ⟨rfl, hb4⟩
   have HR4 : Hid (Below w.heap.size w w4 ∧ Blk w4 w.heap.size #[.int .i64 x.id, .int .i64 x.epoch, .bool true, .int .i64 x.granted, .slice (some ⟨b, off, none⟩) n1 c1, .slice a2 n2 c2, .int .i64 x.next] 27) := ⟨Below.next HR.out.1 hb4, HR.out.2.1.below hb4⟩
   obtain ⟨d, hd⟩ : ∃ d, d = y.ok := ⟨_, rfl⟩
   rw [← hd]
   have HD : Hid (d = y.ok) := hd
   clear hd hb4 c4'
   cases d
   ·
    have HV : Hid (x.ok = false) := by show _ = _; rw [HOKF.out]; exact itsOk_not HY.out.1 (.inl HD.out.symm)
    go_wp2
    go_ret
    exact ⟨ret_bool HV.out.symm, HR4.out.1⟩
   have c4' := HR4.out.2.cell 4
   simp only [aT, aZ, List.getElem?_cons_succ] at c4'
   have cq : w4.cell? ⟨b, off + k * 11, none⟩ = some (.int .i64 y.seq) := by
    have := (HCW.out _ HR4.out.1).1 0 (by omega)
    rw [Nat.add_zero] at this
    rw [this]
    exact RdIt.first HY.out.2.2.2
   by_cases hq : y.seq = (k : Int) + 1
   ·
    have hqb : (y.seq != (k : Int) + 1) = false := by simpa using hq
    have HN2 : Hid (∀ j z, j < k + 1 → x.sealed[j]? = some z → z.ok = true ∧ z.seq = (j : Int) + 1) := fun j z hj hz => by
     by_cases e : j = k
     ·
      subst e
      rw [HY.out.1] at hz
      cases hz
      exact ⟨HD.out.symm, hq⟩
     ·
      exact HR.out.2.2 j z (by omega) hz
    clear hq HR
    go_wp2
    go_roundw
    case rel => exact ⟨k + 1, by omega, by go_num, HR4.out.1, HR4.out.2, HN2.out⟩
    case measure => simp [intOf]; omega
   ·
    have hqb : (y.seq != (k : Int) + 1) = true := by simpa using hq
    have HV : Hid (x.ok = false) := by show _ = _; rw [HOKF.out]; exact itsOk_not HY.out.1 (.inr hq)
    clear hq
    go_wp2
    go_ret
    exact ⟨ret_bool HV.out.symm, HR4.out.1⟩
  ·
   have HV : Hid (x.ok = true) := by
    show _ = _
    rw [HOKF.out]
    exact itsOk_all (fun j z hz => HR.out.2.2 j z (by have := (List.getElem?_eq_some_iff.1 hz).1; have := HL.out.2.2; omega) hz)
   go_wp2
   go_ret
   exact ⟨ret_bool HV.out.symm, HR.out.1⟩
end Go.Proofs.Ytgkbhhlkaifnoaa
/- How chapter 1 writes a number as bytes, over natural numbers. No statement of the seat is proved here. -/
namespace Go.Proofs.Ytgkbhhlkaifnoaa
open Go.RowKit

/-- Seven bits a byte, the low ones first, 128 more in each byte but the last. -/
def encN (n : Nat) : List Int := if n < 128 then [(n : Int)] else ((n : Int) % 128 + 128) :: encN (n / 128)
 termination_by n
 decreasing_by omega

/-- The bytes of a number: none of one that is not in 0 .. 2147483647. -/
def encOf (n : Int) : List Int := if 0 ≤ n ∧ n ≤ 2147483647 then encN n.toNat else []


/-- What a marked slice of n bytes holds: k, k + 1, .. each by 256. -/
def marks (k : Int) (n : Nat) : List Int := (List.range n).map fun i : Nat => (k + (i : Int)) % 256
/-- Marked up to i, the rest as it was. -/
def marked (k : Int) (i : Nat) (xs : List Value) : List Value := (marks k i).map (Value.int .u8) ++ xs.drop i
end Go.Proofs.Ytgkbhhlkaifnoaa
/- The walks through PutNum, the program's and the model's. No statement of the seat is proved here. -/
namespace Go.Proofs.Ytgkbhhlkaifnoaa
open Go.RowKit




end Go.Proofs.Ytgkbhhlkaifnoaa
/- The walks through the model's l7Put, l7Nums and SketchBytes. No statement of the seat is proved here. -/
namespace Go.Proofs.Ytgkbhhlkaifnoaa
open Go.RowKit
def putAll (zs : List Int) : List Int := (zs.map encOf).flatten
end Go.Proofs.Ytgkbhhlkaifnoaa
/- The walks through the model's l7Nums and SketchBytes. No statement of the seat is proved here. -/
namespace Go.Proofs.Ytgkbhhlkaifnoaa
open Go.RowKit
def Sk.nums (s : Sk) : List Int := [s.count, s.sum, s.min, s.max] ++ s.hist ++ s.regs ++ s.rows.flatten
/-- A list that grows beside a box. -/
structure NumSt (w : World) (cs : Array Value) (t : TypeId) (v : Value) (xs : List Int) (W : World) : Prop where
 box : Blk W w.heap.size cs t
 own : W.ownsRow (w.heap.size + 1) 3 1 v xs.length (xs.map (Value.int .i64))
 bel : Below w.heap.size w W
theorem NumSt.size {w W : World} {cs : Array Value} {t : TypeId} {v : Value} {xs : List Int} (h : NumSt w cs t v xs W) : w.heap.size + 1 ≤ W.heap.size := h.box.lt
theorem NumSt.app {w W W' : World} {cs : Array Value} {t : TypeId} {v v' : Value} {xs ys : List Int} {m : Nat} (h : NumSt w cs t v xs W) (hm : ys.length = m) (hown : W'.ownsRow (w.heap.size + 1) 3 1 v' (xs.length + m) (xs.map (Value.int .i64) ++ ys.map (Value.int .i64))) (hg : W.grownBy W' v.ownBlock) : NumSt w cs t v' (xs ++ ys) W' := by
 have b : Below (w.heap.size + 1) W W' := (Below.refl _ _).grown hg h.size (fun g e => (h.own.lt g e).1)
 refine ⟨h.box.agree (b.block _ (Nat.lt_succ_self _)), ?_, h.bel.trans (b.mono (by omega))⟩
 rw [List.length_append, List.map_append, hm]
 exact hown
end Go.Proofs.Ytgkbhhlkaifnoaa
/- How chapter 1 reads a number off bytes, over whole numbers. No statement of the seat is proved here. -/
namespace Go.Proofs.Ytgkbhhlkaifnoaa
open Go.RowKit

/-- The number that the bytes begin with, k of its bytes being read already (together acc): it and how many bytes it takes. -/
def dg : List Int → Nat → Int → Option (Int × Nat)
 | [], _, _ => none
 | c :: r, k, acc => if k = 5 then none else if c < 128 then (if (0 < k ∧ c = 0) ∨ 2147483647 < acc + c % 128 * 128 ^ k then none else some (acc + c % 128 * 128 ^ k, k + 1)) else dg r (k + 1) (acc + c % 128 * 128 ^ k)

/-- The number that begins at that place. -/
def res (zs : List Int) (p : Int) : Option (Int × Nat) := if 0 ≤ p ∧ p ≤ zs.length then dg (zs.drop p.toNat) 0 0 else none


section
variable {zs : List Int} {q k : Nat} {X c Y : Int} {r : Option (Int × Nat)}
end
end Go.Proofs.Ytgkbhhlkaifnoaa
/- The walks through GetNum, the program's and the model's. No statement of the seat is proved here. -/
namespace Go.Proofs.Ytgkbhhlkaifnoaa
open Go.RowKit


end Go.Proofs.Ytgkbhhlkaifnoaa
/- The walks through readNum and GetNum of the program: what is no number panics inside and is recovered at the face. No statement of the seat is proved here. -/
namespace Go.Proofs.Ytgkbhhlkaifnoaa
open Go.RowKit





end Go.Proofs.Ytgkbhhlkaifnoaa
/- The walk through the model's l7Get. No statement of the seat is proved here. -/
namespace Go.Proofs.Ytgkbhhlkaifnoaa
open Go.RowKit
theorem cell_one7 (w : World) (x : Value) (t : TypeId) : ∀ j u, [x][j]? = some u → (w.alloc (.cells #[x] t)).cell? ((⟨w.heap.size, 0, none⟩ : Addr).add j) = some u
 | 0, u, hx => by
  obtain rfl : x = u := by simpa using hx
  simp [Addr.add]
 | j + 1, u, hx => by simp at hx
end Go.Proofs.Ytgkbhhlkaifnoaa
/- The walk through the model's SketchBytes. No statement of the seat is proved here. -/
namespace Go.Proofs.Ytgkbhhlkaifnoaa
open Go.RowKit
def Sk.bytes (s : Sk) : List Int := if s.ok = true then putAll s.nums else []
end Go.Proofs.Ytgkbhhlkaifnoaa
/- The check sum of chapter 1 over whole numbers: one step of it on 32 bits and on 64 bits is the same number. No statement of the seat is proved here. -/
namespace Go.Proofs.Ytgkbhhlkaifnoaa
open Go.RowKit

/-- Half, and, where it was odd, exclusive or with the number of the check sum: on 64 bits with a sign; on 32 bits without one. -/
def hb64 (x : Int) : Int := if x % 2 = 1 then bits .xor .i64 (x / 2) 3988292384 else x / 2
def it64 : Nat → Int → Int | 0, x => x | k + 1, x => hb64 (it64 k x)
def crc64 (l : List Int) : Int := l.foldl (fun x b => it64 8 (bits .xor .i64 x b)) 4294967295


theorem takes (zs : List Int) (k : Nat) (hk : k < zs.length) : zs.take (k + 1) = zs.take k ++ [zs[k]?.getD 0] := by
 rw [List.take_add_one, List.getElem?_eq_getElem hk]; rfl
end Go.Proofs.Ytgkbhhlkaifnoaa
/- The walks through the two check sums (the model's and the program's), through the copying and the comparing of byte slices. No statement of the seat is proved here. -/
namespace Go.Proofs.Ytgkbhhlkaifnoaa
open Go.RowKit



end Go.Proofs.Ytgkbhhlkaifnoaa
/- The walk through the model's l7Sum. No statement of the seat is proved here. -/
namespace Go.Proofs.Ytgkbhhlkaifnoaa
open Go.RowKit
def crcOf (zs : List Int) : Int := bits .xor .i64 (crc64 zs) 4294967295
def sumOf (zs : List Int) : List Int := [crcOf zs / 16777216, crcOf zs / 65536 % 256, crcOf zs / 256 % 256, crcOf zs % 256]
end Go.Proofs.Ytgkbhhlkaifnoaa
/- What a right frame's numbers are, and its bytes. No statement of the seat is proved here. -/
namespace Go.Proofs.Ytgkbhhlkaifnoaa
open Go.RowKit
structure Fr.Right (x : Fr) : Prop where
 kind : 0 ≤ x.kind ∧ x.kind ≤ 3
 agent : 0 ≤ x.agent ∧ x.agent ≤ 2
 epoch : 0 ≤ x.epoch ∧ x.epoch ≤ 1000
 granted : 0 ≤ x.granted ∧ x.granted ≤ 60
 ok : x.taken.ok = true
 span : ∀ k, k < x.taken.length → 1 ≤ (x.taken.at k).1 ∧ (x.taken.at k).1 ≤ (x.taken.at k).2 ∧ (x.taken.at k).2 ≤ 60
 many : x.taken.length ≤ 30
 item : if x.kind = 1 then x.item.ok = true else x.item = It.zero
def Fr.body (x : Fr) : List Int := [87, 82] ++ putAll [x.kind, x.agent, x.epoch, x.granted, (x.taken.length : Int)] ++ putAll (flat x.taken) ++ (if x.kind = 1 then putAll [x.item.seq, x.item.cls, x.item.key, x.item.window] ++ x.item.sk.bytes else [])
def Fr.bytes (x : Fr) : List Int := if x.ok = true then x.body ++ sumOf x.body else []
end Go.Proofs.Ytgkbhhlkaifnoaa
/- The walk through the model's l7Body. No statement of the seat is proved here. -/
namespace Go.Proofs.Ytgkbhhlkaifnoaa
open Go.RowKit
/-- Bytes that grow beside a box. -/
structure ByteSt (w : World) (cs : Array Value) (t : TypeId) (v : Value) (xs : List Int) (W : World) : Prop where
 box : Blk W w.heap.size cs t
 own : W.ownsRow (w.heap.size + 1) 5 1 v xs.length (xs.map (Value.int .u8))
 bel : Below w.heap.size w W
theorem ByteSt.size {w W : World} {cs : Array Value} {t : TypeId} {v : Value} {xs : List Int} (h : ByteSt w cs t v xs W) : w.heap.size + 1 ≤ W.heap.size := h.box.lt
theorem ByteSt.below {w W W' : World} {cs : Array Value} {t : TypeId} {v : Value} {xs : List Int} (h : ByteSt w cs t v xs W) (b : Below W.heap.size W W') : ByteSt w cs t v xs W' := ⟨h.box.below b, ownsRow_below h.own b, Below.next h.bel b⟩
theorem ByteSt.app {w W W' : World} {cs : Array Value} {t : TypeId} {v v' : Value} {xs ys : List Int} {m : Nat} (h : ByteSt w cs t v xs W) (hm : ys.length = m) (hown : W'.ownsRow (w.heap.size + 1) 5 1 v' (xs.length + m) (xs.map (Value.int .u8) ++ ys.map (Value.int .u8))) (hg : W.grownBy W' v.ownBlock) : ByteSt w cs t v' (xs ++ ys) W' := by
 have b : Below (w.heap.size + 1) W W' := (Below.refl _ _).grown hg h.size (fun g e => (h.own.lt g e).1)
 refine ⟨h.box.agree (b.block _ (Nat.lt_succ_self _)), ?_, h.bel.trans (b.mono (by omega))⟩
 rw [List.length_append, List.map_append, hm]
 exact hown
end Go.Proofs.Ytgkbhhlkaifnoaa
/- The walk through the helper of the laws that compares two byte slices. No statement of the seat is proved here. -/
namespace Go.Proofs.Ytgkbhhlkaifnoaa
open Go.RowKit



end Go.Proofs.Ytgkbhhlkaifnoaa
/- The walk through the model's FrameBytes. No statement of the seat is proved here. -/
namespace Go.Proofs.Ytgkbhhlkaifnoaa
open Go.RowKit
end Go.Proofs.Ytgkbhhlkaifnoaa
/- What is written is read as it was: the numbers of a frame. No statement of the seat is proved here. -/
namespace Go.Proofs.Ytgkbhhlkaifnoaa
open Go.RowKit

end Go.Proofs.Ytgkbhhlkaifnoaa
/- What is read is what was written: numbers out of their bytes. No statement of the seat is proved here. -/
namespace Go.Proofs.Ytgkbhhlkaifnoaa
open Go.RowKit
/-! ### summaries -/
end Go.Proofs.Ytgkbhhlkaifnoaa
/- What is read is what was written: summaries and frames out of their numbers. No statement of the seat is proved here. -/
namespace Go.Proofs.Ytgkbhhlkaifnoaa
open Go.RowKit
/-! ### frames -/
def Fr.numbers (x : Fr) : List Int := [x.kind, x.agent, x.epoch, x.granted, (x.taken.length : Int)] ++ flat x.taken ++ (if x.kind = 1 then [x.item.seq, x.item.cls, x.item.key, x.item.window] ++ x.item.sk.nums else [])
def Fr.zero : Fr := ⟨0, 0, 0, 0, [], It.zero⟩
end Go.Proofs.Ytgkbhhlkaifnoaa
/- What is read out of bytes, as a result; appends that grow, within a region. No statement of the seat is proved here. -/
namespace Go.Proofs.Ytgkbhhlkaifnoaa
open Go.RowKit
/-- A part of a list that is read. -/
theorem RdI.part {W : World} {b off m : Nat} {l : List Int} {F : List Nat} (h : RdI W (some ⟨b, off, none⟩) m l F) {k n : Nat} (hkn : k + n ≤ m) (hn : 0 < n) : RdI W (some ⟨b, off + k, none⟩) n ((l.drop k).take n) F := by
 rcases h.cells with ⟨h0, _⟩ | ⟨b', off', _, e, hF, hc⟩
 ·
  omega
 ·
  cases e
  refine ⟨by have := h.length; simp; omega, .inr ⟨b, off + k, hn, rfl, hF, fun i hi => ?_⟩⟩
  rw [Nat.add_assoc, hc (k + i) (by omega)]
  simp [hi]
section
variable {P : Program} {ops : Array Oper} {Q : Exit → Act → World → Prop} {a : Act} {w : World} {o : Oper} {K : Act → World → Prop}
theorem op_grows (s x : Operand) (t : TypeId) (hg : o.guard = none) (hop : o.op = .call { callee := .builtin .append, args := #[s, x], argTypes := #[t, t] })
 (e : TypeId) (i : TypeInfo) (z : Value) (size bytes : Nat) (h1 : P.underlying t = some (.slice e)) (h2 : P.info? e = some i) (h3 : i.zero = some z) (h4 : i.size = size) (h5 : i.bytes = bytes) (h6 : z.cells.size = size) (h7 : 0 < size)
 (ao : Option Addr) (hs : a.eval s = .slice ao 0 0)
 (ad : Addr) (m c : Nat) (news : List Value) (hx : a.eval x = .slice (some ad) m c) (hn : news.length = m * size) (hc : ∀ j u, news[j]? = some u → w.cell? (ad.add j) = some u) (h1c : ∀ u ∈ news, u.oneCell' = true)
 (hm : 0 < m) (b1 : m ≤ maxLen) (b2 : m * bytes ≤ 140737488355328)
 (h : ∀ v' w', w'.ownsRow w.heap.size e size v' m news → Below w.heap.size w w' → ∃ a', a.put o.dst v' = a' ∧ K a' w') : if Region.wanted o (yielded ops a.tmps) = true then Oper.wp P o a w K Q else K (a.put o.dst undef) w := by
 refine step_append_grows hg s x t hop e i z size bytes h1 h2 h3 h4 h5 h6 h7 ao 0 0 [] hs (fun _ => ⟨rfl, rfl⟩) (by simp) (fun _ _ j u hj => by simp at hj) ad m c news hx hn hc h1c (by omega) (by omega) (by simpa using b2) ?_
 intro v' w' k1 k2
 obtain ⟨_, rfl, k3⟩ := h v' w' (by simpa using k1) ((Below.refl _ _).grown k2 (Nat.le_refl _) (fun g e => by cases e))
 exact k3
end
end Go.Proofs.Ytgkbhhlkaifnoaa
/- Appending a slice of numbers, whatever its length, onto an empty literal. No statement of the seat is proved here. -/
namespace Go.Proofs.Ytgkbhhlkaifnoaa
open Go.RowKit
theorem run_append_zero {P : Program} {w : World} (t ty e : TypeId) (i : TypeInfo) (ht : P.underlying t = some (.slice e)) (hi : P.info? e = some i) (ao ax : Option Addr) (c : Nat) :
 (Builtin.append_ #[t, t] ty #[.slice ao 0 0, .slice ax 0 c]).run P w = .ok (.slice ao 0 0) w := by
 have hl : ∀ ad : Addr, (loadCells ad 0).run P w = .ok #[] w := fun ad => by
  have := run_loadCells_list (P := P) w ad [] (fun j v hj => by simp at hj)
  simpa using this
 cases ao <;> cases ax <;> simp [Builtin.append_, run_underlying ht, sizeOf, typeInfo, hi, Builtin.lenOf, Builtin.firstCells, storeCells, hl]
section
variable {P : Program} {ops : Array Oper} {Q : Exit → Act → World → Prop} {a : Act} {w : World} {o : Oper} {K : Act → World → Prop}
theorem op_growsI (s x : Operand) (t : TypeId) (hg : o.guard = none) (hop : o.op = .call { callee := .builtin .append, args := #[s, x], argTypes := #[t, t] })
 (e : TypeId) (i : TypeInfo) (h1 : P.underlying t = some (.slice e)) (h2 : P.info? e = some i) (h3 : i.zero = some (.int .i64 0)) (h4 : i.size = 1) (h5 : i.bytes = 8)
 (ao : Option Addr) (hs : a.eval s = .slice ao 0 0) (ax : Option Addr) (m c : Nat) (zs : List Int) (F : List Nat) (hx : a.eval x = .slice ax m c) (hr : RdI w ax m zs F) (hm : m ≤ 1048576)
 (h : ∀ a' c' F' w', RdI w' a' m zs F' → Own w.heap.size w' F' → Below w.heap.size w w' → (∀ b, a'.map (·.block) = some b → ao.map (·.block) = some b ∨ w.heap.size ≤ b) → ∃ a2, a.put o.dst (.slice a' m c') = a2 ∧ K a2 w') : if Region.wanted o (yielded ops a.tmps) = true then Oper.wp P o a w K Q else K (a.put o.dst undef) w := by
 by_cases h0 : m = 0
 ·
  subst h0
  have hz : zs = [] := List.eq_nil_of_length_eq_zero hr.length
  subst hz
  have hw : Region.wanted o (yielded ops a.tmps) = true := by unfold Region.wanted; rw [hg]
  rw [if_pos hw]
  obtain ⟨_, rfl, k⟩ := h ao 0 [] w ⟨rfl, .inl ⟨rfl, rfl⟩⟩ Own.nil (Below.refl _ _) (fun b hb => .inl hb)
  have hrun := run_append_zero (P := P) (w := w) t o.type e i h1 h2 ao ax c
  unfold Oper.wp
  simp [execOp, hop, resolve, invoke, builtin, hs, hx, hrun, Result.andThen]
  exact k
 ·
  obtain ⟨b, off, rfl⟩ := hr.addr (by omega)
  refine op_grows s x t hg hop e i (.int .i64 0) 1 8 h1 h2 h3 h4 h5 rfl (by decide) ao hs ⟨b, off, none⟩ m c (zs.map (Value.int .i64)) hx (by rw [List.length_map, hr.length]; omega) (hr.from (Below.refl _ _) (by omega)) (ints_one _) (by omega) (by unfold maxLen; omega) (by omega) ?_
  intro v' w' hown hb
  obtain ⟨a', c', F', rfl, hr', ho'⟩ := rdI_of_own hown
  refine h a' c' F' w' hr' ho' hb (fun g hg => ?_)
  rcases hr'.cells with ⟨q, _⟩ | ⟨b', off', _, e', hF, _⟩
  ·
   omega
  ·
   subst e'
   right
   simp at hg
   subst hg
   exact ho'.ge _ (by rw [hF]; simp)
end
end Go.Proofs.Ytgkbhhlkaifnoaa
/- The walk through the model's copying of a summary, whatever lists it has. No statement of the seat is proved here. -/
namespace Go.Proofs.Ytgkbhhlkaifnoaa
open Go.RowKit
/-- What is copied behind k rows. -/
structure CopyA (w : World) (A : Array Value) (s : Sk) (a1 a2 : Option Addr) (n1 n2 d1 d2 : Nat) (F1 F2 : List Nat) (lo k : Nat) (v : Value) (vs : List Value) (G : List Nat) (W : World) : Prop where
 three : Three w A 34 #[.int .i64 0, .int .i64 0, .int .i64 0, .int .i64 0, .slice none 0 0, .slice none 0 0, .slice none 0 0] #[.int .i64 s.count, .int .i64 s.sum, .int .i64 s.min, .int .i64 s.max, .slice a1 n1 d1, .slice a2 n2 d2, v] 34 W
 r1 : RdI W a1 n1 s.hist F1
 r2 : RdI W a2 n2 s.regs F2
 own : Own (w.heap.size + 3) W (F1 ++ F2)
 lt : ∀ b ∈ F1 ++ F2, b < lo
 row : W.ownsRow lo 29 1 v k vs
 rd : RdS W ((s.rows.take k).map ints) vs G
 og : Own lo W G
 ap : ∀ b, v.ownBlock = some b → b ∉ G
 big : w.heap.size + 3 ≤ lo
 lw : lo ≤ W.heap.size
section
variable {w W W' : World} {A : Array Value} {s : Sk} {a1 a2 : Option Addr} {n1 n2 d1 d2 : Nat} {F1 F2 : List Nat} {lo k : Nat} {v : Value} {vs : List Value} {G : List Nat}
theorem CopyA.below (h : CopyA w A s a1 a2 n1 n2 d1 d2 F1 F2 lo k v vs G W) (b : Below W.heap.size W W') : CopyA w A s a1 a2 n1 n2 d1 d2 F1 F2 lo k v vs G W' :=
 ⟨h.three.below b, h.r1.below b, h.r2.below b, h.own.below (fun x hx => (List.mem_append.1 hx).elim (h.r1.lt x) (h.r2.lt x)) b, h.lt, ownsRow_below h.row b, h.rd.below b, h.og.below h.rd.lt b, h.ap, h.big, Nat.le_trans h.lw b.size⟩
theorem CopyA.step (h : CopyA w A s a1 a2 n1 n2 d1 d2 F1 F2 lo k v vs G W) {ak : Option Addr} {nk cp3 g4 cp4 L : Nat} {Fk : List Nat} (rk : RdI W ak nk (s.rows.getD k []) Fk) (ok : Own L W Fk) (ltG : ∀ b ∈ G, b < L) (ltv : ∀ b, v.ownBlock = some b → b < L) (hL : lo ≤ L)
 (hown : W'.ownsRow lo 29 1 (.slice (some ⟨g4, 0, none⟩) (k + 1) cp4) (k + 1) (vs ++ [.slice ak nk cp3])) (hgrow : W.grownBy W' v.ownBlock) (hat : v.ownBlock = some g4 ∨ g4 = W.heap.size) (hk : k < s.rows.length) :
 CopyA w A s a1 a2 n1 n2 d1 d2 F1 F2 lo (k + 1) (.slice (some ⟨g4, 0, none⟩) (k + 1) cp4) (vs ++ [.slice ak nk cp3]) (G ++ Fk) (W'.setCell ⟨w.heap.size + 1 + 1, 6, none⟩ (.slice (some ⟨g4, 0, none⟩) (k + 1) cp4)) ∧ CopyS w A W' ∧
  W'.cell? ⟨w.heap.size + 1 + 1, 6, none⟩ = some v ∧ W'.frozen? ⟨w.heap.size + 1 + 1, 6, none⟩ = false := by
 have big := h.big
 have blk : ∀ b, b < W.heap.size → ¬ v.ownBlock = some b → W'.heap[b]? = W.heap[b]? := fun b hb hn => hgrow.block b hb (fun e => hn e.symm)
 have vge : ∀ b, v.ownBlock = some b → lo ≤ b := fun b hb => (h.row.lt b hb).1
 have bx := h.three.box.agree (blk _ h.three.box.lt (fun e => by have := vge _ e; omega))
 have rs := h.three.res.agree (blk _ h.three.res.lt (fun e => by have := vge _ e; omega))
 have lc := h.three.loc.agree (blk _ h.three.loc.lt (fun e => by have := vge _ e; omega))
 have bel : Below w.heap.size w W' := h.three.bel.grown hgrow h.three.bel.size (fun b hb => by have := vge b hb; omega)
 have T : Three w A 34 #[.int .i64 0, .int .i64 0, .int .i64 0, .int .i64 0, .slice none 0 0, .slice none 0 0, .slice none 0 0] #[.int .i64 s.count, .int .i64 s.sum, .int .i64 s.min, .int .i64 s.max, .slice a1 n1 d1, .slice a2 n2 d2, v] 34 W' := ⟨bx, rs, lc, bel⟩
 have no : ∀ b ∈ F1 ++ F2 ++ (G ++ Fk), b ≠ w.heap.size + 1 + 1 := fun b hb e => by
  rcases List.mem_append.1 hb with hb | hb
  ·
   have := h.own.ge b hb; omega
  ·
   rcases List.mem_append.1 hb with hb | hb
   ·
    have := h.og.ge b hb; omega
   ·
    have := ok.ge b hb; omega
 have agF : Agree W (W'.setCell ⟨w.heap.size + 1 + 1, 6, none⟩ (.slice (some ⟨g4, 0, none⟩) (k + 1) cp4)) (F1 ++ F2) := Agree.thenSet (fun b hb => blk b ((List.mem_append.1 hb).elim (h.r1.lt b) (h.r2.lt b)) (fun e => by have := vge _ e; have := h.lt b hb; omega)) (fun hx => no _ (List.mem_append_left _ hx) rfl) _ _
 have agG : Agree W (W'.setCell ⟨w.heap.size + 1 + 1, 6, none⟩ (.slice (some ⟨g4, 0, none⟩) (k + 1) cp4)) (G ++ Fk) := Agree.thenSet (fun b hb => blk b ((List.mem_append.1 hb).elim (h.rd.lt b) (rk.lt b)) (fun e => (List.mem_append.1 hb).elim (h.ap b e) (fun hf => by have := ok.ge b hf; have := ltv b e; omega))) (fun hx => no _ (List.mem_append_right _ hx) rfl) _ _
 have hgw : w.heap.size + 1 + 1 < W'.heap.size := lc.lt
 have rowS : (W'.setCell ⟨w.heap.size + 1 + 1, 6, none⟩ (.slice (some ⟨g4, 0, none⟩) (k + 1) cp4)).ownsRow lo 29 1 (.slice (some ⟨g4, 0, none⟩) (k + 1) cp4) (k + 1) (vs ++ [.slice ak nk cp3]) :=
  own_keep hown (grown_set W' (w.heap.size + 1 + 1) 6 _) (by omega)
 refine ⟨⟨T.set 6 _, h.r1.agree agF.left, h.r2.agree agF.right, h.own.agree agF, h.lt, rowS, ?_, ?_, ?_, h.big, ?_⟩, ⟨bx, bel⟩, by rw [lc.cell]; rfl, lc.frozen 6⟩
 ·
  rw [take_snoc s.rows [] k hk, List.map_append]
  exact (h.rd.agree agG.left).snoc (rd_ints.2 ⟨_, _, _, rfl, rk.agree agG.right⟩)
 ·
  exact (h.og.agree agG.left).join (ok.agree agG.right) ltG hL
 ·
  intro b hb hx
  have hb' : b = g4 := by simpa [Value.ownBlock] using hb.symm
  subst hb'
  rcases hat with e | e
  ·
   rcases List.mem_append.1 hx with hx | hx
   ·
    exact h.ap _ e hx
   ·
    have := ok.ge _ hx; have := ltv _ e; omega
  ·
   rcases List.mem_append.1 hx with hx | hx
   ·
    have := h.rd.lt _ hx; omega
   ·
    have := rk.lt _ hx; omega
 ·
  have := hgrow.size; have := h.lw; simp; omega
theorem CopyA.rows (h : CopyA w A s a1 a2 n1 n2 d1 d2 F1 F2 lo k v vs G W) : ∃ a c F, v = .slice a k c ∧ RdII W a k (s.rows.take k) F ∧ Own (w.heap.size + 3) W (F1 ++ (F2 ++ F)) ∧ k ≤ c := by
 have big := h.big
 rcases h.row.2 with ⟨e, e'⟩ | ⟨g, cap, cur, e, e2, e3, e4⟩
 ·
  subst e'
  exact ⟨none, 0, [], e, ⟨by simp, .inl ⟨rfl, rfl⟩⟩, by simpa using h.own, by omega⟩
 ·
  subst e
  have hl : vs.length = k := by simpa using h.row.1
  have hlen := h.rd.length
  by_cases h0 : k = 0
  ·
   subst h0
   exact ⟨_, cap, [], rfl, ⟨by simp, .inl ⟨rfl, rfl⟩⟩, by simpa using h.own, by omega⟩
  ·
   have hm : RdM W ((s.rows.take k).map ints) g 0 G := rdM_of_own 0 h.rd (fun i hi => by rw [Nat.zero_add]; exact h.row.cellAt i (by omega))
   have hg : lo ≤ g := (h.row.lt g rfl).1
   have hgG : g ∉ G := h.ap g rfl
   have og : Own lo W (g :: G) := ⟨List.nodup_cons.2 ⟨hgG, h.og.nodup⟩, fun b hb o => (List.mem_cons.1 hb).elim (fun e => by subst e; exact h.row.frozenAt o) (fun hb => h.og.free b hb o), fun b hb => (List.mem_cons.1 hb).elim (fun e => by omega) (h.og.ge b)⟩
   refine ⟨_, cap, g :: G, rfl, ⟨by rw [List.length_map] at hlen; omega, .inr ⟨g, 0, G, by omega, rfl, rfl, hm⟩⟩, ?_, e4.1⟩
   rw [← List.append_assoc]
   exact h.own.join og h.lt h.big
end
set_option maxRecDepth 200000 in
set_option maxHeartbeats 8000000 in
theorem l3Copy_all (v : Value) (s : Sk) (F : List Nat) (w : World) (h : RdSk w v s F) (hf : s.fits) :
 Calls Try.prog 58 #[v] w fun e w' => NewSk w s e w' := by
 obtain ⟨i0, hi, hz0, hz1, hz2⟩ := info_parts infoInt
 obtain ⟨j0, hj, hy0, hy1, hy2⟩ := info_parts infoInts
 obtain ⟨a1, n1, c1, a2, n2, c2, a3, n3, c3, F1, F2, F3, rfl, h1, h2, h3, _⟩ := h
 have l1 := h1.length
 have l2 := h2.length
 have l3 := h3.length
 have hn1 : n1 ≤ 1048576 := by rw [← l1]; exact hf.hist
 have hn2 : n2 ≤ 1048576 := by rw [← l2]; exact hf.regs
 have hn3 : n3 ≤ 1048576 := by rw [← l3]; exact hf.rows
 have HR : Hid (RdI w a1 n1 s.hist F1 ∧ RdI w a2 n2 s.regs F2 ∧ RdII w a3 n3 s.rows F3 ∧ s.fits) := ⟨h1, h2, h3, hf⟩
 have HL : Hid (s.hist.length = n1 ∧ s.regs.length = n2 ∧ s.rows.length = n3) := ⟨l1, l2, l3⟩
 clear h1 h2 h3 hf l1 l2 l3
 have HT0 : Hid (Three w _ _ _ _ _ _) := Three.made w #[.int .i64 s.count, .int .i64 s.sum, .int .i64 s.min, .int .i64 s.max, .slice a1 n1 c1, .slice a2 n2 c2, .slice a3 n3 c3] 34 #[.int .i64 0, .int .i64 0, .int .i64 0, .int .i64 0, .slice none 0 0, .slice none 0 0, .slice none 0 0] #[.int .i64 s.count, .int .i64 s.sum, .int .i64 s.min, .int .i64 s.max, .slice a1 n1 c1, .slice a2 n2 c2, .slice a3 n3 c3] 34
 go_enter Try.func58, Try.ntmps58
 go_wp2_with (with_reducible refine stopAppend rfl ?_)
 obtain ⟨W2, hW2⟩ : ∃ W2, W2 = ((w.alloc (.cells #[.int .i64 s.count, .int .i64 s.sum, .int .i64 s.min, .int .i64 s.max, .slice a1 n1 c1, .slice a2 n2 c2, .slice a3 n3 c3] 34)).alloc (.cells #[.int .i64 0, .int .i64 0, .int .i64 0, .int .i64 0, .slice none 0 0, .slice none 0 0, .slice none 0 0] 34)).alloc (.cells #[.int .i64 s.count, .int .i64 s.sum, .int .i64 s.min, .int .i64 s.max, .slice a1 n1 c1, .slice a2 n2 c2, .slice a3 n3 c3] 34) := ⟨_, rfl⟩
 have hs2 : W2.heap.size = w.heap.size + 3 := by rw [hW2]; simp
 rw [← hW2] at HT0 ⊢
 clear hW2
 have bE2 : Below W2.heap.size W2 (W2.alloc (.cells #[] 3)) := (Below.refl _ _).alloc (Nat.le_refl _) _
 have HT1 : Hid (Three w #[.int .i64 s.count, .int .i64 s.sum, .int .i64 s.min, .int .i64 s.max, .slice a1 n1 c1, .slice a2 n2 c2, .slice a3 n3 c3] 34 #[.int .i64 0, .int .i64 0, .int .i64 0, .int .i64 0, .slice none 0 0, .slice none 0 0, .slice none 0 0] #[.int .i64 s.count, .int .i64 s.sum, .int .i64 s.min, .int .i64 s.max, .slice a1 n1 c1, .slice a2 n2 c2, .slice a3 n3 c3] 34 (W2.alloc (.cells #[] 3))) := HT0.out.below bE2
 refine Stop.intro (wpList_step fun K hK => op_growsI _ _ 29 rfl rfl 3 i0 Try.underlying29 hi hz0 hz1 hz2 (some _) rfl a1 n1 c1 s.hist F1 rfl (HR.out.1.below HT1.out.bel) hn1 ?_)
 intro b1 d1 G1 w3 r1 o1 hb1 _
 have HT3 : Hid (Three w #[.int .i64 s.count, .int .i64 s.sum, .int .i64 s.min, .int .i64 s.max, .slice a1 n1 c1, .slice a2 n2 c2, .slice a3 n3 c3] 34 #[.int .i64 0, .int .i64 0, .int .i64 0, .int .i64 0, .slice none 0 0, .slice none 0 0, .slice none 0 0] #[.int .i64 s.count, .int .i64 s.sum, .int .i64 s.min, .int .i64 s.max, .slice a1 n1 c1, .slice a2 n2 c2, .slice a3 n3 c3] 34 w3) := HT1.out.below hb1
 have HQ3 : Hid (RdI w3 b1 n1 s.hist G1 ∧ Own (w.heap.size + 3) w3 G1) := ⟨r1, o1.mono (by have := bE2.size; omega)⟩
 refine ⟨_, by simp [Act.put]; rfl, hK _ _ ?_⟩
 clear hK r1 o1 hb1 bE2 HT1 HT0 hs2
 have c4 := HT3.out.loc.cell 4
 have f4 := HT3.out.loc.frozen 4
 have e5 := HT3.out.box.cell 5
 simp only [aT, aS, aZ] at c4 e5
 have sz3 := HT3.out.size
 have ne3 : ¬ w.heap.size = w3.heap.size := by omega
 have ne3' : ¬ w3.heap.size = w.heap.size := by omega
 have lt3 : w.heap.size < w3.heap.size := by omega
 go_wp2_with (with_reducible refine stopAppend rfl ?_)
 clear ne3 ne3' lt3 sz3
 have ng1 : w.heap.size + 1 + 1 ∉ G1 := fun hx => by have := HQ3.out.2.ge _ hx; omega
 have HT4 : Hid (Three w #[.int .i64 s.count, .int .i64 s.sum, .int .i64 s.min, .int .i64 s.max, .slice a1 n1 c1, .slice a2 n2 c2, .slice a3 n3 c3] 34 #[.int .i64 0, .int .i64 0, .int .i64 0, .int .i64 0, .slice none 0 0, .slice none 0 0, .slice none 0 0] #[.int .i64 s.count, .int .i64 s.sum, .int .i64 s.min, .int .i64 s.max, .slice b1 n1 d1, .slice a2 n2 c2, .slice a3 n3 c3] 34 (w3.setCell ⟨w.heap.size + 1 + 1, 4, none⟩ (.slice b1 n1 d1))) := HT3.out.set 4 _
 have HQ4 : Hid (RdI (w3.setCell ⟨w.heap.size + 1 + 1, 4, none⟩ (.slice b1 n1 d1)) b1 n1 s.hist G1 ∧ Own (w.heap.size + 3) (w3.setCell ⟨w.heap.size + 1 + 1, 4, none⟩ (.slice b1 n1 d1)) G1) := ⟨HQ3.out.1.agree (.set ng1 4 _), HQ3.out.2.agree (.set ng1 4 _)⟩
 obtain ⟨W4, hW4⟩ : ∃ W, W = w3.setCell ⟨w.heap.size + 1 + 1, 4, none⟩ (.slice b1 n1 d1) := ⟨_, rfl⟩
 try rw [show w3.heap.size = W4.heap.size from by rw [hW4]; simp]
 rw [← hW4] at HT4 HQ4 ⊢
 clear hW4 ng1 c4 f4 e5 HT3 HQ3
 have bE4 : Below W4.heap.size W4 (W4.alloc (.cells #[] 3)) := (Below.refl _ _).alloc (Nat.le_refl _) _
 have HT5 : Hid (Three w #[.int .i64 s.count, .int .i64 s.sum, .int .i64 s.min, .int .i64 s.max, .slice a1 n1 c1, .slice a2 n2 c2, .slice a3 n3 c3] 34 #[.int .i64 0, .int .i64 0, .int .i64 0, .int .i64 0, .slice none 0 0, .slice none 0 0, .slice none 0 0] #[.int .i64 s.count, .int .i64 s.sum, .int .i64 s.min, .int .i64 s.max, .slice b1 n1 d1, .slice a2 n2 c2, .slice a3 n3 c3] 34 (W4.alloc (.cells #[] 3))) := HT4.out.below bE4
 have HQ5 : Hid (RdI (W4.alloc (.cells #[] 3)) b1 n1 s.hist G1 ∧ Own (w.heap.size + 3) (W4.alloc (.cells #[] 3)) G1 ∧ (∀ b ∈ G1, b < W4.heap.size) ∧ w.heap.size + 3 ≤ W4.heap.size) := ⟨HQ4.out.1.below bE4, HQ4.out.2.below HQ4.out.1.lt bE4, HQ4.out.1.lt, HT4.out.size⟩
 refine Stop.intro (wpList_step fun K hK => op_growsI _ _ 29 rfl rfl 3 i0 Try.underlying29 hi hz0 hz1 hz2 (some _) rfl a2 n2 c2 s.regs F2 rfl (HR.out.2.1.below HT5.out.bel) hn2 ?_)
 intro b2 d2 G2 w5 r2 o2 hb2 _
 have HT6 : Hid (Three w #[.int .i64 s.count, .int .i64 s.sum, .int .i64 s.min, .int .i64 s.max, .slice a1 n1 c1, .slice a2 n2 c2, .slice a3 n3 c3] 34 #[.int .i64 0, .int .i64 0, .int .i64 0, .int .i64 0, .slice none 0 0, .slice none 0 0, .slice none 0 0] #[.int .i64 s.count, .int .i64 s.sum, .int .i64 s.min, .int .i64 s.max, .slice b1 n1 d1, .slice a2 n2 c2, .slice a3 n3 c3] 34 w5) := HT5.out.below hb2
 have HQ6 : Hid (RdI w5 b1 n1 s.hist G1 ∧ RdI w5 b2 n2 s.regs G2 ∧ Own (w.heap.size + 3) w5 (G1 ++ G2)) := ⟨HQ5.out.1.below hb2, r2, (HQ5.out.2.1.below HQ5.out.1.lt hb2).join o2 (fun b hb => by have := HQ5.out.2.2.1 b hb; have := bE4.size; omega) (by have := HQ5.out.2.2.2; have := bE4.size; omega)⟩
 refine ⟨_, by simp [Act.put]; rfl, hK _ _ ?_⟩
 clear hK r2 o2 hb2 bE4 HT5 HT4 HQ4 HQ5
 have c5 := HT6.out.loc.cell 5
 have f5 := HT6.out.loc.frozen 5
 have c6 := HT6.out.loc.cell 6
 have f6 := HT6.out.loc.frozen 6
 simp only [aT, aS, aZ] at c5 c6
 have hz5 : w.heap.size + 3 ≤ w5.heap.size := HT6.out.size
 go_wp2
 clear c5 f5 c6 f6
 go_loopw [4] (fun i wr => ∃ (k : Nat) (v : Value) (vs : List Value) (GG : List Nat), k ≤ n3 ∧ i = .int .i64 k ∧ Hid (CopyA w #[.int .i64 s.count, .int .i64 s.sum, .int .i64 s.min, .int .i64 s.max, .slice a1 n1 c1, .slice a2 n2 c2, .slice a3 n3 c3] s b1 b2 n1 n2 d1 d2 G1 G2 w5.heap.size k v vs GG wr)) (fun i _ => n3 - (intOf i).toNat)
 case atStart =>
  have nG : w.heap.size + 1 + 1 ∉ G1 ++ G2 := fun hx => by have := HQ6.out.2.2.ge _ hx; omega
  have ag := ((Agree.refl w5 (G1 ++ G2)).thenSet nG 5 (.slice b2 n2 d2)).thenSet nG 6 (.slice none 0 0)
  have T := (HT6.out.set 5 (.slice b2 n2 d2)).set 6 (.slice none 0 0)
  exact ⟨0, .slice none 0 0, [], [], by omega, rfl, ⟨T, HQ6.out.1.agree ag.left, HQ6.out.2.1.agree ag.right, HQ6.out.2.2.agree ag, fun b hb => (List.mem_append.1 hb).elim (HQ6.out.1.lt b) (HQ6.out.2.1.lt b), ⟨rfl, .inl ⟨rfl, rfl⟩⟩, by simp [RdS], Own.nil, fun b hb => (by cases hb), hz5, by simp⟩⟩
 case round =>
  clear HQ6 HT6
  obtain ⟨k, v, vs, GG, hk, rfl, CSS⟩ := hrel
  have e6 := CSS.out.three.box.cell 6
  simp only [aT, aS, aZ] at e6
  by_cases hlt : k < n3
  ·
   have hI : (k : Int) < (n3 : Int) := by omega
   obtain ⟨p3, o3, F3', rfl, hm3⟩ : ∃ b off F', a3 = some ⟨b, off, none⟩ ∧ RdM w (s.rows.map ints) b off F' := by
    rcases HR.out.2.2.1.cells with ⟨h0, _⟩ | ⟨b, off, F', _, e, _, hm⟩
    ·
     omega
    ·
     exact ⟨b, off, F', e, hm⟩
   obtain ⟨ak, nk, ck, Yk, hck, hrk, _⟩ := RdII.row hm3 HL.out.2.2 k hlt
   have hnk : nk ≤ 1048576 := by rw [← hrk.length]; exact HR.out.2.2.2.row _ (mem_getD (d := []) (by rw [HL.out.2.2]; exact hlt))
   have hp3 : p3 < w.heap.size := World.block_lt_of_cell? _ _ hck
   have HQ : Hid (RdI w ak nk (s.rows.getD k []) Yk ∧ k < s.rows.length) := ⟨hrk, by rw [HL.out.2.2]; exact hlt⟩
   have HC : Hid (∀ W, CopyS w #[.int .i64 s.count, .int .i64 s.sum, .int .i64 s.min, .int .i64 s.max, .slice a1 n1 c1, .slice a2 n2 c2, .slice (some ⟨p3, o3, none⟩) n3 c3] W → W.cell? ⟨w.heap.size, 6, none⟩ = some (.slice (some ⟨p3, o3, none⟩) n3 c3) ∧ W.cell? ⟨p3, o3 + k, none⟩ = some (.slice ak nk ck)) := fun W hW => ⟨by rw [hW.1.cell]; rfl, by
    have q : W.cell? ⟨p3, o3 + k, none⟩ = w.cell? ⟨p3, o3 + k, none⟩ := hW.2.cell (p := ⟨p3, o3 + k, none⟩) hp3
    exact q.trans hck⟩
   have HB0 : Hid (∀ b, b < w.heap.size → b < wr.heap.size) := fun b hb => by have := CSS.out.three.bel.size; omega
   clear hck hrk hm3
   go_wp2_with fail
   clear e6
   have CSd : Hid (CopyA w #[.int .i64 s.count, .int .i64 s.sum, .int .i64 s.min, .int .i64 s.max, .slice a1 n1 c1, .slice a2 n2 c2, .slice (some ⟨p3, o3, none⟩) n3 c3] s b1 b2 n1 n2 d1 d2 G1 G2 w5.heap.size k v vs GG wr.drew) := CSS.out.below (Below.refl _ _).drew
   obtain ⟨Y0, hY0⟩ : ∃ Y, Y = wr.drew := ⟨_, rfl⟩
   rw [← hY0] at CSd
   have HLim : Hid ((∀ b ∈ GG, b < Y0.heap.size) ∧ (∀ b, v.ownBlock = some b → b < Y0.heap.size) ∧ w5.heap.size ≤ Y0.heap.size) := ⟨CSd.out.rd.lt, fun b hb => (CSd.out.row.lt b hb).2, CSd.out.lw⟩
   clear CSS HB0
   refine wp_region_held (S := CopyS w #[.int .i64 s.count, .int .i64 s.sum, .int .i64 s.min, .int .i64 s.max, .slice a1 n1 c1, .slice a2 n2 c2, .slice (some ⟨p3, o3, none⟩) n3 c3]) (by kernel_rfl) ?_
   change wpAnyH _ _ _ _ _ _ _ _ (World.drew _)
   rw [← hY0]
   clear hY0
   refine takeH (o := ?o1) 0 (.pointer (some ⟨w.heap.size + 1 + 1, 6, none⟩)) ?h1 ?r1
   case h1 => simp only [aT, aZ]; rfl
   refine ⟨_, by simp [Act.put]; rfl, by kernel_rfl, by kernel_rfl, by kernel_rfl, fun _ _ _ h => h, (.inl ⟨rfl, fun W _ => by kernel_rfl⟩), ⟨CSd.out.three.box, CSd.out.three.bel⟩, ?_⟩
   refine takeH (o := ?o2) 3 (.pointer (some ⟨w.heap.size, 6, none⟩)) ?h2 ?r2
   case h2 => simp only [aT, aS, aZ]; rfl
   refine ⟨_, by simp [Act.put]; rfl, by kernel_rfl, by kernel_rfl, by kernel_rfl, fun _ _ _ h => h, (.inl ⟨rfl, fun W _ => by kernel_rfl⟩), ⟨CSd.out.three.box, CSd.out.three.bel⟩, ?_⟩
   refine takeH (o := ?o3) 4 (.slice (some ⟨p3, o3, none⟩) n3 c3) ?h3 ?r3
   case h3 => simp only [aT, aS, aZ]; rfl
   refine ⟨_, by simp [Act.put]; rfl, by kernel_rfl, by kernel_rfl, by kernel_rfl, fun _ _ _ h => h, (.inl ⟨rfl, fun W hW => by have c := (HC.out W hW).1; go_simp⟩), ⟨CSd.out.three.box, CSd.out.three.bel⟩, ?_⟩
   refine takeH (o := ?o4) 5 (.int .i64 k) ?h4 ?r4
   case h4 => simp only [aT, aS, aZ]; rfl
   refine ⟨_, by simp [Act.put]; rfl, by kernel_rfl, by kernel_rfl, by kernel_rfl, fun _ _ _ h => h, (.inl ⟨rfl, fun W _ => by kernel_rfl⟩), ⟨CSd.out.three.box, CSd.out.three.bel⟩, ?_⟩
   refine takeH (o := ?o5) 6 (.pointer (some ⟨p3, o3 + k, none⟩)) ?h5 ?r5
   case h5 => simp only [aT, aS, aZ]; rfl
   refine ⟨_, by simp [Act.put]; rfl, by kernel_rfl, by kernel_rfl, by kernel_rfl, fun _ _ _ h => h, (.inl ⟨rfl, fun W _ => by go_simp⟩), ⟨CSd.out.three.box, CSd.out.three.bel⟩, ?_⟩
   refine takeH (o := ?o6) 7 (.slice ak nk ck) ?h6 ?r6
   case h6 => simp only [aT, aS, aZ]; rfl
   refine ⟨_, by simp [Act.put]; rfl, by kernel_rfl, by kernel_rfl, by kernel_rfl, fun _ _ _ h => h, (.inl ⟨rfl, fun W hW => by have c := (HC.out W hW).2; go_simp⟩), ⟨CSd.out.three.box, CSd.out.three.bel⟩, ?_⟩
   refine twoH (o := ?o7) (o' := ?p7) 1 2 (by kernel_rfl) ?h7 ?g7 ?r7 ?s7
   case h7 => simp only [aT, aS, aZ]; rfl
   case g7 => simp only [aT, aS, aZ]; rfl
   case r7 =>
    intro K hK
    have co := CSd.out.three.loc.cell 6
    simp only [aT, aS, aZ] at co
    refine op_value v rfl (by go_simp) ⟨_, by simp [Act.put]; rfl, hK _ _ ⟨⟨CSd.out.three.box, CSd.out.three.bel⟩, ?_⟩⟩
    clear hK co
    refine onlyH (o := ?o8) 2 (by kernel_rfl) ?h8 ?r8
    case h8 => simp only [aT, aS, aZ]; rfl
    intro K hK
    have bl : Below Y0.heap.size Y0 (Y0.alloc (.cells #[] 3)) := (Below.refl _ _).alloc (Nat.le_refl _) _
    have CS1 : Hid (CopyA w #[.int .i64 s.count, .int .i64 s.sum, .int .i64 s.min, .int .i64 s.max, .slice a1 n1 c1, .slice a2 n2 c2, .slice (some ⟨p3, o3, none⟩) n3 c3] s b1 b2 n1 n2 d1 d2 G1 G2 w5.heap.size k v vs GG (Y0.alloc (.cells #[] 3)) ∧ Y0.heap.size ≤ Y0.heap.size) := ⟨CSd.out.below bl, (Nat.le_refl _)⟩
    refine op_turn (.slice (some ⟨Y0.heap.size, 0, none⟩) 0 0) (Y0.alloc (.cells #[] 3)) rfl (by kernel_rfl) ⟨_, by simp [Act.put]; rfl, hK _ _ ⟨⟨CS1.out.1.three.box, CS1.out.1.three.bel⟩, ?_⟩⟩
    clear hK bl
    obtain ⟨Y1, hY1⟩ : ∃ Z, Z = Y0.alloc (.cells #[] 3) := ⟨_, rfl⟩
    have g1 : Hid (Y0.heap.size ≤ Y1.heap.size) := by have := CS1.out.2; show _ ≤ _; rw [hY1]; exact Nat.le_trans this (by simp)
    rw [← hY1] at CS1 ⊢
    have CS1 : Hid (CopyA w #[.int .i64 s.count, .int .i64 s.sum, .int .i64 s.min, .int .i64 s.max, .slice a1 n1 c1, .slice a2 n2 c2, .slice (some ⟨p3, o3, none⟩) n3 c3] s b1 b2 n1 n2 d1 d2 G1 G2 w5.heap.size k v vs GG Y1) := CS1.out.1
    clear hY1
    refine onlyH (o := ?o9) 8 (by kernel_rfl) ?h9 ?r9
    case h9 => simp only [aT, aS, aZ]; rfl
    intro K hK
    refine op_growsI _ _ 29 rfl rfl 3 i0 Try.underlying29 hi hz0 hz1 hz2 (some _) rfl ak nk ck (s.rows.getD k []) Yk rfl (HQ.out.1.below CS1.out.three.bel) hnk ?_
    intro ar cr Fr Y2 rr ro rb _
    have g2 : Hid (Y0.heap.size ≤ Y2.heap.size) := Nat.le_trans g1.out rb.size
    have RR2 : Hid (RdI Y2 ar nk (s.rows.getD k []) Fr ∧ Own Y0.heap.size Y2 Fr) := ⟨rr, ro.mono g1.out⟩
    have CS2 : Hid (CopyA w #[.int .i64 s.count, .int .i64 s.sum, .int .i64 s.min, .int .i64 s.max, .slice a1 n1 c1, .slice a2 n2 c2, .slice (some ⟨p3, o3, none⟩) n3 c3] s b1 b2 n1 n2 d1 d2 G1 G2 w5.heap.size k v vs GG Y2) := CS1.out.below rb
    refine ⟨_, by simp [Act.put]; rfl, hK _ _ ⟨⟨CS2.out.three.box, CS2.out.three.bel⟩, ?_⟩⟩
    clear hK rr ro rb
    refine onlyH (o := ?o10) 9 (by kernel_rfl) ?h10 ?r10
    case h10 => simp only [aT, aS, aZ]; rfl
    intro K hK
    have bl : Below Y2.heap.size Y2 (Y2.alloc (.cells #[.slice ar nk cr] 29)) := (Below.refl _ _).alloc (Nat.le_refl _) _
    have CS3 : Hid (CopyA w #[.int .i64 s.count, .int .i64 s.sum, .int .i64 s.min, .int .i64 s.max, .slice a1 n1 c1, .slice a2 n2 c2, .slice (some ⟨p3, o3, none⟩) n3 c3] s b1 b2 n1 n2 d1 d2 G1 G2 w5.heap.size k v vs GG (Y2.alloc (.cells #[.slice ar nk cr] 29))) := CS2.out.below bl
    have RR3 : Hid (RdI (Y2.alloc (.cells #[.slice ar nk cr] 29)) ar nk (s.rows.getD k []) Fr ∧ Own Y0.heap.size (Y2.alloc (.cells #[.slice ar nk cr] 29)) Fr) := ⟨RR2.out.1.below bl, RR2.out.2.below RR2.out.1.lt bl⟩
    have NW3 : Hid (∀ j u, [Value.slice ar nk cr][j]? = some u → ((Y2.alloc (.cells #[.slice ar nk cr] 29))).cell? ((⟨Y2.heap.size, 0, none⟩ : Addr).add j) = some u) := cell_one7 _ _ _
    refine op_turn (.slice (some ⟨Y2.heap.size, 0, none⟩) 1 1) (Y2.alloc (.cells #[.slice ar nk cr] 29)) rfl (by kernel_rfl) ⟨_, by simp [Act.put]; rfl, hK _ _ ⟨⟨CS3.out.three.box, CS3.out.three.bel⟩, ?_⟩⟩
    clear hK bl
    obtain ⟨L3, hL3⟩ : ∃ z, z = Y2.heap.size := ⟨_, rfl⟩
    obtain ⟨Y3, hY3⟩ : ∃ Z, Z = (Y2.alloc (.cells #[.slice ar nk cr] 29)) := ⟨_, rfl⟩
    rw [← hY3, ← hL3] at NW3
    rw [← hY3] at CS3 RR3 ⊢
    rw [← hL3]
    clear hY3 hL3
    refine onlyH (o := ?o11) 10 (by kernel_rfl) ?h11 ?r11
    case h11 => simp only [aT, aS, aZ]; rfl
    intro K hK
    refine op_append Y3 rfl _ _ 32 rfl w5.heap.size 29 j0 (.slice none 0 0) 1 24 Try.underlying32 hj hy0 hy1 hy2 rfl (by decide) v k vs rfl CS3.out.row ⟨L3, 0, none⟩ 1 1 [.slice ar nk cr] rfl rfl NW3.out (by intro u hu; simp at hu; rw [hu]; rfl) (by decide) (by unfold maxLen; omega) (by omega) CS3.out.lw _ rfl ?_
    intro g4 cp4 Y4 hown hgrow hat _
    have ST := CS3.out.step RR3.out.1 RR3.out.2 HLim.out.1 HLim.out.2.1 HLim.out.2.2 hown hgrow hat HQ.out.2
    have CS4 : Hid (CopyA w #[.int .i64 s.count, .int .i64 s.sum, .int .i64 s.min, .int .i64 s.max, .slice a1 n1 c1, .slice a2 n2 c2, .slice (some ⟨p3, o3, none⟩) n3 c3] s b1 b2 n1 n2 d1 d2 G1 G2 w5.heap.size (k + 1) (.slice (some ⟨g4, 0, none⟩) (k + 1) cp4) (vs ++ [.slice ar nk cr]) (GG ++ Fr) (Y4.setCell ⟨w.heap.size + 1 + 1, 6, none⟩ (.slice (some ⟨g4, 0, none⟩) (k + 1) cp4)) ∧ CopyS w #[.int .i64 s.count, .int .i64 s.sum, .int .i64 s.min, .int .i64 s.max, .slice a1 n1 c1, .slice a2 n2 c2, .slice (some ⟨p3, o3, none⟩) n3 c3] Y4) := ⟨ST.1, ST.2.1⟩
    have co := ST.2.2.1
    have fo := ST.2.2.2
    refine ⟨_, by simp [Act.put]; rfl, hK _ _ ⟨CS4.out.2, ?_⟩⟩
    clear hK hown hgrow hat ST
    refine takeH (o := ?o12) 11 (.pointer (some ⟨w.heap.size + 1 + 1, 6, none⟩)) ?h12 ?r12
    case h12 => simp only [aT, aS, aZ]; rfl
    refine ⟨_, by simp [Act.put]; rfl, by kernel_rfl, by kernel_rfl, by kernel_rfl, fun _ _ _ h => h, (.inl ⟨rfl, fun W _ => by kernel_rfl⟩), CS4.out.2, ?_⟩
    refine onlyH (o := ?o13) 12 (by kernel_rfl) ?h13 ?r13
    case h13 => simp only [aT, aS, aZ]; rfl
    intro K hK
    refine op_skip (Y4.setCell ⟨w.heap.size + 1 + 1, 6, none⟩ (.slice (some ⟨g4, 0, none⟩) (k + 1) cp4)) rfl (by go_simp) ⟨_, by simp [Act.put]; rfl, hK _ _ ⟨⟨CS4.out.1.three.box, CS4.out.1.three.bel⟩, ?_⟩⟩
    clear hK co fo
    refine wpAnyH_done (by kernel_rfl) ?_ _
    have HF : Hid (CopyA w #[.int .i64 s.count, .int .i64 s.sum, .int .i64 s.min, .int .i64 s.max, .slice a1 n1 c1, .slice a2 n2 c2, .slice (some ⟨p3, o3, none⟩) n3 c3] s b1 b2 n1 n2 d1 d2 G1 G2 w5.heap.size (k + 1) (.slice (some ⟨g4, 0, none⟩) (k + 1) cp4) (vs ++ [.slice ar nk cr]) (GG ++ Fr) (Y4.setCell ⟨w.heap.size + 1 + 1, 6, none⟩ (.slice (some ⟨g4, 0, none⟩) (k + 1) cp4))) := CS4.out.1
    obtain ⟨YZ, hYZ⟩ : ∃ Z, Z = Y4.setCell ⟨w.heap.size + 1 + 1, 6, none⟩ (.slice (some ⟨g4, 0, none⟩) (k + 1) cp4) := ⟨_, rfl⟩
    rw [← hYZ] at HF ⊢
    clear hYZ CS4
    go_wp2
    go_roundw
    case rel => exact ⟨k + 1, _, _, _, by omega, by go_num, HF.out⟩
    case measure => simp [intOf]; omega
   case s7 =>
    intro K hK
    have bl : Below Y0.heap.size Y0 (Y0.alloc (.cells #[] 3)) := (Below.refl _ _).alloc (Nat.le_refl _) _
    have CS5 : Hid (CopyA w #[.int .i64 s.count, .int .i64 s.sum, .int .i64 s.min, .int .i64 s.max, .slice a1 n1 c1, .slice a2 n2 c2, .slice (some ⟨p3, o3, none⟩) n3 c3] s b1 b2 n1 n2 d1 d2 G1 G2 w5.heap.size k v vs GG (Y0.alloc (.cells #[] 3)) ∧ Y0.heap.size ≤ Y0.heap.size) := ⟨CSd.out.below bl, (Nat.le_refl _)⟩
    refine op_turn (.slice (some ⟨Y0.heap.size, 0, none⟩) 0 0) (Y0.alloc (.cells #[] 3)) rfl (by kernel_rfl) ⟨_, by simp [Act.put]; rfl, hK _ _ ⟨⟨CS5.out.1.three.box, CS5.out.1.three.bel⟩, ?_⟩⟩
    clear hK bl
    obtain ⟨Y5, hY5⟩ : ∃ Z, Z = Y0.alloc (.cells #[] 3) := ⟨_, rfl⟩
    have g5 : Hid (Y0.heap.size ≤ Y5.heap.size) := by have := CS5.out.2; show _ ≤ _; rw [hY5]; exact Nat.le_trans this (by simp)
    rw [← hY5] at CS5 ⊢
    have CS5 : Hid (CopyA w #[.int .i64 s.count, .int .i64 s.sum, .int .i64 s.min, .int .i64 s.max, .slice a1 n1 c1, .slice a2 n2 c2, .slice (some ⟨p3, o3, none⟩) n3 c3] s b1 b2 n1 n2 d1 d2 G1 G2 w5.heap.size k v vs GG Y5) := CS5.out.1
    clear hY5
    refine twoH (o := ?o14) (o' := ?p14) 1 8 (by kernel_rfl) ?h14 ?g14 ?r14 ?s14
    case h14 => simp only [aT, aS, aZ]; rfl
    case g14 => simp only [aT, aS, aZ]; rfl
    case r14 =>
     intro K hK
     have co := CS5.out.three.loc.cell 6
     simp only [aT, aS, aZ] at co
     refine op_value v rfl (by go_simp) ⟨_, by simp [Act.put]; rfl, hK _ _ ⟨⟨CS5.out.three.box, CS5.out.three.bel⟩, ?_⟩⟩
     clear hK co
     refine onlyH (o := ?o15) 8 (by kernel_rfl) ?h15 ?r15
     case h15 => simp only [aT, aS, aZ]; rfl
     intro K hK
     refine op_growsI _ _ 29 rfl rfl 3 i0 Try.underlying29 hi hz0 hz1 hz2 (some _) rfl ak nk ck (s.rows.getD k []) Yk rfl (HQ.out.1.below CS5.out.three.bel) hnk ?_
     intro ar cr Fr Y6 rr ro rb _
     have g6 : Hid (Y0.heap.size ≤ Y6.heap.size) := Nat.le_trans g5.out rb.size
     have RR6 : Hid (RdI Y6 ar nk (s.rows.getD k []) Fr ∧ Own Y0.heap.size Y6 Fr) := ⟨rr, ro.mono g5.out⟩
     have CS6 : Hid (CopyA w #[.int .i64 s.count, .int .i64 s.sum, .int .i64 s.min, .int .i64 s.max, .slice a1 n1 c1, .slice a2 n2 c2, .slice (some ⟨p3, o3, none⟩) n3 c3] s b1 b2 n1 n2 d1 d2 G1 G2 w5.heap.size k v vs GG Y6) := CS5.out.below rb
     refine ⟨_, by simp [Act.put]; rfl, hK _ _ ⟨⟨CS6.out.three.box, CS6.out.three.bel⟩, ?_⟩⟩
     clear hK rr ro rb
     refine onlyH (o := ?o16) 9 (by kernel_rfl) ?h16 ?r16
     case h16 => simp only [aT, aS, aZ]; rfl
     intro K hK
     have bl : Below Y6.heap.size Y6 (Y6.alloc (.cells #[.slice ar nk cr] 29)) := (Below.refl _ _).alloc (Nat.le_refl _) _
     have CS7 : Hid (CopyA w #[.int .i64 s.count, .int .i64 s.sum, .int .i64 s.min, .int .i64 s.max, .slice a1 n1 c1, .slice a2 n2 c2, .slice (some ⟨p3, o3, none⟩) n3 c3] s b1 b2 n1 n2 d1 d2 G1 G2 w5.heap.size k v vs GG (Y6.alloc (.cells #[.slice ar nk cr] 29))) := CS6.out.below bl
     have RR7 : Hid (RdI (Y6.alloc (.cells #[.slice ar nk cr] 29)) ar nk (s.rows.getD k []) Fr ∧ Own Y0.heap.size (Y6.alloc (.cells #[.slice ar nk cr] 29)) Fr) := ⟨RR6.out.1.below bl, RR6.out.2.below RR6.out.1.lt bl⟩
     have NW7 : Hid (∀ j u, [Value.slice ar nk cr][j]? = some u → ((Y6.alloc (.cells #[.slice ar nk cr] 29))).cell? ((⟨Y6.heap.size, 0, none⟩ : Addr).add j) = some u) := cell_one7 _ _ _
     refine op_turn (.slice (some ⟨Y6.heap.size, 0, none⟩) 1 1) (Y6.alloc (.cells #[.slice ar nk cr] 29)) rfl (by kernel_rfl) ⟨_, by simp [Act.put]; rfl, hK _ _ ⟨⟨CS7.out.three.box, CS7.out.three.bel⟩, ?_⟩⟩
     clear hK bl
     obtain ⟨L7, hL7⟩ : ∃ z, z = Y6.heap.size := ⟨_, rfl⟩
     obtain ⟨Y7, hY7⟩ : ∃ Z, Z = (Y6.alloc (.cells #[.slice ar nk cr] 29)) := ⟨_, rfl⟩
     rw [← hY7, ← hL7] at NW7
     rw [← hY7] at CS7 RR7 ⊢
     rw [← hL7]
     clear hY7 hL7
     refine onlyH (o := ?o17) 10 (by kernel_rfl) ?h17 ?r17
     case h17 => simp only [aT, aS, aZ]; rfl
     intro K hK
     refine op_append Y7 rfl _ _ 32 rfl w5.heap.size 29 j0 (.slice none 0 0) 1 24 Try.underlying32 hj hy0 hy1 hy2 rfl (by decide) v k vs rfl CS7.out.row ⟨L7, 0, none⟩ 1 1 [.slice ar nk cr] rfl rfl NW7.out (by intro u hu; simp at hu; rw [hu]; rfl) (by decide) (by unfold maxLen; omega) (by omega) CS7.out.lw _ rfl ?_
     intro g4 cp4 Y8 hown hgrow hat _
     have ST := CS7.out.step RR7.out.1 RR7.out.2 HLim.out.1 HLim.out.2.1 HLim.out.2.2 hown hgrow hat HQ.out.2
     have CS8 : Hid (CopyA w #[.int .i64 s.count, .int .i64 s.sum, .int .i64 s.min, .int .i64 s.max, .slice a1 n1 c1, .slice a2 n2 c2, .slice (some ⟨p3, o3, none⟩) n3 c3] s b1 b2 n1 n2 d1 d2 G1 G2 w5.heap.size (k + 1) (.slice (some ⟨g4, 0, none⟩) (k + 1) cp4) (vs ++ [.slice ar nk cr]) (GG ++ Fr) (Y8.setCell ⟨w.heap.size + 1 + 1, 6, none⟩ (.slice (some ⟨g4, 0, none⟩) (k + 1) cp4)) ∧ CopyS w #[.int .i64 s.count, .int .i64 s.sum, .int .i64 s.min, .int .i64 s.max, .slice a1 n1 c1, .slice a2 n2 c2, .slice (some ⟨p3, o3, none⟩) n3 c3] Y8) := ⟨ST.1, ST.2.1⟩
     have co := ST.2.2.1
     have fo := ST.2.2.2
     refine ⟨_, by simp [Act.put]; rfl, hK _ _ ⟨CS8.out.2, ?_⟩⟩
     clear hK hown hgrow hat ST
     refine takeH (o := ?o18) 11 (.pointer (some ⟨w.heap.size + 1 + 1, 6, none⟩)) ?h18 ?r18
     case h18 => simp only [aT, aS, aZ]; rfl
     refine ⟨_, by simp [Act.put]; rfl, by kernel_rfl, by kernel_rfl, by kernel_rfl, fun _ _ _ h => h, (.inl ⟨rfl, fun W _ => by kernel_rfl⟩), CS8.out.2, ?_⟩
     refine onlyH (o := ?o19) 12 (by kernel_rfl) ?h19 ?r19
     case h19 => simp only [aT, aS, aZ]; rfl
     intro K hK
     refine op_skip (Y8.setCell ⟨w.heap.size + 1 + 1, 6, none⟩ (.slice (some ⟨g4, 0, none⟩) (k + 1) cp4)) rfl (by go_simp) ⟨_, by simp [Act.put]; rfl, hK _ _ ⟨⟨CS8.out.1.three.box, CS8.out.1.three.bel⟩, ?_⟩⟩
     clear hK co fo
     refine wpAnyH_done (by kernel_rfl) ?_ _
     have HF : Hid (CopyA w #[.int .i64 s.count, .int .i64 s.sum, .int .i64 s.min, .int .i64 s.max, .slice a1 n1 c1, .slice a2 n2 c2, .slice (some ⟨p3, o3, none⟩) n3 c3] s b1 b2 n1 n2 d1 d2 G1 G2 w5.heap.size (k + 1) (.slice (some ⟨g4, 0, none⟩) (k + 1) cp4) (vs ++ [.slice ar nk cr]) (GG ++ Fr) (Y8.setCell ⟨w.heap.size + 1 + 1, 6, none⟩ (.slice (some ⟨g4, 0, none⟩) (k + 1) cp4))) := CS8.out.1
     obtain ⟨YZ, hYZ⟩ : ∃ Z, Z = Y8.setCell ⟨w.heap.size + 1 + 1, 6, none⟩ (.slice (some ⟨g4, 0, none⟩) (k + 1) cp4) := ⟨_, rfl⟩
     rw [← hYZ] at HF ⊢
     clear hYZ CS8
     go_wp2
     go_roundw
     case rel => exact ⟨k + 1, _, _, _, by omega, by go_num, HF.out⟩
     case measure => simp [intOf]; omega
    case s14 =>
     intro K hK
     refine op_growsI _ _ 29 rfl rfl 3 i0 Try.underlying29 hi hz0 hz1 hz2 (some _) rfl ak nk ck (s.rows.getD k []) Yk rfl (HQ.out.1.below CS5.out.three.bel) hnk ?_
     intro ar cr Fr Y9 rr ro rb _
     have g9 : Hid (Y0.heap.size ≤ Y9.heap.size) := Nat.le_trans g5.out rb.size
     have RR9 : Hid (RdI Y9 ar nk (s.rows.getD k []) Fr ∧ Own Y0.heap.size Y9 Fr) := ⟨rr, ro.mono g5.out⟩
     have CS9 : Hid (CopyA w #[.int .i64 s.count, .int .i64 s.sum, .int .i64 s.min, .int .i64 s.max, .slice a1 n1 c1, .slice a2 n2 c2, .slice (some ⟨p3, o3, none⟩) n3 c3] s b1 b2 n1 n2 d1 d2 G1 G2 w5.heap.size k v vs GG Y9) := CS5.out.below rb
     refine ⟨_, by simp [Act.put]; rfl, hK _ _ ⟨⟨CS9.out.three.box, CS9.out.three.bel⟩, ?_⟩⟩
     clear hK rr ro rb
     refine twoH (o := ?o20) (o' := ?p20) 1 9 (by kernel_rfl) ?h20 ?g20 ?r20 ?s20
     case h20 => simp only [aT, aS, aZ]; rfl
     case g20 => simp only [aT, aS, aZ]; rfl
     case r20 =>
      intro K hK
      have co := CS9.out.three.loc.cell 6
      simp only [aT, aS, aZ] at co
      refine op_value v rfl (by go_simp) ⟨_, by simp [Act.put]; rfl, hK _ _ ⟨⟨CS9.out.three.box, CS9.out.three.bel⟩, ?_⟩⟩
      clear hK co
      refine onlyH (o := ?o21) 9 (by kernel_rfl) ?h21 ?r21
      case h21 => simp only [aT, aS, aZ]; rfl
      intro K hK
      have bl : Below Y9.heap.size Y9 (Y9.alloc (.cells #[.slice ar nk cr] 29)) := (Below.refl _ _).alloc (Nat.le_refl _) _
      have CS10 : Hid (CopyA w #[.int .i64 s.count, .int .i64 s.sum, .int .i64 s.min, .int .i64 s.max, .slice a1 n1 c1, .slice a2 n2 c2, .slice (some ⟨p3, o3, none⟩) n3 c3] s b1 b2 n1 n2 d1 d2 G1 G2 w5.heap.size k v vs GG (Y9.alloc (.cells #[.slice ar nk cr] 29))) := CS9.out.below bl
      have RR10 : Hid (RdI (Y9.alloc (.cells #[.slice ar nk cr] 29)) ar nk (s.rows.getD k []) Fr ∧ Own Y0.heap.size (Y9.alloc (.cells #[.slice ar nk cr] 29)) Fr) := ⟨RR9.out.1.below bl, RR9.out.2.below RR9.out.1.lt bl⟩
      have NW10 : Hid (∀ j u, [Value.slice ar nk cr][j]? = some u → ((Y9.alloc (.cells #[.slice ar nk cr] 29))).cell? ((⟨Y9.heap.size, 0, none⟩ : Addr).add j) = some u) := cell_one7 _ _ _
      refine op_turn (.slice (some ⟨Y9.heap.size, 0, none⟩) 1 1) (Y9.alloc (.cells #[.slice ar nk cr] 29)) rfl (by kernel_rfl) ⟨_, by simp [Act.put]; rfl, hK _ _ ⟨⟨CS10.out.three.box, CS10.out.three.bel⟩, ?_⟩⟩
      clear hK bl
      obtain ⟨L10, hL10⟩ : ∃ z, z = Y9.heap.size := ⟨_, rfl⟩
      obtain ⟨Y10, hY10⟩ : ∃ Z, Z = (Y9.alloc (.cells #[.slice ar nk cr] 29)) := ⟨_, rfl⟩
      rw [← hY10, ← hL10] at NW10
      rw [← hY10] at CS10 RR10 ⊢
      rw [← hL10]
      clear hY10 hL10
      refine onlyH (o := ?o22) 10 (by kernel_rfl) ?h22 ?r22
      case h22 => simp only [aT, aS, aZ]; rfl
      intro K hK
      refine op_append Y10 rfl _ _ 32 rfl w5.heap.size 29 j0 (.slice none 0 0) 1 24 Try.underlying32 hj hy0 hy1 hy2 rfl (by decide) v k vs rfl CS10.out.row ⟨L10, 0, none⟩ 1 1 [.slice ar nk cr] rfl rfl NW10.out (by intro u hu; simp at hu; rw [hu]; rfl) (by decide) (by unfold maxLen; omega) (by omega) CS10.out.lw _ rfl ?_
      intro g4 cp4 Y11 hown hgrow hat _
      have ST := CS10.out.step RR10.out.1 RR10.out.2 HLim.out.1 HLim.out.2.1 HLim.out.2.2 hown hgrow hat HQ.out.2
      have CS11 : Hid (CopyA w #[.int .i64 s.count, .int .i64 s.sum, .int .i64 s.min, .int .i64 s.max, .slice a1 n1 c1, .slice a2 n2 c2, .slice (some ⟨p3, o3, none⟩) n3 c3] s b1 b2 n1 n2 d1 d2 G1 G2 w5.heap.size (k + 1) (.slice (some ⟨g4, 0, none⟩) (k + 1) cp4) (vs ++ [.slice ar nk cr]) (GG ++ Fr) (Y11.setCell ⟨w.heap.size + 1 + 1, 6, none⟩ (.slice (some ⟨g4, 0, none⟩) (k + 1) cp4)) ∧ CopyS w #[.int .i64 s.count, .int .i64 s.sum, .int .i64 s.min, .int .i64 s.max, .slice a1 n1 c1, .slice a2 n2 c2, .slice (some ⟨p3, o3, none⟩) n3 c3] Y11) := ⟨ST.1, ST.2.1⟩
      have co := ST.2.2.1
      have fo := ST.2.2.2
      refine ⟨_, by simp [Act.put]; rfl, hK _ _ ⟨CS11.out.2, ?_⟩⟩
      clear hK hown hgrow hat ST
      refine takeH (o := ?o23) 11 (.pointer (some ⟨w.heap.size + 1 + 1, 6, none⟩)) ?h23 ?r23
      case h23 => simp only [aT, aS, aZ]; rfl
      refine ⟨_, by simp [Act.put]; rfl, by kernel_rfl, by kernel_rfl, by kernel_rfl, fun _ _ _ h => h, (.inl ⟨rfl, fun W _ => by kernel_rfl⟩), CS11.out.2, ?_⟩
      refine onlyH (o := ?o24) 12 (by kernel_rfl) ?h24 ?r24
      case h24 => simp only [aT, aS, aZ]; rfl
      intro K hK
      refine op_skip (Y11.setCell ⟨w.heap.size + 1 + 1, 6, none⟩ (.slice (some ⟨g4, 0, none⟩) (k + 1) cp4)) rfl (by go_simp) ⟨_, by simp [Act.put]; rfl, hK _ _ ⟨⟨CS11.out.1.three.box, CS11.out.1.three.bel⟩, ?_⟩⟩
      clear hK co fo
      refine wpAnyH_done (by kernel_rfl) ?_ _
      have HF : Hid (CopyA w #[.int .i64 s.count, .int .i64 s.sum, .int .i64 s.min, .int .i64 s.max, .slice a1 n1 c1, .slice a2 n2 c2, .slice (some ⟨p3, o3, none⟩) n3 c3] s b1 b2 n1 n2 d1 d2 G1 G2 w5.heap.size (k + 1) (.slice (some ⟨g4, 0, none⟩) (k + 1) cp4) (vs ++ [.slice ar nk cr]) (GG ++ Fr) (Y11.setCell ⟨w.heap.size + 1 + 1, 6, none⟩ (.slice (some ⟨g4, 0, none⟩) (k + 1) cp4))) := CS11.out.1
      obtain ⟨YZ, hYZ⟩ : ∃ Z, Z = Y11.setCell ⟨w.heap.size + 1 + 1, 6, none⟩ (.slice (some ⟨g4, 0, none⟩) (k + 1) cp4) := ⟨_, rfl⟩
      rw [← hYZ] at HF ⊢
      clear hYZ CS11
      go_wp2
      go_roundw
      case rel => exact ⟨k + 1, _, _, _, by omega, by go_num, HF.out⟩
      case measure => simp [intOf]; omega
     case s20 =>
      intro K hK
      have bl : Below Y9.heap.size Y9 (Y9.alloc (.cells #[.slice ar nk cr] 29)) := (Below.refl _ _).alloc (Nat.le_refl _) _
      have CS12 : Hid (CopyA w #[.int .i64 s.count, .int .i64 s.sum, .int .i64 s.min, .int .i64 s.max, .slice a1 n1 c1, .slice a2 n2 c2, .slice (some ⟨p3, o3, none⟩) n3 c3] s b1 b2 n1 n2 d1 d2 G1 G2 w5.heap.size k v vs GG (Y9.alloc (.cells #[.slice ar nk cr] 29))) := CS9.out.below bl
      have RR12 : Hid (RdI (Y9.alloc (.cells #[.slice ar nk cr] 29)) ar nk (s.rows.getD k []) Fr ∧ Own Y0.heap.size (Y9.alloc (.cells #[.slice ar nk cr] 29)) Fr) := ⟨RR9.out.1.below bl, RR9.out.2.below RR9.out.1.lt bl⟩
      have NW12 : Hid (∀ j u, [Value.slice ar nk cr][j]? = some u → ((Y9.alloc (.cells #[.slice ar nk cr] 29))).cell? ((⟨Y9.heap.size, 0, none⟩ : Addr).add j) = some u) := cell_one7 _ _ _
      refine op_turn (.slice (some ⟨Y9.heap.size, 0, none⟩) 1 1) (Y9.alloc (.cells #[.slice ar nk cr] 29)) rfl (by kernel_rfl) ⟨_, by simp [Act.put]; rfl, hK _ _ ⟨⟨CS12.out.three.box, CS12.out.three.bel⟩, ?_⟩⟩
      clear hK bl
      obtain ⟨L12, hL12⟩ : ∃ z, z = Y9.heap.size := ⟨_, rfl⟩
      obtain ⟨Y12, hY12⟩ : ∃ Z, Z = (Y9.alloc (.cells #[.slice ar nk cr] 29)) := ⟨_, rfl⟩
      rw [← hY12, ← hL12] at NW12
      rw [← hY12] at CS12 RR12 ⊢
      rw [← hL12]
      clear hY12 hL12
      refine onlyH (o := ?o25) 1 (by kernel_rfl) ?h25 ?r25
      case h25 => simp only [aT, aS, aZ]; rfl
      intro K hK
      have co := CS12.out.three.loc.cell 6
      simp only [aT, aS, aZ] at co
      refine op_value v rfl (by go_simp) ⟨_, by simp [Act.put]; rfl, hK _ _ ⟨⟨CS12.out.three.box, CS12.out.three.bel⟩, ?_⟩⟩
      clear hK co
      refine onlyH (o := ?o26) 10 (by kernel_rfl) ?h26 ?r26
      case h26 => simp only [aT, aS, aZ]; rfl
      intro K hK
      refine op_append Y12 rfl _ _ 32 rfl w5.heap.size 29 j0 (.slice none 0 0) 1 24 Try.underlying32 hj hy0 hy1 hy2 rfl (by decide) v k vs rfl CS12.out.row ⟨L12, 0, none⟩ 1 1 [.slice ar nk cr] rfl rfl NW12.out (by intro u hu; simp at hu; rw [hu]; rfl) (by decide) (by unfold maxLen; omega) (by omega) CS12.out.lw _ rfl ?_
      intro g4 cp4 Y13 hown hgrow hat _
      have ST := CS12.out.step RR12.out.1 RR12.out.2 HLim.out.1 HLim.out.2.1 HLim.out.2.2 hown hgrow hat HQ.out.2
      have CS13 : Hid (CopyA w #[.int .i64 s.count, .int .i64 s.sum, .int .i64 s.min, .int .i64 s.max, .slice a1 n1 c1, .slice a2 n2 c2, .slice (some ⟨p3, o3, none⟩) n3 c3] s b1 b2 n1 n2 d1 d2 G1 G2 w5.heap.size (k + 1) (.slice (some ⟨g4, 0, none⟩) (k + 1) cp4) (vs ++ [.slice ar nk cr]) (GG ++ Fr) (Y13.setCell ⟨w.heap.size + 1 + 1, 6, none⟩ (.slice (some ⟨g4, 0, none⟩) (k + 1) cp4)) ∧ CopyS w #[.int .i64 s.count, .int .i64 s.sum, .int .i64 s.min, .int .i64 s.max, .slice a1 n1 c1, .slice a2 n2 c2, .slice (some ⟨p3, o3, none⟩) n3 c3] Y13) := ⟨ST.1, ST.2.1⟩
      have co := ST.2.2.1
      have fo := ST.2.2.2
      refine ⟨_, by simp [Act.put]; rfl, hK _ _ ⟨CS13.out.2, ?_⟩⟩
      clear hK hown hgrow hat ST
      refine takeH (o := ?o27) 11 (.pointer (some ⟨w.heap.size + 1 + 1, 6, none⟩)) ?h27 ?r27
      case h27 => simp only [aT, aS, aZ]; rfl
      refine ⟨_, by simp [Act.put]; rfl, by kernel_rfl, by kernel_rfl, by kernel_rfl, fun _ _ _ h => h, (.inl ⟨rfl, fun W _ => by kernel_rfl⟩), CS13.out.2, ?_⟩
      refine onlyH (o := ?o28) 12 (by kernel_rfl) ?h28 ?r28
      case h28 => simp only [aT, aS, aZ]; rfl
      intro K hK
      refine op_skip (Y13.setCell ⟨w.heap.size + 1 + 1, 6, none⟩ (.slice (some ⟨g4, 0, none⟩) (k + 1) cp4)) rfl (by go_simp) ⟨_, by simp [Act.put]; rfl, hK _ _ ⟨⟨CS13.out.1.three.box, CS13.out.1.three.bel⟩, ?_⟩⟩
      clear hK co fo
      refine wpAnyH_done (by kernel_rfl) ?_ _
      have HF : Hid (CopyA w #[.int .i64 s.count, .int .i64 s.sum, .int .i64 s.min, .int .i64 s.max, .slice a1 n1 c1, .slice a2 n2 c2, .slice (some ⟨p3, o3, none⟩) n3 c3] s b1 b2 n1 n2 d1 d2 G1 G2 w5.heap.size (k + 1) (.slice (some ⟨g4, 0, none⟩) (k + 1) cp4) (vs ++ [.slice ar nk cr]) (GG ++ Fr) (Y13.setCell ⟨w.heap.size + 1 + 1, 6, none⟩ (.slice (some ⟨g4, 0, none⟩) (k + 1) cp4))) := CS13.out.1
      obtain ⟨YZ, hYZ⟩ : ∃ Z, Z = Y13.setCell ⟨w.heap.size + 1 + 1, 6, none⟩ (.slice (some ⟨g4, 0, none⟩) (k + 1) cp4) := ⟨_, rfl⟩
      rw [← hYZ] at HF ⊢
      clear hYZ CS13
      go_wp2
      go_roundw
      case rel => exact ⟨k + 1, _, _, _, by omega, by go_num, HF.out⟩
      case measure => simp [intOf]; omega
  ·
   obtain rfl : k = n3 := by omega
   obtain ⟨b3, d3, F4, rfl, rII, oA, _⟩ := CSS.out.rows
   have HE : Hid (Three w #[.int .i64 s.count, .int .i64 s.sum, .int .i64 s.min, .int .i64 s.max, .slice a1 n1 c1, .slice a2 n2 c2, .slice a3 k c3] 34 #[.int .i64 0, .int .i64 0, .int .i64 0, .int .i64 0, .slice none 0 0, .slice none 0 0, .slice none 0 0] #[.int .i64 s.count, .int .i64 s.sum, .int .i64 s.min, .int .i64 s.max, .slice b1 n1 d1, .slice b2 n2 d2, .slice b3 k d3] 34 wr ∧ RdSk wr (.agg #[.int .i64 s.count, .int .i64 s.sum, .int .i64 s.min, .int .i64 s.max, .slice b1 n1 d1, .slice b2 n2 d2, .slice b3 k d3]) s (G1 ++ (G2 ++ F4)) ∧ Own (w.heap.size + 3) wr (G1 ++ (G2 ++ F4))) := by
    rw [List.take_of_length_le (by rw [HL.out.2.2]; exact Nat.le_refl _)] at rII
    exact ⟨CSS.out.three, ⟨b1, n1, d1, b2, n2, d2, b3, k, d3, G1, G2, F4, rfl, CSS.out.r1, CSS.out.r2, rII, rfl⟩, oA⟩
   clear rII oA CSS e6
   have hI : ¬ (k : Int) < (k : Int) := by omega
   have e6 := HE.out.1.box.cell 6
   simp only [aT, aS, aZ] at e6
   go_wp2_with (first | go_skip | (with_reducible refine stopLoad 34 rfl ?_))
   refine load_known 34 (w.heap.size + 1 + 1) _ 34 _ HE.out.1.loc rfl rfl rfl Try.underlying34 rfl infoSkI ?_
   go_wp2_with (first | go_skip | (with_reducible refine stopStore 34 rfl ?_))
   refine store_known 34 (w.heap.size + 1) _ #[.int .i64 s.count, .int .i64 s.sum, .int .i64 s.min, .int .i64 s.max, .slice b1 n1 d1, .slice b2 n2 d2, .slice b3 k d3] 34 HE.out.1.res rfl rfl rfl rfl infoSkI rfl (by simp [Value.oneCell']) ?_
   go_wp2
   refine bodyPost_ret (results_cell_row Try.results58 _ _ (w.heap.size + 1) _ _ (0, 0) _ rfl HE.out.1.res.setRow Try.underlying34 rfl infoSkI) rfl ?_
   have nr : w.heap.size + 1 ∉ G1 ++ (G2 ++ F4) := fun hx => by have := HE.out.2.2.ge _ hx; omega
   exact ⟨_, _, rfl, HE.out.2.1.agree (Agree.row nr _), (HE.out.2.2.agree (Agree.row nr _)).mono (by omega), below_setRow HE.out.1.bel (by omega) _⟩
end Go.Proofs.Ytgkbhhlkaifnoaa
/- A slice of structs that grows by appending, element by element. No statement of the seat is proved here. -/
namespace Go.Proofs.Ytgkbhhlkaifnoaa
open Go.RowKit
section
variable {α : Type} {K : ElK α} {e : TypeId} {xs : List α} {lo k : Nat} {v : Value} {vs : List Value} {G : List Nat} {W W' : World}
/-- What has been appended behind k rounds. -/
structure GrowL (K : ElK α) (e : TypeId) (xs : List α) (lo k : Nat) (v : Value) (vs : List Value) (G : List Nat) (W : World) : Prop where
 row : W.ownsRow lo e K.n v k vs
 rd : RdC K W (xs.take k) vs G
 og : Own lo W G
 ap : ∀ b, v.ownBlock = some b → b ∉ G
 lw : lo ≤ W.heap.size
theorem GrowL.start (hw : lo ≤ W.heap.size) : GrowL K e xs lo 0 (.slice none 0 0) [] [] W := ⟨World.ownsRow_nil _ _ _ _, by rw [List.take_zero]; exact RdC.nil, Own.nil, (fun b hb => by cases hb), hw⟩
theorem GrowL.below (h : GrowL K e xs lo k v vs G W) (b : Below W.heap.size W W') : GrowL K e xs lo k v vs G W' := by
 refine ⟨?_, h.rd.below b, h.og.below h.rd.lt b, h.ap, Nat.le_trans h.lw b.size⟩
 refine ⟨h.row.1, ?_⟩
 rcases h.row.2 with q | ⟨g, cap, cur, h1, h2, h3, h4⟩
 ·
  exact .inl q
 ·
  refine .inr ⟨g, cap, cur, h1, h2, ?_, h4⟩
  rw [b.block g (h.row.lt g (by rw [h1]; rfl)).2]
  exact h3
theorem GrowL.set {g j : Nat} {u : Value} (h : GrowL K e xs lo k v vs G W) (hg : g < lo) : GrowL K e xs lo k v vs G (W.setCell ⟨g, j, none⟩ u) := by
 have nG : g ∉ G := fun hx => by have := h.og.ge _ hx; omega
 refine ⟨⟨h.row.1, ?_⟩, h.rd.agree (.set nG _ _), h.og.agree (.set nG _ _), h.ap, by simpa using h.lw⟩
 rcases h.row.2 with q | ⟨g', cap, cur, h1, h2, h3, h4⟩
 ·
  exact .inl q
 ·
  exact .inr ⟨g', cap, cur, h1, h2, by rw [Below.heap_setCell W ⟨g, j, none⟩ u g' (by show g' ≠ g; omega)]; exact h3, h4⟩
theorem GrowL.setRow {g : Nat} {ds : Array Value} (h : GrowL K e xs lo k v vs G W) (hg : g < lo) : GrowL K e xs lo k v vs G (W.setRow g ds) := by
 have nG : g ∉ G := fun hx => by have := h.og.ge _ hx; omega
 refine ⟨⟨h.row.1, ?_⟩, h.rd.agree (Agree.row nG _), h.og.agree (Agree.row nG _), h.ap, ?_⟩
 ·
  rcases h.row.2 with q | ⟨g', cap, cur, h1, h2, h3, h4⟩
  ·
   exact .inl q
  ·
   exact .inr ⟨g', cap, cur, h1, h2, by rw [setRow_other W g g' ds (by omega)]; exact h3, h4⟩
 ·
  have := (below_setRow (Below.refl 0 W) (Nat.zero_le g) ds).size
  exact Nat.le_trans h.lw this
theorem GrowL.lts (h : GrowL K e xs lo k v vs G W) : (∀ b ∈ G, b < W.heap.size) ∧ (∀ b, v.ownBlock = some b → b < W.heap.size) ∧ lo ≤ W.heap.size := ⟨h.rd.lt, fun b hb => (h.row.lt b hb).2, h.lw⟩
theorem GrowL.step (h : GrowL K e xs lo k v vs G W) {x : α} {cs : Array Value} {Fk : List Nat} {L g4 cp4 : Nat} (hx : xs[k]? = some x) (rk : K.R W (.agg cs) x Fk) (hn : cs.size = K.n) (ok : Own L W Fk) (ltG : ∀ b ∈ G, b < L) (ltv : ∀ b, v.ownBlock = some b → b < L) (hL : lo ≤ L)
 (hown : W'.ownsRow lo e K.n (.slice (some ⟨g4, 0, none⟩) (k + 1) cp4) (k + 1) (vs ++ cs.toList)) (hgrow : W.grownBy W' v.ownBlock) (hat : v.ownBlock = some g4 ∨ g4 = W.heap.size) :
 GrowL K e xs lo (k + 1) (.slice (some ⟨g4, 0, none⟩) (k + 1) cp4) (vs ++ cs.toList) (G ++ Fk) W' := by
 have blk : ∀ b, b < W.heap.size → ¬ v.ownBlock = some b → W'.heap[b]? = W.heap[b]? := fun b hb hn => hgrow.block b hb (fun e => hn e.symm)
 have agG : Agree W W' G := fun b hb => blk b (h.rd.lt b hb) (fun e => h.ap b e hb)
 have agF : Agree W W' Fk := fun b hb => blk b (K.lt rk b hb) (fun e => by have := ok.ge b hb; have := ltv b e; omega)
 refine ⟨hown, ?_, ?_, ?_, Nat.le_trans h.lw hgrow.size⟩
 ·
  rw [take_snoc_at hx]
  exact (h.rd.agree agG).snoc (K.agree rk agF) hn
 ·
  exact (h.og.agree agG).join (ok.agree agF) ltG hL
 ·
  intro b hb hx
  have hb' : b = g4 := by simpa [Value.ownBlock] using hb.symm
  subst hb'
  rcases hat with q | q
  ·
   rcases List.mem_append.1 hx with hx | hx
   ·
    exact h.ap _ q hx
   ·
    have := ok.ge _ hx; have := ltv _ q; omega
  ·
   rcases List.mem_append.1 hx with hx | hx
   ·
    have := h.rd.lt _ hx; omega
   ·
    have := K.lt rk _ hx; omega
/-- What lies elsewhere stays, where only the growing row is written. -/
theorem GrowL.other (h : GrowL K e xs lo k v vs G W) (hgrow : W.grownBy W' v.ownBlock) {b : Nat} (hb : b < lo) : W'.heap[b]? = W.heap[b]? := hgrow.block b (Nat.lt_of_lt_of_le hb h.lw) (fun e => by have := (h.row.lt b e.symm).1; omega)
theorem GrowL.done (h : GrowL K e xs lo k v vs G W) (hk : xs.length = k) : ∃ a cap F, v = .slice a k cap ∧ RdL K W a k xs F ∧ Own lo W F ∧ Capd a k cap := by
 have rd := h.rd
 rw [List.take_of_length_le (Nat.le_of_eq hk)] at rd
 exact rdL_of_own h.row rd h.og h.ap
/-- The same, and where its blocks lie. -/
theorem GrowL.done2 (h : GrowL K e xs lo k v vs G W) (hk : xs.length = k) : ∃ a cap F, v = .slice a k cap ∧ RdL K W a k xs F ∧ Own lo W F ∧ Capd a k cap ∧ ∀ b ∈ F, v.ownBlock = some b ∨ b ∈ G := by
 have rd := h.rd
 rw [List.take_of_length_le (Nat.le_of_eq hk)] at rd
 have hr := h.row
 have hl : xs.length = k := hk
 rcases hr.2 with ⟨e1, e2⟩ | ⟨g, cap, cur, e1, h1, h2, h3, h4, h5, h6⟩
 ·
  subst e2
  obtain rfl : xs = [] := List.eq_nil_of_length_eq_zero hl
  exact ⟨_, 0, [], e1, RdL.nil, Own.nil, ⟨fun _ => rfl, Nat.le_refl _⟩, fun b hb => by cases hb⟩
 ·
  by_cases h0 : k = 0
  ·
   subst h0
   obtain rfl : xs = [] := List.eq_nil_of_length_eq_zero hl
   exact ⟨_, cap, [], e1, RdL.zero, Own.nil, ⟨fun e => (by cases e), h3⟩, fun b hb => by cases hb⟩
  ·
   subst e1
   refine ⟨_, cap, g :: G, rfl, ⟨hl, .inr ⟨g, 0, G, by omega, rfl, rfl, rdEls_of 0 rd (fun i hi => ?_)⟩⟩, ⟨?_, fun b hb o => ?_, fun b hb => ?_⟩, ⟨(fun e => by cases e), h3⟩, fun b hb => ?_⟩
   ·
    rw [Nat.zero_add]; exact hr.cellAt i (by rw [← hr.1]; exact hi)
   ·
    exact List.nodup_cons.2 ⟨h.ap g rfl, h.og.nodup⟩
   ·
    rcases List.mem_cons.1 hb with rfl | hb
    ·
     exact hr.frozenAt o
    ·
     exact h.og.free b hb o
   ·
    rcases List.mem_cons.1 hb with rfl | hb
    ·
     exact h1
    ·
     exact h.og.ge b hb
   ·
    rcases List.mem_cons.1 hb with rfl | hb
    ·
     exact .inl rfl
    ·
     exact .inr hb
end
theorem news_lit (w : World) (cs : Array Value) (t : TypeId) : ∀ j u, cs.toList[j]? = some u → (w.alloc (.cells cs t)).cell? ((⟨w.heap.size, 0, none⟩ : Addr).add j) = some u := by
 intro j u hu
 have ea : ((⟨w.heap.size, 0, none⟩ : Addr).add j) = ⟨w.heap.size, j, none⟩ := by simp [Addr.add]; try (intro h; omega)
 rw [ea, (Blk.made w cs t).cell j, ← Array.getElem?_toList]
 exact hu
end Go.Proofs.Ytgkbhhlkaifnoaa
/- The walks through the model's copying of an item and of an agent. No statement of the seat is proved here. -/
namespace Go.Proofs.Ytgkbhhlkaifnoaa
open Go.RowKit
theorem infoItC8 : (Try.prog.info? 36).map (·.size) = some 11 := by kernel_rfl
set_option maxRecDepth 200000 in
set_option maxHeartbeats 2000000 in
theorem l6Item_all (v : Value) (x : It) (F : List Nat) (w : World) (h : RdIt w v x F) (hf : x.sk.fits) :
 Calls Try.prog 44 #[v] w fun e w' => NewIt w x e w' := by
 obtain ⟨a1, n1, c1, a2, n2, c2, a3, n3, c3, rfl, hr⟩ := h
 have HR : Hid (RdSk w (.agg #[.int .i64 x.sk.count, .int .i64 x.sk.sum, .int .i64 x.sk.min, .int .i64 x.sk.max, .slice a1 n1 c1, .slice a2 n2 c2, .slice a3 n3 c3]) x.sk F ∧ x.sk.fits) := ⟨hr, hf⟩
 clear hr hf
 have HT0 : Hid (Three w #[.int .i64 x.seq, .int .i64 x.cls, .int .i64 x.key, .int .i64 x.window, .int .i64 x.sk.count, .int .i64 x.sk.sum, .int .i64 x.sk.min, .int .i64 x.sk.max, .slice a1 n1 c1, .slice a2 n2 c2, .slice a3 n3 c3] 36 #[.int .i64 0, .int .i64 0, .int .i64 0, .int .i64 0, .int .i64 0, .int .i64 0, .int .i64 0, .int .i64 0, .slice none 0 0, .slice none 0 0, .slice none 0 0] #[.int .i64 x.seq, .int .i64 x.cls, .int .i64 x.key, .int .i64 x.window, .int .i64 x.sk.count, .int .i64 x.sk.sum, .int .i64 x.sk.min, .int .i64 x.sk.max, .slice a1 n1 c1, .slice a2 n2 c2, .slice a3 n3 c3] 36 _) := Three.made w #[.int .i64 x.seq, .int .i64 x.cls, .int .i64 x.key, .int .i64 x.window, .int .i64 x.sk.count, .int .i64 x.sk.sum, .int .i64 x.sk.min, .int .i64 x.sk.max, .slice a1 n1 c1, .slice a2 n2 c2, .slice a3 n3 c3] 36 #[.int .i64 0, .int .i64 0, .int .i64 0, .int .i64 0, .int .i64 0, .int .i64 0, .int .i64 0, .int .i64 0, .slice none 0 0, .slice none 0 0, .slice none 0 0] #[.int .i64 x.seq, .int .i64 x.cls, .int .i64 x.key, .int .i64 x.window, .int .i64 x.sk.count, .int .i64 x.sk.sum, .int .i64 x.sk.min, .int .i64 x.sk.max, .slice a1 n1 c1, .slice a2 n2 c2, .slice a3 n3 c3] 36
 go_enter Try.func44, Try.ntmps44
 go_wp2_with (first | go_skip | (with_reducible refine stopLoad 34 rfl ?_))
 obtain ⟨W0, hW0⟩ : ∃ W, W = ((w.alloc (.cells #[.int .i64 x.seq, .int .i64 x.cls, .int .i64 x.key, .int .i64 x.window, .int .i64 x.sk.count, .int .i64 x.sk.sum, .int .i64 x.sk.min, .int .i64 x.sk.max, .slice a1 n1 c1, .slice a2 n2 c2, .slice a3 n3 c3] 36)).alloc (.cells #[.int .i64 0, .int .i64 0, .int .i64 0, .int .i64 0, .int .i64 0, .int .i64 0, .int .i64 0, .int .i64 0, .slice none 0 0, .slice none 0 0, .slice none 0 0] 36)).alloc (.cells #[.int .i64 x.seq, .int .i64 x.cls, .int .i64 x.key, .int .i64 x.window, .int .i64 x.sk.count, .int .i64 x.sk.sum, .int .i64 x.sk.min, .int .i64 x.sk.max, .slice a1 n1 c1, .slice a2 n2 c2, .slice a3 n3 c3] 36) := ⟨_, rfl⟩
 rw [← hW0] at HT0 ⊢
 clear hW0
 refine load_cut 34 w.heap.size 4 7 _ #[.int .i64 x.sk.count, .int .i64 x.sk.sum, .int .i64 x.sk.min, .int .i64 x.sk.max, .slice a1 n1 c1, .slice a2 n2 c2, .slice a3 n3 c3] 36 _ HT0.out.box rfl rfl rfl Try.underlying34 rfl infoSkI (by simp) rfl ?_
 go_wp2_with fail
 refine (l3Copy_all _ x.sk F _ (HR.out.1.below HT0.out.bel) HR.out.2).mono ?_
 rintro e w1 ⟨v1, G, rfl, r1, o1, hb1⟩
 obtain ⟨b1, m1, d1, b2, m2, d2, b3, m3, d3, rfl⟩ := r1.cells7
 have HT1 : Hid (Three w #[.int .i64 x.seq, .int .i64 x.cls, .int .i64 x.key, .int .i64 x.window, .int .i64 x.sk.count, .int .i64 x.sk.sum, .int .i64 x.sk.min, .int .i64 x.sk.max, .slice a1 n1 c1, .slice a2 n2 c2, .slice a3 n3 c3] 36 #[.int .i64 0, .int .i64 0, .int .i64 0, .int .i64 0, .int .i64 0, .int .i64 0, .int .i64 0, .int .i64 0, .slice none 0 0, .slice none 0 0, .slice none 0 0] #[.int .i64 x.seq, .int .i64 x.cls, .int .i64 x.key, .int .i64 x.window, .int .i64 x.sk.count, .int .i64 x.sk.sum, .int .i64 x.sk.min, .int .i64 x.sk.max, .slice a1 n1 c1, .slice a2 n2 c2, .slice a3 n3 c3] 36 w1) := HT0.out.below hb1
 have HG : Hid (RdSk w1 (.agg #[.int .i64 x.sk.count, .int .i64 x.sk.sum, .int .i64 x.sk.min, .int .i64 x.sk.max, .slice b1 m1 d1, .slice b2 m2 d2, .slice b3 m3 d3]) x.sk G ∧ Own (w.heap.size + 3) w1 G) := ⟨r1, o1.mono HT0.out.size⟩
 clear HT0 hb1 r1 o1 HR
 go_wp2_with (first | go_skip | (with_reducible refine stopStore 34 rfl ?_))
 refine store_cut 34 (w.heap.size + 1 + 1) 4 _ #[.int .i64 x.sk.count, .int .i64 x.sk.sum, .int .i64 x.sk.min, .int .i64 x.sk.max, .slice b1 m1 d1, .slice b2 m2 d2, .slice b3 m3 d3] #[.int .i64 x.seq, .int .i64 x.cls, .int .i64 x.key, .int .i64 x.window, .int .i64 x.sk.count, .int .i64 x.sk.sum, .int .i64 x.sk.min, .int .i64 x.sk.max, .slice b1 m1 d1, .slice b2 m2 d2, .slice b3 m3 d3] 36 HT1.out.loc rfl rfl rfl rfl infoSkI (by exact Nat.le_refl 11) (by simp [Value.oneCell']) rfl ?_
 obtain ⟨E, hE⟩ : ∃ E : Array Value, E = #[.int .i64 x.seq, .int .i64 x.cls, .int .i64 x.key, .int .i64 x.window, .int .i64 x.sk.count, .int .i64 x.sk.sum, .int .i64 x.sk.min, .int .i64 x.sk.max, .slice b1 m1 d1, .slice b2 m2 d2, .slice b3 m3 d3] := ⟨_, rfl⟩
 rw [← hE]
 have HE : Hid (E = #[.int .i64 x.seq, .int .i64 x.cls, .int .i64 x.key, .int .i64 x.window, .int .i64 x.sk.count, .int .i64 x.sk.sum, .int .i64 x.sk.min, .int .i64 x.sk.max, .slice b1 m1 d1, .slice b2 m2 d2, .slice b3 m3 d3]) := hE
 have hE11 : E.size = 11 := by rw [hE]; rfl
 have hEone : E.all (·.oneCell') = true := by rw [hE]; simp [Value.oneCell']
 have nl : w.heap.size + 1 + 1 ∉ G := fun hx => by have := HG.out.2.ge _ hx; omega
 have HT2 : Hid (Three w #[.int .i64 x.seq, .int .i64 x.cls, .int .i64 x.key, .int .i64 x.window, .int .i64 x.sk.count, .int .i64 x.sk.sum, .int .i64 x.sk.min, .int .i64 x.sk.max, .slice a1 n1 c1, .slice a2 n2 c2, .slice a3 n3 c3] 36 #[.int .i64 0, .int .i64 0, .int .i64 0, .int .i64 0, .int .i64 0, .int .i64 0, .int .i64 0, .int .i64 0, .slice none 0 0, .slice none 0 0, .slice none 0 0] E 36 (w1.setRow (w.heap.size + 1 + 1) E)) := ⟨HT1.out.box.setRowOther (by omega), HT1.out.res.setRowOther (by omega), HT1.out.loc.setRow, below_setRow HT1.out.bel (by omega) _⟩
 have HG2 : Hid (RdSk (w1.setRow (w.heap.size + 1 + 1) E) (.agg #[.int .i64 x.sk.count, .int .i64 x.sk.sum, .int .i64 x.sk.min, .int .i64 x.sk.max, .slice b1 m1 d1, .slice b2 m2 d2, .slice b3 m3 d3]) x.sk G ∧ Own (w.heap.size + 3) (w1.setRow (w.heap.size + 1 + 1) E) G) := ⟨HG.out.1.agree (Agree.row nl E), HG.out.2.agree (Agree.row nl E)⟩
 obtain ⟨w2, hw2⟩ : ∃ W, W = w1.setRow (w.heap.size + 1 + 1) E := ⟨_, rfl⟩
 rw [← hw2] at HT2 HG2 ⊢
 clear hw2 HT1 HG nl hE
 go_wp2_with (first | go_skip | (with_reducible refine stopLoad 36 rfl ?_))
 refine load_known 36 (w.heap.size + 1 + 1) E 36 _ HT2.out.loc rfl rfl rfl Try.underlying36 rfl (by rw [hE11]; exact infoItC8) ?_
 go_wp2_with (first | go_skip | (with_reducible refine stopStore 36 rfl ?_))
 refine store_known 36 (w.heap.size + 1) _ E 36 HT2.out.res rfl rfl rfl rfl (by rw [hE11]; exact infoItC8) (by rw [hE11]; rfl) hEone ?_
 have nr : w.heap.size + 1 ∉ G := fun hx => by have := HG2.out.2.ge _ hx; omega
 have HF : Hid (RdSk (w2.setRow (w.heap.size + 1) E) (.agg #[.int .i64 x.sk.count, .int .i64 x.sk.sum, .int .i64 x.sk.min, .int .i64 x.sk.max, .slice b1 m1 d1, .slice b2 m2 d2, .slice b3 m3 d3]) x.sk G ∧ Own w.heap.size (w2.setRow (w.heap.size + 1) E) G ∧ Below w.heap.size w (w2.setRow (w.heap.size + 1) E) ∧ Blk (w2.setRow (w.heap.size + 1) E) (w.heap.size + 1) E 36) := ⟨HG2.out.1.agree (Agree.row nr E), (HG2.out.2.agree (Agree.row nr E)).mono (by omega), below_setRow HT2.out.bel (by omega) _, HT2.out.res.setRow⟩
 clear HT2 HG2 nr
 go_wp2
 refine bodyPost_ret (results_cell_row Try.results44 _ _ (w.heap.size + 1) _ _ (0, 0) _ rfl HF.out.2.2.2 Try.underlying36 rfl (by rw [hE11]; exact infoItC8)) rfl ?_
 exact ⟨_, G, rfl, ⟨b1, m1, d1, b2, m2, d2, b3, m3, d3, by rw [HE.out], HF.out.1⟩, HF.out.2.1, HF.out.2.2.1⟩
theorem infoAgC8 : (Try.prog.info? 27).map (·.size) = some 7 := by kernel_rfl
theorem infoItsC8 : (Try.prog.info? 36).map (fun i => (i.zero, i.size, i.bytes)) = some (some (.agg #[.int .i64 0, .int .i64 0, .int .i64 0, .int .i64 0, .int .i64 0, .int .i64 0, .int .i64 0, .int .i64 0, .slice none 0 0, .slice none 0 0, .slice none 0 0]), 11, 136) := by kernel_rfl
/-- An agent's copy, behind k items. -/
structure CopyG (w : World) (A : Array Value) (x : Ag) (p2 : Option Addr) (l2 k2 : Nat) (G2 : List Nat) (lo k : Nat) (v : Value) (vs : List Value) (G : List Nat) (W : World) : Prop where
 three : Three w A 27 #[.int .i64 0, .int .i64 0, .bool false, .int .i64 0, .slice none 0 0, .slice none 0 0, .int .i64 0] #[.int .i64 x.id, .int .i64 x.epoch, .bool x.live, .int .i64 x.granted, v, .slice p2 l2 k2, .int .i64 x.next] 27 W
 r2 : RdP W p2 l2 x.taken G2
 o2 : Own (w.heap.size + 3) W G2
 lt : ∀ b ∈ G2, b < lo
 grow : GrowL itK 36 x.sealed lo k v vs G W
 big : w.heap.size + 3 ≤ lo
theorem CopyG.below {w W W' : World} {A : Array Value} {x : Ag} {p2 : Option Addr} {l2 k2 : Nat} {G2 : List Nat} {lo k : Nat} {v : Value} {vs : List Value} {G : List Nat} (h : CopyG w A x p2 l2 k2 G2 lo k v vs G W) (b : Below W.heap.size W W') : CopyG w A x p2 l2 k2 G2 lo k v vs G W' :=
 ⟨h.three.below b, h.r2.below b, h.o2.below h.r2.lt b, h.lt, h.grow.below b, h.big⟩
theorem CopyG.step {w W W' : World} {A : Array Value} {x : Ag} {p2 : Option Addr} {l2 k2 : Nat} {G2 : List Nat} {lo k : Nat} {v v' : Value} {vs vs' : List Value} {G G' : List Nat} (h : CopyG w A x p2 l2 k2 G2 lo k v vs G W) (hgrow : W.grownBy W' v.ownBlock) (hg : GrowL itK 36 x.sealed lo (k + 1) v' vs' G' W') :
 CopyG w A x p2 l2 k2 G2 lo (k + 1) v' vs' G' (W'.setCell ⟨w.heap.size + 1 + 1, 4, none⟩ v') ∧ Blk W' w.heap.size A 27 ∧ Below w.heap.size w W' ∧ Blk W' (w.heap.size + 1 + 1) #[.int .i64 x.id, .int .i64 x.epoch, .bool x.live, .int .i64 x.granted, v, .slice p2 l2 k2, .int .i64 x.next] 27 := by
 have big := h.big
 have ot : ∀ b, b < lo → W'.heap[b]? = W.heap[b]? := fun b hb => h.grow.other hgrow hb
 have bx := h.three.box.agree (ot _ (by omega))
 have rs := h.three.res.agree (ot _ (by omega))
 have lc := h.three.loc.agree (ot _ (by omega))
 have bel : Below w.heap.size w W' := h.three.bel.grown hgrow h.three.bel.size (fun b hb => by have := (h.grow.row.lt b hb).1; omega)
 have T : Three w A 27 #[.int .i64 0, .int .i64 0, .bool false, .int .i64 0, .slice none 0 0, .slice none 0 0, .int .i64 0] #[.int .i64 x.id, .int .i64 x.epoch, .bool x.live, .int .i64 x.granted, v, .slice p2 l2 k2, .int .i64 x.next] 27 W' := ⟨bx, rs, lc, bel⟩
 have n2 : w.heap.size + 1 + 1 ∉ G2 := fun hx => by have := h.o2.ge _ hx; omega
 have ag : Agree W (W'.setCell ⟨w.heap.size + 1 + 1, 4, none⟩ v') G2 := Agree.thenSet (fun b hb => ot b (h.lt b hb)) n2 _ _
 exact ⟨⟨T.set 4 v', h.r2.agree ag, h.o2.agree ag, h.lt, hg.set (by omega), h.big⟩, bx, bel, lc⟩
/-- A new agent whose list can grow. -/
def NewAgG (w : World) (x : Ag) (e : Ending) (w' : World) : Prop := ∃ (q1 : Option Addr) (k1 : Nat) (q2 : Option Addr) (l2 k2 : Nat) (F G : List Nat) (lo : Nat) (vs : List Value) (GG : List Nat),
 e = .returned (.agg #[.int .i64 x.id, .int .i64 x.epoch, .bool x.live, .int .i64 x.granted, .slice q1 x.sealed.length k1, .slice q2 l2 k2, .int .i64 x.next]) ∧ RdL itK w' q1 x.sealed.length x.sealed F ∧ RdP w' q2 l2 x.taken G ∧ Capd q1 x.sealed.length k1 ∧ Capd q2 l2 k2 ∧ Own w.heap.size w' F ∧ Own w.heap.size w' G ∧ (∀ b ∈ F, b ∉ G) ∧ Below w.heap.size w w' ∧
 GrowL itK 36 x.sealed lo x.sealed.length (.slice q1 x.sealed.length k1) vs GG w' ∧ w.heap.size ≤ lo ∧ ∀ b ∈ G, b < lo
set_option maxRecDepth 200000 in
set_option maxHeartbeats 8000000 in
theorem l8Copy_grow (v : Value) (x : Ag) (F0 G0 : List Nat) (w : World) (h : RdAg w v x F0 G0) (hf : ∀ y ∈ x.sealed, y.sk.fits) (hs : x.sealed.length ≤ 1048576) (hp : x.taken.length ≤ 1048576) :
 Calls Try.prog 43 #[v] w fun e w' => NewAgG w x e w' := by
 obtain ⟨j0, hj, hy0, hy1, hy2⟩ := info_parts infoItsC8
 obtain ⟨a1, n1, c1, a2, n2, c2, rfl, hL, hP, hc1, hc2⟩ := h
 have hn1 : n1 ≤ 1048576 := by rw [← hL.length]; exact hs
 have HL : Hid (RdL itK w a1 n1 x.sealed F0 ∧ (∀ y ∈ x.sealed, y.sk.fits) ∧ x.sealed.length = n1) := ⟨hL, hf, hL.length⟩
 have HP : Hid (RdP w a2 n2 x.taken G0 ∧ n2 ≤ 2097152 ∧ (a2 = none → c2 = 0)) := ⟨hP, by rw [← hP.length]; omega, hc2.1⟩
 clear hL hP hf hs hp hc1 hc2
 have HT0 : Hid (Three w #[.int .i64 x.id, .int .i64 x.epoch, .bool x.live, .int .i64 x.granted, .slice a1 n1 c1, .slice a2 n2 c2, .int .i64 x.next] 27 #[.int .i64 0, .int .i64 0, .bool false, .int .i64 0, .slice none 0 0, .slice none 0 0, .int .i64 0] #[.int .i64 x.id, .int .i64 x.epoch, .bool x.live, .int .i64 x.granted, .slice a1 n1 c1, .slice a2 n2 c2, .int .i64 x.next] 27 _) := Three.made w #[.int .i64 x.id, .int .i64 x.epoch, .bool x.live, .int .i64 x.granted, .slice a1 n1 c1, .slice a2 n2 c2, .int .i64 x.next] 27 #[.int .i64 0, .int .i64 0, .bool false, .int .i64 0, .slice none 0 0, .slice none 0 0, .int .i64 0] #[.int .i64 x.id, .int .i64 x.epoch, .bool x.live, .int .i64 x.granted, .slice a1 n1 c1, .slice a2 n2 c2, .int .i64 x.next] 27
 go_enter Try.func43, Try.ntmps43
 go_wp2_with fail
 obtain ⟨W0, hW0⟩ : ∃ W, W = ((w.alloc (.cells #[.int .i64 x.id, .int .i64 x.epoch, .bool x.live, .int .i64 x.granted, .slice a1 n1 c1, .slice a2 n2 c2, .int .i64 x.next] 27)).alloc (.cells #[.int .i64 0, .int .i64 0, .bool false, .int .i64 0, .slice none 0 0, .slice none 0 0, .int .i64 0] 27)).alloc (.cells #[.int .i64 x.id, .int .i64 x.epoch, .bool x.live, .int .i64 x.granted, .slice a1 n1 c1, .slice a2 n2 c2, .int .i64 x.next] 27) := ⟨_, rfl⟩
 rw [← hW0] at HT0 ⊢
 clear hW0
 refine (l5Copy_any a2 n2 c2 x.taken G0 _ (HP.out.1.below HT0.out.bel) HP.out.2.1 HP.out.2.2).mono ?_
 rintro e w1 ⟨p2, l2, k2, G2, rfl, r2, o2, hb1, hc2⟩
 have HT1 : Hid (Three w #[.int .i64 x.id, .int .i64 x.epoch, .bool x.live, .int .i64 x.granted, .slice a1 n1 c1, .slice a2 n2 c2, .int .i64 x.next] 27 #[.int .i64 0, .int .i64 0, .bool false, .int .i64 0, .slice none 0 0, .slice none 0 0, .int .i64 0] #[.int .i64 x.id, .int .i64 x.epoch, .bool x.live, .int .i64 x.granted, .slice a1 n1 c1, .slice a2 n2 c2, .int .i64 x.next] 27 w1) := HT0.out.below hb1
 have HG1 : Hid (RdP w1 p2 l2 x.taken G2 ∧ Own (w.heap.size + 3) w1 G2 ∧ Capd p2 l2 k2) := ⟨r2, o2.mono HT0.out.size, hc2⟩
 clear HT0 hb1 r2 o2 hc2
 have c5 := HT1.out.loc.cell 5
 have f5 := HT1.out.loc.frozen 5
 have c4 := HT1.out.loc.cell 4
 have f4 := HT1.out.loc.frozen 4
 simp only [aT, aS, aZ] at c5 c4
 go_wp2
 clear c5 f5 c4 f4
 have hz1 : w.heap.size + 3 ≤ w1.heap.size := HT1.out.size
 go_loopw [4] (fun i wr => ∃ (k : Nat) (v : Value) (vs : List Value) (GG : List Nat), k ≤ n1 ∧ i = .int .i64 k ∧ Hid (CopyG w #[.int .i64 x.id, .int .i64 x.epoch, .bool x.live, .int .i64 x.granted, .slice a1 n1 c1, .slice a2 n2 c2, .int .i64 x.next] x p2 l2 k2 G2 w1.heap.size k v vs GG wr)) (fun i _ => n1 - (intOf i).toNat)
 case atStart =>
  have nG : w.heap.size + 1 + 1 ∉ G2 := fun hx => by have := HG1.out.2.1.ge _ hx; omega
  have ag := ((Agree.refl w1 G2).thenSet nG 5 (.slice p2 l2 k2)).thenSet nG 4 (.slice none 0 0)
  have T := (HT1.out.set 5 (.slice p2 l2 k2)).set 4 (.slice none 0 0)
  exact ⟨0, .slice none 0 0, [], [], by omega, rfl, ⟨T, HG1.out.1.agree ag, HG1.out.2.1.agree ag, HG1.out.1.lt, GrowL.start (by simp), hz1⟩⟩
 case round =>
  obtain ⟨k, v, vs, GG, hk, rfl, CSS⟩ := hrel
  have e4 := CSS.out.three.box.cell 4
  simp only [aT, aS, aZ] at e4
  by_cases hlt : k < n1
  ·
   have hI : (k : Int) < (n1 : Int) := by omega
   obtain ⟨b, off, ha, hbF, cs, Fi, hcs, hcc, hr, _⟩ := HL.out.1.get k hlt
   have ha' := ha.symm
   subst ha'
   have hbw : b < w.heap.size := HL.out.1.lt b hbF
   obtain ⟨y, hy⟩ : ∃ y, x.sealed[k]? = some y := ⟨_, List.getElem?_eq_getElem (by rw [HL.out.2.2]; exact hlt)⟩
   have HY : Hid (x.sealed[k]? = some y ∧ y.sk.fits ∧ cs.size = 11 ∧ RdIt w (.agg cs) y Fi) := ⟨hy, HL.out.2.1 y (List.mem_of_getElem? hy), hcs, hr y hy⟩
   have HC : Hid (∀ W, Blk W w.heap.size #[.int .i64 x.id, .int .i64 x.epoch, .bool x.live, .int .i64 x.granted, .slice (some ⟨b, off, none⟩) n1 c1, .slice a2 n2 c2, .int .i64 x.next] 27 ∧ Below w.heap.size w W → W.cell? ⟨w.heap.size, 4, none⟩ = some (.slice (some ⟨b, off, none⟩) n1 c1) ∧ ∀ j, j < 11 → W.cell? ⟨b, off + k * 11 + j, none⟩ = cs[j]?) := fun W hW => ⟨by rw [hW.1.cell]; rfl, fun j hj => by
    have q : W.cell? ⟨b, off + k * 11 + j, none⟩ = w.cell? ⟨b, off + k * 11 + j, none⟩ := hW.2.cell (p := ⟨b, off + k * 11 + j, none⟩) hbw
    exact q.trans (hcc j hj)⟩
   clear ha hbF hcs hcc hr hy
   go_wp2_with fail
   clear e4
   have CSd : Hid (CopyG w #[.int .i64 x.id, .int .i64 x.epoch, .bool x.live, .int .i64 x.granted, .slice (some ⟨b, off, none⟩) n1 c1, .slice a2 n2 c2, .int .i64 x.next] x p2 l2 k2 G2 w1.heap.size k v vs GG wr.drew) := CSS.out.below (Below.refl _ _).drew
   obtain ⟨Y0, hY0⟩ : ∃ Y, Y = wr.drew := ⟨_, rfl⟩
   rw [← hY0] at CSd
   have HLim : Hid ((∀ b ∈ GG, b < Y0.heap.size) ∧ (∀ b, v.ownBlock = some b → b < Y0.heap.size) ∧ w1.heap.size ≤ Y0.heap.size) := CSd.out.grow.lts
   clear CSS
   refine wp_region_held (S := fun W => Blk W w.heap.size #[.int .i64 x.id, .int .i64 x.epoch, .bool x.live, .int .i64 x.granted, .slice (some ⟨b, off, none⟩) n1 c1, .slice a2 n2 c2, .int .i64 x.next] 27 ∧ Below w.heap.size w W) (by kernel_rfl) ?_
   change wpAnyH _ _ _ _ _ _ _ _ (World.drew _)
   rw [← hY0]
   clear hY0
   refine takeH (o := ?o1) 0 (.pointer (some ⟨w.heap.size + 1 + 1, 4, none⟩)) ?h1 ?r1
   case h1 => simp only [aT, aZ]; rfl
   refine ⟨_, by simp [Act.put]; rfl, by kernel_rfl, by kernel_rfl, by kernel_rfl, fun _ _ _ h => h, (.inl ⟨rfl, fun W _ => by kernel_rfl⟩), ⟨CSd.out.three.box, CSd.out.three.bel⟩, ?_⟩
   refine takeH (o := ?o2) 2 (.pointer (some ⟨w.heap.size, 4, none⟩)) ?h2 ?r2
   case h2 => simp only [aT, aS, aZ]; rfl
   refine ⟨_, by simp [Act.put]; rfl, by kernel_rfl, by kernel_rfl, by kernel_rfl, fun _ _ _ h => h, (.inl ⟨rfl, fun W _ => by kernel_rfl⟩), ⟨CSd.out.three.box, CSd.out.three.bel⟩, ?_⟩
   refine takeH (o := ?o3) 3 (.slice (some ⟨b, off, none⟩) n1 c1) ?h3 ?r3
   case h3 => simp only [aT, aS, aZ]; rfl
   refine ⟨_, by simp [Act.put]; rfl, by kernel_rfl, by kernel_rfl, by kernel_rfl, fun _ _ _ h => h, (.inl ⟨rfl, fun W hW => by have c := (HC.out W hW).1; go_simp⟩), ⟨CSd.out.three.box, CSd.out.three.bel⟩, ?_⟩
   refine takeH (o := ?o4) 4 (.int .i64 k) ?h4 ?r4
   case h4 => simp only [aT, aS, aZ]; rfl
   refine ⟨_, by simp [Act.put]; rfl, by kernel_rfl, by kernel_rfl, by kernel_rfl, fun _ _ _ h => h, (.inl ⟨rfl, fun W _ => by kernel_rfl⟩), ⟨CSd.out.three.box, CSd.out.three.bel⟩, ?_⟩
   refine takeH (o := ?o5) 5 (.pointer (some ⟨b, off + k * 11, none⟩)) ?h5 ?r5
   case h5 => simp only [aT, aS, aZ]; rfl
   refine ⟨_, by simp [Act.put]; rfl, by kernel_rfl, by kernel_rfl, by kernel_rfl, fun _ _ _ h => h, (.inl ⟨rfl, fun W _ => by go_simp; first | done | (intro h; omega) | (rw [if_pos (by omega)]; rfl)⟩), ⟨CSd.out.three.box, CSd.out.three.bel⟩, ?_⟩
   refine takeH (o := ?o6) 6 (.agg cs) ?h6 ?r6
   case h6 => simp only [aT, aS, aZ]; rfl
   refine ⟨_, by simp [Act.put]; rfl, by kernel_rfl, by kernel_rfl, by kernel_rfl, fun _ _ _ h => h, (yields_at 36 b (off + k * 11) 11 cs _ rfl rfl rfl Try.underlying36 rfl infoItC8 HY.out.2.2.1 (fun W hW => (HC.out W hW).2)), ⟨CSd.out.three.box, CSd.out.three.bel⟩, ?_⟩
   refine twoH (o := ?o7) (o' := ?p7) 1 7 (by kernel_rfl) ?h7 ?g7 ?r7 ?s7
   case h7 => simp only [aT, aS, aZ]; rfl
   case g7 => simp only [aT, aS, aZ]; rfl
   case r7 =>
    intro K hK
    have co := CSd.out.three.loc.cell 4
    simp only [aT, aS, aZ] at co
    refine op_value v rfl (by go_simp) ⟨_, by simp [Act.put]; rfl, hK _ _ ⟨⟨CSd.out.three.box, CSd.out.three.bel⟩, ?_⟩⟩
    clear hK co
    refine onlyH (o := ?o8) 7 (by kernel_rfl) ?h8 ?r8
    case h8 => simp only [aT, aS, aZ]; rfl
    intro K hK
    refine op_call1 44 _ _ Try.f44 (fun v w' => ∃ F, RdIt w' v y F ∧ Own Y0.heap.size w' F ∧ Below Y0.heap.size Y0 w') rfl rfl Try.func44 (by kernel_rfl) (by kernel_rfl) ((l6Item_all (.agg cs) y Fi Y0 (HY.out.2.2.2.below CSd.out.three.bel) HY.out.2.1).mono (by rintro e w' ⟨v, F, rfl, k1, k2, k3⟩; exact ⟨_, rfl, F, k1, k2, k3⟩)) ?_
    rintro vr Y1 ⟨Fr, rr, ro, rb⟩
    obtain ⟨ds, rfl, hd11, hd1⟩ := itK.cells (w := Y1) rr
    have RR1 : Hid (RdIt Y1 (.agg ds) y Fr ∧ Own Y0.heap.size Y1 Fr ∧ ds.size = 11 ∧ ds.all (·.oneCell') = true) := ⟨rr, ro.mono (Nat.le_refl _), hd11, hd1⟩
    have CS1 : Hid (CopyG w #[.int .i64 x.id, .int .i64 x.epoch, .bool x.live, .int .i64 x.granted, .slice (some ⟨b, off, none⟩) n1 c1, .slice a2 n2 c2, .int .i64 x.next] x p2 l2 k2 G2 w1.heap.size k v vs GG Y1) := CSd.out.below rb
    refine ⟨_, by simp [Act.put]; rfl, hK _ _ ⟨⟨CS1.out.three.box, CS1.out.three.bel⟩, ?_⟩⟩
    clear hK rr ro rb hd11 hd1
    refine onlyH (o := ?o9) 8 (by kernel_rfl) ?h9 ?r9
    case h9 => simp only [aT, aS, aZ]; rfl
    intro K hK
    have bl : Below Y1.heap.size Y1 (Y1.alloc (.cells ds 36)) := (Below.refl _ _).alloc (Nat.le_refl _) _
    have CS2 : Hid (CopyG w #[.int .i64 x.id, .int .i64 x.epoch, .bool x.live, .int .i64 x.granted, .slice (some ⟨b, off, none⟩) n1 c1, .slice a2 n2 c2, .int .i64 x.next] x p2 l2 k2 G2 w1.heap.size k v vs GG (Y1.alloc (.cells ds 36))) := CS1.out.below bl
    have RR2 : Hid (RdIt (Y1.alloc (.cells ds 36)) (.agg ds) y Fr ∧ Own Y0.heap.size (Y1.alloc (.cells ds 36)) Fr ∧ ds.size = 11 ∧ ds.all (·.oneCell') = true) := ⟨RR1.out.1.below bl, RR1.out.2.1.below RR1.out.1.lt bl, RR1.out.2.2⟩
    have NW2 : Hid (∀ j u, ds.toList[j]? = some u → ((Y1.alloc (.cells ds 36))).cell? ((⟨Y1.heap.size, 0, none⟩ : Addr).add j) = some u) := news_lit _ _ _
    refine op_turn (.slice (some ⟨Y1.heap.size, 0, none⟩) 1 1) (Y1.alloc (.cells ds 36)) rfl (by obtain ⟨_, _, _, _, _, _, _, _, _, ev⟩ := RdIt.cells11 RR2.out.1; injection ev with ev; rw [ev]; kernel_rfl) ⟨_, by simp [Act.put]; rfl, hK _ _ ⟨⟨CS2.out.three.box, CS2.out.three.bel⟩, ?_⟩⟩
    clear hK bl
    obtain ⟨L2, hL2⟩ : ∃ z, z = Y1.heap.size := ⟨_, rfl⟩
    obtain ⟨Y2, hY2⟩ : ∃ Z, Z = (Y1.alloc (.cells ds 36)) := ⟨_, rfl⟩
    rw [← hY2, ← hL2] at NW2
    rw [← hY2] at CS2 RR2 ⊢
    rw [← hL2]
    clear hY2 hL2
    refine onlyH (o := ?o10) 9 (by kernel_rfl) ?h10 ?r10
    case h10 => simp only [aT, aS, aZ]; rfl
    intro K hK
    refine op_append Y2 rfl _ _ 24 rfl w1.heap.size 36 j0 (.agg #[.int .i64 0, .int .i64 0, .int .i64 0, .int .i64 0, .int .i64 0, .int .i64 0, .int .i64 0, .int .i64 0, .slice none 0 0, .slice none 0 0, .slice none 0 0]) 11 136 Try.underlying24 hj hy0 hy1 hy2 rfl (by decide) v k vs rfl CS2.out.grow.row ⟨L2, 0, none⟩ 1 1 ds.toList rfl (by rw [Array.length_toList, RR2.out.2.2.1]) NW2.out (fun u hu => (Array.all_eq_true_iff_forall_mem.1 RR2.out.2.2.2) u (by simpa using hu)) (by decide) (by unfold maxLen; omega) (by omega) CS2.out.grow.lw _ rfl ?_
    intro g4 cp4 Y3 hown hgrow hat _
    have GS := CS2.out.grow.step HY.out.1 RR2.out.1 RR2.out.2.2.1 RR2.out.2.1 HLim.out.1 HLim.out.2.1 HLim.out.2.2 hown hgrow hat
    have ST := CS2.out.step hgrow GS
    have CS3 : Hid (CopyG w #[.int .i64 x.id, .int .i64 x.epoch, .bool x.live, .int .i64 x.granted, .slice (some ⟨b, off, none⟩) n1 c1, .slice a2 n2 c2, .int .i64 x.next] x p2 l2 k2 G2 w1.heap.size (k + 1) (.slice (some ⟨g4, 0, none⟩) (k + 1) cp4) (vs ++ ds.toList) (GG ++ Fr) (Y3.setCell ⟨w.heap.size + 1 + 1, 4, none⟩ (.slice (some ⟨g4, 0, none⟩) (k + 1) cp4)) ∧ Blk Y3 w.heap.size #[.int .i64 x.id, .int .i64 x.epoch, .bool x.live, .int .i64 x.granted, .slice (some ⟨b, off, none⟩) n1 c1, .slice a2 n2 c2, .int .i64 x.next] 27 ∧ Below w.heap.size w Y3) := ⟨ST.1, ST.2.1, ST.2.2.1⟩
    have co := ST.2.2.2.cell 4
    have fo := ST.2.2.2.frozen 4
    simp only [aT, aS, aZ] at co
    refine ⟨_, by simp [Act.put]; rfl, hK _ _ ⟨CS3.out.2, ?_⟩⟩
    clear hK hown hgrow hat ST GS
    refine takeH (o := ?o11) 10 (.pointer (some ⟨w.heap.size + 1 + 1, 4, none⟩)) ?h11 ?r11
    case h11 => simp only [aT, aS, aZ]; rfl
    refine ⟨_, by simp [Act.put]; rfl, by kernel_rfl, by kernel_rfl, by kernel_rfl, fun _ _ _ h => h, (.inl ⟨rfl, fun W _ => by kernel_rfl⟩), CS3.out.2, ?_⟩
    refine onlyH (o := ?o12) 11 (by kernel_rfl) ?h12 ?r12
    case h12 => simp only [aT, aS, aZ]; rfl
    intro K hK
    refine op_skip (Y3.setCell ⟨w.heap.size + 1 + 1, 4, none⟩ (.slice (some ⟨g4, 0, none⟩) (k + 1) cp4)) rfl (by go_simp) ⟨_, by simp [Act.put]; rfl, hK _ _ ⟨⟨CS3.out.1.three.box, CS3.out.1.three.bel⟩, ?_⟩⟩
    clear hK co fo
    refine wpAnyH_done (by kernel_rfl) ?_ _
    have HF : Hid (CopyG w #[.int .i64 x.id, .int .i64 x.epoch, .bool x.live, .int .i64 x.granted, .slice (some ⟨b, off, none⟩) n1 c1, .slice a2 n2 c2, .int .i64 x.next] x p2 l2 k2 G2 w1.heap.size (k + 1) (.slice (some ⟨g4, 0, none⟩) (k + 1) cp4) (vs ++ ds.toList) (GG ++ Fr) (Y3.setCell ⟨w.heap.size + 1 + 1, 4, none⟩ (.slice (some ⟨g4, 0, none⟩) (k + 1) cp4))) := CS3.out.1
    obtain ⟨YZ, hYZ⟩ : ∃ Z, Z = Y3.setCell ⟨w.heap.size + 1 + 1, 4, none⟩ (.slice (some ⟨g4, 0, none⟩) (k + 1) cp4) := ⟨_, rfl⟩
    rw [← hYZ] at HF ⊢
    clear hYZ CS3
    go_wp2
    go_roundw
    case rel => exact ⟨k + 1, _, _, _, by omega, by go_num, HF.out⟩
    case measure => simp [intOf]; omega
   case s7 =>
    intro K hK
    refine op_call1 44 _ _ Try.f44 (fun v w' => ∃ F, RdIt w' v y F ∧ Own Y0.heap.size w' F ∧ Below Y0.heap.size Y0 w') rfl rfl Try.func44 (by kernel_rfl) (by kernel_rfl) ((l6Item_all (.agg cs) y Fi Y0 (HY.out.2.2.2.below CSd.out.three.bel) HY.out.2.1).mono (by rintro e w' ⟨v, F, rfl, k1, k2, k3⟩; exact ⟨_, rfl, F, k1, k2, k3⟩)) ?_
    rintro vr Y4 ⟨Fr, rr, ro, rb⟩
    obtain ⟨ds, rfl, hd11, hd1⟩ := itK.cells (w := Y4) rr
    have RR4 : Hid (RdIt Y4 (.agg ds) y Fr ∧ Own Y0.heap.size Y4 Fr ∧ ds.size = 11 ∧ ds.all (·.oneCell') = true) := ⟨rr, ro.mono (Nat.le_refl _), hd11, hd1⟩
    have CS4 : Hid (CopyG w #[.int .i64 x.id, .int .i64 x.epoch, .bool x.live, .int .i64 x.granted, .slice (some ⟨b, off, none⟩) n1 c1, .slice a2 n2 c2, .int .i64 x.next] x p2 l2 k2 G2 w1.heap.size k v vs GG Y4) := CSd.out.below rb
    refine ⟨_, by simp [Act.put]; rfl, hK _ _ ⟨⟨CS4.out.three.box, CS4.out.three.bel⟩, ?_⟩⟩
    clear hK rr ro rb hd11 hd1
    refine twoH (o := ?o13) (o' := ?p13) 1 8 (by kernel_rfl) ?h13 ?g13 ?r13 ?s13
    case h13 => simp only [aT, aS, aZ]; rfl
    case g13 => simp only [aT, aS, aZ]; rfl
    case r13 =>
     intro K hK
     have co := CS4.out.three.loc.cell 4
     simp only [aT, aS, aZ] at co
     refine op_value v rfl (by go_simp) ⟨_, by simp [Act.put]; rfl, hK _ _ ⟨⟨CS4.out.three.box, CS4.out.three.bel⟩, ?_⟩⟩
     clear hK co
     refine onlyH (o := ?o14) 8 (by kernel_rfl) ?h14 ?r14
     case h14 => simp only [aT, aS, aZ]; rfl
     intro K hK
     have bl : Below Y4.heap.size Y4 (Y4.alloc (.cells ds 36)) := (Below.refl _ _).alloc (Nat.le_refl _) _
     have CS5 : Hid (CopyG w #[.int .i64 x.id, .int .i64 x.epoch, .bool x.live, .int .i64 x.granted, .slice (some ⟨b, off, none⟩) n1 c1, .slice a2 n2 c2, .int .i64 x.next] x p2 l2 k2 G2 w1.heap.size k v vs GG (Y4.alloc (.cells ds 36))) := CS4.out.below bl
     have RR5 : Hid (RdIt (Y4.alloc (.cells ds 36)) (.agg ds) y Fr ∧ Own Y0.heap.size (Y4.alloc (.cells ds 36)) Fr ∧ ds.size = 11 ∧ ds.all (·.oneCell') = true) := ⟨RR4.out.1.below bl, RR4.out.2.1.below RR4.out.1.lt bl, RR4.out.2.2⟩
     have NW5 : Hid (∀ j u, ds.toList[j]? = some u → ((Y4.alloc (.cells ds 36))).cell? ((⟨Y4.heap.size, 0, none⟩ : Addr).add j) = some u) := news_lit _ _ _
     refine op_turn (.slice (some ⟨Y4.heap.size, 0, none⟩) 1 1) (Y4.alloc (.cells ds 36)) rfl (by obtain ⟨_, _, _, _, _, _, _, _, _, ev⟩ := RdIt.cells11 RR5.out.1; injection ev with ev; rw [ev]; kernel_rfl) ⟨_, by simp [Act.put]; rfl, hK _ _ ⟨⟨CS5.out.three.box, CS5.out.three.bel⟩, ?_⟩⟩
     clear hK bl
     obtain ⟨L5, hL5⟩ : ∃ z, z = Y4.heap.size := ⟨_, rfl⟩
     obtain ⟨Y5, hY5⟩ : ∃ Z, Z = (Y4.alloc (.cells ds 36)) := ⟨_, rfl⟩
     rw [← hY5, ← hL5] at NW5
     rw [← hY5] at CS5 RR5 ⊢
     rw [← hL5]
     clear hY5 hL5
     refine onlyH (o := ?o15) 9 (by kernel_rfl) ?h15 ?r15
     case h15 => simp only [aT, aS, aZ]; rfl
     intro K hK
     refine op_append Y5 rfl _ _ 24 rfl w1.heap.size 36 j0 (.agg #[.int .i64 0, .int .i64 0, .int .i64 0, .int .i64 0, .int .i64 0, .int .i64 0, .int .i64 0, .int .i64 0, .slice none 0 0, .slice none 0 0, .slice none 0 0]) 11 136 Try.underlying24 hj hy0 hy1 hy2 rfl (by decide) v k vs rfl CS5.out.grow.row ⟨L5, 0, none⟩ 1 1 ds.toList rfl (by rw [Array.length_toList, RR5.out.2.2.1]) NW5.out (fun u hu => (Array.all_eq_true_iff_forall_mem.1 RR5.out.2.2.2) u (by simpa using hu)) (by decide) (by unfold maxLen; omega) (by omega) CS5.out.grow.lw _ rfl ?_
     intro g4 cp4 Y6 hown hgrow hat _
     have GS := CS5.out.grow.step HY.out.1 RR5.out.1 RR5.out.2.2.1 RR5.out.2.1 HLim.out.1 HLim.out.2.1 HLim.out.2.2 hown hgrow hat
     have ST := CS5.out.step hgrow GS
     have CS6 : Hid (CopyG w #[.int .i64 x.id, .int .i64 x.epoch, .bool x.live, .int .i64 x.granted, .slice (some ⟨b, off, none⟩) n1 c1, .slice a2 n2 c2, .int .i64 x.next] x p2 l2 k2 G2 w1.heap.size (k + 1) (.slice (some ⟨g4, 0, none⟩) (k + 1) cp4) (vs ++ ds.toList) (GG ++ Fr) (Y6.setCell ⟨w.heap.size + 1 + 1, 4, none⟩ (.slice (some ⟨g4, 0, none⟩) (k + 1) cp4)) ∧ Blk Y6 w.heap.size #[.int .i64 x.id, .int .i64 x.epoch, .bool x.live, .int .i64 x.granted, .slice (some ⟨b, off, none⟩) n1 c1, .slice a2 n2 c2, .int .i64 x.next] 27 ∧ Below w.heap.size w Y6) := ⟨ST.1, ST.2.1, ST.2.2.1⟩
     have co := ST.2.2.2.cell 4
     have fo := ST.2.2.2.frozen 4
     simp only [aT, aS, aZ] at co
     refine ⟨_, by simp [Act.put]; rfl, hK _ _ ⟨CS6.out.2, ?_⟩⟩
     clear hK hown hgrow hat ST GS
     refine takeH (o := ?o16) 10 (.pointer (some ⟨w.heap.size + 1 + 1, 4, none⟩)) ?h16 ?r16
     case h16 => simp only [aT, aS, aZ]; rfl
     refine ⟨_, by simp [Act.put]; rfl, by kernel_rfl, by kernel_rfl, by kernel_rfl, fun _ _ _ h => h, (.inl ⟨rfl, fun W _ => by kernel_rfl⟩), CS6.out.2, ?_⟩
     refine onlyH (o := ?o17) 11 (by kernel_rfl) ?h17 ?r17
     case h17 => simp only [aT, aS, aZ]; rfl
     intro K hK
     refine op_skip (Y6.setCell ⟨w.heap.size + 1 + 1, 4, none⟩ (.slice (some ⟨g4, 0, none⟩) (k + 1) cp4)) rfl (by go_simp) ⟨_, by simp [Act.put]; rfl, hK _ _ ⟨⟨CS6.out.1.three.box, CS6.out.1.three.bel⟩, ?_⟩⟩
     clear hK co fo
     refine wpAnyH_done (by kernel_rfl) ?_ _
     have HF : Hid (CopyG w #[.int .i64 x.id, .int .i64 x.epoch, .bool x.live, .int .i64 x.granted, .slice (some ⟨b, off, none⟩) n1 c1, .slice a2 n2 c2, .int .i64 x.next] x p2 l2 k2 G2 w1.heap.size (k + 1) (.slice (some ⟨g4, 0, none⟩) (k + 1) cp4) (vs ++ ds.toList) (GG ++ Fr) (Y6.setCell ⟨w.heap.size + 1 + 1, 4, none⟩ (.slice (some ⟨g4, 0, none⟩) (k + 1) cp4))) := CS6.out.1
     obtain ⟨YZ, hYZ⟩ : ∃ Z, Z = Y6.setCell ⟨w.heap.size + 1 + 1, 4, none⟩ (.slice (some ⟨g4, 0, none⟩) (k + 1) cp4) := ⟨_, rfl⟩
     rw [← hYZ] at HF ⊢
     clear hYZ CS6
     go_wp2
     go_roundw
     case rel => exact ⟨k + 1, _, _, _, by omega, by go_num, HF.out⟩
     case measure => simp [intOf]; omega
    case s13 =>
     intro K hK
     have bl : Below Y4.heap.size Y4 (Y4.alloc (.cells ds 36)) := (Below.refl _ _).alloc (Nat.le_refl _) _
     have CS7 : Hid (CopyG w #[.int .i64 x.id, .int .i64 x.epoch, .bool x.live, .int .i64 x.granted, .slice (some ⟨b, off, none⟩) n1 c1, .slice a2 n2 c2, .int .i64 x.next] x p2 l2 k2 G2 w1.heap.size k v vs GG (Y4.alloc (.cells ds 36))) := CS4.out.below bl
     have RR7 : Hid (RdIt (Y4.alloc (.cells ds 36)) (.agg ds) y Fr ∧ Own Y0.heap.size (Y4.alloc (.cells ds 36)) Fr ∧ ds.size = 11 ∧ ds.all (·.oneCell') = true) := ⟨RR4.out.1.below bl, RR4.out.2.1.below RR4.out.1.lt bl, RR4.out.2.2⟩
     have NW7 : Hid (∀ j u, ds.toList[j]? = some u → ((Y4.alloc (.cells ds 36))).cell? ((⟨Y4.heap.size, 0, none⟩ : Addr).add j) = some u) := news_lit _ _ _
     refine op_turn (.slice (some ⟨Y4.heap.size, 0, none⟩) 1 1) (Y4.alloc (.cells ds 36)) rfl (by obtain ⟨_, _, _, _, _, _, _, _, _, ev⟩ := RdIt.cells11 RR7.out.1; injection ev with ev; rw [ev]; kernel_rfl) ⟨_, by simp [Act.put]; rfl, hK _ _ ⟨⟨CS7.out.three.box, CS7.out.three.bel⟩, ?_⟩⟩
     clear hK bl
     obtain ⟨L7, hL7⟩ : ∃ z, z = Y4.heap.size := ⟨_, rfl⟩
     obtain ⟨Y7, hY7⟩ : ∃ Z, Z = (Y4.alloc (.cells ds 36)) := ⟨_, rfl⟩
     rw [← hY7, ← hL7] at NW7
     rw [← hY7] at CS7 RR7 ⊢
     rw [← hL7]
     clear hY7 hL7
     refine onlyH (o := ?o18) 1 (by kernel_rfl) ?h18 ?r18
     case h18 => simp only [aT, aS, aZ]; rfl
     intro K hK
     have co := CS7.out.three.loc.cell 4
     simp only [aT, aS, aZ] at co
     refine op_value v rfl (by go_simp) ⟨_, by simp [Act.put]; rfl, hK _ _ ⟨⟨CS7.out.three.box, CS7.out.three.bel⟩, ?_⟩⟩
     clear hK co
     refine onlyH (o := ?o19) 9 (by kernel_rfl) ?h19 ?r19
     case h19 => simp only [aT, aS, aZ]; rfl
     intro K hK
     refine op_append Y7 rfl _ _ 24 rfl w1.heap.size 36 j0 (.agg #[.int .i64 0, .int .i64 0, .int .i64 0, .int .i64 0, .int .i64 0, .int .i64 0, .int .i64 0, .int .i64 0, .slice none 0 0, .slice none 0 0, .slice none 0 0]) 11 136 Try.underlying24 hj hy0 hy1 hy2 rfl (by decide) v k vs rfl CS7.out.grow.row ⟨L7, 0, none⟩ 1 1 ds.toList rfl (by rw [Array.length_toList, RR7.out.2.2.1]) NW7.out (fun u hu => (Array.all_eq_true_iff_forall_mem.1 RR7.out.2.2.2) u (by simpa using hu)) (by decide) (by unfold maxLen; omega) (by omega) CS7.out.grow.lw _ rfl ?_
     intro g4 cp4 Y8 hown hgrow hat _
     have GS := CS7.out.grow.step HY.out.1 RR7.out.1 RR7.out.2.2.1 RR7.out.2.1 HLim.out.1 HLim.out.2.1 HLim.out.2.2 hown hgrow hat
     have ST := CS7.out.step hgrow GS
     have CS8 : Hid (CopyG w #[.int .i64 x.id, .int .i64 x.epoch, .bool x.live, .int .i64 x.granted, .slice (some ⟨b, off, none⟩) n1 c1, .slice a2 n2 c2, .int .i64 x.next] x p2 l2 k2 G2 w1.heap.size (k + 1) (.slice (some ⟨g4, 0, none⟩) (k + 1) cp4) (vs ++ ds.toList) (GG ++ Fr) (Y8.setCell ⟨w.heap.size + 1 + 1, 4, none⟩ (.slice (some ⟨g4, 0, none⟩) (k + 1) cp4)) ∧ Blk Y8 w.heap.size #[.int .i64 x.id, .int .i64 x.epoch, .bool x.live, .int .i64 x.granted, .slice (some ⟨b, off, none⟩) n1 c1, .slice a2 n2 c2, .int .i64 x.next] 27 ∧ Below w.heap.size w Y8) := ⟨ST.1, ST.2.1, ST.2.2.1⟩
     have co := ST.2.2.2.cell 4
     have fo := ST.2.2.2.frozen 4
     simp only [aT, aS, aZ] at co
     refine ⟨_, by simp [Act.put]; rfl, hK _ _ ⟨CS8.out.2, ?_⟩⟩
     clear hK hown hgrow hat ST GS
     refine takeH (o := ?o20) 10 (.pointer (some ⟨w.heap.size + 1 + 1, 4, none⟩)) ?h20 ?r20
     case h20 => simp only [aT, aS, aZ]; rfl
     refine ⟨_, by simp [Act.put]; rfl, by kernel_rfl, by kernel_rfl, by kernel_rfl, fun _ _ _ h => h, (.inl ⟨rfl, fun W _ => by kernel_rfl⟩), CS8.out.2, ?_⟩
     refine onlyH (o := ?o21) 11 (by kernel_rfl) ?h21 ?r21
     case h21 => simp only [aT, aS, aZ]; rfl
     intro K hK
     refine op_skip (Y8.setCell ⟨w.heap.size + 1 + 1, 4, none⟩ (.slice (some ⟨g4, 0, none⟩) (k + 1) cp4)) rfl (by go_simp) ⟨_, by simp [Act.put]; rfl, hK _ _ ⟨⟨CS8.out.1.three.box, CS8.out.1.three.bel⟩, ?_⟩⟩
     clear hK co fo
     refine wpAnyH_done (by kernel_rfl) ?_ _
     have HF : Hid (CopyG w #[.int .i64 x.id, .int .i64 x.epoch, .bool x.live, .int .i64 x.granted, .slice (some ⟨b, off, none⟩) n1 c1, .slice a2 n2 c2, .int .i64 x.next] x p2 l2 k2 G2 w1.heap.size (k + 1) (.slice (some ⟨g4, 0, none⟩) (k + 1) cp4) (vs ++ ds.toList) (GG ++ Fr) (Y8.setCell ⟨w.heap.size + 1 + 1, 4, none⟩ (.slice (some ⟨g4, 0, none⟩) (k + 1) cp4))) := CS8.out.1
     obtain ⟨YZ, hYZ⟩ : ∃ Z, Z = Y8.setCell ⟨w.heap.size + 1 + 1, 4, none⟩ (.slice (some ⟨g4, 0, none⟩) (k + 1) cp4) := ⟨_, rfl⟩
     rw [← hYZ] at HF ⊢
     clear hYZ CS8
     go_wp2
     go_roundw
     case rel => exact ⟨k + 1, _, _, _, by omega, by go_num, HF.out⟩
     case measure => simp [intOf]; omega
  ·
   obtain rfl : k = n1 := by omega
   obtain ⟨q1, d1, F1, rfl, rL, oL, hcp⟩ := CSS.out.grow.done HL.out.2.2
   have HE : Hid (Three w #[.int .i64 x.id, .int .i64 x.epoch, .bool x.live, .int .i64 x.granted, .slice a1 k c1, .slice a2 n2 c2, .int .i64 x.next] 27 #[.int .i64 0, .int .i64 0, .bool false, .int .i64 0, .slice none 0 0, .slice none 0 0, .int .i64 0] #[.int .i64 x.id, .int .i64 x.epoch, .bool x.live, .int .i64 x.granted, .slice q1 k d1, .slice p2 l2 k2, .int .i64 x.next] 27 wr ∧ RdL itK wr q1 k x.sealed F1 ∧ Own w1.heap.size wr F1 ∧ RdP wr p2 l2 x.taken G2 ∧ Own (w.heap.size + 3) wr G2 ∧ (∀ b ∈ F1, b ∉ G2) ∧ Capd q1 k d1 ∧ Capd p2 l2 k2) := ⟨CSS.out.three, rL, oL, CSS.out.r2, CSS.out.o2, fun b hb hx => by have h1 := oL.ge b hb; have h2 := CSS.out.lt b hx; omega, hcp, HG1.out.2.2⟩
   have HGW : Hid (GrowL itK 36 x.sealed w1.heap.size k (.slice q1 k d1) vs GG wr ∧ w.heap.size + 3 ≤ w1.heap.size ∧ ∀ b ∈ G2, b < w1.heap.size) := ⟨CSS.out.grow, hz1, CSS.out.lt⟩
   clear rL oL hcp CSS
   have hI : ¬ (k : Int) < (k : Int) := by omega
   go_wp2_with (first | go_skip | (with_reducible refine stopLoad 27 rfl ?_))
   refine load_known 27 (w.heap.size + 1 + 1) _ 27 _ HE.out.1.loc rfl rfl rfl Try.underlying27 rfl infoAgC8 ?_
   go_wp2_with (first | go_skip | (with_reducible refine stopStore 27 rfl ?_))
   refine store_known 27 (w.heap.size + 1) _ #[.int .i64 x.id, .int .i64 x.epoch, .bool x.live, .int .i64 x.granted, .slice q1 k d1, .slice p2 l2 k2, .int .i64 x.next] 27 HE.out.1.res rfl rfl rfl rfl infoAgC8 rfl (by simp [Value.oneCell']) ?_
   go_wp2
   refine bodyPost_ret (results_cell_row Try.results43 _ _ (w.heap.size + 1) _ _ (0, 0) _ rfl HE.out.1.res.setRow Try.underlying27 rfl infoAgC8) rfl ?_
   have nr : w.heap.size + 1 ∉ F1 := fun hx => by have := HE.out.2.2.1.ge _ hx; omega
   have mr : w.heap.size + 1 ∉ G2 := fun hx => by have := HE.out.2.2.2.2.1.ge _ hx; omega
   have hk' := HL.out.2.2
   subst hk'
   exact ⟨q1, d1, p2, l2, k2, F1, G2, w1.heap.size, vs, GG, rfl, HE.out.2.1.agree (Agree.row nr _), HE.out.2.2.2.1.agree (Agree.row mr _), HE.out.2.2.2.2.2.2.1, HE.out.2.2.2.2.2.2.2, (HE.out.2.2.1.agree (Agree.row nr _)).mono (by omega), (HE.out.2.2.2.2.1.agree (Agree.row mr _)).mono (by omega), HE.out.2.2.2.2.2.1, below_setRow HE.out.1.bel (by omega) _, HGW.out.1.setRow (by have := HGW.out.2.1; omega), by have := HGW.out.2.1; omega, HGW.out.2.2⟩
set_option maxRecDepth 200000 in
theorem l8Copy_any (v : Value) (x : Ag) (F0 G0 : List Nat) (w : World) (h : RdAg w v x F0 G0) (hf : ∀ y ∈ x.sealed, y.sk.fits) (hs : x.sealed.length ≤ 1048576) (hp : x.taken.length ≤ 1048576) :
 Calls Try.prog 43 #[v] w fun e w' => NewAg w x e w' :=
 (l8Copy_grow v x F0 G0 w h hf hs hp).mono fun e w' h => by
  obtain ⟨q1, k1, q2, l2, k2, F, G, lo, vs, GG, rfl, r1, r2, c1, c2, o1, o2, ap, b, _⟩ := h
  exact ⟨_, F, G, rfl, ⟨q1, _, k1, q2, l2, k2, rfl, r1, r2, c1, c2⟩, o1, o2, ap, b⟩
end Go.Proofs.Ytgkbhhlkaifnoaa
/- The walk through the model's AgentHear. No statement of the seat is proved here. -/
namespace Go.Proofs.Ytgkbhhlkaifnoaa
open Go.RowKit
def Ag.hears (x : Ag) (f : Fr) : Bool := x.ok && f.ok && decide (2 ≤ f.kind) && decide (f.agent = x.id) && (f.taken.ok && f.taken.under x.sealed.length)
/-- What an agent is behind a frame, and what it tells. -/
def Ag.hear (x : Ag) (f : Fr) : Ag × Int :=
 if x.hears f = false then (x, 1)
 else if f.epoch < x.epoch then (x, 2)
 else if f.kind = 2 ∧ f.epoch = x.epoch then (⟨x.id, x.epoch, true, max x.granted f.granted, x.sealed, joinTo x.taken f.taken f.taken.length, x.next⟩, 0)
 else (⟨x.id, f.epoch, decide (f.kind = 2), if f.kind = 2 then f.granted else 0, x.sealed, joinTo x.taken f.taken f.taken.length, x.next⟩, 0)
def NewAg2 (w : World) (z : Ag × Int) (e : Ending) (w' : World) : Prop := ∃ v F G c, e = .returned (.tuple #[v, .int .i64 c]) ∧ RdAg w' v z.1 F G ∧ c = z.2 ∧ Own w.heap.size w' F ∧ Own w.heap.size w' G ∧ (∀ b ∈ F, b ∉ G) ∧ Below w.heap.size w w'
section
variable {P : Program} {ops : Array Oper} {Q : Exit → Act → World → Prop} {a : Act} {w : World} {o : Oper} {rest : List Oper} {x y : Operand}
theorem load_knownw8 (ty : TypeId) (g : Nat) (cells : Array Value) (t : TypeId) (d : TypeDesc) (hg : Blk w g cells t) (hw : Region.wanted o (yielded ops a.tmps) = true) (ho : o.op = .load ty x) (hx : a.eval x = .pointer (some ⟨g, 0, none⟩))
 (hu : P.underlying ty = some d) (hd : (match d with | .struct _ | .array _ _ => true | _ => false) = true) (hi : (P.info? ty).map (·.size) = some cells.size)
 (h : wpList P ops Q rest (a.put o.dst (.agg cells)) w) : Stop (wpList P ops Q (o :: rest) a w) := by
 refine wpList_step fun K hK => ?_
 rw [if_pos hw]
 unfold Oper.wp execOp
 simp only [ho, hx, Instr.loadAt, Instr.sureAddr, Sem.run_bind, Sem.run_pure, Result.andThen_ok, run_loadVar_row w g t ty cells (0, 0) d hg hu hd hi]
 exact hK _ _ h
end
theorem infoAgH : (Try.prog.info? 27).map (·.size) = some 7 := by kernel_rfl
theorem infoFrH : (Try.prog.info? 38).map (·.size) = some 16 := by kernel_rfl
structure HearW (w : World) (A B : Array Value) (L : Nat) (C : Array Value) (W : World) : Prop where
 box : Blk W w.heap.size A 27
 fr : Blk W (w.heap.size + 1) B 38
 res : Blk W (w.heap.size + 1 + 1) #[.int .i64 0, .int .i64 0, .bool false, .int .i64 0, .slice none 0 0, .slice none 0 0, .int .i64 0] 27
 loc : Blk W L C 27
 bel : Below w.heap.size w W
 ord : w.heap.size + 1 + 1 < L
theorem HearW.below {w W W' : World} {A B C : Array Value} {L : Nat} (h : HearW w A B L C W) (b : Below W.heap.size W W') : HearW w A B L C W' := ⟨h.box.below b, h.fr.below b, h.res.below b, h.loc.below b, Below.next h.bel b, h.ord⟩
theorem HearW.set {w W : World} {A B C : Array Value} {L : Nat} (h : HearW w A B L C W) (j : Nat) (v : Value) : HearW w A B L (C.setIfInBounds j v) (W.setCell ⟨L, j, none⟩ v) := by
 have o := h.ord
 have b : Below w.heap.size w (W.setCell ⟨L, j, none⟩ v) := h.bel.setCell (by show w.heap.size ≤ L; omega) v
 exact ⟨h.box.setOther (by omega) j v, h.fr.setOther (by omega) j v, h.res.setOther (by omega) j v, h.loc.set j v, b, o⟩
set_option maxRecDepth 200000 in
set_option maxHeartbeats 8000000 in
theorem agentHear_any (v u : Value) (x : Ag) (f : Fr) (F G F' G' : List Nat) (w : World) (h : RdAg w v x F G) (k : RdFr w u f F' G') (hf : ∀ y ∈ x.sealed, y.sk.fits) (hs : x.sealed.length ≤ 1048576) (hl : x.taken.length ≤ 1048576) (kw : f.item.sk.wide) (kl : f.taken.length ≤ 1048576) :
 Calls Try.prog 25 #[v, u] w fun e w' => NewAg2 w (x.hear f) e w' := by
 obtain ⟨a1, n1, c1, a2, n2, c2, rfl, hL, hP, hc1, hc2⟩ := h
 obtain ⟨bt, lt, ct, b1, m1, e1, b2, m2, e2, b3, m3, e3, rfl, kP, kI, kc⟩ := k
 have HX : Hid (RdAg w (.agg #[.int .i64 x.id, .int .i64 x.epoch, .bool x.live, .int .i64 x.granted, .slice a1 n1 c1, .slice a2 n2 c2, .int .i64 x.next]) x F G ∧ (∀ y ∈ x.sealed, y.sk.fits) ∧ x.sealed.length ≤ 1048576 ∧ x.taken.length ≤ 1048576 ∧ x.sealed.length = n1 ∧ RdP w a2 n2 x.taken G ∧ (a2 = none → c2 = 0)) := ⟨⟨a1, n1, c1, a2, n2, c2, rfl, hL, hP, hc1, hc2⟩, hf, hs, hl, hL.length, hP, hc2.1⟩
 have HF : Hid (RdFr w (.agg #[.int .i64 f.kind, .int .i64 f.agent, .int .i64 f.epoch, .int .i64 f.granted, .slice bt lt ct, .int .i64 f.item.seq, .int .i64 f.item.cls, .int .i64 f.item.key, .int .i64 f.item.window, .int .i64 f.item.sk.count, .int .i64 f.item.sk.sum, .int .i64 f.item.sk.min, .int .i64 f.item.sk.max, .slice b1 m1 e1, .slice b2 m2 e2, .slice b3 m3 e3]) f F' G' ∧ f.item.sk.wide ∧ f.taken.length ≤ 1048576 ∧ RdP w bt lt f.taken F') := ⟨⟨bt, lt, ct, b1, m1, e1, b2, m2, e2, b3, m3, e3, rfl, kP, kI, kc⟩, kw, kl, kP⟩
 have hn1 : n1 ≤ 1048576 := by rw [← hL.length]; exact hs
 have hn2 : n2 ≤ 1048576 := by rw [← hP.length]; exact hl
 have hlt : lt ≤ 1048576 := by rw [← kP.length]; exact kl
 clear hL hP hc1 hc2 kP kI kc hf hs hl kw kl
 have HB0 : Hid (Blk (((w.alloc (.cells #[.int .i64 x.id, .int .i64 x.epoch, .bool x.live, .int .i64 x.granted, .slice a1 n1 c1, .slice a2 n2 c2, .int .i64 x.next] 27)).alloc (.cells #[.int .i64 f.kind, .int .i64 f.agent, .int .i64 f.epoch, .int .i64 f.granted, .slice bt lt ct, .int .i64 f.item.seq, .int .i64 f.item.cls, .int .i64 f.item.key, .int .i64 f.item.window, .int .i64 f.item.sk.count, .int .i64 f.item.sk.sum, .int .i64 f.item.sk.min, .int .i64 f.item.sk.max, .slice b1 m1 e1, .slice b2 m2 e2, .slice b3 m3 e3] 38)).alloc (.cells #[.int .i64 0, .int .i64 0, .bool false, .int .i64 0, .slice none 0 0, .slice none 0 0, .int .i64 0] 27)) w.heap.size #[.int .i64 x.id, .int .i64 x.epoch, .bool x.live, .int .i64 x.granted, .slice a1 n1 c1, .slice a2 n2 c2, .int .i64 x.next] 27 ∧ Blk (((w.alloc (.cells #[.int .i64 x.id, .int .i64 x.epoch, .bool x.live, .int .i64 x.granted, .slice a1 n1 c1, .slice a2 n2 c2, .int .i64 x.next] 27)).alloc (.cells #[.int .i64 f.kind, .int .i64 f.agent, .int .i64 f.epoch, .int .i64 f.granted, .slice bt lt ct, .int .i64 f.item.seq, .int .i64 f.item.cls, .int .i64 f.item.key, .int .i64 f.item.window, .int .i64 f.item.sk.count, .int .i64 f.item.sk.sum, .int .i64 f.item.sk.min, .int .i64 f.item.sk.max, .slice b1 m1 e1, .slice b2 m2 e2, .slice b3 m3 e3] 38)).alloc (.cells #[.int .i64 0, .int .i64 0, .bool false, .int .i64 0, .slice none 0 0, .slice none 0 0, .int .i64 0] 27)) (w.heap.size + 1) #[.int .i64 f.kind, .int .i64 f.agent, .int .i64 f.epoch, .int .i64 f.granted, .slice bt lt ct, .int .i64 f.item.seq, .int .i64 f.item.cls, .int .i64 f.item.key, .int .i64 f.item.window, .int .i64 f.item.sk.count, .int .i64 f.item.sk.sum, .int .i64 f.item.sk.min, .int .i64 f.item.sk.max, .slice b1 m1 e1, .slice b2 m2 e2, .slice b3 m3 e3] 38 ∧ Blk (((w.alloc (.cells #[.int .i64 x.id, .int .i64 x.epoch, .bool x.live, .int .i64 x.granted, .slice a1 n1 c1, .slice a2 n2 c2, .int .i64 x.next] 27)).alloc (.cells #[.int .i64 f.kind, .int .i64 f.agent, .int .i64 f.epoch, .int .i64 f.granted, .slice bt lt ct, .int .i64 f.item.seq, .int .i64 f.item.cls, .int .i64 f.item.key, .int .i64 f.item.window, .int .i64 f.item.sk.count, .int .i64 f.item.sk.sum, .int .i64 f.item.sk.min, .int .i64 f.item.sk.max, .slice b1 m1 e1, .slice b2 m2 e2, .slice b3 m3 e3] 38)).alloc (.cells #[.int .i64 0, .int .i64 0, .bool false, .int .i64 0, .slice none 0 0, .slice none 0 0, .int .i64 0] 27)) (w.heap.size + 1 + 1) #[.int .i64 0, .int .i64 0, .bool false, .int .i64 0, .slice none 0 0, .slice none 0 0, .int .i64 0] 27 ∧ Below w.heap.size w (((w.alloc (.cells #[.int .i64 x.id, .int .i64 x.epoch, .bool x.live, .int .i64 x.granted, .slice a1 n1 c1, .slice a2 n2 c2, .int .i64 x.next] 27)).alloc (.cells #[.int .i64 f.kind, .int .i64 f.agent, .int .i64 f.epoch, .int .i64 f.granted, .slice bt lt ct, .int .i64 f.item.seq, .int .i64 f.item.cls, .int .i64 f.item.key, .int .i64 f.item.window, .int .i64 f.item.sk.count, .int .i64 f.item.sk.sum, .int .i64 f.item.sk.min, .int .i64 f.item.sk.max, .slice b1 m1 e1, .slice b2 m2 e2, .slice b3 m3 e3] 38)).alloc (.cells #[.int .i64 0, .int .i64 0, .bool false, .int .i64 0, .slice none 0 0, .slice none 0 0, .int .i64 0] 27))) := by
  refine ⟨((Blk.made _ _ _).alloc _).alloc _, (Blk.made_eq (by simp)).alloc _, Blk.made_eq (by simp), Below.allocW _ (Below.allocW _ (Below.allocW _ (Below.refl _ _) (Nat.le_refl _)) (Nat.le_refl _)) (Nat.le_refl _)⟩
 go_enter Try.func25, Try.ntmps25
 go_wp2_with (first | go_skip | (with_reducible refine stopLoad 27 rfl ?_))
 obtain ⟨W0, hW0⟩ : ∃ W, W = ((w.alloc (.cells #[.int .i64 x.id, .int .i64 x.epoch, .bool x.live, .int .i64 x.granted, .slice a1 n1 c1, .slice a2 n2 c2, .int .i64 x.next] 27)).alloc (.cells #[.int .i64 f.kind, .int .i64 f.agent, .int .i64 f.epoch, .int .i64 f.granted, .slice bt lt ct, .int .i64 f.item.seq, .int .i64 f.item.cls, .int .i64 f.item.key, .int .i64 f.item.window, .int .i64 f.item.sk.count, .int .i64 f.item.sk.sum, .int .i64 f.item.sk.min, .int .i64 f.item.sk.max, .slice b1 m1 e1, .slice b2 m2 e2, .slice b3 m3 e3] 38)).alloc (.cells #[.int .i64 0, .int .i64 0, .bool false, .int .i64 0, .slice none 0 0, .slice none 0 0, .int .i64 0] 27) := ⟨_, rfl⟩
 rw [← hW0] at HB0 ⊢
 clear hW0
 refine load_known 27 w.heap.size _ 27 _ HB0.out.1 rfl rfl rfl Try.underlying27 rfl infoAgH ?_
 go_wp2_with fail
 refine (l8Copy_any _ x F G _ (HX.out.1.below HB0.out.2.2.2) HX.out.2.1 HX.out.2.2.1 HX.out.2.2.2.1).mono ?_
 rintro e w1 ⟨v1, F1, G1, rfl, r1, oF, oG, ap, hb1⟩
 obtain ⟨q1, l1, k1, q2, l2, k2, rfl, rL, rP, hk1, hk2⟩ := r1
 have l0 : w.heap.size + 1 + 1 < W0.heap.size := HB0.out.2.2.1.lt
 have H1 : Hid (Blk w1 w.heap.size #[.int .i64 x.id, .int .i64 x.epoch, .bool x.live, .int .i64 x.granted, .slice a1 n1 c1, .slice a2 n2 c2, .int .i64 x.next] 27 ∧ Blk w1 (w.heap.size + 1) #[.int .i64 f.kind, .int .i64 f.agent, .int .i64 f.epoch, .int .i64 f.granted, .slice bt lt ct, .int .i64 f.item.seq, .int .i64 f.item.cls, .int .i64 f.item.key, .int .i64 f.item.window, .int .i64 f.item.sk.count, .int .i64 f.item.sk.sum, .int .i64 f.item.sk.min, .int .i64 f.item.sk.max, .slice b1 m1 e1, .slice b2 m2 e2, .slice b3 m3 e3] 38 ∧ Blk w1 (w.heap.size + 1 + 1) #[.int .i64 0, .int .i64 0, .bool false, .int .i64 0, .slice none 0 0, .slice none 0 0, .int .i64 0] 27 ∧ Below w.heap.size w w1 ∧ RdL itK w1 q1 l1 x.sealed F1 ∧ Own (w.heap.size + 3) w1 F1 ∧ RdP w1 q2 l2 x.taken G1 ∧ Own (w.heap.size + 3) w1 G1 ∧ (∀ b ∈ F1, b ∉ G1)) := ⟨HB0.out.1.below hb1, HB0.out.2.1.below hb1, HB0.out.2.2.1.below hb1, Below.next HB0.out.2.2.2 hb1, rL, oF.mono (by omega), rP, oG.mono (by omega), ap⟩
 have HCP : Hid (Capd q1 l1 k1 ∧ Capd q2 l2 k2) := ⟨hk1, hk2⟩
 clear rL rP hk1 hk2 oF oG ap hb1 HB0
 go_wp2_with (first | go_skip | (with_reducible refine stopStore 27 rfl ?_))
 refine store_fresh 27 w1.heap.size rfl #[.int .i64 0, .int .i64 0, .bool false, .int .i64 0, .slice none 0 0, .slice none 0 0, .int .i64 0] #[.int .i64 x.id, .int .i64 x.epoch, .bool x.live, .int .i64 x.granted, .slice q1 l1 k1, .slice q2 l2 k2, .int .i64 x.next] 27 rfl rfl rfl rfl infoAgH rfl (by simp [Value.oneCell']) ?_
 intro w2 hg2 hb2
 obtain ⟨L, hL⟩ : ∃ L, L = w1.heap.size := ⟨_, rfl⟩
 have H2 : Hid (HearW w #[.int .i64 x.id, .int .i64 x.epoch, .bool x.live, .int .i64 x.granted, .slice a1 n1 c1, .slice a2 n2 c2, .int .i64 x.next] #[.int .i64 f.kind, .int .i64 f.agent, .int .i64 f.epoch, .int .i64 f.granted, .slice bt lt ct, .int .i64 f.item.seq, .int .i64 f.item.cls, .int .i64 f.item.key, .int .i64 f.item.window, .int .i64 f.item.sk.count, .int .i64 f.item.sk.sum, .int .i64 f.item.sk.min, .int .i64 f.item.sk.max, .slice b1 m1 e1, .slice b2 m2 e2, .slice b3 m3 e3] L #[.int .i64 x.id, .int .i64 x.epoch, .bool x.live, .int .i64 x.granted, .slice q1 l1 k1, .slice q2 l2 k2, .int .i64 x.next] w2 ∧ RdL itK w2 q1 l1 x.sealed F1 ∧ Own (w.heap.size + 3) w2 F1 ∧ RdP w2 q2 l2 x.taken G1 ∧ Own (w.heap.size + 3) w2 G1 ∧ (∀ b ∈ F1, b ∉ G1) ∧ (∀ b ∈ F1, b < L) ∧ (∀ b ∈ G1, b < L)) := ⟨⟨H1.out.1.below hb2, H1.out.2.1.below hb2, H1.out.2.2.1.below hb2, by rw [hL]; exact hg2, Below.next H1.out.2.2.2.1 hb2, by rw [hL]; exact H1.out.2.2.1.lt⟩, H1.out.2.2.2.2.1.below hb2, H1.out.2.2.2.2.2.1.below H1.out.2.2.2.2.1.lt hb2, H1.out.2.2.2.2.2.2.1.below hb2, H1.out.2.2.2.2.2.2.2.1.below H1.out.2.2.2.2.2.2.1.lt hb2, H1.out.2.2.2.2.2.2.2.2, fun b hb => by rw [hL]; exact H1.out.2.2.2.2.1.lt b hb, fun b hb => by rw [hL]; exact H1.out.2.2.2.2.2.2.1.lt b hb⟩
 rw [← hL]
 clear hg2 hb2 H1 hL
 go_wp2_with (first | go_skip | (with_reducible refine stopLoad 27 rfl ?_))
 refine load_known 27 w.heap.size _ 27 _ H2.out.1.box rfl rfl rfl Try.underlying27 rfl infoAgH ?_
 go_wp2_with fail
 refine (agentOkSpec_any _ x F G _ (HX.out.1.below H2.out.1.bel) (fun y hy => (HX.out.2.1 y hy).wide) (by have := HX.out.2.2.1; omega) (by have := HX.out.2.2.2.1; omega)).mono ?_
 rintro e w3 ⟨rfl, hb3⟩
 have H3 : Hid (HearW w #[.int .i64 x.id, .int .i64 x.epoch, .bool x.live, .int .i64 x.granted, .slice a1 n1 c1, .slice a2 n2 c2, .int .i64 x.next] #[.int .i64 f.kind, .int .i64 f.agent, .int .i64 f.epoch, .int .i64 f.granted, .slice bt lt ct, .int .i64 f.item.seq, .int .i64 f.item.cls, .int .i64 f.item.key, .int .i64 f.item.window, .int .i64 f.item.sk.count, .int .i64 f.item.sk.sum, .int .i64 f.item.sk.min, .int .i64 f.item.sk.max, .slice b1 m1 e1, .slice b2 m2 e2, .slice b3 m3 e3] L #[.int .i64 x.id, .int .i64 x.epoch, .bool x.live, .int .i64 x.granted, .slice q1 l1 k1, .slice q2 l2 k2, .int .i64 x.next] w3 ∧ RdL itK w3 q1 l1 x.sealed F1 ∧ Own (w.heap.size + 3) w3 F1 ∧ RdP w3 q2 l2 x.taken G1 ∧ Own (w.heap.size + 3) w3 G1 ∧ (∀ b ∈ F1, b ∉ G1) ∧ (∀ b ∈ F1, b < L) ∧ (∀ b ∈ G1, b < L)) := ⟨H2.out.1.below hb3, H2.out.2.1.below hb3, H2.out.2.2.1.below H2.out.2.1.lt hb3, H2.out.2.2.2.1.below hb3, H2.out.2.2.2.2.1.below H2.out.2.2.2.1.lt hb3, H2.out.2.2.2.2.2.1, H2.out.2.2.2.2.2.2⟩
 obtain ⟨d1, hd1⟩ : ∃ d, d = x.ok := ⟨_, rfl⟩
 rw [← hd1]
 have HD1 : Hid (d1 = x.ok) := hd1
 clear hb3 hd1 H2
 cases d1
 ·
  have HV : Hid (x.hear f = (x, 1)) := by show _ = _; unfold Ag.hear; rw [if_pos (by unfold Ag.hears; rw [← HD1.out]; rfl)]
  have HE : Hid (HearW w #[.int .i64 x.id, .int .i64 x.epoch, .bool x.live, .int .i64 x.granted, .slice a1 n1 c1, .slice a2 n2 c2, .int .i64 x.next] #[.int .i64 f.kind, .int .i64 f.agent, .int .i64 f.epoch, .int .i64 f.granted, .slice bt lt ct, .int .i64 f.item.seq, .int .i64 f.item.cls, .int .i64 f.item.key, .int .i64 f.item.window, .int .i64 f.item.sk.count, .int .i64 f.item.sk.sum, .int .i64 f.item.sk.min, .int .i64 f.item.sk.max, .slice b1 m1 e1, .slice b2 m2 e2, .slice b3 m3 e3] L #[.int .i64 x.id, .int .i64 x.epoch, .bool x.live, .int .i64 x.granted, .slice q1 l1 k1, .slice q2 l2 k2, .int .i64 x.next] w3 ∧ RdL itK w3 q1 l1 x.sealed F1 ∧ Own (w.heap.size + 3) w3 F1 ∧ RdP w3 q2 l2 x.taken G1 ∧ Own (w.heap.size + 3) w3 G1 ∧ (∀ b ∈ F1, b ∉ G1) ∧ Capd q1 l1 k1 ∧ Capd q2 l2 k2) := ⟨H3.out.1, H3.out.2.1, H3.out.2.2.1, H3.out.2.2.2.1, H3.out.2.2.2.2.1, H3.out.2.2.2.2.2.1, HCP.out.1, HCP.out.2⟩
  go_wp2_with (first | go_skip | (with_reducible refine stopLoad 27 rfl ?_))
  refine load_known 27 L _ 27 _ HE.out.1.loc rfl rfl rfl Try.underlying27 rfl infoAgH ?_
  go_wp2_with (first | go_skip | (with_reducible refine stopStore 27 rfl ?_))
  refine store_known 27 (w.heap.size + 1 + 1) _ #[.int .i64 x.id, .int .i64 x.epoch, .bool x.live, .int .i64 x.granted, .slice q1 l1 k1, .slice q2 l2 k2, .int .i64 x.next] 27 HE.out.1.res rfl rfl rfl rfl infoAgH rfl (by simp [Value.oneCell']) ?_
  go_wp2
  refine bodyPost_ret (results_row_tmp Try.results25 _ _ (w.heap.size + 1 + 1) _ _ _ _ rfl HE.out.1.res.setRow Try.underlying27 rfl infoAgH) rfl ?_
  have nr : w.heap.size + 1 + 1 ∉ F1 := fun hx => by have := HE.out.2.2.1.ge _ hx; omega
  have mr : w.heap.size + 1 + 1 ∉ G1 := fun hx => by have := HE.out.2.2.2.2.1.ge _ hx; omega
  exact ⟨_, F1, G1, 1, rfl, by rw [HV.out]; exact ⟨q1, l1, k1, q2, l2, k2, rfl, HE.out.2.1.agree (Agree.row nr _), HE.out.2.2.2.1.agree (Agree.row mr _), HE.out.2.2.2.2.2.2.1, HE.out.2.2.2.2.2.2.2⟩, by rw [HV.out], (HE.out.2.2.1.agree (Agree.row nr _)).mono (by omega), (HE.out.2.2.2.2.1.agree (Agree.row mr _)).mono (by omega), HE.out.2.2.2.2.2.1, below_setRow HE.out.1.bel (by omega) _⟩
 go_wp2_with (first | go_skip | (with_reducible refine stopLoad 38 rfl ?_))
 refine load_knownw8 38 (w.heap.size + 1) _ 38 _ H3.out.1.fr rfl rfl rfl Try.underlying38 rfl infoFrH ?_
 go_wp2_with fail
 refine (frameOkSpec_any _ f F' G' _ (HF.out.1.below H3.out.1.bel) HF.out.2.1 (by have := HF.out.2.2.1; omega)).mono ?_
 rintro e w4 ⟨rfl, hb4⟩
 have H4 : Hid (HearW w #[.int .i64 x.id, .int .i64 x.epoch, .bool x.live, .int .i64 x.granted, .slice a1 n1 c1, .slice a2 n2 c2, .int .i64 x.next] #[.int .i64 f.kind, .int .i64 f.agent, .int .i64 f.epoch, .int .i64 f.granted, .slice bt lt ct, .int .i64 f.item.seq, .int .i64 f.item.cls, .int .i64 f.item.key, .int .i64 f.item.window, .int .i64 f.item.sk.count, .int .i64 f.item.sk.sum, .int .i64 f.item.sk.min, .int .i64 f.item.sk.max, .slice b1 m1 e1, .slice b2 m2 e2, .slice b3 m3 e3] L #[.int .i64 x.id, .int .i64 x.epoch, .bool x.live, .int .i64 x.granted, .slice q1 l1 k1, .slice q2 l2 k2, .int .i64 x.next] w4 ∧ RdL itK w4 q1 l1 x.sealed F1 ∧ Own (w.heap.size + 3) w4 F1 ∧ RdP w4 q2 l2 x.taken G1 ∧ Own (w.heap.size + 3) w4 G1 ∧ (∀ b ∈ F1, b ∉ G1) ∧ (∀ b ∈ F1, b < L) ∧ (∀ b ∈ G1, b < L)) := ⟨H3.out.1.below hb4, H3.out.2.1.below hb4, H3.out.2.2.1.below H3.out.2.1.lt hb4, H3.out.2.2.2.1.below hb4, H3.out.2.2.2.2.1.below H3.out.2.2.2.1.lt hb4, H3.out.2.2.2.2.2.1, H3.out.2.2.2.2.2.2⟩
 obtain ⟨d2, hd2⟩ : ∃ d, d = f.ok := ⟨_, rfl⟩
 rw [← hd2]
 have HD2 : Hid (d2 = f.ok) := hd2
 clear hb4 hd2 H3
 cases d2
 ·
  have HV : Hid (x.hear f = (x, 1)) := by show _ = _; unfold Ag.hear; rw [if_pos (by unfold Ag.hears; rw [← HD1.out, ← HD2.out]; rfl)]
  have HE : Hid (HearW w #[.int .i64 x.id, .int .i64 x.epoch, .bool x.live, .int .i64 x.granted, .slice a1 n1 c1, .slice a2 n2 c2, .int .i64 x.next] #[.int .i64 f.kind, .int .i64 f.agent, .int .i64 f.epoch, .int .i64 f.granted, .slice bt lt ct, .int .i64 f.item.seq, .int .i64 f.item.cls, .int .i64 f.item.key, .int .i64 f.item.window, .int .i64 f.item.sk.count, .int .i64 f.item.sk.sum, .int .i64 f.item.sk.min, .int .i64 f.item.sk.max, .slice b1 m1 e1, .slice b2 m2 e2, .slice b3 m3 e3] L #[.int .i64 x.id, .int .i64 x.epoch, .bool x.live, .int .i64 x.granted, .slice q1 l1 k1, .slice q2 l2 k2, .int .i64 x.next] w4 ∧ RdL itK w4 q1 l1 x.sealed F1 ∧ Own (w.heap.size + 3) w4 F1 ∧ RdP w4 q2 l2 x.taken G1 ∧ Own (w.heap.size + 3) w4 G1 ∧ (∀ b ∈ F1, b ∉ G1) ∧ Capd q1 l1 k1 ∧ Capd q2 l2 k2) := ⟨H4.out.1, H4.out.2.1, H4.out.2.2.1, H4.out.2.2.2.1, H4.out.2.2.2.2.1, H4.out.2.2.2.2.2.1, HCP.out.1, HCP.out.2⟩
  go_wp2_with (first | go_skip | (with_reducible refine stopLoad 27 rfl ?_))
  refine load_known 27 L _ 27 _ HE.out.1.loc rfl rfl rfl Try.underlying27 rfl infoAgH ?_
  go_wp2_with (first | go_skip | (with_reducible refine stopStore 27 rfl ?_))
  refine store_known 27 (w.heap.size + 1 + 1) _ #[.int .i64 x.id, .int .i64 x.epoch, .bool x.live, .int .i64 x.granted, .slice q1 l1 k1, .slice q2 l2 k2, .int .i64 x.next] 27 HE.out.1.res rfl rfl rfl rfl infoAgH rfl (by simp [Value.oneCell']) ?_
  go_wp2
  refine bodyPost_ret (results_row_tmp Try.results25 _ _ (w.heap.size + 1 + 1) _ _ _ _ rfl HE.out.1.res.setRow Try.underlying27 rfl infoAgH) rfl ?_
  have nr : w.heap.size + 1 + 1 ∉ F1 := fun hx => by have := HE.out.2.2.1.ge _ hx; omega
  have mr : w.heap.size + 1 + 1 ∉ G1 := fun hx => by have := HE.out.2.2.2.2.1.ge _ hx; omega
  exact ⟨_, F1, G1, 1, rfl, by rw [HV.out]; exact ⟨q1, l1, k1, q2, l2, k2, rfl, HE.out.2.1.agree (Agree.row nr _), HE.out.2.2.2.1.agree (Agree.row mr _), HE.out.2.2.2.2.2.2.1, HE.out.2.2.2.2.2.2.2⟩, by rw [HV.out], (HE.out.2.2.1.agree (Agree.row nr _)).mono (by omega), (HE.out.2.2.2.2.1.agree (Agree.row mr _)).mono (by omega), HE.out.2.2.2.2.2.1, below_setRow HE.out.1.bel (by omega) _⟩
 have g0 := H4.out.1.fr.cell 0
 have g1 := H4.out.1.fr.cell 1
 have g4 := H4.out.1.fr.cell 4
 have h0 := H4.out.1.box.cell 0
 have h4 := H4.out.1.box.cell 4
 simp only [aT, aS, aZ] at g0 g1 g4 h0 h4
 by_cases hk : f.kind < 2
 ·
  have hkd : decide (f.kind < 2) = true := dec_true hk
  have HV : Hid (x.hear f = (x, 1)) := by show _ = _; unfold Ag.hear; rw [if_pos (by unfold Ag.hears; rw [decide_eq_false (by omega : ¬ 2 ≤ f.kind)]; simp)]
  have HE : Hid (HearW w #[.int .i64 x.id, .int .i64 x.epoch, .bool x.live, .int .i64 x.granted, .slice a1 n1 c1, .slice a2 n2 c2, .int .i64 x.next] #[.int .i64 f.kind, .int .i64 f.agent, .int .i64 f.epoch, .int .i64 f.granted, .slice bt lt ct, .int .i64 f.item.seq, .int .i64 f.item.cls, .int .i64 f.item.key, .int .i64 f.item.window, .int .i64 f.item.sk.count, .int .i64 f.item.sk.sum, .int .i64 f.item.sk.min, .int .i64 f.item.sk.max, .slice b1 m1 e1, .slice b2 m2 e2, .slice b3 m3 e3] L #[.int .i64 x.id, .int .i64 x.epoch, .bool x.live, .int .i64 x.granted, .slice q1 l1 k1, .slice q2 l2 k2, .int .i64 x.next] w4 ∧ RdL itK w4 q1 l1 x.sealed F1 ∧ Own (w.heap.size + 3) w4 F1 ∧ RdP w4 q2 l2 x.taken G1 ∧ Own (w.heap.size + 3) w4 G1 ∧ (∀ b ∈ F1, b ∉ G1) ∧ Capd q1 l1 k1 ∧ Capd q2 l2 k2) := ⟨H4.out.1, H4.out.2.1, H4.out.2.2.1, H4.out.2.2.2.1, H4.out.2.2.2.2.1, H4.out.2.2.2.2.2.1, HCP.out.1, HCP.out.2⟩
  go_wp2_with (first | go_skip | (with_reducible refine stopLoad 27 rfl ?_))
  refine load_known 27 L _ 27 _ HE.out.1.loc rfl rfl rfl Try.underlying27 rfl infoAgH ?_
  go_wp2_with (first | go_skip | (with_reducible refine stopStore 27 rfl ?_))
  refine store_known 27 (w.heap.size + 1 + 1) _ #[.int .i64 x.id, .int .i64 x.epoch, .bool x.live, .int .i64 x.granted, .slice q1 l1 k1, .slice q2 l2 k2, .int .i64 x.next] 27 HE.out.1.res rfl rfl rfl rfl infoAgH rfl (by simp [Value.oneCell']) ?_
  go_wp2
  refine bodyPost_ret (results_row_tmp Try.results25 _ _ (w.heap.size + 1 + 1) _ _ _ _ rfl HE.out.1.res.setRow Try.underlying27 rfl infoAgH) rfl ?_
  have nr : w.heap.size + 1 + 1 ∉ F1 := fun hx => by have := HE.out.2.2.1.ge _ hx; omega
  have mr : w.heap.size + 1 + 1 ∉ G1 := fun hx => by have := HE.out.2.2.2.2.1.ge _ hx; omega
  exact ⟨_, F1, G1, 1, rfl, by rw [HV.out]; exact ⟨q1, l1, k1, q2, l2, k2, rfl, HE.out.2.1.agree (Agree.row nr _), HE.out.2.2.2.1.agree (Agree.row mr _), HE.out.2.2.2.2.2.2.1, HE.out.2.2.2.2.2.2.2⟩, by rw [HV.out], (HE.out.2.2.1.agree (Agree.row nr _)).mono (by omega), (HE.out.2.2.2.2.1.agree (Agree.row mr _)).mono (by omega), HE.out.2.2.2.2.2.1, below_setRow HE.out.1.bel (by omega) _⟩
 have hkd : decide (f.kind < 2) = false := dec_false hk
 by_cases ha : f.agent = x.id
 rotate_left
 ·
  have hab : (f.agent != x.id) = true := by simpa using ha
  have HV : Hid (x.hear f = (x, 1)) := by show _ = _; unfold Ag.hear; rw [if_pos (by unfold Ag.hears; rw [decide_eq_false ha]; simp)]
  have HE : Hid (HearW w #[.int .i64 x.id, .int .i64 x.epoch, .bool x.live, .int .i64 x.granted, .slice a1 n1 c1, .slice a2 n2 c2, .int .i64 x.next] #[.int .i64 f.kind, .int .i64 f.agent, .int .i64 f.epoch, .int .i64 f.granted, .slice bt lt ct, .int .i64 f.item.seq, .int .i64 f.item.cls, .int .i64 f.item.key, .int .i64 f.item.window, .int .i64 f.item.sk.count, .int .i64 f.item.sk.sum, .int .i64 f.item.sk.min, .int .i64 f.item.sk.max, .slice b1 m1 e1, .slice b2 m2 e2, .slice b3 m3 e3] L #[.int .i64 x.id, .int .i64 x.epoch, .bool x.live, .int .i64 x.granted, .slice q1 l1 k1, .slice q2 l2 k2, .int .i64 x.next] w4 ∧ RdL itK w4 q1 l1 x.sealed F1 ∧ Own (w.heap.size + 3) w4 F1 ∧ RdP w4 q2 l2 x.taken G1 ∧ Own (w.heap.size + 3) w4 G1 ∧ (∀ b ∈ F1, b ∉ G1) ∧ Capd q1 l1 k1 ∧ Capd q2 l2 k2) := ⟨H4.out.1, H4.out.2.1, H4.out.2.2.1, H4.out.2.2.2.1, H4.out.2.2.2.2.1, H4.out.2.2.2.2.2.1, HCP.out.1, HCP.out.2⟩
  go_wp2_with (first | go_skip | (with_reducible refine stopLoad 27 rfl ?_))
  refine load_known 27 L _ 27 _ HE.out.1.loc rfl rfl rfl Try.underlying27 rfl infoAgH ?_
  go_wp2_with (first | go_skip | (with_reducible refine stopStore 27 rfl ?_))
  refine store_known 27 (w.heap.size + 1 + 1) _ #[.int .i64 x.id, .int .i64 x.epoch, .bool x.live, .int .i64 x.granted, .slice q1 l1 k1, .slice q2 l2 k2, .int .i64 x.next] 27 HE.out.1.res rfl rfl rfl rfl infoAgH rfl (by simp [Value.oneCell']) ?_
  go_wp2
  refine bodyPost_ret (results_row_tmp Try.results25 _ _ (w.heap.size + 1 + 1) _ _ _ _ rfl HE.out.1.res.setRow Try.underlying27 rfl infoAgH) rfl ?_
  have nr : w.heap.size + 1 + 1 ∉ F1 := fun hx => by have := HE.out.2.2.1.ge _ hx; omega
  have mr : w.heap.size + 1 + 1 ∉ G1 := fun hx => by have := HE.out.2.2.2.2.1.ge _ hx; omega
  exact ⟨_, F1, G1, 1, rfl, by rw [HV.out]; exact ⟨q1, l1, k1, q2, l2, k2, rfl, HE.out.2.1.agree (Agree.row nr _), HE.out.2.2.2.1.agree (Agree.row mr _), HE.out.2.2.2.2.2.2.1, HE.out.2.2.2.2.2.2.2⟩, by rw [HV.out], (HE.out.2.2.1.agree (Agree.row nr _)).mono (by omega), (HE.out.2.2.2.2.1.agree (Agree.row mr _)).mono (by omega), HE.out.2.2.2.2.2.1, below_setRow HE.out.1.bel (by omega) _⟩
 have hab : (f.agent != x.id) = false := by simpa using ha
 go_wp2_with fail
 refine (l8Below_any bt lt ct n1 f.taken F' _ (HF.out.2.2.2.below H4.out.1.bel) (by omega)).mono ?_
 rintro e w5 ⟨rfl, hb5⟩
 have H5 : Hid (HearW w #[.int .i64 x.id, .int .i64 x.epoch, .bool x.live, .int .i64 x.granted, .slice a1 n1 c1, .slice a2 n2 c2, .int .i64 x.next] #[.int .i64 f.kind, .int .i64 f.agent, .int .i64 f.epoch, .int .i64 f.granted, .slice bt lt ct, .int .i64 f.item.seq, .int .i64 f.item.cls, .int .i64 f.item.key, .int .i64 f.item.window, .int .i64 f.item.sk.count, .int .i64 f.item.sk.sum, .int .i64 f.item.sk.min, .int .i64 f.item.sk.max, .slice b1 m1 e1, .slice b2 m2 e2, .slice b3 m3 e3] L #[.int .i64 x.id, .int .i64 x.epoch, .bool x.live, .int .i64 x.granted, .slice q1 l1 k1, .slice q2 l2 k2, .int .i64 x.next] w5 ∧ RdL itK w5 q1 l1 x.sealed F1 ∧ Own (w.heap.size + 3) w5 F1 ∧ RdP w5 q2 l2 x.taken G1 ∧ Own (w.heap.size + 3) w5 G1 ∧ (∀ b ∈ F1, b ∉ G1) ∧ (∀ b ∈ F1, b < L) ∧ (∀ b ∈ G1, b < L)) := ⟨H4.out.1.below hb5, H4.out.2.1.below hb5, H4.out.2.2.1.below H4.out.2.1.lt hb5, H4.out.2.2.2.1.below hb5, H4.out.2.2.2.2.1.below H4.out.2.2.2.1.lt hb5, H4.out.2.2.2.2.2.1, H4.out.2.2.2.2.2.2⟩
 obtain ⟨d3, hd3⟩ : ∃ d, d = (f.taken.ok && f.taken.under n1) := ⟨_, rfl⟩
 rw [← hd3]
 have HD3 : Hid (d3 = (f.taken.ok && f.taken.under n1)) := hd3
 clear hb5 hd3 H4 g0 g1 g4 h0 h4
 cases d3
 ·
  have HV : Hid (x.hear f = (x, 1)) := by show _ = _; unfold Ag.hear; rw [if_pos (by unfold Ag.hears; rw [HX.out.2.2.2.2.1, ← HD3.out]; simp)]
  have HE : Hid (HearW w #[.int .i64 x.id, .int .i64 x.epoch, .bool x.live, .int .i64 x.granted, .slice a1 n1 c1, .slice a2 n2 c2, .int .i64 x.next] #[.int .i64 f.kind, .int .i64 f.agent, .int .i64 f.epoch, .int .i64 f.granted, .slice bt lt ct, .int .i64 f.item.seq, .int .i64 f.item.cls, .int .i64 f.item.key, .int .i64 f.item.window, .int .i64 f.item.sk.count, .int .i64 f.item.sk.sum, .int .i64 f.item.sk.min, .int .i64 f.item.sk.max, .slice b1 m1 e1, .slice b2 m2 e2, .slice b3 m3 e3] L #[.int .i64 x.id, .int .i64 x.epoch, .bool x.live, .int .i64 x.granted, .slice q1 l1 k1, .slice q2 l2 k2, .int .i64 x.next] w5 ∧ RdL itK w5 q1 l1 x.sealed F1 ∧ Own (w.heap.size + 3) w5 F1 ∧ RdP w5 q2 l2 x.taken G1 ∧ Own (w.heap.size + 3) w5 G1 ∧ (∀ b ∈ F1, b ∉ G1) ∧ Capd q1 l1 k1 ∧ Capd q2 l2 k2) := ⟨H5.out.1, H5.out.2.1, H5.out.2.2.1, H5.out.2.2.2.1, H5.out.2.2.2.2.1, H5.out.2.2.2.2.2.1, HCP.out.1, HCP.out.2⟩
  go_wp2_with (first | go_skip | (with_reducible refine stopLoad 27 rfl ?_))
  refine load_known 27 L _ 27 _ HE.out.1.loc rfl rfl rfl Try.underlying27 rfl infoAgH ?_
  go_wp2_with (first | go_skip | (with_reducible refine stopStore 27 rfl ?_))
  refine store_known 27 (w.heap.size + 1 + 1) _ #[.int .i64 x.id, .int .i64 x.epoch, .bool x.live, .int .i64 x.granted, .slice q1 l1 k1, .slice q2 l2 k2, .int .i64 x.next] 27 HE.out.1.res rfl rfl rfl rfl infoAgH rfl (by simp [Value.oneCell']) ?_
  go_wp2
  refine bodyPost_ret (results_row_tmp Try.results25 _ _ (w.heap.size + 1 + 1) _ _ _ _ rfl HE.out.1.res.setRow Try.underlying27 rfl infoAgH) rfl ?_
  have nr : w.heap.size + 1 + 1 ∉ F1 := fun hx => by have := HE.out.2.2.1.ge _ hx; omega
  have mr : w.heap.size + 1 + 1 ∉ G1 := fun hx => by have := HE.out.2.2.2.2.1.ge _ hx; omega
  exact ⟨_, F1, G1, 1, rfl, by rw [HV.out]; exact ⟨q1, l1, k1, q2, l2, k2, rfl, HE.out.2.1.agree (Agree.row nr _), HE.out.2.2.2.1.agree (Agree.row mr _), HE.out.2.2.2.2.2.2.1, HE.out.2.2.2.2.2.2.2⟩, by rw [HV.out], (HE.out.2.2.1.agree (Agree.row nr _)).mono (by omega), (HE.out.2.2.2.2.1.agree (Agree.row mr _)).mono (by omega), HE.out.2.2.2.2.2.1, below_setRow HE.out.1.bel (by omega) _⟩
 have HH : Hid (x.hears f = true) := by
  show _ = _
  unfold Ag.hears
  rw [HX.out.2.2.2.2.1, ← HD3.out, ← HD1.out, ← HD2.out, decide_eq_true (by omega : 2 ≤ f.kind), decide_eq_true ha]
  rfl
 clear hk ha hkd hab
 have g0 := H5.out.1.fr.cell 0
 have g2 := H5.out.1.fr.cell 2
 have g3 := H5.out.1.fr.cell 3
 have g4 := H5.out.1.fr.cell 4
 have h1 := H5.out.1.box.cell 1
 have h3 := H5.out.1.box.cell 3
 have h5 := H5.out.1.box.cell 5
 simp only [aT, aS, aZ] at g0 g2 g3 g4 h1 h3 h5
 by_cases he : f.epoch < x.epoch
 ·
  have hed : decide (f.epoch < x.epoch) = true := dec_true he
  have HV : Hid (x.hear f = (x, 2)) := by show _ = _; unfold Ag.hear; rw [if_neg (by rw [HH.out]; simp), if_pos he]
  have HE : Hid (HearW w #[.int .i64 x.id, .int .i64 x.epoch, .bool x.live, .int .i64 x.granted, .slice a1 n1 c1, .slice a2 n2 c2, .int .i64 x.next] #[.int .i64 f.kind, .int .i64 f.agent, .int .i64 f.epoch, .int .i64 f.granted, .slice bt lt ct, .int .i64 f.item.seq, .int .i64 f.item.cls, .int .i64 f.item.key, .int .i64 f.item.window, .int .i64 f.item.sk.count, .int .i64 f.item.sk.sum, .int .i64 f.item.sk.min, .int .i64 f.item.sk.max, .slice b1 m1 e1, .slice b2 m2 e2, .slice b3 m3 e3] L #[.int .i64 x.id, .int .i64 x.epoch, .bool x.live, .int .i64 x.granted, .slice q1 l1 k1, .slice q2 l2 k2, .int .i64 x.next] w5 ∧ RdL itK w5 q1 l1 x.sealed F1 ∧ Own (w.heap.size + 3) w5 F1 ∧ RdP w5 q2 l2 x.taken G1 ∧ Own (w.heap.size + 3) w5 G1 ∧ (∀ b ∈ F1, b ∉ G1) ∧ Capd q1 l1 k1 ∧ Capd q2 l2 k2) := ⟨H5.out.1, H5.out.2.1, H5.out.2.2.1, H5.out.2.2.2.1, H5.out.2.2.2.2.1, H5.out.2.2.2.2.2.1, HCP.out.1, HCP.out.2⟩
  go_wp2_with (first | go_skip | (with_reducible refine stopLoad 27 rfl ?_))
  refine load_known 27 L _ 27 _ HE.out.1.loc rfl rfl rfl Try.underlying27 rfl infoAgH ?_
  go_wp2_with (first | go_skip | (with_reducible refine stopStore 27 rfl ?_))
  refine store_known 27 (w.heap.size + 1 + 1) _ #[.int .i64 x.id, .int .i64 x.epoch, .bool x.live, .int .i64 x.granted, .slice q1 l1 k1, .slice q2 l2 k2, .int .i64 x.next] 27 HE.out.1.res rfl rfl rfl rfl infoAgH rfl (by simp [Value.oneCell']) ?_
  go_wp2
  refine bodyPost_ret (results_row_tmp Try.results25 _ _ (w.heap.size + 1 + 1) _ _ _ _ rfl HE.out.1.res.setRow Try.underlying27 rfl infoAgH) rfl ?_
  have nr : w.heap.size + 1 + 1 ∉ F1 := fun hx => by have := HE.out.2.2.1.ge _ hx; omega
  have mr : w.heap.size + 1 + 1 ∉ G1 := fun hx => by have := HE.out.2.2.2.2.1.ge _ hx; omega
  exact ⟨_, F1, G1, 2, rfl, by rw [HV.out]; exact ⟨q1, l1, k1, q2, l2, k2, rfl, HE.out.2.1.agree (Agree.row nr _), HE.out.2.2.2.1.agree (Agree.row mr _), HE.out.2.2.2.2.2.2.1, HE.out.2.2.2.2.2.2.2⟩, by rw [HV.out], (HE.out.2.2.1.agree (Agree.row nr _)).mono (by omega), (HE.out.2.2.2.2.1.agree (Agree.row mr _)).mono (by omega), HE.out.2.2.2.2.2.1, below_setRow HE.out.1.bel (by omega) _⟩
 have hed : decide (f.epoch < x.epoch) = false := dec_false he
 have HJ : Hid ((∀ p ∈ x.taken, InB p) ∧ ∀ p ∈ f.taken, InB p) := by
  have k1 : x.taken.ok = true := by
   have := HD1.out.symm
   unfold Ag.ok at this
   simp only [Bool.and_eq_true] at this
   exact this.1.1.2.1
  have k2 : f.taken.ok = true := by
   have := HD3.out.symm
   rw [Bool.and_eq_true] at this
   exact this.1
  have al : ∀ ps : Sp, ps.ok = true → ∀ p ∈ ps, InB p := fun ps hk p hp => by
   obtain ⟨i, hi, rfl⟩ := List.getElem_of_mem hp
   have := ok_inb hk i hi
   rw [show ps.at i = ps[i] from by unfold Sp.at; rw [List.getElem?_eq_getElem hi]; rfl] at this
   exact this
  exact ⟨al _ k1, al _ k2⟩
 go_wp2_with fail
 refine (l5Join_any a2 bt n2 lt c2 ct x.taken f.taken G F' _ (HX.out.2.2.2.2.2.1.below H5.out.1.bel) (HF.out.2.2.2.below H5.out.1.bel) (by omega) HX.out.2.2.2.2.2.2 HJ.out.1 HJ.out.2).mono ?_
 rintro e w6 ⟨q3, l3, k3, G3, rfl, rJ, oJ, hb6, hcJ⟩
 obtain ⟨js, hjs⟩ : ∃ js, js = joinTo x.taken f.taken f.taken.length := ⟨_, rfl⟩
 rw [← hjs] at rJ
 have HJS : Hid (js = joinTo x.taken f.taken f.taken.length) := hjs
 have H6 : Hid (HearW w #[.int .i64 x.id, .int .i64 x.epoch, .bool x.live, .int .i64 x.granted, .slice a1 n1 c1, .slice a2 n2 c2, .int .i64 x.next] #[.int .i64 f.kind, .int .i64 f.agent, .int .i64 f.epoch, .int .i64 f.granted, .slice bt lt ct, .int .i64 f.item.seq, .int .i64 f.item.cls, .int .i64 f.item.key, .int .i64 f.item.window, .int .i64 f.item.sk.count, .int .i64 f.item.sk.sum, .int .i64 f.item.sk.min, .int .i64 f.item.sk.max, .slice b1 m1 e1, .slice b2 m2 e2, .slice b3 m3 e3] L #[.int .i64 x.id, .int .i64 x.epoch, .bool x.live, .int .i64 x.granted, .slice q1 l1 k1, .slice q2 l2 k2, .int .i64 x.next] w6 ∧ RdL itK w6 q1 l1 x.sealed F1 ∧ Own (w.heap.size + 3) w6 F1 ∧ RdP w6 q3 l3 js G3 ∧ Own (w.heap.size + 3) w6 G3 ∧ (∀ b ∈ F1, b ∉ G3) ∧ L ∉ F1 ∧ L ∉ G3) := by
  have o := H5.out.1.ord
  have lL := H5.out.1.loc.lt
  exact ⟨H5.out.1.below hb6, H5.out.2.1.below hb6, H5.out.2.2.1.below H5.out.2.1.lt hb6, rJ, oJ.mono (by omega), fun b hb hx => by have h1 := H5.out.2.2.2.2.2.2.1 b hb; have h2 := oJ.ge b hx; omega, fun hx => by have := H5.out.2.2.2.2.2.2.1 _ hx; omega, fun hx => by have := oJ.ge _ hx; omega⟩
 have HCJ : Hid (Capd q1 l1 k1 ∧ Capd q3 l3 k3) := ⟨HCP.out.1, hcJ⟩
 clear rJ oJ hb6 hjs hcJ H5 g0 g2 g3 g4 h1 h3 h5 HCP
 have p1 := H6.out.1.loc.cell 1
 have p2 := H6.out.1.loc.cell 2
 have p3 := H6.out.1.loc.cell 3
 have p5 := H6.out.1.loc.cell 5
 have r1 := H6.out.1.loc.frozen 1
 have r2 := H6.out.1.loc.frozen 2
 have r3 := H6.out.1.loc.frozen 3
 have r5 := H6.out.1.loc.frozen 5
 have g0 := H6.out.1.fr.cell 0
 have g2 := H6.out.1.fr.cell 2
 have g3 := H6.out.1.fr.cell 3
 have h1 := H6.out.1.box.cell 1
 have h3 := H6.out.1.box.cell 3
 have oL := H6.out.1.ord
 have nL0 : ¬ w.heap.size = L := by omega
 have nL0' : ¬ L = w.heap.size := by omega
 have nL1 : ¬ w.heap.size + 1 = L := by omega
 have nL1' : ¬ L = w.heap.size + 1 := by omega
 simp only [aT, aS, aZ] at p1 p2 p3 p5 g0 g2 g3 h1 h3
 by_cases hk2 : f.kind = 2
 ·
  have hkb : (f.kind == 2) = true := by simpa using hk2
  by_cases hep : f.epoch = x.epoch
  ·
   have heb : (f.epoch == x.epoch) = true := by simpa using hep
   have HV : Hid (x.hear f = (⟨x.id, x.epoch, true, max x.granted f.granted, x.sealed, js, x.next⟩, 0)) := by show _ = _; unfold Ag.hear; rw [if_neg (by rw [HH.out]; simp), if_neg (by omega : ¬ f.epoch < x.epoch), if_pos ⟨hk2, hep⟩, HJS.out]
   go_wp2_with fail
   refine (l1Max_any _ _ _).mono ?_
   rintro e w7 ⟨rfl, hw7⟩
   have hw7' := hw7.symm
   subst hw7'
   clear hw7
   have HE : Hid (HearW w #[.int .i64 x.id, .int .i64 x.epoch, .bool x.live, .int .i64 x.granted, .slice a1 n1 c1, .slice a2 n2 c2, .int .i64 x.next] #[.int .i64 f.kind, .int .i64 f.agent, .int .i64 f.epoch, .int .i64 f.granted, .slice bt lt ct, .int .i64 f.item.seq, .int .i64 f.item.cls, .int .i64 f.item.key, .int .i64 f.item.window, .int .i64 f.item.sk.count, .int .i64 f.item.sk.sum, .int .i64 f.item.sk.min, .int .i64 f.item.sk.max, .slice b1 m1 e1, .slice b2 m2 e2, .slice b3 m3 e3] L #[.int .i64 x.id, .int .i64 x.epoch, .bool true, .int .i64 (max x.granted f.granted), .slice q1 l1 k1, .slice q3 l3 k3, .int .i64 x.next] (((w6.setCell ⟨L, 5, none⟩ (.slice q3 l3 k3)).setCell ⟨L, 2, none⟩ (.bool true)).setCell ⟨L, 3, none⟩ (.int .i64 (max x.granted f.granted))) ∧ RdL itK (((w6.setCell ⟨L, 5, none⟩ (.slice q3 l3 k3)).setCell ⟨L, 2, none⟩ (.bool true)).setCell ⟨L, 3, none⟩ (.int .i64 (max x.granted f.granted))) q1 l1 x.sealed F1 ∧ Own (w.heap.size + 3) (((w6.setCell ⟨L, 5, none⟩ (.slice q3 l3 k3)).setCell ⟨L, 2, none⟩ (.bool true)).setCell ⟨L, 3, none⟩ (.int .i64 (max x.granted f.granted))) F1 ∧ RdP (((w6.setCell ⟨L, 5, none⟩ (.slice q3 l3 k3)).setCell ⟨L, 2, none⟩ (.bool true)).setCell ⟨L, 3, none⟩ (.int .i64 (max x.granted f.granted))) q3 l3 js G3 ∧ Own (w.heap.size + 3) (((w6.setCell ⟨L, 5, none⟩ (.slice q3 l3 k3)).setCell ⟨L, 2, none⟩ (.bool true)).setCell ⟨L, 3, none⟩ (.int .i64 (max x.granted f.granted))) G3 ∧ (∀ b ∈ F1, b ∉ G3) ∧ Capd q1 l1 k1 ∧ Capd q3 l3 k3) := ⟨(((H6.out.1.set 5 (.slice q3 l3 k3)).set 2 (.bool true)).set 3 (.int .i64 (max x.granted f.granted))), H6.out.2.1.agree ((((Agree.refl w6 F1).thenSet H6.out.2.2.2.2.2.2.1 5 (.slice q3 l3 k3)).thenSet H6.out.2.2.2.2.2.2.1 2 (.bool true)).thenSet H6.out.2.2.2.2.2.2.1 3 (.int .i64 (max x.granted f.granted))), H6.out.2.2.1.agree ((((Agree.refl w6 F1).thenSet H6.out.2.2.2.2.2.2.1 5 (.slice q3 l3 k3)).thenSet H6.out.2.2.2.2.2.2.1 2 (.bool true)).thenSet H6.out.2.2.2.2.2.2.1 3 (.int .i64 (max x.granted f.granted))), H6.out.2.2.2.1.agree ((((Agree.refl w6 G3).thenSet H6.out.2.2.2.2.2.2.2 5 (.slice q3 l3 k3)).thenSet H6.out.2.2.2.2.2.2.2 2 (.bool true)).thenSet H6.out.2.2.2.2.2.2.2 3 (.int .i64 (max x.granted f.granted))), H6.out.2.2.2.2.1.agree ((((Agree.refl w6 G3).thenSet H6.out.2.2.2.2.2.2.2 5 (.slice q3 l3 k3)).thenSet H6.out.2.2.2.2.2.2.2 2 (.bool true)).thenSet H6.out.2.2.2.2.2.2.2 3 (.int .i64 (max x.granted f.granted))), H6.out.2.2.2.2.2.1, HCJ.out.1, HCJ.out.2⟩
   obtain ⟨W9, hW9⟩ : ∃ W, W = (((w6.setCell ⟨L, 5, none⟩ (.slice q3 l3 k3)).setCell ⟨L, 2, none⟩ (.bool true)).setCell ⟨L, 3, none⟩ (.int .i64 (max x.granted f.granted))) := ⟨_, rfl⟩
   go_wp2_with (first | go_skip | (with_reducible refine stopLoad 27 rfl ?_))
   rw [← hW9] at HE ⊢
   clear hW9 p1 p2 p3 p5 r1 r2 r3 r5 g0 g2 g3 h1 h3 nL0 nL0' nL1 nL1'
   refine load_known 27 L _ 27 _ HE.out.1.loc rfl rfl rfl Try.underlying27 rfl infoAgH ?_
   go_wp2_with (first | go_skip | (with_reducible refine stopStore 27 rfl ?_))
   refine store_known 27 (w.heap.size + 1 + 1) _ #[.int .i64 x.id, .int .i64 x.epoch, .bool true, .int .i64 (max x.granted f.granted), .slice q1 l1 k1, .slice q3 l3 k3, .int .i64 x.next] 27 HE.out.1.res rfl rfl rfl rfl infoAgH rfl (by simp [Value.oneCell']) ?_
   go_wp2
   refine bodyPost_ret (results_row_tmp Try.results25 _ _ (w.heap.size + 1 + 1) _ _ _ _ rfl HE.out.1.res.setRow Try.underlying27 rfl infoAgH) rfl ?_
   have nr : w.heap.size + 1 + 1 ∉ F1 := fun hx => by have := HE.out.2.2.1.ge _ hx; omega
   have mr : w.heap.size + 1 + 1 ∉ G3 := fun hx => by have := HE.out.2.2.2.2.1.ge _ hx; omega
   exact ⟨_, F1, G3, 0, rfl, by rw [HV.out]; exact ⟨q1, l1, k1, q3, l3, k3, rfl, HE.out.2.1.agree (Agree.row nr _), HE.out.2.2.2.1.agree (Agree.row mr _), HE.out.2.2.2.2.2.2.1, HE.out.2.2.2.2.2.2.2⟩, by rw [HV.out], (HE.out.2.2.1.agree (Agree.row nr _)).mono (by omega), (HE.out.2.2.2.2.1.agree (Agree.row mr _)).mono (by omega), HE.out.2.2.2.2.2.1, below_setRow HE.out.1.bel (by omega) _⟩
  ·
   have heb : (f.epoch == x.epoch) = false := by simpa using hep
   have HV : Hid (x.hear f = (⟨x.id, f.epoch, true, f.granted, x.sealed, js, x.next⟩, 0)) := by show _ = _; unfold Ag.hear; rw [if_neg (by rw [HH.out]; simp), if_neg (by omega : ¬ f.epoch < x.epoch), if_neg (fun e => hep e.2), decide_eq_true hk2, if_pos hk2, HJS.out]
   have HE : Hid (HearW w #[.int .i64 x.id, .int .i64 x.epoch, .bool x.live, .int .i64 x.granted, .slice a1 n1 c1, .slice a2 n2 c2, .int .i64 x.next] #[.int .i64 f.kind, .int .i64 f.agent, .int .i64 f.epoch, .int .i64 f.granted, .slice bt lt ct, .int .i64 f.item.seq, .int .i64 f.item.cls, .int .i64 f.item.key, .int .i64 f.item.window, .int .i64 f.item.sk.count, .int .i64 f.item.sk.sum, .int .i64 f.item.sk.min, .int .i64 f.item.sk.max, .slice b1 m1 e1, .slice b2 m2 e2, .slice b3 m3 e3] L #[.int .i64 x.id, .int .i64 f.epoch, .bool true, .int .i64 f.granted, .slice q1 l1 k1, .slice q3 l3 k3, .int .i64 x.next] (((((w6.setCell ⟨L, 5, none⟩ (.slice q3 l3 k3)).setCell ⟨L, 1, none⟩ (.int .i64 f.epoch)).setCell ⟨L, 2, none⟩ (.bool true)).setCell ⟨L, 3, none⟩ (.int .i64 0)).setCell ⟨L, 3, none⟩ (.int .i64 f.granted)) ∧ RdL itK (((((w6.setCell ⟨L, 5, none⟩ (.slice q3 l3 k3)).setCell ⟨L, 1, none⟩ (.int .i64 f.epoch)).setCell ⟨L, 2, none⟩ (.bool true)).setCell ⟨L, 3, none⟩ (.int .i64 0)).setCell ⟨L, 3, none⟩ (.int .i64 f.granted)) q1 l1 x.sealed F1 ∧ Own (w.heap.size + 3) (((((w6.setCell ⟨L, 5, none⟩ (.slice q3 l3 k3)).setCell ⟨L, 1, none⟩ (.int .i64 f.epoch)).setCell ⟨L, 2, none⟩ (.bool true)).setCell ⟨L, 3, none⟩ (.int .i64 0)).setCell ⟨L, 3, none⟩ (.int .i64 f.granted)) F1 ∧ RdP (((((w6.setCell ⟨L, 5, none⟩ (.slice q3 l3 k3)).setCell ⟨L, 1, none⟩ (.int .i64 f.epoch)).setCell ⟨L, 2, none⟩ (.bool true)).setCell ⟨L, 3, none⟩ (.int .i64 0)).setCell ⟨L, 3, none⟩ (.int .i64 f.granted)) q3 l3 js G3 ∧ Own (w.heap.size + 3) (((((w6.setCell ⟨L, 5, none⟩ (.slice q3 l3 k3)).setCell ⟨L, 1, none⟩ (.int .i64 f.epoch)).setCell ⟨L, 2, none⟩ (.bool true)).setCell ⟨L, 3, none⟩ (.int .i64 0)).setCell ⟨L, 3, none⟩ (.int .i64 f.granted)) G3 ∧ (∀ b ∈ F1, b ∉ G3) ∧ Capd q1 l1 k1 ∧ Capd q3 l3 k3) := ⟨(((((H6.out.1.set 5 (.slice q3 l3 k3)).set 1 (.int .i64 f.epoch)).set 2 (.bool true)).set 3 (.int .i64 0)).set 3 (.int .i64 f.granted)), H6.out.2.1.agree ((((((Agree.refl w6 F1).thenSet H6.out.2.2.2.2.2.2.1 5 (.slice q3 l3 k3)).thenSet H6.out.2.2.2.2.2.2.1 1 (.int .i64 f.epoch)).thenSet H6.out.2.2.2.2.2.2.1 2 (.bool true)).thenSet H6.out.2.2.2.2.2.2.1 3 (.int .i64 0)).thenSet H6.out.2.2.2.2.2.2.1 3 (.int .i64 f.granted)), H6.out.2.2.1.agree ((((((Agree.refl w6 F1).thenSet H6.out.2.2.2.2.2.2.1 5 (.slice q3 l3 k3)).thenSet H6.out.2.2.2.2.2.2.1 1 (.int .i64 f.epoch)).thenSet H6.out.2.2.2.2.2.2.1 2 (.bool true)).thenSet H6.out.2.2.2.2.2.2.1 3 (.int .i64 0)).thenSet H6.out.2.2.2.2.2.2.1 3 (.int .i64 f.granted)), H6.out.2.2.2.1.agree ((((((Agree.refl w6 G3).thenSet H6.out.2.2.2.2.2.2.2 5 (.slice q3 l3 k3)).thenSet H6.out.2.2.2.2.2.2.2 1 (.int .i64 f.epoch)).thenSet H6.out.2.2.2.2.2.2.2 2 (.bool true)).thenSet H6.out.2.2.2.2.2.2.2 3 (.int .i64 0)).thenSet H6.out.2.2.2.2.2.2.2 3 (.int .i64 f.granted)), H6.out.2.2.2.2.1.agree ((((((Agree.refl w6 G3).thenSet H6.out.2.2.2.2.2.2.2 5 (.slice q3 l3 k3)).thenSet H6.out.2.2.2.2.2.2.2 1 (.int .i64 f.epoch)).thenSet H6.out.2.2.2.2.2.2.2 2 (.bool true)).thenSet H6.out.2.2.2.2.2.2.2 3 (.int .i64 0)).thenSet H6.out.2.2.2.2.2.2.2 3 (.int .i64 f.granted)), H6.out.2.2.2.2.2.1, HCJ.out.1, HCJ.out.2⟩
   obtain ⟨W9, hW9⟩ : ∃ W, W = (((((w6.setCell ⟨L, 5, none⟩ (.slice q3 l3 k3)).setCell ⟨L, 1, none⟩ (.int .i64 f.epoch)).setCell ⟨L, 2, none⟩ (.bool true)).setCell ⟨L, 3, none⟩ (.int .i64 0)).setCell ⟨L, 3, none⟩ (.int .i64 f.granted)) := ⟨_, rfl⟩
   go_wp2_with (first | go_skip | (with_reducible refine stopLoad 27 rfl ?_))
   rw [← hW9] at HE ⊢
   clear hW9 p1 p2 p3 p5 r1 r2 r3 r5 g0 g2 g3 h1 h3 nL0 nL0' nL1 nL1'
   refine load_known 27 L _ 27 _ HE.out.1.loc rfl rfl rfl Try.underlying27 rfl infoAgH ?_
   go_wp2_with (first | go_skip | (with_reducible refine stopStore 27 rfl ?_))
   refine store_known 27 (w.heap.size + 1 + 1) _ #[.int .i64 x.id, .int .i64 f.epoch, .bool true, .int .i64 f.granted, .slice q1 l1 k1, .slice q3 l3 k3, .int .i64 x.next] 27 HE.out.1.res rfl rfl rfl rfl infoAgH rfl (by simp [Value.oneCell']) ?_
   go_wp2
   refine bodyPost_ret (results_row_tmp Try.results25 _ _ (w.heap.size + 1 + 1) _ _ _ _ rfl HE.out.1.res.setRow Try.underlying27 rfl infoAgH) rfl ?_
   have nr : w.heap.size + 1 + 1 ∉ F1 := fun hx => by have := HE.out.2.2.1.ge _ hx; omega
   have mr : w.heap.size + 1 + 1 ∉ G3 := fun hx => by have := HE.out.2.2.2.2.1.ge _ hx; omega
   exact ⟨_, F1, G3, 0, rfl, by rw [HV.out]; exact ⟨q1, l1, k1, q3, l3, k3, rfl, HE.out.2.1.agree (Agree.row nr _), HE.out.2.2.2.1.agree (Agree.row mr _), HE.out.2.2.2.2.2.2.1, HE.out.2.2.2.2.2.2.2⟩, by rw [HV.out], (HE.out.2.2.1.agree (Agree.row nr _)).mono (by omega), (HE.out.2.2.2.2.1.agree (Agree.row mr _)).mono (by omega), HE.out.2.2.2.2.2.1, below_setRow HE.out.1.bel (by omega) _⟩
 ·
  have hkb : (f.kind == 2) = false := by simpa using hk2
  have HV : Hid (x.hear f = (⟨x.id, f.epoch, false, 0, x.sealed, js, x.next⟩, 0)) := by show _ = _; unfold Ag.hear; rw [if_neg (by rw [HH.out]; simp), if_neg (by omega : ¬ f.epoch < x.epoch), if_neg (fun e => hk2 e.1), decide_eq_false hk2, if_neg hk2, HJS.out]
  have HE : Hid (HearW w #[.int .i64 x.id, .int .i64 x.epoch, .bool x.live, .int .i64 x.granted, .slice a1 n1 c1, .slice a2 n2 c2, .int .i64 x.next] #[.int .i64 f.kind, .int .i64 f.agent, .int .i64 f.epoch, .int .i64 f.granted, .slice bt lt ct, .int .i64 f.item.seq, .int .i64 f.item.cls, .int .i64 f.item.key, .int .i64 f.item.window, .int .i64 f.item.sk.count, .int .i64 f.item.sk.sum, .int .i64 f.item.sk.min, .int .i64 f.item.sk.max, .slice b1 m1 e1, .slice b2 m2 e2, .slice b3 m3 e3] L #[.int .i64 x.id, .int .i64 f.epoch, .bool false, .int .i64 0, .slice q1 l1 k1, .slice q3 l3 k3, .int .i64 x.next] ((((w6.setCell ⟨L, 5, none⟩ (.slice q3 l3 k3)).setCell ⟨L, 1, none⟩ (.int .i64 f.epoch)).setCell ⟨L, 2, none⟩ (.bool false)).setCell ⟨L, 3, none⟩ (.int .i64 0)) ∧ RdL itK ((((w6.setCell ⟨L, 5, none⟩ (.slice q3 l3 k3)).setCell ⟨L, 1, none⟩ (.int .i64 f.epoch)).setCell ⟨L, 2, none⟩ (.bool false)).setCell ⟨L, 3, none⟩ (.int .i64 0)) q1 l1 x.sealed F1 ∧ Own (w.heap.size + 3) ((((w6.setCell ⟨L, 5, none⟩ (.slice q3 l3 k3)).setCell ⟨L, 1, none⟩ (.int .i64 f.epoch)).setCell ⟨L, 2, none⟩ (.bool false)).setCell ⟨L, 3, none⟩ (.int .i64 0)) F1 ∧ RdP ((((w6.setCell ⟨L, 5, none⟩ (.slice q3 l3 k3)).setCell ⟨L, 1, none⟩ (.int .i64 f.epoch)).setCell ⟨L, 2, none⟩ (.bool false)).setCell ⟨L, 3, none⟩ (.int .i64 0)) q3 l3 js G3 ∧ Own (w.heap.size + 3) ((((w6.setCell ⟨L, 5, none⟩ (.slice q3 l3 k3)).setCell ⟨L, 1, none⟩ (.int .i64 f.epoch)).setCell ⟨L, 2, none⟩ (.bool false)).setCell ⟨L, 3, none⟩ (.int .i64 0)) G3 ∧ (∀ b ∈ F1, b ∉ G3) ∧ Capd q1 l1 k1 ∧ Capd q3 l3 k3) := ⟨((((H6.out.1.set 5 (.slice q3 l3 k3)).set 1 (.int .i64 f.epoch)).set 2 (.bool false)).set 3 (.int .i64 0)), H6.out.2.1.agree (((((Agree.refl w6 F1).thenSet H6.out.2.2.2.2.2.2.1 5 (.slice q3 l3 k3)).thenSet H6.out.2.2.2.2.2.2.1 1 (.int .i64 f.epoch)).thenSet H6.out.2.2.2.2.2.2.1 2 (.bool false)).thenSet H6.out.2.2.2.2.2.2.1 3 (.int .i64 0)), H6.out.2.2.1.agree (((((Agree.refl w6 F1).thenSet H6.out.2.2.2.2.2.2.1 5 (.slice q3 l3 k3)).thenSet H6.out.2.2.2.2.2.2.1 1 (.int .i64 f.epoch)).thenSet H6.out.2.2.2.2.2.2.1 2 (.bool false)).thenSet H6.out.2.2.2.2.2.2.1 3 (.int .i64 0)), H6.out.2.2.2.1.agree (((((Agree.refl w6 G3).thenSet H6.out.2.2.2.2.2.2.2 5 (.slice q3 l3 k3)).thenSet H6.out.2.2.2.2.2.2.2 1 (.int .i64 f.epoch)).thenSet H6.out.2.2.2.2.2.2.2 2 (.bool false)).thenSet H6.out.2.2.2.2.2.2.2 3 (.int .i64 0)), H6.out.2.2.2.2.1.agree (((((Agree.refl w6 G3).thenSet H6.out.2.2.2.2.2.2.2 5 (.slice q3 l3 k3)).thenSet H6.out.2.2.2.2.2.2.2 1 (.int .i64 f.epoch)).thenSet H6.out.2.2.2.2.2.2.2 2 (.bool false)).thenSet H6.out.2.2.2.2.2.2.2 3 (.int .i64 0)), H6.out.2.2.2.2.2.1, HCJ.out.1, HCJ.out.2⟩
  obtain ⟨W9, hW9⟩ : ∃ W, W = ((((w6.setCell ⟨L, 5, none⟩ (.slice q3 l3 k3)).setCell ⟨L, 1, none⟩ (.int .i64 f.epoch)).setCell ⟨L, 2, none⟩ (.bool false)).setCell ⟨L, 3, none⟩ (.int .i64 0)) := ⟨_, rfl⟩
  go_wp2_with (first | go_skip | (with_reducible refine stopLoad 27 rfl ?_))
  rw [← hW9] at HE ⊢
  clear hW9 p1 p2 p3 p5 r1 r2 r3 r5 g0 g2 g3 h1 h3 nL0 nL0' nL1 nL1'
  refine load_known 27 L _ 27 _ HE.out.1.loc rfl rfl rfl Try.underlying27 rfl infoAgH ?_
  go_wp2_with (first | go_skip | (with_reducible refine stopStore 27 rfl ?_))
  refine store_known 27 (w.heap.size + 1 + 1) _ #[.int .i64 x.id, .int .i64 f.epoch, .bool false, .int .i64 0, .slice q1 l1 k1, .slice q3 l3 k3, .int .i64 x.next] 27 HE.out.1.res rfl rfl rfl rfl infoAgH rfl (by simp [Value.oneCell']) ?_
  go_wp2
  refine bodyPost_ret (results_row_tmp Try.results25 _ _ (w.heap.size + 1 + 1) _ _ _ _ rfl HE.out.1.res.setRow Try.underlying27 rfl infoAgH) rfl ?_
  have nr : w.heap.size + 1 + 1 ∉ F1 := fun hx => by have := HE.out.2.2.1.ge _ hx; omega
  have mr : w.heap.size + 1 + 1 ∉ G3 := fun hx => by have := HE.out.2.2.2.2.1.ge _ hx; omega
  exact ⟨_, F1, G3, 0, rfl, by rw [HV.out]; exact ⟨q1, l1, k1, q3, l3, k3, rfl, HE.out.2.1.agree (Agree.row nr _), HE.out.2.2.2.1.agree (Agree.row mr _), HE.out.2.2.2.2.2.2.1, HE.out.2.2.2.2.2.2.2⟩, by rw [HV.out], (HE.out.2.2.1.agree (Agree.row nr _)).mono (by omega), (HE.out.2.2.2.2.1.agree (Agree.row mr _)).mono (by omega), HE.out.2.2.2.2.2.1, below_setRow HE.out.1.bel (by omega) _⟩
end Go.Proofs.Ytgkbhhlkaifnoaa
/- Two lists, two summaries held against each other, by the model and by the library. No statement of the seat is proved here. -/
namespace Go.Proofs.Ytgkbhhlkaifnoaa
open Go.RowKit
set_option maxRecDepth 200000 in
set_option maxHeartbeats 1000000 in
theorem slEqual_any (a b : Option Addr) (la lb ca cb : Nat) (xs ys : List Int) (F G : List Nat) (w : World) (ha : RdI w a la xs F) (hb : RdI w b lb ys G) (hla : la ≤ 140737488355328) (hlb : lb ≤ 140737488355328) :
 Calls Try.prog 103 #[.slice a la ca, .slice b lb cb] w fun e w' => e = .returned (.bool (decide (xs = ys))) ∧ Below w.heap.size w w' := by
 have Hx : Hid (xs.length = la) := ha.length
 have Hy : Hid (ys.length = lb) := hb.length
 by_cases hl : la = lb
 ·
  subst hl
  have hbne : ((la : Int) != (la : Int)) = false := by simp
  by_cases h0 : la = 0
  ·
   subst h0
   have ex : xs = [] := List.eq_nil_of_length_eq_zero ha.length
   have ey : ys = [] := List.eq_nil_of_length_eq_zero hb.length
   clear ha hb
   go_enter Try.func103, Try.ntmps103
   go_wp2
   refine wp_loop_rounds 1 ?_
   rw [rounds_succ]
   go_wp2
   go_ret
   exact ⟨ret_bool (by rw [ex, ey]; rfl), Below.refl _ _⟩
  ·
   obtain ⟨b1, o1, rfl, hc1⟩ : ∃ b off, a = some ⟨b, off, none⟩ ∧ ∀ i, i < la → w.cell? ⟨b, off + i, none⟩ = some (.int .i64 (xs.getD i 0)) := by
    rcases ha.cells with h | ⟨b, off, _, h1, _, h2⟩
    ·
     exact absurd h.1 h0
    ·
     exact ⟨b, off, h1, h2⟩
   obtain ⟨b2, o2, rfl, hc2⟩ : ∃ b' off, b = some ⟨b', off, none⟩ ∧ ∀ i, i < la → w.cell? ⟨b', off + i, none⟩ = some (.int .i64 (ys.getD i 0)) := by
    rcases hb.cells with h | ⟨b, off, _, h1, _, h2⟩
    ·
     exact absurd h.1 h0
    ·
     exact ⟨b, off, h1, h2⟩
   have hb1 : b1 < w.heap.size := World.block_lt_of_cell? _ _ (hc1 0 (by omega))
   have hb2 : b2 < w.heap.size := World.block_lt_of_cell? _ _ (hc2 0 (by omega))
   clear ha hb
   go_enter Try.func103, Try.ntmps103
   go_wp2
   go_loopw [13] (fun i wr => ∃ k : Nat, k ≤ la ∧ i = .int .i64 k ∧ Hid (xs.take k = ys.take k) ∧ Below w.heap.size w wr) (fun i _ => la - (intOf i).toNat)
   case atStart => exact ⟨0, by omega, rfl, rfl, Below.refl _ _⟩
   case round =>
    obtain ⟨k, hk, rfl, HT, hbel⟩ := hrel
    by_cases hlt : k < la
    ·
     have d1 : wr.cell? ⟨b1, o1 + k, none⟩ = some (.int .i64 (xs.getD k 0)) := (hbel.cell (by exact hb1)).trans (hc1 k hlt)
     have d2 : wr.cell? ⟨b2, o2 + k, none⟩ = some (.int .i64 (ys.getD k 0)) := (hbel.cell (by exact hb2)).trans (hc2 k hlt)
     by_cases he : xs[k]?.getD 0 = ys[k]?.getD 0
     ·
      have hne : (xs[k]?.getD 0 != ys[k]?.getD 0) = false := by simp [he]
      have HE : Hid (xs[k]?.getD 0 = ys[k]?.getD 0) := he
      clear he hc1 hc2
      go_wp2
      go_region
      all_goals (try go_wp2)
      all_goals
       go_roundw
       case rel => exact ⟨k + 1, by omega, by go_num, eqI_step (by rw [Hx.out, Hy.out]) (by rw [Hx.out]; exact hlt) HT.out HE.out, by repeat (first | exact hbel | apply Below.drew)⟩
       case measure => simp [intOf]; omega
     ·
      have hne : (xs[k]?.getD 0 != ys[k]?.getD 0) = true := by simp [he]
      have HE : Hid (¬ xs[k]?.getD 0 = ys[k]?.getD 0) := he
      clear he hc1 hc2
      go_wp2
      go_region
      all_goals (try go_wp2)
      all_goals
       go_ret
       exact ⟨ret_bool (neI_of_at HE.out).symm, by repeat (first | exact hbel | apply Below.drew)⟩
    ·
     obtain rfl : k = la := by omega
     go_wp2
     go_ret
     exact ⟨ret_bool (eqI_end Hx.out Hy.out HT.out).symm, hbel⟩
 ·
  have hbne : ((la : Int) != (lb : Int)) = true := by simp; omega
  have e : decide (xs = ys) = false := by
   rw [decide_eq_false_iff_not]; intro e; subst e; exact hl (Hx.out.symm.trans Hy.out)
  clear ha hb
  go_enter Try.func103, Try.ntmps103
  go_wp2
  go_ret
  exact ⟨ret_bool e.symm, Below.refl _ _⟩
/-- The two boxes lie there, and nothing elder has changed. -/
structure Boxes (w : World) (A B : Array Value) (t : TypeId) (W : World) : Prop where
 fst : Blk W w.heap.size A t
 snd : Blk W (w.heap.size + 1) B t
 bel : Below w.heap.size w W
theorem Boxes.below {w W W' : World} {A B : Array Value} {t : TypeId} (h : Boxes w A B t W) (b : Below W.heap.size W W') : Boxes w A B t W' := ⟨h.fst.below b, h.snd.below b, Below.next h.bel b⟩
theorem Boxes.drew {w W : World} {A B : Array Value} {t : TypeId} (h : Boxes w A B t W) : Boxes w A B t W.drew := ⟨h.fst, h.snd, h.bel.drew⟩
end Go.Proofs.Ytgkbhhlkaifnoaa
/- The walks through the program's SketchSame. No statement of the seat is proved here. -/
namespace Go.Proofs.Ytgkbhhlkaifnoaa
open Go.RowKit
def numsEq (s t : Sk) : Bool := decide (s.count = t.count ∧ s.sum = t.sum ∧ s.min = t.min ∧ s.max = t.max)
set_option maxRecDepth 200000 in
set_option maxHeartbeats 1000000 in
theorem sameNumbers_any (v u : Value) (s t : Sk) (F G : List Nat) (w : World) (h : RdSk w v s F) (k : RdSk w u t G) :
 Calls Try.prog 71 #[v, u] w fun e w' => e = .returned (.bool (numsEq s t)) ∧ Below w.heap.size w w' := by
 obtain ⟨a1, n1, c1, a2, n2, c2, a3, n3, c3, F1, F2, F3, rfl, _⟩ := h
 obtain ⟨b1, m1, d1, b2, m2, d2, b3, m3, d3, G1, G2, G3, rfl, _⟩ := k
 have HT : Hid (_ ∧ _ ∧ _) := two_made w #[.int .i64 s.count, .int .i64 s.sum, .int .i64 s.min, .int .i64 s.max, .slice a1 n1 c1, .slice a2 n2 c2, .slice a3 n3 c3] #[.int .i64 t.count, .int .i64 t.sum, .int .i64 t.min, .int .i64 t.max, .slice b1 m1 d1, .slice b2 m2 d2, .slice b3 m3 d3] 34 34
 obtain ⟨d, hd⟩ : ∃ d, d = numsEq s t := ⟨_, rfl⟩
 rw [← hd]
 have HD : Hid (d = decide (s.count = t.count ∧ s.sum = t.sum ∧ s.min = t.min ∧ s.max = t.max)) := hd
 clear hd
 go_enter Try.func71, Try.ntmps71
 by_cases q1 : s.count = t.count
 rotate_left
 ·
  have q' : (s.count == t.count) = false := by simpa using q1
  have HN : Hid (d = false) := by show d = _; rw [HD.out]; exact dec_false (fun e => q1 e.1)
  clear q1
  go_wp2
  go_ret
  exact ⟨ret_bool HN.out.symm, HT.out.2.2⟩
 have Q1 : Hid (s.count = t.count) := q1
 have q1' : (s.count == t.count) = true := by simpa using q1
 clear q1
 by_cases q2 : s.sum = t.sum
 rotate_left
 ·
  have q' : (s.sum == t.sum) = false := by simpa using q2
  have HN : Hid (d = false) := by show d = _; rw [HD.out]; exact dec_false (fun e => q2 e.2.1)
  clear q2
  go_wp2
  go_ret
  exact ⟨ret_bool HN.out.symm, HT.out.2.2⟩
 have Q2 : Hid (s.sum = t.sum) := q2
 have q2' : (s.sum == t.sum) = true := by simpa using q2
 clear q2
 by_cases q3 : s.min = t.min
 rotate_left
 ·
  have q' : (s.min == t.min) = false := by simpa using q3
  have HN : Hid (d = false) := by show d = _; rw [HD.out]; exact dec_false (fun e => q3 e.2.2.1)
  clear q3
  go_wp2
  go_ret
  exact ⟨ret_bool HN.out.symm, HT.out.2.2⟩
 have Q3 : Hid (s.min = t.min) := q3
 have q3' : (s.min == t.min) = true := by simpa using q3
 clear q3
 by_cases q4 : s.max = t.max
 rotate_left
 ·
  have q' : (s.max == t.max) = false := by simpa using q4
  have HN : Hid (d = false) := by show d = _; rw [HD.out]; exact dec_false (fun e => q4 e.2.2.2)
  clear q4
  go_wp2
  go_ret
  exact ⟨ret_bool HN.out.symm, HT.out.2.2⟩
 have Q4 : Hid (s.max = t.max) := q4
 have q4' : (s.max == t.max) = true := by simpa using q4
 clear q4
 have HN : Hid (d = true) := by show d = _; rw [HD.out]; exact dec_true ⟨Q1.out, Q2.out, Q3.out, Q4.out⟩
 go_wp2
 go_ret
 exact ⟨ret_bool HN.out.symm, HT.out.2.2⟩
set_option maxRecDepth 200000 in
set_option maxHeartbeats 2000000 in
theorem eqFunc_any (a b : Option Addr) (la lb ca cb : Nat) (xs ys : List (List Int)) (F G : List Nat) (w : World) (ha : RdII w a la xs F) (hb : RdII w b lb ys G) (hla : la ≤ 140737488355328) (hlb : lb ≤ 140737488355328)
 (hxr : ∀ z ∈ xs, z.length ≤ 140737488355328) (hyr : ∀ z ∈ ys, z.length ≤ 140737488355328) :
 Calls Try.prog 104 #[.slice a la ca, .slice b lb cb, .func (.func 103) #[] #[]] w fun e w' => e = .returned (.bool (decide (xs = ys))) ∧ Below w.heap.size w w' := by
 have Hx : Hid (xs.length = la) := ha.length
 have Hy : Hid (ys.length = lb) := hb.length
 have Hxr : Hid (∀ z ∈ xs, z.length ≤ 140737488355328) := hxr
 have Hyr : Hid (∀ z ∈ ys, z.length ≤ 140737488355328) := hyr
 clear hxr hyr
 by_cases hl : la = lb
 ·
  subst hl
  have hbne : ((la : Int) != (la : Int)) = false := by simp
  by_cases h0 : la = 0
  ·
   subst h0
   have ex : xs = [] := List.eq_nil_of_length_eq_zero ha.length
   have ey : ys = [] := List.eq_nil_of_length_eq_zero hb.length
   clear ha hb
   go_enter Try.func104, Try.ntmps104
   go_wp2
   refine wp_loop_rounds 1 ?_
   rw [rounds_succ]
   go_wp2
   go_ret
   exact ⟨ret_bool (by rw [ex, ey]; rfl), Below.refl _ _⟩
  ·
   obtain ⟨b1, o1, F1, rfl, hm1⟩ : ∃ b off F', a = some ⟨b, off, none⟩ ∧ RdM w (xs.map ints) b off F' := by
    rcases ha.cells with h | ⟨b, off, F', _, h1, _, h2⟩
    ·
     exact absurd h.1 h0
    ·
     exact ⟨b, off, F', h1, h2⟩
   obtain ⟨b2, o2, F2, rfl, hm2⟩ : ∃ b' off F', b = some ⟨b', off, none⟩ ∧ RdM w (ys.map ints) b' off F' := by
    rcases hb.cells with h | ⟨b, off, F', _, h1, _, h2⟩
    ·
     exact absurd h.1 h0
    ·
     exact ⟨b, off, F', h1, h2⟩
   have HM1 : Hid (RdM w (xs.map ints) b1 o1 F1) := hm1
   have HM2 : Hid (RdM w (ys.map ints) b2 o2 F2) := hm2
   clear ha hb hm1 hm2
   go_enter Try.func104, Try.ntmps104
   go_wp2
   go_loopw [17] (fun i wr => ∃ k : Nat, k ≤ la ∧ i = .int .i64 k ∧ Hid (xs.take k = ys.take k) ∧ Hid (Below w.heap.size w wr)) (fun i _ => la - (intOf i).toNat)
   case atStart => exact ⟨0, by omega, rfl, rfl, Below.refl _ _⟩
   case round =>
    obtain ⟨k, hk, rfl, HT, HB⟩ := hrel
    by_cases hlt : k < la
    ·
     obtain ⟨a1, n1, c1, G1, hc1, hr1, _⟩ := RdII.row HM1.out Hx.out k hlt
     obtain ⟨a2, n2, c2, G2, hc2, hr2, _⟩ := RdII.row HM2.out Hy.out k hlt
     have hb1 : b1 < w.heap.size := World.block_lt_of_cell? _ _ hc1
     have hb2 : b2 < w.heap.size := World.block_lt_of_cell? _ _ hc2
     have d1 : wr.cell? ⟨b1, o1 + k, none⟩ = some (.slice a1 n1 c1) := (HB.out.cell (by exact hb1)).trans hc1
     have d2 : wr.cell? ⟨b2, o2 + k, none⟩ = some (.slice a2 n2 c2) := (HB.out.cell (by exact hb2)).trans hc2
     have HQ : Hid (RdI w a1 n1 (xs.getD k []) G1 ∧ RdI w a2 n2 (ys.getD k []) G2 ∧ n1 ≤ 140737488355328 ∧ n2 ≤ 140737488355328) := ⟨hr1, hr2, by rw [← hr1.length]; exact Hxr.out _ (mem_getD (by rw [Hx.out]; exact hlt)), by rw [← hr2.length]; exact Hyr.out _ (mem_getD (by rw [Hy.out]; exact hlt))⟩
     clear hr1 hr2 hc1 hc2
     go_wp2_with fail
     refine (slEqual_any a1 a2 n1 n2 c1 c2 _ _ G1 G2 _ (HQ.out.1.below HB.out) (HQ.out.2.1.below HB.out) HQ.out.2.2.1 HQ.out.2.2.2).mono ?_
     rintro e w1 ⟨rfl, hbz⟩
     have HB1 : Hid (Below w.heap.size w w1) := Below.next HB.out hbz
     clear hbz
     cases ee : decide (xs.getD k [] = ys.getD k [])
     ·
      have HE : Hid (¬ xs.getD k [] = ys.getD k []) := (show ¬ xs.getD k [] = ys.getD k [] from of_decide_eq_false ee)
      clear ee
      go_wp2
      go_ret
      exact ⟨ret_bool (neII_of_at HE.out).symm, HB1.out⟩
     ·
      have HE : Hid (xs.take (k + 1) = ys.take (k + 1)) := eqII_step (by rw [Hx.out, Hy.out]) (by rw [Hx.out]; exact hlt) HT.out (of_decide_eq_true ee)
      clear ee
      go_wp2
      go_roundw
      case rel => exact ⟨k + 1, by omega, by go_num, HE, HB1⟩
      case measure => simp [intOf]; omega
    ·
     obtain rfl : k = la := by omega
     go_wp2
     go_ret
     exact ⟨ret_bool (eqII_end Hx.out Hy.out HT.out).symm, HB.out⟩
 ·
  have hbne : ((la : Int) != (lb : Int)) = true := by simp; omega
  have e : decide (xs = ys) = false := by
   rw [decide_eq_false_iff_not]; intro e; subst e; exact hl (Hx.out.symm.trans Hy.out)
  clear ha hb
  go_enter Try.func104, Try.ntmps104
  go_wp2
  go_ret
  exact ⟨ret_bool e.symm, Below.refl _ _⟩
def listsEq (s t : Sk) : Bool := decide (s.hist = t.hist ∧ s.regs = t.regs ∧ s.rows = t.rows)
set_option maxRecDepth 200000 in
set_option maxHeartbeats 2000000 in
theorem sameLists_any (v u : Value) (s t : Sk) (F G : List Nat) (w : World) (h : RdSk w v s F) (k : RdSk w u t G) (hw : s.wide) (kw : t.wide) :
 Calls Try.prog 72 #[v, u] w fun e w' => e = .returned (.bool (listsEq s t)) ∧ Below w.heap.size w w' := by
 obtain ⟨a1, n1, c1, a2, n2, c2, a3, n3, c3, F1, F2, F3, rfl, h1, h2, h3, _⟩ := h
 obtain ⟨b1, m1, d1, b2, m2, d2, b3, m3, d3, G1, G2, G3, rfl, k1, k2, k3, _⟩ := k
 have H1 : Hid (RdI w a1 n1 s.hist F1 ∧ RdI w b1 m1 t.hist G1 ∧ n1 ≤ 140737488355328 ∧ m1 ≤ 140737488355328) := ⟨h1, k1, by rw [← h1.length]; exact hw.hist, by rw [← k1.length]; exact kw.hist⟩
 have H2 : Hid (RdI w a2 n2 s.regs F2 ∧ RdI w b2 m2 t.regs G2 ∧ n2 ≤ 140737488355328 ∧ m2 ≤ 140737488355328) := ⟨h2, k2, by rw [← h2.length]; exact hw.regs, by rw [← k2.length]; exact kw.regs⟩
 have H3 : Hid (RdII w a3 n3 s.rows F3 ∧ RdII w b3 m3 t.rows G3 ∧ n3 ≤ 140737488355328 ∧ m3 ≤ 140737488355328) := ⟨h3, k3, by rw [← h3.length]; exact hw.rows, by rw [← k3.length]; exact kw.rows⟩
 have hn3 : n3 ≤ 140737488355328 := H3.out.2.2.1
 have hm3 : m3 ≤ 140737488355328 := H3.out.2.2.2
 have HW : Hid (s.wide ∧ t.wide) := ⟨hw, kw⟩
 clear h1 h2 h3 k1 k2 k3 hw kw
 have HT : Hid (_ ∧ _ ∧ _) := two_made w #[.int .i64 s.count, .int .i64 s.sum, .int .i64 s.min, .int .i64 s.max, .slice a1 n1 c1, .slice a2 n2 c2, .slice a3 n3 c3] #[.int .i64 t.count, .int .i64 t.sum, .int .i64 t.min, .int .i64 t.max, .slice b1 m1 d1, .slice b2 m2 d2, .slice b3 m3 d3] 34 34
 obtain ⟨d, hd⟩ : ∃ d, d = listsEq s t := ⟨_, rfl⟩
 rw [← hd]
 have HD : Hid (d = decide (s.hist = t.hist ∧ s.regs = t.regs ∧ s.rows = t.rows)) := hd
 clear hd
 go_enter Try.func72, Try.ntmps72
 go_wp2_with fail
 refine (slEqual_any a1 b1 n1 m1 c1 d1 s.hist t.hist F1 G1 _ (H1.out.1.below HT.out.2.2) (H1.out.2.1.below HT.out.2.2) H1.out.2.2.1 H1.out.2.2.2).mono ?_
 rintro e w1 ⟨rfl, hb1⟩
 have HB1 : Hid (Boxes w #[.int .i64 s.count, .int .i64 s.sum, .int .i64 s.min, .int .i64 s.max, .slice a1 n1 c1, .slice a2 n2 c2, .slice a3 n3 c3] #[.int .i64 t.count, .int .i64 t.sum, .int .i64 t.min, .int .i64 t.max, .slice b1 m1 d1, .slice b2 m2 d2, .slice b3 m3 d3] 34 w1) := ⟨HT.out.1.below hb1, HT.out.2.1.below hb1, Below.next HT.out.2.2 hb1⟩
 clear hb1 HT
 cases e5 : decide (s.hist = t.hist)
 ·
  have HN : Hid (d = false) := by show d = _; rw [HD.out]; exact dec_false (fun e => by rw [e.1] at e5; simp at e5)
  clear e5
  go_wp2
  go_ret
  exact ⟨ret_bool HN.out.symm, HB1.out.bel⟩
 have Q5 : Hid (s.hist = t.hist) := (show s.hist = t.hist from of_decide_eq_true e5)
 clear e5
 have x5 := HB1.out.fst.cell 5
 have y5 := HB1.out.snd.cell 5
 simp only [aT, aS, aZ] at x5 y5
 go_wp2_with fail
 refine (slEqual_any a2 b2 n2 m2 c2 d2 s.regs t.regs F2 G2 _ (H2.out.1.below HB1.out.bel) (H2.out.2.1.below HB1.out.bel) H2.out.2.2.1 H2.out.2.2.2).mono ?_
 rintro e w2 ⟨rfl, hb2⟩
 have HB2 : Hid (Boxes w #[.int .i64 s.count, .int .i64 s.sum, .int .i64 s.min, .int .i64 s.max, .slice a1 n1 c1, .slice a2 n2 c2, .slice a3 n3 c3] #[.int .i64 t.count, .int .i64 t.sum, .int .i64 t.min, .int .i64 t.max, .slice b1 m1 d1, .slice b2 m2 d2, .slice b3 m3 d3] 34 w2) := HB1.out.below hb2
 clear hb2 x5 y5 HB1
 cases e6 : decide (s.regs = t.regs)
 ·
  have HN : Hid (d = false) := by show d = _; rw [HD.out]; exact dec_false (fun e => by rw [e.2.1] at e6; simp at e6)
  clear e6
  go_wp2
  go_ret
  exact ⟨ret_bool HN.out.symm, HB2.out.bel⟩
 have Q6 : Hid (s.regs = t.regs) := (show s.regs = t.regs from of_decide_eq_true e6)
 clear e6
 have x6 := HB2.out.fst.cell 6
 have y6 := HB2.out.snd.cell 6
 simp only [aT, aS, aZ] at x6 y6
 go_wp2_with fail
 refine (eqFunc_any a3 b3 n3 m3 c3 d3 s.rows t.rows F3 G3 _ (H3.out.1.below HB2.out.bel) (H3.out.2.1.below HB2.out.bel) hn3 hm3 HW.out.1.row HW.out.2.row).mono ?_
 rintro e w3 ⟨rfl, hb3⟩
 have HB3 : Hid (Below w.heap.size w w3) := Below.next HB2.out.bel hb3
 clear hb3 x6 y6
 obtain ⟨d3', hd3⟩ : ∃ d, d = decide (s.rows = t.rows) := ⟨_, rfl⟩
 rw [← hd3]
 have HN : Hid (d = d3') := by
  show d = _
  rw [HD.out, hd3]
  by_cases e : s.rows = t.rows
  ·
   rw [dec_true e, dec_true ⟨Q5.out, Q6.out, e⟩]
  ·
   rw [dec_false e, dec_false (fun x => e x.2.2)]
 clear hd3
 go_wp2
 go_ret
 exact ⟨ret_bool HN.out.symm, HB3.out⟩
theorem sk_tl {s : Sk} (h : s.shaped = true) : skOf s.tl = s := by
 obtain ⟨h0, h1, h2, h3, h4, h5, h6, h7, r0, r1, r2, r3, r4, r5, r6, r7, p0, p1, p2, p3, q0, q1, q2, q3, e⟩ := Sk.written h
 clear h
 generalize s.count = c at e
 generalize s.sum = sm at e
 generalize s.min = mn at e
 generalize s.max = mx at e
 subst e
 rfl
theorem tl_inj {s t : Sk} (hs : s.shaped = true) (ht : t.shaped = true) : decide (s.tl = t.tl) = decide (s = t) := by
 by_cases e : s = t
 ·
  subst e; simp
 ·
  rw [dec_false e]
  exact dec_false (fun x => e (by rw [← sk_tl hs, ← sk_tl ht, x]))
set_option maxRecDepth 200000 in
set_option maxHeartbeats 4000000 in
theorem sameImpl_any (v u : Value) (s t : Sk) (F G : List Nat) (w : World) (h : RdSk w v s F) (k : RdSk w u t G) (hw : s.wide) (kw : t.wide) :
 Calls Try.prog 26 #[v, u] w fun e w' => e = .returned (.bool (decide (s = t))) ∧ Below w.heap.size w w' := by
 have HH : Hid (RdSk w v s F ∧ RdSk w u t G ∧ s.wide ∧ t.wide) := ⟨h, k, hw, kw⟩
 obtain ⟨cs, rfl, hc7, hc1⟩ := h.cells
 obtain ⟨ds, rfl, hd7, hd1⟩ := k.cells
 have HC : Hid (cs.size = 7 ∧ ds.size = 7) := ⟨hc7, hd7⟩
 have HT : Hid (_ ∧ _ ∧ _) := two_made w cs ds 34 34
 obtain ⟨d, hd⟩ : ∃ d, d = decide (s = t) := ⟨_, rfl⟩
 rw [← hd]
 have HD : Hid (d = decide (s = t)) := hd
 clear h k hw kw hc7 hc1 hd7 hd1 hd
 go_enter Try.func26, Try.ntmps26
 go_wp2_with (first | go_skip | (with_reducible refine stopLoad 34 rfl ?_) | (with_reducible refine stopLoad 103 rfl ?_) | (with_reducible refine stopStore 103 rfl ?_))
 refine load_any 34 w.heap.size cs 34 _ HT.out.1 rfl rfl rfl Try.underlying34 rfl (skSize HC.out.1) ?_
 go_wp2_with fail
 refine (tallyOf_any _ s F _ (HH.out.1.below HT.out.2.2) HH.out.2.2.1).mono ?_
 rintro e w1 ⟨xs, rfl, xl, xe, b1⟩
 have HX : Hid (xs.length = 28 ∧ (s.shaped = true → xs = s.tl)) := ⟨xl, xe⟩
 have HW1 : Hid (Boxes w cs ds 34 w1) := ⟨HT.out.1.below b1, HT.out.2.1.below b1, Below.next HT.out.2.2 b1⟩
 clear xl xe b1 HT
 go_wp2_with (first | go_skip | (with_reducible refine stopLoad 34 rfl ?_) | (with_reducible refine stopLoad 103 rfl ?_) | (with_reducible refine stopStore 103 rfl ?_))
 refine store_fresh 103 w1.heap.size rfl (tc (List.replicate 28 0)) (tc xs) 103 rfl rfl rfl rfl (tallySize HX.out.1) (by rw [tc_size, tc_size, HX.out.1]; rfl) (tc_one _) ?_
 intro W2 hg2 b2
 have HW2 : Hid (Boxes w cs ds 34 W2 ∧ Blk W2 w1.heap.size (tc xs) 103) := ⟨HW1.out.below b2, hg2⟩
 clear hg2 b2 HW1
 go_wp2_with (first | go_skip | (with_reducible refine stopLoad 34 rfl ?_) | (with_reducible refine stopLoad 103 rfl ?_) | (with_reducible refine stopStore 103 rfl ?_))
 refine load_any 34 (w.heap.size + 1) ds 34 _ HW2.out.1.snd rfl rfl rfl Try.underlying34 rfl (skSize HC.out.2) ?_
 go_wp2_with fail
 refine (tallyOf_any _ t G _ (HH.out.2.1.below HW2.out.1.bel) HH.out.2.2.2).mono ?_
 rintro e w3 ⟨ys, rfl, xl, xe, b3⟩
 have HY : Hid (ys.length = 28 ∧ (t.shaped = true → ys = t.tl)) := ⟨xl, xe⟩
 have HW3 : Hid (Boxes w cs ds 34 w3 ∧ Blk w3 w1.heap.size (tc xs) 103) := ⟨HW2.out.1.below b3, HW2.out.2.below b3⟩
 clear xl xe b3 HW2
 go_wp2_with (first | go_skip | (with_reducible refine stopLoad 34 rfl ?_) | (with_reducible refine stopLoad 103 rfl ?_) | (with_reducible refine stopStore 103 rfl ?_))
 refine store_fresh 103 w3.heap.size rfl (tc (List.replicate 28 0)) (tc ys) 103 rfl rfl rfl rfl (tallySize HY.out.1) (by rw [tc_size, tc_size, HY.out.1]; rfl) (tc_one _) ?_
 intro W4 hg4 b4
 have HW4 : Hid (Boxes w cs ds 34 W4 ∧ Blk W4 w1.heap.size (tc xs) 103 ∧ Blk W4 w3.heap.size (tc ys) 103) := ⟨HW3.out.1.below b4, HW3.out.2.below b4, hg4⟩
 clear hg4 b4 HW3
 by_cases both : s.shaped = true ∧ t.shaped = true
 ·
  have HE : Hid (d = decide (xs = ys)) := by show d = _; rw [HD.out, HX.out.2 both.1, HY.out.2 both.2]; exact (tl_inj both.1 both.2).symm
  obtain ⟨sa, sb⟩ := both
  rw [sa, sb]
  clear sa sb
  go_wp2_with (first | go_skip | (with_reducible refine stopLoad 34 rfl ?_) | (with_reducible refine stopLoad 103 rfl ?_) | (with_reducible refine stopStore 103 rfl ?_))
  refine load_any 103 w1.heap.size (tc xs) 103 _ HW4.out.2.1 rfl rfl rfl Try.underlying103 rfl (tallySize HX.out.1) ?_
  go_wp2_with (first | go_skip | (with_reducible refine stopLoad 34 rfl ?_) | (with_reducible refine stopLoad 103 rfl ?_) | (with_reducible refine stopStore 103 rfl ?_))
  refine load_any 103 w3.heap.size (tc ys) 103 _ HW4.out.2.2 rfl rfl rfl Try.underlying103 rfl (tallySize HY.out.1) ?_
  go_wp2_with fail
  refine (same_any xs ys _ HX.out.1 HY.out.1).mono ?_
  rintro e w5 ⟨rfl, b5⟩
  have HB5 : Hid (Below w.heap.size w w5) := Below.next HW4.out.1.bel b5
  rw [← HE.out]
  clear b5
  go_wp2
  go_ret
  exact ⟨rfl, HB5.out⟩
 ·
  have hb : (s.shaped && t.shaped) = false := by
   cases e1 : s.shaped
   ·
    rfl
   ·
    cases e2 : t.shaped
    ·
     rfl
    ·
     exact absurd ⟨e1, e2⟩ both
  have rest : ∀ W (_ : W = W4), True := fun _ _ => trivial
  clear both rest
  cases sa : s.shaped
  ·
   clear hb
   go_wp2_with (first | go_skip | (with_reducible refine stopLoad 34 rfl ?_) | (with_reducible refine stopLoad 103 rfl ?_) | (with_reducible refine stopStore 103 rfl ?_))
   refine load_any 34 w.heap.size cs 34 _ HW4.out.1.fst rfl rfl rfl Try.underlying34 rfl (skSize HC.out.1) ?_
   go_wp2_with (first | go_skip | (with_reducible refine stopLoad 34 rfl ?_) | (with_reducible refine stopLoad 103 rfl ?_) | (with_reducible refine stopStore 103 rfl ?_))
   refine load_any 34 (w.heap.size + 1) ds 34 _ HW4.out.1.snd rfl rfl rfl Try.underlying34 rfl (skSize HC.out.2) ?_
   go_wp2_with fail
   refine (sameNumbers_any _ _ s t F G _ (HH.out.1.below HW4.out.1.bel) (HH.out.2.1.below HW4.out.1.bel)).mono ?_
   rintro e w5 ⟨rfl, b5⟩
   have HB5 : Hid (Boxes w cs ds 34 w5) := HW4.out.1.below b5
   clear b5
   cases en : numsEq s t
   ·
    have HN : Hid (d = false) := by show d = _; rw [HD.out]; exact dec_false (fun e => by rw [e] at en; simp [numsEq] at en)
    clear en
    go_wp2
    go_ret
    exact ⟨ret_bool HN.out.symm, HB5.out.bel⟩
   have HN1 : Hid (s.count = t.count ∧ s.sum = t.sum ∧ s.min = t.min ∧ s.max = t.max) := (show s.count = t.count ∧ s.sum = t.sum ∧ s.min = t.min ∧ s.max = t.max from of_decide_eq_true en)
   clear en
   go_wp2_with (first | go_skip | (with_reducible refine stopLoad 34 rfl ?_) | (with_reducible refine stopLoad 103 rfl ?_) | (with_reducible refine stopStore 103 rfl ?_))
   refine load_any 34 w.heap.size cs 34 _ HB5.out.fst rfl rfl rfl Try.underlying34 rfl (skSize HC.out.1) ?_
   go_wp2_with (first | go_skip | (with_reducible refine stopLoad 34 rfl ?_) | (with_reducible refine stopLoad 103 rfl ?_) | (with_reducible refine stopStore 103 rfl ?_))
   refine load_any 34 (w.heap.size + 1) ds 34 _ HB5.out.snd rfl rfl rfl Try.underlying34 rfl (skSize HC.out.2) ?_
   go_wp2_with fail
   refine (sameLists_any _ _ s t F G _ (HH.out.1.below HB5.out.bel) (HH.out.2.1.below HB5.out.bel) HH.out.2.2.1 HH.out.2.2.2).mono ?_
   rintro e w6 ⟨rfl, b6⟩
   have HB6 : Hid (Below w.heap.size w w6) := Below.next HB5.out.bel b6
   clear b6
   obtain ⟨dl, hdl⟩ : ∃ d, d = listsEq s t := ⟨_, rfl⟩
   rw [← hdl]
   have HN : Hid (d = dl) := by
    show d = _
    rw [HD.out, hdl]
    unfold listsEq
    by_cases e : s.hist = t.hist ∧ s.regs = t.regs ∧ s.rows = t.rows
    ·
     rw [dec_true e, dec_true (Sk.eq_of HN1.out.1 HN1.out.2.1 HN1.out.2.2.1 HN1.out.2.2.2 e.1 e.2.1 e.2.2)]
    ·
     rw [dec_false e]; exact dec_false (fun x => e (by rw [x]; exact ⟨rfl, rfl, rfl⟩))
   clear hdl
   go_wp2
   go_ret
   exact ⟨ret_bool HN.out.symm, HB6.out⟩
  ·
   rw [sa] at hb
   have sb : t.shaped = false := by simpa using hb
   rw [sb]
   clear hb sa sb
   go_wp2_with (first | go_skip | (with_reducible refine stopLoad 34 rfl ?_) | (with_reducible refine stopLoad 103 rfl ?_) | (with_reducible refine stopStore 103 rfl ?_))
   refine load_any 34 w.heap.size cs 34 _ HW4.out.1.fst rfl rfl rfl Try.underlying34 rfl (skSize HC.out.1) ?_
   go_wp2_with (first | go_skip | (with_reducible refine stopLoad 34 rfl ?_) | (with_reducible refine stopLoad 103 rfl ?_) | (with_reducible refine stopStore 103 rfl ?_))
   refine load_any 34 (w.heap.size + 1) ds 34 _ HW4.out.1.snd rfl rfl rfl Try.underlying34 rfl (skSize HC.out.2) ?_
   go_wp2_with fail
   refine (sameNumbers_any _ _ s t F G _ (HH.out.1.below HW4.out.1.bel) (HH.out.2.1.below HW4.out.1.bel)).mono ?_
   rintro e w5 ⟨rfl, b5⟩
   have HB5 : Hid (Boxes w cs ds 34 w5) := HW4.out.1.below b5
   clear b5
   cases en : numsEq s t
   ·
    have HN : Hid (d = false) := by show d = _; rw [HD.out]; exact dec_false (fun e => by rw [e] at en; simp [numsEq] at en)
    clear en
    go_wp2
    go_ret
    exact ⟨ret_bool HN.out.symm, HB5.out.bel⟩
   have HN1 : Hid (s.count = t.count ∧ s.sum = t.sum ∧ s.min = t.min ∧ s.max = t.max) := (show s.count = t.count ∧ s.sum = t.sum ∧ s.min = t.min ∧ s.max = t.max from of_decide_eq_true en)
   clear en
   go_wp2_with (first | go_skip | (with_reducible refine stopLoad 34 rfl ?_) | (with_reducible refine stopLoad 103 rfl ?_) | (with_reducible refine stopStore 103 rfl ?_))
   refine load_any 34 w.heap.size cs 34 _ HB5.out.fst rfl rfl rfl Try.underlying34 rfl (skSize HC.out.1) ?_
   go_wp2_with (first | go_skip | (with_reducible refine stopLoad 34 rfl ?_) | (with_reducible refine stopLoad 103 rfl ?_) | (with_reducible refine stopStore 103 rfl ?_))
   refine load_any 34 (w.heap.size + 1) ds 34 _ HB5.out.snd rfl rfl rfl Try.underlying34 rfl (skSize HC.out.2) ?_
   go_wp2_with fail
   refine (sameLists_any _ _ s t F G _ (HH.out.1.below HB5.out.bel) (HH.out.2.1.below HB5.out.bel) HH.out.2.2.1 HH.out.2.2.2).mono ?_
   rintro e w6 ⟨rfl, b6⟩
   have HB6 : Hid (Below w.heap.size w w6) := Below.next HB5.out.bel b6
   clear b6
   obtain ⟨dl, hdl⟩ : ∃ d, d = listsEq s t := ⟨_, rfl⟩
   rw [← hdl]
   have HN : Hid (d = dl) := by
    show d = _
    rw [HD.out, hdl]
    unfold listsEq
    by_cases e : s.hist = t.hist ∧ s.regs = t.regs ∧ s.rows = t.rows
    ·
     rw [dec_true e, dec_true (Sk.eq_of HN1.out.1 HN1.out.2.1 HN1.out.2.2.1 HN1.out.2.2.2 e.1 e.2.1 e.2.2)]
    ·
     rw [dec_false e]; exact dec_false (fun x => e (by rw [x]; exact ⟨rfl, rfl, rfl⟩))
   clear hdl
   go_wp2
   go_ret
   exact ⟨ret_bool HN.out.symm, HB6.out⟩
end Go.Proofs.Ytgkbhhlkaifnoaa
/- The walks through the program's SketchOk. No statement of the seat is proved here. -/
namespace Go.Proofs.Ytgkbhhlkaifnoaa
open Go.RowKit
set_option maxRecDepth 200000 in
set_option maxHeartbeats 1000000 in
theorem okImpl_any (v : Value) (s : Sk) (F : List Nat) (w : World) (h : RdSk w v s F) (hw : s.wide) :
 Calls Try.prog 96 #[v] w fun e w' => e = .returned (.bool s.ok) ∧ Below w.heap.size w w' := by
 have HH : Hid (RdSk w v s F ∧ s.wide) := ⟨h, hw⟩
 obtain ⟨a1, n1, c1, a2, n2, c2, a3, n3, c3, F1, F2, F3, rfl, h1, h2, h3, _⟩ := h
 clear h1 h2 h3 hw
 have HT : Hid (Below w.heap.size w (w.alloc (.cells #[.int .i64 s.count, .int .i64 s.sum, .int .i64 s.min, .int .i64 s.max, .slice a1 n1 c1, .slice a2 n2 c2, .slice a3 n3 c3] 34))) := (Below.refl _ _).alloc (Nat.le_refl _) _
 go_enter Try.func96, Try.ntmps96
 go_wp2_with fail
 refine (okTally_any _ s F _ (HH.out.1.below HT.out) HH.out.2).mono ?_
 rintro e w1 ⟨xs, ys, rfl, _, hy, hx, _, hb1⟩
 have HB : Hid (ys.length = 28 ∧ okT s xs = s.ok ∧ Below w.heap.size w w1) := ⟨hy, okT_ok hx, Below.next HT.out hb1⟩
 clear hb1 hy hx
 go_wp2_with (with_reducible refine stopStore 103 rfl ?_)
 refine store_fresh 103 w1.heap.size rfl (tc (List.replicate 28 0)) (tc ys) 103 rfl rfl rfl rfl (tallySize HB.out.1) (by rw [tc_size, tc_size, HB.out.1]; rfl) (tc_one _) ?_
 intro W2 _ hb2
 have HB2 : Hid (Below w.heap.size w W2) := Below.next HB.out.2.2 hb2
 clear hb2
 go_wp2
 go_ret
 exact ⟨ret_bool HB.out.2.1, HB2.out⟩
end Go.Proofs.Ytgkbhhlkaifnoaa
/- Sets of numbers: what makes two of them the same, and what is made of both. No statement of the seat is proved here. -/
namespace Go.Proofs.Ytgkbhhlkaifnoaa
open Go.RowKit
/-- Right from l on: the spans rise, with a gap between any two. -/
def okFrom : Int → Sp → Prop
 | _, [] => True
 | l, p :: ps => (l ≤ p.1 ∧ p.1 ≤ p.2 ∧ p.2 ≤ 9999) ∧ okFrom (p.2 + 2) ps
def endOf : Int → Sp → Int
 | l, [] => l
 | _, p :: ps => endOf (p.2 + 2) ps
theorem okFrom_append : ∀ (o r : Sp) (l : Int), okFrom l (o ++ r) ↔ okFrom l o ∧ okFrom (endOf l o) r
 | [], r, l => by simp [okFrom, endOf]
 | p :: o, r, l => by simp only [List.cons_append, okFrom, endOf, okFrom_append o r, and_assoc]
theorem endOf_snoc : ∀ (o : Sp) (t : Int × Int) (l : Int), endOf l (o ++ [t]) = t.2 + 2
 | [], t, l => rfl
 | p :: o, t, l => by simp only [List.cons_append, endOf, endOf_snoc o t]
theorem okFrom_mono : ∀ {ps : Sp} {l m : Int}, okFrom l ps → m ≤ l → okFrom m ps
 | [], _, _, _, _ => trivial
 | p :: ps, l, m, h, hm => ⟨⟨by have := h.1; omega, h.1.2⟩, h.2⟩
theorem has_cons (p : Int × Int) (ps : Sp) (n : Int) : Sp.has (p :: ps) n = (decide (p.1 ≤ n ∧ n ≤ p.2) || Sp.has ps n) := rfl
theorem has_nil (n : Int) : Sp.has [] n = false := rfl
theorem has_append (ps qs : Sp) (n : Int) : Sp.has (ps ++ qs) n = (Sp.has ps n || Sp.has qs n) := by simp [Sp.has]
/-- n is in ps. -/
def InS (ps : Sp) (n : Int) : Prop := ps.has n = true
theorem inS_cons {p : Int × Int} {ps : Sp} {n : Int} : InS (p :: ps) n ↔ (p.1 ≤ n ∧ n ≤ p.2) ∨ InS ps n := by unfold InS; rw [has_cons]; simp
theorem inS_nil {n : Int} : ¬ InS [] n := by unfold InS; rw [has_nil]; simp
theorem inS_append {ps qs : Sp} {n : Int} : InS (ps ++ qs) n ↔ InS ps n ∨ InS qs n := by unfold InS; rw [has_append]; simp
theorem inS_ge : ∀ {ps : Sp} {l n : Int}, okFrom l ps → InS ps n → l ≤ n
 | [], _, _, _, h => (inS_nil h).elim
 | p :: ps, l, n, h, hn => by
  rcases inS_cons.1 hn with e | e
  ·
   have := h.1; omega
  ·
   have := inS_ge h.2 e; have := h.1; omega
theorem sp_ext : ∀ {ps qs : Sp} {l m : Int}, okFrom l ps → okFrom m qs → (∀ n, InS ps n ↔ InS qs n) → ps = qs
 | [], [], _, _, _, _, _ => rfl
 | [], q :: qs, _, _, _, h2, h => by
  have := (h q.1).2 (inS_cons.2 (.inl ⟨Int.le_refl _, h2.1.2.1⟩))
  exact (inS_nil this).elim
 | p :: ps, [], _, _, h1, _, h => by
  have := (h p.1).1 (inS_cons.2 (.inl ⟨Int.le_refl _, h1.1.2.1⟩))
  exact (inS_nil this).elim
 | p :: ps, q :: qs, l, m, h1, h2, h => by
  obtain ⟨⟨a1, a2, a3⟩, a4⟩ := h1
  obtain ⟨⟨b1, b2, b3⟩, b4⟩ := h2
  have e1 : p.1 = q.1 := by
   have x1 := inS_ge (ps := q :: qs) (l := q.1) ⟨⟨Int.le_refl _, b2, b3⟩, b4⟩ ((h p.1).1 (inS_cons.2 (.inl ⟨Int.le_refl _, a2⟩)))
   have x2 := inS_ge (ps := p :: ps) (l := p.1) ⟨⟨Int.le_refl _, a2, a3⟩, a4⟩ ((h q.1).2 (inS_cons.2 (.inl ⟨Int.le_refl _, b2⟩)))
   omega
  have e2 : p.2 = q.2 := by
   rcases Int.lt_trichotomy p.2 q.2 with c | c | c
   ·
    rcases inS_cons.1 ((h (p.2 + 1)).2 (inS_cons.2 (.inl ⟨by omega, by omega⟩))) with e | e
    ·
     omega
    ·
     have := inS_ge a4 e; omega
   ·
    exact c
   ·
    rcases inS_cons.1 ((h (q.2 + 1)).1 (inS_cons.2 (.inl ⟨by omega, by omega⟩))) with e | e
    ·
     omega
    ·
     have := inS_ge b4 e; omega
  have e3 : ps = qs := sp_ext a4 b4 (fun n => by
   constructor
   ·
    intro hn
    have := inS_ge a4 hn
    rcases inS_cons.1 ((h n).1 (inS_cons.2 (.inr hn))) with e | e
    ·
     omega
    ·
     exact e
   ·
    intro hn
    have := inS_ge b4 hn
    rcases inS_cons.1 ((h n).2 (inS_cons.2 (.inr hn))) with e | e
    ·
     omega
    ·
     exact e)
  rw [e3, Prod.ext e1 e2]
/-- What is right, seen from the k-th span on. -/
def floorAt (ps : Sp) (k : Nat) : Int := if k = 0 then 0 else (ps.at (k - 1)).2 + 2
theorem okAt_iff (ps : Sp) (k : Nat) : ps.okAt k = true ↔ (if k = 0 then 0 else (ps.at (k - 1)).2 + 2) ≤ (ps.at k).1 ∧ 0 ≤ (ps.at k).1 ∧ (ps.at k).1 ≤ (ps.at k).2 ∧ (ps.at k).2 ≤ 9999 := by
 unfold Sp.okAt
 simp only [Bool.and_eq_true, Bool.or_eq_true, decide_eq_true_eq]
 split <;> omega
theorem okFrom_drop (ps : Sp) : ∀ (d k : Nat), k + d = ps.length → 0 ≤ floorAt ps k → ((∀ j, k ≤ j → j < ps.length → ps.okAt j = true) ↔ okFrom (floorAt ps k) (ps.drop k))
 | 0, k, hk, _ => by
  rw [List.drop_eq_nil_of_le (by omega)]
  exact ⟨fun _ => trivial, fun _ j h1 h2 => by omega⟩
 | d + 1, k, hk, h0 => by
  rw [drop_at (by omega), okFrom]
  have e : floorAt ps (k + 1) = (ps.at k).2 + 2 := by unfold floorAt; rw [if_neg (by omega), show k + 1 - 1 = k by omega]
  constructor
  ·
   intro h
   have hk1 := (okAt_iff ps k).1 (h k (Nat.le_refl _) (by omega))
   refine ⟨⟨hk1.1, hk1.2.2⟩, ?_⟩
   rw [← e]
   exact (okFrom_drop ps d (k + 1) (by omega) (by rw [e]; omega)).1 (fun j h1 h2 => h j (by omega) h2)
  ·
   rintro ⟨h1, h2⟩ j hj1 hj2
   by_cases c : j = k
   ·
    subst c
    exact (okAt_iff ps j).2 ⟨h1.1, by omega, h1.2⟩
   ·
    rw [← e] at h2
    exact (okFrom_drop ps d (k + 1) (by omega) (by rw [e]; omega)).2 h2 j (by omega) hj2
theorem ok_iff {ps : Sp} : ps.ok = true ↔ okFrom 0 ps := by
 have e := okFrom_drop ps ps.length 0 (by omega) (by simp [floorAt])
 simp only [floorAt, if_true, List.drop_zero] at e
 rw [← e]
 exact ⟨fun h j _ hj => Sp.ok_at h j hj, fun h => Sp.ok_all (fun j hj => h j (Nat.zero_le _) hj)⟩
theorem put_true_same : ∀ {ps : Sp} {x : Int × Int} {l : Int}, okFrom l ps → x.2 + 2 ≤ l → x.1 ≤ x.2 → put ps x true = ps
 | [], _, _, _, _, _ => rfl
 | p :: ps, x, l, h, hl, hx => by
  obtain ⟨⟨a1, a2, a3⟩, a4⟩ := h
  rw [put, if_neg (by omega), if_pos (by omega), put_true_same a4 (by omega) hx]
  rfl
theorem put_ok : ∀ {ps : Sp} {x : Int × Int} {l : Int}, okFrom l ps → l ≤ x.1 → x.1 ≤ x.2 → x.2 ≤ 9999 → okFrom l (put ps x false) ∧ ∀ n, InS (put ps x false) n ↔ InS ps n ∨ (x.1 ≤ n ∧ n ≤ x.2)
 | [], x, l, _, h1, h2, h3 => ⟨⟨⟨h1, h2, h3⟩, trivial⟩, fun n => by
  show InS [x] n ↔ _
  rw [inS_cons]
  exact ⟨fun h => h.symm.imp (fun e => e) (fun e => e), fun h => h.symm.imp (fun e => e) (fun e => e)⟩⟩
 | p :: ps, x, l, h, h1, h2, h3 => by
  obtain ⟨⟨a1, a2, a3⟩, a4⟩ := h
  rw [put]
  split
  ·
   obtain ⟨i1, i2⟩ := put_ok a4 (by omega) h2 h3
   refine ⟨⟨⟨a1, a2, a3⟩, i1⟩, fun n => ?_⟩
   rw [inS_cons, inS_cons, i2, or_assoc]
  ·
   split
   ·
    rw [put_true_same (l := p.2 + 2) a4 (by omega) h2]
    refine ⟨⟨⟨h1, h2, h3⟩, ⟨⟨by omega, a2, a3⟩, a4⟩⟩, fun n => ?_⟩
    show InS (x :: p :: ps) n ↔ _
    rw [inS_cons (p := x)]
    exact or_comm
   ·
    obtain ⟨i1, i2⟩ := put_ok (x := (min x.1 p.1, max x.2 p.2)) (l := l) (okFrom_mono a4 (by omega)) (by simp only; omega) (by simp only; omega) (by simp only; omega)
    refine ⟨i1, fun n => ?_⟩
    rw [i2, inS_cons]
    have : (min x.1 p.1 ≤ n ∧ n ≤ max x.2 p.2) ↔ (p.1 ≤ n ∧ n ≤ p.2) ∨ (x.1 ≤ n ∧ n ≤ x.2) := by omega
    rw [show ((min x.1 p.1, max x.2 p.2).1 ≤ n ∧ n ≤ (min x.1 p.1, max x.2 p.2).2) ↔ (p.1 ≤ n ∧ n ≤ p.2) ∨ (x.1 ≤ n ∧ n ≤ x.2) from this, or_comm, or_right_comm]
theorem okFrom_at {ps : Sp} (h : okFrom 0 ps) {k : Nat} (hk : k < ps.length) : 0 ≤ (ps.at k).1 ∧ (ps.at k).1 ≤ (ps.at k).2 ∧ (ps.at k).2 ≤ 9999 := (Sp.okAt_parts (Sp.ok_at (ok_iff.2 h) k hk)).1
theorem take_inS {qs : Sp} {k : Nat} (hk : k < qs.length) (n : Int) : InS (qs.take (k + 1)) n ↔ InS (qs.take k) n ∨ ((qs.at k).1 ≤ n ∧ n ≤ (qs.at k).2) := by
 rw [takeP_succ qs k hk, inS_append, inS_cons]
 show _ ∨ (_ ∨ InS [] n) ↔ _
 exact ⟨fun h => h.imp id (fun h => h.resolve_right inS_nil), fun h => h.imp id .inl⟩
theorem joinTo_ok {ps qs : Sp} (h1 : okFrom 0 ps) (h2 : okFrom 0 qs) : ∀ k, k ≤ qs.length → okFrom 0 (joinTo ps qs k) ∧ ∀ n, InS (joinTo ps qs k) n ↔ InS ps n ∨ InS (qs.take k) n
 | 0, _ => by
  rw [joinTo_zero]
  exact ⟨h1, fun n => ⟨.inl, fun h => h.resolve_right inS_nil⟩⟩
 | k + 1, hk => by
  have hq := okFrom_at h2 (k := k) (by omega)
  obtain ⟨i1, i2⟩ := joinTo_ok h1 h2 k (by omega)
  obtain ⟨j1, j2⟩ := put_ok (x := qs.at k) i1 (by omega) (by omega) (by omega)
  rw [joinTo_succ (by omega)]
  refine ⟨j1, fun n => ?_⟩
  rw [j2, i2, take_inS (by omega), or_assoc]
theorem join_ok {ps qs : Sp} (h1 : okFrom 0 ps) (h2 : okFrom 0 qs) : okFrom 0 (joinTo ps qs qs.length) ∧ ∀ n, InS (joinTo ps qs qs.length) n ↔ InS ps n ∨ InS qs n := by
 have := joinTo_ok h1 h2 qs.length (Nat.le_refl _)
 rw [List.take_length] at this
 exact this
/-- A span is laid behind o: apart, or into its last one. -/
def lay1 (o : Sp) (x : Int × Int) : Sp := if o = [] ∨ (o.at (o.length - 1)).2 + 1 < x.1 then o ++ [x] else o.take (o.length - 1) ++ [((o.at (o.length - 1)).1, max (o.at (o.length - 1)).2 x.2)]
def lay (o xs : Sp) : Sp := xs.foldl lay1 o
/-- How many spans begin no later than n. -/
def cutN : Sp → Int → Nat
 | [], _ => 0
 | p :: ps, n => if p.1 ≤ n then cutN ps n + 1 else 0
/-- Both sets, gone through once; o: what has come. -/
def both : Sp → Sp → Sp → Sp
 | a, [], o => lay o a
 | a, x :: b, o => both (a.drop (cutN a x.1)) b (lay1 (lay o (a.take (cutN a x.1))) x)
theorem snoc_cases (o : Sp) : o = [] ∨ ∃ o' t, o = o' ++ [t] := by
 rcases List.eq_nil_or_concat o with h | ⟨o', t, h⟩
 ·
  exact .inl h
 ·
  exact .inr ⟨o', t, by simpa using h⟩
theorem lay1_nil (x : Int × Int) : lay1 [] x = [x] := by simp [lay1]
theorem lay1_snoc (o : Sp) (t x : Int × Int) : lay1 (o ++ [t]) x = if t.2 + 1 < x.1 then o ++ [t] ++ [x] else o ++ [(t.1, max t.2 x.2)] := by
 have e : (o ++ [t]).at ((o ++ [t]).length - 1) = t := by simp [Sp.at]
 have e2 : (o ++ [t]).take ((o ++ [t]).length - 1) = o := by simp
 unfold lay1
 rw [e, e2]
 simp
/-- Right so far; the last span begins at m or ahead of it. -/
structure LayOk (o : Sp) (m : Int) : Prop where
 ok : okFrom 0 o
 le : ∀ o' t, o = o' ++ [t] → t.1 ≤ m
theorem LayOk.nil (m : Int) : LayOk [] m := ⟨trivial, fun o' t h => by simp at h⟩
theorem LayOk.up {o : Sp} {m m' : Int} (h : LayOk o m) (hm : m ≤ m') : LayOk o m' := ⟨h.ok, fun o' t e => Int.le_trans (h.le o' t e) hm⟩
theorem lay1_ok {o : Sp} {x : Int × Int} {m : Int} (h : LayOk o m) (hm : m ≤ x.1) (h0 : 0 ≤ x.1) (h1 : x.1 ≤ x.2) (h2 : x.2 ≤ 9999) : LayOk (lay1 o x) x.1 ∧ ∀ n, InS (lay1 o x) n ↔ InS o n ∨ (x.1 ≤ n ∧ n ≤ x.2) := by
 rcases snoc_cases o with rfl | ⟨o', t, rfl⟩
 ·
  rw [lay1_nil]
  refine ⟨⟨⟨⟨h0, h1, h2⟩, trivial⟩, fun o' t e => ?_⟩, fun n => ?_⟩
  ·
   obtain ⟨rfl, rfl⟩ : o' = [] ∧ x = t := by
    cases o' with
    | nil => simpa using e
    | cons y ys => simp at e
   exact Int.le_refl _
  ·
   rw [inS_cons]
   exact ⟨fun h => .inr (h.resolve_right inS_nil), fun h => .inl (h.resolve_left inS_nil)⟩
 ·
  have ht := h.le o' t rfl
  have hok := h.ok
  rw [okFrom_append] at hok
  obtain ⟨k1, ⟨k2, k3, k4⟩, _⟩ := hok
  rw [lay1_snoc]
  split
  ·
   refine ⟨⟨?_, fun o2 t2 e => ?_⟩, fun n => ?_⟩
   ·
    rw [okFrom_append, endOf_snoc]
    exact ⟨h.ok, ⟨by omega, h1, h2⟩, trivial⟩
   ·
    have e3 := List.append_inj_right' e rfl
    obtain rfl : x = t2 := by simpa using e3
    exact Int.le_refl _
   ·
    rw [inS_append (ps := o' ++ [t]), inS_cons (p := x)]
    exact ⟨fun h => h.imp id (fun h => h.resolve_right inS_nil), fun h => h.imp id .inl⟩
  ·
   refine ⟨⟨?_, fun o2 t2 e => ?_⟩, fun n => ?_⟩
   ·
    rw [okFrom_append]
    exact ⟨k1, ⟨k2, by simp only; omega, by simp only; omega⟩, trivial⟩
   ·
    have e3 := List.append_inj_right' e rfl
    have e4 : (t.1, max t.2 x.2) = t2 := by simpa using e3
    rw [← e4]; simp only; omega
   ·
    rw [inS_append, inS_append, inS_cons, inS_cons]
    have : (t.1 ≤ n ∧ n ≤ max t.2 x.2) ↔ (t.1 ≤ n ∧ n ≤ t.2) ∨ (x.1 ≤ n ∧ n ≤ x.2) := by omega
    rw [show ((t.1, max t.2 x.2).1 ≤ n ∧ n ≤ (t.1, max t.2 x.2).2) ↔ (t.1 ≤ n ∧ n ≤ t.2) ∨ (x.1 ≤ n ∧ n ≤ x.2) from this]
    have e := inS_nil (n := n)
    simp only [e, or_false, or_assoc]
theorem lay_ok : ∀ {xs o : Sp} {m l M : Int}, LayOk o m → okFrom l xs → m ≤ l → 0 ≤ l → m ≤ M → (∀ p ∈ xs, p.1 ≤ M) → LayOk (lay o xs) M ∧ ∀ n, InS (lay o xs) n ↔ InS o n ∨ InS xs n
 | [], o, m, l, M, h, _, _, _, hM, _ => ⟨h.up hM, fun n => ⟨.inl, fun h => h.resolve_right inS_nil⟩⟩
 | x :: xs, o, m, l, M, h, hx, hm, h0, hM, hall => by
  obtain ⟨⟨a1, a2, a3⟩, a4⟩ := hx
  obtain ⟨i1, i2⟩ := lay1_ok h (x := x) (by omega) (by omega) a2 a3
  obtain ⟨j1, j2⟩ := lay_ok (xs := xs) (M := M) i1 a4 (by omega) (by omega) (hall x (by simp)) (fun p hp => hall p (by simp [hp]))
  refine ⟨j1, fun n => ?_⟩
  rw [show lay o (x :: xs) = lay (lay1 o x) xs from rfl, j2, i2, inS_cons, or_assoc]
theorem cut_take : ∀ (a : Sp) (n : Int), ∀ p ∈ a.take (cutN a n), p.1 ≤ n
 | [], _, p, hp => by simp [cutN] at hp
 | q :: a, n, p, hp => by
  rw [cutN] at hp
  split at hp
  ·
   rw [List.take_succ_cons] at hp
   rcases List.mem_cons.1 hp with rfl | hp
   ·
    assumption
   ·
    exact cut_take a n p hp
  ·
   simp at hp
theorem okFrom_take {l : Int} {a : Sp} (k : Nat) (h : okFrom l a) : okFrom l (a.take k) := by
 have := h
 rw [← List.take_append_drop k a, okFrom_append] at this
 exact this.1
theorem cut_drop : ∀ {a : Sp} {n l : Int}, okFrom l a → okFrom n (a.drop (cutN a n))
 | [], _, _, _ => by simp [cutN, okFrom]
 | q :: a, n, l, h => by
  rw [cutN]
  split
  ·
   rw [List.drop_succ_cons]; exact cut_drop h.2
  ·
   exact ⟨⟨by omega, h.1.2⟩, h.2⟩
theorem both_ok : ∀ {b a o : Sp} {m la lb : Int}, LayOk o m → okFrom la a → okFrom lb b → m ≤ la → m ≤ lb → 0 ≤ la → 0 ≤ lb → okFrom 0 (both a b o) ∧ ∀ n, InS (both a b o) n ↔ InS o n ∨ InS a n ∨ InS b n
 | [], a, o, m, la, lb, h, ha, _, h1, _, h0, _ => by
  obtain ⟨M, hM⟩ : ∃ M : Int, m ≤ M ∧ ∀ p ∈ a, p.1 ≤ M := ⟨max m 9999, by omega, fun p hp => by
   obtain ⟨k, hk, rfl⟩ := List.getElem_of_mem hp
   have := okFrom_at (okFrom_mono ha h0) hk
   unfold Sp.at at this
   rw [List.getElem?_eq_getElem hk] at this
   simp only [Option.getD_some] at this
   omega⟩
  obtain ⟨i1, i2⟩ := lay_ok h ha h1 h0 hM.1 hM.2
  refine ⟨i1.ok, fun n => ?_⟩
  rw [both, i2]
  exact ⟨fun h => h.imp id .inl, fun h => h.imp id (fun h => h.resolve_right inS_nil)⟩
 | x :: b, a, o, m, la, lb, h, ha, hb, h1, h2, h0, h00 => by
  obtain ⟨⟨b1, b2, b3⟩, b4⟩ := hb
  obtain ⟨i1, i2⟩ := lay_ok (M := x.1) h (okFrom_take (cutN a x.1) ha) h1 h0 (by omega) (cut_take a x.1)
  obtain ⟨j1, j2⟩ := lay1_ok (x := x) i1 (Int.le_refl _) (by omega) b2 b3
  obtain ⟨k1, k2⟩ := both_ok (a := a.drop (cutN a x.1)) (b := b) j1 (cut_drop ha) b4 (Int.le_refl _) (by omega) (by omega) (by omega)
  refine ⟨k1, fun n => ?_⟩
  have e : InS a n ↔ InS (a.take (cutN a x.1)) n ∨ InS (a.drop (cutN a x.1)) n := by rw [← inS_append, List.take_append_drop]
  rw [both, k2, j2, i2, inS_cons, e]
  simp only [or_assoc]
  constructor
  ·
   rintro (h | h | h | h | h) <;> simp [h]
  ·
   rintro (h | h | h | h | h) <;> simp [h]
theorem both_nil_ok {a b : Sp} (ha : okFrom 0 a) (hb : okFrom 0 b) : okFrom 0 (both a b []) ∧ ∀ n, InS (both a b []) n ↔ InS a n ∨ InS b n := by
 obtain ⟨i1, i2⟩ := both_ok (LayOk.nil 0) ha hb (Int.le_refl _) (Int.le_refl _) (Int.le_refl _) (Int.le_refl _)
 exact ⟨i1, fun n => by rw [i2]; exact ⟨fun h => h.resolve_left inS_nil, .inr⟩⟩
theorem both_join {a b : Sp} (ha : a.ok = true) (hb : b.ok = true) : both a b [] = a.join b := by
 rw [Sp.join_yes ha hb]
 obtain ⟨i1, i2⟩ := both_nil_ok (ok_iff.1 ha) (ok_iff.1 hb)
 obtain ⟨j1, j2⟩ := join_ok (ok_iff.1 ha) (ok_iff.1 hb)
 exact sp_ext i1 j1 (fun n => by rw [i2, j2])
end Go.Proofs.Ytgkbhhlkaifnoaa
