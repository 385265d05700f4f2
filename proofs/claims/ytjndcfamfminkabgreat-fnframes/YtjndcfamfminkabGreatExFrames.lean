/- For every byte slice (no condition): laws.FnFrames returns true, and its argument reads afterwards as it did: a frame is read from its bytes as it was, what is read is that frame's bytes; a summary likewise. -/
import Derived.Test.YtjndcfamfminkabGreatLawBase
import Derived.Test.YtjndcfamfminkabGreatB3
import Derived.Test.YtjndcfamfminkabGreatB5
import Derived.Test.YtjndcfamfminkabGreatB4
import Derived.Test.YtjndcfamfminkabGreatFrModel
import Derived.Test.YtjndcfamfminkabGreatSkLaw
import Derived.Deep.DeepCutAuto
import Derived.Test.YtjndcfamfminkabGreatRows
import Derived.WalkKit
import Derived.ProofKit
import Derived.OpenShut
import Derived.ShutString
import Derived.ChangeOld
import Derived.Below
namespace Go.Proofs.YtjndcfamfminkabGreat.fnFrames
open Go.ChangeShapes Go.WideShapes Go.ChangeAt Go.RowKit
open Go.ChangeMaps (open_string shut_string)
set_option linter.unusedVariables false

theorem own : ownKnob Tryz.prog.godebug = none := by kernel_rfl
theorem laidOut : laidOutB Tryz.prog = true := by kernel_rfl

/-- WHAT THE WALK IS TOLD OF A SLICE OF INTEGERS THAT CAME IN: it is nil; or it leads to a row of 'cap' cells, the numbers 'zs' (the first 'len' are its elements, the rest its spare room), each fitting its kind. -/
def IsRow (k : IntKind) (w : World) (a : Option Addr) (len cap : Nat) (zs : List Int) : Prop :=
  (a = none ∧ len = 0 ∧ cap = 0 ∧ zs = []) ∨
  ∃ x, a = some x ∧ len ≤ cap ∧ cap ≤ maxLen ∧ zs.length = cap ∧ (∀ i, i < zs.length → w.cell? (x.add i) = some (.int k (zs.getD i 0))) ∧ ∀ n ∈ zs, (Lit.int k n).wf = true

/-- A frame in a variable. -/
structure VarFr (L : Nat) (cs : Array Value) (f : Fr) (F G : List Nat) (W : World) : Prop where
  blk : Blk W L cs 32
  rd : RdFr W (.agg cs) f F G
  size : cs.size = 16
  wide : f.item.sk.wide
  many : f.taken.length ≤ 40
theorem VarFr.below {L : Nat} {cs : Array Value} {f : Fr} {F G : List Nat} {W W' : World} (h : VarFr L cs f F G W) (b : Below W.heap.size W W') : VarFr L cs f F G W' := ⟨h.blk.below b, h.rd.below b, h.size, h.wide, h.many⟩
theorem VarFr.info {L : Nat} {cs : Array Value} {f : Fr} {F G : List Nat} {W : World} (h : VarFr L cs f F G W) : (Tryz.prog.info? 32).map (·.size) = some cs.size := by rw [h.size]; exact infoFrD7
/-- A summary in a variable. -/
structure VarS7 (L : Nat) (cs : Array Value) (s : Sk) (F : List Nat) (W : World) : Prop where
  blk : Blk W L cs 28
  rd : RdSk W (.agg cs) s F
  size : cs.size = 7
  wide : s.wide
theorem VarS7.below {L : Nat} {cs : Array Value} {s : Sk} {F : List Nat} {W W' : World} (h : VarS7 L cs s F W) (b : Below W.heap.size W W') : VarS7 L cs s F W' := ⟨h.blk.below b, h.rd.below b, h.size, h.wide⟩
theorem VarS7.info {L : Nat} {cs : Array Value} {s : Sk} {F : List Nat} {W : World} (h : VarS7 L cs s F W) : (Tryz.prog.info? 28).map (·.size) = some cs.size := by rw [h.size]; exact infoSkI
/-- Bytes in a variable. -/
structure VarBy (p : Option Addr) (n c : Nat) (ys : List Int) (W : World) : Prop where
  rd : RdB W p n ys
  cap : n ≤ c
  nil : p = none → c = 0
  many : n ≤ 600
theorem VarBy.below {p : Option Addr} {n c : Nat} {ys : List Int} {W W' : World} (h : VarBy p n c ys W) (b : Below W.heap.size W W') : VarBy p n c ys W' := ⟨h.rd.below b, h.cap, h.nil, h.many⟩
theorem varBy_own {w : World} {B e n : Nat} {v : Value} {ys : List Int} (h : w.ownsRow B e 1 v n (ys.map (Value.int .u8))) (hr : ∀ y ∈ ys, 0 ≤ y ∧ y ≤ 255) (hn : n ≤ 600) : ∃ p c, v = .slice p n c ∧ VarBy p n c ys w := by
  have hl : ys.length = n := by have := h.1; simpa using this
  rcases h.2 with ⟨e1, e2⟩ | ⟨g, cap, cur, e1, h1, h2, h3, h4⟩
  · subst e2
    have : ys = [] := List.eq_nil_of_length_eq_zero hl
    subst this
    exact ⟨none, 0, e1, RdB.nil, Nat.le_refl _, fun _ => rfl, hn⟩
  · subst e1
    exact ⟨_, cap, rfl, RdB.of_own h hr, h3, (fun e => by cases e), hn⟩
theorem sk_full_wide {s : Sk} (h : s.full) : s.wide := full_wide h
theorem fr_back {f x : Fr} {d : Bool} (h : FrIs f.bytes x d) : d = f.ok ∧ (f.ok = true → x = f) := by
  by_cases k : f.ok = true
  · obtain ⟨e1, e2⟩ := h.unique (frIs_yes k rfl)
    exact ⟨by rw [e2, k], fun _ => e1⟩
  · have e : f.bytes = [] := by unfold Fr.bytes; rw [if_neg k]
    rw [e] at h
    obtain ⟨e1, e2⟩ := h.unique (of_short (by simp))
    exact ⟨by rw [e2]; cases q : f.ok <;> simp_all, fun q => absurd q k⟩
theorem sk_back {s t : Sk} {d : Bool} (h : SkIs s.bytes t d) : d = s.ok ∧ (s.ok = true → t = s) := by
  by_cases k : s.ok = true
  · obtain ⟨e1, e2⟩ := h.unique ((if_pos rfl).mpr ⟨k, rfl⟩)
    exact ⟨by rw [e2, k], fun _ => e1⟩
  · have e : s.bytes = [] := by unfold Sk.bytes; rw [if_neg k]
    rw [e] at h
    have n : SkIs [] Sk.zero false := (if_neg (by simp)).mpr ⟨rfl, fun u hu q => by
      rw [Sk.bytes_ok hu] at q
      have i := (Sk.ok_lens hu).2 u.count (by unfold Sk.nums; simp)
      have e' : u.nums = u.count :: u.nums.tail := by unfold Sk.nums; rfl
      have p := putAll_pos (a := u.count) (l := u.nums.tail) i
      rw [← e', ← q] at p
      simp at p⟩
    obtain ⟨e1, e2⟩ := h.unique n
    exact ⟨by rw [e2]; cases q : s.ok <;> simp_all, fun q => absurd q k⟩
theorem fr_fits {zs : List Int} {f : Fr} {d : Bool} (h : FrIs zs f d) : f.item.sk.wide ∧ f.taken.length ≤ 40 ∧ (d = true → f.bytes = zs) := by
  unfold FrIs at h
  cases d
  · rw [if_neg (by simp)] at h
    rw [h.1]
    exact ⟨It.zero_wide, by simp [Fr.zero], fun q => by cases q⟩
  · rw [if_pos rfl] at h
    have r := Fr.ok_right h.1
    have i := r.item
    refine ⟨?_, by have := r.many; omega, fun _ => h.2.symm⟩
    by_cases q : f.kind = 1
    · rw [if_pos q] at i
      have ln := (Sk.ok_lens (It.ok_nums i).2.2.2.2).1
      exact ⟨by have := ln.hist; omega, by have := ln.regs; omega, by have := ln.rows; omega, fun z hz => by have := ln.row z hz; omega⟩
    · rw [if_neg q] at i
      rw [i]
      exact It.zero_wide
theorem sk_fits {zs : List Int} {s : Sk} {d : Bool} (h : SkIs zs s d) : s.wide ∧ (d = true → s.bytes = zs) := by
  unfold SkIs at h
  cases d
  · rw [if_neg (by simp)] at h
    rw [h.1]
    exact ⟨⟨by simp [Sk.zero], by simp [Sk.zero], by simp [Sk.zero], by simp [Sk.zero]⟩, fun q => by cases q⟩
  · rw [if_pos rfl] at h
    have ln := (Sk.ok_lens h.1).1
    exact ⟨⟨by have := ln.hist; omega, by have := ln.regs; omega, by have := ln.rows; omega, fun z hz => by have := ln.row z hz; omega⟩, fun _ => h.2.symm⟩
theorem fr_cells {w : World} {v : Value} {f : Fr} {F G : List Nat} (h : RdFr w v f F G) : ∃ cs : Array Value, v = .agg cs ∧ cs.size = 16 ∧ cs.all (·.oneCell') = true := by
  obtain ⟨b, l, c, a1, n1, c1, a2, n2, c2, a3, n3, c3, rfl, _⟩ := h
  exact ⟨_, rfl, rfl, by simp [Value.oneCell']⟩
def MidF (w : World) (b : Value) (wx : World) : Prop := b = .bool false ∧ Below w.heap.size w wx
theorem exec_eqStr {a : Act} {o : Oper} {x y : Operand} {s t : ByteArray} {W : World} (ho : o.op = .binOp .eql 9 x y 9) (hx : a.eval x = .string s) (hy : a.eval y = .string t) : (execOp a.eval o).run Tryz.prog W = .ok (.value (.bool (decide (s = t)))) W := by
  unfold execOp
  simp only [ho, hx, hy]
  go_simp
  by_cases h : s = t
  · subst h; simp
  · rw [decide_eq_false h]
    simp [bytes_list, h]
section
variable {P : Program} {ops : Array Oper} {Q : Exit → Act → World → Prop} {a : Act} {w : World} {o : Oper} {rest : List Oper} {x y : Operand}
theorem load_knownw (ty : TypeId) (g : Nat) (cells : Array Value) (t : TypeId) (d : TypeDesc) (hg : Blk w g cells t) (hw : Region.wanted o (yielded ops a.tmps) = true) (ho : o.op = .load ty x) (hx : a.eval x = .pointer (some ⟨g, 0, none⟩))
    (hu : P.underlying ty = some d) (hd : (match d with | .struct _ | .array _ _ => true | _ => false) = true) (hi : (P.info? ty).map (·.size) = some cells.size)
    (h : wpList P ops Q rest (a.put o.dst (.agg cells)) w) : Stop (wpList P ops Q (o :: rest) a w) := by
  refine wpList_step fun K hK => ?_
  rw [if_pos hw]
  unfold Oper.wp execOp
  simp only [ho, hx, Instr.loadAt, Instr.sureAddr, Sem.run_bind, Sem.run_pure, Result.andThen_ok, run_loadVar_row w g t ty cells (0, 0) d hg hu hd hi]
  exact hK _ _ h
end

set_option maxHeartbeats 16000000 in
set_option maxRecDepth 200000 in
theorem walk (a0 : Option Addr) (len0 cap0 : Nat) (z0 : List Int) (w : World) (w0 : IsRow .u8 w a0 len0 cap0 z0) :
    Calls Tryz.prog 3 #[.slice a0 len0 cap0] w fun e w' => e = .returned (.bool true) ∧ Below w.heap.size w w' := by
  have hR0 := rdOf w0
  have hR := hR0.1
  generalize z0.take len0 = zs at hR
  clear w0 hR0
  have HR : Hid (RdB w a0 len0 zs) := hR
  clear hR
  go_enter Tryz.func3, Tryz.ntmps3
  go_wp2_with fail
  refine (big_any a0 len0 cap0 _).mono ?_
  rintro e w1 ⟨rfl, hw1⟩
  have hw1' := hw1.symm
  subst hw1'
  clear hw1
  by_cases hbig : 1048576 < len0
  · have hd : decide ((1048576 : Int) < (len0 : Int)) = true := dec_true (by omega)
    rw [hd]
    clear hd
    go_wp2
    go_ret
    exact ⟨rfl, Below.refl _ _⟩
  have hd : decide ((1048576 : Int) < (len0 : Int)) = false := dec_false (by omega)
  have hlen : len0 ≤ 1048576 := by omega
  rw [hd]
  clear hd hbig
  go_wp2_with fail
  refine (drawFrameBytes_any a0 len0 cap0 zs _ HR.out hlen).mono ?_
  rintro e w1 ⟨v1, f, F, G, rfl, rf, wf, mf, b1⟩
  obtain ⟨cs, rfl, hc16, hone⟩ := fr_cells rf
  have hcs : (Tryz.prog.info? 32).map (·.size) = some cs.size := by rw [hc16]; exact infoFrD7
  have BEL : Hid (Below w.heap.size w w1) := b1
  have HF1 : Hid (RdFr w1 (.agg cs) f F G ∧ f.item.sk.wide ∧ f.taken.length ≤ 20) := ⟨rf, wf, mf⟩
  clear rf wf mf b1
  go_wp2_with (first | go_skip | (with_reducible refine stopLoad 32 rfl ?_) | (with_reducible refine stopStore 32 rfl ?_) | (with_reducible refine stopLoad 28 rfl ?_) | (with_reducible refine stopStore 28 rfl ?_))
  refine store_fresh 32 w1.heap.size rfl #[.int .i64 0, .int .i64 0, .int .i64 0, .int .i64 0, .slice none 0 0, .int .i64 0, .int .i64 0, .int .i64 0, .int .i64 0, .int .i64 0, .int .i64 0, .int .i64 0, .int .i64 0, .slice none 0 0, .slice none 0 0, .slice none 0 0] cs 32 rfl rfl rfl rfl hcs (by rw [hc16]; rfl) hone ?_
  intro w2 hg hb
  have BEL : Hid (Below w.heap.size w w2) := Below.next BEL.out hb
  have VF : Hid (VarFr w1.heap.size cs f F G w2) := ⟨hg, HF1.out.1.below hb, hc16, HF1.out.2.1, by have := HF1.out.2.2; omega⟩
  obtain ⟨L3, hL3⟩ : ∃ L, L = w1.heap.size := ⟨_, rfl⟩
  rw [← hL3] at VF ⊢
  clear hg hb hL3
  clear HF1 hcs hc16 hone
  go_wp2_with (first | go_skip | (with_reducible refine stopLoad 32 rfl ?_) | (with_reducible refine stopStore 32 rfl ?_) | (with_reducible refine stopLoad 28 rfl ?_) | (with_reducible refine stopStore 28 rfl ?_))
  refine load_known 32 L3 cs 32 _ VF.out.blk rfl rfl rfl Tryz.underlying32 rfl VF.out.info ?_
  go_wp2_with fail
  refine (frameBytesImpl_any _ f F G _ VF.out.rd VF.out.wide (by have := VF.out.many; omega)).mono ?_
  rintro e w3 ⟨vb, rfl, ob, b3⟩
  have VF : Hid (VarFr L3 cs f F G w3) := VF.out.below b3
  have BEL : Hid (Below w.heap.size w w3) := Below.next BEL.out b3
  have hbl := f.bytes_len
  obtain ⟨pb, cb, rfl, hvb⟩ := varBy_own ob f.bytes_range (by omega)
  obtain ⟨nb, hnb⟩ : ∃ nb, nb = f.bytes.length := ⟨_, rfl⟩
  rw [← hnb] at hvb ⊢
  have VB : Hid (VarBy pb nb cb f.bytes w3) := hvb
  clear ob b3 hvb hbl hnb
  go_wp2_with fail
  refine (frameOfImpl_any pb nb cb f.bytes _ VB.out.rd (by have := VB.out.many; omega) VB.out.cap VB.out.nil).mono ?_
  rintro e w4 ⟨v4, x, d4, F4, G4, rfl, rf4, _, _, _, b4, hIs⟩
  obtain ⟨hd4, hx4⟩ := fr_back hIs
  have HX : Hid (d4 = f.ok ∧ (f.ok = true → x = f)) := ⟨hd4, hx4⟩
  have HW4 : Hid (x.item.sk.wide ∧ x.taken.length ≤ 40) := ⟨(fr_fits hIs).1, (fr_fits hIs).2.1⟩
  obtain ⟨c4, rfl, hc4, ho4⟩ := fr_cells rf4
  have hcs4 : (Tryz.prog.info? 32).map (·.size) = some c4.size := by rw [hc4]; exact infoFrD7
  have VF : Hid (VarFr L3 cs f F G w4) := VF.out.below b4
  have BEL : Hid (Below w.heap.size w w4) := Below.next BEL.out b4
  have HF4 : Hid (RdFr w4 (.agg c4) x F4 G4) := rf4
  clear rf4 b4 hIs hd4 hx4 VB
  go_wp2_with (first | go_skip | (with_reducible refine stopLoad 32 rfl ?_) | (with_reducible refine stopStore 32 rfl ?_) | (with_reducible refine stopLoad 28 rfl ?_) | (with_reducible refine stopStore 28 rfl ?_))
  refine store_fresh 32 w4.heap.size rfl #[.int .i64 0, .int .i64 0, .int .i64 0, .int .i64 0, .slice none 0 0, .int .i64 0, .int .i64 0, .int .i64 0, .int .i64 0, .int .i64 0, .int .i64 0, .int .i64 0, .int .i64 0, .slice none 0 0, .slice none 0 0, .slice none 0 0] c4 32 rfl rfl rfl rfl hcs4 (by rw [hc4]; rfl) ho4 ?_
  intro w5 hg hb
  have VF : Hid (VarFr L3 cs f F G w5) := VF.out.below hb
  have BEL : Hid (Below w.heap.size w w5) := Below.next BEL.out hb
  have VX : Hid (VarFr w4.heap.size c4 x F4 G4 w5) := ⟨hg, HF4.out.below hb, hc4, HW4.out.1, HW4.out.2⟩
  obtain ⟨L5, hL5⟩ : ∃ L, L = w4.heap.size := ⟨_, rfl⟩
  rw [← hL5] at VX ⊢
  clear hg hb hL5
  clear HF4 HW4 hcs4 hc4 ho4
  go_upto_region 6 with fail
  go_cut [43] (fun b43 wx => MidF w5 b43 wx)
  case first =>
    go_wp2_with (first | go_skip | (with_reducible refine stopLoad 32 rfl ?_) | (with_reducible refine stopStore 32 rfl ?_) | (with_reducible refine stopLoad 28 rfl ?_) | (with_reducible refine stopStore 28 rfl ?_))
    refine load_known 32 L3 cs 32 _ VF.out.blk rfl rfl rfl Tryz.underlying32 rfl VF.out.info ?_
    go_wp2_with fail
    refine (frameOkSpec_any _ f F G _ VF.out.rd VF.out.wide (by have := VF.out.many; omega)).mono ?_
    rintro e w6 ⟨rfl, b6⟩
    have BM : Hid (Below w5.heap.size w5 w6) := b6
    have VF6 : Hid (VarFr L3 cs f F G w6) := VF.out.below b6
    have VX6 : Hid (VarFr L5 c4 x F4 G4 w6) := VX.out.below b6
    clear b6
    rw [← HX.out.1]
    cases d4
    · go_wp2
      go_meet
      case rel => exact ⟨rfl, BM.out⟩
    have HE : Hid (x = f) := HX.out.2 HX.out.1.symm
    go_wp2_with (first | go_skip | (with_reducible refine stopLoad 32 rfl ?_) | (with_reducible refine stopStore 32 rfl ?_) | (with_reducible refine stopLoad 28 rfl ?_) | (with_reducible refine stopStore 28 rfl ?_))
    refine load_knownw 32 L5 c4 32 _ VX6.out.blk rfl rfl rfl Tryz.underlying32 rfl VX6.out.info ?_
    go_wp2_with (first | go_skip | (with_reducible refine stopLoad 32 rfl ?_) | (with_reducible refine stopStore 32 rfl ?_) | (with_reducible refine stopLoad 28 rfl ?_) | (with_reducible refine stopStore 28 rfl ?_))
    refine load_knownw 32 L3 cs 32 _ VF6.out.blk rfl rfl rfl Tryz.underlying32 rfl VF6.out.info ?_
    go_wp2_with fail
    refine (frameSameSpec_any _ _ x f F4 G4 F G _ VX6.out.rd VF6.out.rd VX6.out.wide VF6.out.wide (Nat.le_trans VX6.out.many (by decide)) (Nat.le_trans VF6.out.many (by decide))).mono ?_
    rintro e w7 ⟨rfl, b7⟩
    have BM7 : Hid (Below w5.heap.size w5 w7) := Below.next BM.out b7
    have hdt : decide (x = f) = true := dec_true HE.out
    rw [hdt]
    clear b7 hdt
    go_wp2
    go_meet
    case rel => exact ⟨rfl, BM7.out⟩
  case rest =>
    obtain ⟨w6, hw6⟩ : ∃ W, W = wc := ⟨_, rfl⟩
    obtain ⟨rfl, b6⟩ := hcut
    rw [← hw6] at b6 ⊢
    have BEL : Hid (Below w.heap.size w w6) := Below.next BEL.out b6
    clear b6 hw6 VF VX HX
    go_wp2_with fail
    refine (drawFrameOf_any a0 len0 cap0 zs _ (HR.out.below BEL.out) hlen).mono ?_
    rintro e w7 ⟨v7, n7, ys, rfl, ob, hr7, hn7, b7⟩
    obtain ⟨pr, cr, rfl, hvr⟩ := varBy_own ob hr7 hn7
    have VR : Hid (VarBy pr n7 cr ys w7) := hvr
    have HYR : Hid (∀ y ∈ ys, 0 ≤ y ∧ y ≤ 255) := hr7
    have BEL : Hid (Below w.heap.size w w7) := Below.next BEL.out b7
    clear ob hvr b7 hr7
    go_wp2_with fail
    refine (frameOfImpl_any pr n7 cr ys _ VR.out.rd (by omega) VR.out.cap VR.out.nil).mono ?_
    rintro e w8 ⟨v8, y, d8, F8, G8, rfl, rf8, _, _, _, b8, hIs⟩
    have HIS : Hid (FrIs ys y d8) := hIs
    obtain ⟨c8, rfl, hc8, ho8⟩ := fr_cells rf8
    have hcs8 : (Tryz.prog.info? 32).map (·.size) = some c8.size := by rw [hc8]; exact infoFrD7
    have VR : Hid (VarBy pr n7 cr ys w8) := VR.out.below b8
    have BEL : Hid (Below w.heap.size w w8) := Below.next BEL.out b8
    have HF8 : Hid (RdFr w8 (.agg c8) y F8 G8) := rf8
    clear rf8 b8 hIs
    go_wp2_with (first | go_skip | (with_reducible refine stopLoad 32 rfl ?_) | (with_reducible refine stopStore 32 rfl ?_) | (with_reducible refine stopLoad 28 rfl ?_) | (with_reducible refine stopStore 28 rfl ?_))
    refine store_fresh 32 w8.heap.size rfl #[.int .i64 0, .int .i64 0, .int .i64 0, .int .i64 0, .slice none 0 0, .int .i64 0, .int .i64 0, .int .i64 0, .int .i64 0, .int .i64 0, .int .i64 0, .int .i64 0, .int .i64 0, .slice none 0 0, .slice none 0 0, .slice none 0 0] c8 32 rfl rfl rfl rfl hcs8 (by rw [hc8]; rfl) ho8 ?_
    intro w9 hg hb
    have VR : Hid (VarBy pr n7 cr ys w9) := VR.out.below hb
    have BEL : Hid (Below w.heap.size w w9) := Below.next BEL.out hb
    have VY : Hid (VarFr w8.heap.size c8 y F8 G8 w9) := ⟨hg, HF8.out.below hb, hc8, (fr_fits HIS.out).1, (fr_fits HIS.out).2.1⟩
    obtain ⟨L8, hL8⟩ : ∃ L, L = w8.heap.size := ⟨_, rfl⟩
    rw [← hL8] at VY ⊢
    clear hg hb hL8
    clear HF8 hcs8 hc8 ho8
    go_wp2_with fail
    refine (frameOfSpec_any pr n7 cr ys _ VR.out.rd (by omega) VR.out.cap).mono ?_
    rintro e w10 ⟨v10, y2, d10, F10, G10, rfl, rf10, _, _, _, b10, hIs⟩
    obtain ⟨e1, e2⟩ := HIS.out.unique hIs
    subst e1
    subst e2
    obtain ⟨c10, rfl, hc10, ho10⟩ := fr_cells rf10
    have hcs10 : (Tryz.prog.info? 32).map (·.size) = some c10.size := by rw [hc10]; exact infoFrD7
    have VR : Hid (VarBy pr n7 cr ys w10) := VR.out.below b10
    have VY : Hid (VarFr L8 c8 y F8 G8 w10) := VY.out.below b10
    have BEL : Hid (Below w.heap.size w w10) := Below.next BEL.out b10
    clear rf10 b10 hIs
    go_wp2_with (first | go_skip | (with_reducible refine stopLoad 32 rfl ?_) | (with_reducible refine stopStore 32 rfl ?_) | (with_reducible refine stopLoad 28 rfl ?_) | (with_reducible refine stopStore 28 rfl ?_))
    refine store_fresh 32 w10.heap.size rfl #[.int .i64 0, .int .i64 0, .int .i64 0, .int .i64 0, .slice none 0 0, .int .i64 0, .int .i64 0, .int .i64 0, .int .i64 0, .int .i64 0, .int .i64 0, .int .i64 0, .int .i64 0, .slice none 0 0, .slice none 0 0, .slice none 0 0] c10 32 rfl rfl rfl rfl hcs10 (by rw [hc10]; rfl) ho10 ?_
    intro w11 hg hb
    have VR : Hid (VarBy pr n7 cr ys w11) := VR.out.below hb
    have VY : Hid (VarFr L8 c8 y F8 G8 w11) := VY.out.below hb
    have BEL : Hid (Below w.heap.size w w11) := Below.next BEL.out hb
    obtain ⟨L10, hL10⟩ : ∃ L, L = w10.heap.size := ⟨_, rfl⟩
    rw [← hL10]
    clear hg hb hL10 hcs10 hc10 ho10
    go_upto_region 11 with fail
    go_cut [69] (fun b69 wx => MidF w11 b69 wx)
    case first =>
      have HD : Hid (VarFr L8 c8 y F8 G8 w11.drew ∧ VarBy pr n7 cr ys w11.drew ∧ Below w11.heap.size w11 w11.drew) := ⟨VY.out.below (Below.refl _ _).drew, VR.out.below (Below.refl _ _).drew, (Below.refl _ _).drew⟩
      obtain ⟨Y, hY⟩ : ∃ Y, Y = w11.drew := ⟨_, rfl⟩
      rw [← hY] at HD
      cases d8
      · refine wp_region_held (S := fun W => Blk W L8 c8 32 ∧ RdB W pr n7 ys) (by kernel_rfl) ?_
        change wpAnyH _ _ _ _ _ _ _ _ (World.drew _)
        rw [← hY]
        clear hY
        refine takeH (o := ?o1) 0 (.bool false) ?h1 ?r1
        case h1 => simp only [aT, aZ]; rfl
        refine ⟨_, by simp [Act.put]; rfl, by kernel_rfl, by kernel_rfl, by kernel_rfl, fun _ _ _ h => h, (.inl ⟨rfl, fun W _ => by kernel_rfl⟩), ⟨HD.out.1.blk, HD.out.2.1.rd⟩, ?_⟩
        refine takeH (o := ?o2) 1 (.bool false) ?h2 ?r2
        case h2 => simp only [aT, aS, aZ]; rfl
        refine ⟨_, by simp [Act.put]; rfl, by kernel_rfl, by kernel_rfl, by kernel_rfl, fun _ _ _ h => h, (.inl ⟨rfl, fun W _ => by kernel_rfl⟩), ⟨HD.out.1.blk, HD.out.2.1.rd⟩, ?_⟩
        refine takeH (o := ?o3) 2 (.bool false) ?h3 ?r3
        case h3 => simp only [aT, aS, aZ]; rfl
        refine ⟨_, by simp [Act.put]; rfl, by kernel_rfl, by kernel_rfl, by kernel_rfl, fun _ _ _ h => h, (.inl ⟨rfl, fun W _ => by go_simp⟩), ⟨HD.out.1.blk, HD.out.2.1.rd⟩, ?_⟩
        refine takeH (o := ?o4) 3 (.bool false) ?h4 ?r4
        case h4 => simp only [aT, aS, aZ]; rfl
        refine ⟨_, by simp [Act.put]; rfl, by kernel_rfl, by kernel_rfl, by kernel_rfl, fun _ _ _ h => h, (.inl ⟨rfl, fun W _ => by kernel_rfl⟩), ⟨HD.out.1.blk, HD.out.2.1.rd⟩, ?_⟩
        refine takeH (o := ?o5) 4 (.bool false) ?h5 ?r5
        case h5 => simp only [aT, aS, aZ]; rfl
        refine ⟨_, by simp [Act.put]; rfl, by kernel_rfl, by kernel_rfl, by kernel_rfl, fun _ _ _ h => h, (.inl ⟨rfl, fun W _ => by kernel_rfl⟩), ⟨HD.out.1.blk, HD.out.2.1.rd⟩, ?_⟩
        refine takeH (o := ?o6) 5 (.bool false) ?h6 ?r6
        case h6 => simp only [aT, aS, aZ]; rfl
        refine ⟨_, by simp [Act.put]; rfl, by kernel_rfl, by kernel_rfl, by kernel_rfl, fun _ _ _ h => h, (.inl ⟨rfl, fun W _ => by kernel_rfl⟩), ⟨HD.out.1.blk, HD.out.2.1.rd⟩, ?_⟩
        refine takeH (o := ?o7) 6 (undef) ?h7 ?r7
        case h7 => simp only [aT, aS, aZ]; rfl
        refine ⟨_, by simp [Act.put]; rfl, by kernel_rfl, by kernel_rfl, by kernel_rfl, fun _ _ _ h => h, (.inr ⟨rfl, rfl⟩), ⟨HD.out.1.blk, HD.out.2.1.rd⟩, ?_⟩
        refine takeH (o := ?o8) 7 (undef) ?h8 ?r8
        case h8 => simp only [aT, aS, aZ]; rfl
        refine ⟨_, by simp [Act.put]; rfl, by kernel_rfl, by kernel_rfl, by kernel_rfl, fun _ _ _ h => h, (.inr ⟨rfl, rfl⟩), ⟨HD.out.1.blk, HD.out.2.1.rd⟩, ?_⟩
        refine takeH (o := ?o9) 8 (undef) ?h9 ?r9
        case h9 => simp only [aT, aS, aZ]; rfl
        refine ⟨_, by simp [Act.put]; rfl, by kernel_rfl, by kernel_rfl, by kernel_rfl, fun _ _ _ h => h, (.inr ⟨rfl, rfl⟩), ⟨HD.out.1.blk, HD.out.2.1.rd⟩, ?_⟩
        refine takeH (o := ?o10) 9 (undef) ?h10 ?r10
        case h10 => simp only [aT, aS, aZ]; rfl
        refine ⟨_, by simp [Act.put]; rfl, by kernel_rfl, by kernel_rfl, by kernel_rfl, fun _ _ _ h => h, (.inr ⟨rfl, rfl⟩), ⟨HD.out.1.blk, HD.out.2.1.rd⟩, ?_⟩
        refine takeH (o := ?o11) 10 (undef) ?h11 ?r11
        case h11 => simp only [aT, aS, aZ]; rfl
        refine ⟨_, by simp [Act.put]; rfl, by kernel_rfl, by kernel_rfl, by kernel_rfl, fun _ _ _ h => h, (.inr ⟨rfl, rfl⟩), ⟨HD.out.1.blk, HD.out.2.1.rd⟩, ?_⟩
        refine takeH (o := ?o12) 11 (undef) ?h12 ?r12
        case h12 => simp only [aT, aS, aZ]; rfl
        refine ⟨_, by simp [Act.put]; rfl, by kernel_rfl, by kernel_rfl, by kernel_rfl, fun _ _ _ h => h, (.inr ⟨rfl, rfl⟩), ⟨HD.out.1.blk, HD.out.2.1.rd⟩, ?_⟩
        refine takeH (o := ?o13) 12 (.bool false) ?h13 ?r13
        case h13 => simp only [aT, aS, aZ]; rfl
        refine ⟨_, by simp [Act.put]; rfl, by kernel_rfl, by kernel_rfl, by kernel_rfl, fun _ _ _ h => h, (.inl ⟨rfl, fun W _ => by kernel_rfl⟩), ⟨HD.out.1.blk, HD.out.2.1.rd⟩, ?_⟩
        refine takeH (o := ?o14) 13 (.bool false) ?h14 ?r14
        case h14 => simp only [aT, aS, aZ]; rfl
        refine ⟨_, by simp [Act.put]; rfl, by kernel_rfl, by kernel_rfl, by kernel_rfl, fun _ _ _ h => h, (.inl ⟨rfl, fun W _ => by kernel_rfl⟩), ⟨HD.out.1.blk, HD.out.2.1.rd⟩, ?_⟩
        refine wpAnyH_done (by kernel_rfl) ?_ _
        go_wp2
        go_meet
        case rel => exact ⟨rfl, HD.out.2.2⟩
      · refine wp_region_held (S := fun W => Blk W L8 c8 32 ∧ RdB W pr n7 ys) (by kernel_rfl) ?_
        change wpAnyH _ _ _ _ _ _ _ _ (World.drew _)
        rw [← hY]
        clear hY
        refine takeH (o := ?o15) 0 (.bool true) ?h15 ?r15
        case h15 => simp only [aT, aZ]; rfl
        refine ⟨_, by simp [Act.put]; rfl, by kernel_rfl, by kernel_rfl, by kernel_rfl, fun _ _ _ h => h, (.inl ⟨rfl, fun W _ => by kernel_rfl⟩), ⟨HD.out.1.blk, HD.out.2.1.rd⟩, ?_⟩
        refine takeH (o := ?o16) 1 (.bool true) ?h16 ?r16
        case h16 => simp only [aT, aS, aZ]; rfl
        refine ⟨_, by simp [Act.put]; rfl, by kernel_rfl, by kernel_rfl, by kernel_rfl, fun _ _ _ h => h, (.inl ⟨rfl, fun W _ => by kernel_rfl⟩), ⟨HD.out.1.blk, HD.out.2.1.rd⟩, ?_⟩
        refine takeH (o := ?o17) 2 (.bool false) ?h17 ?r17
        case h17 => simp only [aT, aS, aZ]; rfl
        refine ⟨_, by simp [Act.put]; rfl, by kernel_rfl, by kernel_rfl, by kernel_rfl, fun _ _ _ h => h, (.inl ⟨rfl, fun W _ => by go_simp⟩), ⟨HD.out.1.blk, HD.out.2.1.rd⟩, ?_⟩
        refine takeH (o := ?o18) 3 (.bool false) ?h18 ?r18
        case h18 => simp only [aT, aS, aZ]; rfl
        refine ⟨_, by simp [Act.put]; rfl, by kernel_rfl, by kernel_rfl, by kernel_rfl, fun _ _ _ h => h, (.inl ⟨rfl, fun W _ => by kernel_rfl⟩), ⟨HD.out.1.blk, HD.out.2.1.rd⟩, ?_⟩
        refine takeH (o := ?o19) 4 (.bool true) ?h19 ?r19
        case h19 => simp only [aT, aS, aZ]; rfl
        refine ⟨_, by simp [Act.put]; rfl, by kernel_rfl, by kernel_rfl, by kernel_rfl, fun _ _ _ h => h, (.inl ⟨rfl, fun W _ => by kernel_rfl⟩), ⟨HD.out.1.blk, HD.out.2.1.rd⟩, ?_⟩
        refine takeH (o := ?o20) 5 (.bool true) ?h20 ?r20
        case h20 => simp only [aT, aS, aZ]; rfl
        refine ⟨_, by simp [Act.put]; rfl, by kernel_rfl, by kernel_rfl, by kernel_rfl, fun _ _ _ h => h, (.inl ⟨rfl, fun W _ => by kernel_rfl⟩), ⟨HD.out.1.blk, HD.out.2.1.rd⟩, ?_⟩
        refine takeH (o := ?o21) 6 (.agg c8) ?h21 ?r21
        case h21 => simp only [aT, aS, aZ]; rfl
        refine ⟨_, by simp [Act.put]; rfl, by kernel_rfl, by kernel_rfl, by kernel_rfl, fun _ _ _ h => h, (yields_whole 32 L8 c8 32 _ rfl rfl rfl Tryz.underlying32 rfl VY.out.info (fun W hW => hW.1)), ⟨HD.out.1.blk, HD.out.2.1.rd⟩, ?_⟩
        refine takeH (o := ?o22) 9 (.slice pr n7 cr) ?h22 ?r22
        case h22 => simp only [aT, aS, aZ]; rfl
        refine ⟨_, by simp [Act.put]; rfl, by kernel_rfl, by kernel_rfl, by kernel_rfl, fun _ _ _ h => h, (.inl ⟨rfl, fun W _ => by kernel_rfl⟩), ⟨HD.out.1.blk, HD.out.2.1.rd⟩, ?_⟩
        refine takeH (o := ?o23) 10 (.string (strOfNums ys)) ?h23 ?r23
        case h23 => simp only [aT, aS, aZ]; rfl
        refine ⟨_, by simp [Act.put]; rfl, by kernel_rfl, by kernel_rfl, by kernel_rfl, fun _ _ _ h => h, (.inl ⟨rfl, fun W hW => exec_conv rfl rfl (conv_any hW.2)⟩), ⟨HD.out.1.blk, HD.out.2.1.rd⟩, ?_⟩
        refine onlyH (o := ?o24) 7 (by kernel_rfl) ?h24 ?r24
        case h24 => simp only [aT, aS, aZ]; rfl
        intro K hK
        refine op_call1 6 _ _ Tryz.f6 (fun u w' => w'.ownsRow Y.heap.size 5 1 u y.bytes.length (y.bytes.map (Value.int .u8)) ∧ Below Y.heap.size Y w') rfl rfl Tryz.func6 (by kernel_rfl) (by kernel_rfl) ((frameBytesImpl_any (.agg c8) y F8 G8 Y HD.out.1.rd HD.out.1.wide (by have := HD.out.1.many; omega)).mono (by rintro e w' ⟨u, rfl, h1, h2⟩; exact ⟨_, rfl, h1, h2⟩)) ?_
        rintro v Y1 ⟨hown, hb1⟩
        obtain ⟨pu, cu, rfl, hvu⟩ := varBy_own hown y.bytes_range (by have := y.bytes_len; omega)
        have k1 := conv_any hvu.rd (cap := cu)
        have HD1 : Hid (VarFr L8 c8 y F8 G8 Y1 ∧ VarBy pr n7 cr ys Y1 ∧ Below w11.heap.size w11 Y1) := ⟨HD.out.1.below hb1, HD.out.2.1.below hb1, Below.next HD.out.2.2 hb1⟩
        clear hb1 hown hvu HD
        refine ⟨_, by simp [Act.put]; rfl, hK _ _ ⟨⟨HD1.out.1.blk, HD1.out.2.1.rd⟩, ?_⟩⟩
        clear hK
        refine onlyH (o := ?o25) 8 (by kernel_rfl) ?h25 ?r25
        case h25 => simp only [aT, aS, aZ]; rfl
        intro K hK
        refine op_value (.string (strOfNums y.bytes)) rfl (exec_conv rfl rfl k1) ⟨_, by simp [Act.put]; rfl, hK _ _ ⟨⟨HD1.out.1.blk, HD1.out.2.1.rd⟩, ?_⟩⟩
        clear hK
        clear k1
        refine onlyH (o := ?o26) 11 (by kernel_rfl) ?h26 ?r26
        case h26 => simp only [aT, aS, aZ]; rfl
        intro K hK
        refine op_value (.bool false) rfl ((exec_neStr rfl rfl rfl).trans (by rw [(fr_fits HIS.out).2.2 rfl]; simp)) ⟨_, by simp [Act.put]; rfl, hK _ _ ⟨⟨HD1.out.1.blk, HD1.out.2.1.rd⟩, ?_⟩⟩
        clear hK
        refine onlyH (o := ?o27) 12 (by kernel_rfl) ?h27 ?r27
        case h27 => simp only [aT, aS, aZ]; rfl
        intro K hK
        refine op_value (.bool false) rfl (by kernel_rfl) ⟨_, by simp [Act.put]; rfl, hK _ _ ⟨⟨HD1.out.1.blk, HD1.out.2.1.rd⟩, ?_⟩⟩
        clear hK
        refine onlyH (o := ?o28) 13 (by kernel_rfl) ?h28 ?r28
        case h28 => simp only [aT, aS, aZ]; rfl
        intro K hK
        refine op_value (.bool false) rfl (by kernel_rfl) ⟨_, by simp [Act.put]; rfl, hK _ _ ⟨⟨HD1.out.1.blk, HD1.out.2.1.rd⟩, ?_⟩⟩
        clear hK
        refine wpAnyH_done (by kernel_rfl) ?_ _
        go_wp2
        go_meet
        case rel => exact ⟨rfl, HD1.out.2.2⟩
    case rest =>
      obtain ⟨w12, hw12⟩ : ∃ W, W = wc := ⟨_, rfl⟩
      obtain ⟨rfl, b12⟩ := hcut
      rw [← hw12] at b12 ⊢
      have BEL : Hid (Below w.heap.size w w12) := Below.next BEL.out b12
      clear b12 hw12 VR VY HIS HYR
      go_wp2_with fail
      refine (drawSketchBytes_any a0 len0 cap0 zs _ (HR.out.below BEL.out) hlen).mono ?_
      rintro e w13 ⟨c13, s, F13, rfl, rs, hs, _, b13, hc13, ho13⟩
      have hcs13 : (Tryz.prog.info? 28).map (·.size) = some c13.size := by rw [hc13]; exact infoSkI
      have BEL : Hid (Below w.heap.size w w13) := Below.next BEL.out b13
      have HS13 : Hid (RdSk w13 (.agg c13) s F13 ∧ s.wide) := ⟨rs, full_wide hs⟩
      clear rs hs b13
      go_wp2_with (first | go_skip | (with_reducible refine stopLoad 32 rfl ?_) | (with_reducible refine stopStore 32 rfl ?_) | (with_reducible refine stopLoad 28 rfl ?_) | (with_reducible refine stopStore 28 rfl ?_))
      refine store_fresh 28 w13.heap.size rfl #[.int .i64 0, .int .i64 0, .int .i64 0, .int .i64 0, .slice none 0 0, .slice none 0 0, .slice none 0 0] c13 28 rfl rfl rfl rfl hcs13 (by rw [hc13]; rfl) ho13 ?_
      intro w14 hg hb
      have BEL : Hid (Below w.heap.size w w14) := Below.next BEL.out hb
      have VS : Hid (VarS7 w13.heap.size c13 s F13 w14) := ⟨hg, HS13.out.1.below hb, hc13, HS13.out.2⟩
      obtain ⟨L12, hL12⟩ : ∃ L, L = w13.heap.size := ⟨_, rfl⟩
      rw [← hL12] at VS ⊢
      clear hg hb hL12
      clear HS13 hcs13 hc13 ho13
      go_wp2_with (first | go_skip | (with_reducible refine stopLoad 32 rfl ?_) | (with_reducible refine stopStore 32 rfl ?_) | (with_reducible refine stopLoad 28 rfl ?_) | (with_reducible refine stopStore 28 rfl ?_))
      refine load_known 28 L12 c13 28 _ VS.out.blk rfl rfl rfl Tryz.underlying28 rfl VS.out.info ?_
      go_wp2_with fail
      refine (sketchBytesImpl_any _ s F13 _ VS.out.rd VS.out.wide).mono ?_
      rintro e w15 ⟨vb, rfl, ob, b15⟩
      have VS : Hid (VarS7 L12 c13 s F13 w15) := VS.out.below b15
      have BEL : Hid (Below w.heap.size w w15) := Below.next BEL.out b15
      have hbl := skBytes_len s
      obtain ⟨pb, cb, rfl, hvb⟩ := varBy_own ob (Sk.bytes_range s) (by omega)
      obtain ⟨nb, hnb⟩ : ∃ nb, nb = s.bytes.length := ⟨_, rfl⟩
      rw [← hnb] at hvb ⊢
      have VB : Hid (VarBy pb nb cb s.bytes w15) := hvb
      clear ob b15 hvb hbl hnb
      go_wp2_with fail
      refine (sketchOfImpl_any pb nb cb s.bytes _ VB.out.rd (by have := VB.out.many; omega) VB.out.cap VB.out.nil).mono ?_
      rintro e w16 ⟨v16, t, d16, F16, rfl, rs16, _, b16, hIs⟩
      obtain ⟨hd4, hx4⟩ := sk_back hIs
      have HT : Hid (d16 = s.ok ∧ (s.ok = true → t = s)) := ⟨hd4, hx4⟩
      have HWT : Hid (t.wide) := (sk_fits hIs).1
      obtain ⟨c16, rfl, hc16, ho16⟩ := rs16.cells
      have hcs16 : (Tryz.prog.info? 28).map (·.size) = some c16.size := by rw [hc16]; exact infoSkI
      have VS : Hid (VarS7 L12 c13 s F13 w16) := VS.out.below b16
      have BEL : Hid (Below w.heap.size w w16) := Below.next BEL.out b16
      have HS16 : Hid (RdSk w16 (.agg c16) t F16) := rs16
      clear rs16 b16 hIs hd4 hx4 VB
      go_wp2_with (first | go_skip | (with_reducible refine stopLoad 32 rfl ?_) | (with_reducible refine stopStore 32 rfl ?_) | (with_reducible refine stopLoad 28 rfl ?_) | (with_reducible refine stopStore 28 rfl ?_))
      refine store_fresh 28 w16.heap.size rfl #[.int .i64 0, .int .i64 0, .int .i64 0, .int .i64 0, .slice none 0 0, .slice none 0 0, .slice none 0 0] c16 28 rfl rfl rfl rfl hcs16 (by rw [hc16]; rfl) ho16 ?_
      intro w17 hg hb
      have VS : Hid (VarS7 L12 c13 s F13 w17) := VS.out.below hb
      have BEL : Hid (Below w.heap.size w w17) := Below.next BEL.out hb
      have VT : Hid (VarS7 w16.heap.size c16 t F16 w17) := ⟨hg, HS16.out.below hb, hc16, HWT.out⟩
      obtain ⟨L13, hL13⟩ : ∃ L, L = w16.heap.size := ⟨_, rfl⟩
      rw [← hL13] at VT ⊢
      clear hg hb hL13
      clear HS16 HWT hcs16 hc16 ho16
      go_wp2_with fail
      refine (drawSketchOf_any a0 len0 cap0 zs _ (HR.out.below BEL.out) hlen).mono ?_
      rintro e w18 ⟨v18, n18, us, rfl, ob, hr18, hn18, b18⟩
      obtain ⟨pq, cq, rfl, hvq⟩ := varBy_own ob hr18 hn18
      have VS : Hid (VarS7 L12 c13 s F13 w18) := VS.out.below b18
      have VT : Hid (VarS7 L13 c16 t F16 w18) := VT.out.below b18
      have BEL : Hid (Below w.heap.size w w18) := Below.next BEL.out b18
      have VQ : Hid (VarBy pq n18 cq us w18) := hvq
      clear ob hvq b18 hr18
      go_wp2_with fail
      refine (sketchOfImpl_any pq n18 cq us _ VQ.out.rd (by omega) VQ.out.cap VQ.out.nil).mono ?_
      rintro e w19 ⟨v19, u, d19, F19, rfl, rs19, _, b19, hIs⟩
      have HIU : Hid (SkIs us u d19) := hIs
      obtain ⟨c19, rfl, hc19, ho19⟩ := rs19.cells
      have hcs19 : (Tryz.prog.info? 28).map (·.size) = some c19.size := by rw [hc19]; exact infoSkI
      have VS : Hid (VarS7 L12 c13 s F13 w19) := VS.out.below b19
      have VT : Hid (VarS7 L13 c16 t F16 w19) := VT.out.below b19
      have VQ : Hid (VarBy pq n18 cq us w19) := VQ.out.below b19
      have BEL : Hid (Below w.heap.size w w19) := Below.next BEL.out b19
      have HS19 : Hid (RdSk w19 (.agg c19) u F19) := rs19
      clear rs19 b19 hIs
      go_wp2_with (first | go_skip | (with_reducible refine stopLoad 32 rfl ?_) | (with_reducible refine stopStore 32 rfl ?_) | (with_reducible refine stopLoad 28 rfl ?_) | (with_reducible refine stopStore 28 rfl ?_))
      refine store_fresh 28 w19.heap.size rfl #[.int .i64 0, .int .i64 0, .int .i64 0, .int .i64 0, .slice none 0 0, .slice none 0 0, .slice none 0 0] c19 28 rfl rfl rfl rfl hcs19 (by rw [hc19]; rfl) ho19 ?_
      intro w20 hg hb
      have VS : Hid (VarS7 L12 c13 s F13 w20) := VS.out.below hb
      have VT : Hid (VarS7 L13 c16 t F16 w20) := VT.out.below hb
      have VQ : Hid (VarBy pq n18 cq us w20) := VQ.out.below hb
      have BEL : Hid (Below w.heap.size w w20) := Below.next BEL.out hb
      have VU : Hid (VarS7 w19.heap.size c19 u F19 w20) := ⟨hg, HS19.out.below hb, hc19, (sk_fits HIU.out).1⟩
      obtain ⟨L16, hL16⟩ : ∃ L, L = w19.heap.size := ⟨_, rfl⟩
      rw [← hL16] at VU ⊢
      clear hg hb hL16
      clear HS19 hcs19 hc19 ho19
      go_wp2_with fail
      refine (sketchOfSpec_any pq n18 cq us _ VQ.out.rd (by omega)).mono ?_
      rintro e w21 ⟨v21, u2, d21, F21, rfl, rs21, _, b21, hIs⟩
      obtain ⟨e1, e2⟩ := HIU.out.unique hIs
      subst e1
      subst e2
      obtain ⟨c21, rfl, hc21, ho21⟩ := rs21.cells
      have hcs21 : (Tryz.prog.info? 28).map (·.size) = some c21.size := by rw [hc21]; exact infoSkI
      have VS : Hid (VarS7 L12 c13 s F13 w21) := VS.out.below b21
      have VT : Hid (VarS7 L13 c16 t F16 w21) := VT.out.below b21
      have VQ : Hid (VarBy pq n18 cq us w21) := VQ.out.below b21
      have VU : Hid (VarS7 L16 c19 u F19 w21) := VU.out.below b21
      have BEL : Hid (Below w.heap.size w w21) := Below.next BEL.out b21
      clear rs21 b21 hIs
      go_wp2_with (first | go_skip | (with_reducible refine stopLoad 32 rfl ?_) | (with_reducible refine stopStore 32 rfl ?_) | (with_reducible refine stopLoad 28 rfl ?_) | (with_reducible refine stopStore 28 rfl ?_))
      refine store_fresh 28 w21.heap.size rfl #[.int .i64 0, .int .i64 0, .int .i64 0, .int .i64 0, .slice none 0 0, .slice none 0 0, .slice none 0 0] c21 28 rfl rfl rfl rfl hcs21 (by rw [hc21]; rfl) ho21 ?_
      intro w22 hg hb
      have VS : Hid (VarS7 L12 c13 s F13 w22) := VS.out.below hb
      have VT : Hid (VarS7 L13 c16 t F16 w22) := VT.out.below hb
      have VQ : Hid (VarBy pq n18 cq us w22) := VQ.out.below hb
      have VU : Hid (VarS7 L16 c19 u F19 w22) := VU.out.below hb
      have BEL : Hid (Below w.heap.size w w22) := Below.next BEL.out hb
      obtain ⟨L18, hL18⟩ : ∃ L, L = w21.heap.size := ⟨_, rfl⟩
      rw [← hL18]
      clear hg hb hL18 hcs21 hc21 ho21
      go_upto_region 18 with fail
      have HD : Hid (VarS7 L12 c13 s F13 w22.drew ∧ VarS7 L13 c16 t F16 w22.drew ∧ VarS7 L16 c19 u F19 w22.drew ∧ VarBy pq n18 cq us w22.drew ∧ Below w.heap.size w w22.drew) := ⟨VS.out.below (Below.refl _ _).drew, VT.out.below (Below.refl _ _).drew, VU.out.below (Below.refl _ _).drew, VQ.out.below (Below.refl _ _).drew, Below.drew BEL.out⟩
      obtain ⟨Y, hY⟩ : ∃ Y, Y = w22.drew := ⟨_, rfl⟩
      rw [← hY] at HD
      have HVS : Hid ((Tryz.prog.info? 28).map (·.size) = some c13.size ∧ (Tryz.prog.info? 28).map (·.size) = some c16.size ∧ (Tryz.prog.info? 28).map (·.size) = some c19.size) := ⟨VS.out.info, VT.out.info, VU.out.info⟩
      clear VS VT VU VQ BEL
      cases d16
      · cases d19
        · refine wp_region_held (S := fun W => (Blk W L12 c13 28 ∧ Blk W L13 c16 28 ∧ Blk W L16 c19 28) ∧ RdB W pq n18 us) (by kernel_rfl) ?_
          change wpAnyH _ _ _ _ _ _ _ _ (World.drew _)
          rw [← hY]
          clear hY
          refine takeH (o := ?o29) 0 (.bool false) ?h29 ?r29
          case h29 => simp only [aT, aZ]; rfl
          refine ⟨_, by simp [Act.put]; rfl, by kernel_rfl, by kernel_rfl, by kernel_rfl, fun _ _ _ h => h, (.inl ⟨rfl, fun W _ => by kernel_rfl⟩), ⟨⟨HD.out.1.blk, HD.out.2.1.blk, HD.out.2.2.1.blk⟩, HD.out.2.2.2.1.rd⟩, ?_⟩
          refine takeH (o := ?o30) 1 (.agg c13) ?h30 ?r30
          case h30 => simp only [aT, aS, aZ]; rfl
          refine ⟨_, by simp [Act.put]; rfl, by kernel_rfl, by kernel_rfl, by kernel_rfl, fun _ _ _ h => h, (yields_whole 28 L12 c13 28 _ rfl rfl rfl Tryz.underlying28 rfl HVS.out.1 (fun W hW => hW.1.1)), ⟨⟨HD.out.1.blk, HD.out.2.1.blk, HD.out.2.2.1.blk⟩, HD.out.2.2.2.1.rd⟩, ?_⟩
          refine onlyH (o := ?o31) 2 (by kernel_rfl) ?h31 ?r31
          case h31 => simp only [aT, aS, aZ]; rfl
          intro K hK
          refine op_call1 17 _ _ Tryz.f17 (fun v w' => v = .bool false ∧ Below Y.heap.size Y w') rfl rfl Tryz.func17 (by kernel_rfl) (by kernel_rfl) ((okSpec_any (.agg c13) s F13 Y HD.out.1.rd HD.out.1.wide).mono (by rintro e w' ⟨rfl, h1⟩; exact ⟨_, rfl, by rw [← HT.out.1], h1⟩)) ?_
          rintro v Y1 ⟨rfl, hb1⟩
          have HD1 : Hid (VarS7 L12 c13 s F13 Y1 ∧ VarS7 L13 c16 t F16 Y1 ∧ VarS7 L16 c19 u F19 Y1 ∧ VarBy pq n18 cq us Y1 ∧ Below w.heap.size w Y1) := ⟨HD.out.1.below hb1, HD.out.2.1.below hb1, HD.out.2.2.1.below hb1, HD.out.2.2.2.1.below hb1, Below.next HD.out.2.2.2.2 hb1⟩
          clear hb1 HD
          refine ⟨_, by simp [Act.put]; rfl, hK _ _ ⟨⟨⟨HD1.out.1.blk, HD1.out.2.1.blk, HD1.out.2.2.1.blk⟩, HD1.out.2.2.2.1.rd⟩, ?_⟩⟩
          clear hK
          refine takeH (o := ?o32) 3 (.bool true) ?h32 ?r32
          case h32 => simp only [aT, aS, aZ]; rfl
          refine ⟨_, by simp [Act.put]; rfl, by kernel_rfl, by kernel_rfl, by kernel_rfl, fun _ _ _ h => h, (.inl ⟨rfl, fun W _ => by go_simp⟩), ⟨⟨HD1.out.1.blk, HD1.out.2.1.blk, HD1.out.2.2.1.blk⟩, HD1.out.2.2.2.1.rd⟩, ?_⟩
          refine takeH (o := ?o33) 4 (.bool true) ?h33 ?r33
          case h33 => simp only [aT, aS, aZ]; rfl
          refine ⟨_, by simp [Act.put]; rfl, by kernel_rfl, by kernel_rfl, by kernel_rfl, fun _ _ _ h => h, (.inl ⟨rfl, fun W _ => by kernel_rfl⟩), ⟨⟨HD1.out.1.blk, HD1.out.2.1.blk, HD1.out.2.2.1.blk⟩, HD1.out.2.2.2.1.rd⟩, ?_⟩
          refine takeH (o := ?o34) 5 (.bool false) ?h34 ?r34
          case h34 => simp only [aT, aS, aZ]; rfl
          refine ⟨_, by simp [Act.put]; rfl, by kernel_rfl, by kernel_rfl, by kernel_rfl, fun _ _ _ h => h, (.inl ⟨rfl, fun W _ => by kernel_rfl⟩), ⟨⟨HD1.out.1.blk, HD1.out.2.1.blk, HD1.out.2.2.1.blk⟩, HD1.out.2.2.2.1.rd⟩, ?_⟩
          refine takeH (o := ?o35) 6 (.bool true) ?h35 ?r35
          case h35 => simp only [aT, aS, aZ]; rfl
          refine ⟨_, by simp [Act.put]; rfl, by kernel_rfl, by kernel_rfl, by kernel_rfl, fun _ _ _ h => h, (.inl ⟨rfl, fun W _ => by go_simp⟩), ⟨⟨HD1.out.1.blk, HD1.out.2.1.blk, HD1.out.2.2.1.blk⟩, HD1.out.2.2.2.1.rd⟩, ?_⟩
          refine takeH (o := ?o36) 7 (.bool true) ?h36 ?r36
          case h36 => simp only [aT, aS, aZ]; rfl
          refine ⟨_, by simp [Act.put]; rfl, by kernel_rfl, by kernel_rfl, by kernel_rfl, fun _ _ _ h => h, (.inl ⟨rfl, fun W _ => by kernel_rfl⟩), ⟨⟨HD1.out.1.blk, HD1.out.2.1.blk, HD1.out.2.2.1.blk⟩, HD1.out.2.2.2.1.rd⟩, ?_⟩
          refine takeH (o := ?o37) 8 (undef) ?h37 ?r37
          case h37 => simp only [aT, aS, aZ]; rfl
          refine ⟨_, by simp [Act.put]; rfl, by kernel_rfl, by kernel_rfl, by kernel_rfl, fun _ _ _ h => h, (.inr ⟨rfl, rfl⟩), ⟨⟨HD1.out.1.blk, HD1.out.2.1.blk, HD1.out.2.2.1.blk⟩, HD1.out.2.2.2.1.rd⟩, ?_⟩
          refine takeH (o := ?o38) 9 (undef) ?h38 ?r38
          case h38 => simp only [aT, aS, aZ]; rfl
          refine ⟨_, by simp [Act.put]; rfl, by kernel_rfl, by kernel_rfl, by kernel_rfl, fun _ _ _ h => h, (.inr ⟨rfl, rfl⟩), ⟨⟨HD1.out.1.blk, HD1.out.2.1.blk, HD1.out.2.2.1.blk⟩, HD1.out.2.2.2.1.rd⟩, ?_⟩
          refine takeH (o := ?o39) 10 (undef) ?h39 ?r39
          case h39 => simp only [aT, aS, aZ]; rfl
          refine ⟨_, by simp [Act.put]; rfl, by kernel_rfl, by kernel_rfl, by kernel_rfl, fun _ _ _ h => h, (.inr ⟨rfl, rfl⟩), ⟨⟨HD1.out.1.blk, HD1.out.2.1.blk, HD1.out.2.2.1.blk⟩, HD1.out.2.2.2.1.rd⟩, ?_⟩
          refine takeH (o := ?o40) 11 (.bool true) ?h40 ?r40
          case h40 => simp only [aT, aS, aZ]; rfl
          refine ⟨_, by simp [Act.put]; rfl, by kernel_rfl, by kernel_rfl, by kernel_rfl, fun _ _ _ h => h, (.inl ⟨rfl, fun W _ => by kernel_rfl⟩), ⟨⟨HD1.out.1.blk, HD1.out.2.1.blk, HD1.out.2.2.1.blk⟩, HD1.out.2.2.2.1.rd⟩, ?_⟩
          refine takeH (o := ?o41) 12 (.bool true) ?h41 ?r41
          case h41 => simp only [aT, aS, aZ]; rfl
          refine ⟨_, by simp [Act.put]; rfl, by kernel_rfl, by kernel_rfl, by kernel_rfl, fun _ _ _ h => h, (.inl ⟨rfl, fun W _ => by kernel_rfl⟩), ⟨⟨HD1.out.1.blk, HD1.out.2.1.blk, HD1.out.2.2.1.blk⟩, HD1.out.2.2.2.1.rd⟩, ?_⟩
          refine takeH (o := ?o42) 13 (.bool true) ?h42 ?r42
          case h42 => simp only [aT, aS, aZ]; rfl
          refine ⟨_, by simp [Act.put]; rfl, by kernel_rfl, by kernel_rfl, by kernel_rfl, fun _ _ _ h => h, (.inl ⟨rfl, fun W _ => by kernel_rfl⟩), ⟨⟨HD1.out.1.blk, HD1.out.2.1.blk, HD1.out.2.2.1.blk⟩, HD1.out.2.2.2.1.rd⟩, ?_⟩
          refine takeH (o := ?o43) 14 (.bool false) ?h43 ?r43
          case h43 => simp only [aT, aS, aZ]; rfl
          refine ⟨_, by simp [Act.put]; rfl, by kernel_rfl, by kernel_rfl, by kernel_rfl, fun _ _ _ h => h, (.inl ⟨rfl, fun W _ => by kernel_rfl⟩), ⟨⟨HD1.out.1.blk, HD1.out.2.1.blk, HD1.out.2.2.1.blk⟩, HD1.out.2.2.2.1.rd⟩, ?_⟩
          refine takeH (o := ?o44) 15 (.bool false) ?h44 ?r44
          case h44 => simp only [aT, aS, aZ]; rfl
          refine ⟨_, by simp [Act.put]; rfl, by kernel_rfl, by kernel_rfl, by kernel_rfl, fun _ _ _ h => h, (.inl ⟨rfl, fun W _ => by kernel_rfl⟩), ⟨⟨HD1.out.1.blk, HD1.out.2.1.blk, HD1.out.2.2.1.blk⟩, HD1.out.2.2.2.1.rd⟩, ?_⟩
          refine takeH (o := ?o45) 16 (.bool true) ?h45 ?r45
          case h45 => simp only [aT, aS, aZ]; rfl
          refine ⟨_, by simp [Act.put]; rfl, by kernel_rfl, by kernel_rfl, by kernel_rfl, fun _ _ _ h => h, (.inl ⟨rfl, fun W _ => by go_simp⟩), ⟨⟨HD1.out.1.blk, HD1.out.2.1.blk, HD1.out.2.2.1.blk⟩, HD1.out.2.2.2.1.rd⟩, ?_⟩
          refine takeH (o := ?o46) 17 (.bool true) ?h46 ?r46
          case h46 => simp only [aT, aS, aZ]; rfl
          refine ⟨_, by simp [Act.put]; rfl, by kernel_rfl, by kernel_rfl, by kernel_rfl, fun _ _ _ h => h, (.inl ⟨rfl, fun W _ => by kernel_rfl⟩), ⟨⟨HD1.out.1.blk, HD1.out.2.1.blk, HD1.out.2.2.1.blk⟩, HD1.out.2.2.2.1.rd⟩, ?_⟩
          refine takeH (o := ?o47) 18 (.bool true) ?h47 ?r47
          case h47 => simp only [aT, aS, aZ]; rfl
          refine ⟨_, by simp [Act.put]; rfl, by kernel_rfl, by kernel_rfl, by kernel_rfl, fun _ _ _ h => h, (.inl ⟨rfl, fun W _ => by kernel_rfl⟩), ⟨⟨HD1.out.1.blk, HD1.out.2.1.blk, HD1.out.2.2.1.blk⟩, HD1.out.2.2.2.1.rd⟩, ?_⟩
          refine takeH (o := ?o48) 19 (.bool false) ?h48 ?r48
          case h48 => simp only [aT, aS, aZ]; rfl
          refine ⟨_, by simp [Act.put]; rfl, by kernel_rfl, by kernel_rfl, by kernel_rfl, fun _ _ _ h => h, (.inl ⟨rfl, fun W _ => by kernel_rfl⟩), ⟨⟨HD1.out.1.blk, HD1.out.2.1.blk, HD1.out.2.2.1.blk⟩, HD1.out.2.2.2.1.rd⟩, ?_⟩
          refine takeH (o := ?o49) 20 (.bool true) ?h49 ?r49
          case h49 => simp only [aT, aS, aZ]; rfl
          refine ⟨_, by simp [Act.put]; rfl, by kernel_rfl, by kernel_rfl, by kernel_rfl, fun _ _ _ h => h, (.inl ⟨rfl, fun W _ => by go_simp⟩), ⟨⟨HD1.out.1.blk, HD1.out.2.1.blk, HD1.out.2.2.1.blk⟩, HD1.out.2.2.2.1.rd⟩, ?_⟩
          refine takeH (o := ?o50) 21 (.bool true) ?h50 ?r50
          case h50 => simp only [aT, aS, aZ]; rfl
          refine ⟨_, by simp [Act.put]; rfl, by kernel_rfl, by kernel_rfl, by kernel_rfl, fun _ _ _ h => h, (.inl ⟨rfl, fun W _ => by kernel_rfl⟩), ⟨⟨HD1.out.1.blk, HD1.out.2.1.blk, HD1.out.2.2.1.blk⟩, HD1.out.2.2.2.1.rd⟩, ?_⟩
          refine takeH (o := ?o51) 22 (undef) ?h51 ?r51
          case h51 => simp only [aT, aS, aZ]; rfl
          refine ⟨_, by simp [Act.put]; rfl, by kernel_rfl, by kernel_rfl, by kernel_rfl, fun _ _ _ h => h, (.inr ⟨rfl, rfl⟩), ⟨⟨HD1.out.1.blk, HD1.out.2.1.blk, HD1.out.2.2.1.blk⟩, HD1.out.2.2.2.1.rd⟩, ?_⟩
          refine takeH (o := ?o52) 23 (undef) ?h52 ?r52
          case h52 => simp only [aT, aS, aZ]; rfl
          refine ⟨_, by simp [Act.put]; rfl, by kernel_rfl, by kernel_rfl, by kernel_rfl, fun _ _ _ h => h, (.inr ⟨rfl, rfl⟩), ⟨⟨HD1.out.1.blk, HD1.out.2.1.blk, HD1.out.2.2.1.blk⟩, HD1.out.2.2.2.1.rd⟩, ?_⟩
          refine takeH (o := ?o53) 24 (undef) ?h53 ?r53
          case h53 => simp only [aT, aS, aZ]; rfl
          refine ⟨_, by simp [Act.put]; rfl, by kernel_rfl, by kernel_rfl, by kernel_rfl, fun _ _ _ h => h, (.inr ⟨rfl, rfl⟩), ⟨⟨HD1.out.1.blk, HD1.out.2.1.blk, HD1.out.2.2.1.blk⟩, HD1.out.2.2.2.1.rd⟩, ?_⟩
          refine takeH (o := ?o54) 25 (undef) ?h54 ?r54
          case h54 => simp only [aT, aS, aZ]; rfl
          refine ⟨_, by simp [Act.put]; rfl, by kernel_rfl, by kernel_rfl, by kernel_rfl, fun _ _ _ h => h, (.inr ⟨rfl, rfl⟩), ⟨⟨HD1.out.1.blk, HD1.out.2.1.blk, HD1.out.2.2.1.blk⟩, HD1.out.2.2.2.1.rd⟩, ?_⟩
          refine takeH (o := ?o55) 26 (undef) ?h55 ?r55
          case h55 => simp only [aT, aS, aZ]; rfl
          refine ⟨_, by simp [Act.put]; rfl, by kernel_rfl, by kernel_rfl, by kernel_rfl, fun _ _ _ h => h, (.inr ⟨rfl, rfl⟩), ⟨⟨HD1.out.1.blk, HD1.out.2.1.blk, HD1.out.2.2.1.blk⟩, HD1.out.2.2.2.1.rd⟩, ?_⟩
          refine takeH (o := ?o56) 27 (undef) ?h56 ?r56
          case h56 => simp only [aT, aS, aZ]; rfl
          refine ⟨_, by simp [Act.put]; rfl, by kernel_rfl, by kernel_rfl, by kernel_rfl, fun _ _ _ h => h, (.inr ⟨rfl, rfl⟩), ⟨⟨HD1.out.1.blk, HD1.out.2.1.blk, HD1.out.2.2.1.blk⟩, HD1.out.2.2.2.1.rd⟩, ?_⟩
          refine takeH (o := ?o57) 28 (.bool true) ?h57 ?r57
          case h57 => simp only [aT, aS, aZ]; rfl
          refine ⟨_, by simp [Act.put]; rfl, by kernel_rfl, by kernel_rfl, by kernel_rfl, fun _ _ _ h => h, (.inl ⟨rfl, fun W _ => by kernel_rfl⟩), ⟨⟨HD1.out.1.blk, HD1.out.2.1.blk, HD1.out.2.2.1.blk⟩, HD1.out.2.2.2.1.rd⟩, ?_⟩
          refine takeH (o := ?o58) 29 (.bool true) ?h58 ?r58
          case h58 => simp only [aT, aS, aZ]; rfl
          refine ⟨_, by simp [Act.put]; rfl, by kernel_rfl, by kernel_rfl, by kernel_rfl, fun _ _ _ h => h, (.inl ⟨rfl, fun W _ => by kernel_rfl⟩), ⟨⟨HD1.out.1.blk, HD1.out.2.1.blk, HD1.out.2.2.1.blk⟩, HD1.out.2.2.2.1.rd⟩, ?_⟩
          refine takeH (o := ?o59) 30 (.bool true) ?h59 ?r59
          case h59 => simp only [aT, aS, aZ]; rfl
          refine ⟨_, by simp [Act.put]; rfl, by kernel_rfl, by kernel_rfl, by kernel_rfl, fun _ _ _ h => h, (.inl ⟨rfl, fun W _ => by kernel_rfl⟩), ⟨⟨HD1.out.1.blk, HD1.out.2.1.blk, HD1.out.2.2.1.blk⟩, HD1.out.2.2.2.1.rd⟩, ?_⟩
          refine wpAnyH_done (by kernel_rfl) ?_ _
          go_wp2
          go_ret
          exact ⟨rfl, HD1.out.2.2.2.2⟩
        · refine wp_region_held (S := fun W => (Blk W L12 c13 28 ∧ Blk W L13 c16 28 ∧ Blk W L16 c19 28) ∧ RdB W pq n18 us) (by kernel_rfl) ?_
          change wpAnyH _ _ _ _ _ _ _ _ (World.drew _)
          rw [← hY]
          clear hY
          refine takeH (o := ?o60) 0 (.bool false) ?h60 ?r60
          case h60 => simp only [aT, aZ]; rfl
          refine ⟨_, by simp [Act.put]; rfl, by kernel_rfl, by kernel_rfl, by kernel_rfl, fun _ _ _ h => h, (.inl ⟨rfl, fun W _ => by kernel_rfl⟩), ⟨⟨HD.out.1.blk, HD.out.2.1.blk, HD.out.2.2.1.blk⟩, HD.out.2.2.2.1.rd⟩, ?_⟩
          refine takeH (o := ?o61) 1 (.agg c13) ?h61 ?r61
          case h61 => simp only [aT, aS, aZ]; rfl
          refine ⟨_, by simp [Act.put]; rfl, by kernel_rfl, by kernel_rfl, by kernel_rfl, fun _ _ _ h => h, (yields_whole 28 L12 c13 28 _ rfl rfl rfl Tryz.underlying28 rfl HVS.out.1 (fun W hW => hW.1.1)), ⟨⟨HD.out.1.blk, HD.out.2.1.blk, HD.out.2.2.1.blk⟩, HD.out.2.2.2.1.rd⟩, ?_⟩
          refine onlyH (o := ?o62) 2 (by kernel_rfl) ?h62 ?r62
          case h62 => simp only [aT, aS, aZ]; rfl
          intro K hK
          refine op_call1 17 _ _ Tryz.f17 (fun v w' => v = .bool false ∧ Below Y.heap.size Y w') rfl rfl Tryz.func17 (by kernel_rfl) (by kernel_rfl) ((okSpec_any (.agg c13) s F13 Y HD.out.1.rd HD.out.1.wide).mono (by rintro e w' ⟨rfl, h1⟩; exact ⟨_, rfl, by rw [← HT.out.1], h1⟩)) ?_
          rintro v Y1 ⟨rfl, hb1⟩
          have HD1 : Hid (VarS7 L12 c13 s F13 Y1 ∧ VarS7 L13 c16 t F16 Y1 ∧ VarS7 L16 c19 u F19 Y1 ∧ VarBy pq n18 cq us Y1 ∧ Below w.heap.size w Y1) := ⟨HD.out.1.below hb1, HD.out.2.1.below hb1, HD.out.2.2.1.below hb1, HD.out.2.2.2.1.below hb1, Below.next HD.out.2.2.2.2 hb1⟩
          clear hb1 HD
          refine ⟨_, by simp [Act.put]; rfl, hK _ _ ⟨⟨⟨HD1.out.1.blk, HD1.out.2.1.blk, HD1.out.2.2.1.blk⟩, HD1.out.2.2.2.1.rd⟩, ?_⟩⟩
          clear hK
          refine takeH (o := ?o63) 3 (.bool true) ?h63 ?r63
          case h63 => simp only [aT, aS, aZ]; rfl
          refine ⟨_, by simp [Act.put]; rfl, by kernel_rfl, by kernel_rfl, by kernel_rfl, fun _ _ _ h => h, (.inl ⟨rfl, fun W _ => by go_simp⟩), ⟨⟨HD1.out.1.blk, HD1.out.2.1.blk, HD1.out.2.2.1.blk⟩, HD1.out.2.2.2.1.rd⟩, ?_⟩
          refine takeH (o := ?o64) 4 (.bool true) ?h64 ?r64
          case h64 => simp only [aT, aS, aZ]; rfl
          refine ⟨_, by simp [Act.put]; rfl, by kernel_rfl, by kernel_rfl, by kernel_rfl, fun _ _ _ h => h, (.inl ⟨rfl, fun W _ => by kernel_rfl⟩), ⟨⟨HD1.out.1.blk, HD1.out.2.1.blk, HD1.out.2.2.1.blk⟩, HD1.out.2.2.2.1.rd⟩, ?_⟩
          refine takeH (o := ?o65) 5 (.bool false) ?h65 ?r65
          case h65 => simp only [aT, aS, aZ]; rfl
          refine ⟨_, by simp [Act.put]; rfl, by kernel_rfl, by kernel_rfl, by kernel_rfl, fun _ _ _ h => h, (.inl ⟨rfl, fun W _ => by kernel_rfl⟩), ⟨⟨HD1.out.1.blk, HD1.out.2.1.blk, HD1.out.2.2.1.blk⟩, HD1.out.2.2.2.1.rd⟩, ?_⟩
          refine takeH (o := ?o66) 6 (.bool true) ?h66 ?r66
          case h66 => simp only [aT, aS, aZ]; rfl
          refine ⟨_, by simp [Act.put]; rfl, by kernel_rfl, by kernel_rfl, by kernel_rfl, fun _ _ _ h => h, (.inl ⟨rfl, fun W _ => by go_simp⟩), ⟨⟨HD1.out.1.blk, HD1.out.2.1.blk, HD1.out.2.2.1.blk⟩, HD1.out.2.2.2.1.rd⟩, ?_⟩
          refine takeH (o := ?o67) 7 (.bool true) ?h67 ?r67
          case h67 => simp only [aT, aS, aZ]; rfl
          refine ⟨_, by simp [Act.put]; rfl, by kernel_rfl, by kernel_rfl, by kernel_rfl, fun _ _ _ h => h, (.inl ⟨rfl, fun W _ => by kernel_rfl⟩), ⟨⟨HD1.out.1.blk, HD1.out.2.1.blk, HD1.out.2.2.1.blk⟩, HD1.out.2.2.2.1.rd⟩, ?_⟩
          refine takeH (o := ?o68) 8 (undef) ?h68 ?r68
          case h68 => simp only [aT, aS, aZ]; rfl
          refine ⟨_, by simp [Act.put]; rfl, by kernel_rfl, by kernel_rfl, by kernel_rfl, fun _ _ _ h => h, (.inr ⟨rfl, rfl⟩), ⟨⟨HD1.out.1.blk, HD1.out.2.1.blk, HD1.out.2.2.1.blk⟩, HD1.out.2.2.2.1.rd⟩, ?_⟩
          refine takeH (o := ?o69) 9 (undef) ?h69 ?r69
          case h69 => simp only [aT, aS, aZ]; rfl
          refine ⟨_, by simp [Act.put]; rfl, by kernel_rfl, by kernel_rfl, by kernel_rfl, fun _ _ _ h => h, (.inr ⟨rfl, rfl⟩), ⟨⟨HD1.out.1.blk, HD1.out.2.1.blk, HD1.out.2.2.1.blk⟩, HD1.out.2.2.2.1.rd⟩, ?_⟩
          refine takeH (o := ?o70) 10 (undef) ?h70 ?r70
          case h70 => simp only [aT, aS, aZ]; rfl
          refine ⟨_, by simp [Act.put]; rfl, by kernel_rfl, by kernel_rfl, by kernel_rfl, fun _ _ _ h => h, (.inr ⟨rfl, rfl⟩), ⟨⟨HD1.out.1.blk, HD1.out.2.1.blk, HD1.out.2.2.1.blk⟩, HD1.out.2.2.2.1.rd⟩, ?_⟩
          refine takeH (o := ?o71) 11 (.bool true) ?h71 ?r71
          case h71 => simp only [aT, aS, aZ]; rfl
          refine ⟨_, by simp [Act.put]; rfl, by kernel_rfl, by kernel_rfl, by kernel_rfl, fun _ _ _ h => h, (.inl ⟨rfl, fun W _ => by kernel_rfl⟩), ⟨⟨HD1.out.1.blk, HD1.out.2.1.blk, HD1.out.2.2.1.blk⟩, HD1.out.2.2.2.1.rd⟩, ?_⟩
          refine takeH (o := ?o72) 12 (.bool true) ?h72 ?r72
          case h72 => simp only [aT, aS, aZ]; rfl
          refine ⟨_, by simp [Act.put]; rfl, by kernel_rfl, by kernel_rfl, by kernel_rfl, fun _ _ _ h => h, (.inl ⟨rfl, fun W _ => by kernel_rfl⟩), ⟨⟨HD1.out.1.blk, HD1.out.2.1.blk, HD1.out.2.2.1.blk⟩, HD1.out.2.2.2.1.rd⟩, ?_⟩
          refine takeH (o := ?o73) 13 (.bool true) ?h73 ?r73
          case h73 => simp only [aT, aS, aZ]; rfl
          refine ⟨_, by simp [Act.put]; rfl, by kernel_rfl, by kernel_rfl, by kernel_rfl, fun _ _ _ h => h, (.inl ⟨rfl, fun W _ => by kernel_rfl⟩), ⟨⟨HD1.out.1.blk, HD1.out.2.1.blk, HD1.out.2.2.1.blk⟩, HD1.out.2.2.2.1.rd⟩, ?_⟩
          refine takeH (o := ?o74) 14 (.bool true) ?h74 ?r74
          case h74 => simp only [aT, aS, aZ]; rfl
          refine ⟨_, by simp [Act.put]; rfl, by kernel_rfl, by kernel_rfl, by kernel_rfl, fun _ _ _ h => h, (.inl ⟨rfl, fun W _ => by kernel_rfl⟩), ⟨⟨HD1.out.1.blk, HD1.out.2.1.blk, HD1.out.2.2.1.blk⟩, HD1.out.2.2.2.1.rd⟩, ?_⟩
          refine takeH (o := ?o75) 15 (.bool true) ?h75 ?r75
          case h75 => simp only [aT, aS, aZ]; rfl
          refine ⟨_, by simp [Act.put]; rfl, by kernel_rfl, by kernel_rfl, by kernel_rfl, fun _ _ _ h => h, (.inl ⟨rfl, fun W _ => by kernel_rfl⟩), ⟨⟨HD1.out.1.blk, HD1.out.2.1.blk, HD1.out.2.2.1.blk⟩, HD1.out.2.2.2.1.rd⟩, ?_⟩
          refine takeH (o := ?o76) 16 (.bool true) ?h76 ?r76
          case h76 => simp only [aT, aS, aZ]; rfl
          refine ⟨_, by simp [Act.put]; rfl, by kernel_rfl, by kernel_rfl, by kernel_rfl, fun _ _ _ h => h, (.inl ⟨rfl, fun W _ => by go_simp⟩), ⟨⟨HD1.out.1.blk, HD1.out.2.1.blk, HD1.out.2.2.1.blk⟩, HD1.out.2.2.2.1.rd⟩, ?_⟩
          refine takeH (o := ?o77) 17 (.bool true) ?h77 ?r77
          case h77 => simp only [aT, aS, aZ]; rfl
          refine ⟨_, by simp [Act.put]; rfl, by kernel_rfl, by kernel_rfl, by kernel_rfl, fun _ _ _ h => h, (.inl ⟨rfl, fun W _ => by kernel_rfl⟩), ⟨⟨HD1.out.1.blk, HD1.out.2.1.blk, HD1.out.2.2.1.blk⟩, HD1.out.2.2.2.1.rd⟩, ?_⟩
          refine takeH (o := ?o78) 18 (.bool true) ?h78 ?r78
          case h78 => simp only [aT, aS, aZ]; rfl
          refine ⟨_, by simp [Act.put]; rfl, by kernel_rfl, by kernel_rfl, by kernel_rfl, fun _ _ _ h => h, (.inl ⟨rfl, fun W _ => by kernel_rfl⟩), ⟨⟨HD1.out.1.blk, HD1.out.2.1.blk, HD1.out.2.2.1.blk⟩, HD1.out.2.2.2.1.rd⟩, ?_⟩
          refine takeH (o := ?o79) 19 (.bool true) ?h79 ?r79
          case h79 => simp only [aT, aS, aZ]; rfl
          refine ⟨_, by simp [Act.put]; rfl, by kernel_rfl, by kernel_rfl, by kernel_rfl, fun _ _ _ h => h, (.inl ⟨rfl, fun W _ => by kernel_rfl⟩), ⟨⟨HD1.out.1.blk, HD1.out.2.1.blk, HD1.out.2.2.1.blk⟩, HD1.out.2.2.2.1.rd⟩, ?_⟩
          refine takeH (o := ?o80) 20 (.bool false) ?h80 ?r80
          case h80 => simp only [aT, aS, aZ]; rfl
          refine ⟨_, by simp [Act.put]; rfl, by kernel_rfl, by kernel_rfl, by kernel_rfl, fun _ _ _ h => h, (.inl ⟨rfl, fun W _ => by go_simp⟩), ⟨⟨HD1.out.1.blk, HD1.out.2.1.blk, HD1.out.2.2.1.blk⟩, HD1.out.2.2.2.1.rd⟩, ?_⟩
          refine takeH (o := ?o81) 21 (.bool false) ?h81 ?r81
          case h81 => simp only [aT, aS, aZ]; rfl
          refine ⟨_, by simp [Act.put]; rfl, by kernel_rfl, by kernel_rfl, by kernel_rfl, fun _ _ _ h => h, (.inl ⟨rfl, fun W _ => by kernel_rfl⟩), ⟨⟨HD1.out.1.blk, HD1.out.2.1.blk, HD1.out.2.2.1.blk⟩, HD1.out.2.2.2.1.rd⟩, ?_⟩
          refine takeH (o := ?o82) 22 (.agg c19) ?h82 ?r82
          case h82 => simp only [aT, aS, aZ]; rfl
          refine ⟨_, by simp [Act.put]; rfl, by kernel_rfl, by kernel_rfl, by kernel_rfl, fun _ _ _ h => h, (yields_whole 28 L16 c19 28 _ rfl rfl rfl Tryz.underlying28 rfl HVS.out.2.2 (fun W hW => hW.1.2.2)), ⟨⟨HD1.out.1.blk, HD1.out.2.1.blk, HD1.out.2.2.1.blk⟩, HD1.out.2.2.2.1.rd⟩, ?_⟩
          refine takeH (o := ?o83) 25 (.slice pq n18 cq) ?h83 ?r83
          case h83 => simp only [aT, aS, aZ]; rfl
          refine ⟨_, by simp [Act.put]; rfl, by kernel_rfl, by kernel_rfl, by kernel_rfl, fun _ _ _ h => h, (.inl ⟨rfl, fun W _ => by kernel_rfl⟩), ⟨⟨HD1.out.1.blk, HD1.out.2.1.blk, HD1.out.2.2.1.blk⟩, HD1.out.2.2.2.1.rd⟩, ?_⟩
          refine takeH (o := ?o84) 26 (.string (strOfNums us)) ?h84 ?r84
          case h84 => simp only [aT, aS, aZ]; rfl
          refine ⟨_, by simp [Act.put]; rfl, by kernel_rfl, by kernel_rfl, by kernel_rfl, fun _ _ _ h => h, (.inl ⟨rfl, fun W hW => exec_conv rfl rfl (conv_any hW.2)⟩), ⟨⟨HD1.out.1.blk, HD1.out.2.1.blk, HD1.out.2.2.1.blk⟩, HD1.out.2.2.2.1.rd⟩, ?_⟩
          refine onlyH (o := ?o85) 23 (by kernel_rfl) ?h85 ?r85
          case h85 => simp only [aT, aS, aZ]; rfl
          intro K hK
          refine op_call1 14 _ _ Tryz.f14 (fun v w' => w'.ownsRow Y1.heap.size 5 1 v u.bytes.length (u.bytes.map (Value.int .u8)) ∧ Below Y1.heap.size Y1 w') rfl rfl Tryz.func14 (by kernel_rfl) (by kernel_rfl) ((sketchBytesImpl_any (.agg c19) u F19 Y1 HD1.out.2.2.1.rd HD1.out.2.2.1.wide).mono (by rintro e w' ⟨v, rfl, h1, h2⟩; exact ⟨_, rfl, h1, h2⟩)) ?_
          rintro v Y3 ⟨hown, hb3⟩
          obtain ⟨pu, cu, rfl, hvu⟩ := varBy_own hown (Sk.bytes_range u) (by have := skBytes_len u; omega)
          have k1 := conv_any hvu.rd (cap := cu)
          have HD3 : Hid (VarS7 L12 c13 s F13 Y3 ∧ VarS7 L13 c16 t F16 Y3 ∧ VarS7 L16 c19 u F19 Y3 ∧ VarBy pq n18 cq us Y3 ∧ Below w.heap.size w Y3) := ⟨HD1.out.1.below hb3, HD1.out.2.1.below hb3, HD1.out.2.2.1.below hb3, HD1.out.2.2.2.1.below hb3, Below.next HD1.out.2.2.2.2 hb3⟩
          clear hb3 hown hvu HD1
          refine ⟨_, by simp [Act.put]; rfl, hK _ _ ⟨⟨⟨HD3.out.1.blk, HD3.out.2.1.blk, HD3.out.2.2.1.blk⟩, HD3.out.2.2.2.1.rd⟩, ?_⟩⟩
          clear hK
          refine onlyH (o := ?o86) 24 (by kernel_rfl) ?h86 ?r86
          case h86 => simp only [aT, aS, aZ]; rfl
          intro K hK
          refine op_value (.string (strOfNums u.bytes)) rfl (exec_conv rfl rfl k1) ⟨_, by simp [Act.put]; rfl, hK _ _ ⟨⟨⟨HD3.out.1.blk, HD3.out.2.1.blk, HD3.out.2.2.1.blk⟩, HD3.out.2.2.2.1.rd⟩, ?_⟩⟩
          clear hK
          clear k1
          refine onlyH (o := ?o87) 27 (by kernel_rfl) ?h87 ?r87
          case h87 => simp only [aT, aS, aZ]; rfl
          intro K hK
          refine op_value (.bool true) rfl ((exec_eqStr rfl rfl rfl).trans (by rw [(sk_fits HIU.out).2 rfl]; simp)) ⟨_, by simp [Act.put]; rfl, hK _ _ ⟨⟨⟨HD3.out.1.blk, HD3.out.2.1.blk, HD3.out.2.2.1.blk⟩, HD3.out.2.2.2.1.rd⟩, ?_⟩⟩
          clear hK
          refine onlyH (o := ?o88) 28 (by kernel_rfl) ?h88 ?r88
          case h88 => simp only [aT, aS, aZ]; rfl
          intro K hK
          refine op_value (.bool true) rfl (by kernel_rfl) ⟨_, by simp [Act.put]; rfl, hK _ _ ⟨⟨⟨HD3.out.1.blk, HD3.out.2.1.blk, HD3.out.2.2.1.blk⟩, HD3.out.2.2.2.1.rd⟩, ?_⟩⟩
          clear hK
          refine onlyH (o := ?o89) 29 (by kernel_rfl) ?h89 ?r89
          case h89 => simp only [aT, aS, aZ]; rfl
          intro K hK
          refine op_value (.bool true) rfl (by kernel_rfl) ⟨_, by simp [Act.put]; rfl, hK _ _ ⟨⟨⟨HD3.out.1.blk, HD3.out.2.1.blk, HD3.out.2.2.1.blk⟩, HD3.out.2.2.2.1.rd⟩, ?_⟩⟩
          clear hK
          refine onlyH (o := ?o90) 30 (by kernel_rfl) ?h90 ?r90
          case h90 => simp only [aT, aS, aZ]; rfl
          intro K hK
          refine op_value (.bool true) rfl (by kernel_rfl) ⟨_, by simp [Act.put]; rfl, hK _ _ ⟨⟨⟨HD3.out.1.blk, HD3.out.2.1.blk, HD3.out.2.2.1.blk⟩, HD3.out.2.2.2.1.rd⟩, ?_⟩⟩
          clear hK
          refine wpAnyH_done (by kernel_rfl) ?_ _
          go_wp2
          go_ret
          exact ⟨rfl, HD3.out.2.2.2.2⟩
      · cases d19
        · refine wp_region_held (S := fun W => (Blk W L12 c13 28 ∧ Blk W L13 c16 28 ∧ Blk W L16 c19 28) ∧ RdB W pq n18 us) (by kernel_rfl) ?_
          change wpAnyH _ _ _ _ _ _ _ _ (World.drew _)
          rw [← hY]
          clear hY
          refine takeH (o := ?o91) 0 (.bool true) ?h91 ?r91
          case h91 => simp only [aT, aZ]; rfl
          refine ⟨_, by simp [Act.put]; rfl, by kernel_rfl, by kernel_rfl, by kernel_rfl, fun _ _ _ h => h, (.inl ⟨rfl, fun W _ => by kernel_rfl⟩), ⟨⟨HD.out.1.blk, HD.out.2.1.blk, HD.out.2.2.1.blk⟩, HD.out.2.2.2.1.rd⟩, ?_⟩
          refine takeH (o := ?o92) 1 (.agg c13) ?h92 ?r92
          case h92 => simp only [aT, aS, aZ]; rfl
          refine ⟨_, by simp [Act.put]; rfl, by kernel_rfl, by kernel_rfl, by kernel_rfl, fun _ _ _ h => h, (yields_whole 28 L12 c13 28 _ rfl rfl rfl Tryz.underlying28 rfl HVS.out.1 (fun W hW => hW.1.1)), ⟨⟨HD.out.1.blk, HD.out.2.1.blk, HD.out.2.2.1.blk⟩, HD.out.2.2.2.1.rd⟩, ?_⟩
          refine onlyH (o := ?o93) 2 (by kernel_rfl) ?h93 ?r93
          case h93 => simp only [aT, aS, aZ]; rfl
          intro K hK
          refine op_call1 17 _ _ Tryz.f17 (fun v w' => v = .bool true ∧ Below Y.heap.size Y w') rfl rfl Tryz.func17 (by kernel_rfl) (by kernel_rfl) ((okSpec_any (.agg c13) s F13 Y HD.out.1.rd HD.out.1.wide).mono (by rintro e w' ⟨rfl, h1⟩; exact ⟨_, rfl, by rw [← HT.out.1], h1⟩)) ?_
          rintro v Y1 ⟨rfl, hb1⟩
          have HD1 : Hid (VarS7 L12 c13 s F13 Y1 ∧ VarS7 L13 c16 t F16 Y1 ∧ VarS7 L16 c19 u F19 Y1 ∧ VarBy pq n18 cq us Y1 ∧ Below w.heap.size w Y1) := ⟨HD.out.1.below hb1, HD.out.2.1.below hb1, HD.out.2.2.1.below hb1, HD.out.2.2.2.1.below hb1, Below.next HD.out.2.2.2.2 hb1⟩
          clear hb1 HD
          refine ⟨_, by simp [Act.put]; rfl, hK _ _ ⟨⟨⟨HD1.out.1.blk, HD1.out.2.1.blk, HD1.out.2.2.1.blk⟩, HD1.out.2.2.2.1.rd⟩, ?_⟩⟩
          clear hK
          refine takeH (o := ?o94) 3 (.bool true) ?h94 ?r94
          case h94 => simp only [aT, aS, aZ]; rfl
          refine ⟨_, by simp [Act.put]; rfl, by kernel_rfl, by kernel_rfl, by kernel_rfl, fun _ _ _ h => h, (.inl ⟨rfl, fun W _ => by go_simp⟩), ⟨⟨HD1.out.1.blk, HD1.out.2.1.blk, HD1.out.2.2.1.blk⟩, HD1.out.2.2.2.1.rd⟩, ?_⟩
          refine takeH (o := ?o95) 4 (.bool true) ?h95 ?r95
          case h95 => simp only [aT, aS, aZ]; rfl
          refine ⟨_, by simp [Act.put]; rfl, by kernel_rfl, by kernel_rfl, by kernel_rfl, fun _ _ _ h => h, (.inl ⟨rfl, fun W _ => by kernel_rfl⟩), ⟨⟨HD1.out.1.blk, HD1.out.2.1.blk, HD1.out.2.2.1.blk⟩, HD1.out.2.2.2.1.rd⟩, ?_⟩
          refine takeH (o := ?o96) 5 (.bool true) ?h96 ?r96
          case h96 => simp only [aT, aS, aZ]; rfl
          refine ⟨_, by simp [Act.put]; rfl, by kernel_rfl, by kernel_rfl, by kernel_rfl, fun _ _ _ h => h, (.inl ⟨rfl, fun W _ => by kernel_rfl⟩), ⟨⟨HD1.out.1.blk, HD1.out.2.1.blk, HD1.out.2.2.1.blk⟩, HD1.out.2.2.2.1.rd⟩, ?_⟩
          refine takeH (o := ?o97) 6 (.bool false) ?h97 ?r97
          case h97 => simp only [aT, aS, aZ]; rfl
          refine ⟨_, by simp [Act.put]; rfl, by kernel_rfl, by kernel_rfl, by kernel_rfl, fun _ _ _ h => h, (.inl ⟨rfl, fun W _ => by go_simp⟩), ⟨⟨HD1.out.1.blk, HD1.out.2.1.blk, HD1.out.2.2.1.blk⟩, HD1.out.2.2.2.1.rd⟩, ?_⟩
          refine takeH (o := ?o98) 7 (.bool false) ?h98 ?r98
          case h98 => simp only [aT, aS, aZ]; rfl
          refine ⟨_, by simp [Act.put]; rfl, by kernel_rfl, by kernel_rfl, by kernel_rfl, fun _ _ _ h => h, (.inl ⟨rfl, fun W _ => by kernel_rfl⟩), ⟨⟨HD1.out.1.blk, HD1.out.2.1.blk, HD1.out.2.2.1.blk⟩, HD1.out.2.2.2.1.rd⟩, ?_⟩
          refine takeH (o := ?o99) 8 (.agg c13) ?h99 ?r99
          case h99 => simp only [aT, aS, aZ]; rfl
          refine ⟨_, by simp [Act.put]; rfl, by kernel_rfl, by kernel_rfl, by kernel_rfl, fun _ _ _ h => h, (yields_whole 28 L12 c13 28 _ rfl rfl rfl Tryz.underlying28 rfl HVS.out.1 (fun W hW => hW.1.1)), ⟨⟨HD1.out.1.blk, HD1.out.2.1.blk, HD1.out.2.2.1.blk⟩, HD1.out.2.2.2.1.rd⟩, ?_⟩
          refine takeH (o := ?o100) 9 (.agg c16) ?h100 ?r100
          case h100 => simp only [aT, aS, aZ]; rfl
          refine ⟨_, by simp [Act.put]; rfl, by kernel_rfl, by kernel_rfl, by kernel_rfl, fun _ _ _ h => h, (yields_whole 28 L13 c16 28 _ rfl rfl rfl Tryz.underlying28 rfl HVS.out.2.1 (fun W hW => hW.1.2.1)), ⟨⟨HD1.out.1.blk, HD1.out.2.1.blk, HD1.out.2.2.1.blk⟩, HD1.out.2.2.2.1.rd⟩, ?_⟩
          refine onlyH (o := ?o101) 10 (by kernel_rfl) ?h101 ?r101
          case h101 => simp only [aT, aS, aZ]; rfl
          intro K hK
          refine op_call2v 18 _ _ _ Tryz.f18 (fun v w' => v = .bool true ∧ Below Y1.heap.size Y1 w') rfl rfl Tryz.func18 (by kernel_rfl) (by kernel_rfl) ((sameSpec_any (.agg c13) (.agg c16) s t F13 F16 Y1 HD1.out.1.rd HD1.out.2.1.rd HD1.out.1.wide HD1.out.2.1.wide).mono (by rintro e w' ⟨rfl, h1⟩; exact ⟨_, rfl, by rw [dec_true (HT.out.2 HT.out.1.symm).symm], h1⟩)) ?_
          rintro v Y2 ⟨rfl, hb2⟩
          have HD2 : Hid (VarS7 L12 c13 s F13 Y2 ∧ VarS7 L13 c16 t F16 Y2 ∧ VarS7 L16 c19 u F19 Y2 ∧ VarBy pq n18 cq us Y2 ∧ Below w.heap.size w Y2) := ⟨HD1.out.1.below hb2, HD1.out.2.1.below hb2, HD1.out.2.2.1.below hb2, HD1.out.2.2.2.1.below hb2, Below.next HD1.out.2.2.2.2 hb2⟩
          clear hb2 HD1
          refine ⟨_, by simp [Act.put]; rfl, hK _ _ ⟨⟨⟨HD2.out.1.blk, HD2.out.2.1.blk, HD2.out.2.2.1.blk⟩, HD2.out.2.2.2.1.rd⟩, ?_⟩⟩
          clear hK
          refine takeH (o := ?o102) 11 (.bool true) ?h102 ?r102
          case h102 => simp only [aT, aS, aZ]; rfl
          refine ⟨_, by simp [Act.put]; rfl, by kernel_rfl, by kernel_rfl, by kernel_rfl, fun _ _ _ h => h, (.inl ⟨rfl, fun W _ => by kernel_rfl⟩), ⟨⟨HD2.out.1.blk, HD2.out.2.1.blk, HD2.out.2.2.1.blk⟩, HD2.out.2.2.2.1.rd⟩, ?_⟩
          refine takeH (o := ?o103) 12 (.bool true) ?h103 ?r103
          case h103 => simp only [aT, aS, aZ]; rfl
          refine ⟨_, by simp [Act.put]; rfl, by kernel_rfl, by kernel_rfl, by kernel_rfl, fun _ _ _ h => h, (.inl ⟨rfl, fun W _ => by kernel_rfl⟩), ⟨⟨HD2.out.1.blk, HD2.out.2.1.blk, HD2.out.2.2.1.blk⟩, HD2.out.2.2.2.1.rd⟩, ?_⟩
          refine takeH (o := ?o104) 13 (.bool true) ?h104 ?r104
          case h104 => simp only [aT, aS, aZ]; rfl
          refine ⟨_, by simp [Act.put]; rfl, by kernel_rfl, by kernel_rfl, by kernel_rfl, fun _ _ _ h => h, (.inl ⟨rfl, fun W _ => by kernel_rfl⟩), ⟨⟨HD2.out.1.blk, HD2.out.2.1.blk, HD2.out.2.2.1.blk⟩, HD2.out.2.2.2.1.rd⟩, ?_⟩
          refine takeH (o := ?o105) 14 (.bool false) ?h105 ?r105
          case h105 => simp only [aT, aS, aZ]; rfl
          refine ⟨_, by simp [Act.put]; rfl, by kernel_rfl, by kernel_rfl, by kernel_rfl, fun _ _ _ h => h, (.inl ⟨rfl, fun W _ => by kernel_rfl⟩), ⟨⟨HD2.out.1.blk, HD2.out.2.1.blk, HD2.out.2.2.1.blk⟩, HD2.out.2.2.2.1.rd⟩, ?_⟩
          refine takeH (o := ?o106) 15 (.bool false) ?h106 ?r106
          case h106 => simp only [aT, aS, aZ]; rfl
          refine ⟨_, by simp [Act.put]; rfl, by kernel_rfl, by kernel_rfl, by kernel_rfl, fun _ _ _ h => h, (.inl ⟨rfl, fun W _ => by kernel_rfl⟩), ⟨⟨HD2.out.1.blk, HD2.out.2.1.blk, HD2.out.2.2.1.blk⟩, HD2.out.2.2.2.1.rd⟩, ?_⟩
          refine takeH (o := ?o107) 16 (.bool true) ?h107 ?r107
          case h107 => simp only [aT, aS, aZ]; rfl
          refine ⟨_, by simp [Act.put]; rfl, by kernel_rfl, by kernel_rfl, by kernel_rfl, fun _ _ _ h => h, (.inl ⟨rfl, fun W _ => by go_simp⟩), ⟨⟨HD2.out.1.blk, HD2.out.2.1.blk, HD2.out.2.2.1.blk⟩, HD2.out.2.2.2.1.rd⟩, ?_⟩
          refine takeH (o := ?o108) 17 (.bool true) ?h108 ?r108
          case h108 => simp only [aT, aS, aZ]; rfl
          refine ⟨_, by simp [Act.put]; rfl, by kernel_rfl, by kernel_rfl, by kernel_rfl, fun _ _ _ h => h, (.inl ⟨rfl, fun W _ => by kernel_rfl⟩), ⟨⟨HD2.out.1.blk, HD2.out.2.1.blk, HD2.out.2.2.1.blk⟩, HD2.out.2.2.2.1.rd⟩, ?_⟩
          refine takeH (o := ?o109) 18 (.bool true) ?h109 ?r109
          case h109 => simp only [aT, aS, aZ]; rfl
          refine ⟨_, by simp [Act.put]; rfl, by kernel_rfl, by kernel_rfl, by kernel_rfl, fun _ _ _ h => h, (.inl ⟨rfl, fun W _ => by kernel_rfl⟩), ⟨⟨HD2.out.1.blk, HD2.out.2.1.blk, HD2.out.2.2.1.blk⟩, HD2.out.2.2.2.1.rd⟩, ?_⟩
          refine takeH (o := ?o110) 19 (.bool false) ?h110 ?r110
          case h110 => simp only [aT, aS, aZ]; rfl
          refine ⟨_, by simp [Act.put]; rfl, by kernel_rfl, by kernel_rfl, by kernel_rfl, fun _ _ _ h => h, (.inl ⟨rfl, fun W _ => by kernel_rfl⟩), ⟨⟨HD2.out.1.blk, HD2.out.2.1.blk, HD2.out.2.2.1.blk⟩, HD2.out.2.2.2.1.rd⟩, ?_⟩
          refine takeH (o := ?o111) 20 (.bool true) ?h111 ?r111
          case h111 => simp only [aT, aS, aZ]; rfl
          refine ⟨_, by simp [Act.put]; rfl, by kernel_rfl, by kernel_rfl, by kernel_rfl, fun _ _ _ h => h, (.inl ⟨rfl, fun W _ => by go_simp⟩), ⟨⟨HD2.out.1.blk, HD2.out.2.1.blk, HD2.out.2.2.1.blk⟩, HD2.out.2.2.2.1.rd⟩, ?_⟩
          refine takeH (o := ?o112) 21 (.bool true) ?h112 ?r112
          case h112 => simp only [aT, aS, aZ]; rfl
          refine ⟨_, by simp [Act.put]; rfl, by kernel_rfl, by kernel_rfl, by kernel_rfl, fun _ _ _ h => h, (.inl ⟨rfl, fun W _ => by kernel_rfl⟩), ⟨⟨HD2.out.1.blk, HD2.out.2.1.blk, HD2.out.2.2.1.blk⟩, HD2.out.2.2.2.1.rd⟩, ?_⟩
          refine takeH (o := ?o113) 22 (undef) ?h113 ?r113
          case h113 => simp only [aT, aS, aZ]; rfl
          refine ⟨_, by simp [Act.put]; rfl, by kernel_rfl, by kernel_rfl, by kernel_rfl, fun _ _ _ h => h, (.inr ⟨rfl, rfl⟩), ⟨⟨HD2.out.1.blk, HD2.out.2.1.blk, HD2.out.2.2.1.blk⟩, HD2.out.2.2.2.1.rd⟩, ?_⟩
          refine takeH (o := ?o114) 23 (undef) ?h114 ?r114
          case h114 => simp only [aT, aS, aZ]; rfl
          refine ⟨_, by simp [Act.put]; rfl, by kernel_rfl, by kernel_rfl, by kernel_rfl, fun _ _ _ h => h, (.inr ⟨rfl, rfl⟩), ⟨⟨HD2.out.1.blk, HD2.out.2.1.blk, HD2.out.2.2.1.blk⟩, HD2.out.2.2.2.1.rd⟩, ?_⟩
          refine takeH (o := ?o115) 24 (undef) ?h115 ?r115
          case h115 => simp only [aT, aS, aZ]; rfl
          refine ⟨_, by simp [Act.put]; rfl, by kernel_rfl, by kernel_rfl, by kernel_rfl, fun _ _ _ h => h, (.inr ⟨rfl, rfl⟩), ⟨⟨HD2.out.1.blk, HD2.out.2.1.blk, HD2.out.2.2.1.blk⟩, HD2.out.2.2.2.1.rd⟩, ?_⟩
          refine takeH (o := ?o116) 25 (undef) ?h116 ?r116
          case h116 => simp only [aT, aS, aZ]; rfl
          refine ⟨_, by simp [Act.put]; rfl, by kernel_rfl, by kernel_rfl, by kernel_rfl, fun _ _ _ h => h, (.inr ⟨rfl, rfl⟩), ⟨⟨HD2.out.1.blk, HD2.out.2.1.blk, HD2.out.2.2.1.blk⟩, HD2.out.2.2.2.1.rd⟩, ?_⟩
          refine takeH (o := ?o117) 26 (undef) ?h117 ?r117
          case h117 => simp only [aT, aS, aZ]; rfl
          refine ⟨_, by simp [Act.put]; rfl, by kernel_rfl, by kernel_rfl, by kernel_rfl, fun _ _ _ h => h, (.inr ⟨rfl, rfl⟩), ⟨⟨HD2.out.1.blk, HD2.out.2.1.blk, HD2.out.2.2.1.blk⟩, HD2.out.2.2.2.1.rd⟩, ?_⟩
          refine takeH (o := ?o118) 27 (undef) ?h118 ?r118
          case h118 => simp only [aT, aS, aZ]; rfl
          refine ⟨_, by simp [Act.put]; rfl, by kernel_rfl, by kernel_rfl, by kernel_rfl, fun _ _ _ h => h, (.inr ⟨rfl, rfl⟩), ⟨⟨HD2.out.1.blk, HD2.out.2.1.blk, HD2.out.2.2.1.blk⟩, HD2.out.2.2.2.1.rd⟩, ?_⟩
          refine takeH (o := ?o119) 28 (.bool true) ?h119 ?r119
          case h119 => simp only [aT, aS, aZ]; rfl
          refine ⟨_, by simp [Act.put]; rfl, by kernel_rfl, by kernel_rfl, by kernel_rfl, fun _ _ _ h => h, (.inl ⟨rfl, fun W _ => by kernel_rfl⟩), ⟨⟨HD2.out.1.blk, HD2.out.2.1.blk, HD2.out.2.2.1.blk⟩, HD2.out.2.2.2.1.rd⟩, ?_⟩
          refine takeH (o := ?o120) 29 (.bool true) ?h120 ?r120
          case h120 => simp only [aT, aS, aZ]; rfl
          refine ⟨_, by simp [Act.put]; rfl, by kernel_rfl, by kernel_rfl, by kernel_rfl, fun _ _ _ h => h, (.inl ⟨rfl, fun W _ => by kernel_rfl⟩), ⟨⟨HD2.out.1.blk, HD2.out.2.1.blk, HD2.out.2.2.1.blk⟩, HD2.out.2.2.2.1.rd⟩, ?_⟩
          refine takeH (o := ?o121) 30 (.bool true) ?h121 ?r121
          case h121 => simp only [aT, aS, aZ]; rfl
          refine ⟨_, by simp [Act.put]; rfl, by kernel_rfl, by kernel_rfl, by kernel_rfl, fun _ _ _ h => h, (.inl ⟨rfl, fun W _ => by kernel_rfl⟩), ⟨⟨HD2.out.1.blk, HD2.out.2.1.blk, HD2.out.2.2.1.blk⟩, HD2.out.2.2.2.1.rd⟩, ?_⟩
          refine wpAnyH_done (by kernel_rfl) ?_ _
          go_wp2
          go_ret
          exact ⟨rfl, HD2.out.2.2.2.2⟩
        · refine wp_region_held (S := fun W => (Blk W L12 c13 28 ∧ Blk W L13 c16 28 ∧ Blk W L16 c19 28) ∧ RdB W pq n18 us) (by kernel_rfl) ?_
          change wpAnyH _ _ _ _ _ _ _ _ (World.drew _)
          rw [← hY]
          clear hY
          refine takeH (o := ?o122) 0 (.bool true) ?h122 ?r122
          case h122 => simp only [aT, aZ]; rfl
          refine ⟨_, by simp [Act.put]; rfl, by kernel_rfl, by kernel_rfl, by kernel_rfl, fun _ _ _ h => h, (.inl ⟨rfl, fun W _ => by kernel_rfl⟩), ⟨⟨HD.out.1.blk, HD.out.2.1.blk, HD.out.2.2.1.blk⟩, HD.out.2.2.2.1.rd⟩, ?_⟩
          refine takeH (o := ?o123) 1 (.agg c13) ?h123 ?r123
          case h123 => simp only [aT, aS, aZ]; rfl
          refine ⟨_, by simp [Act.put]; rfl, by kernel_rfl, by kernel_rfl, by kernel_rfl, fun _ _ _ h => h, (yields_whole 28 L12 c13 28 _ rfl rfl rfl Tryz.underlying28 rfl HVS.out.1 (fun W hW => hW.1.1)), ⟨⟨HD.out.1.blk, HD.out.2.1.blk, HD.out.2.2.1.blk⟩, HD.out.2.2.2.1.rd⟩, ?_⟩
          refine onlyH (o := ?o124) 2 (by kernel_rfl) ?h124 ?r124
          case h124 => simp only [aT, aS, aZ]; rfl
          intro K hK
          refine op_call1 17 _ _ Tryz.f17 (fun v w' => v = .bool true ∧ Below Y.heap.size Y w') rfl rfl Tryz.func17 (by kernel_rfl) (by kernel_rfl) ((okSpec_any (.agg c13) s F13 Y HD.out.1.rd HD.out.1.wide).mono (by rintro e w' ⟨rfl, h1⟩; exact ⟨_, rfl, by rw [← HT.out.1], h1⟩)) ?_
          rintro v Y1 ⟨rfl, hb1⟩
          have HD1 : Hid (VarS7 L12 c13 s F13 Y1 ∧ VarS7 L13 c16 t F16 Y1 ∧ VarS7 L16 c19 u F19 Y1 ∧ VarBy pq n18 cq us Y1 ∧ Below w.heap.size w Y1) := ⟨HD.out.1.below hb1, HD.out.2.1.below hb1, HD.out.2.2.1.below hb1, HD.out.2.2.2.1.below hb1, Below.next HD.out.2.2.2.2 hb1⟩
          clear hb1 HD
          refine ⟨_, by simp [Act.put]; rfl, hK _ _ ⟨⟨⟨HD1.out.1.blk, HD1.out.2.1.blk, HD1.out.2.2.1.blk⟩, HD1.out.2.2.2.1.rd⟩, ?_⟩⟩
          clear hK
          refine takeH (o := ?o125) 3 (.bool true) ?h125 ?r125
          case h125 => simp only [aT, aS, aZ]; rfl
          refine ⟨_, by simp [Act.put]; rfl, by kernel_rfl, by kernel_rfl, by kernel_rfl, fun _ _ _ h => h, (.inl ⟨rfl, fun W _ => by go_simp⟩), ⟨⟨HD1.out.1.blk, HD1.out.2.1.blk, HD1.out.2.2.1.blk⟩, HD1.out.2.2.2.1.rd⟩, ?_⟩
          refine takeH (o := ?o126) 4 (.bool true) ?h126 ?r126
          case h126 => simp only [aT, aS, aZ]; rfl
          refine ⟨_, by simp [Act.put]; rfl, by kernel_rfl, by kernel_rfl, by kernel_rfl, fun _ _ _ h => h, (.inl ⟨rfl, fun W _ => by kernel_rfl⟩), ⟨⟨HD1.out.1.blk, HD1.out.2.1.blk, HD1.out.2.2.1.blk⟩, HD1.out.2.2.2.1.rd⟩, ?_⟩
          refine takeH (o := ?o127) 5 (.bool true) ?h127 ?r127
          case h127 => simp only [aT, aS, aZ]; rfl
          refine ⟨_, by simp [Act.put]; rfl, by kernel_rfl, by kernel_rfl, by kernel_rfl, fun _ _ _ h => h, (.inl ⟨rfl, fun W _ => by kernel_rfl⟩), ⟨⟨HD1.out.1.blk, HD1.out.2.1.blk, HD1.out.2.2.1.blk⟩, HD1.out.2.2.2.1.rd⟩, ?_⟩
          refine takeH (o := ?o128) 6 (.bool false) ?h128 ?r128
          case h128 => simp only [aT, aS, aZ]; rfl
          refine ⟨_, by simp [Act.put]; rfl, by kernel_rfl, by kernel_rfl, by kernel_rfl, fun _ _ _ h => h, (.inl ⟨rfl, fun W _ => by go_simp⟩), ⟨⟨HD1.out.1.blk, HD1.out.2.1.blk, HD1.out.2.2.1.blk⟩, HD1.out.2.2.2.1.rd⟩, ?_⟩
          refine takeH (o := ?o129) 7 (.bool false) ?h129 ?r129
          case h129 => simp only [aT, aS, aZ]; rfl
          refine ⟨_, by simp [Act.put]; rfl, by kernel_rfl, by kernel_rfl, by kernel_rfl, fun _ _ _ h => h, (.inl ⟨rfl, fun W _ => by kernel_rfl⟩), ⟨⟨HD1.out.1.blk, HD1.out.2.1.blk, HD1.out.2.2.1.blk⟩, HD1.out.2.2.2.1.rd⟩, ?_⟩
          refine takeH (o := ?o130) 8 (.agg c13) ?h130 ?r130
          case h130 => simp only [aT, aS, aZ]; rfl
          refine ⟨_, by simp [Act.put]; rfl, by kernel_rfl, by kernel_rfl, by kernel_rfl, fun _ _ _ h => h, (yields_whole 28 L12 c13 28 _ rfl rfl rfl Tryz.underlying28 rfl HVS.out.1 (fun W hW => hW.1.1)), ⟨⟨HD1.out.1.blk, HD1.out.2.1.blk, HD1.out.2.2.1.blk⟩, HD1.out.2.2.2.1.rd⟩, ?_⟩
          refine takeH (o := ?o131) 9 (.agg c16) ?h131 ?r131
          case h131 => simp only [aT, aS, aZ]; rfl
          refine ⟨_, by simp [Act.put]; rfl, by kernel_rfl, by kernel_rfl, by kernel_rfl, fun _ _ _ h => h, (yields_whole 28 L13 c16 28 _ rfl rfl rfl Tryz.underlying28 rfl HVS.out.2.1 (fun W hW => hW.1.2.1)), ⟨⟨HD1.out.1.blk, HD1.out.2.1.blk, HD1.out.2.2.1.blk⟩, HD1.out.2.2.2.1.rd⟩, ?_⟩
          refine onlyH (o := ?o132) 10 (by kernel_rfl) ?h132 ?r132
          case h132 => simp only [aT, aS, aZ]; rfl
          intro K hK
          refine op_call2v 18 _ _ _ Tryz.f18 (fun v w' => v = .bool true ∧ Below Y1.heap.size Y1 w') rfl rfl Tryz.func18 (by kernel_rfl) (by kernel_rfl) ((sameSpec_any (.agg c13) (.agg c16) s t F13 F16 Y1 HD1.out.1.rd HD1.out.2.1.rd HD1.out.1.wide HD1.out.2.1.wide).mono (by rintro e w' ⟨rfl, h1⟩; exact ⟨_, rfl, by rw [dec_true (HT.out.2 HT.out.1.symm).symm], h1⟩)) ?_
          rintro v Y2 ⟨rfl, hb2⟩
          have HD2 : Hid (VarS7 L12 c13 s F13 Y2 ∧ VarS7 L13 c16 t F16 Y2 ∧ VarS7 L16 c19 u F19 Y2 ∧ VarBy pq n18 cq us Y2 ∧ Below w.heap.size w Y2) := ⟨HD1.out.1.below hb2, HD1.out.2.1.below hb2, HD1.out.2.2.1.below hb2, HD1.out.2.2.2.1.below hb2, Below.next HD1.out.2.2.2.2 hb2⟩
          clear hb2 HD1
          refine ⟨_, by simp [Act.put]; rfl, hK _ _ ⟨⟨⟨HD2.out.1.blk, HD2.out.2.1.blk, HD2.out.2.2.1.blk⟩, HD2.out.2.2.2.1.rd⟩, ?_⟩⟩
          clear hK
          refine takeH (o := ?o133) 11 (.bool true) ?h133 ?r133
          case h133 => simp only [aT, aS, aZ]; rfl
          refine ⟨_, by simp [Act.put]; rfl, by kernel_rfl, by kernel_rfl, by kernel_rfl, fun _ _ _ h => h, (.inl ⟨rfl, fun W _ => by kernel_rfl⟩), ⟨⟨HD2.out.1.blk, HD2.out.2.1.blk, HD2.out.2.2.1.blk⟩, HD2.out.2.2.2.1.rd⟩, ?_⟩
          refine takeH (o := ?o134) 12 (.bool true) ?h134 ?r134
          case h134 => simp only [aT, aS, aZ]; rfl
          refine ⟨_, by simp [Act.put]; rfl, by kernel_rfl, by kernel_rfl, by kernel_rfl, fun _ _ _ h => h, (.inl ⟨rfl, fun W _ => by kernel_rfl⟩), ⟨⟨HD2.out.1.blk, HD2.out.2.1.blk, HD2.out.2.2.1.blk⟩, HD2.out.2.2.2.1.rd⟩, ?_⟩
          refine takeH (o := ?o135) 13 (.bool true) ?h135 ?r135
          case h135 => simp only [aT, aS, aZ]; rfl
          refine ⟨_, by simp [Act.put]; rfl, by kernel_rfl, by kernel_rfl, by kernel_rfl, fun _ _ _ h => h, (.inl ⟨rfl, fun W _ => by kernel_rfl⟩), ⟨⟨HD2.out.1.blk, HD2.out.2.1.blk, HD2.out.2.2.1.blk⟩, HD2.out.2.2.2.1.rd⟩, ?_⟩
          refine takeH (o := ?o136) 14 (.bool true) ?h136 ?r136
          case h136 => simp only [aT, aS, aZ]; rfl
          refine ⟨_, by simp [Act.put]; rfl, by kernel_rfl, by kernel_rfl, by kernel_rfl, fun _ _ _ h => h, (.inl ⟨rfl, fun W _ => by kernel_rfl⟩), ⟨⟨HD2.out.1.blk, HD2.out.2.1.blk, HD2.out.2.2.1.blk⟩, HD2.out.2.2.2.1.rd⟩, ?_⟩
          refine takeH (o := ?o137) 15 (.bool true) ?h137 ?r137
          case h137 => simp only [aT, aS, aZ]; rfl
          refine ⟨_, by simp [Act.put]; rfl, by kernel_rfl, by kernel_rfl, by kernel_rfl, fun _ _ _ h => h, (.inl ⟨rfl, fun W _ => by kernel_rfl⟩), ⟨⟨HD2.out.1.blk, HD2.out.2.1.blk, HD2.out.2.2.1.blk⟩, HD2.out.2.2.2.1.rd⟩, ?_⟩
          refine takeH (o := ?o138) 16 (.bool true) ?h138 ?r138
          case h138 => simp only [aT, aS, aZ]; rfl
          refine ⟨_, by simp [Act.put]; rfl, by kernel_rfl, by kernel_rfl, by kernel_rfl, fun _ _ _ h => h, (.inl ⟨rfl, fun W _ => by go_simp⟩), ⟨⟨HD2.out.1.blk, HD2.out.2.1.blk, HD2.out.2.2.1.blk⟩, HD2.out.2.2.2.1.rd⟩, ?_⟩
          refine takeH (o := ?o139) 17 (.bool true) ?h139 ?r139
          case h139 => simp only [aT, aS, aZ]; rfl
          refine ⟨_, by simp [Act.put]; rfl, by kernel_rfl, by kernel_rfl, by kernel_rfl, fun _ _ _ h => h, (.inl ⟨rfl, fun W _ => by kernel_rfl⟩), ⟨⟨HD2.out.1.blk, HD2.out.2.1.blk, HD2.out.2.2.1.blk⟩, HD2.out.2.2.2.1.rd⟩, ?_⟩
          refine takeH (o := ?o140) 18 (.bool true) ?h140 ?r140
          case h140 => simp only [aT, aS, aZ]; rfl
          refine ⟨_, by simp [Act.put]; rfl, by kernel_rfl, by kernel_rfl, by kernel_rfl, fun _ _ _ h => h, (.inl ⟨rfl, fun W _ => by kernel_rfl⟩), ⟨⟨HD2.out.1.blk, HD2.out.2.1.blk, HD2.out.2.2.1.blk⟩, HD2.out.2.2.2.1.rd⟩, ?_⟩
          refine takeH (o := ?o141) 19 (.bool true) ?h141 ?r141
          case h141 => simp only [aT, aS, aZ]; rfl
          refine ⟨_, by simp [Act.put]; rfl, by kernel_rfl, by kernel_rfl, by kernel_rfl, fun _ _ _ h => h, (.inl ⟨rfl, fun W _ => by kernel_rfl⟩), ⟨⟨HD2.out.1.blk, HD2.out.2.1.blk, HD2.out.2.2.1.blk⟩, HD2.out.2.2.2.1.rd⟩, ?_⟩
          refine takeH (o := ?o142) 20 (.bool false) ?h142 ?r142
          case h142 => simp only [aT, aS, aZ]; rfl
          refine ⟨_, by simp [Act.put]; rfl, by kernel_rfl, by kernel_rfl, by kernel_rfl, fun _ _ _ h => h, (.inl ⟨rfl, fun W _ => by go_simp⟩), ⟨⟨HD2.out.1.blk, HD2.out.2.1.blk, HD2.out.2.2.1.blk⟩, HD2.out.2.2.2.1.rd⟩, ?_⟩
          refine takeH (o := ?o143) 21 (.bool false) ?h143 ?r143
          case h143 => simp only [aT, aS, aZ]; rfl
          refine ⟨_, by simp [Act.put]; rfl, by kernel_rfl, by kernel_rfl, by kernel_rfl, fun _ _ _ h => h, (.inl ⟨rfl, fun W _ => by kernel_rfl⟩), ⟨⟨HD2.out.1.blk, HD2.out.2.1.blk, HD2.out.2.2.1.blk⟩, HD2.out.2.2.2.1.rd⟩, ?_⟩
          refine takeH (o := ?o144) 22 (.agg c19) ?h144 ?r144
          case h144 => simp only [aT, aS, aZ]; rfl
          refine ⟨_, by simp [Act.put]; rfl, by kernel_rfl, by kernel_rfl, by kernel_rfl, fun _ _ _ h => h, (yields_whole 28 L16 c19 28 _ rfl rfl rfl Tryz.underlying28 rfl HVS.out.2.2 (fun W hW => hW.1.2.2)), ⟨⟨HD2.out.1.blk, HD2.out.2.1.blk, HD2.out.2.2.1.blk⟩, HD2.out.2.2.2.1.rd⟩, ?_⟩
          refine takeH (o := ?o145) 25 (.slice pq n18 cq) ?h145 ?r145
          case h145 => simp only [aT, aS, aZ]; rfl
          refine ⟨_, by simp [Act.put]; rfl, by kernel_rfl, by kernel_rfl, by kernel_rfl, fun _ _ _ h => h, (.inl ⟨rfl, fun W _ => by kernel_rfl⟩), ⟨⟨HD2.out.1.blk, HD2.out.2.1.blk, HD2.out.2.2.1.blk⟩, HD2.out.2.2.2.1.rd⟩, ?_⟩
          refine takeH (o := ?o146) 26 (.string (strOfNums us)) ?h146 ?r146
          case h146 => simp only [aT, aS, aZ]; rfl
          refine ⟨_, by simp [Act.put]; rfl, by kernel_rfl, by kernel_rfl, by kernel_rfl, fun _ _ _ h => h, (.inl ⟨rfl, fun W hW => exec_conv rfl rfl (conv_any hW.2)⟩), ⟨⟨HD2.out.1.blk, HD2.out.2.1.blk, HD2.out.2.2.1.blk⟩, HD2.out.2.2.2.1.rd⟩, ?_⟩
          refine onlyH (o := ?o147) 23 (by kernel_rfl) ?h147 ?r147
          case h147 => simp only [aT, aS, aZ]; rfl
          intro K hK
          refine op_call1 14 _ _ Tryz.f14 (fun v w' => w'.ownsRow Y2.heap.size 5 1 v u.bytes.length (u.bytes.map (Value.int .u8)) ∧ Below Y2.heap.size Y2 w') rfl rfl Tryz.func14 (by kernel_rfl) (by kernel_rfl) ((sketchBytesImpl_any (.agg c19) u F19 Y2 HD2.out.2.2.1.rd HD2.out.2.2.1.wide).mono (by rintro e w' ⟨v, rfl, h1, h2⟩; exact ⟨_, rfl, h1, h2⟩)) ?_
          rintro v Y3 ⟨hown, hb3⟩
          obtain ⟨pu, cu, rfl, hvu⟩ := varBy_own hown (Sk.bytes_range u) (by have := skBytes_len u; omega)
          have k1 := conv_any hvu.rd (cap := cu)
          have HD3 : Hid (VarS7 L12 c13 s F13 Y3 ∧ VarS7 L13 c16 t F16 Y3 ∧ VarS7 L16 c19 u F19 Y3 ∧ VarBy pq n18 cq us Y3 ∧ Below w.heap.size w Y3) := ⟨HD2.out.1.below hb3, HD2.out.2.1.below hb3, HD2.out.2.2.1.below hb3, HD2.out.2.2.2.1.below hb3, Below.next HD2.out.2.2.2.2 hb3⟩
          clear hb3 hown hvu HD2
          refine ⟨_, by simp [Act.put]; rfl, hK _ _ ⟨⟨⟨HD3.out.1.blk, HD3.out.2.1.blk, HD3.out.2.2.1.blk⟩, HD3.out.2.2.2.1.rd⟩, ?_⟩⟩
          clear hK
          refine onlyH (o := ?o148) 24 (by kernel_rfl) ?h148 ?r148
          case h148 => simp only [aT, aS, aZ]; rfl
          intro K hK
          refine op_value (.string (strOfNums u.bytes)) rfl (exec_conv rfl rfl k1) ⟨_, by simp [Act.put]; rfl, hK _ _ ⟨⟨⟨HD3.out.1.blk, HD3.out.2.1.blk, HD3.out.2.2.1.blk⟩, HD3.out.2.2.2.1.rd⟩, ?_⟩⟩
          clear hK
          clear k1
          refine onlyH (o := ?o149) 27 (by kernel_rfl) ?h149 ?r149
          case h149 => simp only [aT, aS, aZ]; rfl
          intro K hK
          refine op_value (.bool true) rfl ((exec_eqStr rfl rfl rfl).trans (by rw [(sk_fits HIU.out).2 rfl]; simp)) ⟨_, by simp [Act.put]; rfl, hK _ _ ⟨⟨⟨HD3.out.1.blk, HD3.out.2.1.blk, HD3.out.2.2.1.blk⟩, HD3.out.2.2.2.1.rd⟩, ?_⟩⟩
          clear hK
          refine onlyH (o := ?o150) 28 (by kernel_rfl) ?h150 ?r150
          case h150 => simp only [aT, aS, aZ]; rfl
          intro K hK
          refine op_value (.bool true) rfl (by kernel_rfl) ⟨_, by simp [Act.put]; rfl, hK _ _ ⟨⟨⟨HD3.out.1.blk, HD3.out.2.1.blk, HD3.out.2.2.1.blk⟩, HD3.out.2.2.2.1.rd⟩, ?_⟩⟩
          clear hK
          refine onlyH (o := ?o151) 29 (by kernel_rfl) ?h151 ?r151
          case h151 => simp only [aT, aS, aZ]; rfl
          intro K hK
          refine op_value (.bool true) rfl (by kernel_rfl) ⟨_, by simp [Act.put]; rfl, hK _ _ ⟨⟨⟨HD3.out.1.blk, HD3.out.2.1.blk, HD3.out.2.2.1.blk⟩, HD3.out.2.2.2.1.rd⟩, ?_⟩⟩
          clear hK
          refine onlyH (o := ?o152) 30 (by kernel_rfl) ?h152 ?r152
          case h152 => simp only [aT, aS, aZ]; rfl
          intro K hK
          refine op_value (.bool true) rfl (by kernel_rfl) ⟨_, by simp [Act.put]; rfl, hK _ _ ⟨⟨⟨HD3.out.1.blk, HD3.out.2.1.blk, HD3.out.2.2.1.blk⟩, HD3.out.2.2.2.1.rd⟩, ?_⟩⟩
          clear hK
          refine wpAnyH_done (by kernel_rfl) ?_ _
          go_wp2
          go_ret
          exact ⟨rfl, HD3.out.2.2.2.2⟩

set_option maxRecDepth 100000 in
theorem lifted (os : Os) (started : os.Started) (H : Type) (enc : TypeId × Value → H) :
    ReturnsInHanded {} Tryz.checked os 3 .any (Rows.fnFramesSpec.pre6 enc Tryz.prog Tryz.f3 Rows.fnFramesRow.domain false) (Rows.fnFramesSpec.post enc Tryz.prog Tryz.f3 false true false false) := by
  refine returnsInHanded_of_change (C := Tryz.checked) own started (by kernel_rfl) Tryz.func3
    (ChangeSpec.witness6 (enc := enc) (C := Tryz.checked) false ⟨#[], #[.slice none 0 0], []⟩ 8 (by kernel_rfl) (by kernel_rfl) (by kernel_rfl) (by kernel_rfl)) ?_
  intro W base args ds gs before hval0 hW hcnd _
  have hval : ∀ (j : Nat) t v, Tryz.f3.params[j]? = some t → args[j]? = some v → Value.okWide Tryz.prog W .any base t v := hval0
  have hW' := hW
  obtain ⟨p, q, hA0, hV, rfl, hfz, hnd⟩ := hW
  have hA : DataW.TrodAll enc Tryz.prog W 0 (fun _ => true) true Tryz.f3.params.toList args.toList ds p := hA0
  rw [Tryz.params3] at hA hval
  obtain ⟨v0, vs0, d0, ds0, p0, q0, hargs, rfl, rfl, h0, r0⟩ := trodAll_cons hA
  obtain ⟨rfl, rfl, rfl⟩ := trodAll_nil r0
  obtain rfl : args = #[v0] := by cases args; simp_all
  obtain ⟨rfl, rfl⟩ := trodVars_none hV
  obtain ⟨a0, len0, cap0, rfl⟩ := okWide_slice Tryz.underlying22 (hval 0 22 v0 rfl rfl)
  have k0 := h0
  have lt0 : ∀ x ∈ p0, x.block < W.heap.size := by obtain ⟨m, hm⟩ := k0; exact DataW.trod_lt m _ _ _ hm
  obtain ⟨z0, w0⟩ : ∃ zs, IsRow .u8 W a0 len0 cap0 zs := by
    obtain ⟨fuel, hf⟩ := h0
    rcases open_ints Tryz.underlying22 Tryz.underlying5 (by kernel_rfl) hf with ⟨hcs, _⟩ | ⟨x, l, c, zs, hcs, _, hl, hm, hz, _, hcell, hwz⟩
    · simp [Value.cells] at hcs
      obtain ⟨rfl, rfl, rfl⟩ := hcs
      exact ⟨[], .inl ⟨rfl, rfl, rfl, rfl⟩⟩
    · simp [Value.cells] at hcs
      obtain ⟨rfl, rfl, rfl⟩ := hcs
      exact ⟨zs, .inr ⟨_, rfl, hl, hm, by simpa using hz, hcell, hwz⟩⟩
  clear hA0 hval0
  refine (walk a0 len0 cap0 z0 W w0).mono fun e W' ⟨he, bel⟩ => ?_
  subst he
  exact ⟨_, rfl, _, _, _, [], _, [], hW', trodAll_mk1 (shut_bool Tryz.underlying4 _), (trodAll_cons_mk (Below.trod laidOut (by kernel_rfl) (of_decide_eq_true (by kernel_rfl)) k0 bel lt0) trodAll_mk0), rfl, bel.frame _, fun h => by cases h⟩

theorem over : Rows.fnFramesRow.holds Tryz.pinned (OpenSpec.ofChange Rows.fnFramesSpec) :=
  OpenClaim.holds_of_wide 3 Tryz.f3 rfl rfl rfl rfl rfl rfl rfl ⟨rfl, rfl, rfl, rfl, rfl⟩ rfl rfl rfl rfl rfl (by kernel_rfl) Tryz.func3 (by kernel_rfl)
    (of_decide_eq_true (by kernel_rfl)) (by unfold Func.isWrapper; first | (rw [if_pos (by decide +kernel)]; kernel_rfl) | (rw [if_neg (by decide +kernel)]; exact ⟨rfl, rfl⟩))
    (fun os started H enc _ => lifted os started H enc)

theorem proved : Rows.FnFramesSaid := over
#print axioms proved
end Go.Proofs.YtjndcfamfminkabGreat.fnFrames
