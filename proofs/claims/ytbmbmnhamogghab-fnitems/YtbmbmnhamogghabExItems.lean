/- For every byte slice (no condition): laws.FnItems returns true, and its argument reads afterwards as it did: an item is an entry of its own number alone, and the numbers of two agents are unlike. -/
import Derived.Test.YtbmbmnhamogghabLawBase
import Derived.Test.YtbmbmnhamogghabItDraw
import Derived.Test.YtbmbmnhamogghabB1
import Derived.Test.YtbmbmnhamogghabSkSameI
import Derived.Test.YtbmbmnhamogghabRows
import Derived.WalkKit
import Derived.ProofKit
import Derived.OpenShut
import Derived.ShutString
import Derived.ChangeOld
import Derived.Below
namespace Go.Proofs.Ytbmbmnhamogghab.fnItems
open Go.ChangeShapes Go.WideShapes Go.ChangeAt Go.RowKit
open Go.ChangeMaps (open_string shut_string)
set_option linter.unusedVariables false

theorem own : ownKnob Try.prog.godebug = none := by kernel_rfl
theorem laidOut : laidOutB Try.prog = true := by kernel_rfl

/-- WHAT THE WALK IS TOLD OF A SLICE OF INTEGERS THAT CAME IN: it is nil; or it leads to a row of 'cap' cells, the numbers 'zs' (the first 'len' are its elements, the rest its spare room), each fitting its kind. -/
def IsRow (k : IntKind) (w : World) (a : Option Addr) (len cap : Nat) (zs : List Int) : Prop :=
  (a = none ∧ len = 0 ∧ cap = 0 ∧ zs = []) ∨
  ∃ x, a = some x ∧ len ≤ cap ∧ cap ≤ maxLen ∧ zs.length = cap ∧ (∀ i, i < zs.length → w.cell? (x.add i) = some (.int k (zs.getD i 0))) ∧ ∀ n ∈ zs, (Lit.int k n).wf = true

theorem full_wideI {s : Sk} (h : s.full) : s.wide := ⟨by have := h.hist; omega, by have := h.regs; omega, by have := h.rows; omega, fun z hz => by have := h.row z hz; omega⟩
theorem itSizeI {cs : Array Value} (h : cs.size = 11) : (Try.prog.info? 40).map (·.size) = some cs.size := by rw [h]; kernel_rfl
theorem enSizeI {cs : Array Value} (h : cs.size = 10) : (Try.prog.info? 30).map (·.size) = some cs.size := by rw [h]; kernel_rfl
/-- The item and the entry lie there. -/
structure ItemS (w : World) (gi : Nat) (ci : Array Value) (x : It) (F : List Nat) (ge : Nat) (ce : Array Value) (y : En) (G H : List Nat) (W : World) : Prop where
  it : Blk W gi ci 40
  en : Blk W ge ce 30
  ri : RdIt W (.agg ci) x F
  re : RdEn W (.agg ce) y G H
  bel : Below w.heap.size w W
theorem ItemS.below {w : World} {gi : Nat} {ci : Array Value} {x : It} {F : List Nat} {ge : Nat} {ce : Array Value} {y : En} {G H : List Nat} {W W' : World} (h : ItemS w gi ci x F ge ce y G H W) (b : Below W.heap.size W W') : ItemS w gi ci x F ge ce y G H W' :=
  ⟨h.it.below b, h.en.below b, h.ri.below b, h.re.below b, Below.next h.bel b⟩
theorem entry_okI {x : It} {ag : Int} (h : x.entryOk ag = true) : (x.entry ag).ok = true ∧ x.ok = true ∧ (x.entry ag).ids = [(idOf ag x.seq, idOf ag x.seq)] ∧ (x.entry ag).ids.size = 1 ∧ (x.entry ag).ids.has (idOf ag x.seq) = true ∧ (x.entry ag).sk = x.sk ∧ (x.entry ag).key = x.key ∧ (x.entry ag).window = x.window := by
  have h1 : x.ok = true ∧ 0 ≤ idOf ag x.seq := by
    unfold It.entryOk at h
    simp only [Bool.and_eq_true, decide_eq_true_eq] at h
    exact h
  have hid : idOf ag x.seq ≤ 9999 := by unfold idOf; split <;> omega
  obtain ⟨n, hn⟩ : ∃ n, n = idOf ag x.seq := ⟨_, rfl⟩
  rw [It.entry_yes h]
  rw [← hn] at hid h1 ⊢
  have hx := h1.1
  unfold It.ok at hx
  simp only [Bool.and_eq_true] at hx
  have hok : Sp.ok [(n, n)] = true := ok_iff.2 (single_ok ⟨h1.2, hid⟩)
  have hsz : Sp.size [(n, n)] = 1 := by unfold Sp.size; rw [if_pos hok]; simp [Sp.sum]
  refine ⟨?_, h1.1, rfl, hsz, by simp [Sp.has], rfl, rfl, rfl⟩
  unfold En.ok
  rw [hx.1.2, hok, hx.2]
  rfl
theorem idOf_parts (a s : Int) : idOf a s = -1 ∨ (0 ≤ idOf a s ∧ idOf a s ≤ 9999 ∧ idOf a s / 100 = a ∧ idOf a s % 100 = s) := by
  unfold idOf
  split
  · right
    rename_i h
    refine ⟨by omega, by omega, by omega, by omega⟩
  · exact .inl rfl

set_option maxHeartbeats 16000000 in
set_option maxRecDepth 200000 in
theorem walk (a0 : Option Addr) (len0 cap0 : Nat) (z0 : List Int) (w : World) (w0 : IsRow .u8 w a0 len0 cap0 z0) :
    Calls Try.prog 4 #[.slice a0 len0 cap0] w fun e w' => e = .returned (.bool true) ∧ Below w.heap.size w w' := by
  obtain ⟨hR, hcap, hmax⟩ := rdOf w0
  generalize z0.take len0 = zs at hR
  clear w0 hcap hmax
  by_cases hbig : (1048576 : Int) < (len0 : Int)
  · have hd : decide ((1048576 : Int) < (len0 : Int)) = true := by simpa using hbig
    clear hR hbig
    go_enter Try.func4, Try.ntmps4
    go_wp2_with fail
    refine (big_any _ _ _ _).mono ?_
    rintro e x1 ⟨rfl, rfl⟩
    rw [hd]
    go_wp2
    go_ret
    exact ⟨rfl, Below.refl _ _⟩
  have hlen : len0 ≤ 1048576 := by omega
  have hd : decide ((1048576 : Int) < (len0 : Int)) = false := by simpa using hbig
  have HR : Hid (RdB w a0 len0 zs) := hR
  clear hR hbig
  go_enter Try.func4, Try.ntmps4
  go_wp2_with fail
  refine (big_any _ _ _ _).mono ?_
  rintro e x1 ⟨rfl, hx1⟩
  have hx1' := hx1.symm
  subst hx1'
  rw [hd]
  clear hd hx1
  go_wp2_with fail
  refine (drawEntryOf_any a0 len0 cap0 zs _ HR.out hlen).mono ?_
  rintro e w1 ⟨ag, v, x, F, rfl, rx, fx, _, b1⟩
  obtain ⟨ci, rfl, zi, oi⟩ := rx.cells
  have HX : Hid (RdIt w1 (.agg ci) x F ∧ x.sk.wide ∧ ci.size = 11 ∧ ci.all (·.oneCell') = true ∧ Below w.heap.size w w1) := ⟨rx, full_wideI fx, zi, oi, b1⟩
  clear rx fx zi oi b1
  go_wp2_with (first | go_skip | (with_reducible refine stopLoad 40 rfl ?_) | (with_reducible refine stopLoad 30 rfl ?_) | (with_reducible refine stopStore 40 rfl ?_) | (with_reducible refine stopStore 30 rfl ?_))
  refine store_fresh 40 w1.heap.size rfl #[.int .i64 0, .int .i64 0, .int .i64 0, .int .i64 0, .int .i64 0, .int .i64 0, .int .i64 0, .int .i64 0, .slice none 0 0, .slice none 0 0, .slice none 0 0] ci 40 rfl rfl rfl rfl (itSizeI HX.out.2.2.1) HX.out.2.2.1.symm HX.out.2.2.2.1 ?_
  intro W2 hg hb
  have HI : Hid (Blk W2 w1.heap.size ci 40 ∧ RdIt W2 (.agg ci) x F ∧ Below w.heap.size w W2) := ⟨hg, HX.out.1.below hb, Below.next HX.out.2.2.2.2 hb⟩
  have HW : Hid (x.sk.wide ∧ ci.size = 11) := ⟨HX.out.2.1, HX.out.2.2.1⟩
  clear hg hb HX
  obtain ⟨gi, hgi⟩ : ∃ g, g = w1.heap.size := ⟨_, rfl⟩
  rw [← hgi] at HI ⊢
  clear hgi
  go_wp2_with (first | go_skip | (with_reducible refine stopLoad 40 rfl ?_) | (with_reducible refine stopLoad 30 rfl ?_) | (with_reducible refine stopStore 40 rfl ?_) | (with_reducible refine stopStore 30 rfl ?_))
  refine load_any 40 gi ci 40 _ HI.out.1 rfl rfl rfl Try.underlying40 rfl (itSizeI HW.out.2) ?_
  go_wp2_with fail
  refine (entryOfImpl_any ag _ x F _ HI.out.2.1 HW.out.1).mono ?_
  rintro e w3 ⟨zv, G, H, rfl, ry, _, _, _, b3⟩
  obtain ⟨ce, rfl, sze, one⟩ := (show RdE w3 zv (x.entry ag) (G ++ H) from ⟨G, H, rfl, ry⟩).cells
  have HI3 : Hid (Blk w3 gi ci 40 ∧ RdIt w3 (.agg ci) x F ∧ Below w.heap.size w w3) := ⟨HI.out.1.below b3, HI.out.2.1.below b3, Below.next HI.out.2.2 b3⟩
  have HY : Hid (RdEn w3 (.agg ce) (x.entry ag) G H ∧ ce.size = 10 ∧ ce.all (·.oneCell') = true) := ⟨ry, sze, one⟩
  clear ry b3 sze one HI
  obtain ⟨d, hd⟩ : ∃ d, d = x.entryOk ag := ⟨_, rfl⟩
  rw [← hd]
  have HD : Hid (d = x.entryOk ag) := hd
  clear hd
  go_wp2_with (first | go_skip | (with_reducible refine stopLoad 40 rfl ?_) | (with_reducible refine stopLoad 30 rfl ?_) | (with_reducible refine stopStore 40 rfl ?_) | (with_reducible refine stopStore 30 rfl ?_))
  refine store_fresh 30 w3.heap.size rfl #[.int .i64 0, .int .i64 0, .slice none 0 0, .int .i64 0, .int .i64 0, .int .i64 0, .int .i64 0, .slice none 0 0, .slice none 0 0, .slice none 0 0] ce 30 rfl rfl rfl rfl (enSizeI HY.out.2.1) HY.out.2.1.symm HY.out.2.2 ?_
  intro W4 hg hb
  have HS4 : Hid (ItemS w gi ci x F w3.heap.size ce (x.entry ag) G H W4) := ⟨HI3.out.1.below hb, hg, HI3.out.2.1.below hb, HY.out.1.below hb, Below.next HI3.out.2.2 hb⟩
  have HZ : Hid (ce.size = 10) := HY.out.2.1
  clear hg hb HI3 HY
  obtain ⟨ge, hge⟩ : ∃ g, g = w3.heap.size := ⟨_, rfl⟩
  rw [← hge] at HS4 ⊢
  clear hge
  go_wp2_with (first | go_skip | (with_reducible refine stopLoad 40 rfl ?_) | (with_reducible refine stopLoad 30 rfl ?_) | (with_reducible refine stopStore 40 rfl ?_) | (with_reducible refine stopStore 30 rfl ?_))
  refine load_any 40 gi ci 40 _ HS4.out.it rfl rfl rfl Try.underlying40 rfl (itSizeI HW.out.2) ?_
  go_wp2_with fail
  refine (entryOfSpec_any ag _ x F _ HS4.out.ri HW.out.1).mono ?_
  rintro e w5 ⟨zv, G', H', rfl, ry, _, _, _, b5⟩
  obtain ⟨cf, rfl, szf, onf⟩ := (show RdE w5 zv (x.entry ag) (G' ++ H') from ⟨G', H', rfl, ry⟩).cells
  have HS5 : Hid (ItemS w gi ci x F ge ce (x.entry ag) G H w5) := HS4.out.below b5
  have HY : Hid (cf.size = 10 ∧ cf.all (·.oneCell') = true) := ⟨szf, onf⟩
  rw [← HD.out]
  clear ry b5 szf onf HS4
  go_wp2_with (first | go_skip | (with_reducible refine stopLoad 40 rfl ?_) | (with_reducible refine stopLoad 30 rfl ?_) | (with_reducible refine stopStore 40 rfl ?_) | (with_reducible refine stopStore 30 rfl ?_))
  refine store_fresh 30 w5.heap.size rfl #[.int .i64 0, .int .i64 0, .slice none 0 0, .int .i64 0, .int .i64 0, .int .i64 0, .int .i64 0, .slice none 0 0, .slice none 0 0, .slice none 0 0] cf 30 rfl rfl rfl rfl (enSizeI HY.out.1) HY.out.1.symm HY.out.2 ?_
  intro W6 hg hb
  have HS6 : Hid (ItemS w gi ci x F ge ce (x.entry ag) G H W6) := HS5.out.below hb
  clear hg hb HS5 HY
  have hdd : (d != d) = false := by simp
  have HR6 : Hid (RdB W6 a0 len0 zs) := HR.out.below HS6.out.bel
  go_wp2_with fail
  refine (drawIdOf_any a0 len0 cap0 zs _ HR6.out hlen).mono ?_
  rintro e w7 ⟨ai, si, rfl, b7⟩
  have HS7 : Hid (ItemS w gi ci x F ge ce (x.entry ag) G H w7) := HS6.out.below b7
  clear b7 HS6 HR6 hdd
  go_wp2_with fail
  refine (idImpl_any _ _ _).mono ?_
  rintro e y1 ⟨rfl, hy1⟩
  have hy1' := hy1.symm
  subst hy1'
  clear hy1
  obtain ⟨ii, hii⟩ : ∃ n, n = idOf ai si := ⟨_, rfl⟩
  have hip := idOf_parts ai si
  rw [← hii] at hip ⊢
  go_wp2_with fail
  refine (idSpec_any _ _ _).mono ?_
  rintro e y2 ⟨rfl, hy2⟩
  have hy2' := hy2.symm
  subst hy2'
  clear hy2
  rw [← hii]
  have hne : (ii != ii) = false := by simp
  clear hii
  obtain ⟨tr, htr⟩ : ∃ b : Bool, b = true := ⟨_, rfl⟩
  rcases hip with hip | ⟨hip0, hip1, hip2, hip3⟩
  · subst hip
    clear htr tr
    cases d
    · have HE : Hid (x.entry ag = En.zero) := It.entry_not HD.out.symm
      obtain ⟨b, l, c, a1, n1, c1, a2, n2, c2, a3, n3, c3, ev, hp, _, _⟩ := HS7.out.re
      have hl : l = 0 := by rw [← hp.length, HE.out]; rfl
      subst hl
      have k2 : w7.cell? ⟨ge, 2, none⟩ = some (.slice b 0 c) := by
        rw [HS7.out.en.cell]
        injection ev with ev
        rw [ev]; rfl
      clear ev hp
      go_wp2
      go_ret
      exact ⟨rfl, HS7.out.bel⟩
    obtain ⟨q1, q2, q3, q4, q5, q6, q7, q8⟩ := entry_okI HD.out.symm
    obtain ⟨b, l, c, a1, n1, c1, a2, n2, c2, a3, n3, c3, ev, hp, hsk, _⟩ := HS7.out.re
    injection ev with ev
    obtain ⟨b1, m1, d1, b2, m2, d2, b3, m3, d3, ew, hsi⟩ := HS7.out.ri
    injection ew with ew
    subst ev ew
    obtain rfl : l = 1 := by rw [← hp.length, q3]; rfl
    have HQ : Hid ((x.entry ag).ok = true ∧ x.ok = true ∧ (x.entry ag).ids.size = 1 ∧ (x.entry ag).ids.has (idOf ag x.seq) = true ∧ (x.entry ag).sk = x.sk) := ⟨q1, q2, q4, q5, q6⟩
    have HQ8 : Hid ((x.entry ag).key = x.key ∧ (x.entry ag).window = x.window) := ⟨q7, q8⟩
    have HPP : Hid (RdP w7 b 1 (x.entry ag).ids G ∧ RdSk w7 (.agg #[.int .i64 (x.entry ag).sk.count, .int .i64 (x.entry ag).sk.sum, .int .i64 (x.entry ag).sk.min, .int .i64 (x.entry ag).sk.max, .slice a1 n1 c1, .slice a2 n2 c2, .slice a3 n3 c3]) (x.entry ag).sk H ∧ RdSk w7 (.agg #[.int .i64 x.sk.count, .int .i64 x.sk.sum, .int .i64 x.sk.min, .int .i64 x.sk.max, .slice b1 m1 d1, .slice b2 m2 d2, .slice b3 m3 d3]) x.sk F) := ⟨hp, hsk, hsi⟩
    have HWE : Hid ((x.entry ag).sk.wide ∧ (x.entry ag).ids.length ≤ 1048576) := ⟨by rw [q6]; exact HW.out.1, by rw [q3]; simp⟩
    clear q1 q2 q3 q4 q5 q6 q7 q8 hp hsk hsi HZ
    have kk : (x.entry ag).key = x.key := HQ8.out.1
    have kw : (x.entry ag).window = x.window := HQ8.out.2
    rw [kk, kw] at HS7
    clear kk kw
    obtain ⟨t, ht⟩ : ∃ t, t = x.entry ag := ⟨_, rfl⟩
    rw [← ht] at HQ HPP HWE HS7 HQ8
    clear ht
    obtain ⟨idn, hidn⟩ : ∃ n, n = idOf ag x.seq := ⟨_, rfl⟩
    have HIDN : Hid (idn = idOf ag x.seq) := hidn
    rw [← hidn] at HQ
    clear hidn
    go_wp2
    have HS : Hid (ItemS w gi #[.int .i64 x.seq, .int .i64 x.cls, .int .i64 x.key, .int .i64 x.window, .int .i64 x.sk.count, .int .i64 x.sk.sum, .int .i64 x.sk.min, .int .i64 x.sk.max, .slice b1 m1 d1, .slice b2 m2 d2, .slice b3 m3 d3] x F ge #[.int .i64 x.key, .int .i64 x.window, .slice b 1 c, .int .i64 t.sk.count, .int .i64 t.sk.sum, .int .i64 t.sk.min, .int .i64 t.sk.max, .slice a1 n1 c1, .slice a2 n2 c2, .slice a3 n3 c3] t G H w7.drew) := HS7.out.below (Below.refl _ _).drew
    have HPP0 : Hid (RdP w7.drew b 1 t.ids G ∧ RdSk w7.drew (.agg #[.int .i64 t.sk.count, .int .i64 t.sk.sum, .int .i64 t.sk.min, .int .i64 t.sk.max, .slice a1 n1 c1, .slice a2 n2 c2, .slice a3 n3 c3]) t.sk H ∧ RdSk w7.drew (.agg #[.int .i64 x.sk.count, .int .i64 x.sk.sum, .int .i64 x.sk.min, .int .i64 x.sk.max, .slice b1 m1 d1, .slice b2 m2 d2, .slice b3 m3 d3]) x.sk F) := ⟨HPP.out.1.below (Below.refl _ _).drew, HPP.out.2.1.below (Below.refl _ _).drew, HPP.out.2.2.below (Below.refl _ _).drew⟩
    obtain ⟨y0, hy0⟩ : ∃ W, W = w7.drew := ⟨_, rfl⟩
    refine wp_region_held (S := ItemS w gi #[.int .i64 x.seq, .int .i64 x.cls, .int .i64 x.key, .int .i64 x.window, .int .i64 x.sk.count, .int .i64 x.sk.sum, .int .i64 x.sk.min, .int .i64 x.sk.max, .slice b1 m1 d1, .slice b2 m2 d2, .slice b3 m3 d3] x F ge #[.int .i64 x.key, .int .i64 x.window, .slice b 1 c, .int .i64 t.sk.count, .int .i64 t.sk.sum, .int .i64 t.sk.min, .int .i64 t.sk.max, .slice a1 n1 c1, .slice a2 n2 c2, .slice a3 n3 c3] t G H) (by kernel_rfl) ?_
    change wpAnyH _ _ _ _ _ _ _ _ (World.drew _)
    rw [← hy0] at HS HPP0 ⊢
    clear hy0 HS7 HPP
    refine takeH (o := ?o1) 0 (.agg #[.int .i64 x.key, .int .i64 x.window, .slice b 1 c, .int .i64 t.sk.count, .int .i64 t.sk.sum, .int .i64 t.sk.min, .int .i64 t.sk.max, .slice a1 n1 c1, .slice a2 n2 c2, .slice a3 n3 c3]) ?h1 ?r1
    case h1 => simp only [List.getElem?_toArray, List.getElem?_cons_zero]; rfl
    refine ⟨_, by simp [Act.put]; rfl, by kernel_rfl, by kernel_rfl, by kernel_rfl, fun _ _ _ h => h, (yields_whole 30 ge #[.int .i64 x.key, .int .i64 x.window, .slice b 1 c, .int .i64 t.sk.count, .int .i64 t.sk.sum, .int .i64 t.sk.min, .int .i64 t.sk.max, .slice a1 n1 c1, .slice a2 n2 c2, .slice a3 n3 c3] 30 _ rfl rfl rfl Try.underlying30 rfl (by kernel_rfl) (fun W hW => hW.en)), HS.out, ?_⟩
    refine onlyH (o := ?o2) 1 (by kernel_rfl) ?h2 ?r2
    case h2 => simp only [List.getElem?_toArray, List.getElem?_cons_succ, List.getElem?_cons_zero]; rfl
    intro K hK
    refine op_call1 10 _ _ Try.f10 (fun v w' => v = .bool true ∧ Below y0.heap.size y0 w') rfl rfl Try.func10 (by kernel_rfl) (by kernel_rfl) ((entryOkImpl_en _ t G H y0 HS.out.re HWE.out.1 (by have := HWE.out.2; omega)).mono (by rintro e w' ⟨rfl, h1⟩; exact ⟨_, rfl, by rw [HQ.out.1], h1⟩)) ?_
    rintro _ y1 ⟨rfl, bz⟩
    refine ⟨_, by simp [Act.put]; rfl, hK _ _ ⟨HS.out.below bz, ?_⟩⟩
    have HS21 : Hid (ItemS w gi #[.int .i64 x.seq, .int .i64 x.cls, .int .i64 x.key, .int .i64 x.window, .int .i64 x.sk.count, .int .i64 x.sk.sum, .int .i64 x.sk.min, .int .i64 x.sk.max, .slice b1 m1 d1, .slice b2 m2 d2, .slice b3 m3 d3] x F ge #[.int .i64 x.key, .int .i64 x.window, .slice b 1 c, .int .i64 t.sk.count, .int .i64 t.sk.sum, .int .i64 t.sk.min, .int .i64 t.sk.max, .slice a1 n1 c1, .slice a2 n2 c2, .slice a3 n3 c3] t G H y1) := HS.out.below bz
    have HPP1 : Hid (RdP y1 b 1 t.ids G ∧ RdSk y1 (.agg #[.int .i64 t.sk.count, .int .i64 t.sk.sum, .int .i64 t.sk.min, .int .i64 t.sk.max, .slice a1 n1 c1, .slice a2 n2 c2, .slice a3 n3 c3]) t.sk H ∧ RdSk y1 (.agg #[.int .i64 x.sk.count, .int .i64 x.sk.sum, .int .i64 x.sk.min, .int .i64 x.sk.max, .slice b1 m1 d1, .slice b2 m2 d2, .slice b3 m3 d3]) x.sk F) := ⟨HPP0.out.1.below bz, HPP0.out.2.1.below bz, HPP0.out.2.2.below bz⟩
    clear hK bz HS HPP0
    refine takeH (o := ?o3) 2 (.bool true) ?h3 ?r3
    case h3 => simp only [List.getElem?_toArray, List.getElem?_cons_succ, List.getElem?_cons_zero]; rfl
    refine ⟨_, by simp [Act.put]; rfl, by kernel_rfl, by kernel_rfl, by kernel_rfl, fun _ _ _ h => h, (.inl ⟨rfl, fun W _ => by go_simp⟩), HS21.out, ?_⟩
    refine takeH (o := ?o4) 3 (.agg #[.int .i64 x.seq, .int .i64 x.cls, .int .i64 x.key, .int .i64 x.window, .int .i64 x.sk.count, .int .i64 x.sk.sum, .int .i64 x.sk.min, .int .i64 x.sk.max, .slice b1 m1 d1, .slice b2 m2 d2, .slice b3 m3 d3]) ?h4 ?r4
    case h4 => simp only [List.getElem?_toArray, List.getElem?_cons_succ, List.getElem?_cons_zero]; rfl
    refine ⟨_, by simp [Act.put]; rfl, by kernel_rfl, by kernel_rfl, by kernel_rfl, fun _ _ _ h => h, (yields_whole 40 gi #[.int .i64 x.seq, .int .i64 x.cls, .int .i64 x.key, .int .i64 x.window, .int .i64 x.sk.count, .int .i64 x.sk.sum, .int .i64 x.sk.min, .int .i64 x.sk.max, .slice b1 m1 d1, .slice b2 m2 d2, .slice b3 m3 d3] 40 _ rfl rfl rfl Try.underlying40 rfl (by kernel_rfl) (fun W hW => hW.it)), HS21.out, ?_⟩
    refine onlyH (o := ?o5) 4 (by kernel_rfl) ?h5 ?r5
    case h5 => simp only [List.getElem?_toArray, List.getElem?_cons_succ, List.getElem?_cons_zero]; rfl
    intro K hK
    refine op_call1 19 _ _ Try.f19 (fun v w' => v = .bool true ∧ Below y1.heap.size y1 w') rfl rfl Try.func19 (by kernel_rfl) (by kernel_rfl) ((itemOkImpl_any _ x F y1 HS21.out.ri HW.out.1).mono (by rintro e w' ⟨rfl, h1⟩; exact ⟨_, rfl, by rw [HQ.out.2.1], h1⟩)) ?_
    rintro _ y2 ⟨rfl, bz⟩
    refine ⟨_, by simp [Act.put]; rfl, hK _ _ ⟨HS21.out.below bz, ?_⟩⟩
    have HS22 : Hid (ItemS w gi #[.int .i64 x.seq, .int .i64 x.cls, .int .i64 x.key, .int .i64 x.window, .int .i64 x.sk.count, .int .i64 x.sk.sum, .int .i64 x.sk.min, .int .i64 x.sk.max, .slice b1 m1 d1, .slice b2 m2 d2, .slice b3 m3 d3] x F ge #[.int .i64 x.key, .int .i64 x.window, .slice b 1 c, .int .i64 t.sk.count, .int .i64 t.sk.sum, .int .i64 t.sk.min, .int .i64 t.sk.max, .slice a1 n1 c1, .slice a2 n2 c2, .slice a3 n3 c3] t G H y2) := HS21.out.below bz
    have HPP2 : Hid (RdP y2 b 1 t.ids G ∧ RdSk y2 (.agg #[.int .i64 t.sk.count, .int .i64 t.sk.sum, .int .i64 t.sk.min, .int .i64 t.sk.max, .slice a1 n1 c1, .slice a2 n2 c2, .slice a3 n3 c3]) t.sk H ∧ RdSk y2 (.agg #[.int .i64 x.sk.count, .int .i64 x.sk.sum, .int .i64 x.sk.min, .int .i64 x.sk.max, .slice b1 m1 d1, .slice b2 m2 d2, .slice b3 m3 d3]) x.sk F) := ⟨HPP1.out.1.below bz, HPP1.out.2.1.below bz, HPP1.out.2.2.below bz⟩
    clear hK bz HS21 HPP1
    refine takeH (o := ?o6) 5 (.bool true) ?h6 ?r6
    case h6 => simp only [List.getElem?_toArray, List.getElem?_cons_succ, List.getElem?_cons_zero]; rfl
    refine ⟨_, by simp [Act.put]; rfl, by kernel_rfl, by kernel_rfl, by kernel_rfl, fun _ _ _ h => h, (.inl ⟨rfl, fun W _ => by go_simp⟩), HS22.out, ?_⟩
    refine takeH (o := ?o7) 6 (.bool true) ?h7 ?r7
    case h7 => simp only [List.getElem?_toArray, List.getElem?_cons_succ, List.getElem?_cons_zero]; rfl
    refine ⟨_, by simp [Act.put]; rfl, by kernel_rfl, by kernel_rfl, by kernel_rfl, fun _ _ _ h => h, (.inl ⟨rfl, fun W _ => by go_simp⟩), HS22.out, ?_⟩
    refine takeH (o := ?o8) 7 (.pointer (some ⟨ge, 2, none⟩)) ?h8 ?r8
    case h8 => simp only [List.getElem?_toArray, List.getElem?_cons_succ, List.getElem?_cons_zero]; rfl
    refine ⟨_, by simp [Act.put]; rfl, by kernel_rfl, by kernel_rfl, by kernel_rfl, fun _ _ _ h => h, (.inl ⟨rfl, fun W _ => by go_simp⟩), HS22.out, ?_⟩
    refine takeH (o := ?o9) 8 (.slice b 1 c) ?h9 ?r9
    case h9 => simp only [List.getElem?_toArray, List.getElem?_cons_succ, List.getElem?_cons_zero]; rfl
    refine ⟨_, by simp [Act.put]; rfl, by kernel_rfl, by kernel_rfl, by kernel_rfl, fun _ _ _ h => h, (.inl ⟨rfl, fun W hW => by have c := hW.en.cell 2; simp only [List.getElem?_toArray, List.getElem?_cons_succ, List.getElem?_cons_zero] at c; go_simp⟩), HS22.out, ?_⟩
    refine onlyH (o := ?o10) 9 (by kernel_rfl) ?h10 ?r10
    case h10 => simp only [List.getElem?_toArray, List.getElem?_cons_succ, List.getElem?_cons_zero]; rfl
    intro K hK
    refine op_call1 11 _ _ Try.f11 (fun v w' => v = .int .i64 1 ∧ Below y2.heap.size y2 w') rfl rfl Try.func11 (by kernel_rfl) (by kernel_rfl) ((sizeImpl_any b 1 c t.ids G y2 HPP2.out.1 (by omega)).mono (by rintro e w' ⟨rfl, h1⟩; exact ⟨_, rfl, by rw [HQ.out.2.2.1], h1⟩)) ?_
    rintro _ y3 ⟨rfl, bz⟩
    refine ⟨_, by simp [Act.put]; rfl, hK _ _ ⟨HS22.out.below bz, ?_⟩⟩
    have HS23 : Hid (ItemS w gi #[.int .i64 x.seq, .int .i64 x.cls, .int .i64 x.key, .int .i64 x.window, .int .i64 x.sk.count, .int .i64 x.sk.sum, .int .i64 x.sk.min, .int .i64 x.sk.max, .slice b1 m1 d1, .slice b2 m2 d2, .slice b3 m3 d3] x F ge #[.int .i64 x.key, .int .i64 x.window, .slice b 1 c, .int .i64 t.sk.count, .int .i64 t.sk.sum, .int .i64 t.sk.min, .int .i64 t.sk.max, .slice a1 n1 c1, .slice a2 n2 c2, .slice a3 n3 c3] t G H y3) := HS22.out.below bz
    have HPP3 : Hid (RdP y3 b 1 t.ids G ∧ RdSk y3 (.agg #[.int .i64 t.sk.count, .int .i64 t.sk.sum, .int .i64 t.sk.min, .int .i64 t.sk.max, .slice a1 n1 c1, .slice a2 n2 c2, .slice a3 n3 c3]) t.sk H ∧ RdSk y3 (.agg #[.int .i64 x.sk.count, .int .i64 x.sk.sum, .int .i64 x.sk.min, .int .i64 x.sk.max, .slice b1 m1 d1, .slice b2 m2 d2, .slice b3 m3 d3]) x.sk F) := ⟨HPP2.out.1.below bz, HPP2.out.2.1.below bz, HPP2.out.2.2.below bz⟩
    clear hK bz HS22 HPP2
    refine takeH (o := ?o11) 10 (.bool true) ?h11 ?r11
    case h11 => simp only [List.getElem?_toArray, List.getElem?_cons_succ, List.getElem?_cons_zero]; rfl
    refine ⟨_, by simp [Act.put]; rfl, by kernel_rfl, by kernel_rfl, by kernel_rfl, fun _ _ _ h => h, (.inl ⟨rfl, fun W _ => by go_simp⟩), HS23.out, ?_⟩
    refine takeH (o := ?o12) 11 (.bool true) ?h12 ?r12
    case h12 => simp only [List.getElem?_toArray, List.getElem?_cons_succ, List.getElem?_cons_zero]; rfl
    refine ⟨_, by simp [Act.put]; rfl, by kernel_rfl, by kernel_rfl, by kernel_rfl, fun _ _ _ h => h, (.inl ⟨rfl, fun W _ => by go_simp⟩), HS23.out, ?_⟩
    refine takeH (o := ?o13) 12 (.bool true) ?h13 ?r13
    case h13 => simp only [List.getElem?_toArray, List.getElem?_cons_succ, List.getElem?_cons_zero]; rfl
    refine ⟨_, by simp [Act.put]; rfl, by kernel_rfl, by kernel_rfl, by kernel_rfl, fun _ _ _ h => h, (.inl ⟨rfl, fun W _ => by go_simp⟩), HS23.out, ?_⟩
    refine takeH (o := ?o14) 13 (.pointer (some ⟨ge, 2, none⟩)) ?h14 ?r14
    case h14 => simp only [List.getElem?_toArray, List.getElem?_cons_succ, List.getElem?_cons_zero]; rfl
    refine ⟨_, by simp [Act.put]; rfl, by kernel_rfl, by kernel_rfl, by kernel_rfl, fun _ _ _ h => h, (.inl ⟨rfl, fun W _ => by go_simp⟩), HS23.out, ?_⟩
    refine takeH (o := ?o15) 14 (.slice b 1 c) ?h15 ?r15
    case h15 => simp only [List.getElem?_toArray, List.getElem?_cons_succ, List.getElem?_cons_zero]; rfl
    refine ⟨_, by simp [Act.put]; rfl, by kernel_rfl, by kernel_rfl, by kernel_rfl, fun _ _ _ h => h, (.inl ⟨rfl, fun W hW => by have c := hW.en.cell 2; simp only [List.getElem?_toArray, List.getElem?_cons_succ, List.getElem?_cons_zero] at c; go_simp⟩), HS23.out, ?_⟩
    refine takeH (o := ?o16) 15 (.int .i64 ag) ?h16 ?r16
    case h16 => simp only [List.getElem?_toArray, List.getElem?_cons_succ, List.getElem?_cons_zero]; rfl
    refine ⟨_, by simp [Act.put]; rfl, by kernel_rfl, by kernel_rfl, by kernel_rfl, fun _ _ _ h => h, (.inl ⟨rfl, fun W _ => by go_simp⟩), HS23.out, ?_⟩
    refine takeH (o := ?o17) 16 (.pointer (some ⟨gi, 0, none⟩)) ?h17 ?r17
    case h17 => simp only [List.getElem?_toArray, List.getElem?_cons_succ, List.getElem?_cons_zero]; rfl
    refine ⟨_, by simp [Act.put]; rfl, by kernel_rfl, by kernel_rfl, by kernel_rfl, fun _ _ _ h => h, (.inl ⟨rfl, fun W _ => by go_simp⟩), HS23.out, ?_⟩
    refine takeH (o := ?o18) 17 (.int .i64 x.seq) ?h18 ?r18
    case h18 => simp only [List.getElem?_toArray, List.getElem?_cons_succ, List.getElem?_cons_zero]; rfl
    refine ⟨_, by simp [Act.put]; rfl, by kernel_rfl, by kernel_rfl, by kernel_rfl, fun _ _ _ h => h, (.inl ⟨rfl, fun W hW => by have c := hW.it.cell 0; simp only [List.getElem?_toArray, List.getElem?_cons_zero] at c; go_simp⟩), HS23.out, ?_⟩
    refine onlyH (o := ?o19) 18 (by kernel_rfl) ?h19 ?r19
    case h19 => simp only [List.getElem?_toArray, List.getElem?_cons_succ, List.getElem?_cons_zero]; rfl
    intro K hK
    refine op_call2' 17 _ _ _ Try.f17 (fun v w' => v = .int .i64 idn ∧ Below y3.heap.size y3 w') rfl rfl Try.func17 (by kernel_rfl) (by kernel_rfl) ((idImpl_any ag x.seq y3).mono (by rintro e w' ⟨rfl, rfl⟩; exact ⟨_, rfl, by rw [HIDN.out], Below.refl _ _⟩)) ?_
    rintro _ y4 ⟨rfl, bz⟩
    refine ⟨_, by simp [Act.put]; rfl, hK _ _ ⟨HS23.out.below bz, ?_⟩⟩
    have HS24 : Hid (ItemS w gi #[.int .i64 x.seq, .int .i64 x.cls, .int .i64 x.key, .int .i64 x.window, .int .i64 x.sk.count, .int .i64 x.sk.sum, .int .i64 x.sk.min, .int .i64 x.sk.max, .slice b1 m1 d1, .slice b2 m2 d2, .slice b3 m3 d3] x F ge #[.int .i64 x.key, .int .i64 x.window, .slice b 1 c, .int .i64 t.sk.count, .int .i64 t.sk.sum, .int .i64 t.sk.min, .int .i64 t.sk.max, .slice a1 n1 c1, .slice a2 n2 c2, .slice a3 n3 c3] t G H y4) := HS23.out.below bz
    have HPP4 : Hid (RdP y4 b 1 t.ids G ∧ RdSk y4 (.agg #[.int .i64 t.sk.count, .int .i64 t.sk.sum, .int .i64 t.sk.min, .int .i64 t.sk.max, .slice a1 n1 c1, .slice a2 n2 c2, .slice a3 n3 c3]) t.sk H ∧ RdSk y4 (.agg #[.int .i64 x.sk.count, .int .i64 x.sk.sum, .int .i64 x.sk.min, .int .i64 x.sk.max, .slice b1 m1 d1, .slice b2 m2 d2, .slice b3 m3 d3]) x.sk F) := ⟨HPP3.out.1.below bz, HPP3.out.2.1.below bz, HPP3.out.2.2.below bz⟩
    clear hK bz HS23 HPP3
    refine onlyH (o := ?o20) 19 (by kernel_rfl) ?h20 ?r20
    case h20 => simp only [List.getElem?_toArray, List.getElem?_cons_succ, List.getElem?_cons_zero]; rfl
    intro K hK
    refine op_call2' 20 _ _ _ Try.f20 (fun v w' => v = .bool true ∧ Below y4.heap.size y4 w') rfl rfl Try.func20 (by kernel_rfl) (by kernel_rfl) ((hasImpl_any b 1 c t.ids idn G y4 HPP4.out.1 (by omega)).mono (by rintro e w' ⟨rfl, h1⟩; exact ⟨_, rfl, by rw [HQ.out.2.2.2.1], h1⟩)) ?_
    rintro _ y5 ⟨rfl, bz⟩
    refine ⟨_, by simp [Act.put]; rfl, hK _ _ ⟨HS24.out.below bz, ?_⟩⟩
    have HS25 : Hid (ItemS w gi #[.int .i64 x.seq, .int .i64 x.cls, .int .i64 x.key, .int .i64 x.window, .int .i64 x.sk.count, .int .i64 x.sk.sum, .int .i64 x.sk.min, .int .i64 x.sk.max, .slice b1 m1 d1, .slice b2 m2 d2, .slice b3 m3 d3] x F ge #[.int .i64 x.key, .int .i64 x.window, .slice b 1 c, .int .i64 t.sk.count, .int .i64 t.sk.sum, .int .i64 t.sk.min, .int .i64 t.sk.max, .slice a1 n1 c1, .slice a2 n2 c2, .slice a3 n3 c3] t G H y5) := HS24.out.below bz
    have HPP5 : Hid (RdP y5 b 1 t.ids G ∧ RdSk y5 (.agg #[.int .i64 t.sk.count, .int .i64 t.sk.sum, .int .i64 t.sk.min, .int .i64 t.sk.max, .slice a1 n1 c1, .slice a2 n2 c2, .slice a3 n3 c3]) t.sk H ∧ RdSk y5 (.agg #[.int .i64 x.sk.count, .int .i64 x.sk.sum, .int .i64 x.sk.min, .int .i64 x.sk.max, .slice b1 m1 d1, .slice b2 m2 d2, .slice b3 m3 d3]) x.sk F) := ⟨HPP4.out.1.below bz, HPP4.out.2.1.below bz, HPP4.out.2.2.below bz⟩
    clear hK bz HS24 HPP4
    refine takeH (o := ?o21) 20 (.bool true) ?h21 ?r21
    case h21 => simp only [List.getElem?_toArray, List.getElem?_cons_succ, List.getElem?_cons_zero]; rfl
    refine ⟨_, by simp [Act.put]; rfl, by kernel_rfl, by kernel_rfl, by kernel_rfl, fun _ _ _ h => h, (.inl ⟨rfl, fun W _ => by go_simp⟩), HS25.out, ?_⟩
    refine takeH (o := ?o22) 21 (.bool true) ?h22 ?r22
    case h22 => simp only [List.getElem?_toArray, List.getElem?_cons_succ, List.getElem?_cons_zero]; rfl
    refine ⟨_, by simp [Act.put]; rfl, by kernel_rfl, by kernel_rfl, by kernel_rfl, fun _ _ _ h => h, (.inl ⟨rfl, fun W _ => by go_simp⟩), HS25.out, ?_⟩
    refine takeH (o := ?o23) 22 (.pointer (some ⟨ge, 3, none⟩)) ?h23 ?r23
    case h23 => simp only [List.getElem?_toArray, List.getElem?_cons_succ, List.getElem?_cons_zero]; rfl
    refine ⟨_, by simp [Act.put]; rfl, by kernel_rfl, by kernel_rfl, by kernel_rfl, fun _ _ _ h => h, (.inl ⟨rfl, fun W _ => by go_simp⟩), HS25.out, ?_⟩
    refine takeH (o := ?o24) 23 (.agg #[.int .i64 t.sk.count, .int .i64 t.sk.sum, .int .i64 t.sk.min, .int .i64 t.sk.max, .slice a1 n1 c1, .slice a2 n2 c2, .slice a3 n3 c3]) ?h24 ?r24
    case h24 => simp only [List.getElem?_toArray, List.getElem?_cons_succ, List.getElem?_cons_zero]; rfl
    refine ⟨_, by simp [Act.put]; rfl, by kernel_rfl, by kernel_rfl, by kernel_rfl, fun _ _ _ h => h, (yields_cut 28 ge 3 7 _ #[.int .i64 t.sk.count, .int .i64 t.sk.sum, .int .i64 t.sk.min, .int .i64 t.sk.max, .slice a1 n1 c1, .slice a2 n2 c2, .slice a3 n3 c3] 30 _ rfl rfl rfl Try.underlying28 rfl infoSkI (by simp) rfl (fun W hW => hW.en)), HS25.out, ?_⟩
    refine takeH (o := ?o25) 24 (.pointer (some ⟨gi, 4, none⟩)) ?h25 ?r25
    case h25 => simp only [List.getElem?_toArray, List.getElem?_cons_succ, List.getElem?_cons_zero]; rfl
    refine ⟨_, by simp [Act.put]; rfl, by kernel_rfl, by kernel_rfl, by kernel_rfl, fun _ _ _ h => h, (.inl ⟨rfl, fun W _ => by go_simp⟩), HS25.out, ?_⟩
    refine takeH (o := ?o26) 25 (.agg #[.int .i64 x.sk.count, .int .i64 x.sk.sum, .int .i64 x.sk.min, .int .i64 x.sk.max, .slice b1 m1 d1, .slice b2 m2 d2, .slice b3 m3 d3]) ?h26 ?r26
    case h26 => simp only [List.getElem?_toArray, List.getElem?_cons_succ, List.getElem?_cons_zero]; rfl
    refine ⟨_, by simp [Act.put]; rfl, by kernel_rfl, by kernel_rfl, by kernel_rfl, fun _ _ _ h => h, (yields_cut 28 gi 4 7 _ #[.int .i64 x.sk.count, .int .i64 x.sk.sum, .int .i64 x.sk.min, .int .i64 x.sk.max, .slice b1 m1 d1, .slice b2 m2 d2, .slice b3 m3 d3] 40 _ rfl rfl rfl Try.underlying28 rfl infoSkI (by simp) rfl (fun W hW => hW.it)), HS25.out, ?_⟩
    refine onlyH (o := ?o27) 26 (by kernel_rfl) ?h27 ?r27
    case h27 => simp only [List.getElem?_toArray, List.getElem?_cons_succ, List.getElem?_cons_zero]; rfl
    intro K hK
    refine op_call2' 21 _ _ _ Try.f21 (fun v w' => v = .bool true ∧ Below y5.heap.size y5 w') rfl rfl Try.func21 (by kernel_rfl) (by kernel_rfl) ((sameImpl_any _ _ t.sk x.sk H F y5 HPP5.out.2.1 HPP5.out.2.2 HWE.out.1 HW.out.1).mono (by rintro e w' ⟨rfl, h1⟩; exact ⟨_, rfl, by rw [HQ.out.2.2.2.2]; simp, h1⟩)) ?_
    rintro _ y6 ⟨rfl, bz⟩
    refine ⟨_, by simp [Act.put]; rfl, hK _ _ ⟨HS25.out.below bz, ?_⟩⟩
    have HS26 : Hid (ItemS w gi #[.int .i64 x.seq, .int .i64 x.cls, .int .i64 x.key, .int .i64 x.window, .int .i64 x.sk.count, .int .i64 x.sk.sum, .int .i64 x.sk.min, .int .i64 x.sk.max, .slice b1 m1 d1, .slice b2 m2 d2, .slice b3 m3 d3] x F ge #[.int .i64 x.key, .int .i64 x.window, .slice b 1 c, .int .i64 t.sk.count, .int .i64 t.sk.sum, .int .i64 t.sk.min, .int .i64 t.sk.max, .slice a1 n1 c1, .slice a2 n2 c2, .slice a3 n3 c3] t G H y6) := HS25.out.below bz
    have HPP6 : Hid (RdP y6 b 1 t.ids G ∧ RdSk y6 (.agg #[.int .i64 t.sk.count, .int .i64 t.sk.sum, .int .i64 t.sk.min, .int .i64 t.sk.max, .slice a1 n1 c1, .slice a2 n2 c2, .slice a3 n3 c3]) t.sk H ∧ RdSk y6 (.agg #[.int .i64 x.sk.count, .int .i64 x.sk.sum, .int .i64 x.sk.min, .int .i64 x.sk.max, .slice b1 m1 d1, .slice b2 m2 d2, .slice b3 m3 d3]) x.sk F) := ⟨HPP5.out.1.below bz, HPP5.out.2.1.below bz, HPP5.out.2.2.below bz⟩
    clear hK bz HS25 HPP5
    refine takeH (o := ?o28) 27 (.bool true) ?h28 ?r28
    case h28 => simp only [List.getElem?_toArray, List.getElem?_cons_succ, List.getElem?_cons_zero]; rfl
    refine ⟨_, by simp [Act.put]; rfl, by kernel_rfl, by kernel_rfl, by kernel_rfl, fun _ _ _ h => h, (.inl ⟨rfl, fun W _ => by go_simp⟩), HS26.out, ?_⟩
    refine takeH (o := ?o29) 28 (.bool true) ?h29 ?r29
    case h29 => simp only [List.getElem?_toArray, List.getElem?_cons_succ, List.getElem?_cons_zero]; rfl
    refine ⟨_, by simp [Act.put]; rfl, by kernel_rfl, by kernel_rfl, by kernel_rfl, fun _ _ _ h => h, (.inl ⟨rfl, fun W _ => by go_simp⟩), HS26.out, ?_⟩
    refine takeH (o := ?o30) 29 (.pointer (some ⟨ge, 0, none⟩)) ?h30 ?r30
    case h30 => simp only [List.getElem?_toArray, List.getElem?_cons_succ, List.getElem?_cons_zero]; rfl
    refine ⟨_, by simp [Act.put]; rfl, by kernel_rfl, by kernel_rfl, by kernel_rfl, fun _ _ _ h => h, (.inl ⟨rfl, fun W _ => by go_simp⟩), HS26.out, ?_⟩
    refine takeH (o := ?o31) 30 (.int .i64 x.key) ?h31 ?r31
    case h31 => simp only [List.getElem?_toArray, List.getElem?_cons_succ, List.getElem?_cons_zero]; rfl
    refine ⟨_, by simp [Act.put]; rfl, by kernel_rfl, by kernel_rfl, by kernel_rfl, fun _ _ _ h => h, (.inl ⟨rfl, fun W hW => by have c := hW.en.cell 0; simp only [List.getElem?_toArray, List.getElem?_cons_zero] at c; go_simp⟩), HS26.out, ?_⟩
    refine takeH (o := ?o32) 31 (.pointer (some ⟨gi, 2, none⟩)) ?h32 ?r32
    case h32 => simp only [List.getElem?_toArray, List.getElem?_cons_succ, List.getElem?_cons_zero]; rfl
    refine ⟨_, by simp [Act.put]; rfl, by kernel_rfl, by kernel_rfl, by kernel_rfl, fun _ _ _ h => h, (.inl ⟨rfl, fun W _ => by go_simp⟩), HS26.out, ?_⟩
    refine takeH (o := ?o33) 32 (.int .i64 x.key) ?h33 ?r33
    case h33 => simp only [List.getElem?_toArray, List.getElem?_cons_succ, List.getElem?_cons_zero]; rfl
    refine ⟨_, by simp [Act.put]; rfl, by kernel_rfl, by kernel_rfl, by kernel_rfl, fun _ _ _ h => h, (.inl ⟨rfl, fun W hW => by have c := hW.it.cell 2; simp only [List.getElem?_toArray, List.getElem?_cons_succ, List.getElem?_cons_zero] at c; go_simp⟩), HS26.out, ?_⟩
    refine takeH (o := ?o34) 33 (.bool true) ?h34 ?r34
    case h34 => simp only [List.getElem?_toArray, List.getElem?_cons_succ, List.getElem?_cons_zero]; rfl
    refine ⟨_, by simp [Act.put]; rfl, by kernel_rfl, by kernel_rfl, by kernel_rfl, fun _ _ _ h => h, (.inl ⟨rfl, fun W _ => by go_simp⟩), HS26.out, ?_⟩
    refine takeH (o := ?o35) 34 (.bool true) ?h35 ?r35
    case h35 => simp only [List.getElem?_toArray, List.getElem?_cons_succ, List.getElem?_cons_zero]; rfl
    refine ⟨_, by simp [Act.put]; rfl, by kernel_rfl, by kernel_rfl, by kernel_rfl, fun _ _ _ h => h, (.inl ⟨rfl, fun W _ => by go_simp⟩), HS26.out, ?_⟩
    refine takeH (o := ?o36) 35 (.bool true) ?h36 ?r36
    case h36 => simp only [List.getElem?_toArray, List.getElem?_cons_succ, List.getElem?_cons_zero]; rfl
    refine ⟨_, by simp [Act.put]; rfl, by kernel_rfl, by kernel_rfl, by kernel_rfl, fun _ _ _ h => h, (.inl ⟨rfl, fun W _ => by go_simp⟩), HS26.out, ?_⟩
    refine takeH (o := ?o37) 36 (.pointer (some ⟨ge, 1, none⟩)) ?h37 ?r37
    case h37 => simp only [List.getElem?_toArray, List.getElem?_cons_succ, List.getElem?_cons_zero]; rfl
    refine ⟨_, by simp [Act.put]; rfl, by kernel_rfl, by kernel_rfl, by kernel_rfl, fun _ _ _ h => h, (.inl ⟨rfl, fun W _ => by go_simp⟩), HS26.out, ?_⟩
    refine takeH (o := ?o38) 37 (.int .i64 x.window) ?h38 ?r38
    case h38 => simp only [List.getElem?_toArray, List.getElem?_cons_succ, List.getElem?_cons_zero]; rfl
    refine ⟨_, by simp [Act.put]; rfl, by kernel_rfl, by kernel_rfl, by kernel_rfl, fun _ _ _ h => h, (.inl ⟨rfl, fun W hW => by have c := hW.en.cell 1; simp only [List.getElem?_toArray, List.getElem?_cons_succ, List.getElem?_cons_zero] at c; go_simp⟩), HS26.out, ?_⟩
    refine takeH (o := ?o39) 38 (.pointer (some ⟨gi, 3, none⟩)) ?h39 ?r39
    case h39 => simp only [List.getElem?_toArray, List.getElem?_cons_succ, List.getElem?_cons_zero]; rfl
    refine ⟨_, by simp [Act.put]; rfl, by kernel_rfl, by kernel_rfl, by kernel_rfl, fun _ _ _ h => h, (.inl ⟨rfl, fun W _ => by go_simp⟩), HS26.out, ?_⟩
    refine takeH (o := ?o40) 39 (.int .i64 x.window) ?h40 ?r40
    case h40 => simp only [List.getElem?_toArray, List.getElem?_cons_succ, List.getElem?_cons_zero]; rfl
    refine ⟨_, by simp [Act.put]; rfl, by kernel_rfl, by kernel_rfl, by kernel_rfl, fun _ _ _ h => h, (.inl ⟨rfl, fun W hW => by have c := hW.it.cell 3; simp only [List.getElem?_toArray, List.getElem?_cons_succ, List.getElem?_cons_zero] at c; go_simp⟩), HS26.out, ?_⟩
    refine takeH (o := ?o41) 40 (.bool true) ?h41 ?r41
    case h41 => simp only [List.getElem?_toArray, List.getElem?_cons_succ, List.getElem?_cons_zero]; rfl
    refine ⟨_, by simp [Act.put]; rfl, by kernel_rfl, by kernel_rfl, by kernel_rfl, fun _ _ _ h => h, (.inl ⟨rfl, fun W _ => by go_simp⟩), HS26.out, ?_⟩
    refine takeH (o := ?o42) 41 (.bool true) ?h42 ?r42
    case h42 => simp only [List.getElem?_toArray, List.getElem?_cons_succ, List.getElem?_cons_zero]; rfl
    refine ⟨_, by simp [Act.put]; rfl, by kernel_rfl, by kernel_rfl, by kernel_rfl, fun _ _ _ h => h, (.inl ⟨rfl, fun W _ => by go_simp⟩), HS26.out, ?_⟩
    refine takeH (o := ?o43) 42 (.bool true) ?h43 ?r43
    case h43 => simp only [List.getElem?_toArray, List.getElem?_cons_succ, List.getElem?_cons_zero]; rfl
    refine ⟨_, by simp [Act.put]; rfl, by kernel_rfl, by kernel_rfl, by kernel_rfl, fun _ _ _ h => h, (.inl ⟨rfl, fun W _ => by go_simp⟩), HS26.out, ?_⟩
    refine wpAnyH_done (by kernel_rfl) ?_ _
    go_wp2
    go_ret
    exact ⟨rfl, HS26.out.bel⟩
  · have e1 : (ii / 100 != ai) = false := by rw [hip2]; simp
    have e2 : (ii % 100 != si) = false := by rw [hip3]; simp
    have e3 : decide (0 ≤ ii) = true := by simpa using hip0
    clear hip2 hip3
    clear htr tr
    cases d
    · have HE : Hid (x.entry ag = En.zero) := It.entry_not HD.out.symm
      obtain ⟨b, l, c, a1, n1, c1, a2, n2, c2, a3, n3, c3, ev, hp, _, _⟩ := HS7.out.re
      have hl : l = 0 := by rw [← hp.length, HE.out]; rfl
      subst hl
      have k2 : w7.cell? ⟨ge, 2, none⟩ = some (.slice b 0 c) := by
        rw [HS7.out.en.cell]
        injection ev with ev
        rw [ev]; rfl
      clear ev hp
      go_wp2
      go_ret
      exact ⟨rfl, HS7.out.bel⟩
    obtain ⟨q1, q2, q3, q4, q5, q6, q7, q8⟩ := entry_okI HD.out.symm
    obtain ⟨b, l, c, a1, n1, c1, a2, n2, c2, a3, n3, c3, ev, hp, hsk, _⟩ := HS7.out.re
    injection ev with ev
    obtain ⟨b1, m1, d1, b2, m2, d2, b3, m3, d3, ew, hsi⟩ := HS7.out.ri
    injection ew with ew
    subst ev ew
    obtain rfl : l = 1 := by rw [← hp.length, q3]; rfl
    have HQ : Hid ((x.entry ag).ok = true ∧ x.ok = true ∧ (x.entry ag).ids.size = 1 ∧ (x.entry ag).ids.has (idOf ag x.seq) = true ∧ (x.entry ag).sk = x.sk) := ⟨q1, q2, q4, q5, q6⟩
    have HQ8 : Hid ((x.entry ag).key = x.key ∧ (x.entry ag).window = x.window) := ⟨q7, q8⟩
    have HPP : Hid (RdP w7 b 1 (x.entry ag).ids G ∧ RdSk w7 (.agg #[.int .i64 (x.entry ag).sk.count, .int .i64 (x.entry ag).sk.sum, .int .i64 (x.entry ag).sk.min, .int .i64 (x.entry ag).sk.max, .slice a1 n1 c1, .slice a2 n2 c2, .slice a3 n3 c3]) (x.entry ag).sk H ∧ RdSk w7 (.agg #[.int .i64 x.sk.count, .int .i64 x.sk.sum, .int .i64 x.sk.min, .int .i64 x.sk.max, .slice b1 m1 d1, .slice b2 m2 d2, .slice b3 m3 d3]) x.sk F) := ⟨hp, hsk, hsi⟩
    have HWE : Hid ((x.entry ag).sk.wide ∧ (x.entry ag).ids.length ≤ 1048576) := ⟨by rw [q6]; exact HW.out.1, by rw [q3]; simp⟩
    clear q1 q2 q3 q4 q5 q6 q7 q8 hp hsk hsi HZ
    have kk : (x.entry ag).key = x.key := HQ8.out.1
    have kw : (x.entry ag).window = x.window := HQ8.out.2
    rw [kk, kw] at HS7
    clear kk kw
    obtain ⟨t, ht⟩ : ∃ t, t = x.entry ag := ⟨_, rfl⟩
    rw [← ht] at HQ HPP HWE HS7 HQ8
    clear ht
    obtain ⟨idn, hidn⟩ : ∃ n, n = idOf ag x.seq := ⟨_, rfl⟩
    have HIDN : Hid (idn = idOf ag x.seq) := hidn
    rw [← hidn] at HQ
    clear hidn
    go_wp2
    have HS : Hid (ItemS w gi #[.int .i64 x.seq, .int .i64 x.cls, .int .i64 x.key, .int .i64 x.window, .int .i64 x.sk.count, .int .i64 x.sk.sum, .int .i64 x.sk.min, .int .i64 x.sk.max, .slice b1 m1 d1, .slice b2 m2 d2, .slice b3 m3 d3] x F ge #[.int .i64 x.key, .int .i64 x.window, .slice b 1 c, .int .i64 t.sk.count, .int .i64 t.sk.sum, .int .i64 t.sk.min, .int .i64 t.sk.max, .slice a1 n1 c1, .slice a2 n2 c2, .slice a3 n3 c3] t G H w7.drew) := HS7.out.below (Below.refl _ _).drew
    have HPP0 : Hid (RdP w7.drew b 1 t.ids G ∧ RdSk w7.drew (.agg #[.int .i64 t.sk.count, .int .i64 t.sk.sum, .int .i64 t.sk.min, .int .i64 t.sk.max, .slice a1 n1 c1, .slice a2 n2 c2, .slice a3 n3 c3]) t.sk H ∧ RdSk w7.drew (.agg #[.int .i64 x.sk.count, .int .i64 x.sk.sum, .int .i64 x.sk.min, .int .i64 x.sk.max, .slice b1 m1 d1, .slice b2 m2 d2, .slice b3 m3 d3]) x.sk F) := ⟨HPP.out.1.below (Below.refl _ _).drew, HPP.out.2.1.below (Below.refl _ _).drew, HPP.out.2.2.below (Below.refl _ _).drew⟩
    obtain ⟨y0, hy0⟩ : ∃ W, W = w7.drew := ⟨_, rfl⟩
    refine wp_region_held (S := ItemS w gi #[.int .i64 x.seq, .int .i64 x.cls, .int .i64 x.key, .int .i64 x.window, .int .i64 x.sk.count, .int .i64 x.sk.sum, .int .i64 x.sk.min, .int .i64 x.sk.max, .slice b1 m1 d1, .slice b2 m2 d2, .slice b3 m3 d3] x F ge #[.int .i64 x.key, .int .i64 x.window, .slice b 1 c, .int .i64 t.sk.count, .int .i64 t.sk.sum, .int .i64 t.sk.min, .int .i64 t.sk.max, .slice a1 n1 c1, .slice a2 n2 c2, .slice a3 n3 c3] t G H) (by kernel_rfl) ?_
    change wpAnyH _ _ _ _ _ _ _ _ (World.drew _)
    rw [← hy0] at HS HPP0 ⊢
    clear hy0 HS7 HPP
    refine takeH (o := ?o44) 0 (.agg #[.int .i64 x.key, .int .i64 x.window, .slice b 1 c, .int .i64 t.sk.count, .int .i64 t.sk.sum, .int .i64 t.sk.min, .int .i64 t.sk.max, .slice a1 n1 c1, .slice a2 n2 c2, .slice a3 n3 c3]) ?h44 ?r44
    case h44 => simp only [List.getElem?_toArray, List.getElem?_cons_zero]; rfl
    refine ⟨_, by simp [Act.put]; rfl, by kernel_rfl, by kernel_rfl, by kernel_rfl, fun _ _ _ h => h, (yields_whole 30 ge #[.int .i64 x.key, .int .i64 x.window, .slice b 1 c, .int .i64 t.sk.count, .int .i64 t.sk.sum, .int .i64 t.sk.min, .int .i64 t.sk.max, .slice a1 n1 c1, .slice a2 n2 c2, .slice a3 n3 c3] 30 _ rfl rfl rfl Try.underlying30 rfl (by kernel_rfl) (fun W hW => hW.en)), HS.out, ?_⟩
    refine onlyH (o := ?o45) 1 (by kernel_rfl) ?h45 ?r45
    case h45 => simp only [List.getElem?_toArray, List.getElem?_cons_succ, List.getElem?_cons_zero]; rfl
    intro K hK
    refine op_call1 10 _ _ Try.f10 (fun v w' => v = .bool true ∧ Below y0.heap.size y0 w') rfl rfl Try.func10 (by kernel_rfl) (by kernel_rfl) ((entryOkImpl_en _ t G H y0 HS.out.re HWE.out.1 (by have := HWE.out.2; omega)).mono (by rintro e w' ⟨rfl, h1⟩; exact ⟨_, rfl, by rw [HQ.out.1], h1⟩)) ?_
    rintro _ y1 ⟨rfl, bz⟩
    refine ⟨_, by simp [Act.put]; rfl, hK _ _ ⟨HS.out.below bz, ?_⟩⟩
    have HS21 : Hid (ItemS w gi #[.int .i64 x.seq, .int .i64 x.cls, .int .i64 x.key, .int .i64 x.window, .int .i64 x.sk.count, .int .i64 x.sk.sum, .int .i64 x.sk.min, .int .i64 x.sk.max, .slice b1 m1 d1, .slice b2 m2 d2, .slice b3 m3 d3] x F ge #[.int .i64 x.key, .int .i64 x.window, .slice b 1 c, .int .i64 t.sk.count, .int .i64 t.sk.sum, .int .i64 t.sk.min, .int .i64 t.sk.max, .slice a1 n1 c1, .slice a2 n2 c2, .slice a3 n3 c3] t G H y1) := HS.out.below bz
    have HPP1 : Hid (RdP y1 b 1 t.ids G ∧ RdSk y1 (.agg #[.int .i64 t.sk.count, .int .i64 t.sk.sum, .int .i64 t.sk.min, .int .i64 t.sk.max, .slice a1 n1 c1, .slice a2 n2 c2, .slice a3 n3 c3]) t.sk H ∧ RdSk y1 (.agg #[.int .i64 x.sk.count, .int .i64 x.sk.sum, .int .i64 x.sk.min, .int .i64 x.sk.max, .slice b1 m1 d1, .slice b2 m2 d2, .slice b3 m3 d3]) x.sk F) := ⟨HPP0.out.1.below bz, HPP0.out.2.1.below bz, HPP0.out.2.2.below bz⟩
    clear hK bz HS HPP0
    refine takeH (o := ?o46) 2 (.bool true) ?h46 ?r46
    case h46 => simp only [List.getElem?_toArray, List.getElem?_cons_succ, List.getElem?_cons_zero]; rfl
    refine ⟨_, by simp [Act.put]; rfl, by kernel_rfl, by kernel_rfl, by kernel_rfl, fun _ _ _ h => h, (.inl ⟨rfl, fun W _ => by go_simp⟩), HS21.out, ?_⟩
    refine takeH (o := ?o47) 3 (.agg #[.int .i64 x.seq, .int .i64 x.cls, .int .i64 x.key, .int .i64 x.window, .int .i64 x.sk.count, .int .i64 x.sk.sum, .int .i64 x.sk.min, .int .i64 x.sk.max, .slice b1 m1 d1, .slice b2 m2 d2, .slice b3 m3 d3]) ?h47 ?r47
    case h47 => simp only [List.getElem?_toArray, List.getElem?_cons_succ, List.getElem?_cons_zero]; rfl
    refine ⟨_, by simp [Act.put]; rfl, by kernel_rfl, by kernel_rfl, by kernel_rfl, fun _ _ _ h => h, (yields_whole 40 gi #[.int .i64 x.seq, .int .i64 x.cls, .int .i64 x.key, .int .i64 x.window, .int .i64 x.sk.count, .int .i64 x.sk.sum, .int .i64 x.sk.min, .int .i64 x.sk.max, .slice b1 m1 d1, .slice b2 m2 d2, .slice b3 m3 d3] 40 _ rfl rfl rfl Try.underlying40 rfl (by kernel_rfl) (fun W hW => hW.it)), HS21.out, ?_⟩
    refine onlyH (o := ?o48) 4 (by kernel_rfl) ?h48 ?r48
    case h48 => simp only [List.getElem?_toArray, List.getElem?_cons_succ, List.getElem?_cons_zero]; rfl
    intro K hK
    refine op_call1 19 _ _ Try.f19 (fun v w' => v = .bool true ∧ Below y1.heap.size y1 w') rfl rfl Try.func19 (by kernel_rfl) (by kernel_rfl) ((itemOkImpl_any _ x F y1 HS21.out.ri HW.out.1).mono (by rintro e w' ⟨rfl, h1⟩; exact ⟨_, rfl, by rw [HQ.out.2.1], h1⟩)) ?_
    rintro _ y2 ⟨rfl, bz⟩
    refine ⟨_, by simp [Act.put]; rfl, hK _ _ ⟨HS21.out.below bz, ?_⟩⟩
    have HS22 : Hid (ItemS w gi #[.int .i64 x.seq, .int .i64 x.cls, .int .i64 x.key, .int .i64 x.window, .int .i64 x.sk.count, .int .i64 x.sk.sum, .int .i64 x.sk.min, .int .i64 x.sk.max, .slice b1 m1 d1, .slice b2 m2 d2, .slice b3 m3 d3] x F ge #[.int .i64 x.key, .int .i64 x.window, .slice b 1 c, .int .i64 t.sk.count, .int .i64 t.sk.sum, .int .i64 t.sk.min, .int .i64 t.sk.max, .slice a1 n1 c1, .slice a2 n2 c2, .slice a3 n3 c3] t G H y2) := HS21.out.below bz
    have HPP2 : Hid (RdP y2 b 1 t.ids G ∧ RdSk y2 (.agg #[.int .i64 t.sk.count, .int .i64 t.sk.sum, .int .i64 t.sk.min, .int .i64 t.sk.max, .slice a1 n1 c1, .slice a2 n2 c2, .slice a3 n3 c3]) t.sk H ∧ RdSk y2 (.agg #[.int .i64 x.sk.count, .int .i64 x.sk.sum, .int .i64 x.sk.min, .int .i64 x.sk.max, .slice b1 m1 d1, .slice b2 m2 d2, .slice b3 m3 d3]) x.sk F) := ⟨HPP1.out.1.below bz, HPP1.out.2.1.below bz, HPP1.out.2.2.below bz⟩
    clear hK bz HS21 HPP1
    refine takeH (o := ?o49) 5 (.bool true) ?h49 ?r49
    case h49 => simp only [List.getElem?_toArray, List.getElem?_cons_succ, List.getElem?_cons_zero]; rfl
    refine ⟨_, by simp [Act.put]; rfl, by kernel_rfl, by kernel_rfl, by kernel_rfl, fun _ _ _ h => h, (.inl ⟨rfl, fun W _ => by go_simp⟩), HS22.out, ?_⟩
    refine takeH (o := ?o50) 6 (.bool true) ?h50 ?r50
    case h50 => simp only [List.getElem?_toArray, List.getElem?_cons_succ, List.getElem?_cons_zero]; rfl
    refine ⟨_, by simp [Act.put]; rfl, by kernel_rfl, by kernel_rfl, by kernel_rfl, fun _ _ _ h => h, (.inl ⟨rfl, fun W _ => by go_simp⟩), HS22.out, ?_⟩
    refine takeH (o := ?o51) 7 (.pointer (some ⟨ge, 2, none⟩)) ?h51 ?r51
    case h51 => simp only [List.getElem?_toArray, List.getElem?_cons_succ, List.getElem?_cons_zero]; rfl
    refine ⟨_, by simp [Act.put]; rfl, by kernel_rfl, by kernel_rfl, by kernel_rfl, fun _ _ _ h => h, (.inl ⟨rfl, fun W _ => by go_simp⟩), HS22.out, ?_⟩
    refine takeH (o := ?o52) 8 (.slice b 1 c) ?h52 ?r52
    case h52 => simp only [List.getElem?_toArray, List.getElem?_cons_succ, List.getElem?_cons_zero]; rfl
    refine ⟨_, by simp [Act.put]; rfl, by kernel_rfl, by kernel_rfl, by kernel_rfl, fun _ _ _ h => h, (.inl ⟨rfl, fun W hW => by have c := hW.en.cell 2; simp only [List.getElem?_toArray, List.getElem?_cons_succ, List.getElem?_cons_zero] at c; go_simp⟩), HS22.out, ?_⟩
    refine onlyH (o := ?o53) 9 (by kernel_rfl) ?h53 ?r53
    case h53 => simp only [List.getElem?_toArray, List.getElem?_cons_succ, List.getElem?_cons_zero]; rfl
    intro K hK
    refine op_call1 11 _ _ Try.f11 (fun v w' => v = .int .i64 1 ∧ Below y2.heap.size y2 w') rfl rfl Try.func11 (by kernel_rfl) (by kernel_rfl) ((sizeImpl_any b 1 c t.ids G y2 HPP2.out.1 (by omega)).mono (by rintro e w' ⟨rfl, h1⟩; exact ⟨_, rfl, by rw [HQ.out.2.2.1], h1⟩)) ?_
    rintro _ y3 ⟨rfl, bz⟩
    refine ⟨_, by simp [Act.put]; rfl, hK _ _ ⟨HS22.out.below bz, ?_⟩⟩
    have HS23 : Hid (ItemS w gi #[.int .i64 x.seq, .int .i64 x.cls, .int .i64 x.key, .int .i64 x.window, .int .i64 x.sk.count, .int .i64 x.sk.sum, .int .i64 x.sk.min, .int .i64 x.sk.max, .slice b1 m1 d1, .slice b2 m2 d2, .slice b3 m3 d3] x F ge #[.int .i64 x.key, .int .i64 x.window, .slice b 1 c, .int .i64 t.sk.count, .int .i64 t.sk.sum, .int .i64 t.sk.min, .int .i64 t.sk.max, .slice a1 n1 c1, .slice a2 n2 c2, .slice a3 n3 c3] t G H y3) := HS22.out.below bz
    have HPP3 : Hid (RdP y3 b 1 t.ids G ∧ RdSk y3 (.agg #[.int .i64 t.sk.count, .int .i64 t.sk.sum, .int .i64 t.sk.min, .int .i64 t.sk.max, .slice a1 n1 c1, .slice a2 n2 c2, .slice a3 n3 c3]) t.sk H ∧ RdSk y3 (.agg #[.int .i64 x.sk.count, .int .i64 x.sk.sum, .int .i64 x.sk.min, .int .i64 x.sk.max, .slice b1 m1 d1, .slice b2 m2 d2, .slice b3 m3 d3]) x.sk F) := ⟨HPP2.out.1.below bz, HPP2.out.2.1.below bz, HPP2.out.2.2.below bz⟩
    clear hK bz HS22 HPP2
    refine takeH (o := ?o54) 10 (.bool true) ?h54 ?r54
    case h54 => simp only [List.getElem?_toArray, List.getElem?_cons_succ, List.getElem?_cons_zero]; rfl
    refine ⟨_, by simp [Act.put]; rfl, by kernel_rfl, by kernel_rfl, by kernel_rfl, fun _ _ _ h => h, (.inl ⟨rfl, fun W _ => by go_simp⟩), HS23.out, ?_⟩
    refine takeH (o := ?o55) 11 (.bool true) ?h55 ?r55
    case h55 => simp only [List.getElem?_toArray, List.getElem?_cons_succ, List.getElem?_cons_zero]; rfl
    refine ⟨_, by simp [Act.put]; rfl, by kernel_rfl, by kernel_rfl, by kernel_rfl, fun _ _ _ h => h, (.inl ⟨rfl, fun W _ => by go_simp⟩), HS23.out, ?_⟩
    refine takeH (o := ?o56) 12 (.bool true) ?h56 ?r56
    case h56 => simp only [List.getElem?_toArray, List.getElem?_cons_succ, List.getElem?_cons_zero]; rfl
    refine ⟨_, by simp [Act.put]; rfl, by kernel_rfl, by kernel_rfl, by kernel_rfl, fun _ _ _ h => h, (.inl ⟨rfl, fun W _ => by go_simp⟩), HS23.out, ?_⟩
    refine takeH (o := ?o57) 13 (.pointer (some ⟨ge, 2, none⟩)) ?h57 ?r57
    case h57 => simp only [List.getElem?_toArray, List.getElem?_cons_succ, List.getElem?_cons_zero]; rfl
    refine ⟨_, by simp [Act.put]; rfl, by kernel_rfl, by kernel_rfl, by kernel_rfl, fun _ _ _ h => h, (.inl ⟨rfl, fun W _ => by go_simp⟩), HS23.out, ?_⟩
    refine takeH (o := ?o58) 14 (.slice b 1 c) ?h58 ?r58
    case h58 => simp only [List.getElem?_toArray, List.getElem?_cons_succ, List.getElem?_cons_zero]; rfl
    refine ⟨_, by simp [Act.put]; rfl, by kernel_rfl, by kernel_rfl, by kernel_rfl, fun _ _ _ h => h, (.inl ⟨rfl, fun W hW => by have c := hW.en.cell 2; simp only [List.getElem?_toArray, List.getElem?_cons_succ, List.getElem?_cons_zero] at c; go_simp⟩), HS23.out, ?_⟩
    refine takeH (o := ?o59) 15 (.int .i64 ag) ?h59 ?r59
    case h59 => simp only [List.getElem?_toArray, List.getElem?_cons_succ, List.getElem?_cons_zero]; rfl
    refine ⟨_, by simp [Act.put]; rfl, by kernel_rfl, by kernel_rfl, by kernel_rfl, fun _ _ _ h => h, (.inl ⟨rfl, fun W _ => by go_simp⟩), HS23.out, ?_⟩
    refine takeH (o := ?o60) 16 (.pointer (some ⟨gi, 0, none⟩)) ?h60 ?r60
    case h60 => simp only [List.getElem?_toArray, List.getElem?_cons_succ, List.getElem?_cons_zero]; rfl
    refine ⟨_, by simp [Act.put]; rfl, by kernel_rfl, by kernel_rfl, by kernel_rfl, fun _ _ _ h => h, (.inl ⟨rfl, fun W _ => by go_simp⟩), HS23.out, ?_⟩
    refine takeH (o := ?o61) 17 (.int .i64 x.seq) ?h61 ?r61
    case h61 => simp only [List.getElem?_toArray, List.getElem?_cons_succ, List.getElem?_cons_zero]; rfl
    refine ⟨_, by simp [Act.put]; rfl, by kernel_rfl, by kernel_rfl, by kernel_rfl, fun _ _ _ h => h, (.inl ⟨rfl, fun W hW => by have c := hW.it.cell 0; simp only [List.getElem?_toArray, List.getElem?_cons_zero] at c; go_simp⟩), HS23.out, ?_⟩
    refine onlyH (o := ?o62) 18 (by kernel_rfl) ?h62 ?r62
    case h62 => simp only [List.getElem?_toArray, List.getElem?_cons_succ, List.getElem?_cons_zero]; rfl
    intro K hK
    refine op_call2' 17 _ _ _ Try.f17 (fun v w' => v = .int .i64 idn ∧ Below y3.heap.size y3 w') rfl rfl Try.func17 (by kernel_rfl) (by kernel_rfl) ((idImpl_any ag x.seq y3).mono (by rintro e w' ⟨rfl, rfl⟩; exact ⟨_, rfl, by rw [HIDN.out], Below.refl _ _⟩)) ?_
    rintro _ y4 ⟨rfl, bz⟩
    refine ⟨_, by simp [Act.put]; rfl, hK _ _ ⟨HS23.out.below bz, ?_⟩⟩
    have HS24 : Hid (ItemS w gi #[.int .i64 x.seq, .int .i64 x.cls, .int .i64 x.key, .int .i64 x.window, .int .i64 x.sk.count, .int .i64 x.sk.sum, .int .i64 x.sk.min, .int .i64 x.sk.max, .slice b1 m1 d1, .slice b2 m2 d2, .slice b3 m3 d3] x F ge #[.int .i64 x.key, .int .i64 x.window, .slice b 1 c, .int .i64 t.sk.count, .int .i64 t.sk.sum, .int .i64 t.sk.min, .int .i64 t.sk.max, .slice a1 n1 c1, .slice a2 n2 c2, .slice a3 n3 c3] t G H y4) := HS23.out.below bz
    have HPP4 : Hid (RdP y4 b 1 t.ids G ∧ RdSk y4 (.agg #[.int .i64 t.sk.count, .int .i64 t.sk.sum, .int .i64 t.sk.min, .int .i64 t.sk.max, .slice a1 n1 c1, .slice a2 n2 c2, .slice a3 n3 c3]) t.sk H ∧ RdSk y4 (.agg #[.int .i64 x.sk.count, .int .i64 x.sk.sum, .int .i64 x.sk.min, .int .i64 x.sk.max, .slice b1 m1 d1, .slice b2 m2 d2, .slice b3 m3 d3]) x.sk F) := ⟨HPP3.out.1.below bz, HPP3.out.2.1.below bz, HPP3.out.2.2.below bz⟩
    clear hK bz HS23 HPP3
    refine onlyH (o := ?o63) 19 (by kernel_rfl) ?h63 ?r63
    case h63 => simp only [List.getElem?_toArray, List.getElem?_cons_succ, List.getElem?_cons_zero]; rfl
    intro K hK
    refine op_call2' 20 _ _ _ Try.f20 (fun v w' => v = .bool true ∧ Below y4.heap.size y4 w') rfl rfl Try.func20 (by kernel_rfl) (by kernel_rfl) ((hasImpl_any b 1 c t.ids idn G y4 HPP4.out.1 (by omega)).mono (by rintro e w' ⟨rfl, h1⟩; exact ⟨_, rfl, by rw [HQ.out.2.2.2.1], h1⟩)) ?_
    rintro _ y5 ⟨rfl, bz⟩
    refine ⟨_, by simp [Act.put]; rfl, hK _ _ ⟨HS24.out.below bz, ?_⟩⟩
    have HS25 : Hid (ItemS w gi #[.int .i64 x.seq, .int .i64 x.cls, .int .i64 x.key, .int .i64 x.window, .int .i64 x.sk.count, .int .i64 x.sk.sum, .int .i64 x.sk.min, .int .i64 x.sk.max, .slice b1 m1 d1, .slice b2 m2 d2, .slice b3 m3 d3] x F ge #[.int .i64 x.key, .int .i64 x.window, .slice b 1 c, .int .i64 t.sk.count, .int .i64 t.sk.sum, .int .i64 t.sk.min, .int .i64 t.sk.max, .slice a1 n1 c1, .slice a2 n2 c2, .slice a3 n3 c3] t G H y5) := HS24.out.below bz
    have HPP5 : Hid (RdP y5 b 1 t.ids G ∧ RdSk y5 (.agg #[.int .i64 t.sk.count, .int .i64 t.sk.sum, .int .i64 t.sk.min, .int .i64 t.sk.max, .slice a1 n1 c1, .slice a2 n2 c2, .slice a3 n3 c3]) t.sk H ∧ RdSk y5 (.agg #[.int .i64 x.sk.count, .int .i64 x.sk.sum, .int .i64 x.sk.min, .int .i64 x.sk.max, .slice b1 m1 d1, .slice b2 m2 d2, .slice b3 m3 d3]) x.sk F) := ⟨HPP4.out.1.below bz, HPP4.out.2.1.below bz, HPP4.out.2.2.below bz⟩
    clear hK bz HS24 HPP4
    refine takeH (o := ?o64) 20 (.bool true) ?h64 ?r64
    case h64 => simp only [List.getElem?_toArray, List.getElem?_cons_succ, List.getElem?_cons_zero]; rfl
    refine ⟨_, by simp [Act.put]; rfl, by kernel_rfl, by kernel_rfl, by kernel_rfl, fun _ _ _ h => h, (.inl ⟨rfl, fun W _ => by go_simp⟩), HS25.out, ?_⟩
    refine takeH (o := ?o65) 21 (.bool true) ?h65 ?r65
    case h65 => simp only [List.getElem?_toArray, List.getElem?_cons_succ, List.getElem?_cons_zero]; rfl
    refine ⟨_, by simp [Act.put]; rfl, by kernel_rfl, by kernel_rfl, by kernel_rfl, fun _ _ _ h => h, (.inl ⟨rfl, fun W _ => by go_simp⟩), HS25.out, ?_⟩
    refine takeH (o := ?o66) 22 (.pointer (some ⟨ge, 3, none⟩)) ?h66 ?r66
    case h66 => simp only [List.getElem?_toArray, List.getElem?_cons_succ, List.getElem?_cons_zero]; rfl
    refine ⟨_, by simp [Act.put]; rfl, by kernel_rfl, by kernel_rfl, by kernel_rfl, fun _ _ _ h => h, (.inl ⟨rfl, fun W _ => by go_simp⟩), HS25.out, ?_⟩
    refine takeH (o := ?o67) 23 (.agg #[.int .i64 t.sk.count, .int .i64 t.sk.sum, .int .i64 t.sk.min, .int .i64 t.sk.max, .slice a1 n1 c1, .slice a2 n2 c2, .slice a3 n3 c3]) ?h67 ?r67
    case h67 => simp only [List.getElem?_toArray, List.getElem?_cons_succ, List.getElem?_cons_zero]; rfl
    refine ⟨_, by simp [Act.put]; rfl, by kernel_rfl, by kernel_rfl, by kernel_rfl, fun _ _ _ h => h, (yields_cut 28 ge 3 7 _ #[.int .i64 t.sk.count, .int .i64 t.sk.sum, .int .i64 t.sk.min, .int .i64 t.sk.max, .slice a1 n1 c1, .slice a2 n2 c2, .slice a3 n3 c3] 30 _ rfl rfl rfl Try.underlying28 rfl infoSkI (by simp) rfl (fun W hW => hW.en)), HS25.out, ?_⟩
    refine takeH (o := ?o68) 24 (.pointer (some ⟨gi, 4, none⟩)) ?h68 ?r68
    case h68 => simp only [List.getElem?_toArray, List.getElem?_cons_succ, List.getElem?_cons_zero]; rfl
    refine ⟨_, by simp [Act.put]; rfl, by kernel_rfl, by kernel_rfl, by kernel_rfl, fun _ _ _ h => h, (.inl ⟨rfl, fun W _ => by go_simp⟩), HS25.out, ?_⟩
    refine takeH (o := ?o69) 25 (.agg #[.int .i64 x.sk.count, .int .i64 x.sk.sum, .int .i64 x.sk.min, .int .i64 x.sk.max, .slice b1 m1 d1, .slice b2 m2 d2, .slice b3 m3 d3]) ?h69 ?r69
    case h69 => simp only [List.getElem?_toArray, List.getElem?_cons_succ, List.getElem?_cons_zero]; rfl
    refine ⟨_, by simp [Act.put]; rfl, by kernel_rfl, by kernel_rfl, by kernel_rfl, fun _ _ _ h => h, (yields_cut 28 gi 4 7 _ #[.int .i64 x.sk.count, .int .i64 x.sk.sum, .int .i64 x.sk.min, .int .i64 x.sk.max, .slice b1 m1 d1, .slice b2 m2 d2, .slice b3 m3 d3] 40 _ rfl rfl rfl Try.underlying28 rfl infoSkI (by simp) rfl (fun W hW => hW.it)), HS25.out, ?_⟩
    refine onlyH (o := ?o70) 26 (by kernel_rfl) ?h70 ?r70
    case h70 => simp only [List.getElem?_toArray, List.getElem?_cons_succ, List.getElem?_cons_zero]; rfl
    intro K hK
    refine op_call2' 21 _ _ _ Try.f21 (fun v w' => v = .bool true ∧ Below y5.heap.size y5 w') rfl rfl Try.func21 (by kernel_rfl) (by kernel_rfl) ((sameImpl_any _ _ t.sk x.sk H F y5 HPP5.out.2.1 HPP5.out.2.2 HWE.out.1 HW.out.1).mono (by rintro e w' ⟨rfl, h1⟩; exact ⟨_, rfl, by rw [HQ.out.2.2.2.2]; simp, h1⟩)) ?_
    rintro _ y6 ⟨rfl, bz⟩
    refine ⟨_, by simp [Act.put]; rfl, hK _ _ ⟨HS25.out.below bz, ?_⟩⟩
    have HS26 : Hid (ItemS w gi #[.int .i64 x.seq, .int .i64 x.cls, .int .i64 x.key, .int .i64 x.window, .int .i64 x.sk.count, .int .i64 x.sk.sum, .int .i64 x.sk.min, .int .i64 x.sk.max, .slice b1 m1 d1, .slice b2 m2 d2, .slice b3 m3 d3] x F ge #[.int .i64 x.key, .int .i64 x.window, .slice b 1 c, .int .i64 t.sk.count, .int .i64 t.sk.sum, .int .i64 t.sk.min, .int .i64 t.sk.max, .slice a1 n1 c1, .slice a2 n2 c2, .slice a3 n3 c3] t G H y6) := HS25.out.below bz
    have HPP6 : Hid (RdP y6 b 1 t.ids G ∧ RdSk y6 (.agg #[.int .i64 t.sk.count, .int .i64 t.sk.sum, .int .i64 t.sk.min, .int .i64 t.sk.max, .slice a1 n1 c1, .slice a2 n2 c2, .slice a3 n3 c3]) t.sk H ∧ RdSk y6 (.agg #[.int .i64 x.sk.count, .int .i64 x.sk.sum, .int .i64 x.sk.min, .int .i64 x.sk.max, .slice b1 m1 d1, .slice b2 m2 d2, .slice b3 m3 d3]) x.sk F) := ⟨HPP5.out.1.below bz, HPP5.out.2.1.below bz, HPP5.out.2.2.below bz⟩
    clear hK bz HS25 HPP5
    refine takeH (o := ?o71) 27 (.bool true) ?h71 ?r71
    case h71 => simp only [List.getElem?_toArray, List.getElem?_cons_succ, List.getElem?_cons_zero]; rfl
    refine ⟨_, by simp [Act.put]; rfl, by kernel_rfl, by kernel_rfl, by kernel_rfl, fun _ _ _ h => h, (.inl ⟨rfl, fun W _ => by go_simp⟩), HS26.out, ?_⟩
    refine takeH (o := ?o72) 28 (.bool true) ?h72 ?r72
    case h72 => simp only [List.getElem?_toArray, List.getElem?_cons_succ, List.getElem?_cons_zero]; rfl
    refine ⟨_, by simp [Act.put]; rfl, by kernel_rfl, by kernel_rfl, by kernel_rfl, fun _ _ _ h => h, (.inl ⟨rfl, fun W _ => by go_simp⟩), HS26.out, ?_⟩
    refine takeH (o := ?o73) 29 (.pointer (some ⟨ge, 0, none⟩)) ?h73 ?r73
    case h73 => simp only [List.getElem?_toArray, List.getElem?_cons_succ, List.getElem?_cons_zero]; rfl
    refine ⟨_, by simp [Act.put]; rfl, by kernel_rfl, by kernel_rfl, by kernel_rfl, fun _ _ _ h => h, (.inl ⟨rfl, fun W _ => by go_simp⟩), HS26.out, ?_⟩
    refine takeH (o := ?o74) 30 (.int .i64 x.key) ?h74 ?r74
    case h74 => simp only [List.getElem?_toArray, List.getElem?_cons_succ, List.getElem?_cons_zero]; rfl
    refine ⟨_, by simp [Act.put]; rfl, by kernel_rfl, by kernel_rfl, by kernel_rfl, fun _ _ _ h => h, (.inl ⟨rfl, fun W hW => by have c := hW.en.cell 0; simp only [List.getElem?_toArray, List.getElem?_cons_zero] at c; go_simp⟩), HS26.out, ?_⟩
    refine takeH (o := ?o75) 31 (.pointer (some ⟨gi, 2, none⟩)) ?h75 ?r75
    case h75 => simp only [List.getElem?_toArray, List.getElem?_cons_succ, List.getElem?_cons_zero]; rfl
    refine ⟨_, by simp [Act.put]; rfl, by kernel_rfl, by kernel_rfl, by kernel_rfl, fun _ _ _ h => h, (.inl ⟨rfl, fun W _ => by go_simp⟩), HS26.out, ?_⟩
    refine takeH (o := ?o76) 32 (.int .i64 x.key) ?h76 ?r76
    case h76 => simp only [List.getElem?_toArray, List.getElem?_cons_succ, List.getElem?_cons_zero]; rfl
    refine ⟨_, by simp [Act.put]; rfl, by kernel_rfl, by kernel_rfl, by kernel_rfl, fun _ _ _ h => h, (.inl ⟨rfl, fun W hW => by have c := hW.it.cell 2; simp only [List.getElem?_toArray, List.getElem?_cons_succ, List.getElem?_cons_zero] at c; go_simp⟩), HS26.out, ?_⟩
    refine takeH (o := ?o77) 33 (.bool true) ?h77 ?r77
    case h77 => simp only [List.getElem?_toArray, List.getElem?_cons_succ, List.getElem?_cons_zero]; rfl
    refine ⟨_, by simp [Act.put]; rfl, by kernel_rfl, by kernel_rfl, by kernel_rfl, fun _ _ _ h => h, (.inl ⟨rfl, fun W _ => by go_simp⟩), HS26.out, ?_⟩
    refine takeH (o := ?o78) 34 (.bool true) ?h78 ?r78
    case h78 => simp only [List.getElem?_toArray, List.getElem?_cons_succ, List.getElem?_cons_zero]; rfl
    refine ⟨_, by simp [Act.put]; rfl, by kernel_rfl, by kernel_rfl, by kernel_rfl, fun _ _ _ h => h, (.inl ⟨rfl, fun W _ => by go_simp⟩), HS26.out, ?_⟩
    refine takeH (o := ?o79) 35 (.bool true) ?h79 ?r79
    case h79 => simp only [List.getElem?_toArray, List.getElem?_cons_succ, List.getElem?_cons_zero]; rfl
    refine ⟨_, by simp [Act.put]; rfl, by kernel_rfl, by kernel_rfl, by kernel_rfl, fun _ _ _ h => h, (.inl ⟨rfl, fun W _ => by go_simp⟩), HS26.out, ?_⟩
    refine takeH (o := ?o80) 36 (.pointer (some ⟨ge, 1, none⟩)) ?h80 ?r80
    case h80 => simp only [List.getElem?_toArray, List.getElem?_cons_succ, List.getElem?_cons_zero]; rfl
    refine ⟨_, by simp [Act.put]; rfl, by kernel_rfl, by kernel_rfl, by kernel_rfl, fun _ _ _ h => h, (.inl ⟨rfl, fun W _ => by go_simp⟩), HS26.out, ?_⟩
    refine takeH (o := ?o81) 37 (.int .i64 x.window) ?h81 ?r81
    case h81 => simp only [List.getElem?_toArray, List.getElem?_cons_succ, List.getElem?_cons_zero]; rfl
    refine ⟨_, by simp [Act.put]; rfl, by kernel_rfl, by kernel_rfl, by kernel_rfl, fun _ _ _ h => h, (.inl ⟨rfl, fun W hW => by have c := hW.en.cell 1; simp only [List.getElem?_toArray, List.getElem?_cons_succ, List.getElem?_cons_zero] at c; go_simp⟩), HS26.out, ?_⟩
    refine takeH (o := ?o82) 38 (.pointer (some ⟨gi, 3, none⟩)) ?h82 ?r82
    case h82 => simp only [List.getElem?_toArray, List.getElem?_cons_succ, List.getElem?_cons_zero]; rfl
    refine ⟨_, by simp [Act.put]; rfl, by kernel_rfl, by kernel_rfl, by kernel_rfl, fun _ _ _ h => h, (.inl ⟨rfl, fun W _ => by go_simp⟩), HS26.out, ?_⟩
    refine takeH (o := ?o83) 39 (.int .i64 x.window) ?h83 ?r83
    case h83 => simp only [List.getElem?_toArray, List.getElem?_cons_succ, List.getElem?_cons_zero]; rfl
    refine ⟨_, by simp [Act.put]; rfl, by kernel_rfl, by kernel_rfl, by kernel_rfl, fun _ _ _ h => h, (.inl ⟨rfl, fun W hW => by have c := hW.it.cell 3; simp only [List.getElem?_toArray, List.getElem?_cons_succ, List.getElem?_cons_zero] at c; go_simp⟩), HS26.out, ?_⟩
    refine takeH (o := ?o84) 40 (.bool true) ?h84 ?r84
    case h84 => simp only [List.getElem?_toArray, List.getElem?_cons_succ, List.getElem?_cons_zero]; rfl
    refine ⟨_, by simp [Act.put]; rfl, by kernel_rfl, by kernel_rfl, by kernel_rfl, fun _ _ _ h => h, (.inl ⟨rfl, fun W _ => by go_simp⟩), HS26.out, ?_⟩
    refine takeH (o := ?o85) 41 (.bool true) ?h85 ?r85
    case h85 => simp only [List.getElem?_toArray, List.getElem?_cons_succ, List.getElem?_cons_zero]; rfl
    refine ⟨_, by simp [Act.put]; rfl, by kernel_rfl, by kernel_rfl, by kernel_rfl, fun _ _ _ h => h, (.inl ⟨rfl, fun W _ => by go_simp⟩), HS26.out, ?_⟩
    refine takeH (o := ?o86) 42 (.bool true) ?h86 ?r86
    case h86 => simp only [List.getElem?_toArray, List.getElem?_cons_succ, List.getElem?_cons_zero]; rfl
    refine ⟨_, by simp [Act.put]; rfl, by kernel_rfl, by kernel_rfl, by kernel_rfl, fun _ _ _ h => h, (.inl ⟨rfl, fun W _ => by go_simp⟩), HS26.out, ?_⟩
    refine wpAnyH_done (by kernel_rfl) ?_ _
    go_wp2
    go_ret
    exact ⟨rfl, HS26.out.bel⟩

set_option maxRecDepth 100000 in
theorem lifted (os : Os) (started : os.Started) (H : Type) (enc : TypeId × Value → H) :
    ReturnsInHanded {} Try.checked os 4 .any (Rows.fnItemsSpec.pre6 enc Try.prog Try.f4 Rows.fnItemsRow.domain false) (Rows.fnItemsSpec.post enc Try.prog Try.f4 false true false false) := by
  refine returnsInHanded_of_change (C := Try.checked) own started (by kernel_rfl) Try.func4
    (ChangeSpec.witness6 (enc := enc) (C := Try.checked) false ⟨#[], #[.slice none 0 0], []⟩ 8 (by kernel_rfl) (by kernel_rfl) (by kernel_rfl) (by kernel_rfl)) ?_
  intro W base args ds gs before hval0 hW hcnd _
  have hval : ∀ (j : Nat) t v, Try.f4.params[j]? = some t → args[j]? = some v → Value.okWide Try.prog W .any base t v := hval0
  have hW' := hW
  obtain ⟨p, q, hA0, hV, rfl, hfz, hnd⟩ := hW
  have hA : DataW.TrodAll enc Try.prog W 0 (fun _ => true) true Try.f4.params.toList args.toList ds p := hA0
  rw [Try.params4] at hA hval
  obtain ⟨v0, vs0, d0, ds0, p0, q0, hargs, rfl, rfl, h0, r0⟩ := trodAll_cons hA
  obtain ⟨rfl, rfl, rfl⟩ := trodAll_nil r0
  obtain rfl : args = #[v0] := by cases args; simp_all
  obtain ⟨rfl, rfl⟩ := trodVars_none hV
  obtain ⟨a0, len0, cap0, rfl⟩ := okWide_slice Try.underlying22 (hval 0 22 v0 rfl rfl)
  have k0 := h0
  have lt0 : ∀ x ∈ p0, x.block < W.heap.size := by obtain ⟨m, hm⟩ := k0; exact DataW.trod_lt m _ _ _ hm
  obtain ⟨z0, w0⟩ : ∃ zs, IsRow .u8 W a0 len0 cap0 zs := by
    obtain ⟨fuel, hf⟩ := h0
    rcases open_ints Try.underlying22 Try.underlying5 (by kernel_rfl) hf with ⟨hcs, _⟩ | ⟨x, l, c, zs, hcs, _, hl, hm, hz, _, hcell, hwz⟩
    · simp [Value.cells] at hcs
      obtain ⟨rfl, rfl, rfl⟩ := hcs
      exact ⟨[], .inl ⟨rfl, rfl, rfl, rfl⟩⟩
    · simp [Value.cells] at hcs
      obtain ⟨rfl, rfl, rfl⟩ := hcs
      exact ⟨zs, .inr ⟨_, rfl, hl, hm, by simpa using hz, hcell, hwz⟩⟩
  clear hA0 hval0
  refine (walk a0 len0 cap0 z0 W w0).mono fun e W' ⟨he, bel⟩ => ?_
  subst he
  exact ⟨_, rfl, _, _, _, [], _, [], hW', trodAll_mk1 (shut_bool Try.underlying4 _), (trodAll_cons_mk (Below.trod laidOut (by kernel_rfl) (of_decide_eq_true (by kernel_rfl)) k0 bel lt0) trodAll_mk0), rfl, bel.frame _, fun h => by cases h⟩

theorem over : Rows.fnItemsRow.holds Try.pinned (OpenSpec.ofChange Rows.fnItemsSpec) :=
  OpenClaim.holds_of_wide 4 Try.f4 rfl rfl rfl rfl rfl rfl rfl ⟨rfl, rfl, rfl, rfl, rfl⟩ rfl rfl rfl rfl rfl (by kernel_rfl) Try.func4 (by kernel_rfl)
    (of_decide_eq_true (by kernel_rfl)) (by unfold Func.isWrapper; first | (rw [if_pos (by decide +kernel)]; kernel_rfl) | (rw [if_neg (by decide +kernel)]; exact ⟨rfl, rfl⟩))
    (fun os started H enc _ => lifted os started H enc)

theorem proved : Rows.FnItemsSaid := over
#print axioms proved
end Go.Proofs.Ytbmbmnhamogghab.fnItems
