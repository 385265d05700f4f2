/- Several texts of mine, laid together. No statement of the seat is proved here. -/
import Derived.Test.YtbmbmnhamogghabTallyMath
import Derived.Test.YtbmbmnhamogghabSpModel
import Derived.Laws.CopyOwn
import Derived.OrdersHeld
import Derived.Laws.AppendOwnNone
import Derived.Test.YtbmbmnhamogghabItModel
import Derived.Test.YtbmbmnhamogghabSkCopy
import Derived.Test.YtbmbmnhamogghabTallyS
import Derived.Deep.AppendLies
import Derived.Maps.AppendAt
import Derived.BigRegion
import Derived.Deep.RegionHeld3
import Derived.Laws.StructEq
import Derived.Test.YtbmbmnhamogghabItOf
import Derived.Test.YtbmbmnhamogghabItHelp2
import Derived.Test.YtbmbmnhamogghabTallyB
/- The walks through the program's SketchOk. No statement of the seat is proved here. -/
namespace Go.Proofs.Ytbmbmnhamogghab
open Go.RowKit
set_option maxRecDepth 200000 in
set_option maxHeartbeats 1000000 in
theorem okImpl_any (v : Value) (s : Sk) (F : List Nat) (w : World) (h : RdSk w v s F) (hw : s.wide) :
    Calls Try.prog 47 #[v] w fun e w' => e = .returned (.bool s.ok) ∧ Below w.heap.size w w' := by
  have HH : Hid (RdSk w v s F ∧ s.wide) := ⟨h, hw⟩
  obtain ⟨a1, n1, c1, a2, n2, c2, a3, n3, c3, F1, F2, F3, rfl, h1, h2, h3, _⟩ := h
  clear h1 h2 h3 hw
  have HT : Hid (Below w.heap.size w (w.alloc (.cells #[.int .i64 s.count, .int .i64 s.sum, .int .i64 s.min, .int .i64 s.max, .slice a1 n1 c1, .slice a2 n2 c2, .slice a3 n3 c3] 28))) := (Below.refl _ _).alloc (Nat.le_refl _) _
  go_enter Try.func47, Try.ntmps47
  go_wp2_with fail
  refine (okTally_any _ s F _ (HH.out.1.below HT.out) HH.out.2).mono ?_
  rintro e w1 ⟨xs, ys, rfl, _, hy, hx, _, hb1⟩
  have HB : Hid (ys.length = 28 ∧ okT s xs = s.ok ∧ Below w.heap.size w w1) := ⟨hy, okT_ok hx, Below.next HT.out hb1⟩
  clear hb1 hy hx
  go_wp2_with (with_reducible refine stopStore 56 rfl ?_)
  refine store_fresh 56 w1.heap.size rfl (tc (List.replicate 28 0)) (tc ys) 56 rfl rfl rfl rfl (tallySize HB.out.1) (by rw [tc_size, tc_size, HB.out.1]; rfl) (tc_one _) ?_
  intro W2 _ hb2
  have HB2 : Hid (Below w.heap.size w W2) := Below.next HB.out.2.2 hb2
  clear hb2
  go_wp2
  go_ret
  exact ⟨ret_bool HB.out.2.1, HB2.out⟩
end Go.Proofs.Ytbmbmnhamogghab
/- The walks through the model's SetSize and SetApart. No statement of the seat is proved here. -/
namespace Go.Proofs.Ytbmbmnhamogghab
open Go.RowKit
def Sp.sum (ps : Sp) : Int := (ps.map fun p => p.2 - p.1 + 1).sum
def Sp.size (ps : Sp) : Int := if ps.ok = true then ps.sum else 0
theorem Sp.sum_snoc (ps : Sp) (p : Int × Int) : Sp.sum (ps ++ [p]) = ps.sum + (p.2 - p.1 + 1) := by simp [Sp.sum]
theorem Sp.sum_step {ps : Sp} {k : Nat} (hk : k < ps.length) : Sp.sum (ps.take (k + 1)) = Sp.sum (ps.take k) + ((ps.at k).2 - (ps.at k).1 + 1) := by
  rw [takeP_succ ps k hk, Sp.sum_snoc]
  rfl
theorem Sp.sum_nil : Sp.sum [] = 0 := rfl
theorem Sp.sum_range {ps : Sp} (h : ps.ok = true) : ∀ k, k ≤ ps.length → 0 ≤ Sp.sum (ps.take k) ∧ Sp.sum (ps.take k) ≤ 10000 * k
  | 0, _ => by simp [Sp.sum]
  | k + 1, hk => by
    have ih := Sp.sum_range h k (by omega)
    have e := Sp.sum_step (ps := ps) (k := k) (by omega)
    have p := (Sp.okAt_parts (Sp.ok_at h k (by omega))).1
    omega
theorem Sp.size_not {ps : Sp} (h : ps.ok = false) : ps.size = 0 := by unfold Sp.size; rw [h]; rfl
theorem Sp.size_ok {ps : Sp} (h : ps.ok = true) : ps.size = ps.sum := by unfold Sp.size; rw [if_pos h]
def meet (p q : Int × Int) : Bool := decide (p.1 ≤ q.2 ∧ q.1 ≤ p.2)
def Sp.apart (ps qs : Sp) : Bool := ps.ok && qs.ok && ps.all fun p => qs.all fun q => !meet p q
theorem Sp.apart_not {ps qs : Sp} (h : (ps.ok && qs.ok) = false) : ps.apart qs = false := by unfold Sp.apart; rw [h]; rfl
theorem Sp.apart_meet {ps qs : Sp} {i k : Nat} (hi : i < ps.length) (hk : k < qs.length) (h : (ps.at i).1 ≤ (qs.at k).2 ∧ (qs.at k).1 ≤ (ps.at i).2) : ps.apart qs = false := by
  unfold Sp.at at h
  rw [List.getElem?_eq_getElem hi, List.getElem?_eq_getElem hk] at h
  unfold Sp.apart
  rw [Bool.and_eq_false_iff]
  right
  rw [List.all_eq_false]
  refine ⟨ps[i], List.getElem_mem hi, ?_⟩
  rw [Bool.not_eq_true, List.all_eq_false]
  refine ⟨qs[k], List.getElem_mem hk, ?_⟩
  unfold meet
  rw [decT (by simpa using h)]
  decide
theorem Sp.apart_yes {ps qs : Sp} (h1 : ps.ok = true) (h2 : qs.ok = true) (h : ∀ i, i < ps.length → ∀ k, k < qs.length → ¬ ((ps.at i).1 ≤ (qs.at k).2 ∧ (qs.at k).1 ≤ (ps.at i).2)) : ps.apart qs = true := by
  unfold Sp.apart
  rw [h1, h2]
  simp only [Bool.and_self, Bool.true_and]
  rw [List.all_eq_true]
  intro p hp
  rw [List.all_eq_true]
  intro q hq
  obtain ⟨i, hi, rfl⟩ := List.getElem_of_mem hp
  obtain ⟨k, hk, rfl⟩ := List.getElem_of_mem hq
  have := h i hi k hk
  unfold Sp.at at this
  rw [List.getElem?_eq_getElem hi, List.getElem?_eq_getElem hk] at this
  unfold meet
  rw [decF (by simpa using this)]
  rfl
end Go.Proofs.Ytbmbmnhamogghab
/- The walk through the model's SetApart. No statement of the seat is proved here. -/
namespace Go.Proofs.Ytbmbmnhamogghab
open Go.RowKit
theorem QuietTo.trans {a b c : World} (h : QuietTo a b) (k : QuietTo b c) : QuietTo a c := by
  obtain ⟨m, rfl⟩ := h
  obtain ⟨n, rfl⟩ := k
  exact ⟨m + n, World.drewN_drewN ..⟩
theorem RdP.quiet {w w' : World} {a : Option Addr} {len : Nat} {ps : Sp} {F : List Nat} (h : RdP w a len ps F) (q : QuietTo w w') : RdP w' a len ps F := h.below (quiet_below q)
set_option maxRecDepth 200000 in
set_option maxHeartbeats 4000000 in
theorem apartSpec_any (a b : Option Addr) (la lb ca cb : Nat) (ps qs : Sp) (F G : List Nat) (w : World) (h : RdP w a la ps F) (k : RdP w b lb qs G) (hla : la ≤ 140737488355328) (hlb : lb ≤ 140737488355328) :
    Calls Try.prog 29 #[.slice a la ca, .slice b lb cb] w fun e w' => e = .returned (.bool (ps.apart qs)) ∧ ∃ m, w' = w.drewN m := by
  have HL : Hid (ps.length = la ∧ qs.length = lb) := ⟨h.length, k.length⟩
  have HR : Hid (RdP w a la ps F ∧ RdP w b lb qs G) := ⟨h, k⟩
  clear h k
  go_enter Try.func29, Try.ntmps29
  go_wp2_with fail
  refine (setOkSpec_any a la ca ps F _ HR.out.1 hla).mono ?_
  rintro e w1 ⟨rfl, hq⟩
  have HQ0 : Hid (QuietTo w w1) := hq
  clear hq
  obtain ⟨d, hd⟩ : ∃ d, d = ps.ok := ⟨_, rfl⟩
  rw [← hd]
  have HD : Hid (d = ps.ok) := hd
  clear hd
  cases d
  · go_wp2
    go_ret
    rw [Sp.apart_not (by rw [← HD.out]; rfl)]
    exact ⟨rfl, HQ0.out⟩
  go_wp2_with fail
  refine (setOkSpec_any b lb cb qs G _ (HR.out.2.quiet HQ0.out) hlb).mono ?_
  rintro e w2 ⟨rfl, hq⟩
  have HQ1 : Hid (QuietTo w w2) := HQ0.out.trans hq
  clear hq HQ0
  obtain ⟨d, hd⟩ : ∃ d, d = qs.ok := ⟨_, rfl⟩
  rw [← hd]
  have HE : Hid (d = qs.ok) := hd
  clear hd
  cases d
  · go_wp2
    go_ret
    rw [Sp.apart_not (by rw [← HD.out, ← HE.out]; rfl)]
    exact ⟨rfl, HQ1.out⟩
  have HCA : Hid (la = 0 ∨ ∃ b1 o1, a = some ⟨b1, o1, none⟩ ∧ SpCells w b1 o1 la ps) := by
    rcases HR.out.1.cells with ⟨h0, _⟩ | ⟨b1, o1, _, e, _, hc⟩
    · exact .inl h0
    · exact .inr ⟨b1, o1, e, hc⟩
  have HCB : Hid (lb = 0 ∨ ∃ b1 o1, b = some ⟨b1, o1, none⟩ ∧ SpCells w b1 o1 lb qs) := by
    rcases HR.out.2.cells with ⟨h0, _⟩ | ⟨b1, o1, _, e, _, hc⟩
    · exact .inl h0
    · exact .inr ⟨b1, o1, e, hc⟩
  clear HR
  go_wp2
  go_loopw [5] (fun i wr => ∃ (n : Nat), n ≤ la ∧ i = .int .i64 n ∧ Hid (QuietTo w wr) ∧ Hid (∀ i, i < n → ∀ k, k < qs.length → ¬ ((ps.at i).1 ≤ (qs.at k).2 ∧ (qs.at k).1 ≤ (ps.at i).2))) (fun i _ => la - (intOf i).toNat)
  case atStart => exact ⟨0, by omega, rfl, HQ1, fun j hj => by omega⟩
  case round =>
    obtain ⟨n, hn, rfl, HQ, HN⟩ := hrel
    by_cases hlt : n < la
    · have hca := HCA.out
      rcases hca with h0 | ⟨b1, o1, rfl, hc1⟩
      · omega
      obtain ⟨x, hx⟩ : ∃ x, x = (ps.at n).1 := ⟨_, rfl⟩
      obtain ⟨y, hy⟩ : ∃ x, x = (ps.at n).2 := ⟨_, rfl⟩
      have e := hc1 n hlt
      rw [← hx, ← hy] at e
      have HX : Hid ((x = (ps.at n).1 ∧ y = (ps.at n).2) ∧ w.cell? ⟨b1, o1 + n * 2, none⟩ = some (.int .i64 x) ∧ w.cell? ⟨b1, o1 + n * 2 + 1, none⟩ = some (.int .i64 y)) := ⟨⟨hx, hy⟩, e⟩
      have hI : (n : Int) < (la : Int) := by omega
      clear e hx hy hc1
      go_wp2
      go_loopw [6] (fun i ws => ∃ (k : Nat), k ≤ lb ∧ i = .int .i64 k ∧ Hid (QuietTo w ws) ∧ Hid (∀ j, j < k → ¬ (x ≤ (qs.at j).2 ∧ (qs.at j).1 ≤ y))) (fun i _ => lb - (intOf i).toNat)
      case atStart => exact ⟨0, by omega, rfl, HQ, fun j hj => by omega⟩
      case round =>
        clear HQ
        obtain ⟨k, hk, rfl, HQ, HM⟩ := hrel
        by_cases hlt2 : k < lb
        · have hcb := HCB.out
          rcases hcb with h0 | ⟨b2, o2, rfl, hc2⟩
          · omega
          obtain ⟨x', hx⟩ : ∃ x, x = (qs.at k).1 := ⟨_, rfl⟩
          obtain ⟨y', hy⟩ : ∃ x, x = (qs.at k).2 := ⟨_, rfl⟩
          have e := hc2 k hlt2
          rw [← hx, ← hy] at e
          have d1 : wr.cell? ⟨b1, o1 + n * 2, none⟩ = some (.int .i64 x) := (HQ.out.cell _).trans HX.out.2.1
          have d2 : wr.cell? ⟨b1, o1 + n * 2 + 1, none⟩ = some (.int .i64 y) := (HQ.out.cell _).trans HX.out.2.2
          have d3 : wr.cell? ⟨b2, o2 + k * 2, none⟩ = some (.int .i64 x') := (HQ.out.cell _).trans e.1
          have d4 : wr.cell? ⟨b2, o2 + k * 2 + 1, none⟩ = some (.int .i64 y') := (HQ.out.cell _).trans e.2
          have HY : Hid (x' = (qs.at k).1 ∧ y' = (qs.at k).2) := ⟨hx, hy⟩
          have hI2 : (k : Int) < (lb : Int) := by omega
          clear e hx hy hc2
          by_cases h1 : x ≤ y'
          · have h1d : decide (x ≤ y') = true := decT h1
            by_cases h2 : x' ≤ y
            · have h2d : decide (x' ≤ y) = true := decT h2
              have HV : Hid (ps.apart qs = false) := Sp.apart_meet (i := n) (k := k) (by rw [HL.out.1]; exact hlt) (by rw [HL.out.2]; exact hlt2) (by rw [← HX.out.1.1, ← HX.out.1.2, ← HY.out.1, ← HY.out.2]; exact ⟨h1, h2⟩)
              go_wp2
              go_quiet (fail)
              go_wp2
              go_ret
              rw [HV.out]
              exact ⟨rfl, HQ.out.drewN _⟩
            · have h2d : decide (x' ≤ y) = false := decF h2
              have HM2 : Hid (∀ j, j < k + 1 → ¬ (x ≤ (qs.at j).2 ∧ (qs.at j).1 ≤ y)) := all_up HM.out (by rw [← HY.out.1, ← HY.out.2]; exact fun e => h2 e.2)
              go_wp2
              go_quiet (fail)
              go_wp2
              go_roundw
              case rel => exact ⟨k + 1, by omega, by go_num, HQ.out.drewN _, HM2⟩
              case measure => simp [intOf]; omega
          · have h1d : decide (x ≤ y') = false := decF h1
            have HM2 : Hid (∀ j, j < k + 1 → ¬ (x ≤ (qs.at j).2 ∧ (qs.at j).1 ≤ y)) := all_up HM.out (by rw [← HY.out.1, ← HY.out.2]; exact fun e => h1 e.1)
            go_wp2
            go_quiet (fail)
            go_wp2
            go_roundw
            case rel => exact ⟨k + 1, by omega, by go_num, HQ.out.drewN _, HM2⟩
            case measure => simp [intOf]; omega
        · obtain rfl : k = lb := by omega
          have HN2 : Hid (∀ i, i < n + 1 → ∀ k, k < qs.length → ¬ ((ps.at i).1 ≤ (qs.at k).2 ∧ (qs.at k).1 ≤ (ps.at i).2)) := all_up HN.out (fun j hj => by rw [← HX.out.1.1, ← HX.out.1.2]; exact HM.out j (by rw [← HL.out.2]; exact hj))
          go_wp2
          go_roundw
          case rel => exact ⟨n + 1, by omega, by go_num, HQ, HN2⟩
          case measure => simp [intOf]; omega
    · obtain rfl : n = la := by omega
      have HV : Hid (ps.apart qs = true) := Sp.apart_yes HD.out.symm HE.out.symm (fun i hi => HN.out i (by rw [← HL.out.1]; exact hi))
      go_wp2
      go_ret
      rw [HV.out]
      exact ⟨rfl, HQ.out⟩
end Go.Proofs.Ytbmbmnhamogghab
/- The walks through the model's putting of a span into a set, and what is made of it. No statement of the seat is proved here. -/
namespace Go.Proofs.Ytbmbmnhamogghab
open Go.RowKit
section
variable {P : Program} {ops : Array Oper} {Q : Exit → Act → World → Prop} {rest : List Oper} {a : Act} {w : World} {x y : Operand} {o : Oper}
theorem stopAppend2 {ts : Array TypeId} (_ho : o.op = .call { callee := .builtin .append, args := #[x, y], argTypes := ts }) (h : Stop (wpList P ops Q (o :: rest) a w)) : wpList P ops Q (o :: rest) a w := h
end
theorem rdP_of_own {w : World} {B e n : Nat} {v : Value} {ps : Sp} (h : w.ownsRow B e 2 v n ((flat ps).map (Value.int .i64))) : ∃ a cap F, v = .slice a n cap ∧ RdP w a n ps F ∧ Own B w F ∧ Capd a n cap := by
  rcases h.2 with ⟨h1, h2⟩ | ⟨g, cap, cur, h1, _, _, hcap, _⟩
  · subst h2
    have hl : (flat ps).length = 0 := by simpa using h.1
    rw [flat_length] at hl
    obtain rfl : ps = [] := List.eq_nil_of_length_eq_zero (by omega)
    exact ⟨none, 0, [], h1, RdP.nil, Own.nil, fun _ => rfl, Nat.le_refl _⟩
  · subst h1
    obtain ⟨F, hr, ho, _⟩ := RdP.of_own h
    exact ⟨_, cap, F, rfl, hr, ho, (fun e => by cases e), hcap⟩
theorem own_mono {w : World} {B B' e size n : Nat} {v : Value} {xs : List Value} (h : w.ownsRow B e size v n xs) (hB : B' ≤ B) : w.ownsRow B' e size v n xs := by
  refine ⟨h.1, ?_⟩
  rcases h.2 with e | ⟨g, cap, cur, h1, h2, h3⟩
  · exact .inl e
  · exact .inr ⟨g, cap, cur, h1, Nat.le_trans hB h2, h3⟩
theorem own_empty2 (w : World) (e : TypeId) : (w.alloc (.cells #[] e)).ownsRow w.heap.size e 2 (.slice (some ⟨w.heap.size, 0, none⟩) 0 0) 0 [] :=
  ⟨rfl, .inr ⟨w.heap.size, 0, #[], rfl, Nat.le_refl _, Blk.made w #[] e, Nat.le_refl _, by simp, rfl, rfl⟩⟩
theorem cell_new2 (w : World) (u v : Value) (t : TypeId) : ∀ (j : Nat) (x : Value), [u, v][j]? = some x → (w.alloc (.cells #[u, v] t)).cell? ((⟨w.heap.size, 0, none⟩ : Addr).add j) = some x := by
  intro j x hx
  match j, hx with
  | 0, hx =>
    obtain rfl : u = x := by simpa using hx
    simp [Addr.add]
  | 1, hx =>
    obtain rfl : v = x := by simpa using hx
    simp [Addr.add]
  | j + 2, hx => simp at hx
/-- What is put behind what has come: the rest of the set, the span, whether it has been put. -/
def put : Sp → Int × Int → Bool → Sp
  | [], x, d => if d then [] else [x]
  | p :: ps, x, d => if p.2 + 1 < x.1 then p :: put ps x d else if x.2 + 1 < p.1 then (if d then [] else [x]) ++ p :: put ps x true else put ps (min x.1 p.1, max x.2 p.2) d
/-- All numbers are in bounds. -/
def InB (p : Int × Int) : Prop := (0 ≤ p.1 ∧ p.1 ≤ 9999) ∧ 0 ≤ p.2 ∧ p.2 ≤ 9999
theorem drop_at {ps : Sp} {k : Nat} (hk : k < ps.length) : ps.drop k = ps.at k :: ps.drop (k + 1) := by
  unfold Sp.at
  rw [List.drop_eq_getElem_cons hk, List.getElem?_eq_getElem hk]
  rfl
theorem put_a {ps : Sp} {k : Nat} {x : Int × Int} {d : Bool} (hk : k < ps.length) (h : (ps.at k).2 + 1 < x.1) : put (ps.drop k) x d = ps.at k :: put (ps.drop (k + 1)) x d := by rw [drop_at hk, put, if_pos h]
theorem put_b {ps : Sp} {k : Nat} {x : Int × Int} {d : Bool} (hk : k < ps.length) (h : ¬ (ps.at k).2 + 1 < x.1) (h2 : x.2 + 1 < (ps.at k).1) : put (ps.drop k) x d = (if d then [] else [x]) ++ ps.at k :: put (ps.drop (k + 1)) x true := by rw [drop_at hk, put, if_neg h, if_pos h2]
theorem put_c {ps : Sp} {k : Nat} {x : Int × Int} {d : Bool} (hk : k < ps.length) (h : ¬ (ps.at k).2 + 1 < x.1) (h2 : ¬ x.2 + 1 < (ps.at k).1) : put (ps.drop k) x d = put (ps.drop (k + 1)) (min x.1 (ps.at k).1, max x.2 (ps.at k).2) d := by rw [drop_at hk, put, if_neg h, if_neg h2]
theorem put_length : ∀ (ps : Sp) (x : Int × Int) (d : Bool), (put ps x d).length ≤ ps.length + 1
  | [], x, d => by cases d <;> simp [put]
  | p :: ps, x, d => by
    rw [put]
    split
    · have := put_length ps x d; simp; omega
    · split
      · cases d
        · have := put_true ps x; simp; omega
        · have := put_length ps x true; simp; omega
      · have := put_length ps (min x.1 p.1, max x.2 p.2) d; simp; omega
where put_true : ∀ (ps : Sp) (x : Int × Int), (put ps x true).length ≤ ps.length
  | [], x => by simp [put]
  | p :: ps, x => by
    rw [put]
    split
    · have := put_true ps x; simp; omega
    · split
      · have := put_true ps x; simp; omega
      · have := put_true ps (min x.1 p.1, max x.2 p.2); simp; omega
/-- Where the putting is: what has come, the span's box. -/
structure PutAt (w : World) (v : Value) (o : Sp) (x : Int × Int) (W : World) : Prop where
  own : W.ownsRow (w.heap.size + 1) 68 2 v o.length ((flat o).map (Value.int .i64))
  box : Blk W w.heap.size #[.int .i64 x.1, .int .i64 x.2] 68
  bel : Below w.heap.size w W
theorem PutAt.app {w W W6 : World} {v v' : Value} {o : Sp} {x : Int × Int} {p q : Int} (h : PutAt w v o x W) (hown : W6.ownsRow (w.heap.size + 1) 68 2 v' (o.length + 1) ((flat o).map (Value.int .i64) ++ [.int .i64 p, .int .i64 q])) (hgrow : (W.alloc (.cells #[.int .i64 p, .int .i64 q] 68)).grownBy W6 v.ownBlock) : PutAt w v' (o ++ [(p, q)]) x W6 := by
  have hne : ∀ k, v.ownBlock = some k → w.heap.size + 1 ≤ k := fun k hk => (h.own.lt k hk).1
  have hb : Below w.heap.size w (W.alloc (.cells #[.int .i64 p, .int .i64 q] 68)) := Below.allocW _ h.bel (Nat.le_refl _)
  refine ⟨?_, ?_, ?_⟩
  · rw [flat_append, List.map_append, List.length_append]
    exact hown
  · exact (h.box.alloc _).agree (hgrow.block _ (h.box.alloc _).lt (fun e => by have := hne _ e.symm; omega))
  · exact hb.grown hgrow hb.size (fun k hk => by have := hne k hk; omega)
theorem PutAt.drewN {w W : World} {v : Value} {o : Sp} {x : Int × Int} (h : PutAt w v o x W) (m : Nat) : PutAt w v o x (W.drewN m) := ⟨⟨h.own.1, h.own.2⟩, h.box, ⟨h.bel.os, h.bel.tape, h.bel.output, h.bel.size, h.bel.block⟩⟩
/-- A span lies in memory. -/
def SpanAt (b c : Nat) (p q : Int) (W : World) : Prop := W.cell? ⟨b, c, none⟩ = some (.int .i64 p) ∧ W.cell? ⟨b, c + 1, none⟩ = some (.int .i64 q)
theorem SpanAt.setRow {b c g : Nat} {p q : Int} {W : World} {cs : Array Value} (h : SpanAt b c p q W) (hn : b ≠ g) : SpanAt b c p q (W.setRow g cs) :=
  ⟨(World.cell?_of_block (w := W) (a := ⟨b, c, none⟩) (setRow_other W g b cs hn)).trans h.1, (World.cell?_of_block (w := W) (a := ⟨b, c + 1, none⟩) (setRow_other W g b cs hn)).trans h.2⟩
theorem PutAt.setBox {w W : World} {v : Value} {o : Sp} {x z : Int × Int} (h : PutAt w v o x W) : PutAt w v o z (W.setRow w.heap.size #[.int .i64 z.1, .int .i64 z.2]) := by
  refine ⟨⟨h.own.1, ?_⟩, h.box.setRow, below_setRow h.bel (Nat.le_refl _) _⟩
  rcases h.own.2 with e | ⟨g, cap, cur, h1, h2, h3, h4⟩
  · exact .inl e
  · exact .inr ⟨g, cap, cur, h1, h2, (setRow_other W _ g _ (by omega)).trans h3, h4⟩
set_option maxRecDepth 100000 in
set_option maxHeartbeats 8000000 in
theorem l5Put_own (a : Option Addr) (len cap : Nat) (ps : Sp) (x0 : Int × Int) (F : List Nat) (w : World) (h : RdP w a len ps F) (hlen : len ≤ 2097152) (hin : ∀ k, k < len → InB (ps.at k)) (hx : InB x0) :
    Calls Try.prog 82 #[.slice a len cap, .agg #[.int .i64 x0.1, .int .i64 x0.2]] w fun e w' => ∃ v, e = .returned v ∧ w'.ownsRow w.heap.size 68 2 v (put ps x0 false).length ((flat (put ps x0 false)).map (Value.int .i64)) ∧ Below w.heap.size w w' := by
  obtain ⟨t0, hi, hz0, hz1, hz2⟩ := info_parts infoSpan
  have HL : Hid (ps.length = len) := h.length
  have HIN : Hid ((∀ k, k < len → InB (ps.at k)) ∧ InB x0) := ⟨hin, hx⟩
  have HP0 : Hid (PutAt w (.slice (some ⟨w.heap.size + 1, 0, none⟩) 0 0) [] x0 ((w.alloc (.cells #[.int .i64 x0.1, .int .i64 x0.2] 68)).alloc (.cells #[] 68))) := by
    have e := own_empty2 (w.alloc (.cells #[.int .i64 x0.1, .int .i64 x0.2] 68)) 68
    simp only [World.size_alloc] at e
    exact ⟨e, (Blk.made _ _ _).alloc _, Below.allocW _ (Below.allocW _ (Below.refl _ _) (Nat.le_refl _)) (Nat.le_refl _)⟩
  have HC : Hid (len = 0 ∨ ∃ b off, a = some ⟨b, off, none⟩ ∧ b < w.heap.size ∧ SpCells w b off len ps) := by
    rcases h.cells with ⟨h0, _⟩ | ⟨b, off, hp, e, _, hc⟩
    · exact .inl h0
    · exact .inr ⟨b, off, e, World.block_lt_of_cell? _ _ (hc 0 hp).1, hc⟩
  clear h hin hx
  obtain ⟨xa, xb⟩ := x0
  go_enter Try.func82, Try.ntmps82
  go_wp2
  go_loopw [5, 6, 7] (fun v d i wr => ∃ (k : Nat) (o : Sp) (x : Int × Int) (f : Bool), k ≤ len ∧ i = .int .i64 k ∧ d = .bool f ∧ o.length ≤ k + 1 ∧ Hid (PutAt w v o x wr) ∧ Hid (InB x) ∧ Hid (o ++ put (ps.drop k) x f = put ps (xa, xb) false) ∧ Hid (f = false → o.length ≤ k)) (fun _ _ i _ => len - (intOf i).toNat)
  case atStart => exact ⟨0, [], (xa, xb), false, by omega, rfl, rfl, by simp, HP0, HIN.out.2, rfl, fun _ => by simp⟩
  case round =>
    clear HP0
    obtain ⟨k, o, ⟨x, y⟩, f, hk, rfl, rfl, hol, HP, HX, HN, HF⟩ := hrel
    obtain ⟨⟨x0, x1⟩, y0, y1⟩ := HX.out
    by_cases hlt : k < len
    · have hca := HC.out
      rcases hca with h0 | ⟨b, off, rfl, hbw, hc⟩
      · omega
      obtain ⟨p, hp⟩ : ∃ x, x = (ps.at k).1 := ⟨_, rfl⟩
      obtain ⟨q, hq⟩ : ∃ x, x = (ps.at k).2 := ⟨_, rfl⟩
      have e := hc k hlt
      have hb := HIN.out.1 k hlt
      have HPQ : Hid (ps.at k = (p, q)) := by rw [hp, hq]; rfl
      rw [HPQ.out] at hb e
      obtain ⟨⟨p0, p1⟩, q0, q1⟩ := hb
      have d1 : wr.cell? ⟨b, off + k * 2, none⟩ = some (.int .i64 p) := (HP.out.bel.cell (by exact hbw)).trans e.1
      have d2 : wr.cell? ⟨b, off + k * 2 + 1, none⟩ = some (.int .i64 q) := (HP.out.bel.cell (by exact hbw)).trans e.2
      have b1 : wr.cell? ⟨w.heap.size, 0, none⟩ = some (.int .i64 x) := by rw [HP.out.box.cell]; rfl
      have b2 : wr.cell? ⟨w.heap.size, 1, none⟩ = some (.int .i64 y) := by rw [HP.out.box.cell]; rfl
      have hI : (k : Int) < (len : Int) := by omega
      have hkl : k < ps.length := by rw [HL.out]; exact hlt
      clear e hp hq hc
      by_cases c1 : q + 1 < x
      · have c1d : decide (q + 1 < x) = true := decT c1
        have HN2 : Hid (o ++ [(p, q)] ++ put (ps.drop (k + 1)) (x, y) f = put ps (xa, xb) false) := by
          rw [put_a hkl (by rw [HPQ.out]; exact c1), HPQ.out] at HN
          show _ = _
          rw [← HN.out]; simp
        go_wp2
        go_quiet (fail)
        have HP1 : Hid (PutAt w u5 o (x, y) (wr.drewN nq)) := HP.out.drewN nq
        go_wp2_with (first | go_skip | (with_reducible refine stopAppend2 rfl ?_))
        refine Stop.intro (wpList_append_own _ rfl _ _ 24 rfl (w.heap.size + 1) 68 t0 (.agg #[.int .i64 0, .int .i64 0]) 2 16 Try.underlying24 hi hz0 hz1 hz2 rfl (by decide) _ (o).length ((flat (o)).map (Value.int .i64)) rfl (HP1.out.own.alloc _) ⟨(wr.drewN nq).heap.size, 0, none⟩ 1 1 [.int .i64 p, .int .i64 q] rfl rfl (cell_new2 _ _ _ _) (by intro u hu; simp at hu; rcases hu with rfl | rfl <;> rfl) (by unfold maxLen; omega) (by omega) (by have := HP1.out.box.lt; simp at this ⊢; omega) ?_)
        intro v2 w2 hown hgrow _
        have HP2 : Hid (PutAt w v2 (o ++ [(p, q)]) (x, y) w2) := HP1.out.app hown hgrow
        have HF2 : Hid (f = false → (o ++ [(p, q)]).length ≤ k + 1) := fun e => by have := HF.out e; simp; omega
        clear hown hgrow HP1
        go_wp2
        go_roundw
        case rel => exact ⟨k + 1, o ++ [(p, q)], (x, y), f, by omega, by go_num, rfl, by simp; omega, HP2, HX, HN2, HF2⟩
        case measure => simp [intOf]; omega
      have c1d : decide (q + 1 < x) = false := decF c1
      by_cases c2 : y + 1 < p
      · have c2d : decide (y + 1 < p) = true := decT c2
        cases f
        · have hol2 : o.length ≤ k := HF.out rfl
          have HN2 : Hid (o ++ [(x, y)] ++ [(p, q)] ++ put (ps.drop (k + 1)) (x, y) true = put ps (xa, xb) false) := by
            rw [put_b hkl (by rw [HPQ.out]; exact c1) (by rw [HPQ.out]; exact c2), HPQ.out] at HN
            show _ = _
            rw [← HN.out]; simp
          go_wp2
          go_quiet (fail)
          obtain ⟨wq, hwq⟩ : ∃ W, W = wr.drewN nq := ⟨_, rfl⟩
          have HPq : Hid (PutAt w u5 o (x, y) wq) := by rw [hwq]; exact HP.out.drewN nq
          have d1 : wq.cell? ⟨b, off + k * 2, none⟩ = some (.int .i64 p) := by rw [hwq]; exact d1
          have d2 : wq.cell? ⟨b, off + k * 2 + 1, none⟩ = some (.int .i64 q) := by rw [hwq]; exact d2
          have b1 : wq.cell? ⟨w.heap.size, 0, none⟩ = some (.int .i64 x) := by rw [hwq]; exact b1
          have b2 : wq.cell? ⟨w.heap.size, 1, none⟩ = some (.int .i64 y) := by rw [hwq]; exact b2
          rw [← hwq]
          clear HP hwq
          go_wp2
          go_quiet (fail)
          have HP1 : Hid (PutAt w u5 o (x, y) (wq.drewN nq)) := HPq.out.drewN nq
          go_wp2_with (first | go_skip | (with_reducible refine stopAppend2 rfl ?_))
          refine Stop.intro (wpList_append_own _ rfl _ _ 24 rfl (w.heap.size + 1) 68 t0 (.agg #[.int .i64 0, .int .i64 0]) 2 16 Try.underlying24 hi hz0 hz1 hz2 rfl (by decide) _ (o).length ((flat (o)).map (Value.int .i64)) rfl (HP1.out.own.alloc _) ⟨(wq.drewN nq).heap.size, 0, none⟩ 1 1 [.int .i64 x, .int .i64 y] rfl rfl (cell_new2 _ _ _ _) (by intro u hu; simp at hu; rcases hu with rfl | rfl <;> rfl) (by unfold maxLen; omega) (by omega) (by have := HP1.out.box.lt; simp at this ⊢; omega) ?_)
          intro v2 w2 hown hgrow _
          have HP2 : Hid (PutAt w v2 (o ++ [(x, y)]) (x, y) w2) := HP1.out.app hown hgrow
          have hl2 : (o ++ [(x, y)]).length = o.length + 1 := by simp
          have d1 : w2.cell? ⟨b, off + k * 2, none⟩ = some (.int .i64 p) := ((HP2.out.bel.cell (by exact hbw)).trans ((HPq.out.bel.cell (by exact hbw)).symm.trans d1))
          have d2 : w2.cell? ⟨b, off + k * 2 + 1, none⟩ = some (.int .i64 q) := ((HP2.out.bel.cell (by exact hbw)).trans ((HPq.out.bel.cell (by exact hbw)).symm.trans d2))
          obtain ⟨o2, ho2⟩ : ∃ o2, o2 = o ++ [(x, y)] := ⟨_, rfl⟩
          rw [← ho2] at HP2 hl2 HN2
          clear hown hgrow HP1 b1 b2 HPq
          go_wp2_with (first | go_skip | (with_reducible refine stopAppend2 rfl ?_))
          refine Stop.intro (wpList_append_own _ rfl _ _ 24 rfl (w.heap.size + 1) 68 t0 (.agg #[.int .i64 0, .int .i64 0]) 2 16 Try.underlying24 hi hz0 hz1 hz2 rfl (by decide) _ (o2).length ((flat (o2)).map (Value.int .i64)) rfl (HP2.out.own.alloc _) ⟨w2.heap.size, 0, none⟩ 1 1 [.int .i64 p, .int .i64 q] rfl rfl (cell_new2 _ _ _ _) (by intro u hu; simp at hu; rcases hu with rfl | rfl <;> rfl) (by unfold maxLen; omega) (by omega) (by have := HP2.out.box.lt; simp at this ⊢; omega) ?_)
          intro v3 w3 hown hgrow _
          have HP3 : Hid (PutAt w v3 (o2 ++ [(p, q)]) (x, y) w3) := HP2.out.app hown hgrow
          clear hown hgrow HP2
          go_wp2
          go_roundw
          case rel => exact ⟨k + 1, o2 ++ [(p, q)], (x, y), true, by omega, by go_num, rfl, by simp; omega, HP3, HX, HN2, fun e => by cases e⟩
          case measure => simp [intOf]; omega
        · have HN2 : Hid (o ++ [(p, q)] ++ put (ps.drop (k + 1)) (x, y) true = put ps (xa, xb) false) := by
            rw [put_b hkl (by rw [HPQ.out]; exact c1) (by rw [HPQ.out]; exact c2), HPQ.out] at HN
            show _ = _
            rw [← HN.out]; simp
          go_wp2
          go_quiet (fail)
          obtain ⟨wq, hwq⟩ : ∃ W, W = wr.drewN nq := ⟨_, rfl⟩
          have HPq : Hid (PutAt w u5 o (x, y) wq) := by rw [hwq]; exact HP.out.drewN nq
          have d1 : wq.cell? ⟨b, off + k * 2, none⟩ = some (.int .i64 p) := by rw [hwq]; exact d1
          have d2 : wq.cell? ⟨b, off + k * 2 + 1, none⟩ = some (.int .i64 q) := by rw [hwq]; exact d2
          have b1 : wq.cell? ⟨w.heap.size, 0, none⟩ = some (.int .i64 x) := by rw [hwq]; exact b1
          have b2 : wq.cell? ⟨w.heap.size, 1, none⟩ = some (.int .i64 y) := by rw [hwq]; exact b2
          rw [← hwq]
          clear HP hwq
          go_wp2
          go_quiet (fail)
          have HP1 : Hid (PutAt w u5 o (x, y) (wq.drewN nq)) := HPq.out.drewN nq
          go_wp2_with (first | go_skip | (with_reducible refine stopAppend2 rfl ?_))
          refine Stop.intro (wpList_append_own _ rfl _ _ 24 rfl (w.heap.size + 1) 68 t0 (.agg #[.int .i64 0, .int .i64 0]) 2 16 Try.underlying24 hi hz0 hz1 hz2 rfl (by decide) _ (o).length ((flat (o)).map (Value.int .i64)) rfl (HP1.out.own.alloc _) ⟨(wq.drewN nq).heap.size, 0, none⟩ 1 1 [.int .i64 p, .int .i64 q] rfl rfl (cell_new2 _ _ _ _) (by intro u hu; simp at hu; rcases hu with rfl | rfl <;> rfl) (by unfold maxLen; omega) (by omega) (by have := HP1.out.box.lt; simp at this ⊢; omega) ?_)
          intro v2 w2 hown hgrow _
          have HP2 : Hid (PutAt w v2 (o ++ [(p, q)]) (x, y) w2) := HP1.out.app hown hgrow
          clear hown hgrow HP1
          go_wp2
          go_roundw
          case rel => exact ⟨k + 1, o ++ [(p, q)], (x, y), true, by omega, by go_num, rfl, by simp; omega, HP2, HX, HN2, fun e => by cases e⟩
          case measure => simp [intOf]; omega
      have c2d : decide (y + 1 < p) = false := decF c2
      have HN2 : Hid (o ++ put (ps.drop (k + 1)) (min x p, max y q) f = put ps (xa, xb) false) := by
        rw [put_c hkl (by rw [HPQ.out]; exact c1) (by rw [HPQ.out]; exact c2), HPQ.out] at HN
        exact HN
      have HX2 : Hid (InB (min x p, max y q)) := by show InB _; unfold InB; simp only; omega
      go_wp2
      go_quiet (fail)
      obtain ⟨wq, hwq⟩ : ∃ W, W = wr.drewN nq := ⟨_, rfl⟩
      have HPq : Hid (PutAt w u5 o (x, y) wq) := by rw [hwq]; exact HP.out.drewN nq
      have d1 : wq.cell? ⟨b, off + k * 2, none⟩ = some (.int .i64 p) := by rw [hwq]; exact d1
      have d2 : wq.cell? ⟨b, off + k * 2 + 1, none⟩ = some (.int .i64 q) := by rw [hwq]; exact d2
      have b1 : wq.cell? ⟨w.heap.size, 0, none⟩ = some (.int .i64 x) := by rw [hwq]; exact b1
      have b2 : wq.cell? ⟨w.heap.size, 1, none⟩ = some (.int .i64 y) := by rw [hwq]; exact b2
      rw [← hwq]
      clear HP hwq
      go_wp2
      go_quiet (fail)
      have HP1 : Hid (PutAt w u5 o (x, y) (wq.drewN nq).drew) := (HPq.out.drewN nq).drewN 1
      have HS : Hid (((wq.drewN nq).drew.cell? ⟨w.heap.size, 0, none⟩ = some (.int .i64 x) ∧ (wq.drewN nq).drew.cell? ⟨w.heap.size, 1, none⟩ = some (.int .i64 y)) ∧ SpanAt b (off + k * 2) p q (wq.drewN nq).drew) := ⟨⟨b1, b2⟩, d1, d2⟩
      clear d1 d2 b1 b2 HPq
      go_wp2
      refine wp_region_held (S := SpanAt b (off + k * 2) p q) (by kernel_rfl) ?_
      change wpAnyH _ _ _ _ _ _ _ _ (World.drew _)
      refine takeH (o := ?o1) 0 (.pointer (some ⟨w.heap.size, 0, none⟩)) ?h1 ?r1
      case h1 => simp only [List.getElem?_toArray, List.getElem?_cons_zero]; rfl
      refine ⟨_, by simp [Act.put]; rfl, by kernel_rfl, by kernel_rfl, by kernel_rfl, fun _ _ _ h => h, (.inl ⟨rfl, fun W _ => by go_simp⟩), HS.out.2, ?_⟩
      refine takeH (o := ?o2) 2 (.slice (some ⟨b, off, none⟩) len cap) ?h2 ?r2
      case h2 => simp only [List.getElem?_toArray, List.getElem?_cons_succ, List.getElem?_cons_zero]; rfl
      refine ⟨_, by simp [Act.put]; rfl, by kernel_rfl, by kernel_rfl, by kernel_rfl, fun _ _ _ h => h, (.inl ⟨rfl, fun W _ => by go_simp⟩), HS.out.2, ?_⟩
      refine takeH (o := ?o3) 3 (.int .i64 k) ?h3 ?r3
      case h3 => simp only [List.getElem?_toArray, List.getElem?_cons_succ, List.getElem?_cons_zero]; rfl
      refine ⟨_, by simp [Act.put]; rfl, by kernel_rfl, by kernel_rfl, by kernel_rfl, fun _ _ _ h => h, (.inl ⟨rfl, fun W _ => by go_simp⟩), HS.out.2, ?_⟩
      refine takeH (o := ?o4) 4 (.pointer (some ⟨b, off + k * 2, none⟩)) ?h4 ?r4
      case h4 => simp only [List.getElem?_toArray, List.getElem?_cons_succ, List.getElem?_cons_zero]; rfl
      refine ⟨_, by simp [Act.put]; rfl, by kernel_rfl, by kernel_rfl, by kernel_rfl, fun _ _ _ h => h, (.inl ⟨rfl, fun W _ => by go_simp⟩), HS.out.2, ?_⟩
      refine takeH (o := ?o5) 5 (.pointer (some ⟨b, off + k * 2, none⟩)) ?h5 ?r5
      case h5 => simp only [List.getElem?_toArray, List.getElem?_cons_succ, List.getElem?_cons_zero]; rfl
      refine ⟨_, by simp [Act.put]; rfl, by kernel_rfl, by kernel_rfl, by kernel_rfl, fun _ _ _ h => h, (.inl ⟨rfl, fun W _ => by go_simp⟩), HS.out.2, ?_⟩
      refine takeH (o := ?o6) 6 (.int .i64 p) ?h6 ?r6
      case h6 => simp only [List.getElem?_toArray, List.getElem?_cons_succ, List.getElem?_cons_zero]; rfl
      refine ⟨_, by simp [Act.put]; rfl, by kernel_rfl, by kernel_rfl, by kernel_rfl, fun _ _ _ h => h, (.inl ⟨rfl, fun W hW => by have c := hW.1; go_simp⟩), HS.out.2, ?_⟩
      refine takeH (o := ?o7) 8 (.pointer (some ⟨w.heap.size, 1, none⟩)) ?h7 ?r7
      case h7 => simp only [List.getElem?_toArray, List.getElem?_cons_succ, List.getElem?_cons_zero]; rfl
      refine ⟨_, by simp [Act.put]; rfl, by kernel_rfl, by kernel_rfl, by kernel_rfl, fun _ _ _ h => h, (.inl ⟨rfl, fun W _ => by go_simp⟩), HS.out.2, ?_⟩
      refine takeH (o := ?o8) 10 (.slice (some ⟨b, off, none⟩) len cap) ?h8 ?r8
      case h8 => simp only [List.getElem?_toArray, List.getElem?_cons_succ, List.getElem?_cons_zero]; rfl
      refine ⟨_, by simp [Act.put]; rfl, by kernel_rfl, by kernel_rfl, by kernel_rfl, fun _ _ _ h => h, (.inl ⟨rfl, fun W _ => by go_simp⟩), HS.out.2, ?_⟩
      refine takeH (o := ?o9) 11 (.int .i64 k) ?h9 ?r9
      case h9 => simp only [List.getElem?_toArray, List.getElem?_cons_succ, List.getElem?_cons_zero]; rfl
      refine ⟨_, by simp [Act.put]; rfl, by kernel_rfl, by kernel_rfl, by kernel_rfl, fun _ _ _ h => h, (.inl ⟨rfl, fun W _ => by go_simp⟩), HS.out.2, ?_⟩
      refine takeH (o := ?o10) 12 (.pointer (some ⟨b, off + k * 2, none⟩)) ?h10 ?r10
      case h10 => simp only [List.getElem?_toArray, List.getElem?_cons_succ, List.getElem?_cons_zero]; rfl
      refine ⟨_, by simp [Act.put]; rfl, by kernel_rfl, by kernel_rfl, by kernel_rfl, fun _ _ _ h => h, (.inl ⟨rfl, fun W _ => by go_simp⟩), HS.out.2, ?_⟩
      refine takeH (o := ?o11) 13 (.pointer (some ⟨b, off + k * 2 + 1, none⟩)) ?h11 ?r11
      case h11 => simp only [List.getElem?_toArray, List.getElem?_cons_succ, List.getElem?_cons_zero]; rfl
      refine ⟨_, by simp [Act.put]; rfl, by kernel_rfl, by kernel_rfl, by kernel_rfl, fun _ _ _ h => h, (.inl ⟨rfl, fun W _ => by go_simp⟩), HS.out.2, ?_⟩
      refine takeH (o := ?o12) 14 (.int .i64 q) ?h12 ?r12
      case h12 => simp only [List.getElem?_toArray, List.getElem?_cons_succ, List.getElem?_cons_zero]; rfl
      refine ⟨_, by simp [Act.put]; rfl, by kernel_rfl, by kernel_rfl, by kernel_rfl, fun _ _ _ h => h, (.inl ⟨rfl, fun W hW => by have c := hW.2; go_simp⟩), HS.out.2, ?_⟩
      refine twoH (o := ?o13) (o' := ?p13) 1 9 (by kernel_rfl) ?h13 ?g13 ?r13 ?s13
      case h13 => simp only [List.getElem?_toArray, List.getElem?_cons_succ, List.getElem?_cons_zero]; rfl
      case g13 => simp only [List.getElem?_toArray, List.getElem?_cons_succ, List.getElem?_cons_zero]; rfl
      case r13 =>
        intro K hK
        refine op_value (.int .i64 x) rfl (by have c : wq.cell? ⟨w.heap.size, 0, none⟩ = some (.int .i64 x) := HS.out.1.1; go_simp) ⟨_, by simp [Act.put]; rfl, hK _ _ ⟨HS.out.2, ?_⟩⟩
        clear hK
        refine twoH (o := ?o14) (o' := ?p14) 7 9 (by kernel_rfl) ?h14 ?g14 ?r14 ?s14
        case h14 => simp only [List.getElem?_toArray, List.getElem?_cons_succ, List.getElem?_cons_zero]; rfl
        case g14 => simp only [List.getElem?_toArray, List.getElem?_cons_succ, List.getElem?_cons_zero]; rfl
        case r14 =>
          intro K hK
          refine op_call2 84 _ _ _ Try.f84 (fun w' => w' = (wq.drewN nq).drew) (.int .i64 (min x p)) rfl rfl Try.func84 (by kernel_rfl) (by kernel_rfl) (l1Min_any x p _) ⟨_, by simp [Act.put]; rfl, ?_⟩
          intro wc hwc
          subst hwc
          refine hK _ _ ⟨HS.out.2, ?_⟩
          clear hK
          refine onlyH (o := ?o15) 9 (by kernel_rfl) ?h15 ?r15
          case h15 => simp only [List.getElem?_toArray, List.getElem?_cons_succ, List.getElem?_cons_zero]; rfl
          intro K hK
          refine op_value (.int .i64 y) rfl (by have c : wq.cell? ⟨w.heap.size, 1, none⟩ = some (.int .i64 y) := HS.out.1.2; go_simp) ⟨_, by simp [Act.put]; rfl, hK _ _ ⟨HS.out.2, ?_⟩⟩
          clear hK
          refine onlyH (o := ?o16) 15 (by kernel_rfl) ?h16 ?r16
          case h16 => simp only [List.getElem?_toArray, List.getElem?_cons_succ, List.getElem?_cons_zero]; rfl
          intro K hK
          refine op_call2 85 _ _ _ Try.f85 (fun w' => w' = (wq.drewN nq).drew) (.int .i64 (max y q)) rfl rfl Try.func85 (by kernel_rfl) (by kernel_rfl) (l1Max_any y q _) ⟨_, by simp [Act.put]; rfl, ?_⟩
          intro wc hwc
          subst hwc
          refine hK _ _ ⟨HS.out.2, ?_⟩
          clear hK
          refine takeH (o := ?o17) 16 (.agg #[.int .i64 (min x p), .int .i64 (max y q)]) ?h17 ?r17
          case h17 => simp only [List.getElem?_toArray, List.getElem?_cons_succ, List.getElem?_cons_zero]; rfl
          refine ⟨_, by simp [Act.put]; rfl, by kernel_rfl, by kernel_rfl, by kernel_rfl, fun _ _ _ h => h, (.inl ⟨rfl, fun W _ => by go_simp⟩), HS.out.2, ?_⟩
          refine onlyH (o := ?o18) 17 (by kernel_rfl) ?h18 ?r18
          case h18 => simp only [List.getElem?_toArray, List.getElem?_cons_succ, List.getElem?_cons_zero]; rfl
          intro K hK
          refine op_store 68 w.heap.size #[.int .i64 x, .int .i64 y] #[.int .i64 (min x p), .int .i64 (max y q)] 68 rfl rfl rfl rfl HP1.out.box (by kernel_rfl) rfl (by kernel_rfl) ⟨_, by simp [Act.put]; rfl, hK _ _ ⟨HS.out.2.setRow (by omega), ?_⟩⟩
          clear hK
          refine wpAnyH_done (by kernel_rfl) ?_ _
          have HP2 : Hid (PutAt w u5 o (min x p, max y q) ((wq.drewN nq).drew.setRow w.heap.size #[.int .i64 (min x p), .int .i64 (max y q)])) := HP1.out.setBox
          have HF2 : Hid (f = false → o.length ≤ k + 1) := fun e => by have := HF.out e; omega
          clear HP1 HS
          go_wp2
          go_roundw
          case rel => exact ⟨k + 1, o, (min x p, max y q), f, by omega, by go_num, rfl, by omega, HP2, HX2, HN2, HF2⟩
          case measure => simp [intOf]; omega
        case s14 =>
          intro K hK
          refine op_value (.int .i64 y) rfl (by have c : wq.cell? ⟨w.heap.size, 1, none⟩ = some (.int .i64 y) := HS.out.1.2; go_simp) ⟨_, by simp [Act.put]; rfl, hK _ _ ⟨HS.out.2, ?_⟩⟩
          clear hK
          refine onlyH (o := ?o19) 7 (by kernel_rfl) ?h19 ?r19
          case h19 => simp only [List.getElem?_toArray, List.getElem?_cons_succ, List.getElem?_cons_zero]; rfl
          intro K hK
          refine op_call2 84 _ _ _ Try.f84 (fun w' => w' = (wq.drewN nq).drew) (.int .i64 (min x p)) rfl rfl Try.func84 (by kernel_rfl) (by kernel_rfl) (l1Min_any x p _) ⟨_, by simp [Act.put]; rfl, ?_⟩
          intro wc hwc
          subst hwc
          refine hK _ _ ⟨HS.out.2, ?_⟩
          clear hK
          refine onlyH (o := ?o20) 15 (by kernel_rfl) ?h20 ?r20
          case h20 => simp only [List.getElem?_toArray, List.getElem?_cons_succ, List.getElem?_cons_zero]; rfl
          intro K hK
          refine op_call2 85 _ _ _ Try.f85 (fun w' => w' = (wq.drewN nq).drew) (.int .i64 (max y q)) rfl rfl Try.func85 (by kernel_rfl) (by kernel_rfl) (l1Max_any y q _) ⟨_, by simp [Act.put]; rfl, ?_⟩
          intro wc hwc
          subst hwc
          refine hK _ _ ⟨HS.out.2, ?_⟩
          clear hK
          refine takeH (o := ?o21) 16 (.agg #[.int .i64 (min x p), .int .i64 (max y q)]) ?h21 ?r21
          case h21 => simp only [List.getElem?_toArray, List.getElem?_cons_succ, List.getElem?_cons_zero]; rfl
          refine ⟨_, by simp [Act.put]; rfl, by kernel_rfl, by kernel_rfl, by kernel_rfl, fun _ _ _ h => h, (.inl ⟨rfl, fun W _ => by go_simp⟩), HS.out.2, ?_⟩
          refine onlyH (o := ?o22) 17 (by kernel_rfl) ?h22 ?r22
          case h22 => simp only [List.getElem?_toArray, List.getElem?_cons_succ, List.getElem?_cons_zero]; rfl
          intro K hK
          refine op_store 68 w.heap.size #[.int .i64 x, .int .i64 y] #[.int .i64 (min x p), .int .i64 (max y q)] 68 rfl rfl rfl rfl HP1.out.box (by kernel_rfl) rfl (by kernel_rfl) ⟨_, by simp [Act.put]; rfl, hK _ _ ⟨HS.out.2.setRow (by omega), ?_⟩⟩
          clear hK
          refine wpAnyH_done (by kernel_rfl) ?_ _
          have HP2 : Hid (PutAt w u5 o (min x p, max y q) ((wq.drewN nq).drew.setRow w.heap.size #[.int .i64 (min x p), .int .i64 (max y q)])) := HP1.out.setBox
          have HF2 : Hid (f = false → o.length ≤ k + 1) := fun e => by have := HF.out e; omega
          clear HP1 HS
          go_wp2
          go_roundw
          case rel => exact ⟨k + 1, o, (min x p, max y q), f, by omega, by go_num, rfl, by omega, HP2, HX2, HN2, HF2⟩
          case measure => simp [intOf]; omega
      case s13 =>
        intro K hK
        refine op_value (.int .i64 y) rfl (by have c : wq.cell? ⟨w.heap.size, 1, none⟩ = some (.int .i64 y) := HS.out.1.2; go_simp) ⟨_, by simp [Act.put]; rfl, hK _ _ ⟨HS.out.2, ?_⟩⟩
        clear hK
        refine onlyH (o := ?o23) 1 (by kernel_rfl) ?h23 ?r23
        case h23 => simp only [List.getElem?_toArray, List.getElem?_cons_succ, List.getElem?_cons_zero]; rfl
        intro K hK
        refine op_value (.int .i64 x) rfl (by have c : wq.cell? ⟨w.heap.size, 0, none⟩ = some (.int .i64 x) := HS.out.1.1; go_simp) ⟨_, by simp [Act.put]; rfl, hK _ _ ⟨HS.out.2, ?_⟩⟩
        clear hK
        refine onlyH (o := ?o24) 7 (by kernel_rfl) ?h24 ?r24
        case h24 => simp only [List.getElem?_toArray, List.getElem?_cons_succ, List.getElem?_cons_zero]; rfl
        intro K hK
        refine op_call2 84 _ _ _ Try.f84 (fun w' => w' = (wq.drewN nq).drew) (.int .i64 (min x p)) rfl rfl Try.func84 (by kernel_rfl) (by kernel_rfl) (l1Min_any x p _) ⟨_, by simp [Act.put]; rfl, ?_⟩
        intro wc hwc
        subst hwc
        refine hK _ _ ⟨HS.out.2, ?_⟩
        clear hK
        refine onlyH (o := ?o25) 15 (by kernel_rfl) ?h25 ?r25
        case h25 => simp only [List.getElem?_toArray, List.getElem?_cons_succ, List.getElem?_cons_zero]; rfl
        intro K hK
        refine op_call2 85 _ _ _ Try.f85 (fun w' => w' = (wq.drewN nq).drew) (.int .i64 (max y q)) rfl rfl Try.func85 (by kernel_rfl) (by kernel_rfl) (l1Max_any y q _) ⟨_, by simp [Act.put]; rfl, ?_⟩
        intro wc hwc
        subst hwc
        refine hK _ _ ⟨HS.out.2, ?_⟩
        clear hK
        refine takeH (o := ?o26) 16 (.agg #[.int .i64 (min x p), .int .i64 (max y q)]) ?h26 ?r26
        case h26 => simp only [List.getElem?_toArray, List.getElem?_cons_succ, List.getElem?_cons_zero]; rfl
        refine ⟨_, by simp [Act.put]; rfl, by kernel_rfl, by kernel_rfl, by kernel_rfl, fun _ _ _ h => h, (.inl ⟨rfl, fun W _ => by go_simp⟩), HS.out.2, ?_⟩
        refine onlyH (o := ?o27) 17 (by kernel_rfl) ?h27 ?r27
        case h27 => simp only [List.getElem?_toArray, List.getElem?_cons_succ, List.getElem?_cons_zero]; rfl
        intro K hK
        refine op_store 68 w.heap.size #[.int .i64 x, .int .i64 y] #[.int .i64 (min x p), .int .i64 (max y q)] 68 rfl rfl rfl rfl HP1.out.box (by kernel_rfl) rfl (by kernel_rfl) ⟨_, by simp [Act.put]; rfl, hK _ _ ⟨HS.out.2.setRow (by omega), ?_⟩⟩
        clear hK
        refine wpAnyH_done (by kernel_rfl) ?_ _
        have HP2 : Hid (PutAt w u5 o (min x p, max y q) ((wq.drewN nq).drew.setRow w.heap.size #[.int .i64 (min x p), .int .i64 (max y q)])) := HP1.out.setBox
        have HF2 : Hid (f = false → o.length ≤ k + 1) := fun e => by have := HF.out e; omega
        clear HP1 HS
        go_wp2
        go_roundw
        case rel => exact ⟨k + 1, o, (min x p, max y q), f, by omega, by go_num, rfl, by omega, HP2, HX2, HN2, HF2⟩
        case measure => simp [intOf]; omega
    · obtain rfl : k = len := by omega
      have hdr : ps.drop k = [] := List.drop_of_length_le (by rw [HL.out]; omega)
      cases f
      · have HV : Hid (o ++ [(x, y)] = put ps (xa, xb) false) := by
          have e := HN.out
          rw [hdr] at e
          exact e
        have hol2 : o.length ≤ k := HF.out rfl
        have b1 : wr.cell? ⟨w.heap.size, 0, none⟩ = some (.int .i64 x) := by rw [HP.out.box.cell]; rfl
        have b2 : wr.cell? ⟨w.heap.size, 1, none⟩ = some (.int .i64 y) := by rw [HP.out.box.cell]; rfl
        clear hdr
        go_wp2_with (first | go_skip | (with_reducible refine stopAppend2 rfl ?_))
        refine Stop.intro (wpList_append_own _ rfl _ _ 24 rfl (w.heap.size + 1) 68 t0 (.agg #[.int .i64 0, .int .i64 0]) 2 16 Try.underlying24 hi hz0 hz1 hz2 rfl (by decide) _ (o).length ((flat (o)).map (Value.int .i64)) rfl (HP.out.own.alloc _) ⟨wr.heap.size, 0, none⟩ 1 1 [.int .i64 x, .int .i64 y] rfl rfl (cell_new2 _ _ _ _) (by intro u hu; simp at hu; rcases hu with rfl | rfl <;> rfl) (by unfold maxLen; omega) (by omega) (by have := HP.out.box.lt; simp at this ⊢; omega) ?_)
        intro v2 w2 hown hgrow _
        have HP2 : Hid (PutAt w v2 (o ++ [(x, y)]) (x, y) w2) := HP.out.app hown hgrow
        clear hown hgrow
        go_wp2
        go_ret
        have e := HP2.out.own
        rw [HV.out] at e
        exact ⟨_, rfl, own_mono e (by omega), HP2.out.bel⟩
      · have HV : Hid (o = put ps (xa, xb) false) := by
          have e := HN.out
          rw [hdr] at e
          show _ = _
          simpa [put] using e
        clear hdr
        go_wp2
        go_ret
        have e := HP.out.own
        rw [HV.out] at e
        exact ⟨_, rfl, own_mono e (by omega), HP.out.bel⟩
set_option maxRecDepth 200000 in
theorem l5Put_any (a : Option Addr) (len cap : Nat) (ps : Sp) (x0 : Int × Int) (F : List Nat) (w : World) (h : RdP w a len ps F) (hlen : len ≤ 2097152) (hin : ∀ k, k < len → InB (ps.at k)) (hx : InB x0) :
    Calls Try.prog 82 #[.slice a len cap, .agg #[.int .i64 x0.1, .int .i64 x0.2]] w fun e w' => NewP w (put ps x0 false) e w' :=
  (l5Put_own a len cap ps x0 F w h hlen hin hx).mono (fun _ _ h => by
    obtain ⟨v, rfl, h1, h2⟩ := h
    obtain ⟨a', c', F', rfl, hr, ho, hnn⟩ := rdP_of_own h1
    exact ⟨_, _, _, F', rfl, hr, ho, h2, hnn⟩)
end Go.Proofs.Ytbmbmnhamogghab
/- The walks through the model's SetAdd and SetJoin. No statement of the seat is proved here. -/
namespace Go.Proofs.Ytbmbmnhamogghab
open Go.RowKit
/-- A set and a word. -/
def NewP2 (w : World) (ps : Sp) (d : Bool) (e : Ending) (w' : World) : Prop :=
  ∃ a len cap F, e = .returned (.tuple #[.slice a len cap, .bool d]) ∧ RdP w' a len ps F ∧ Own w.heap.size w' F ∧ Below w.heap.size w w' ∧ Capd a len cap
theorem NewP.from {w w1 w' : World} {ps : Sp} {e : Ending} (hb : Below w.heap.size w w1) (h : NewP w1 ps e w') : NewP w ps e w' := by
  obtain ⟨a, len, cap, F, h1, h2, h3, h4, h5⟩ := h
  exact ⟨a, len, cap, F, h1, h2, h3.mono hb.size, Below.next hb h4, h5⟩
theorem cells_flat {w : World} {b off len : Nat} {ps : Sp} {F : List Nat} (h : RdP w (some ⟨b, off, none⟩) len ps F) (hp : 0 < len) : ∀ j v, ((flat ps).map (Value.int .i64))[j]? = some v → w.cell? ((⟨b, off, none⟩ : Addr).add j) = some v := by
  intro j v hj
  rcases h.rd.cells with ⟨h0, _⟩ | ⟨b', off', _, he, _, hc⟩
  · omega
  · obtain ⟨rfl, rfl⟩ : b = b' ∧ off = off' := by simpa using he
    have hjl : j < (flat ps).length := by
      have := (List.getElem?_eq_some_iff.1 hj).1
      simpa using this
    rw [flat_length, h.length] at hjl
    rw [sp_add, hc j hjl]
    rw [List.getElem?_map] at hj
    rw [List.getD_eq_getElem?_getD]
    have hjl' : j < (flat ps).length := by rw [flat_length, h.length]; exact hjl
    rw [List.getElem?_eq_getElem hjl'] at hj ⊢
    simpa using hj
set_option maxRecDepth 200000 in
set_option maxHeartbeats 1000000 in
theorem l5Copy_any (a : Option Addr) (len cap : Nat) (ps : Sp) (F : List Nat) (w : World) (h : RdP w a len ps F) (hlen : len ≤ 2097152) (hn : a = none → cap = 0) :
    Calls Try.prog 76 #[.slice a len cap] w fun e w' => NewP w ps e w' := by
  obtain ⟨t0, hi, hz0, hz1, hz2⟩ := info_parts infoSpan
  have HO : Hid ((w.alloc (.cells #[] 68)).ownsRow w.heap.size 68 2 (.slice (some ⟨w.heap.size, 0, none⟩) 0 0) 0 []) := own_empty2 w _
  have HB : Hid (Below w.heap.size w (w.alloc (.cells #[] 68))) := (Below.refl _ _).alloc (Nat.le_refl _) _
  cases a with
  | none =>
    obtain rfl : cap = 0 := hn rfl
    rcases h.cells with ⟨rfl, _, rfl⟩ | ⟨b, off, hp, e, _⟩
    rotate_left
    · cases e
    clear h hn
    go_enter Try.func76, Try.ntmps76
    go_wp2_with (first | go_skip | (with_reducible refine stopAppend2 rfl ?_))
    refine Stop.intro (wpList_append_own_none rfl _ _ 24 rfl w.heap.size 68 t0 2 Try.underlying24 hi _ 0 [] rfl HO.out rfl ?_)
    go_wp2
    go_ret
    exact ⟨_, 0, 0, [], rfl, RdP.nil, Own.nil, HB.out, (fun e => by cases e), Nat.le_refl _⟩
  | some ad =>
    have HC : Hid (∀ j v, ((flat ps).map (Value.int .i64))[j]? = some v → (w.alloc (.cells #[] 68)).cell? (ad.add j) = some v) := by
      rcases h.cells with ⟨rfl, _, rfl⟩ | ⟨b, off, hp, e, _⟩
      · exact fun j v hj => by simp [flat] at hj
      · cases e
        exact cells_flat (h.below HB.out) hp
    have HL : Hid (((flat ps).map (Value.int .i64)).length = len * 2) := by
      show _ = _
      rw [List.length_map, flat_length, h.length]; omega
    clear h hn
    go_enter Try.func76, Try.ntmps76
    go_wp2_with (first | go_skip | (with_reducible refine stopAppend2 rfl ?_))
    refine Stop.intro (wpList_append_own _ rfl _ _ 24 rfl w.heap.size 68 t0 (.agg #[.int .i64 0, .int .i64 0]) 2 16 Try.underlying24 hi hz0 hz1 hz2 rfl (by decide) _ 0 [] rfl HO.out ad len cap ((flat ps).map (Value.int .i64)) rfl HL.out HC.out (by intro u hu; simp at hu; obtain ⟨z, _, rfl⟩ := hu; rfl) (by unfold maxLen; omega) (by omega) (by simp) ?_)
    intro v' w1 hown hgrow _
    have HN : Hid (w1.ownsRow w.heap.size 68 2 v' len ((flat ps).map (Value.int .i64)) ∧ Below w.heap.size w w1) := by
      refine ⟨by simpa using hown, HB.out.grown hgrow HB.out.size (fun k hk => (HO.out.lt k hk).1)⟩
    clear hown hgrow
    go_wp2
    go_ret
    obtain ⟨a', c', F', rfl, hr, ho, hnn⟩ := rdP_of_own HN.out.1
    exact ⟨_, _, _, F', rfl, hr, ho, HN.out.2, hnn⟩
def Sp.add (ps : Sp) (n : Int) : Sp × Bool := if ps.ok = true ∧ (0 ≤ n ∧ n ≤ 9999) ∧ ps.has n = false then (put ps (n, n) false, true) else (ps, false)
theorem Sp.add_not {ps : Sp} {n : Int} (h : ¬ (ps.ok = true ∧ (0 ≤ n ∧ n ≤ 9999) ∧ ps.has n = false)) : ps.add n = (ps, false) := by unfold Sp.add; rw [if_neg h]
theorem Sp.add_yes {ps : Sp} {n : Int} (h1 : ps.ok = true) (h2 : 0 ≤ n ∧ n ≤ 9999) (h3 : ps.has n = false) : ps.add n = (put ps (n, n) false, true) := by unfold Sp.add; rw [if_pos ⟨h1, h2, h3⟩]
theorem ok_inb {ps : Sp} (h : ps.ok = true) : ∀ k, k < ps.length → InB (ps.at k) := fun k hk => by
  have := (Sp.okAt_parts (Sp.ok_at h k hk)).1
  unfold InB
  omega
end Go.Proofs.Ytbmbmnhamogghab
/- The walks through the model's SetJoin. No statement of the seat is proved here. -/
namespace Go.Proofs.Ytbmbmnhamogghab
open Go.RowKit
theorem Sp.at_mem {ps : Sp} {k : Nat} (hk : k < ps.length) : ps.at k ∈ ps := by
  unfold Sp.at
  rw [List.getElem?_eq_getElem hk]
  exact List.getElem_mem hk
theorem inb_iff {ps : Sp} : (∀ k, k < ps.length → InB (ps.at k)) ↔ ∀ p ∈ ps, InB p := by
  constructor
  · intro h p hp
    obtain ⟨k, hk, rfl⟩ := List.getElem_of_mem hp
    have := h k hk
    unfold Sp.at at this
    rw [List.getElem?_eq_getElem hk] at this
    exact this
  · exact fun h k hk => h _ (Sp.at_mem hk)
theorem put_inb : ∀ {ps : Sp} {x : Int × Int} {d : Bool}, (∀ p ∈ ps, InB p) → InB x → ∀ p ∈ put ps x d, InB p
  | [], x, d, _, hx, p, hp => by
    cases d <;> simp [put] at hp
    subst hp; exact hx
  | q :: ps, x, d, h, hx, p, hp => by
    have hq := h q (by simp)
    have hr : ∀ p ∈ ps, InB p := fun p hp => h p (by simp [hp])
    rw [put] at hp
    split at hp
    · rcases List.mem_cons.1 hp with rfl | hp
      · exact hq
      · exact put_inb hr hx p hp
    · split at hp
      · rcases List.mem_append.1 hp with hp | hp
        · cases d <;> simp at hp
          subst hp; exact hx
        · rcases List.mem_cons.1 hp with rfl | hp
          · exact hq
          · exact put_inb hr hx p hp
      · exact put_inb hr (by unfold InB at hq hx ⊢; simp only; omega) p hp
def joinTo (ps qs : Sp) (k : Nat) : Sp := (qs.take k).foldl (fun o q => put o q false) ps
theorem joinTo_zero (ps qs : Sp) : joinTo ps qs 0 = ps := by simp [joinTo]
theorem joinTo_succ {ps qs : Sp} {k : Nat} (hk : k < qs.length) : joinTo ps qs (k + 1) = put (joinTo ps qs k) (qs.at k) false := by
  unfold joinTo
  rw [takeP_succ qs k hk, List.foldl_append]
  rfl
theorem joinTo_inb {ps qs : Sp} (h1 : ∀ p ∈ ps, InB p) (h2 : ∀ p ∈ qs, InB p) : ∀ k, k ≤ qs.length → ∀ p ∈ joinTo ps qs k, InB p
  | 0, _ => by rw [joinTo_zero]; exact h1
  | k + 1, hk => by
    rw [joinTo_succ (by omega)]
    exact put_inb (joinTo_inb h1 h2 k (by omega)) (h2 _ (Sp.at_mem (by omega)))
theorem joinTo_length {ps qs : Sp} : ∀ k, k ≤ qs.length → (joinTo ps qs k).length ≤ ps.length + k
  | 0, _ => by rw [joinTo_zero]; omega
  | k + 1, hk => by
    rw [joinTo_succ (by omega)]
    have := put_length (joinTo ps qs k) (qs.at k) false
    have := joinTo_length (ps := ps) (qs := qs) k (by omega)
    omega
def Sp.join (ps qs : Sp) : Sp := if (ps.ok && qs.ok) = true then joinTo ps qs qs.length else []
theorem Sp.join_not {ps qs : Sp} (h : (ps.ok && qs.ok) = false) : ps.join qs = [] := by unfold Sp.join; rw [h]; rfl
theorem Sp.join_yes {ps qs : Sp} (h1 : ps.ok = true) (h2 : qs.ok = true) : ps.join qs = joinTo ps qs qs.length := by unfold Sp.join; rw [h1, h2]; rfl
set_option maxRecDepth 200000 in
set_option maxHeartbeats 2000000 in
theorem l5Join_any (a b : Option Addr) (la lb ca cb : Nat) (ps qs : Sp) (F G : List Nat) (w : World) (h : RdP w a la ps F) (k : RdP w b lb qs G) (hlen : la + lb ≤ 2097152) (hn : a = none → ca = 0) (h1 : ∀ p ∈ ps, InB p) (h2 : ∀ p ∈ qs, InB p) :
    Calls Try.prog 65 #[.slice a la ca, .slice b lb cb] w fun e w' => NewP w (joinTo ps qs qs.length) e w' := by
  have HL : Hid (ps.length = la ∧ qs.length = lb) := ⟨h.length, k.length⟩
  have HR : Hid (RdP w a la ps F ∧ RdP w b lb qs G) := ⟨h, k⟩
  have HI : Hid ((∀ p ∈ ps, InB p) ∧ (∀ p ∈ qs, InB p) ∧ (a = none → ca = 0)) := ⟨h1, h2, hn⟩
  clear h k h1 h2 hn
  go_enter Try.func65, Try.ntmps65
  go_wp2_with fail
  refine (l5Copy_any a la ca ps F _ HR.out.1 (by omega) HI.out.2.2).mono ?_
  rintro e w1 ⟨a', l', c', F', rfl, g1, g2, g3, g4⟩
  have HE : Hid (RdP w1 a' l' (joinTo ps qs 0) F' ∧ Own w.heap.size w1 F' ∧ Below w.heap.size w w1 ∧ Capd a' l' c') := ⟨by rw [joinTo_zero]; exact g1, g2, g3, g4⟩
  have HCB : Hid (lb = 0 ∨ ∃ b1 o1, b = some ⟨b1, o1, none⟩ ∧ b1 < w.heap.size ∧ SpCells w b1 o1 lb qs) := by
    rcases HR.out.2.cells with ⟨h0, _⟩ | ⟨b1, o1, hp, e, _, hc⟩
    · exact .inl h0
    · exact .inr ⟨b1, o1, e, World.block_lt_of_cell? _ _ (hc 0 hp).1, hc⟩
  clear g1 g2 g3 g4 HR
  go_wp2
  go_loopw [5, 6] (fun v i wr => ∃ (k : Nat) (a' : Option Addr) (l' c' : Nat) (F' : List Nat), k ≤ lb ∧ i = .int .i64 k ∧ v = .slice a' l' c' ∧ Hid (RdP wr a' l' (joinTo ps qs k) F' ∧ Own w.heap.size wr F' ∧ Below w.heap.size w wr ∧ Capd a' l' c')) (fun _ i _ => lb - (intOf i).toNat)
  case atStart => exact ⟨0, a', l', c', F', by omega, rfl, rfl, HE⟩
  case round =>
    clear HE
    obtain ⟨k, a', l', c', F', hk, rfl, rfl, HE⟩ := hrel
    by_cases hlt : k < lb
    · have hcb := HCB.out
      rcases hcb with h0 | ⟨b1, o1, rfl, hbw, hc⟩
      · omega
      obtain ⟨x, hx⟩ : ∃ x, x = (qs.at k).1 := ⟨_, rfl⟩
      obtain ⟨y, hy⟩ : ∃ x, x = (qs.at k).2 := ⟨_, rfl⟩
      have e := hc k hlt
      have HXY : Hid (qs.at k = (x, y)) := by rw [hx, hy]; rfl
      rw [HXY.out] at e
      have d1 : wr.cell? ⟨b1, o1 + k * 2, none⟩ = some (.int .i64 x) := (HE.out.2.2.1.cell (by exact hbw)).trans e.1
      have d2 : wr.cell? ⟨b1, o1 + k * 2 + 1, none⟩ = some (.int .i64 y) := (HE.out.2.2.1.cell (by exact hbw)).trans e.2
      have hql : k < qs.length := by rw [HL.out.2]; exact hlt
      clear e hx hy hc
      go_wp2_with fail
      refine (l5Put_any a' l' c' (joinTo ps qs k) (x, y) F' _ HE.out.1 (by have := joinTo_length (ps := ps) (qs := qs) k (by omega); rw [HE.out.1.length, HL.out.1] at this; omega) (fun j hj => inb_iff.2 (joinTo_inb HI.out.1 HI.out.2.1 k (by omega)) j (by rw [HE.out.1.length]; exact hj)) (by rw [← HXY.out]; exact HI.out.2.1 _ (Sp.at_mem hql))).mono ?_
      rintro e w2 ⟨a2, l2, c2, F2, rfl, g1, g2, g3, g4⟩
      have HE2 : Hid (RdP w2 a2 l2 (joinTo ps qs (k + 1)) F2 ∧ Own w.heap.size w2 F2 ∧ Below w.heap.size w w2 ∧ Capd a2 l2 c2) := ⟨by rw [joinTo_succ hql, HXY.out]; exact g1, g2.mono HE.out.2.2.1.size, Below.next HE.out.2.2.1 g3, g4⟩
      clear g1 g2 g3 g4 HE
      go_wp2
      go_roundw
      case rel => exact ⟨k + 1, a2, l2, c2, F2, by omega, by go_num, rfl, HE2⟩
      case measure => simp [intOf]; omega
    · obtain rfl : k = lb := by omega
      go_wp2
      go_ret
      refine ⟨a', l', c', F', rfl, ?_, HE.out.2⟩
      rw [HL.out.2]
      exact HE.out.1
end Go.Proofs.Ytbmbmnhamogghab
/- Sets of numbers: what makes two of them the same, and what is made of both. No statement of the seat is proved here. -/
namespace Go.Proofs.Ytbmbmnhamogghab
open Go.RowKit
/-- Right from l on: the spans rise, with a gap between any two. -/
def okFrom : Int → Sp → Prop
  | _, [] => True
  | l, p :: ps => (l ≤ p.1 ∧ p.1 ≤ p.2 ∧ p.2 ≤ 9999) ∧ okFrom (p.2 + 2) ps
def endOf : Int → Sp → Int
  | l, [] => l
  | _, p :: ps => endOf (p.2 + 2) ps
theorem okFrom_append : ∀ (o r : Sp) (l : Int), okFrom l (o ++ r) ↔ okFrom l o ∧ okFrom (endOf l o) r
  | [], r, l => by simp [okFrom, endOf]
  | p :: o, r, l => by simp only [List.cons_append, okFrom, endOf, okFrom_append o r, and_assoc]
theorem endOf_snoc : ∀ (o : Sp) (t : Int × Int) (l : Int), endOf l (o ++ [t]) = t.2 + 2
  | [], t, l => rfl
  | p :: o, t, l => by simp only [List.cons_append, endOf, endOf_snoc o t]
theorem okFrom_mono : ∀ {ps : Sp} {l m : Int}, okFrom l ps → m ≤ l → okFrom m ps
  | [], _, _, _, _ => trivial
  | p :: ps, l, m, h, hm => ⟨⟨by have := h.1; omega, h.1.2⟩, h.2⟩
theorem has_cons (p : Int × Int) (ps : Sp) (n : Int) : Sp.has (p :: ps) n = (decide (p.1 ≤ n ∧ n ≤ p.2) || Sp.has ps n) := rfl
theorem has_nil (n : Int) : Sp.has [] n = false := rfl
theorem has_append (ps qs : Sp) (n : Int) : Sp.has (ps ++ qs) n = (Sp.has ps n || Sp.has qs n) := by simp [Sp.has]
/-- n is in ps. -/
def InS (ps : Sp) (n : Int) : Prop := ps.has n = true
theorem inS_cons {p : Int × Int} {ps : Sp} {n : Int} : InS (p :: ps) n ↔ (p.1 ≤ n ∧ n ≤ p.2) ∨ InS ps n := by unfold InS; rw [has_cons]; simp
theorem inS_nil {n : Int} : ¬ InS [] n := by unfold InS; rw [has_nil]; simp
theorem inS_append {ps qs : Sp} {n : Int} : InS (ps ++ qs) n ↔ InS ps n ∨ InS qs n := by unfold InS; rw [has_append]; simp
theorem inS_ge : ∀ {ps : Sp} {l n : Int}, okFrom l ps → InS ps n → l ≤ n
  | [], _, _, _, h => (inS_nil h).elim
  | p :: ps, l, n, h, hn => by
    rcases inS_cons.1 hn with e | e
    · have := h.1; omega
    · have := inS_ge h.2 e; have := h.1; omega
theorem inS_le : ∀ {ps : Sp} {l n : Int}, okFrom l ps → InS ps n → n ≤ 9999
  | [], _, _, _, h => (inS_nil h).elim
  | p :: ps, l, n, h, hn => by
    rcases inS_cons.1 hn with e | e
    · have := h.1; omega
    · exact inS_le h.2 e
theorem sp_ext : ∀ {ps qs : Sp} {l m : Int}, okFrom l ps → okFrom m qs → (∀ n, InS ps n ↔ InS qs n) → ps = qs
  | [], [], _, _, _, _, _ => rfl
  | [], q :: qs, _, _, _, h2, h => by
    have := (h q.1).2 (inS_cons.2 (.inl ⟨Int.le_refl _, h2.1.2.1⟩))
    exact (inS_nil this).elim
  | p :: ps, [], _, _, h1, _, h => by
    have := (h p.1).1 (inS_cons.2 (.inl ⟨Int.le_refl _, h1.1.2.1⟩))
    exact (inS_nil this).elim
  | p :: ps, q :: qs, l, m, h1, h2, h => by
    obtain ⟨⟨a1, a2, a3⟩, a4⟩ := h1
    obtain ⟨⟨b1, b2, b3⟩, b4⟩ := h2
    have e1 : p.1 = q.1 := by
      have x1 := inS_ge (ps := q :: qs) (l := q.1) ⟨⟨Int.le_refl _, b2, b3⟩, b4⟩ ((h p.1).1 (inS_cons.2 (.inl ⟨Int.le_refl _, a2⟩)))
      have x2 := inS_ge (ps := p :: ps) (l := p.1) ⟨⟨Int.le_refl _, a2, a3⟩, a4⟩ ((h q.1).2 (inS_cons.2 (.inl ⟨Int.le_refl _, b2⟩)))
      omega
    have e2 : p.2 = q.2 := by
      rcases Int.lt_trichotomy p.2 q.2 with c | c | c
      · rcases inS_cons.1 ((h (p.2 + 1)).2 (inS_cons.2 (.inl ⟨by omega, by omega⟩))) with e | e
        · omega
        · have := inS_ge a4 e; omega
      · exact c
      · rcases inS_cons.1 ((h (q.2 + 1)).1 (inS_cons.2 (.inl ⟨by omega, by omega⟩))) with e | e
        · omega
        · have := inS_ge b4 e; omega
    have e3 : ps = qs := sp_ext a4 b4 (fun n => by
      constructor
      · intro hn
        have := inS_ge a4 hn
        rcases inS_cons.1 ((h n).1 (inS_cons.2 (.inr hn))) with e | e
        · omega
        · exact e
      · intro hn
        have := inS_ge b4 hn
        rcases inS_cons.1 ((h n).2 (inS_cons.2 (.inr hn))) with e | e
        · omega
        · exact e)
    rw [e3, Prod.ext e1 e2]
/-- What is right, seen from the k-th span on. -/
def floorAt (ps : Sp) (k : Nat) : Int := if k = 0 then 0 else (ps.at (k - 1)).2 + 2
theorem okAt_iff (ps : Sp) (k : Nat) : ps.okAt k = true ↔ (if k = 0 then 0 else (ps.at (k - 1)).2 + 2) ≤ (ps.at k).1 ∧ 0 ≤ (ps.at k).1 ∧ (ps.at k).1 ≤ (ps.at k).2 ∧ (ps.at k).2 ≤ 9999 := by
  unfold Sp.okAt
  simp only [Bool.and_eq_true, Bool.or_eq_true, decide_eq_true_eq]
  split <;> omega
theorem okFrom_drop (ps : Sp) : ∀ (d k : Nat), k + d = ps.length → 0 ≤ floorAt ps k → ((∀ j, k ≤ j → j < ps.length → ps.okAt j = true) ↔ okFrom (floorAt ps k) (ps.drop k))
  | 0, k, hk, _ => by
    rw [List.drop_eq_nil_of_le (by omega)]
    exact ⟨fun _ => trivial, fun _ j h1 h2 => by omega⟩
  | d + 1, k, hk, h0 => by
    rw [drop_at (by omega), okFrom]
    have e : floorAt ps (k + 1) = (ps.at k).2 + 2 := by unfold floorAt; rw [if_neg (by omega), show k + 1 - 1 = k by omega]
    constructor
    · intro h
      have hk1 := (okAt_iff ps k).1 (h k (Nat.le_refl _) (by omega))
      refine ⟨⟨hk1.1, hk1.2.2⟩, ?_⟩
      rw [← e]
      exact (okFrom_drop ps d (k + 1) (by omega) (by rw [e]; omega)).1 (fun j h1 h2 => h j (by omega) h2)
    · rintro ⟨h1, h2⟩ j hj1 hj2
      by_cases c : j = k
      · subst c
        exact (okAt_iff ps j).2 ⟨h1.1, by omega, h1.2⟩
      · rw [← e] at h2
        exact (okFrom_drop ps d (k + 1) (by omega) (by rw [e]; omega)).2 h2 j (by omega) hj2
theorem ok_iff {ps : Sp} : ps.ok = true ↔ okFrom 0 ps := by
  have e := okFrom_drop ps ps.length 0 (by omega) (by simp [floorAt])
  simp only [floorAt, if_true, List.drop_zero] at e
  rw [← e]
  exact ⟨fun h j _ hj => Sp.ok_at h j hj, fun h => Sp.ok_all (fun j hj => h j (Nat.zero_le _) hj)⟩
theorem put_true_same : ∀ {ps : Sp} {x : Int × Int} {l : Int}, okFrom l ps → x.2 + 2 ≤ l → x.1 ≤ x.2 → put ps x true = ps
  | [], _, _, _, _, _ => rfl
  | p :: ps, x, l, h, hl, hx => by
    obtain ⟨⟨a1, a2, a3⟩, a4⟩ := h
    rw [put, if_neg (by omega), if_pos (by omega), put_true_same a4 (by omega) hx]
    rfl
theorem put_ok : ∀ {ps : Sp} {x : Int × Int} {l : Int}, okFrom l ps → l ≤ x.1 → x.1 ≤ x.2 → x.2 ≤ 9999 → okFrom l (put ps x false) ∧ ∀ n, InS (put ps x false) n ↔ InS ps n ∨ (x.1 ≤ n ∧ n ≤ x.2)
  | [], x, l, _, h1, h2, h3 => ⟨⟨⟨h1, h2, h3⟩, trivial⟩, fun n => by
      show InS [x] n ↔ _
      rw [inS_cons]
      exact ⟨fun h => h.symm.imp (fun e => e) (fun e => e), fun h => h.symm.imp (fun e => e) (fun e => e)⟩⟩
  | p :: ps, x, l, h, h1, h2, h3 => by
    obtain ⟨⟨a1, a2, a3⟩, a4⟩ := h
    rw [put]
    split
    · obtain ⟨i1, i2⟩ := put_ok a4 (by omega) h2 h3
      refine ⟨⟨⟨a1, a2, a3⟩, i1⟩, fun n => ?_⟩
      rw [inS_cons, inS_cons, i2, or_assoc]
    · split
      · rw [put_true_same (l := p.2 + 2) a4 (by omega) h2]
        refine ⟨⟨⟨h1, h2, h3⟩, ⟨⟨by omega, a2, a3⟩, a4⟩⟩, fun n => ?_⟩
        show InS (x :: p :: ps) n ↔ _
        rw [inS_cons (p := x)]
        exact or_comm
      · obtain ⟨i1, i2⟩ := put_ok (x := (min x.1 p.1, max x.2 p.2)) (l := l) (okFrom_mono a4 (by omega)) (by simp only; omega) (by simp only; omega) (by simp only; omega)
        refine ⟨i1, fun n => ?_⟩
        rw [i2, inS_cons]
        have : (min x.1 p.1 ≤ n ∧ n ≤ max x.2 p.2) ↔ (p.1 ≤ n ∧ n ≤ p.2) ∨ (x.1 ≤ n ∧ n ≤ x.2) := by omega
        rw [show ((min x.1 p.1, max x.2 p.2).1 ≤ n ∧ n ≤ (min x.1 p.1, max x.2 p.2).2) ↔ (p.1 ≤ n ∧ n ≤ p.2) ∨ (x.1 ≤ n ∧ n ≤ x.2) from this, or_comm, or_right_comm]
theorem okFrom_at {ps : Sp} (h : okFrom 0 ps) {k : Nat} (hk : k < ps.length) : 0 ≤ (ps.at k).1 ∧ (ps.at k).1 ≤ (ps.at k).2 ∧ (ps.at k).2 ≤ 9999 := (Sp.okAt_parts (Sp.ok_at (ok_iff.2 h) k hk)).1
theorem take_inS {qs : Sp} {k : Nat} (hk : k < qs.length) (n : Int) : InS (qs.take (k + 1)) n ↔ InS (qs.take k) n ∨ ((qs.at k).1 ≤ n ∧ n ≤ (qs.at k).2) := by
  rw [takeP_succ qs k hk, inS_append, inS_cons]
  show _ ∨ (_ ∨ InS [] n) ↔ _
  exact ⟨fun h => h.imp id (fun h => h.resolve_right inS_nil), fun h => h.imp id .inl⟩
theorem joinTo_ok {ps qs : Sp} (h1 : okFrom 0 ps) (h2 : okFrom 0 qs) : ∀ k, k ≤ qs.length → okFrom 0 (joinTo ps qs k) ∧ ∀ n, InS (joinTo ps qs k) n ↔ InS ps n ∨ InS (qs.take k) n
  | 0, _ => by
    rw [joinTo_zero]
    exact ⟨h1, fun n => ⟨.inl, fun h => h.resolve_right inS_nil⟩⟩
  | k + 1, hk => by
    have hq := okFrom_at h2 (k := k) (by omega)
    obtain ⟨i1, i2⟩ := joinTo_ok h1 h2 k (by omega)
    obtain ⟨j1, j2⟩ := put_ok (x := qs.at k) i1 (by omega) (by omega) (by omega)
    rw [joinTo_succ (by omega)]
    refine ⟨j1, fun n => ?_⟩
    rw [j2, i2, take_inS (by omega), or_assoc]
theorem join_ok {ps qs : Sp} (h1 : okFrom 0 ps) (h2 : okFrom 0 qs) : okFrom 0 (joinTo ps qs qs.length) ∧ ∀ n, InS (joinTo ps qs qs.length) n ↔ InS ps n ∨ InS qs n := by
  have := joinTo_ok h1 h2 qs.length (Nat.le_refl _)
  rw [List.take_length] at this
  exact this
/-- A span is laid behind o: apart, or into its last one. -/
def lay1 (o : Sp) (x : Int × Int) : Sp := if o = [] ∨ (o.at (o.length - 1)).2 + 1 < x.1 then o ++ [x] else o.take (o.length - 1) ++ [((o.at (o.length - 1)).1, max (o.at (o.length - 1)).2 x.2)]
def lay (o xs : Sp) : Sp := xs.foldl lay1 o
/-- How many spans begin no later than n. -/
def cutN : Sp → Int → Nat
  | [], _ => 0
  | p :: ps, n => if p.1 ≤ n then cutN ps n + 1 else 0
/-- Both sets, gone through once; o: what has come. -/
def both : Sp → Sp → Sp → Sp
  | a, [], o => lay o a
  | a, x :: b, o => both (a.drop (cutN a x.1)) b (lay1 (lay o (a.take (cutN a x.1))) x)
theorem snoc_cases (o : Sp) : o = [] ∨ ∃ o' t, o = o' ++ [t] := by
  rcases List.eq_nil_or_concat o with h | ⟨o', t, h⟩
  · exact .inl h
  · exact .inr ⟨o', t, by simpa using h⟩
theorem lay1_nil (x : Int × Int) : lay1 [] x = [x] := by simp [lay1]
theorem lay1_snoc (o : Sp) (t x : Int × Int) : lay1 (o ++ [t]) x = if t.2 + 1 < x.1 then o ++ [t] ++ [x] else o ++ [(t.1, max t.2 x.2)] := by
  have e : (o ++ [t]).at ((o ++ [t]).length - 1) = t := by simp [Sp.at]
  have e2 : (o ++ [t]).take ((o ++ [t]).length - 1) = o := by simp
  unfold lay1
  rw [e, e2]
  simp
/-- Right so far; the last span begins at m or ahead of it. -/
structure LayOk (o : Sp) (m : Int) : Prop where
  ok : okFrom 0 o
  le : ∀ o' t, o = o' ++ [t] → t.1 ≤ m
theorem LayOk.nil (m : Int) : LayOk [] m := ⟨trivial, fun o' t h => by simp at h⟩
theorem LayOk.up {o : Sp} {m m' : Int} (h : LayOk o m) (hm : m ≤ m') : LayOk o m' := ⟨h.ok, fun o' t e => Int.le_trans (h.le o' t e) hm⟩
theorem lay1_ok {o : Sp} {x : Int × Int} {m : Int} (h : LayOk o m) (hm : m ≤ x.1) (h0 : 0 ≤ x.1) (h1 : x.1 ≤ x.2) (h2 : x.2 ≤ 9999) : LayOk (lay1 o x) x.1 ∧ ∀ n, InS (lay1 o x) n ↔ InS o n ∨ (x.1 ≤ n ∧ n ≤ x.2) := by
  rcases snoc_cases o with rfl | ⟨o', t, rfl⟩
  · rw [lay1_nil]
    refine ⟨⟨⟨⟨h0, h1, h2⟩, trivial⟩, fun o' t e => ?_⟩, fun n => ?_⟩
    · obtain ⟨rfl, rfl⟩ : o' = [] ∧ x = t := by
        cases o' with
        | nil => simpa using e
        | cons y ys => simp at e
      exact Int.le_refl _
    · rw [inS_cons]
      exact ⟨fun h => .inr (h.resolve_right inS_nil), fun h => .inl (h.resolve_left inS_nil)⟩
  · have ht := h.le o' t rfl
    have hok := h.ok
    rw [okFrom_append] at hok
    obtain ⟨k1, ⟨k2, k3, k4⟩, _⟩ := hok
    rw [lay1_snoc]
    split
    · refine ⟨⟨?_, fun o2 t2 e => ?_⟩, fun n => ?_⟩
      · rw [okFrom_append, endOf_snoc]
        exact ⟨h.ok, ⟨by omega, h1, h2⟩, trivial⟩
      · have e3 := List.append_inj_right' e rfl
        obtain rfl : x = t2 := by simpa using e3
        exact Int.le_refl _
      · rw [inS_append (ps := o' ++ [t]), inS_cons (p := x)]
        exact ⟨fun h => h.imp id (fun h => h.resolve_right inS_nil), fun h => h.imp id .inl⟩
    · refine ⟨⟨?_, fun o2 t2 e => ?_⟩, fun n => ?_⟩
      · rw [okFrom_append]
        exact ⟨k1, ⟨k2, by simp only; omega, by simp only; omega⟩, trivial⟩
      · have e3 := List.append_inj_right' e rfl
        have e4 : (t.1, max t.2 x.2) = t2 := by simpa using e3
        rw [← e4]; simp only; omega
      · rw [inS_append, inS_append, inS_cons, inS_cons]
        have : (t.1 ≤ n ∧ n ≤ max t.2 x.2) ↔ (t.1 ≤ n ∧ n ≤ t.2) ∨ (x.1 ≤ n ∧ n ≤ x.2) := by omega
        rw [show ((t.1, max t.2 x.2).1 ≤ n ∧ n ≤ (t.1, max t.2 x.2).2) ↔ (t.1 ≤ n ∧ n ≤ t.2) ∨ (x.1 ≤ n ∧ n ≤ x.2) from this]
        have e := inS_nil (n := n)
        simp only [e, or_false, or_assoc]
theorem lay_ok : ∀ {xs o : Sp} {m l M : Int}, LayOk o m → okFrom l xs → m ≤ l → 0 ≤ l → m ≤ M → (∀ p ∈ xs, p.1 ≤ M) → LayOk (lay o xs) M ∧ ∀ n, InS (lay o xs) n ↔ InS o n ∨ InS xs n
  | [], o, m, l, M, h, _, _, _, hM, _ => ⟨h.up hM, fun n => ⟨.inl, fun h => h.resolve_right inS_nil⟩⟩
  | x :: xs, o, m, l, M, h, hx, hm, h0, hM, hall => by
    obtain ⟨⟨a1, a2, a3⟩, a4⟩ := hx
    obtain ⟨i1, i2⟩ := lay1_ok h (x := x) (by omega) (by omega) a2 a3
    obtain ⟨j1, j2⟩ := lay_ok (xs := xs) (M := M) i1 a4 (by omega) (by omega) (hall x (by simp)) (fun p hp => hall p (by simp [hp]))
    refine ⟨j1, fun n => ?_⟩
    rw [show lay o (x :: xs) = lay (lay1 o x) xs from rfl, j2, i2, inS_cons, or_assoc]
theorem cutN_le : ∀ (a : Sp) (n : Int), cutN a n ≤ a.length
  | [], _ => by simp [cutN]
  | p :: a, n => by
    rw [cutN]
    split
    · have := cutN_le a n; simp; omega
    · simp
theorem cut_take : ∀ (a : Sp) (n : Int), ∀ p ∈ a.take (cutN a n), p.1 ≤ n
  | [], _, p, hp => by simp [cutN] at hp
  | q :: a, n, p, hp => by
    rw [cutN] at hp
    split at hp
    · rw [List.take_succ_cons] at hp
      rcases List.mem_cons.1 hp with rfl | hp
      · assumption
      · exact cut_take a n p hp
    · simp at hp
theorem okFrom_take {l : Int} {a : Sp} (k : Nat) (h : okFrom l a) : okFrom l (a.take k) := by
  have := h
  rw [← List.take_append_drop k a, okFrom_append] at this
  exact this.1
theorem cut_drop : ∀ {a : Sp} {n l : Int}, okFrom l a → okFrom n (a.drop (cutN a n))
  | [], _, _, _ => by simp [cutN, okFrom]
  | q :: a, n, l, h => by
    rw [cutN]
    split
    · rw [List.drop_succ_cons]; exact cut_drop h.2
    · exact ⟨⟨by omega, h.1.2⟩, h.2⟩
theorem both_ok : ∀ {b a o : Sp} {m la lb : Int}, LayOk o m → okFrom la a → okFrom lb b → m ≤ la → m ≤ lb → 0 ≤ la → 0 ≤ lb → okFrom 0 (both a b o) ∧ ∀ n, InS (both a b o) n ↔ InS o n ∨ InS a n ∨ InS b n
  | [], a, o, m, la, lb, h, ha, _, h1, _, h0, _ => by
    obtain ⟨M, hM⟩ : ∃ M : Int, m ≤ M ∧ ∀ p ∈ a, p.1 ≤ M := ⟨max m 9999, by omega, fun p hp => by
      obtain ⟨k, hk, rfl⟩ := List.getElem_of_mem hp
      have := okFrom_at (okFrom_mono ha h0) hk
      unfold Sp.at at this
      rw [List.getElem?_eq_getElem hk] at this
      simp only [Option.getD_some] at this
      omega⟩
    obtain ⟨i1, i2⟩ := lay_ok h ha h1 h0 hM.1 hM.2
    refine ⟨i1.ok, fun n => ?_⟩
    rw [both, i2]
    exact ⟨fun h => h.imp id .inl, fun h => h.imp id (fun h => h.resolve_right inS_nil)⟩
  | x :: b, a, o, m, la, lb, h, ha, hb, h1, h2, h0, h00 => by
    obtain ⟨⟨b1, b2, b3⟩, b4⟩ := hb
    obtain ⟨i1, i2⟩ := lay_ok (M := x.1) h (okFrom_take (cutN a x.1) ha) h1 h0 (by omega) (cut_take a x.1)
    obtain ⟨j1, j2⟩ := lay1_ok (x := x) i1 (Int.le_refl _) (by omega) b2 b3
    obtain ⟨k1, k2⟩ := both_ok (a := a.drop (cutN a x.1)) (b := b) j1 (cut_drop ha) b4 (Int.le_refl _) (by omega) (by omega) (by omega)
    refine ⟨k1, fun n => ?_⟩
    have e : InS a n ↔ InS (a.take (cutN a x.1)) n ∨ InS (a.drop (cutN a x.1)) n := by rw [← inS_append, List.take_append_drop]
    rw [both, k2, j2, i2, inS_cons, e]
    simp only [or_assoc]
    constructor
    · rintro (h | h | h | h | h) <;> simp [h]
    · rintro (h | h | h | h | h) <;> simp [h]
theorem both_nil_ok {a b : Sp} (ha : okFrom 0 a) (hb : okFrom 0 b) : okFrom 0 (both a b []) ∧ ∀ n, InS (both a b []) n ↔ InS a n ∨ InS b n := by
  obtain ⟨i1, i2⟩ := both_ok (LayOk.nil 0) ha hb (Int.le_refl _) (Int.le_refl _) (Int.le_refl _) (Int.le_refl _)
  exact ⟨i1, fun n => by rw [i2]; exact ⟨fun h => h.resolve_left inS_nil, .inr⟩⟩
theorem both_join {a b : Sp} (ha : a.ok = true) (hb : b.ok = true) : both a b [] = a.join b := by
  rw [Sp.join_yes ha hb]
  obtain ⟨i1, i2⟩ := both_nil_ok (ok_iff.1 ha) (ok_iff.1 hb)
  obtain ⟨j1, j2⟩ := join_ok (ok_iff.1 ha) (ok_iff.1 hb)
  exact sp_ext i1 j1 (fun n => by rw [i2, j2])
theorem single_ok {n : Int} (h : 0 ≤ n ∧ n ≤ 9999) : okFrom 0 [(n, n)] := ⟨⟨h.1, Int.le_refl _, h.2⟩, trivial⟩
theorem inS_single {n m : Int} : InS [(n, n)] m ↔ m = n := by
  rw [inS_cons]
  exact ⟨fun h => by have := h.resolve_right inS_nil; simp only at this; omega, fun h => .inl (by simp only; omega)⟩
theorem both_add {a : Sp} {n : Int} (ha : a.ok = true) (hn : 0 ≤ n ∧ n ≤ 9999) : both a [(n, n)] [] = (a.add n).1 ∧ (a.add n).2 = decide (¬ both a [(n, n)] [] = a) := by
  obtain ⟨i1, i2⟩ := both_nil_ok (ok_iff.1 ha) (single_ok hn)
  by_cases h : a.has n = true
  · have e : both a [(n, n)] [] = a := sp_ext i1 (ok_iff.1 ha) (fun m => by
      rw [i2, inS_single]
      exact ⟨fun e => e.elim id (fun e => by rw [e]; exact h), .inl⟩)
    rw [Sp.add_not (fun e => by rw [h] at e; cases e.2.2), e]
    simp
  · have h' : a.has n = false := by simpa using h
    rw [Sp.add_yes ha hn h']
    obtain ⟨j1, j2⟩ := put_ok (x := (n, n)) (ok_iff.1 ha) hn.1 (Int.le_refl _) hn.2
    have e : both a [(n, n)] [] = put a (n, n) false := sp_ext i1 j1 (fun m => by
      rw [i2, j2, inS_single]
      exact ⟨fun e => e.imp id (fun e => by simp only; omega), fun e => e.imp id (fun e => by simp only at e; omega)⟩)
    refine ⟨e, ?_⟩
    have ne : ¬ both a [(n, n)] [] = a := fun e => h (by
      have := (i2 n).2 (.inr (inS_single.2 rfl))
      rw [e] at this
      exact this)
    simp [ne]
/-- No span of the one meets one of the other. -/
def noMeet (a b : Sp) : Bool := a.all fun p => b.all fun q => !meet p q
theorem meet_comm (p q : Int × Int) : meet p q = meet q p := by unfold meet; rw [Bool.eq_iff_iff]; simp only [decide_eq_true_eq]; exact and_comm
theorem noMeet_nil (b : Sp) : noMeet [] b = true := rfl
theorem noMeet_comm (a b : Sp) : noMeet a b = noMeet b a := by
  unfold noMeet
  rw [Bool.eq_iff_iff]
  simp only [List.all_eq_true]
  exact ⟨fun h q hq p hp => by rw [meet_comm]; exact h p hp q hq, fun h q hq p hp => by rw [meet_comm]; exact h p hp q hq⟩
theorem okFrom_mem : ∀ {b : Sp} {l : Int}, okFrom l b → ∀ q ∈ b, l ≤ q.1 ∧ q.1 ≤ q.2 ∧ q.2 ≤ 9999
  | [], _, _, q, hq => by simp at hq
  | p :: b, l, h, q, hq => by
    rcases List.mem_cons.1 hq with rfl | hq
    · exact h.1
    · have := okFrom_mem h.2 q hq
      have := h.1
      omega
theorem noMeet_hit {p q : Int × Int} {a b : Sp} (h1 : p.1 ≤ q.1) (h2 : q.1 ≤ p.2) (h3 : q.1 ≤ q.2) : noMeet (p :: a) (q :: b) = false := by
  have : meet p q = true := by unfold meet; exact decT (by omega)
  simp [noMeet, this]
theorem noMeet_drop {p q : Int × Int} {a b : Sp} {l : Int} (h : okFrom l (q :: b)) (h2 : p.2 < q.1) : noMeet (p :: a) (q :: b) = noMeet a (q :: b) := by
  have e : (q :: b).all (fun q => !meet p q) = true := by
    rw [List.all_eq_true]
    intro r hr
    have := okFrom_mem (l := q.1) (b := q :: b) ⟨⟨Int.le_refl _, h.1.2⟩, h.2⟩ r hr
    unfold meet
    rw [decF (by omega)]
    rfl
  show ((q :: b).all _ && _) = _
  rw [e]
  rfl
theorem apart_eq (ps qs : Sp) : ps.apart qs = (ps.ok && qs.ok && noMeet ps qs) := rfl
end Go.Proofs.Ytbmbmnhamogghab
/- The walks through the program's SetOk, SetHas and SetSize. No statement of the seat is proved here. -/
namespace Go.Proofs.Ytbmbmnhamogghab
open Go.RowKit
theorem cells_of {w : World} {a : Option Addr} {len : Nat} {ps : Sp} {F : List Nat} (h : RdP w a len ps F) : len = 0 ∨ ∃ b off, a = some ⟨b, off, none⟩ ∧ b < w.heap.size ∧ SpCells w b off len ps := by
  rcases h.cells with ⟨h0, _⟩ | ⟨b, off, hp, e, _, hc⟩
  · exact .inl h0
  · exact .inr ⟨b, off, e, World.block_lt_of_cell? _ _ (hc 0 hp).1, hc⟩
theorem floorAt_succ (ps : Sp) (k : Nat) : floorAt ps (k + 1) = (ps.at k).2 + 2 := by unfold floorAt; rw [if_neg (by omega), show k + 1 - 1 = k by omega]
set_option maxRecDepth 200000 in
set_option maxHeartbeats 2000000 in
theorem setOkImpl_any (a : Option Addr) (len cap : Nat) (ps : Sp) (F : List Nat) (w : World) (h : RdP w a len ps F) (hlen : len ≤ 2097152) :
    Calls Try.prog 32 #[.slice a len cap] w fun e w' => e = .returned (.bool ps.ok) ∧ Below w.heap.size w w' := by
  have HL : Hid (ps.length = len) := h.length
  have HC : Hid (len = 0 ∨ ∃ b off, a = some ⟨b, off, none⟩ ∧ b < w.heap.size ∧ SpCells w b off len ps) := cells_of h
  clear h
  go_enter Try.func32, Try.ntmps32
  go_wp2
  go_loopw [3, 8] (fun q i wr => ∃ (k : Nat) (l : Int), k ≤ len ∧ i = .int .i64 k ∧ q = .int .i64 l ∧ 0 ≤ l ∧ l ≤ 10001 ∧ Hid (Below w.heap.size w wr) ∧ Hid (l = floorAt ps k ∧ ∀ j, j < k → ps.okAt j = true)) (fun _ i _ => len - (intOf i).toNat)
  case atStart => exact ⟨0, 0, by omega, rfl, rfl, by omega, by omega, Below.refl _ _, rfl, fun j hj => by omega⟩
  case round =>
    obtain ⟨k, l, hk, rfl, rfl, l0, l1, HB, HN⟩ := hrel
    by_cases hlt : k < len
    · have hca := HC.out
      rcases hca with h0 | ⟨b, off, rfl, hbw, hc⟩
      · omega
      obtain ⟨x, hx⟩ : ∃ x, x = (ps.at k).1 := ⟨_, rfl⟩
      obtain ⟨y, hy⟩ : ∃ x, x = (ps.at k).2 := ⟨_, rfl⟩
      have e := hc k hlt
      rw [← hx, ← hy] at e
      have d1 : wr.cell? ⟨b, off + k * 2, none⟩ = some (.int .i64 x) := (HB.out.cell (by exact hbw)).trans e.1
      have d2 : wr.cell? ⟨b, off + k * 2 + 1, none⟩ = some (.int .i64 y) := (HB.out.cell (by exact hbw)).trans e.2
      have HX : Hid (x = (ps.at k).1 ∧ y = (ps.at k).2) := ⟨hx, hy⟩
      have HB2 : Hid (Below w.heap.size w (wr.alloc (.cells #[.int .i64 x, .int .i64 y] 68))) := Below.allocW _ HB.out (Nat.le_refl _)
      have HOK : Hid (ps.okAt k = true ↔ l ≤ x ∧ 0 ≤ x ∧ x ≤ y ∧ y ≤ 9999) := by
        have := okAt_iff ps k
        rw [← hx, ← hy] at this
        rw [HN.out.1]
        exact this
      have hI : (k : Int) < (len : Int) := by omega
      have hkl : k < ps.length := by rw [HL.out]; exact hlt
      clear e hx hy hc HB
      by_cases c1 : x < l
      · have c1d : decide (x < l) = true := decT c1
        have HV : Hid (ps.ok = false) := Sp.ok_not hkl (by rw [Bool.eq_false_iff]; exact fun e => by have := HOK.out.1 e; omega)
        go_wp2
        go_ret
        rw [HV.out]
        exact ⟨rfl, HB2.out⟩
      have c1d : decide (x < l) = false := decF c1
      by_cases c2 : y < x
      · have c2d : decide (y < x) = true := decT c2
        have HV : Hid (ps.ok = false) := Sp.ok_not hkl (by rw [Bool.eq_false_iff]; exact fun e => by have := HOK.out.1 e; omega)
        go_wp2
        go_ret
        rw [HV.out]
        exact ⟨rfl, HB2.out⟩
      have c2d : decide (y < x) = false := decF c2
      by_cases c3 : 9999 < y
      · have c3d : decide (9999 < y) = true := decT c3
        have HV : Hid (ps.ok = false) := Sp.ok_not hkl (by rw [Bool.eq_false_iff]; exact fun e => by have := HOK.out.1 e; omega)
        go_wp2
        go_ret
        rw [HV.out]
        exact ⟨rfl, HB2.out⟩
      have c3d : decide (9999 < y) = false := decF c3
      have HN2 : Hid (y + 2 = floorAt ps (k + 1) ∧ ∀ j, j < k + 1 → ps.okAt j = true) := ⟨by rw [floorAt_succ, HX.out.2], all_up HN.out.2 (HOK.out.2 ⟨by omega, by omega, by omega, by omega⟩)⟩
      go_wp2
      go_roundw
      case rel => exact ⟨k + 1, y + 2, by omega, by go_num, by go_num, by omega, by omega, HB2, HN2⟩
      case measure => simp [intOf]; omega
    · obtain rfl : k = len := by omega
      have HV : Hid (ps.ok = true) := Sp.ok_all (fun j hj => HN.out.2 j (by rw [← HL.out]; exact hj))
      go_wp2
      go_ret
      rw [HV.out]
      exact ⟨rfl, HB.out⟩
set_option maxRecDepth 200000 in
set_option maxHeartbeats 2000000 in
theorem hasImpl_any (a : Option Addr) (len cap : Nat) (ps : Sp) (n : Int) (F : List Nat) (w : World) (h : RdP w a len ps F) (hlen : len ≤ 2097152) :
    Calls Try.prog 20 #[.slice a len cap, .int .i64 n] w fun e w' => e = .returned (.bool (ps.has n)) ∧ Below w.heap.size w w' := by
  have HL : Hid (ps.length = len) := h.length
  have HC : Hid (len = 0 ∨ ∃ b off, a = some ⟨b, off, none⟩ ∧ b < w.heap.size ∧ SpCells w b off len ps) := cells_of h
  clear h
  go_enter Try.func20, Try.ntmps20
  go_wp2
  go_loopw [9] (fun i wr => ∃ (k : Nat), k ≤ len ∧ i = .int .i64 k ∧ Hid (Below w.heap.size w wr) ∧ Hid (∀ j, j < k → ¬ ((ps.at j).1 ≤ n ∧ n ≤ (ps.at j).2))) (fun i _ => len - (intOf i).toNat)
  case atStart => exact ⟨0, by omega, rfl, Below.refl _ _, fun j hj => by omega⟩
  case round =>
    obtain ⟨k, hk, rfl, HB, HN⟩ := hrel
    by_cases hlt : k < len
    · have hca := HC.out
      rcases hca with h0 | ⟨b, off, rfl, hbw, hc⟩
      · omega
      obtain ⟨x, hx⟩ : ∃ x, x = (ps.at k).1 := ⟨_, rfl⟩
      obtain ⟨y, hy⟩ : ∃ x, x = (ps.at k).2 := ⟨_, rfl⟩
      have e := hc k hlt
      rw [← hx, ← hy] at e
      have d1 : wr.cell? ⟨b, off + k * 2, none⟩ = some (.int .i64 x) := (HB.out.cell (by exact hbw)).trans e.1
      have d2 : wr.cell? ⟨b, off + k * 2 + 1, none⟩ = some (.int .i64 y) := (HB.out.cell (by exact hbw)).trans e.2
      have HX : Hid (x = (ps.at k).1 ∧ y = (ps.at k).2) := ⟨hx, hy⟩
      have HB2 : Hid (Below w.heap.size w (wr.alloc (.cells #[.int .i64 x, .int .i64 y] 68))) := Below.allocW _ HB.out (Nat.le_refl _)
      have hI : (k : Int) < (len : Int) := by omega
      have hkl : k < ps.length := by rw [HL.out]; exact hlt
      clear e hx hy hc HB
      by_cases hin : x ≤ n ∧ n ≤ y
      · have HV : Hid (ps.has n = true) := Sp.has_at hkl (by rw [← HX.out.1, ← HX.out.2]; exact hin)
        have c1d : decide (x ≤ n) = true := decT hin.1
        have c2d : decide (n ≤ y) = true := decT hin.2
        go_wp2
        go_ret
        rw [HV.out]
        exact ⟨rfl, HB2.out⟩
      have HN2 : Hid (∀ j, j < k + 1 → ¬ ((ps.at j).1 ≤ n ∧ n ≤ (ps.at j).2)) := all_up HN.out (by rw [← HX.out.1, ← HX.out.2]; exact hin)
      by_cases c1 : x ≤ n
      · have c1d : decide (x ≤ n) = true := decT c1
        have c2d : decide (n ≤ y) = false := decF (fun e => hin ⟨c1, e⟩)
        clear hin c1
        go_wp2
        go_roundw
        case rel => exact ⟨k + 1, by omega, by go_num, HB2, HN2⟩
        case measure => simp [intOf]; omega
      · have c1d : decide (x ≤ n) = false := decF c1
        clear hin c1
        go_wp2
        go_roundw
        case rel => exact ⟨k + 1, by omega, by go_num, HB2, HN2⟩
        case measure => simp [intOf]; omega
    · obtain rfl : k = len := by omega
      have HV : Hid (ps.has n = false) := Sp.has_not (fun j hj => HN.out j (by rw [← HL.out]; exact hj))
      go_wp2
      go_ret
      rw [HV.out]
      exact ⟨rfl, HB.out⟩
set_option maxRecDepth 200000 in
set_option maxHeartbeats 2000000 in
theorem sizeImpl_any (a : Option Addr) (len cap : Nat) (ps : Sp) (F : List Nat) (w : World) (h : RdP w a len ps F) (hlen : len ≤ 2097152) :
    Calls Try.prog 11 #[.slice a len cap] w fun e w' => e = .returned (.int .i64 ps.size) ∧ Below w.heap.size w w' := by
  have HL : Hid (ps.length = len) := h.length
  have HR : Hid (RdP w a len ps F) := h
  have HC : Hid (len = 0 ∨ ∃ b off, a = some ⟨b, off, none⟩ ∧ b < w.heap.size ∧ SpCells w b off len ps) := cells_of h
  clear h
  go_enter Try.func11, Try.ntmps11
  go_wp2_with fail
  refine (setOkImpl_any a len cap ps F _ HR.out (by omega)).mono ?_
  rintro e w1 ⟨rfl, hb⟩
  have HB0 : Hid (Below w.heap.size w w1) := hb
  clear hb HR
  obtain ⟨d, hd⟩ : ∃ d, d = ps.ok := ⟨_, rfl⟩
  rw [← hd]
  have HD : Hid (d = ps.ok) := hd
  clear hd
  cases d
  · go_wp2
    go_ret
    rw [Sp.size_not HD.out.symm]
    exact ⟨rfl, HB0.out⟩
  go_wp2
  go_loopw [3, 11] (fun q i wr => ∃ (k : Nat) (u : Int), k ≤ len ∧ i = .int .i64 k ∧ q = .int .i64 u ∧ 0 ≤ u ∧ u ≤ 20971520000 ∧ Hid (Below w.heap.size w wr) ∧ Hid (u = Sp.sum (ps.take k))) (fun _ i _ => len - (intOf i).toNat)
  case atStart => exact ⟨0, 0, by omega, rfl, rfl, by omega, by omega, HB0, rfl⟩
  case round =>
    clear HB0
    obtain ⟨k, u, hk, rfl, rfl, u0, u1, HB, HN⟩ := hrel
    by_cases hlt : k < len
    · have hca := HC.out
      rcases hca with h0 | ⟨b, off, rfl, hbw, hc⟩
      · omega
      obtain ⟨x, hx⟩ : ∃ x, x = (ps.at k).1 := ⟨_, rfl⟩
      obtain ⟨y, hy⟩ : ∃ x, x = (ps.at k).2 := ⟨_, rfl⟩
      have e := hc k hlt
      have hok := (Sp.okAt_parts (Sp.ok_at HD.out.symm k (by rw [HL.out]; exact hlt))).1
      have hst := Sp.sum_step (ps := ps) (k := k) (by rw [HL.out]; exact hlt)
      have hrg := Sp.sum_range HD.out.symm (k + 1) (by rw [HL.out]; exact hlt)
      rw [← hx, ← hy] at e hok hst
      have d1 : wr.cell? ⟨b, off + k * 2, none⟩ = some (.int .i64 x) := (HB.out.cell (by exact hbw)).trans e.1
      have d2 : wr.cell? ⟨b, off + k * 2 + 1, none⟩ = some (.int .i64 y) := (HB.out.cell (by exact hbw)).trans e.2
      have HB2 : Hid (Below w.heap.size w (wr.alloc (.cells #[.int .i64 x, .int .i64 y] 68))) := Below.allocW _ HB.out (Nat.le_refl _)
      have hI : (k : Int) < (len : Int) := by omega
      have x0 : 0 ≤ x := by omega
      have x1 : x ≤ 9999 := by omega
      have y0 : 0 ≤ y := by omega
      have y1 : y ≤ 9999 := by omega
      have HN2 : Hid (u + (y - x + 1) = Sp.sum (ps.take (k + 1)) ∧ 0 ≤ u + (y - x + 1) ∧ u + (y - x + 1) ≤ 20971520000) := by
        have := HN.out
        rw [hst, ← this] at hrg
        exact ⟨by rw [hst, ← this], by omega, by omega⟩
      clear e hx hy hok hst hrg hc HB
      go_wp2
      go_roundw
      case rel => exact ⟨k + 1, u + (y - x + 1), by omega, by go_num, by go_num, HN2.out.2.1, HN2.out.2.2, HB2, HN2.out.1⟩
      case measure => simp [intOf]; omega
    · obtain rfl : k = len := by omega
      have HV : Hid (u = ps.size) := by
        show _ = _
        rw [Sp.size_ok HD.out.symm, HN.out, List.take_of_length_le (by rw [HL.out]; omega)]
      go_wp2
      go_ret
      rw [← HV.out]
      exact ⟨rfl, HB.out⟩
end Go.Proofs.Ytbmbmnhamogghab
/- The walks through the program's IdOf, ItemOk and the reading of an entry. No statement of the seat is proved here. -/
namespace Go.Proofs.Ytbmbmnhamogghab
open Go.RowKit
set_option maxRecDepth 200000 in
theorem isSeq_any (n : Int) (w : World) : Calls Try.prog 43 #[.int .i64 n] w fun e w' => e = .returned (.bool (decide (1 ≤ n ∧ n ≤ 60))) ∧ w' = w := by
  have hd : ∀ d : Bool, d = decide (1 ≤ n ∧ n ≤ 60) → (d = true ↔ 1 ≤ n ∧ n ≤ 60) := by rintro d rfl; simp
  generalize decide (1 ≤ n ∧ n ≤ 60) = d at *
  have hd := hd d rfl
  by_cases h : 1 ≤ n
  · by_cases h2 : n ≤ 60
    · have e : Hid (d = true) := hd.2 ⟨h, h2⟩
      clear hd
      go_enter Try.func43, Try.ntmps43
      go_wp2
      go_ret
      rw [e.out]; exact ⟨rfl, rfl⟩
    · have e : Hid (d = false) := show d = false by cases d; rfl; exact absurd (hd.1 rfl).2 h2
      clear hd
      go_enter Try.func43, Try.ntmps43
      go_wp2
      go_ret
      rw [e.out]; exact ⟨rfl, rfl⟩
  · have e : Hid (d = false) := show d = false by cases d; rfl; exact absurd (hd.1 rfl).1 h
    clear hd
    go_enter Try.func43, Try.ntmps43
    go_wp2
    go_ret
    rw [e.out]; exact ⟨rfl, rfl⟩
set_option maxRecDepth 200000 in
theorem idImpl_any (a s : Int) (w : World) : Calls Try.prog 17 #[.int .i64 a, .int .i64 s] w fun e w' => e = .returned (.int .i64 (idOf a s)) ∧ w' = w := by
  go_enter Try.func17, Try.ntmps17
  go_wp2_with fail
  refine (inRange_any _ _ _).mono ?_
  rintro e w2 ⟨rfl, hw2⟩
  have hw2' := hw2.symm
  subst hw2'
  clear hw2
  by_cases h1 : 0 ≤ a ∧ a ≤ 2
  rotate_left
  · rw [decF h1]
    have HV : Hid (idOf a s = -1) := by show _ = _; unfold idOf; rw [if_neg (fun e => h1 e.1)]
    clear h1
    go_wp2
    go_ret
    rw [HV.out]
    exact ⟨rfl, rfl⟩
  rw [decT h1]
  go_wp2_with fail
  refine (isSeq_any _ _).mono ?_
  rintro e w2 ⟨rfl, hw2⟩
  have hw2' := hw2.symm
  subst hw2'
  clear hw2
  by_cases h2 : 1 ≤ s ∧ s ≤ 60
  rotate_left
  · rw [decF h2]
    have HV : Hid (idOf a s = -1) := by show _ = _; unfold idOf; rw [if_neg (fun e => h2 e.2)]
    clear h1 h2
    go_wp2
    go_ret
    rw [HV.out]
    exact ⟨rfl, rfl⟩
  rw [decT h2]
  have HV : Hid (idOf a s = 100 * a + s) := by show _ = _; unfold idOf; rw [if_pos ⟨h1, h2⟩]
  obtain ⟨a0, a1⟩ := h1
  obtain ⟨s0, s1⟩ := h2
  go_wp2
  go_ret
  rw [HV.out]
  exact ⟨rfl, rfl⟩
set_option maxRecDepth 200000 in
theorem isPlace_any (k p : Int) (w : World) : Calls Try.prog 46 #[.agg #[.int .i64 k, .int .i64 p]] w fun e w' => e = .returned (.bool (placeOk k p)) ∧ Below w.heap.size w w' := by
  have HB : Hid (Below w.heap.size w (w.alloc (.cells #[.int .i64 k, .int .i64 p] 51))) := (Below.refl _ _).alloc (Nat.le_refl _) _
  go_enter Try.func46, Try.ntmps46
  go_wp2_with fail
  refine (inRange_any _ _ _).mono ?_
  rintro e w2 ⟨rfl, hw2⟩
  have hw2' := hw2.symm
  subst hw2'
  clear hw2
  obtain ⟨d1, hd1⟩ : ∃ d, d = decide (0 ≤ k ∧ k ≤ 4) := ⟨_, rfl⟩
  rw [← hd1]
  have HD1 : Hid (d1 = decide (0 ≤ k ∧ k ≤ 4)) := hd1
  clear hd1
  cases d1
  · have HV : Hid (placeOk k p = false) := by show _ = _; unfold placeOk; rw [← HD1.out]; rfl
    go_wp2
    go_ret
    exact ⟨ret_bool HV.out.symm, HB.out⟩
  go_wp2_with fail
  refine (inRange_any _ _ _).mono ?_
  rintro e w2 ⟨rfl, hw2⟩
  have hw2' := hw2.symm
  subst hw2'
  clear hw2
  obtain ⟨d2, hd2⟩ : ∃ d, d = decide (0 ≤ p ∧ p ≤ 20) := ⟨_, rfl⟩
  rw [← hd2]
  have HV : Hid (d2 = placeOk k p) := by show _ = _; unfold placeOk; rw [← HD1.out, ← hd2]; rfl
  clear hd2
  go_wp2
  go_ret
  exact ⟨ret_bool HV.out, HB.out⟩
set_option maxRecDepth 200000 in
set_option maxHeartbeats 2000000 in
theorem itemOkImpl_any (v : Value) (x : It) (F : List Nat) (w : World) (h : RdIt w v x F) (hw : x.sk.wide) :
    Calls Try.prog 19 #[v] w fun e w' => e = .returned (.bool x.ok) ∧ Below w.heap.size w w' := by
  obtain ⟨a1, n1, c1, a2, n2, c2, a3, n3, c3, rfl, hr⟩ := h
  have HR : Hid (RdSk w (.agg #[.int .i64 x.sk.count, .int .i64 x.sk.sum, .int .i64 x.sk.min, .int .i64 x.sk.max, .slice a1 n1 c1, .slice a2 n2 c2, .slice a3 n3 c3]) x.sk F ∧ x.sk.wide) := ⟨hr, hw⟩
  have HB : Hid (Below w.heap.size w (w.alloc (.cells #[.int .i64 x.seq, .int .i64 x.cls, .int .i64 x.key, .int .i64 x.window, .int .i64 x.sk.count, .int .i64 x.sk.sum, .int .i64 x.sk.min, .int .i64 x.sk.max, .slice a1 n1 c1, .slice a2 n2 c2, .slice a3 n3 c3] 40)) ∧ Blk (w.alloc (.cells #[.int .i64 x.seq, .int .i64 x.cls, .int .i64 x.key, .int .i64 x.window, .int .i64 x.sk.count, .int .i64 x.sk.sum, .int .i64 x.sk.min, .int .i64 x.sk.max, .slice a1 n1 c1, .slice a2 n2 c2, .slice a3 n3 c3] 40)) w.heap.size #[.int .i64 x.seq, .int .i64 x.cls, .int .i64 x.key, .int .i64 x.window, .int .i64 x.sk.count, .int .i64 x.sk.sum, .int .i64 x.sk.min, .int .i64 x.sk.max, .slice a1 n1 c1, .slice a2 n2 c2, .slice a3 n3 c3] 40) := ⟨Below.allocW _ (Below.refl _ _) (Nat.le_refl _), Blk.made _ _ _⟩
  clear hr hw
  go_enter Try.func19, Try.ntmps19
  go_wp2_with fail
  refine (isSeq_any _ _).mono ?_
  rintro e w2 ⟨rfl, hw2⟩
  have hw2' := hw2.symm
  subst hw2'
  clear hw2
  obtain ⟨d1, hd1⟩ : ∃ d, d = decide (1 ≤ x.seq ∧ x.seq ≤ 60) := ⟨_, rfl⟩
  rw [← hd1]
  have HD1 : Hid (d1 = decide (1 ≤ x.seq ∧ x.seq ≤ 60)) := hd1
  clear hd1
  cases d1
  · have HV : Hid (x.ok = false) := by show _ = _; unfold It.ok; rw [← HD1.out]; rfl
    go_wp2
    go_ret
    exact ⟨ret_bool HV.out.symm, HB.out.1⟩
  go_wp2_with fail
  refine (inRange_any _ _ _).mono ?_
  rintro e w2 ⟨rfl, hw2⟩
  have hw2' := hw2.symm
  subst hw2'
  clear hw2
  obtain ⟨d2, hd2⟩ : ∃ d, d = decide (0 ≤ x.cls ∧ x.cls ≤ 1) := ⟨_, rfl⟩
  rw [← hd2]
  have HD2 : Hid (d2 = decide (0 ≤ x.cls ∧ x.cls ≤ 1)) := hd2
  clear hd2
  cases d2
  · have HV : Hid (x.ok = false) := by show _ = _; unfold It.ok; rw [← HD1.out, ← HD2.out]; rfl
    go_wp2
    go_ret
    exact ⟨ret_bool HV.out.symm, HB.out.1⟩
  go_wp2_with fail
  refine (isPlace_any _ _ _).mono ?_
  rintro e w2 ⟨rfl, hb2⟩
  have HB2 : Hid (Below w.heap.size w w2 ∧ Blk w2 w.heap.size #[.int .i64 x.seq, .int .i64 x.cls, .int .i64 x.key, .int .i64 x.window, .int .i64 x.sk.count, .int .i64 x.sk.sum, .int .i64 x.sk.min, .int .i64 x.sk.max, .slice a1 n1 c1, .slice a2 n2 c2, .slice a3 n3 c3] 40) := ⟨Below.next HB.out.1 hb2, HB.out.2.below hb2⟩
  clear hb2
  obtain ⟨d3, hd3⟩ : ∃ d, d = placeOk x.key x.window := ⟨_, rfl⟩
  rw [← hd3]
  have HD3 : Hid (d3 = placeOk x.key x.window) := hd3
  clear hd3
  cases d3
  · have HV : Hid (x.ok = false) := by show _ = _; unfold It.ok; rw [← HD1.out, ← HD2.out, ← HD3.out]; rfl
    go_wp2
    go_ret
    exact ⟨ret_bool HV.out.symm, HB2.out.1⟩
  go_wp2_with (first | go_skip | (with_reducible refine stopLoad 28 rfl ?_))
  refine load_cutw 28 w.heap.size 4 7 _ #[.int .i64 x.sk.count, .int .i64 x.sk.sum, .int .i64 x.sk.min, .int .i64 x.sk.max, .slice a1 n1 c1, .slice a2 n2 c2, .slice a3 n3 c3] 40 _ HB2.out.2 rfl rfl rfl Try.underlying28 rfl infoSkI (by simp) rfl ?_
  go_wp2_with fail
  refine (okImpl_any _ x.sk F _ (HR.out.1.below HB2.out.1) HR.out.2).mono ?_
  rintro e w3 ⟨rfl, hb3⟩
  have HB3 : Hid (Below w.heap.size w w3) := Below.next HB2.out.1 hb3
  have HV : Hid (x.ok = x.sk.ok) := by show _ = _; unfold It.ok; rw [← HD1.out, ← HD2.out, ← HD3.out]; rfl
  clear hb3
  obtain ⟨d4, hd4⟩ : ∃ d, d = x.sk.ok := ⟨_, rfl⟩
  rw [← hd4] at HV ⊢
  clear hd4
  go_wp2
  go_ret
  exact ⟨ret_bool HV.out.symm, HB3.out⟩
/-- The cells of an entry as the program holds it. -/
def hc (k p : Int) (a : Option Addr) (l c : Nat) (ys : List Int) : Array Value := (.int .i64 k :: .int .i64 p :: .slice a l c :: ys.map (Value.int .i64)).toArray
theorem hc_size {k p : Int} {a : Option Addr} {l c : Nat} {ys : List Int} (h : ys.length = 28) : (hc k p a l c ys).size = 31 := by
  unfold hc; simp [h]
theorem hc_one (k p : Int) (a : Option Addr) (l c : Nat) (ys : List Int) : (hc k p a l c ys).all (·.oneCell') = true := by
  unfold hc
  simp [Value.oneCell']
section
variable {P : Program} {ops : Array Oper} {Q : Exit → Act → World → Prop} {rest : List Oper} {a : Act} {w : World} {o : Oper}
theorem stopBuild (ty : TypeId) {fs : Array (Nat × Operand)} (_ho : o.op = .build ty fs) (h : Stop (wpList P ops Q (o :: rest) a w)) : wpList P ops Q (o :: rest) a w := h
/-- A value that is put together, by a law of its own. -/
theorem built_any {ty : TypeId} {fs : Array (Nat × Operand)} (v : Value) (hw : Region.wanted o (yielded ops a.tmps) = true) (ho : o.op = .build ty fs) (hr : (Instr.build ty (fs.map fun p => (p.1, a.eval p.2))).run P w = .ok v w) (h : wpList P ops Q rest (a.put o.dst v) w) : Stop (wpList P ops Q (o :: rest) a w) :=
  wpList_step fun K hK => by
    rw [if_pos hw]
    unfold Oper.wp execOp
    simp only [ho]
    simp [hr]
    exact hK _ _ h
end
set_option maxRecDepth 200000 in
theorem build_hold (w : World) (k p : Int) (a : Option Addr) (l c : Nat) (ys : List Int) (h : ys.length = 28) : (Instr.build 58 #[(0, .agg #[.int .i64 k, .int .i64 p]), (1, .slice a l c), (2, .agg (tc ys))]).run Try.prog w = .ok (.agg (hc k p a l c ys)) w := by
  have key : ∀ y0 y1 y2 y3 y4 y5 y6 y7 y8 y9 y10 y11 y12 y13 y14 y15 y16 y17 y18 y19 y20 y21 y22 y23 y24 y25 y26 y27 : Int, (Instr.build 58 #[(0, .agg #[.int .i64 k, .int .i64 p]), (1, .slice a l c), (2, .agg (tc [y0, y1, y2, y3, y4, y5, y6, y7, y8, y9, y10, y11, y12, y13, y14, y15, y16, y17, y18, y19, y20, y21, y22, y23, y24, y25, y26, y27]))]).run Try.prog w = .ok (.agg (hc k p a l c [y0, y1, y2, y3, y4, y5, y6, y7, y8, y9, y10, y11, y12, y13, y14, y15, y16, y17, y18, y19, y20, y21, y22, y23, y24, y25, y26, y27])) w := by
    intro y0 y1 y2 y3 y4 y5 y6 y7 y8 y9 y10 y11 y12 y13 y14 y15 y16 y17 y18 y19 y20 y21 y22 y23 y24 y25 y26 y27
    kernel_rfl
  match ys, h with
  | [y0, y1, y2, y3, y4, y5, y6, y7, y8, y9, y10, y11, y12, y13, y14, y15, y16, y17, y18, y19, y20, y21, y22, y23, y24, y25, y26, y27], _ => exact key y0 y1 y2 y3 y4 y5 y6 y7 y8 y9 y10 y11 y12 y13 y14 y15 y16 y17 y18 y19 y20 y21 y22 y23 y24 y25 y26 y27
theorem holdSize {cs : Array Value} (h : cs.size = 31) : (Try.prog.info? 58).map (·.size) = some cs.size := by rw [h]; kernel_rfl
set_option maxRecDepth 200000 in
set_option maxHeartbeats 4000000 in
theorem okHolding_any (v : Value) (x : En) (F G : List Nat) (w : World) (h : RdEn w v x F G) (hw : x.sk.wide) (hl : x.ids.length ≤ 2097152) :
    Calls Try.prog 23 #[v] w fun e w' => ∃ k p a l c ys, e = .returned (.tuple #[.agg (hc k p a l c ys), .bool x.ok]) ∧ ys.length = 28 ∧ (x.ok = true → k = x.key ∧ p = x.window ∧ ys = x.sk.tl ∧ RdP w a l x.ids F ∧ Capd a l c) ∧ Below w.heap.size w w' := by
  obtain ⟨b, l, c, a1, n1, c1, a2, n2, c2, a3, n3, c3, rfl, hp, hr, hcp⟩ := h
  have HR : Hid (RdSk w (.agg #[.int .i64 x.sk.count, .int .i64 x.sk.sum, .int .i64 x.sk.min, .int .i64 x.sk.max, .slice a1 n1 c1, .slice a2 n2 c2, .slice a3 n3 c3]) x.sk G ∧ x.sk.wide) := ⟨hr, hw⟩
  have HP : Hid (RdP w b l x.ids F ∧ l ≤ 2097152 ∧ x.ids.length = l ∧ Capd b l c) := ⟨hp, by rw [← hp.length]; exact hl, hp.length, hcp⟩
  have hl2 : l ≤ 2097152 := HP.out.2.1
  have Z := two_made w #[.int .i64 x.key, .int .i64 x.window, .slice b l c, .int .i64 x.sk.count, .int .i64 x.sk.sum, .int .i64 x.sk.min, .int .i64 x.sk.max, .slice a1 n1 c1, .slice a2 n2 c2, .slice a3 n3 c3] (hc 0 0 none 0 0 (List.replicate 28 0)) 30 58
  have HZ : Hid (_ ∧ _ ∧ _) := Z
  clear hr hw hp hl Z hcp
  go_enter Try.func23, Try.ntmps23
  go_wp2_with (first | go_skip | (with_reducible refine stopLoad 28 rfl ?_))
  refine load_cutw 28 w.heap.size 3 7 _ #[.int .i64 x.sk.count, .int .i64 x.sk.sum, .int .i64 x.sk.min, .int .i64 x.sk.max, .slice a1 n1 c1, .slice a2 n2 c2, .slice a3 n3 c3] 30 _ HZ.out.1 rfl rfl rfl Try.underlying28 rfl infoSkI (by simp) rfl ?_
  go_wp2_with fail
  refine (okTally_any _ x.sk G _ (HR.out.1.below HZ.out.2.2) HR.out.2).mono ?_
  rintro e w1 ⟨xs, ys, rfl, _, hy, hx, hyx, hb1⟩
  have hok := okT_ok hx
  have HY : Hid (ys.length = 28 ∧ (x.sk.ok = true → ys = x.sk.tl)) := ⟨hy, fun e => by rw [hyx (hok.trans e)]; exact hx (Sk.ok_shaped e)⟩
  have HS1 : Hid (Blk w1 w.heap.size #[.int .i64 x.key, .int .i64 x.window, .slice b l c, .int .i64 x.sk.count, .int .i64 x.sk.sum, .int .i64 x.sk.min, .int .i64 x.sk.max, .slice a1 n1 c1, .slice a2 n2 c2, .slice a3 n3 c3] 30 ∧ Blk w1 (w.heap.size + 1) (hc 0 0 none 0 0 (List.replicate 28 0)) 58 ∧ Below w.heap.size w w1) := ⟨HZ.out.1.below hb1, HZ.out.2.1.below hb1, Below.next HZ.out.2.2 hb1⟩
  rw [hok]
  clear hb1 hy hx hyx hok HZ
  obtain ⟨d, hd⟩ : ∃ d, d = x.sk.ok := ⟨_, rfl⟩
  rw [← hd]
  have HD : Hid (d = x.sk.ok) := hd
  clear hd
  go_wp2_with (first | go_skip | (with_reducible refine stopStore 56 rfl ?_))
  refine store_fresh 56 w1.heap.size rfl (tc (List.replicate 28 0)) (tc ys) 56 rfl rfl rfl rfl (tallySize HY.out.1) (by rw [tc_size, tc_size, HY.out.1]; rfl) (tc_one _) ?_
  intro W2 hg2 hb2
  have HS2 : Hid (Blk W2 w.heap.size #[.int .i64 x.key, .int .i64 x.window, .slice b l c, .int .i64 x.sk.count, .int .i64 x.sk.sum, .int .i64 x.sk.min, .int .i64 x.sk.max, .slice a1 n1 c1, .slice a2 n2 c2, .slice a3 n3 c3] 30 ∧ Blk W2 (w.heap.size + 1) (hc 0 0 none 0 0 (List.replicate 28 0)) 58 ∧ Below w.heap.size w W2) := ⟨HS1.out.1.below hb2, HS1.out.2.1.below hb2, Below.next HS1.out.2.2 hb2⟩
  have HG2 : Hid (Blk W2 w1.heap.size (tc ys) 56) := hg2
  clear hb2 hg2 HS1
  have k0 : W2.cell? ⟨w.heap.size, 0, none⟩ = some (.int .i64 x.key) := by rw [HS2.out.1.cell]; rfl
  have k1 : W2.cell? ⟨w.heap.size, 1, none⟩ = some (.int .i64 x.window) := by rw [HS2.out.1.cell]; rfl
  go_wp2_with (first | go_skip | (with_reducible refine stopStore 51 rfl ?_))
  refine store_fresh 51 W2.heap.size rfl #[.int .i64 0, .int .i64 0] #[.int .i64 x.key, .int .i64 x.window] 51 rfl rfl rfl rfl (by kernel_rfl) rfl (by kernel_rfl) ?_
  intro W3 hg3 hb3
  have HS3 : Hid (Blk W3 w.heap.size #[.int .i64 x.key, .int .i64 x.window, .slice b l c, .int .i64 x.sk.count, .int .i64 x.sk.sum, .int .i64 x.sk.min, .int .i64 x.sk.max, .slice a1 n1 c1, .slice a2 n2 c2, .slice a3 n3 c3] 30 ∧ Blk W3 (w.heap.size + 1) (hc 0 0 none 0 0 (List.replicate 28 0)) 58 ∧ Below w.heap.size w W3) := ⟨HS2.out.1.below hb3, HS2.out.2.1.below hb3, Below.next HS2.out.2.2 hb3⟩
  have HG3 : Hid (Blk W3 w1.heap.size (tc ys) 56 ∧ Blk W3 W2.heap.size #[.int .i64 x.key, .int .i64 x.window] 51) := ⟨HG2.out.below hb3, hg3⟩
  clear hb3 hg3 HS2 HG2 k0 k1
  cases d
  · have HV : Hid (x.ok = false) := by show _ = _; unfold En.ok; rw [← HD.out]; simp
    have HS := HS3
    go_wp2_with (first | go_skip | (with_reducible refine stopStore 58 rfl ?_))
    refine store_known 58 (w.heap.size + 1) _ (hc 0 0 none 0 0 (List.replicate 28 0)) 58 HS.out.2.1 rfl rfl rfl rfl (by kernel_rfl) rfl (by kernel_rfl) ?_
    go_wp2
    refine bodyPost_ret (results_row_tmp Try.results23 _ _ (w.heap.size + 1) _ _ _ _ rfl HS.out.2.1.setRow Try.underlying58 rfl (by kernel_rfl)) rfl ?_
    exact ⟨0, 0, none, 0, 0, List.replicate 28 0, (by rw [HV.out]; rfl), rfl, fun e => (by rw [HV.out] at e; cases e), below_setRow HS.out.2.2 (by omega) _⟩

  go_wp2_with (first | go_skip | (with_reducible refine stopLoad 51 rfl ?_))
  refine load_any 51 W2.heap.size _ 51 _ HG3.out.2 rfl rfl rfl Try.underlying51 rfl (by kernel_rfl) ?_
  go_wp2_with fail
  refine (isPlace_any _ _ _).mono ?_
  rintro e w4 ⟨rfl, hb4⟩
  have HS4 : Hid (Blk w4 w.heap.size #[.int .i64 x.key, .int .i64 x.window, .slice b l c, .int .i64 x.sk.count, .int .i64 x.sk.sum, .int .i64 x.sk.min, .int .i64 x.sk.max, .slice a1 n1 c1, .slice a2 n2 c2, .slice a3 n3 c3] 30 ∧ Blk w4 (w.heap.size + 1) (hc 0 0 none 0 0 (List.replicate 28 0)) 58 ∧ Below w.heap.size w w4) := ⟨HS3.out.1.below hb4, HS3.out.2.1.below hb4, Below.next HS3.out.2.2 hb4⟩
  have HG4 : Hid (Blk w4 w1.heap.size (tc ys) 56 ∧ Blk w4 W2.heap.size #[.int .i64 x.key, .int .i64 x.window] 51) := ⟨HG3.out.1.below hb4, HG3.out.2.below hb4⟩
  clear hb4 HS3 HG3
  obtain ⟨d2, hd2⟩ : ∃ d, d = placeOk x.key x.window := ⟨_, rfl⟩
  rw [← hd2]
  have HD2 : Hid (d2 = placeOk x.key x.window) := hd2
  clear hd2
  cases d2
  · have HV : Hid (x.ok = false) := by show _ = _; unfold En.ok; rw [← HD2.out]; simp
    have HS := HS4
    go_wp2_with (first | go_skip | (with_reducible refine stopStore 58 rfl ?_))
    refine store_known 58 (w.heap.size + 1) _ (hc 0 0 none 0 0 (List.replicate 28 0)) 58 HS.out.2.1 rfl rfl rfl rfl (by kernel_rfl) rfl (by kernel_rfl) ?_
    go_wp2
    refine bodyPost_ret (results_row_tmp Try.results23 _ _ (w.heap.size + 1) _ _ _ _ rfl HS.out.2.1.setRow Try.underlying58 rfl (by kernel_rfl)) rfl ?_
    exact ⟨0, 0, none, 0, 0, List.replicate 28 0, (by rw [HV.out]; rfl), rfl, fun e => (by rw [HV.out] at e; cases e), below_setRow HS.out.2.2 (by omega) _⟩

  have k2 : w4.cell? ⟨w.heap.size, 2, none⟩ = some (.slice b l c) := by rw [HS4.out.1.cell]; rfl
  go_wp2_with fail
  refine (setOkImpl_any b l c x.ids F _ (HP.out.1.below HS4.out.2.2) HP.out.2.1).mono ?_
  rintro e w5 ⟨rfl, hb5⟩
  have HS5 : Hid (Blk w5 w.heap.size #[.int .i64 x.key, .int .i64 x.window, .slice b l c, .int .i64 x.sk.count, .int .i64 x.sk.sum, .int .i64 x.sk.min, .int .i64 x.sk.max, .slice a1 n1 c1, .slice a2 n2 c2, .slice a3 n3 c3] 30 ∧ Blk w5 (w.heap.size + 1) (hc 0 0 none 0 0 (List.replicate 28 0)) 58 ∧ Below w.heap.size w w5) := ⟨HS4.out.1.below hb5, HS4.out.2.1.below hb5, Below.next HS4.out.2.2 hb5⟩
  have HG5 : Hid (Blk w5 w1.heap.size (tc ys) 56 ∧ Blk w5 W2.heap.size #[.int .i64 x.key, .int .i64 x.window] 51) := ⟨HG4.out.1.below hb5, HG4.out.2.below hb5⟩
  have k5 : w5.cell? ⟨w.heap.size, 2, none⟩ = some (.slice b l c) := by rw [HS5.out.1.cell]; rfl
  clear hb5 HS4 HG4 k2
  obtain ⟨d3, hd3⟩ : ∃ d, d = x.ids.ok := ⟨_, rfl⟩
  rw [← hd3]
  have HD3 : Hid (d3 = x.ids.ok) := hd3
  clear hd3
  cases d3
  · have HV : Hid (x.ok = false) := by show _ = _; unfold En.ok; rw [← HD3.out]; simp
    have HS := HS5
    go_wp2_with (first | go_skip | (with_reducible refine stopStore 58 rfl ?_))
    refine store_known 58 (w.heap.size + 1) _ (hc 0 0 none 0 0 (List.replicate 28 0)) 58 HS.out.2.1 rfl rfl rfl rfl (by kernel_rfl) rfl (by kernel_rfl) ?_
    go_wp2
    refine bodyPost_ret (results_row_tmp Try.results23 _ _ (w.heap.size + 1) _ _ _ _ rfl HS.out.2.1.setRow Try.underlying58 rfl (by kernel_rfl)) rfl ?_
    exact ⟨0, 0, none, 0, 0, List.replicate 28 0, (by rw [HV.out]; rfl), rfl, fun e => (by rw [HV.out] at e; cases e), below_setRow HS.out.2.2 (by omega) _⟩

  by_cases h0 : l = 0
  · have HV : Hid (x.ok = false) := by show _ = _; unfold En.ok; rw [HP.out.2.2.1, h0]; simp
    subst h0
    have HS := HS5
    go_wp2_with (first | go_skip | (with_reducible refine stopStore 58 rfl ?_))
    refine store_known 58 (w.heap.size + 1) _ (hc 0 0 none 0 0 (List.replicate 28 0)) 58 HS.out.2.1 rfl rfl rfl rfl (by kernel_rfl) rfl (by kernel_rfl) ?_
    go_wp2
    refine bodyPost_ret (results_row_tmp Try.results23 _ _ (w.heap.size + 1) _ _ _ _ rfl HS.out.2.1.setRow Try.underlying58 rfl (by kernel_rfl)) rfl ?_
    exact ⟨0, 0, none, 0, 0, List.replicate 28 0, (by rw [HV.out]; rfl), rfl, fun e => (by rw [HV.out] at e; cases e), below_setRow HS.out.2.2 (by omega) _⟩

  have g1 : ((l : Int) == 0) = false := by simp; omega
  have HV : Hid (x.ok = true) := by show _ = _; unfold En.ok; rw [← HD.out, ← HD2.out, ← HD3.out, HP.out.2.2.1]; simp; omega
  clear h0
  go_wp2_with (first | go_skip | (with_reducible refine stopLoad 51 rfl ?_))
  refine load_any 51 W2.heap.size _ 51 _ HG5.out.2 rfl rfl rfl Try.underlying51 rfl (by kernel_rfl) ?_
  go_wp2_with (first | go_skip | (with_reducible refine stopLoad 56 rfl ?_))
  refine load_any 56 w1.heap.size (tc ys) 56 _ HG5.out.1 rfl rfl rfl Try.underlying56 rfl (tallySize HY.out.1) ?_
  go_wp2_with (first | go_skip | (with_reducible refine stopBuild 58 rfl ?_))
  refine built_any (.agg (hc x.key x.window b l c ys)) rfl rfl (by simp only [List.map_toArray, List.map_cons, List.map_nil]; exact build_hold _ _ _ _ _ _ _ HY.out.1) ?_
  go_wp2_with (first | go_skip | (with_reducible refine stopStore 58 rfl ?_))
  refine store_known 58 (w.heap.size + 1) _ (hc x.key x.window b l c ys) 58 HS5.out.2.1 rfl rfl rfl rfl (holdSize (hc_size HY.out.1)) (by rw [hc_size HY.out.1]; rfl) (hc_one ..) ?_
  go_wp2
  refine bodyPost_ret (results_row_tmp Try.results23 _ _ (w.heap.size + 1) _ _ _ _ rfl HS5.out.2.1.setRow Try.underlying58 rfl (holdSize (hc_size HY.out.1))) rfl ?_
  exact ⟨x.key, x.window, b, l, c, ys, (by rw [HV.out]; rfl), HY.out.1, fun _ => ⟨rfl, rfl, HY.out.2 HD.out.symm, HP.out.1, HP.out.2.2.2⟩, below_setRow HS5.out.2.2 (by omega) _⟩
set_option maxRecDepth 200000 in
set_option maxHeartbeats 1000000 in
theorem entryOkImpl_en (v : Value) (x : En) (F G : List Nat) (w : World) (h : RdEn w v x F G) (hw : x.sk.wide) (hl : x.ids.length ≤ 2097152) :
    Calls Try.prog 10 #[v] w fun e w' => e = .returned (.bool x.ok) ∧ Below w.heap.size w w' := by
  have HH : Hid (RdEn w v x F G ∧ x.sk.wide ∧ x.ids.length ≤ 2097152) := ⟨h, hw, hl⟩
  obtain ⟨b, l, c, a1, n1, c1, a2, n2, c2, a3, n3, c3, rfl, hp, hr, hcp⟩ := h
  have HT : Hid (Blk (w.alloc (.cells #[.int .i64 x.key, .int .i64 x.window, .slice b l c, .int .i64 x.sk.count, .int .i64 x.sk.sum, .int .i64 x.sk.min, .int .i64 x.sk.max, .slice a1 n1 c1, .slice a2 n2 c2, .slice a3 n3 c3] 30)) w.heap.size #[.int .i64 x.key, .int .i64 x.window, .slice b l c, .int .i64 x.sk.count, .int .i64 x.sk.sum, .int .i64 x.sk.min, .int .i64 x.sk.max, .slice a1 n1 c1, .slice a2 n2 c2, .slice a3 n3 c3] 30 ∧ Below w.heap.size w (w.alloc (.cells #[.int .i64 x.key, .int .i64 x.window, .slice b l c, .int .i64 x.sk.count, .int .i64 x.sk.sum, .int .i64 x.sk.min, .int .i64 x.sk.max, .slice a1 n1 c1, .slice a2 n2 c2, .slice a3 n3 c3] 30))) := ⟨Blk.made _ _ _, (Below.refl _ _).alloc (Nat.le_refl _) _⟩
  clear hp hr hcp hw hl
  go_enter Try.func10, Try.ntmps10
  go_wp2_with (first | go_skip | (with_reducible refine stopLoad 30 rfl ?_))
  refine load_any 30 w.heap.size _ 30 _ HT.out.1 rfl rfl rfl Try.underlying30 rfl (by kernel_rfl) ?_
  go_wp2_with fail
  refine (okHolding_any _ x F G _ (HH.out.1.below HT.out.2) HH.out.2.1 HH.out.2.2).mono ?_
  rintro e w1 ⟨k, p, a, l', c', ys, rfl, hy, _, hb1⟩
  have HB : Hid (ys.length = 28 ∧ Below w.heap.size w w1) := ⟨hy, Below.next HT.out.2 hb1⟩
  clear hb1 hy
  obtain ⟨d, hd⟩ : ∃ d, d = x.ok := ⟨_, rfl⟩
  rw [← hd]
  have HD : Hid (d = x.ok) := hd
  clear hd
  go_wp2_with (first | go_skip | (with_reducible refine stopStore 58 rfl ?_))
  refine store_fresh 58 w1.heap.size rfl (hc 0 0 none 0 0 (List.replicate 28 0)) (hc k p a l' c' ys) 58 rfl rfl rfl rfl (holdSize (hc_size HB.out.1)) (by rw [hc_size HB.out.1]; rfl) (hc_one ..) ?_
  intro W2 _ hb2
  have HB2 : Hid (Below w.heap.size w W2) := Below.next HB.out.2 hb2
  clear hb2
  go_wp2
  go_ret
  exact ⟨ret_bool HD.out, HB2.out⟩
end Go.Proofs.Ytbmbmnhamogghab
/- The walk through the program's copying of a summary. No statement of the seat is proved here. -/
namespace Go.Proofs.Ytbmbmnhamogghab
open Go.RowKit
/-- In the midst of a copying: k rows are done. -/
structure CpSt (w : World) (A B : Array Value) (s : Sk) (a1 a2 : Option Addr) (F1 F2 : List Nat) (lo k : Nat) (v : Value) (vs : List Value) (G : List Nat) (W : World) : Prop where
  box : Blk W w.heap.size A 28
  res : Blk W (w.heap.size + 1) B 28
  bel : Below w.heap.size w W
  r1 : RdI W a1 8 s.hist F1
  r2 : RdI W a2 8 s.regs F2
  own : Own (w.heap.size + 2) W (F1 ++ F2)
  lt : ∀ b ∈ F1 ++ F2, b < lo
  row : W.ownsRow lo 25 1 v k vs
  rd : RdS W ((s.rows.take k).map ints) vs G
  og : Own lo W G
  ap : ∀ b, v.ownBlock = some b → b ∉ G
  big : w.heap.size + 2 ≤ lo
  lw : lo ≤ W.heap.size
section
variable {w W W' : World} {A B : Array Value} {s : Sk} {a1 a2 : Option Addr} {F1 F2 : List Nat} {lo k : Nat} {v : Value} {vs : List Value} {G : List Nat}
theorem CpSt.below (h : CpSt w A B s a1 a2 F1 F2 lo k v vs G W) (b : Below W.heap.size W W') : CpSt w A B s a1 a2 F1 F2 lo k v vs G W' :=
  ⟨h.box.below b, h.res.below b, Below.next h.bel b, h.r1.below b, h.r2.below b, h.own.below (fun x hx => (List.mem_append.1 hx).elim (h.r1.lt x) (h.r2.lt x)) b, h.lt, ownsRow_below h.row b, h.rd.below b, h.og.below h.rd.lt b, h.ap, h.big, Nat.le_trans h.lw b.size⟩
theorem CpSt.step (h : CpSt w A B s a1 a2 F1 F2 lo k v vs G W) {nk cp3 g4 cp4 L : Nat} {a' : Option Addr} {Fk : List Nat} (rk : RdI W a' nk (s.rows.getD k []) Fk) (ok : Own L W Fk) (ltG : ∀ b ∈ G, b < L) (ltv : ∀ b, v.ownBlock = some b → b < L) (hL : lo ≤ L)
    (hown : W'.ownsRow lo 25 1 (.slice (some ⟨g4, 0, none⟩) (k + 1) cp4) (k + 1) (vs ++ [.slice a' nk cp3])) (hgrow : W.grownBy W' v.ownBlock) (hat : v.ownBlock = some g4 ∨ g4 = W.heap.size) (hk : k < s.rows.length) :
    CpSt w A B s a1 a2 F1 F2 lo (k + 1) (.slice (some ⟨g4, 0, none⟩) (k + 1) cp4) (vs ++ [.slice a' nk cp3]) (G ++ Fk) W' := by
  have big := h.big
  have blk : ∀ b, b < W.heap.size → ¬ v.ownBlock = some b → W'.heap[b]? = W.heap[b]? := fun b hb hn => hgrow.block b hb (fun e => hn e.symm)
  have vge : ∀ b, v.ownBlock = some b → lo ≤ b := fun b hb => (h.row.lt b hb).1
  have bx := h.box.agree (blk _ h.box.lt (fun e => by have := vge _ e; omega))
  have rs := h.res.agree (blk _ h.res.lt (fun e => by have := vge _ e; omega))
  have bel : Below w.heap.size w W' := h.bel.grown hgrow h.bel.size (fun b hb => by have := vge b hb; omega)
  have agF : Agree W W' (F1 ++ F2) := fun b hb => blk b ((List.mem_append.1 hb).elim (h.r1.lt b) (h.r2.lt b)) (fun e => by have := vge _ e; have := h.lt b hb; omega)
  have agG : Agree W W' (G ++ Fk) := fun b hb => blk b ((List.mem_append.1 hb).elim (h.rd.lt b) (rk.lt b)) (fun e => (List.mem_append.1 hb).elim (h.ap b e) (fun hf => by have := ok.ge b hf; have := ltv b e; omega))
  refine ⟨bx, rs, bel, h.r1.agree agF.left, h.r2.agree agF.right, h.own.agree agF, h.lt, hown, ?_, ?_, ?_, h.big, ?_⟩
  · rw [take_snoc s.rows [] k hk, List.map_append]
    exact (h.rd.agree agG.left).snoc (rd_ints.2 ⟨_, _, _, rfl, rk.agree agG.right⟩)
  · exact (h.og.agree agG.left).join (ok.agree agG.right) ltG hL
  · intro b hb hx
    have hb' : b = g4 := by simpa [Value.ownBlock] using hb.symm
    subst hb'
    rcases hat with e | e
    · rcases List.mem_append.1 hx with hx | hx
      · exact h.ap _ e hx
      · have := ok.ge _ hx; have := ltv _ e; omega
    · rcases List.mem_append.1 hx with hx | hx
      · have := h.rd.lt _ hx; omega
      · have := rk.lt _ hx; omega
  · have := hgrow.size; have := h.lw; omega
theorem CpSt.rows (h : CpSt w A B s a1 a2 F1 F2 lo k v vs G W) : ∃ a c F, v = .slice a k c ∧ RdII W a k (s.rows.take k) F ∧ Own (w.heap.size + 2) W (F1 ++ (F2 ++ F)) := by
  have big := h.big
  rcases h.row.2 with ⟨e, e'⟩ | ⟨g, cap, cur, e, e2, e3, e4⟩
  · subst e'
    exact ⟨none, 0, [], e, ⟨by simp, .inl ⟨rfl, rfl⟩⟩, by simpa using h.own⟩
  · subst e
    have hl : vs.length = k := by simpa using h.row.1
    have hlen := h.rd.length
    by_cases h0 : k = 0
    · subst h0
      exact ⟨_, cap, [], rfl, ⟨by simp, .inl ⟨rfl, rfl⟩⟩, by simpa using h.own⟩
    · have hm : RdM W ((s.rows.take k).map ints) g 0 G := rdM_of_own 0 h.rd (fun i hi => by rw [Nat.zero_add]; exact h.row.cellAt i (by omega))
      have hg : lo ≤ g := (h.row.lt g rfl).1
      have hgG : g ∉ G := h.ap g rfl
      have og : Own lo W (g :: G) := ⟨List.nodup_cons.2 ⟨hgG, h.og.nodup⟩, fun b hb o => (List.mem_cons.1 hb).elim (fun e => by subst e; exact h.row.frozenAt o) (fun hb => h.og.free b hb o), fun b hb => (List.mem_cons.1 hb).elim (fun e => by omega) (h.og.ge b)⟩
      refine ⟨_, cap, g :: G, rfl, ⟨by rw [List.length_map] at hlen; omega, .inr ⟨g, 0, G, by omega, rfl, rfl, hm⟩⟩, ?_⟩
      rw [← List.append_assoc]
      exact h.own.join og h.lt h.big
end
set_option maxRecDepth 200000 in
set_option maxHeartbeats 8000000 in
theorem copiedSketch_any (v : Value) (s : Sk) (F : List Nat) (w : World) (h : RdSk w v s F) (hs : s.shaped = true) :
    Calls Try.prog 38 #[v] w fun e w' => NewSk w s e w' := by
  obtain ⟨j0, hj, hy0, hy1, hy2⟩ := info_parts infoInts
  obtain ⟨s1, s2, x, y, s3, s4, s5⟩ := Sk.shaped_parts hs
  obtain ⟨a1, n1, c1, a2, n2, c2, a3, n3, c3, F1, F2, F3, rfl, h1, h2, h3, _⟩ := h
  obtain rfl : n1 = 8 := by rw [← h1.length]; exact s1
  obtain rfl : n2 = 8 := by rw [← h2.length]; exact s2
  obtain rfl : n3 = 2 := by rw [← h3.length, s3]; rfl
  obtain ⟨p1, q1, rfl⟩ := h1.addr (by omega)
  obtain ⟨p2, q2, rfl⟩ := h2.addr (by omega)
  obtain ⟨p3, o3, F3', rfl, hm3⟩ : ∃ b off F', a3 = some ⟨b, off, none⟩ ∧ RdM w (s.rows.map ints) b off F' := by
    rcases h3.cells with ⟨h0, _⟩ | ⟨b, off, F', _, e, _, hm⟩
    · omega
    · exact ⟨b, off, F', e, hm⟩
  have HL : Hid (s.rows.length = 2 ∧ ∀ z ∈ s.rows, z.length = 4) := ⟨by rw [s3]; rfl, fun z hz => by rw [s3] at hz; simp at hz; rcases hz with rfl | rfl <;> assumption⟩
  have HR : Hid (RdI w (some ⟨p1, q1, none⟩) 8 s.hist F1 ∧ RdI w (some ⟨p2, q2, none⟩) 8 s.regs F2 ∧ RdM w (s.rows.map ints) p3 o3 F3') := ⟨h1, h2, hm3⟩
  have HT : Hid (_ ∧ _ ∧ _) := two_made w #[.int .i64 s.count, .int .i64 s.sum, .int .i64 s.min, .int .i64 s.max, .slice (some ⟨p1, q1, none⟩) 8 c1, .slice (some ⟨p2, q2, none⟩) 8 c2, .slice (some ⟨p3, o3, none⟩) 2 c3] #[.int .i64 0, .int .i64 0, .int .i64 0, .int .i64 0, .slice none 0 0, .slice none 0 0, .slice none 0 0] 28 28
  clear h1 h2 h3 hm3 s1 s2 s3 s4 s5 hs x y
  go_enter Try.func38, Try.ntmps38
  go_wp2_with fail
  refine (copiedList_any p1 q1 8 c1 s.hist F1 _ (HR.out.1.below HT.out.2.2) (by omega) (by omega)).mono ?_
  rintro e w1 ⟨b1, m1, d1, G1, rfl, r1, o1, B1⟩
  obtain rfl : m1 = 8 := by rw [← r1.length]; have := HR.out.1.length; exact this
  have HS1 : Hid (Blk w1 w.heap.size #[.int .i64 s.count, .int .i64 s.sum, .int .i64 s.min, .int .i64 s.max, .slice (some ⟨p1, q1, none⟩) 8 c1, .slice (some ⟨p2, q2, none⟩) 8 c2, .slice (some ⟨p3, o3, none⟩) 2 c3] 28 ∧ Blk w1 (w.heap.size + 1) #[.int .i64 0, .int .i64 0, .int .i64 0, .int .i64 0, .slice none 0 0, .slice none 0 0, .slice none 0 0] 28 ∧ Below w.heap.size w w1) := ⟨HT.out.1.below B1, HT.out.2.1.below B1, Below.next HT.out.2.2 B1⟩
  have ge1 := HT.out.2.1.lt
  have HQ1 : Hid (RdI w1 b1 8 s.hist G1 ∧ Own (w.heap.size + 2) w1 G1) := ⟨r1, o1.mono ge1⟩
  have c14 := HS1.out.1.cell 4
  have f14 := HS1.out.1.frozen 4
  have c15 := HS1.out.1.cell 5
  simp only [List.getElem?_toArray, List.getElem?_cons_succ, List.getElem?_cons_zero] at c14 c15
  clear r1 o1 B1 HT ge1
  go_wp2_with fail
  obtain ⟨W2, hW2⟩ : ∃ W2, W2 = w1.setCell ⟨w.heap.size, 4, none⟩ (.slice b1 8 d1) := ⟨_, rfl⟩
  have n1 : w.heap.size ∉ G1 := fun hx => by have := HQ1.out.2.ge _ hx; omega
  have HS2 : Hid (Blk W2 w.heap.size #[.int .i64 s.count, .int .i64 s.sum, .int .i64 s.min, .int .i64 s.max, .slice b1 8 d1, .slice (some ⟨p2, q2, none⟩) 8 c2, .slice (some ⟨p3, o3, none⟩) 2 c3] 28 ∧ Blk W2 (w.heap.size + 1) #[.int .i64 0, .int .i64 0, .int .i64 0, .int .i64 0, .slice none 0 0, .slice none 0 0, .slice none 0 0] 28 ∧ Below w.heap.size w W2) := by
    rw [hW2]
    exact ⟨HS1.out.1.set 4 _, HS1.out.2.1.setOther (by omega) 4 _, HS1.out.2.2.setCell (by show w.heap.size ≤ w.heap.size; omega) _⟩
  have HQ2 : Hid (RdI W2 b1 8 s.hist G1 ∧ Own (w.heap.size + 2) W2 G1) := by
    rw [hW2]
    exact ⟨HQ1.out.1.agree (.set n1 4 _), HQ1.out.2.agree (.set n1 4 _)⟩
  rw [← hW2]
  clear hW2 n1 c14 f14 c15 HS1 HQ1
  refine (copiedList_any p2 q2 8 c2 s.regs F2 _ (HR.out.2.1.below HS2.out.2.2) (by omega) (by omega)).mono ?_
  rintro e w3 ⟨b2, m2, d2, G2, rfl, r2, o2, B3⟩
  obtain rfl : m2 = 8 := by rw [← r2.length]; have := HR.out.2.1.length; exact this
  have HS3 : Hid (Blk w3 w.heap.size #[.int .i64 s.count, .int .i64 s.sum, .int .i64 s.min, .int .i64 s.max, .slice b1 8 d1, .slice (some ⟨p2, q2, none⟩) 8 c2, .slice (some ⟨p3, o3, none⟩) 2 c3] 28 ∧ Blk w3 (w.heap.size + 1) #[.int .i64 0, .int .i64 0, .int .i64 0, .int .i64 0, .slice none 0 0, .slice none 0 0, .slice none 0 0] 28 ∧ Below w.heap.size w w3) := ⟨HS2.out.1.below B3, HS2.out.2.1.below B3, Below.next HS2.out.2.2 B3⟩
  have HQ3 : Hid (RdI w3 b1 8 s.hist G1 ∧ RdI w3 b2 8 s.regs G2 ∧ Own (w.heap.size + 2) w3 (G1 ++ G2)) := ⟨HQ2.out.1.below B3, r2, (HQ2.out.2.below HQ2.out.1.lt B3).join o2 HQ2.out.1.lt (by have := HS2.out.2.1.lt; omega)⟩
  have c15 := HS3.out.1.cell 5
  have f15 := HS3.out.1.frozen 5
  have c16 := HS3.out.1.cell 6
  simp only [List.getElem?_toArray, List.getElem?_cons_succ, List.getElem?_cons_zero] at c15 c16
  clear r2 o2 B3 HS2 HQ2
  go_wp2
  obtain ⟨W4, hW4⟩ : ∃ W4, W4 = w3.setCell ⟨w.heap.size, 5, none⟩ (.slice b2 8 d2) := ⟨_, rfl⟩
  have n2 : w.heap.size ∉ G1 ++ G2 := fun hx => by have := HQ3.out.2.2.ge _ hx; omega
  have HC0 : Hid (CpSt w #[.int .i64 s.count, .int .i64 s.sum, .int .i64 s.min, .int .i64 s.max, .slice b1 8 d1, .slice b2 8 d2, .slice (some ⟨p3, o3, none⟩) 2 c3] #[.int .i64 0, .int .i64 0, .int .i64 0, .int .i64 0, .slice none 0 0, .slice none 0 0, .slice none 0 0] s b1 b2 G1 G2 W4.heap.size 0 (.slice none 0 0) [] [] W4) := by
    rw [hW4]
    have ag : Agree w3 (w3.setCell ⟨w.heap.size, 5, none⟩ (.slice b2 8 d2)) (G1 ++ G2) := .set n2 5 _
    exact ⟨HS3.out.1.set 5 _, HS3.out.2.1.setOther (by omega) 5 _, HS3.out.2.2.setCell (by show w.heap.size ≤ w.heap.size; omega) _, HQ3.out.1.agree ag.left, HQ3.out.2.1.agree ag.right, HQ3.out.2.2.agree ag, fun b hb => by have := (List.mem_append.1 hb).elim (HQ3.out.1.lt b) (HQ3.out.2.1.lt b); simpa using this, ⟨rfl, .inl ⟨rfl, rfl⟩⟩, by simp [RdS], Own.nil, fun b hb => (by cases hb), by have := HS3.out.2.1.lt; have e : (w3.setCell ⟨w.heap.size, 5, none⟩ (.slice b2 8 d2)).heap.size = w3.heap.size := (by simp); omega, Nat.le_refl _⟩
  rw [← hW4]
  have HM : Hid (∀ W k, Below w.heap.size w W → k < 2 → ∃ pk qk ck Yk, W.cell? ⟨p3, o3 + k, none⟩ = some (.slice (some ⟨pk, qk, none⟩) 4 ck) ∧ RdI W (some ⟨pk, qk, none⟩) 4 (s.rows.getD k []) Yk) := fun W k hb hk => by
    obtain ⟨ak, nk, ck, Yk, hck, hrk, _⟩ := RdII.row HR.out.2.2 HL.out.1 k hk
    have h4 : nk = 4 := by rw [← hrk.length]; exact HL.out.2 _ (mem_getD (d := []) (by rw [HL.out.1]; exact hk))
    subst h4
    obtain ⟨pk, qk, rfl⟩ := hrk.addr (by omega)
    exact ⟨pk, qk, ck, Yk, (hb.cell (World.block_lt_of_cell? _ _ hck)).trans hck, hrk.below hb⟩
  clear hW4 n2 c15 f15 c16 HS3 HQ3 HR
  go_loopw [3, 17] (fun q i wr => ∃ (k : Nat) (v : Value) (vs : List Value) (GG : List Nat), k ≤ 2 ∧ i = .int .i64 k ∧ v = q ∧ Hid (CpSt w #[.int .i64 s.count, .int .i64 s.sum, .int .i64 s.min, .int .i64 s.max, .slice b1 8 d1, .slice b2 8 d2, .slice (some ⟨p3, o3, none⟩) 2 c3] #[.int .i64 0, .int .i64 0, .int .i64 0, .int .i64 0, .slice none 0 0, .slice none 0 0, .slice none 0 0] s b1 b2 G1 G2 W4.heap.size k v vs GG wr)) (fun _ i _ => 2 - (intOf i).toNat)
  case atStart => exact ⟨0, _, [], [], by omega, rfl, rfl, HC0⟩
  case round =>
    clear HC0
    obtain ⟨k, v, vs, GG, hk, rfl, rfl, CSS⟩ := hrel
    by_cases hlt : k < 2
    · obtain ⟨pk, qk, ck, Yk, hck, hrk⟩ := HM.out wr k CSS.out.bel hlt
      have HQ : Hid (RdI wr (some ⟨pk, qk, none⟩) 4 (s.rows.getD k []) Yk) := hrk
      clear hrk
      go_wp2_with fail
      refine (copiedList_any pk qk 4 ck (s.rows.getD k []) Yk _ HQ.out (by omega) (by omega)).mono ?_
      rintro e w5 ⟨ak, nk, dk, Fk, rfl, rk, ok, Bk⟩
      have CS5 : Hid (CpSt w #[.int .i64 s.count, .int .i64 s.sum, .int .i64 s.min, .int .i64 s.max, .slice b1 8 d1, .slice b2 8 d2, .slice (some ⟨p3, o3, none⟩) 2 c3] #[.int .i64 0, .int .i64 0, .int .i64 0, .int .i64 0, .slice none 0 0, .slice none 0 0, .slice none 0 0] s b1 b2 G1 G2 W4.heap.size k v vs GG w5) := CSS.out.below Bk
      have HK : Hid (RdI w5 ak nk (s.rows.getD k []) Fk ∧ Own wr.heap.size w5 Fk ∧ (∀ b ∈ GG, b < wr.heap.size) ∧ (∀ b, v.ownBlock = some b → b < wr.heap.size) ∧ W4.heap.size ≤ wr.heap.size) := ⟨rk, ok, CSS.out.rd.lt, fun b hb => (CSS.out.row.lt b hb).2, CSS.out.lw⟩
      clear rk ok Bk hck CSS HQ
      go_wp2_with (with_reducible refine stopAppend rfl ?_)
      obtain ⟨W6, hW6⟩ : ∃ W, W = w5.alloc (.cells #[.slice ak nk dk] 25) := ⟨_, rfl⟩
      have hbn : Below w5.heap.size w5 W6 := by rw [hW6]; exact (Below.refl _ _).alloc (Nat.le_refl _) _
      have HCN : Hid (∀ (j : Nat) (x : Value), [Value.slice ak nk dk][j]? = some x → W6.cell? ((⟨w5.heap.size, 0, none⟩ : Addr).add j) = some x) := by rw [hW6]; exact cell_new1 _ _ _
      have CS6 : Hid (CpSt w #[.int .i64 s.count, .int .i64 s.sum, .int .i64 s.min, .int .i64 s.max, .slice b1 8 d1, .slice b2 8 d2, .slice (some ⟨p3, o3, none⟩) 2 c3] #[.int .i64 0, .int .i64 0, .int .i64 0, .int .i64 0, .slice none 0 0, .slice none 0 0, .slice none 0 0] s b1 b2 G1 G2 W4.heap.size k v vs GG W6) := CS5.out.below hbn
      have HK6 : Hid (RdI W6 ak nk (s.rows.getD k []) Fk ∧ Own wr.heap.size W6 Fk) := ⟨HK.out.1.below hbn, HK.out.2.1.below HK.out.1.lt hbn⟩
      rw [← hW6]
      clear hW6 hbn CS5
      refine Stop.intro (wpList_append_lies _ rfl _ _ 26 rfl W4.heap.size 25 j0 (.slice none 0 0) 1 24 Try.underlying26 hj hy0 hy1 hy2 rfl (by decide) v k vs rfl CS6.out.row ⟨w5.heap.size, 0, none⟩ 1 1 [.slice ak nk dk] rfl rfl HCN.out (by simp [Value.oneCell']) (by omega) (by unfold maxLen; omega) (by omega) CS6.out.lw _ rfl ?_)
      intro g4 cp4 W7 hown hgrow hat hlt7
      have CS7 : Hid (CpSt w #[.int .i64 s.count, .int .i64 s.sum, .int .i64 s.min, .int .i64 s.max, .slice b1 8 d1, .slice b2 8 d2, .slice (some ⟨p3, o3, none⟩) 2 c3] #[.int .i64 0, .int .i64 0, .int .i64 0, .int .i64 0, .slice none 0 0, .slice none 0 0, .slice none 0 0] s b1 b2 G1 G2 W4.heap.size (k + 1) (.slice (some ⟨g4, 0, none⟩) (k + 1) cp4) (vs ++ [.slice ak nk dk]) (GG ++ Fk) W7) := CS6.out.step HK6.out.1 HK6.out.2 HK.out.2.2.1 HK.out.2.2.2.1 HK.out.2.2.2.2 hown hgrow hat (by rw [HL.out.1]; exact hlt)
      clear hown hgrow hat hlt7 CS6 HK6 HK HCN
      go_wp2
      go_roundw
      case rel => exact ⟨k + 1, _, _, _, by omega, by go_num, rfl, CS7⟩
      case measure => simp [intOf]; omega
    · obtain rfl : k = 2 := by omega
      obtain ⟨ar, cr, FR, rfl, rr, own⟩ := CSS.out.rows
      rw [List.take_of_length_le (by rw [HL.out.1]; omega)] at rr
      have HO : Hid (RdII wr ar 2 s.rows FR ∧ Own (w.heap.size + 2) wr (G1 ++ (G2 ++ FR))) := ⟨rr, own⟩
      have c16 := CSS.out.box.cell 6
      have f16 := CSS.out.box.frozen 6
      simp only [List.getElem?_toArray, List.getElem?_cons_succ, List.getElem?_cons_zero] at c16
      clear rr own hlt HM
      simp only [Int.cast_ofNat_Int]
      go_wp2_with (first | go_skip | (with_reducible refine stopLoad 28 rfl ?_))
      obtain ⟨W8, hW8⟩ : ∃ W, W = wr.setCell ⟨w.heap.size, 6, none⟩ (.slice ar 2 cr) := ⟨_, rfl⟩
      have nG : w.heap.size ∉ G1 ++ (G2 ++ FR) := fun hx => by have := HO.out.2.ge _ hx; omega
      have H8 : Hid (Blk W8 w.heap.size #[.int .i64 s.count, .int .i64 s.sum, .int .i64 s.min, .int .i64 s.max, .slice b1 8 d1, .slice b2 8 d2, .slice ar 2 cr] 28 ∧ Blk W8 (w.heap.size + 1) #[.int .i64 0, .int .i64 0, .int .i64 0, .int .i64 0, .slice none 0 0, .slice none 0 0, .slice none 0 0] 28 ∧ Below w.heap.size w W8) := by
        rw [hW8]
        exact ⟨CSS.out.box.set 6 _, CSS.out.res.setOther (by omega) 6 _, CSS.out.bel.setCell (by show w.heap.size ≤ w.heap.size; omega) _⟩
      have R8 : Hid (RdI W8 b1 8 s.hist G1 ∧ RdI W8 b2 8 s.regs G2 ∧ RdII W8 ar 2 s.rows FR ∧ Own (w.heap.size + 2) W8 (G1 ++ (G2 ++ FR))) := by
        rw [hW8]
        have ag : Agree wr (wr.setCell ⟨w.heap.size, 6, none⟩ (.slice ar 2 cr)) (G1 ++ (G2 ++ FR)) := .set nG 6 _
        exact ⟨CSS.out.r1.agree ag.left, CSS.out.r2.agree ag.right.left, HO.out.1.agree ag.right.right, HO.out.2.agree ag⟩
      rw [← hW8]
      clear hW8 nG c16 f16 CSS HO
      refine load_known 28 w.heap.size #[.int .i64 s.count, .int .i64 s.sum, .int .i64 s.min, .int .i64 s.max, .slice b1 8 d1, .slice b2 8 d2, .slice ar 2 cr] 28 _ H8.out.1 rfl rfl rfl Try.underlying28 rfl (by kernel_rfl) ?_
      go_wp2_with (first | go_skip | (with_reducible refine stopStore 28 rfl ?_))
      refine store_known 28 (w.heap.size + 1) _ #[.int .i64 s.count, .int .i64 s.sum, .int .i64 s.min, .int .i64 s.max, .slice b1 8 d1, .slice b2 8 d2, .slice ar 2 cr] 28 H8.out.2.1 rfl rfl rfl rfl (by kernel_rfl) rfl (by kernel_rfl) ?_
      go_wp2
      refine bodyPost_ret (results_cell_row Try.results38 _ _ (w.heap.size + 1) _ _ _ _ rfl H8.out.2.1.setRow Try.underlying28 rfl (by kernel_rfl)) rfl ?_
      have nr : w.heap.size + 1 ∉ G1 ++ (G2 ++ FR) := fun hx => by have := R8.out.2.2.2.ge _ hx; omega
      have ag : Agree W8 (W8.setRow (w.heap.size + 1) #[.int .i64 s.count, .int .i64 s.sum, .int .i64 s.min, .int .i64 s.max, .slice b1 8 d1, .slice b2 8 d2, .slice ar 2 cr]) (G1 ++ (G2 ++ FR)) := fun b hb => setRow_other W8 _ b _ (fun e => nr (e ▸ hb))
      exact ⟨_, G1 ++ (G2 ++ FR), rfl, ⟨b1, 8, d1, b2, 8, d2, ar, 2, cr, G1, G2, FR, rfl, R8.out.1.agree ag.left, R8.out.2.1.agree ag.right.left, R8.out.2.2.1.agree ag.right.right, rfl⟩, (R8.out.2.2.2.agree ag).mono (by omega), below_setRow H8.out.2.2 (by omega) _⟩
end Go.Proofs.Ytbmbmnhamogghab
/- The walk through the program's laying of spans behind a set that it makes. No statement of the seat is proved here. -/
namespace Go.Proofs.Ytbmbmnhamogghab
open Go.RowKit
theorem lay1_apart {o : Sp} {x : Int × Int} (h : o = [] ∨ (o.at (o.length - 1)).2 + 1 < x.1) : lay1 o x = o ++ [x] := by unfold lay1; rw [if_pos h]
theorem lay1_widen {o : Sp} {x : Int × Int} (h : ¬ (o = [] ∨ (o.at (o.length - 1)).2 + 1 < x.1)) : lay1 o x = o.take (o.length - 1) ++ [((o.at (o.length - 1)).1, max (o.at (o.length - 1)).2 x.2)] := by unfold lay1; rw [if_neg h]
theorem lay_drop {o xs : Sp} {k : Nat} (hk : k < xs.length) : lay o (xs.drop k) = lay (lay1 o (xs.at k)) (xs.drop (k + 1)) := by rw [drop_at hk]; rfl
theorem lay1_inb {o : Sp} {x : Int × Int} (h : ∀ p ∈ o, InB p) (hx : InB x) : ∀ p ∈ lay1 o x, InB p := by
  intro p hp
  unfold lay1 at hp
  split at hp
  · rcases List.mem_append.1 hp with hp | hp
    · exact h p hp
    · obtain rfl : p = x := by simpa using hp
      exact hx
  · rename_i hc
    rcases List.mem_append.1 hp with hp | hp
    · exact h p (List.mem_of_mem_take hp)
    · have e : p = ((o.at (o.length - 1)).1, max (o.at (o.length - 1)).2 x.2) := by simpa using hp
      have hne : 0 < o.length := List.length_pos_iff.2 (fun e => hc (.inl e))
      have := h _ (Sp.at_mem (ps := o) (k := o.length - 1) (by omega))
      subst e
      unfold InB at this hx ⊢
      simp only
      omega
theorem lay1_length (o : Sp) (x : Int × Int) : (lay1 o x).length ≤ o.length + 1 := by
  unfold lay1
  split
  · simp
  · simp
theorem lay_length : ∀ (xs o : Sp), (lay o xs).length ≤ o.length + xs.length
  | [], o => by simp [lay]
  | x :: xs, o => by
    have h1 := lay_length xs (lay1 o x)
    have h2 := lay1_length o x
    rw [show lay o (x :: xs) = lay (lay1 o x) xs from rfl]
    simp
    omega
theorem lay_inb : ∀ {xs o : Sp}, (∀ p ∈ o, InB p) → (∀ p ∈ xs, InB p) → ∀ p ∈ lay o xs, InB p
  | [], _, h, _ => h
  | x :: xs, o, h, hx => lay_inb (xs := xs) (lay1_inb h (hx x (by simp))) (fun p hp => hx p (by simp [hp]))
theorem flat_widen {o : Sp} {m : Nat} (hm : o.length = m + 1) (z : Int) : flat (o.take m ++ [((o.at m).1, z)]) = (flat o).set (m * 2 + 1) z := by
  have e : o = o.take m ++ [o.at m] := by
    have := takeP_succ o m (by omega)
    rw [List.take_of_length_le (by omega)] at this
    exact this
  have hl : (flat (o.take m)).length = m * 2 := by rw [flat_length]; simp; omega
  conv => rhs; rw [e]
  rw [flat_append, flat_append, List.set_append_right (m * 2 + 1) _ (by omega), hl, show m * 2 + 1 - m * 2 = 1 by omega]
  simp [flat]
/-- The set that is made: what it holds, and that nothing else was written since w. -/
structure LayAt (w : World) (B : Nat) (v0 v : Value) (o : Sp) (W : World) : Prop where
  own : W.ownsRow B 68 2 v o.length ((flat o).map (Value.int .i64))
  grown : w.grownBy W v0.ownBlock
  fresh : v.ownBlock = v0.ownBlock ∨ ∀ g, v.ownBlock = some g → w.heap.size ≤ g
theorem LayAt.alloc {w W : World} {B : Nat} {v0 v : Value} {o : Sp} (h : LayAt w B v0 v o W) (ob : Obj) : LayAt w B v0 v o (W.alloc ob) :=
  ⟨h.own.alloc _, ⟨h.grown.os, h.grown.tape, h.grown.output, by have := h.grown.size; simp; omega, fun k hk hne => (Below.heap_alloc W ob k (by have := h.grown.size; omega)).trans (h.grown.block k hk hne)⟩, h.fresh⟩
theorem LayAt.drewN {w W : World} {B : Nat} {v0 v : Value} {o : Sp} (h : LayAt w B v0 v o W) (m : Nat) : LayAt w B v0 v o (W.drewN m) :=
  ⟨⟨h.own.1, h.own.2⟩, ⟨h.grown.os, h.grown.tape, h.grown.output, h.grown.size, h.grown.block⟩, h.fresh⟩
theorem LayAt.app {w W W6 : World} {B : Nat} {v0 v v' : Value} {o : Sp} {p q : Int} {ob : Obj} (h : LayAt w B v0 v o W) (hown : W6.ownsRow B 68 2 v' (o.length + 1) ((flat o).map (Value.int .i64) ++ [.int .i64 p, .int .i64 q])) (hgrow : (W.alloc ob).grownBy W6 v.ownBlock) (hob : v'.ownBlock = v.ownBlock ∨ v'.ownBlock = some (W.alloc ob).heap.size) : LayAt w B v0 v' (o ++ [(p, q)]) W6 := by
  have ha := h.alloc ob
  refine ⟨?_, ⟨hgrow.os.trans ha.grown.os, hgrow.tape.trans ha.grown.tape, hgrow.output.trans ha.grown.output, Nat.le_trans ha.grown.size hgrow.size, fun k hk hne => ?_⟩, ?_⟩
  · rw [flat_append, List.map_append, List.length_append]
    exact hown
  · refine (hgrow.block k (Nat.lt_of_lt_of_le hk ha.grown.size) (fun e => ?_)).trans (ha.grown.block k hk hne)
    rcases h.fresh with f | f
    · exact hne (e.trans f)
    · have := f k e.symm; omega
  · rcases hob with e | e
    · rw [e]; exact h.fresh
    · right
      intro g hg
      rw [e] at hg
      cases hg
      exact ha.grown.size
theorem LayAt.widen {w W : World} {B g n cap m : Nat} {v0 : Value} {o : Sp} (h : LayAt w B v0 (.slice (some ⟨g, 0, none⟩) n cap) o W) (hm : o.length = m + 1) (z : Int) : LayAt w B v0 (.slice (some ⟨g, 0, none⟩) n cap) (o.take m ++ [((o.at m).1, z)]) (W.setCell ⟨g, m * 2 + 1, none⟩ (.int .i64 z)) := by
  refine ⟨?_, ⟨h.grown.os, h.grown.tape, h.grown.output, by have := h.grown.size; simp; omega, fun k hk hne => ?_⟩, h.fresh⟩
  · have hl : (o.take m ++ [((o.at m).1, z)]).length = o.length := by simp; omega
    rw [hl, flat_widen hm]
    refine ⟨by have := h.own.1; simpa using this, ?_⟩
    rcases h.own.2 with ⟨e, _⟩ | ⟨g', cap', cur, e, h2, h3, h4, h5, h6, h7⟩
    · cases e
    · cases e
      refine .inr ⟨g, cap, cur.setIfInBounds (m * 2 + 1) (.int .i64 z), rfl, h2, ?_, h4, h5, by simpa using h6, ?_⟩
      · exact Blk.set (w := W) (g := g) (cs := cur) h3 (m * 2 + 1) _
      · rw [Array.toList_setIfInBounds, List.take_set, h7]
        simp
  · have hg : k ≠ g := by
      rintro rfl
      rcases h.fresh with f | f
      · exact hne f
      · have := f k rfl; omega
    exact (Below.heap_setCell W ⟨g, m * 2 + 1, none⟩ _ k hg).trans (h.grown.block k hk hne)
theorem LayAt.cells {w W : World} {B g n cap : Nat} {v0 : Value} {o : Sp} (h : LayAt w B v0 (.slice (some ⟨g, 0, none⟩) n cap) o W) {m : Nat} (hm : m < o.length) : W.cell? ⟨g, m * 2, none⟩ = some (.int .i64 (o.at m).1) ∧ W.cell? ⟨g, m * 2 + 1, none⟩ = some (.int .i64 (o.at m).2) ∧ ∀ j, W.frozen? ⟨g, j, none⟩ = false := by
  have hn : o.length = n := by
    rcases h.own.2 with ⟨e, _⟩ | ⟨g', cap', cur, e, _⟩
    · cases e
    · cases e; rfl
  have own := h.own
  rw [hn] at own
  have hl := flat_length o
  have e1 := own.cellAt (m * 2) (by omega)
  have e2 := own.cellAt (m * 2 + 1) (by omega)
  refine ⟨?_, ?_, fun j => own.frozenAt j⟩
  · rw [e1]
    have := flat_lo o m
    rw [show 2 * m = m * 2 by omega, List.getElem?_eq_getElem (by omega)] at this
    simp only [List.getElem?_map, List.getElem?_eq_getElem (show m * 2 < (flat o).length by omega), Option.map_some]
    unfold Sp.at
    rw [← this]; rfl
  · rw [e2]
    have := flat_hi o m
    rw [show 2 * m = m * 2 by omega, List.getElem?_eq_getElem (by omega)] at this
    simp only [List.getElem?_map, List.getElem?_eq_getElem (show m * 2 + 1 < (flat o).length by omega), Option.map_some]
    unfold Sp.at
    rw [← this]; rfl
end Go.Proofs.Ytbmbmnhamogghab
/- The walk through the program's laying of spans behind a set that it makes. No statement of the seat is proved here. -/
namespace Go.Proofs.Ytbmbmnhamogghab
open Go.RowKit
/-- A set of the maker's own: not nil. -/
theorem own_cases {W : World} {B e n : Nat} {v : Value} {xs : List Value} (h : W.ownsRow B e 2 v n xs) : (v = .slice none 0 0 ∧ n = 0) ∨ ∃ g cap n', v = .slice (some ⟨g, 0, none⟩) n' cap ∧ n' = n ∧ n ≤ cap := by
  rcases h.2 with e | ⟨g, cap, cur, e, _, _, h4, _⟩
  · exact .inl e
  · exact .inr ⟨g, cap, n, e, rfl, h4⟩
set_option maxRecDepth 100000 in
set_option maxHeartbeats 8000000 in
theorem laid_any (B : Nat) (v0 : Value) (o0 : Sp) (a : Option Addr) (len cap : Nat) (xs : Sp) (F : List Nat) (w : World) (hown : w.ownsRow B 68 2 v0 o0.length ((flat o0).map (Value.int .i64))) (hB : B ≤ w.heap.size) (h : RdP w a len xs F) (hF : ∀ b ∈ F, some b ≠ v0.ownBlock) (hlen : o0.length + len ≤ 4194304) (ho : ∀ p ∈ o0, InB p) (hx : ∀ p ∈ xs, InB p) :
    Calls Try.prog 79 #[v0, .slice a len cap] w fun e w' => ∃ v, e = .returned v ∧ LayAt w B v0 v (lay o0 xs) w' := by
  obtain ⟨t0, hi, hz0, hz1, hz2⟩ := info_parts infoSpan
  have HL : Hid (xs.length = len) := h.length
  have HIN : Hid (∀ p ∈ xs, InB p) := hx
  have HP0 : Hid (LayAt w B v0 v0 o0 w) := ⟨hown, ⟨rfl, rfl, rfl, Nat.le_refl _, fun _ _ _ => rfl⟩, .inl rfl⟩
  have HI0 : Hid (∀ p ∈ o0, InB p) := ho
  have HC : Hid (len = 0 ∨ ∃ b off, a = some ⟨b, off, none⟩ ∧ (b < w.heap.size ∧ some b ≠ v0.ownBlock) ∧ SpCells w b off len xs) := by
    rcases h.cells with ⟨h0, _⟩ | ⟨b, off, hp, e, hFb, hc⟩
    · exact .inl h0
    · exact .inr ⟨b, off, e, ⟨World.block_lt_of_cell? _ _ (hc 0 hp).1, hF b (by rw [hFb]; simp)⟩, hc⟩
  clear h hown hF ho hx
  go_enter Try.func79, Try.ntmps79
  go_wp2
  go_loopw [0, 10] (fun v i wr => ∃ (k : Nat) (o : Sp), k ≤ len ∧ i = .int .i64 k ∧ o.length ≤ o0.length + k ∧ Hid (LayAt w B v0 v o wr) ∧ Hid (∀ p ∈ o, InB p) ∧ Hid (lay o (xs.drop k) = lay o0 xs)) (fun _ i _ => len - (intOf i).toNat)
  case atStart => exact ⟨0, o0, by omega, rfl, by omega, HP0, HI0, rfl⟩
  case round =>
    clear HP0 HI0
    obtain ⟨k, o, hk, rfl, hol, HP, HI, HN⟩ := hrel
    by_cases hlt : k < len
    · have hca := HC.out
      rcases hca with h0 | ⟨b, off, rfl, hbw, hc⟩
      · omega
      obtain ⟨x, hx⟩ : ∃ x, x = (xs.at k).1 := ⟨_, rfl⟩
      obtain ⟨y, hy⟩ : ∃ x, x = (xs.at k).2 := ⟨_, rfl⟩
      have e := hc k hlt
      have hkl : k < xs.length := by rw [HL.out]; exact hlt
      have hb := HIN.out _ (Sp.at_mem hkl)
      have HXY : Hid (xs.at k = (x, y)) := by rw [hx, hy]; rfl
      rw [HXY.out] at hb e
      have HINX : Hid (InB (x, y)) := hb
      obtain ⟨⟨x0, x1⟩, y0, y1⟩ := hb
      have hblk := HP.out.grown.block b hbw.1 hbw.2
      have d1 : wr.cell? ⟨b, off + k * 2, none⟩ = some (.int .i64 x) := (World.cell?_of_block (w := w) (a := ⟨b, off + k * 2, none⟩) hblk).trans e.1
      have d2 : wr.cell? ⟨b, off + k * 2 + 1, none⟩ = some (.int .i64 y) := (World.cell?_of_block (w := w) (a := ⟨b, off + k * 2 + 1, none⟩) hblk).trans e.2
      have hI : (k : Int) < (len : Int) := by omega
      have HBW : Hid (B ≤ wr.heap.size) := Nat.le_trans hB HP.out.grown.size
      clear e hx hy hc hblk
      have hos := own_cases HP.out.own
      rcases hos with ⟨rfl, h0⟩ | ⟨g, cp, nn, rfl, hnn, hcp⟩
      · have HLA : Hid (lay1 o (x, y) = o ++ [(x, y)]) := lay1_apart (.inl (List.eq_nil_of_length_eq_zero h0))
        have HN2 : Hid (lay (o ++ [(x, y)]) (xs.drop (k + 1)) = lay o0 xs) := by
          rw [lay_drop hkl, HXY.out, HLA.out] at HN
          exact HN
        have HI2 : Hid (∀ p ∈ o ++ [(x, y)], InB p) := by rw [← HLA.out]; exact lay1_inb HI.out HINX.out
        go_wp2
        go_quiet (fail)
        obtain ⟨wq, hwq⟩ : ∃ W, W = (wr.alloc (.cells #[.int .i64 x, .int .i64 y] 68)).drewN nq := ⟨_, rfl⟩
        have HPq : Hid (LayAt w B v0 (.slice none 0 0) o wq) := by rw [hwq]; exact (HP.out.alloc _).drewN nq
        have b1 : wq.cell? ⟨wr.heap.size, 0, none⟩ = some (.int .i64 x) := by rw [hwq]; exact (Blk.made wr _ _).cell 0
        have b2 : wq.cell? ⟨wr.heap.size, 1, none⟩ = some (.int .i64 y) := by rw [hwq]; exact (Blk.made wr _ _).cell 1
        have HBq : Hid (B ≤ wq.heap.size) := by have := HBW.out; rw [hwq]; simp [World.drewN]; show _ ≤ _; omega
        rw [← hwq]
        clear hwq HP
        go_wp2_with (first | go_skip | (with_reducible refine stopAppend2 rfl ?_))
        refine Stop.intro (wpList_append_own_at _ rfl _ _ 24 rfl B 68 t0 (.agg #[.int .i64 0, .int .i64 0]) 2 16 Try.underlying24 hi hz0 hz1 hz2 rfl (by decide) _ (o).length ((flat (o)).map (Value.int .i64)) rfl (HPq.out.own.alloc _) ⟨wq.heap.size, 0, none⟩ 1 1 [.int .i64 x, .int .i64 y] rfl rfl (cell_new2 _ _ _ _) (by intro u hu; simp at hu; rcases hu with rfl | rfl <;> rfl) (by unfold maxLen; omega) (by omega) (by have := HBq.out; simp; omega) ?_)
        intro v2 w2 hown hgrow _ hob
        have HP2 : Hid (LayAt w B v0 v2 (o ++ [(x, y)]) w2) := HPq.out.app hown hgrow hob
        clear hown hgrow HPq hob
        go_wp2
        go_roundw
        case rel => exact ⟨k + 1, o ++ [(x, y)], by omega, by go_num, by simp; omega, HP2, HI2, HN2⟩
        case measure => simp [intOf]; omega
      have HNN : Hid (nn = o.length) := hnn
      clear hnn hcp
      rcases nn with _ | m
      · have HLA : Hid (lay1 o (x, y) = o ++ [(x, y)]) := lay1_apart (.inl (List.eq_nil_of_length_eq_zero HNN.out.symm))
        have HN2 : Hid (lay (o ++ [(x, y)]) (xs.drop (k + 1)) = lay o0 xs) := by
          rw [lay_drop hkl, HXY.out, HLA.out] at HN
          exact HN
        have HI2 : Hid (∀ p ∈ o ++ [(x, y)], InB p) := by rw [← HLA.out]; exact lay1_inb HI.out HINX.out
        go_wp2
        go_quiet (fail)
        obtain ⟨wq, hwq⟩ : ∃ W, W = (wr.alloc (.cells #[.int .i64 x, .int .i64 y] 68)).drewN nq := ⟨_, rfl⟩
        have HPq : Hid (LayAt w B v0 (.slice (some ⟨g, 0, none⟩) 0 cp) o wq) := by rw [hwq]; exact (HP.out.alloc _).drewN nq
        have b1 : wq.cell? ⟨wr.heap.size, 0, none⟩ = some (.int .i64 x) := by rw [hwq]; exact (Blk.made wr _ _).cell 0
        have b2 : wq.cell? ⟨wr.heap.size, 1, none⟩ = some (.int .i64 y) := by rw [hwq]; exact (Blk.made wr _ _).cell 1
        have HBq : Hid (B ≤ wq.heap.size) := by have := HBW.out; rw [hwq]; simp [World.drewN]; show _ ≤ _; omega
        rw [← hwq]
        clear hwq HP
        go_wp2_with (first | go_skip | (with_reducible refine stopAppend2 rfl ?_))
        refine Stop.intro (wpList_append_own_at _ rfl _ _ 24 rfl B 68 t0 (.agg #[.int .i64 0, .int .i64 0]) 2 16 Try.underlying24 hi hz0 hz1 hz2 rfl (by decide) _ (o).length ((flat (o)).map (Value.int .i64)) rfl (HPq.out.own.alloc _) ⟨wq.heap.size, 0, none⟩ 1 1 [.int .i64 x, .int .i64 y] rfl rfl (cell_new2 _ _ _ _) (by intro u hu; simp at hu; rcases hu with rfl | rfl <;> rfl) (by unfold maxLen; omega) (by omega) (by have := HBq.out; simp; omega) ?_)
        intro v2 w2 hown hgrow _ hob
        have HP2 : Hid (LayAt w B v0 v2 (o ++ [(x, y)]) w2) := HPq.out.app hown hgrow hob
        clear hown hgrow HPq hob
        go_wp2
        go_roundw
        case rel => exact ⟨k + 1, o ++ [(x, y)], by omega, by go_num, by simp; omega, HP2, HI2, HN2⟩
        case measure => simp [intOf]; omega
      have hm : o.length = m + 1 := HNN.out.symm
      obtain ⟨s, hs⟩ : ∃ x, x = (o.at m).1 := ⟨_, rfl⟩
      obtain ⟨t, ht⟩ : ∃ x, x = (o.at m).2 := ⟨_, rfl⟩
      have hcm := HP.out.cells (m := m) (by omega)
      have him := HI.out _ (Sp.at_mem (ps := o) (k := m) (by omega))
      unfold InB at him
      rw [← hs, ← ht] at hcm him
      have HST : Hid (o.at (o.length - 1) = (s, t)) := by rw [hm, show m + 1 - 1 = m by omega, hs, ht]; rfl
      obtain ⟨f1, f2, f3⟩ := hcm
      obtain ⟨⟨s0, s1⟩, t1, t2⟩ := him
      have HFZ : Hid (∀ j, wr.frozen? ⟨g, j, none⟩ = false) := f3
      have gd : decide ((m : Int) < 0) = false := decF (by omega)
      have hI3 : (m : Int) < (m : Int) + 1 := by omega
      have hM : m ≤ 4194304 := by omega
      have HNE : Hid (¬ o = []) := fun e => by rw [e] at hm; simp at hm
      have HM : Hid (o.length = m + 1) := hm
      clear hs ht f3 hm
      by_cases c : t + 1 < x
      · have cd : decide (t + 1 < x) = true := decT c
        have HLA : Hid (lay1 o (x, y) = o ++ [(x, y)]) := lay1_apart (.inr (by rw [HST.out]; exact c))
        have HN2 : Hid (lay (o ++ [(x, y)]) (xs.drop (k + 1)) = lay o0 xs) := by
          rw [lay_drop hkl, HXY.out, HLA.out] at HN
          exact HN
        have HI2 : Hid (∀ p ∈ o ++ [(x, y)], InB p) := by rw [← HLA.out]; exact lay1_inb HI.out HINX.out
        go_wp2
        obtain ⟨wa, hwa⟩ : ∃ W, W = wr.alloc (.cells #[.int .i64 x, .int .i64 y] 68) := ⟨_, rfl⟩
        have HPa : Hid (LayAt w B v0 (.slice (some ⟨g, 0, none⟩) (m + 1) cp) o wa) := by rw [hwa]; exact HP.out.alloc _
        have a1 : wa.cell? ⟨wr.heap.size, 0, none⟩ = some (.int .i64 x) := by rw [hwa]; exact (Blk.made wr _ _).cell 0
        have a2 : wa.cell? ⟨wr.heap.size, 1, none⟩ = some (.int .i64 y) := by rw [hwa]; exact (Blk.made wr _ _).cell 1
        have a3 : wa.cell? ⟨g, m * 2 + 1, none⟩ = some (.int .i64 t) := by
          have e4 := (HPa.out.cells (m := m) (by have := HM.out; omega)).2.1
          have e5 := HST.out
          rw [HM.out, show m + 1 - 1 = m by omega] at e5
          rw [e5] at e4
          exact e4
        have HBa : Hid (B ≤ wa.heap.size) := by have := HBW.out; rw [hwa]; simp; show _ ≤ _; omega
        rw [← hwa]
        clear hwa HP f1 f2
        go_quiet (fail)
        obtain ⟨wq, hwq⟩ : ∃ W, W = wa.drewN nq := ⟨_, rfl⟩
        have HPq : Hid (LayAt w B v0 (.slice (some ⟨g, 0, none⟩) (m + 1) cp) o wq) := by rw [hwq]; exact HPa.out.drewN nq
        have b1 : wq.cell? ⟨wr.heap.size, 0, none⟩ = some (.int .i64 x) := by rw [hwq]; exact a1
        have b2 : wq.cell? ⟨wr.heap.size, 1, none⟩ = some (.int .i64 y) := by rw [hwq]; exact a2
        have HBq : Hid (B ≤ wq.heap.size) := by rw [hwq]; exact HBa.out
        rw [← hwq]
        clear hwq HPa a1 a2 a3
        go_wp2_with (first | go_skip | (with_reducible refine stopAppend2 rfl ?_))
        refine Stop.intro (wpList_append_own_at _ rfl _ _ 24 rfl B 68 t0 (.agg #[.int .i64 0, .int .i64 0]) 2 16 Try.underlying24 hi hz0 hz1 hz2 rfl (by decide) _ (o).length ((flat (o)).map (Value.int .i64)) rfl (HPq.out.own.alloc _) ⟨wq.heap.size, 0, none⟩ 1 1 [.int .i64 x, .int .i64 y] rfl rfl (cell_new2 _ _ _ _) (by intro u hu; simp at hu; rcases hu with rfl | rfl <;> rfl) (by unfold maxLen; omega) (by omega) (by have := HBq.out; simp; omega) ?_)
        intro v2 w2 hown hgrow _ hob
        have HP2 : Hid (LayAt w B v0 v2 (o ++ [(x, y)]) w2) := HPq.out.app hown hgrow hob
        clear hown hgrow HPq hob
        go_wp2
        go_roundw
        case rel => exact ⟨k + 1, o ++ [(x, y)], by omega, by go_num, by simp; omega, HP2, HI2, HN2⟩
        case measure => simp [intOf]; omega
      have cd : decide (t + 1 < x) = false := decF c
      have HLA : Hid (lay1 o (x, y) = o.take m ++ [((o.at m).1, max t y)]) := by
        have := lay1_widen (o := o) (x := (x, y)) (fun e => by rw [HST.out] at e; exact e.elim HNE.out c)
        show _ = _
        rw [this, HST.out, HM.out, show m + 1 - 1 = m by omega]
        have e2 := HST.out
        rw [HM.out, show m + 1 - 1 = m by omega] at e2
        rw [e2]
      have HN2 : Hid (lay (o.take m ++ [((o.at m).1, max t y)]) (xs.drop (k + 1)) = lay o0 xs) := by
        rw [lay_drop hkl, HXY.out, HLA.out] at HN
        exact HN
      have HI2 : Hid (∀ p ∈ o.take m ++ [((o.at m).1, max t y)], InB p) := by rw [← HLA.out]; exact lay1_inb HI.out HINX.out
      go_wp2
      obtain ⟨wa, hwa⟩ : ∃ W, W = wr.alloc (.cells #[.int .i64 x, .int .i64 y] 68) := ⟨_, rfl⟩
      have HPa : Hid (LayAt w B v0 (.slice (some ⟨g, 0, none⟩) (m + 1) cp) o wa) := by rw [hwa]; exact HP.out.alloc _
      have a1 : wa.cell? ⟨wr.heap.size, 0, none⟩ = some (.int .i64 x) := by rw [hwa]; exact (Blk.made wr _ _).cell 0
      have a2 : wa.cell? ⟨wr.heap.size, 1, none⟩ = some (.int .i64 y) := by rw [hwa]; exact (Blk.made wr _ _).cell 1
      have a3 : wa.cell? ⟨g, m * 2 + 1, none⟩ = some (.int .i64 t) := by
        have e4 := (HPa.out.cells (m := m) (by have := HM.out; omega)).2.1
        have e5 := HST.out
        rw [HM.out, show m + 1 - 1 = m by omega] at e5
        rw [e5] at e4
        exact e4
      have HBa : Hid (B ≤ wa.heap.size) := by have := HBW.out; rw [hwa]; simp; show _ ≤ _; omega
      rw [← hwa]
      clear hwa HP f1 f2
      go_quiet (fail)
      obtain ⟨wq, hwq⟩ : ∃ W, W = wa.drewN nq := ⟨_, rfl⟩
      have HPq : Hid (LayAt w B v0 (.slice (some ⟨g, 0, none⟩) (m + 1) cp) o wq) := by rw [hwq]; exact HPa.out.drewN nq
      have b1 : wq.cell? ⟨wr.heap.size, 0, none⟩ = some (.int .i64 x) := by rw [hwq]; exact a1
      have b2 : wq.cell? ⟨wr.heap.size, 1, none⟩ = some (.int .i64 y) := by rw [hwq]; exact a2
      have hcq := HPq.out.cells (m := m) (by have := HM.out; omega)
      have e3 := HST.out
      rw [HM.out, show m + 1 - 1 = m by omega] at e3
      rw [e3] at hcq
      obtain ⟨f1, f2, f3⟩ := hcq
      have f4 := f3 (m * 2 + 1)
      rw [← hwq]
      have HPw : Hid (LayAt w B v0 (.slice (some ⟨g, 0, none⟩) (m + 1) cp) (o.take m ++ [((o.at m).1, max t y)]) (wq.setCell ⟨g, m * 2 + 1, none⟩ (.int .i64 (max t y)))) := HPq.out.widen HM.out _
      clear hwq HPa a1 a2 a3 f3 e3 HPq
      go_wp2
      go_region
      go_wp2
      go_roundw
      case rel => exact ⟨k + 1, o.take m ++ [((o.at m).1, max t y)], by omega, by go_num, by have := HM.out; simp; omega, (by rw [show (if t < y then y else t) = max t y by split <;> omega]; exact HPw.out.drewN 1), HI2, HN2⟩
      case measure => simp [intOf]; omega
    · obtain rfl : k = len := by omega
      have HV : Hid (o = lay o0 xs) := by
        have := HN.out
        rw [List.drop_eq_nil_of_le (by rw [HL.out]; omega)] at this
        exact this
      go_wp2
      go_ret
      rw [← HV.out]
      exact ⟨_, rfl, HP.out⟩
end Go.Proofs.Ytbmbmnhamogghab
/- The walks through the program's cutting of a set, and its going through two sets. No statement of the seat is proved here. -/
namespace Go.Proofs.Ytbmbmnhamogghab
open Go.RowKit
theorem flat_take : ∀ (ps : Sp) (k : Nat), flat (ps.take k) = (flat ps).take (2 * k)
  | [], k => by simp [flat]
  | p :: ps, 0 => by simp [flat]
  | p :: ps, k + 1 => by rw [List.take_succ_cons, flat, flat, flat_take ps k, show 2 * (k + 1) = 2 * k + 1 + 1 by omega, List.take_succ_cons, List.take_succ_cons]
theorem flat_drop : ∀ (ps : Sp) (k : Nat), flat (ps.drop k) = (flat ps).drop (2 * k)
  | [], k => by simp [flat]
  | p :: ps, 0 => by simp [flat]
  | p :: ps, k + 1 => by rw [List.drop_succ_cons, flat, flat_drop ps k, show 2 * (k + 1) = 2 * k + 1 + 1 by omega, List.drop_succ_cons, List.drop_succ_cons]
theorem RdP.take {w : World} {a : Option Addr} {len : Nat} {ps : Sp} {F : List Nat} (h : RdP w a len ps F) {k : Nat} (hk : k ≤ len) : ∃ G, RdP w a k (ps.take k) G ∧ ∀ b ∈ G, b ∈ F := by
  have hl := h.length
  by_cases h0 : k = 0
  · subst h0
    exact ⟨[], by simpa using (RdP.nil (w := w) (a := a)), by simp⟩
  · rcases h.rd.cells with ⟨e, _⟩ | ⟨b, off, hp, e, eF, hc⟩
    · omega
    · refine ⟨F, ⟨by simp; omega, ?_, .inr ⟨b, off, by omega, e, eF, fun i hi => ?_⟩⟩, fun b hb => hb⟩
      · rw [flat_length]; simp; omega
      · rw [hc i (by omega), flat_take]
        simp [List.getD_eq_getElem?_getD, hi]
theorem RdP.drop {w : World} {b off len : Nat} {ps : Sp} {F : List Nat} (h : RdP w (some ⟨b, off, none⟩) len ps F) {k : Nat} (hk : k < len) : RdP w (some ⟨b, off + k * 2, none⟩) (len - k) (ps.drop k) F := by
  have hl := h.length
  rcases h.rd.cells with ⟨e, _⟩ | ⟨b', off', hp, e, eF, hc⟩
  · omega
  · obtain ⟨rfl, rfl⟩ : b = b' ∧ off = off' := by simpa using e
    refine ⟨by simp; omega, ?_, .inr ⟨b, off + k * 2, by omega, rfl, eF, fun i hi => ?_⟩⟩
    · rw [flat_length]; simp; omega
    · rw [show off + k * 2 + i = off + (2 * k + i) by omega, hc (2 * k + i) (by omega), flat_drop]
      simp [List.getD_eq_getElem?_getD]
theorem cutN_at {ps : Sp} {k : Nat} {n : Int} (hk : k < ps.length) (h : (ps.at k).1 ≤ n) : cutN (ps.drop k) n = cutN (ps.drop (k + 1)) n + 1 := by rw [drop_at hk, cutN, if_pos h]
theorem cutN_stop {ps : Sp} {k : Nat} {n : Int} (hk : k < ps.length) (h : ¬ (ps.at k).1 ≤ n) : cutN (ps.drop k) n = 0 := by rw [drop_at hk, cutN, if_neg h]
/-- What a cut tells: the part ahead, the part behind, both out of what was there. -/
def CutTo (w : World) (ps : Sp) (F : List Nat) (k : Nat) (e : Ending) (w' : World) : Prop :=
  ∃ a1 l1 c1 a2 l2 c2 F1 F2, e = .returned (.tuple #[.slice a1 l1 c1, .slice a2 l2 c2]) ∧ RdP w a1 l1 (ps.take k) F1 ∧ RdP w a2 l2 (ps.drop k) F2 ∧ (∀ b ∈ F1, b ∈ F) ∧ (∀ b ∈ F2, b ∈ F) ∧ l2 ≤ c2 ∧ QuietTo w w'
set_option maxRecDepth 200000 in
set_option maxHeartbeats 4000000 in
theorem cutAt_any (a : Option Addr) (len cap : Nat) (ps : Sp) (n : Int) (F : List Nat) (w : World) (h : RdP w a len ps F) (hlen : len ≤ 4194304) (hcap : len ≤ cap) :
    Calls Try.prog 78 #[.slice a len cap, .int .i64 n] w fun e w' => CutTo w ps F (cutN ps n) e w' := by
  have HL : Hid (ps.length = len) := h.length
  have HR : Hid (RdP w a len ps F) := h
  have HC : Hid (len = 0 ∨ ∃ b off, a = some ⟨b, off, none⟩ ∧ b < w.heap.size ∧ SpCells w b off len ps) := cells_of h
  have HS : Hid (∀ k, k ≤ len → ∀ w', QuietTo w w' → CutTo w ps F k (.returned (.tuple #[.slice a k k, .slice (if len = k then a else a.map (·.add (k * 2))) (len - k) (len - k)])) w') := by
    intro k hk w' hq
    obtain ⟨F1, r1, g1⟩ := h.take hk
    by_cases e : len = k
    · refine ⟨_, _, _, _, _, _, F1, [], rfl, r1, ?_, g1, by simp, Nat.le_refl _, hq⟩
      rw [List.drop_eq_nil_of_le (by rw [h.length]; omega), show len - k = 0 by omega]
      exact RdP.nil
    · rcases cells_of h with h0 | ⟨b, off, rfl, _, _⟩
      · omega
      · refine ⟨_, _, _, _, _, _, F1, F, rfl, r1, ?_, g1, fun b hb => hb, Nat.le_refl _, hq⟩
        rw [if_neg e]
        simp only [Option.map_some, Addr.add_lit]
        exact h.drop (k := k) (by omega)
  clear h
  go_enter Try.func78, Try.ntmps78
  go_wp2
  go_loopw [6] (fun i wr => ∃ (k : Nat), k ≤ len ∧ i = .int .i64 k ∧ Hid (QuietTo w wr) ∧ Hid (cutN ps n = k + cutN (ps.drop k) n)) (fun i _ => len - (intOf i).toNat)
  case atStart => exact ⟨0, by omega, rfl, QuietTo.refl _, by show _ = _; simp⟩
  case round =>
    obtain ⟨k, hk, rfl, HW, HN⟩ := hrel
    by_cases hlt : k < len
    · have hca := HC.out
      rcases hca with h0 | ⟨b, off, rfl, hbw, hc⟩
      · omega
      obtain ⟨x, hx⟩ : ∃ x, x = (ps.at k).1 := ⟨_, rfl⟩
      have e := (hc k hlt).1
      rw [← hx] at e
      have d1 : wr.cell? ⟨b, off + k * 2, none⟩ = some (.int .i64 x) := (HW.out.cell _).trans e
      have HX : Hid (x = (ps.at k).1) := hx
      have hI : (k : Int) < (len : Int) := by omega
      have hkl : k < ps.length := by rw [HL.out]; exact hlt
      clear hx hc e
      by_cases c : x ≤ n
      · have cd : decide (x ≤ n) = true := decT c
        have HN2 : Hid (cutN ps n = k + 1 + cutN (ps.drop (k + 1)) n) := by
          have := HN.out
          rw [cutN_at hkl (by rw [← HX.out]; exact c)] at this
          show _ = _
          omega
        go_wp2
        go_roundw
        case rel => exact ⟨k + 1, by omega, by go_num, HW, HN2⟩
        case measure => simp [intOf]; omega
      · have cd : decide (x ≤ n) = false := decF c
        have HK : Hid (cutN ps n = k) := by
          have := HN.out
          rw [cutN_stop hkl (by rw [← HX.out]; exact c)] at this
          show _ = _
          omega
        have hne : ¬ len = k := by omega
        have i1 : (k : Int) ≤ (len : Int) := by omega
        have i2 : (len : Int) ≤ (cap : Int) := by omega
        have i3 : (k : Int) ≤ (cap : Int) := by omega
        have HT : Hid (∀ w', QuietTo w w' → CutTo w ps F (cutN ps n) (.returned (.tuple #[.slice (some ⟨b, off, none⟩) k k, .slice (some ⟨b, off + k * 2, none⟩) (len - k) (len - k)])) w') := by
          intro w' hq
          have := HS.out k (by omega) w' hq
          rw [if_neg hne] at this
          simp only [Option.map_some, Addr.add_lit] at this
          rw [HK.out]
          exact this
        go_wp2
        go_quiet (fail)
        go_wp2
        go_ret2
        exact HT.out _ (HW.out.drewN _)
    · obtain rfl : k = len := by omega
      have HK : Hid (cutN ps n = k) := by
        have := HN.out
        rw [List.drop_eq_nil_of_le (by rw [HL.out]; omega)] at this
        exact this
      have hg : decide ((k : Int) < (k : Int)) = false := decF (by omega)
      have i2 : (k : Int) ≤ (cap : Int) := by omega
      have HT : Hid (∀ w', QuietTo w w' → CutTo w ps F (cutN ps n) (.returned (.tuple #[.slice a k k, .slice a 0 0])) w') := by
        intro w' hq
        have := HS.out k (by omega) w' hq
        rw [if_pos rfl, Nat.sub_self] at this
        rw [HK.out]
        exact this
      go_wp2
      go_quiet (fail)
      go_wp2
      go_ret2
      exact HT.out _ (HW.out.drewN _)
end Go.Proofs.Ytbmbmnhamogghab
/- The walk through the program's going through two sets. No statement of the seat is proved here. -/
namespace Go.Proofs.Ytbmbmnhamogghab
open Go.RowKit
theorem RdP.move {w W : World} {B : Nat} {a : Option Addr} {len : Nat} {ps : Sp} {F : List Nat} (h : RdP w a len ps F) (hF : ∀ b ∈ F, b < B) (h1 : Below B w W) : RdP W a len ps F := h.agree (fun b hb => h1.block b (hF b hb))
theorem RdP.back {w W : World} {B : Nat} {a : Option Addr} {len : Nat} {ps : Sp} {F : List Nat} (h : RdP W a len ps F) (hF : ∀ b ∈ F, b < B) (h1 : Below B w W) : RdP w a len ps F := h.agree (fun b hb => (h1.block b (hF b hb)).symm)
theorem LayAt.below {w W : World} {B n : Nat} {v0 v : Value} {o : Sp} {xs : List Value} (h : LayAt w B v0 v o W) (h0 : w.ownsRow B 68 2 v0 n xs) (hB : B ≤ w.heap.size) : Below B w W :=
  ⟨h.grown.os, h.grown.tape, h.grown.output, h.grown.size, fun k hk => h.grown.block k (by omega) (fun e => by have := (h0.lt k e.symm).1; omega)⟩
/-- Midway in a round: the set that is made, the span's box. -/
structure MidB (w : World) (nb : Nat) (x y : Int) (v : Value) (o : Sp) (W : World) : Prop where
  own : W.ownsRow w.heap.size 68 2 v o.length ((flat o).map (Value.int .i64))
  bel : Below w.heap.size w W
  box : Blk W nb #[.int .i64 x, .int .i64 y] 68
  ne : some nb ≠ v.ownBlock
theorem MidB.alloc {w : World} {nb : Nat} {x y : Int} {v : Value} {o : Sp} {W : World} (h : MidB w nb x y v o W) (ob : Obj) : MidB w nb x y v o (W.alloc ob) := ⟨h.own.alloc _, Below.allocW _ h.bel (Nat.le_refl _), h.box.alloc _, h.ne⟩
theorem MidB.drew {w : World} {nb : Nat} {x y : Int} {v : Value} {o : Sp} {W : World} (h : MidB w nb x y v o W) : MidB w nb x y v o W.drew := ⟨⟨h.own.1, h.own.2⟩, h.bel.drew, h.box, h.ne⟩
/-- Behind the first laying: what lay beside lies there still. -/
structure AftB (w : World) (nb : Nat) (x y : Int) (v v' : Value) (o' : Sp) (W W' : World) : Prop where
  mid : MidB w nb x y v' o' W'
  old : ∀ g cs t, Blk W g cs t → some g ≠ v.ownBlock → Blk W' g cs t ∧ some g ≠ v'.ownBlock
theorem AftB.of {w : World} {nb : Nat} {x y : Int} {v v' : Value} {o o' : Sp} {W W' : World} (h : MidB w nb x y v o W) (k : LayAt W w.heap.size v v' o' W') : AftB w nb x y v v' o' W W' := by
  have hold : ∀ g cs t, Blk W g cs t → some g ≠ v.ownBlock → Blk W' g cs t ∧ some g ≠ v'.ownBlock := fun g cs t hb hne => by
    refine ⟨hb.agree (k.grown.block g hb.lt hne), ?_⟩
    rcases k.fresh with e | e
    · rw [e]; exact hne
    · intro e2; have := e g e2.symm; have := hb.lt; omega
  obtain ⟨h1, h2⟩ := hold _ _ _ h.box h.ne
  exact ⟨⟨k.own, h.bel.trans (k.below h.own h.bel.size), h1, h2⟩, hold⟩
/-- Ahead of the second laying: the one span's slice. -/
structure TwoB (w : World) (nb : Nat) (x y : Int) (v' : Value) (o' : Sp) (g : Nat) (W : World) : Prop where
  mid : MidB w nb x y v' o' W
  one : Blk W g #[.int .i64 x, .int .i64 y] 68
  ne : some g ≠ v'.ownBlock
theorem AftB.two {w : World} {nb : Nat} {x y : Int} {v v' : Value} {o o' : Sp} {W W' : World} (h : AftB w nb x y v v' o' (W.alloc (.cells #[.int .i64 x, .int .i64 y] 68)).drew W') (k : MidB w nb x y v o W) : TwoB w nb x y v' o' W.heap.size W' := by
  obtain ⟨h1, h2⟩ := h.old _ _ _ (Blk.made W _ _) (fun e => by have := (k.own.lt _ e.symm).2; omega)
  exact ⟨h.mid, h1, h2⟩
theorem AftB.new {w : World} {nb : Nat} {x y : Int} {v v' : Value} {o' : Sp} {W W' : World} (h : AftB w nb x y v v' o' W W') : TwoB w nb x y v' o' W'.heap.size (W'.alloc (.cells #[.int .i64 x, .int .i64 y] 68)) :=
  ⟨h.mid.alloc _, Blk.made _ _ _, fun e => by have := (h.mid.own.lt _ e.symm).2; omega⟩
theorem rdP_one {W : World} {g : Nat} {x y : Int} {t : TypeId} (h : Blk W g #[.int .i64 x, .int .i64 y] t) : RdP W (some ⟨g, 0, none⟩) 1 [(x, y)] [g] :=
  ⟨rfl, rdI_tcv (xs := flat [(x, y)]) (by simpa [tcv, flat] using h) (by simp [flat]) (by omega)⟩
/-- Ahead of a round. -/
structure BInv (w : World) (ps qs : Sp) (k : Nat) (o rs : Sp) (aa : Option Addr) (la ca : Nat) (F : List Nat) (v : Value) (wr : World) : Prop where
  own : wr.ownsRow w.heap.size 68 2 v o.length ((flat o).map (Value.int .i64))
  bel : Below w.heap.size w wr
  rd : RdP w aa la rs F
  lt : ∀ b ∈ F, b < w.heap.size
  cap : la ≤ ca
  len : o.length + rs.length ≤ ps.length + k
  ino : ∀ p ∈ o, InB p
  ina : ∀ p ∈ rs, InB p
  eq : both rs (qs.drop k) o = both ps qs []
set_option maxRecDepth 100000 in
set_option maxHeartbeats 8000000 in
theorem spansOfBoth_any (a b : Option Addr) (la lb ca cb : Nat) (ps qs : Sp) (F G : List Nat) (w : World) (h : RdP w a la ps F) (k : RdP w b lb qs G) (hlen : la + lb ≤ 2097153) (hca : la ≤ ca) (h1 : ∀ p ∈ ps, InB p) (h2 : ∀ p ∈ qs, InB p) :
    Calls Try.prog 57 #[.slice a la ca, .slice b lb cb] w fun e w' => NewP w (both ps qs []) e w' := by
  have HL : Hid (ps.length = la ∧ qs.length = lb) := ⟨h.length, k.length⟩
  have HI : Hid (∀ p ∈ qs, InB p) := h2
  have HP0 : Hid (BInv w ps qs 0 [] ps a la ca F (.slice none 0 0) w) := ⟨⟨by simp [flat], .inl ⟨rfl, rfl⟩⟩, Below.refl _ _, h, h.lt, hca, by simp, by simp, h1, rfl⟩
  have HCB : Hid (lb = 0 ∨ ∃ b1 o1, b = some ⟨b1, o1, none⟩ ∧ b1 < w.heap.size ∧ SpCells w b1 o1 lb qs) := cells_of k
  clear h k h1 h2
  go_enter Try.func57, Try.ntmps57
  go_wp2
  go_loopw [0, 5, 12] (fun av v i wr => ∃ (k : Nat) (o rs : Sp) (aa : Option Addr) (la ca : Nat) (F : List Nat), k ≤ lb ∧ i = .int .i64 k ∧ av = .slice aa la ca ∧ Hid (BInv w ps qs k o rs aa la ca F v wr)) (fun _ _ i _ => lb - (intOf i).toNat)
  case atStart => exact ⟨0, [], ps, a, la, ca, F, by omega, rfl, rfl, HP0⟩
  case round =>
    clear HP0
    obtain ⟨k, o, rs, aa, l0, c0, F0, hk, rfl, rfl, HP⟩ := hrel
    by_cases hlt : k < lb
    · have hcb := HCB.out
      rcases hcb with h0 | ⟨b1, o1, rfl, hbw, hc⟩
      · omega
      obtain ⟨x, hx⟩ : ∃ x, x = (qs.at k).1 := ⟨_, rfl⟩
      obtain ⟨y, hy⟩ : ∃ x, x = (qs.at k).2 := ⟨_, rfl⟩
      have e := hc k hlt
      have hql : k < qs.length := by rw [HL.out.2]; exact hlt
      have HXY : Hid (qs.at k = (x, y)) := by rw [hx, hy]; rfl
      have HINX : Hid (InB (x, y)) := by rw [← HXY.out]; exact HI.out _ (Sp.at_mem hql)
      rw [HXY.out] at e
      have d1 : wr.cell? ⟨b1, o1 + k * 2, none⟩ = some (.int .i64 x) := (HP.out.bel.cell (by exact hbw)).trans e.1
      have d2 : wr.cell? ⟨b1, o1 + k * 2 + 1, none⟩ = some (.int .i64 y) := (HP.out.bel.cell (by exact hbw)).trans e.2
      have hI : (k : Int) < (lb : Int) := by omega
      have HLN : Hid (o.length + rs.length ≤ 2097153) := by have := HP.out.len; have := HL.out; show _ ≤ _; omega
      have HLA : Hid (rs.length = l0) := HP.out.rd.length
      clear e hx hy hc
      go_wp2_with fail
      have HWA : Hid (Below w.heap.size w (wr.alloc (.cells #[.int .i64 x, .int .i64 y] 68))) := Below.allocW _ HP.out.bel (Nat.le_refl _)
      refine (cutAt_any aa l0 c0 rs x F0 _ (HP.out.rd.move HP.out.lt HWA.out) (by have := HLN.out; have := HLA.out; omega) HP.out.cap).mono ?_
      rintro e w2 ⟨a1, l1, c1, a2, l2, c2, F1, F2, rfl, r1, r2, s1, s2, hcp2, hq⟩
      obtain ⟨cn, hcn⟩ : ∃ c, c = cutN rs x := ⟨_, rfl⟩
      rw [← hcn] at r1 r2
      have HQ1 : Hid (RdP w a1 l1 (rs.take cn) F1 ∧ (∀ b ∈ F1, b < w.heap.size) ∧ l1 ≤ rs.length) := ⟨r1.back (fun b hb => HP.out.lt b (s1 b hb)) HWA.out, fun b hb => HP.out.lt b (s1 b hb), by have e := r1.length; rw [List.length_take] at e; omega⟩
      have HQ2 : Hid (RdP w a2 l2 (rs.drop cn) F2 ∧ (∀ b ∈ F2, b < w.heap.size) ∧ l2 ≤ c2) := ⟨r2.back (fun b hb => HP.out.lt b (s2 b hb)) HWA.out, fun b hb => HP.out.lt b (s2 b hb), hcp2⟩
      have HM : Hid (MidB w wr.heap.size x y u5 o w2) := by
        obtain ⟨m, rfl⟩ := hq
        have hal := HP.out.own.alloc (.cells #[.int .i64 x, .int .i64 y] 68)
        exact ⟨⟨hal.1, hal.2⟩, ⟨HWA.out.os, HWA.out.tape, HWA.out.output, HWA.out.size, HWA.out.block⟩, Blk.made wr _ _, fun e => by have := (HP.out.own.lt _ e.symm).2; omega⟩
      have HCN : Hid (cn = cutN rs x) := hcn
      have q1 : w2.cell? ⟨wr.heap.size, 0, none⟩ = some (.int .i64 x) := HM.out.box.cell 0
      have q2 : w2.cell? ⟨wr.heap.size, 1, none⟩ = some (.int .i64 y) := HM.out.box.cell 1
      clear r1 r2 s1 s2 hcp2 hq hcn HWA d1 d2
      have HC1 : Hid (∀ W, MidB w wr.heap.size x y u5 o W → Calls Try.prog 79 #[u5, .slice a1 l1 c1] W (fun e w' => ∃ v', e = .returned v' ∧ AftB w wr.heap.size x y u5 v' (lay o (rs.take cn)) W w')) := by
        intro W hW
        refine (laid_any w.heap.size u5 o a1 l1 c1 (rs.take cn) F1 W hW.own hW.bel.size (HQ1.out.1.move HQ1.out.2.1 hW.bel) (fun b hb e => by have := HQ1.out.2.1 b hb; have := (hW.own.lt _ e.symm).1; omega) (by have := HLN.out; have := HQ1.out.2.2; omega) HP.out.ino (fun p hp => HP.out.ina p (List.mem_of_mem_take hp))).mono ?_
        rintro e w' ⟨v, rfl, hl⟩
        exact ⟨v, rfl, AftB.of hW hl⟩
      have HC2 : Hid (∀ v' W g, TwoB w wr.heap.size x y v' (lay o (rs.take cn)) g W → Calls Try.prog 79 #[v', .slice (some ⟨g, 0, none⟩) 1 1] W (fun e w' => ∃ v'', e = .returned v'' ∧ MidB w wr.heap.size x y v'' (lay1 (lay o (rs.take cn)) (x, y)) w')) := by
        intro v' W g hW
        refine (laid_any w.heap.size v' (lay o (rs.take cn)) (some ⟨g, 0, none⟩) 1 1 [(x, y)] [g] W hW.mid.own hW.mid.bel.size (rdP_one hW.one) (fun b hb => by rw [List.mem_singleton.1 hb]; exact hW.ne) (by have e := lay_length (rs.take cn) o; have := HLN.out; rw [List.length_take] at e; omega) (lay_inb HP.out.ino (fun p hp => HP.out.ina p (List.mem_of_mem_take hp))) (fun p hp => by rw [List.mem_singleton.1 hp]; exact HINX.out)).mono ?_
        rintro e w' ⟨v, rfl, hl⟩
        exact ⟨v, rfl, (AftB.of hW.mid hl).mid⟩
      have HFIN : Hid (∀ v' W, MidB w wr.heap.size x y v' (lay1 (lay o (rs.take cn)) (x, y)) W → BInv w ps qs (k + 1) (lay1 (lay o (rs.take cn)) (x, y)) (rs.drop cn) a2 l2 c2 F2 v' W) := by
        intro v' W hW
        refine ⟨hW.own, hW.bel, HQ2.out.1, HQ2.out.2.1, HQ2.out.2.2, ?_, lay1_inb (lay_inb HP.out.ino (fun p hp => HP.out.ina p (List.mem_of_mem_take hp))) HINX.out, fun p hp => HP.out.ina p (List.mem_of_mem_drop hp), ?_⟩
        · have e1 := lay1_length (lay o (rs.take cn)) (x, y)
          have e2 := lay_length (rs.take cn) o
          have e3 := HP.out.len
          rw [List.length_take] at e2
          rw [List.length_drop]
          omega
        · have e := HP.out.eq
          rw [drop_at hql, HXY.out, both] at e
          rw [HCN.out]
          exact e
      have HKE : Hid (∀ W, Blk W wr.heap.size #[.int .i64 x, .int .i64 y] 68 → W.cell? ⟨wr.heap.size, 0, none⟩ = some (.int .i64 x) ∧ W.cell? ⟨wr.heap.size, 1, none⟩ = some (.int .i64 y)) := fun W hW => ⟨hW.cell 0, hW.cell 1⟩
      have HMD : Hid (MidB w wr.heap.size x y u5 o w2.drew) := HM.out.drew
      have HMA : Hid (MidB w wr.heap.size x y u5 o (w2.alloc (.cells #[.int .i64 x, .int .i64 y] 68)).drew) := (HM.out.alloc _).drew
      go_wp2
      go_region_held3 (fun W => W.cell? ⟨wr.heap.size, 0, none⟩ = some (.int .i64 x) ∧ W.cell? ⟨wr.heap.size, 1, none⟩ = some (.int .i64 y))
        ((refine HKE.out _ ?_; first | (with_reducible exact k2.box) | (with_reducible exact k1.mid.box) | (with_reducible exact k1.mid.box.alloc _) | (with_reducible exact HMD.out.box) | (with_reducible exact HMA.out.box)))
        (first
          | (have zz := k1; clear zz; go_at_call 79; refine (HC2.out _ _ _ (by first | (with_reducible exact k1.two HM.out) | (with_reducible exact k1.new))).mono ?_; rintro e w4 ⟨v4, rfl, k2⟩)
          | (go_at_call 79; refine (HC1.out _ (by first | (with_reducible exact HMD.out) | (with_reducible exact HMA.out))).mono ?_; rintro e w3 ⟨v3, rfl, k1⟩))
      all_goals
        have HB2 := HFIN.out _ _ k2
        have HB3 : Hid (BInv w ps qs (k + 1) (lay1 (lay o (rs.take cn)) (x, y)) (rs.drop cn) a2 l2 c2 F2 v4 w4) := HB2
        clear HB2 k2 k1 HC1 HC2 HKE HFIN q1 q2 HMD HMA HM
        go_wp2
        go_roundw
      all_goals first | exact ⟨k + 1, _, _, a2, l2, c2, F2, by omega, by go_num, rfl, HB3⟩ | (simp [intOf]; omega)
    · obtain rfl : k = lb := by omega
      have HE : Hid (lay o rs = both ps qs []) := by
        have := HP.out.eq
        rw [List.drop_eq_nil_of_le (by rw [HL.out.2]; omega)] at this
        exact this
      go_wp2_with fail
      refine (laid_any w.heap.size u5 o aa l0 c0 rs F0 _ HP.out.own HP.out.bel.size (HP.out.rd.move HP.out.lt HP.out.bel) (fun b hb e => by have := HP.out.lt b hb; have := (HP.out.own.lt _ e.symm).1; omega) (by have := HP.out.len; have := HL.out; have := HP.out.rd.length; omega) HP.out.ino HP.out.ina).mono ?_
      rintro e w2 ⟨v, rfl, hl⟩
      have HV : Hid (LayAt wr w.heap.size u5 v (lay o rs) w2 ∧ Below w.heap.size w w2) := ⟨hl, HP.out.bel.trans (hl.below HP.out.own HP.out.bel.size)⟩
      clear hl
      go_wp2
      go_ret
      obtain ⟨a', c', F', rfl, hr, ho, hnn⟩ := rdP_of_own HV.out.1.own
      rw [← HE.out]
      exact ⟨_, _, _, F', rfl, hr, ho, HV.out.2, hnn⟩
end Go.Proofs.Ytbmbmnhamogghab
/- The walks through the program's copying of a set, and the library's comparing of two. No statement of the seat is proved here. -/
namespace Go.Proofs.Ytbmbmnhamogghab
open Go.RowKit
theorem run_copy_row2 {P : Program} (w : World) (dT sT ty elem : TypeId) (g len dCap : Nat) (a : Addr) (sCap : Nat) (cur : Array Value) (t : TypeId) (cs : List Value)
    (hu : P.underlying dT = some (.slice elem)) (hs : (P.info? elem).map (·.size) = some 2)
    (hg : w.heap[g]? = some (.cells cur t (0, 0))) (hn : cs.length = len * 2)
    (hsrc : ∀ j v, cs[j]? = some v → w.cell? (a.add j) = some v) (hfit : cs.length ≤ cur.size) (h1 : ∀ v ∈ cs, v.oneCell' = true) :
    (Builtin.copy_ #[dT, sT] ty #[.slice (some ⟨g, 0, none⟩) len dCap, .slice (some a) len sCap]).run P w =
      .ok (goInt len) (w.setRow g (cs ++ cur.toList.drop cs.length).toArray) := by
  have hl := run_loadCells_list (P := P) w a cs hsrc
  have hst := run_storeCells_at P g 0 t cs 0 cur w hg (by simpa using hfit) h1
  rw [hn] at hl
  cases hq : P.info? elem with
  | none => simp [hq] at hs
  | some i =>
    have hi : i.size = 2 := by simpa [hq] using hs
    simp [Builtin.copy_, run_underlying hu, Builtin.lenOf, Builtin.firstCells, sizeOf, typeInfo, hq, hi, hl, hst]
theorem run_copy_none2 {P : Program} (w : World) (dT sT ty elem : TypeId) (d a : Option Addr) (dCap sCap : Nat) (hu : P.underlying dT = some (.slice elem)) (hs : (P.info? elem).map (·.size) = some 2) :
    (Builtin.copy_ #[dT, sT] ty #[.slice d 0 dCap, .slice a 0 sCap]).run P w = .ok (goInt 0) w := by
  cases hq : P.info? elem with
  | none => simp [hq] at hs
  | some i =>
    have hl : ∀ (x : Addr), (loadCells x 0).run P w = .ok #[] w := fun x => by simpa using run_loadCells_list (P := P) w x [] (by simp)
    cases d <;> cases a <;> simp [Builtin.copy_, run_underlying hu, Builtin.lenOf, Builtin.firstCells, sizeOf, typeInfo, hq, storeCells, hl]
theorem wpList_copy_none2 {P : Program} {w : World} {ops : Array Oper} {rest : List Oper} {o : Oper} {a : Act} {Q : Exit → Act → World → Prop} (hgd : o.guard = none) (d s : Operand) (dT sT : TypeId)
    (ho : o.op = .call { callee := .builtin .copy, args := #[d, s], argTypes := #[dT, sT] }) (elem : TypeId) (hu : P.underlying dT = some (.slice elem)) (hsz : (P.info? elem).map (·.size) = some 2)
    (dp sp : Option Addr) (dCap sCap : Nat) (hd : a.eval d = .slice dp 0 dCap) (hs : a.eval s = .slice sp 0 sCap)
    (h : wpList P ops Q rest (a.put o.dst (goInt 0)) w) : wpList P ops Q (o :: rest) a w := by
  refine wpList_plain hgd fun K hK => ?_
  have hrun := run_copy_none2 (P := P) w dT sT o.type elem dp sp dCap sCap hu hsz
  unfold Oper.wp
  simp [execOp, ho, resolve, invoke, builtin, hd, hs, hrun, Result.andThen]
  exact hK _ _ h
theorem wpList_copy_own2 {P : Program} {w : World} {ops : Array Oper} {rest : List Oper} {o : Oper} {a : Act} {Q : Exit → Act → World → Prop} (hgd : o.guard = none) (d s : Operand) (dT sT : TypeId)
    (ho : o.op = .call { callee := .builtin .copy, args := #[d, s], argTypes := #[dT, sT] }) (elem : TypeId) (hu : P.underlying dT = some (.slice elem)) (hsz : (P.info? elem).map (·.size) = some 2)
    (g len dCap : Nat) (ad : Addr) (sCap : Nat) (hd : a.eval d = .slice (some ⟨g, 0, none⟩) len dCap) (hs : a.eval s = .slice (some ad) len sCap)
    (cur : Array Value) (t : TypeId) (hg : w.heap[g]? = some (.cells cur t (0, 0))) (cs : List Value) (hn : cs.length = len * 2)
    (hsrc : ∀ j v, cs[j]? = some v → w.cell? (ad.add j) = some v) (hfit : cs.length ≤ cur.size) (h1 : ∀ v ∈ cs, v.oneCell' = true)
    (h : wpList P ops Q rest (a.put o.dst (goInt len)) (w.setRow g (cs ++ cur.toList.drop cs.length).toArray)) : wpList P ops Q (o :: rest) a w := by
  refine wpList_plain hgd fun K hK => ?_
  have hrun := run_copy_row2 (P := P) w dT sT o.type elem g len dCap ad sCap cur t cs hu hsz hg hn hsrc hfit h1
  unfold Oper.wp
  simp [execOp, ho, resolve, invoke, builtin, hd, hs, hrun, Result.andThen]
  exact hK _ _ h
theorem infoSpan2 : (Try.prog.info? 68).map (·.size) = some 2 := by kernel_rfl
theorem flat_one {ps : Sp} : ∀ v ∈ (flat ps).map (Value.int .i64), v.oneCell' = true := by
  intro v hv
  obtain ⟨x, _, rfl⟩ := List.mem_map.1 hv
  rfl
set_option maxRecDepth 200000 in
set_option maxHeartbeats 2000000 in
theorem copiedSpans_any (a : Option Addr) (len cap : Nat) (ps : Sp) (F : List Nat) (w : World) (h : RdP w a len ps F) (hlen : len ≤ 2097152) :
    Calls Try.prog 60 #[.slice a len cap] w fun e w' => NewP w ps e w' := by
  obtain ⟨i0, hi, hz0, hz1, hz2⟩ := info_parts infoSpan
  have HL : Hid (ps.length = len) := h.length
  have HR : Hid (RdP w a len ps F) := h
  rcases h.cells with ⟨rfl, _, rfl⟩ | ⟨b, off, hp, rfl, _, _⟩
  · clear h
    go_enter Try.func60, Try.ntmps60
    go_wp2_with (at_make; refine wpList_make_full _ rfl _ _ 24 rfl w.heap.size 68 i0 (.agg #[.int .i64 0, .int .i64 0]) 2 Try.underlying24 hi hz0 hz1 .i64 .i64 _ _ 0 rfl rfl (by simp) (by simp) (by omega) (by unfold maxLen; omega) (Nat.le_refl _) ?_; intro w1 hown hgrow)
    have hcp := run_copy_none2 (P := Try.prog) w1 24 24 3 68 (some ⟨w.heap.size, 0, none⟩) a 0 cap Try.underlying24 infoSpan2
    rw [hcp]
    go_wp2
    go_ret
    exact ⟨_, 0, 0, [], rfl, RdP.nil, Own.nil, (Below.refl _ _).grown hgrow (Nat.le_refl _) (fun k hk => by cases hk), (fun e => by cases e), Nat.le_refl _⟩
  · clear h
    go_enter Try.func60, Try.ntmps60
    go_wp2_with (at_make; refine wpList_make_full _ rfl _ _ 24 rfl w.heap.size 68 i0 (.agg #[.int .i64 0, .int .i64 0]) 2 Try.underlying24 hi hz0 hz1 .i64 .i64 _ _ len rfl rfl rfl rfl (by rw [hz2]; omega) (by unfold maxLen; omega) (Nat.le_refl _) ?_; intro w1 hown hgrow)
    have HM : Hid (Blk w1 w.heap.size (tcv (List.replicate (2 * len) 0)) 68 ∧ Below w.heap.size w w1) := by
      refine ⟨?_, (Below.refl _ _).grown hgrow (Nat.le_refl _) (fun k hk => by cases hk)⟩
      have e := own_blk hown hp
      have e2 : (madeCells (Value.agg #[Value.int IntKind.i64 0, Value.int IntKind.i64 0]).cells (len * 2)).toList.toArray = tcv (List.replicate (2 * len) 0) := made_flat len
      rw [← e2]
      exact e
    clear hown hgrow
    have HLF : Hid ((flat ps).length = 2 * len) := by rw [flat_length, HL.out]; rfl
    have hcp := run_copy_row2 (P := Try.prog) w1 24 24 3 68 w.heap.size len len ⟨b, off, none⟩ cap _ 68 ((flat ps).map (Value.int .i64)) Try.underlying24 infoSpan2 HM.out.1 (by have := HLF.out; simp; omega) (cells_flat (HR.out.below HM.out.2) hp) (by have := HLF.out; simp [tcv]; omega) flat_one
    have hrow : ((flat ps).map (Value.int .i64) ++ (tcv (List.replicate (2 * len) 0)).toList.drop ((flat ps).map (Value.int .i64)).length).toArray = tcv (flat ps) := by
      have := HLF.out
      rw [List.drop_eq_nil_of_le (by simp [tcv]; omega), List.append_nil]
      rfl
    rw [hrow] at hcp
    have HW : Hid (Blk (w1.setRow w.heap.size (tcv (flat ps))) w.heap.size (tcv (flat ps)) 68 ∧ Below w.heap.size w (w1.setRow w.heap.size (tcv (flat ps)))) := ⟨HM.out.1.setRow, below_setRow HM.out.2 (Nat.le_refl _) _⟩
    clear hrow
    rw [hcp]
    go_wp2
    go_ret
    exact ⟨_, len, len, [w.heap.size], rfl, ⟨HL.out, rdI_tcv HW.out.1 HLF.out (by omega)⟩, ⟨by simp, fun b hb o => by simp at hb; subst hb; exact HW.out.1.frozen o, by simp⟩, HW.out.2, (fun e => by cases e), Nat.le_refl _⟩
theorem sp_eta (p : Int × Int) : p = (p.1, p.2) := rfl
set_option maxRecDepth 200000 in
set_option maxHeartbeats 2000000 in
theorem slEqualP_any (a b : Option Addr) (la lb ca cb : Nat) (xs ys : Sp) (F G : List Nat) (w : World) (ha : RdP w a la xs F) (hb : RdP w b lb ys G) (hla : la ≤ 140737488355328) (hlb : lb ≤ 140737488355328) :
    Calls Try.prog 31 #[.slice a la ca, .slice b lb cb] w fun e w' => e = .returned (.bool (decide (xs = ys))) ∧ QuietTo w w' := by
  have Hx : Hid (xs.length = la) := ha.length
  have Hy : Hid (ys.length = lb) := hb.length
  by_cases hl : la = lb
  · subst hl
    have hbne : ((la : Int) != (la : Int)) = false := by simp
    have HCA : Hid (la = 0 ∨ ∃ b1 o1, a = some ⟨b1, o1, none⟩ ∧ b1 < w.heap.size ∧ SpCells w b1 o1 la xs) := cells_of ha
    have HCB : Hid (la = 0 ∨ ∃ b1 o1, b = some ⟨b1, o1, none⟩ ∧ b1 < w.heap.size ∧ SpCells w b1 o1 la ys) := cells_of hb
    clear ha hb
    go_enter Try.func31, Try.ntmps31
    go_wp2
    go_loopw [13] (fun i wr => ∃ k : Nat, k ≤ la ∧ i = .int .i64 k ∧ Hid (xs.take k = ys.take k) ∧ Hid (QuietTo w wr)) (fun i _ => la - (intOf i).toNat)
    case atStart => exact ⟨0, by omega, rfl, rfl, QuietTo.refl _⟩
    case round =>
      obtain ⟨k, hk, rfl, HT, HQ⟩ := hrel
      by_cases hlt : k < la
      · rcases HCA.out with h0 | ⟨b1, o1, rfl, hbw1, hc1⟩
        · omega
        rcases HCB.out with h0 | ⟨b2, o2, rfl, hbw2, hc2⟩
        · omega
        obtain ⟨x, hx⟩ : ∃ x, x = (xs.at k).1 := ⟨_, rfl⟩
        obtain ⟨y, hy⟩ : ∃ x, x = (xs.at k).2 := ⟨_, rfl⟩
        obtain ⟨x', hx'⟩ : ∃ x, x = (ys.at k).1 := ⟨_, rfl⟩
        obtain ⟨y', hy'⟩ : ∃ x, x = (ys.at k).2 := ⟨_, rfl⟩
        have e1 := hc1 k hlt
        have e2 := hc2 k hlt
        rw [← hx, ← hy] at e1
        rw [← hx', ← hy'] at e2
        have d1 : wr.cell? ⟨b1, o1 + k * 2, none⟩ = some (.int .i64 x) := (HQ.out.cell _).trans e1.1
        have d2 : wr.cell? ⟨b1, o1 + k * 2 + 1, none⟩ = some (.int .i64 y) := (HQ.out.cell _).trans e1.2
        have d3 : wr.cell? ⟨b2, o2 + k * 2, none⟩ = some (.int .i64 x') := (HQ.out.cell _).trans e2.1
        have d4 : wr.cell? ⟨b2, o2 + k * 2 + 1, none⟩ = some (.int .i64 y') := (HQ.out.cell _).trans e2.2
        have HE : Hid ((x = x' ∧ y = y') ↔ xs[k]?.getD (0, 0) = ys[k]?.getD (0, 0)) := by rw [hx, hy, hx', hy']; exact Prod.ext_iff.symm
        have hI : (k : Int) < (la : Int) := by omega
        clear e1 e2 hx hy hx' hy' hc1 hc2
        by_cases c : x = x' ∧ y = y'
        · have e1 : (x == x') = true := by simp [c.1]
          have e2 : (y == y') = true := by simp [c.2]
          have HT2 : Hid (xs.take (k + 1) = ys.take (k + 1)) := eqP_step (by rw [Hx.out, Hy.out]) (by rw [Hx.out]; exact hlt) HT.out (HE.out.1 c)
          clear c
          go_wp2
          go_quiet (fail)
          go_wp2
          go_roundw
          case rel => exact ⟨k + 1, by omega, by go_num, HT2, HQ.out.drewN _⟩
          case measure => simp [intOf]; omega
        have HV : Hid (decide (xs = ys) = false) := neP_of_at (fun e => c (HE.out.2 e))
        by_cases c1 : x = x'
        · have e1 : (x == x') = true := by simp [c1]
          have e2 : (y == y') = false := by simpa using (fun e => c ⟨c1, e⟩)
          clear c c1
          go_wp2
          go_quiet (fail)
          go_wp2
          go_ret
          exact ⟨ret_bool HV.out.symm, HQ.out.drewN _⟩
        · have e1 : (x == x') = false := by simpa using c1
          clear c c1
          go_wp2
          go_quiet (fail)
          go_wp2
          go_ret
          exact ⟨ret_bool HV.out.symm, HQ.out.drewN _⟩
      · obtain rfl : k = la := by omega
        go_wp2
        go_ret
        exact ⟨ret_bool (eqP_end Hx.out Hy.out HT.out).symm, HQ.out⟩
  · have hbne : ((la : Int) != (lb : Int)) = true := by simp; omega
    have e : decide (xs = ys) = false := by
      rw [decide_eq_false_iff_not]; intro e; subst e; exact hl (Hx.out.symm.trans Hy.out)
    clear ha hb
    go_enter Try.func31, Try.ntmps31
    go_wp2
    go_ret
    exact ⟨ret_bool e.symm, QuietTo.refl _⟩
end Go.Proofs.Ytbmbmnhamogghab
/- The walks through the program's SetAdd and SetJoin. No statement of the seat is proved here. -/
namespace Go.Proofs.Ytbmbmnhamogghab
open Go.RowKit
set_option maxRecDepth 200000 in
theorem inRangeP_any (n m : Int) (w : World) : Calls Try.prog 42 #[.int .i64 n, .int .i64 m] w fun e w' => e = .returned (.bool (decide (0 ≤ n ∧ n ≤ m))) ∧ w' = w := by
  by_cases h1 : 0 ≤ n
  · have e1 : decide (0 ≤ n) = true := decT h1
    by_cases h2 : n ≤ m
    · have e2 : decide (n ≤ m) = true := decT h2
      have HV : Hid (decide (0 ≤ n ∧ n ≤ m) = true) := decT ⟨h1, h2⟩
      clear h1 h2
      go_enter Try.func42, Try.ntmps42
      go_wp2
      go_ret
      exact ⟨ret_bool HV.out.symm, rfl⟩
    · have e2 : decide (n ≤ m) = false := decF h2
      have HV : Hid (decide (0 ≤ n ∧ n ≤ m) = false) := decF (fun e => h2 e.2)
      clear h1 h2
      go_enter Try.func42, Try.ntmps42
      go_wp2
      go_ret
      exact ⟨ret_bool HV.out.symm, rfl⟩
  · have e1 : decide (0 ≤ n) = false := decF h1
    have HV : Hid (decide (0 ≤ n ∧ n ≤ m) = false) := decF (fun e => h1 e.1)
    clear h1
    go_enter Try.func42, Try.ntmps42
    go_wp2
    go_ret
    exact ⟨ret_bool HV.out.symm, rfl⟩
set_option maxRecDepth 200000 in
theorem single_any (n : Int) (w : World) : Calls Try.prog 37 #[.int .i64 n] w fun e w' => e = .returned (.agg #[.int .i64 n, .int .i64 n]) ∧ Below w.heap.size w w' := by
  have HB : Hid (Below w.heap.size w (w.alloc (.cells #[.int .i64 n, .int .i64 n] 68))) := Below.allocW _ (Below.refl _ _) (Nat.le_refl _)
  have HK : Hid (Blk (w.alloc (.cells #[.int .i64 n, .int .i64 n] 68)) w.heap.size #[.int .i64 n, .int .i64 n] 68) := Blk.made _ _ _
  go_enter Try.func37, Try.ntmps37
  go_wp2
  refine bodyPost_ret (results_cell_row Try.results37 _ _ w.heap.size _ _ (0, 0) _ rfl HK.out Try.underlying68 rfl (by kernel_rfl)) rfl ?_
  exact ⟨rfl, HB.out⟩
theorem inb_ok {ps : Sp} (h : ps.ok = true) : ∀ p ∈ ps, InB p := inb_iff.1 (ok_inb h)
set_option maxRecDepth 200000 in
set_option maxHeartbeats 4000000 in
theorem joinImpl_any (a b : Option Addr) (la lb ca cb : Nat) (ps qs : Sp) (F G : List Nat) (w : World) (h : RdP w a la ps F) (k : RdP w b lb qs G) (hlen : la + lb ≤ 2097152) (hca : la ≤ ca) :
    Calls Try.prog 25 #[.slice a la ca, .slice b lb cb] w fun e w' => NewP2 w (ps.join qs) (ps.ok && qs.ok) e w' := by
  have HR : Hid (RdP w a la ps F ∧ RdP w b lb qs G) := ⟨h, k⟩
  clear h k
  go_enter Try.func25, Try.ntmps25
  go_wp2_with fail
  refine (setOkImpl_any a la ca ps F _ HR.out.1 (by omega)).mono ?_
  rintro e w1 ⟨rfl, hb⟩
  have HB0 : Hid (Below w.heap.size w w1) := hb
  clear hb
  obtain ⟨d, hd⟩ : ∃ d, d = ps.ok := ⟨_, rfl⟩
  rw [← hd]
  have HD : Hid (d = ps.ok) := hd
  clear hd
  cases d
  · have HV : Hid (ps.join qs = [] ∧ (ps.ok && qs.ok) = false) := ⟨Sp.join_not (by rw [← HD.out]; rfl), by rw [← HD.out]; rfl⟩
    go_wp2
    go_ret2
    rw [HV.out.1, HV.out.2]
    exact ⟨_, 0, 0, [], rfl, RdP.nil, Own.nil, HB0.out, fun _ => rfl, Nat.le_refl _⟩
  go_wp2_with fail
  refine (setOkImpl_any b lb cb qs G _ (HR.out.2.below HB0.out) (by omega)).mono ?_
  rintro e w2 ⟨rfl, hb⟩
  have HB1 : Hid (Below w.heap.size w w2) := Below.next HB0.out hb
  clear hb HB0
  obtain ⟨d, hd⟩ : ∃ d, d = qs.ok := ⟨_, rfl⟩
  rw [← hd]
  have HE : Hid (d = qs.ok) := hd
  clear hd
  cases d
  · have HV : Hid (ps.join qs = [] ∧ (ps.ok && qs.ok) = false) := ⟨Sp.join_not (by rw [← HD.out, ← HE.out]; rfl), by rw [← HD.out, ← HE.out]; rfl⟩
    go_wp2
    go_ret2
    rw [HV.out.1, HV.out.2]
    exact ⟨_, 0, 0, [], rfl, RdP.nil, Own.nil, HB1.out, fun _ => rfl, Nat.le_refl _⟩
  have HV : Hid (both ps qs [] = ps.join qs ∧ (ps.ok && qs.ok) = true) := ⟨both_join HD.out.symm HE.out.symm, by rw [← HD.out, ← HE.out]; rfl⟩
  go_wp2_with fail
  refine (spansOfBoth_any a b la lb ca cb ps qs F G _ (HR.out.1.below HB1.out) (HR.out.2.below HB1.out) (by omega) hca (inb_ok HD.out.symm) (inb_ok HE.out.symm)).mono ?_
  rintro e w3 ⟨a', l', c', F', rfl, g1, g2, g3, g4⟩
  have HN : Hid (RdP w3 a' l' (ps.join qs) F' ∧ Own w.heap.size w3 F' ∧ Below w.heap.size w w3 ∧ Capd a' l' c') := ⟨by rw [← HV.out.1]; exact g1, g2.mono HB1.out.size, Below.next HB1.out g3, g4⟩
  clear g1 g2 g3 g4
  go_wp2
  go_ret2
  rw [HV.out.2]
  exact ⟨a', l', c', F', rfl, HN.out⟩
end Go.Proofs.Ytbmbmnhamogghab
/- The walk through the program's EntryOf. No statement of the seat is proved here. -/
namespace Go.Proofs.Ytbmbmnhamogghab
open Go.RowKit
theorem idOf_cases (a s : Int) : idOf a s = -1 ∨ 0 ≤ idOf a s := by
  unfold idOf
  split
  · right; omega
  · exact .inl rfl
set_option maxRecDepth 200000 in
set_option maxHeartbeats 8000000 in
theorem entryOfImpl_any (ag : Int) (v : Value) (x : It) (F : List Nat) (w : World) (h : RdIt w v x F) (hw : x.sk.wide) :
    Calls Try.prog 14 #[.int .i64 ag, v] w fun e w' => NewEn2 w (x.entry ag) (x.entryOk ag) e w' := by
  have HX : Hid (RdIt w v x F ∧ x.sk.wide) := ⟨h, hw⟩
  obtain ⟨a1, n1, c1, a2, n2, c2, a3, n3, c3, rfl, hr⟩ := h
  have HR : Hid (RdSk w (.agg #[.int .i64 x.sk.count, .int .i64 x.sk.sum, .int .i64 x.sk.min, .int .i64 x.sk.max, .slice a1 n1 c1, .slice a2 n2 c2, .slice a3 n3 c3]) x.sk F) := hr
  have HT := two_made w #[.int .i64 x.seq, .int .i64 x.cls, .int .i64 x.key, .int .i64 x.window, .int .i64 x.sk.count, .int .i64 x.sk.sum, .int .i64 x.sk.min, .int .i64 x.sk.max, .slice a1 n1 c1, .slice a2 n2 c2, .slice a3 n3 c3] #[.int .i64 0, .int .i64 0, .slice none 0 0, .int .i64 0, .int .i64 0, .int .i64 0, .int .i64 0, .slice none 0 0, .slice none 0 0, .slice none 0 0] 40 30
  have HT : Hid (_ ∧ _ ∧ _) := HT
  have k0 : ((w.alloc (.cells #[.int .i64 x.seq, .int .i64 x.cls, .int .i64 x.key, .int .i64 x.window, .int .i64 x.sk.count, .int .i64 x.sk.sum, .int .i64 x.sk.min, .int .i64 x.sk.max, .slice a1 n1 c1, .slice a2 n2 c2, .slice a3 n3 c3] 40)).alloc (.cells #[.int .i64 0, .int .i64 0, .slice none 0 0, .int .i64 0, .int .i64 0, .int .i64 0, .int .i64 0, .slice none 0 0, .slice none 0 0, .slice none 0 0] 30)).cell? ⟨w.heap.size, 0, none⟩ = some (.int .i64 x.seq) := by rw [HT.out.1.cell]; rfl
  clear hr hw
  go_enter Try.func14, Try.ntmps14
  go_wp2_with fail
  refine (idImpl_any _ _ _).mono ?_
  rintro e w1 ⟨rfl, hw1⟩
  have hw1' := hw1.symm
  subst hw1'
  clear hw1 k0
  obtain ⟨W0, hW0⟩ : ∃ W0, W0 = (w.alloc (.cells #[.int .i64 x.seq, .int .i64 x.cls, .int .i64 x.key, .int .i64 x.window, .int .i64 x.sk.count, .int .i64 x.sk.sum, .int .i64 x.sk.min, .int .i64 x.sk.max, .slice a1 n1 c1, .slice a2 n2 c2, .slice a3 n3 c3] 40)).alloc (.cells #[.int .i64 0, .int .i64 0, .slice none 0 0, .int .i64 0, .int .i64 0, .int .i64 0, .int .i64 0, .slice none 0 0, .slice none 0 0, .slice none 0 0] 30) := ⟨_, rfl⟩
  rw [← hW0] at HT ⊢
  clear hW0
  obtain ⟨id, hid⟩ : ∃ i, i = idOf ag x.seq := ⟨_, rfl⟩
  rw [← hid]
  have HID : Hid (id = idOf ag x.seq) := hid
  have hge : id = -1 ∨ 0 ≤ id := by rw [hid]; exact idOf_cases ag x.seq
  clear hid
  have HZ : Hid (Blk W0 (w.heap.size + 1) #[.int .i64 0, .int .i64 0, .slice none 0 0, .int .i64 0, .int .i64 0, .int .i64 0, .int .i64 0, .slice none 0 0, .slice none 0 0, .slice none 0 0] 30 ∧ Below w.heap.size w W0) := HT.out.2
  by_cases hn : id = -1
  · have HV : Hid (x.entryOk ag = false) := by show _ = _; unfold It.entryOk; rw [← HID.out, decF (p := 0 ≤ id) (by omega)]; simp
    have z : (id == -1) = true := by simpa using hn
    clear hge hn
    go_wp2_with (first | go_skip | (with_reducible refine stopLoad 40 rfl ?_) | (with_reducible refine stopStore 30 rfl ?_))
    refine store_known 30 (w.heap.size + 1) _ #[.int .i64 0, .int .i64 0, .slice none 0 0, .int .i64 0, .int .i64 0, .int .i64 0, .int .i64 0, .slice none 0 0, .slice none 0 0, .slice none 0 0] 30 HZ.out.1 rfl rfl rfl rfl (by kernel_rfl) rfl (by kernel_rfl) ?_
    go_wp2
    refine bodyPost_ret (results_row_tmp Try.results14 _ _ (w.heap.size + 1) _ _ _ _ rfl HZ.out.1.setRow Try.underlying30 rfl (by kernel_rfl)) rfl ?_
    rw [HV.out, It.entry_not HV.out]
    exact ⟨_, [], [], rfl, rdEn_zero _, Own.nil, Own.nil, by simp, below_setRow HZ.out.2 (by omega) _⟩
  have z : (id == -1) = false := by simpa using hn
  have hp : 0 ≤ id := by omega
  clear hge hn
  go_wp2_with (first | go_skip | (with_reducible refine stopLoad 40 rfl ?_) | (with_reducible refine stopStore 30 rfl ?_))
  refine load_any 40 w.heap.size _ 40 _ HT.out.1 rfl rfl rfl Try.underlying40 rfl (by kernel_rfl) ?_
  go_wp2_with fail
  refine (itemOkImpl_any _ x F _ (HX.out.1.below HT.out.2.2) HX.out.2).mono ?_
  rintro e w2 ⟨rfl, hb2⟩
  have HT2 : Hid (Blk w2 w.heap.size #[.int .i64 x.seq, .int .i64 x.cls, .int .i64 x.key, .int .i64 x.window, .int .i64 x.sk.count, .int .i64 x.sk.sum, .int .i64 x.sk.min, .int .i64 x.sk.max, .slice a1 n1 c1, .slice a2 n2 c2, .slice a3 n3 c3] 40) := HT.out.1.below hb2
  have HZ2 : Hid (Blk w2 (w.heap.size + 1) #[.int .i64 0, .int .i64 0, .slice none 0 0, .int .i64 0, .int .i64 0, .int .i64 0, .int .i64 0, .slice none 0 0, .slice none 0 0, .slice none 0 0] 30 ∧ Below w.heap.size w w2) := ⟨HZ.out.1.below hb2, Below.next HZ.out.2 hb2⟩
  clear hb2 HT HZ
  have HZ := HZ2
  obtain ⟨d, hd⟩ : ∃ d, d = x.ok := ⟨_, rfl⟩
  rw [← hd]
  have HD : Hid (d = x.ok) := hd
  clear hd z
  cases d
  · have HV : Hid (x.entryOk ag = false) := by show _ = _; unfold It.entryOk; rw [← HD.out]; rfl
    go_wp2_with (first | go_skip | (with_reducible refine stopLoad 40 rfl ?_) | (with_reducible refine stopStore 30 rfl ?_))
    refine store_known 30 (w.heap.size + 1) _ #[.int .i64 0, .int .i64 0, .slice none 0 0, .int .i64 0, .int .i64 0, .int .i64 0, .int .i64 0, .slice none 0 0, .slice none 0 0, .slice none 0 0] 30 HZ.out.1 rfl rfl rfl rfl (by kernel_rfl) rfl (by kernel_rfl) ?_
    go_wp2
    refine bodyPost_ret (results_row_tmp Try.results14 _ _ (w.heap.size + 1) _ _ _ _ rfl HZ.out.1.setRow Try.underlying30 rfl (by kernel_rfl)) rfl ?_
    rw [HV.out, It.entry_not HV.out]
    exact ⟨_, [], [], rfl, rdEn_zero _, Own.nil, Own.nil, by simp, below_setRow HZ.out.2 (by omega) _⟩
  have HV : Hid (x.entryOk ag = true) := by show _ = _; unfold It.entryOk; rw [← HD.out, ← HID.out, decT (p := 0 ≤ id) hp]; rfl
  go_wp2
  have HS : Hid (Blk w2.drew w.heap.size #[.int .i64 x.seq, .int .i64 x.cls, .int .i64 x.key, .int .i64 x.window, .int .i64 x.sk.count, .int .i64 x.sk.sum, .int .i64 x.sk.min, .int .i64 x.sk.max, .slice a1 n1 c1, .slice a2 n2 c2, .slice a3 n3 c3] 40) := HT2.out.drew
  have HZ3 : Hid (Blk w2.drew (w.heap.size + 1) #[.int .i64 0, .int .i64 0, .slice none 0 0, .int .i64 0, .int .i64 0, .int .i64 0, .int .i64 0, .slice none 0 0, .slice none 0 0, .slice none 0 0] 30 ∧ Below w.heap.size w w2.drew) := ⟨HZ2.out.1.drew, HZ2.out.2.drew⟩
  clear HT2 HZ2 HZ
  refine wp_region_held (S := fun W => Blk W w.heap.size #[.int .i64 x.seq, .int .i64 x.cls, .int .i64 x.key, .int .i64 x.window, .int .i64 x.sk.count, .int .i64 x.sk.sum, .int .i64 x.sk.min, .int .i64 x.sk.max, .slice a1 n1 c1, .slice a2 n2 c2, .slice a3 n3 c3] 40) (by kernel_rfl) ?_
  change wpAnyH _ _ _ _ _ _ _ _ (World.drew _)
  refine takeH (o := ?o1) 0 (.pointer (some ⟨w.heap.size, 2, none⟩)) ?h1 ?r1
  case h1 => simp only [List.getElem?_toArray, List.getElem?_cons_zero]; rfl
  refine ⟨_, by simp [Act.put]; rfl, by kernel_rfl, by kernel_rfl, by kernel_rfl, fun _ _ _ h => h, (.inl ⟨rfl, fun W _ => by go_simp⟩), HS.out, ?_⟩
  refine takeH (o := ?o2) 1 (.int .i64 x.key) ?h2 ?r2
  case h2 => simp only [List.getElem?_toArray, List.getElem?_cons_succ, List.getElem?_cons_zero]; rfl
  refine ⟨_, by simp [Act.put]; rfl, by kernel_rfl, by kernel_rfl, by kernel_rfl, fun _ _ _ h => h, (.inl ⟨rfl, fun W hW => by have c := hW.cell 2; simp only [List.getElem?_toArray, List.getElem?_cons_succ, List.getElem?_cons_zero] at c; go_simp⟩), HS.out, ?_⟩
  refine takeH (o := ?o3) 2 (.pointer (some ⟨w.heap.size, 3, none⟩)) ?h3 ?r3
  case h3 => simp only [List.getElem?_toArray, List.getElem?_cons_succ, List.getElem?_cons_zero]; rfl
  refine ⟨_, by simp [Act.put]; rfl, by kernel_rfl, by kernel_rfl, by kernel_rfl, fun _ _ _ h => h, (.inl ⟨rfl, fun W _ => by go_simp⟩), HS.out, ?_⟩
  refine takeH (o := ?o4) 3 (.int .i64 x.window) ?h4 ?r4
  case h4 => simp only [List.getElem?_toArray, List.getElem?_cons_succ, List.getElem?_cons_zero]; rfl
  refine ⟨_, by simp [Act.put]; rfl, by kernel_rfl, by kernel_rfl, by kernel_rfl, fun _ _ _ h => h, (.inl ⟨rfl, fun W hW => by have c := hW.cell 3; simp only [List.getElem?_toArray, List.getElem?_cons_succ, List.getElem?_cons_zero] at c; go_simp⟩), HS.out, ?_⟩
  refine takeH (o := ?o5) 4 (.int .i64 id) ?h5 ?r5
  case h5 => simp only [List.getElem?_toArray, List.getElem?_cons_succ, List.getElem?_cons_zero]; rfl
  refine ⟨_, by simp [Act.put]; rfl, by kernel_rfl, by kernel_rfl, by kernel_rfl, fun _ _ _ h => h, (.inl ⟨rfl, fun W _ => by go_simp⟩), HS.out, ?_⟩
  refine takeH (o := ?o6) 7 (.pointer (some ⟨w.heap.size, 4, none⟩)) ?h6 ?r6
  case h6 => simp only [List.getElem?_toArray, List.getElem?_cons_succ, List.getElem?_cons_zero]; rfl
  refine ⟨_, by simp [Act.put]; rfl, by kernel_rfl, by kernel_rfl, by kernel_rfl, fun _ _ _ h => h, (.inl ⟨rfl, fun W _ => by go_simp⟩), HS.out, ?_⟩
  refine takeH (o := ?o7) 8 (.agg #[.int .i64 x.sk.count, .int .i64 x.sk.sum, .int .i64 x.sk.min, .int .i64 x.sk.max, .slice a1 n1 c1, .slice a2 n2 c2, .slice a3 n3 c3]) ?h7 ?r7
  case h7 => simp only [List.getElem?_toArray, List.getElem?_cons_succ, List.getElem?_cons_zero]; rfl
  refine ⟨_, by simp [Act.put]; rfl, by kernel_rfl, by kernel_rfl, by kernel_rfl, fun _ _ _ h => h, (yields_cut 28 w.heap.size 4 7 _ #[.int .i64 x.sk.count, .int .i64 x.sk.sum, .int .i64 x.sk.min, .int .i64 x.sk.max, .slice a1 n1 c1, .slice a2 n2 c2, .slice a3 n3 c3] 40 _ rfl rfl rfl Try.underlying28 rfl (by kernel_rfl) (by simp) rfl (fun W hW => hW)), HS.out, ?_⟩
  refine onlyH (o := ?o8) 5 (by kernel_rfl) ?h8 ?r8
  case h8 => simp only [List.getElem?_toArray, List.getElem?_cons_succ, List.getElem?_cons_zero]; rfl
  intro K hK
  refine op_call1 37 _ _ Try.f37 (fun v w' => v = .agg #[.int .i64 id, .int .i64 id] ∧ Below w2.drew.heap.size w2.drew w') rfl rfl Try.func37 (by kernel_rfl) (by kernel_rfl) ((single_any id w2.drew).mono (by rintro e w' ⟨rfl, h1⟩; exact ⟨_, rfl, rfl, h1⟩)) ?_
  rintro _ w3 ⟨rfl, bz⟩
  refine ⟨_, by simp [Act.put]; rfl, hK _ _ ⟨HS.out.below bz, ?_⟩⟩
  have HS3 : Hid (Blk w3 w.heap.size #[.int .i64 x.seq, .int .i64 x.cls, .int .i64 x.key, .int .i64 x.window, .int .i64 x.sk.count, .int .i64 x.sk.sum, .int .i64 x.sk.min, .int .i64 x.sk.max, .slice a1 n1 c1, .slice a2 n2 c2, .slice a3 n3 c3] 40) := HS.out.below bz
  have HZ4 : Hid (Blk w3 (w.heap.size + 1) #[.int .i64 0, .int .i64 0, .slice none 0 0, .int .i64 0, .int .i64 0, .int .i64 0, .int .i64 0, .slice none 0 0, .slice none 0 0, .slice none 0 0] 30 ∧ Below w.heap.size w w3) := ⟨HZ3.out.1.below bz, Below.next HZ3.out.2 bz⟩
  clear hK bz HS HZ3
  refine twoH (o := ?o9) (o' := ?p9) 6 9 (by kernel_rfl) ?h9 ?g9 ?r9 ?s9
  case h9 => simp only [List.getElem?_toArray, List.getElem?_cons_succ, List.getElem?_cons_zero]; rfl
  case g9 => simp only [List.getElem?_toArray, List.getElem?_cons_succ, List.getElem?_cons_zero]; rfl
  case r9 =>
    intro K hK
    refine op_turn (.slice (some ⟨w3.heap.size, 0, none⟩) 1 1) (w3.alloc (.cells #[.int .i64 id, .int .i64 id] 68)) rfl (by go_simp) ⟨_, by simp [Act.put]; rfl, hK _ _ ⟨HS3.out.alloc _, ?_⟩⟩
    obtain ⟨w5, hw5⟩ : ∃ W, W = w3.alloc (.cells #[.int .i64 id, .int .i64 id] 68) := ⟨_, rfl⟩
    have HS5 : Hid (Blk w5 w.heap.size #[.int .i64 x.seq, .int .i64 x.cls, .int .i64 x.key, .int .i64 x.window, .int .i64 x.sk.count, .int .i64 x.sk.sum, .int .i64 x.sk.min, .int .i64 x.sk.max, .slice a1 n1 c1, .slice a2 n2 c2, .slice a3 n3 c3] 40) := by rw [hw5]; exact HS3.out.alloc _
    have HZ5 : Hid (Blk w5 (w.heap.size + 1) #[.int .i64 0, .int .i64 0, .slice none 0 0, .int .i64 0, .int .i64 0, .int .i64 0, .int .i64 0, .slice none 0 0, .slice none 0 0, .slice none 0 0] 30 ∧ Below w.heap.size w w5) := by rw [hw5]; exact ⟨HZ4.out.1.alloc _, Below.allocW _ HZ4.out.2 (Nat.le_refl _)⟩
    have HL : Hid (Blk w5 w3.heap.size #[.int .i64 id, .int .i64 id] 68 ∧ w.heap.size + 1 < w3.heap.size) := ⟨by rw [hw5]; exact Blk.made _ _ _, HZ4.out.1.lt⟩
    obtain ⟨gg, hgg⟩ : ∃ n, n = w3.heap.size := ⟨_, rfl⟩
    rw [← hw5]
    rw [← hgg] at HL ⊢
    clear hK hw5 hgg HS3 HZ4
    refine onlyH (o := ?o10) 9 (by kernel_rfl) ?h10 ?r10
    case h10 => simp only [List.getElem?_toArray, List.getElem?_cons_succ, List.getElem?_cons_zero]; rfl
    intro K hK
    refine op_call1 38 _ _ Try.f38 (fun v w' => ∃ X, RdSk w' v x.sk X ∧ Own w5.heap.size w' X ∧ Below w5.heap.size w5 w') rfl rfl Try.func38 (by kernel_rfl) (by kernel_rfl) ((copiedSketch_any _ x.sk F w5 (HR.out.below HZ5.out.2) (Sk.ok_shaped (It.ok_sk HD.out.symm))).mono (by rintro e w' ⟨v, X, rfl, h1, h2, h3⟩; exact ⟨_, rfl, X, h1, h2, h3⟩)) ?_
    rintro vm w6 ⟨X, rm, om, bz⟩
    obtain ⟨e1, r1, f1, e2, r2, f2, e3, r3, f3, rfl⟩ := rm.cells7
    refine ⟨_, by simp [Act.put]; rfl, hK _ _ ⟨HS5.out.below bz, ?_⟩⟩
    have HS6 : Hid (Blk w6 w.heap.size #[.int .i64 x.seq, .int .i64 x.cls, .int .i64 x.key, .int .i64 x.window, .int .i64 x.sk.count, .int .i64 x.sk.sum, .int .i64 x.sk.min, .int .i64 x.sk.max, .slice a1 n1 c1, .slice a2 n2 c2, .slice a3 n3 c3] 40) := HS5.out.below bz
    have HZ6 : Hid (Blk w6 (w.heap.size + 1) #[.int .i64 0, .int .i64 0, .slice none 0 0, .int .i64 0, .int .i64 0, .int .i64 0, .int .i64 0, .slice none 0 0, .slice none 0 0, .slice none 0 0] 30 ∧ Below w.heap.size w w6) := ⟨HZ5.out.1.below bz, Below.next HZ5.out.2 bz⟩
    have hl := HL.out.1.below bz
    have HG : Hid (RdSk w6 (.agg #[.int .i64 x.sk.count, .int .i64 x.sk.sum, .int .i64 x.sk.min, .int .i64 x.sk.max, .slice e1 r1 f1, .slice e2 r2 f2, .slice e3 r3 f3]) x.sk X ∧ Own (w.heap.size + 2) w6 X ∧ RdP w6 (some ⟨gg, 0, none⟩) 1 [(id, id)] [gg] ∧ Own (w.heap.size + 2) w6 [gg] ∧ (∀ b ∈ [gg], b ∉ X) ∧ w.heap.size + 1 < gg) := ⟨rm, om.mono (by have := HZ5.out.1.lt; omega), rdP_single hl, ⟨by simp, fun b hb o => by simp at hb; subst hb; exact hl.frozen o, fun b hb => by simp at hb; have := HL.out.2; omega⟩, fun b hb hx => by simp at hb; subst hb; have := HL.out.1.lt; have := om.ge _ hx; omega, HL.out.2⟩
    clear hK bz rm om hl HL HS5 HZ5
    refine takeH (o := ?o11) 10 (.agg #[.int .i64 x.key, .int .i64 x.window, .slice (some ⟨gg, 0, none⟩) 1 1, .int .i64 x.sk.count, .int .i64 x.sk.sum, .int .i64 x.sk.min, .int .i64 x.sk.max, .slice e1 r1 f1, .slice e2 r2 f2, .slice e3 r3 f3]) ?h11 ?r11
    case h11 => simp only [List.getElem?_toArray, List.getElem?_cons_succ, List.getElem?_cons_zero]; rfl
    refine ⟨_, by simp [Act.put]; rfl, by kernel_rfl, by kernel_rfl, by kernel_rfl, fun _ _ _ h => h, (.inl ⟨rfl, fun W _ => by go_simp⟩), HS6.out, ?_⟩
    refine onlyH (o := ?o12) 11 (by kernel_rfl) ?h12 ?r12
    case h12 => simp only [List.getElem?_toArray, List.getElem?_cons_succ, List.getElem?_cons_zero]; rfl
    intro K hK
    refine op_store 30 (w.heap.size + 1) #[.int .i64 0, .int .i64 0, .slice none 0 0, .int .i64 0, .int .i64 0, .int .i64 0, .int .i64 0, .slice none 0 0, .slice none 0 0, .slice none 0 0] #[.int .i64 x.key, .int .i64 x.window, .slice (some ⟨gg, 0, none⟩) 1 1, .int .i64 x.sk.count, .int .i64 x.sk.sum, .int .i64 x.sk.min, .int .i64 x.sk.max, .slice e1 r1 f1, .slice e2 r2 f2, .slice e3 r3 f3] 30 rfl rfl rfl rfl HZ6.out.1 (by kernel_rfl) rfl (by simp [Value.oneCell']) ⟨_, by simp [Act.put]; rfl, hK _ _ ⟨HS6.out.setRowOther (by omega), ?_⟩⟩
    clear hK
    refine takeH (o := ?o13) 12 (.bool true) ?h13 ?r13
    case h13 => simp only [List.getElem?_toArray, List.getElem?_cons_succ, List.getElem?_cons_zero]; rfl
    refine ⟨_, by simp [Act.put]; rfl, by kernel_rfl, by kernel_rfl, by kernel_rfl, fun _ _ _ h => h, (.inl ⟨rfl, fun W _ => by go_simp⟩), (HS6.out.setRowOther (by omega)), ?_⟩
    refine wpAnyH_done (by kernel_rfl) ?_ _
    have nf : w.heap.size + 1 ∉ [gg] := by have := HG.out.2.2.2.2.2; simp; omega
    have nx : w.heap.size + 1 ∉ X := fun hx => by have := HG.out.2.1.ge _ hx; omega
    obtain ⟨E, hE⟩ : ∃ E : Array Value, E = #[.int .i64 x.key, .int .i64 x.window, .slice (some ⟨gg, 0, none⟩) 1 1, .int .i64 x.sk.count, .int .i64 x.sk.sum, .int .i64 x.sk.min, .int .i64 x.sk.max, .slice e1 r1 f1, .slice e2 r2 f2, .slice e3 r3 f3] := ⟨_, rfl⟩
    rw [← hE]
    obtain ⟨w9, hw9⟩ : ∃ W, W = w6.setRow (w.heap.size + 1) E := ⟨_, rfl⟩
    have HF : Hid (Blk w9 (w.heap.size + 1) E 30 ∧ RdP w9 (some ⟨gg, 0, none⟩) 1 [(id, id)] [gg] ∧ RdSk w9 (.agg #[.int .i64 x.sk.count, .int .i64 x.sk.sum, .int .i64 x.sk.min, .int .i64 x.sk.max, .slice e1 r1 f1, .slice e2 r2 f2, .slice e3 r3 f3]) x.sk X ∧ Own w.heap.size w9 [gg] ∧ Own w.heap.size w9 X ∧ (∀ b ∈ [gg], b ∉ X) ∧ Below w.heap.size w w9) := by
      rw [hw9]
      exact ⟨HZ6.out.1.setRow, HG.out.2.2.1.agree (Agree.row nf E), HG.out.1.agree (Agree.row nx E), (HG.out.2.2.2.1.agree (Agree.row nf E)).mono (by omega), (HG.out.2.1.agree (Agree.row nx E)).mono (by omega), HG.out.2.2.2.2.1, below_setRow HZ6.out.2 (by omega) _⟩
    have HE : Hid (E = #[.int .i64 x.key, .int .i64 x.window, .slice (some ⟨gg, 0, none⟩) 1 1, .int .i64 x.sk.count, .int .i64 x.sk.sum, .int .i64 x.sk.min, .int .i64 x.sk.max, .slice e1 r1 f1, .slice e2 r2 f2, .slice e3 r3 f3] ∧ E.size = 10) := ⟨hE, by rw [hE]; rfl⟩
    rw [← hw9]
    clear hE hw9 HG nf nx
    go_wp2
    refine bodyPost_ret (results_row_tmp Try.results14 _ _ (w.heap.size + 1) _ _ (0, 0) _ rfl HF.out.1 Try.underlying30 rfl (by rw [HE.out.2]; exact infoEnA)) rfl ?_
    rw [It.entry_yes HV.out, HV.out, ← HID.out]
    exact ⟨_, [gg], X, rfl, ⟨some ⟨gg, 0, none⟩, 1, 1, e1, r1, f1, e2, r2, f2, e3, r3, f3, by rw [HE.out.1], HF.out.2.1, HF.out.2.2.1, fun e => (by cases e), Nat.le_refl _⟩, HF.out.2.2.2.1, HF.out.2.2.2.2.1, HF.out.2.2.2.2.2.1, HF.out.2.2.2.2.2.2⟩
  case s9 =>
    intro K hK
    refine op_call1 38 _ _ Try.f38 (fun v w' => ∃ X, RdSk w' v x.sk X ∧ Own w3.heap.size w' X ∧ Below w3.heap.size w3 w') rfl rfl Try.func38 (by kernel_rfl) (by kernel_rfl) ((copiedSketch_any _ x.sk F w3 (HR.out.below HZ4.out.2) (Sk.ok_shaped (It.ok_sk HD.out.symm))).mono (by rintro e w' ⟨v, X, rfl, h1, h2, h3⟩; exact ⟨_, rfl, X, h1, h2, h3⟩)) ?_
    rintro vm w5 ⟨X, rm, om, bz⟩
    obtain ⟨e1, r1, f1, e2, r2, f2, e3, r3, f3, rfl⟩ := rm.cells7
    refine ⟨_, by simp [Act.put]; rfl, hK _ _ ⟨HS3.out.below bz, ?_⟩⟩
    have HS5 : Hid (Blk w5 w.heap.size #[.int .i64 x.seq, .int .i64 x.cls, .int .i64 x.key, .int .i64 x.window, .int .i64 x.sk.count, .int .i64 x.sk.sum, .int .i64 x.sk.min, .int .i64 x.sk.max, .slice a1 n1 c1, .slice a2 n2 c2, .slice a3 n3 c3] 40) := HS3.out.below bz
    have HZ5 : Hid (Blk w5 (w.heap.size + 1) #[.int .i64 0, .int .i64 0, .slice none 0 0, .int .i64 0, .int .i64 0, .int .i64 0, .int .i64 0, .slice none 0 0, .slice none 0 0, .slice none 0 0] 30 ∧ Below w.heap.size w w5) := ⟨HZ4.out.1.below bz, Below.next HZ4.out.2 bz⟩
    have HQ : Hid (RdSk w5 (.agg #[.int .i64 x.sk.count, .int .i64 x.sk.sum, .int .i64 x.sk.min, .int .i64 x.sk.max, .slice e1 r1 f1, .slice e2 r2 f2, .slice e3 r3 f3]) x.sk X ∧ Own (w.heap.size + 2) w5 X) := ⟨rm, om.mono (by have := HZ4.out.1.lt; omega)⟩
    clear hK bz rm om HS3 HZ4
    refine onlyH (o := ?o14) 6 (by kernel_rfl) ?h14 ?r14
    case h14 => simp only [List.getElem?_toArray, List.getElem?_cons_succ, List.getElem?_cons_zero]; rfl
    intro K hK
    refine op_turn (.slice (some ⟨w5.heap.size, 0, none⟩) 1 1) (w5.alloc (.cells #[.int .i64 id, .int .i64 id] 68)) rfl (by go_simp) ⟨_, by simp [Act.put]; rfl, hK _ _ ⟨HS5.out.alloc _, ?_⟩⟩
    obtain ⟨w6, hw6⟩ : ∃ W, W = w5.alloc (.cells #[.int .i64 id, .int .i64 id] 68) := ⟨_, rfl⟩
    have b6 : Below w5.heap.size w5 w6 := by rw [hw6]; exact (Below.refl _ _).alloc (Nat.le_refl _) _
    have HS6 : Hid (Blk w6 w.heap.size #[.int .i64 x.seq, .int .i64 x.cls, .int .i64 x.key, .int .i64 x.window, .int .i64 x.sk.count, .int .i64 x.sk.sum, .int .i64 x.sk.min, .int .i64 x.sk.max, .slice a1 n1 c1, .slice a2 n2 c2, .slice a3 n3 c3] 40) := HS5.out.below b6
    have HZ6 : Hid (Blk w6 (w.heap.size + 1) #[.int .i64 0, .int .i64 0, .slice none 0 0, .int .i64 0, .int .i64 0, .int .i64 0, .int .i64 0, .slice none 0 0, .slice none 0 0, .slice none 0 0] 30 ∧ Below w.heap.size w w6) := ⟨HZ5.out.1.below b6, Below.next HZ5.out.2 b6⟩
    have hl : Blk w6 w5.heap.size #[.int .i64 id, .int .i64 id] 68 := by rw [hw6]; exact Blk.made _ _ _
    have hlt : w.heap.size + 1 < w5.heap.size := HZ5.out.1.lt
    have nX : ∀ b ∈ X, b < w5.heap.size := HQ.out.1.lt
    obtain ⟨gg, hgg⟩ : ∃ n, n = w5.heap.size := ⟨_, rfl⟩
    rw [← hw6]
    rw [← hgg] at hl hlt nX ⊢
    have HG : Hid (RdSk w6 (.agg #[.int .i64 x.sk.count, .int .i64 x.sk.sum, .int .i64 x.sk.min, .int .i64 x.sk.max, .slice e1 r1 f1, .slice e2 r2 f2, .slice e3 r3 f3]) x.sk X ∧ Own (w.heap.size + 2) w6 X ∧ RdP w6 (some ⟨gg, 0, none⟩) 1 [(id, id)] [gg] ∧ Own (w.heap.size + 2) w6 [gg] ∧ (∀ b ∈ [gg], b ∉ X) ∧ w.heap.size + 1 < gg) := ⟨HQ.out.1.below b6, HQ.out.2.below HQ.out.1.lt b6, rdP_single hl, ⟨by simp, fun b hb o => by simp at hb; subst hb; exact hl.frozen o, fun b hb => by simp at hb; omega⟩, fun b hb hx => by simp at hb; have := nX b hx; omega, hlt⟩
    clear hK hw6 hgg b6 hl hlt nX HS5 HZ5 HQ
    refine takeH (o := ?o15) 10 (.agg #[.int .i64 x.key, .int .i64 x.window, .slice (some ⟨gg, 0, none⟩) 1 1, .int .i64 x.sk.count, .int .i64 x.sk.sum, .int .i64 x.sk.min, .int .i64 x.sk.max, .slice e1 r1 f1, .slice e2 r2 f2, .slice e3 r3 f3]) ?h15 ?r15
    case h15 => simp only [List.getElem?_toArray, List.getElem?_cons_succ, List.getElem?_cons_zero]; rfl
    refine ⟨_, by simp [Act.put]; rfl, by kernel_rfl, by kernel_rfl, by kernel_rfl, fun _ _ _ h => h, (.inl ⟨rfl, fun W _ => by go_simp⟩), HS6.out, ?_⟩
    refine onlyH (o := ?o16) 11 (by kernel_rfl) ?h16 ?r16
    case h16 => simp only [List.getElem?_toArray, List.getElem?_cons_succ, List.getElem?_cons_zero]; rfl
    intro K hK
    refine op_store 30 (w.heap.size + 1) #[.int .i64 0, .int .i64 0, .slice none 0 0, .int .i64 0, .int .i64 0, .int .i64 0, .int .i64 0, .slice none 0 0, .slice none 0 0, .slice none 0 0] #[.int .i64 x.key, .int .i64 x.window, .slice (some ⟨gg, 0, none⟩) 1 1, .int .i64 x.sk.count, .int .i64 x.sk.sum, .int .i64 x.sk.min, .int .i64 x.sk.max, .slice e1 r1 f1, .slice e2 r2 f2, .slice e3 r3 f3] 30 rfl rfl rfl rfl HZ6.out.1 (by kernel_rfl) rfl (by simp [Value.oneCell']) ⟨_, by simp [Act.put]; rfl, hK _ _ ⟨HS6.out.setRowOther (by omega), ?_⟩⟩
    clear hK
    refine takeH (o := ?o17) 12 (.bool true) ?h17 ?r17
    case h17 => simp only [List.getElem?_toArray, List.getElem?_cons_succ, List.getElem?_cons_zero]; rfl
    refine ⟨_, by simp [Act.put]; rfl, by kernel_rfl, by kernel_rfl, by kernel_rfl, fun _ _ _ h => h, (.inl ⟨rfl, fun W _ => by go_simp⟩), (HS6.out.setRowOther (by omega)), ?_⟩
    refine wpAnyH_done (by kernel_rfl) ?_ _
    have nf : w.heap.size + 1 ∉ [gg] := by have := HG.out.2.2.2.2.2; simp; omega
    have nx : w.heap.size + 1 ∉ X := fun hx => by have := HG.out.2.1.ge _ hx; omega
    obtain ⟨E, hE⟩ : ∃ E : Array Value, E = #[.int .i64 x.key, .int .i64 x.window, .slice (some ⟨gg, 0, none⟩) 1 1, .int .i64 x.sk.count, .int .i64 x.sk.sum, .int .i64 x.sk.min, .int .i64 x.sk.max, .slice e1 r1 f1, .slice e2 r2 f2, .slice e3 r3 f3] := ⟨_, rfl⟩
    rw [← hE]
    obtain ⟨w9, hw9⟩ : ∃ W, W = w6.setRow (w.heap.size + 1) E := ⟨_, rfl⟩
    have HF : Hid (Blk w9 (w.heap.size + 1) E 30 ∧ RdP w9 (some ⟨gg, 0, none⟩) 1 [(id, id)] [gg] ∧ RdSk w9 (.agg #[.int .i64 x.sk.count, .int .i64 x.sk.sum, .int .i64 x.sk.min, .int .i64 x.sk.max, .slice e1 r1 f1, .slice e2 r2 f2, .slice e3 r3 f3]) x.sk X ∧ Own w.heap.size w9 [gg] ∧ Own w.heap.size w9 X ∧ (∀ b ∈ [gg], b ∉ X) ∧ Below w.heap.size w w9) := by
      rw [hw9]
      exact ⟨HZ6.out.1.setRow, HG.out.2.2.1.agree (Agree.row nf E), HG.out.1.agree (Agree.row nx E), (HG.out.2.2.2.1.agree (Agree.row nf E)).mono (by omega), (HG.out.2.1.agree (Agree.row nx E)).mono (by omega), HG.out.2.2.2.2.1, below_setRow HZ6.out.2 (by omega) _⟩
    have HE : Hid (E = #[.int .i64 x.key, .int .i64 x.window, .slice (some ⟨gg, 0, none⟩) 1 1, .int .i64 x.sk.count, .int .i64 x.sk.sum, .int .i64 x.sk.min, .int .i64 x.sk.max, .slice e1 r1 f1, .slice e2 r2 f2, .slice e3 r3 f3] ∧ E.size = 10) := ⟨hE, by rw [hE]; rfl⟩
    rw [← hw9]
    clear hE hw9 HG nf nx
    go_wp2
    refine bodyPost_ret (results_row_tmp Try.results14 _ _ (w.heap.size + 1) _ _ (0, 0) _ rfl HF.out.1 Try.underlying30 rfl (by rw [HE.out.2]; exact infoEnA)) rfl ?_
    rw [It.entry_yes HV.out, HV.out, ← HID.out]
    exact ⟨_, [gg], X, rfl, ⟨some ⟨gg, 0, none⟩, 1, 1, e1, r1, f1, e2, r2, f2, e3, r3, f3, by rw [HE.out.1], HF.out.2.1, HF.out.2.2.1, fun e => (by cases e), Nat.le_refl _⟩, HF.out.2.2.2.1, HF.out.2.2.2.2.1, HF.out.2.2.2.2.2.1, HF.out.2.2.2.2.2.2⟩
end Go.Proofs.Ytbmbmnhamogghab
/- Items and entries that came in. No statement of the seat is proved here. -/
namespace Go.Proofs.Ytbmbmnhamogghab
open Go.RowKit Go.WideShapes Go.ChangeShapes Go.ChangeAt Go.Deep
end Go.Proofs.Ytbmbmnhamogghab
/- What the laws over items and entries share. No statement of the seat is proved here. -/
namespace Go.Proofs.Ytbmbmnhamogghab
open Go.RowKit Go.WideShapes Go.ChangeShapes Go.ChangeAt
theorem RdIt.cells {w : World} {v : Value} {x : It} {F : List Nat} (h : RdIt w v x F) : ∃ cs : Array Value, v = .agg cs ∧ cs.size = 11 ∧ cs.all (·.oneCell') = true := by
  obtain ⟨a1, n1, c1, a2, n2, c2, a3, n3, c3, rfl, _⟩ := h
  exact ⟨_, rfl, rfl, by simp [Value.oneCell']⟩
/-- An entry's value that can be read; F: its blocks. -/
def RdE (w : World) (v : Value) (x : En) (F : List Nat) : Prop := ∃ F1 F2, F = F1 ++ F2 ∧ RdEn w v x F1 F2
theorem RdE.agree {w w' : World} {v : Value} {x : En} {F : List Nat} (h : RdE w v x F) (ha : Agree w w' F) : RdE w' v x F := by
  obtain ⟨F1, F2, rfl, h⟩ := h
  exact ⟨F1, F2, rfl, h.agree (fun b hb => ha b (List.mem_append_left _ hb)) (fun b hb => ha b (List.mem_append_right _ hb))⟩
theorem RdE.lt {w : World} {v : Value} {x : En} {F : List Nat} (h : RdE w v x F) : ∀ b ∈ F, b < w.heap.size := by
  obtain ⟨F1, F2, rfl, h⟩ := h
  exact fun b hb => (List.mem_append.1 hb).elim (h.lt1 b) (h.lt2 b)
theorem RdE.below {w w' : World} {v : Value} {x : En} {F : List Nat} (h : RdE w v x F) (hb : Below w.heap.size w w') : RdE w' v x F := h.agree (.below hb h.lt)
theorem RdE.cells {w : World} {v : Value} {x : En} {F : List Nat} (h : RdE w v x F) : ∃ cs : Array Value, v = .agg cs ∧ cs.size = 10 ∧ cs.all (·.oneCell') = true := by
  obtain ⟨F1, F2, rfl, b, l, c, a1, n1, c1, a2, n2, c2, a3, n3, c3, rfl, _⟩ := h
  exact ⟨_, rfl, rfl, by simp [Value.oneCell']⟩
def It.vast (x : It) : Prop := x.sk.vast
def It.fits (x : It) : Prop := x.sk.fits
def It.wide (x : It) : Prop := x.sk.wide
theorem It.fits.wide {x : It} (h : x.fits) : x.wide := Sk.fits.wide h
def En.vast (x : En) : Prop := x.sk.vast ∧ x.ids.length ≤ 9223372036854775807
def En.fits (x : En) : Prop := x.sk.fits ∧ x.ids.length ≤ 1048576
def En.wide (x : En) : Prop := x.sk.wide ∧ x.ids.length ≤ 1048576
theorem En.fits.wide {x : En} (h : x.fits) : x.wide := ⟨h.1.wide, h.2⟩
theorem It.fits_of {x : It} {r left : Int} (h : r = left - x.sk.size) (h0 : 0 ≤ r) (hl : left ≤ 1048576) : x.fits := Sk.fits_of (by omega)
set_option maxRecDepth 200000 in
theorem En.fits_of {x : En} {r left : Int} (h : r = left - x.ids.length - x.sk.size ∧ (x.ids.length : Int) ≤ left ∧ x.sk.size ≤ left) (_h0 : 0 ≤ r) (hl : left ≤ 1048576) : x.fits := ⟨Sk.fits_of (by omega), by omega⟩
set_option maxRecDepth 200000 in
theorem entryOkE_any (v : Value) (x : En) (F : List Nat) (w : World) (h : RdE w v x F) (hw : x.wide) :
    Calls Try.prog 28 #[v] w fun e w' => e = .returned (.bool x.ok) ∧ Below w.heap.size w w' := by
  obtain ⟨F1, F2, rfl, h⟩ := h
  exact entryOkSpec_any v x F1 F2 w h hw.1 (by have := hw.2; omega)
end Go.Proofs.Ytbmbmnhamogghab
/- Two lists, two summaries held against each other, by the model and by the library. No statement of the seat is proved here. -/
namespace Go.Proofs.Ytbmbmnhamogghab
open Go.RowKit
set_option maxRecDepth 200000 in
set_option maxHeartbeats 1000000 in
theorem slEqual_any (a b : Option Addr) (la lb ca cb : Nat) (xs ys : List Int) (F G : List Nat) (w : World) (ha : RdI w a la xs F) (hb : RdI w b lb ys G) (hla : la ≤ 140737488355328) (hlb : lb ≤ 140737488355328) :
    Calls Try.prog 73 #[.slice a la ca, .slice b lb cb] w fun e w' => e = .returned (.bool (decide (xs = ys))) ∧ Below w.heap.size w w' := by
  have Hx : Hid (xs.length = la) := ha.length
  have Hy : Hid (ys.length = lb) := hb.length
  by_cases hl : la = lb
  · subst hl
    have hbne : ((la : Int) != (la : Int)) = false := by simp
    by_cases h0 : la = 0
    · subst h0
      have ex : xs = [] := List.eq_nil_of_length_eq_zero ha.length
      have ey : ys = [] := List.eq_nil_of_length_eq_zero hb.length
      clear ha hb
      go_enter Try.func73, Try.ntmps73
      go_wp2
      refine wp_loop_rounds 1 ?_
      rw [rounds_succ]
      go_wp2
      go_ret
      exact ⟨ret_bool (by rw [ex, ey]; rfl), Below.refl _ _⟩
    · obtain ⟨b1, o1, rfl, hc1⟩ : ∃ b off, a = some ⟨b, off, none⟩ ∧ ∀ i, i < la → w.cell? ⟨b, off + i, none⟩ = some (.int .i64 (xs.getD i 0)) := by
        rcases ha.cells with h | ⟨b, off, _, h1, _, h2⟩
        · exact absurd h.1 h0
        · exact ⟨b, off, h1, h2⟩
      obtain ⟨b2, o2, rfl, hc2⟩ : ∃ b' off, b = some ⟨b', off, none⟩ ∧ ∀ i, i < la → w.cell? ⟨b', off + i, none⟩ = some (.int .i64 (ys.getD i 0)) := by
        rcases hb.cells with h | ⟨b, off, _, h1, _, h2⟩
        · exact absurd h.1 h0
        · exact ⟨b, off, h1, h2⟩
      have hb1 : b1 < w.heap.size := World.block_lt_of_cell? _ _ (hc1 0 (by omega))
      have hb2 : b2 < w.heap.size := World.block_lt_of_cell? _ _ (hc2 0 (by omega))
      clear ha hb
      go_enter Try.func73, Try.ntmps73
      go_wp2
      go_loopw [13] (fun i wr => ∃ k : Nat, k ≤ la ∧ i = .int .i64 k ∧ Hid (xs.take k = ys.take k) ∧ Below w.heap.size w wr) (fun i _ => la - (intOf i).toNat)
      case atStart => exact ⟨0, by omega, rfl, rfl, Below.refl _ _⟩
      case round =>
        obtain ⟨k, hk, rfl, HT, hbel⟩ := hrel
        by_cases hlt : k < la
        · have d1 : wr.cell? ⟨b1, o1 + k, none⟩ = some (.int .i64 (xs.getD k 0)) := (hbel.cell (by exact hb1)).trans (hc1 k hlt)
          have d2 : wr.cell? ⟨b2, o2 + k, none⟩ = some (.int .i64 (ys.getD k 0)) := (hbel.cell (by exact hb2)).trans (hc2 k hlt)
          by_cases he : xs[k]?.getD 0 = ys[k]?.getD 0
          · have hne : (xs[k]?.getD 0 != ys[k]?.getD 0) = false := by simp [he]
            have HE : Hid (xs[k]?.getD 0 = ys[k]?.getD 0) := he
            clear he hc1 hc2
            go_wp2
            go_region
            all_goals (try go_wp2)
            all_goals
              go_roundw
              case rel => exact ⟨k + 1, by omega, by go_num, eqI_step (by rw [Hx.out, Hy.out]) (by rw [Hx.out]; exact hlt) HT.out HE.out, by repeat (first | exact hbel | apply Below.drew)⟩
              case measure => simp [intOf]; omega
          · have hne : (xs[k]?.getD 0 != ys[k]?.getD 0) = true := by simp [he]
            have HE : Hid (¬ xs[k]?.getD 0 = ys[k]?.getD 0) := he
            clear he hc1 hc2
            go_wp2
            go_region
            all_goals (try go_wp2)
            all_goals
              go_ret
              exact ⟨ret_bool (neI_of_at HE.out).symm, by repeat (first | exact hbel | apply Below.drew)⟩
        · obtain rfl : k = la := by omega
          go_wp2
          go_ret
          exact ⟨ret_bool (eqI_end Hx.out Hy.out HT.out).symm, hbel⟩
  · have hbne : ((la : Int) != (lb : Int)) = true := by simp; omega
    have e : decide (xs = ys) = false := by
      rw [decide_eq_false_iff_not]; intro e; subst e; exact hl (Hx.out.symm.trans Hy.out)
    clear ha hb
    go_enter Try.func73, Try.ntmps73
    go_wp2
    go_ret
    exact ⟨ret_bool e.symm, Below.refl _ _⟩
/-- The two boxes lie there, and nothing elder has changed. -/
structure Boxes (w : World) (A B : Array Value) (t : TypeId) (W : World) : Prop where
  fst : Blk W w.heap.size A t
  snd : Blk W (w.heap.size + 1) B t
  bel : Below w.heap.size w W
theorem Boxes.below {w W W' : World} {A B : Array Value} {t : TypeId} (h : Boxes w A B t W) (b : Below W.heap.size W W') : Boxes w A B t W' := ⟨h.fst.below b, h.snd.below b, Below.next h.bel b⟩
theorem Boxes.drew {w W : World} {A B : Array Value} {t : TypeId} (h : Boxes w A B t W) : Boxes w A B t W.drew := ⟨h.fst, h.snd, h.bel.drew⟩
end Go.Proofs.Ytbmbmnhamogghab
