/- Several texts of mine, laid together. No statement of the seat is proved here. -/
import Derived.Test.YthimjmkdcocofaaSkCopy
import Derived.Test.YthimjmkdcocofaaAppAny
import Derived.Test.YthimjmkdcocofaaTallyS
import Derived.Test.YthimjmkdcocofaaTallyMath
import Derived.Deep.AppendLies
import Derived.Test.YthimjmkdcocofaaSkOk
import Derived.Test.YthimjmkdcocofaaSkLaw
import Derived.Test.YthimjmkdcocofaaTuPv
import Derived.Deep.LoopGhost
import Derived.OrdersHeld
import Derived.Test.YthimjmkdcocofaaTuHelp
import Derived.Test.YthimjmkdcocofaaSkOpen
import Derived.Deep.Slices
/- The walk through the program's copying of a summary. No statement of the seat is proved here. -/
namespace Go.Proofs.Ythimjmkdcocofaa
open Go.RowKit
section
variable {w W W' : World} {A B : Array Value} {s : Sk} {a1 a2 : Option Addr} {n1 n2 : Nat} {F1 F2 : List Nat} {lo k : Nat} {v : Value} {vs : List Value} {G : List Nat}
end
theorem Sk.shaped_fits {s : Sk} (hs : s.shaped = true) : s.fits := by
  obtain ⟨s1, s2, x, y, s3, s4, s5⟩ := Sk.shaped_parts hs
  refine ⟨by omega, by omega, by rw [s3]; simp, fun z hz => ?_⟩
  rw [s3] at hz
  simp at hz
  rcases hz with rfl | rfl <;> omega
set_option maxRecDepth 200000 in
set_option maxHeartbeats 400000 in
theorem copiedList_all (a : Option Addr) (len cap : Nat) (zs : List Int) (F : List Nat) (w : World) (h : RdI w a len zs F) (hlen : len ≤ 1048576) :
    Calls Try.prog 45 #[.slice a len cap] w fun e w' => NewI w zs e w' := by
  obtain ⟨i0, hi, hz0, hz1, hz2⟩ := info_parts infoInt
  have HR : Hid (RdI w a len zs F) := h
  clear h
  go_enter Try.func45, Try.ntmps45
  go_wp2_with (with_reducible refine stopAppend rfl ?_)
  refine Stop.intro (wpList_step fun K hK => op_growsI _ _ 24 rfl rfl 3 i0 Try.underlying24 hi hz0 hz1 hz2 none rfl a len cap zs F rfl HR.out hlen ?_)
  intro a' c' F' w' r o b _
  have HN : Hid (RdI w' a' len zs F' ∧ Own w.heap.size w' F' ∧ Below w.heap.size w w') := ⟨r, o, b⟩
  refine ⟨_, by simp [Act.put]; rfl, hK _ _ ?_⟩
  clear hK r o b
  go_wp2
  go_ret
  exact ⟨a', len, c', F', rfl, HN.out.1, HN.out.2.1, HN.out.2.2⟩
end Go.Proofs.Ythimjmkdcocofaa
/- The walks through Mean, of the program and of the model. No statement of the seat is proved here. -/
namespace Go.Proofs.Ythimjmkdcocofaa
open Go.RowKit
theorem okHead_of {s : Sk} (h : s.ok = true) : (0 ≤ s.count ∧ s.count ≤ 1000000000) ∧ (0 ≤ s.sum ∧ s.sum ≤ 1000000000) ∧ (0 ≤ s.min ∧ s.min ≤ 1000000) ∧ (0 ≤ s.max ∧ s.max ≤ 1000000) := by
  unfold Sk.ok okHead at h
  simp only [Bool.and_eq_true, decide_eq_true_eq] at h
  exact ⟨h.1.1.1.1.1.1.1, h.1.1.1.1.1.1.2, h.1.1.1.1.1.2, h.1.1.1.1.2⟩
def meanN (s : Sk) : Int := if s.ok = true ∧ s.count ≠ 0 then s.sum / s.count else 0
theorem meanN_not {s : Sk} (h : s.ok = false) : meanN s = 0 := by unfold meanN; rw [if_neg (by rw [h]; simp)]
theorem meanN_zero {s : Sk} (h : s.count = 0) : meanN s = 0 := by unfold meanN; rw [if_neg (by simp [h])]
theorem meanN_pos {s : Sk} (h : s.ok = true) (h0 : ¬ s.count = 0) : meanN s = s.sum / s.count := by unfold meanN; rw [if_pos ⟨h, h0⟩]
end Go.Proofs.Ythimjmkdcocofaa
/- The walks through Different, of the program and of the model. No statement of the seat is proved here. -/
namespace Go.Proofs.Ythimjmkdcocofaa
open Go.RowKit
theorem run_index_int {P : Program} (w : World) (t e : TypeId) (zs : List Int) (m k : Nat) (hm : zs.length = m) (hk : k < m) (ht : P.underlying t = some (.array m e)) (he : P.underlying e = some (.int .i64)) (hs : ∀ w, (sizeOf e).run P w = .ok 1 w) :
    (Instr.index t (.agg (tc zs)) (.int .i64 k)).run P w = .ok (.int .i64 (zs[k]?.getD 0)) w := by
  have hagg : ∀ w, (isAgg e).run P w = .ok false w := fun w => by unfold isAgg; rw [Sem.run_bind, run_underlying he w]; simp
  have h3 : (0 : Int) ≤ k ∧ (k : Int) < m := by omega
  unfold Instr.index part
  simp [asIntOf, run_underlying ht, Sem.run_bind, h3, hs, hagg, tc]
  rw [List.getElem?_eq_getElem (by omega)]
  simp
  intro h; omega
def cntPos (l : List Int) : Int := ((l.filter (fun x => decide (0 < x))).length : Nat)
theorem cntPos_range (l : List Int) : 0 ≤ cntPos l ∧ cntPos l ≤ l.length := by
  unfold cntPos
  have := List.length_filter_le (fun x : Int => decide (0 < x)) l
  omega
theorem cntPos_yes {l : List Int} {k : Nat} (hk : k < l.length) (h : 0 < l[k]?.getD 0) : cntPos (l.take (k + 1)) = cntPos (l.take k) + 1 := by
  rw [take_succ' l k hk]
  unfold cntPos
  simp [h]
theorem cntPos_no {l : List Int} {k : Nat} (hk : k < l.length) (h : ¬ 0 < l[k]?.getD 0) : cntPos (l.take (k + 1)) = cntPos (l.take k) := by
  rw [take_succ' l k hk]
  unfold cntPos
  simp [h]
def diffN (s : Sk) : Int := if s.ok = true then cntPos s.regs else 0
theorem diffN_not {s : Sk} (h : s.ok = false) : diffN s = 0 := by unfold diffN; rw [h]; rfl
theorem diffN_ok {s : Sk} (h : s.ok = true) : diffN s = cntPos s.regs := by unfold diffN; rw [if_pos h]
theorem tl_regs {s : Sk} (h : s.ok = true) : (s.tl.drop 12).take 8 = s.regs ∧ s.regs.length = 8 := by
  obtain ⟨e1, e2, x, y, e3, e4, e5⟩ := Sk.shaped_parts (Sk.ok_shaped h)
  obtain ⟨h0, h1, h2, h3, h4, h5, h6, h7, eh⟩ := len8 e1
  obtain ⟨r0, r1, r2, r3, r4, r5, r6, r7, er⟩ := len8 e2
  unfold Sk.tl
  rw [eh, er]
  exact ⟨rfl, rfl⟩
theorem tl_hist {s : Sk} (h : s.ok = true) : (s.tl.drop 4).take 8 = s.hist ∧ s.hist.length = 8 := by
  obtain ⟨e1, e2, x, y, e3, e4, e5⟩ := Sk.shaped_parts (Sk.ok_shaped h)
  obtain ⟨h0, h1, h2, h3, h4, h5, h6, h7, eh⟩ := len8 e1
  unfold Sk.tl
  rw [eh]
  exact ⟨rfl, rfl⟩
set_option maxRecDepth 200000 in
set_option maxHeartbeats 1000000 in
theorem aboveZero_any (a : Option Addr) (len cap : Nat) (zs : List Int) (F : List Nat) (w : World) (h : RdI w a len zs F) (hlen : len ≤ 140737488355328) :
    Calls Try.prog 32 #[.slice a len cap] w fun e w' => e = .returned (.int .i64 (cntPos zs)) ∧ w' = w := by
  obtain ⟨n, hn⟩ : ∃ n, n = cntPos zs := ⟨_, rfl⟩
  rw [← hn]
  have HL : Hid (zs.length = len) := h.length
  have HN : Hid (n = cntPos zs) := hn
  clear hn
  rcases h.cells with ⟨h0, _⟩ | ⟨b, off, hp, rfl, _, hc⟩
  · subst h0
    have hz : zs = [] := List.eq_nil_of_length_eq_zero h.length
    subst hz
    clear h
    go_enter Try.func32, Try.ntmps32
    go_wp2
    refine wp_loop_rounds 1 ?_
    rw [rounds_succ]
    go_wp2
    go_ret
    exact ⟨ret_int (by rw [HN.out]; rfl), rfl⟩
  · have HC : Hid (∀ i, i < len → w.cell? ⟨b, off + i, none⟩ = some (.int .i64 (zs.getD i 0))) := hc
    clear h hc
    go_enter Try.func32, Try.ntmps32
    go_wp2
    go_loop [3, 8] (fun c i => ∃ (k : Nat) (m : Int), k ≤ len ∧ i = .int .i64 k ∧ c = .int .i64 m ∧ 0 ≤ m ∧ m ≤ 140737488355328 ∧ Hid (m = cntPos (zs.take k))) (fun _ i => len - (intOf i).toNat)
    case atStart => exact ⟨0, 0, by omega, rfl, rfl, by omega, by omega, show _ = _ by simp [cntPos]⟩
    case round =>
      obtain ⟨k, m, hk, rfl, rfl, m0, m8, HM⟩ := hrel
      by_cases hlt : k < len
      · have hck := HC.out k hlt
        obtain ⟨x, hx⟩ : ∃ x, x = zs[k]?.getD 0 := ⟨_, rfl⟩
        have hck2 : w.cell? ⟨b, off + k, none⟩ = some (.int .i64 x) := by rw [hx, hck]; simp
        have HX : Hid (x = zs[k]?.getD 0) := hx
        clear hck hx
        by_cases hpx : 0 < x
        · have hm7 : m + 1 ≤ 140737488355328 := by
            have e := cntPos_yes (l := zs) (by rw [HL.out]; exact hlt) (by rw [← HX.out]; exact hpx)
            have e2 := cntPos_range (zs.take (k + 1))
            rw [e, ← HM.out] at e2
            have : (zs.take (k + 1)).length ≤ len := by rw [List.length_take]; omega
            omega
          have HM2 : Hid (m + 1 = cntPos (zs.take (k + 1))) := by
            show _ = _
            rw [cntPos_yes (by rw [HL.out]; exact hlt) (by rw [← HX.out]; exact hpx), ← HM.out]
          go_wp2
          go_round
          case rel => exact ⟨k + 1, m + 1, by omega, by go_num, by go_num, by omega, by omega, HM2⟩
          case measure => simp [intOf]; omega
        · have HM2 : Hid (m = cntPos (zs.take (k + 1))) := by
            show _ = _
            rw [cntPos_no (by rw [HL.out]; exact hlt) (by rw [← HX.out]; exact hpx), ← HM.out]
          go_wp2
          go_round
          case rel => exact ⟨k + 1, m, by omega, by go_num, rfl, by omega, by omega, HM2⟩
          case measure => simp [intOf]; omega
      · obtain rfl : k = len := by omega
        have HV : Hid (m = n) := by
          show _ = _
          rw [HN.out, HM.out, List.take_of_length_le (by rw [HL.out]; omega)]
        go_wp2
        go_ret
        exact ⟨ret_int HV.out, rfl⟩
end Go.Proofs.Ythimjmkdcocofaa
/- The walks through the program's copiedTurn, areWeights, isQuantum and takes. No statement of the seat is proved here. -/
namespace Go.Proofs.Ythimjmkdcocofaa
open Go.RowKit
theorem set_same (zs : List Int) (k : Nat) (l : Int) (h : l = zs.getD k 0) : zs.set k l = zs := by
  subst h
  apply List.ext_getElem?
  intro i
  rw [List.getElem?_set]
  by_cases e : k = i
  · subst e
    by_cases hl : k < zs.length
    · simp [hl]
    · simp [hl]
  · simp [e]
set_option maxRecDepth 200000 in
set_option maxHeartbeats 2000000 in
theorem copiedTurn_any (v : Value) (x : Tu) (F : List Nat) (w : World) (h : RdTu w v x F) (hl : x.fits) :
    Calls Try.prog 28 #[v] w fun e w' => NewTu w x e w' := by
  obtain ⟨b, l, c, rfl, hP⟩ := h
  obtain ⟨fx, hfx⟩ : ∃ f, f = x.fresh := ⟨_, rfl⟩
  rw [← hfx]
  have HFX : Hid (fx = x.fresh) := hfx
  have HP : Hid (RdI w b l x.left F ∧ l ≤ 1048576) := ⟨hP, by rw [← hP.length]; exact hl⟩
  have HT : Hid (Two w #[.int .i64 x.who, .bool fx, .slice b l c] #[.int .i64 0, .bool false, .slice none 0 0] 26 ((w.alloc (.cells #[.int .i64 x.who, .bool fx, .slice b l c] 26)).alloc (.cells #[.int .i64 0, .bool false, .slice none 0 0] 26))) := Two.made w _ _ _
  clear hP hl hfx
  have c2' := HT.out.fst.cell 2
  simp only [aT, aS, aZ] at c2'
  go_enter Try.func28, Try.ntmps28
  go_wp2_with fail
  refine (copiedList_all b l c x.left F _ (HP.out.1.below HT.out.bel) HP.out.2).mono ?_
  rintro e w2 ⟨p, n, k, G, rfl, rp, op, bp⟩
  have hlt := HT.out.snd.lt
  have H2 : Hid (Two w #[.int .i64 x.who, .bool fx, .slice b l c] #[.int .i64 0, .bool false, .slice none 0 0] 26 w2 ∧ RdI w2 p n x.left G ∧ Own (w.heap.size + 2) w2 G) := ⟨HT.out.below bp, rp, op.mono (by simp)⟩
  clear rp op bp HT c2' hlt
  have c2' := H2.out.1.fst.cell 2
  have f2' := H2.out.1.fst.frozen 2
  simp only [aT, aS, aZ] at c2'
  go_wp2_with (first | go_skip | (with_reducible refine stopLoad 26 rfl ?_) | (with_reducible refine stopStore 26 rfl ?_))
  have n0 : w.heap.size ∉ G := fun hx => by have := H2.out.2.2.ge _ hx; omega
  have n1 : w.heap.size + 1 ∉ G := fun hx => by have := H2.out.2.2.ge _ hx; omega
  have ag : Agree w2 (w2.setCell ⟨w.heap.size, 2, none⟩ (.slice p n k)) G := .set n0 2 _
  have H3 : Hid (Blk (w2.setCell ⟨w.heap.size, 2, none⟩ (.slice p n k)) w.heap.size #[.int .i64 x.who, .bool fx, .slice p n k] 26 ∧ Blk (w2.setCell ⟨w.heap.size, 2, none⟩ (.slice p n k)) (w.heap.size + 1) #[.int .i64 0, .bool false, .slice none 0 0] 26 ∧ RdI (w2.setCell ⟨w.heap.size, 2, none⟩ (.slice p n k)) p n x.left G ∧ Own (w.heap.size + 2) (w2.setCell ⟨w.heap.size, 2, none⟩ (.slice p n k)) G ∧ Below w.heap.size w (w2.setCell ⟨w.heap.size, 2, none⟩ (.slice p n k)) ∧ w.heap.size + 1 ∉ G) :=
    ⟨H2.out.1.fst.set 2 _, H2.out.1.snd.setOther (by omega) 2 _, H2.out.2.1.agree ag, H2.out.2.2.agree ag, H2.out.1.bel.setCell (by show w.heap.size ≤ w.heap.size; omega) _, n1⟩
  obtain ⟨w3, hw3⟩ : ∃ W, W = w2.setCell ⟨w.heap.size, 2, none⟩ (.slice p n k) := ⟨_, rfl⟩
  rw [← hw3] at H3 ⊢
  clear hw3 c2' f2' H2 n0 n1 ag
  refine load_known 26 w.heap.size #[.int .i64 x.who, .bool fx, .slice p n k] 26 _ H3.out.1 rfl rfl rfl Try.underlying26 rfl infoTuI ?_
  go_wp2_with (first | go_skip | (with_reducible refine stopLoad 26 rfl ?_) | (with_reducible refine stopStore 26 rfl ?_))
  refine store_known 26 (w.heap.size + 1) _ #[.int .i64 x.who, .bool fx, .slice p n k] 26 H3.out.2.1 rfl rfl rfl rfl infoTuI rfl (by simp [Value.oneCell']) ?_
  go_wp2
  refine bodyPost_ret (results_cell_row Try.results28 _ _ (w.heap.size + 1) _ _ (0, 0) _ rfl H3.out.2.1.setRow Try.underlying26 rfl infoTuI) rfl ?_
  have ag := Agree.row (w := w3) H3.out.2.2.2.2.2 #[.int .i64 x.who, .bool fx, .slice p n k]
  exact ⟨_, G, rfl, ⟨p, n, k, by rw [HFX.out], H3.out.2.2.1.agree ag⟩, (H3.out.2.2.2.1.agree ag).mono (by omega), below_setRow H3.out.2.2.2.2.1 (by omega) _⟩
set_option maxRecDepth 200000 in
theorem isQuantum_any (n : Int) (w : World) : Calls Try.prog 31 #[.int .i64 n] w fun e w' => e = .returned (.bool (decide (1 ≤ n ∧ n ≤ 60))) ∧ w' = w := by
  have hd : ∀ d : Bool, d = decide (1 ≤ n ∧ n ≤ 60) → (d = true ↔ 1 ≤ n ∧ n ≤ 60) := by rintro d rfl; simp
  generalize decide (1 ≤ n ∧ n ≤ 60) = d at *
  have hd := hd d rfl
  by_cases h : 1 ≤ n
  · by_cases h2 : n ≤ 60
    · have e : Hid (d = true) := hd.2 ⟨h, h2⟩
      clear hd
      go_enter Try.func31, Try.ntmps31
      go_wp2
      go_ret
      rw [e.out]; exact ⟨rfl, rfl⟩
    · have e : Hid (d = false) := show d = false by cases d; rfl; exact absurd (hd.1 rfl).2 h2
      clear hd
      go_enter Try.func31, Try.ntmps31
      go_wp2
      go_ret
      rw [e.out]; exact ⟨rfl, rfl⟩
  · have e : Hid (d = false) := show d = false by cases d; rfl; exact absurd (hd.1 rfl).1 h
    clear hd
    go_enter Try.func31, Try.ntmps31
    go_wp2
    go_ret
    rw [e.out]; exact ⟨rfl, rfl⟩
theorem cntPos_three {a b c : Int} (ha : 0 ≤ a ∧ a ≤ 4) (hb : 0 ≤ b ∧ b ≤ 4) (hc : 0 ≤ c ∧ c ≤ 4) : decide (cntPos [a, b, c] = 3) = nums [a, b, c] 1 4 := by
  have e : nums [a, b, c] 1 4 = decide (0 < a ∧ 0 < b ∧ 0 < c) := by
    cases k : nums [a, b, c] 1 4
    · symm; rw [decide_eq_false_iff_not]; intro q
      have : nums [a, b, c] 1 4 = true := nums_iff.2 ⟨rfl, fun z hz => by simp at hz; rcases hz with rfl | rfl | rfl <;> omega⟩
      rw [this] at k; cases k
    · symm; rw [decide_eq_true_eq]
      have q := (nums_iff.1 k).2
      have q1 := q a (by simp); have q2 := q b (by simp); have q3 := q c (by simp)
      omega
  rw [e]
  unfold cntPos
  by_cases h1 : 0 < a <;> by_cases h2 : 0 < b <;> by_cases h3 : 0 < c <;> simp [h1, h2, h3]
theorem nums_weaker {zs : List Int} (h : nums zs 0 4 = false) : nums zs 1 4 = false := by
  cases k : nums zs 1 4
  · rfl
  · obtain ⟨h1, h2⟩ := nums_iff.1 k
    rw [nums_iff.2 ⟨h1, fun z hz => ⟨by have := h2 z hz; omega, (h2 z hz).2⟩⟩] at h
    cases h
set_option maxRecDepth 200000 in
set_option maxHeartbeats 1000000 in
theorem areWeights_any (a : Option Addr) (len cap : Nat) (zs : List Int) (F : List Nat) (w : World) (h : RdI w a len zs F) (hlen : len ≤ 140737488355328) :
    Calls Try.prog 30 #[.slice a len cap] w fun e w' => e = .returned (.bool (nums zs 1 4)) ∧ w' = w := by
  have HL : Hid (RdI w a len zs F) := h
  clear h
  go_enter Try.func30, Try.ntmps30
  go_wp2_with fail
  refine (isPerAgent_any _ _ _ zs F _ _ HL.out hlen).mono ?_
  rintro e w1 ⟨rfl, hw1⟩
  have hw1' := hw1.symm
  subst hw1'
  clear hw1
  obtain ⟨d, hd⟩ : ∃ d, d = nums zs 0 4 := ⟨_, rfl⟩
  rw [← hd]
  cases d
  · have HN : Hid (nums zs 1 4 = false) := nums_weaker hd.symm
    clear hd
    go_wp2
    go_ret
    exact ⟨ret_bool HN.out.symm, rfl⟩
  · obtain ⟨x, y, z, rfl, hx, hy, hz⟩ := nums_three hd.symm
    have HN : Hid (decide (cntPos [x, y, z] = 3) = nums [x, y, z] 1 4) := cntPos_three hx hy hz
    clear hd
    go_wp2_with fail
    refine (aboveZero_any _ _ _ [x, y, z] F _ HL.out hlen).mono ?_
    rintro e w2 ⟨rfl, hw2⟩
    have hw2' := hw2.symm
    subst hw2'
    clear hw2
    obtain ⟨n, hn⟩ : ∃ n, n = cntPos [x, y, z] := ⟨_, rfl⟩
    rw [← hn]
    have HM : Hid (decide (n = 3) = nums [x, y, z] 1 4) := by rw [hn]; exact HN.out
    clear hn HN
    by_cases h3 : (n : Int) = 3
    · have h3' : ((n : Int) == 3) = true := by simpa using h3
      have HV : Hid (nums [x, y, z] 1 4 = true) := by have := HM.out; rw [← this]; show decide _ = true; simp; omega
      clear h3
      go_wp2
      go_ret
      exact ⟨ret_bool HV.out.symm, rfl⟩
    · have h3' : ((n : Int) == 3) = false := by simpa using h3
      have HV : Hid (nums [x, y, z] 1 4 = false) := by have := HM.out; rw [← this]; show decide _ = false; simp; omega
      clear h3
      go_wp2
      go_ret
      exact ⟨ret_bool HV.out.symm, rfl⟩
set_option maxRecDepth 200000 in
set_option maxHeartbeats 4000000 in
theorem takes_any (lo X L off cap k : Nat) (fx : Bool) (zs : List Int) (s sh : Int) (W : World) (h : PV W lo X L off cap ⟨k, fx, zs⟩) (hk : k < 3) (hl : 0 ≤ zs.getD k 0 ∧ zs.getD k 0 ≤ 1000) (hs : 0 ≤ s ∧ s ≤ 200) (hsh : 1 ≤ sh ∧ sh ≤ 240) :
    Calls Try.prog 33 #[.pointer (some ⟨X, 0, none⟩), .int .i64 s, .int .i64 sh] W fun e w' => e = .returned (.bool (Tu.step ⟨k, fx, zs⟩ s sh).2) ∧ PV w' lo X L off cap (Tu.step ⟨k, fx, zs⟩ s sh).1 ∧ Below lo W w' := by
  have HPV : Hid (PV W lo X L off cap ⟨k, fx, zs⟩) := h
  obtain ⟨l, hl'⟩ : ∃ l, l = zs.getD k 0 := ⟨_, rfl⟩
  rw [← hl'] at hl
  have HL : Hid (l = zs.getD k 0) := hl'
  have hI : (k : Int) < 3 := by omega
  clear h hl'
  go_enter Try.func33, Try.ntmps33
  go_wp2_with fail
  refine wp_region_held (S := fun W => Blk W X #[.int .i64 (k : Int), .bool fx, .slice (some ⟨L, off, none⟩) 3 cap] 26) (by kernel_rfl) ?_
  change wpAnyH _ _ _ _ _ _ _ _ (World.drew _)
  have BD := (Below.refl W.heap.size W).drew
  obtain ⟨Y0, hY0⟩ : ∃ Y, Y = W.drew := ⟨_, rfl⟩
  have HW : Hid (Below lo W Y0) := by rw [hY0]; exact (Below.refl _ _).drew
  rw [← hY0] at BD ⊢
  have HPV : Hid (PV Y0 lo X L off cap ⟨k, fx, zs⟩) := HPV.out.below BD
  have HS : Hid (Blk Y0 X #[.int .i64 (k : Int), .bool fx, .slice (some ⟨L, off, none⟩) 3 cap] 26) := HPV.out.blk
  clear hY0 BD
  refine takeH (o := ?o11) 0 (.pointer (some ⟨X, 0, none⟩)) ?h11 ?r11
  case h11 => simp only [aT, aZ]; rfl
  refine ⟨_, by simp [Act.put]; rfl, by kernel_rfl, by kernel_rfl, by kernel_rfl, fun _ _ _ h => h, (.inl ⟨rfl, fun W _ => by kernel_rfl⟩), HS.out, ?_⟩
  refine takeH (o := ?o12) 1 (.pointer (some ⟨X, 0, none⟩)) ?h12 ?r12
  case h12 => simp only [aT, aS, aZ]; rfl
  refine ⟨_, by simp [Act.put]; rfl, by kernel_rfl, by kernel_rfl, by kernel_rfl, fun _ _ _ h => h, (.inl ⟨rfl, fun W _ => by go_simp⟩), HS.out, ?_⟩
  refine takeH (o := ?o13) 2 (.pointer (some ⟨X, 2, none⟩)) ?h13 ?r13
  case h13 => simp only [aT, aS, aZ]; rfl
  refine ⟨_, by simp [Act.put]; rfl, by kernel_rfl, by kernel_rfl, by kernel_rfl, fun _ _ _ h => h, (.inl ⟨rfl, fun W _ => by go_simp⟩), HS.out, ?_⟩
  refine takeH (o := ?o14) 3 (.slice (some ⟨L, off, none⟩) 3 cap) ?h14 ?r14
  case h14 => simp only [aT, aS, aZ]; rfl
  refine ⟨_, by simp [Act.put]; rfl, by kernel_rfl, by kernel_rfl, by kernel_rfl, fun _ _ _ h => h, (.inl ⟨rfl, fun W hW => by have c := hW.cell 2; simp only [aT, aS, aZ] at c; go_simp⟩), HS.out, ?_⟩
  refine takeH (o := ?o15) 4 (.pointer (some ⟨X, 0, none⟩)) ?h15 ?r15
  case h15 => simp only [aT, aS, aZ]; rfl
  refine ⟨_, by simp [Act.put]; rfl, by kernel_rfl, by kernel_rfl, by kernel_rfl, fun _ _ _ h => h, (.inl ⟨rfl, fun W _ => by kernel_rfl⟩), HS.out, ?_⟩
  refine takeH (o := ?o16) 5 (.pointer (some ⟨X, 0, none⟩)) ?h16 ?r16
  case h16 => simp only [aT, aS, aZ]; rfl
  refine ⟨_, by simp [Act.put]; rfl, by kernel_rfl, by kernel_rfl, by kernel_rfl, fun _ _ _ h => h, (.inl ⟨rfl, fun W _ => by go_simp⟩), HS.out, ?_⟩
  refine takeH (o := ?o17) 6 (.pointer (some ⟨X, 0, none⟩)) ?h17 ?r17
  case h17 => simp only [aT, aS, aZ]; rfl
  refine ⟨_, by simp [Act.put]; rfl, by kernel_rfl, by kernel_rfl, by kernel_rfl, fun _ _ _ h => h, (.inl ⟨rfl, fun W _ => by go_simp⟩), HS.out, ?_⟩
  refine takeH (o := ?o18) 7 (.int .i64 (k : Int)) ?h18 ?r18
  case h18 => simp only [aT, aS, aZ]; rfl
  refine ⟨_, by simp [Act.put]; rfl, by kernel_rfl, by kernel_rfl, by kernel_rfl, fun _ _ _ h => h, (.inl ⟨rfl, fun W hW => by have c := hW.cell 0; simp only [aT, aZ] at c; go_simp⟩), HS.out, ?_⟩
  refine takeH (o := ?o19) 8 (.pointer (some ⟨L, off + k, none⟩)) ?h19 ?r19
  case h19 => simp only [aT, aS, aZ]; rfl
  refine ⟨_, by simp [Act.put]; rfl, by kernel_rfl, by kernel_rfl, by kernel_rfl, fun _ _ _ h => h, (.inl ⟨rfl, fun W _ => by go_simp; first | done | (intro h; omega) | (rw [if_pos (by omega)]; rfl)⟩), HS.out, ?_⟩
  refine takeH (o := ?o20) 9 (.pointer (some ⟨L, off + k, none⟩)) ?h20 ?r20
  case h20 => simp only [aT, aS, aZ]; rfl
  refine ⟨_, by simp [Act.put]; rfl, by kernel_rfl, by kernel_rfl, by kernel_rfl, fun _ _ _ h => h, (.inl ⟨rfl, fun W _ => by kernel_rfl⟩), HS.out, ?_⟩
  refine wpAnyH_done (by kernel_rfl) ?_ _
  have ca : Y0.cell? ⟨L, off + k, none⟩ = some (.int .i64 l) := by rw [HL.out]; exact HPV.out.cellAt k hk
  have cf := HPV.out.frozenAt k
  by_cases h0 : s = 0
  · have h0' : (s == 0) = true := by simpa using h0
    have HE : Hid (Tu.step ⟨k, fx, zs⟩ s sh = (⟨k, fx, zs.set k 0⟩, false)) := by show _ = _; unfold Tu.step; rw [if_pos h0]; simp
    clear h0
    go_wp2
    go_ret
    exact ⟨ret_bool (by rw [HE.out]), by rw [HE.out]; exact HPV.out.el k hk 0, HW.out.setCell HPV.out.ge2 _⟩
  have h0' : (s == 0) = false := by simpa using h0
  have c1 := HPV.out.blk.cell 1
  have f1 := HPV.out.blk.frozen 1
  simp only [aT, aS, aZ] at c1
  have H0 : Hid (¬ s = 0) := h0
  clear h0
  cases fx
  · by_cases hle : l < s
    · have HE : Hid (Tu.step ⟨k, false, zs⟩ s sh = (⟨k, false, zs⟩, false)) := by
        show _ = _; unfold Tu.step; rw [if_neg H0.out]
        simp only [Int.toNat_natCast, Bool.false_eq_true, if_false]
        rw [← HL.out, if_neg (by omega), set_same zs k l HL.out]
      go_wp2
      go_ret
      exact ⟨ret_bool (by rw [HE.out]), by rw [HE.out]; exact HPV.out, HW.out⟩
    · have HE : Hid (Tu.step ⟨k, false, zs⟩ s sh = (⟨k, false, zs.set k (l - s)⟩, true)) := by
        show _ = _; unfold Tu.step; rw [if_neg H0.out]
        simp only [Int.toNat_natCast, Bool.false_eq_true, if_false]
        rw [← HL.out, if_pos (by omega)]
      go_wp2
      go_ret
      exact ⟨ret_bool (by rw [HE.out]), by rw [HE.out]; exact HPV.out.el k hk _, HW.out.setCell HPV.out.ge2 _⟩
  · obtain ⟨m, hm⟩ : ∃ m, m = min (l + sh) 1000 := ⟨_, rfl⟩
    have HM : Hid (m = min (l + sh) 1000) := hm
    have hmr0 := hm
    clear hm
    have hmr : 0 ≤ m ∧ m ≤ 1000 := by omega
    clear hmr0
    have key : ∀ W2, W2 = (Y0.setCell ⟨L, off + k, none⟩ (.int .i64 m)).setCell ⟨X, 1, none⟩ (.bool false) → PV W2 lo X L off cap ⟨k, false, zs.set k m⟩ ∧ Below lo W W2 := by
      rintro _ rfl
      exact ⟨(HPV.out.el k hk m).fr false, (HW.out.setCell HPV.out.ge2 _).setCell HPV.out.ge _⟩
    have KEY : Hid (∀ W2, W2 = (Y0.setCell ⟨L, off + k, none⟩ (.int .i64 m)).setCell ⟨X, 1, none⟩ (.bool false) → PV W2 lo X L off cap ⟨k, false, zs.set k m⟩ ∧ Below lo W W2) := key
    have HE : Hid (Tu.step ⟨k, true, zs⟩ s sh = if s ≤ m then (⟨k, false, zs.set k (m - s)⟩, true) else (⟨k, false, zs.set k m⟩, false)) := by
      show _ = _; unfold Tu.step; rw [if_neg H0.out]
      simp only [Int.toNat_natCast, if_true]
      rw [← HL.out, ← HM.out]
    have hg : (zs.set k m).getD k 0 = m := by
      have hlen : k < zs.length := by have := HPV.out.rd.length; simp only at this; omega
      simp [hlen]
    have HG : Hid ((zs.set k m).getD k 0 = m) := hg
    clear key hg
    by_cases hc : l + sh ≤ 1000
    · have em : m = l + sh := by have := HM.out; omega
      subst em
      have e1 := HPV.out.el k hk (l + sh)
      have c1b := e1.blk.cell 1
      have f1b := e1.blk.frozen 1
      simp only [aT, aS, aZ] at c1b
      clear e1
      go_upto_region 8 with fail
      obtain ⟨W2, hW2⟩ : ∃ W2, W2 = (Y0.setCell ⟨L, off + k, none⟩ (.int .i64 (l + sh))).setCell ⟨X, 1, none⟩ (.bool false) := ⟨_, rfl⟩
      have K2 := KEY.out W2 hW2
      have H2 : Hid (PV W2 lo X L off cap ⟨k, false, zs.set k (l + sh)⟩ ∧ Below lo W W2) := K2
      rw [← hW2]
      have ca2 : W2.cell? ⟨L, off + k, none⟩ = some (.int .i64 (l + sh)) := by rw [H2.out.1.cellAt k hk]; show some (Value.int .i64 ((zs.set k (l + sh)).getD k 0)) = _; rw [HG.out]
      have cf2 := H2.out.1.frozenAt k
      clear ca cf c1 f1 c1b f1b hW2 K2
      by_cases hle : (l + sh) < s
      · have HV : Hid (Tu.step ⟨k, true, zs⟩ s sh = (⟨k, false, zs.set k (l + sh)⟩, false)) := by show _ = _; rw [HE.out, if_neg (by omega)]
        go_wp2
        go_ret
        exact ⟨ret_bool (by rw [HV.out]), by rw [HV.out]; exact H2.out.1, H2.out.2⟩
      · have HV : Hid (Tu.step ⟨k, true, zs⟩ s sh = (⟨k, false, zs.set k (l + sh - s)⟩, true)) := by show _ = _; rw [HE.out, if_pos (by omega)]
        go_wp2
        go_ret
        refine ⟨ret_bool (by rw [HV.out]), ?_, H2.out.2.setCell H2.out.1.ge2 _⟩
        rw [HV.out]
        have e := H2.out.1.el k hk (l + sh - s)
        simp only [List.set_set] at e
        exact e
    · have em : m = 1000 := by have := HM.out; omega
      subst em
      have e1 := HPV.out.el k hk 1000
      have c1b := e1.blk.cell 1
      have f1b := e1.blk.frozen 1
      simp only [aT, aS, aZ] at c1b
      clear e1
      go_upto_region 8 with fail
      obtain ⟨W2, hW2⟩ : ∃ W2, W2 = (Y0.setCell ⟨L, off + k, none⟩ (.int .i64 (1000))).setCell ⟨X, 1, none⟩ (.bool false) := ⟨_, rfl⟩
      have K2 := KEY.out W2 hW2
      have H2 : Hid (PV W2 lo X L off cap ⟨k, false, zs.set k (1000)⟩ ∧ Below lo W W2) := K2
      rw [← hW2]
      have ca2 : W2.cell? ⟨L, off + k, none⟩ = some (.int .i64 (1000)) := by rw [H2.out.1.cellAt k hk]; show some (Value.int .i64 ((zs.set k (1000)).getD k 0)) = _; rw [HG.out]
      have cf2 := H2.out.1.frozenAt k
      clear ca cf c1 f1 c1b f1b hW2 K2
      by_cases hle : (1000) < s
      · have HV : Hid (Tu.step ⟨k, true, zs⟩ s sh = (⟨k, false, zs.set k (1000)⟩, false)) := by show _ = _; rw [HE.out, if_neg (by omega)]
        go_wp2
        go_ret
        exact ⟨ret_bool (by rw [HV.out]), by rw [HV.out]; exact H2.out.1, H2.out.2⟩
      · have HV : Hid (Tu.step ⟨k, true, zs⟩ s sh = (⟨k, false, zs.set k (1000 - s)⟩, true)) := by show _ = _; rw [HE.out, if_pos (by omega)]
        go_wp2
        go_ret
        refine ⟨ret_bool (by rw [HV.out]), ?_, H2.out.2.setCell H2.out.1.ge2 _⟩
        rw [HV.out]
        have e := H2.out.1.el k hk (1000 - s)
        simp only [List.set_set] at e
        exact e
end Go.Proofs.Ythimjmkdcocofaa
/- Picking: what the model and the program share. No statement of the seat is proved here. -/
namespace Go.Proofs.Ythimjmkdcocofaa
open Go.RowKit
theorem results_tmp_rowT {P : Program} {fn : Func} {p u : Tmp} {ty : TypeId} (h : fn.results = #[.tmp u, .cell p ty]) (tmps : Array Value) (w : World) (g : Nat) (t : TypeId) (cs : Array Value) (fr : Nat × Nat) (d : TypeDesc)
    (hp : tmps.getD p undef = .pointer (some ⟨g, 0, none⟩)) (hg : w.heap[g]? = some (.cells cs t fr))
    (hu : P.underlying ty = some d) (hd : (match d with | .struct _ | .array _ _ => true | _ => false) = true) (hi : (P.info? ty).map (·.size) = some cs.size) :
    (results fn tmps).run P w = .ok (.tuple #[tmps.getD u undef, .agg cs]) w := by
  have e : (results fn tmps).run P w = ((asAddr (tmps.getD p undef)).run P w).andThen fun a w₁ => ((loadVar ty a).run P w₁).andThen fun v w₂ => .ok (.tuple #[tmps.getD u undef, v]) w₂ := by
    simp only [results, h]
    simp [Sem.run_bind, Result.andThen]
  rw [e, hp]
  simp [asAddr, run_loadVar_row w g t ty cs fr d hg hu hd hi, Result.andThen]
section
variable {P : Program} {ops : Array Oper} {Q : Exit → Act → World → Prop} {a : Act} {w : World} {o : Oper} {K : Act → World → Prop}
theorem op_callT3 (f : FuncId) (x y p : Operand) (ts : Array TypeId) (fn : Func) (R : Value → World → Prop) (hw : Region.wanted o (yielded ops a.tmps) = true) (ho : o.op = Op.call { callee := Callee.value (Operand.func f), args := #[x, y, p], argTypes := ts })
    (hfn : P.funcs[f]? = some fn) (hnm : (fn.name == "runtime.NumGoroutine") = false) (hbd : fn.body.isNone = false) (hc : Calls P f #[a.eval x, a.eval y, a.eval p] w fun e w' => ∃ v, e = .returned v ∧ R v w') (h : ∀ v w', R v w' → ∃ a', a.put o.dst v = a' ∧ K a' w') : if Region.wanted o (yielded ops a.tmps) = true then Oper.wp P o a w K Q else K (a.put o.dst undef) w := by
  rw [if_pos hw]
  have hnm' : ¬ fn.name = "runtime.NumGoroutine" := by simpa using hnm
  have hbd' : ¬ fn.body = none := by intro e; rw [e] at hbd; cases hbd
  unfold Oper.wp
  simp only [execOp, ho, resolve, invoke, Oper.upon, go_sem]
  simp [callFunc, hfn, hnm', hbd', go_sem]
  simp [Act.eval, go_sem] at hc
  refine Calls.mono hc ?_
  rintro e w1 ⟨v, rfl, hR⟩
  obtain ⟨_, rfl, hk⟩ := h v w1 hR
  exact hk
end
section
variable {P : Program} {ops : Array Oper} {Q : Exit → Act → World → Prop} {a : Act} {w : World} {o : Oper} {K : Act → World → Prop}
theorem op_callT4 (f : FuncId) (x y z u : Operand) (ts : Array TypeId) (fn : Func) (R : Value → World → Prop) (hw : Region.wanted o (yielded ops a.tmps) = true) (ho : o.op = Op.call { callee := Callee.value (Operand.func f), args := #[x, y, z, u], argTypes := ts })
    (hfn : P.funcs[f]? = some fn) (hnm : (fn.name == "runtime.NumGoroutine") = false) (hbd : fn.body.isNone = false) (hc : Calls P f #[a.eval x, a.eval y, a.eval z, a.eval u] w fun e w' => ∃ v, e = .returned v ∧ R v w') (h : ∀ v w', R v w' → ∃ a', a.put o.dst v = a' ∧ K a' w') : if Region.wanted o (yielded ops a.tmps) = true then Oper.wp P o a w K Q else K (a.put o.dst undef) w := by
  rw [if_pos hw]
  have hnm' : ¬ fn.name = "runtime.NumGoroutine" := by simpa using hnm
  have hbd' : ¬ fn.body = none := by intro e; rw [e] at hbd; cases hbd
  unfold Oper.wp
  simp only [execOp, ho, resolve, invoke, Oper.upon, go_sem]
  simp [callFunc, hfn, hnm', hbd', go_sem]
  simp [Act.eval, go_sem] at hc
  refine Calls.mono hc ?_
  rintro e w' ⟨v, rfl, hr⟩
  obtain ⟨a', ha', hk⟩ := h v w' hr
  rw [← ha'] at hk
  exact hk
theorem op_loadS (ty : TypeId) (g : Nat) (cells : Array Value) (t : TypeId) (d : TypeDesc) {x : Operand} (hg : Blk w g cells t) (hw : Region.wanted o (yielded ops a.tmps) = true) (ho : o.op = .load ty x) (hx : a.eval x = .pointer (some ⟨g, 0, none⟩))
    (hu : P.underlying ty = some d) (hd : (match d with | .struct _ | .array _ _ => true | _ => false) = true) (hi : (P.info? ty).map (·.size) = some cells.size)
    (h : ∃ a', a.put o.dst (.agg cells) = a' ∧ K a' w) : if Region.wanted o (yielded ops a.tmps) = true then Oper.wp P o a w K Q else K (a.put o.dst undef) w := by
  obtain ⟨_, rfl, h⟩ := h
  rw [if_pos hw]
  exact wp_load_row ty x ho g hx t cells (0, 0) d hg hu hd hi h
end
/-- A number and a new turn. -/
def NewPick (w : World) (r : Int × Tu) (e : Ending) (w' : World) : Prop := ∃ v F, e = .returned (.tuple #[.int .i64 r.1, v]) ∧ RdTu w' v r.2 F ∧ Own w.heap.size w' F ∧ Below w.heap.size w w'
theorem pick_bad {ss ws : List Int} {q : Int} {x : Tu} (h : picks ss ws q x = false) : pick ss ws q x = (-1, x) := by unfold pick; rw [if_neg (by rw [h]; decide)]
theorem pick_zero {ss ws : List Int} {q : Int} {x : Tu} (h : picks ss ws q x = true) (k : nums ss 0 0 = true) : pick ss ws q x = (-1, Tu.new) := by unfold pick; rw [if_pos h, if_pos k]
theorem pick_some {ss ws : List Int} {q : Int} {x : Tu} (h : picks ss ws q x = true) (k : nums ss 0 0 = false) : pick ss ws q x = ((pickN ss ws q 20000 x).who, pickN ss ws q 20000 x) := by unfold pick; rw [if_pos h, if_neg (by rw [k]; decide)]
theorem pick_case (ss ws : List Int) (q : Int) (x : Tu) : picks ss ws q x = false ∨ (picks ss ws q x = true ∧ nums ss 0 0 = true) ∨ (picks ss ws q x = true ∧ nums ss 0 0 = false) := by
  cases picks ss ws q x <;> cases nums ss 0 0 <;> simp
theorem picks_all {ss ws : List Int} {q : Int} {x : Tu} (h : picks ss ws q x = true) : nums ss 0 200 = true ∧ nums ws 1 4 = true ∧ decide (1 ≤ q ∧ q ≤ 60) = true ∧ x.ok = true := by
  unfold picks at h; simp only [Bool.and_eq_true] at h; exact ⟨h.1.1.1, h.1.1.2, h.1.2, h.2⟩
theorem cntPos_zero {ss : List Int} (h : nums ss 0 200 = true) : (cntPos ss == 0) = nums ss 0 0 := by
  obtain ⟨a, b, c, rfl, ha, hb, hc⟩ := nums_three h
  have e : nums [a, b, c] 0 0 = decide (¬ 0 < a ∧ ¬ 0 < b ∧ ¬ 0 < c) := by
    cases k : nums [a, b, c] 0 0
    · symm; rw [decide_eq_false_iff_not]; intro q
      have : nums [a, b, c] 0 0 = true := nums_iff.2 ⟨rfl, fun z hz => by simp at hz; rcases hz with rfl | rfl | rfl <;> omega⟩
      rw [this] at k; cases k
    · symm; rw [decide_eq_true_eq]
      have q := (nums_iff.1 k).2
      have q1 := q a (by simp); have q2 := q b (by simp); have q3 := q c (by simp)
      omega
  rw [e]
  unfold cntPos
  by_cases h1 : 0 < a <;> by_cases h2 : 0 < b <;> by_cases h3 : 0 < c <;> simp [h1, h2, h3]
theorem step_who (x : Tu) (s sh : Int) : (x.step s sh).1.who = x.who := by
  unfold Tu.step
  by_cases h : s = 0
  · rw [if_pos h]
  · rw [if_neg h]
    cases x.fresh <;> (simp only [Bool.false_eq_true, if_false, if_true]; split <;> rfl)
/-- Ahead of the tests: the box, the result's place, the copy. -/
structure PkH (w : World) (cs c1 : Array Value) (x : Tu) (X : Nat) (G : List Nat) (W : World) : Prop where
  two : Two w cs #[.int .i64 0, .bool false, .slice none 0 0] 26 W
  blk : Blk W X c1 26
  rd : RdTu W (.agg c1) x G
  own : Own w.heap.size W G
  ge : w.heap.size + 2 ≤ X
  gg : ∀ b ∈ G, w.heap.size + 2 ≤ b
  ne : X ∉ G
theorem PkH.below {w : World} {cs c1 : Array Value} {x : Tu} {X : Nat} {G : List Nat} {W W' : World} (h : PkH w cs c1 x X G W) (b : Below W.heap.size W W') : PkH w cs c1 x X G W' := ⟨h.two.below b, h.blk.below b, h.rd.below b, h.own.below h.rd.lt b, h.ge, h.gg, h.ne⟩
end Go.Proofs.Ythimjmkdcocofaa
/- The walk through the program's Pick. No statement of the seat is proved here. -/
namespace Go.Proofs.Ythimjmkdcocofaa
open Go.RowKit
set_option maxRecDepth 200000 in
set_option maxHeartbeats 8000000 in
theorem pick_impl_bad (a1 a2 : Option Addr) (n1 k1 n2 k2 : Nat) (ss ws : List Int) (F1 F2 : List Nat) (q : Int) (v : Value) (x : Tu) (F : List Nat) (w : World) (h1 : RdI w a1 n1 ss F1) (h2 : RdI w a2 n2 ws F2) (h3 : RdTu w v x F) (hl1 : n1 ≤ 1048576) (hl2 : n2 ≤ 1048576) (hx : x.fits) (hbad : picks ss ws q x = false) :
    Calls Try.prog 9 #[.slice a1 n1 k1, .slice a2 n2 k2, .int .i64 q, v] w fun e w' => NewPick w (pick ss ws q x) e w' := by
  have HS1 : Hid (RdI w a1 n1 ss F1 ∧ n1 ≤ 140737488355328) := ⟨h1, by omega⟩
  have HS2 : Hid (RdI w a2 n2 ws F2 ∧ n2 ≤ 140737488355328) := ⟨h2, by omega⟩
  obtain ⟨cs, rfl, hz, _⟩ := h3.cells
  have HT : Hid (RdTu w (.agg cs) x F ∧ x.fits ∧ cs.size = 3) := ⟨h3, hx, hz⟩
  have HB : Hid (Two w cs #[.int .i64 0, .bool false, .slice none 0 0] 26 ((w.alloc (.cells cs 26)).alloc (.cells #[.int .i64 0, .bool false, .slice none 0 0] 26))) := Two.made w _ _ _
  have HV : Hid (pick ss ws q x = (-1, x) ∧ (nums ss 0 200 && nums ws 1 4 && decide (1 ≤ q ∧ q ≤ 60) && x.ok) = false) := ⟨pick_bad hbad, hbad⟩
  clear hbad
  clear h1 h2 h3 hx hz hl1 hl2
  go_enter Try.func9, Try.ntmps9
  go_wp2_with (first | go_skip | (with_reducible refine stopLoad 26 rfl ?_) | (with_reducible refine stopStore 26 rfl ?_))
  refine load_known 26 w.heap.size cs 26 _ HB.out.fst rfl rfl rfl Try.underlying26 rfl (tuSize HT.out.2.2) ?_
  go_wp2_with fail
  refine (copiedTurn_any _ x F _ (HT.out.1.below HB.out.bel) HT.out.2.1).mono ?_
  rintro e w1 ⟨v1, G, rfl, r1, o1, b1⟩
  obtain ⟨c1, rfl, z1, n1'⟩ := r1.cells
  have H1 : Hid (Two w cs #[.int .i64 0, .bool false, .slice none 0 0] 26 w1 ∧ RdTu w1 (.agg c1) x G ∧ (∀ b ∈ G, w.heap.size + 2 ≤ b) ∧ Own w.heap.size w1 G ∧ w.heap.size + 2 ≤ w1.heap.size) := ⟨HB.out.below b1, r1, fun b hb => Nat.le_trans HB.out.snd.lt (o1.ge b hb), o1.mono HB.out.bel.size, Nat.le_trans HB.out.snd.lt b1.size⟩
  have HC : Hid (c1.size = 3 ∧ c1.all (·.oneCell') = true) := ⟨z1, n1'⟩
  clear r1 o1 b1 z1 n1' HB
  go_wp2_with (first | go_skip | (with_reducible refine stopLoad 26 rfl ?_) | (with_reducible refine stopStore 26 rfl ?_))
  refine store_fresh 26 w1.heap.size rfl #[.int .i64 0, .bool false, .slice none 0 0] c1 26 rfl rfl rfl rfl (tuSize HC.out.1) HC.out.1.symm HC.out.2 ?_
  intro w2 hg hb
  have HK : Hid (PkH w cs c1 x w1.heap.size G w2) := ⟨H1.out.1.below hb, hg, H1.out.2.1.below hb, H1.out.2.2.2.1.below H1.out.2.1.lt hb, H1.out.2.2.2.2, H1.out.2.2.1, fun hx => by have := H1.out.2.1.lt _ hx; omega⟩
  obtain ⟨X, hX⟩ : ∃ X, X = w1.heap.size := ⟨_, rfl⟩
  rw [← hX] at HK ⊢
  clear hg hb H1 hX
  go_wp2_with fail
  refine (isPerAgent_any _ _ _ ss F1 _ _ (HS1.out.1.below HK.out.two.bel) HS1.out.2).mono ?_
  rintro e w' ⟨rfl, hw⟩
  have hw' := hw.symm
  subst hw'
  clear hw
  obtain ⟨d1, hd1⟩ : ∃ d, d = nums ss 0 200 := ⟨_, rfl⟩
  rw [← hd1] at HV ⊢
  clear hd1
  cases d1
  · skip
    go_wp2_with fail
    refine wp_region_held (S := fun W => Blk W X c1 26) (by kernel_rfl) ?_
    change wpAnyH _ _ _ _ _ _ _ _ (World.drew _)
    have BD := (Below.refl w2.heap.size w2).drew
    obtain ⟨Y0, hY0⟩ : ∃ Y, Y = w2.drew := ⟨_, rfl⟩
    rw [← hY0] at BD ⊢
    have HK : Hid (PkH w cs c1 x X G Y0) := HK.out.below BD
    have HS : Hid (Blk Y0 X c1 26) := HK.out.blk
    clear hY0 BD
    refine takeH (o := ?o1) 0 (.agg c1) ?h1 ?r1
    case h1 => simp only [aT, aZ]; rfl
    refine ⟨_, by simp [Act.put]; rfl, by kernel_rfl, by kernel_rfl, by kernel_rfl, fun _ _ _ h => h, (yields_whole 26 _ c1 26 _ rfl rfl rfl Try.underlying26 rfl (tuSize HC.out.1) (fun W hW => hW)), HS.out, ?_⟩
    refine takeH (o := ?o2) 1 (.int .i64 (-1)) ?h2 ?r2
    case h2 => simp only [aT, aS, aZ]; rfl
    refine ⟨_, by simp [Act.put]; rfl, by kernel_rfl, by kernel_rfl, by kernel_rfl, fun _ _ _ h => h, (.inl ⟨rfl, fun W _ => by kernel_rfl⟩), HS.out, ?_⟩
    refine onlyH (o := ?o3) 2 (by kernel_rfl) ?h3 ?r3
    case h3 => simp only [aT, aS, aZ]; rfl
    intro K hK
    refine op_store 26 (w.heap.size + 1) #[.int .i64 0, .bool false, .slice none 0 0] c1 26 rfl rfl rfl rfl HK.out.two.snd (tuSize HC.out.1) HC.out.1.symm HC.out.2 ⟨_, by simp [Act.put]; rfl, hK _ _ ⟨HS.out.setRowOther (by have := HK.out.ge; omega), ?_⟩⟩
    clear hK
    refine wpAnyH_done (by kernel_rfl) ?_ _
    go_wp2
    refine bodyPost_ret (results_tmp_rowT Try.results9 _ _ (w.heap.size + 1) _ _ (0, 0) _ rfl HK.out.two.snd.setRow Try.underlying26 rfl (tuSize HC.out.1)) rfl ?_
    rw [HV.out.1]
    have ag := Agree.row (w := Y0) (g := w.heap.size + 1) (F := G) (fun hx => by have := HK.out.gg _ hx; omega) c1
    exact ⟨_, G, rfl, HK.out.rd.agree ag, HK.out.own.agree ag, below_setRow HK.out.two.bel (by omega) _⟩
  · skip
    go_wp2_with fail
    refine (areWeights_any _ _ _ ws F2 _ (HS2.out.1.below HK.out.two.bel) HS2.out.2).mono ?_
    rintro e w' ⟨rfl, hw⟩
    have hw' := hw.symm
    subst hw'
    clear hw
    obtain ⟨d2, hd2⟩ : ∃ d, d = nums ws 1 4 := ⟨_, rfl⟩
    rw [← hd2] at HV ⊢
    clear hd2
    cases d2
    · skip
      go_wp2_with fail
      refine wp_region_held (S := fun W => Blk W X c1 26) (by kernel_rfl) ?_
      change wpAnyH _ _ _ _ _ _ _ _ (World.drew _)
      have BD := (Below.refl w2.heap.size w2).drew
      obtain ⟨Y0, hY0⟩ : ∃ Y, Y = w2.drew := ⟨_, rfl⟩
      rw [← hY0] at BD ⊢
      have HK : Hid (PkH w cs c1 x X G Y0) := HK.out.below BD
      have HS : Hid (Blk Y0 X c1 26) := HK.out.blk
      clear hY0 BD
      refine takeH (o := ?o4) 0 (.agg c1) ?h4 ?r4
      case h4 => simp only [aT, aZ]; rfl
      refine ⟨_, by simp [Act.put]; rfl, by kernel_rfl, by kernel_rfl, by kernel_rfl, fun _ _ _ h => h, (yields_whole 26 _ c1 26 _ rfl rfl rfl Try.underlying26 rfl (tuSize HC.out.1) (fun W hW => hW)), HS.out, ?_⟩
      refine takeH (o := ?o5) 1 (.int .i64 (-1)) ?h5 ?r5
      case h5 => simp only [aT, aS, aZ]; rfl
      refine ⟨_, by simp [Act.put]; rfl, by kernel_rfl, by kernel_rfl, by kernel_rfl, fun _ _ _ h => h, (.inl ⟨rfl, fun W _ => by kernel_rfl⟩), HS.out, ?_⟩
      refine onlyH (o := ?o6) 2 (by kernel_rfl) ?h6 ?r6
      case h6 => simp only [aT, aS, aZ]; rfl
      intro K hK
      refine op_store 26 (w.heap.size + 1) #[.int .i64 0, .bool false, .slice none 0 0] c1 26 rfl rfl rfl rfl HK.out.two.snd (tuSize HC.out.1) HC.out.1.symm HC.out.2 ⟨_, by simp [Act.put]; rfl, hK _ _ ⟨HS.out.setRowOther (by have := HK.out.ge; omega), ?_⟩⟩
      clear hK
      refine wpAnyH_done (by kernel_rfl) ?_ _
      go_wp2
      refine bodyPost_ret (results_tmp_rowT Try.results9 _ _ (w.heap.size + 1) _ _ (0, 0) _ rfl HK.out.two.snd.setRow Try.underlying26 rfl (tuSize HC.out.1)) rfl ?_
      rw [HV.out.1]
      have ag := Agree.row (w := Y0) (g := w.heap.size + 1) (F := G) (fun hx => by have := HK.out.gg _ hx; omega) c1
      exact ⟨_, G, rfl, HK.out.rd.agree ag, HK.out.own.agree ag, below_setRow HK.out.two.bel (by omega) _⟩
    · skip
      go_wp2_with fail
      refine (isQuantum_any _ _).mono ?_
      rintro e w' ⟨rfl, hw⟩
      have hw' := hw.symm
      subst hw'
      clear hw
      obtain ⟨d3, hd3⟩ : ∃ d, d = decide (1 ≤ q ∧ q ≤ 60) := ⟨_, rfl⟩
      rw [← hd3] at HV ⊢
      clear hd3
      cases d3
      · skip
        go_wp2_with fail
        refine wp_region_held (S := fun W => Blk W X c1 26) (by kernel_rfl) ?_
        change wpAnyH _ _ _ _ _ _ _ _ (World.drew _)
        have BD := (Below.refl w2.heap.size w2).drew
        obtain ⟨Y0, hY0⟩ : ∃ Y, Y = w2.drew := ⟨_, rfl⟩
        rw [← hY0] at BD ⊢
        have HK : Hid (PkH w cs c1 x X G Y0) := HK.out.below BD
        have HS : Hid (Blk Y0 X c1 26) := HK.out.blk
        clear hY0 BD
        refine takeH (o := ?o7) 0 (.agg c1) ?h7 ?r7
        case h7 => simp only [aT, aZ]; rfl
        refine ⟨_, by simp [Act.put]; rfl, by kernel_rfl, by kernel_rfl, by kernel_rfl, fun _ _ _ h => h, (yields_whole 26 _ c1 26 _ rfl rfl rfl Try.underlying26 rfl (tuSize HC.out.1) (fun W hW => hW)), HS.out, ?_⟩
        refine takeH (o := ?o8) 1 (.int .i64 (-1)) ?h8 ?r8
        case h8 => simp only [aT, aS, aZ]; rfl
        refine ⟨_, by simp [Act.put]; rfl, by kernel_rfl, by kernel_rfl, by kernel_rfl, fun _ _ _ h => h, (.inl ⟨rfl, fun W _ => by kernel_rfl⟩), HS.out, ?_⟩
        refine onlyH (o := ?o9) 2 (by kernel_rfl) ?h9 ?r9
        case h9 => simp only [aT, aS, aZ]; rfl
        intro K hK
        refine op_store 26 (w.heap.size + 1) #[.int .i64 0, .bool false, .slice none 0 0] c1 26 rfl rfl rfl rfl HK.out.two.snd (tuSize HC.out.1) HC.out.1.symm HC.out.2 ⟨_, by simp [Act.put]; rfl, hK _ _ ⟨HS.out.setRowOther (by have := HK.out.ge; omega), ?_⟩⟩
        clear hK
        refine wpAnyH_done (by kernel_rfl) ?_ _
        go_wp2
        refine bodyPost_ret (results_tmp_rowT Try.results9 _ _ (w.heap.size + 1) _ _ (0, 0) _ rfl HK.out.two.snd.setRow Try.underlying26 rfl (tuSize HC.out.1)) rfl ?_
        rw [HV.out.1]
        have ag := Agree.row (w := Y0) (g := w.heap.size + 1) (F := G) (fun hx => by have := HK.out.gg _ hx; omega) c1
        exact ⟨_, G, rfl, HK.out.rd.agree ag, HK.out.own.agree ag, below_setRow HK.out.two.bel (by omega) _⟩
      · skip
        go_wp2_with (first | go_skip | (with_reducible refine stopLoad 26 rfl ?_) | (with_reducible refine stopStore 26 rfl ?_))
        refine load_any 26 w.heap.size cs 26 _ HK.out.two.fst rfl rfl rfl Try.underlying26 rfl (tuSize HT.out.2.2) ?_
        go_wp2_with fail
        refine (turnOkImpl_any _ x F _ (HT.out.1.below HK.out.two.bel) HT.out.2.1.wide).mono ?_
        rintro e w3 ⟨rfl, hb⟩
        have HK : Hid (PkH w cs c1 x X G w3) := HK.out.below hb
        clear hb
        obtain ⟨d4, hd4⟩ : ∃ d, d = x.ok := ⟨_, rfl⟩
        rw [← hd4] at HV ⊢
        clear hd4
        cases d4
        · skip
          go_wp2_with fail
          refine wp_region_held (S := fun W => Blk W X c1 26) (by kernel_rfl) ?_
          change wpAnyH _ _ _ _ _ _ _ _ (World.drew _)
          have BD := (Below.refl w3.heap.size w3).drew
          obtain ⟨Y0, hY0⟩ : ∃ Y, Y = w3.drew := ⟨_, rfl⟩
          rw [← hY0] at BD ⊢
          have HK : Hid (PkH w cs c1 x X G Y0) := HK.out.below BD
          have HS : Hid (Blk Y0 X c1 26) := HK.out.blk
          clear hY0 BD
          refine takeH (o := ?o10) 0 (.agg c1) ?h10 ?r10
          case h10 => simp only [aT, aZ]; rfl
          refine ⟨_, by simp [Act.put]; rfl, by kernel_rfl, by kernel_rfl, by kernel_rfl, fun _ _ _ h => h, (yields_whole 26 _ c1 26 _ rfl rfl rfl Try.underlying26 rfl (tuSize HC.out.1) (fun W hW => hW)), HS.out, ?_⟩
          refine takeH (o := ?o11) 1 (.int .i64 (-1)) ?h11 ?r11
          case h11 => simp only [aT, aS, aZ]; rfl
          refine ⟨_, by simp [Act.put]; rfl, by kernel_rfl, by kernel_rfl, by kernel_rfl, fun _ _ _ h => h, (.inl ⟨rfl, fun W _ => by kernel_rfl⟩), HS.out, ?_⟩
          refine onlyH (o := ?o12) 2 (by kernel_rfl) ?h12 ?r12
          case h12 => simp only [aT, aS, aZ]; rfl
          intro K hK
          refine op_store 26 (w.heap.size + 1) #[.int .i64 0, .bool false, .slice none 0 0] c1 26 rfl rfl rfl rfl HK.out.two.snd (tuSize HC.out.1) HC.out.1.symm HC.out.2 ⟨_, by simp [Act.put]; rfl, hK _ _ ⟨HS.out.setRowOther (by have := HK.out.ge; omega), ?_⟩⟩
          clear hK
          refine wpAnyH_done (by kernel_rfl) ?_ _
          go_wp2
          refine bodyPost_ret (results_tmp_rowT Try.results9 _ _ (w.heap.size + 1) _ _ (0, 0) _ rfl HK.out.two.snd.setRow Try.underlying26 rfl (tuSize HC.out.1)) rfl ?_
          rw [HV.out.1]
          have ag := Agree.row (w := Y0) (g := w.heap.size + 1) (F := G) (fun hx => by have := HK.out.gg _ hx; omega) c1
          exact ⟨_, G, rfl, HK.out.rd.agree ag, HK.out.own.agree ag, below_setRow HK.out.two.bel (by omega) _⟩
        · exact absurd HV.out.2 (by simp)
set_option maxRecDepth 200000 in
set_option maxHeartbeats 16000000 in
theorem pick_impl_good (a1 a2 : Option Addr) (n1 k1 n2 k2 : Nat) (ss ws : List Int) (F1 F2 : List Nat) (q : Int) (v : Value) (x : Tu) (F : List Nat) (w : World) (h1 : RdI w a1 n1 ss F1) (h2 : RdI w a2 n2 ws F2) (h3 : RdTu w v x F) (hl1 : n1 ≤ 1048576) (hl2 : n2 ≤ 1048576) (hx : x.fits) (hgood : picks ss ws q x = true) :
    Calls Try.prog 9 #[.slice a1 n1 k1, .slice a2 n2 k2, .int .i64 q, v] w fun e w' => NewPick w (pick ss ws q x) e w' := by
  have HS1 : Hid (RdI w a1 n1 ss F1 ∧ n1 ≤ 140737488355328) := ⟨h1, by omega⟩
  have HS2 : Hid (RdI w a2 n2 ws F2 ∧ n2 ≤ 140737488355328) := ⟨h2, by omega⟩
  obtain ⟨cs, rfl, hz, _⟩ := h3.cells
  have HT : Hid (RdTu w (.agg cs) x F ∧ x.fits ∧ cs.size = 3) := ⟨h3, hx, hz⟩
  have HB : Hid (Two w cs #[.int .i64 0, .bool false, .slice none 0 0] 26 ((w.alloc (.cells cs 26)).alloc (.cells #[.int .i64 0, .bool false, .slice none 0 0] 26))) := Two.made w _ _ _
  obtain ⟨e1, e2, e3, e4⟩ := picks_all hgood
  have hn1 : n1 = 3 := by rw [← h1.length]; exact (nums_iff.1 e1).1
  have hn2 : n2 = 3 := by rw [← h2.length]; exact (nums_iff.1 e2).1
  subst hn1 hn2
  obtain ⟨b1, o1, rfl, rfl⟩ := h1.single (by omega)
  obtain ⟨b2, o2, rfl, rfl⟩ := h2.single (by omega)
  have HE : Hid (nums ss 0 200 = true ∧ nums ws 1 4 = true ∧ decide (1 ≤ q ∧ q ≤ 60) = true ∧ x.ok = true ∧ picks ss ws q x = true) := ⟨e1, e2, e3, e4, hgood⟩
  have hq : 1 ≤ q ∧ q ≤ 60 := of_decide_eq_true e3
  clear e1 e2 e3 e4 hgood
  clear h1 h2 h3 hx hz hl1 hl2
  go_enter Try.func9, Try.ntmps9
  go_wp2_with (first | go_skip | (with_reducible refine stopLoad 26 rfl ?_) | (with_reducible refine stopStore 26 rfl ?_))
  refine load_known 26 w.heap.size cs 26 _ HB.out.fst rfl rfl rfl Try.underlying26 rfl (tuSize HT.out.2.2) ?_
  go_wp2_with fail
  refine (copiedTurn_any _ x F _ (HT.out.1.below HB.out.bel) HT.out.2.1).mono ?_
  rintro e w1 ⟨v1, G, rfl, r1, o1, b1⟩
  obtain ⟨c1, rfl, z1, n1'⟩ := r1.cells
  have H1 : Hid (Two w cs #[.int .i64 0, .bool false, .slice none 0 0] 26 w1 ∧ RdTu w1 (.agg c1) x G ∧ (∀ b ∈ G, w.heap.size + 2 ≤ b) ∧ Own w.heap.size w1 G ∧ w.heap.size + 2 ≤ w1.heap.size) := ⟨HB.out.below b1, r1, fun b hb => Nat.le_trans HB.out.snd.lt (o1.ge b hb), o1.mono HB.out.bel.size, Nat.le_trans HB.out.snd.lt b1.size⟩
  have HC : Hid (c1.size = 3 ∧ c1.all (·.oneCell') = true) := ⟨z1, n1'⟩
  clear r1 o1 b1 z1 n1' HB
  go_wp2_with (first | go_skip | (with_reducible refine stopLoad 26 rfl ?_) | (with_reducible refine stopStore 26 rfl ?_))
  refine store_fresh 26 w1.heap.size rfl #[.int .i64 0, .bool false, .slice none 0 0] c1 26 rfl rfl rfl rfl (tuSize HC.out.1) HC.out.1.symm HC.out.2 ?_
  intro w2 hg hb
  have HK : Hid (PkH w cs c1 x w1.heap.size G w2) := ⟨H1.out.1.below hb, hg, H1.out.2.1.below hb, H1.out.2.2.2.1.below H1.out.2.1.lt hb, H1.out.2.2.2.2, H1.out.2.2.1, fun hx => by have := H1.out.2.1.lt _ hx; omega⟩
  obtain ⟨X, hX⟩ : ∃ X, X = w1.heap.size := ⟨_, rfl⟩
  rw [← hX] at HK ⊢
  clear hg hb H1 hX
  go_wp2_with fail
  refine (isPerAgent_any _ _ _ ss [b1] _ _ (HS1.out.1.below HK.out.two.bel) HS1.out.2).mono ?_
  rintro e w' ⟨rfl, hw⟩
  have hw' := hw.symm
  subst hw'
  clear hw
  rw [HE.out.1]
  go_wp2_with fail
  refine (areWeights_any _ _ _ ws [b2] _ (HS2.out.1.below HK.out.two.bel) HS2.out.2).mono ?_
  rintro e w' ⟨rfl, hw⟩
  have hw' := hw.symm
  subst hw'
  clear hw
  rw [HE.out.2.1]
  go_wp2_with fail
  refine (isQuantum_any _ _).mono ?_
  rintro e w' ⟨rfl, hw⟩
  have hw' := hw.symm
  subst hw'
  clear hw
  rw [HE.out.2.2.1]
  go_wp2_with (first | go_skip | (with_reducible refine stopLoad 26 rfl ?_) | (with_reducible refine stopStore 26 rfl ?_))
  refine load_any 26 w.heap.size cs 26 _ HK.out.two.fst rfl rfl rfl Try.underlying26 rfl (tuSize HT.out.2.2) ?_
  go_wp2_with fail
  refine (turnOkImpl_any _ x F _ (HT.out.1.below HK.out.two.bel) HT.out.2.1.wide).mono ?_
  rintro e w3 ⟨rfl, hb⟩
  have HK : Hid (PkH w cs c1 x X G w3) := HK.out.below hb
  clear hb
  rw [HE.out.2.2.2.1]
  go_wp2_with fail
  refine (aboveZero_any _ _ _ ss [b1] _ (HS1.out.1.below HK.out.two.bel) HS1.out.2).mono ?_
  rintro e w' ⟨rfl, hw⟩
  have hw' := hw.symm
  subst hw'
  clear hw
  obtain ⟨n, hn⟩ : ∃ n, n = cntPos ss := ⟨_, rfl⟩
  obtain ⟨z, hz⟩ : ∃ z, z = nums ss 0 0 := ⟨_, rfl⟩
  have hnz : (n == 0) = z := by rw [hn, hz]; exact cntPos_zero HE.out.1
  rw [← hn]
  have HZ : Hid (z = nums ss 0 0) := hz
  clear hn hz
  cases z
  rotate_left
  · skip
    have HV : Hid (pick ss ws q x = (-1, Tu.new)) := pick_zero HE.out.2.2.2.2 HZ.out.symm
    go_wp2_with fail
    refine (turnNewImpl_any _).mono ?_
    rintro e w5 ⟨v5, G5, rfl, r5, o5, b5⟩
    obtain ⟨c5, rfl, z5, n5⟩ := r5.cells
    have H5 : Hid (Two w cs #[.int .i64 0, .bool false, .slice none 0 0] 26 w5 ∧ RdTu w5 (.agg c5) Tu.new G5 ∧ Own w.heap.size w5 G5 ∧ c5.size = 3 ∧ c5.all (·.oneCell') = true ∧ ∀ b ∈ G5, w.heap.size + 2 ≤ b) := ⟨HK.out.two.below b5, r5, o5.mono HK.out.two.bel.size, z5, n5, fun b hb => Nat.le_trans HK.out.two.snd.lt (o5.ge b hb)⟩
    clear r5 o5 b5 z5 n5
    go_wp2_with (first | go_skip | (with_reducible refine stopLoad 26 rfl ?_) | (with_reducible refine stopStore 26 rfl ?_))
    refine store_known 26 (w.heap.size + 1) _ c5 26 H5.out.1.snd rfl rfl rfl rfl (tuSize H5.out.2.2.2.1) H5.out.2.2.2.1.symm H5.out.2.2.2.2.1 ?_
    go_wp2
    refine bodyPost_ret (results_tmp_rowT Try.results9 _ _ (w.heap.size + 1) _ _ (0, 0) _ rfl H5.out.1.snd.setRow Try.underlying26 rfl (tuSize H5.out.2.2.2.1)) rfl ?_
    rw [HV.out]
    have ag := Agree.row (w := w5) (g := w.heap.size + 1) (F := G5) (fun hx => by have := H5.out.2.2.2.2.2 _ hx; omega) c5
    exact ⟨_, G5, rfl, H5.out.2.1.agree ag, H5.out.2.2.1.agree ag, below_setRow H5.out.1.bel (by omega) _⟩
  have HV : Hid (pick ss ws q x = ((pickN ss ws q 20000 x).who, pickN ss ws q 20000 x)) := pick_some HE.out.2.2.2.2 HZ.out.symm
  have HI : Hid (PickIn ss ws q x) := picks_in HE.out.2.2.2.2 HZ.out.symm
  obtain ⟨l0, l1, l2, hl3, _⟩ := ok_three HE.out.2.2.2.1
  obtain ⟨L, off, cap, hc1, hpv⟩ : ∃ L off cap, c1 = #[.int .i64 x.who, .bool x.fresh, .slice (some ⟨L, off, none⟩) 3 cap] ∧ PV w3 (w.heap.size + 2) X L off cap x := by
    obtain ⟨bb, ll, cc, he, hR⟩ := HK.out.rd
    obtain rfl : ll = 3 := by rw [← hR.length, hl3]; rfl
    obtain ⟨L, off, rfl, rfl⟩ := hR.single (by omega)
    injection he with he
    exact ⟨L, off, cc, he, by have := HK.out.blk; rw [he] at this; exact this, hR, ⟨HK.out.own.nodup, HK.out.own.free, HK.out.gg⟩, fun e => HK.out.ne (e ▸ by simp), HK.out.ge⟩
  have HP : Hid (PV w3 (w.heap.size + 2) X L off cap x ∧ Blk w3 (w.heap.size + 1) #[.int .i64 0, .bool false, .slice none 0 0] 26 ∧ Below w.heap.size w w3) := ⟨hpv, HK.out.two.snd, HK.out.two.bel⟩
  clear hl3 hc1 hpv HC HK HT
  go_wp2_with fail
  go_loopg [36] 20000 (fun g _ wr => ∃ y, Hid (PickIn ss ws q y ∧ y.mu ss < g ∧ pickN ss ws q g y = pickN ss ws q 20000 x ∧ PV wr (w.heap.size + 2) X L off cap y ∧ Below w.heap.size w wr ∧ Blk wr (w.heap.size + 1) #[.int .i64 0, .bool false, .slice none 0 0] 26))
  case atStart => exact ⟨x, HI.out, mu_le HI.out.ok, rfl, HP.out.1, HP.out.2.2, HP.out.2.1⟩
  case round =>
    clear HP HI
    obtain ⟨y, HY⟩ := hrel
    obtain ⟨yk, yf, ys⟩ := y
    obtain ⟨m0, m1, m2, hm, hm0, hm1, hm2, hk0⟩ := ok_three HY.out.1.ok
    obtain ⟨k, rfl⟩ : ∃ k : Nat, yk = k := ⟨yk.toNat, by have := hk0.1; simp only at this; omega⟩
    have hk3 : k < 3 := by have := hk0.2; simp only at this; omega
    have HR : Hid (0 ≤ ys.getD k 0 ∧ ys.getD k 0 ≤ 1000) := by
      have hm' : ys = [m0, m1, m2] := hm
      subst hm'
      show _ ∧ _
      match k, hk3 with
      | 0, _ => exact hm0
      | 1, _ => exact hm1
      | 2, _ => exact hm2
    clear hm hm0 hm1 hm2 hk0
    obtain ⟨s, hs⟩ : ∃ s, s = ss.getD k 0 := ⟨_, rfl⟩
    obtain ⟨wt, hwt⟩ : ∃ s, s = ws.getD k 0 := ⟨_, rfl⟩
    obtain ⟨sh, hsh⟩ : ∃ s, s = q * wt := ⟨_, rfl⟩
    have hsr : 0 ≤ s ∧ s ≤ 200 := by
      obtain ⟨p1, p2⟩ := nums_iff.1 HE.out.1
      rw [hs]; exact p2 _ (mem_getD (by omega))
    have hwr : 1 ≤ wt ∧ wt ≤ 4 := by
      obtain ⟨p1, p2⟩ := nums_iff.1 HE.out.2.1
      rw [hwt]; exact p2 _ (mem_getD (by omega))
    have hshr : 1 ≤ sh ∧ sh ≤ 240 := by rw [hsh]; exact share_range hq hwr
    have hmul : q * wt = sh := hsh.symm
    have hwp : IntKind.i64.wrap sh = sh := by simp [IntKind.wrap, IntKind.bits, IntKind.signed]; omega
    have HQ : Hid (s = ss.getD k 0 ∧ wt = ws.getD k 0 ∧ sh = q * wt) := ⟨hs, hwt, hsh⟩
    have HAT : Hid (Tu.at ⟨(k : Int), yf, ys⟩ ss ws q = Tu.step ⟨(k : Int), yf, ys⟩ s sh) := by
      show _ = _; unfold Tu.at; simp only [Int.toNat_natCast]; rw [← hs, ← hwt, hmul]
    have HCS : Hid (wr.cell? ⟨b1, o1 + k, none⟩ = some (.int .i64 s) ∧ wr.cell? ⟨b2, o2 + k, none⟩ = some (.int .i64 wt)) := ⟨by rw [hs]; exact (HS1.out.1.below HY.out.2.2.2.2.1).at k hk3, by rw [hwt]; exact (HS2.out.1.below HY.out.2.2.2.2.1).at k hk3⟩
    clear hs hwt hsh
    obtain ⟨g, hg⟩ : ∃ g, gk = g + 1 := ⟨gk - 1, by have := HY.out.2.1; omega⟩
    subst hg
    have hI : (k : Int) < 3 := by omega
    go_wp2_with fail
    refine wp_region_held (S := fun W => W.cell? ⟨X, 0, none⟩ = some (.int .i64 (k : Int)) ∧ W.cell? ⟨b1, o1 + k, none⟩ = some (.int .i64 s) ∧ W.cell? ⟨b2, o2 + k, none⟩ = some (.int .i64 wt)) (by kernel_rfl) ?_
    change wpAnyH _ _ _ _ _ _ _ _ (World.drew _)
    have BD := (Below.refl wr.heap.size wr).drew
    obtain ⟨Y0, hY0⟩ : ∃ Y, Y = wr.drew := ⟨_, rfl⟩
    rw [← hY0] at BD ⊢
    have HYY : Hid (PickIn ss ws q ⟨(k : Int), yf, ys⟩ ∧ Tu.mu ⟨(k : Int), yf, ys⟩ ss < g + 1 ∧ pickN ss ws q (g + 1) ⟨(k : Int), yf, ys⟩ = pickN ss ws q 20000 x ∧ PV Y0 (w.heap.size + 2) X L off cap ⟨(k : Int), yf, ys⟩ ∧ Below w.heap.size w Y0 ∧ Blk Y0 (w.heap.size + 1) #[.int .i64 0, .bool false, .slice none 0 0] 26) := ⟨HY.out.1, HY.out.2.1, HY.out.2.2.1, HY.out.2.2.2.1.below BD, Below.next HY.out.2.2.2.2.1 BD, HY.out.2.2.2.2.2.below BD⟩
    have HSS : Hid (Y0.cell? ⟨X, 0, none⟩ = some (.int .i64 (k : Int)) ∧ Y0.cell? ⟨b1, o1 + k, none⟩ = some (.int .i64 s) ∧ Y0.cell? ⟨b2, o2 + k, none⟩ = some (.int .i64 wt)) := by rw [hY0]; exact ⟨HY.out.2.2.2.1.blk.cell 0, HCS.out.1, HCS.out.2⟩
    clear hY0 BD HY
    refine takeH (o := ?o13) 0 (.slice (some ⟨b1, o1, none⟩) 3 k1) ?h13 ?r13
    case h13 => simp only [aT, aZ]; rfl
    refine ⟨_, by simp [Act.put]; rfl, by kernel_rfl, by kernel_rfl, by kernel_rfl, fun _ _ _ h => h, (.inl ⟨rfl, fun W _ => by kernel_rfl⟩), HSS.out, ?_⟩
    refine takeH (o := ?o14) 1 (.pointer (some ⟨X, 0, none⟩)) ?h14 ?r14
    case h14 => simp only [aT, aS, aZ]; rfl
    refine ⟨_, by simp [Act.put]; rfl, by kernel_rfl, by kernel_rfl, by kernel_rfl, fun _ _ _ h => h, (.inl ⟨rfl, fun W _ => by go_simp⟩), HSS.out, ?_⟩
    refine takeH (o := ?o15) 2 (.int .i64 (k : Int)) ?h15 ?r15
    case h15 => simp only [aT, aS, aZ]; rfl
    refine ⟨_, by simp [Act.put]; rfl, by kernel_rfl, by kernel_rfl, by kernel_rfl, fun _ _ _ h => h, (.inl ⟨rfl, fun W hW => by have c := hW.1; go_simp⟩), HSS.out, ?_⟩
    refine takeH (o := ?o16) 3 (.pointer (some ⟨b1, o1 + k, none⟩)) ?h16 ?r16
    case h16 => simp only [aT, aS, aZ]; rfl
    refine ⟨_, by simp [Act.put]; rfl, by kernel_rfl, by kernel_rfl, by kernel_rfl, fun _ _ _ h => h, (.inl ⟨rfl, fun W _ => by go_simp; first | done | (intro h; omega) | (rw [if_pos (by omega)]; rfl)⟩), HSS.out, ?_⟩
    refine takeH (o := ?o17) 4 (.int .i64 s) ?h17 ?r17
    case h17 => simp only [aT, aS, aZ]; rfl
    refine ⟨_, by simp [Act.put]; rfl, by kernel_rfl, by kernel_rfl, by kernel_rfl, fun _ _ _ h => h, (.inl ⟨rfl, fun W hW => by have c := hW.2.1; go_simp⟩), HSS.out, ?_⟩
    refine takeH (o := ?o18) 5 (.int .i64 q) ?h18 ?r18
    case h18 => simp only [aT, aS, aZ]; rfl
    refine ⟨_, by simp [Act.put]; rfl, by kernel_rfl, by kernel_rfl, by kernel_rfl, fun _ _ _ h => h, (.inl ⟨rfl, fun W _ => by kernel_rfl⟩), HSS.out, ?_⟩
    refine takeH (o := ?o19) 6 (.slice (some ⟨b2, o2, none⟩) 3 k2) ?h19 ?r19
    case h19 => simp only [aT, aS, aZ]; rfl
    refine ⟨_, by simp [Act.put]; rfl, by kernel_rfl, by kernel_rfl, by kernel_rfl, fun _ _ _ h => h, (.inl ⟨rfl, fun W _ => by kernel_rfl⟩), HSS.out, ?_⟩
    refine takeH (o := ?o20) 7 (.pointer (some ⟨X, 0, none⟩)) ?h20 ?r20
    case h20 => simp only [aT, aS, aZ]; rfl
    refine ⟨_, by simp [Act.put]; rfl, by kernel_rfl, by kernel_rfl, by kernel_rfl, fun _ _ _ h => h, (.inl ⟨rfl, fun W _ => by go_simp⟩), HSS.out, ?_⟩
    refine takeH (o := ?o21) 8 (.int .i64 (k : Int)) ?h21 ?r21
    case h21 => simp only [aT, aS, aZ]; rfl
    refine ⟨_, by simp [Act.put]; rfl, by kernel_rfl, by kernel_rfl, by kernel_rfl, fun _ _ _ h => h, (.inl ⟨rfl, fun W hW => by have c := hW.1; go_simp⟩), HSS.out, ?_⟩
    refine takeH (o := ?o22) 9 (.pointer (some ⟨b2, o2 + k, none⟩)) ?h22 ?r22
    case h22 => simp only [aT, aS, aZ]; rfl
    refine ⟨_, by simp [Act.put]; rfl, by kernel_rfl, by kernel_rfl, by kernel_rfl, fun _ _ _ h => h, (.inl ⟨rfl, fun W _ => by go_simp; first | done | (intro h; omega) | (rw [if_pos (by omega)]; rfl)⟩), HSS.out, ?_⟩
    refine takeH (o := ?o23) 10 (.int .i64 wt) ?h23 ?r23
    case h23 => simp only [aT, aS, aZ]; rfl
    refine ⟨_, by simp [Act.put]; rfl, by kernel_rfl, by kernel_rfl, by kernel_rfl, fun _ _ _ h => h, (.inl ⟨rfl, fun W hW => by have c := hW.2.2; go_simp⟩), HSS.out, ?_⟩
    refine takeH (o := ?o24) 11 (.int .i64 sh) ?h24 ?r24
    case h24 => simp only [aT, aS, aZ]; rfl
    refine ⟨_, by simp [Act.put]; rfl, by kernel_rfl, by kernel_rfl, by kernel_rfl, fun _ _ _ h => h, (.inl ⟨rfl, fun W _ => by go_simp⟩), HSS.out, ?_⟩
    refine onlyH (o := ?o25) 12 (by kernel_rfl) ?h25 ?r25
    case h25 => simp only [aT, aS, aZ]; rfl
    intro K hK
    refine op_callT3 33 _ _ _ _ Try.f33 (fun v w' => v = .bool (Tu.step ⟨(k : Int), yf, ys⟩ s sh).2 ∧ PV w' (w.heap.size + 2) X L off cap (Tu.step ⟨(k : Int), yf, ys⟩ s sh).1 ∧ Below (w.heap.size + 2) Y0 w') rfl rfl Try.func33 (by kernel_rfl) (by kernel_rfl) ((takes_any _ X L off cap k yf ys s sh Y0 HYY.out.2.2.2.1 hk3 HR.out hsr hshr).mono (by rintro e w' ⟨rfl, h1, h2⟩; exact ⟨_, rfl, rfl, h1, h2⟩)) ?_
    rintro _ Y1 ⟨rfl, pv1, bl1⟩
    obtain ⟨z, hz⟩ : ∃ z, z = Tu.step ⟨(k : Int), yf, ys⟩ s sh := ⟨_, rfl⟩
    have hzw : z.1.who = (k : Int) := by rw [hz]; exact step_who _ _ _
    rw [← hz] at pv1 HAT ⊢
    have H1 : Hid (PV Y1 (w.heap.size + 2) X L off cap z.1 ∧ Below w.heap.size w Y1 ∧ Blk Y1 (w.heap.size + 1) #[.int .i64 0, .bool false, .slice none 0 0] 26 ∧ z.1.who = (k : Int)) := ⟨pv1, HYY.out.2.2.2.2.1.trans (bl1.mono (by omega)), HYY.out.2.2.2.2.2.agree (bl1.block _ (by omega)), hzw⟩
    have HS3 : Hid (Y1.cell? ⟨X, 0, none⟩ = some (.int .i64 (k : Int)) ∧ Y1.cell? ⟨b1, o1 + k, none⟩ = some (.int .i64 s) ∧ Y1.cell? ⟨b2, o2 + k, none⟩ = some (.int .i64 wt)) := by
      refine ⟨by have c := pv1.blk.cell 0; rw [hzw] at c; exact c, (bl1.cell (p := ⟨b1, o1 + k, none⟩) ?_).trans HSS.out.2.1, (bl1.cell (p := ⟨b2, o2 + k, none⟩) ?_).trans HSS.out.2.2⟩
      · have := HS1.out.1.lt b1 (by simp); show b1 < _; omega
      · have := HS2.out.1.lt b2 (by simp); show b2 < _; omega
    refine ⟨_, by simp [Act.put]; rfl, hK _ _ ⟨HS3.out, ?_⟩⟩
    obtain ⟨b, hb⟩ : ∃ b, b = z.2 := ⟨_, rfl⟩
    have HBZ : Hid (b = z.2) := hb
    rw [← hb]
    clear hK pv1 bl1 hzw hz hb HSS
    refine takeH (o := ?o26) 13 (.bool (!b)) ?h26 ?r26
    case h26 => simp only [aT, aS, aZ]; rfl
    refine ⟨_, by simp [Act.put]; rfl, by kernel_rfl, by kernel_rfl, by kernel_rfl, fun _ _ _ h => h, (.inl ⟨rfl, fun W _ => by go_simp⟩), HS3.out, ?_⟩
    refine wpAnyH_done (by kernel_rfl) ?_ _
    cases b
    · skip
      obtain ⟨⟨zk, zf, zs⟩, zb⟩ := z
      obtain rfl : zk = (k : Int) := H1.out.2.2.2
      have hm : ((k : Int) + 1).tmod 3 = ((k : Int) + 1) % 3 := Int.tmod_eq_emod_of_nonneg (by omega)
      obtain ⟨m, hmm⟩ : ∃ m, m = ((k : Int) + 1) % 3 := ⟨_, rfl⟩
      rw [← hmm] at hm
      have hm3 : 0 ≤ m ∧ m ≤ 2 := by omega
      have HM : Hid (m = ((k : Int) + 1) % 3) := hmm
      clear hmm
      have c0 := H1.out.1.blk.cell 0
      have f0 := H1.out.1.blk.frozen 0
      have e1 := H1.out.1.who m
      have c1b := e1.blk.cell 1
      have f1b := e1.blk.frozen 1
      simp only [aT, aS, aZ] at c0 c1b
      have H2 : Hid (PV ((Y1.setCell ⟨X, 0, none⟩ (.int .i64 m)).setCell ⟨X, 1, none⟩ (.bool true)) (w.heap.size + 2) X L off cap ⟨m, true, zs⟩) := e1.fr true
      clear e1
      go_wp2
      go_roundg g
      case measure => omega
      case rel =>
        have hn : (Tu.at ⟨(k : Int), yf, ys⟩ ss ws q).2 = false := by rw [HAT.out]; exact HBZ.out.symm
        have hnx : (Tu.at ⟨(k : Int), yf, ys⟩ ss ws q).1.next = ⟨m, true, zs⟩ := by rw [HAT.out, HM.out]; rfl
        obtain ⟨p1, p2⟩ := step_mu HYY.out.1 hn
        have p3 := HYY.out.2.2.1
        rw [pickN_no hn] at p3
        rw [hnx] at p1 p2 p3
        exact ⟨⟨m, true, zs⟩, p2, by have := HYY.out.2.1; omega, p3, H2.out, (H1.out.2.1.setCell (by have := H1.out.1.ge; show w.heap.size ≤ X; omega) _).setCell (by have := H1.out.1.ge; show w.heap.size ≤ X; omega) _, (H1.out.2.2.1.setOther (by have := H1.out.1.ge; omega) 0 _).setOther (by have := H1.out.1.ge; omega) 1 _⟩
    · skip
      go_wp2_with fail
      obtain ⟨⟨zk, zf, zs⟩, zb⟩ := z
      obtain rfl : zk = (k : Int) := H1.out.2.2.2
      refine wp_region_held (S := fun W => Blk W X #[.int .i64 (k : Int), .bool zf, .slice (some ⟨L, off, none⟩) 3 cap] 26) (by kernel_rfl) ?_
      change wpAnyH _ _ _ _ _ _ _ _ (World.drew _)
      have BD := (Below.refl Y1.heap.size Y1).drew
      obtain ⟨Y2, hY2⟩ : ∃ Y, Y = Y1.drew := ⟨_, rfl⟩
      rw [← hY2] at BD ⊢
      have H2 : Hid (PV Y2 (w.heap.size + 2) X L off cap ⟨(k : Int), zf, zs⟩ ∧ Below w.heap.size w Y2 ∧ Blk Y2 (w.heap.size + 1) #[.int .i64 0, .bool false, .slice none 0 0] 26) := ⟨H1.out.1.below BD, Below.next H1.out.2.1 BD, H1.out.2.2.1.below BD⟩
      have HS : Hid (Blk Y2 X #[.int .i64 (k : Int), .bool zf, .slice (some ⟨L, off, none⟩) 3 cap] 26) := H2.out.1.blk
      clear hY2 BD
      refine takeH (o := ?o27) 0 (.pointer (some ⟨X, 0, none⟩)) ?h27 ?r27
      case h27 => simp only [aT, aZ]; rfl
      refine ⟨_, by simp [Act.put]; rfl, by kernel_rfl, by kernel_rfl, by kernel_rfl, fun _ _ _ h => h, (.inl ⟨rfl, fun W _ => by go_simp⟩), HS.out, ?_⟩
      refine takeH (o := ?o28) 1 (.int .i64 (k : Int)) ?h28 ?r28
      case h28 => simp only [aT, aS, aZ]; rfl
      refine ⟨_, by simp [Act.put]; rfl, by kernel_rfl, by kernel_rfl, by kernel_rfl, fun _ _ _ h => h, (.inl ⟨rfl, fun W hW => by have c := hW.cell 0; simp only [aT, aZ] at c; go_simp⟩), HS.out, ?_⟩
      refine takeH (o := ?o29) 2 (.agg #[.int .i64 (k : Int), .bool zf, .slice (some ⟨L, off, none⟩) 3 cap]) ?h29 ?r29
      case h29 => simp only [aT, aS, aZ]; rfl
      refine ⟨_, by simp [Act.put]; rfl, by kernel_rfl, by kernel_rfl, by kernel_rfl, fun _ _ _ h => h, (yields_whole 26 _ #[.int .i64 (k : Int), .bool zf, .slice (some ⟨L, off, none⟩) 3 cap] 26 _ rfl rfl rfl Try.underlying26 rfl infoTuI (fun W hW => hW)), HS.out, ?_⟩
      refine takeH (o := ?o30) 3 (.int .i64 (k : Int)) ?h30 ?r30
      case h30 => simp only [aT, aS, aZ]; rfl
      refine ⟨_, by simp [Act.put]; rfl, by kernel_rfl, by kernel_rfl, by kernel_rfl, fun _ _ _ h => h, (.inl ⟨rfl, fun W _ => by kernel_rfl⟩), HS.out, ?_⟩
      refine onlyH (o := ?o31) 4 (by kernel_rfl) ?h31 ?r31
      case h31 => simp only [aT, aS, aZ]; rfl
      intro K hK
      refine op_store 26 (w.heap.size + 1) #[.int .i64 0, .bool false, .slice none 0 0] #[.int .i64 (k : Int), .bool zf, .slice (some ⟨L, off, none⟩) 3 cap] 26 rfl rfl rfl rfl H2.out.2.2 infoTuI rfl (by simp [Value.oneCell']) ⟨_, by simp [Act.put]; rfl, hK _ _ ⟨HS.out.setRowOther (by have := H2.out.1.ge; omega), ?_⟩⟩
      clear hK
      refine wpAnyH_done (by kernel_rfl) ?_ _
      go_wp2
      refine bodyPost_ret (results_tmp_rowT Try.results9 _ _ (w.heap.size + 1) _ _ (0, 0) _ rfl H2.out.2.2.setRow Try.underlying26 rfl infoTuI) rfl ?_
      have hy : (Tu.at ⟨(k : Int), yf, ys⟩ ss ws q).2 = true := by rw [HAT.out]; exact HBZ.out.symm
      have p3 := HYY.out.2.2.1
      rw [pickN_yes hy, HAT.out] at p3
      rw [HV.out, ← p3]
      have ag := Agree.row (w := Y2) (g := w.heap.size + 1) (F := [L]) (fun hx => by have := H2.out.1.ge2; simp at hx; omega) #[.int .i64 (k : Int), .bool zf, .slice (some ⟨L, off, none⟩) 3 cap]
      exact ⟨_, [L], rfl, H2.out.1.value.agree ag, (H2.out.1.own.agree ag).mono (by omega), below_setRow H2.out.2.1 (by omega) _⟩
set_option maxRecDepth 200000 in
theorem pick_impl_any (a1 a2 : Option Addr) (n1 k1 n2 k2 : Nat) (ss ws : List Int) (F1 F2 : List Nat) (q : Int) (v : Value) (x : Tu) (F : List Nat) (w : World) (h1 : RdI w a1 n1 ss F1) (h2 : RdI w a2 n2 ws F2) (h3 : RdTu w v x F) (hl1 : n1 ≤ 1048576) (hl2 : n2 ≤ 1048576) (hx : x.fits) :
    Calls Try.prog 9 #[.slice a1 n1 k1, .slice a2 n2 k2, .int .i64 q, v] w fun e w' => NewPick w (pick ss ws q x) e w' := by
  cases h : picks ss ws q x
  · exact pick_impl_bad a1 a2 n1 k1 n2 k2 ss ws F1 F2 q v x F w h1 h2 h3 hl1 hl2 hx h
  · exact pick_impl_good a1 a2 n1 k1 n2 k2 ss ws F1 F2 q v x F w h1 h2 h3 hl1 hl2 hx h
end Go.Proofs.Ythimjmkdcocofaa
/- The walk through the model's Pick. No statement of the seat is proved here. -/
namespace Go.Proofs.Ythimjmkdcocofaa
open Go.RowKit
set_option maxRecDepth 200000 in
set_option maxHeartbeats 8000000 in
theorem pick_spec_bad (a1 a2 : Option Addr) (n1 k1 n2 k2 : Nat) (ss ws : List Int) (F1 F2 : List Nat) (q : Int) (v : Value) (x : Tu) (F : List Nat) (w : World) (h1 : RdI w a1 n1 ss F1) (h2 : RdI w a2 n2 ws F2) (h3 : RdTu w v x F) (hl1 : n1 ≤ 1048576) (hl2 : n2 ≤ 1048576) (hx : x.fits) (hbad : picks ss ws q x = false) :
    Calls Try.prog 10 #[.slice a1 n1 k1, .slice a2 n2 k2, .int .i64 q, v] w fun e w' => NewPick w (pick ss ws q x) e w' := by
  have HS1 : Hid (RdI w a1 n1 ss F1 ∧ n1 ≤ 140737488355328) := ⟨h1, by omega⟩
  have HS2 : Hid (RdI w a2 n2 ws F2 ∧ n2 ≤ 140737488355328) := ⟨h2, by omega⟩
  obtain ⟨cs, rfl, hz, _⟩ := h3.cells
  have HT : Hid (RdTu w (.agg cs) x F ∧ x.fits ∧ cs.size = 3) := ⟨h3, hx, hz⟩
  have HB : Hid (Two w cs #[.int .i64 0, .bool false, .slice none 0 0] 26 ((w.alloc (.cells cs 26)).alloc (.cells #[.int .i64 0, .bool false, .slice none 0 0] 26))) := Two.made w _ _ _
  have HV : Hid (pick ss ws q x = (-1, x) ∧ (nums ss 0 200 && nums ws 1 4 && decide (1 ≤ q ∧ q ≤ 60) && x.ok) = false) := ⟨pick_bad hbad, hbad⟩
  clear hbad
  clear h1 h2 h3 hx hz hl1 hl2
  go_enter Try.func10, Try.ntmps10
  go_wp2_with (first | go_skip | (with_reducible refine stopLoad 26 rfl ?_) | (with_reducible refine stopStore 26 rfl ?_))
  refine load_known 26 w.heap.size cs 26 _ HB.out.fst rfl rfl rfl Try.underlying26 rfl (tuSize HT.out.2.2) ?_
  go_wp2_with fail
  refine (l11Copy_any _ x F _ (HT.out.1.below HB.out.bel) HT.out.2.1).mono ?_
  rintro e w1 ⟨v1, G, rfl, r1, o1, b1⟩
  obtain ⟨c1, rfl, z1, n1'⟩ := r1.cells
  have H1 : Hid (Two w cs #[.int .i64 0, .bool false, .slice none 0 0] 26 w1 ∧ RdTu w1 (.agg c1) x G ∧ (∀ b ∈ G, w.heap.size + 2 ≤ b) ∧ Own w.heap.size w1 G ∧ w.heap.size + 2 ≤ w1.heap.size) := ⟨HB.out.below b1, r1, fun b hb => Nat.le_trans HB.out.snd.lt (o1.ge b hb), o1.mono HB.out.bel.size, Nat.le_trans HB.out.snd.lt b1.size⟩
  have HC : Hid (c1.size = 3 ∧ c1.all (·.oneCell') = true) := ⟨z1, n1'⟩
  clear r1 o1 b1 z1 n1' HB
  go_wp2_with (first | go_skip | (with_reducible refine stopLoad 26 rfl ?_) | (with_reducible refine stopStore 26 rfl ?_))
  refine store_fresh 26 w1.heap.size rfl #[.int .i64 0, .bool false, .slice none 0 0] c1 26 rfl rfl rfl rfl (tuSize HC.out.1) HC.out.1.symm HC.out.2 ?_
  intro w2 hg hb
  have HK : Hid (PkH w cs c1 x w1.heap.size G w2) := ⟨H1.out.1.below hb, hg, H1.out.2.1.below hb, H1.out.2.2.2.1.below H1.out.2.1.lt hb, H1.out.2.2.2.2, H1.out.2.2.1, fun hx => by have := H1.out.2.1.lt _ hx; omega⟩
  obtain ⟨X, hX⟩ : ∃ X, X = w1.heap.size := ⟨_, rfl⟩
  rw [← hX] at HK ⊢
  clear hg hb H1 hX
  go_wp2_with fail
  refine (l11Nums_any _ _ _ ss F1 _ _ _ (HS1.out.1.below HK.out.two.bel) HS1.out.2).mono ?_
  rintro e w' ⟨rfl, hw⟩
  have hw' := hw.symm
  subst hw'
  clear hw
  obtain ⟨d1, hd1⟩ : ∃ d, d = nums ss 0 200 := ⟨_, rfl⟩
  rw [← hd1] at HV ⊢
  clear hd1
  cases d1
  · skip
    go_wp2_with fail
    refine wp_region_held (S := fun W => Blk W X c1 26) (by kernel_rfl) ?_
    change wpAnyH _ _ _ _ _ _ _ _ (World.drew _)
    have BD := (Below.refl w2.heap.size w2).drew
    obtain ⟨Y0, hY0⟩ : ∃ Y, Y = w2.drew := ⟨_, rfl⟩
    rw [← hY0] at BD ⊢
    have HK : Hid (PkH w cs c1 x X G Y0) := HK.out.below BD
    have HS : Hid (Blk Y0 X c1 26) := HK.out.blk
    clear hY0 BD
    refine takeH (o := ?o1) 0 (.agg c1) ?h1 ?r1
    case h1 => simp only [aT, aZ]; rfl
    refine ⟨_, by simp [Act.put]; rfl, by kernel_rfl, by kernel_rfl, by kernel_rfl, fun _ _ _ h => h, (yields_whole 26 _ c1 26 _ rfl rfl rfl Try.underlying26 rfl (tuSize HC.out.1) (fun W hW => hW)), HS.out, ?_⟩
    refine takeH (o := ?o2) 1 (.int .i64 (-1)) ?h2 ?r2
    case h2 => simp only [aT, aS, aZ]; rfl
    refine ⟨_, by simp [Act.put]; rfl, by kernel_rfl, by kernel_rfl, by kernel_rfl, fun _ _ _ h => h, (.inl ⟨rfl, fun W _ => by kernel_rfl⟩), HS.out, ?_⟩
    refine onlyH (o := ?o3) 2 (by kernel_rfl) ?h3 ?r3
    case h3 => simp only [aT, aS, aZ]; rfl
    intro K hK
    refine op_store 26 (w.heap.size + 1) #[.int .i64 0, .bool false, .slice none 0 0] c1 26 rfl rfl rfl rfl HK.out.two.snd (tuSize HC.out.1) HC.out.1.symm HC.out.2 ⟨_, by simp [Act.put]; rfl, hK _ _ ⟨HS.out.setRowOther (by have := HK.out.ge; omega), ?_⟩⟩
    clear hK
    refine wpAnyH_done (by kernel_rfl) ?_ _
    go_wp2
    refine bodyPost_ret (results_tmp_rowT Try.results10 _ _ (w.heap.size + 1) _ _ (0, 0) _ rfl HK.out.two.snd.setRow Try.underlying26 rfl (tuSize HC.out.1)) rfl ?_
    rw [HV.out.1]
    have ag := Agree.row (w := Y0) (g := w.heap.size + 1) (F := G) (fun hx => by have := HK.out.gg _ hx; omega) c1
    exact ⟨_, G, rfl, HK.out.rd.agree ag, HK.out.own.agree ag, below_setRow HK.out.two.bel (by omega) _⟩
  · skip
    go_wp2_with fail
    refine (l11Nums_any _ _ _ ws F2 _ _ _ (HS2.out.1.below HK.out.two.bel) HS2.out.2).mono ?_
    rintro e w' ⟨rfl, hw⟩
    have hw' := hw.symm
    subst hw'
    clear hw
    obtain ⟨d2, hd2⟩ : ∃ d, d = nums ws 1 4 := ⟨_, rfl⟩
    rw [← hd2] at HV ⊢
    clear hd2
    cases d2
    · skip
      go_wp2_with fail
      refine wp_region_held (S := fun W => Blk W X c1 26) (by kernel_rfl) ?_
      change wpAnyH _ _ _ _ _ _ _ _ (World.drew _)
      have BD := (Below.refl w2.heap.size w2).drew
      obtain ⟨Y0, hY0⟩ : ∃ Y, Y = w2.drew := ⟨_, rfl⟩
      rw [← hY0] at BD ⊢
      have HK : Hid (PkH w cs c1 x X G Y0) := HK.out.below BD
      have HS : Hid (Blk Y0 X c1 26) := HK.out.blk
      clear hY0 BD
      refine takeH (o := ?o4) 0 (.agg c1) ?h4 ?r4
      case h4 => simp only [aT, aZ]; rfl
      refine ⟨_, by simp [Act.put]; rfl, by kernel_rfl, by kernel_rfl, by kernel_rfl, fun _ _ _ h => h, (yields_whole 26 _ c1 26 _ rfl rfl rfl Try.underlying26 rfl (tuSize HC.out.1) (fun W hW => hW)), HS.out, ?_⟩
      refine takeH (o := ?o5) 1 (.int .i64 (-1)) ?h5 ?r5
      case h5 => simp only [aT, aS, aZ]; rfl
      refine ⟨_, by simp [Act.put]; rfl, by kernel_rfl, by kernel_rfl, by kernel_rfl, fun _ _ _ h => h, (.inl ⟨rfl, fun W _ => by kernel_rfl⟩), HS.out, ?_⟩
      refine onlyH (o := ?o6) 2 (by kernel_rfl) ?h6 ?r6
      case h6 => simp only [aT, aS, aZ]; rfl
      intro K hK
      refine op_store 26 (w.heap.size + 1) #[.int .i64 0, .bool false, .slice none 0 0] c1 26 rfl rfl rfl rfl HK.out.two.snd (tuSize HC.out.1) HC.out.1.symm HC.out.2 ⟨_, by simp [Act.put]; rfl, hK _ _ ⟨HS.out.setRowOther (by have := HK.out.ge; omega), ?_⟩⟩
      clear hK
      refine wpAnyH_done (by kernel_rfl) ?_ _
      go_wp2
      refine bodyPost_ret (results_tmp_rowT Try.results10 _ _ (w.heap.size + 1) _ _ (0, 0) _ rfl HK.out.two.snd.setRow Try.underlying26 rfl (tuSize HC.out.1)) rfl ?_
      rw [HV.out.1]
      have ag := Agree.row (w := Y0) (g := w.heap.size + 1) (F := G) (fun hx => by have := HK.out.gg _ hx; omega) c1
      exact ⟨_, G, rfl, HK.out.rd.agree ag, HK.out.own.agree ag, below_setRow HK.out.two.bel (by omega) _⟩
    · skip
      go_wp2_with fail
      refine (l1In_any _ _ _ _).mono ?_
      rintro e w' ⟨rfl, hw⟩
      have hw' := hw.symm
      subst hw'
      clear hw
      obtain ⟨d3, hd3⟩ : ∃ d, d = decide (1 ≤ q ∧ q ≤ 60) := ⟨_, rfl⟩
      rw [← hd3] at HV ⊢
      clear hd3
      cases d3
      · skip
        go_wp2_with fail
        refine wp_region_held (S := fun W => Blk W X c1 26) (by kernel_rfl) ?_
        change wpAnyH _ _ _ _ _ _ _ _ (World.drew _)
        have BD := (Below.refl w2.heap.size w2).drew
        obtain ⟨Y0, hY0⟩ : ∃ Y, Y = w2.drew := ⟨_, rfl⟩
        rw [← hY0] at BD ⊢
        have HK : Hid (PkH w cs c1 x X G Y0) := HK.out.below BD
        have HS : Hid (Blk Y0 X c1 26) := HK.out.blk
        clear hY0 BD
        refine takeH (o := ?o7) 0 (.agg c1) ?h7 ?r7
        case h7 => simp only [aT, aZ]; rfl
        refine ⟨_, by simp [Act.put]; rfl, by kernel_rfl, by kernel_rfl, by kernel_rfl, fun _ _ _ h => h, (yields_whole 26 _ c1 26 _ rfl rfl rfl Try.underlying26 rfl (tuSize HC.out.1) (fun W hW => hW)), HS.out, ?_⟩
        refine takeH (o := ?o8) 1 (.int .i64 (-1)) ?h8 ?r8
        case h8 => simp only [aT, aS, aZ]; rfl
        refine ⟨_, by simp [Act.put]; rfl, by kernel_rfl, by kernel_rfl, by kernel_rfl, fun _ _ _ h => h, (.inl ⟨rfl, fun W _ => by kernel_rfl⟩), HS.out, ?_⟩
        refine onlyH (o := ?o9) 2 (by kernel_rfl) ?h9 ?r9
        case h9 => simp only [aT, aS, aZ]; rfl
        intro K hK
        refine op_store 26 (w.heap.size + 1) #[.int .i64 0, .bool false, .slice none 0 0] c1 26 rfl rfl rfl rfl HK.out.two.snd (tuSize HC.out.1) HC.out.1.symm HC.out.2 ⟨_, by simp [Act.put]; rfl, hK _ _ ⟨HS.out.setRowOther (by have := HK.out.ge; omega), ?_⟩⟩
        clear hK
        refine wpAnyH_done (by kernel_rfl) ?_ _
        go_wp2
        refine bodyPost_ret (results_tmp_rowT Try.results10 _ _ (w.heap.size + 1) _ _ (0, 0) _ rfl HK.out.two.snd.setRow Try.underlying26 rfl (tuSize HC.out.1)) rfl ?_
        rw [HV.out.1]
        have ag := Agree.row (w := Y0) (g := w.heap.size + 1) (F := G) (fun hx => by have := HK.out.gg _ hx; omega) c1
        exact ⟨_, G, rfl, HK.out.rd.agree ag, HK.out.own.agree ag, below_setRow HK.out.two.bel (by omega) _⟩
      · skip
        go_wp2_with (first | go_skip | (with_reducible refine stopLoad 26 rfl ?_) | (with_reducible refine stopStore 26 rfl ?_))
        refine load_any 26 w.heap.size cs 26 _ HK.out.two.fst rfl rfl rfl Try.underlying26 rfl (tuSize HT.out.2.2) ?_
        go_wp2_with fail
        refine (turnOkSpec_any _ x F _ (HT.out.1.below HK.out.two.bel) HT.out.2.1.wide).mono ?_
        rintro e w3 ⟨rfl, hb⟩
        have HK : Hid (PkH w cs c1 x X G w3) := HK.out.below hb
        clear hb
        obtain ⟨d4, hd4⟩ : ∃ d, d = x.ok := ⟨_, rfl⟩
        rw [← hd4] at HV ⊢
        clear hd4
        cases d4
        · skip
          go_wp2_with fail
          refine wp_region_held (S := fun W => Blk W X c1 26) (by kernel_rfl) ?_
          change wpAnyH _ _ _ _ _ _ _ _ (World.drew _)
          have BD := (Below.refl w3.heap.size w3).drew
          obtain ⟨Y0, hY0⟩ : ∃ Y, Y = w3.drew := ⟨_, rfl⟩
          rw [← hY0] at BD ⊢
          have HK : Hid (PkH w cs c1 x X G Y0) := HK.out.below BD
          have HS : Hid (Blk Y0 X c1 26) := HK.out.blk
          clear hY0 BD
          refine takeH (o := ?o10) 0 (.agg c1) ?h10 ?r10
          case h10 => simp only [aT, aZ]; rfl
          refine ⟨_, by simp [Act.put]; rfl, by kernel_rfl, by kernel_rfl, by kernel_rfl, fun _ _ _ h => h, (yields_whole 26 _ c1 26 _ rfl rfl rfl Try.underlying26 rfl (tuSize HC.out.1) (fun W hW => hW)), HS.out, ?_⟩
          refine takeH (o := ?o11) 1 (.int .i64 (-1)) ?h11 ?r11
          case h11 => simp only [aT, aS, aZ]; rfl
          refine ⟨_, by simp [Act.put]; rfl, by kernel_rfl, by kernel_rfl, by kernel_rfl, fun _ _ _ h => h, (.inl ⟨rfl, fun W _ => by kernel_rfl⟩), HS.out, ?_⟩
          refine onlyH (o := ?o12) 2 (by kernel_rfl) ?h12 ?r12
          case h12 => simp only [aT, aS, aZ]; rfl
          intro K hK
          refine op_store 26 (w.heap.size + 1) #[.int .i64 0, .bool false, .slice none 0 0] c1 26 rfl rfl rfl rfl HK.out.two.snd (tuSize HC.out.1) HC.out.1.symm HC.out.2 ⟨_, by simp [Act.put]; rfl, hK _ _ ⟨HS.out.setRowOther (by have := HK.out.ge; omega), ?_⟩⟩
          clear hK
          refine wpAnyH_done (by kernel_rfl) ?_ _
          go_wp2
          refine bodyPost_ret (results_tmp_rowT Try.results10 _ _ (w.heap.size + 1) _ _ (0, 0) _ rfl HK.out.two.snd.setRow Try.underlying26 rfl (tuSize HC.out.1)) rfl ?_
          rw [HV.out.1]
          have ag := Agree.row (w := Y0) (g := w.heap.size + 1) (F := G) (fun hx => by have := HK.out.gg _ hx; omega) c1
          exact ⟨_, G, rfl, HK.out.rd.agree ag, HK.out.own.agree ag, below_setRow HK.out.two.bel (by omega) _⟩
        · exact absurd HV.out.2 (by simp)
set_option maxRecDepth 200000 in
set_option maxHeartbeats 16000000 in
theorem pick_spec_good (a1 a2 : Option Addr) (n1 k1 n2 k2 : Nat) (ss ws : List Int) (F1 F2 : List Nat) (q : Int) (v : Value) (x : Tu) (F : List Nat) (w : World) (h1 : RdI w a1 n1 ss F1) (h2 : RdI w a2 n2 ws F2) (h3 : RdTu w v x F) (hl1 : n1 ≤ 1048576) (hl2 : n2 ≤ 1048576) (hx : x.fits) (hgood : picks ss ws q x = true) :
    Calls Try.prog 10 #[.slice a1 n1 k1, .slice a2 n2 k2, .int .i64 q, v] w fun e w' => NewPick w (pick ss ws q x) e w' := by
  have HS1 : Hid (RdI w a1 n1 ss F1 ∧ n1 ≤ 140737488355328) := ⟨h1, by omega⟩
  have HS2 : Hid (RdI w a2 n2 ws F2 ∧ n2 ≤ 140737488355328) := ⟨h2, by omega⟩
  obtain ⟨cs, rfl, hz, _⟩ := h3.cells
  have HT : Hid (RdTu w (.agg cs) x F ∧ x.fits ∧ cs.size = 3) := ⟨h3, hx, hz⟩
  have HB : Hid (Two w cs #[.int .i64 0, .bool false, .slice none 0 0] 26 ((w.alloc (.cells cs 26)).alloc (.cells #[.int .i64 0, .bool false, .slice none 0 0] 26))) := Two.made w _ _ _
  obtain ⟨e1, e2, e3, e4⟩ := picks_all hgood
  have hn1 : n1 = 3 := by rw [← h1.length]; exact (nums_iff.1 e1).1
  have hn2 : n2 = 3 := by rw [← h2.length]; exact (nums_iff.1 e2).1
  subst hn1 hn2
  obtain ⟨b1, o1, rfl, rfl⟩ := h1.single (by omega)
  obtain ⟨b2, o2, rfl, rfl⟩ := h2.single (by omega)
  have HE : Hid (nums ss 0 200 = true ∧ nums ws 1 4 = true ∧ decide (1 ≤ q ∧ q ≤ 60) = true ∧ x.ok = true ∧ picks ss ws q x = true) := ⟨e1, e2, e3, e4, hgood⟩
  have hq : 1 ≤ q ∧ q ≤ 60 := of_decide_eq_true e3
  clear e1 e2 e3 e4 hgood
  clear h1 h2 h3 hx hz hl1 hl2
  go_enter Try.func10, Try.ntmps10
  go_wp2_with (first | go_skip | (with_reducible refine stopLoad 26 rfl ?_) | (with_reducible refine stopStore 26 rfl ?_))
  refine load_known 26 w.heap.size cs 26 _ HB.out.fst rfl rfl rfl Try.underlying26 rfl (tuSize HT.out.2.2) ?_
  go_wp2_with fail
  refine (l11Copy_any _ x F _ (HT.out.1.below HB.out.bel) HT.out.2.1).mono ?_
  rintro e w1 ⟨v1, G, rfl, r1, o1, b1⟩
  obtain ⟨c1, rfl, z1, n1'⟩ := r1.cells
  have H1 : Hid (Two w cs #[.int .i64 0, .bool false, .slice none 0 0] 26 w1 ∧ RdTu w1 (.agg c1) x G ∧ (∀ b ∈ G, w.heap.size + 2 ≤ b) ∧ Own w.heap.size w1 G ∧ w.heap.size + 2 ≤ w1.heap.size) := ⟨HB.out.below b1, r1, fun b hb => Nat.le_trans HB.out.snd.lt (o1.ge b hb), o1.mono HB.out.bel.size, Nat.le_trans HB.out.snd.lt b1.size⟩
  have HC : Hid (c1.size = 3 ∧ c1.all (·.oneCell') = true) := ⟨z1, n1'⟩
  clear r1 o1 b1 z1 n1' HB
  go_wp2_with (first | go_skip | (with_reducible refine stopLoad 26 rfl ?_) | (with_reducible refine stopStore 26 rfl ?_))
  refine store_fresh 26 w1.heap.size rfl #[.int .i64 0, .bool false, .slice none 0 0] c1 26 rfl rfl rfl rfl (tuSize HC.out.1) HC.out.1.symm HC.out.2 ?_
  intro w2 hg hb
  have HK : Hid (PkH w cs c1 x w1.heap.size G w2) := ⟨H1.out.1.below hb, hg, H1.out.2.1.below hb, H1.out.2.2.2.1.below H1.out.2.1.lt hb, H1.out.2.2.2.2, H1.out.2.2.1, fun hx => by have := H1.out.2.1.lt _ hx; omega⟩
  obtain ⟨X, hX⟩ : ∃ X, X = w1.heap.size := ⟨_, rfl⟩
  rw [← hX] at HK ⊢
  clear hg hb H1 hX
  go_wp2_with fail
  refine (l11Nums_any _ _ _ ss [b1] _ _ _ (HS1.out.1.below HK.out.two.bel) HS1.out.2).mono ?_
  rintro e w' ⟨rfl, hw⟩
  have hw' := hw.symm
  subst hw'
  clear hw
  rw [HE.out.1]
  go_wp2_with fail
  refine (l11Nums_any _ _ _ ws [b2] _ _ _ (HS2.out.1.below HK.out.two.bel) HS2.out.2).mono ?_
  rintro e w' ⟨rfl, hw⟩
  have hw' := hw.symm
  subst hw'
  clear hw
  rw [HE.out.2.1]
  go_wp2_with fail
  refine (l1In_any _ _ _ _).mono ?_
  rintro e w' ⟨rfl, hw⟩
  have hw' := hw.symm
  subst hw'
  clear hw
  rw [HE.out.2.2.1]
  go_wp2_with (first | go_skip | (with_reducible refine stopLoad 26 rfl ?_) | (with_reducible refine stopStore 26 rfl ?_))
  refine load_any 26 w.heap.size cs 26 _ HK.out.two.fst rfl rfl rfl Try.underlying26 rfl (tuSize HT.out.2.2) ?_
  go_wp2_with fail
  refine (turnOkSpec_any _ x F _ (HT.out.1.below HK.out.two.bel) HT.out.2.1.wide).mono ?_
  rintro e w3 ⟨rfl, hb⟩
  have HK : Hid (PkH w cs c1 x X G w3) := HK.out.below hb
  clear hb
  rw [HE.out.2.2.2.1]
  go_wp2_with fail
  refine (l11Nums_any _ _ _ ss [b1] _ _ _ (HS1.out.1.below HK.out.two.bel) HS1.out.2).mono ?_
  rintro e w' ⟨rfl, hw⟩
  have hw' := hw.symm
  subst hw'
  clear hw
  obtain ⟨z, hz⟩ : ∃ z, z = nums ss 0 0 := ⟨_, rfl⟩
  rw [← hz]
  have HZ : Hid (z = nums ss 0 0) := hz
  clear hz
  cases z
  rotate_left
  · skip
    have HV : Hid (pick ss ws q x = (-1, Tu.new)) := pick_zero HE.out.2.2.2.2 HZ.out.symm
    go_wp2_with fail
    refine (turnNewSpec_any _).mono ?_
    rintro e w5 ⟨v5, G5, rfl, r5, o5, b5⟩
    obtain ⟨c5, rfl, z5, n5⟩ := r5.cells
    have H5 : Hid (Two w cs #[.int .i64 0, .bool false, .slice none 0 0] 26 w5 ∧ RdTu w5 (.agg c5) Tu.new G5 ∧ Own w.heap.size w5 G5 ∧ c5.size = 3 ∧ c5.all (·.oneCell') = true ∧ ∀ b ∈ G5, w.heap.size + 2 ≤ b) := ⟨HK.out.two.below b5, r5, o5.mono HK.out.two.bel.size, z5, n5, fun b hb => Nat.le_trans HK.out.two.snd.lt (o5.ge b hb)⟩
    clear r5 o5 b5 z5 n5
    go_wp2_with (first | go_skip | (with_reducible refine stopLoad 26 rfl ?_) | (with_reducible refine stopStore 26 rfl ?_))
    refine store_known 26 (w.heap.size + 1) _ c5 26 H5.out.1.snd rfl rfl rfl rfl (tuSize H5.out.2.2.2.1) H5.out.2.2.2.1.symm H5.out.2.2.2.2.1 ?_
    go_wp2
    refine bodyPost_ret (results_tmp_rowT Try.results10 _ _ (w.heap.size + 1) _ _ (0, 0) _ rfl H5.out.1.snd.setRow Try.underlying26 rfl (tuSize H5.out.2.2.2.1)) rfl ?_
    rw [HV.out]
    have ag := Agree.row (w := w5) (g := w.heap.size + 1) (F := G5) (fun hx => by have := H5.out.2.2.2.2.2 _ hx; omega) c5
    exact ⟨_, G5, rfl, H5.out.2.1.agree ag, H5.out.2.2.1.agree ag, below_setRow H5.out.1.bel (by omega) _⟩
  have HV : Hid (pick ss ws q x = ((pickN ss ws q 20000 x).who, pickN ss ws q 20000 x)) := pick_some HE.out.2.2.2.2 HZ.out.symm
  have HI : Hid (PickIn ss ws q x) := picks_in HE.out.2.2.2.2 HZ.out.symm
  obtain ⟨l0, l1, l2, hl3, _⟩ := ok_three HE.out.2.2.2.1
  obtain ⟨L, off, cap, hc1, hpv⟩ : ∃ L off cap, c1 = #[.int .i64 x.who, .bool x.fresh, .slice (some ⟨L, off, none⟩) 3 cap] ∧ PV w3 (w.heap.size + 2) X L off cap x := by
    obtain ⟨bb, ll, cc, he, hR⟩ := HK.out.rd
    obtain rfl : ll = 3 := by rw [← hR.length, hl3]; rfl
    obtain ⟨L, off, rfl, rfl⟩ := hR.single (by omega)
    injection he with he
    exact ⟨L, off, cc, he, by have := HK.out.blk; rw [he] at this; exact this, hR, ⟨HK.out.own.nodup, HK.out.own.free, HK.out.gg⟩, fun e => HK.out.ne (e ▸ by simp), HK.out.ge⟩
  have HP : Hid (PV w3 (w.heap.size + 2) X L off cap x ∧ Blk w3 (w.heap.size + 1) #[.int .i64 0, .bool false, .slice none 0 0] 26 ∧ Below w.heap.size w w3) := ⟨hpv, HK.out.two.snd, HK.out.two.bel⟩
  clear hl3 hc1 hpv HC HK HT
  go_wp2_with fail
  go_loopg [35] 20000 (fun g _ wr => ∃ y, Hid (PickIn ss ws q y ∧ y.mu ss < g ∧ pickN ss ws q g y = pickN ss ws q 20000 x ∧ PV wr (w.heap.size + 2) X L off cap y ∧ Below w.heap.size w wr ∧ Blk wr (w.heap.size + 1) #[.int .i64 0, .bool false, .slice none 0 0] 26))
  case atStart => exact ⟨x, HI.out, mu_le HI.out.ok, rfl, HP.out.1, HP.out.2.2, HP.out.2.1⟩
  case round =>
    clear HP HI
    obtain ⟨y, HY⟩ := hrel
    obtain ⟨yk, yf, ys⟩ := y
    obtain ⟨m0, m1, m2, hm, hm0, hm1, hm2, hk0⟩ := ok_three HY.out.1.ok
    obtain ⟨k, rfl⟩ : ∃ k : Nat, yk = k := ⟨yk.toNat, by have := hk0.1; simp only at this; omega⟩
    have hk3 : k < 3 := by have := hk0.2; simp only at this; omega
    have HR : Hid (0 ≤ ys.getD k 0 ∧ ys.getD k 0 ≤ 1000) := by
      have hm' : ys = [m0, m1, m2] := hm
      subst hm'
      show _ ∧ _
      match k, hk3 with
      | 0, _ => exact hm0
      | 1, _ => exact hm1
      | 2, _ => exact hm2
    clear hm hm0 hm1 hm2 hk0
    obtain ⟨s, hs⟩ : ∃ s, s = ss.getD k 0 := ⟨_, rfl⟩
    obtain ⟨wt, hwt⟩ : ∃ s, s = ws.getD k 0 := ⟨_, rfl⟩
    obtain ⟨sh, hsh⟩ : ∃ s, s = q * wt := ⟨_, rfl⟩
    have hsr : 0 ≤ s ∧ s ≤ 200 := by
      obtain ⟨p1, p2⟩ := nums_iff.1 HE.out.1
      rw [hs]; exact p2 _ (mem_getD (by omega))
    have hwr : 1 ≤ wt ∧ wt ≤ 4 := by
      obtain ⟨p1, p2⟩ := nums_iff.1 HE.out.2.1
      rw [hwt]; exact p2 _ (mem_getD (by omega))
    have hshr : 1 ≤ sh ∧ sh ≤ 240 := by rw [hsh]; exact share_range hq hwr
    have hmul : q * wt = sh := hsh.symm
    have hwp : IntKind.i64.wrap sh = sh := by simp [IntKind.wrap, IntKind.bits, IntKind.signed]; omega
    have HQ : Hid (s = ss.getD k 0 ∧ wt = ws.getD k 0 ∧ sh = q * wt) := ⟨hs, hwt, hsh⟩
    have HAT : Hid (Tu.at ⟨(k : Int), yf, ys⟩ ss ws q = Tu.step ⟨(k : Int), yf, ys⟩ s sh) := by
      show _ = _; unfold Tu.at; simp only [Int.toNat_natCast]; rw [← hs, ← hwt, hmul]
    have HCS : Hid (wr.cell? ⟨b1, o1 + k, none⟩ = some (.int .i64 s) ∧ wr.cell? ⟨b2, o2 + k, none⟩ = some (.int .i64 wt)) := ⟨by rw [hs]; exact (HS1.out.1.below HY.out.2.2.2.2.1).at k hk3, by rw [hwt]; exact (HS2.out.1.below HY.out.2.2.2.2.1).at k hk3⟩
    clear hs hwt hsh
    obtain ⟨g, hg⟩ : ∃ g, gk = g + 1 := ⟨gk - 1, by have := HY.out.2.1; omega⟩
    subst hg
    have hI : (k : Int) < 3 := by omega
    have HPA : Hid (PickIn ss ws q ⟨(k : Int), yf, ys⟩ ∧ Tu.mu ⟨(k : Int), yf, ys⟩ ss < g + 1 ∧ pickN ss ws q (g + 1) ⟨(k : Int), yf, ys⟩ = pickN ss ws q 20000 x) := ⟨HY.out.1, HY.out.2.1, HY.out.2.2.1⟩
    have HA : Hid (PV wr (w.heap.size + 2) X L off cap ⟨(k : Int), yf, ys⟩ ∧ Below w.heap.size w wr ∧ Blk wr (w.heap.size + 1) #[.int .i64 0, .bool false, .slice none 0 0] 26) := HY.out.2.2.2
    have S4 : ∀ W f zs, PV W (w.heap.size + 2) X L off cap ⟨(k : Int), f, zs⟩ → Below w.heap.size w W → W.cell? ⟨X, 0, none⟩ = some (.int .i64 (k : Int)) ∧ W.cell? ⟨X, 2, none⟩ = some (.slice (some ⟨L, off, none⟩) 3 cap) ∧ W.cell? ⟨b1, o1 + k, none⟩ = some (.int .i64 s) ∧ W.cell? ⟨b2, o2 + k, none⟩ = some (.int .i64 wt) := by
      intro W f zs h b
      refine ⟨h.blk.cell 0, h.blk.cell 2, ?_, ?_⟩
      · rw [HQ.out.1]; exact (HS1.out.1.below b).at k hk3
      · rw [HQ.out.2.1]; exact (HS2.out.1.below b).at k hk3
    have HS4 : Hid (∀ W f zs, PV W (w.heap.size + 2) X L off cap ⟨(k : Int), f, zs⟩ → Below w.heap.size w W → W.cell? ⟨X, 0, none⟩ = some (.int .i64 (k : Int)) ∧ W.cell? ⟨X, 2, none⟩ = some (.slice (some ⟨L, off, none⟩) 3 cap) ∧ W.cell? ⟨b1, o1 + k, none⟩ = some (.int .i64 s) ∧ W.cell? ⟨b2, o2 + k, none⟩ = some (.int .i64 wt)) := S4
    have hNX : ∀ z : Tu × Bool, z = Tu.step ⟨(k : Int), yf, ys⟩ s sh → z.2 = false → ∀ m, m = ((k : Int) + 1) % 3 → PickIn ss ws q ⟨m, true, z.1.left⟩ ∧ Tu.mu ⟨m, true, z.1.left⟩ ss < g ∧ pickN ss ws q g ⟨m, true, z.1.left⟩ = pickN ss ws q 20000 x := by
      intro z hz hb m hm
      have hn : (Tu.at ⟨(k : Int), yf, ys⟩ ss ws q).2 = false := by rw [HAT.out, ← hz]; exact hb
      have hnx : (Tu.at ⟨(k : Int), yf, ys⟩ ss ws q).1.next = ⟨m, true, z.1.left⟩ := by rw [HAT.out, ← hz, hm]; unfold Tu.next; rw [hz, step_who]
      obtain ⟨p1, p2⟩ := step_mu HPA.out.1 hn
      have p3 := HPA.out.2.2
      rw [pickN_no hn] at p3
      rw [hnx] at p1 p2 p3
      exact ⟨p2, by have := HPA.out.2.1; omega, p3⟩
    have HNX : Hid (∀ z : Tu × Bool, z = Tu.step ⟨(k : Int), yf, ys⟩ s sh → z.2 = false → ∀ m, m = ((k : Int) + 1) % 3 → PickIn ss ws q ⟨m, true, z.1.left⟩ ∧ Tu.mu ⟨m, true, z.1.left⟩ ss < g ∧ pickN ss ws q g ⟨m, true, z.1.left⟩ = pickN ss ws q 20000 x) := hNX
    clear S4 hNX HY HCS
    obtain ⟨c0, c2, cs1, cw1⟩ := HS4.out _ _ _ HA.out.1 HA.out.2.1
    by_cases h0 : s = 0
    · have h0' : (s == 0) = true := by simpa using h0
      have HE0 : Hid (Tu.step ⟨(k : Int), yf, ys⟩ s sh = (⟨(k : Int), yf, ys.set k 0⟩, false)) := by show _ = _; unfold Tu.step; rw [if_pos h0]; simp
      have ca := HA.out.1.cellAt k hk3
      have cf := HA.out.1.frozenAt k
      have e1 := HA.out.1.el k hk3 0
      have HB1 : Hid (PV (wr.setCell ⟨L, off + k, none⟩ (.int .i64 0)) (w.heap.size + 2) X L off cap ⟨(k : Int), yf, (ys.set k 0)⟩ ∧ Below w.heap.size w (wr.setCell ⟨L, off + k, none⟩ (.int .i64 0)) ∧ Blk (wr.setCell ⟨L, off + k, none⟩ (.int .i64 0)) (w.heap.size + 1) #[.int .i64 0, .bool false, .slice none 0 0] 26) := ⟨e1, HA.out.2.1.setCell (by have := HA.out.1.ge2; show w.heap.size ≤ L; omega) _, HA.out.2.2.setOther (by have := HA.out.1.ge2; omega) _ _⟩
      clear h0 e1
      go_wp2_with (first | go_skip | (with_reducible refine stopLoad 26 rfl ?_) | (with_reducible refine stopStore 26 rfl ?_))
      obtain ⟨Wb, hWb⟩ : ∃ W, W = wr.setCell ⟨L, off + k, none⟩ (.int .i64 0) := ⟨_, rfl⟩
      rw [← hWb] at HB1 ⊢
      clear hWb ca cf c0 c2 cs1 cw1
      refine load_known 26 X #[.int .i64 (k : Int), .bool yf, .slice (some ⟨L, off, none⟩) 3 cap] 26 _ HB1.out.1.blk rfl rfl rfl Try.underlying26 rfl infoTuI ?_
      go_wp2_with fail
      refine (l11Next_any (some ⟨L, off, none⟩) 3 cap (k : Int) yf _ (by omega)).mono ?_
      rintro e w5 ⟨rfl, b5⟩
      obtain ⟨m, hm⟩ : ∃ m, m = ((k : Int) + 1) % 3 := ⟨_, rfl⟩
      rw [← hm]
      have HM : Hid (m = ((k : Int) + 1) % 3) := hm
      have H5 : Hid (PV w5 (w.heap.size + 2) X L off cap ⟨(k : Int), yf, (ys.set k 0)⟩ ∧ Below w.heap.size w w5 ∧ Blk w5 (w.heap.size + 1) #[.int .i64 0, .bool false, .slice none 0 0] 26) := ⟨HB1.out.1.below b5, Below.next HB1.out.2.1 b5, HB1.out.2.2.below b5⟩
      clear hm b5
      go_wp2_with (first | go_skip | (with_reducible refine stopLoad 26 rfl ?_) | (with_reducible refine stopStore 26 rfl ?_))
      refine store_known 26 X _ #[.int .i64 m, .bool true, .slice (some ⟨L, off, none⟩) 3 cap] 26 H5.out.1.blk rfl rfl rfl rfl infoTuI rfl (by simp [Value.oneCell']) ?_
      have HN : Hid (PV (w5.setRow X #[.int .i64 m, .bool true, .slice (some ⟨L, off, none⟩) 3 cap]) (w.heap.size + 2) X L off cap ⟨m, true, (ys.set k 0)⟩ ∧ Below w.heap.size w (w5.setRow X #[.int .i64 m, .bool true, .slice (some ⟨L, off, none⟩) 3 cap]) ∧ Blk (w5.setRow X #[.int .i64 m, .bool true, .slice (some ⟨L, off, none⟩) 3 cap]) (w.heap.size + 1) #[.int .i64 0, .bool false, .slice none 0 0] 26) := ⟨H5.out.1.row m true, below_setRow H5.out.2.1 (by have := H5.out.1.ge; omega) _, H5.out.2.2.setRowOther (by have := H5.out.1.ge; omega)⟩
      obtain ⟨w6, hw6⟩ : ∃ W, W = w5.setRow X #[.int .i64 m, .bool true, .slice (some ⟨L, off, none⟩) 3 cap] := ⟨_, rfl⟩
      rw [← hw6] at HN ⊢
      clear hw6 H5
      go_wp2
      go_roundg g
      case measure => omega
      case rel =>
        obtain ⟨p1, p2, p3⟩ := HNX.out _ (HE0.out).symm rfl m HM.out
        exact ⟨⟨m, true, (ys.set k 0)⟩, p1, p2, p3, HN.out.1, HN.out.2.1, HN.out.2.2⟩
    have h0' : (s == 0) = false := by simpa using h0
    have H0 : Hid (¬ s = 0) := h0
    have c1 := HA.out.1.blk.cell 1
    simp only [aT, aS, aZ] at c1
    clear h0
    cases yf
    · skip
      obtain ⟨lv, hlv⟩ : ∃ l, l = ys.getD k 0 := ⟨_, rfl⟩
      have hlr : 0 ≤ lv ∧ lv ≤ 1000 := by rw [hlv]; exact HR.out
      have HLV : Hid (ys.getD k 0 = lv) := hlv.symm
      have HST : Hid (Tu.step ⟨(k : Int), false, ys⟩ s sh = if s ≤ lv then (⟨(k : Int), false, ys.set k (lv - s)⟩, true) else (⟨(k : Int), false, ys⟩, false)) := by
        show _ = _; unfold Tu.step; rw [if_neg H0.out]
        simp only [Int.toNat_natCast, Bool.false_eq_true, if_false]
        rw [← hlv, set_same ys k lv hlv]
      clear hlv
      go_wp2_with fail
      obtain ⟨Wc, hWc⟩ : ∃ W, W = wr := ⟨_, rfl⟩
      rw [← hWc] at HA ⊢
      have HC : Hid (PV Wc (w.heap.size + 2) X L off cap ⟨(k : Int), false, ys⟩ ∧ Below w.heap.size w Wc ∧ Blk Wc (w.heap.size + 1) #[.int .i64 0, .bool false, .slice none 0 0] 26) := HA.out
      clear hWc HA c0 c1 c2 cs1 cw1
      by_cases hle : s ≤ lv
      rotate_left
      · skip
        have hld : decide (s ≤ lv) = false := dec_false hle
        have HE1 : Hid (Tu.step ⟨(k : Int), false, ys⟩ s sh = (⟨(k : Int), false, ys⟩, false)) := by show _ = _; rw [HST.out, if_neg hle]
        refine wp_region_held (S := fun W => (W.cell? ⟨X, 0, none⟩ = some (.int .i64 (k : Int)) ∧ W.cell? ⟨X, 2, none⟩ = some (.slice (some ⟨L, off, none⟩) 3 cap) ∧ W.cell? ⟨b1, o1 + k, none⟩ = some (.int .i64 s) ∧ W.cell? ⟨b2, o2 + k, none⟩ = some (.int .i64 wt)) ∧ W.cell? ⟨L, off + k, none⟩ = some (.int .i64 lv)) (by kernel_rfl) ?_
        change wpAnyH _ _ _ _ _ _ _ _ (World.drew _)
        have BD := (Below.refl Wc.heap.size Wc).drew
        obtain ⟨Y5, hY5⟩ : ∃ Y, Y = Wc.drew := ⟨_, rfl⟩
        rw [← hY5] at BD ⊢
        have HD : Hid (PV Y5 (w.heap.size + 2) X L off cap ⟨(k : Int), false, ys⟩ ∧ Below w.heap.size w Y5 ∧ Blk Y5 (w.heap.size + 1) #[.int .i64 0, .bool false, .slice none 0 0] 26) := ⟨HC.out.1.below BD, Below.next HC.out.2.1 BD, HC.out.2.2.below BD⟩
        have HSS : Hid ((Y5.cell? ⟨X, 0, none⟩ = some (.int .i64 (k : Int)) ∧ Y5.cell? ⟨X, 2, none⟩ = some (.slice (some ⟨L, off, none⟩) 3 cap) ∧ Y5.cell? ⟨b1, o1 + k, none⟩ = some (.int .i64 s) ∧ Y5.cell? ⟨b2, o2 + k, none⟩ = some (.int .i64 wt)) ∧ Y5.cell? ⟨L, off + k, none⟩ = some (.int .i64 lv)) := ⟨HS4.out _ _ _ HD.out.1 HD.out.2.1, by rw [← HLV.out]; exact HD.out.1.cellAt k hk3⟩
        clear hY5 BD HC
        refine takeH (o := ?o13) 0 (.slice (some ⟨b1, o1, none⟩) 3 k1) ?h13 ?r13
        case h13 => simp only [aT, aZ]; rfl
        refine ⟨_, by simp [Act.put]; rfl, by kernel_rfl, by kernel_rfl, by kernel_rfl, fun _ _ _ h => h, (.inl ⟨rfl, fun W _ => by kernel_rfl⟩), HSS.out, ?_⟩
        refine takeH (o := ?o14) 1 (.pointer (some ⟨X, 0, none⟩)) ?h14 ?r14
        case h14 => simp only [aT, aS, aZ]; rfl
        refine ⟨_, by simp [Act.put]; rfl, by kernel_rfl, by kernel_rfl, by kernel_rfl, fun _ _ _ h => h, (.inl ⟨rfl, fun W _ => by go_simp⟩), HSS.out, ?_⟩
        refine takeH (o := ?o15) 2 (.int .i64 (k : Int)) ?h15 ?r15
        case h15 => simp only [aT, aS, aZ]; rfl
        refine ⟨_, by simp [Act.put]; rfl, by kernel_rfl, by kernel_rfl, by kernel_rfl, fun _ _ _ h => h, (.inl ⟨rfl, fun W hW => by have c := hW.1.1; go_simp⟩), HSS.out, ?_⟩
        refine takeH (o := ?o16) 3 (.pointer (some ⟨b1, o1 + k, none⟩)) ?h16 ?r16
        case h16 => simp only [aT, aS, aZ]; rfl
        refine ⟨_, by simp [Act.put]; rfl, by kernel_rfl, by kernel_rfl, by kernel_rfl, fun _ _ _ h => h, (.inl ⟨rfl, fun W _ => by go_simp; first | done | (intro h; omega) | (rw [if_pos (by omega)]; rfl)⟩), HSS.out, ?_⟩
        refine takeH (o := ?o17) 4 (.int .i64 s) ?h17 ?r17
        case h17 => simp only [aT, aS, aZ]; rfl
        refine ⟨_, by simp [Act.put]; rfl, by kernel_rfl, by kernel_rfl, by kernel_rfl, fun _ _ _ h => h, (.inl ⟨rfl, fun W hW => by have c := hW.1.2.2.1; go_simp⟩), HSS.out, ?_⟩
        refine takeH (o := ?o18) 5 (.pointer (some ⟨X, 2, none⟩)) ?h18 ?r18
        case h18 => simp only [aT, aS, aZ]; rfl
        refine ⟨_, by simp [Act.put]; rfl, by kernel_rfl, by kernel_rfl, by kernel_rfl, fun _ _ _ h => h, (.inl ⟨rfl, fun W _ => by go_simp⟩), HSS.out, ?_⟩
        refine takeH (o := ?o19) 6 (.slice (some ⟨L, off, none⟩) 3 cap) ?h19 ?r19
        case h19 => simp only [aT, aS, aZ]; rfl
        refine ⟨_, by simp [Act.put]; rfl, by kernel_rfl, by kernel_rfl, by kernel_rfl, fun _ _ _ h => h, (.inl ⟨rfl, fun W hW => by have c := hW.1.2.1; go_simp⟩), HSS.out, ?_⟩
        refine takeH (o := ?o20) 7 (.pointer (some ⟨X, 0, none⟩)) ?h20 ?r20
        case h20 => simp only [aT, aS, aZ]; rfl
        refine ⟨_, by simp [Act.put]; rfl, by kernel_rfl, by kernel_rfl, by kernel_rfl, fun _ _ _ h => h, (.inl ⟨rfl, fun W _ => by go_simp⟩), HSS.out, ?_⟩
        refine takeH (o := ?o21) 8 (.int .i64 (k : Int)) ?h21 ?r21
        case h21 => simp only [aT, aS, aZ]; rfl
        refine ⟨_, by simp [Act.put]; rfl, by kernel_rfl, by kernel_rfl, by kernel_rfl, fun _ _ _ h => h, (.inl ⟨rfl, fun W hW => by have c := hW.1.1; go_simp⟩), HSS.out, ?_⟩
        refine takeH (o := ?o22) 9 (.pointer (some ⟨L, off + k, none⟩)) ?h22 ?r22
        case h22 => simp only [aT, aS, aZ]; rfl
        refine ⟨_, by simp [Act.put]; rfl, by kernel_rfl, by kernel_rfl, by kernel_rfl, fun _ _ _ h => h, (.inl ⟨rfl, fun W _ => by go_simp; first | done | (intro h; omega) | (rw [if_pos (by omega)]; rfl)⟩), HSS.out, ?_⟩
        refine takeH (o := ?o23) 10 (.int .i64 lv) ?h23 ?r23
        case h23 => simp only [aT, aS, aZ]; rfl
        refine ⟨_, by simp [Act.put]; rfl, by kernel_rfl, by kernel_rfl, by kernel_rfl, fun _ _ _ h => h, (.inl ⟨rfl, fun W hW => by have c := hW.2; go_simp⟩), HSS.out, ?_⟩
        refine takeH (o := ?o24) 11 (.bool false) ?h24 ?r24
        case h24 => simp only [aT, aS, aZ]; rfl
        refine ⟨_, by simp [Act.put]; rfl, by kernel_rfl, by kernel_rfl, by kernel_rfl, fun _ _ _ h => h, (.inl ⟨rfl, fun W _ => by go_simp⟩), HSS.out, ?_⟩
        refine wpAnyH_done (by kernel_rfl) ?_ _
        go_wp2_with (first | go_skip | (with_reducible refine stopLoad 26 rfl ?_) | (with_reducible refine stopStore 26 rfl ?_))
        refine load_known 26 X #[.int .i64 (k : Int), .bool false, .slice (some ⟨L, off, none⟩) 3 cap] 26 _ HD.out.1.blk rfl rfl rfl Try.underlying26 rfl infoTuI ?_
        go_wp2_with fail
        refine (l11Next_any (some ⟨L, off, none⟩) 3 cap (k : Int) false _ (by omega)).mono ?_
        rintro e w5 ⟨rfl, b5⟩
        obtain ⟨m, hm⟩ : ∃ m, m = ((k : Int) + 1) % 3 := ⟨_, rfl⟩
        rw [← hm]
        have HM : Hid (m = ((k : Int) + 1) % 3) := hm
        have H5 : Hid (PV w5 (w.heap.size + 2) X L off cap ⟨(k : Int), false, ys⟩ ∧ Below w.heap.size w w5 ∧ Blk w5 (w.heap.size + 1) #[.int .i64 0, .bool false, .slice none 0 0] 26) := ⟨HD.out.1.below b5, Below.next HD.out.2.1 b5, HD.out.2.2.below b5⟩
        clear hm b5
        go_wp2_with (first | go_skip | (with_reducible refine stopLoad 26 rfl ?_) | (with_reducible refine stopStore 26 rfl ?_))
        refine store_known 26 X _ #[.int .i64 m, .bool true, .slice (some ⟨L, off, none⟩) 3 cap] 26 H5.out.1.blk rfl rfl rfl rfl infoTuI rfl (by simp [Value.oneCell']) ?_
        have HN : Hid (PV (w5.setRow X #[.int .i64 m, .bool true, .slice (some ⟨L, off, none⟩) 3 cap]) (w.heap.size + 2) X L off cap ⟨m, true, ys⟩ ∧ Below w.heap.size w (w5.setRow X #[.int .i64 m, .bool true, .slice (some ⟨L, off, none⟩) 3 cap]) ∧ Blk (w5.setRow X #[.int .i64 m, .bool true, .slice (some ⟨L, off, none⟩) 3 cap]) (w.heap.size + 1) #[.int .i64 0, .bool false, .slice none 0 0] 26) := ⟨H5.out.1.row m true, below_setRow H5.out.2.1 (by have := H5.out.1.ge; omega) _, H5.out.2.2.setRowOther (by have := H5.out.1.ge; omega)⟩
        obtain ⟨w6, hw6⟩ : ∃ W, W = w5.setRow X #[.int .i64 m, .bool true, .slice (some ⟨L, off, none⟩) 3 cap] := ⟨_, rfl⟩
        rw [← hw6] at HN ⊢
        clear hw6 H5
        go_wp2
        go_roundg g
        case measure => omega
        case rel =>
          obtain ⟨p1, p2, p3⟩ := HNX.out _ (HE1.out).symm rfl m HM.out
          exact ⟨⟨m, true, ys⟩, p1, p2, p3, HN.out.1, HN.out.2.1, HN.out.2.2⟩
      · skip
        have hld : decide (s ≤ lv) = true := dec_true hle
        have HE1 : Hid (Tu.step ⟨(k : Int), false, ys⟩ s sh = (⟨(k : Int), false, ys.set k (lv - s)⟩, true)) := by show _ = _; rw [HST.out, if_pos hle]
        refine wp_region_held (S := fun W => (W.cell? ⟨X, 0, none⟩ = some (.int .i64 (k : Int)) ∧ W.cell? ⟨X, 2, none⟩ = some (.slice (some ⟨L, off, none⟩) 3 cap) ∧ W.cell? ⟨b1, o1 + k, none⟩ = some (.int .i64 s) ∧ W.cell? ⟨b2, o2 + k, none⟩ = some (.int .i64 wt)) ∧ W.cell? ⟨L, off + k, none⟩ = some (.int .i64 lv)) (by kernel_rfl) ?_
        change wpAnyH _ _ _ _ _ _ _ _ (World.drew _)
        have BD := (Below.refl Wc.heap.size Wc).drew
        obtain ⟨Y5, hY5⟩ : ∃ Y, Y = Wc.drew := ⟨_, rfl⟩
        rw [← hY5] at BD ⊢
        have HD : Hid (PV Y5 (w.heap.size + 2) X L off cap ⟨(k : Int), false, ys⟩ ∧ Below w.heap.size w Y5 ∧ Blk Y5 (w.heap.size + 1) #[.int .i64 0, .bool false, .slice none 0 0] 26) := ⟨HC.out.1.below BD, Below.next HC.out.2.1 BD, HC.out.2.2.below BD⟩
        have HSS : Hid ((Y5.cell? ⟨X, 0, none⟩ = some (.int .i64 (k : Int)) ∧ Y5.cell? ⟨X, 2, none⟩ = some (.slice (some ⟨L, off, none⟩) 3 cap) ∧ Y5.cell? ⟨b1, o1 + k, none⟩ = some (.int .i64 s) ∧ Y5.cell? ⟨b2, o2 + k, none⟩ = some (.int .i64 wt)) ∧ Y5.cell? ⟨L, off + k, none⟩ = some (.int .i64 lv)) := ⟨HS4.out _ _ _ HD.out.1 HD.out.2.1, by rw [← HLV.out]; exact HD.out.1.cellAt k hk3⟩
        clear hY5 BD HC
        refine takeH (o := ?o25) 0 (.slice (some ⟨b1, o1, none⟩) 3 k1) ?h25 ?r25
        case h25 => simp only [aT, aZ]; rfl
        refine ⟨_, by simp [Act.put]; rfl, by kernel_rfl, by kernel_rfl, by kernel_rfl, fun _ _ _ h => h, (.inl ⟨rfl, fun W _ => by kernel_rfl⟩), HSS.out, ?_⟩
        refine takeH (o := ?o26) 1 (.pointer (some ⟨X, 0, none⟩)) ?h26 ?r26
        case h26 => simp only [aT, aS, aZ]; rfl
        refine ⟨_, by simp [Act.put]; rfl, by kernel_rfl, by kernel_rfl, by kernel_rfl, fun _ _ _ h => h, (.inl ⟨rfl, fun W _ => by go_simp⟩), HSS.out, ?_⟩
        refine takeH (o := ?o27) 2 (.int .i64 (k : Int)) ?h27 ?r27
        case h27 => simp only [aT, aS, aZ]; rfl
        refine ⟨_, by simp [Act.put]; rfl, by kernel_rfl, by kernel_rfl, by kernel_rfl, fun _ _ _ h => h, (.inl ⟨rfl, fun W hW => by have c := hW.1.1; go_simp⟩), HSS.out, ?_⟩
        refine takeH (o := ?o28) 3 (.pointer (some ⟨b1, o1 + k, none⟩)) ?h28 ?r28
        case h28 => simp only [aT, aS, aZ]; rfl
        refine ⟨_, by simp [Act.put]; rfl, by kernel_rfl, by kernel_rfl, by kernel_rfl, fun _ _ _ h => h, (.inl ⟨rfl, fun W _ => by go_simp; first | done | (intro h; omega) | (rw [if_pos (by omega)]; rfl)⟩), HSS.out, ?_⟩
        refine takeH (o := ?o29) 4 (.int .i64 s) ?h29 ?r29
        case h29 => simp only [aT, aS, aZ]; rfl
        refine ⟨_, by simp [Act.put]; rfl, by kernel_rfl, by kernel_rfl, by kernel_rfl, fun _ _ _ h => h, (.inl ⟨rfl, fun W hW => by have c := hW.1.2.2.1; go_simp⟩), HSS.out, ?_⟩
        refine takeH (o := ?o30) 5 (.pointer (some ⟨X, 2, none⟩)) ?h30 ?r30
        case h30 => simp only [aT, aS, aZ]; rfl
        refine ⟨_, by simp [Act.put]; rfl, by kernel_rfl, by kernel_rfl, by kernel_rfl, fun _ _ _ h => h, (.inl ⟨rfl, fun W _ => by go_simp⟩), HSS.out, ?_⟩
        refine takeH (o := ?o31) 6 (.slice (some ⟨L, off, none⟩) 3 cap) ?h31 ?r31
        case h31 => simp only [aT, aS, aZ]; rfl
        refine ⟨_, by simp [Act.put]; rfl, by kernel_rfl, by kernel_rfl, by kernel_rfl, fun _ _ _ h => h, (.inl ⟨rfl, fun W hW => by have c := hW.1.2.1; go_simp⟩), HSS.out, ?_⟩
        refine takeH (o := ?o32) 7 (.pointer (some ⟨X, 0, none⟩)) ?h32 ?r32
        case h32 => simp only [aT, aS, aZ]; rfl
        refine ⟨_, by simp [Act.put]; rfl, by kernel_rfl, by kernel_rfl, by kernel_rfl, fun _ _ _ h => h, (.inl ⟨rfl, fun W _ => by go_simp⟩), HSS.out, ?_⟩
        refine takeH (o := ?o33) 8 (.int .i64 (k : Int)) ?h33 ?r33
        case h33 => simp only [aT, aS, aZ]; rfl
        refine ⟨_, by simp [Act.put]; rfl, by kernel_rfl, by kernel_rfl, by kernel_rfl, fun _ _ _ h => h, (.inl ⟨rfl, fun W hW => by have c := hW.1.1; go_simp⟩), HSS.out, ?_⟩
        refine takeH (o := ?o34) 9 (.pointer (some ⟨L, off + k, none⟩)) ?h34 ?r34
        case h34 => simp only [aT, aS, aZ]; rfl
        refine ⟨_, by simp [Act.put]; rfl, by kernel_rfl, by kernel_rfl, by kernel_rfl, fun _ _ _ h => h, (.inl ⟨rfl, fun W _ => by go_simp; first | done | (intro h; omega) | (rw [if_pos (by omega)]; rfl)⟩), HSS.out, ?_⟩
        refine takeH (o := ?o35) 10 (.int .i64 lv) ?h35 ?r35
        case h35 => simp only [aT, aS, aZ]; rfl
        refine ⟨_, by simp [Act.put]; rfl, by kernel_rfl, by kernel_rfl, by kernel_rfl, fun _ _ _ h => h, (.inl ⟨rfl, fun W hW => by have c := hW.2; go_simp⟩), HSS.out, ?_⟩
        refine takeH (o := ?o36) 11 (.bool true) ?h36 ?r36
        case h36 => simp only [aT, aS, aZ]; rfl
        refine ⟨_, by simp [Act.put]; rfl, by kernel_rfl, by kernel_rfl, by kernel_rfl, fun _ _ _ h => h, (.inl ⟨rfl, fun W _ => by go_simp⟩), HSS.out, ?_⟩
        refine wpAnyH_done (by kernel_rfl) ?_ _
        go_wp2_with fail
        refine wp_region_held (S := fun W => W.cell? ⟨X, 0, none⟩ = some (.int .i64 (k : Int)) ∧ W.cell? ⟨X, 2, none⟩ = some (.slice (some ⟨L, off, none⟩) 3 cap) ∧ W.cell? ⟨b1, o1 + k, none⟩ = some (.int .i64 s) ∧ W.cell? ⟨b2, o2 + k, none⟩ = some (.int .i64 wt)) (by kernel_rfl) ?_
        change wpAnyH _ _ _ _ _ _ _ _ (World.drew _)
        have BD := (Below.refl Y5.heap.size Y5).drew
        obtain ⟨Y6, hY6⟩ : ∃ Y, Y = Y5.drew := ⟨_, rfl⟩
        rw [← hY6] at BD ⊢
        have HD6 : Hid (PV Y6 (w.heap.size + 2) X L off cap ⟨(k : Int), false, ys⟩ ∧ Below w.heap.size w Y6 ∧ Blk Y6 (w.heap.size + 1) #[.int .i64 0, .bool false, .slice none 0 0] 26) := ⟨HD.out.1.below BD, Below.next HD.out.2.1 BD, HD.out.2.2.below BD⟩
        have HS6 : Hid (Y6.cell? ⟨X, 0, none⟩ = some (.int .i64 (k : Int)) ∧ Y6.cell? ⟨X, 2, none⟩ = some (.slice (some ⟨L, off, none⟩) 3 cap) ∧ Y6.cell? ⟨b1, o1 + k, none⟩ = some (.int .i64 s) ∧ Y6.cell? ⟨b2, o2 + k, none⟩ = some (.int .i64 wt)) := HS4.out _ _ _ HD6.out.1 HD6.out.2.1
        clear hY6 BD HD HSS
        refine takeH (o := ?o37) 0 (.pointer (some ⟨X, 2, none⟩)) ?h37 ?r37
        case h37 => simp only [aT, aZ]; rfl
        refine ⟨_, by simp [Act.put]; rfl, by kernel_rfl, by kernel_rfl, by kernel_rfl, fun _ _ _ h => h, (.inl ⟨rfl, fun W _ => by go_simp⟩), HS6.out, ?_⟩
        refine takeH (o := ?o38) 1 (.slice (some ⟨L, off, none⟩) 3 cap) ?h38 ?r38
        case h38 => simp only [aT, aS, aZ]; rfl
        refine ⟨_, by simp [Act.put]; rfl, by kernel_rfl, by kernel_rfl, by kernel_rfl, fun _ _ _ h => h, (.inl ⟨rfl, fun W hW => by have c := hW.2.1; go_simp⟩), HS6.out, ?_⟩
        refine takeH (o := ?o39) 2 (.pointer (some ⟨X, 0, none⟩)) ?h39 ?r39
        case h39 => simp only [aT, aS, aZ]; rfl
        refine ⟨_, by simp [Act.put]; rfl, by kernel_rfl, by kernel_rfl, by kernel_rfl, fun _ _ _ h => h, (.inl ⟨rfl, fun W _ => by go_simp⟩), HS6.out, ?_⟩
        refine takeH (o := ?o40) 3 (.int .i64 (k : Int)) ?h40 ?r40
        case h40 => simp only [aT, aS, aZ]; rfl
        refine ⟨_, by simp [Act.put]; rfl, by kernel_rfl, by kernel_rfl, by kernel_rfl, fun _ _ _ h => h, (.inl ⟨rfl, fun W hW => by have c := hW.1; go_simp⟩), HS6.out, ?_⟩
        refine takeH (o := ?o41) 4 (.pointer (some ⟨X, 2, none⟩)) ?h41 ?r41
        case h41 => simp only [aT, aS, aZ]; rfl
        refine ⟨_, by simp [Act.put]; rfl, by kernel_rfl, by kernel_rfl, by kernel_rfl, fun _ _ _ h => h, (.inl ⟨rfl, fun W _ => by go_simp⟩), HS6.out, ?_⟩
        refine takeH (o := ?o42) 5 (.slice (some ⟨L, off, none⟩) 3 cap) ?h42 ?r42
        case h42 => simp only [aT, aS, aZ]; rfl
        refine ⟨_, by simp [Act.put]; rfl, by kernel_rfl, by kernel_rfl, by kernel_rfl, fun _ _ _ h => h, (.inl ⟨rfl, fun W hW => by have c := hW.2.1; go_simp⟩), HS6.out, ?_⟩
        refine takeH (o := ?o43) 6 (.pointer (some ⟨X, 0, none⟩)) ?h43 ?r43
        case h43 => simp only [aT, aS, aZ]; rfl
        refine ⟨_, by simp [Act.put]; rfl, by kernel_rfl, by kernel_rfl, by kernel_rfl, fun _ _ _ h => h, (.inl ⟨rfl, fun W _ => by go_simp⟩), HS6.out, ?_⟩
        refine takeH (o := ?o44) 7 (.int .i64 (k : Int)) ?h44 ?r44
        case h44 => simp only [aT, aS, aZ]; rfl
        refine ⟨_, by simp [Act.put]; rfl, by kernel_rfl, by kernel_rfl, by kernel_rfl, fun _ _ _ h => h, (.inl ⟨rfl, fun W hW => by have c := hW.1; go_simp⟩), HS6.out, ?_⟩
        refine takeH (o := ?o45) 8 (.pointer (some ⟨L, off + k, none⟩)) ?h45 ?r45
        case h45 => simp only [aT, aS, aZ]; rfl
        refine ⟨_, by simp [Act.put]; rfl, by kernel_rfl, by kernel_rfl, by kernel_rfl, fun _ _ _ h => h, (.inl ⟨rfl, fun W _ => by go_simp; first | done | (intro h; omega) | (rw [if_pos (by omega)]; rfl)⟩), HS6.out, ?_⟩
        refine takeH (o := ?o46) 10 (.slice (some ⟨b1, o1, none⟩) 3 k1) ?h46 ?r46
        case h46 => simp only [aT, aS, aZ]; rfl
        refine ⟨_, by simp [Act.put]; rfl, by kernel_rfl, by kernel_rfl, by kernel_rfl, fun _ _ _ h => h, (.inl ⟨rfl, fun W _ => by kernel_rfl⟩), HS6.out, ?_⟩
        refine takeH (o := ?o47) 11 (.pointer (some ⟨X, 0, none⟩)) ?h47 ?r47
        case h47 => simp only [aT, aS, aZ]; rfl
        refine ⟨_, by simp [Act.put]; rfl, by kernel_rfl, by kernel_rfl, by kernel_rfl, fun _ _ _ h => h, (.inl ⟨rfl, fun W _ => by go_simp⟩), HS6.out, ?_⟩
        refine takeH (o := ?o48) 12 (.int .i64 (k : Int)) ?h48 ?r48
        case h48 => simp only [aT, aS, aZ]; rfl
        refine ⟨_, by simp [Act.put]; rfl, by kernel_rfl, by kernel_rfl, by kernel_rfl, fun _ _ _ h => h, (.inl ⟨rfl, fun W hW => by have c := hW.1; go_simp⟩), HS6.out, ?_⟩
        refine takeH (o := ?o49) 13 (.pointer (some ⟨b1, o1 + k, none⟩)) ?h49 ?r49
        case h49 => simp only [aT, aS, aZ]; rfl
        refine ⟨_, by simp [Act.put]; rfl, by kernel_rfl, by kernel_rfl, by kernel_rfl, fun _ _ _ h => h, (.inl ⟨rfl, fun W _ => by go_simp; first | done | (intro h; omega) | (rw [if_pos (by omega)]; rfl)⟩), HS6.out, ?_⟩
        refine takeH (o := ?o50) 14 (.int .i64 s) ?h50 ?r50
        case h50 => simp only [aT, aS, aZ]; rfl
        refine ⟨_, by simp [Act.put]; rfl, by kernel_rfl, by kernel_rfl, by kernel_rfl, fun _ _ _ h => h, (.inl ⟨rfl, fun W hW => by have c := hW.2.2.1; go_simp⟩), HS6.out, ?_⟩
        have ca : Y6.cell? ⟨L, off + k, none⟩ = some (.int .i64 lv) := by rw [← HLV.out]; exact HD6.out.1.cellAt k hk3
        have hws : IntKind.i64.wrap (lv - s) = lv - s := by simp [IntKind.wrap, IntKind.bits, IntKind.signed]; omega
        refine onlyH (o := ?o51) 9 (by kernel_rfl) ?h51 ?r51
        case h51 => simp only [aT, aS, aZ]; rfl
        intro K hK
        refine op_value (.int .i64 lv) rfl (by go_simp) ⟨_, by simp [Act.put]; rfl, hK _ _ ⟨HS6.out, ?_⟩⟩
        clear hK
        clear ca
        refine takeH (o := ?o52) 15 (.int .i64 (lv - s)) ?h52 ?r52
        case h52 => simp only [aT, aS, aZ]; rfl
        refine ⟨_, by simp [Act.put]; rfl, by kernel_rfl, by kernel_rfl, by kernel_rfl, fun _ _ _ h => h, (.inl ⟨rfl, fun W _ => by go_simp⟩), HS6.out, ?_⟩
        refine takeH (o := ?o53) 16 (.pointer (some ⟨L, off + k, none⟩)) ?h53 ?r53
        case h53 => simp only [aT, aS, aZ]; rfl
        refine ⟨_, by simp [Act.put]; rfl, by kernel_rfl, by kernel_rfl, by kernel_rfl, fun _ _ _ h => h, (.inl ⟨rfl, fun W _ => by go_simp; first | done | (intro h; omega) | (rw [if_pos (by omega)]; rfl)⟩), HS6.out, ?_⟩
        refine onlyH (o := ?o54) 17 (by kernel_rfl) ?h54 ?r54
        case h54 => simp only [aT, aS, aZ]; rfl
        intro K hK
        have ca : Y6.cell? ⟨L, off + k, none⟩ = some (.int .i64 lv) := by rw [← HLV.out]; exact HD6.out.1.cellAt k hk3
        have cf := HD6.out.1.frozenAt k
        have H7 : Hid (PV (Y6.setCell ⟨L, off + k, none⟩ (.int .i64 (lv - s))) (w.heap.size + 2) X L off cap ⟨(k : Int), false, (ys.set k (lv - s))⟩ ∧ Below w.heap.size w (Y6.setCell ⟨L, off + k, none⟩ (.int .i64 (lv - s))) ∧ Blk (Y6.setCell ⟨L, off + k, none⟩ (.int .i64 (lv - s))) (w.heap.size + 1) #[.int .i64 0, .bool false, .slice none 0 0] 26) := ⟨HD6.out.1.el k hk3 _, HD6.out.2.1.setCell (by have := HD6.out.1.ge2; show w.heap.size ≤ L; omega) _, HD6.out.2.2.setOther (by have := HD6.out.1.ge2; omega) _ _⟩
        refine op_skip (Y6.setCell ⟨L, off + k, none⟩ (.int .i64 (lv - s))) rfl (by go_simp) ⟨_, by simp [Act.put]; rfl, hK _ _ ⟨HS4.out _ _ _ H7.out.1 H7.out.2.1, ?_⟩⟩
        clear hK ca cf
        obtain ⟨Y7, hY7⟩ : ∃ Y, Y = Y6.setCell ⟨L, off + k, none⟩ (.int .i64 (lv - s)) := ⟨_, rfl⟩
        rw [← hY7] at H7 ⊢
        clear hY7 HD6 HS6
        refine wpAnyH_done (by kernel_rfl) ?_ _
        go_wp2_with fail
        refine wp_region_held (S := fun W => Blk W X #[.int .i64 (k : Int), .bool false, .slice (some ⟨L, off, none⟩) 3 cap] 26) (by kernel_rfl) ?_
        change wpAnyH _ _ _ _ _ _ _ _ (World.drew _)
        have BD := (Below.refl Y7.heap.size Y7).drew
        obtain ⟨Y8, hY8⟩ : ∃ Y, Y = Y7.drew := ⟨_, rfl⟩
        rw [← hY8] at BD ⊢
        have H8 : Hid (PV Y8 (w.heap.size + 2) X L off cap ⟨(k : Int), false, (ys.set k (lv - s))⟩ ∧ Below w.heap.size w Y8 ∧ Blk Y8 (w.heap.size + 1) #[.int .i64 0, .bool false, .slice none 0 0] 26) := ⟨H7.out.1.below BD, Below.next H7.out.2.1 BD, H7.out.2.2.below BD⟩
        have HS8 : Hid (Blk Y8 X #[.int .i64 (k : Int), .bool false, .slice (some ⟨L, off, none⟩) 3 cap] 26) := H8.out.1.blk
        clear hY8 BD H7
        refine takeH (o := ?o55) 0 (.pointer (some ⟨X, 0, none⟩)) ?h55 ?r55
        case h55 => simp only [aT, aZ]; rfl
        refine ⟨_, by simp [Act.put]; rfl, by kernel_rfl, by kernel_rfl, by kernel_rfl, fun _ _ _ h => h, (.inl ⟨rfl, fun W _ => by go_simp⟩), HS8.out, ?_⟩
        refine takeH (o := ?o56) 1 (.int .i64 (k : Int)) ?h56 ?r56
        case h56 => simp only [aT, aS, aZ]; rfl
        refine ⟨_, by simp [Act.put]; rfl, by kernel_rfl, by kernel_rfl, by kernel_rfl, fun _ _ _ h => h, (.inl ⟨rfl, fun W hW => by have c := hW.cell 0; simp only [aT, aZ] at c; go_simp⟩), HS8.out, ?_⟩
        refine takeH (o := ?o57) 2 (.agg #[.int .i64 (k : Int), .bool false, .slice (some ⟨L, off, none⟩) 3 cap]) ?h57 ?r57
        case h57 => simp only [aT, aS, aZ]; rfl
        refine ⟨_, by simp [Act.put]; rfl, by kernel_rfl, by kernel_rfl, by kernel_rfl, fun _ _ _ h => h, (yields_whole 26 _ #[.int .i64 (k : Int), .bool false, .slice (some ⟨L, off, none⟩) 3 cap] 26 _ rfl rfl rfl Try.underlying26 rfl infoTuI (fun W hW => hW)), HS8.out, ?_⟩
        refine takeH (o := ?o58) 3 (.int .i64 (k : Int)) ?h58 ?r58
        case h58 => simp only [aT, aS, aZ]; rfl
        refine ⟨_, by simp [Act.put]; rfl, by kernel_rfl, by kernel_rfl, by kernel_rfl, fun _ _ _ h => h, (.inl ⟨rfl, fun W _ => by kernel_rfl⟩), HS8.out, ?_⟩
        refine onlyH (o := ?o59) 4 (by kernel_rfl) ?h59 ?r59
        case h59 => simp only [aT, aS, aZ]; rfl
        intro K hK
        refine op_store 26 (w.heap.size + 1) #[.int .i64 0, .bool false, .slice none 0 0] #[.int .i64 (k : Int), .bool false, .slice (some ⟨L, off, none⟩) 3 cap] 26 rfl rfl rfl rfl H8.out.2.2 infoTuI rfl (by simp [Value.oneCell']) ⟨_, by simp [Act.put]; rfl, hK _ _ ⟨HS8.out.setRowOther (by have := H8.out.1.ge; omega), ?_⟩⟩
        clear hK
        refine wpAnyH_done (by kernel_rfl) ?_ _
        go_wp2
        refine bodyPost_ret (results_tmp_rowT Try.results10 _ _ (w.heap.size + 1) _ _ (0, 0) _ rfl H8.out.2.2.setRow Try.underlying26 rfl infoTuI) rfl ?_
        have p3 := HPA.out.2.2
        rw [pickN_yes (by rw [HAT.out, HE1.out]), HAT.out, HE1.out] at p3
        rw [HV.out, ← p3]
        have ag := Agree.row (w := Y8) (g := w.heap.size + 1) (F := [L]) (fun hx => by have := H8.out.1.ge2; simp at hx; omega) #[.int .i64 (k : Int), .bool false, .slice (some ⟨L, off, none⟩) 3 cap]
        exact ⟨_, [L], rfl, H8.out.1.value.agree ag, (H8.out.1.own.agree ag).mono (by omega), below_setRow H8.out.2.1 (by omega) _⟩
    · skip
      obtain ⟨l, hl⟩ : ∃ l, l = ys.getD k 0 := ⟨_, rfl⟩
      have hlr0 : 0 ≤ l ∧ l ≤ 1000 := by rw [hl]; exact HR.out
      obtain ⟨lv, hlv⟩ : ∃ m, m = min (l + sh) 1000 := ⟨_, rfl⟩
      have hlr : 0 ≤ lv ∧ lv ≤ 1000 := by omega
      have HL0 : Hid (ys.getD k 0 = l ∧ lv = min (l + sh) 1000) := ⟨hl.symm, hlv⟩
      have hwl : IntKind.i64.wrap (l + sh) = l + sh := by simp [IntKind.wrap, IntKind.bits, IntKind.signed]; omega
      clear hl hlv
      go_wp2_with fail
      refine wp_region_held (S := fun W => W.cell? ⟨X, 0, none⟩ = some (.int .i64 (k : Int)) ∧ W.cell? ⟨X, 2, none⟩ = some (.slice (some ⟨L, off, none⟩) 3 cap) ∧ W.cell? ⟨b1, o1 + k, none⟩ = some (.int .i64 s) ∧ W.cell? ⟨b2, o2 + k, none⟩ = some (.int .i64 wt)) (by kernel_rfl) ?_
      change wpAnyH _ _ _ _ _ _ _ _ (World.drew _)
      have BD := (Below.refl wr.heap.size wr).drew
      obtain ⟨Y0, hY0⟩ : ∃ Y, Y = wr.drew := ⟨_, rfl⟩
      rw [← hY0] at BD ⊢
      have HA0 : Hid (PV Y0 (w.heap.size + 2) X L off cap ⟨(k : Int), true, ys⟩ ∧ Below w.heap.size w Y0 ∧ Blk Y0 (w.heap.size + 1) #[.int .i64 0, .bool false, .slice none 0 0] 26) := ⟨HA.out.1.below BD, Below.next HA.out.2.1 BD, HA.out.2.2.below BD⟩
      have HSS : Hid (Y0.cell? ⟨X, 0, none⟩ = some (.int .i64 (k : Int)) ∧ Y0.cell? ⟨X, 2, none⟩ = some (.slice (some ⟨L, off, none⟩) 3 cap) ∧ Y0.cell? ⟨b1, o1 + k, none⟩ = some (.int .i64 s) ∧ Y0.cell? ⟨b2, o2 + k, none⟩ = some (.int .i64 wt)) := HS4.out _ _ _ HA0.out.1 HA0.out.2.1
      clear hY0 BD HA c0 c1 c2 cs1 cw1
      refine takeH (o := ?o60) 0 (.pointer (some ⟨X, 2, none⟩)) ?h60 ?r60
      case h60 => simp only [aT, aZ]; rfl
      refine ⟨_, by simp [Act.put]; rfl, by kernel_rfl, by kernel_rfl, by kernel_rfl, fun _ _ _ h => h, (.inl ⟨rfl, fun W _ => by go_simp⟩), HSS.out, ?_⟩
      refine takeH (o := ?o61) 1 (.slice (some ⟨L, off, none⟩) 3 cap) ?h61 ?r61
      case h61 => simp only [aT, aS, aZ]; rfl
      refine ⟨_, by simp [Act.put]; rfl, by kernel_rfl, by kernel_rfl, by kernel_rfl, fun _ _ _ h => h, (.inl ⟨rfl, fun W hW => by have c := hW.2.1; go_simp⟩), HSS.out, ?_⟩
      refine takeH (o := ?o62) 2 (.pointer (some ⟨X, 0, none⟩)) ?h62 ?r62
      case h62 => simp only [aT, aS, aZ]; rfl
      refine ⟨_, by simp [Act.put]; rfl, by kernel_rfl, by kernel_rfl, by kernel_rfl, fun _ _ _ h => h, (.inl ⟨rfl, fun W _ => by go_simp⟩), HSS.out, ?_⟩
      refine takeH (o := ?o63) 3 (.int .i64 (k : Int)) ?h63 ?r63
      case h63 => simp only [aT, aS, aZ]; rfl
      refine ⟨_, by simp [Act.put]; rfl, by kernel_rfl, by kernel_rfl, by kernel_rfl, fun _ _ _ h => h, (.inl ⟨rfl, fun W hW => by have c := hW.1; go_simp⟩), HSS.out, ?_⟩
      refine takeH (o := ?o64) 4 (.pointer (some ⟨X, 2, none⟩)) ?h64 ?r64
      case h64 => simp only [aT, aS, aZ]; rfl
      refine ⟨_, by simp [Act.put]; rfl, by kernel_rfl, by kernel_rfl, by kernel_rfl, fun _ _ _ h => h, (.inl ⟨rfl, fun W _ => by go_simp⟩), HSS.out, ?_⟩
      refine takeH (o := ?o65) 5 (.slice (some ⟨L, off, none⟩) 3 cap) ?h65 ?r65
      case h65 => simp only [aT, aS, aZ]; rfl
      refine ⟨_, by simp [Act.put]; rfl, by kernel_rfl, by kernel_rfl, by kernel_rfl, fun _ _ _ h => h, (.inl ⟨rfl, fun W hW => by have c := hW.2.1; go_simp⟩), HSS.out, ?_⟩
      refine takeH (o := ?o66) 6 (.pointer (some ⟨X, 0, none⟩)) ?h66 ?r66
      case h66 => simp only [aT, aS, aZ]; rfl
      refine ⟨_, by simp [Act.put]; rfl, by kernel_rfl, by kernel_rfl, by kernel_rfl, fun _ _ _ h => h, (.inl ⟨rfl, fun W _ => by go_simp⟩), HSS.out, ?_⟩
      refine takeH (o := ?o67) 7 (.int .i64 (k : Int)) ?h67 ?r67
      case h67 => simp only [aT, aS, aZ]; rfl
      refine ⟨_, by simp [Act.put]; rfl, by kernel_rfl, by kernel_rfl, by kernel_rfl, fun _ _ _ h => h, (.inl ⟨rfl, fun W hW => by have c := hW.1; go_simp⟩), HSS.out, ?_⟩
      refine takeH (o := ?o68) 8 (.pointer (some ⟨L, off + k, none⟩)) ?h68 ?r68
      case h68 => simp only [aT, aS, aZ]; rfl
      refine ⟨_, by simp [Act.put]; rfl, by kernel_rfl, by kernel_rfl, by kernel_rfl, fun _ _ _ h => h, (.inl ⟨rfl, fun W _ => by go_simp; first | done | (intro h; omega) | (rw [if_pos (by omega)]; rfl)⟩), HSS.out, ?_⟩
      refine takeH (o := ?o69) 10 (.int .i64 q) ?h69 ?r69
      case h69 => simp only [aT, aS, aZ]; rfl
      refine ⟨_, by simp [Act.put]; rfl, by kernel_rfl, by kernel_rfl, by kernel_rfl, fun _ _ _ h => h, (.inl ⟨rfl, fun W _ => by kernel_rfl⟩), HSS.out, ?_⟩
      refine takeH (o := ?o70) 11 (.slice (some ⟨b2, o2, none⟩) 3 k2) ?h70 ?r70
      case h70 => simp only [aT, aS, aZ]; rfl
      refine ⟨_, by simp [Act.put]; rfl, by kernel_rfl, by kernel_rfl, by kernel_rfl, fun _ _ _ h => h, (.inl ⟨rfl, fun W _ => by kernel_rfl⟩), HSS.out, ?_⟩
      refine takeH (o := ?o71) 12 (.pointer (some ⟨X, 0, none⟩)) ?h71 ?r71
      case h71 => simp only [aT, aS, aZ]; rfl
      refine ⟨_, by simp [Act.put]; rfl, by kernel_rfl, by kernel_rfl, by kernel_rfl, fun _ _ _ h => h, (.inl ⟨rfl, fun W _ => by go_simp⟩), HSS.out, ?_⟩
      refine takeH (o := ?o72) 13 (.int .i64 (k : Int)) ?h72 ?r72
      case h72 => simp only [aT, aS, aZ]; rfl
      refine ⟨_, by simp [Act.put]; rfl, by kernel_rfl, by kernel_rfl, by kernel_rfl, fun _ _ _ h => h, (.inl ⟨rfl, fun W hW => by have c := hW.1; go_simp⟩), HSS.out, ?_⟩
      refine takeH (o := ?o73) 14 (.pointer (some ⟨b2, o2 + k, none⟩)) ?h73 ?r73
      case h73 => simp only [aT, aS, aZ]; rfl
      refine ⟨_, by simp [Act.put]; rfl, by kernel_rfl, by kernel_rfl, by kernel_rfl, fun _ _ _ h => h, (.inl ⟨rfl, fun W _ => by go_simp; first | done | (intro h; omega) | (rw [if_pos (by omega)]; rfl)⟩), HSS.out, ?_⟩
      refine takeH (o := ?o74) 15 (.int .i64 wt) ?h74 ?r74
      case h74 => simp only [aT, aS, aZ]; rfl
      refine ⟨_, by simp [Act.put]; rfl, by kernel_rfl, by kernel_rfl, by kernel_rfl, fun _ _ _ h => h, (.inl ⟨rfl, fun W hW => by have c := hW.2.2.2; go_simp⟩), HSS.out, ?_⟩
      refine takeH (o := ?o75) 16 (.int .i64 sh) ?h75 ?r75
      case h75 => simp only [aT, aS, aZ]; rfl
      refine ⟨_, by simp [Act.put]; rfl, by kernel_rfl, by kernel_rfl, by kernel_rfl, fun _ _ _ h => h, (.inl ⟨rfl, fun W _ => by go_simp⟩), HSS.out, ?_⟩
      have ca : Y0.cell? ⟨L, off + k, none⟩ = some (.int .i64 l) := by rw [← HL0.out.1]; exact HA0.out.1.cellAt k hk3
      refine onlyH (o := ?o76) 9 (by kernel_rfl) ?h76 ?r76
      case h76 => simp only [aT, aS, aZ]; rfl
      intro K hK
      refine op_value (.int .i64 l) rfl (by go_simp) ⟨_, by simp [Act.put]; rfl, hK _ _ ⟨HSS.out, ?_⟩⟩
      clear hK
      clear ca
      refine takeH (o := ?o77) 17 (.int .i64 (l + sh)) ?h77 ?r77
      case h77 => simp only [aT, aS, aZ]; rfl
      refine ⟨_, by simp [Act.put]; rfl, by kernel_rfl, by kernel_rfl, by kernel_rfl, fun _ _ _ h => h, (.inl ⟨rfl, fun W _ => by go_simp⟩), HSS.out, ?_⟩
      refine onlyH (o := ?o78) 18 (by kernel_rfl) ?h78 ?r78
      case h78 => simp only [aT, aS, aZ]; rfl
      intro K hK
      refine op_call2 38 _ _ _ Try.f38 (fun w' => w' = Y0) (.int .i64 lv) rfl rfl Try.func38 (by kernel_rfl) (by kernel_rfl) ((l1Min_any (l + sh) 1000 Y0).mono (by rintro e w' ⟨rfl, rfl⟩; exact ⟨by rw [HL0.out.2], rfl⟩)) ⟨_, by simp [Act.put]; rfl, ?_⟩
      intro w' hw'
      have hw2' := hw'.symm
      subst hw2'
      clear hw'
      refine hK _ _ ⟨HSS.out, ?_⟩
      clear hK
      refine takeH (o := ?o79) 19 (.pointer (some ⟨L, off + k, none⟩)) ?h79 ?r79
      case h79 => simp only [aT, aS, aZ]; rfl
      refine ⟨_, by simp [Act.put]; rfl, by kernel_rfl, by kernel_rfl, by kernel_rfl, fun _ _ _ h => h, (.inl ⟨rfl, fun W _ => by go_simp; first | done | (intro h; omega) | (rw [if_pos (by omega)]; rfl)⟩), HSS.out, ?_⟩
      refine onlyH (o := ?o80) 20 (by kernel_rfl) ?h80 ?r80
      case h80 => simp only [aT, aS, aZ]; rfl
      intro K hK
      have ca : Y0.cell? ⟨L, off + k, none⟩ = some (.int .i64 l) := by rw [← HL0.out.1]; exact HA0.out.1.cellAt k hk3
      have cf := HA0.out.1.frozenAt k
      have H1 : Hid (PV (Y0.setCell ⟨L, off + k, none⟩ (.int .i64 lv)) (w.heap.size + 2) X L off cap ⟨(k : Int), true, (ys.set k lv)⟩ ∧ Below w.heap.size w (Y0.setCell ⟨L, off + k, none⟩ (.int .i64 lv)) ∧ Blk (Y0.setCell ⟨L, off + k, none⟩ (.int .i64 lv)) (w.heap.size + 1) #[.int .i64 0, .bool false, .slice none 0 0] 26) := ⟨HA0.out.1.el k hk3 lv, HA0.out.2.1.setCell (by have := HA0.out.1.ge2; show w.heap.size ≤ L; omega) _, HA0.out.2.2.setOther (by have := HA0.out.1.ge2; omega) _ _⟩
      refine op_skip (Y0.setCell ⟨L, off + k, none⟩ (.int .i64 lv)) rfl (by go_simp) ⟨_, by simp [Act.put]; rfl, hK _ _ ⟨HS4.out _ _ _ H1.out.1 H1.out.2.1, ?_⟩⟩
      clear hK ca cf
      obtain ⟨Y1, hY1⟩ : ∃ Y, Y = Y0.setCell ⟨L, off + k, none⟩ (.int .i64 lv) := ⟨_, rfl⟩
      rw [← hY1] at H1 ⊢
      have HLS : Hid (k < ys.length) := by show _ < _; have := HA0.out.1.rd.length; simp only at this; omega
      clear hY1 HA0 HSS
      refine wpAnyH_done (by kernel_rfl) ?_ _
      have c1 := H1.out.1.blk.cell 1
      have f1 := H1.out.1.blk.frozen 1
      simp only [aT, aS, aZ] at c1
      have HC : Hid (PV (Y1.setCell ⟨X, 1, none⟩ (.bool false)) (w.heap.size + 2) X L off cap ⟨(k : Int), false, (ys.set k lv)⟩ ∧ Below w.heap.size w (Y1.setCell ⟨X, 1, none⟩ (.bool false)) ∧ Blk (Y1.setCell ⟨X, 1, none⟩ (.bool false)) (w.heap.size + 1) #[.int .i64 0, .bool false, .slice none 0 0] 26) := ⟨H1.out.1.fr false, H1.out.2.1.setCell (by have := H1.out.1.ge; show w.heap.size ≤ X; omega) _, H1.out.2.2.setOther (by have := H1.out.1.ge; omega) 1 _⟩
      have HLV : Hid ((ys.set k lv).getD k 0 = lv) := by show _ = _; have := HLS.out; simp [this]
      have HST : Hid (Tu.step ⟨(k : Int), true, ys⟩ s sh = if s ≤ lv then (⟨(k : Int), false, (ys.set k lv).set k (lv - s)⟩, true) else (⟨(k : Int), false, ys.set k lv⟩, false)) := by
        show _ = _; unfold Tu.step; rw [if_neg H0.out]
        simp only [Int.toNat_natCast, if_true, List.set_set]
        rw [HL0.out.1, ← HL0.out.2]
      go_upto_region 12 with fail
      obtain ⟨Wc, hWc⟩ : ∃ W, W = Y1.setCell ⟨X, 1, none⟩ (.bool false) := ⟨_, rfl⟩
      rw [← hWc] at HC ⊢
      clear hWc c1 f1 H1
      by_cases hle : s ≤ lv
      rotate_left
      · skip
        have hld : decide (s ≤ lv) = false := dec_false hle
        have HE1 : Hid (Tu.step ⟨(k : Int), true, ys⟩ s sh = (⟨(k : Int), false, (ys.set k lv)⟩, false)) := by show _ = _; rw [HST.out, if_neg hle]
        refine wp_region_held (S := fun W => (W.cell? ⟨X, 0, none⟩ = some (.int .i64 (k : Int)) ∧ W.cell? ⟨X, 2, none⟩ = some (.slice (some ⟨L, off, none⟩) 3 cap) ∧ W.cell? ⟨b1, o1 + k, none⟩ = some (.int .i64 s) ∧ W.cell? ⟨b2, o2 + k, none⟩ = some (.int .i64 wt)) ∧ W.cell? ⟨L, off + k, none⟩ = some (.int .i64 lv)) (by kernel_rfl) ?_
        change wpAnyH _ _ _ _ _ _ _ _ (World.drew _)
        have BD := (Below.refl Wc.heap.size Wc).drew
        obtain ⟨Y5, hY5⟩ : ∃ Y, Y = Wc.drew := ⟨_, rfl⟩
        rw [← hY5] at BD ⊢
        have HD : Hid (PV Y5 (w.heap.size + 2) X L off cap ⟨(k : Int), false, (ys.set k lv)⟩ ∧ Below w.heap.size w Y5 ∧ Blk Y5 (w.heap.size + 1) #[.int .i64 0, .bool false, .slice none 0 0] 26) := ⟨HC.out.1.below BD, Below.next HC.out.2.1 BD, HC.out.2.2.below BD⟩
        have HSS : Hid ((Y5.cell? ⟨X, 0, none⟩ = some (.int .i64 (k : Int)) ∧ Y5.cell? ⟨X, 2, none⟩ = some (.slice (some ⟨L, off, none⟩) 3 cap) ∧ Y5.cell? ⟨b1, o1 + k, none⟩ = some (.int .i64 s) ∧ Y5.cell? ⟨b2, o2 + k, none⟩ = some (.int .i64 wt)) ∧ Y5.cell? ⟨L, off + k, none⟩ = some (.int .i64 lv)) := ⟨HS4.out _ _ _ HD.out.1 HD.out.2.1, by rw [← HLV.out]; exact HD.out.1.cellAt k hk3⟩
        clear hY5 BD HC
        refine takeH (o := ?o81) 0 (.slice (some ⟨b1, o1, none⟩) 3 k1) ?h81 ?r81
        case h81 => simp only [aT, aZ]; rfl
        refine ⟨_, by simp [Act.put]; rfl, by kernel_rfl, by kernel_rfl, by kernel_rfl, fun _ _ _ h => h, (.inl ⟨rfl, fun W _ => by kernel_rfl⟩), HSS.out, ?_⟩
        refine takeH (o := ?o82) 1 (.pointer (some ⟨X, 0, none⟩)) ?h82 ?r82
        case h82 => simp only [aT, aS, aZ]; rfl
        refine ⟨_, by simp [Act.put]; rfl, by kernel_rfl, by kernel_rfl, by kernel_rfl, fun _ _ _ h => h, (.inl ⟨rfl, fun W _ => by go_simp⟩), HSS.out, ?_⟩
        refine takeH (o := ?o83) 2 (.int .i64 (k : Int)) ?h83 ?r83
        case h83 => simp only [aT, aS, aZ]; rfl
        refine ⟨_, by simp [Act.put]; rfl, by kernel_rfl, by kernel_rfl, by kernel_rfl, fun _ _ _ h => h, (.inl ⟨rfl, fun W hW => by have c := hW.1.1; go_simp⟩), HSS.out, ?_⟩
        refine takeH (o := ?o84) 3 (.pointer (some ⟨b1, o1 + k, none⟩)) ?h84 ?r84
        case h84 => simp only [aT, aS, aZ]; rfl
        refine ⟨_, by simp [Act.put]; rfl, by kernel_rfl, by kernel_rfl, by kernel_rfl, fun _ _ _ h => h, (.inl ⟨rfl, fun W _ => by go_simp; first | done | (intro h; omega) | (rw [if_pos (by omega)]; rfl)⟩), HSS.out, ?_⟩
        refine takeH (o := ?o85) 4 (.int .i64 s) ?h85 ?r85
        case h85 => simp only [aT, aS, aZ]; rfl
        refine ⟨_, by simp [Act.put]; rfl, by kernel_rfl, by kernel_rfl, by kernel_rfl, fun _ _ _ h => h, (.inl ⟨rfl, fun W hW => by have c := hW.1.2.2.1; go_simp⟩), HSS.out, ?_⟩
        refine takeH (o := ?o86) 5 (.pointer (some ⟨X, 2, none⟩)) ?h86 ?r86
        case h86 => simp only [aT, aS, aZ]; rfl
        refine ⟨_, by simp [Act.put]; rfl, by kernel_rfl, by kernel_rfl, by kernel_rfl, fun _ _ _ h => h, (.inl ⟨rfl, fun W _ => by go_simp⟩), HSS.out, ?_⟩
        refine takeH (o := ?o87) 6 (.slice (some ⟨L, off, none⟩) 3 cap) ?h87 ?r87
        case h87 => simp only [aT, aS, aZ]; rfl
        refine ⟨_, by simp [Act.put]; rfl, by kernel_rfl, by kernel_rfl, by kernel_rfl, fun _ _ _ h => h, (.inl ⟨rfl, fun W hW => by have c := hW.1.2.1; go_simp⟩), HSS.out, ?_⟩
        refine takeH (o := ?o88) 7 (.pointer (some ⟨X, 0, none⟩)) ?h88 ?r88
        case h88 => simp only [aT, aS, aZ]; rfl
        refine ⟨_, by simp [Act.put]; rfl, by kernel_rfl, by kernel_rfl, by kernel_rfl, fun _ _ _ h => h, (.inl ⟨rfl, fun W _ => by go_simp⟩), HSS.out, ?_⟩
        refine takeH (o := ?o89) 8 (.int .i64 (k : Int)) ?h89 ?r89
        case h89 => simp only [aT, aS, aZ]; rfl
        refine ⟨_, by simp [Act.put]; rfl, by kernel_rfl, by kernel_rfl, by kernel_rfl, fun _ _ _ h => h, (.inl ⟨rfl, fun W hW => by have c := hW.1.1; go_simp⟩), HSS.out, ?_⟩
        refine takeH (o := ?o90) 9 (.pointer (some ⟨L, off + k, none⟩)) ?h90 ?r90
        case h90 => simp only [aT, aS, aZ]; rfl
        refine ⟨_, by simp [Act.put]; rfl, by kernel_rfl, by kernel_rfl, by kernel_rfl, fun _ _ _ h => h, (.inl ⟨rfl, fun W _ => by go_simp; first | done | (intro h; omega) | (rw [if_pos (by omega)]; rfl)⟩), HSS.out, ?_⟩
        refine takeH (o := ?o91) 10 (.int .i64 lv) ?h91 ?r91
        case h91 => simp only [aT, aS, aZ]; rfl
        refine ⟨_, by simp [Act.put]; rfl, by kernel_rfl, by kernel_rfl, by kernel_rfl, fun _ _ _ h => h, (.inl ⟨rfl, fun W hW => by have c := hW.2; go_simp⟩), HSS.out, ?_⟩
        refine takeH (o := ?o92) 11 (.bool false) ?h92 ?r92
        case h92 => simp only [aT, aS, aZ]; rfl
        refine ⟨_, by simp [Act.put]; rfl, by kernel_rfl, by kernel_rfl, by kernel_rfl, fun _ _ _ h => h, (.inl ⟨rfl, fun W _ => by go_simp⟩), HSS.out, ?_⟩
        refine wpAnyH_done (by kernel_rfl) ?_ _
        go_wp2_with (first | go_skip | (with_reducible refine stopLoad 26 rfl ?_) | (with_reducible refine stopStore 26 rfl ?_))
        refine load_known 26 X #[.int .i64 (k : Int), .bool false, .slice (some ⟨L, off, none⟩) 3 cap] 26 _ HD.out.1.blk rfl rfl rfl Try.underlying26 rfl infoTuI ?_
        go_wp2_with fail
        refine (l11Next_any (some ⟨L, off, none⟩) 3 cap (k : Int) false _ (by omega)).mono ?_
        rintro e w5 ⟨rfl, b5⟩
        obtain ⟨m, hm⟩ : ∃ m, m = ((k : Int) + 1) % 3 := ⟨_, rfl⟩
        rw [← hm]
        have HM : Hid (m = ((k : Int) + 1) % 3) := hm
        have H5 : Hid (PV w5 (w.heap.size + 2) X L off cap ⟨(k : Int), false, (ys.set k lv)⟩ ∧ Below w.heap.size w w5 ∧ Blk w5 (w.heap.size + 1) #[.int .i64 0, .bool false, .slice none 0 0] 26) := ⟨HD.out.1.below b5, Below.next HD.out.2.1 b5, HD.out.2.2.below b5⟩
        clear hm b5
        go_wp2_with (first | go_skip | (with_reducible refine stopLoad 26 rfl ?_) | (with_reducible refine stopStore 26 rfl ?_))
        refine store_known 26 X _ #[.int .i64 m, .bool true, .slice (some ⟨L, off, none⟩) 3 cap] 26 H5.out.1.blk rfl rfl rfl rfl infoTuI rfl (by simp [Value.oneCell']) ?_
        have HN : Hid (PV (w5.setRow X #[.int .i64 m, .bool true, .slice (some ⟨L, off, none⟩) 3 cap]) (w.heap.size + 2) X L off cap ⟨m, true, (ys.set k lv)⟩ ∧ Below w.heap.size w (w5.setRow X #[.int .i64 m, .bool true, .slice (some ⟨L, off, none⟩) 3 cap]) ∧ Blk (w5.setRow X #[.int .i64 m, .bool true, .slice (some ⟨L, off, none⟩) 3 cap]) (w.heap.size + 1) #[.int .i64 0, .bool false, .slice none 0 0] 26) := ⟨H5.out.1.row m true, below_setRow H5.out.2.1 (by have := H5.out.1.ge; omega) _, H5.out.2.2.setRowOther (by have := H5.out.1.ge; omega)⟩
        obtain ⟨w6, hw6⟩ : ∃ W, W = w5.setRow X #[.int .i64 m, .bool true, .slice (some ⟨L, off, none⟩) 3 cap] := ⟨_, rfl⟩
        rw [← hw6] at HN ⊢
        clear hw6 H5
        go_wp2
        go_roundg g
        case measure => omega
        case rel =>
          obtain ⟨p1, p2, p3⟩ := HNX.out _ (HE1.out).symm rfl m HM.out
          exact ⟨⟨m, true, (ys.set k lv)⟩, p1, p2, p3, HN.out.1, HN.out.2.1, HN.out.2.2⟩
      · skip
        have hld : decide (s ≤ lv) = true := dec_true hle
        have HE1 : Hid (Tu.step ⟨(k : Int), true, ys⟩ s sh = (⟨(k : Int), false, (ys.set k lv).set k (lv - s)⟩, true)) := by show _ = _; rw [HST.out, if_pos hle]
        refine wp_region_held (S := fun W => (W.cell? ⟨X, 0, none⟩ = some (.int .i64 (k : Int)) ∧ W.cell? ⟨X, 2, none⟩ = some (.slice (some ⟨L, off, none⟩) 3 cap) ∧ W.cell? ⟨b1, o1 + k, none⟩ = some (.int .i64 s) ∧ W.cell? ⟨b2, o2 + k, none⟩ = some (.int .i64 wt)) ∧ W.cell? ⟨L, off + k, none⟩ = some (.int .i64 lv)) (by kernel_rfl) ?_
        change wpAnyH _ _ _ _ _ _ _ _ (World.drew _)
        have BD := (Below.refl Wc.heap.size Wc).drew
        obtain ⟨Y5, hY5⟩ : ∃ Y, Y = Wc.drew := ⟨_, rfl⟩
        rw [← hY5] at BD ⊢
        have HD : Hid (PV Y5 (w.heap.size + 2) X L off cap ⟨(k : Int), false, (ys.set k lv)⟩ ∧ Below w.heap.size w Y5 ∧ Blk Y5 (w.heap.size + 1) #[.int .i64 0, .bool false, .slice none 0 0] 26) := ⟨HC.out.1.below BD, Below.next HC.out.2.1 BD, HC.out.2.2.below BD⟩
        have HSS : Hid ((Y5.cell? ⟨X, 0, none⟩ = some (.int .i64 (k : Int)) ∧ Y5.cell? ⟨X, 2, none⟩ = some (.slice (some ⟨L, off, none⟩) 3 cap) ∧ Y5.cell? ⟨b1, o1 + k, none⟩ = some (.int .i64 s) ∧ Y5.cell? ⟨b2, o2 + k, none⟩ = some (.int .i64 wt)) ∧ Y5.cell? ⟨L, off + k, none⟩ = some (.int .i64 lv)) := ⟨HS4.out _ _ _ HD.out.1 HD.out.2.1, by rw [← HLV.out]; exact HD.out.1.cellAt k hk3⟩
        clear hY5 BD HC
        refine takeH (o := ?o93) 0 (.slice (some ⟨b1, o1, none⟩) 3 k1) ?h93 ?r93
        case h93 => simp only [aT, aZ]; rfl
        refine ⟨_, by simp [Act.put]; rfl, by kernel_rfl, by kernel_rfl, by kernel_rfl, fun _ _ _ h => h, (.inl ⟨rfl, fun W _ => by kernel_rfl⟩), HSS.out, ?_⟩
        refine takeH (o := ?o94) 1 (.pointer (some ⟨X, 0, none⟩)) ?h94 ?r94
        case h94 => simp only [aT, aS, aZ]; rfl
        refine ⟨_, by simp [Act.put]; rfl, by kernel_rfl, by kernel_rfl, by kernel_rfl, fun _ _ _ h => h, (.inl ⟨rfl, fun W _ => by go_simp⟩), HSS.out, ?_⟩
        refine takeH (o := ?o95) 2 (.int .i64 (k : Int)) ?h95 ?r95
        case h95 => simp only [aT, aS, aZ]; rfl
        refine ⟨_, by simp [Act.put]; rfl, by kernel_rfl, by kernel_rfl, by kernel_rfl, fun _ _ _ h => h, (.inl ⟨rfl, fun W hW => by have c := hW.1.1; go_simp⟩), HSS.out, ?_⟩
        refine takeH (o := ?o96) 3 (.pointer (some ⟨b1, o1 + k, none⟩)) ?h96 ?r96
        case h96 => simp only [aT, aS, aZ]; rfl
        refine ⟨_, by simp [Act.put]; rfl, by kernel_rfl, by kernel_rfl, by kernel_rfl, fun _ _ _ h => h, (.inl ⟨rfl, fun W _ => by go_simp; first | done | (intro h; omega) | (rw [if_pos (by omega)]; rfl)⟩), HSS.out, ?_⟩
        refine takeH (o := ?o97) 4 (.int .i64 s) ?h97 ?r97
        case h97 => simp only [aT, aS, aZ]; rfl
        refine ⟨_, by simp [Act.put]; rfl, by kernel_rfl, by kernel_rfl, by kernel_rfl, fun _ _ _ h => h, (.inl ⟨rfl, fun W hW => by have c := hW.1.2.2.1; go_simp⟩), HSS.out, ?_⟩
        refine takeH (o := ?o98) 5 (.pointer (some ⟨X, 2, none⟩)) ?h98 ?r98
        case h98 => simp only [aT, aS, aZ]; rfl
        refine ⟨_, by simp [Act.put]; rfl, by kernel_rfl, by kernel_rfl, by kernel_rfl, fun _ _ _ h => h, (.inl ⟨rfl, fun W _ => by go_simp⟩), HSS.out, ?_⟩
        refine takeH (o := ?o99) 6 (.slice (some ⟨L, off, none⟩) 3 cap) ?h99 ?r99
        case h99 => simp only [aT, aS, aZ]; rfl
        refine ⟨_, by simp [Act.put]; rfl, by kernel_rfl, by kernel_rfl, by kernel_rfl, fun _ _ _ h => h, (.inl ⟨rfl, fun W hW => by have c := hW.1.2.1; go_simp⟩), HSS.out, ?_⟩
        refine takeH (o := ?o100) 7 (.pointer (some ⟨X, 0, none⟩)) ?h100 ?r100
        case h100 => simp only [aT, aS, aZ]; rfl
        refine ⟨_, by simp [Act.put]; rfl, by kernel_rfl, by kernel_rfl, by kernel_rfl, fun _ _ _ h => h, (.inl ⟨rfl, fun W _ => by go_simp⟩), HSS.out, ?_⟩
        refine takeH (o := ?o101) 8 (.int .i64 (k : Int)) ?h101 ?r101
        case h101 => simp only [aT, aS, aZ]; rfl
        refine ⟨_, by simp [Act.put]; rfl, by kernel_rfl, by kernel_rfl, by kernel_rfl, fun _ _ _ h => h, (.inl ⟨rfl, fun W hW => by have c := hW.1.1; go_simp⟩), HSS.out, ?_⟩
        refine takeH (o := ?o102) 9 (.pointer (some ⟨L, off + k, none⟩)) ?h102 ?r102
        case h102 => simp only [aT, aS, aZ]; rfl
        refine ⟨_, by simp [Act.put]; rfl, by kernel_rfl, by kernel_rfl, by kernel_rfl, fun _ _ _ h => h, (.inl ⟨rfl, fun W _ => by go_simp; first | done | (intro h; omega) | (rw [if_pos (by omega)]; rfl)⟩), HSS.out, ?_⟩
        refine takeH (o := ?o103) 10 (.int .i64 lv) ?h103 ?r103
        case h103 => simp only [aT, aS, aZ]; rfl
        refine ⟨_, by simp [Act.put]; rfl, by kernel_rfl, by kernel_rfl, by kernel_rfl, fun _ _ _ h => h, (.inl ⟨rfl, fun W hW => by have c := hW.2; go_simp⟩), HSS.out, ?_⟩
        refine takeH (o := ?o104) 11 (.bool true) ?h104 ?r104
        case h104 => simp only [aT, aS, aZ]; rfl
        refine ⟨_, by simp [Act.put]; rfl, by kernel_rfl, by kernel_rfl, by kernel_rfl, fun _ _ _ h => h, (.inl ⟨rfl, fun W _ => by go_simp⟩), HSS.out, ?_⟩
        refine wpAnyH_done (by kernel_rfl) ?_ _
        go_wp2_with fail
        refine wp_region_held (S := fun W => W.cell? ⟨X, 0, none⟩ = some (.int .i64 (k : Int)) ∧ W.cell? ⟨X, 2, none⟩ = some (.slice (some ⟨L, off, none⟩) 3 cap) ∧ W.cell? ⟨b1, o1 + k, none⟩ = some (.int .i64 s) ∧ W.cell? ⟨b2, o2 + k, none⟩ = some (.int .i64 wt)) (by kernel_rfl) ?_
        change wpAnyH _ _ _ _ _ _ _ _ (World.drew _)
        have BD := (Below.refl Y5.heap.size Y5).drew
        obtain ⟨Y6, hY6⟩ : ∃ Y, Y = Y5.drew := ⟨_, rfl⟩
        rw [← hY6] at BD ⊢
        have HD6 : Hid (PV Y6 (w.heap.size + 2) X L off cap ⟨(k : Int), false, (ys.set k lv)⟩ ∧ Below w.heap.size w Y6 ∧ Blk Y6 (w.heap.size + 1) #[.int .i64 0, .bool false, .slice none 0 0] 26) := ⟨HD.out.1.below BD, Below.next HD.out.2.1 BD, HD.out.2.2.below BD⟩
        have HS6 : Hid (Y6.cell? ⟨X, 0, none⟩ = some (.int .i64 (k : Int)) ∧ Y6.cell? ⟨X, 2, none⟩ = some (.slice (some ⟨L, off, none⟩) 3 cap) ∧ Y6.cell? ⟨b1, o1 + k, none⟩ = some (.int .i64 s) ∧ Y6.cell? ⟨b2, o2 + k, none⟩ = some (.int .i64 wt)) := HS4.out _ _ _ HD6.out.1 HD6.out.2.1
        clear hY6 BD HD HSS
        refine takeH (o := ?o105) 0 (.pointer (some ⟨X, 2, none⟩)) ?h105 ?r105
        case h105 => simp only [aT, aZ]; rfl
        refine ⟨_, by simp [Act.put]; rfl, by kernel_rfl, by kernel_rfl, by kernel_rfl, fun _ _ _ h => h, (.inl ⟨rfl, fun W _ => by go_simp⟩), HS6.out, ?_⟩
        refine takeH (o := ?o106) 1 (.slice (some ⟨L, off, none⟩) 3 cap) ?h106 ?r106
        case h106 => simp only [aT, aS, aZ]; rfl
        refine ⟨_, by simp [Act.put]; rfl, by kernel_rfl, by kernel_rfl, by kernel_rfl, fun _ _ _ h => h, (.inl ⟨rfl, fun W hW => by have c := hW.2.1; go_simp⟩), HS6.out, ?_⟩
        refine takeH (o := ?o107) 2 (.pointer (some ⟨X, 0, none⟩)) ?h107 ?r107
        case h107 => simp only [aT, aS, aZ]; rfl
        refine ⟨_, by simp [Act.put]; rfl, by kernel_rfl, by kernel_rfl, by kernel_rfl, fun _ _ _ h => h, (.inl ⟨rfl, fun W _ => by go_simp⟩), HS6.out, ?_⟩
        refine takeH (o := ?o108) 3 (.int .i64 (k : Int)) ?h108 ?r108
        case h108 => simp only [aT, aS, aZ]; rfl
        refine ⟨_, by simp [Act.put]; rfl, by kernel_rfl, by kernel_rfl, by kernel_rfl, fun _ _ _ h => h, (.inl ⟨rfl, fun W hW => by have c := hW.1; go_simp⟩), HS6.out, ?_⟩
        refine takeH (o := ?o109) 4 (.pointer (some ⟨X, 2, none⟩)) ?h109 ?r109
        case h109 => simp only [aT, aS, aZ]; rfl
        refine ⟨_, by simp [Act.put]; rfl, by kernel_rfl, by kernel_rfl, by kernel_rfl, fun _ _ _ h => h, (.inl ⟨rfl, fun W _ => by go_simp⟩), HS6.out, ?_⟩
        refine takeH (o := ?o110) 5 (.slice (some ⟨L, off, none⟩) 3 cap) ?h110 ?r110
        case h110 => simp only [aT, aS, aZ]; rfl
        refine ⟨_, by simp [Act.put]; rfl, by kernel_rfl, by kernel_rfl, by kernel_rfl, fun _ _ _ h => h, (.inl ⟨rfl, fun W hW => by have c := hW.2.1; go_simp⟩), HS6.out, ?_⟩
        refine takeH (o := ?o111) 6 (.pointer (some ⟨X, 0, none⟩)) ?h111 ?r111
        case h111 => simp only [aT, aS, aZ]; rfl
        refine ⟨_, by simp [Act.put]; rfl, by kernel_rfl, by kernel_rfl, by kernel_rfl, fun _ _ _ h => h, (.inl ⟨rfl, fun W _ => by go_simp⟩), HS6.out, ?_⟩
        refine takeH (o := ?o112) 7 (.int .i64 (k : Int)) ?h112 ?r112
        case h112 => simp only [aT, aS, aZ]; rfl
        refine ⟨_, by simp [Act.put]; rfl, by kernel_rfl, by kernel_rfl, by kernel_rfl, fun _ _ _ h => h, (.inl ⟨rfl, fun W hW => by have c := hW.1; go_simp⟩), HS6.out, ?_⟩
        refine takeH (o := ?o113) 8 (.pointer (some ⟨L, off + k, none⟩)) ?h113 ?r113
        case h113 => simp only [aT, aS, aZ]; rfl
        refine ⟨_, by simp [Act.put]; rfl, by kernel_rfl, by kernel_rfl, by kernel_rfl, fun _ _ _ h => h, (.inl ⟨rfl, fun W _ => by go_simp; first | done | (intro h; omega) | (rw [if_pos (by omega)]; rfl)⟩), HS6.out, ?_⟩
        refine takeH (o := ?o114) 10 (.slice (some ⟨b1, o1, none⟩) 3 k1) ?h114 ?r114
        case h114 => simp only [aT, aS, aZ]; rfl
        refine ⟨_, by simp [Act.put]; rfl, by kernel_rfl, by kernel_rfl, by kernel_rfl, fun _ _ _ h => h, (.inl ⟨rfl, fun W _ => by kernel_rfl⟩), HS6.out, ?_⟩
        refine takeH (o := ?o115) 11 (.pointer (some ⟨X, 0, none⟩)) ?h115 ?r115
        case h115 => simp only [aT, aS, aZ]; rfl
        refine ⟨_, by simp [Act.put]; rfl, by kernel_rfl, by kernel_rfl, by kernel_rfl, fun _ _ _ h => h, (.inl ⟨rfl, fun W _ => by go_simp⟩), HS6.out, ?_⟩
        refine takeH (o := ?o116) 12 (.int .i64 (k : Int)) ?h116 ?r116
        case h116 => simp only [aT, aS, aZ]; rfl
        refine ⟨_, by simp [Act.put]; rfl, by kernel_rfl, by kernel_rfl, by kernel_rfl, fun _ _ _ h => h, (.inl ⟨rfl, fun W hW => by have c := hW.1; go_simp⟩), HS6.out, ?_⟩
        refine takeH (o := ?o117) 13 (.pointer (some ⟨b1, o1 + k, none⟩)) ?h117 ?r117
        case h117 => simp only [aT, aS, aZ]; rfl
        refine ⟨_, by simp [Act.put]; rfl, by kernel_rfl, by kernel_rfl, by kernel_rfl, fun _ _ _ h => h, (.inl ⟨rfl, fun W _ => by go_simp; first | done | (intro h; omega) | (rw [if_pos (by omega)]; rfl)⟩), HS6.out, ?_⟩
        refine takeH (o := ?o118) 14 (.int .i64 s) ?h118 ?r118
        case h118 => simp only [aT, aS, aZ]; rfl
        refine ⟨_, by simp [Act.put]; rfl, by kernel_rfl, by kernel_rfl, by kernel_rfl, fun _ _ _ h => h, (.inl ⟨rfl, fun W hW => by have c := hW.2.2.1; go_simp⟩), HS6.out, ?_⟩
        have ca : Y6.cell? ⟨L, off + k, none⟩ = some (.int .i64 lv) := by rw [← HLV.out]; exact HD6.out.1.cellAt k hk3
        have hws : IntKind.i64.wrap (lv - s) = lv - s := by simp [IntKind.wrap, IntKind.bits, IntKind.signed]; omega
        refine onlyH (o := ?o119) 9 (by kernel_rfl) ?h119 ?r119
        case h119 => simp only [aT, aS, aZ]; rfl
        intro K hK
        refine op_value (.int .i64 lv) rfl (by go_simp) ⟨_, by simp [Act.put]; rfl, hK _ _ ⟨HS6.out, ?_⟩⟩
        clear hK
        clear ca
        refine takeH (o := ?o120) 15 (.int .i64 (lv - s)) ?h120 ?r120
        case h120 => simp only [aT, aS, aZ]; rfl
        refine ⟨_, by simp [Act.put]; rfl, by kernel_rfl, by kernel_rfl, by kernel_rfl, fun _ _ _ h => h, (.inl ⟨rfl, fun W _ => by go_simp⟩), HS6.out, ?_⟩
        refine takeH (o := ?o121) 16 (.pointer (some ⟨L, off + k, none⟩)) ?h121 ?r121
        case h121 => simp only [aT, aS, aZ]; rfl
        refine ⟨_, by simp [Act.put]; rfl, by kernel_rfl, by kernel_rfl, by kernel_rfl, fun _ _ _ h => h, (.inl ⟨rfl, fun W _ => by go_simp; first | done | (intro h; omega) | (rw [if_pos (by omega)]; rfl)⟩), HS6.out, ?_⟩
        refine onlyH (o := ?o122) 17 (by kernel_rfl) ?h122 ?r122
        case h122 => simp only [aT, aS, aZ]; rfl
        intro K hK
        have ca : Y6.cell? ⟨L, off + k, none⟩ = some (.int .i64 lv) := by rw [← HLV.out]; exact HD6.out.1.cellAt k hk3
        have cf := HD6.out.1.frozenAt k
        have H7 : Hid (PV (Y6.setCell ⟨L, off + k, none⟩ (.int .i64 (lv - s))) (w.heap.size + 2) X L off cap ⟨(k : Int), false, ((ys.set k lv).set k (lv - s))⟩ ∧ Below w.heap.size w (Y6.setCell ⟨L, off + k, none⟩ (.int .i64 (lv - s))) ∧ Blk (Y6.setCell ⟨L, off + k, none⟩ (.int .i64 (lv - s))) (w.heap.size + 1) #[.int .i64 0, .bool false, .slice none 0 0] 26) := ⟨HD6.out.1.el k hk3 _, HD6.out.2.1.setCell (by have := HD6.out.1.ge2; show w.heap.size ≤ L; omega) _, HD6.out.2.2.setOther (by have := HD6.out.1.ge2; omega) _ _⟩
        refine op_skip (Y6.setCell ⟨L, off + k, none⟩ (.int .i64 (lv - s))) rfl (by go_simp) ⟨_, by simp [Act.put]; rfl, hK _ _ ⟨HS4.out _ _ _ H7.out.1 H7.out.2.1, ?_⟩⟩
        clear hK ca cf
        obtain ⟨Y7, hY7⟩ : ∃ Y, Y = Y6.setCell ⟨L, off + k, none⟩ (.int .i64 (lv - s)) := ⟨_, rfl⟩
        rw [← hY7] at H7 ⊢
        clear hY7 HD6 HS6
        refine wpAnyH_done (by kernel_rfl) ?_ _
        go_wp2_with fail
        refine wp_region_held (S := fun W => Blk W X #[.int .i64 (k : Int), .bool false, .slice (some ⟨L, off, none⟩) 3 cap] 26) (by kernel_rfl) ?_
        change wpAnyH _ _ _ _ _ _ _ _ (World.drew _)
        have BD := (Below.refl Y7.heap.size Y7).drew
        obtain ⟨Y8, hY8⟩ : ∃ Y, Y = Y7.drew := ⟨_, rfl⟩
        rw [← hY8] at BD ⊢
        have H8 : Hid (PV Y8 (w.heap.size + 2) X L off cap ⟨(k : Int), false, ((ys.set k lv).set k (lv - s))⟩ ∧ Below w.heap.size w Y8 ∧ Blk Y8 (w.heap.size + 1) #[.int .i64 0, .bool false, .slice none 0 0] 26) := ⟨H7.out.1.below BD, Below.next H7.out.2.1 BD, H7.out.2.2.below BD⟩
        have HS8 : Hid (Blk Y8 X #[.int .i64 (k : Int), .bool false, .slice (some ⟨L, off, none⟩) 3 cap] 26) := H8.out.1.blk
        clear hY8 BD H7
        refine takeH (o := ?o123) 0 (.pointer (some ⟨X, 0, none⟩)) ?h123 ?r123
        case h123 => simp only [aT, aZ]; rfl
        refine ⟨_, by simp [Act.put]; rfl, by kernel_rfl, by kernel_rfl, by kernel_rfl, fun _ _ _ h => h, (.inl ⟨rfl, fun W _ => by go_simp⟩), HS8.out, ?_⟩
        refine takeH (o := ?o124) 1 (.int .i64 (k : Int)) ?h124 ?r124
        case h124 => simp only [aT, aS, aZ]; rfl
        refine ⟨_, by simp [Act.put]; rfl, by kernel_rfl, by kernel_rfl, by kernel_rfl, fun _ _ _ h => h, (.inl ⟨rfl, fun W hW => by have c := hW.cell 0; simp only [aT, aZ] at c; go_simp⟩), HS8.out, ?_⟩
        refine takeH (o := ?o125) 2 (.agg #[.int .i64 (k : Int), .bool false, .slice (some ⟨L, off, none⟩) 3 cap]) ?h125 ?r125
        case h125 => simp only [aT, aS, aZ]; rfl
        refine ⟨_, by simp [Act.put]; rfl, by kernel_rfl, by kernel_rfl, by kernel_rfl, fun _ _ _ h => h, (yields_whole 26 _ #[.int .i64 (k : Int), .bool false, .slice (some ⟨L, off, none⟩) 3 cap] 26 _ rfl rfl rfl Try.underlying26 rfl infoTuI (fun W hW => hW)), HS8.out, ?_⟩
        refine takeH (o := ?o126) 3 (.int .i64 (k : Int)) ?h126 ?r126
        case h126 => simp only [aT, aS, aZ]; rfl
        refine ⟨_, by simp [Act.put]; rfl, by kernel_rfl, by kernel_rfl, by kernel_rfl, fun _ _ _ h => h, (.inl ⟨rfl, fun W _ => by kernel_rfl⟩), HS8.out, ?_⟩
        refine onlyH (o := ?o127) 4 (by kernel_rfl) ?h127 ?r127
        case h127 => simp only [aT, aS, aZ]; rfl
        intro K hK
        refine op_store 26 (w.heap.size + 1) #[.int .i64 0, .bool false, .slice none 0 0] #[.int .i64 (k : Int), .bool false, .slice (some ⟨L, off, none⟩) 3 cap] 26 rfl rfl rfl rfl H8.out.2.2 infoTuI rfl (by simp [Value.oneCell']) ⟨_, by simp [Act.put]; rfl, hK _ _ ⟨HS8.out.setRowOther (by have := H8.out.1.ge; omega), ?_⟩⟩
        clear hK
        refine wpAnyH_done (by kernel_rfl) ?_ _
        go_wp2
        refine bodyPost_ret (results_tmp_rowT Try.results10 _ _ (w.heap.size + 1) _ _ (0, 0) _ rfl H8.out.2.2.setRow Try.underlying26 rfl infoTuI) rfl ?_
        have p3 := HPA.out.2.2
        rw [pickN_yes (by rw [HAT.out, HE1.out]), HAT.out, HE1.out] at p3
        rw [HV.out, ← p3]
        have ag := Agree.row (w := Y8) (g := w.heap.size + 1) (F := [L]) (fun hx => by have := H8.out.1.ge2; simp at hx; omega) #[.int .i64 (k : Int), .bool false, .slice (some ⟨L, off, none⟩) 3 cap]
        exact ⟨_, [L], rfl, H8.out.1.value.agree ag, (H8.out.1.own.agree ag).mono (by omega), below_setRow H8.out.2.1 (by omega) _⟩
set_option maxRecDepth 200000 in
theorem pick_spec_any (a1 a2 : Option Addr) (n1 k1 n2 k2 : Nat) (ss ws : List Int) (F1 F2 : List Nat) (q : Int) (v : Value) (x : Tu) (F : List Nat) (w : World) (h1 : RdI w a1 n1 ss F1) (h2 : RdI w a2 n2 ws F2) (h3 : RdTu w v x F) (hl1 : n1 ≤ 1048576) (hl2 : n2 ≤ 1048576) (hx : x.fits) :
    Calls Try.prog 10 #[.slice a1 n1 k1, .slice a2 n2 k2, .int .i64 q, v] w fun e w' => NewPick w (pick ss ws q x) e w' := by
  cases h : picks ss ws q x
  · exact pick_spec_bad a1 a2 n1 k1 n2 k2 ss ws F1 F2 q v x F w h1 h2 h3 hl1 hl2 hx h
  · exact pick_spec_good a1 a2 n1 k1 n2 k2 ss ws F1 F2 q v x F w h1 h2 h3 hl1 hl2 hx h
end Go.Proofs.Ythimjmkdcocofaa
/- Turns that came in, that are marked; a turn in a variable of the law's own; slices of numbers that came in. No statement of the seat is proved here. -/
namespace Go.Proofs.Ythimjmkdcocofaa
open Go.RowKit Go.WideShapes Go.ChangeShapes Go.ChangeAt Go.Deep
def Tu.marked (k : Int) (x : Tu) : Tu := { x with left := marksI k x.left.length }
theorem Tu.many_fits {x : Tu} (h : x.fits) : 0 ≤ x.many ∧ x.many ≤ 4194304 := by unfold Tu.fits at h; unfold Tu.many; omega
theorem Tu.many_wide {x : Tu} (h : x.wide) : 0 ≤ x.many ∧ x.many ≤ 4194304 := by unfold Tu.wide at h; unfold Tu.many; omega
theorem tu_laidOut : laidOutB Try.prog = true := by kernel_rfl
structure MarkedTu (B : Nat) (w : World) (v : Value) (k : Int) (x : Tu) (F : List Nat) (w' : World) : Prop where
  rd : RdTu w' v (x.marked k) F
  own : Own B w' F
  only : Only F w w'
set_option maxRecDepth 100000 in
set_option maxHeartbeats 1000000 in
theorem open_nums {H : Type} {enc : TypeId × Value → H} {W : World} {v : Value} {fuel : Nat} {z : DataW H × List MemPlace} (g : DataW.trod enc Try.prog W 0 (fun _ => true) true fuel 24 [v] = some z) :
    ∃ a n k zs F, v = .slice a n k ∧ RdI W a n zs F ∧ n ≤ 9223372036854775807 := by
  have c3 : Try.prog.cellsOf 3 = 1 := by kernel_rfl
  rcases open_ints Try.underlying24 Try.underlying3 c3 g with ⟨q, _⟩ | ⟨x, l, c, zs, q, _, hl, hm, hz, _, hcell, _⟩
  · simp at q; subst q
    exact ⟨none, 0, 0, [], [], rfl, ⟨rfl, .inl ⟨rfl, rfl⟩⟩, by omega⟩
  · simp at q; subst q
    have hz' : zs.length = c := by simpa using hz
    obtain ⟨F, hF⟩ := rdI_open (w := W) (a := some x) hz' hl (fun x' e i hi => by cases e; exact hcell i (by omega)) (fun e => by cases e)
    exact ⟨_, _, _, _, F, rfl, hF, by unfold maxLen at hm; omega⟩
theorem open_numsA {H : Type} {enc : TypeId × Value → H} {W : World} {base : Nat} {v : Value} {d : DataW H} {p : List MemPlace} (hv : Value.okWide Try.prog W .any base 24 v) (h : DataW.Trod enc Try.prog W 0 (fun _ => true) true 24 v d p) :
    ∃ a n k zs F, v = .slice a n k ∧ RdI W a n zs F ∧ n ≤ 9223372036854775807 := by
  obtain ⟨a0, len0, cap0, rfl⟩ := okWide_slice Try.underlying24 hv
  obtain ⟨fuel, hf⟩ := h
  exact open_nums hf
set_option maxRecDepth 100000 in
set_option maxHeartbeats 1000000 in
theorem open_Tu {H : Type} {enc : TypeId × Value → H} {W : World} {base : Nat} {v : Value} {d : DataW H} {p : List MemPlace} (hv : Value.okWide Try.prog W .any base 33 v) (h : DataW.Trod enc Try.prog W 0 (fun _ => true) true 33 v d p) :
    ∃ x F, RdTu W v x F ∧ x.vast := by
  obtain ⟨cs, rfl, hsz⟩ := okWide_struct Try.underlying33 hv
  have hC : Try.prog.cellsOf 33 = 3 := by kernel_rfl
  have c3 : Try.prog.cellsOf 3 = 1 := by kernel_rfl
  have c4 : Try.prog.cellsOf 24 = 1 := by kernel_rfl
  have c5 : Try.prog.cellsOf 4 = 1 := by kernel_rfl
  rw [hC] at hsz
  obtain ⟨l⟩ := cs
  match l, hsz with
  | [e0, e1, e2], _ =>
    obtain ⟨fuel, hf⟩ := h
    obtain ⟨xs, n, _, _, _, hlen, hx⟩ := DataW.trod_struct Try.underlying33 hf
    match xs, hlen with
    | [y0, y1, y2], _ =>
      have g0 := hx 0 _ rfl
      have g1 := hx 1 _ rfl
      have g2 := hx 2 _ rfl
      simp [Value.cells, c3, c4, c5] at g0 g1 g2
      clear hx
      obtain ⟨i0, q0, _, _⟩ := DataW.trod_int Try.underlying3 g0
      obtain ⟨i1, q1, _⟩ := DataW.trod_bool Try.underlying4 g1
      simp at q0 q1
      subst q0 q1
      obtain ⟨a, len, cap, ps, F, rfl, hp, hb⟩ := open_nums g2
      exact ⟨⟨i0, i1, ps⟩, F, ⟨a, len, cap, rfl, hp⟩, by show ps.length ≤ _; rw [hp.length]; exact hb⟩
set_option maxRecDepth 200000 in
set_option maxHeartbeats 1000000 in
theorem markTu_any (B : Nat) (v : Value) (x : Tu) (F : List Nat) (k : Int) (w : World) (h : RdTu w v x F) (ho : Own B w F) (hw : x.wide) (hk0 : 0 ≤ k) (hk1 : k + x.many ≤ 1000000000000) :
    Calls Try.prog 19 #[v, .int .i64 k] w fun e w' => e = .returned (.int .i64 (k + x.many)) ∧ MarkedTu B w v k x F w' := by
  obtain ⟨b, l, c, rfl, hP⟩ := h
  have HM : Hid (x.many = (l : Int) ∧ k + x.many ≤ 1000000000000) := ⟨by unfold Tu.many; rw [hP.length], hk1⟩
  have hl : l ≤ 2097152 := by rw [← hP.length]; exact hw
  have HB : Hid (Below w.heap.size w (w.alloc (.cells #[.int .i64 x.who, .bool x.fresh, .slice b l c] 26)) ∧ Blk (w.alloc (.cells #[.int .i64 x.who, .bool x.fresh, .slice b l c] 26)) w.heap.size #[.int .i64 x.who, .bool x.fresh, .slice b l c] 26) := ⟨Below.allocW _ (Below.refl _ _) (Nat.le_refl _), Blk.made _ _ _⟩
  have HR : Hid (RdI w b l x.left F ∧ Own B w F) := ⟨hP, ho⟩
  clear hP ho hw hk1
  go_enter Try.func19, Try.ntmps19
  go_wp2_with fail
  refine (markIntS_any B b l c x.left F k _ (HR.out.1.below HB.out.1) (HR.out.2.below HR.out.1.lt HB.out.1) hk0 (by have := HM.out; omega)).mono ?_
  rintro e w2 ⟨rfl, m2⟩
  have H2 : Hid (MarkedI B (w.alloc (.cells #[.int .i64 x.who, .bool x.fresh, .slice b l c] 26)) b l k F w2) := m2
  clear m2
  obtain ⟨y2, hy2⟩ : ∃ y, y = k + (l : Int) := ⟨_, rfl⟩
  rw [← hy2]
  have HY2 : Hid (y2 = k + (l : Int)) := hy2
  clear hy2
  go_wp2
  go_ret
  have hlen := HR.out.1.length
  refine ⟨ret_int (by have := HM.out; have := HY2.out; omega), ⟨⟨b, l, c, rfl, by show RdI _ _ _ (marksI k x.left.length) _; rw [hlen]; exact H2.out.rd⟩, H2.out.own, (Only.of_below HB.out.1).trans H2.out.only⟩⟩
set_option maxRecDepth 200000 in
set_option maxHeartbeats 1000000 in
theorem heldTu_any (v : Value) (x : Tu) (F : List Nat) (k : Int) (w : World) (h : RdTu w v (x.marked k) F) (hw : x.wide) (hk0 : 0 ≤ k) (hk1 : k + x.many ≤ 1000000000000) :
    Calls Try.prog 20 #[v, .int .i64 k] w fun e w' => e = .returned (.int .i64 (k + x.many)) ∧ Below w.heap.size w w' := by
  obtain ⟨b, l, c, rfl, hP⟩ := h
  have hlen : x.left.length = l := by have := hP.length; rw [← this]; exact (marksI_length k x.left.length).symm
  have hp' : RdI w b l (marksI k l) F := by have := hP; rw [show (x.marked k).left = marksI k x.left.length from rfl, hlen] at this; exact this
  have HM : Hid (x.many = (l : Int) ∧ k + x.many ≤ 1000000000000) := ⟨by unfold Tu.many; rw [hlen], hk1⟩
  have hl : l ≤ 2097152 := by rw [← hlen]; exact hw
  have HB : Hid (Below w.heap.size w (w.alloc (.cells #[.int .i64 x.who, .bool x.fresh, .slice b l c] 26)) ∧ Blk (w.alloc (.cells #[.int .i64 x.who, .bool x.fresh, .slice b l c] 26)) w.heap.size #[.int .i64 x.who, .bool x.fresh, .slice b l c] 26) := ⟨(Below.refl _ _).alloc (Nat.le_refl _) _, Blk.made _ _ _⟩
  have HR : Hid (RdI w b l (marksI k l) F) := hp'
  clear hP hw hk1 hp'
  show Calls _ _ #[.agg #[.int .i64 x.who, .bool x.fresh, .slice b l c], .int .i64 k] w _
  go_enter Try.func20, Try.ntmps20
  go_wp2_with fail
  refine (heldIntS_any b l c F k _ (HR.out.below HB.out.1) hk0 (by have := HM.out; omega)).mono ?_
  rintro e w1 ⟨rfl, b1⟩
  have HB1 : Hid (Below w.heap.size w w1) := Below.next HB.out.1 b1
  clear b1
  obtain ⟨y1, hy1⟩ : ∃ y, y = k + (l : Int) := ⟨_, rfl⟩
  rw [← hy1]
  have HY1 : Hid (y1 = k + (l : Int)) := hy1
  have y10 : 0 ≤ y1 := by omega
  clear hy1
  go_wp2
  go_ret
  exact ⟨ret_int (by have := HM.out; have := HY1.out; omega), HB1.out⟩
structure VarTu (W : World) (lo hi g : Nat) (cs : Array Value) (s : Tu) (F : List Nat) : Prop where
  blk : Blk W g cs 26
  rd : RdTu W (.agg cs) s F
  sz : cs.size = 3
  own : Own lo W F
  lt : ∀ b ∈ F, b < hi
  ge : lo ≤ g
  glt : g < hi
  apart : g ∉ F
theorem VarTu.below {W W' : World} {lo hi g : Nat} {cs : Array Value} {s : Tu} {F : List Nat} (h : VarTu W lo hi g cs s F) (b : Below W.heap.size W W') : VarTu W' lo hi g cs s F :=
  ⟨h.blk.below b, h.rd.below b, h.sz, h.own.below h.rd.lt b, h.lt, h.ge, h.glt, h.apart⟩
theorem VarTu.fresh {w0 w1 W : World} {cs : Array Value} {s : Tu} {F : List Nat} (r : RdTu w1 (.agg cs) s F) (o : Own w0.heap.size w1 F) (b : Below w0.heap.size w0 w1) (sz : cs.size = 3) (k : Blk W w1.heap.size cs 26) (b2 : Below w1.heap.size w1 W) : VarTu W w0.heap.size W.heap.size w1.heap.size cs s F :=
  ⟨k, r.below b2, sz, o.below r.lt b2, fun x hx => by have := r.lt x hx; have := b2.size; omega, b.size, k.lt, fun hx => by have := r.lt _ hx; omega⟩
theorem VarTu.only {W W' : World} {lo hi g lo' hi' g' : Nat} {cs ds : Array Value} {s t : Tu} {F G : List Nat} (h : VarTu W lo hi g cs s F) (k : VarTu W lo' hi' g' ds t G) (o : Only G W W') (hd : hi ≤ lo' ∨ hi' ≤ lo) : VarTu W' lo hi g cs s F := by
  have d : ∀ b ∈ F, b ∉ G := fun b hb hg => by have := h.lt b hb; have := h.own.ge b hb; have := k.lt b hg; have := k.own.ge b hg; omega
  have e : g ∉ G := fun hg => by have := h.ge; have := h.glt; have := k.lt g hg; have := k.own.ge g hg; omega
  exact ⟨h.blk.agree (o.block g h.blk.lt e), h.rd.agree (o.agree h.rd.lt d), h.sz, h.own.agree (o.agree h.rd.lt d), h.lt, h.ge, h.glt, h.apart⟩
theorem VarTu.only' {W W' : World} {lo hi g lo' hi' : Nat} {cs : Array Value} {s : Tu} {F G : List Nat} (h : VarTu W lo hi g cs s F) (o : Only G W W') (kl : ∀ b ∈ G, b < hi') (kg : ∀ b ∈ G, lo' ≤ b) (hd : hi ≤ lo' ∨ hi' ≤ lo) : VarTu W' lo hi g cs s F := by
  have d : ∀ b ∈ F, b ∉ G := fun b hb hg => by have := h.lt b hb; have := h.own.ge b hb; have := kl b hg; have := kg b hg; omega
  have e : g ∉ G := fun hg => by have := h.ge; have := h.glt; have := kl g hg; have := kg g hg; omega
  exact ⟨h.blk.agree (o.block g h.blk.lt e), h.rd.agree (o.agree h.rd.lt d), h.sz, h.own.agree (o.agree h.rd.lt d), h.lt, h.ge, h.glt, h.apart⟩
theorem VarTu.keep {W W' : World} {lo' hi' g' : Nat} {ds : Array Value} {t : Tu} {G : List Nat} {b : Nat} {cs : Array Value} {ty : TypeId} (k : VarTu W lo' hi' g' ds t G) (o : Only G W W') (h : Blk W b cs ty) (hb : b < lo') : Blk W' b cs ty :=
  h.agree (o.block b h.lt (fun hg => by have := k.own.ge b hg; omega))
theorem VarTu.bel {w W W' : World} {lo' hi' g' : Nat} {ds : Array Value} {t : Tu} {G : List Nat} (k : VarTu W lo' hi' g' ds t G) (o : Only G W W') (h : Below w.heap.size w W) (hb : w.heap.size ≤ lo') : Below w.heap.size w W' :=
  o.below h h.size (fun b hg => by have := k.own.ge b hg; omega)
theorem varTu_stored {W : World} {lo g : Nat} {old rr : Array Value} {s : Tu} {X : List Nat} (k : Blk W g old 26) (r : RdTu W (.agg rr) s X) (sz : rr.size = 3) (o : Own lo W X) (lt : ∀ b ∈ X, b < W.heap.size) (ge : lo ≤ g) (ap : g ∉ X) : VarTu (W.setRow g rr) lo (W.setRow g rr).heap.size g rr s X := by
  have ag : Agree W (W.setRow g rr) X := fun b hb => setRow_other W _ b _ (fun e => ap (e ▸ hb))
  have hs : (W.setRow g rr).heap.size = W.heap.size := by simp
  exact ⟨k.setRow, r.agree ag, sz, o.agree ag, by rw [hs]; exact lt, ge, by rw [hs]; exact k.lt, ap⟩
theorem VarTu.mark {W W' : World} {lo hi g : Nat} {cs : Array Value} {s : Tu} {F : List Nat} {k : Int} (h : VarTu W lo hi g cs s F) (m : MarkedTu lo W (.agg cs) k s F W') : VarTu W' lo hi g cs (s.marked k) F :=
  ⟨h.blk.agree (m.only.block g h.blk.lt h.apart), m.rd, h.sz, m.own, h.lt, h.ge, h.glt, h.apart⟩
end Go.Proofs.Ythimjmkdcocofaa
