/- The walks through the model's l7Nums and SketchBytes. No statement of the seat is proved here. -/
import Derived.Test.YtjndcfamfminkaqFrPut
namespace Go.Proofs.Ytjndcfamfminkaq
open Go.RowKit
def Sk.numsTo (s : Sk) (k : Nat) : List Int := [s.count, s.sum, s.min, s.max] ++ s.hist ++ s.regs ++ (s.rows.take k).flatten
def Sk.nums (s : Sk) : List Int := [s.count, s.sum, s.min, s.max] ++ s.hist ++ s.regs ++ s.rows.flatten
structure Sk.lens7 (s : Sk) : Prop where
  hist : s.hist.length = 8
  regs : s.regs.length = 8
  rows : s.rows.length = 2
  row : ∀ z ∈ s.rows, z.length = 4
theorem numsTo_succ {s : Sk} {k : Nat} (hk : k < s.rows.length) : s.numsTo (k + 1) = s.numsTo k ++ s.rows.getD k [] := by
  unfold Sk.numsTo
  rw [take_snoc s.rows [] k hk, List.flatten_append]
  simp
theorem numsTo_len {s : Sk} (h : s.lens7) {k : Nat} (hk : k ≤ 2) : (s.numsTo k).length = 20 + 4 * k := by
  induction k with
  | zero => simp [Sk.numsTo, h.hist, h.regs]
  | succ k ih =>
    rw [numsTo_succ (by rw [h.rows]; omega), List.length_append, ih (by omega), h.row _ (mem_getD (d := []) (by rw [h.rows]; omega))]
    omega
theorem okL_iff {l : List Int} {m : Nat} {most : Int} {z : Bool} (h : okL l m most z = true) : l.length = m ∧ ∀ x ∈ l, 0 ≤ x ∧ x ≤ most := by
  unfold okL at h
  simp only [Bool.and_eq_true, decide_eq_true_eq, List.all_eq_true] at h
  refine ⟨h.1, fun x hx => ?_⟩
  have e := h.2 x hx
  unfold okN at e
  simp only [Bool.and_eq_true, decide_eq_true_eq] at e
  exact e.1
theorem two_rows7 {l : List (List Int)} (h : l.length = 2) : l = [l.getD 0 [], l.getD 1 []] := by
  match l, h with
  | [a, b], _ => rfl
theorem Sk.ok_lens {s : Sk} (h : s.ok = true) : s.lens7 ∧ ∀ x ∈ s.nums, InN x := by
  unfold Sk.ok okHead okLists at h
  simp only [Bool.and_eq_true, decide_eq_true_eq] at h
  obtain ⟨⟨⟨⟨⟨⟨⟨c0, s0⟩, m0⟩, x0⟩, _⟩, r0⟩, _⟩, ⟨⟨⟨h1, h2⟩, h3⟩, h4⟩⟩ := h
  have e1 := okL_iff h1
  have e2 := okL_iff h2
  have e3 := okL_iff h3
  have e4 := okL_iff h4
  refine ⟨⟨e1.1, e2.1, r0, fun z hz => ?_⟩, fun x hx => ?_⟩
  · rw [two_rows7 r0] at hz
    simp only [List.mem_cons, List.not_mem_nil, or_false] at hz
    rcases hz with rfl | rfl
    · exact e3.1
    · exact e4.1
  · unfold Sk.nums at hx
    rw [two_rows7 r0] at hx
    simp only [List.mem_append, List.mem_cons, List.not_mem_nil, or_false, List.flatten_cons, List.flatten_nil, List.append_nil] at hx
    unfold InN
    rcases hx with ((hx | hx) | hx) | hx | hx
    · rcases hx with rfl | rfl | rfl | rfl <;> omega
    · have := e1.2 x hx; omega
    · have := e2.2 x hx; omega
    · have := e3.2 x hx; omega
    · have := e4.2 x hx; omega
theorem own_mono7 {w : World} {b b' e s n : Nat} {v : Value} {xs : List Value} (h : w.ownsRow b e s v n xs) (hb : b' ≤ b) : w.ownsRow b' e s v n xs := ⟨h.1, h.2.imp id (fun ⟨g, cap, cur, h1, h2, h3⟩ => ⟨g, cap, cur, h1, Nat.le_trans hb h2, h3⟩)⟩
/-- A list that grows beside a box. -/
structure NumSt (w : World) (cs : Array Value) (t : TypeId) (v : Value) (xs : List Int) (W : World) : Prop where
  box : Blk W w.heap.size cs t
  own : W.ownsRow (w.heap.size + 1) 3 1 v xs.length (xs.map (Value.int .i64))
  bel : Below w.heap.size w W
theorem NumSt.size {w W : World} {cs : Array Value} {t : TypeId} {v : Value} {xs : List Int} (h : NumSt w cs t v xs W) : w.heap.size + 1 ≤ W.heap.size := h.box.lt
theorem NumSt.app {w W W' : World} {cs : Array Value} {t : TypeId} {v v' : Value} {xs ys : List Int} {m : Nat} (h : NumSt w cs t v xs W) (hm : ys.length = m) (hown : W'.ownsRow (w.heap.size + 1) 3 1 v' (xs.length + m) (xs.map (Value.int .i64) ++ ys.map (Value.int .i64))) (hg : W.grownBy W' v.ownBlock) : NumSt w cs t v' (xs ++ ys) W' := by
  have b : Below (w.heap.size + 1) W W' := (Below.refl _ _).grown hg h.size (fun g e => (h.own.lt g e).1)
  refine ⟨h.box.agree (b.block _ (Nat.lt_succ_self _)), ?_, h.bel.trans (b.mono (by omega))⟩
  rw [List.length_append, List.map_append, hm]
  exact hown
set_option maxRecDepth 100000 in
set_option maxHeartbeats 4000000 in
theorem l7Nums_any (v : Value) (s : Sk) (F : List Nat) (w : World) (h : RdSk w v s F) (hf : s.lens7) :
    Calls Try.prog 42 #[v] w fun e w' => ∃ u, e = .returned u ∧ w'.ownsRow w.heap.size 3 1 u s.nums.length (s.nums.map (Value.int .i64)) ∧ Below w.heap.size w w' := by
  obtain ⟨i0, hi, hz0, hz1, hz2⟩ := info_parts infoInt
  obtain ⟨a1, n1, c1, a2, n2, c2, a3, n3, c3, F1, F2, F3, rfl, h1, h2, h3, _⟩ := h
  have l1 : n1 = 8 := by rw [← h1.length]; exact hf.hist
  have l2 : n2 = 8 := by rw [← h2.length]; exact hf.regs
  have l3 : n3 = 2 := by rw [← h3.length]; exact hf.rows
  subst l1 l2 l3
  obtain ⟨p1, q1, rfl⟩ := h1.addr (by omega)
  obtain ⟨p2, q2, rfl⟩ := h2.addr (by omega)
  have HR : Hid (RdI w (some ⟨p1, q1, none⟩) 8 s.hist F1 ∧ RdI w (some ⟨p2, q2, none⟩) 8 s.regs F2 ∧ RdII w a3 2 s.rows F3 ∧ s.lens7) := ⟨h1, h2, h3, hf⟩
  have HS0 : Hid (NumSt w #[.int .i64 s.count, .int .i64 s.sum, .int .i64 s.min, .int .i64 s.max, .slice (some ⟨p1, q1, none⟩) 8 c1, .slice (some ⟨p2, q2, none⟩) 8 c2, .slice a3 2 c3] 29 (.slice (some ⟨w.heap.size + 1, 0, none⟩) 4 4) [s.count, s.sum, s.min, s.max] ((w.alloc (.cells #[.int .i64 s.count, .int .i64 s.sum, .int .i64 s.min, .int .i64 s.max, .slice (some ⟨p1, q1, none⟩) 8 c1, .slice (some ⟨p2, q2, none⟩) 8 c2, .slice a3 2 c3] 29)).alloc (.cells #[.int .i64 s.count, .int .i64 s.sum, .int .i64 s.min, .int .i64 s.max] 3))) := by
    have m := two_made w #[.int .i64 s.count, .int .i64 s.sum, .int .i64 s.min, .int .i64 s.max, .slice (some ⟨p1, q1, none⟩) 8 c1, .slice (some ⟨p2, q2, none⟩) 8 c2, .slice a3 2 c3] #[.int .i64 s.count, .int .i64 s.sum, .int .i64 s.min, .int .i64 s.max] 29 3
    have o := World.ownsRow_lit (base := w.heap.size + 1) (e := 3) (size := 1) (w.alloc (.cells #[.int .i64 s.count, .int .i64 s.sum, .int .i64 s.min, .int .i64 s.max, .slice (some ⟨p1, q1, none⟩) 8 c1, .slice (some ⟨p2, q2, none⟩) 8 c2, .slice a3 2 c3] 29)) #[.int .i64 s.count, .int .i64 s.sum, .int .i64 s.min, .int .i64 s.max] 4 (by simp) (by unfold maxLen; omega) rfl
    have e : (w.alloc (.cells #[.int .i64 s.count, .int .i64 s.sum, .int .i64 s.min, .int .i64 s.max, .slice (some ⟨p1, q1, none⟩) 8 c1, .slice (some ⟨p2, q2, none⟩) 8 c2, .slice a3 2 c3] 29)).heap.size = w.heap.size + 1 := by simp
    rw [e] at o
    exact ⟨m.1, o, m.2.2⟩
  clear h1 h2 h3 hf
  go_enter Try.func42, Try.ntmps42
  go_wp2_with (with_reducible refine stopAppend rfl ?_)
  refine Stop.intro (wpList_append_own _ rfl _ _ 22 rfl (w.heap.size + 1) 3 i0 (.int .i64 0) 1 8 Try.underlying22 hi hz0 hz1 hz2 rfl (by decide) _ _ _ rfl HS0.out.own ⟨p1, q1, none⟩ 8 c1 (s.hist.map (Value.int .i64)) rfl (by simp [HR.out.2.2.2.hist]) (HR.out.1.from HS0.out.bel (by omega)) (ints_one _) (by unfold maxLen; simp) (by simp) HS0.out.size ?_)
  intro v1 w1 hown hgrow _
  have HS1 : Hid (NumSt w _ _ v1 _ w1) := HS0.out.app HR.out.2.2.2.hist hown hgrow
  have k5 := HS1.out.box.cell 5
  simp only [aT, aS, aZ] at k5
  clear hown hgrow HS0
  go_wp2_with (with_reducible refine stopAppend rfl ?_)
  refine Stop.intro (wpList_append_own _ rfl _ _ 22 rfl (w.heap.size + 1) 3 i0 (.int .i64 0) 1 8 Try.underlying22 hi hz0 hz1 hz2 rfl (by decide) _ _ _ rfl HS1.out.own ⟨p2, q2, none⟩ 8 c2 (s.regs.map (Value.int .i64)) rfl (by simp [HR.out.2.2.2.regs]) (HR.out.2.1.from HS1.out.bel (by omega)) (ints_one _) (by have := HR.out.2.2.2.hist; unfold maxLen; simp; omega) (by have := HR.out.2.2.2.hist; simp; omega) HS1.out.size ?_)
  intro v2 w2 hown hgrow _
  have HS2 : Hid (NumSt w _ _ v2 _ w2) := HS1.out.app HR.out.2.2.2.regs hown hgrow
  clear hown hgrow HS1 k5
  go_wp2
  go_loopw [3, 4] (fun v i wr => ∃ (k : Nat), k ≤ 2 ∧ i = .int .i64 k ∧ Hid (NumSt w #[.int .i64 s.count, .int .i64 s.sum, .int .i64 s.min, .int .i64 s.max, .slice (some ⟨p1, q1, none⟩) 8 c1, .slice (some ⟨p2, q2, none⟩) 8 c2, .slice a3 2 c3] 29 v (s.numsTo k) wr)) (fun _ i _ => 2 - (intOf i).toNat)
  case atStart =>
    refine ⟨0, by omega, rfl, ?_⟩
    have e : s.numsTo 0 = [s.count, s.sum, s.min, s.max] ++ s.hist ++ s.regs := by simp [Sk.numsTo]
    rw [e]
    exact HS2
  case round =>
    obtain ⟨k, hk, rfl, HS⟩ := hrel
    have k6 := HS.out.box.cell 6
    simp only [aT, aS, aZ] at k6
    by_cases hlt : k < 2
    · obtain ⟨p3, o3, F3', rfl, hm3⟩ : ∃ b off F', a3 = some ⟨b, off, none⟩ ∧ RdM w (s.rows.map ints) b off F' := by
        rcases HR.out.2.2.1.cells with ⟨h0, _⟩ | ⟨b, off, F', _, e, _, hm⟩
        · omega
        · exact ⟨b, off, F', e, hm⟩
      obtain ⟨ak, nk, ck, Yk, hck, hrk, _⟩ := RdII.row hm3 HR.out.2.2.2.rows k hlt
      have hkl : k < s.rows.length := by rw [HR.out.2.2.2.rows]; exact hlt
      have hnk : nk = 4 := by rw [← hrk.length]; exact HR.out.2.2.2.row _ (mem_getD (d := []) hkl)
      subst hnk
      obtain ⟨pk, qk, rfl⟩ := hrk.addr (by omega)
      have hp3 : p3 < w.heap.size := World.block_lt_of_cell? _ _ hck
      have hcc : wr.cell? ⟨p3, o3 + k, none⟩ = some (.slice (some ⟨pk, qk, none⟩) 4 ck) := (HS.out.bel.cell (by exact hp3)).trans hck
      have HQ : Hid (RdI w (some ⟨pk, qk, none⟩) 4 (s.rows.getD k []) Yk ∧ k < s.rows.length) := ⟨hrk, hkl⟩
      have hI : (k : Int) < 2 := by omega
      have hln := numsTo_len HR.out.2.2.2 (k := k) (by omega)
      clear hck hrk hm3 hkl hp3
      go_wp2_with (with_reducible refine stopAppend rfl ?_)
      refine Stop.intro (wpList_append_own _ rfl _ _ 22 rfl (w.heap.size + 1) 3 i0 (.int .i64 0) 1 8 Try.underlying22 hi hz0 hz1 hz2 rfl (by decide) _ _ _ rfl HS.out.own ⟨pk, qk, none⟩ 4 ck ((s.rows.getD k []).map (Value.int .i64)) rfl (by rw [List.length_map, HQ.out.1.length]) (HQ.out.1.from HS.out.bel (by omega)) (ints_one _) (by unfold maxLen; omega) (by omega) HS.out.size ?_)
      intro v3 w3 hown hgrow _
      have HS3 : Hid (NumSt w #[.int .i64 s.count, .int .i64 s.sum, .int .i64 s.min, .int .i64 s.max, .slice (some ⟨p1, q1, none⟩) 8 c1, .slice (some ⟨p2, q2, none⟩) 8 c2, .slice (some ⟨p3, o3, none⟩) 2 c3] 29 v3 (s.numsTo (k + 1)) w3) := by
        show NumSt _ _ _ _ _ _
        rw [numsTo_succ HQ.out.2]
        exact HS.out.app HQ.out.1.length hown hgrow
      clear hown hgrow k6 hcc hln HS HQ
      go_wp2
      go_roundw
      case rel => exact ⟨k + 1, by omega, by go_num, HS3⟩
      case measure => simp [intOf]; omega
    · obtain rfl : k = 2 := by omega
      have e : s.numsTo 2 = s.nums := by
        unfold Sk.numsTo Sk.nums
        rw [List.take_of_length_le (by rw [HR.out.2.2.2.rows]; omega)]
      rw [e] at HS
      clear e
      go_wp2
      go_ret
      exact ⟨_, rfl, own_mono7 HS.out.own (by omega), HS.out.bel⟩
end Go.Proofs.Ytjndcfamfminkaq
