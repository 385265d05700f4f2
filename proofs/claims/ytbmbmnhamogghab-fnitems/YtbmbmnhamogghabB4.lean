/- Several texts of mine, laid together. No statement of the seat is proved here. -/
import Derived.Test.YtbmbmnhamogghabB3
import Derived.Deep.RegionHeld3
import Derived.Deep.AppendLies
import Derived.Laws.CopyOwn
import Derived.Test.YtbmbmnhamogghabB2
import Derived.Laws.StructEq
/- The walks through the model's helpers of a merging. No statement of the seat is proved here. -/
namespace Go.Proofs.Ytbmbmnhamogghab
open Go.RowKit
def sumL (xs ys : List Int) : List Int := List.zipWith addN xs ys
theorem sumL_length (xs ys : List Int) (n : Nat) (hx : xs.length = n) (hy : ys.length = n) : (sumL xs ys).length = n := by simp [sumL, hx, hy]
theorem sumL_snoc (xs ys : List Int) (k : Nat) (hx : k < xs.length) (hy : k < ys.length) : (sumL xs ys).take (k + 1) = (sumL xs ys).take k ++ [addN (xs[k]?.getD 0) (ys[k]?.getD 0)] := by
  rw [take_snoc (sumL xs ys) 0 k (by simp [sumL]; omega)]
  simp [sumL, List.getElem?_zipWith, List.getElem?_eq_getElem hx, List.getElem?_eq_getElem hy]
theorem own_grow {w wr w1 : World} {e : TypeId} {v : Value} {n : Nat} {xs : List Value} {o : Obj} (hbel : Below w.heap.size w wr) (hown : wr.ownsRow w.heap.size e 1 v n xs) (hgrow : ((wr.drew).alloc o).grownBy w1 v.ownBlock):
    Below w.heap.size w w1 := by
  have h1 : Below w.heap.size w (wr.drew.alloc o) := (hbel.drew).alloc hbel.size o
  exact h1.grown hgrow (by simp; have := hbel.size; omega) (fun k hk => (hown.lt k hk).1)
theorem rdI_of_own {w : World} {B e n : Nat} {v : Value} {zs : List Int} (h : w.ownsRow B e 1 v n (zs.map (Value.int .i64))) : ∃ a cap F, v = .slice a n cap ∧ RdI w a n zs F ∧ Own B w F := by
  rcases h.2 with ⟨h1, h2⟩ | ⟨g, cap, cur, h1, _⟩
  · subst h2
    exact ⟨none, 0, [], h1, ⟨by simpa using h.1, .inl ⟨rfl, rfl⟩⟩, Own.nil⟩
  · subst h1
    obtain ⟨F, hr, ho, _⟩ := RdI.of_own h
    exact ⟨_, cap, F, rfl, hr, ho⟩
theorem own_empty (w : World) (e : TypeId) : (w.alloc (.cells #[] e)).ownsRow w.heap.size e 1 (.slice (some ⟨w.heap.size, 0, none⟩) 0 0) 0 [] :=
  ⟨rfl, .inr ⟨w.heap.size, 0, #[], rfl, Nat.le_refl _, Blk.made w #[] e, Nat.le_refl _, by simp, rfl, rfl⟩⟩
theorem cell_new1 (w : World) (u : Value) (t : TypeId) : ∀ (j : Nat) (x : Value), [u][j]? = some x → (w.alloc (.cells #[u] t)).cell? ((⟨w.heap.size, 0, none⟩ : Addr).add j) = some x := by
  intro j x hx
  cases j with
  | zero =>
    obtain rfl : u = x := by simpa using hx
    simp [Addr.add]
  | succ j => simp at hx
set_option maxRecDepth 200000 in
set_option maxHeartbeats 2000000 in
theorem l3Sum_any (a b : Option Addr) (la ca cb : Nat) (xs ys : List Int) (F G : List Nat) (w : World) (ha : RdI w a la xs F) (hb : RdI w b la ys G) (hla : la ≤ 1048576) :
    Calls Try.prog 86 #[.slice a la ca, .slice b la cb] w fun e w' => NewI w (sumL xs ys) e w' := by
  obtain ⟨i0, hi, hz0, hz1, hz2⟩ := info_parts infoInt
  have Hx : Hid (xs.length = la) := ha.length
  have Hy : Hid (ys.length = la) := hb.length
  by_cases h0 : la = 0
  · subst h0
    have hx : xs = [] := List.eq_nil_of_length_eq_zero ha.length
    subst hx
    clear ha hb
    go_enter Try.func86, Try.ntmps86
    go_wp2
    refine wp_loop_rounds 1 ?_
    rw [rounds_succ]
    go_wp2
    go_ret
    exact ⟨_, 0, 0, [], rfl, ⟨rfl, .inl ⟨rfl, rfl⟩⟩, Own.nil, (Below.refl _ _).alloc (Nat.le_refl _) _⟩
  obtain ⟨b1, o1, rfl, hc1⟩ : ∃ b off, a = some ⟨b, off, none⟩ ∧ ∀ i, i < la → w.cell? ⟨b, off + i, none⟩ = some (.int .i64 (xs.getD i 0)) := by
    rcases ha.cells with h | ⟨b, off, _, h1, _, h2⟩
    · exact absurd h.1 h0
    · exact ⟨b, off, h1, h2⟩
  obtain ⟨b2, o2, rfl, hc2⟩ : ∃ b' off, b = some ⟨b', off, none⟩ ∧ ∀ i, i < la → w.cell? ⟨b', off + i, none⟩ = some (.int .i64 (ys.getD i 0)) := by
    rcases hb.cells with h | ⟨b, off, _, h1, _, h2⟩
    · exact absurd h.1 h0
    · exact ⟨b, off, h1, h2⟩
  have HC : Hid ((∀ i, i < la → w.cell? ⟨b1, o1 + i, none⟩ = some (.int .i64 (xs.getD i 0))) ∧ ∀ i, i < la → w.cell? ⟨b2, o2 + i, none⟩ = some (.int .i64 (ys.getD i 0))) := ⟨hc1, hc2⟩
  have HB : Hid (b1 < w.heap.size ∧ b2 < w.heap.size) := ⟨World.block_lt_of_cell? _ _ (hc1 0 (by omega)), World.block_lt_of_cell? _ _ (hc2 0 (by omega))⟩
  clear ha hb hc1 hc2
  go_enter Try.func86, Try.ntmps86
  go_wp2
  go_loopw [5, 6] (fun v i wr => ∃ k : Nat, k ≤ la ∧ i = .int .i64 k ∧ Hid (wr.ownsRow w.heap.size 3 1 v k (((sumL xs ys).take k).map (Value.int .i64))) ∧ Hid (Below w.heap.size w wr)) (fun _ i _ => la - (intOf i).toNat)
  case atStart => exact ⟨0, by omega, rfl, own_empty w _, (Below.refl _ _).alloc (Nat.le_refl _) _⟩
  case round =>
    obtain ⟨k, hk, rfl, HO, HBel⟩ := hrel
    by_cases hlt : k < la
    · obtain ⟨x, hx⟩ : ∃ x, x = xs[k]?.getD 0 := ⟨_, rfl⟩
      obtain ⟨y, hy⟩ : ∃ y, y = ys[k]?.getD 0 := ⟨_, rfl⟩
      have d1 : wr.cell? ⟨b1, o1 + k, none⟩ = some (.int .i64 x) := by rw [HBel.out.cell (p := ⟨b1, o1 + k, none⟩) HB.out.1, HC.out.1 k hlt, hx]; simp
      have d2 : wr.cell? ⟨b2, o2 + k, none⟩ = some (.int .i64 y) := by rw [HBel.out.cell (p := ⟨b2, o2 + k, none⟩) HB.out.2, HC.out.2 k hlt, hy]; simp
      have HS : Hid ((sumL xs ys).take (k + 1) = (sumL xs ys).take k ++ [addN x y]) := by rw [hx, hy]; exact sumL_snoc xs ys k (by rw [Hx.out]; exact hlt) (by rw [Hy.out]; exact hlt)
      clear hx hy
      have hwr : w.heap.size ≤ wr.heap.size := HBel.out.size
      have HKp : Hid (∀ o w1, (wr.drew.alloc o).grownBy w1 u5.ownBlock → w1.cell? ⟨b1, o1 + k, none⟩ = some (.int .i64 x) ∧ w1.cell? ⟨b2, o2 + k, none⟩ = some (.int .i64 y)) := by
        intro o w1 hg
        have hb := own_grow HBel.out HO.out hg
        exact ⟨by rw [hb.cell (p := ⟨b1, o1 + k, none⟩) HB.out.1, ← HBel.out.cell (p := ⟨b1, o1 + k, none⟩) HB.out.1]; exact d1, by rw [hb.cell (p := ⟨b2, o2 + k, none⟩) HB.out.2, ← HBel.out.cell (p := ⟨b2, o2 + k, none⟩) HB.out.2]; exact d2⟩
      go_wp2
      go_region_held3 (fun w' => w'.cell? ⟨b1, o1 + k, none⟩ = some (.int .i64 x) ∧ w'.cell? ⟨b2, o2 + k, none⟩ = some (.int .i64 y)) (first | (exact HKp.out _ _ hgrow) | go_keep)
        (first
          | (refine step_append_lies _ rfl _ _ 25 rfl w.heap.size 3 i0 (.int .i64 0) 1 8 Try.underlying25 hi hz0 hz1 hz2 rfl (by decide) _ k (((sumL xs ys).take k).map (Value.int .i64)) rfl (HO.out.alloc _) ⟨wr.heap.size, 0, none⟩ 1 1 [.int .i64 (addN x y)] rfl rfl (cell_new1 _ _ _) (by intro u hu; simp at hu; subst hu; rfl) (by decide) (by unfold maxLen; omega) (by omega) (by simp; omega) _ rfl ?_; intro g cp w1 hown hgrow hat hlt2)
          | (go_at_call 83; refine (addSpec_any _ _ _).mono ?_; rintro e w1 ⟨rfl, rfl⟩))
      have HO2 : Hid (w1.ownsRow w.heap.size 3 1 (.slice (some ⟨g, 0, none⟩) (k + 1) cp) (k + 1) (((sumL xs ys).take (k + 1)).map (Value.int .i64))) := by rw [HS.out, List.map_append]; exact hown
      have HB2 : Hid (Below w.heap.size w w1) := own_grow HBel.out HO.out hgrow
      clear hown hgrow hat HKp HO HBel d1 d2
      go_wp2
      go_roundw
      case rel => exact ⟨k + 1, by omega, by go_num, HO2, HB2⟩
      case measure => simp [intOf]; omega
    · obtain rfl : k = la := by omega
      have HE : Hid ((sumL xs ys).take k = sumL xs ys) := List.take_of_length_le (Nat.le_of_eq (sumL_length xs ys k Hx.out Hy.out))
      go_wp2
      go_ret
      have own := HO.out
      rw [HE.out] at own
      obtain ⟨a, cap, F2, rfl, hr, ho⟩ := rdI_of_own own
      exact ⟨a, k, cap, F2, rfl, hr, ho, HBel.out⟩
end Go.Proofs.Ytbmbmnhamogghab
/- Where the lists of a summary that is right lie. No statement of the seat is proved here. -/
namespace Go.Proofs.Ytbmbmnhamogghab
open Go.RowKit
/-- A summary whose lists are as long as told, and where they lie. -/
structure Shape (w : World) (s : Sk) (a1 a2 : Option Addr) (p po : Nat) (r0 r1 : Option Addr) (k0 k1 : Nat) : Prop where
  hist : ∃ F, RdI w a1 8 s.hist F
  regs : ∃ F, RdI w a2 8 s.regs F
  row0 : ∃ F, RdI w r0 4 (s.rows.getD 0 []) F
  row1 : ∃ F, RdI w r1 4 (s.rows.getD 1 []) F
  cell0 : w.cell? ⟨p, po, none⟩ = some (.slice r0 4 k0)
  cell1 : w.cell? ⟨p, po + 1, none⟩ = some (.slice r1 4 k1)
theorem Shape.below {w w' : World} {s : Sk} {a1 a2 : Option Addr} {p po : Nat} {r0 r1 : Option Addr} {k0 k1 : Nat} (h : Shape w s a1 a2 p po r0 r1 k0 k1) (hb : Below w.heap.size w w') : Shape w' s a1 a2 p po r0 r1 k0 k1 :=
  ⟨h.hist.elim fun F x => ⟨F, x.below hb⟩, h.regs.elim fun F x => ⟨F, x.below hb⟩, h.row0.elim fun F x => ⟨F, x.below hb⟩, h.row1.elim fun F x => ⟨F, x.below hb⟩, (hb.cell (World.block_lt_of_cell? _ _ h.cell0)).trans h.cell0, (hb.cell (World.block_lt_of_cell? _ _ h.cell1)).trans h.cell1⟩
theorem okL_len {l : List Int} {n : Nat} {m : Int} {z : Bool} (h : okL l n m z = true) : l.length = n := by
  unfold okL at h; simp at h; exact h.1
theorem shape_of {w : World} {s : Sk} {a1 a2 a3 : Option Addr} {n1 n2 n3 : Nat} {F1 F2 F3 : List Nat} (h1 : RdI w a1 n1 s.hist F1) (h2 : RdI w a2 n2 s.regs F2) (h3 : RdII w a3 n3 s.rows F3) (hok : s.ok = true) :
    n1 = 8 ∧ n2 = 8 ∧ n3 = 2 ∧ ∃ p po r0 r1 k0 k1, a3 = some ⟨p, po, none⟩ ∧ Shape w s a1 a2 p po r0 r1 k0 k1 := by
  unfold Sk.ok okHead okLists at hok
  simp only [Bool.and_eq_true, decide_eq_true_eq] at hok
  obtain ⟨⟨⟨_, hr⟩, _⟩, ⟨⟨⟨l1, l2⟩, l3⟩, l4⟩⟩ := hok
  have e1 := okL_len l1; have e2 := okL_len l2; have e3 := okL_len l3; have e4 := okL_len l4
  obtain rfl : n1 = 8 := by rw [← h1.length]; exact e1
  obtain rfl : n2 = 8 := by rw [← h2.length]; exact e2
  obtain rfl : n3 = 2 := by rw [← h3.length]; exact hr
  refine ⟨rfl, rfl, rfl, ?_⟩
  rcases h3.cells with ⟨h0, _⟩ | ⟨p, po, F', _, rfl, _, hm⟩
  · omega
  · obtain ⟨r0, m0, k0, G0, x0, q0, _⟩ := RdII.row hm h3.length 0 (by omega)
    obtain ⟨r1, m1, k1, G1, x1, q1, _⟩ := RdII.row hm h3.length 1 (by omega)
    obtain rfl : m0 = 4 := by rw [← q0.length]; exact e3
    obtain rfl : m1 = 4 := by rw [← q1.length]; exact e4
    exact ⟨p, po, r0, r1, k0, k1, rfl, ⟨F1, h1⟩, ⟨F2, h2⟩, ⟨G0, q0⟩, ⟨G1, q1⟩, x0, x1⟩
end Go.Proofs.Ytbmbmnhamogghab
/- The walks through the program's looks at numbers and lists of a summary. No statement of the seat is proved here. -/
namespace Go.Proofs.Ytbmbmnhamogghab
open Go.RowKit
set_option maxRecDepth 200000 in
theorem inRange_any (x hi : Int) (w : World) : Calls Try.prog 42 #[.int .i64 x, .int .i64 hi] w fun e w' => e = .returned (.bool (decide (0 ≤ x ∧ x ≤ hi))) ∧ w' = w := by
  have hd : ∀ d : Bool, d = decide (0 ≤ x ∧ x ≤ hi) → (d = true ↔ 0 ≤ x ∧ x ≤ hi) := by rintro d rfl; simp
  generalize decide (0 ≤ x ∧ x ≤ hi) = d at *
  have hd := hd d rfl
  by_cases h : 0 ≤ x
  · by_cases h2 : x ≤ hi
    · have e : Hid (d = true) := hd.2 ⟨h, h2⟩
      clear hd
      go_enter Try.func42, Try.ntmps42
      go_wp2
      go_ret
      rw [e.out]; exact ⟨rfl, rfl⟩
    · have e : Hid (d = false) := show d = false by cases d; rfl; exact absurd (hd.1 rfl).2 h2
      clear hd
      go_enter Try.func42, Try.ntmps42
      go_wp2
      go_ret
      rw [e.out]; exact ⟨rfl, rfl⟩
  · have e : Hid (d = false) := show d = false by cases d; rfl; exact absurd (hd.1 rfl).1 h
    clear hd
    go_enter Try.func42, Try.ntmps42
    go_wp2
    go_ret
    rw [e.out]; exact ⟨rfl, rfl⟩
set_option maxRecDepth 200000 in
set_option maxHeartbeats 1000000 in
theorem allInRange_any (a : Option Addr) (len cap : Nat) (zs : List Int) (F : List Nat) (most : Int) (w : World) (h : RdI w a len zs F) (hlen : len ≤ 140737488355328) :
    Calls Try.prog 91 #[.slice a len cap, .int .i64 most] w fun e w' => e = .returned (.bool (zs.all (okN most false))) ∧ w' = w := by
  obtain ⟨d, hd⟩ : ∃ d, d = zs.all (okN most false) := ⟨_, rfl⟩
  rw [← hd]
  have HL : Hid (zs.length = len) := h.length
  have HD : Hid (d = zs.all (okN most false)) := hd
  clear hd
  rcases h.cells with ⟨h0, _⟩ | ⟨b, off, hp, rfl, _, hc⟩
  · subst h0
    have hz : zs = [] := List.eq_nil_of_length_eq_zero h.length
    subst hz
    clear h
    go_enter Try.func91, Try.ntmps91
    go_wp2
    refine wp_loop_rounds 1 ?_
    rw [rounds_succ]
    go_wp2
    go_ret
    exact ⟨ret_bool (by rw [HD.out]; rfl), rfl⟩
  · have HC : Hid (∀ i, i < len → w.cell? ⟨b, off + i, none⟩ = some (.int .i64 (zs.getD i 0))) := hc
    clear h hc
    go_enter Try.func91, Try.ntmps91
    go_wp2
    go_loop [9] (fun i => ∃ k : Nat, k ≤ len ∧ i = .int .i64 k ∧ Hid ((zs.take k).all (okN most false) = true)) (fun i => len - (intOf i).toNat)
    case atStart => exact ⟨0, by omega, rfl, show _ = true by simp⟩
    case round =>
      obtain ⟨k, hk, rfl, HA⟩ := hrel
      by_cases hlt : k < len
      · have hck := HC.out k hlt
        obtain ⟨x, hx⟩ : ∃ x, x = zs[k]?.getD 0 := ⟨_, rfl⟩
        have hck2 : w.cell? ⟨b, off + k, none⟩ = some (.int .i64 x) := by rw [hx, hck]; simp
        have HX : Hid (x = zs[k]?.getD 0) := hx
        clear hck hx
        by_cases hin : 0 ≤ x ∧ x ≤ most
        · have HA2 : Hid ((zs.take (k + 1)).all (okN most false) = true) := all_snoc (by rw [HL.out]; exact hlt) HA.out (by
            rw [← HX.out]; unfold okN; rw [dec_true hin]; rfl)
          have hdec : decide (0 ≤ x ∧ x ≤ most) = true := by simpa using hin
          clear hin
          go_wp2_with fail
          refine (inRange_any _ _ _).mono ?_
          rintro e w1 ⟨rfl, hw1⟩
          have hw1' := hw1.symm
          subst hw1'
          rw [hdec]
          clear hw1 hdec
          go_wp2
          go_round
          case rel => exact ⟨k + 1, by omega, by go_num, HA2⟩
          case measure => simp [intOf]; omega
        · have HN : Hid (zs.all (okN most false) = false) := all_not (by rw [HL.out]; exact hlt) (by rw [← HX.out]; unfold okN; rw [dec_false hin]; rfl)
          have hdec : decide (0 ≤ x ∧ x ≤ most) = false := by simpa using hin
          clear hin
          go_wp2_with fail
          refine (inRange_any _ _ _).mono ?_
          rintro e w1 ⟨rfl, hw1⟩
          have hw1' := hw1.symm
          subst hw1'
          rw [hdec]
          clear hw1 hdec
          go_wp2
          go_ret
          exact ⟨ret_bool (by rw [HD.out, HN.out]), rfl⟩
      · obtain rfl : k = len := by omega
        have HF : Hid (zs.all (okN most false) = true) := by have := HA.out; rw [List.take_of_length_le (Nat.le_of_eq HL.out)] at this; exact this
        go_wp2
        go_ret
        exact ⟨ret_bool (by rw [HD.out, HF.out]), rfl⟩
/-- Lists as long as told. -/
def Sk.shaped (s : Sk) : Bool := s.rows.all (fun z => decide (z.length = 4)) && decide (s.hist.length = 8) && decide (s.regs.length = 8) && decide (s.rows.length = 2)
theorem allL_snoc {p : List Int → Bool} {l : List (List Int)} {k : Nat} (hk : k < l.length) (h : (l.take k).all p = true) (hx : p (l.getD k []) = true) : (l.take (k + 1)).all p = true := by
  rw [take_snoc l [] k hk, List.all_append, h]; simpa using hx
theorem allL_not {p : List Int → Bool} {l : List (List Int)} {k : Nat} (hk : k < l.length) (hx : p (l.getD k []) = false) : l.all p = false := by
  cases e : l.all p
  · rfl
  · rw [List.all_eq_true] at e
    rw [e _ (mem_getD hk)] at hx; cases hx
set_option maxRecDepth 200000 in
set_option maxHeartbeats 1000000 in
theorem isShaped_any (v : Value) (s : Sk) (F : List Nat) (w : World) (h : RdSk w v s F) (hw : s.wide) :
    Calls Try.prog 72 #[v] w fun e w' => e = .returned (.bool s.shaped) ∧ Below w.heap.size w w' := by
  obtain ⟨a1, n1, c1, a2, n2, c2, a3, n3, c3, F1, F2, F3, rfl, h1, h2, h3, _⟩ := h
  have hn1 : n1 ≤ 140737488355328 := by rw [← h1.length]; exact hw.hist
  have hn2 : n2 ≤ 140737488355328 := by rw [← h2.length]; exact hw.regs
  have hn3 : n3 ≤ 140737488355328 := by rw [← h3.length]; exact hw.rows
  have HW : Hid s.wide := hw
  have HB : Hid (Below w.heap.size w (w.alloc (.cells #[.int .i64 s.count, .int .i64 s.sum, .int .i64 s.min, .int .i64 s.max, .slice a1 n1 c1, .slice a2 n2 c2, .slice a3 n3 c3] 28))) := (Below.refl w.heap.size w).alloc (Nat.le_refl _) _
  have L1 : Hid (s.hist.length = n1) := h1.length
  have L2 : Hid (s.regs.length = n2) := h2.length
  have L3 : Hid (s.rows.length = n3) := h3.length
  obtain ⟨d, hd⟩ : ∃ d, d = s.shaped := ⟨_, rfl⟩
  rw [← hd]
  have HD : Hid (d = s.shaped) := hd
  clear h1 h2 hw hd
  have tailOk : Hid (s.rows.all (fun z => decide (z.length = 4)) = true → d = (decide (n1 = 8) && decide (n2 = 8) && decide (n3 = 2))) := fun e => by
    rw [HD.out]; unfold Sk.shaped; rw [e, L1.out, L2.out, L3.out]; rfl
  by_cases h0 : n3 = 0
  · subst h0
    have hz : s.rows = [] := List.eq_nil_of_length_eq_zero L3.out
    have HF : Hid (d = false) := by show d = _; rw [tailOk.out (by rw [hz]; rfl)]; simp
    clear h3 hz tailOk
    go_enter Try.func72, Try.ntmps72
    go_wp2
    refine wp_loop_rounds 1 ?_
    rw [rounds_succ]
    by_cases q1 : n1 = 8
    · subst q1
      by_cases q2 : n2 = 8
      · subst q2
        go_wp2
        go_ret
        exact ⟨ret_bool HF.out.symm, HB.out⟩
      · have q2' : ((n2 : Int) == 8) = false := by simp; omega
        clear q2
        go_wp2
        go_ret
        exact ⟨ret_bool HF.out.symm, HB.out⟩
    · have q1' : ((n1 : Int) == 8) = false := by simp; omega
      clear q1
      go_wp2
      go_ret
      exact ⟨ret_bool HF.out.symm, HB.out⟩
  · obtain ⟨b3, o3, F3', ha3, hm3⟩ : ∃ b off F', a3 = some ⟨b, off, none⟩ ∧ RdM w (s.rows.map ints) b off F' := by
      rcases h3.cells with ⟨h0', _⟩ | ⟨b, off, F', _, e, _, hm⟩
      · exact absurd h0' h0
      · exact ⟨b, off, F', e, hm⟩
    subst ha3
    have HM : Hid (RdM w (s.rows.map ints) b3 o3 F3') := hm3
    clear h3 hm3
    go_enter Try.func72, Try.ntmps72
    go_wp2
    go_loop [8] (fun i => ∃ k : Nat, k ≤ n3 ∧ i = .int .i64 k ∧ Hid ((s.rows.take k).all (fun z => decide (z.length = 4)) = true)) (fun i => n3 - (intOf i).toNat)
    case atStart => exact ⟨0, by omega, rfl, show _ = true by simp⟩
    case round =>
      obtain ⟨k, hk, rfl, HA⟩ := hrel
      by_cases hlt : k < n3
      · obtain ⟨r, m, c, G, hc, hr, _⟩ := RdII.row HM.out L3.out k hlt
        have hcb : b3 < w.heap.size := World.block_lt_of_cell? _ _ hc
        have hc2 : (w.alloc (.cells #[.int .i64 s.count, .int .i64 s.sum, .int .i64 s.min, .int .i64 s.max, .slice a1 n1 c1, .slice a2 n2 c2, .slice (some ⟨b3, o3, none⟩) n3 c3] 28)).cell? ⟨b3, o3 + k, none⟩ = some (.slice r m c) := (HB.out.cell (by exact hcb)).trans hc
        have HM4 : Hid ((s.rows.getD k []).length = m) := hr.length
        have hm : m ≤ 140737488355328 := by rw [← hr.length]; exact HW.out.row _ (mem_getD (by rw [L3.out]; exact hlt))
        clear hc hr
        by_cases q : m = 4
        · subst q
          have HA2 : Hid ((s.rows.take (k + 1)).all (fun z => decide (z.length = 4)) = true) := allL_snoc (by rw [L3.out]; exact hlt) HA.out (by rw [HM4.out]; rfl)
          go_wp2
          go_round
          case rel => exact ⟨k + 1, by omega, by go_num, HA2⟩
          case measure => simp [intOf]; omega
        · have q' : ((m : Int) != 4) = true := by simp; omega
          have HN : Hid (s.rows.all (fun z => decide (z.length = 4)) = false) := allL_not (by rw [L3.out]; exact hlt) (by rw [HM4.out]; exact dec_false q)
          clear q
          go_wp2
          go_ret
          exact ⟨ret_bool (by rw [HD.out]; unfold Sk.shaped; rw [HN.out]; rfl), HB.out⟩
      · obtain rfl : k = n3 := by omega
        have HF : Hid (s.rows.all (fun z => decide (z.length = 4)) = true) := by have := HA.out; rw [List.take_of_length_le (Nat.le_of_eq L3.out)] at this; exact this
        have HT : Hid (d = (decide (n1 = 8) && decide (n2 = 8) && decide (k = 2))) := tailOk.out HF.out
        clear tailOk hlt
        by_cases q1 : n1 = 8
        · subst q1
          by_cases q2 : n2 = 8
          · subst q2
            by_cases q3 : k = 2
            · subst q3
              go_wp2
              go_ret
              exact ⟨ret_bool (by rw [HT.out]; rfl), HB.out⟩
            · have q3' : ((k : Int) == 2) = false := by simp; omega
              have Q3 : Hid (decide (k = 2) = false) := dec_false q3
              clear q3
              go_wp2
              go_ret
              exact ⟨ret_bool (by rw [HT.out, Q3.out]; rfl), HB.out⟩
          · have q2' : ((n2 : Int) == 8) = false := by simp; omega
            have Q2 : Hid (decide (n2 = 8) = false) := dec_false q2
            clear q2
            go_wp2
            go_ret
            exact ⟨ret_bool (by rw [HT.out, Q2.out]; simp), HB.out⟩
        · have q1' : ((n1 : Int) == 8) = false := by simp; omega
          have Q1 : Hid (decide (n1 = 8) = false) := dec_false q1
          clear q1
          go_wp2
          go_ret
          exact ⟨ret_bool (by rw [HT.out, Q1.out]; rfl), HB.out⟩
end Go.Proofs.Ytbmbmnhamogghab
/- A summary's numbers in one row, as plain data. No statement of the seat is proved here. -/
namespace Go.Proofs.Ytbmbmnhamogghab
open Go.RowKit
def tc (xs : List Int) : Array Value := (xs.map (Value.int .i64)).toArray
theorem tc_size (xs : List Int) : (tc xs).size = xs.length := by simp [tc]
theorem tc_one (xs : List Int) : (tc xs).all (·.oneCell') = true := by
  rw [Array.all_eq_true_iff_forall_mem]
  intro v hv
  simp only [tc, List.mem_toArray, List.mem_map] at hv
  obtain ⟨x, _, rfl⟩ := hv
  rfl
theorem tc_at (xs : List Int) (i : Nat) : (tc xs)[i]? = xs[i]?.map (Value.int .i64) := by simp [tc]
/-- All numbers of a summary, one behind the other. -/
def Sk.tl (s : Sk) : List Int := [s.count, s.sum, s.min, s.max] ++ (s.hist ++ (s.regs ++ (s.rows.getD 0 [] ++ s.rows.getD 1 [])))
theorem len4 {α : Type} {l : List α} (h : l.length = 4) : ∃ a b c d, l = [a, b, c, d] := by
  match l, h with
  | [a, b, c, d], _ => exact ⟨a, b, c, d, rfl⟩
theorem len8 {α : Type} {l : List α} (h : l.length = 8) : ∃ a b c d e f g i, l = [a, b, c, d, e, f, g, i] := by
  match l, h with
  | [a, b, c, d, e, f, g, i], _ => exact ⟨a, b, c, d, e, f, g, i, rfl⟩
theorem tl_splices {α : Type} (a b c d z : α) (H R P Q : List α) (hH : H.length = 8) (hR : R.length = 8) (hP : P.length = 4) (hQ : Q.length = 4) :
    splice (splice (splice (splice ([a, b, c, d] ++ List.replicate 24 z) 4 H) 12 R) 20 P) 24 Q = [a, b, c, d] ++ (H ++ (R ++ (P ++ Q))) := by
  obtain ⟨h0, h1, h2, h3, h4, h5, h6, h7, rfl⟩ := len8 hH
  obtain ⟨r0, r1, r2, r3, r4, r5, r6, r7, rfl⟩ := len8 hR
  obtain ⟨p0, p1, p2, p3, rfl⟩ := len4 hP
  obtain ⟨q0, q1, q2, q3, rfl⟩ := len4 hQ
  rfl
theorem Sk.shaped_parts {s : Sk} (h : s.shaped = true) : s.hist.length = 8 ∧ s.regs.length = 8 ∧ ∃ x y, s.rows = [x, y] ∧ x.length = 4 ∧ y.length = 4 := by
  unfold Sk.shaped at h
  simp only [Bool.and_eq_true, decide_eq_true_eq] at h
  obtain ⟨⟨⟨h1, h2⟩, h3⟩, h4⟩ := h
  refine ⟨h2, h3, ?_⟩
  obtain ⟨x, y, e⟩ : ∃ x y, s.rows = [x, y] := by
    match s.rows, h4 with
    | [x, y], _ => exact ⟨x, y, rfl⟩
  rw [e] at h1
  simp at h1
  exact ⟨x, y, e, h1.1, h1.2⟩
theorem tl_map (s : Sk) (h1 : s.hist.length = 8) (h2 : s.regs.length = 8) (h3 : (s.rows.getD 0 []).length = 4) (h4 : (s.rows.getD 1 []).length = 4) :
    splice (splice (splice (splice (([s.count, s.sum, s.min, s.max] ++ List.replicate 24 0).map (Value.int .i64)) 4 (s.hist.map (Value.int .i64))) 12 (s.regs.map (Value.int .i64))) 20 ((s.rows.getD 0 []).map (Value.int .i64))) 24 ((s.rows.getD 1 []).map (Value.int .i64)) = s.tl.map (Value.int .i64) := by
  have := tl_splices (Value.int .i64 s.count) (Value.int .i64 s.sum) (Value.int .i64 s.min) (Value.int .i64 s.max) (Value.int .i64 0) (s.hist.map (Value.int .i64)) (s.regs.map (Value.int .i64)) ((s.rows.getD 0 []).map (Value.int .i64)) ((s.rows.getD 1 []).map (Value.int .i64)) (by rw [List.length_map]; exact h1) (by rw [List.length_map]; exact h2) (by rw [List.length_map]; exact h3) (by rw [List.length_map]; exact h4)
  refine Eq.trans ?_ (this.trans ?_)
  · rfl
  · simp [Sk.tl]
theorem Sk.tl_length {s : Sk} (h : s.shaped = true) : s.tl.length = 28 := by
  obtain ⟨h1, h2, x, y, e, h3, h4⟩ := Sk.shaped_parts h
  simp [Sk.tl, h1, h2, e, h3, h4]
theorem split28 {xs : List Int} (h : xs.length = 28) : xs = [xs.getD 0 0, xs.getD 1 0, xs.getD 2 0, xs.getD 3 0] ++ ((xs.drop 4).take 8 ++ ((xs.drop 12).take 8 ++ (xs.drop 20).take 8)) := by
  have e4 : (xs.drop 20).take 8 = xs.drop 20 := List.take_of_length_le (by simp; omega)
  have e3 : (xs.drop 12).take 8 ++ xs.drop 20 = xs.drop 12 := by
    have := List.take_append_drop 8 (xs.drop 12)
    rw [List.drop_drop] at this; exact this
  have e2 : (xs.drop 4).take 8 ++ xs.drop 12 = xs.drop 4 := by
    have := List.take_append_drop 8 (xs.drop 4)
    rw [List.drop_drop] at this; exact this
  rw [e4, e3, e2]
  have e1 : xs.take 4 = [xs.getD 0 0, xs.getD 1 0, xs.getD 2 0, xs.getD 3 0] := by
    obtain ⟨a, b, c, d, e⟩ := len4 (l := xs.take 4) (by simp; omega)
    have g : ∀ i, i < 4 → xs.getD i 0 = (xs.take 4).getD i 0 := fun i hi => by simp [hi]
    rw [g 0 (by omega), g 1 (by omega), g 2 (by omega), g 3 (by omega), e]
    rfl
  rw [← e1, List.take_append_drop]
theorem eq28 {xs ys : List Int} (hx : xs.length = 28) (hy : ys.length = 28) (h0 : xs.getD 0 0 = ys.getD 0 0) (h1 : xs.getD 1 0 = ys.getD 1 0) (h2 : xs.getD 2 0 = ys.getD 2 0) (h3 : xs.getD 3 0 = ys.getD 3 0)
    (h4 : (xs.drop 4).take 8 = (ys.drop 4).take 8) (h5 : (xs.drop 12).take 8 = (ys.drop 12).take 8) (h6 : (xs.drop 20).take 8 = (ys.drop 20).take 8) : xs = ys := by
  rw [split28 hx, split28 hy, h0, h1, h2, h3, h4, h5, h6]
theorem tc_get {xs : List Int} {i : Nat} (h : i < xs.length) : (tc xs)[i]? = some (.int .i64 (xs.getD i 0)) := by
  rw [tc_at, List.getElem?_eq_getElem h]; simp [List.getElem?_eq_getElem h]
end Go.Proofs.Ytbmbmnhamogghab
/- A summary's numbers in one row (the program's own kind): how they are laid out of it. No statement of the seat is proved here. -/
namespace Go.Proofs.Ytbmbmnhamogghab
open Go.RowKit
/-- Two blocks of their own, one behind the other. -/
theorem two_made (w : World) (A B : Array Value) (tA tB : TypeId) : Blk ((w.alloc (.cells A tA)).alloc (.cells B tB)) w.heap.size A tA ∧ Blk ((w.alloc (.cells A tA)).alloc (.cells B tB)) (w.heap.size + 1) B tB ∧ Below w.heap.size w ((w.alloc (.cells A tA)).alloc (.cells B tB)) :=
  ⟨(Blk.made _ _ _).alloc _, Blk.made_eq (by simp), Below.allocW _ (Below.allocW _ (Below.refl _ _) (Nat.le_refl _)) (Nat.le_refl _)⟩
theorem RdI.src {w W : World} {a : Option Addr} {n : Nat} {zs : List Int} {F : List Nat} (h : RdI w a n zs F) (hb : Below w.heap.size w W) (hp : 0 < n) : ∃ ad, a = some ad ∧ ∀ j v, (zs.map (Value.int .i64))[j]? = some v → W.cell? (ad.add j) = some v := by
  have h' := h.below hb
  rcases h'.cells with ⟨h0, _⟩ | ⟨b, off, _, rfl, _, hc⟩
  · omega
  · refine ⟨_, rfl, fun j v hv => ?_⟩
    rw [List.getElem?_map] at hv
    obtain ⟨z, hz, rfl⟩ := Option.map_eq_some_iff.1 hv
    have hj : j < zs.length := (List.getElem?_eq_some_iff.1 hz).1
    have := hc j (by rw [← h'.length]; exact hj)
    have e : (⟨b, off, none⟩ : Addr).add j = ⟨b, off + j, none⟩ := by unfold Addr.add; split <;> simp_all
    rw [e, this]
    simp [hz]
theorem ints_one (zs : List Int) : ∀ v ∈ zs.map (Value.int .i64), v.oneCell' = true := by
  intro v hv
  obtain ⟨x, _, rfl⟩ := List.mem_map.1 hv
  rfl
theorem infoTally : (Try.prog.info? 56).map (·.size) = some 28 := by kernel_rfl
theorem tallySize {xs : List Int} (h : xs.length = 28) : (Try.prog.info? 56).map (·.size) = some (tc xs).size := by rw [tc_size, h]; exact infoTally
theorem infoInt1 : (Try.prog.info? 3).map (·.size) = some 1 := by kernel_rfl
set_option maxRecDepth 200000 in
set_option maxHeartbeats 1000000 in
theorem tallyOf_any (v : Value) (s : Sk) (F : List Nat) (w : World) (h : RdSk w v s F) (hw : s.wide) :
    Calls Try.prog 48 #[v] w fun e w' => ∃ xs : List Int, e = .returned (.tuple #[.agg (tc xs), .bool s.shaped]) ∧ xs.length = 28 ∧ (s.shaped = true → xs = s.tl) ∧ Below w.heap.size w w' := by
  have HH : Hid (RdSk w v s F ∧ s.wide) := ⟨h, hw⟩
  obtain ⟨a1, n1, c1, a2, n2, c2, a3, n3, c3, F1, F2, F3, rfl, h1, h2, h3, _⟩ := h
  have HR : Hid (RdI w a1 n1 s.hist F1 ∧ RdI w a2 n2 s.regs F2 ∧ RdII w a3 n3 s.rows F3) := ⟨h1, h2, h3⟩
  clear h1 h2 h3 hw
  have Z28 := two_made w #[.int .i64 s.count, .int .i64 s.sum, .int .i64 s.min, .int .i64 s.max, .slice a1 n1 c1, .slice a2 n2 c2, .slice a3 n3 c3] (tc (List.replicate 28 0)) 28 56
  have HZ : Hid (_ ∧ _ ∧ _) := Z28
  clear Z28
  go_enter Try.func48, Try.ntmps48
  go_wp2_with fail
  refine (isShaped_any _ s F _ (HH.out.1.below HZ.out.2.2) HH.out.2).mono ?_
  rintro e w1 ⟨rfl, hb1⟩
  have HB : Hid (Blk w1 w.heap.size #[.int .i64 s.count, .int .i64 s.sum, .int .i64 s.min, .int .i64 s.max, .slice a1 n1 c1, .slice a2 n2 c2, .slice a3 n3 c3] 28 ∧ Blk w1 (w.heap.size + 1) (tc (List.replicate 28 0)) 56 ∧ Below w.heap.size w w1) := ⟨HZ.out.1.below hb1, HZ.out.2.1.below hb1, Below.next HZ.out.2.2 hb1⟩
  clear hb1 HZ
  cases es : s.shaped
  · have ES : Hid (s.shaped = false) := es
    clear es
    go_wp2_with (with_reducible refine stopStore 56 rfl ?_)
    refine store_known 56 (w.heap.size + 1) _ (tc (List.replicate 28 0)) 56 HB.out.2.1 rfl rfl rfl rfl infoTally rfl (tc_one _) ?_
    go_wp2
    refine bodyPost_ret (results_row_tmp Try.results48 _ _ (w.heap.size + 1) _ _ _ _ rfl HB.out.2.1.setRow Try.underlying56 rfl infoTally) rfl ?_
    exact ⟨List.replicate 28 0, by rw [ES.out]; rfl, rfl, fun e => by (rw [ES.out] at e; cases e), below_setRow HB.out.2.2 (by omega) _⟩
  have ES : Hid (s.shaped = true) := es
  obtain ⟨e1, e2, x, y, er, ex, ey⟩ := Sk.shaped_parts es
  obtain rfl : n1 = 8 := by rw [← HR.out.1.length]; exact e1
  obtain rfl : n2 = 8 := by rw [← HR.out.2.1.length]; exact e2
  obtain rfl : n3 = 2 := by rw [← HR.out.2.2.length, er]; rfl
  obtain ⟨p, po, F', ha3, hm⟩ : ∃ p po F', a3 = some ⟨p, po, none⟩ ∧ RdM w (s.rows.map ints) p po F' := by
    rcases HR.out.2.2.cells with ⟨h0, _⟩ | ⟨p, po, F', _, e, _, hm⟩
    · omega
    · exact ⟨p, po, F', e, hm⟩
  subst ha3
  obtain ⟨r0, m0, k0, G0, x0, q0, _⟩ := RdII.row hm HR.out.2.2.length 0 (by omega)
  obtain ⟨r1, m1, k1, G1, x1, q1, _⟩ := RdII.row hm HR.out.2.2.length 1 (by omega)
  obtain rfl : m0 = 4 := by rw [← q0.length, er]; exact ex
  obtain rfl : m1 = 4 := by rw [← q1.length, er]; exact ey
  have hpw : p < w.heap.size := World.block_lt_of_cell? _ _ x0
  have HX : Hid (w.cell? ⟨p, po, none⟩ = some (.slice r0 4 k0) ∧ w.cell? ⟨p, po + 1, none⟩ = some (.slice r1 4 k1) ∧ RdI w r0 4 (s.rows.getD 0 []) G0 ∧ RdI w r1 4 (s.rows.getD 1 []) G1) := ⟨x0, x1, q0, q1⟩
  have HE : Hid (s.hist.length = 8 ∧ s.regs.length = 8 ∧ (s.rows.getD 0 []).length = 4 ∧ (s.rows.getD 1 []).length = 4) := ⟨e1, e2, q0.length, q1.length⟩
  clear e1 e2 er ex ey hm x0 x1 q0 q1 es x y
  have y0 := HB.out.1.cell 0
  have y1 := HB.out.1.cell 1
  have y2 := HB.out.1.cell 2
  have y3 := HB.out.1.cell 3
  simp only [List.getElem?_toArray, List.getElem?_cons_succ, List.getElem?_cons_zero] at y0 y1 y2 y3
  go_wp2_with (with_reducible refine stopStore 56 rfl ?_)
  refine store_fresh 56 w1.heap.size rfl (tc (List.replicate 28 0)) (tc ([s.count, s.sum, s.min, s.max] ++ List.replicate 24 0)) 56 rfl rfl rfl rfl (tallySize rfl) rfl (tc_one _) ?_
  intro W2 hg2 hb2
  obtain ⟨L0, hL0⟩ : ∃ L, L = ([s.count, s.sum, s.min, s.max] ++ List.replicate 24 0).map (Value.int .i64) := ⟨_, rfl⟩
  have HG2 : Hid (W2.heap[w1.heap.size]? = some (.cells L0.toArray 56 (0, 0)) ∧ L0.length = 28) := ⟨by rw [hL0]; exact hg2, by rw [hL0]; rfl⟩
  have HL0 : Hid (L0 = ([s.count, s.sum, s.min, s.max] ++ List.replicate 24 0).map (Value.int .i64)) := hL0
  have hlt1 : w.heap.size + 1 < w1.heap.size := HB.out.2.1.lt
  have HB2 : Hid (Below w1.heap.size w1 W2) := hb2
  clear y0 y1 y2 y3 hg2 hL0 hb2
  obtain ⟨H1, hH1⟩ : ∃ L, L = s.hist.map (Value.int .i64) := ⟨_, rfl⟩
  obtain ⟨H2, hH2⟩ : ∃ L, L = s.regs.map (Value.int .i64) := ⟨_, rfl⟩
  obtain ⟨H3, hH3⟩ : ∃ L, L = (s.rows.getD 0 []).map (Value.int .i64) := ⟨_, rfl⟩
  obtain ⟨H4, hH4⟩ : ∃ L, L = (s.rows.getD 1 []).map (Value.int .i64) := ⟨_, rfl⟩
  have HS : Hid (H1 = s.hist.map (Value.int .i64) ∧ H2 = s.regs.map (Value.int .i64) ∧ H3 = (s.rows.getD 0 []).map (Value.int .i64) ∧ H4 = (s.rows.getD 1 []).map (Value.int .i64)) := ⟨hH1, hH2, hH3, hH4⟩
  have HL : Hid (H1.length = 8 ∧ H2.length = 8 ∧ H3.length = 4 ∧ H4.length = 4) := ⟨by rw [hH1, List.length_map]; exact HE.out.1, by rw [hH2, List.length_map]; exact HE.out.2.1, by rw [hH3, List.length_map]; exact HE.out.2.2.1, by rw [hH4, List.length_map]; exact HE.out.2.2.2⟩
  have HO : Hid ((∀ v ∈ H1, v.oneCell' = true) ∧ (∀ v ∈ H2, v.oneCell' = true) ∧ (∀ v ∈ H3, v.oneCell' = true) ∧ (∀ v ∈ H4, v.oneCell' = true)) := ⟨by rw [hH1]; exact ints_one _, by rw [hH2]; exact ints_one _, by rw [hH3]; exact ints_one _, by rw [hH4]; exact ints_one _⟩
  have HK : Hid (∀ W, Below w1.heap.size w1 W → (∃ ad, a1 = some ad ∧ ∀ j v, H1[j]? = some v → W.cell? (ad.add j) = some v) ∧ (∃ ad, a2 = some ad ∧ ∀ j v, H2[j]? = some v → W.cell? (ad.add j) = some v) ∧ (∃ ad, r0 = some ad ∧ ∀ j v, H3[j]? = some v → W.cell? (ad.add j) = some v) ∧ (∃ ad, r1 = some ad ∧ ∀ j v, H4[j]? = some v → W.cell? (ad.add j) = some v)) := by
    intro W hb
    have hb' := Below.next HB.out.2.2 hb
    rw [hH1, hH2, hH3, hH4]
    exact ⟨HR.out.1.src hb' (by omega), HR.out.2.1.src hb' (by omega), HX.out.2.2.1.src hb' (by omega), HX.out.2.2.2.src hb' (by omega)⟩
  have HC : Hid (∀ W, Below w1.heap.size w1 W → W.cell? ⟨w.heap.size, 4, none⟩ = some (.slice a1 8 c1) ∧ W.cell? ⟨w.heap.size, 5, none⟩ = some (.slice a2 8 c2) ∧ W.cell? ⟨w.heap.size, 6, none⟩ = some (.slice (some ⟨p, po, none⟩) 2 c3) ∧ W.cell? ⟨p, po, none⟩ = some (.slice r0 4 k0) ∧ W.cell? ⟨p, po + 1, none⟩ = some (.slice r1 4 k1)) := by
    intro W hb
    have b := HB.out.1.below hb
    have hb' := Below.next HB.out.2.2 hb
    exact ⟨by rw [b.cell]; rfl, by rw [b.cell]; rfl, by rw [b.cell]; rfl, (hb'.cell (by exact hpw)).trans HX.out.1, (hb'.cell (by exact hpw)).trans HX.out.2.1⟩
  clear hH1 hH2 hH3 hH4
  have z4 := (HC.out W2 HB2.out).1
  go_wp2
  go_region_law (refine step_copy_splice rfl _ _ 25 25 rfl 3 Try.underlying25 infoInt1 _ _ _ _ _ _ rfl rfl w1.heap.size 4 L0 56 HG2.out.1 H1 (by rw [HL.out.1]; rfl) (fun _ => ⟨rfl, (HK.out _ HB2.out.drew).1⟩) (by rw [HL.out.1, HG2.out.2]; omega) HO.out.1 w1.heap.size w1 HB2.out.drew (Nat.le_refl _) ?_; intro W3 hg3 hb3)
  have z5 := (HC.out W3 hb3).2.1
  have HB3 : Hid (Below w1.heap.size w1 W3) := hb3
  clear hb3 z4
  obtain ⟨L1, hL1⟩ : ∃ L, L = splice L0 4 H1 := ⟨_, rfl⟩
  have HG3 : Hid (W3.heap[w1.heap.size]? = some (.cells L1.toArray 56 (0, 0)) ∧ L1.length = 28 ∧ L1 = splice L0 4 H1) := ⟨by rw [hL1]; exact hg3.out, by rw [hL1, length_splice _ _ _ (by rw [HL.out.1, HG2.out.2]; omega)]; exact HG2.out.2, hL1⟩
  clear hg3 hL1
  go_wp2
  go_region_law (refine step_copy_splice rfl _ _ 25 25 rfl 3 Try.underlying25 infoInt1 _ _ _ _ _ _ rfl rfl w1.heap.size 12 L1 56 HG3.out.1 H2 (by rw [HL.out.2.1]; rfl) (fun _ => ⟨rfl, (HK.out _ HB3.out.drew).2.1⟩) (by rw [HL.out.2.1, HG3.out.2.1]; omega) HO.out.2.1 w1.heap.size w1 HB3.out.drew (Nat.le_refl _) ?_; intro W4 hg4 hb4)
  have z6 := (HC.out W4 hb4).2.2.1
  have u0 := (HC.out W4 hb4).2.2.2.1
  have HB4 : Hid (Below w1.heap.size w1 W4) := hb4
  clear hb4 z5
  obtain ⟨L2, hL2⟩ : ∃ L, L = splice L1 12 H2 := ⟨_, rfl⟩
  have HG4 : Hid (W4.heap[w1.heap.size]? = some (.cells L2.toArray 56 (0, 0)) ∧ L2.length = 28 ∧ L2 = splice L1 12 H2) := ⟨by rw [hL2]; exact hg4.out, by rw [hL2, length_splice _ _ _ (by rw [HL.out.2.1, HG3.out.2.1]; omega)]; exact HG3.out.2.1, hL2⟩
  clear hg4 hL2
  go_wp2
  refine wp_loop_rounds 3 ?_
  rw [rounds_succ]
  go_wp2_with (with_reducible refine stopCopy rfl ?_)
  refine Stop.intro (wpList_copy_splice rfl _ _ 25 25 rfl 3 Try.underlying25 infoInt1 _ _ _ _ _ _ rfl rfl w1.heap.size 20 L2 56 HG4.out.1 H3 (by rw [HL.out.2.2.1]; rfl) (fun _ => ⟨rfl, (HK.out _ HB4.out).2.2.1⟩) (by rw [HL.out.2.2.1, HG4.out.2.1]; omega) HO.out.2.2.1 w1.heap.size w1 HB4.out (Nat.le_refl _) ?_)
  intro W5 hg5 hb5
  have u1 := (HC.out W5 hb5).2.2.2.2
  have HB5 : Hid (Below w1.heap.size w1 W5) := hb5
  clear hb5 u0 z6
  obtain ⟨L3, hL3⟩ : ∃ L, L = splice L2 20 H3 := ⟨_, rfl⟩
  have HG5 : Hid (W5.heap[w1.heap.size]? = some (.cells L3.toArray 56 (0, 0)) ∧ L3.length = 28 ∧ L3 = splice L2 20 H3) := ⟨by rw [hL3]; exact hg5.out, by rw [hL3, length_splice _ _ _ (by rw [HL.out.2.2.1, HG4.out.2.1]; omega)]; exact HG4.out.2.1, hL3⟩
  clear hg5 hL3
  go_wp2_with fail
  rw [rounds_succ]
  go_wp2_with (with_reducible refine stopCopy rfl ?_)
  refine Stop.intro (wpList_copy_splice rfl _ _ 25 25 rfl 3 Try.underlying25 infoInt1 _ _ _ _ _ _ rfl rfl w1.heap.size 24 L3 56 HG5.out.1 H4 (by rw [HL.out.2.2.2]; rfl) (fun _ => ⟨rfl, (HK.out _ HB5.out).2.2.2⟩) (by rw [HL.out.2.2.2, HG5.out.2.1]; omega) HO.out.2.2.2 w1.heap.size w1 HB5.out (Nat.le_refl _) ?_)
  intro W6 hg6 hb6
  have HB6 : Hid (Below w1.heap.size w1 W6) := hb6
  have HG6 : Hid (Blk W6 w1.heap.size (tc s.tl) 56) := by
    have e : splice L3 24 H4 = s.tl.map (Value.int .i64) := by
      rw [HG5.out.2.2, HG4.out.2.2, HG3.out.2.2, HL0.out, HS.out.1, HS.out.2.1, HS.out.2.2.1, HS.out.2.2.2]
      exact tl_map s HE.out.1 HE.out.2.1 HE.out.2.2.1 HE.out.2.2.2
    have := hg6.out
    rw [e] at this
    exact this
  have HRes : Hid (Blk W6 (w.heap.size + 1) (tc (List.replicate 28 0)) 56 ∧ Below w.heap.size w W6) := ⟨HB.out.2.1.below hb6, Below.next HB.out.2.2 hb6⟩
  clear hb6 hg6 u1
  go_wp2_with fail
  rw [rounds_succ]
  go_wp2_with (first | (with_reducible refine stopLoad 56 rfl ?_) | (with_reducible refine stopStore 56 rfl ?_))
  refine load_known 56 w1.heap.size (tc s.tl) 56 _ HG6.out rfl rfl rfl Try.underlying56 rfl (tallySize (Sk.tl_length ES.out)) ?_
  go_wp2_with (first | (with_reducible refine stopLoad 56 rfl ?_) | (with_reducible refine stopStore 56 rfl ?_))
  refine store_known 56 (w.heap.size + 1) _ (tc s.tl) 56 HRes.out.1 rfl rfl rfl rfl (tallySize (Sk.tl_length ES.out)) (by rw [tc_size, tc_size, Sk.tl_length ES.out]; rfl) (tc_one _) ?_
  go_wp2
  refine bodyPost_ret (results_row_tmp Try.results48 _ _ (w.heap.size + 1) _ _ _ _ rfl HRes.out.1.setRow Try.underlying56 rfl (tallySize (Sk.tl_length ES.out))) rfl ?_
  exact ⟨s.tl, by rw [ES.out]; rfl, Sk.tl_length ES.out, fun _ => rfl, below_setRow HRes.out.2 (by omega) _⟩
end Go.Proofs.Ytbmbmnhamogghab
/- Arrays of numbers compared as wholes. No statement of the seat is proved here. -/
namespace Go.Proofs.Ytbmbmnhamogghab
open Go.RowKit
def eqAt (d : Nat) (e : TypeId) (n : Nat) (xs ys : Array Value) : List Nat → Sem Bool
  | [] => pure true
  | i :: is => do
    let a ← part e xs (i * n)
    let b ← part e ys (i * n)
    let r ← Op.equalIn d e a b
    if (!r) = true then pure false else eqAt d e n xs ys is
theorem run_equalIn_array {P : Program} (w : World) (d : Nat) (t e : TypeId) (len n : Nat) (xs ys : Array Value) (ht : P.underlying t = some (.array len e)) (hn : ∀ w, (sizeOf e).run P w = .ok n w) :
    (Op.equalIn (d + 1) t (.agg xs) (.agg ys)).run P w = (eqAt d e n xs ys (List.range' 0 len 1)).run P w := by
  simp only [Op.equalIn, Sem.run_bind, run_underlying ht, Result.andThen_ok, hn]
  rw [Std.Legacy.Range.forIn_eq_forIn_range']
  simp only [Std.Legacy.Range.size, Nat.sub_zero, Nat.add_sub_cancel, Nat.div_one]
  generalize List.range' 0 len 1 = is
  induction is generalizing w with
  | nil => simp [eqAt]
  | cons i is ih =>
    simp only [List.forIn_cons, eqAt, Sem.run_bind]
    generalize (part e xs (i * n)).run P w = r1
    cases r1 with
    | ok a w1 =>
      simp only [Result.andThen_ok]
      generalize (part e ys (i * n)).run P w1 = r2
      cases r2 with
      | ok b w2 =>
        simp only [Result.andThen_ok]
        generalize (Op.equalIn d e a b).run P w2 = r3
        cases r3 with
        | ok r w3 =>
          cases r
          · simp only [Result.andThen_ok, Bool.not_false, if_true, Sem.run_pure]
          · simp only [Result.andThen_ok, Bool.not_true, Bool.false_eq_true, if_false, Sem.run_pure]
            exact ih w3
        | halt x w3 => simp [Result.andThen]
      | halt x w2 => simp [Result.andThen]
    | halt x w1 => simp [Result.andThen]
theorem run_part_tc {P : Program} (w : World) (e : TypeId) (xs : List Int) (i : Nat) (hu : P.underlying e = some (.int .i64)) (hi : i < xs.length) : (part e (tc xs) i).run P w = .ok (.int .i64 (xs.getD i 0)) w := by
  have h1 : (tc xs)[i]? = some (.int .i64 (xs.getD i 0)) := by rw [tc_at, List.getElem?_eq_getElem hi]; simp [List.getElem?_eq_getElem hi]
  have hagg : (isAgg e).run P w = .ok false w := by unfold isAgg; rw [Sem.run_bind, run_underlying hu w]; simp
  unfold part
  simp [Sem.run_bind, hagg, h1]
theorem eqAt_ints {P : Program} (d : Nat) (e : TypeId) (xs ys : List Int) (hu : P.underlying e = some (.int .i64)) : ∀ (is : List Nat) (w : World), (∀ i ∈ is, i < xs.length ∧ i < ys.length) →
    (eqAt (d + 1) e 1 (tc xs) (tc ys) is).run P w = .ok (is.all fun i => decide (xs.getD i 0 = ys.getD i 0)) w
  | [], w, _ => by simp [eqAt]
  | i :: is, w, h => by
    have ⟨h1, h2⟩ := h i List.mem_cons_self
    have ih := eqAt_ints d e xs ys hu is w (fun j hj => h j (List.mem_cons_of_mem _ hj))
    rw [eqAt, Sem.run_bind, Nat.mul_one, run_part_tc w e xs i hu h1, Result.andThen_ok, Sem.run_bind, run_part_tc w e ys i hu h2, Result.andThen_ok, Sem.run_bind, run_equalIn_int w d e .i64 .i64 _ _ hu, Result.andThen_ok, List.all_cons]
    by_cases q : xs.getD i 0 = ys.getD i 0
    · rw [q]
      simp only [beq_self_eq_true, Bool.not_true, Bool.false_eq_true, if_false, decide_true, Bool.true_and]
      exact ih
    · have q2 : (xs.getD i 0 == ys.getD i 0) = false := by simpa using q
      rw [q2, dec_false q]
      simp
theorem all_range_eq (xs ys : List Int) (n : Nat) (hx : xs.length = n) (hy : ys.length = n) : ((List.range' 0 n 1).all fun i => decide (xs.getD i 0 = ys.getD i 0)) = decide (xs = ys) := by
  by_cases q : xs = ys
  · subst q; simp
  · rw [dec_false q]
    rw [List.all_eq_false]
    refine Classical.byContradiction fun hc => q ?_
    apply List.ext_getElem (by omega)
    intro i h1 h2
    refine Classical.byContradiction fun hne => hc ⟨i, by simp [List.mem_range'_1]; omega, ?_⟩
    simpa [List.getElem?_eq_getElem h1, List.getElem?_eq_getElem h2] using hne
/-- Two arrays of numbers, compared. -/
theorem run_eq_ints {P : Program} (w : World) (d : Nat) (t e : TypeId) (n : Nat) (xs ys : List Int) (ht : P.underlying t = some (.array n e)) (hu : P.underlying e = some (.int .i64)) (hn : ∀ w, (sizeOf e).run P w = .ok 1 w) (hx : xs.length = n) (hy : ys.length = n) :
    (Op.equalIn (d + 2) t (.agg (tc xs)) (.agg (tc ys))).run P w = .ok (decide (xs = ys)) w := by
  rw [run_equalIn_array w (d + 1) t e n 1 _ _ ht hn, eqAt_ints d e xs ys hu _ w (fun i hi => by simp [List.mem_range'_1] at hi; omega), all_range_eq xs ys n hx hy]
theorem tc_extract (xs : List Int) (a b : Nat) : (tc xs).extract a (a + b) = tc ((xs.drop a).take b) := by
  apply Array.ext'
  simp [tc, List.extract_eq_take_drop, List.map_take, List.map_drop]
/-- Two arrays of two arrays of four numbers, compared. -/
theorem run_eq_rows {P : Program} (w : World) (d : Nat) (t u e : TypeId) (xs ys : List Int) (ht : P.underlying t = some (.array 2 u)) (hu : P.underlying u = some (.array 4 e)) (he : P.underlying e = some (.int .i64)) (hn : ∀ w, (sizeOf e).run P w = .ok 1 w) (hn4 : ∀ w, (sizeOf u).run P w = .ok 4 w) (hx : xs.length = 8) (hy : ys.length = 8) :
    (Op.equalIn (d + 3) t (.agg (tc xs)) (.agg (tc ys))).run P w = .ok (decide (xs = ys)) w := by
  have hagg : (isAgg u).run P w = .ok true w := by unfold isAgg; rw [Sem.run_bind, run_underlying hu w]; simp
  have hp : ∀ (zs : List Int) i, (part u (tc zs) i).run P w = .ok (.agg (tc ((zs.drop i).take 4))) w := by
    intro zs i
    unfold part
    simp only [Sem.run_bind, hagg, Result.andThen_ok, if_true, hn4, Sem.run_pure]
    rw [tc_extract]
  have h4 : ∀ i, i + 4 ≤ 8 → (Op.equalIn (d + 2) u (.agg (tc ((xs.drop i).take 4))) (.agg (tc ((ys.drop i).take 4)))).run P w = .ok (decide ((xs.drop i).take 4 = (ys.drop i).take 4)) w := fun i hi =>
    run_eq_ints w d u e 4 _ _ hu he hn (by simp; omega) (by simp; omega)
  rw [run_equalIn_array w (d + 2) t u 2 4 _ _ ht hn4]
  show (eqAt (d + 2) u 4 (tc xs) (tc ys) [0, 1]).run P w = _
  rw [eqAt, Sem.run_bind, hp, Result.andThen_ok, Sem.run_bind, hp, Result.andThen_ok, Sem.run_bind, h4 (0 * 4) (by omega), Result.andThen_ok]
  have ex : xs = (xs.drop 0).take 4 ++ (xs.drop 4).take 4 := by
    rw [List.drop_zero, List.take_of_length_le (l := xs.drop 4) (by simp; omega), List.take_append_drop]
  have ey : ys = (ys.drop 0).take 4 ++ (ys.drop 4).take 4 := by
    rw [List.drop_zero, List.take_of_length_le (l := ys.drop 4) (by simp; omega), List.take_append_drop]
  by_cases q0 : (xs.drop (0 * 4)).take 4 = (ys.drop (0 * 4)).take 4
  · rw [dec_true q0]
    simp only [Bool.not_true, Bool.false_eq_true, if_false]
    rw [eqAt, Sem.run_bind, hp, Result.andThen_ok, Sem.run_bind, hp, Result.andThen_ok, Sem.run_bind, h4 (1 * 4) (by omega), Result.andThen_ok]
    by_cases q1 : (xs.drop (1 * 4)).take 4 = (ys.drop (1 * 4)).take 4
    · rw [dec_true q1, dec_true (p := xs = ys) (by rw [ex, ey]; rw [show xs.drop 0 = xs.drop (0 * 4) from rfl, q0, show xs.drop 4 = xs.drop (1 * 4) from rfl, q1])]
      simp [eqAt]
    · rw [dec_false q1, dec_false (p := xs = ys) (fun e => q1 (by rw [e]))]
      simp
  · rw [dec_false q0, dec_false (p := xs = ys) (fun e => q0 (by rw [e]))]
    simp
/-! ### a part of a whole struct, out of memory -/
section
variable {P : Program} {ops : Array Oper} {Q : Exit → Act → World → Prop} {rest : List Oper} {a : Act} {w : World} {x y : Operand} {o : Oper}
theorem wpList_wanted (hw : Region.wanted o (yielded ops a.tmps) = true) (h : ∀ K : Act → World → Prop, (∀ a w, wpList P ops Q rest a w → K a w) → o.wp P a w K Q) : wpList P ops Q (o :: rest) a w :=
  wpList_step fun K hK => by rw [if_pos hw]; exact h K hK
theorem run_loadVar_part (w : World) (g off n : Nat) (t ty : TypeId) (xs : List Int) (d : TypeDesc) (hg : Blk w g (tc xs) t) (hu : P.underlying ty = some d) (hd : (match d with | .struct _ | .array _ _ => true | _ => false) = true) (hi : (P.info? ty).map (·.size) = some n) (hfit : off + n ≤ xs.length) :
    (loadVar ty ⟨g, off, none⟩).run P w = .ok (.agg (tc ((xs.drop off).take n))) w := by
  have hlen : (((xs.drop off).take n).map (Value.int .i64)).length = n := by simp; omega
  have hl := run_loadCells_list (P := P) w ⟨g, off, none⟩ (((xs.drop off).take n).map (Value.int .i64)) (fun j v hv => by
      have hadd : (⟨g, off, none⟩ : Addr).add j = ⟨g, off + j, none⟩ := by unfold Addr.add; split <;> simp_all
      have hj : j < n := by rw [← hlen]; exact (List.getElem?_eq_some_iff.1 hv).1
      rw [hadd, hg.cell, tc_at]
      rw [List.getElem?_map, List.getElem?_take, if_pos hj, List.getElem?_drop] at hv
      exact hv)
  rw [hlen] at hl
  cases hq : P.info? ty with
  | none => simp [hq] at hi
  | some i =>
    have hs : i.size = n := by simpa [hq] using hi
    have hagg : (isAgg ty).run P w = .ok true w := by
      unfold isAgg
      rw [Sem.run_bind, run_underlying hu w]
      cases d <;> simp_all
    simp only [loadVar, Sem.run_bind, hagg, sizeOf, typeInfo, Result.andThen_ok, if_true]
    simp [tc, hq, hs, hl]
theorem load_part (ty : TypeId) (g off n : Nat) (xs : List Int) (t : TypeId) (d : TypeDesc) (hg : Blk w g (tc xs) t) (hw : Region.wanted o (yielded ops a.tmps) = true) (ho : o.op = .load ty x) (hx : a.eval x = .pointer (some ⟨g, off, none⟩))
    (hu : P.underlying ty = some d) (hd : (match d with | .struct _ | .array _ _ => true | _ => false) = true) (hi : (P.info? ty).map (·.size) = some n) (hfit : off + n ≤ xs.length)
    (h : wpList P ops Q rest (a.put o.dst (.agg (tc ((xs.drop off).take n)))) w) : Stop (wpList P ops Q (o :: rest) a w) := by
  refine wpList_wanted hw fun K hK => ?_
  unfold Oper.wp execOp
  simp only [ho, hx, Instr.loadAt, Instr.sureAddr, Sem.run_bind, Sem.run_pure, Result.andThen_ok, run_loadVar_part w g off n t ty xs d hg hu hd hi hfit]
  exact hK _ _ h
end
end Go.Proofs.Ytbmbmnhamogghab
/- Two rows of numbers of the program's own kind, compared; a summary that is right. No statement of the seat is proved here. -/
namespace Go.Proofs.Ytbmbmnhamogghab
open Go.RowKit
set_option maxRecDepth 200000 in
set_option maxHeartbeats 2000000 in
theorem same_any (xs ys : List Int) (w : World) (hx : xs.length = 28) (hy : ys.length = 28) :
    Calls Try.prog 49 #[.agg (tc xs), .agg (tc ys)] w fun e w' => e = .returned (.bool (decide (xs = ys))) ∧ Below w.heap.size w w' := by
  have HL : Hid (xs.length = 28 ∧ ys.length = 28) := ⟨hx, hy⟩
  have HT : Hid (_ ∧ _ ∧ _) := two_made w (tc xs) (tc ys) 56 56
  obtain ⟨d, hd⟩ : ∃ d, d = decide (xs = ys) := ⟨_, rfl⟩
  rw [← hd]
  have HD : Hid (d = decide (xs = ys)) := hd
  obtain ⟨x0, hx0⟩ : ∃ x, x = xs.getD 0 0 := ⟨_, rfl⟩
  obtain ⟨x1, hx1⟩ : ∃ x, x = xs.getD 1 0 := ⟨_, rfl⟩
  obtain ⟨x2, hx2⟩ : ∃ x, x = xs.getD 2 0 := ⟨_, rfl⟩
  obtain ⟨x3, hx3⟩ : ∃ x, x = xs.getD 3 0 := ⟨_, rfl⟩
  obtain ⟨y0, hy0⟩ : ∃ x, x = ys.getD 0 0 := ⟨_, rfl⟩
  obtain ⟨y1, hy1⟩ : ∃ x, x = ys.getD 1 0 := ⟨_, rfl⟩
  obtain ⟨y2, hy2⟩ : ∃ x, x = ys.getD 2 0 := ⟨_, rfl⟩
  obtain ⟨y3, hy3⟩ : ∃ x, x = ys.getD 3 0 := ⟨_, rfl⟩
  have a0 : (tc xs)[0]? = some (.int .i64 x0) := by rw [hx0]; exact tc_get (by omega)
  have a1 : (tc xs)[1]? = some (.int .i64 x1) := by rw [hx1]; exact tc_get (by omega)
  have a2 : (tc xs)[2]? = some (.int .i64 x2) := by rw [hx2]; exact tc_get (by omega)
  have a3 : (tc xs)[3]? = some (.int .i64 x3) := by rw [hx3]; exact tc_get (by omega)
  have b0 : (tc ys)[0]? = some (.int .i64 y0) := by rw [hy0]; exact tc_get (by omega)
  have b1 : (tc ys)[1]? = some (.int .i64 y1) := by rw [hy1]; exact tc_get (by omega)
  have b2 : (tc ys)[2]? = some (.int .i64 y2) := by rw [hy2]; exact tc_get (by omega)
  have b3 : (tc ys)[3]? = some (.int .i64 y3) := by rw [hy3]; exact tc_get (by omega)
  have HX : Hid ((x0 = xs.getD 0 0 ∧ y0 = ys.getD 0 0) ∧ (x1 = xs.getD 1 0 ∧ y1 = ys.getD 1 0) ∧ (x2 = xs.getD 2 0 ∧ y2 = ys.getD 2 0) ∧ (x3 = xs.getD 3 0 ∧ y3 = ys.getD 3 0)) := ⟨⟨hx0, hy0⟩, ⟨hx1, hy1⟩, ⟨hx2, hy2⟩, ⟨hx3, hy3⟩⟩
  clear hx hy hd hx0 hx1 hx2 hx3 hy0 hy1 hy2 hy3
  go_enter Try.func49, Try.ntmps49
  by_cases q0 : x0 = y0
  rotate_left
  · have q0' : (x0 == y0) = false := by simpa using q0
    have HN : Hid (d = false) := by show d = _; rw [HD.out]; exact dec_false (fun e => q0 (by rw [HX.out.1.1, HX.out.1.2, e]))
    clear q0
    go_wp2
    go_ret
    exact ⟨ret_bool HN.out.symm, HT.out.2.2⟩
  have Q0 : Hid (x0 = y0) := q0
  have q0' : (x0 == y0) = true := by simpa using q0
  clear q0
  by_cases q1 : x1 = y1
  rotate_left
  · have q1' : (x1 == y1) = false := by simpa using q1
    have HN : Hid (d = false) := by show d = _; rw [HD.out]; exact dec_false (fun e => q1 (by rw [HX.out.2.1.1, HX.out.2.1.2, e]))
    clear q1
    go_wp2
    go_ret
    exact ⟨ret_bool HN.out.symm, HT.out.2.2⟩
  have Q1 : Hid (x1 = y1) := q1
  have q1' : (x1 == y1) = true := by simpa using q1
  clear q1
  by_cases q2 : x2 = y2
  rotate_left
  · have q2' : (x2 == y2) = false := by simpa using q2
    have HN : Hid (d = false) := by show d = _; rw [HD.out]; exact dec_false (fun e => q2 (by rw [HX.out.2.2.1.1, HX.out.2.2.1.2, e]))
    clear q2
    go_wp2
    go_ret
    exact ⟨ret_bool HN.out.symm, HT.out.2.2⟩
  have Q2 : Hid (x2 = y2) := q2
  have q2' : (x2 == y2) = true := by simpa using q2
  clear q2
  by_cases q3 : x3 = y3
  rotate_left
  · have q3' : (x3 == y3) = false := by simpa using q3
    have HN : Hid (d = false) := by show d = _; rw [HD.out]; exact dec_false (fun e => q3 (by rw [HX.out.2.2.2.1, HX.out.2.2.2.2, e]))
    clear q3
    go_wp2
    go_ret
    exact ⟨ret_bool HN.out.symm, HT.out.2.2⟩
  have Q3 : Hid (x3 = y3) := q3
  have q3' : (x3 == y3) = true := by simpa using q3
  clear q3
  go_wp2_with (first | go_skip | (with_reducible refine stopLoad 52 rfl ?_))
  refine load_part 52 w.heap.size 4 8 xs 56 _ HT.out.1 rfl rfl rfl Try.underlying52 rfl (by kernel_rfl) (by rw [HL.out.1]; omega) ?_
  go_wp2_with (first | go_skip | (with_reducible refine stopLoad 52 rfl ?_))
  refine load_part 52 (w.heap.size + 1) 4 8 ys 56 _ HT.out.2.1 rfl rfl rfl Try.underlying52 rfl (by kernel_rfl) (by rw [HL.out.2]; omega) ?_
  have hq0 : ∀ w, (Op.equalIn 10000 52 (.agg (tc ((xs.drop 4).take 8))) (.agg (tc ((ys.drop 4).take 8)))).run Try.prog w = .ok (decide ((xs.drop 4).take 8 = (ys.drop 4).take 8)) w := fun w => run_eq_ints w 9998 52 3 8 _ _ Try.underlying52 Try.underlying3 (fun _ => by simp) (by simp; have := HL.out.1; omega) (by simp; have := HL.out.2; omega)
  cases q4 : decide ((xs.drop 4).take 8 = (ys.drop 4).take 8)
  · rw [q4] at hq0
    have HN : Hid (d = false) := by show d = _; rw [HD.out]; exact dec_false (fun e => by rw [e] at q4; simp at q4)
    clear q4
    go_wp2
    go_ret
    exact ⟨ret_bool HN.out.symm, HT.out.2.2⟩
  rw [q4] at hq0
  have Q4 : Hid ((xs.drop 4).take 8 = (ys.drop 4).take 8) := (show (xs.drop 4).take 8 = (ys.drop 4).take 8 from of_decide_eq_true q4)
  clear q4
  go_wp2_with (first | go_skip | (with_reducible refine stopLoad 52 rfl ?_))
  refine load_part 52 w.heap.size 12 8 xs 56 _ HT.out.1 rfl rfl rfl Try.underlying52 rfl (by kernel_rfl) (by rw [HL.out.1]; omega) ?_
  go_wp2_with (first | go_skip | (with_reducible refine stopLoad 52 rfl ?_))
  refine load_part 52 (w.heap.size + 1) 12 8 ys 56 _ HT.out.2.1 rfl rfl rfl Try.underlying52 rfl (by kernel_rfl) (by rw [HL.out.2]; omega) ?_
  have hq1 : ∀ w, (Op.equalIn 10000 52 (.agg (tc ((xs.drop 12).take 8))) (.agg (tc ((ys.drop 12).take 8)))).run Try.prog w = .ok (decide ((xs.drop 12).take 8 = (ys.drop 12).take 8)) w := fun w => run_eq_ints w 9998 52 3 8 _ _ Try.underlying52 Try.underlying3 (fun _ => by simp) (by simp; have := HL.out.1; omega) (by simp; have := HL.out.2; omega)
  cases q5 : decide ((xs.drop 12).take 8 = (ys.drop 12).take 8)
  · rw [q5] at hq1
    have HN : Hid (d = false) := by show d = _; rw [HD.out]; exact dec_false (fun e => by rw [e] at q5; simp at q5)
    clear q5
    go_wp2
    go_ret
    exact ⟨ret_bool HN.out.symm, HT.out.2.2⟩
  rw [q5] at hq1
  have Q5 : Hid ((xs.drop 12).take 8 = (ys.drop 12).take 8) := (show (xs.drop 12).take 8 = (ys.drop 12).take 8 from of_decide_eq_true q5)
  clear q5
  go_wp2_with (first | go_skip | (with_reducible refine stopLoad 54 rfl ?_))
  refine load_part 54 w.heap.size 20 8 xs 56 _ HT.out.1 rfl rfl rfl Try.underlying54 rfl (by kernel_rfl) (by rw [HL.out.1]; omega) ?_
  go_wp2_with (first | go_skip | (with_reducible refine stopLoad 54 rfl ?_))
  refine load_part 54 (w.heap.size + 1) 20 8 ys 56 _ HT.out.2.1 rfl rfl rfl Try.underlying54 rfl (by kernel_rfl) (by rw [HL.out.2]; omega) ?_
  have hq2 : ∀ w, (Op.equalIn 10000 54 (.agg (tc ((xs.drop 20).take 8))) (.agg (tc ((ys.drop 20).take 8)))).run Try.prog w = .ok (decide ((xs.drop 20).take 8 = (ys.drop 20).take 8)) w := fun w => run_eq_rows w 9997 54 53 3 _ _ Try.underlying54 Try.underlying53 Try.underlying3 (fun _ => by simp) (fun _ => by simp) (by simp; have := HL.out.1; omega) (by simp; have := HL.out.2; omega)
  cases q6 : decide ((xs.drop 20).take 8 = (ys.drop 20).take 8)
  · rw [q6] at hq2
    have HN : Hid (d = false) := by show d = _; rw [HD.out]; exact dec_false (fun e => by rw [e] at q6; simp at q6)
    clear q6
    go_wp2
    go_ret
    exact ⟨ret_bool HN.out.symm, HT.out.2.2⟩
  rw [q6] at hq2
  have Q6 : Hid ((xs.drop 20).take 8 = (ys.drop 20).take 8) := (show (xs.drop 20).take 8 = (ys.drop 20).take 8 from of_decide_eq_true q6)
  clear q6
  have HN : Hid (d = true) := by show d = _; rw [HD.out]; exact dec_true (eq28 HL.out.1 HL.out.2 (by rw [← HX.out.1.1, ← HX.out.1.2]; exact Q0.out) (by rw [← HX.out.2.1.1, ← HX.out.2.1.2]; exact Q1.out) (by rw [← HX.out.2.2.1.1, ← HX.out.2.2.1.2]; exact Q2.out) (by rw [← HX.out.2.2.2.1, ← HX.out.2.2.2.2]; exact Q3.out) Q4.out Q5.out Q6.out)
  go_wp2
  go_ret
  exact ⟨ret_bool HN.out.symm, HT.out.2.2⟩
end Go.Proofs.Ytbmbmnhamogghab
