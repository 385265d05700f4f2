/- The walk through the model's Sketched. No statement of the seat is proved here. -/
import Derived.Test.YtgkbhhlkaifnoaaSkInsert
import Derived.Test.YtgkbhhlkaifnoaaSkNew
namespace Go.Proofs.Ytgkbhhlkaifnoaa
open Go.RowKit
section
variable {P : Program} {ops : Array Oper} {Q : Exit → Act → World → Prop} {a : Act} {w : World} {x : Operand} {o : Oper} {K : Act → World → Prop}
theorem op_load (ty : TypeId) (g : Nat) (cells : Array Value) (t : TypeId) (d : TypeDesc) (hg : Blk w g cells t) (hw : Region.wanted o (yielded ops a.tmps) = true) (ho : o.op = .load ty x) (hx : a.eval x = .pointer (some ⟨g, 0, none⟩))
    (hu : P.underlying ty = some d) (hd : (match d with | .struct _ | .array _ _ => true | _ => false) = true) (hi : (P.info? ty).map (·.size) = some cells.size)
    (h : ∃ a', a.put o.dst (.agg cells) = a' ∧ K a' w) : if Region.wanted o (yielded ops a.tmps) = true then Oper.wp P o a w K Q else K (a.put o.dst undef) w := by
  obtain ⟨_, rfl, h⟩ := h
  rw [if_pos hw]
  exact wp_load_row ty x ho g hx t cells (0, 0) d hg hu hd hi h
end
/-- Some summary, in memory of its own, its lists as long as told. -/
def NewShaped (w : World) (e : Ending) (w' : World) : Prop :=
  ∃ v s F, e = .returned v ∧ RdR w' v s F ∧ s.shaped = true ∧ Own w.heap.size w' F ∧ Below w.heap.size w w'
theorem NewSkX.rd {w W : World} {e : Ending} (h : NewSkX w 3 e W) : ∃ v F, e = .returned v ∧ RdR W v Sk.new F ∧ Own w.heap.size W F ∧ Below w.heap.size w W := by
  obtain ⟨v, F, g1, x5, g5, z8, h1, h2, h3, h4, h5, h6, h7, h8⟩ := h
  exact ⟨v, F, h1, ⟨h3, _, _, _, _, _, _, _, [g1], _, _, _, _, h2, ⟨g1, 0, rfl, rfl, rfl, ⟨z8, h7, h8⟩, by omega, by decide⟩, by simpa using h6, by omega⟩, h4, h5⟩
theorem new_shaped : Sk.new.shaped = true := by decide
set_option maxRecDepth 200000 in
set_option maxHeartbeats 4000000 in
theorem sketched_any (a : Option Addr) (len cap : Nat) (zs : List Int) (FL : List Nat) (w : World) (h : RdI w a len zs FL) (hlen : len ≤ 1048576) :
    Calls Try.prog 112 #[.slice a len cap] w fun e w' => NewShaped w e w' := by
  have HR : Hid (RdI w a len zs FL) := h
  have HT : Hid (Blk (w.alloc (.cells #[.int .i64 0, .int .i64 0, .int .i64 0, .int .i64 0, .slice none 0 0, .slice none 0 0, .slice none 0 0] 34)) w.heap.size #[.int .i64 0, .int .i64 0, .int .i64 0, .int .i64 0, .slice none 0 0, .slice none 0 0, .slice none 0 0] 34 ∧ Below w.heap.size w (w.alloc (.cells #[.int .i64 0, .int .i64 0, .int .i64 0, .int .i64 0, .slice none 0 0, .slice none 0 0, .slice none 0 0] 34))) := ⟨Blk.made _ _ _, (Below.refl _ _).alloc (Nat.le_refl _) _⟩
  clear h
  go_enter Try.func112, Try.ntmps112
  go_wp2_with fail
  refine (newSpec_x _).mono ?_
  intro e w1 hx
  obtain ⟨vv, X, rfl, rr, oo, bb⟩ := hx.rd
  clear hx
  obtain ⟨cs, rfl, e7, e1⟩ := rr.cells
  have HE : Hid (RdR w1 (.agg cs) Sk.new X ∧ Own (w.heap.size + 1) w1 X ∧ cs.size = 7 ∧ cs.all (·.oneCell') = true ∧ Blk w1 w.heap.size #[.int .i64 0, .int .i64 0, .int .i64 0, .int .i64 0, .slice none 0 0, .slice none 0 0, .slice none 0 0] 34 ∧ Below w.heap.size w w1) := ⟨rr, by simpa using oo, e7, e1, HT.out.1.below bb, Below.next HT.out.2 bb⟩
  clear rr oo bb e7 e1 HT
  go_wp2_with (first | go_skip | (with_reducible refine stopLoad 34 rfl ?_) | (with_reducible refine stopStore 34 rfl ?_))
  refine store_fresh 34 w1.heap.size rfl #[.int .i64 0, .int .i64 0, .int .i64 0, .int .i64 0, .slice none 0 0, .slice none 0 0, .slice none 0 0] cs 34 rfl rfl rfl rfl (skSize HE.out.2.2.1) HE.out.2.2.1.symm HE.out.2.2.2.1 ?_
  intro W2 hg2 hb2
  have HV2 : Hid (Blk W2 w1.heap.size cs 34 ∧ RdR W2 (.agg cs) Sk.new X ∧ cs.size = 7 ∧ Own (w.heap.size + 1) W2 X ∧ Below w.heap.size w W2 ∧ Blk W2 w.heap.size #[.int .i64 0, .int .i64 0, .int .i64 0, .int .i64 0, .slice none 0 0, .slice none 0 0, .slice none 0 0] 34 ∧ w.heap.size < w1.heap.size) := ⟨hg2, HE.out.1.below hb2, HE.out.2.2.1, HE.out.2.1.below HE.out.1.lt hb2, Below.next HE.out.2.2.2.2.2 hb2, HE.out.2.2.2.2.1.below hb2, HE.out.2.2.2.2.1.lt⟩
  clear hg2 hb2 HE
  have HEND : Hid (∀ W cs s X, Blk W w1.heap.size cs 34 → RdR W (.agg cs) s X → s.shaped = true → Own (w.heap.size + 1) W X → Below w.heap.size w W → NewShaped w (.returned (.agg cs)) (W.setRow w.heap.size cs)) := fun W cs s X _ q2 q3 q4 q5 => by
    have ag : Agree W (W.setRow w.heap.size cs) X := fun b hb => setRow_other W _ b _ (fun e => by have := q4.ge b hb; omega)
    exact ⟨_, s, X, rfl, q2.agree ag, q3, (q4.agree ag).mono (by omega), below_setRow q5 (Nat.le_refl _) _⟩
  by_cases h0 : len = 0
  · subst h0
    go_wp2
    refine wp_loop_rounds 1 ?_
    rw [rounds_succ]
    go_wp2_with (first | go_skip | (with_reducible refine stopLoad 34 rfl ?_) | (with_reducible refine stopStore 34 rfl ?_))
    refine load_any 34 w1.heap.size cs 34 _ HV2.out.1 rfl rfl rfl Try.underlying34 rfl (skSize HV2.out.2.2.1) ?_
    go_wp2_with (first | go_skip | (with_reducible refine stopLoad 34 rfl ?_) | (with_reducible refine stopStore 34 rfl ?_))
    refine store_known 34 w.heap.size _ cs 34 HV2.out.2.2.2.2.2.1 rfl rfl rfl rfl (skSize HV2.out.2.2.1) HV2.out.2.2.1.symm (by obtain ⟨ds, e, _, h8⟩ := HV2.out.2.1.cells; cases e; exact h8) ?_
    go_wp2
    refine bodyPost_ret (results_cell_row Try.results112 _ _ w.heap.size _ _ _ _ rfl HV2.out.2.2.2.2.2.1.setRow Try.underlying34 rfl (skSize HV2.out.2.2.1)) rfl ?_
    exact HEND.out _ _ _ _ HV2.out.1 HV2.out.2.1 new_shaped HV2.out.2.2.2.1 HV2.out.2.2.2.2.1
  obtain ⟨lb, lof, rfl⟩ := HR.out.addr (by omega)
  have hlb : lb < w.heap.size := World.block_lt_of_cell? _ _ (HR.out.at 0 (by omega))
  have HFL : Hid (∀ b ∈ FL, b < w.heap.size) := HR.out.lt
  go_wp2
  go_loopw [4] (fun i wr => ∃ (k : Nat) (cs : Array Value) (s : Sk) (X : List Nat), k ≤ len ∧ i = .int .i64 k ∧ Hid (Blk wr w1.heap.size cs 34 ∧ RdR wr (.agg cs) s X ∧ cs.size = 7 ∧ s.shaped = true ∧ Own (w.heap.size + 1) wr X ∧ Below w.heap.size w wr ∧ Blk wr w.heap.size #[.int .i64 0, .int .i64 0, .int .i64 0, .int .i64 0, .slice none 0 0, .slice none 0 0, .slice none 0 0] 34 ∧ w.heap.size < w1.heap.size ∧ RdI wr (some ⟨lb, lof, none⟩) len zs FL ∧ lb < w.heap.size)) (fun i _ => len - (intOf i).toNat)
  case atStart => exact ⟨0, cs, Sk.new, X, by omega, rfl, ⟨HV2.out.1, HV2.out.2.1, HV2.out.2.2.1, new_shaped, HV2.out.2.2.2.1, HV2.out.2.2.2.2.1, HV2.out.2.2.2.2.2.1, HV2.out.2.2.2.2.2.2, HR.out.below HV2.out.2.2.2.2.1, hlb⟩⟩
  case round =>
    clear HV2
    obtain ⟨k, cs, s, X, hk, rfl, HV⟩ := hrel
    by_cases hlt : k < len
    · obtain ⟨n, hn⟩ : ∃ n, n = zs.getD k 0 := ⟨_, rfl⟩
      have HS : Hid (wr.drew.cell? ⟨lb, lof + k, none⟩ = some (.int .i64 n)) := by rw [hn]; exact HV.out.2.2.2.2.2.2.2.2.1.at k hlt
      have HCS : Hid (cs.size = 7) := HV.out.2.2.1
      clear hn
      go_wp2
      refine wp_region_held (S := fun W => W.cell? ⟨lb, lof + k, none⟩ = some (.int .i64 n)) (by kernel_rfl) ?_
      change wpAnyH _ _ _ _ _ _ _ _ (World.drew _)
      refine takeH (o := ?o1) 1 (.slice (some ⟨lb, lof, none⟩) len cap) ?h1 ?r1
      case h1 => simp only [aT, aS, aZ]; rfl
      refine ⟨_, by simp [Act.put]; rfl, by kernel_rfl, by kernel_rfl, by kernel_rfl, fun _ _ _ h => h, (.inl ⟨rfl, fun W _ => by go_simp⟩), HS.out, ?_⟩
      refine takeH (o := ?o2) 2 (.int .i64 k) ?h2 ?r2
      case h2 => simp only [aT, aS, aZ]; rfl
      refine ⟨_, by simp [Act.put]; rfl, by kernel_rfl, by kernel_rfl, by kernel_rfl, fun _ _ _ h => h, (.inl ⟨rfl, fun W _ => by go_simp⟩), HS.out, ?_⟩
      refine takeH (o := ?o3) 3 (.pointer (some ⟨lb, lof + k, none⟩)) ?h3 ?r3
      case h3 => simp only [aT, aS, aZ]; rfl
      refine ⟨_, by simp [Act.put]; rfl, by kernel_rfl, by kernel_rfl, by kernel_rfl, fun _ _ _ h => h, (.inl ⟨rfl, fun W _ => by go_simp⟩), HS.out, ?_⟩
      refine takeH (o := ?o4) 4 (.int .i64 n) ?h4 ?r4
      case h4 => simp only [aT, aS, aZ]; rfl
      refine ⟨_, by simp [Act.put]; rfl, by kernel_rfl, by kernel_rfl, by kernel_rfl, fun _ _ _ h => h, (.inl ⟨rfl, fun W hW => by have c := hW; go_simp⟩), HS.out, ?_⟩
      refine onlyH (o := ?o5) 0 (by kernel_rfl) ?h5 ?r5
      case h5 => simp only [aT, aZ]; rfl
      intro K hK
      refine op_load 34 w1.heap.size cs 34 _ HV.out.1.drew rfl rfl rfl Try.underlying34 rfl (skSize HV.out.2.2.1) ⟨_, by simp [Act.put]; rfl, hK _ _ ⟨HS.out, ?_⟩⟩
      clear hK
      refine onlyH (o := ?o6) 5 (by kernel_rfl) ?h6 ?r6
      case h6 => simp only [aT, aS, aZ]; rfl
      intro K hK
      refine op_call2' 122 _ _ _ Try.f122 (fun u w' => ∃ es s' d X, u = .tuple #[.agg es, .bool d] ∧ es.size = 7 ∧ es.all (·.oneCell') = true ∧ RdR w' (.agg es) s' X ∧ s'.shaped = true ∧ Own wr.drew.heap.size w' X ∧ Below wr.drew.heap.size wr.drew w') rfl rfl Try.func122 (by kernel_rfl) (by kernel_rfl) ((insert_any (.agg cs) s n X wr.drew (HV.out.2.1.sk.below (Below.refl _ _).drew) HV.out.2.2.2.1).mono (by rintro e w' ⟨u, s', d, X', rfl, q1, q2, q3, q4⟩; obtain ⟨es, rfl, q5, q6⟩ := q1.cells; exact ⟨_, rfl, es, s', d, X', rfl, q5, q6, q1, q2, q3, q4⟩)) ?_
      rintro _ W5 ⟨es, s', d, X5, rfl, q5, q6, q1, q2, q3, q4⟩
      have HS5 : Hid (W5.cell? ⟨lb, lof + k, none⟩ = some (.int .i64 n)) := (q4.cell (by exact World.block_lt_of_cell? _ _ HS.out)).trans HS.out
      refine ⟨_, by simp [Act.put]; rfl, hK _ _ ⟨HS5.out, ?_⟩⟩
      have HV5 : Hid (Blk W5 w1.heap.size cs 34 ∧ RdR W5 (.agg es) s' X5 ∧ es.size = 7 ∧ es.all (·.oneCell') = true ∧ s'.shaped = true ∧ Own wr.heap.size W5 X5 ∧ Below w.heap.size w W5 ∧ Blk W5 w.heap.size #[.int .i64 0, .int .i64 0, .int .i64 0, .int .i64 0, .slice none 0 0, .slice none 0 0, .slice none 0 0] 34 ∧ w1.heap.size < wr.heap.size ∧ w.heap.size < w1.heap.size ∧ RdI W5 (some ⟨lb, lof, none⟩) len zs FL ∧ lb < w.heap.size) := ⟨HV.out.1.drew.below q4, q1, q5, q6, q2, q3, Below.next HV.out.2.2.2.2.2.1.drew q4, HV.out.2.2.2.2.2.2.1.drew.below q4, HV.out.1.lt, HV.out.2.2.2.2.2.2.2.1, (HV.out.2.2.2.2.2.2.2.2.1.below (Below.refl _ _).drew).below q4, HV.out.2.2.2.2.2.2.2.2.2⟩
      clear hK q1 q2 q3 q4 q5 q6 HV HS
      refine takeH (o := ?o7) 6 (.tuple #[.agg es, .bool d]) ?h7 ?r7
      case h7 => simp only [aT, aS, aZ]; rfl
      refine ⟨_, by simp [Act.put]; rfl, by kernel_rfl, by kernel_rfl, by kernel_rfl, fun _ _ _ h => h, (.inl ⟨rfl, fun W _ => by go_simp⟩), HS5.out, ?_⟩
      refine takeH (o := ?o8) 7 (.agg es) ?h8 ?r8
      case h8 => simp only [aT, aS, aZ]; rfl
      refine ⟨_, by simp [Act.put]; rfl, by kernel_rfl, by kernel_rfl, by kernel_rfl, fun _ _ _ h => h, (.inl ⟨rfl, fun W _ => by go_simp⟩), HS5.out, ?_⟩
      refine takeH (o := ?o9) 8 (.bool d) ?h9 ?r9
      case h9 => simp only [aT, aS, aZ]; rfl
      refine ⟨_, by simp [Act.put]; rfl, by kernel_rfl, by kernel_rfl, by kernel_rfl, fun _ _ _ h => h, (.inl ⟨rfl, fun W _ => by go_simp⟩), HS5.out, ?_⟩
      refine onlyH (o := ?o10) 9 (by kernel_rfl) ?h10 ?r10
      case h10 => simp only [aT, aS, aZ]; rfl
      intro K hK
      have hne : lb ≠ w1.heap.size := by have := HV5.out.2.2.2.2.2.2.2.2.2.2.2; have := HV5.out.2.2.2.2.2.2.2.2.2.1; omega
      have hsz : (W5.setRow w1.heap.size es).heap.size = W5.heap.size := by simp
      refine op_store 34 w1.heap.size cs es 34 rfl rfl rfl rfl HV5.out.1 (skSize HV5.out.2.2.1) (by rw [HCS.out, HV5.out.2.2.1]) HV5.out.2.2.2.1 ⟨_, by simp [Act.put]; rfl, hK _ _ ⟨(World.cell?_of_block (w := W5) (a := ⟨lb, lof + k, none⟩) (setRow_other W5 w1.heap.size lb es hne)).trans HS5.out, ?_⟩⟩
      have ag : Agree W5 (W5.setRow w1.heap.size es) X5 := fun b hb => setRow_other W5 _ b _ (fun e => by have := HV5.out.2.2.2.2.2.1.ge b hb; have := HV5.out.2.2.2.2.2.2.2.2.1; omega)
      have agL : Agree W5 (W5.setRow w1.heap.size es) FL := fun b hb => setRow_other W5 _ b _ (fun e => by have := HFL.out b hb; have := HV5.out.2.2.2.2.2.2.2.2.2.1; omega)
      have HN : Hid (Blk (W5.setRow w1.heap.size es) w1.heap.size es 34 ∧ RdR (W5.setRow w1.heap.size es) (.agg es) s' X5 ∧ es.size = 7 ∧ s'.shaped = true ∧ Own (w.heap.size + 1) (W5.setRow w1.heap.size es) X5 ∧ Below w.heap.size w (W5.setRow w1.heap.size es) ∧ Blk (W5.setRow w1.heap.size es) w.heap.size #[.int .i64 0, .int .i64 0, .int .i64 0, .int .i64 0, .slice none 0 0, .slice none 0 0, .slice none 0 0] 34 ∧ w.heap.size < w1.heap.size ∧ RdI (W5.setRow w1.heap.size es) (some ⟨lb, lof, none⟩) len zs FL ∧ lb < w.heap.size) := ⟨HV5.out.1.setRow, HV5.out.2.1.agree ag, HV5.out.2.2.1, HV5.out.2.2.2.2.1, (HV5.out.2.2.2.2.2.1.agree ag).mono (by have := HV5.out.2.2.2.2.2.2.2.2.1; have := HV5.out.2.2.2.2.2.2.2.2.2.1; omega), below_setRow HV5.out.2.2.2.2.2.2.1 (by have := HV5.out.2.2.2.2.2.2.2.2.2.1; omega) _, HV5.out.2.2.2.2.2.2.2.1.setRowOther (by have := HV5.out.2.2.2.2.2.2.2.2.2.1; omega), HV5.out.2.2.2.2.2.2.2.2.2.1, HV5.out.2.2.2.2.2.2.2.2.2.2.1.agree agL, HV5.out.2.2.2.2.2.2.2.2.2.2.2⟩
      clear hK ag agL hne hsz HV5 HS5
      refine wpAnyH_done (by kernel_rfl) ?_ _
      go_wp2
      go_roundw
      case rel => exact ⟨k + 1, es, s', X5, by omega, by go_num, HN⟩
      case measure => simp [intOf]; omega
    · obtain rfl : k = len := by omega
      go_wp2_with (first | go_skip | (with_reducible refine stopLoad 34 rfl ?_) | (with_reducible refine stopStore 34 rfl ?_))
      refine load_any 34 w1.heap.size cs 34 _ HV.out.1 rfl rfl rfl Try.underlying34 rfl (skSize HV.out.2.2.1) ?_
      go_wp2_with (first | go_skip | (with_reducible refine stopLoad 34 rfl ?_) | (with_reducible refine stopStore 34 rfl ?_))
      refine store_known 34 w.heap.size _ cs 34 HV.out.2.2.2.2.2.2.1 rfl rfl rfl rfl (skSize HV.out.2.2.1) HV.out.2.2.1.symm (by obtain ⟨ds, e, _, h8⟩ := HV.out.2.1.cells; cases e; exact h8) ?_
      go_wp2
      refine bodyPost_ret (results_cell_row Try.results112 _ _ w.heap.size _ _ _ _ rfl HV.out.2.2.2.2.2.2.1.setRow Try.underlying34 rfl (skSize HV.out.2.2.1)) rfl ?_
      exact HEND.out _ _ _ _ HV.out.1 HV.out.2.1 HV.out.2.2.2.1 HV.out.2.2.2.2.1 HV.out.2.2.2.2.2.1
end Go.Proofs.Ytgkbhhlkaifnoaa
