/- Several texts of mine, laid together. No statement of the seat is proved here. -/
import Derived.Test.YtgkbhhlkaifnoaaSkInsert
import Derived.Test.YtgkbhhlkaifnoaaSkNew
import Derived.Test.YtgkbhhlkaifnoaaDrawSk
import Derived.Test.YtgkbhhlkaifnoaaItOf
import Derived.Test.YtgkbhhlkaifnoaaPart
import Derived.Test.YtgkbhhlkaifnoaaSpModel
import Derived.Laws.CopyOwn
import Derived.OrdersHeld
import Derived.Laws.AppendOwnNone
import Derived.Test.YtgkbhhlkaifnoaaDrawPick
import Derived.Test.YtgkbhhlkaifnoaaOwn
import Derived.Test.YtgkbhhlkaifnoaaArrEq
import Derived.Test.YtgkbhhlkaifnoaaIntRows
import Derived.Test.YtgkbhhlkaifnoaaSpData
import Derived.Test.YtgkbhhlkaifnoaaItHelp
import Derived.Test.YtgkbhhlkaifnoaaItHelp2
import Derived.Test.YtgkbhhlkaifnoaaItModel
/- The walk through the model's Sketched. No statement of the seat is proved here. -/
namespace Go.Proofs.Ytgkbhhlkaifnoaa
open Go.RowKit
section
variable {P : Program} {ops : Array Oper} {Q : Exit → Act → World → Prop} {a : Act} {w : World} {x : Operand} {o : Oper} {K : Act → World → Prop}
theorem op_load (ty : TypeId) (g : Nat) (cells : Array Value) (t : TypeId) (d : TypeDesc) (hg : Blk w g cells t) (hw : Region.wanted o (yielded ops a.tmps) = true) (ho : o.op = .load ty x) (hx : a.eval x = .pointer (some ⟨g, 0, none⟩))
 (hu : P.underlying ty = some d) (hd : (match d with | .struct _ | .array _ _ => true | _ => false) = true) (hi : (P.info? ty).map (·.size) = some cells.size)
 (h : ∃ a', a.put o.dst (.agg cells) = a' ∧ K a' w) : if Region.wanted o (yielded ops a.tmps) = true then Oper.wp P o a w K Q else K (a.put o.dst undef) w := by
 obtain ⟨_, rfl, h⟩ := h
 rw [if_pos hw]
 exact wp_load_row ty x ho g hx t cells (0, 0) d hg hu hd hi h
end
/-- Some summary, in memory of its own, its lists as long as told. -/
def NewShaped (w : World) (e : Ending) (w' : World) : Prop :=
 ∃ v s F, e = .returned v ∧ RdR w' v s F ∧ s.shaped = true ∧ Own w.heap.size w' F ∧ Below w.heap.size w w'
theorem NewSkX.rd {w W : World} {e : Ending} (h : NewSkX w 3 e W) : ∃ v F, e = .returned v ∧ RdR W v Sk.new F ∧ Own w.heap.size W F ∧ Below w.heap.size w W := by
 obtain ⟨v, F, g1, x5, g5, z8, h1, h2, h3, h4, h5, h6, h7, h8⟩ := h
 exact ⟨v, F, h1, ⟨h3, _, _, _, _, _, _, _, [g1], _, _, _, _, h2, ⟨g1, 0, rfl, rfl, rfl, ⟨z8, h7, h8⟩, by omega, by decide⟩, by simpa using h6, by omega⟩, h4, h5⟩
theorem new_shaped : Sk.new.shaped = true := by decide
set_option maxRecDepth 200000 in
set_option maxHeartbeats 4000000 in
theorem sketched_any (a : Option Addr) (len cap : Nat) (zs : List Int) (FL : List Nat) (w : World) (h : RdI w a len zs FL) (hlen : len ≤ 1048576) :
 Calls Try.prog 112 #[.slice a len cap] w fun e w' => NewShaped w e w' := by
 have HR : Hid (RdI w a len zs FL) := h
 have HT : Hid (Blk (w.alloc (.cells #[.int .i64 0, .int .i64 0, .int .i64 0, .int .i64 0, .slice none 0 0, .slice none 0 0, .slice none 0 0] 34)) w.heap.size #[.int .i64 0, .int .i64 0, .int .i64 0, .int .i64 0, .slice none 0 0, .slice none 0 0, .slice none 0 0] 34 ∧ Below w.heap.size w (w.alloc (.cells #[.int .i64 0, .int .i64 0, .int .i64 0, .int .i64 0, .slice none 0 0, .slice none 0 0, .slice none 0 0] 34))) := ⟨Blk.made _ _ _, (Below.refl _ _).alloc (Nat.le_refl _) _⟩
 clear h
 go_enter Try.func112, Try.ntmps112
 go_wp2_with fail
 refine (newSpec_x _).mono ?_
 intro e w1 hx
 obtain ⟨vv, X, rfl, rr, oo, bb⟩ := hx.rd
 clear hx
 obtain ⟨cs, rfl, e7, e1⟩ := rr.cells
 have HE : Hid (RdR w1 (.agg cs) Sk.new X ∧ Own (w.heap.size + 1) w1 X ∧ cs.size = 7 ∧ cs.all (·.oneCell') = true ∧ Blk w1 w.heap.size #[.int .i64 0, .int .i64 0, .int .i64 0, .int .i64 0, .slice none 0 0, .slice none 0 0, .slice none 0 0] 34 ∧ Below w.heap.size w w1) := ⟨rr, by simpa using oo, e7, e1, HT.out.1.below bb, Below.next HT.out.2 bb⟩
 clear rr oo bb e7 e1 HT
 go_wp2_with (first | go_skip | (with_reducible refine stopLoad 34 rfl ?_) | (with_reducible refine stopStore 34 rfl ?_))
 refine store_fresh 34 w1.heap.size rfl #[.int .i64 0, .int .i64 0, .int .i64 0, .int .i64 0, .slice none 0 0, .slice none 0 0, .slice none 0 0] cs 34 rfl rfl rfl rfl (skSize HE.out.2.2.1) HE.out.2.2.1.symm HE.out.2.2.2.1 ?_
 intro W2 hg2 hb2
 have HV2 : Hid (Blk W2 w1.heap.size cs 34 ∧ RdR W2 (.agg cs) Sk.new X ∧ cs.size = 7 ∧ Own (w.heap.size + 1) W2 X ∧ Below w.heap.size w W2 ∧ Blk W2 w.heap.size #[.int .i64 0, .int .i64 0, .int .i64 0, .int .i64 0, .slice none 0 0, .slice none 0 0, .slice none 0 0] 34 ∧ w.heap.size < w1.heap.size) := ⟨hg2, HE.out.1.below hb2, HE.out.2.2.1, HE.out.2.1.below HE.out.1.lt hb2, Below.next HE.out.2.2.2.2.2 hb2, HE.out.2.2.2.2.1.below hb2, HE.out.2.2.2.2.1.lt⟩
 clear hg2 hb2 HE
 have HEND : Hid (∀ W cs s X, Blk W w1.heap.size cs 34 → RdR W (.agg cs) s X → s.shaped = true → Own (w.heap.size + 1) W X → Below w.heap.size w W → NewShaped w (.returned (.agg cs)) (W.setRow w.heap.size cs)) := fun W cs s X _ q2 q3 q4 q5 => by
  have ag : Agree W (W.setRow w.heap.size cs) X := fun b hb => setRow_other W _ b _ (fun e => by have := q4.ge b hb; omega)
  exact ⟨_, s, X, rfl, q2.agree ag, q3, (q4.agree ag).mono (by omega), below_setRow q5 (Nat.le_refl _) _⟩
 by_cases h0 : len = 0
 ·
  subst h0
  go_wp2
  refine wp_loop_rounds 1 ?_
  rw [rounds_succ]
  go_wp2_with (first | go_skip | (with_reducible refine stopLoad 34 rfl ?_) | (with_reducible refine stopStore 34 rfl ?_))
  refine load_any 34 w1.heap.size cs 34 _ HV2.out.1 rfl rfl rfl Try.underlying34 rfl (skSize HV2.out.2.2.1) ?_
  go_wp2_with (first | go_skip | (with_reducible refine stopLoad 34 rfl ?_) | (with_reducible refine stopStore 34 rfl ?_))
  refine store_known 34 w.heap.size _ cs 34 HV2.out.2.2.2.2.2.1 rfl rfl rfl rfl (skSize HV2.out.2.2.1) HV2.out.2.2.1.symm (by obtain ⟨ds, e, _, h8⟩ := HV2.out.2.1.cells; cases e; exact h8) ?_
  go_wp2
  refine bodyPost_ret (results_cell_row Try.results112 _ _ w.heap.size _ _ _ _ rfl HV2.out.2.2.2.2.2.1.setRow Try.underlying34 rfl (skSize HV2.out.2.2.1)) rfl ?_
  exact HEND.out _ _ _ _ HV2.out.1 HV2.out.2.1 new_shaped HV2.out.2.2.2.1 HV2.out.2.2.2.2.1
 obtain ⟨lb, lof, rfl⟩ := HR.out.addr (by omega)
 have hlb : lb < w.heap.size := World.block_lt_of_cell? _ _ (HR.out.at 0 (by omega))
 have HFL : Hid (∀ b ∈ FL, b < w.heap.size) := HR.out.lt
 go_wp2
 go_loopw [4] (fun i wr => ∃ (k : Nat) (cs : Array Value) (s : Sk) (X : List Nat), k ≤ len ∧ i = .int .i64 k ∧ Hid (Blk wr w1.heap.size cs 34 ∧ RdR wr (.agg cs) s X ∧ cs.size = 7 ∧ s.shaped = true ∧ Own (w.heap.size + 1) wr X ∧ Below w.heap.size w wr ∧ Blk wr w.heap.size #[.int .i64 0, .int .i64 0, .int .i64 0, .int .i64 0, .slice none 0 0, .slice none 0 0, .slice none 0 0] 34 ∧ w.heap.size < w1.heap.size ∧ RdI wr (some ⟨lb, lof, none⟩) len zs FL ∧ lb < w.heap.size)) (fun i _ => len - (intOf i).toNat)
 case atStart => exact ⟨0, cs, Sk.new, X, by omega, rfl, ⟨HV2.out.1, HV2.out.2.1, HV2.out.2.2.1, new_shaped, HV2.out.2.2.2.1, HV2.out.2.2.2.2.1, HV2.out.2.2.2.2.2.1, HV2.out.2.2.2.2.2.2, HR.out.below HV2.out.2.2.2.2.1, hlb⟩⟩
 case round =>
  clear HV2
  obtain ⟨k, cs, s, X, hk, rfl, HV⟩ := hrel
  by_cases hlt : k < len
  ·
   obtain ⟨n, hn⟩ : ∃ n, n = zs.getD k 0 := ⟨_, rfl⟩
   have HS : Hid (wr.drew.cell? ⟨lb, lof + k, none⟩ = some (.int .i64 n)) := by rw [hn]; exact HV.out.2.2.2.2.2.2.2.2.1.at k hlt
   have HCS : Hid (cs.size = 7) := HV.out.2.2.1
   clear hn
   go_wp2
   refine wp_region_held (S := fun W => W.cell? ⟨lb, lof + k, none⟩ = some (.int .i64 n)) (by kernel_rfl) ?_
   change wpAnyH _ _ _ _ _ _ _ _ (World.drew _)
   refine takeH (o := ?o1) 1 (.slice (some ⟨lb, lof, none⟩) len cap) ?h1 ?r1
   case h1 => simp only [aT, aS, aZ]; rfl
   refine ⟨_, by simp [Act.put]; rfl, by kernel_rfl, by kernel_rfl, by kernel_rfl, fun _ _ _ h => h, (.inl ⟨rfl, fun W _ => by go_simp⟩), HS.out, ?_⟩
   refine takeH (o := ?o2) 2 (.int .i64 k) ?h2 ?r2
   case h2 => simp only [aT, aS, aZ]; rfl
   refine ⟨_, by simp [Act.put]; rfl, by kernel_rfl, by kernel_rfl, by kernel_rfl, fun _ _ _ h => h, (.inl ⟨rfl, fun W _ => by go_simp⟩), HS.out, ?_⟩
   refine takeH (o := ?o3) 3 (.pointer (some ⟨lb, lof + k, none⟩)) ?h3 ?r3
   case h3 => simp only [aT, aS, aZ]; rfl
   refine ⟨_, by simp [Act.put]; rfl, by kernel_rfl, by kernel_rfl, by kernel_rfl, fun _ _ _ h => h, (.inl ⟨rfl, fun W _ => by go_simp⟩), HS.out, ?_⟩
   refine takeH (o := ?o4) 4 (.int .i64 n) ?h4 ?r4
   case h4 => simp only [aT, aS, aZ]; rfl
   refine ⟨_, by simp [Act.put]; rfl, by kernel_rfl, by kernel_rfl, by kernel_rfl, fun _ _ _ h => h, (.inl ⟨rfl, fun W hW => by have c := hW; go_simp⟩), HS.out, ?_⟩
   refine onlyH (o := ?o5) 0 (by kernel_rfl) ?h5 ?r5
   case h5 => simp only [aT, aZ]; rfl
   intro K hK
   refine op_load 34 w1.heap.size cs 34 _ HV.out.1.drew rfl rfl rfl Try.underlying34 rfl (skSize HV.out.2.2.1) ⟨_, by simp [Act.put]; rfl, hK _ _ ⟨HS.out, ?_⟩⟩
   clear hK
   refine onlyH (o := ?o6) 5 (by kernel_rfl) ?h6 ?r6
   case h6 => simp only [aT, aS, aZ]; rfl
   intro K hK
   refine op_call2' 122 _ _ _ Try.f122 (fun u w' => ∃ es s' d X, u = .tuple #[.agg es, .bool d] ∧ es.size = 7 ∧ es.all (·.oneCell') = true ∧ RdR w' (.agg es) s' X ∧ s'.shaped = true ∧ Own wr.drew.heap.size w' X ∧ Below wr.drew.heap.size wr.drew w') rfl rfl Try.func122 (by kernel_rfl) (by kernel_rfl) ((insert_any (.agg cs) s n X wr.drew (HV.out.2.1.sk.below (Below.refl _ _).drew) HV.out.2.2.2.1).mono (by rintro e w' ⟨u, s', d, X', rfl, q1, q2, q3, q4⟩; obtain ⟨es, rfl, q5, q6⟩ := q1.cells; exact ⟨_, rfl, es, s', d, X', rfl, q5, q6, q1, q2, q3, q4⟩)) ?_
   rintro _ W5 ⟨es, s', d, X5, rfl, q5, q6, q1, q2, q3, q4⟩
   have HS5 : Hid (W5.cell? ⟨lb, lof + k, none⟩ = some (.int .i64 n)) := (q4.cell (by exact World.block_lt_of_cell? _ _ HS.out)).trans HS.out
   refine ⟨_, by simp [Act.put]; rfl, hK _ _ ⟨HS5.out, ?_⟩⟩
   have HV5 : Hid (Blk W5 w1.heap.size cs 34 ∧ RdR W5 (.agg es) s' X5 ∧ es.size = 7 ∧ es.all (·.oneCell') = true ∧ s'.shaped = true ∧ Own wr.heap.size W5 X5 ∧ Below w.heap.size w W5 ∧ Blk W5 w.heap.size #[.int .i64 0, .int .i64 0, .int .i64 0, .int .i64 0, .slice none 0 0, .slice none 0 0, .slice none 0 0] 34 ∧ w1.heap.size < wr.heap.size ∧ w.heap.size < w1.heap.size ∧ RdI W5 (some ⟨lb, lof, none⟩) len zs FL ∧ lb < w.heap.size) := ⟨HV.out.1.drew.below q4, q1, q5, q6, q2, q3, Below.next HV.out.2.2.2.2.2.1.drew q4, HV.out.2.2.2.2.2.2.1.drew.below q4, HV.out.1.lt, HV.out.2.2.2.2.2.2.2.1, (HV.out.2.2.2.2.2.2.2.2.1.below (Below.refl _ _).drew).below q4, HV.out.2.2.2.2.2.2.2.2.2⟩
   clear hK q1 q2 q3 q4 q5 q6 HV HS
   refine takeH (o := ?o7) 6 (.tuple #[.agg es, .bool d]) ?h7 ?r7
   case h7 => simp only [aT, aS, aZ]; rfl
   refine ⟨_, by simp [Act.put]; rfl, by kernel_rfl, by kernel_rfl, by kernel_rfl, fun _ _ _ h => h, (.inl ⟨rfl, fun W _ => by go_simp⟩), HS5.out, ?_⟩
   refine takeH (o := ?o8) 7 (.agg es) ?h8 ?r8
   case h8 => simp only [aT, aS, aZ]; rfl
   refine ⟨_, by simp [Act.put]; rfl, by kernel_rfl, by kernel_rfl, by kernel_rfl, fun _ _ _ h => h, (.inl ⟨rfl, fun W _ => by go_simp⟩), HS5.out, ?_⟩
   refine takeH (o := ?o9) 8 (.bool d) ?h9 ?r9
   case h9 => simp only [aT, aS, aZ]; rfl
   refine ⟨_, by simp [Act.put]; rfl, by kernel_rfl, by kernel_rfl, by kernel_rfl, fun _ _ _ h => h, (.inl ⟨rfl, fun W _ => by go_simp⟩), HS5.out, ?_⟩
   refine onlyH (o := ?o10) 9 (by kernel_rfl) ?h10 ?r10
   case h10 => simp only [aT, aS, aZ]; rfl
   intro K hK
   have hne : lb ≠ w1.heap.size := by have := HV5.out.2.2.2.2.2.2.2.2.2.2.2; have := HV5.out.2.2.2.2.2.2.2.2.2.1; omega
   have hsz : (W5.setRow w1.heap.size es).heap.size = W5.heap.size := by simp
   refine op_store 34 w1.heap.size cs es 34 rfl rfl rfl rfl HV5.out.1 (skSize HV5.out.2.2.1) (by rw [HCS.out, HV5.out.2.2.1]) HV5.out.2.2.2.1 ⟨_, by simp [Act.put]; rfl, hK _ _ ⟨(World.cell?_of_block (w := W5) (a := ⟨lb, lof + k, none⟩) (setRow_other W5 w1.heap.size lb es hne)).trans HS5.out, ?_⟩⟩
   have ag : Agree W5 (W5.setRow w1.heap.size es) X5 := fun b hb => setRow_other W5 _ b _ (fun e => by have := HV5.out.2.2.2.2.2.1.ge b hb; have := HV5.out.2.2.2.2.2.2.2.2.1; omega)
   have agL : Agree W5 (W5.setRow w1.heap.size es) FL := fun b hb => setRow_other W5 _ b _ (fun e => by have := HFL.out b hb; have := HV5.out.2.2.2.2.2.2.2.2.2.1; omega)
   have HN : Hid (Blk (W5.setRow w1.heap.size es) w1.heap.size es 34 ∧ RdR (W5.setRow w1.heap.size es) (.agg es) s' X5 ∧ es.size = 7 ∧ s'.shaped = true ∧ Own (w.heap.size + 1) (W5.setRow w1.heap.size es) X5 ∧ Below w.heap.size w (W5.setRow w1.heap.size es) ∧ Blk (W5.setRow w1.heap.size es) w.heap.size #[.int .i64 0, .int .i64 0, .int .i64 0, .int .i64 0, .slice none 0 0, .slice none 0 0, .slice none 0 0] 34 ∧ w.heap.size < w1.heap.size ∧ RdI (W5.setRow w1.heap.size es) (some ⟨lb, lof, none⟩) len zs FL ∧ lb < w.heap.size) := ⟨HV5.out.1.setRow, HV5.out.2.1.agree ag, HV5.out.2.2.1, HV5.out.2.2.2.2.1, (HV5.out.2.2.2.2.2.1.agree ag).mono (by have := HV5.out.2.2.2.2.2.2.2.2.1; have := HV5.out.2.2.2.2.2.2.2.2.2.1; omega), below_setRow HV5.out.2.2.2.2.2.2.1 (by have := HV5.out.2.2.2.2.2.2.2.2.2.1; omega) _, HV5.out.2.2.2.2.2.2.2.1.setRowOther (by have := HV5.out.2.2.2.2.2.2.2.2.2.1; omega), HV5.out.2.2.2.2.2.2.2.2.2.1, HV5.out.2.2.2.2.2.2.2.2.2.2.1.agree agL, HV5.out.2.2.2.2.2.2.2.2.2.2.2⟩
   clear hK ag agL hne hsz HV5 HS5
   refine wpAnyH_done (by kernel_rfl) ?_ _
   go_wp2
   go_roundw
   case rel => exact ⟨k + 1, es, s', X5, by omega, by go_num, HN⟩
   case measure => simp [intOf]; omega
  ·
   obtain rfl : k = len := by omega
   go_wp2_with (first | go_skip | (with_reducible refine stopLoad 34 rfl ?_) | (with_reducible refine stopStore 34 rfl ?_))
   refine load_any 34 w1.heap.size cs 34 _ HV.out.1 rfl rfl rfl Try.underlying34 rfl (skSize HV.out.2.2.1) ?_
   go_wp2_with (first | go_skip | (with_reducible refine stopLoad 34 rfl ?_) | (with_reducible refine stopStore 34 rfl ?_))
   refine store_known 34 w.heap.size _ cs 34 HV.out.2.2.2.2.2.2.1 rfl rfl rfl rfl (skSize HV.out.2.2.1) HV.out.2.2.1.symm (by obtain ⟨ds, e, _, h8⟩ := HV.out.2.1.cells; cases e; exact h8) ?_
   go_wp2
   refine bodyPost_ret (results_cell_row Try.results112 _ _ w.heap.size _ _ _ _ rfl HV.out.2.2.2.2.2.2.1.setRow Try.underlying34 rfl (skSize HV.out.2.2.1)) rfl ?_
   exact HEND.out _ _ _ _ HV.out.1 HV.out.2.1 HV.out.2.2.2.1 HV.out.2.2.2.2.1 HV.out.2.2.2.2.2.1
end Go.Proofs.Ytgkbhhlkaifnoaa
/- The walk through the model's drawing of a summary that is right. No statement of the seat is proved here. -/
namespace Go.Proofs.Ytgkbhhlkaifnoaa
open Go.RowKit
set_option maxRecDepth 200000 in
theorem l1Once_any (g : Nat) (a : Option Addr) (len cap : Nat) (zs : List Int) (i h : Int) (n : Int) (w : World) (C : Cur w g a len cap zs i h) (hlen : len ≤ 1048576) (hn : 0 < n) (hn' : n ≤ 2147483647) :
 Calls Try.prog 60 #[.pointer (some ⟨g, 0, none⟩), .int .i64 n] w fun e w' => ∃ b i' h', e = .returned (.bool b) ∧ Cur w' g a len cap zs i' h' ∧ w.grownBy w' (some g) := by
 have HC : Hid (Cur w g a len cap zs i h) := C
 clear C
 go_enter Try.func60, Try.ntmps60
 go_wp2_with fail
 refine (l1Below_any g a len cap zs i h n _ HC.out hlen hn hn').mono ?_
 rintro e w1 ⟨x, i1, h1, rfl, _, _, C1, g1⟩
 have HC1 : Hid (Cur w1 g a len cap zs i1 h1 ∧ w.grownBy w1 (some g)) := ⟨C1, g1⟩
 clear C1 g1
 go_wp2
 go_ret
 exact ⟨_, i1, h1, rfl, HC1.out.1, HC1.out.2⟩
theorem grown_below {w w' : World} (g : Nat) (b : Below w.heap.size w w') : w.grownBy w' (some g) := ⟨b.os, b.tape, b.output, b.size, fun k hk _ => b.block k hk⟩
/-- The same world, with nothing in memory. -/
def World.bare (w : World) : World := { w with heap := #[] }
theorem bare_below {w W : World} {q : Nat} (k : w.grownBy W (some q)) : Below (World.bare w).heap.size (World.bare w) W := ⟨k.os, k.tape, k.output, Nat.zero_le _, fun j hj => absurd hj (Nat.not_lt_zero j)⟩
theorem Blk.grown {w W : World} {b q : Nat} {cs : Array Value} {t : TypeId} (h : Blk w b cs t) (k : w.grownBy W (some q)) (hq : b ≠ q) : Blk W b cs t := h.agree (k.block b h.lt (fun e => hq (by simpa using e)))
theorem agree_grown {w W : World} {F : List Nat} {q : Nat} (k : w.grownBy W (some q)) (hlt : ∀ b ∈ F, b < w.heap.size) (hq : q ∉ F) : Agree w W F := fun b hb => k.block b (hlt b hb) (fun e => hq (by simp at e; rw [← e]; exact hb))
section
variable {w : World} {lo g : Nat} {c sm mn mx : Int} {b1 o1 k1 b2 o2 k2 p po k3 b3 o3 j0 b4 o4 j1 : Nat} {l1 l2 x y : List Int} {W W' : World}
theorem Out.grown {q : Nat} (h : Out w lo g c sm mn mx b1 o1 k1 b2 o2 k2 p po k3 b3 o3 j0 b4 o4 j1 l1 l2 x y W) (k : W.grownBy W' (some q)) (hq : q < lo) (hw : w.heap.size ≤ q) : Out w lo g c sm mn mx b1 o1 k1 b2 o2 k2 p po k3 b3 o3 j0 b4 o4 j1 l1 l2 x y W' := by
 have ge := h.ges
 have e1 := h.hist.lt b1 (by simp)
 have e2 := h.regs.lt b2 (by simp)
 have e3 := h.row0.lt b3 (by simp)
 have e4 := h.row1.lt b4 (by simp)
 have e5 : p < W.heap.size := World.block_lt_of_cell? _ _ h.c0
 have e6 := h.blk.lt
 have bp := k.block p e5 (fun e => by simp at e; omega)
 exact ⟨h.blk.grown k (by omega), h.hist.agree (agree_grown k (by simpa using e1) (by simp; omega)), h.regs.agree (agree_grown k (by simpa using e2) (by simp; omega)), (World.cell?_of_block (w := W) (a := ⟨p, po, none⟩) bp).trans h.c0, (World.cell?_of_block (w := W) (a := ⟨p, po + 1, none⟩) bp).trans h.c1, h.row0.agree (agree_grown k (by simpa using e3) (by simp; omega)), h.row1.agree (agree_grown k (by simpa using e4) (by simp; omega)), h.own.agree (agree_grown k (fun b hb => by simp at hb; omega) (by simp; omega)), h.bel.grown k h.bel.size (fun j hj => by simp at hj; omega), h.lw, h.room.grown k (by omega), h.wide⟩
end
/-- What the drawing of a summary tells: some summary, its lists as long as told, in memory of its own; the cursor goes on. -/
def DrewShaped (w : World) (q : Nat) (a : Option Addr) (len cap : Nat) (zs : List Int) (e : Ending) (w' : World) : Prop :=
 ∃ v s F i' h', e = .returned v ∧ RdR w' v s F ∧ s.shaped = true ∧ Own w.heap.size w' F ∧ Cur w' q a len cap zs i' h' ∧ w.grownBy w' (some q)
theorem drew_end {w W ww : World} {q lo g : Nat} {c sm mn mx : Int} {b1 o1 k1 b2 o2 k2 p po k3 b3 o3 j0 b4 o4 j1 : Nat} {l1 l2 x y : List Int} {a : Option Addr} {len cap : Nat} {zs : List Int} {i h : Int} (hO : Out ww lo g c sm mn mx b1 o1 k1 b2 o2 k2 p po k3 b3 o3 j0 b4 o4 j1 l1 l2 x y W) (hr : Blk W w.heap.size #[.int .i64 0, .int .i64 0, .int .i64 0, .int .i64 0, .slice none 0 0, .slice none 0 0, .slice none 0 0] 34) (hC : Cur W q a len cap zs i h) (hG : w.grownBy W (some q)) (hq : q < w.heap.size) (hlo : w.heap.size < lo) :
 DrewShaped w q a len cap zs (.returned (.agg #[.int .i64 c, .int .i64 sm, .int .i64 mn, .int .i64 mx, .slice (some ⟨b1, o1, none⟩) 8 k1, .slice (some ⟨b2, o2, none⟩) 8 k2, .slice (some ⟨p, po, none⟩) 2 k3])) (W.setRow w.heap.size #[.int .i64 c, .int .i64 sm, .int .i64 mn, .int .i64 mx, .slice (some ⟨b1, o1, none⟩) 8 k1, .slice (some ⟨b2, o2, none⟩) 8 k2, .slice (some ⟨p, po, none⟩) 2 k3]) := by
 obtain ⟨r, o, hs⟩ := out_rd hO
 have ag : Agree W (W.setRow w.heap.size #[.int .i64 c, .int .i64 sm, .int .i64 mn, .int .i64 mx, .slice (some ⟨b1, o1, none⟩) 8 k1, .slice (some ⟨b2, o2, none⟩) 8 k2, .slice (some ⟨p, po, none⟩) 2 k3]) [b1, b2, p, b3, b4] := fun b hb => setRow_other W _ b _ (fun e => by have := o.ge b hb; omega)
 have hgr : w.grownBy (W.setRow w.heap.size #[.int .i64 c, .int .i64 sm, .int .i64 mn, .int .i64 mx, .slice (some ⟨b1, o1, none⟩) 8 k1, .slice (some ⟨b2, o2, none⟩) 8 k2, .slice (some ⟨p, po, none⟩) 2 k3]) (some q) := ⟨hG.os, hG.tape, hG.output, by simp; exact hG.size, fun b hb hn => (setRow_other W _ b _ (by omega)).trans (hG.block b hb hn)⟩
 refine ⟨_, _, _, i, h, rfl, r.agree ag, hs, (o.agree ag).mono (by omega), ?_, hgr⟩
 refine cur_agree hC (World.block_lt_of_cell? _ _ hC.c0) (setRow_other W _ q _ (by omega)) (fun b hb ⟨off, ha, hp⟩ => setRow_other W _ b _ (fun e => ?_))
 subst e
 rcases hC.rd.cells with h0 | ⟨b', off', ha', hc⟩
 ·
  omega
 ·
  rw [ha] at ha'
  cases ha'
  have e0 := hc 0 hp
  rw [hr.cell] at e0
  match off, e0 with
  | 0, e0 => simp at e0
  | 1, e0 => simp at e0
  | 2, e0 => simp at e0
  | 3, e0 => simp at e0
  | 4, e0 => simp at e0
  | 5, e0 => simp at e0
  | 6, e0 => simp at e0
  | n + 7, e0 => simp at e0
theorem cur_lt {w : World} {q : Nat} {a : Option Addr} {len cap : Nat} {zs : List Int} {i h : Int} (C : Cur w q a len cap zs i h) (b : Nat) (hb : ∃ off, a = some ⟨b, off, none⟩ ∧ 0 < len) : b < w.heap.size := by
 obtain ⟨off, ha, hp⟩ := hb
 rcases C.rd.cells with h0 | ⟨b', off', ha', hc⟩
 ·
  omega
 ·
  rw [ha] at ha'
  cases ha'
  exact World.block_lt_of_cell? _ _ (hc 0 hp)
theorem held_set {w W : World} {q : Nat} {a : Option Addr} {len cap : Nat} {zs : List Int} {i h : Int} {cs : Array Value} {t : TypeId} (H : Blk W w.heap.size cs t ∧ Cur W q a len cap zs i h ∧ w.grownBy W (some q)) (hq : q < w.heap.size) (ha : ∀ b, (∃ off, a = some ⟨b, off, none⟩ ∧ 0 < len) → b < w.heap.size) (k j : Nat) (v : Value) (hk : w.heap.size < k) : Blk (W.setCell ⟨k, j, none⟩ v) w.heap.size cs t ∧ Cur (W.setCell ⟨k, j, none⟩ v) q a len cap zs i h ∧ w.grownBy (W.setCell ⟨k, j, none⟩ v) (some q) := by
 refine ⟨H.1.setOther (by omega) _ _, ?_, ?_⟩
 ·
  exact cur_agree H.2.1 (World.block_lt_of_cell? _ _ H.2.1.c0) (Below.heap_setCell W ⟨k, j, none⟩ v q (by simp; omega)) (fun b _ hb => Below.heap_setCell W ⟨k, j, none⟩ v b (by have := ha b hb; simp; omega))
 ·
  have G := H.2.2
  exact ⟨G.os, G.tape, G.output, by simpa using G.size, fun b hb hn => (Below.heap_setCell W ⟨k, j, none⟩ v b (by simp; omega)).trans (G.block b hb hn)⟩
set_option maxRecDepth 200000 in
set_option maxHeartbeats 4000000 in
theorem l3Right_any (q : Nat) (a : Option Addr) (len cap : Nat) (zs : List Int) (i h : Int) (w : World) (C : Cur w q a len cap zs i h) (hlen : len ≤ 1048576) :
 Calls Try.prog 114 #[.pointer (some ⟨q, 0, none⟩)] w fun e w' => DrewShaped w q a len cap zs e w' := by
 have hqw : q < w.heap.size := World.block_lt_of_cell? _ _ C.c0
 have hAw := cur_lt C
 have HT : Hid (Blk (w.alloc (.cells #[.int .i64 0, .int .i64 0, .int .i64 0, .int .i64 0, .slice none 0 0, .slice none 0 0, .slice none 0 0] 34)) w.heap.size #[.int .i64 0, .int .i64 0, .int .i64 0, .int .i64 0, .slice none 0 0, .slice none 0 0, .slice none 0 0] 34 ∧ Below w.heap.size w (w.alloc (.cells #[.int .i64 0, .int .i64 0, .int .i64 0, .int .i64 0, .slice none 0 0, .slice none 0 0, .slice none 0 0] 34))) := ⟨Blk.made _ _ _, (Below.refl _ _).alloc (Nat.le_refl _) _⟩
 have HC : Hid (Cur (w.alloc (.cells #[.int .i64 0, .int .i64 0, .int .i64 0, .int .i64 0, .slice none 0 0, .slice none 0 0, .slice none 0 0] 34)) q a len cap zs i h) := C.keep HT.out.2
 clear C
 go_enter Try.func114, Try.ntmps114
 go_wp2_with fail
 refine (l3Values_any q a len cap zs i h _ HC.out hlen).mono ?_
 rintro e w1 ⟨a', n, cc, xs, F, i1, h1, rfl, r1, hn, o1, C1, g1⟩
 have hlo : w.heap.size < w1.heap.size := by have := g1.size; simp at this; omega
 have HL1 : Hid (Blk w1 w.heap.size #[.int .i64 0, .int .i64 0, .int .i64 0, .int .i64 0, .slice none 0 0, .slice none 0 0, .slice none 0 0] 34 ∧ Cur w1 q a len cap zs i1 h1 ∧ w.grownBy w1 (some q) ∧ RdI w1 a' n xs F) := ⟨HT.out.1.grown g1 (by omega), C1, grown_tr (grown_below q HT.out.2) g1, r1⟩
 clear r1 o1 C1 g1 HT HC
 go_wp2_with fail
 refine (sketched_any a' n cc xs F _ HL1.out.2.2.2 (by omega)).mono ?_
 rintro e w2 ⟨vv, s, X, rfl, rr, hs, oo, bb⟩
 obtain ⟨es, rfl, e7, e1⟩ := rr.cells
 have HE : Hid (RdR w2 (.agg es) s X ∧ Own w1.heap.size w2 X ∧ Below w1.heap.size w1 w2 ∧ es.size = 7 ∧ es.all (·.oneCell') = true ∧ s.shaped = true) := ⟨rr, oo, bb, e7, e1, hs⟩
 clear rr oo bb e7 e1 hs
 go_wp2_with (first | go_skip | (with_reducible refine stopLoad 34 rfl ?_) | (with_reducible refine stopStore 34 rfl ?_))
 refine store_fresh 34 w2.heap.size rfl #[.int .i64 0, .int .i64 0, .int .i64 0, .int .i64 0, .slice none 0 0, .slice none 0 0, .slice none 0 0] es 34 rfl rfl rfl rfl (skSize HE.out.2.2.2.1) HE.out.2.2.2.1.symm HE.out.2.2.2.2.1 ?_
 intro W3 hg3 hb3
 have hbw := Below.next HE.out.2.2.1 hb3
 have hG3 := grown_tr HL1.out.2.2.1 (grown_below q hbw)
 obtain ⟨b1, o1, k1, b2, o2, k2, p, po, k3, b3, o3, j0, b4, o4, j1, l1, l2, x, y, hO⟩ := out_of (w := World.bare w) (lo := w1.heap.size) (HE.out.1.below hb3).sk hg3 (HE.out.2.1.below HE.out.1.lt hb3) HE.out.2.2.1.size (fun hx => by have := HE.out.1.lt _ hx; omega) HE.out.2.2.2.2.2 (bare_below hG3) (by show 0 + 1 < w1.heap.size; omega) (HE.out.1.below hb3).room
 have HO3 : Hid (Out (World.bare w) w1.heap.size w2.heap.size s.count s.sum s.min s.max b1 o1 k1 b2 o2 k2 p po k3 b3 o3 j0 b4 o4 j1 l1 l2 x y W3) := hO
 have HR3 : Hid (Blk W3 w.heap.size #[.int .i64 0, .int .i64 0, .int .i64 0, .int .i64 0, .slice none 0 0, .slice none 0 0, .slice none 0 0] 34 ∧ Cur W3 q a len cap zs i1 h1 ∧ w.grownBy W3 (some q)) := ⟨HL1.out.1.below hbw, HL1.out.2.1.keep hbw, hG3⟩
 have HL : Hid (q < w.heap.size ∧ w.heap.size < w1.heap.size ∧ ∀ b, (∃ off, a = some ⟨b, off, none⟩ ∧ 0 < len) → b < w.heap.size) := ⟨hqw, hlo, hAw⟩
 clear hg3 hb3 hbw hG3 hO HE HL1
 go_wp2_with fail
 refine (l1Once_any q a len cap zs i1 h1 16 _ HR3.out.2.1 hlen (by omega) (by omega)).mono ?_
 rintro e w4 ⟨b, i4, h4, rfl, C4, g4⟩
 have HOX : Hid (Out (World.bare w) w1.heap.size w2.heap.size s.count s.sum s.min s.max b1 o1 k1 b2 o2 k2 p po k3 b3 o3 j0 b4 o4 j1 l1 l2 x y w4) := HO3.out.grown g4 (by omega) (Nat.zero_le _)
 have HRX : Hid (Blk w4 w.heap.size #[.int .i64 0, .int .i64 0, .int .i64 0, .int .i64 0, .slice none 0 0, .slice none 0 0, .slice none 0 0] 34 ∧ Cur w4 q a len cap zs i4 h4 ∧ w.grownBy w4 (some q)) := ⟨HR3.out.1.grown g4 (by omega), C4, grown_tr HR3.out.2.2 g4⟩
 clear C4 g4 HO3 HR3
 cases b
 ·
  go_wp2_with (first | go_skip | (with_reducible refine stopLoad 34 rfl ?_) | (with_reducible refine stopStore 34 rfl ?_))
  refine load_any 34 w2.heap.size _ 34 _ HOX.out.blk rfl rfl rfl Try.underlying34 rfl (by kernel_rfl) ?_
  go_wp2_with (first | go_skip | (with_reducible refine stopLoad 34 rfl ?_) | (with_reducible refine stopStore 34 rfl ?_))
  refine store_known 34 w.heap.size _ _ 34 HRX.out.1 rfl rfl rfl rfl (by kernel_rfl) rfl (by kernel_rfl) ?_
  go_wp2
  refine bodyPost_ret (results_cell_row Try.results114 _ _ w.heap.size _ _ _ _ rfl HRX.out.1.setRow Try.underlying34 rfl (by kernel_rfl)) rfl ?_
  exact drew_end HOX.out HRX.out.1 HRX.out.2.1 HRX.out.2.2 HL.out.1 HL.out.2.1
 have g0 := HOX.out.blk.cell 0
 simp only [aT, aZ] at g0
 by_cases hc : 0 < s.count
 rotate_left
 ·
  have hcb : decide (0 < s.count) = false := dec_false hc
  clear hc
  go_wp2_with (first | go_skip | (with_reducible refine stopLoad 34 rfl ?_) | (with_reducible refine stopStore 34 rfl ?_))
  refine load_any 34 w2.heap.size _ 34 _ HOX.out.blk rfl rfl rfl Try.underlying34 rfl (by kernel_rfl) ?_
  go_wp2_with (first | go_skip | (with_reducible refine stopLoad 34 rfl ?_) | (with_reducible refine stopStore 34 rfl ?_))
  refine store_known 34 w.heap.size _ _ 34 HRX.out.1 rfl rfl rfl rfl (by kernel_rfl) rfl (by kernel_rfl) ?_
  go_wp2
  refine bodyPost_ret (results_cell_row Try.results114 _ _ w.heap.size _ _ _ _ rfl HRX.out.1.setRow Try.underlying34 rfl (by kernel_rfl)) rfl ?_
  exact drew_end HOX.out HRX.out.1 HRX.out.2.1 HRX.out.2.2 HL.out.1 HL.out.2.1
 have hcb : decide (0 < s.count) = true := dec_true hc
 clear hc
 go_wp2_with fail
 refine (l1Below_any q a len cap zs i4 h4 2 _ HRX.out.2.1 hlen (by omega) (by omega)).mono ?_
 rintro e w5 ⟨z, i5, h5, rfl, z0, z1, C5, g5⟩
 have HO5 : Hid (Out (World.bare w) w1.heap.size w2.heap.size s.count s.sum s.min s.max b1 o1 k1 b2 o2 k2 p po k3 b3 o3 j0 b4 o4 j1 l1 l2 x y w5) := HOX.out.grown g5 (by omega) (Nat.zero_le _)
 have HR5 : Hid (Blk w5 w.heap.size #[.int .i64 0, .int .i64 0, .int .i64 0, .int .i64 0, .slice none 0 0, .slice none 0 0, .slice none 0 0] 34 ∧ Cur w5 q a len cap zs i5 h5 ∧ w.grownBy w5 (some q)) := ⟨HRX.out.1.grown g5 (by omega), C5, grown_tr HRX.out.2.2 g5⟩
 clear C5 g5 HOX HRX g0 hcb
 have g0 := HO5.out.blk.cell 0
 have g1 := HO5.out.blk.cell 1
 have g4 := HO5.out.blk.cell 4
 have f0 := HO5.out.blk.frozen 0
 have f1 := HO5.out.blk.frozen 1
 have cE := HO5.out.hist.at 3 (by omega)
 have fE := HO5.out.own.free b1 (by simp) (o1 + 3)
 simp only [aT, aS, aZ] at g0 g1 g4
 have ne1 : ¬ w2.heap.size = b1 := by have := HO5.out.nd; omega
 have ne2 : ¬ b1 = w2.heap.size := fun e => ne1 e.symm
 go_wp2_with (first | go_skip | (with_reducible refine stopLoad 34 rfl ?_) | (with_reducible refine stopStore 34 rfl ?_))
 have HOX : Hid _ := ((HO5.out.setC (1000000000 - z)).setHist 3 (by omega) 1000000000).setS 999999997
 have HRX : Hid _ := held_set (held_set (held_set HR5.out HL.out.1 HL.out.2.2 w2.heap.size 0 (.int .i64 (1000000000 - z)) (by have := HO5.out.ges; have := HL.out.2.1; omega)) HL.out.1 HL.out.2.2 b1 (o1 + 3) (.int .i64 1000000000) (by have := HO5.out.ges; have := HL.out.2.1; omega)) HL.out.1 HL.out.2.2 w2.heap.size 1 (.int .i64 999999997) (by have := HO5.out.ges; have := HL.out.2.1; omega)
 refine load_any 34 w2.heap.size _ 34 _ HOX.out.blk rfl rfl rfl Try.underlying34 rfl (by kernel_rfl) ?_
 go_wp2_with (first | go_skip | (with_reducible refine stopLoad 34 rfl ?_) | (with_reducible refine stopStore 34 rfl ?_))
 refine store_known 34 w.heap.size _ _ 34 HRX.out.1 rfl rfl rfl rfl (by kernel_rfl) rfl (by kernel_rfl) ?_
 go_wp2
 refine bodyPost_ret (results_cell_row Try.results114 _ _ w.heap.size _ _ _ _ rfl HRX.out.1.setRow Try.underlying34 rfl (by kernel_rfl)) rfl ?_
 exact drew_end HOX.out HRX.out.1 HRX.out.2.1 HRX.out.2.2 HL.out.1 HL.out.2.1
end Go.Proofs.Ytgkbhhlkaifnoaa
/- The walk through the model's drawing of a summary. No statement of the seat is proved here. -/
namespace Go.Proofs.Ytgkbhhlkaifnoaa
open Go.RowKit
theorem cell_al {W : World} {b i : Nat} {v : Value} (h : W.cell? ⟨b, i, none⟩ = some v) (o : Obj) : (W.alloc o).cell? ⟨b, i, none⟩ = some v :=
 (((Below.refl _ W).alloc (Nat.le_refl _) o).cell (p := ⟨b, i, none⟩) (World.block_lt_of_cell? _ _ h)).trans h
/-- What the drawing of a summary tells: some summary, each of its lists with something in it, in memory of its own; the cursor goes on. -/
def DrewFull (w : World) (q : Nat) (a : Option Addr) (len cap : Nat) (zs : List Int) (e : Ending) (w' : World) : Prop :=
 ∃ v s F i' h', e = .returned v ∧ RdSk w' v s F ∧ s.full ∧ Own w.heap.size w' F ∧ Cur w' q a len cap zs i' h' ∧ w.grownBy w' (some q)
theorem drew_full {w w' : World} {q : Nat} {a : Option Addr} {len cap : Nat} {zs : List Int} {e : Ending} (h : DrewShaped w q a len cap zs e w') : DrewFull w q a len cap zs e w' := by
 obtain ⟨v, s, F, i', h', e1, e2, e3, e4⟩ := h
 exact ⟨v, s, F, i', h', e1, e2.sk, shaped_full e3, e4⟩
/-- The result's place is written last. -/
theorem drew_put {w W : World} {q : Nat} {a : Option Addr} {len cap : Nat} {zs : List Int} {i h : Int} {cs : Array Value} {s : Sk} {F : List Nat} (hr : Blk W w.heap.size #[.int .i64 0, .int .i64 0, .int .i64 0, .int .i64 0, .slice none 0 0, .slice none 0 0, .slice none 0 0] 34) (hC : Cur W q a len cap zs i h) (hG : w.grownBy W (some q)) (hq : q < w.heap.size) (r : RdSk W (.agg cs) s F) (hs : s.full) (o : Own (w.heap.size + 1) W F) : DrewFull w q a len cap zs (.returned (.agg cs)) (W.setRow w.heap.size cs) := by
 have ag : Agree W (W.setRow w.heap.size cs) F := fun b hb => setRow_other W _ b _ (fun e => by have := o.ge b hb; omega)
 have hgr : w.grownBy (W.setRow w.heap.size cs) (some q) := ⟨hG.os, hG.tape, hG.output, by simp; exact hG.size, fun b hb hn => (setRow_other W _ b _ (by omega)).trans (hG.block b hb hn)⟩
 refine ⟨_, s, F, i, h, rfl, r.agree ag, hs, (o.agree ag).mono (by omega), ?_, hgr⟩
 refine cur_agree hC (World.block_lt_of_cell? _ _ hC.c0) (setRow_other W _ q _ (by omega)) (fun b hb ⟨off, ha, hp⟩ => setRow_other W _ b _ (fun e => ?_))
 subst e
 rcases hC.rd.cells with h0 | ⟨b', off', ha', hc⟩
 ·
  omega
 ·
  rw [ha] at ha'
  cases ha'
  have e0 := hc 0 hp
  rw [hr.cell] at e0
  match off, e0 with
  | 0, e0 => simp at e0
  | 1, e0 => simp at e0
  | 2, e0 => simp at e0
  | 3, e0 => simp at e0
  | 4, e0 => simp at e0
  | 5, e0 => simp at e0
  | 6, e0 => simp at e0
  | n + 7, e0 => simp at e0
theorem drew_row {w W ww : World} {q lo g : Nat} {c sm mn mx : Int} {b1 o1 k1 b2 o2 k2 p po k3 b3 o3 j0 b4 o4 j1 : Nat} {l1 l2 x y : List Int} {a : Option Addr} {len cap : Nat} {zs : List Int} {i h : Int} {v6 : Value} (hO : Out ww lo g c sm mn mx b1 o1 k1 b2 o2 k2 p po k3 b3 o3 j0 b4 o4 j1 l1 l2 x y W) (hr : Blk (W.setCell ⟨g, 6, none⟩ v6) w.heap.size #[.int .i64 0, .int .i64 0, .int .i64 0, .int .i64 0, .slice none 0 0, .slice none 0 0, .slice none 0 0] 34) (hC : Cur (W.setCell ⟨g, 6, none⟩ v6) q a len cap zs i h) (hG : w.grownBy (W.setCell ⟨g, 6, none⟩ v6) (some q)) (hq : q < w.heap.size) (hlo : w.heap.size + 1 ≤ lo) :
 DrewFull w q a len cap zs (.returned (.agg #[.int .i64 c, .int .i64 sm, .int .i64 mn, .int .i64 mx, .slice (some ⟨b1, o1, none⟩) 8 k1, .slice (some ⟨b2, o2, none⟩) 8 k2, .slice (some ⟨p, po, none⟩) 1 k3])) ((W.setCell ⟨g, 6, none⟩ v6).setRow w.heap.size #[.int .i64 c, .int .i64 sm, .int .i64 mn, .int .i64 mx, .slice (some ⟨b1, o1, none⟩) 8 k1, .slice (some ⟨b2, o2, none⟩) 8 k2, .slice (some ⟨p, po, none⟩) 1 k3]) := by
 have nd := hO.nd
 refine drew_put hr hC hG hq (s := ⟨c, sm, mn, mx, l1, l2, [x]⟩) (F := [b1, b2, p, b3]) ⟨_, 8, k1, _, 8, k2, _, 1, k3, [b1], [b2], [p, b3], rfl, hO.hist.agree (.set (by simp; omega) _ _), hO.regs.agree (.set (by simp; omega) _ _), ⟨rfl, .inr ⟨p, po, [b3], by omega, rfl, rfl, ?_⟩⟩, rfl⟩ ⟨?_, ?_, ?_, ?_⟩ ?_
 ·
  show RdM _ [ints x] p po [b3]
  rw [RdM]
  exact ⟨_, [b3], [], cell_keep hO.c0 (by omega), rd_ints.2 ⟨_, _, _, rfl, hO.row0.agree (.set (by simp; omega) _ _)⟩, by simp [RdM], rfl⟩
 ·
  have := hO.hist.length; simp; omega
 ·
  have := hO.regs.length; simp; omega
 ·
  simp
 ·
  intro z hz
  have := hO.row0.length
  simp at hz
  subst hz
  omega
 ·
  have o := (hO.own.set g 6 v6).mono hlo
  exact ⟨by have := o.nodup; simp at this ⊢; omega, fun b hb => o.free b (by simp at hb ⊢; omega), fun b hb => o.ge b (by simp at hb ⊢; omega)⟩
/-- What an append of one number onto the first list leaves. -/
structure HistX (w W W6 : World) (b1 : Nat) (l1 : List Int) (gB cp : Nat) : Prop where
 own : W6.ownsRow (w.heap.size + 1) 3 1 (.slice (some ⟨gB, 0, none⟩) (8 + 1) cp) (8 + 1) (l1.map (Value.int .i64) ++ [.int .i64 0])
 grow : (W.alloc (.cells #[.int .i64 0] 3)).grownBy W6 (Value.slice (some ⟨b1, 0, none⟩) 8 0).ownBlock
 at_ : (Value.slice (some ⟨b1, 0, none⟩) 8 0).ownBlock = some gB ∨ gB = W.heap.size + 1
theorem HistX.keep {w W W6 : World} {b1 : Nat} {l1 : List Int} {gB cp : Nat} (h : HistX w W W6 b1 l1 gB cp) : ∀ b, b < W.heap.size → b ≠ b1 → W6.heap[b]? = W.heap[b]? := fun b hb hn =>
 (h.grow.block b (by simp; omega) (fun e => hn (by simp [Value.ownBlock] at e; exact e))).trans (Below.heap_alloc W _ b hb)
theorem HistX.which {w W W6 : World} {b1 : Nat} {l1 : List Int} {gB cp : Nat} (h : HistX w W W6 b1 l1 gB cp) : gB = b1 ∨ W.heap.size < gB := by
 rcases h.at_ with e | e
 ·
  left; simp [Value.ownBlock] at e; exact e.symm
 ·
  right; omega
section
variable {w W W6 ww : World} {q g : Nat} {c sm mn mx : Int} {b1 o1 k1 b2 o2 k2 p po k3 b3 o3 j0 b4 o4 j1 : Nat} {l1 l2 x y : List Int} {a : Option Addr} {len cap : Nat} {zs : List Int} {i h : Int} {gB cp : Nat}
theorem HistX.held (hX : HistX w W W6 b1 l1 gB cp) (hO : Out ww (w.heap.size + 1) g c sm mn mx b1 o1 k1 b2 o2 k2 p po k3 b3 o3 j0 b4 o4 j1 l1 l2 x y W) (H : Blk W w.heap.size #[.int .i64 0, .int .i64 0, .int .i64 0, .int .i64 0, .slice none 0 0, .slice none 0 0, .slice none 0 0] 34 ∧ Cur W q a len cap zs i h ∧ w.grownBy W (some q)) (hq : q < w.heap.size) (ha : ∀ b, (∃ off, a = some ⟨b, off, none⟩ ∧ 0 < len) → b < w.heap.size) : Blk W6 w.heap.size #[.int .i64 0, .int .i64 0, .int .i64 0, .int .i64 0, .slice none 0 0, .slice none 0 0, .slice none 0 0] 34 ∧ Cur W6 q a len cap zs i h ∧ w.grownBy W6 (some q) := by
 have ge := hO.ges
 have hs := H.2.2.size
 have hsz : W.heap.size ≤ W6.heap.size := by have := hX.grow.size; simp at this; omega
 refine ⟨H.1.agree (hX.keep _ H.1.lt (by omega)), cur_agree H.2.1 (World.block_lt_of_cell? _ _ H.2.1.c0) (hX.keep q (by omega) (by omega)) (fun b hb hx => hX.keep b hb (by have := ha b hx; omega)), ?_⟩
 exact ⟨hX.grow.os.trans H.2.2.os, hX.grow.tape.trans H.2.2.tape, hX.grow.output.trans H.2.2.output, by omega, fun b hb hn => (hX.keep b (by omega) (by omega)).trans (H.2.2.block b hb hn)⟩
theorem HistX.blk (hX : HistX w W W6 b1 l1 gB cp) (hO : Out ww (w.heap.size + 1) g c sm mn mx b1 o1 k1 b2 o2 k2 p po k3 b3 o3 j0 b4 o4 j1 l1 l2 x y W) : Blk W6 g #[.int .i64 c, .int .i64 sm, .int .i64 mn, .int .i64 mx, .slice (some ⟨b1, o1, none⟩) 8 k1, .slice (some ⟨b2, o2, none⟩) 8 k2, .slice (some ⟨p, po, none⟩) 2 k3] 34 :=
 hO.blk.agree (hX.keep g hO.blk.lt (by have := hO.nd; omega))
theorem drew_hist (hO : Out ww (w.heap.size + 1) g c sm mn mx b1 o1 k1 b2 o2 k2 p po k3 b3 o3 j0 b4 o4 j1 l1 l2 x y W) (hX : HistX w W W6 b1 l1 gB cp) {v6 : Value} (hr : Blk (W6.setCell ⟨g, 4, none⟩ v6) w.heap.size #[.int .i64 0, .int .i64 0, .int .i64 0, .int .i64 0, .slice none 0 0, .slice none 0 0, .slice none 0 0] 34) (hC : Cur (W6.setCell ⟨g, 4, none⟩ v6) q a len cap zs i h) (hG : w.grownBy (W6.setCell ⟨g, 4, none⟩ v6) (some q)) (hq : q < w.heap.size) :
 DrewFull w q a len cap zs (.returned (.agg #[.int .i64 c, .int .i64 sm, .int .i64 mn, .int .i64 mx, .slice (some ⟨gB, 0, none⟩) 9 cp, .slice (some ⟨b2, o2, none⟩) 8 k2, .slice (some ⟨p, po, none⟩) 2 k3])) ((W6.setCell ⟨g, 4, none⟩ v6).setRow w.heap.size #[.int .i64 c, .int .i64 sm, .int .i64 mn, .int .i64 mx, .slice (some ⟨gB, 0, none⟩) 9 cp, .slice (some ⟨b2, o2, none⟩) 8 k2, .slice (some ⟨p, po, none⟩) 2 k3]) := by
 have nd := hO.nd
 have e1 := hO.hist.lt b1 (by simp)
 have e2 := hO.regs.lt b2 (by simp)
 have e3 := hO.row0.lt b3 (by simp)
 have e4 := hO.row1.lt b4 (by simp)
 have e5 : p < W.heap.size := World.block_lt_of_cell? _ _ hO.c0
 have e6 := hO.blk.lt
 have wh := hX.which
 have ag : Agree W W6 [b2, p, b3, b4] := fun b hb => hX.keep b (by simp at hb; omega) (by simp at hb; omega)
 have hown : W6.ownsRow (w.heap.size + 1) 3 1 (.slice (some ⟨gB, 0, none⟩) 9 cp) 9 ((l1 ++ [0]).map (Value.int .i64)) := by rw [List.map_append]; exact hX.own
 obtain ⟨F, hR, hF, hFg⟩ := RdI.of_own hown
 obtain ⟨b', o', hb', rfl⟩ := hR.single (by omega)
 cases hb'
 have hgd : g ≠ gB := by omega
 refine drew_put hr hC hG hq (s := ⟨c, sm, mn, mx, l1 ++ [0], l2, [x, y]⟩) (F := [gB, b2, p, b3, b4]) ⟨_, 9, cp, _, 8, k2, _, 2, k3, [gB], [b2], [p, b3, b4], rfl, hR.agree (.set (by simp; omega) _ _), (hO.regs.agree (ag.mono (by simp))).agree (.set (by simp; omega) _ _), ⟨rfl, .inr ⟨p, po, [b3, b4], by omega, rfl, rfl, ?_⟩⟩, rfl⟩ ⟨?_, ?_, ?_, ?_⟩ ?_
 ·
  have bp := ag p (by simp)
  show RdM _ [ints x, ints y] p po [b3, b4]
  rw [RdM]
  refine ⟨_, [b3], [b4], cell_keep ((World.cell?_of_block (w := W) (a := ⟨p, po, none⟩) bp).trans hO.c0) (by omega), rd_ints.2 ⟨_, _, _, rfl, (hO.row0.agree (ag.mono (by simp))).agree (.set (by simp; omega) _ _)⟩, ?_, rfl⟩
  rw [RdM]
  exact ⟨_, [b4], [], cell_keep ((World.cell?_of_block (w := W) (a := ⟨p, po + 1, none⟩) bp).trans hO.c1) (by omega), rd_ints.2 ⟨_, _, _, rfl, (hO.row1.agree (ag.mono (by simp))).agree (.set (by simp; omega) _ _)⟩, by simp [RdM], rfl⟩
 ·
  have := hO.hist.length; simp; omega
 ·
  have := hO.regs.length; simp; omega
 ·
  simp
 ·
  intro z hz
  have := hO.row0.length
  have := hO.row1.length
  simp at hz
  rcases hz with rfl | rfl <;> omega
 ·
  have oG := hF.set g 4 v6
  have oR : Own (w.heap.size + 1) W6 [b2, p, b3, b4] := (⟨by have := hO.own.nodup; simp at this ⊢; omega, fun b hb => hO.own.free b (by simp at hb ⊢; omega), fun b hb => hO.own.ge b (by simp at hb ⊢; omega)⟩ : Own (w.heap.size + 1) W [b2, p, b3, b4]).agree ag
  exact oG.app (oR.set g 4 v6) (fun b hb => by simp at hb ⊢; omega)
end
set_option maxRecDepth 200000 in
set_option maxHeartbeats 8000000 in
theorem l3Draw_any (q : Nat) (a : Option Addr) (len cap : Nat) (zs : List Int) (i h : Int) (w : World) (C : Cur w q a len cap zs i h) (hlen : len ≤ 1048576) :
 Calls Try.prog 92 #[.pointer (some ⟨q, 0, none⟩)] w fun e w' => DrewFull w q a len cap zs e w' := by
 have HL : Hid (q < w.heap.size ∧ ∀ b, (∃ off, a = some ⟨b, off, none⟩ ∧ 0 < len) → b < w.heap.size) := ⟨World.block_lt_of_cell? _ _ C.c0, cur_lt C⟩
 have HT : Hid (Blk (w.alloc (.cells #[.int .i64 0, .int .i64 0, .int .i64 0, .int .i64 0, .slice none 0 0, .slice none 0 0, .slice none 0 0] 34)) w.heap.size #[.int .i64 0, .int .i64 0, .int .i64 0, .int .i64 0, .slice none 0 0, .slice none 0 0, .slice none 0 0] 34 ∧ Below w.heap.size w (w.alloc (.cells #[.int .i64 0, .int .i64 0, .int .i64 0, .int .i64 0, .slice none 0 0, .slice none 0 0, .slice none 0 0] 34))) := ⟨Blk.made _ _ _, (Below.refl _ _).alloc (Nat.le_refl _) _⟩
 have HC : Hid (Cur (w.alloc (.cells #[.int .i64 0, .int .i64 0, .int .i64 0, .int .i64 0, .slice none 0 0, .slice none 0 0, .slice none 0 0] 34)) q a len cap zs i h) := C.keep HT.out.2
 clear C
 go_enter Try.func92, Try.ntmps92
 go_wp2_with fail
 refine (l3Right_any q a len cap zs i h _ HC.out hlen).mono ?_
 rintro e w1 ⟨vv, s, X, i1, h1, rfl, rr, hs, oo, C1, g1⟩
 have hlo : w.heap.size + 1 ≤ w1.heap.size := by have := g1.size; simpa using this
 obtain ⟨es, rfl, e7, e1⟩ := rr.cells
 have HE : Hid (RdR w1 (.agg es) s X ∧ Own (w.heap.size + 1) w1 X ∧ es.size = 7 ∧ es.all (·.oneCell') = true ∧ s.shaped = true) := ⟨rr, by simpa using oo, e7, e1, hs⟩
 have HL1 : Hid (Blk w1 w.heap.size #[.int .i64 0, .int .i64 0, .int .i64 0, .int .i64 0, .slice none 0 0, .slice none 0 0, .slice none 0 0] 34 ∧ Cur w1 q a len cap zs i1 h1 ∧ w.grownBy w1 (some q)) := ⟨HT.out.1.grown g1 (by have := HL.out.1; omega), C1, grown_tr (grown_below q HT.out.2) g1⟩
 clear rr oo e7 e1 hs C1 g1 HT HC
 go_wp2_with (first | go_skip | (with_reducible refine stopLoad 34 rfl ?_) | (with_reducible refine stopStore 34 rfl ?_))
 refine store_fresh 34 w1.heap.size rfl #[.int .i64 0, .int .i64 0, .int .i64 0, .int .i64 0, .slice none 0 0, .slice none 0 0, .slice none 0 0] es 34 rfl rfl rfl rfl (skSize HE.out.2.2.1) HE.out.2.2.1.symm HE.out.2.2.2.1 ?_
 intro W3 hg3 hb3
 have hG3 := grown_tr HL1.out.2.2 (grown_below q hb3)
 obtain ⟨b1, o1, k1, b2, o2, k2, p, po, k3, b3, o3, j0, b4, o4, j1, l1, l2, x, y, hO⟩ := out_of (w := World.bare w) (lo := w.heap.size + 1) (HE.out.1.below hb3).sk hg3 (HE.out.2.1.below HE.out.1.lt hb3) hlo (fun hx => by have := HE.out.1.lt _ hx; omega) HE.out.2.2.2.2 (bare_below hG3) (by show 0 + 1 < w.heap.size + 1; have := HL.out.1; omega) (HE.out.1.below hb3).room
 have HO3 : Hid (Out (World.bare w) (w.heap.size + 1) w1.heap.size s.count s.sum s.min s.max b1 o1 k1 b2 o2 k2 p po k3 b3 o3 j0 b4 o4 j1 l1 l2 x y W3) := hO
 have HR3 : Hid (Blk W3 w.heap.size #[.int .i64 0, .int .i64 0, .int .i64 0, .int .i64 0, .slice none 0 0, .slice none 0 0, .slice none 0 0] 34 ∧ Cur W3 q a len cap zs i1 h1 ∧ w.grownBy W3 (some q)) := ⟨HL1.out.1.below hb3, HL1.out.2.1.keep hb3, hG3⟩
 clear hg3 hb3 hG3 hO HE HL1
 go_wp2_with fail
 refine (l1Below_any q a len cap zs i1 h1 16 _ HR3.out.2.1 hlen (by omega) (by omega)).mono ?_
 rintro e w4 ⟨d, i4, h4, rfl, d0, d1, C4, g4⟩
 have HO4 : Hid (Out (World.bare w) (w.heap.size + 1) w1.heap.size s.count s.sum s.min s.max b1 o1 k1 b2 o2 k2 p po k3 b3 o3 j0 b4 o4 j1 l1 l2 x y w4) := HO3.out.grown g4 (by have := HL.out.1; omega) (Nat.zero_le _)
 have HR4 : Hid (Blk w4 w.heap.size #[.int .i64 0, .int .i64 0, .int .i64 0, .int .i64 0, .slice none 0 0, .slice none 0 0, .slice none 0 0] 34 ∧ Cur w4 q a len cap zs i4 h4 ∧ w.grownBy w4 (some q)) := ⟨HR3.out.1.grown g4 (by have := HL.out.1; omega), C4, grown_tr HR3.out.2.2 g4⟩
 clear C4 g4 HO3 HR3
 by_cases q0 : d = 0
 ·
  subst q0
  go_wp2_with fail
  refine (pickInt_cur q w4.heap.size _ a len cap zs i4 h4 [-1, 1000001, 500] _ (HR4.out.2.1.keep ((Below.refl _ _).alloc (Nat.le_refl _) _)) hlen (fun j hj => lit_ints w4 [-1, 1000001, 500] 3 j hj) (by have := HR4.out.2.2.size; have := HL.out.1; omega) _ rfl (by simp) (by simp)).mono ?_
  rintro e w5 ⟨z, i5, h5, _, rfl, C5, g5⟩
  have gg := grown_tr (World.grownBy_alloc w4 _ (some q)) g5
  have HO5 : Hid (Out (World.bare w) (w.heap.size + 1) w1.heap.size s.count s.sum s.min s.max b1 o1 k1 b2 o2 k2 p po k3 b3 o3 j0 b4 o4 j1 l1 l2 x y w5) := HO4.out.grown gg (by have := HL.out.1; omega) (Nat.zero_le _)
  have HR5 : Hid (Blk w5 w.heap.size #[.int .i64 0, .int .i64 0, .int .i64 0, .int .i64 0, .slice none 0 0, .slice none 0 0, .slice none 0 0] 34 ∧ Cur w5 q a len cap zs i5 h5 ∧ w.grownBy w5 (some q)) := ⟨HR4.out.1.grown gg (by have := HL.out.1; omega), C5, grown_tr HR4.out.2.2 gg⟩
  have HOX : Hid _ := HO5.out.setMn z
  have HRX : Hid _ := held_set HR5.out HL.out.1 HL.out.2 w1.heap.size 2 (.int .i64 z) (by have := HO5.out.ges; omega)
  have f2 := HO5.out.blk.frozen 2
  have c2 := HO5.out.blk.cell 2
  simp only [aT, aS, aZ] at c2
  clear C5 g5 gg
  go_wp2_with (first | go_skip | (with_reducible refine stopLoad 34 rfl ?_) | (with_reducible refine stopStore 34 rfl ?_))
  refine load_any 34 w1.heap.size _ 34 _ HOX.out.blk rfl rfl rfl Try.underlying34 rfl (by kernel_rfl) ?_
  go_wp2_with (first | go_skip | (with_reducible refine stopLoad 34 rfl ?_) | (with_reducible refine stopStore 34 rfl ?_))
  refine store_known 34 w.heap.size _ _ 34 HRX.out.1 rfl rfl rfl rfl (by kernel_rfl) rfl (by kernel_rfl) ?_
  go_wp2
  refine bodyPost_ret (results_cell_row Try.results92 _ _ w.heap.size _ _ _ _ rfl HRX.out.1.setRow Try.underlying34 rfl (by kernel_rfl)) rfl ?_
  exact drew_full (drew_end HOX.out HRX.out.1 HRX.out.2.1 HRX.out.2.2 HL.out.1 (by omega))
 by_cases q1 : d = 1
 ·
  subst q1
  have HS4 : Hid (w4.drew.cell? ⟨w1.heap.size, 5, none⟩ = some (.slice (some ⟨b2, o2, none⟩) 8 k2)) := HO4.out.drew.blk.cell 5
  have HO4d : Hid (Out (World.bare w) (w.heap.size + 1) w1.heap.size s.count s.sum s.min s.max b1 o1 k1 b2 o2 k2 p po k3 b3 o3 j0 b4 o4 j1 l1 l2 x y w4.drew) := HO4.out.drew
  have HR4d : Hid (Blk w4.drew w.heap.size #[.int .i64 0, .int .i64 0, .int .i64 0, .int .i64 0, .slice none 0 0, .slice none 0 0, .slice none 0 0] 34 ∧ Cur w4.drew q a len cap zs i4 h4 ∧ w.grownBy w4.drew (some q)) := ⟨HR4.out.1.drew, HR4.out.2.1.keep (Below.refl _ _).drew, grown_tr HR4.out.2.2 (grown_below q (Below.refl _ _).drew)⟩
  go_wp2
  refine wp_region_held (S := (fun W => W.cell? ⟨w1.heap.size, 5, none⟩ = some (.slice (some ⟨b2, o2, none⟩) 8 k2))) (by kernel_rfl) ?_
  change wpAnyH _ _ _ _ _ _ _ _ (World.drew _)
  refine takeH (o := ?o1) 0 (.pointer (some ⟨w1.heap.size, 5, none⟩)) ?h1 ?r1
  case h1 => simp only [aT, aZ]; rfl
  refine ⟨_, by simp [Act.put]; rfl, by kernel_rfl, by kernel_rfl, by kernel_rfl, fun _ _ _ h => h, (.inl ⟨rfl, fun W _ => by go_simp⟩), HS4.out, ?_⟩
  refine takeH (o := ?o2) 1 (.slice (some ⟨b2, o2, none⟩) 8 k2) ?h2 ?r2
  case h2 => simp only [aT, aS, aZ]; rfl
  refine ⟨_, by simp [Act.put]; rfl, by kernel_rfl, by kernel_rfl, by kernel_rfl, fun _ _ _ h => h, (.inl ⟨rfl, fun W hW => by have c := hW; go_simp⟩), HS4.out, ?_⟩
  refine takeH (o := ?o3) 2 (.pointer (some ⟨q, 0, none⟩)) ?h3 ?r3
  case h3 => simp only [aT, aS, aZ]; rfl
  refine ⟨_, by simp [Act.put]; rfl, by kernel_rfl, by kernel_rfl, by kernel_rfl, fun _ _ _ h => h, (.inl ⟨rfl, fun W _ => by go_simp⟩), HS4.out, ?_⟩
  refine takeH (o := ?o4) 4 (.pointer (some ⟨q, 0, none⟩)) ?h4 ?r4
  case h4 => simp only [aT, aS, aZ]; rfl
  refine ⟨_, by simp [Act.put]; rfl, by kernel_rfl, by kernel_rfl, by kernel_rfl, fun _ _ _ h => h, (.inl ⟨rfl, fun W _ => by go_simp⟩), HS4.out, ?_⟩
  refine twoH (o := ?o5) (o' := ?p5) 3 5 (by kernel_rfl) ?h5 ?g5 ?r5 ?s5
  case h5 => simp only [aT, aS, aZ]; rfl
  case g5 => simp only [aT, aS, aZ]; rfl
  case r5 =>
   intro K hK
   refine op_call2' 61 _ _ _ Try.f61 (fun v w' => ∃ j i' h', v = .int .i64 j ∧ 0 ≤ j ∧ j < 8 ∧ Cur w' q a len cap zs i' h' ∧ w4.drew.grownBy w' (some q)) rfl rfl Try.func61 (by kernel_rfl) (by kernel_rfl) ((l1Below_any q a len cap zs i4 h4 8 w4.drew HR4d.out.2.1 hlen (by omega) (by omega)).mono (by rintro e w' ⟨z, i', h', rfl, z0, z1, C, g⟩; exact ⟨_, rfl, z, i', h', rfl, z0, z1, C, g⟩)) ?_
   rintro _ w5 ⟨z, i5, h5, rfl, z0, z1, C5, g5⟩
   obtain ⟨j, rfl⟩ := Int.eq_ofNat_of_zero_le z0
   have hj : j < 8 := by omega
   have HO5 : Hid (Out (World.bare w) (w.heap.size + 1) w1.heap.size s.count s.sum s.min s.max b1 o1 k1 b2 o2 k2 p po k3 b3 o3 j0 b4 o4 j1 l1 l2 x y w5) := HO4d.out.grown g5 (by have := HL.out.1; omega) (Nat.zero_le _)
   have HR5 : Hid (Blk w5 w.heap.size #[.int .i64 0, .int .i64 0, .int .i64 0, .int .i64 0, .slice none 0 0, .slice none 0 0, .slice none 0 0] 34 ∧ Cur w5 q a len cap zs i5 h5 ∧ w.grownBy w5 (some q)) := ⟨HR4d.out.1.grown g5 (by have := HL.out.1; omega), C5, grown_tr HR4d.out.2.2 g5⟩
   have HS5 : Hid (w5.cell? ⟨w1.heap.size, 5, none⟩ = some (.slice (some ⟨b2, o2, none⟩) 8 k2)) := HO5.out.blk.cell 5
   refine ⟨_, by simp [Act.put]; rfl, hK _ _ ⟨HS5.out, ?_⟩⟩
   clear hK C5 g5 z0 z1 HS4 HO4d HR4d
   refine onlyH (o := ?o6) 5 (by kernel_rfl) ?h6 ?r6
   case h6 => simp only [aT, aS, aZ]; rfl
   intro K hK
   refine op_turn (.slice (some ⟨w5.heap.size, 0, none⟩) 3 3) (w5.alloc (.cells ([-1, 17, 18].map (Value.int .i64)).toArray 3)) rfl (by go_simp) ⟨_, by simp [Act.put]; rfl, hK _ _ ⟨(HO5.out.blk.alloc _).cell 5, ?_⟩⟩
   obtain ⟨w6, hW⟩ : ∃ W, W = (w5.alloc (.cells ([-1, 17, 18].map (Value.int .i64)).toArray 3)) := ⟨_, rfl⟩
   rw [← hW]
   have hbw : Below w5.heap.size w5 w6 := by rw [hW]; exact (Below.refl _ _).alloc (Nat.le_refl _) _
   have HLIT : Hid (∀ j, j < ([-1, 17, 18] : List Int).length → w6.cell? ⟨w5.heap.size, j, none⟩ = some (.int .i64 (([-1, 17, 18] : List Int).getD j 0))) := fun j hj => by rw [hW]; exact lit_ints w5 [-1, 17, 18] 3 j hj
   have HO6 : Hid (Out (World.bare w) (w.heap.size + 1) w1.heap.size s.count s.sum s.min s.max b1 o1 k1 b2 o2 k2 p po k3 b3 o3 j0 b4 o4 j1 l1 l2 x y w6) := HO5.out.below hbw
   have HR6 : Hid (Blk w6 w.heap.size #[.int .i64 0, .int .i64 0, .int .i64 0, .int .i64 0, .slice none 0 0, .slice none 0 0, .slice none 0 0] 34 ∧ Cur w6 q a len cap zs i5 h5 ∧ w.grownBy w6 (some q)) := ⟨HR5.out.1.below hbw, HR5.out.2.1.keep hbw, grown_tr HR5.out.2.2 (grown_below q hbw)⟩
   have HS6 : Hid (w6.cell? ⟨w1.heap.size, 5, none⟩ = some (.slice (some ⟨b2, o2, none⟩) 8 k2)) := HO6.out.blk.cell 5
   clear hK hW hbw
   refine onlyH (o := ?o7) 6 (by kernel_rfl) ?h7 ?r7
   case h7 => simp only [aT, aS, aZ]; rfl
   intro K hK
   have hs5 := HR5.out.2.2.size
   refine op_call2' 74 _ _ _ Try.f74 (fun v w' => ∃ y i' h', v = .int .i64 y ∧ Cur w' q a len cap zs i' h' ∧ w6.grownBy w' (some q)) rfl rfl Try.func74 (by kernel_rfl) (by kernel_rfl) ((pickInt_cur q w5.heap.size _ a len cap zs i5 h5 [-1, 17, 18] w6 HR6.out.2.1 hlen HLIT.out (by have := HL.out.1; have := HR4.out.2.2.size; have := hs5; omega) _ rfl (by simp) (by simp)).mono (by rintro e w' ⟨y, i', h', _, rfl, C, g⟩; exact ⟨_, rfl, y, i', h', rfl, C, g⟩)) ?_
   rintro _ w7 ⟨vy, i7, h7, rfl, C7, g7⟩
   have HO7 : Hid (Out (World.bare w) (w.heap.size + 1) w1.heap.size s.count s.sum s.min s.max b1 o1 k1 b2 o2 k2 p po k3 b3 o3 j0 b4 o4 j1 l1 l2 x y w7) := HO6.out.grown g7 (by have := HL.out.1; omega) (Nat.zero_le _)
   have HR7 : Hid (Blk w7 w.heap.size #[.int .i64 0, .int .i64 0, .int .i64 0, .int .i64 0, .slice none 0 0, .slice none 0 0, .slice none 0 0] 34 ∧ Cur w7 q a len cap zs i7 h7 ∧ w.grownBy w7 (some q)) := ⟨HR6.out.1.grown g7 (by have := HL.out.1; omega), C7, grown_tr HR6.out.2.2 g7⟩
   have HS7 : Hid (w7.cell? ⟨w1.heap.size, 5, none⟩ = some (.slice (some ⟨b2, o2, none⟩) 8 k2)) := HO7.out.blk.cell 5
   refine ⟨_, by simp [Act.put]; rfl, hK _ _ ⟨HS7.out, ?_⟩⟩
   clear hK C7 g7 HS6 HO6 HR6 HS5 HO5 HR5 HLIT HO4 HR4
   refine takeH (o := ?o8) 7 (.pointer (some ⟨b2, o2 + j, none⟩)) ?h8 ?r8
   case h8 => simp only [aT, aS, aZ]; rfl
   refine ⟨_, by simp [Act.put]; rfl, by kernel_rfl, by kernel_rfl, by kernel_rfl, fun _ _ _ h => h, (.inl ⟨rfl, fun W _ => by go_simp; intro h; omega⟩), HS7.out, ?_⟩
   refine onlyH (o := ?o9) 8 (by kernel_rfl) ?h9 ?r9
   case h9 => simp only [aT, aS, aZ]; rfl
   intro K hK
   have fE := HO7.out.own.free b2 (by simp) (o2 + j)
   have cE := HO7.out.regs.at j hj
   have HOX : Hid _ := HO7.out.setRegs j hj vy
   have HRX : Hid _ := held_set HR7.out HL.out.1 HL.out.2 b2 (o2 + j) (.int .i64 vy) (by have := HO7.out.ges; omega)
   refine op_skip (w7.setCell ⟨b2, o2 + j, none⟩ (.int .i64 vy)) rfl (by go_simp) ⟨_, by simp [Act.put]; rfl, hK _ _ ⟨HOX.out.blk.cell 5, ?_⟩⟩
   clear hK
   refine wpAnyH_done (by kernel_rfl) ?_ _
   clear HO7 HR7 HS7
   go_wp2_with (first | go_skip | (with_reducible refine stopLoad 34 rfl ?_) | (with_reducible refine stopStore 34 rfl ?_))
   refine load_any 34 w1.heap.size _ 34 _ HOX.out.blk rfl rfl rfl Try.underlying34 rfl (by kernel_rfl) ?_
   go_wp2_with (first | go_skip | (with_reducible refine stopLoad 34 rfl ?_) | (with_reducible refine stopStore 34 rfl ?_))
   refine store_known 34 w.heap.size _ _ 34 HRX.out.1 rfl rfl rfl rfl (by kernel_rfl) rfl (by kernel_rfl) ?_
   go_wp2
   refine bodyPost_ret (results_cell_row Try.results92 _ _ w.heap.size _ _ _ _ rfl HRX.out.1.setRow Try.underlying34 rfl (by kernel_rfl)) rfl ?_
   exact drew_full (drew_end HOX.out HRX.out.1 HRX.out.2.1 HRX.out.2.2 HL.out.1 (by omega))
  case s5 =>
   intro K hK
   refine op_turn (.slice (some ⟨w4.drew.heap.size, 0, none⟩) 3 3) (w4.drew.alloc (.cells ([-1, 17, 18].map (Value.int .i64)).toArray 3)) rfl (by go_simp) ⟨_, by simp [Act.put]; rfl, hK _ _ ⟨(HO4d.out.blk.alloc _).cell 5, ?_⟩⟩
   obtain ⟨w6, hW⟩ : ∃ W, W = (w4.drew.alloc (.cells ([-1, 17, 18].map (Value.int .i64)).toArray 3)) := ⟨_, rfl⟩
   rw [← hW]
   have hbw : Below w4.drew.heap.size w4.drew w6 := by rw [hW]; exact (Below.refl _ _).alloc (Nat.le_refl _) _
   have HLIT : Hid (∀ j, j < ([-1, 17, 18] : List Int).length → w6.cell? ⟨w4.drew.heap.size, j, none⟩ = some (.int .i64 (([-1, 17, 18] : List Int).getD j 0))) := fun j hj => by rw [hW]; exact lit_ints w4.drew [-1, 17, 18] 3 j hj
   have HO6 : Hid (Out (World.bare w) (w.heap.size + 1) w1.heap.size s.count s.sum s.min s.max b1 o1 k1 b2 o2 k2 p po k3 b3 o3 j0 b4 o4 j1 l1 l2 x y w6) := HO4d.out.below hbw
   have HR6 : Hid (Blk w6 w.heap.size #[.int .i64 0, .int .i64 0, .int .i64 0, .int .i64 0, .slice none 0 0, .slice none 0 0, .slice none 0 0] 34 ∧ Cur w6 q a len cap zs i4 h4 ∧ w.grownBy w6 (some q)) := ⟨HR4d.out.1.below hbw, HR4d.out.2.1.keep hbw, grown_tr HR4d.out.2.2 (grown_below q hbw)⟩
   have HS6 : Hid (w6.cell? ⟨w1.heap.size, 5, none⟩ = some (.slice (some ⟨b2, o2, none⟩) 8 k2)) := HO6.out.blk.cell 5
   have hd : w4.drew.heap.size = w4.heap.size := rfl
   clear hK hW HS4 HO4d HR4d
   refine onlyH (o := ?o10) 3 (by kernel_rfl) ?h10 ?r10
   case h10 => simp only [aT, aS, aZ]; rfl
   intro K hK
   refine op_call2' 61 _ _ _ Try.f61 (fun v w' => ∃ j i' h', v = .int .i64 j ∧ 0 ≤ j ∧ j < 8 ∧ Cur w' q a len cap zs i' h' ∧ w6.grownBy w' (some q)) rfl rfl Try.func61 (by kernel_rfl) (by kernel_rfl) ((l1Below_any q a len cap zs i4 h4 8 w6 HR6.out.2.1 hlen (by omega) (by omega)).mono (by rintro e w' ⟨z, i', h', rfl, z0, z1, C, g⟩; exact ⟨_, rfl, z, i', h', rfl, z0, z1, C, g⟩)) ?_
   rintro _ w5 ⟨z, i5, h5, rfl, z0, z1, C5, g5⟩
   obtain ⟨j, rfl⟩ := Int.eq_ofNat_of_zero_le z0
   have hj : j < 8 := by omega
   have HO5 : Hid (Out (World.bare w) (w.heap.size + 1) w1.heap.size s.count s.sum s.min s.max b1 o1 k1 b2 o2 k2 p po k3 b3 o3 j0 b4 o4 j1 l1 l2 x y w5) := HO6.out.grown g5 (by have := HL.out.1; omega) (Nat.zero_le _)
   have HR5 : Hid (Blk w5 w.heap.size #[.int .i64 0, .int .i64 0, .int .i64 0, .int .i64 0, .slice none 0 0, .slice none 0 0, .slice none 0 0] 34 ∧ Cur w5 q a len cap zs i5 h5 ∧ w.grownBy w5 (some q)) := ⟨HR6.out.1.grown g5 (by have := HL.out.1; omega), C5, grown_tr HR6.out.2.2 g5⟩
   have HS5 : Hid (w5.cell? ⟨w1.heap.size, 5, none⟩ = some (.slice (some ⟨b2, o2, none⟩) 8 k2)) := HO5.out.blk.cell 5
   have HLIT5 : Hid (∀ j, j < ([-1, 17, 18] : List Int).length → w5.cell? ⟨w4.drew.heap.size, j, none⟩ = some (.int .i64 (([-1, 17, 18] : List Int).getD j 0))) := fun j hj => (World.cell?_of_block (g5.block w4.drew.heap.size (World.block_lt_of_cell? _ _ (HLIT.out j hj)) (fun e => by have := HR4.out.2.2.size; have := HL.out.1; simp at e; omega))).trans (HLIT.out j hj)
   refine ⟨_, by simp [Act.put]; rfl, hK _ _ ⟨HS5.out, ?_⟩⟩
   clear hK C5 g5 z0 z1 hbw
   refine onlyH (o := ?o11) 6 (by kernel_rfl) ?h11 ?r11
   case h11 => simp only [aT, aS, aZ]; rfl
   intro K hK
   refine op_call2' 74 _ _ _ Try.f74 (fun v w' => ∃ y i' h', v = .int .i64 y ∧ Cur w' q a len cap zs i' h' ∧ w5.grownBy w' (some q)) rfl rfl Try.func74 (by kernel_rfl) (by kernel_rfl) ((pickInt_cur q w4.drew.heap.size _ a len cap zs i5 h5 [-1, 17, 18] w5 HR5.out.2.1 hlen HLIT5.out (by have := HL.out.1; have := HR4.out.2.2.size; omega) _ rfl (by simp) (by simp)).mono (by rintro e w' ⟨y, i', h', _, rfl, C, g⟩; exact ⟨_, rfl, y, i', h', rfl, C, g⟩)) ?_
   rintro _ w7 ⟨vy, i7, h7, rfl, C7, g7⟩
   have HO7 : Hid (Out (World.bare w) (w.heap.size + 1) w1.heap.size s.count s.sum s.min s.max b1 o1 k1 b2 o2 k2 p po k3 b3 o3 j0 b4 o4 j1 l1 l2 x y w7) := HO5.out.grown g7 (by have := HL.out.1; omega) (Nat.zero_le _)
   have HR7 : Hid (Blk w7 w.heap.size #[.int .i64 0, .int .i64 0, .int .i64 0, .int .i64 0, .slice none 0 0, .slice none 0 0, .slice none 0 0] 34 ∧ Cur w7 q a len cap zs i7 h7 ∧ w.grownBy w7 (some q)) := ⟨HR5.out.1.grown g7 (by have := HL.out.1; omega), C7, grown_tr HR5.out.2.2 g7⟩
   have HS7 : Hid (w7.cell? ⟨w1.heap.size, 5, none⟩ = some (.slice (some ⟨b2, o2, none⟩) 8 k2)) := HO7.out.blk.cell 5
   refine ⟨_, by simp [Act.put]; rfl, hK _ _ ⟨HS7.out, ?_⟩⟩
   clear hK C7 g7 HS6 HO6 HR6 HS5 HO5 HR5 HLIT HLIT5 HO4 HR4 hd
   refine takeH (o := ?o12) 7 (.pointer (some ⟨b2, o2 + j, none⟩)) ?h12 ?r12
   case h12 => simp only [aT, aS, aZ]; rfl
   refine ⟨_, by simp [Act.put]; rfl, by kernel_rfl, by kernel_rfl, by kernel_rfl, fun _ _ _ h => h, (.inl ⟨rfl, fun W _ => by go_simp; intro h; omega⟩), HS7.out, ?_⟩
   refine onlyH (o := ?o13) 8 (by kernel_rfl) ?h13 ?r13
   case h13 => simp only [aT, aS, aZ]; rfl
   intro K hK
   have fE := HO7.out.own.free b2 (by simp) (o2 + j)
   have cE := HO7.out.regs.at j hj
   have HOX : Hid _ := HO7.out.setRegs j hj vy
   have HRX : Hid _ := held_set HR7.out HL.out.1 HL.out.2 b2 (o2 + j) (.int .i64 vy) (by have := HO7.out.ges; omega)
   refine op_skip (w7.setCell ⟨b2, o2 + j, none⟩ (.int .i64 vy)) rfl (by go_simp) ⟨_, by simp [Act.put]; rfl, hK _ _ ⟨HOX.out.blk.cell 5, ?_⟩⟩
   clear hK
   refine wpAnyH_done (by kernel_rfl) ?_ _
   clear HO7 HR7 HS7
   go_wp2_with (first | go_skip | (with_reducible refine stopLoad 34 rfl ?_) | (with_reducible refine stopStore 34 rfl ?_))
   refine load_any 34 w1.heap.size _ 34 _ HOX.out.blk rfl rfl rfl Try.underlying34 rfl (by kernel_rfl) ?_
   go_wp2_with (first | go_skip | (with_reducible refine stopLoad 34 rfl ?_) | (with_reducible refine stopStore 34 rfl ?_))
   refine store_known 34 w.heap.size _ _ 34 HRX.out.1 rfl rfl rfl rfl (by kernel_rfl) rfl (by kernel_rfl) ?_
   go_wp2
   refine bodyPost_ret (results_cell_row Try.results92 _ _ w.heap.size _ _ _ _ rfl HRX.out.1.setRow Try.underlying34 rfl (by kernel_rfl)) rfl ?_
   exact drew_full (drew_end HOX.out HRX.out.1 HRX.out.2.1 HRX.out.2.2 HL.out.1 (by omega))
 by_cases q2 : d = 2
 ·
  subst q2
  have c4 := HO4.out.blk.cell 4
  have f4 := HO4.out.blk.frozen 4
  simp only [aT, aS, aZ] at c4
  have hsz := HR4.out.2.2.size
  have hb1 := HO4.out.ges
  have HW : Hid (w4.ownsRow (w.heap.size + 1) 3 1 (.slice (some ⟨b1, o1, none⟩) 8 k1) 8 (l1.map (Value.int .i64))) := HO4.out.room.to_own HO4.out.hist hb1.2.1
  obtain ⟨t0, hi, hz0, hz1, hz2⟩ := info_parts infoInt
  have hs4 : (w4.alloc (.cells #[.int .i64 0] 3)).heap.size = w4.heap.size + 1 := by simp
  go_wp2_with (at_builtin; (refine wpList_append_lies _ rfl _ _ 29 rfl (w.heap.size + 1) 3 t0 (.int .i64 0) 1 8 Try.underlying29 hi hz0 hz1 hz2 rfl (by decide) _ 8 (l1.map (Value.int .i64)) rfl (HW.out.alloc _) ⟨w4.heap.size, 0, none⟩ 1 1 [.int .i64 0] rfl rfl (cell_new1 _ _ _) (by intro u hu; simp at hu; subst hu; rfl) (by decide) (by unfold maxLen; omega) (by omega) (by have := HO4.out.blk.lt; simp; omega) (w4.heap.size + 1) hs4 ?_))
  intro gB cp w6 hown hgrow hat hltB
  have HX : Hid (HistX w w4 w6 b1 l1 gB cp) := ⟨hown, hgrow, hat⟩
  clear hown hgrow hat hs4
  have HR6 : Hid (Blk w6 w.heap.size #[.int .i64 0, .int .i64 0, .int .i64 0, .int .i64 0, .slice none 0 0, .slice none 0 0, .slice none 0 0] 34 ∧ Cur w6 q a len cap zs i4 h4 ∧ w.grownBy w6 (some q)) := HX.out.held HO4.out HR4.out HL.out.1 HL.out.2
  have HRX : Hid _ := held_set HR6.out HL.out.1 HL.out.2 w1.heap.size 4 (.slice (some ⟨gB, 0, none⟩) 9 cp) (by have := HO4.out.ges; omega)
  have HB6 : Hid (Blk w6 w1.heap.size #[.int .i64 s.count, .int .i64 s.sum, .int .i64 s.min, .int .i64 s.max, .slice (some ⟨b1, o1, none⟩) 8 k1, .slice (some ⟨b2, o2, none⟩) 8 k2, .slice (some ⟨p, po, none⟩) 2 k3] 34) := HX.out.blk HO4.out
  have HBX : Hid _ := HB6.out.set 4 (.slice (some ⟨gB, 0, none⟩) 9 cp)
  have c4 := HB6.out.cell 4
  have f4 := HB6.out.frozen 4
  simp only [aT, aS, aZ] at c4
  go_wp2_with (first | go_skip | (with_reducible refine stopLoad 34 rfl ?_) | (with_reducible refine stopStore 34 rfl ?_))
  refine load_any 34 w1.heap.size _ 34 _ HBX.out rfl rfl rfl Try.underlying34 rfl (by kernel_rfl) ?_
  go_wp2_with (first | go_skip | (with_reducible refine stopLoad 34 rfl ?_) | (with_reducible refine stopStore 34 rfl ?_))
  refine store_known 34 w.heap.size _ _ 34 HRX.out.1 rfl rfl rfl rfl (by kernel_rfl) rfl (by kernel_rfl) ?_
  go_wp2
  refine bodyPost_ret (results_cell_row Try.results92 _ _ w.heap.size _ _ _ _ rfl HRX.out.1.setRow Try.underlying34 rfl (by kernel_rfl)) rfl ?_
  exact drew_hist HO4.out HX.out HRX.out.1 HRX.out.2.1 HRX.out.2.2 HL.out.1
 by_cases q3 : d = 3
 ·
  subst q3
  have c6 := HO4.out.blk.cell 6
  have f6 := HO4.out.blk.frozen 6
  have hk3 := HO4.out.wide
  simp only [aT, aS, aZ] at c6
  have HRX : Hid _ := held_set HR4.out HL.out.1 HL.out.2 w1.heap.size 6 (.slice (some ⟨p, po, none⟩) 1 k3) (by have := HO4.out.ges; omega)
  have HBX : Hid _ := HO4.out.blk.set 6 (.slice (some ⟨p, po, none⟩) 1 k3)
  go_wp2_with (first | go_skip | (with_reducible refine stopLoad 34 rfl ?_) | (with_reducible refine stopStore 34 rfl ?_))
  refine load_any 34 w1.heap.size _ 34 _ HBX.out rfl rfl rfl Try.underlying34 rfl (by kernel_rfl) ?_
  go_wp2_with (first | go_skip | (with_reducible refine stopLoad 34 rfl ?_) | (with_reducible refine stopStore 34 rfl ?_))
  refine store_known 34 w.heap.size _ _ 34 HRX.out.1 rfl rfl rfl rfl (by kernel_rfl) rfl (by kernel_rfl) ?_
  go_wp2
  refine bodyPost_ret (results_cell_row Try.results92 _ _ w.heap.size _ _ _ _ rfl HRX.out.1.setRow Try.underlying34 rfl (by kernel_rfl)) rfl ?_
  exact drew_row HO4.out HRX.out.1 HRX.out.2.1 HRX.out.2.2 HL.out.1 (by omega)
 by_cases q4 : d = 4
 ·
  subst q4
  go_wp2_with fail
  refine (pickInt_cur q w4.heap.size _ a len cap zs i4 h4 [0, -1, 1000000001] _ (HR4.out.2.1.keep ((Below.refl _ _).alloc (Nat.le_refl _) _)) hlen (fun j hj => lit_ints w4 [0, -1, 1000000001] 3 j hj) (by have := HR4.out.2.2.size; have := HL.out.1; omega) _ rfl (by simp) (by simp)).mono ?_
  rintro e w5 ⟨z, i5, h5, _, rfl, C5, g5⟩
  have gg := grown_tr (World.grownBy_alloc w4 _ (some q)) g5
  have HO5 : Hid (Out (World.bare w) (w.heap.size + 1) w1.heap.size s.count s.sum s.min s.max b1 o1 k1 b2 o2 k2 p po k3 b3 o3 j0 b4 o4 j1 l1 l2 x y w5) := HO4.out.grown gg (by have := HL.out.1; omega) (Nat.zero_le _)
  have HR5 : Hid (Blk w5 w.heap.size #[.int .i64 0, .int .i64 0, .int .i64 0, .int .i64 0, .slice none 0 0, .slice none 0 0, .slice none 0 0] 34 ∧ Cur w5 q a len cap zs i5 h5 ∧ w.grownBy w5 (some q)) := ⟨HR4.out.1.grown gg (by have := HL.out.1; omega), C5, grown_tr HR4.out.2.2 gg⟩
  have HOX : Hid _ := HO5.out.setC z
  have HRX : Hid _ := held_set HR5.out HL.out.1 HL.out.2 w1.heap.size 0 (.int .i64 z) (by have := HO5.out.ges; omega)
  have f2 := HO5.out.blk.frozen 0
  have c2 := HO5.out.blk.cell 0
  simp only [aT, aZ] at c2
  clear C5 g5 gg
  go_wp2_with (first | go_skip | (with_reducible refine stopLoad 34 rfl ?_) | (with_reducible refine stopStore 34 rfl ?_))
  refine load_any 34 w1.heap.size _ 34 _ HOX.out.blk rfl rfl rfl Try.underlying34 rfl (by kernel_rfl) ?_
  go_wp2_with (first | go_skip | (with_reducible refine stopLoad 34 rfl ?_) | (with_reducible refine stopStore 34 rfl ?_))
  refine store_known 34 w.heap.size _ _ 34 HRX.out.1 rfl rfl rfl rfl (by kernel_rfl) rfl (by kernel_rfl) ?_
  go_wp2
  refine bodyPost_ret (results_cell_row Try.results92 _ _ w.heap.size _ _ _ _ rfl HRX.out.1.setRow Try.underlying34 rfl (by kernel_rfl)) rfl ?_
  exact drew_full (drew_end HOX.out HRX.out.1 HRX.out.2.1 HRX.out.2.2 HL.out.1 (by omega))
 by_cases q5 : d = 5
 ·
  subst q5
  have HS4 : Hid (w4.drew.cell? ⟨w1.heap.size, 6, none⟩ = some (.slice (some ⟨p, po, none⟩) 2 k3) ∧ w4.drew.cell? ⟨p, po + 1, none⟩ = some (.slice (some ⟨b4, o4, none⟩) 4 j1)) := ⟨HO4.out.drew.blk.cell 6, HO4.out.drew.c1⟩
  have HO4d : Hid (Out (World.bare w) (w.heap.size + 1) w1.heap.size s.count s.sum s.min s.max b1 o1 k1 b2 o2 k2 p po k3 b3 o3 j0 b4 o4 j1 l1 l2 x y w4.drew) := HO4.out.drew
  have HR4d : Hid (Blk w4.drew w.heap.size #[.int .i64 0, .int .i64 0, .int .i64 0, .int .i64 0, .slice none 0 0, .slice none 0 0, .slice none 0 0] 34 ∧ Cur w4.drew q a len cap zs i4 h4 ∧ w.grownBy w4.drew (some q)) := ⟨HR4.out.1.drew, HR4.out.2.1.keep (Below.refl _ _).drew, grown_tr HR4.out.2.2 (grown_below q (Below.refl _ _).drew)⟩
  go_wp2
  refine wp_region_held (S := (fun W => W.cell? ⟨w1.heap.size, 6, none⟩ = some (.slice (some ⟨p, po, none⟩) 2 k3) ∧ W.cell? ⟨p, po + 1, none⟩ = some (.slice (some ⟨b4, o4, none⟩) 4 j1))) (by kernel_rfl) ?_
  change wpAnyH _ _ _ _ _ _ _ _ (World.drew _)
  refine takeH (o := ?o14) 0 (.pointer (some ⟨w1.heap.size, 6, none⟩)) ?h14 ?r14
  case h14 => simp only [aT, aZ]; rfl
  refine ⟨_, by simp [Act.put]; rfl, by kernel_rfl, by kernel_rfl, by kernel_rfl, fun _ _ _ h => h, (.inl ⟨rfl, fun W _ => by go_simp⟩), HS4.out, ?_⟩
  refine takeH (o := ?o15) 1 (.slice (some ⟨p, po, none⟩) 2 k3) ?h15 ?r15
  case h15 => simp only [aT, aS, aZ]; rfl
  refine ⟨_, by simp [Act.put]; rfl, by kernel_rfl, by kernel_rfl, by kernel_rfl, fun _ _ _ h => h, (.inl ⟨rfl, fun W hW => by have c := hW.1; go_simp⟩), HS4.out, ?_⟩
  refine takeH (o := ?o16) 2 (.pointer (some ⟨p, po + 1, none⟩)) ?h16 ?r16
  case h16 => simp only [aT, aS, aZ]; rfl
  refine ⟨_, by simp [Act.put]; rfl, by kernel_rfl, by kernel_rfl, by kernel_rfl, fun _ _ _ h => h, (.inl ⟨rfl, fun W _ => by go_simp⟩), HS4.out, ?_⟩
  refine takeH (o := ?o17) 3 (.slice (some ⟨b4, o4, none⟩) 4 j1) ?h17 ?r17
  case h17 => simp only [aT, aS, aZ]; rfl
  refine ⟨_, by simp [Act.put]; rfl, by kernel_rfl, by kernel_rfl, by kernel_rfl, fun _ _ _ h => h, (.inl ⟨rfl, fun W hW => by have c := hW.2; go_simp⟩), HS4.out, ?_⟩
  refine takeH (o := ?o18) 4 (.pointer (some ⟨q, 0, none⟩)) ?h18 ?r18
  case h18 => simp only [aT, aS, aZ]; rfl
  refine ⟨_, by simp [Act.put]; rfl, by kernel_rfl, by kernel_rfl, by kernel_rfl, fun _ _ _ h => h, (.inl ⟨rfl, fun W _ => by go_simp⟩), HS4.out, ?_⟩
  refine onlyH (o := ?o19) 5 (by kernel_rfl) ?h19 ?r19
  case h19 => simp only [aT, aS, aZ]; rfl
  intro K hK
  refine op_turn (.slice (some ⟨w4.drew.heap.size, 0, none⟩) 3 3) (w4.drew.alloc (.cells ([-1, 3, 1000000001].map (Value.int .i64)).toArray 3)) rfl (by go_simp) ⟨_, by simp [Act.put]; rfl, hK _ _ ⟨(HO4d.out.blk.alloc _).cell 6 |> fun e => ⟨e, cell_al HO4d.out.c1 _⟩, ?_⟩⟩
  obtain ⟨w6, hW⟩ : ∃ W, W = (w4.drew.alloc (.cells ([-1, 3, 1000000001].map (Value.int .i64)).toArray 3)) := ⟨_, rfl⟩
  rw [← hW]
  have hbw : Below w4.drew.heap.size w4.drew w6 := by rw [hW]; exact (Below.refl _ _).alloc (Nat.le_refl _) _
  have HLIT : Hid (∀ j, j < ([-1, 3, 1000000001] : List Int).length → w6.cell? ⟨w4.drew.heap.size, j, none⟩ = some (.int .i64 (([-1, 3, 1000000001] : List Int).getD j 0))) := fun j hj => by rw [hW]; exact lit_ints w4.drew [-1, 3, 1000000001] 3 j hj
  have HO6 : Hid (Out (World.bare w) (w.heap.size + 1) w1.heap.size s.count s.sum s.min s.max b1 o1 k1 b2 o2 k2 p po k3 b3 o3 j0 b4 o4 j1 l1 l2 x y w6) := HO4d.out.below hbw
  have HR6 : Hid (Blk w6 w.heap.size #[.int .i64 0, .int .i64 0, .int .i64 0, .int .i64 0, .slice none 0 0, .slice none 0 0, .slice none 0 0] 34 ∧ Cur w6 q a len cap zs i4 h4 ∧ w.grownBy w6 (some q)) := ⟨HR4d.out.1.below hbw, HR4d.out.2.1.keep hbw, grown_tr HR4d.out.2.2 (grown_below q hbw)⟩
  have HS6 : Hid (w6.cell? ⟨w1.heap.size, 6, none⟩ = some (.slice (some ⟨p, po, none⟩) 2 k3) ∧ w6.cell? ⟨p, po + 1, none⟩ = some (.slice (some ⟨b4, o4, none⟩) 4 j1)) := ⟨HO6.out.blk.cell 6, HO6.out.c1⟩
  have hd : w4.drew.heap.size = w4.heap.size := rfl
  clear hK hW hbw HS4 HO4d HR4d
  refine onlyH (o := ?o20) 6 (by kernel_rfl) ?h20 ?r20
  case h20 => simp only [aT, aS, aZ]; rfl
  intro K hK
  refine op_call2' 74 _ _ _ Try.f74 (fun v w' => ∃ y i' h', v = .int .i64 y ∧ Cur w' q a len cap zs i' h' ∧ w6.grownBy w' (some q)) rfl rfl Try.func74 (by kernel_rfl) (by kernel_rfl) ((pickInt_cur q w4.drew.heap.size _ a len cap zs i4 h4 [-1, 3, 1000000001] w6 HR6.out.2.1 hlen HLIT.out (by have := HL.out.1; have := HR4.out.2.2.size; omega) _ rfl (by simp) (by simp)).mono (by rintro e w' ⟨y, i', h', _, rfl, C, g⟩; exact ⟨_, rfl, y, i', h', rfl, C, g⟩)) ?_
  rintro _ w7 ⟨vy, i7, h7, rfl, C7, g7⟩
  have HO7 : Hid (Out (World.bare w) (w.heap.size + 1) w1.heap.size s.count s.sum s.min s.max b1 o1 k1 b2 o2 k2 p po k3 b3 o3 j0 b4 o4 j1 l1 l2 x y w7) := HO6.out.grown g7 (by have := HL.out.1; omega) (Nat.zero_le _)
  have HR7 : Hid (Blk w7 w.heap.size #[.int .i64 0, .int .i64 0, .int .i64 0, .int .i64 0, .slice none 0 0, .slice none 0 0, .slice none 0 0] 34 ∧ Cur w7 q a len cap zs i7 h7 ∧ w.grownBy w7 (some q)) := ⟨HR6.out.1.grown g7 (by have := HL.out.1; omega), C7, grown_tr HR6.out.2.2 g7⟩
  have HS7 : Hid (w7.cell? ⟨w1.heap.size, 6, none⟩ = some (.slice (some ⟨p, po, none⟩) 2 k3) ∧ w7.cell? ⟨p, po + 1, none⟩ = some (.slice (some ⟨b4, o4, none⟩) 4 j1)) := ⟨HO7.out.blk.cell 6, HO7.out.c1⟩
  refine ⟨_, by simp [Act.put]; rfl, hK _ _ ⟨HS7.out, ?_⟩⟩
  clear hK C7 g7 HS6 HO6 HR6 HLIT HO4 HR4 hd
  refine takeH (o := ?o21) 7 (.pointer (some ⟨b4, o4 + 2, none⟩)) ?h21 ?r21
  case h21 => simp only [aT, aS, aZ]; rfl
  refine ⟨_, by simp [Act.put]; rfl, by kernel_rfl, by kernel_rfl, by kernel_rfl, fun _ _ _ h => h, (.inl ⟨rfl, fun W _ => by go_simp⟩), HS7.out, ?_⟩
  refine onlyH (o := ?o22) 8 (by kernel_rfl) ?h22 ?r22
  case h22 => simp only [aT, aS, aZ]; rfl
  intro K hK
  have fE := HO7.out.own.free b4 (by simp) (o4 + 2)
  have cE := HO7.out.row1.at 2 (by omega)
  have HOX : Hid _ := HO7.out.setRow1 2 (by omega) vy
  have HRX : Hid _ := held_set HR7.out HL.out.1 HL.out.2 b4 (o4 + 2) (.int .i64 vy) (by have := HO7.out.ges; omega)
  refine op_skip (w7.setCell ⟨b4, o4 + 2, none⟩ (.int .i64 vy)) rfl (by go_simp) ⟨_, by simp [Act.put]; rfl, hK _ _ ⟨⟨HOX.out.blk.cell 6, HOX.out.c1⟩, ?_⟩⟩
  clear hK
  refine wpAnyH_done (by kernel_rfl) ?_ _
  clear HO7 HR7 HS7
  go_wp2_with (first | go_skip | (with_reducible refine stopLoad 34 rfl ?_) | (with_reducible refine stopStore 34 rfl ?_))
  refine load_any 34 w1.heap.size _ 34 _ HOX.out.blk rfl rfl rfl Try.underlying34 rfl (by kernel_rfl) ?_
  go_wp2_with (first | go_skip | (with_reducible refine stopLoad 34 rfl ?_) | (with_reducible refine stopStore 34 rfl ?_))
  refine store_known 34 w.heap.size _ _ 34 HRX.out.1 rfl rfl rfl rfl (by kernel_rfl) rfl (by kernel_rfl) ?_
  go_wp2
  refine bodyPost_ret (results_cell_row Try.results92 _ _ w.heap.size _ _ _ _ rfl HRX.out.1.setRow Try.underlying34 rfl (by kernel_rfl)) rfl ?_
  exact drew_full (drew_end HOX.out HRX.out.1 HRX.out.2.1 HRX.out.2.2 HL.out.1 (by omega))
 have p0 : (d == 0) = false := beq_false_of_ne q0
 have p1 : (d == 1) = false := beq_false_of_ne q1
 have p2 : (d == 2) = false := beq_false_of_ne q2
 have p3 : (d == 3) = false := beq_false_of_ne q3
 have p4 : (d == 4) = false := beq_false_of_ne q4
 have p5 : (d == 5) = false := beq_false_of_ne q5
 have HOX := HO4
 have HRX := HR4
 clear HO4 HR4 q0 q1 q2 q3 q4 q5
 go_wp2_with (first | go_skip | (with_reducible refine stopLoad 34 rfl ?_) | (with_reducible refine stopStore 34 rfl ?_))
 refine load_any 34 w1.heap.size _ 34 _ HOX.out.blk rfl rfl rfl Try.underlying34 rfl (by kernel_rfl) ?_
 go_wp2_with (first | go_skip | (with_reducible refine stopLoad 34 rfl ?_) | (with_reducible refine stopStore 34 rfl ?_))
 refine store_known 34 w.heap.size _ _ 34 HRX.out.1 rfl rfl rfl rfl (by kernel_rfl) rfl (by kernel_rfl) ?_
 go_wp2
 refine bodyPost_ret (results_cell_row Try.results92 _ _ w.heap.size _ _ _ _ rfl HRX.out.1.setRow Try.underlying34 rfl (by kernel_rfl)) rfl ?_
 exact drew_full (drew_end HOX.out HRX.out.1 HRX.out.2.1 HRX.out.2.2 HL.out.1 (by omega))
end Go.Proofs.Ytgkbhhlkaifnoaa
/- The walks through the model's drawing of items. No statement of the seat is proved here. -/
namespace Go.Proofs.Ytgkbhhlkaifnoaa
open Go.RowKit
theorem cur_row {W : World} {q g : Nat} {a : Option Addr} {len cap : Nat} {zs : List Int} {i h : Int} {cs : Array Value} (C : Cur W q a len cap zs i h) (hq : q ≠ g) (ha : ∀ b, (∃ off, a = some ⟨b, off, none⟩ ∧ 0 < len) → b ≠ g) : Cur (W.setRow g cs) q a len cap zs i h :=
 cur_agree C (World.block_lt_of_cell? _ _ C.c0) (setRow_other W g q cs hq) (fun b _ hx => setRow_other W g b cs (ha b hx))
theorem cur_cell {W : World} {q g j : Nat} {v : Value} {a : Option Addr} {len cap : Nat} {zs : List Int} {i h : Int} (C : Cur W q a len cap zs i h) (hq : q ≠ g) (ha : ∀ b, (∃ off, a = some ⟨b, off, none⟩ ∧ 0 < len) → b ≠ g) : Cur (W.setCell ⟨g, j, none⟩ v) q a len cap zs i h :=
 cur_agree C (World.block_lt_of_cell? _ _ C.c0) (Below.heap_setCell W ⟨g, j, none⟩ v q hq) (fun b _ hx => Below.heap_setCell W ⟨g, j, none⟩ v b (ha b hx))
theorem grown_row {w W : World} {q g : Nat} {cs : Array Value} (k : w.grownBy W (some q)) (hg : w.heap.size ≤ g) : w.grownBy (W.setRow g cs) (some q) :=
 ⟨k.os, k.tape, k.output, by simp; exact k.size, fun b hb hn => (setRow_other W g b cs (by omega)).trans (k.block b hb hn)⟩
theorem grown_cell {w W : World} {q g j : Nat} {v : Value} (k : w.grownBy W (some q)) (hg : w.heap.size ≤ g) : w.grownBy (W.setCell ⟨g, j, none⟩ v) (some q) :=
 ⟨k.os, k.tape, k.output, by simp; exact k.size, fun b hb hn => (Below.heap_setCell W ⟨g, j, none⟩ v b (fun e => by have e2 : b = g := e; omega)).trans (k.block b hb hn)⟩
/-- The result's place and the cursor. -/
structure HeldR (w : World) (q : Nat) (a : Option Addr) (len cap : Nat) (zs : List Int) (i h : Int) (cs : Array Value) (t : TypeId) (W : World) : Prop where
 res : Blk W w.heap.size cs t
 cur : Cur W q a len cap zs i h
 grown : w.grownBy W (some q)
section
variable {w W W' : World} {q : Nat} {a : Option Addr} {len cap : Nat} {zs : List Int} {i h i' h' : Int} {cs : Array Value} {t : TypeId}
theorem HeldR.next (H : HeldR w q a len cap zs i h cs t W) (hq : q < w.heap.size) (C : Cur W' q a len cap zs i' h') (g : W.grownBy W' (some q)) : HeldR w q a len cap zs i' h' cs t W' := ⟨H.res.grown g (by omega), C, grown_tr H.grown g⟩
theorem HeldR.below (H : HeldR w q a len cap zs i h cs t W) (b : Below W.heap.size W W') : HeldR w q a len cap zs i h cs t W' := ⟨H.res.below b, H.cur.below b, grown_tr H.grown (grown_below q b)⟩
theorem HeldR.made (C : Cur w q a len cap zs i h) (cs : Array Value) (t : TypeId) : HeldR w q a len cap zs i h cs t (w.alloc (.cells cs t)) := ⟨Blk.made _ _ _, C.alloc _, grown_below q ((Below.refl _ _).alloc (Nat.le_refl _) _)⟩
end
/-- What a drawing of an item tells. -/
def DrewItem (w : World) (q : Nat) (a : Option Addr) (len cap : Nat) (zs : List Int) (e : Ending) (w' : World) : Prop :=
 ∃ v x F i' h', e = .returned v ∧ RdIt w' v x F ∧ x.sk.full ∧ Own w.heap.size w' F ∧ Cur w' q a len cap zs i' h' ∧ w.grownBy w' (some q)
set_option maxRecDepth 200000 in
set_option maxHeartbeats 4000000 in
theorem l6Right_any (q : Nat) (a : Option Addr) (len cap : Nat) (zs : List Int) (i h : Int) (w : World) (C : Cur w q a len cap zs i h) (hlen : len ≤ 1048576) :
 Calls Try.prog 91 #[.pointer (some ⟨q, 0, none⟩)] w fun e w' => DrewItem w q a len cap zs e w' := by
 have hq : q < w.heap.size := World.block_lt_of_cell? _ _ C.c0
 have HA : Hid (∀ b, (∃ off, a = some ⟨b, off, none⟩ ∧ 0 < len) → b < w.heap.size) := cur_lt C
 have H0 : Hid (HeldR w q a len cap zs i h #[.int .i64 0, .int .i64 0, .int .i64 0, .int .i64 0, .int .i64 0, .int .i64 0, .int .i64 0, .int .i64 0, .slice none 0 0, .slice none 0 0, .slice none 0 0] 36 (w.alloc (.cells #[.int .i64 0, .int .i64 0, .int .i64 0, .int .i64 0, .int .i64 0, .int .i64 0, .int .i64 0, .int .i64 0, .slice none 0 0, .slice none 0 0, .slice none 0 0] 36))) := HeldR.made C _ _
 clear C
 go_enter Try.func91, Try.ntmps91
 go_wp2_with fail
 refine (l1Below_any q a len cap zs i h 8 _ H0.out.cur hlen (by omega) (by omega)).mono ?_
 rintro e w1 ⟨x1, i1, h1, rfl, p1, r1, C1, g1⟩
 have H1 : Hid (HeldR w q a len cap zs i1 h1 #[.int .i64 0, .int .i64 0, .int .i64 0, .int .i64 0, .int .i64 0, .int .i64 0, .int .i64 0, .int .i64 0, .slice none 0 0, .slice none 0 0, .slice none 0 0] 36 w1) := H0.out.next hq C1 g1
 clear C1 g1 H0
 go_wp2_with fail
 refine (l1Below_any q a len cap zs i1 h1 2 _ H1.out.cur hlen (by omega) (by omega)).mono ?_
 rintro e w2 ⟨x2, i2, h2, rfl, p2, r2, C2, g2⟩
 have H2 : Hid (HeldR w q a len cap zs i2 h2 #[.int .i64 0, .int .i64 0, .int .i64 0, .int .i64 0, .int .i64 0, .int .i64 0, .int .i64 0, .int .i64 0, .slice none 0 0, .slice none 0 0, .slice none 0 0] 36 w2) := H1.out.next hq C2 g2
 clear C2 g2 H1
 go_wp2_with fail
 refine (l1Below_any q a len cap zs i2 h2 2 _ H2.out.cur hlen (by omega) (by omega)).mono ?_
 rintro e w3 ⟨x3, i3, h3, rfl, p3, r3, C3, g3⟩
 have H3 : Hid (HeldR w q a len cap zs i3 h3 #[.int .i64 0, .int .i64 0, .int .i64 0, .int .i64 0, .int .i64 0, .int .i64 0, .int .i64 0, .int .i64 0, .slice none 0 0, .slice none 0 0, .slice none 0 0] 36 w3) := H2.out.next hq C3 g3
 clear C3 g3 H2
 go_wp2_with fail
 refine (l1Below_any q a len cap zs i3 h3 3 _ H3.out.cur hlen (by omega) (by omega)).mono ?_
 rintro e w4 ⟨x4, i4, h4, rfl, p4, r4, C4, g4⟩
 have H4 : Hid (HeldR w q a len cap zs i4 h4 #[.int .i64 0, .int .i64 0, .int .i64 0, .int .i64 0, .int .i64 0, .int .i64 0, .int .i64 0, .int .i64 0, .slice none 0 0, .slice none 0 0, .slice none 0 0] 36 w4) := H3.out.next hq C4 g4
 clear C4 g4 H3
 go_wp2_with fail
 refine (l3Values_any q a len cap zs i4 h4 _ H4.out.cur hlen).mono ?_
 rintro e w5 ⟨a', n, c, xs, F5, i5, h5, rfl, r5, n5, o5, C5, g5⟩
 have H5 : Hid (HeldR w q a len cap zs i5 h5 #[.int .i64 0, .int .i64 0, .int .i64 0, .int .i64 0, .int .i64 0, .int .i64 0, .int .i64 0, .int .i64 0, .slice none 0 0, .slice none 0 0, .slice none 0 0] 36 w5) := H4.out.next hq C5 g5
 have HR5 : Hid (RdI w5 a' n xs F5) := r5
 clear C5 g5 H4 r5 o5
 go_wp2_with fail
 refine (sketched_any a' n c xs F5 _ HR5.out (by omega)).mono ?_
 rintro e w6 ⟨v, s, F, rfl, rR, hs, oF, b6⟩
 obtain ⟨e1, r1', f1, e2, r2', f2, e3, r3', f3, rfl⟩ := rR.sk.cells7
 have H6 : Hid (HeldR w q a len cap zs i5 h5 #[.int .i64 0, .int .i64 0, .int .i64 0, .int .i64 0, .int .i64 0, .int .i64 0, .int .i64 0, .int .i64 0, .slice none 0 0, .slice none 0 0, .slice none 0 0] 36 w6) := H5.out.below b6
 have HS : Hid (RdSk w6 (.agg #[.int .i64 s.count, .int .i64 s.sum, .int .i64 s.min, .int .i64 s.max, .slice e1 r1' f1, .slice e2 r2' f2, .slice e3 r3' f3]) s F ∧ s.shaped = true ∧ Own (w.heap.size + 1) w6 F) := ⟨rR.sk, hs, oF.mono H5.out.res.lt⟩
 clear rR hs oF b6 H5 HR5
 go_wp2_with (first | go_skip | (with_reducible refine stopStore 36 rfl ?_))
 refine store_known 36 w.heap.size _ #[.int .i64 (1 + x1), .int .i64 x2, .int .i64 x3, .int .i64 x4, .int .i64 s.count, .int .i64 s.sum, .int .i64 s.min, .int .i64 s.max, .slice e1 r1' f1, .slice e2 r2' f2, .slice e3 r3' f3] 36 H6.out.res rfl rfl rfl rfl (by kernel_rfl) rfl (by simp [Value.oneCell']) ?_
 obtain ⟨E, hE⟩ : ∃ E : Array Value, E = #[.int .i64 (1 + x1), .int .i64 x2, .int .i64 x3, .int .i64 x4, .int .i64 s.count, .int .i64 s.sum, .int .i64 s.min, .int .i64 s.max, .slice e1 r1' f1, .slice e2 r2' f2, .slice e3 r3' f3] := ⟨_, rfl⟩
 rw [← hE]
 have HE : Hid (E = #[.int .i64 (1 + x1), .int .i64 x2, .int .i64 x3, .int .i64 x4, .int .i64 s.count, .int .i64 s.sum, .int .i64 s.min, .int .i64 s.max, .slice e1 r1' f1, .slice e2 r2' f2, .slice e3 r3' f3] ∧ E.size = 11) := ⟨hE, by rw [hE]; rfl⟩
 clear hE
 go_wp2
 refine bodyPost_ret (results_cell_row Try.results91 _ _ w.heap.size _ _ (0, 0) _ rfl H6.out.res.setRow Try.underlying36 rfl (by rw [HE.out.2]; exact infoItA)) rfl ?_
 have nF : w.heap.size ∉ F := fun hx => by have := HS.out.2.2.ge _ hx; omega
 exact ⟨_, ⟨1 + x1, x2, x3, x4, s⟩, F, i5, h5, rfl, ⟨e1, r1', f1, e2, r2', f2, e3, r3', f3, by rw [HE.out.1], HS.out.1.agree (Agree.row nF E)⟩, shaped_full HS.out.2.1, (HS.out.2.2.agree (Agree.row nF E)).mono (by omega), cur_row H6.out.cur (by omega) (fun b hb => by have := HA.out b hb; omega), grown_row H6.out.grown (Nat.le_refl _)⟩
/-- In the midst of a drawing: the item lies in block L. -/
structure LocI (w : World) (q : Nat) (a : Option Addr) (len cap : Nat) (zs : List Int) (i h : Int) (L : Nat) (ic : Array Value) (x : It) (F : List Nat) (W : World) : Prop where
 held : HeldR w q a len cap zs i h #[.int .i64 0, .int .i64 0, .int .i64 0, .int .i64 0, .int .i64 0, .int .i64 0, .int .i64 0, .int .i64 0, .slice none 0 0, .slice none 0 0, .slice none 0 0] 36 W
 loc : Blk W L ic 36
 rd : RdIt W (.agg ic) x F
 own : Own (w.heap.size + 1) W F
 apart : L ∉ F
 gt : w.heap.size < L
 full : x.sk.full
section
variable {w W W' : World} {q : Nat} {a : Option Addr} {len cap : Nat} {zs : List Int} {i h i' h' : Int} {L : Nat} {ic : Array Value} {x : It} {F : List Nat}
theorem LocI.next (H : LocI w q a len cap zs i h L ic x F W) (hq : q < w.heap.size) (C : Cur W' q a len cap zs i' h') (g : W.grownBy W' (some q)) : LocI w q a len cap zs i' h' L ic x F W' := by
 have nq : q ∉ F := fun hx => by have := H.own.ge _ hx; omega
 have ag := agree_grown g H.rd.lt nq
 have := H.gt
 exact ⟨H.held.next hq C g, H.loc.grown g (by omega), H.rd.agree ag, H.own.agree ag, H.apart, H.gt, H.full⟩
theorem LocI.below (H : LocI w q a len cap zs i h L ic x F W) (b : Below W.heap.size W W') : LocI w q a len cap zs i h L ic x F W' := ⟨H.held.below b, H.loc.below b, H.rd.below b, H.own.below H.rd.lt b, H.apart, H.gt, H.full⟩
theorem LocI.done (H : LocI w q a len cap zs i h L ic x F W) (hq : q < w.heap.size) (ha : ∀ b, (∃ off, a = some ⟨b, off, none⟩ ∧ 0 < len) → b < w.heap.size) : DrewItem w q a len cap zs (.returned (.agg ic)) (W.setRow w.heap.size ic) := by
 have nF : w.heap.size ∉ F := fun hx => by have := H.own.ge _ hx; omega
 exact ⟨_, x, F, i, h, rfl, H.rd.agree (Agree.row nF ic), H.full, (H.own.agree (Agree.row nF ic)).mono (by omega), cur_row H.held.cur (by omega) (fun b hb => by have := ha b hb; omega), grown_row H.held.grown (Nat.le_refl _)⟩
theorem LocI.set (H : LocI w q a len cap zs i h L ic x F W) (hq : q < w.heap.size) (ha : ∀ b, (∃ off, a = some ⟨b, off, none⟩ ∧ 0 < len) → b < w.heap.size) (j : Nat) (v : Value) {ic' : Array Value} {y : It} (hic : ic.setIfInBounds j v = ic') (hr : RdIt (W.setCell ⟨L, j, none⟩ v) (.agg ic') y F) (hy : y.sk = x.sk) : LocI w q a len cap zs i h L ic' y F (W.setCell ⟨L, j, none⟩ v) := by
 subst hic
 have hgt := H.gt
 have ag : Agree W (W.setCell ⟨L, j, none⟩ v) F := .set H.apart j v
 exact ⟨⟨H.held.res.setOther (by omega) j v, cur_cell H.held.cur (by omega) (fun b hb => by have := ha b hb; omega), grown_cell H.held.grown (by omega)⟩, H.loc.set j v, hr, H.own.agree ag, H.apart, H.gt, by rw [hy]; exact H.full⟩
end
set_option maxRecDepth 200000 in
set_option maxHeartbeats 8000000 in
theorem l6Draw_any (q : Nat) (a : Option Addr) (len cap : Nat) (zs : List Int) (i h : Int) (w : World) (C : Cur w q a len cap zs i h) (hlen : len ≤ 1048576) :
 Calls Try.prog 55 #[.pointer (some ⟨q, 0, none⟩)] w fun e w' => DrewItem w q a len cap zs e w' := by
 have hq : q < w.heap.size := World.block_lt_of_cell? _ _ C.c0
 have HA : Hid (∀ b, (∃ off, a = some ⟨b, off, none⟩ ∧ 0 < len) → b < w.heap.size) := cur_lt C
 have H0 : Hid (HeldR w q a len cap zs i h #[.int .i64 0, .int .i64 0, .int .i64 0, .int .i64 0, .int .i64 0, .int .i64 0, .int .i64 0, .int .i64 0, .slice none 0 0, .slice none 0 0, .slice none 0 0] 36 (w.alloc (.cells #[.int .i64 0, .int .i64 0, .int .i64 0, .int .i64 0, .int .i64 0, .int .i64 0, .int .i64 0, .int .i64 0, .slice none 0 0, .slice none 0 0, .slice none 0 0] 36))) := HeldR.made C _ _
 clear C
 go_enter Try.func55, Try.ntmps55
 go_wp2_with fail
 refine (l6Right_any q a len cap zs i h _ H0.out.cur hlen).mono ?_
 rintro e w1 ⟨v, x, F, i1, h1, rfl, rx, fx, ox, C1, g1⟩
 obtain ⟨a1, n1, c1, a2, n2, c2, a3, n3, c3, rfl, rs⟩ := rx
 have H1 : Hid (HeldR w q a len cap zs i1 h1 #[.int .i64 0, .int .i64 0, .int .i64 0, .int .i64 0, .int .i64 0, .int .i64 0, .int .i64 0, .int .i64 0, .slice none 0 0, .slice none 0 0, .slice none 0 0] 36 w1) := H0.out.next hq C1 g1
 have HX : Hid (RdIt w1 (.agg #[.int .i64 x.seq, .int .i64 x.cls, .int .i64 x.key, .int .i64 x.window, .int .i64 x.sk.count, .int .i64 x.sk.sum, .int .i64 x.sk.min, .int .i64 x.sk.max, .slice a1 n1 c1, .slice a2 n2 c2, .slice a3 n3 c3]) x F ∧ x.sk.full ∧ Own (w.heap.size + 1) w1 F) := ⟨⟨a1, n1, c1, a2, n2, c2, a3, n3, c3, rfl, rs⟩, fx, ox.mono (by simp)⟩
 clear C1 g1 rs fx ox H0
 go_wp2_with (first | go_skip | (with_reducible refine stopStore 36 rfl ?_))
 refine store_fresh 36 w1.heap.size rfl #[.int .i64 0, .int .i64 0, .int .i64 0, .int .i64 0, .int .i64 0, .int .i64 0, .int .i64 0, .int .i64 0, .slice none 0 0, .slice none 0 0, .slice none 0 0] #[.int .i64 x.seq, .int .i64 x.cls, .int .i64 x.key, .int .i64 x.window, .int .i64 x.sk.count, .int .i64 x.sk.sum, .int .i64 x.sk.min, .int .i64 x.sk.max, .slice a1 n1 c1, .slice a2 n2 c2, .slice a3 n3 c3] 36 rfl rfl rfl rfl (by kernel_rfl) rfl (by simp [Value.oneCell']) ?_
 intro W2 hg2 hb2
 have HL : Hid (LocI w q a len cap zs i1 h1 w1.heap.size #[.int .i64 x.seq, .int .i64 x.cls, .int .i64 x.key, .int .i64 x.window, .int .i64 x.sk.count, .int .i64 x.sk.sum, .int .i64 x.sk.min, .int .i64 x.sk.max, .slice a1 n1 c1, .slice a2 n2 c2, .slice a3 n3 c3] x F W2) := ⟨H1.out.below hb2, hg2, HX.out.1.below hb2, HX.out.2.2.below HX.out.1.lt hb2, fun hx => by have := HX.out.1.lt _ hx; omega, H1.out.res.lt, HX.out.2.1⟩
 obtain ⟨L, hLe⟩ : ∃ L, L = w1.heap.size := ⟨_, rfl⟩
 rw [← hLe] at HL ⊢
 have hLgt : w.heap.size < L := HL.out.gt
 clear hg2 hb2 H1 HX hLe
 go_wp2_with fail
 refine (l1Below_any q a len cap zs i1 h1 14 _ HL.out.held.cur hlen (by omega) (by omega)).mono ?_
 rintro e w3 ⟨n, i3, h3, rfl, n0, n14, C3, g3⟩
 have HL3 : Hid (LocI w q a len cap zs i3 h3 L #[.int .i64 x.seq, .int .i64 x.cls, .int .i64 x.key, .int .i64 x.window, .int .i64 x.sk.count, .int .i64 x.sk.sum, .int .i64 x.sk.min, .int .i64 x.sk.max, .slice a1 n1 c1, .slice a2 n2 c2, .slice a3 n3 c3] x F w3) := HL.out.next hq C3 g3
 clear C3 g3 HL
 by_cases qn0 : n = 0
 ·
  subst qn0
  go_wp2_with fail
  refine (pickInt_cur q w3.heap.size 4 a len cap zs i3 h3 [0, 60, 61, -1] _ (HL3.out.held.cur.alloc _) hlen (fun j hj => lit_ints w3 [0, 60, 61, -1] _ j hj) (by have := HL3.out.held.grown.size; omega) 4 rfl (by omega) (by omega)).mono ?_
  rintro e w4 ⟨y, i4, h4, _, rfl, C4, g4⟩
  have HL4 : Hid (LocI w q a len cap zs i4 h4 L #[.int .i64 x.seq, .int .i64 x.cls, .int .i64 x.key, .int .i64 x.window, .int .i64 x.sk.count, .int .i64 x.sk.sum, .int .i64 x.sk.min, .int .i64 x.sk.max, .slice a1 n1 c1, .slice a2 n2 c2, .slice a3 n3 c3] x F w4) := (HL3.out.below ((Below.refl _ _).alloc (Nat.le_refl _) _)).next hq C4 g4
  have cc := HL4.out.loc.cell 0
  have ff := HL4.out.loc.frozen 0
  simp only [aT, aZ] at cc
  clear C4 g4 HL3
  go_wp2_with (first | go_skip | (with_reducible refine stopLoad 36 rfl ?_))
  have HL5 : Hid (LocI w q a len cap zs i4 h4 L #[.int .i64 y, .int .i64 x.cls, .int .i64 x.key, .int .i64 x.window, .int .i64 x.sk.count, .int .i64 x.sk.sum, .int .i64 x.sk.min, .int .i64 x.sk.max, .slice a1 n1 c1, .slice a2 n2 c2, .slice a3 n3 c3] ⟨y, x.cls, x.key, x.window, x.sk⟩ F (w4.setCell ⟨L, 0, none⟩ (.int .i64 y))) := HL4.out.set hq HA.out 0 _ (by simp) (by
   have hrr := HL4.out.rd.agree (.set HL4.out.apart 0 (.int .i64 y))
   obtain ⟨b1, m1, d1, b2, m2, d2, b3, m3, d3, ev, hs⟩ := hrr
   simp at ev
   obtain ⟨⟨rfl, rfl, rfl⟩, ⟨rfl, rfl, rfl⟩, rfl, rfl, rfl⟩ := ev
   exact ⟨_, _, _, _, _, _, _, _, _, rfl, hs⟩) rfl
  obtain ⟨W5, hW5⟩ : ∃ W, W = w4.setCell ⟨L, 0, none⟩ (.int .i64 y) := ⟨_, rfl⟩
  rw [← hW5] at HL5 ⊢
  clear hW5 HL4 cc ff
  refine load_any 36 L _ 36 _ HL5.out.loc rfl rfl rfl Try.underlying36 rfl (by kernel_rfl) ?_
  go_wp2_with (first | go_skip | (with_reducible refine stopStore 36 rfl ?_))
  refine store_known 36 w.heap.size _ #[.int .i64 y, .int .i64 x.cls, .int .i64 x.key, .int .i64 x.window, .int .i64 x.sk.count, .int .i64 x.sk.sum, .int .i64 x.sk.min, .int .i64 x.sk.max, .slice a1 n1 c1, .slice a2 n2 c2, .slice a3 n3 c3] 36 HL5.out.held.res rfl rfl rfl rfl (by kernel_rfl) rfl (by simp [Value.oneCell']) ?_
  obtain ⟨E, hE⟩ : ∃ E : Array Value, E = #[.int .i64 y, .int .i64 x.cls, .int .i64 x.key, .int .i64 x.window, .int .i64 x.sk.count, .int .i64 x.sk.sum, .int .i64 x.sk.min, .int .i64 x.sk.max, .slice a1 n1 c1, .slice a2 n2 c2, .slice a3 n3 c3] := ⟨_, rfl⟩
  have HZ := HL5.out.done hq HA.out
  rw [← hE] at HZ ⊢
  have HE : Hid (DrewItem w q a len cap zs (.returned (.agg E)) (W5.setRow w.heap.size E) ∧ E.size = 11 ∧ Blk (W5.setRow w.heap.size E) w.heap.size E 36) := ⟨HZ, by rw [hE]; rfl, HL5.out.held.res.setRow⟩
  clear hE HZ
  go_wp2
  refine bodyPost_ret (results_cell_row Try.results55 _ _ w.heap.size _ _ (0, 0) _ rfl HE.out.2.2 Try.underlying36 rfl (by rw [HE.out.2.1]; exact infoItA)) rfl ?_
  exact HE.out.1
 by_cases qn1 : n = 1
 ·
  subst qn1
  go_wp2_with fail
  refine (pickInt_cur q w3.heap.size 2 a len cap zs i3 h3 [-1, 2] _ (HL3.out.held.cur.alloc _) hlen (fun j hj => lit_ints w3 [-1, 2] _ j hj) (by have := HL3.out.held.grown.size; omega) 2 rfl (by omega) (by omega)).mono ?_
  rintro e w4 ⟨y, i4, h4, _, rfl, C4, g4⟩
  have HL4 : Hid (LocI w q a len cap zs i4 h4 L #[.int .i64 x.seq, .int .i64 x.cls, .int .i64 x.key, .int .i64 x.window, .int .i64 x.sk.count, .int .i64 x.sk.sum, .int .i64 x.sk.min, .int .i64 x.sk.max, .slice a1 n1 c1, .slice a2 n2 c2, .slice a3 n3 c3] x F w4) := (HL3.out.below ((Below.refl _ _).alloc (Nat.le_refl _) _)).next hq C4 g4
  have cc := HL4.out.loc.cell 1
  have ff := HL4.out.loc.frozen 1
  simp only [aT, aS, aZ] at cc
  clear C4 g4 HL3
  go_wp2_with (first | go_skip | (with_reducible refine stopLoad 36 rfl ?_))
  have HL5 : Hid (LocI w q a len cap zs i4 h4 L #[.int .i64 x.seq, .int .i64 y, .int .i64 x.key, .int .i64 x.window, .int .i64 x.sk.count, .int .i64 x.sk.sum, .int .i64 x.sk.min, .int .i64 x.sk.max, .slice a1 n1 c1, .slice a2 n2 c2, .slice a3 n3 c3] ⟨x.seq, y, x.key, x.window, x.sk⟩ F (w4.setCell ⟨L, 1, none⟩ (.int .i64 y))) := HL4.out.set hq HA.out 1 _ (by simp) (by
   have hrr := HL4.out.rd.agree (.set HL4.out.apart 1 (.int .i64 y))
   obtain ⟨b1, m1, d1, b2, m2, d2, b3, m3, d3, ev, hs⟩ := hrr
   simp at ev
   obtain ⟨⟨rfl, rfl, rfl⟩, ⟨rfl, rfl, rfl⟩, rfl, rfl, rfl⟩ := ev
   exact ⟨_, _, _, _, _, _, _, _, _, rfl, hs⟩) rfl
  obtain ⟨W5, hW5⟩ : ∃ W, W = w4.setCell ⟨L, 1, none⟩ (.int .i64 y) := ⟨_, rfl⟩
  rw [← hW5] at HL5 ⊢
  clear hW5 HL4 cc ff
  refine load_any 36 L _ 36 _ HL5.out.loc rfl rfl rfl Try.underlying36 rfl (by kernel_rfl) ?_
  go_wp2_with (first | go_skip | (with_reducible refine stopStore 36 rfl ?_))
  refine store_known 36 w.heap.size _ #[.int .i64 x.seq, .int .i64 y, .int .i64 x.key, .int .i64 x.window, .int .i64 x.sk.count, .int .i64 x.sk.sum, .int .i64 x.sk.min, .int .i64 x.sk.max, .slice a1 n1 c1, .slice a2 n2 c2, .slice a3 n3 c3] 36 HL5.out.held.res rfl rfl rfl rfl (by kernel_rfl) rfl (by simp [Value.oneCell']) ?_
  obtain ⟨E, hE⟩ : ∃ E : Array Value, E = #[.int .i64 x.seq, .int .i64 y, .int .i64 x.key, .int .i64 x.window, .int .i64 x.sk.count, .int .i64 x.sk.sum, .int .i64 x.sk.min, .int .i64 x.sk.max, .slice a1 n1 c1, .slice a2 n2 c2, .slice a3 n3 c3] := ⟨_, rfl⟩
  have HZ := HL5.out.done hq HA.out
  rw [← hE] at HZ ⊢
  have HE : Hid (DrewItem w q a len cap zs (.returned (.agg E)) (W5.setRow w.heap.size E) ∧ E.size = 11 ∧ Blk (W5.setRow w.heap.size E) w.heap.size E 36) := ⟨HZ, by rw [hE]; rfl, HL5.out.held.res.setRow⟩
  clear hE HZ
  go_wp2
  refine bodyPost_ret (results_cell_row Try.results55 _ _ w.heap.size _ _ (0, 0) _ rfl HE.out.2.2 Try.underlying36 rfl (by rw [HE.out.2.1]; exact infoItA)) rfl ?_
  exact HE.out.1
 by_cases qn2 : n = 2
 ·
  subst qn2
  go_wp2_with fail
  refine (pickInt_cur q w3.heap.size 3 a len cap zs i3 h3 [-1, 4, 5] _ (HL3.out.held.cur.alloc _) hlen (fun j hj => lit_ints w3 [-1, 4, 5] _ j hj) (by have := HL3.out.held.grown.size; omega) 3 rfl (by omega) (by omega)).mono ?_
  rintro e w4 ⟨y, i4, h4, _, rfl, C4, g4⟩
  have HL4 : Hid (LocI w q a len cap zs i4 h4 L #[.int .i64 x.seq, .int .i64 x.cls, .int .i64 x.key, .int .i64 x.window, .int .i64 x.sk.count, .int .i64 x.sk.sum, .int .i64 x.sk.min, .int .i64 x.sk.max, .slice a1 n1 c1, .slice a2 n2 c2, .slice a3 n3 c3] x F w4) := (HL3.out.below ((Below.refl _ _).alloc (Nat.le_refl _) _)).next hq C4 g4
  have cc := HL4.out.loc.cell 2
  have ff := HL4.out.loc.frozen 2
  simp only [aT, aS, aZ] at cc
  clear C4 g4 HL3
  go_wp2_with (first | go_skip | (with_reducible refine stopLoad 36 rfl ?_))
  have HL5 : Hid (LocI w q a len cap zs i4 h4 L #[.int .i64 x.seq, .int .i64 x.cls, .int .i64 y, .int .i64 x.window, .int .i64 x.sk.count, .int .i64 x.sk.sum, .int .i64 x.sk.min, .int .i64 x.sk.max, .slice a1 n1 c1, .slice a2 n2 c2, .slice a3 n3 c3] ⟨x.seq, x.cls, y, x.window, x.sk⟩ F (w4.setCell ⟨L, 2, none⟩ (.int .i64 y))) := HL4.out.set hq HA.out 2 _ (by simp) (by
   have hrr := HL4.out.rd.agree (.set HL4.out.apart 2 (.int .i64 y))
   obtain ⟨b1, m1, d1, b2, m2, d2, b3, m3, d3, ev, hs⟩ := hrr
   simp at ev
   obtain ⟨⟨rfl, rfl, rfl⟩, ⟨rfl, rfl, rfl⟩, rfl, rfl, rfl⟩ := ev
   exact ⟨_, _, _, _, _, _, _, _, _, rfl, hs⟩) rfl
  obtain ⟨W5, hW5⟩ : ∃ W, W = w4.setCell ⟨L, 2, none⟩ (.int .i64 y) := ⟨_, rfl⟩
  rw [← hW5] at HL5 ⊢
  clear hW5 HL4 cc ff
  refine load_any 36 L _ 36 _ HL5.out.loc rfl rfl rfl Try.underlying36 rfl (by kernel_rfl) ?_
  go_wp2_with (first | go_skip | (with_reducible refine stopStore 36 rfl ?_))
  refine store_known 36 w.heap.size _ #[.int .i64 x.seq, .int .i64 x.cls, .int .i64 y, .int .i64 x.window, .int .i64 x.sk.count, .int .i64 x.sk.sum, .int .i64 x.sk.min, .int .i64 x.sk.max, .slice a1 n1 c1, .slice a2 n2 c2, .slice a3 n3 c3] 36 HL5.out.held.res rfl rfl rfl rfl (by kernel_rfl) rfl (by simp [Value.oneCell']) ?_
  obtain ⟨E, hE⟩ : ∃ E : Array Value, E = #[.int .i64 x.seq, .int .i64 x.cls, .int .i64 y, .int .i64 x.window, .int .i64 x.sk.count, .int .i64 x.sk.sum, .int .i64 x.sk.min, .int .i64 x.sk.max, .slice a1 n1 c1, .slice a2 n2 c2, .slice a3 n3 c3] := ⟨_, rfl⟩
  have HZ := HL5.out.done hq HA.out
  rw [← hE] at HZ ⊢
  have HE : Hid (DrewItem w q a len cap zs (.returned (.agg E)) (W5.setRow w.heap.size E) ∧ E.size = 11 ∧ Blk (W5.setRow w.heap.size E) w.heap.size E 36) := ⟨HZ, by rw [hE]; rfl, HL5.out.held.res.setRow⟩
  clear hE HZ
  go_wp2
  refine bodyPost_ret (results_cell_row Try.results55 _ _ w.heap.size _ _ (0, 0) _ rfl HE.out.2.2 Try.underlying36 rfl (by rw [HE.out.2.1]; exact infoItA)) rfl ?_
  exact HE.out.1
 by_cases qn3 : n = 3
 ·
  subst qn3
  go_wp2_with fail
  refine (pickInt_cur q w3.heap.size 3 a len cap zs i3 h3 [-1, 20, 21] _ (HL3.out.held.cur.alloc _) hlen (fun j hj => lit_ints w3 [-1, 20, 21] _ j hj) (by have := HL3.out.held.grown.size; omega) 3 rfl (by omega) (by omega)).mono ?_
  rintro e w4 ⟨y, i4, h4, _, rfl, C4, g4⟩
  have HL4 : Hid (LocI w q a len cap zs i4 h4 L #[.int .i64 x.seq, .int .i64 x.cls, .int .i64 x.key, .int .i64 x.window, .int .i64 x.sk.count, .int .i64 x.sk.sum, .int .i64 x.sk.min, .int .i64 x.sk.max, .slice a1 n1 c1, .slice a2 n2 c2, .slice a3 n3 c3] x F w4) := (HL3.out.below ((Below.refl _ _).alloc (Nat.le_refl _) _)).next hq C4 g4
  have cc := HL4.out.loc.cell 3
  have ff := HL4.out.loc.frozen 3
  simp only [aT, aS, aZ] at cc
  clear C4 g4 HL3
  go_wp2_with (first | go_skip | (with_reducible refine stopLoad 36 rfl ?_))
  have HL5 : Hid (LocI w q a len cap zs i4 h4 L #[.int .i64 x.seq, .int .i64 x.cls, .int .i64 x.key, .int .i64 y, .int .i64 x.sk.count, .int .i64 x.sk.sum, .int .i64 x.sk.min, .int .i64 x.sk.max, .slice a1 n1 c1, .slice a2 n2 c2, .slice a3 n3 c3] ⟨x.seq, x.cls, x.key, y, x.sk⟩ F (w4.setCell ⟨L, 3, none⟩ (.int .i64 y))) := HL4.out.set hq HA.out 3 _ (by simp) (by
   have hrr := HL4.out.rd.agree (.set HL4.out.apart 3 (.int .i64 y))
   obtain ⟨b1, m1, d1, b2, m2, d2, b3, m3, d3, ev, hs⟩ := hrr
   simp at ev
   obtain ⟨⟨rfl, rfl, rfl⟩, ⟨rfl, rfl, rfl⟩, rfl, rfl, rfl⟩ := ev
   exact ⟨_, _, _, _, _, _, _, _, _, rfl, hs⟩) rfl
  obtain ⟨W5, hW5⟩ : ∃ W, W = w4.setCell ⟨L, 3, none⟩ (.int .i64 y) := ⟨_, rfl⟩
  rw [← hW5] at HL5 ⊢
  clear hW5 HL4 cc ff
  refine load_any 36 L _ 36 _ HL5.out.loc rfl rfl rfl Try.underlying36 rfl (by kernel_rfl) ?_
  go_wp2_with (first | go_skip | (with_reducible refine stopStore 36 rfl ?_))
  refine store_known 36 w.heap.size _ #[.int .i64 x.seq, .int .i64 x.cls, .int .i64 x.key, .int .i64 y, .int .i64 x.sk.count, .int .i64 x.sk.sum, .int .i64 x.sk.min, .int .i64 x.sk.max, .slice a1 n1 c1, .slice a2 n2 c2, .slice a3 n3 c3] 36 HL5.out.held.res rfl rfl rfl rfl (by kernel_rfl) rfl (by simp [Value.oneCell']) ?_
  obtain ⟨E, hE⟩ : ∃ E : Array Value, E = #[.int .i64 x.seq, .int .i64 x.cls, .int .i64 x.key, .int .i64 y, .int .i64 x.sk.count, .int .i64 x.sk.sum, .int .i64 x.sk.min, .int .i64 x.sk.max, .slice a1 n1 c1, .slice a2 n2 c2, .slice a3 n3 c3] := ⟨_, rfl⟩
  have HZ := HL5.out.done hq HA.out
  rw [← hE] at HZ ⊢
  have HE : Hid (DrewItem w q a len cap zs (.returned (.agg E)) (W5.setRow w.heap.size E) ∧ E.size = 11 ∧ Blk (W5.setRow w.heap.size E) w.heap.size E 36) := ⟨HZ, by rw [hE]; rfl, HL5.out.held.res.setRow⟩
  clear hE HZ
  go_wp2
  refine bodyPost_ret (results_cell_row Try.results55 _ _ w.heap.size _ _ (0, 0) _ rfl HE.out.2.2 Try.underlying36 rfl (by rw [HE.out.2.1]; exact infoItA)) rfl ?_
  exact HE.out.1
 by_cases qn4 : n = 4
 ·
  subst qn4
  go_wp2_with fail
  refine (l3Draw_any q a len cap zs i3 h3 _ HL3.out.held.cur hlen).mono ?_
  rintro e w4 ⟨v4, s, F4, i4, h4, rfl, r4, f4, o4, C4, g4⟩
  obtain ⟨e1, r1, f1, e2, r2, f2, e3, r3, f3, rfl⟩ := r4.cells7
  have HL4 : Hid (LocI w q a len cap zs i4 h4 L #[.int .i64 x.seq, .int .i64 x.cls, .int .i64 x.key, .int .i64 x.window, .int .i64 x.sk.count, .int .i64 x.sk.sum, .int .i64 x.sk.min, .int .i64 x.sk.max, .slice a1 n1 c1, .slice a2 n2 c2, .slice a3 n3 c3] x F w4) := HL3.out.next hq C4 g4
  have HS4 : Hid (RdSk w4 (.agg #[.int .i64 s.count, .int .i64 s.sum, .int .i64 s.min, .int .i64 s.max, .slice e1 r1 f1, .slice e2 r2 f2, .slice e3 r3 f3]) s F4 ∧ s.full ∧ Own (w.heap.size + 1) w4 F4 ∧ L ∉ F4) := ⟨r4, f4, o4.mono (by have := HL3.out.loc.lt; omega), fun hx => by have := o4.ge _ hx; have := HL3.out.loc.lt; omega⟩
  clear C4 g4 r4 f4 o4 HL3
  go_wp2_with (first | go_skip | (with_reducible refine stopStore 34 rfl ?_))
  refine store_cut 34 L 4 _ #[.int .i64 s.count, .int .i64 s.sum, .int .i64 s.min, .int .i64 s.max, .slice e1 r1 f1, .slice e2 r2 f2, .slice e3 r3 f3] #[.int .i64 x.seq, .int .i64 x.cls, .int .i64 x.key, .int .i64 x.window, .int .i64 s.count, .int .i64 s.sum, .int .i64 s.min, .int .i64 s.max, .slice e1 r1 f1, .slice e2 r2 f2, .slice e3 r3 f3] 36 HL4.out.loc rfl rfl rfl rfl infoSkI (by simp) (one7 ..) (by simp [cutIn]) ?_
  have HL5 : Hid (LocI w q a len cap zs i4 h4 L #[.int .i64 x.seq, .int .i64 x.cls, .int .i64 x.key, .int .i64 x.window, .int .i64 s.count, .int .i64 s.sum, .int .i64 s.min, .int .i64 s.max, .slice e1 r1 f1, .slice e2 r2 f2, .slice e3 r3 f3] ⟨x.seq, x.cls, x.key, x.window, s⟩ F4 (w4.setRow L #[.int .i64 x.seq, .int .i64 x.cls, .int .i64 x.key, .int .i64 x.window, .int .i64 s.count, .int .i64 s.sum, .int .i64 s.min, .int .i64 s.max, .slice e1 r1 f1, .slice e2 r2 f2, .slice e3 r3 f3])) := by
   have ag : Agree w4 (w4.setRow L #[.int .i64 x.seq, .int .i64 x.cls, .int .i64 x.key, .int .i64 x.window, .int .i64 s.count, .int .i64 s.sum, .int .i64 s.min, .int .i64 s.max, .slice e1 r1 f1, .slice e2 r2 f2, .slice e3 r3 f3]) F4 := Agree.row HS4.out.2.2.2 _
   exact ⟨⟨HL4.out.held.res.setRowOther (by omega), cur_row HL4.out.held.cur (by omega) (fun b hb => by have := HA.out b hb; omega), grown_row HL4.out.held.grown (by omega)⟩, HL4.out.loc.setRow, ⟨_, _, _, _, _, _, _, _, _, rfl, HS4.out.1.agree ag⟩, HS4.out.2.2.1.agree ag, HS4.out.2.2.2, hLgt, HS4.out.2.1⟩
  obtain ⟨W5, hW5⟩ : ∃ W, W = w4.setRow L #[.int .i64 x.seq, .int .i64 x.cls, .int .i64 x.key, .int .i64 x.window, .int .i64 s.count, .int .i64 s.sum, .int .i64 s.min, .int .i64 s.max, .slice e1 r1 f1, .slice e2 r2 f2, .slice e3 r3 f3] := ⟨_, rfl⟩
  rw [← hW5] at HL5 ⊢
  clear hW5 HL4 HS4
  go_wp2_with (first | go_skip | (with_reducible refine stopLoad 36 rfl ?_))
  refine load_any 36 L _ 36 _ HL5.out.loc rfl rfl rfl Try.underlying36 rfl (by kernel_rfl) ?_
  go_wp2_with (first | go_skip | (with_reducible refine stopStore 36 rfl ?_))
  refine store_known 36 w.heap.size _ #[.int .i64 x.seq, .int .i64 x.cls, .int .i64 x.key, .int .i64 x.window, .int .i64 s.count, .int .i64 s.sum, .int .i64 s.min, .int .i64 s.max, .slice e1 r1 f1, .slice e2 r2 f2, .slice e3 r3 f3] 36 HL5.out.held.res rfl rfl rfl rfl (by kernel_rfl) rfl (by simp [Value.oneCell']) ?_
  obtain ⟨E, hE⟩ : ∃ E : Array Value, E = #[.int .i64 x.seq, .int .i64 x.cls, .int .i64 x.key, .int .i64 x.window, .int .i64 s.count, .int .i64 s.sum, .int .i64 s.min, .int .i64 s.max, .slice e1 r1 f1, .slice e2 r2 f2, .slice e3 r3 f3] := ⟨_, rfl⟩
  have HZ := HL5.out.done hq HA.out
  rw [← hE] at HZ ⊢
  have HE : Hid (DrewItem w q a len cap zs (.returned (.agg E)) (W5.setRow w.heap.size E) ∧ E.size = 11 ∧ Blk (W5.setRow w.heap.size E) w.heap.size E 36) := ⟨HZ, by rw [hE]; rfl, HL5.out.held.res.setRow⟩
  clear hE HZ
  go_wp2
  refine bodyPost_ret (results_cell_row Try.results55 _ _ w.heap.size _ _ (0, 0) _ rfl HE.out.2.2 Try.underlying36 rfl (by rw [HE.out.2.1]; exact infoItA)) rfl ?_
  exact HE.out.1
 have z0 : (n == 0) = false := by simp; omega
 have z1 : (n == 1) = false := by simp; omega
 have z2 : (n == 2) = false := by simp; omega
 have z3 : (n == 3) = false := by simp; omega
 have z4 : (n == 4) = false := by simp; omega
 clear qn0 qn1 qn2 qn3 qn4
 go_wp2_with (first | go_skip | (with_reducible refine stopLoad 36 rfl ?_))
 refine load_any 36 L _ 36 _ HL3.out.loc rfl rfl rfl Try.underlying36 rfl (by kernel_rfl) ?_
 go_wp2_with (first | go_skip | (with_reducible refine stopStore 36 rfl ?_))
 refine store_known 36 w.heap.size _ #[.int .i64 x.seq, .int .i64 x.cls, .int .i64 x.key, .int .i64 x.window, .int .i64 x.sk.count, .int .i64 x.sk.sum, .int .i64 x.sk.min, .int .i64 x.sk.max, .slice a1 n1 c1, .slice a2 n2 c2, .slice a3 n3 c3] 36 HL3.out.held.res rfl rfl rfl rfl (by kernel_rfl) rfl (by simp [Value.oneCell']) ?_
 obtain ⟨E, hE⟩ : ∃ E : Array Value, E = #[.int .i64 x.seq, .int .i64 x.cls, .int .i64 x.key, .int .i64 x.window, .int .i64 x.sk.count, .int .i64 x.sk.sum, .int .i64 x.sk.min, .int .i64 x.sk.max, .slice a1 n1 c1, .slice a2 n2 c2, .slice a3 n3 c3] := ⟨_, rfl⟩
 have HZ := HL3.out.done hq HA.out
 rw [← hE] at HZ ⊢
 have HE : Hid (DrewItem w q a len cap zs (.returned (.agg E)) (w3.setRow w.heap.size E) ∧ E.size = 11 ∧ Blk (w3.setRow w.heap.size E) w.heap.size E 36) := ⟨HZ, by rw [hE]; rfl, HL3.out.held.res.setRow⟩
 clear hE HZ
 go_wp2
 refine bodyPost_ret (results_cell_row Try.results55 _ _ w.heap.size _ _ (0, 0) _ rfl HE.out.2.2 Try.underlying36 rfl (by rw [HE.out.2.1]; exact infoItA)) rfl ?_
 exact HE.out.1
end Go.Proofs.Ytgkbhhlkaifnoaa
/- The walks through the model's SetSize and SetApart. No statement of the seat is proved here. -/
namespace Go.Proofs.Ytgkbhhlkaifnoaa
open Go.RowKit
def Sp.sum (ps : Sp) : Int := (ps.map fun p => p.2 - p.1 + 1).sum
def Sp.size (ps : Sp) : Int := if ps.ok = true then ps.sum else 0
def meet (p q : Int × Int) : Bool := decide (p.1 ≤ q.2 ∧ q.1 ≤ p.2)
def Sp.apart (ps qs : Sp) : Bool := ps.ok && qs.ok && ps.all fun p => qs.all fun q => !meet p q
end Go.Proofs.Ytgkbhhlkaifnoaa
/- The walk through the model's SetApart. No statement of the seat is proved here. -/
namespace Go.Proofs.Ytgkbhhlkaifnoaa
open Go.RowKit
theorem QuietTo.trans {a b c : World} (h : QuietTo a b) (k : QuietTo b c) : QuietTo a c := by
 obtain ⟨m, rfl⟩ := h
 obtain ⟨n, rfl⟩ := k
 exact ⟨m + n, World.drewN_drewN ..⟩
end Go.Proofs.Ytgkbhhlkaifnoaa
/- The walks through the model's putting of a span into a set, and what is made of it. No statement of the seat is proved here. -/
namespace Go.Proofs.Ytgkbhhlkaifnoaa
open Go.RowKit
section
variable {P : Program} {ops : Array Oper} {Q : Exit → Act → World → Prop} {rest : List Oper} {a : Act} {w : World} {x y : Operand} {o : Oper}
theorem stopAppend2 {ts : Array TypeId} (_ho : o.op = .call { callee := .builtin .append, args := #[x, y], argTypes := ts }) (h : Stop (wpList P ops Q (o :: rest) a w)) : wpList P ops Q (o :: rest) a w := h
end
theorem rdP_of_own {w : World} {B e n : Nat} {v : Value} {ps : Sp} (h : w.ownsRow B e 2 v n ((flat ps).map (Value.int .i64))) : ∃ a cap F, v = .slice a n cap ∧ RdP w a n ps F ∧ Own B w F ∧ Capd a n cap := by
 rcases h.2 with ⟨h1, h2⟩ | ⟨g, cap, cur, h1, _, _, hcap, _⟩
 ·
  subst h2
  have hl : (flat ps).length = 0 := by simpa using h.1
  rw [flat_length] at hl
  obtain rfl : ps = [] := List.eq_nil_of_length_eq_zero (by omega)
  exact ⟨none, 0, [], h1, RdP.nil, Own.nil, fun _ => rfl, Nat.le_refl _⟩
 ·
  subst h1
  obtain ⟨F, hr, ho, _⟩ := RdP.of_own h
  exact ⟨_, cap, F, rfl, hr, ho, (fun e => by cases e), hcap⟩
theorem own_mono {w : World} {B B' e size n : Nat} {v : Value} {xs : List Value} (h : w.ownsRow B e size v n xs) (hB : B' ≤ B) : w.ownsRow B' e size v n xs := by
 refine ⟨h.1, ?_⟩
 rcases h.2 with e | ⟨g, cap, cur, h1, h2, h3⟩
 ·
  exact .inl e
 ·
  exact .inr ⟨g, cap, cur, h1, Nat.le_trans hB h2, h3⟩
theorem own_empty2 (w : World) (e : TypeId) : (w.alloc (.cells #[] e)).ownsRow w.heap.size e 2 (.slice (some ⟨w.heap.size, 0, none⟩) 0 0) 0 [] :=
 ⟨rfl, .inr ⟨w.heap.size, 0, #[], rfl, Nat.le_refl _, Blk.made w #[] e, Nat.le_refl _, by simp, rfl, rfl⟩⟩
theorem cell_new2 (w : World) (u v : Value) (t : TypeId) : ∀ (j : Nat) (x : Value), [u, v][j]? = some x → (w.alloc (.cells #[u, v] t)).cell? ((⟨w.heap.size, 0, none⟩ : Addr).add j) = some x := by
 intro j x hx
 match j, hx with
 | 0, hx =>
  obtain rfl : u = x := by simpa using hx
  simp [Addr.add]
 | 1, hx =>
  obtain rfl : v = x := by simpa using hx
  simp [Addr.add]
 | j + 2, hx => simp at hx
/-- What is put behind what has come: the rest of the set, the span, whether it has been put. -/
def put : Sp → Int × Int → Bool → Sp
 | [], x, d => if d then [] else [x]
 | p :: ps, x, d => if p.2 + 1 < x.1 then p :: put ps x d else if x.2 + 1 < p.1 then (if d then [] else [x]) ++ p :: put ps x true else put ps (min x.1 p.1, max x.2 p.2) d
/-- All numbers are in bounds. -/
def InB (p : Int × Int) : Prop := (0 ≤ p.1 ∧ p.1 ≤ 9999) ∧ 0 ≤ p.2 ∧ p.2 ≤ 9999
theorem drop_at {ps : Sp} {k : Nat} (hk : k < ps.length) : ps.drop k = ps.at k :: ps.drop (k + 1) := by
 unfold Sp.at
 rw [List.drop_eq_getElem_cons hk, List.getElem?_eq_getElem hk]
 rfl
theorem put_a {ps : Sp} {k : Nat} {x : Int × Int} {d : Bool} (hk : k < ps.length) (h : (ps.at k).2 + 1 < x.1) : put (ps.drop k) x d = ps.at k :: put (ps.drop (k + 1)) x d := by rw [drop_at hk, put, if_pos h]
theorem put_b {ps : Sp} {k : Nat} {x : Int × Int} {d : Bool} (hk : k < ps.length) (h : ¬ (ps.at k).2 + 1 < x.1) (h2 : x.2 + 1 < (ps.at k).1) : put (ps.drop k) x d = (if d then [] else [x]) ++ ps.at k :: put (ps.drop (k + 1)) x true := by rw [drop_at hk, put, if_neg h, if_pos h2]
theorem put_c {ps : Sp} {k : Nat} {x : Int × Int} {d : Bool} (hk : k < ps.length) (h : ¬ (ps.at k).2 + 1 < x.1) (h2 : ¬ x.2 + 1 < (ps.at k).1) : put (ps.drop k) x d = put (ps.drop (k + 1)) (min x.1 (ps.at k).1, max x.2 (ps.at k).2) d := by rw [drop_at hk, put, if_neg h, if_neg h2]
theorem put_length : ∀ (ps : Sp) (x : Int × Int) (d : Bool), (put ps x d).length ≤ ps.length + 1
 | [], x, d => by cases d <;> simp [put]
 | p :: ps, x, d => by
  rw [put]
  split
  ·
   have := put_length ps x d; simp; omega
  ·
   split
   ·
    cases d
    ·
     have := put_true ps x; simp; omega
    ·
     have := put_length ps x true; simp; omega
   ·
    have := put_length ps (min x.1 p.1, max x.2 p.2) d; simp; omega
where put_true : ∀ (ps : Sp) (x : Int × Int), (put ps x true).length ≤ ps.length
 | [], x => by simp [put]
 | p :: ps, x => by
  rw [put]
  split
  ·
   have := put_true ps x; simp; omega
  ·
   split
   ·
    have := put_true ps x; simp; omega
   ·
    have := put_true ps (min x.1 p.1, max x.2 p.2); simp; omega
/-- Where the putting is: what has come, the span's box. -/
structure PutAt (w : World) (v : Value) (o : Sp) (x : Int × Int) (W : World) : Prop where
 own : W.ownsRow (w.heap.size + 1) 81 2 v o.length ((flat o).map (Value.int .i64))
 box : Blk W w.heap.size #[.int .i64 x.1, .int .i64 x.2] 81
 bel : Below w.heap.size w W
theorem PutAt.app {w W W6 : World} {v v' : Value} {o : Sp} {x : Int × Int} {p q : Int} (h : PutAt w v o x W) (hown : W6.ownsRow (w.heap.size + 1) 81 2 v' (o.length + 1) ((flat o).map (Value.int .i64) ++ [.int .i64 p, .int .i64 q])) (hgrow : (W.alloc (.cells #[.int .i64 p, .int .i64 q] 81)).grownBy W6 v.ownBlock) : PutAt w v' (o ++ [(p, q)]) x W6 := by
 have hne : ∀ k, v.ownBlock = some k → w.heap.size + 1 ≤ k := fun k hk => (h.own.lt k hk).1
 have hb : Below w.heap.size w (W.alloc (.cells #[.int .i64 p, .int .i64 q] 81)) := Below.allocW _ h.bel (Nat.le_refl _)
 refine ⟨?_, ?_, ?_⟩
 ·
  rw [flat_append, List.map_append, List.length_append]
  exact hown
 ·
  exact (h.box.alloc _).agree (hgrow.block _ (h.box.alloc _).lt (fun e => by have := hne _ e.symm; omega))
 ·
  exact hb.grown hgrow hb.size (fun k hk => by have := hne k hk; omega)
theorem PutAt.drewN {w W : World} {v : Value} {o : Sp} {x : Int × Int} (h : PutAt w v o x W) (m : Nat) : PutAt w v o x (W.drewN m) := ⟨⟨h.own.1, h.own.2⟩, h.box, ⟨h.bel.os, h.bel.tape, h.bel.output, h.bel.size, h.bel.block⟩⟩
/-- A span lies in memory. -/
def SpanAt (b c : Nat) (p q : Int) (W : World) : Prop := W.cell? ⟨b, c, none⟩ = some (.int .i64 p) ∧ W.cell? ⟨b, c + 1, none⟩ = some (.int .i64 q)
theorem SpanAt.setRow {b c g : Nat} {p q : Int} {W : World} {cs : Array Value} (h : SpanAt b c p q W) (hn : b ≠ g) : SpanAt b c p q (W.setRow g cs) :=
 ⟨(World.cell?_of_block (w := W) (a := ⟨b, c, none⟩) (setRow_other W g b cs hn)).trans h.1, (World.cell?_of_block (w := W) (a := ⟨b, c + 1, none⟩) (setRow_other W g b cs hn)).trans h.2⟩
theorem PutAt.setBox {w W : World} {v : Value} {o : Sp} {x z : Int × Int} (h : PutAt w v o x W) : PutAt w v o z (W.setRow w.heap.size #[.int .i64 z.1, .int .i64 z.2]) := by
 refine ⟨⟨h.own.1, ?_⟩, h.box.setRow, below_setRow h.bel (Nat.le_refl _) _⟩
 rcases h.own.2 with e | ⟨g, cap, cur, h1, h2, h3, h4⟩
 ·
  exact .inl e
 ·
  exact .inr ⟨g, cap, cur, h1, h2, (setRow_other W _ g _ (by omega)).trans h3, h4⟩
set_option maxRecDepth 100000 in
set_option maxHeartbeats 8000000 in
theorem l5Put_own (a : Option Addr) (len cap : Nat) (ps : Sp) (x0 : Int × Int) (F : List Nat) (w : World) (h : RdP w a len ps F) (hlen : len ≤ 2097152) (hin : ∀ k, k < len → InB (ps.at k)) (hx : InB x0) :
 Calls Try.prog 101 #[.slice a len cap, .agg #[.int .i64 x0.1, .int .i64 x0.2]] w fun e w' => ∃ v, e = .returned v ∧ w'.ownsRow w.heap.size 81 2 v (put ps x0 false).length ((flat (put ps x0 false)).map (Value.int .i64)) ∧ Below w.heap.size w w' := by
 obtain ⟨t0, hi, hz0, hz1, hz2⟩ := info_parts infoSpan
 have HL : Hid (ps.length = len) := h.length
 have HIN : Hid ((∀ k, k < len → InB (ps.at k)) ∧ InB x0) := ⟨hin, hx⟩
 have HP0 : Hid (PutAt w (.slice (some ⟨w.heap.size + 1, 0, none⟩) 0 0) [] x0 ((w.alloc (.cells #[.int .i64 x0.1, .int .i64 x0.2] 81)).alloc (.cells #[] 81))) := by
  have e := own_empty2 (w.alloc (.cells #[.int .i64 x0.1, .int .i64 x0.2] 81)) 81
  simp only [World.size_alloc] at e
  exact ⟨e, (Blk.made _ _ _).alloc _, Below.allocW _ (Below.allocW _ (Below.refl _ _) (Nat.le_refl _)) (Nat.le_refl _)⟩
 have HC : Hid (len = 0 ∨ ∃ b off, a = some ⟨b, off, none⟩ ∧ b < w.heap.size ∧ SpCells w b off len ps) := by
  rcases h.cells with ⟨h0, _⟩ | ⟨b, off, hp, e, _, hc⟩
  ·
   exact .inl h0
  ·
   exact .inr ⟨b, off, e, World.block_lt_of_cell? _ _ (hc 0 hp).1, hc⟩
 clear h hin hx
 obtain ⟨xa, xb⟩ := x0
 go_enter Try.func101, Try.ntmps101
 go_wp2
 go_loopw [5, 6, 7] (fun v d i wr => ∃ (k : Nat) (o : Sp) (x : Int × Int) (f : Bool), k ≤ len ∧ i = .int .i64 k ∧ d = .bool f ∧ o.length ≤ k + 1 ∧ Hid (PutAt w v o x wr) ∧ Hid (InB x) ∧ Hid (o ++ put (ps.drop k) x f = put ps (xa, xb) false) ∧ Hid (f = false → o.length ≤ k)) (fun _ _ i _ => len - (intOf i).toNat)
 case atStart => exact ⟨0, [], (xa, xb), false, by omega, rfl, rfl, by simp, HP0, HIN.out.2, rfl, fun _ => by simp⟩
 case round =>
  clear HP0
  obtain ⟨k, o, ⟨x, y⟩, f, hk, rfl, rfl, hol, HP, HX, HN, HF⟩ := hrel
  obtain ⟨⟨x0, x1⟩, y0, y1⟩ := HX.out
  by_cases hlt : k < len
  ·
   have hca := HC.out
   rcases hca with h0 | ⟨b, off, rfl, hbw, hc⟩
   ·
    omega
   obtain ⟨p, hp⟩ : ∃ x, x = (ps.at k).1 := ⟨_, rfl⟩
   obtain ⟨q, hq⟩ : ∃ x, x = (ps.at k).2 := ⟨_, rfl⟩
   have e := hc k hlt
   have hb := HIN.out.1 k hlt
   have HPQ : Hid (ps.at k = (p, q)) := by rw [hp, hq]; rfl
   rw [HPQ.out] at hb e
   obtain ⟨⟨p0, p1⟩, q0, q1⟩ := hb
   have d1 : wr.cell? ⟨b, off + k * 2, none⟩ = some (.int .i64 p) := (HP.out.bel.cell (by exact hbw)).trans e.1
   have d2 : wr.cell? ⟨b, off + k * 2 + 1, none⟩ = some (.int .i64 q) := (HP.out.bel.cell (by exact hbw)).trans e.2
   have b1 : wr.cell? ⟨w.heap.size, 0, none⟩ = some (.int .i64 x) := by rw [HP.out.box.cell]; rfl
   have b2 : wr.cell? ⟨w.heap.size, 1, none⟩ = some (.int .i64 y) := by rw [HP.out.box.cell]; rfl
   have hI : (k : Int) < (len : Int) := by omega
   have hkl : k < ps.length := by rw [HL.out]; exact hlt
   clear e hp hq hc
   by_cases c1 : q + 1 < x
   ·
    have c1d : decide (q + 1 < x) = true := decT c1
    have HN2 : Hid (o ++ [(p, q)] ++ put (ps.drop (k + 1)) (x, y) f = put ps (xa, xb) false) := by
     rw [put_a hkl (by rw [HPQ.out]; exact c1), HPQ.out] at HN
     show _ = _
     rw [← HN.out]; simp
    go_wp2
    go_quiet (fail)
    have HP1 : Hid (PutAt w u5 o (x, y) (wr.drewN nq)) := HP.out.drewN nq
    go_wp2_with (first | go_skip | (with_reducible refine stopAppend2 rfl ?_))
    refine Stop.intro (wpList_append_own _ rfl _ _ 25 rfl (w.heap.size + 1) 81 t0 (.agg #[.int .i64 0, .int .i64 0]) 2 16 Try.underlying25 hi hz0 hz1 hz2 rfl (by decide) _ (o).length ((flat (o)).map (Value.int .i64)) rfl (HP1.out.own.alloc _) ⟨(wr.drewN nq).heap.size, 0, none⟩ 1 1 [.int .i64 p, .int .i64 q] rfl rfl (cell_new2 _ _ _ _) (by intro u hu; simp at hu; rcases hu with rfl | rfl <;> rfl) (by unfold maxLen; omega) (by omega) (by have := HP1.out.box.lt; simp at this ⊢; omega) ?_)
    intro v2 w2 hown hgrow _
    have HP2 : Hid (PutAt w v2 (o ++ [(p, q)]) (x, y) w2) := HP1.out.app hown hgrow
    have HF2 : Hid (f = false → (o ++ [(p, q)]).length ≤ k + 1) := fun e => by have := HF.out e; simp; omega
    clear hown hgrow HP1
    go_wp2
    go_roundw
    case rel => exact ⟨k + 1, o ++ [(p, q)], (x, y), f, by omega, by go_num, rfl, by simp; omega, HP2, HX, HN2, HF2⟩
    case measure => simp [intOf]; omega
   have c1d : decide (q + 1 < x) = false := decF c1
   by_cases c2 : y + 1 < p
   ·
    have c2d : decide (y + 1 < p) = true := decT c2
    cases f
    ·
     have hol2 : o.length ≤ k := HF.out rfl
     have HN2 : Hid (o ++ [(x, y)] ++ [(p, q)] ++ put (ps.drop (k + 1)) (x, y) true = put ps (xa, xb) false) := by
      rw [put_b hkl (by rw [HPQ.out]; exact c1) (by rw [HPQ.out]; exact c2), HPQ.out] at HN
      show _ = _
      rw [← HN.out]; simp
     go_wp2
     go_quiet (fail)
     obtain ⟨wq, hwq⟩ : ∃ W, W = wr.drewN nq := ⟨_, rfl⟩
     have HPq : Hid (PutAt w u5 o (x, y) wq) := by rw [hwq]; exact HP.out.drewN nq
     have d1 : wq.cell? ⟨b, off + k * 2, none⟩ = some (.int .i64 p) := by rw [hwq]; exact d1
     have d2 : wq.cell? ⟨b, off + k * 2 + 1, none⟩ = some (.int .i64 q) := by rw [hwq]; exact d2
     have b1 : wq.cell? ⟨w.heap.size, 0, none⟩ = some (.int .i64 x) := by rw [hwq]; exact b1
     have b2 : wq.cell? ⟨w.heap.size, 1, none⟩ = some (.int .i64 y) := by rw [hwq]; exact b2
     rw [← hwq]
     clear HP hwq
     go_wp2
     go_quiet (fail)
     have HP1 : Hid (PutAt w u5 o (x, y) (wq.drewN nq)) := HPq.out.drewN nq
     go_wp2_with (first | go_skip | (with_reducible refine stopAppend2 rfl ?_))
     refine Stop.intro (wpList_append_own _ rfl _ _ 25 rfl (w.heap.size + 1) 81 t0 (.agg #[.int .i64 0, .int .i64 0]) 2 16 Try.underlying25 hi hz0 hz1 hz2 rfl (by decide) _ (o).length ((flat (o)).map (Value.int .i64)) rfl (HP1.out.own.alloc _) ⟨(wq.drewN nq).heap.size, 0, none⟩ 1 1 [.int .i64 x, .int .i64 y] rfl rfl (cell_new2 _ _ _ _) (by intro u hu; simp at hu; rcases hu with rfl | rfl <;> rfl) (by unfold maxLen; omega) (by omega) (by have := HP1.out.box.lt; simp at this ⊢; omega) ?_)
     intro v2 w2 hown hgrow _
     have HP2 : Hid (PutAt w v2 (o ++ [(x, y)]) (x, y) w2) := HP1.out.app hown hgrow
     have hl2 : (o ++ [(x, y)]).length = o.length + 1 := by simp
     have d1 : w2.cell? ⟨b, off + k * 2, none⟩ = some (.int .i64 p) := ((HP2.out.bel.cell (by exact hbw)).trans ((HPq.out.bel.cell (by exact hbw)).symm.trans d1))
     have d2 : w2.cell? ⟨b, off + k * 2 + 1, none⟩ = some (.int .i64 q) := ((HP2.out.bel.cell (by exact hbw)).trans ((HPq.out.bel.cell (by exact hbw)).symm.trans d2))
     obtain ⟨o2, ho2⟩ : ∃ o2, o2 = o ++ [(x, y)] := ⟨_, rfl⟩
     rw [← ho2] at HP2 hl2 HN2
     clear hown hgrow HP1 b1 b2 HPq
     go_wp2_with (first | go_skip | (with_reducible refine stopAppend2 rfl ?_))
     refine Stop.intro (wpList_append_own _ rfl _ _ 25 rfl (w.heap.size + 1) 81 t0 (.agg #[.int .i64 0, .int .i64 0]) 2 16 Try.underlying25 hi hz0 hz1 hz2 rfl (by decide) _ (o2).length ((flat (o2)).map (Value.int .i64)) rfl (HP2.out.own.alloc _) ⟨w2.heap.size, 0, none⟩ 1 1 [.int .i64 p, .int .i64 q] rfl rfl (cell_new2 _ _ _ _) (by intro u hu; simp at hu; rcases hu with rfl | rfl <;> rfl) (by unfold maxLen; omega) (by omega) (by have := HP2.out.box.lt; simp at this ⊢; omega) ?_)
     intro v3 w3 hown hgrow _
     have HP3 : Hid (PutAt w v3 (o2 ++ [(p, q)]) (x, y) w3) := HP2.out.app hown hgrow
     clear hown hgrow HP2
     go_wp2
     go_roundw
     case rel => exact ⟨k + 1, o2 ++ [(p, q)], (x, y), true, by omega, by go_num, rfl, by simp; omega, HP3, HX, HN2, fun e => by cases e⟩
     case measure => simp [intOf]; omega
    ·
     have HN2 : Hid (o ++ [(p, q)] ++ put (ps.drop (k + 1)) (x, y) true = put ps (xa, xb) false) := by
      rw [put_b hkl (by rw [HPQ.out]; exact c1) (by rw [HPQ.out]; exact c2), HPQ.out] at HN
      show _ = _
      rw [← HN.out]; simp
     go_wp2
     go_quiet (fail)
     obtain ⟨wq, hwq⟩ : ∃ W, W = wr.drewN nq := ⟨_, rfl⟩
     have HPq : Hid (PutAt w u5 o (x, y) wq) := by rw [hwq]; exact HP.out.drewN nq
     have d1 : wq.cell? ⟨b, off + k * 2, none⟩ = some (.int .i64 p) := by rw [hwq]; exact d1
     have d2 : wq.cell? ⟨b, off + k * 2 + 1, none⟩ = some (.int .i64 q) := by rw [hwq]; exact d2
     have b1 : wq.cell? ⟨w.heap.size, 0, none⟩ = some (.int .i64 x) := by rw [hwq]; exact b1
     have b2 : wq.cell? ⟨w.heap.size, 1, none⟩ = some (.int .i64 y) := by rw [hwq]; exact b2
     rw [← hwq]
     clear HP hwq
     go_wp2
     go_quiet (fail)
     have HP1 : Hid (PutAt w u5 o (x, y) (wq.drewN nq)) := HPq.out.drewN nq
     go_wp2_with (first | go_skip | (with_reducible refine stopAppend2 rfl ?_))
     refine Stop.intro (wpList_append_own _ rfl _ _ 25 rfl (w.heap.size + 1) 81 t0 (.agg #[.int .i64 0, .int .i64 0]) 2 16 Try.underlying25 hi hz0 hz1 hz2 rfl (by decide) _ (o).length ((flat (o)).map (Value.int .i64)) rfl (HP1.out.own.alloc _) ⟨(wq.drewN nq).heap.size, 0, none⟩ 1 1 [.int .i64 p, .int .i64 q] rfl rfl (cell_new2 _ _ _ _) (by intro u hu; simp at hu; rcases hu with rfl | rfl <;> rfl) (by unfold maxLen; omega) (by omega) (by have := HP1.out.box.lt; simp at this ⊢; omega) ?_)
     intro v2 w2 hown hgrow _
     have HP2 : Hid (PutAt w v2 (o ++ [(p, q)]) (x, y) w2) := HP1.out.app hown hgrow
     clear hown hgrow HP1
     go_wp2
     go_roundw
     case rel => exact ⟨k + 1, o ++ [(p, q)], (x, y), true, by omega, by go_num, rfl, by simp; omega, HP2, HX, HN2, fun e => by cases e⟩
     case measure => simp [intOf]; omega
   have c2d : decide (y + 1 < p) = false := decF c2
   have HN2 : Hid (o ++ put (ps.drop (k + 1)) (min x p, max y q) f = put ps (xa, xb) false) := by
    rw [put_c hkl (by rw [HPQ.out]; exact c1) (by rw [HPQ.out]; exact c2), HPQ.out] at HN
    exact HN
   have HX2 : Hid (InB (min x p, max y q)) := by show InB _; unfold InB; simp only; omega
   go_wp2
   go_quiet (fail)
   obtain ⟨wq, hwq⟩ : ∃ W, W = wr.drewN nq := ⟨_, rfl⟩
   have HPq : Hid (PutAt w u5 o (x, y) wq) := by rw [hwq]; exact HP.out.drewN nq
   have d1 : wq.cell? ⟨b, off + k * 2, none⟩ = some (.int .i64 p) := by rw [hwq]; exact d1
   have d2 : wq.cell? ⟨b, off + k * 2 + 1, none⟩ = some (.int .i64 q) := by rw [hwq]; exact d2
   have b1 : wq.cell? ⟨w.heap.size, 0, none⟩ = some (.int .i64 x) := by rw [hwq]; exact b1
   have b2 : wq.cell? ⟨w.heap.size, 1, none⟩ = some (.int .i64 y) := by rw [hwq]; exact b2
   rw [← hwq]
   clear HP hwq
   go_wp2
   go_quiet (fail)
   have HP1 : Hid (PutAt w u5 o (x, y) (wq.drewN nq).drew) := (HPq.out.drewN nq).drewN 1
   have HS : Hid (((wq.drewN nq).drew.cell? ⟨w.heap.size, 0, none⟩ = some (.int .i64 x) ∧ (wq.drewN nq).drew.cell? ⟨w.heap.size, 1, none⟩ = some (.int .i64 y)) ∧ SpanAt b (off + k * 2) p q (wq.drewN nq).drew) := ⟨⟨b1, b2⟩, d1, d2⟩
   clear d1 d2 b1 b2 HPq
   go_wp2
   refine wp_region_held (S := SpanAt b (off + k * 2) p q) (by kernel_rfl) ?_
   change wpAnyH _ _ _ _ _ _ _ _ (World.drew _)
   refine takeH (o := ?o1) 0 (.pointer (some ⟨w.heap.size, 0, none⟩)) ?h1 ?r1
   case h1 => simp only [aT, aZ]; rfl
   refine ⟨_, by simp [Act.put]; rfl, by kernel_rfl, by kernel_rfl, by kernel_rfl, fun _ _ _ h => h, (.inl ⟨rfl, fun W _ => by go_simp⟩), HS.out.2, ?_⟩
   refine takeH (o := ?o2) 2 (.slice (some ⟨b, off, none⟩) len cap) ?h2 ?r2
   case h2 => simp only [aT, aS, aZ]; rfl
   refine ⟨_, by simp [Act.put]; rfl, by kernel_rfl, by kernel_rfl, by kernel_rfl, fun _ _ _ h => h, (.inl ⟨rfl, fun W _ => by go_simp⟩), HS.out.2, ?_⟩
   refine takeH (o := ?o3) 3 (.int .i64 k) ?h3 ?r3
   case h3 => simp only [aT, aS, aZ]; rfl
   refine ⟨_, by simp [Act.put]; rfl, by kernel_rfl, by kernel_rfl, by kernel_rfl, fun _ _ _ h => h, (.inl ⟨rfl, fun W _ => by go_simp⟩), HS.out.2, ?_⟩
   refine takeH (o := ?o4) 4 (.pointer (some ⟨b, off + k * 2, none⟩)) ?h4 ?r4
   case h4 => simp only [aT, aS, aZ]; rfl
   refine ⟨_, by simp [Act.put]; rfl, by kernel_rfl, by kernel_rfl, by kernel_rfl, fun _ _ _ h => h, (.inl ⟨rfl, fun W _ => by go_simp⟩), HS.out.2, ?_⟩
   refine takeH (o := ?o5) 5 (.pointer (some ⟨b, off + k * 2, none⟩)) ?h5 ?r5
   case h5 => simp only [aT, aS, aZ]; rfl
   refine ⟨_, by simp [Act.put]; rfl, by kernel_rfl, by kernel_rfl, by kernel_rfl, fun _ _ _ h => h, (.inl ⟨rfl, fun W _ => by go_simp⟩), HS.out.2, ?_⟩
   refine takeH (o := ?o6) 6 (.int .i64 p) ?h6 ?r6
   case h6 => simp only [aT, aS, aZ]; rfl
   refine ⟨_, by simp [Act.put]; rfl, by kernel_rfl, by kernel_rfl, by kernel_rfl, fun _ _ _ h => h, (.inl ⟨rfl, fun W hW => by have c := hW.1; go_simp⟩), HS.out.2, ?_⟩
   refine takeH (o := ?o7) 8 (.pointer (some ⟨w.heap.size, 1, none⟩)) ?h7 ?r7
   case h7 => simp only [aT, aS, aZ]; rfl
   refine ⟨_, by simp [Act.put]; rfl, by kernel_rfl, by kernel_rfl, by kernel_rfl, fun _ _ _ h => h, (.inl ⟨rfl, fun W _ => by go_simp⟩), HS.out.2, ?_⟩
   refine takeH (o := ?o8) 10 (.slice (some ⟨b, off, none⟩) len cap) ?h8 ?r8
   case h8 => simp only [aT, aS, aZ]; rfl
   refine ⟨_, by simp [Act.put]; rfl, by kernel_rfl, by kernel_rfl, by kernel_rfl, fun _ _ _ h => h, (.inl ⟨rfl, fun W _ => by go_simp⟩), HS.out.2, ?_⟩
   refine takeH (o := ?o9) 11 (.int .i64 k) ?h9 ?r9
   case h9 => simp only [aT, aS, aZ]; rfl
   refine ⟨_, by simp [Act.put]; rfl, by kernel_rfl, by kernel_rfl, by kernel_rfl, fun _ _ _ h => h, (.inl ⟨rfl, fun W _ => by go_simp⟩), HS.out.2, ?_⟩
   refine takeH (o := ?o10) 12 (.pointer (some ⟨b, off + k * 2, none⟩)) ?h10 ?r10
   case h10 => simp only [aT, aS, aZ]; rfl
   refine ⟨_, by simp [Act.put]; rfl, by kernel_rfl, by kernel_rfl, by kernel_rfl, fun _ _ _ h => h, (.inl ⟨rfl, fun W _ => by go_simp⟩), HS.out.2, ?_⟩
   refine takeH (o := ?o11) 13 (.pointer (some ⟨b, off + k * 2 + 1, none⟩)) ?h11 ?r11
   case h11 => simp only [aT, aS, aZ]; rfl
   refine ⟨_, by simp [Act.put]; rfl, by kernel_rfl, by kernel_rfl, by kernel_rfl, fun _ _ _ h => h, (.inl ⟨rfl, fun W _ => by go_simp⟩), HS.out.2, ?_⟩
   refine takeH (o := ?o12) 14 (.int .i64 q) ?h12 ?r12
   case h12 => simp only [aT, aS, aZ]; rfl
   refine ⟨_, by simp [Act.put]; rfl, by kernel_rfl, by kernel_rfl, by kernel_rfl, fun _ _ _ h => h, (.inl ⟨rfl, fun W hW => by have c := hW.2; go_simp⟩), HS.out.2, ?_⟩
   refine twoH (o := ?o13) (o' := ?p13) 1 9 (by kernel_rfl) ?h13 ?g13 ?r13 ?s13
   case h13 => simp only [aT, aS, aZ]; rfl
   case g13 => simp only [aT, aS, aZ]; rfl
   case r13 =>
    intro K hK
    refine op_value (.int .i64 x) rfl (by have c : wq.cell? ⟨w.heap.size, 0, none⟩ = some (.int .i64 x) := HS.out.1.1; go_simp) ⟨_, by simp [Act.put]; rfl, hK _ _ ⟨HS.out.2, ?_⟩⟩
    clear hK
    refine twoH (o := ?o14) (o' := ?p14) 7 9 (by kernel_rfl) ?h14 ?g14 ?r14 ?s14
    case h14 => simp only [aT, aS, aZ]; rfl
    case g14 => simp only [aT, aS, aZ]; rfl
    case r14 =>
     intro K hK
     refine op_call2 118 _ _ _ Try.f118 (fun w' => w' = (wq.drewN nq).drew) (.int .i64 (min x p)) rfl rfl Try.func118 (by kernel_rfl) (by kernel_rfl) (l1Min_any x p _) ⟨_, by simp [Act.put]; rfl, ?_⟩
     intro wc hwc
     subst hwc
     refine hK _ _ ⟨HS.out.2, ?_⟩
     clear hK
     refine onlyH (o := ?o15) 9 (by kernel_rfl) ?h15 ?r15
     case h15 => simp only [aT, aS, aZ]; rfl
     intro K hK
     refine op_value (.int .i64 y) rfl (by have c : wq.cell? ⟨w.heap.size, 1, none⟩ = some (.int .i64 y) := HS.out.1.2; go_simp) ⟨_, by simp [Act.put]; rfl, hK _ _ ⟨HS.out.2, ?_⟩⟩
     clear hK
     refine onlyH (o := ?o16) 15 (by kernel_rfl) ?h16 ?r16
     case h16 => simp only [aT, aS, aZ]; rfl
     intro K hK
     refine op_call2 68 _ _ _ Try.f68 (fun w' => w' = (wq.drewN nq).drew) (.int .i64 (max y q)) rfl rfl Try.func68 (by kernel_rfl) (by kernel_rfl) (l1Max_any y q _) ⟨_, by simp [Act.put]; rfl, ?_⟩
     intro wc hwc
     subst hwc
     refine hK _ _ ⟨HS.out.2, ?_⟩
     clear hK
     refine takeH (o := ?o17) 16 (.agg #[.int .i64 (min x p), .int .i64 (max y q)]) ?h17 ?r17
     case h17 => simp only [aT, aS, aZ]; rfl
     refine ⟨_, by simp [Act.put]; rfl, by kernel_rfl, by kernel_rfl, by kernel_rfl, fun _ _ _ h => h, (.inl ⟨rfl, fun W _ => by go_simp⟩), HS.out.2, ?_⟩
     refine onlyH (o := ?o18) 17 (by kernel_rfl) ?h18 ?r18
     case h18 => simp only [aT, aS, aZ]; rfl
     intro K hK
     refine op_store 81 w.heap.size #[.int .i64 x, .int .i64 y] #[.int .i64 (min x p), .int .i64 (max y q)] 81 rfl rfl rfl rfl HP1.out.box (by kernel_rfl) rfl (by kernel_rfl) ⟨_, by simp [Act.put]; rfl, hK _ _ ⟨HS.out.2.setRow (by omega), ?_⟩⟩
     clear hK
     refine wpAnyH_done (by kernel_rfl) ?_ _
     have HP2 : Hid (PutAt w u5 o (min x p, max y q) ((wq.drewN nq).drew.setRow w.heap.size #[.int .i64 (min x p), .int .i64 (max y q)])) := HP1.out.setBox
     have HF2 : Hid (f = false → o.length ≤ k + 1) := fun e => by have := HF.out e; omega
     clear HP1 HS
     go_wp2
     go_roundw
     case rel => exact ⟨k + 1, o, (min x p, max y q), f, by omega, by go_num, rfl, by omega, HP2, HX2, HN2, HF2⟩
     case measure => simp [intOf]; omega
    case s14 =>
     intro K hK
     refine op_value (.int .i64 y) rfl (by have c : wq.cell? ⟨w.heap.size, 1, none⟩ = some (.int .i64 y) := HS.out.1.2; go_simp) ⟨_, by simp [Act.put]; rfl, hK _ _ ⟨HS.out.2, ?_⟩⟩
     clear hK
     refine onlyH (o := ?o19) 7 (by kernel_rfl) ?h19 ?r19
     case h19 => simp only [aT, aS, aZ]; rfl
     intro K hK
     refine op_call2 118 _ _ _ Try.f118 (fun w' => w' = (wq.drewN nq).drew) (.int .i64 (min x p)) rfl rfl Try.func118 (by kernel_rfl) (by kernel_rfl) (l1Min_any x p _) ⟨_, by simp [Act.put]; rfl, ?_⟩
     intro wc hwc
     subst hwc
     refine hK _ _ ⟨HS.out.2, ?_⟩
     clear hK
     refine onlyH (o := ?o20) 15 (by kernel_rfl) ?h20 ?r20
     case h20 => simp only [aT, aS, aZ]; rfl
     intro K hK
     refine op_call2 68 _ _ _ Try.f68 (fun w' => w' = (wq.drewN nq).drew) (.int .i64 (max y q)) rfl rfl Try.func68 (by kernel_rfl) (by kernel_rfl) (l1Max_any y q _) ⟨_, by simp [Act.put]; rfl, ?_⟩
     intro wc hwc
     subst hwc
     refine hK _ _ ⟨HS.out.2, ?_⟩
     clear hK
     refine takeH (o := ?o21) 16 (.agg #[.int .i64 (min x p), .int .i64 (max y q)]) ?h21 ?r21
     case h21 => simp only [aT, aS, aZ]; rfl
     refine ⟨_, by simp [Act.put]; rfl, by kernel_rfl, by kernel_rfl, by kernel_rfl, fun _ _ _ h => h, (.inl ⟨rfl, fun W _ => by go_simp⟩), HS.out.2, ?_⟩
     refine onlyH (o := ?o22) 17 (by kernel_rfl) ?h22 ?r22
     case h22 => simp only [aT, aS, aZ]; rfl
     intro K hK
     refine op_store 81 w.heap.size #[.int .i64 x, .int .i64 y] #[.int .i64 (min x p), .int .i64 (max y q)] 81 rfl rfl rfl rfl HP1.out.box (by kernel_rfl) rfl (by kernel_rfl) ⟨_, by simp [Act.put]; rfl, hK _ _ ⟨HS.out.2.setRow (by omega), ?_⟩⟩
     clear hK
     refine wpAnyH_done (by kernel_rfl) ?_ _
     have HP2 : Hid (PutAt w u5 o (min x p, max y q) ((wq.drewN nq).drew.setRow w.heap.size #[.int .i64 (min x p), .int .i64 (max y q)])) := HP1.out.setBox
     have HF2 : Hid (f = false → o.length ≤ k + 1) := fun e => by have := HF.out e; omega
     clear HP1 HS
     go_wp2
     go_roundw
     case rel => exact ⟨k + 1, o, (min x p, max y q), f, by omega, by go_num, rfl, by omega, HP2, HX2, HN2, HF2⟩
     case measure => simp [intOf]; omega
   case s13 =>
    intro K hK
    refine op_value (.int .i64 y) rfl (by have c : wq.cell? ⟨w.heap.size, 1, none⟩ = some (.int .i64 y) := HS.out.1.2; go_simp) ⟨_, by simp [Act.put]; rfl, hK _ _ ⟨HS.out.2, ?_⟩⟩
    clear hK
    refine onlyH (o := ?o23) 1 (by kernel_rfl) ?h23 ?r23
    case h23 => simp only [aT, aS, aZ]; rfl
    intro K hK
    refine op_value (.int .i64 x) rfl (by have c : wq.cell? ⟨w.heap.size, 0, none⟩ = some (.int .i64 x) := HS.out.1.1; go_simp) ⟨_, by simp [Act.put]; rfl, hK _ _ ⟨HS.out.2, ?_⟩⟩
    clear hK
    refine onlyH (o := ?o24) 7 (by kernel_rfl) ?h24 ?r24
    case h24 => simp only [aT, aS, aZ]; rfl
    intro K hK
    refine op_call2 118 _ _ _ Try.f118 (fun w' => w' = (wq.drewN nq).drew) (.int .i64 (min x p)) rfl rfl Try.func118 (by kernel_rfl) (by kernel_rfl) (l1Min_any x p _) ⟨_, by simp [Act.put]; rfl, ?_⟩
    intro wc hwc
    subst hwc
    refine hK _ _ ⟨HS.out.2, ?_⟩
    clear hK
    refine onlyH (o := ?o25) 15 (by kernel_rfl) ?h25 ?r25
    case h25 => simp only [aT, aS, aZ]; rfl
    intro K hK
    refine op_call2 68 _ _ _ Try.f68 (fun w' => w' = (wq.drewN nq).drew) (.int .i64 (max y q)) rfl rfl Try.func68 (by kernel_rfl) (by kernel_rfl) (l1Max_any y q _) ⟨_, by simp [Act.put]; rfl, ?_⟩
    intro wc hwc
    subst hwc
    refine hK _ _ ⟨HS.out.2, ?_⟩
    clear hK
    refine takeH (o := ?o26) 16 (.agg #[.int .i64 (min x p), .int .i64 (max y q)]) ?h26 ?r26
    case h26 => simp only [aT, aS, aZ]; rfl
    refine ⟨_, by simp [Act.put]; rfl, by kernel_rfl, by kernel_rfl, by kernel_rfl, fun _ _ _ h => h, (.inl ⟨rfl, fun W _ => by go_simp⟩), HS.out.2, ?_⟩
    refine onlyH (o := ?o27) 17 (by kernel_rfl) ?h27 ?r27
    case h27 => simp only [aT, aS, aZ]; rfl
    intro K hK
    refine op_store 81 w.heap.size #[.int .i64 x, .int .i64 y] #[.int .i64 (min x p), .int .i64 (max y q)] 81 rfl rfl rfl rfl HP1.out.box (by kernel_rfl) rfl (by kernel_rfl) ⟨_, by simp [Act.put]; rfl, hK _ _ ⟨HS.out.2.setRow (by omega), ?_⟩⟩
    clear hK
    refine wpAnyH_done (by kernel_rfl) ?_ _
    have HP2 : Hid (PutAt w u5 o (min x p, max y q) ((wq.drewN nq).drew.setRow w.heap.size #[.int .i64 (min x p), .int .i64 (max y q)])) := HP1.out.setBox
    have HF2 : Hid (f = false → o.length ≤ k + 1) := fun e => by have := HF.out e; omega
    clear HP1 HS
    go_wp2
    go_roundw
    case rel => exact ⟨k + 1, o, (min x p, max y q), f, by omega, by go_num, rfl, by omega, HP2, HX2, HN2, HF2⟩
    case measure => simp [intOf]; omega
  ·
   obtain rfl : k = len := by omega
   have hdr : ps.drop k = [] := List.drop_of_length_le (by rw [HL.out]; omega)
   cases f
   ·
    have HV : Hid (o ++ [(x, y)] = put ps (xa, xb) false) := by
     have e := HN.out
     rw [hdr] at e
     exact e
    have hol2 : o.length ≤ k := HF.out rfl
    have b1 : wr.cell? ⟨w.heap.size, 0, none⟩ = some (.int .i64 x) := by rw [HP.out.box.cell]; rfl
    have b2 : wr.cell? ⟨w.heap.size, 1, none⟩ = some (.int .i64 y) := by rw [HP.out.box.cell]; rfl
    clear hdr
    go_wp2_with (first | go_skip | (with_reducible refine stopAppend2 rfl ?_))
    refine Stop.intro (wpList_append_own _ rfl _ _ 25 rfl (w.heap.size + 1) 81 t0 (.agg #[.int .i64 0, .int .i64 0]) 2 16 Try.underlying25 hi hz0 hz1 hz2 rfl (by decide) _ (o).length ((flat (o)).map (Value.int .i64)) rfl (HP.out.own.alloc _) ⟨wr.heap.size, 0, none⟩ 1 1 [.int .i64 x, .int .i64 y] rfl rfl (cell_new2 _ _ _ _) (by intro u hu; simp at hu; rcases hu with rfl | rfl <;> rfl) (by unfold maxLen; omega) (by omega) (by have := HP.out.box.lt; simp at this ⊢; omega) ?_)
    intro v2 w2 hown hgrow _
    have HP2 : Hid (PutAt w v2 (o ++ [(x, y)]) (x, y) w2) := HP.out.app hown hgrow
    clear hown hgrow
    go_wp2
    go_ret
    have e := HP2.out.own
    rw [HV.out] at e
    exact ⟨_, rfl, own_mono e (by omega), HP2.out.bel⟩
   ·
    have HV : Hid (o = put ps (xa, xb) false) := by
     have e := HN.out
     rw [hdr] at e
     show _ = _
     simpa [put] using e
    clear hdr
    go_wp2
    go_ret
    have e := HP.out.own
    rw [HV.out] at e
    exact ⟨_, rfl, own_mono e (by omega), HP.out.bel⟩
set_option maxRecDepth 200000 in
theorem l5Put_any (a : Option Addr) (len cap : Nat) (ps : Sp) (x0 : Int × Int) (F : List Nat) (w : World) (h : RdP w a len ps F) (hlen : len ≤ 2097152) (hin : ∀ k, k < len → InB (ps.at k)) (hx : InB x0) :
 Calls Try.prog 101 #[.slice a len cap, .agg #[.int .i64 x0.1, .int .i64 x0.2]] w fun e w' => NewP w (put ps x0 false) e w' :=
 (l5Put_own a len cap ps x0 F w h hlen hin hx).mono (fun _ _ h => by
  obtain ⟨v, rfl, h1, h2⟩ := h
  obtain ⟨a', c', F', rfl, hr, ho, hnn⟩ := rdP_of_own h1
  exact ⟨_, _, _, F', rfl, hr, ho, h2, hnn⟩)
end Go.Proofs.Ytgkbhhlkaifnoaa
/- The walks through the model's SetAdd and SetJoin. No statement of the seat is proved here. -/
namespace Go.Proofs.Ytgkbhhlkaifnoaa
open Go.RowKit
/-- A set and a word. -/
def NewP2 (w : World) (ps : Sp) (d : Bool) (e : Ending) (w' : World) : Prop :=
 ∃ a len cap F, e = .returned (.tuple #[.slice a len cap, .bool d]) ∧ RdP w' a len ps F ∧ Own w.heap.size w' F ∧ Below w.heap.size w w' ∧ Capd a len cap
theorem NewP.from {w w1 w' : World} {ps : Sp} {e : Ending} (hb : Below w.heap.size w w1) (h : NewP w1 ps e w') : NewP w ps e w' := by
 obtain ⟨a, len, cap, F, h1, h2, h3, h4, h5⟩ := h
 exact ⟨a, len, cap, F, h1, h2, h3.mono hb.size, Below.next hb h4, h5⟩
theorem cells_flat {w : World} {b off len : Nat} {ps : Sp} {F : List Nat} (h : RdP w (some ⟨b, off, none⟩) len ps F) (hp : 0 < len) : ∀ j v, ((flat ps).map (Value.int .i64))[j]? = some v → w.cell? ((⟨b, off, none⟩ : Addr).add j) = some v := by
 intro j v hj
 rcases h.rd.cells with ⟨h0, _⟩ | ⟨b', off', _, he, _, hc⟩
 ·
  omega
 ·
  obtain ⟨rfl, rfl⟩ : b = b' ∧ off = off' := by simpa using he
  have hjl : j < (flat ps).length := by
   have := (List.getElem?_eq_some_iff.1 hj).1
   simpa using this
  rw [flat_length, h.length] at hjl
  rw [sp_add, hc j hjl]
  rw [List.getElem?_map] at hj
  rw [List.getD_eq_getElem?_getD]
  have hjl' : j < (flat ps).length := by rw [flat_length, h.length]; exact hjl
  rw [List.getElem?_eq_getElem hjl'] at hj ⊢
  simpa using hj
set_option maxRecDepth 200000 in
set_option maxHeartbeats 1000000 in
theorem l5Copy_any (a : Option Addr) (len cap : Nat) (ps : Sp) (F : List Nat) (w : World) (h : RdP w a len ps F) (hlen : len ≤ 2097152) (hn : a = none → cap = 0) :
 Calls Try.prog 85 #[.slice a len cap] w fun e w' => NewP w ps e w' := by
 obtain ⟨t0, hi, hz0, hz1, hz2⟩ := info_parts infoSpan
 have HO : Hid ((w.alloc (.cells #[] 81)).ownsRow w.heap.size 81 2 (.slice (some ⟨w.heap.size, 0, none⟩) 0 0) 0 []) := own_empty2 w _
 have HB : Hid (Below w.heap.size w (w.alloc (.cells #[] 81))) := (Below.refl _ _).alloc (Nat.le_refl _) _
 cases a with
 | none =>
  obtain rfl : cap = 0 := hn rfl
  rcases h.cells with ⟨rfl, _, rfl⟩ | ⟨b, off, hp, e, _⟩
  rotate_left
  ·
   cases e
  clear h hn
  go_enter Try.func85, Try.ntmps85
  go_wp2_with (first | go_skip | (with_reducible refine stopAppend2 rfl ?_))
  refine Stop.intro (wpList_append_own_none rfl _ _ 25 rfl w.heap.size 81 t0 2 Try.underlying25 hi _ 0 [] rfl HO.out rfl ?_)
  go_wp2
  go_ret
  exact ⟨_, 0, 0, [], rfl, RdP.nil, Own.nil, HB.out, (fun e => by cases e), Nat.le_refl _⟩
 | some ad =>
  have HC : Hid (∀ j v, ((flat ps).map (Value.int .i64))[j]? = some v → (w.alloc (.cells #[] 81)).cell? (ad.add j) = some v) := by
   rcases h.cells with ⟨rfl, _, rfl⟩ | ⟨b, off, hp, e, _⟩
   ·
    exact fun j v hj => by simp [flat] at hj
   ·
    cases e
    exact cells_flat (h.below HB.out) hp
  have HL : Hid (((flat ps).map (Value.int .i64)).length = len * 2) := by
   show _ = _
   rw [List.length_map, flat_length, h.length]; omega
  clear h hn
  go_enter Try.func85, Try.ntmps85
  go_wp2_with (first | go_skip | (with_reducible refine stopAppend2 rfl ?_))
  refine Stop.intro (wpList_append_own _ rfl _ _ 25 rfl w.heap.size 81 t0 (.agg #[.int .i64 0, .int .i64 0]) 2 16 Try.underlying25 hi hz0 hz1 hz2 rfl (by decide) _ 0 [] rfl HO.out ad len cap ((flat ps).map (Value.int .i64)) rfl HL.out HC.out (by intro u hu; simp at hu; obtain ⟨z, _, rfl⟩ := hu; rfl) (by unfold maxLen; omega) (by omega) (by simp) ?_)
  intro v' w1 hown hgrow _
  have HN : Hid (w1.ownsRow w.heap.size 81 2 v' len ((flat ps).map (Value.int .i64)) ∧ Below w.heap.size w w1) := by
   refine ⟨by simpa using hown, HB.out.grown hgrow HB.out.size (fun k hk => (HO.out.lt k hk).1)⟩
  clear hown hgrow
  go_wp2
  go_ret
  obtain ⟨a', c', F', rfl, hr, ho, hnn⟩ := rdP_of_own HN.out.1
  exact ⟨_, _, _, F', rfl, hr, ho, HN.out.2, hnn⟩
def Sp.add (ps : Sp) (n : Int) : Sp × Bool := if ps.ok = true ∧ (0 ≤ n ∧ n ≤ 9999) ∧ ps.has n = false then (put ps (n, n) false, true) else (ps, false)
theorem ok_inb {ps : Sp} (h : ps.ok = true) : ∀ k, k < ps.length → InB (ps.at k) := fun k hk => by
 have := (Sp.okAt_parts (Sp.ok_at h k hk)).1
 unfold InB
 omega
end Go.Proofs.Ytgkbhhlkaifnoaa
/- The walks through the model's SetJoin. No statement of the seat is proved here. -/
namespace Go.Proofs.Ytgkbhhlkaifnoaa
open Go.RowKit
theorem Sp.at_mem {ps : Sp} {k : Nat} (hk : k < ps.length) : ps.at k ∈ ps := by
 unfold Sp.at
 rw [List.getElem?_eq_getElem hk]
 exact List.getElem_mem hk
theorem inb_iff {ps : Sp} : (∀ k, k < ps.length → InB (ps.at k)) ↔ ∀ p ∈ ps, InB p := by
 constructor
 ·
  intro h p hp
  obtain ⟨k, hk, rfl⟩ := List.getElem_of_mem hp
  have := h k hk
  unfold Sp.at at this
  rw [List.getElem?_eq_getElem hk] at this
  exact this
 ·
  exact fun h k hk => h _ (Sp.at_mem hk)
theorem put_inb : ∀ {ps : Sp} {x : Int × Int} {d : Bool}, (∀ p ∈ ps, InB p) → InB x → ∀ p ∈ put ps x d, InB p
 | [], x, d, _, hx, p, hp => by
  cases d <;> simp [put] at hp
  subst hp; exact hx
 | q :: ps, x, d, h, hx, p, hp => by
  have hq := h q (by simp)
  have hr : ∀ p ∈ ps, InB p := fun p hp => h p (by simp [hp])
  rw [put] at hp
  split at hp
  ·
   rcases List.mem_cons.1 hp with rfl | hp
   ·
    exact hq
   ·
    exact put_inb hr hx p hp
  ·
   split at hp
   ·
    rcases List.mem_append.1 hp with hp | hp
    ·
     cases d <;> simp at hp
     subst hp; exact hx
    ·
     rcases List.mem_cons.1 hp with rfl | hp
     ·
      exact hq
     ·
      exact put_inb hr hx p hp
   ·
    exact put_inb hr (by unfold InB at hq hx ⊢; simp only; omega) p hp
def joinTo (ps qs : Sp) (k : Nat) : Sp := (qs.take k).foldl (fun o q => put o q false) ps
theorem joinTo_zero (ps qs : Sp) : joinTo ps qs 0 = ps := by simp [joinTo]
theorem joinTo_succ {ps qs : Sp} {k : Nat} (hk : k < qs.length) : joinTo ps qs (k + 1) = put (joinTo ps qs k) (qs.at k) false := by
 unfold joinTo
 rw [takeP_succ qs k hk, List.foldl_append]
 rfl
theorem joinTo_inb {ps qs : Sp} (h1 : ∀ p ∈ ps, InB p) (h2 : ∀ p ∈ qs, InB p) : ∀ k, k ≤ qs.length → ∀ p ∈ joinTo ps qs k, InB p
 | 0, _ => by rw [joinTo_zero]; exact h1
 | k + 1, hk => by
  rw [joinTo_succ (by omega)]
  exact put_inb (joinTo_inb h1 h2 k (by omega)) (h2 _ (Sp.at_mem (by omega)))
theorem joinTo_length {ps qs : Sp} : ∀ k, k ≤ qs.length → (joinTo ps qs k).length ≤ ps.length + k
 | 0, _ => by rw [joinTo_zero]; omega
 | k + 1, hk => by
  rw [joinTo_succ (by omega)]
  have := put_length (joinTo ps qs k) (qs.at k) false
  have := joinTo_length (ps := ps) (qs := qs) k (by omega)
  omega
def Sp.join (ps qs : Sp) : Sp := if (ps.ok && qs.ok) = true then joinTo ps qs qs.length else []
theorem Sp.join_not {ps qs : Sp} (h : (ps.ok && qs.ok) = false) : ps.join qs = [] := by unfold Sp.join; rw [h]; rfl
theorem Sp.join_yes {ps qs : Sp} (h1 : ps.ok = true) (h2 : qs.ok = true) : ps.join qs = joinTo ps qs qs.length := by unfold Sp.join; rw [h1, h2]; rfl
set_option maxRecDepth 200000 in
set_option maxHeartbeats 2000000 in
theorem l5Join_any (a b : Option Addr) (la lb ca cb : Nat) (ps qs : Sp) (F G : List Nat) (w : World) (h : RdP w a la ps F) (k : RdP w b lb qs G) (hlen : la + lb ≤ 2097152) (hn : a = none → ca = 0) (h1 : ∀ p ∈ ps, InB p) (h2 : ∀ p ∈ qs, InB p) :
 Calls Try.prog 67 #[.slice a la ca, .slice b lb cb] w fun e w' => NewP w (joinTo ps qs qs.length) e w' := by
 have HL : Hid (ps.length = la ∧ qs.length = lb) := ⟨h.length, k.length⟩
 have HR : Hid (RdP w a la ps F ∧ RdP w b lb qs G) := ⟨h, k⟩
 have HI : Hid ((∀ p ∈ ps, InB p) ∧ (∀ p ∈ qs, InB p) ∧ (a = none → ca = 0)) := ⟨h1, h2, hn⟩
 clear h k h1 h2 hn
 go_enter Try.func67, Try.ntmps67
 go_wp2_with fail
 refine (l5Copy_any a la ca ps F _ HR.out.1 (by omega) HI.out.2.2).mono ?_
 rintro e w1 ⟨a', l', c', F', rfl, g1, g2, g3, g4⟩
 have HE : Hid (RdP w1 a' l' (joinTo ps qs 0) F' ∧ Own w.heap.size w1 F' ∧ Below w.heap.size w w1 ∧ Capd a' l' c') := ⟨by rw [joinTo_zero]; exact g1, g2, g3, g4⟩
 have HCB : Hid (lb = 0 ∨ ∃ b1 o1, b = some ⟨b1, o1, none⟩ ∧ b1 < w.heap.size ∧ SpCells w b1 o1 lb qs) := by
  rcases HR.out.2.cells with ⟨h0, _⟩ | ⟨b1, o1, hp, e, _, hc⟩
  ·
   exact .inl h0
  ·
   exact .inr ⟨b1, o1, e, World.block_lt_of_cell? _ _ (hc 0 hp).1, hc⟩
 clear g1 g2 g3 g4 HR
 go_wp2
 go_loopw [5, 6] (fun v i wr => ∃ (k : Nat) (a' : Option Addr) (l' c' : Nat) (F' : List Nat), k ≤ lb ∧ i = .int .i64 k ∧ v = .slice a' l' c' ∧ Hid (RdP wr a' l' (joinTo ps qs k) F' ∧ Own w.heap.size wr F' ∧ Below w.heap.size w wr ∧ Capd a' l' c')) (fun _ i _ => lb - (intOf i).toNat)
 case atStart => exact ⟨0, a', l', c', F', by omega, rfl, rfl, HE⟩
 case round =>
  clear HE
  obtain ⟨k, a', l', c', F', hk, rfl, rfl, HE⟩ := hrel
  by_cases hlt : k < lb
  ·
   have hcb := HCB.out
   rcases hcb with h0 | ⟨b1, o1, rfl, hbw, hc⟩
   ·
    omega
   obtain ⟨x, hx⟩ : ∃ x, x = (qs.at k).1 := ⟨_, rfl⟩
   obtain ⟨y, hy⟩ : ∃ x, x = (qs.at k).2 := ⟨_, rfl⟩
   have e := hc k hlt
   have HXY : Hid (qs.at k = (x, y)) := by rw [hx, hy]; rfl
   rw [HXY.out] at e
   have d1 : wr.cell? ⟨b1, o1 + k * 2, none⟩ = some (.int .i64 x) := (HE.out.2.2.1.cell (by exact hbw)).trans e.1
   have d2 : wr.cell? ⟨b1, o1 + k * 2 + 1, none⟩ = some (.int .i64 y) := (HE.out.2.2.1.cell (by exact hbw)).trans e.2
   have hql : k < qs.length := by rw [HL.out.2]; exact hlt
   clear e hx hy hc
   go_wp2_with fail
   refine (l5Put_any a' l' c' (joinTo ps qs k) (x, y) F' _ HE.out.1 (by have := joinTo_length (ps := ps) (qs := qs) k (by omega); rw [HE.out.1.length, HL.out.1] at this; omega) (fun j hj => inb_iff.2 (joinTo_inb HI.out.1 HI.out.2.1 k (by omega)) j (by rw [HE.out.1.length]; exact hj)) (by rw [← HXY.out]; exact HI.out.2.1 _ (Sp.at_mem hql))).mono ?_
   rintro e w2 ⟨a2, l2, c2, F2, rfl, g1, g2, g3, g4⟩
   have HE2 : Hid (RdP w2 a2 l2 (joinTo ps qs (k + 1)) F2 ∧ Own w.heap.size w2 F2 ∧ Below w.heap.size w w2 ∧ Capd a2 l2 c2) := ⟨by rw [joinTo_succ hql, HXY.out]; exact g1, g2.mono HE.out.2.2.1.size, Below.next HE.out.2.2.1 g3, g4⟩
   clear g1 g2 g3 g4 HE
   go_wp2
   go_roundw
   case rel => exact ⟨k + 1, a2, l2, c2, F2, by omega, by go_num, rfl, HE2⟩
   case measure => simp [intOf]; omega
  ·
   obtain rfl : k = lb := by omega
   go_wp2
   go_ret
   refine ⟨a', l', c', F', rfl, ?_, HE.out.2⟩
   rw [HL.out.2]
   exact HE.out.1
end Go.Proofs.Ytgkbhhlkaifnoaa
/- The walks through the model's drawing of sets. No statement of the seat is proved here. -/
namespace Go.Proofs.Ytgkbhhlkaifnoaa
open Go.RowKit
theorem grow_below {w w' : World} (g : Nat) (b : Below w.heap.size w w') : w.grownBy w' (some g) := ⟨b.os, b.tape, b.output, b.size, fun k hk _ => b.block k hk⟩
theorem ownsKeep {w w' : World} {B e size g : Nat} {v : Value} {n : Nat} {xs : List Value} (h : w.ownsRow B e size v n xs) (k : w.grownBy w' (some g)) (hg : g < B) : w'.ownsRow B e size v n xs := by
 refine ⟨h.1, ?_⟩
 rcases h.2 with e | ⟨b, cap, cur, h1, h2, h3, h4⟩
 ·
  exact .inl e
 ·
  refine .inr ⟨b, cap, cur, h1, h2, ?_, h4⟩
  have hb : b < w.heap.size := by
   by_cases hb : b < w.heap.size
   ·
    exact hb
   ·
    rw [Array.getElem?_eq_none (by omega)] at h3; cases h3
  rw [k.block b hb (fun e => by simp at e; omega)]
  exact h3
theorem ownsBelow {w w' : World} {B e size : Nat} {v : Value} {n : Nat} {xs : List Value} (h : w.ownsRow B e size v n xs) (k : Below w.heap.size w w') : w'.ownsRow B e size v n xs := by
 refine ⟨h.1, ?_⟩
 rcases h.2 with e | ⟨b, cap, cur, h1, h2, h3, h4⟩
 ·
  exact .inl e
 ·
  refine .inr ⟨b, cap, cur, h1, h2, ?_, h4⟩
  have hb : b < w.heap.size := by
   by_cases hb : b < w.heap.size
   ·
    exact hb
   ·
    rw [Array.getElem?_eq_none (by omega)] at h3; cases h3
  rw [k.block b hb]
  exact h3
set_option maxRecDepth 200000 in
theorem RdP.grown {w W : World} {B q : Nat} {a : Option Addr} {len : Nat} {ps : Sp} {F : List Nat} (h : RdP w a len ps F) (hF : ∀ b ∈ F, B ≤ b) (k : w.grownBy W (some q)) (hq : q < B) : RdP W a len ps F := h.agree (fun b hb => k.block b (h.lt b hb) (fun e => by have := hF b hb; simp at e; omega))
set_option maxRecDepth 200000 in
theorem once_any (g : Nat) (a : Option Addr) (len cap : Nat) (zs : List Int) (i h : Int) (n : Int) (w : World) (C : Cur w g a len cap zs i h) (hlen : len ≤ 1048576) (hn : 0 < n) (hn' : n ≤ 2147483647) :
 Calls Try.prog 60 #[.pointer (some ⟨g, 0, none⟩), .int .i64 n] w fun e w' => ∃ b i' h', e = .returned (.bool b) ∧ Cur w' g a len cap zs i' h' ∧ w.grownBy w' (some g) := by
 have HC : Hid (Cur w g a len cap zs i h) := C
 clear C
 go_enter Try.func60, Try.ntmps60
 go_wp2_with fail
 refine (l1Below_any g a len cap zs i h n _ HC.out hlen hn hn').mono ?_
 rintro e w1 ⟨x, i1, h1, rfl, _, _, C1, g1⟩
 have HC1 : Hid (Cur w1 g a len cap zs i1 h1 ∧ w.grownBy w1 (some g)) := ⟨C1, g1⟩
 clear C1 g1
 go_wp2
 go_ret
 exact ⟨_, i1, h1, rfl, HC1.out.1, HC1.out.2⟩
/-- Midway in a drawing: the set so far, the cursor. -/
structure DrP (w : World) (q : Nat) (a : Option Addr) (len cap : Nat) (zs : List Int) (v : Value) (ps : Sp) (W : World) : Prop where
 own : W.ownsRow w.heap.size 81 2 v ps.length ((flat ps).map (Value.int .i64))
 cur : ∃ i h, Cur W q a len cap zs i h
 grown : w.grownBy W (some q)
 lt : q < w.heap.size
theorem DrP.next {w : World} {q : Nat} {a : Option Addr} {len cap : Nat} {zs : List Int} {v : Value} {ps : Sp} {W W' : World} {i h : Int} (D : DrP w q a len cap zs v ps W) (C : Cur W' q a len cap zs i h) (g : W.grownBy W' (some q)) : DrP w q a len cap zs v ps W' :=
 ⟨ownsKeep D.own g D.lt, ⟨i, h, C⟩, grown_tr D.grown g, D.lt⟩
theorem DrP.below {w : World} {q : Nat} {a : Option Addr} {len cap : Nat} {zs : List Int} {v : Value} {ps : Sp} {W W' : World} (D : DrP w q a len cap zs v ps W) (b : Below W.heap.size W W') : DrP w q a len cap zs v ps W' := by
 obtain ⟨i, h, C⟩ := D.cur
 exact ⟨ownsBelow D.own b, ⟨i, h, C.keep b⟩, grown_tr D.grown (grow_below q b), D.lt⟩
theorem DrP.alloc {w : World} {q : Nat} {a : Option Addr} {len cap : Nat} {zs : List Int} {v : Value} {ps : Sp} {W : World} (D : DrP w q a len cap zs v ps W) (o : Obj) : DrP w q a len cap zs v ps (W.alloc o) := D.below (Below.allocW _ (Below.refl _ _) (Nat.le_refl _))
/-- What a drawing of a set tells. -/
def DrewP (w : World) (q : Nat) (a : Option Addr) (len cap : Nat) (zs : List Int) (n : Nat) (e : Ending) (w' : World) : Prop := ∃ v ps, e = .returned v ∧ DrP w q a len cap zs v ps w' ∧ ps.length ≤ n ∧ v ≠ .slice none 0 0 ∧ ps.fit
theorem fit_of_inb {ps : Sp} (h : ∀ p ∈ ps, InB p) : ps.fit := fun p hp => by
 have q := h p hp
 exact ⟨⟨by have := q.1.1; omega, by have := q.1.2; omega⟩, ⟨by have := q.2.1; have := q.1.1; omega, by have := q.2.2; omega⟩⟩
theorem list3 {x y z u : Int} (h : u ∈ [x, y, z]) : u = x ∨ u = y ∨ u = z := by simpa using h
theorem put_ne (W : World) (B e n : Nat) (v : Value) (xs : List Value) (h : W.ownsRow B e 2 v n xs) (hn : 0 < n) : v ≠ .slice none 0 0 := by
 rcases h.2 with ⟨_, h0⟩ | ⟨b, cap, cur, h1, _⟩
 ·
  omega
 ·
  rw [h1]; intro e; cases e
theorem put_pos : ∀ (ps : Sp) (x : Int × Int), 0 < (put ps x false).length
 | [], x => by simp [put]
 | p :: ps, x => by
  rw [put]
  split
  ·
   simp
  ·
   split
   ·
    simp
   ·
    exact put_pos ps _
set_option maxRecDepth 100000 in
set_option maxHeartbeats 4000000 in
theorem l5Right_any (q : Nat) (a : Option Addr) (len cap : Nat) (zs : List Int) (i h : Int) (w : World) (C : Cur w q a len cap zs i h) (hlen : len ≤ 1048576) :
 Calls Try.prog 109 #[.pointer (some ⟨q, 0, none⟩)] w fun e w' => DrewP w q a len cap zs 7 e w' := by
 have hq : q < w.heap.size := World.block_lt_of_cell? _ _ C.c0
 have HD0 : Hid (DrP w q a len cap zs (.slice (some ⟨w.heap.size, 0, none⟩) 0 0) [] (w.alloc (.cells #[] 81))) := ⟨own_empty2 w _, ⟨i, h, C.alloc _⟩, grow_below q ((Below.refl _ _).alloc (Nat.le_refl _) _), hq⟩
 have HC0 : Hid (Cur (w.alloc (.cells #[] 81)) q a len cap zs i h) := C.alloc _
 clear C
 go_enter Try.func109, Try.ntmps109
 go_wp2_with fail
 refine (l1Below_any q a len cap zs i h 7 _ HC0.out hlen (by omega) (by omega)).mono ?_
 rintro e w1 ⟨m, i1, h1, rfl, m0, m1, C1, g1⟩
 have HD1 : Hid (DrP w q a len cap zs (.slice (some ⟨w.heap.size, 0, none⟩) 0 0) [] w1) := HD0.out.next C1 g1
 clear C1 g1 HD0 HC0
 go_wp2
 go_loopw [3, 5] (fun v i wr => ∃ (k : Nat) (ps : Sp), (k : Int) ≤ m ∧ i = .int .i64 k ∧ ps.length ≤ k ∧ Hid (DrP w q a len cap zs v ps wr ∧ v ≠ .slice none 0 0) ∧ Hid (∀ p ∈ ps, InB p)) (fun _ i _ => (m - intOf i).toNat)
 case atStart => exact ⟨0, [], by omega, rfl, by simp, ⟨HD1.out, fun e => by cases e⟩, by intro p hp; simp at hp⟩
 case round =>
  clear HD1
  obtain ⟨k, ps, hk, rfl, hpl, HD, HIN⟩ := hrel
  by_cases hlt : (k : Int) < m
  ·
   have hcd : decide ((k : Int) < m) = true := decT hlt
   obtain ⟨i2, h2, C2⟩ := HD.out.1.cur
   go_wp2_with fail
   refine (l1Below_any q a len cap zs i2 h2 20 _ C2 hlen (by omega) (by omega)).mono ?_
   rintro e w2 ⟨x1, i3, h3, rfl, x10, x11, C3, g3⟩
   have HD2 : Hid (DrP w q a len cap zs u3 ps w2) := HD.out.1.next C3 g3
   clear g3 C2
   go_wp2_with fail
   refine (l1Below_any q a len cap zs i3 h3 20 _ C3 hlen (by omega) (by omega)).mono ?_
   rintro e w3 ⟨x2, i4, h4, rfl, x20, x21, C4, g4⟩
   have HD3 : Hid (DrP w q a len cap zs u3 ps w3) := HD2.out.next C4 g4
   clear g4 C3 HD2
   go_wp2_with fail
   refine (l1Below_any q a len cap zs i4 h4 10 _ C4 hlen (by omega) (by omega)).mono ?_
   rintro e w4 ⟨x3, i5, h5, rfl, x30, x31, C5, g5⟩
   have HD4 : Hid (DrP w q a len cap zs u3 ps w4) := HD3.out.next C5 g5
   have HC5 : Hid (Cur w4 q a len cap zs i5 h5) := C5
   clear g5 C4 C5 HD3
   go_wp2_with fail
   have hqw4 : q < w4.heap.size := World.block_lt_of_cell? _ _ HC5.out.c0
   refine (pickInt_cur q w4.heap.size 3 a len cap zs i5 h5 [x1, x2, 9990 + x3] _ (HC5.out.alloc _) hlen (fun j hj => lit_ints w4 [x1, x2, 9990 + x3] _ j hj) (by omega) 3 rfl (by omega) (by omega)).mono ?_
   rintro e w5 ⟨y, i6, h6, hy, rfl, C6, g6⟩
   have HD5 : Hid (DrP w q a len cap zs u3 ps w5) := (HD4.out.alloc _).next C6 g6
   have HC6 : Hid (Cur w5 q a len cap zs i6 h6) := C6
   have hy3 := list3 hy
   have y0 : 0 ≤ y := by omega
   have y1 : y ≤ 9999 := by omega
   clear g6 C6 HD4 HC5 hy hy3 x10 x11 x20 x21 x30 x31 hqw4
   go_wp2_with fail
   refine (l1Below_any q a len cap zs i6 h6 3 _ HC6.out hlen (by omega) (by omega)).mono ?_
   rintro e w6 ⟨z, i7, h7, rfl, z0, z1, C7, g7⟩
   have HD6 : Hid (DrP w q a len cap zs u3 ps w6) := HD5.out.next C7 g7
   clear g7 C7 HD5 HC6
   go_wp2_with fail
   refine (l1Min_any _ _ _).mono ?_
   rintro e w7 ⟨rfl, hw7⟩
   have hw7' := hw7.symm
   subst hw7'
   clear hw7
   obtain ⟨t, ht⟩ : ∃ t, t = min (y + z) 9999 := ⟨_, rfl⟩
   rw [← ht]
   have HT : Hid (InB (y, t)) := by rw [ht]; exact ⟨⟨y0, y1⟩, by simp only; omega, by simp only; omega⟩
   clear ht
   obtain ⟨a', c', F', hv, hr, ho, hnn⟩ := rdP_of_own HD6.out.own
   have HV : Hid (u3 = .slice a' ps.length c' ∧ RdP w6 a' ps.length ps F') := ⟨hv, hr⟩
   clear hr ho hnn
   subst hv
   go_wp2_with fail
   refine (l5Put_own a' ps.length c' ps (y, t) F' _ HV.out.2 (by omega) (fun k hk => HIN.out _ (Sp.at_mem hk)) HT.out).mono ?_
   rintro e w8 ⟨v8, rfl, own8, bel8⟩
   have HD8 : Hid (DrP w q a len cap zs v8 (put ps (y, t) false) w8 ∧ v8 ≠ .slice none 0 0) := by
    have := HD6.out.below bel8
    exact ⟨⟨own_mono own8 HD6.out.grown.size, this.cur, this.grown, this.lt⟩, put_ne _ _ _ _ _ _ own8 (put_pos _ _)⟩
   have HIN8 : Hid (∀ p ∈ put ps (y, t) false, InB p) := put_inb HIN.out HT.out
   have hpl8 := put_length ps (y, t) false
   clear own8 bel8 HD6 HV
   go_wp2
   go_roundw
   case rel => exact ⟨k + 1, put ps (y, t) false, by omega, by go_num, by omega, HD8, HIN8⟩
   case measure => simp [intOf]; omega
  ·
   have hcd : decide ((k : Int) < m) = false := decF hlt
   go_wp2
   go_ret
   exact ⟨_, ps, rfl, HD.out.1, by omega, HD.out.2, fit_of_inb HIN.out⟩
end Go.Proofs.Ytgkbhhlkaifnoaa
/- The walks through the model's drawing of two sets, and of a set and a number. No statement of the seat is proved here. -/
namespace Go.Proofs.Ytgkbhhlkaifnoaa
open Go.RowKit
theorem cur_agree5 {w w' : World} {g : Nat} {a : Option Addr} {len cap : Nat} {zs : List Int} {i h : Int} (C : Cur w g a len cap zs i h) (_hg : g < w.heap.size) (e : w'.heap[g]? = w.heap[g]?) (hb : ∀ b, b < w.heap.size → (∃ off, a = some ⟨b, off, none⟩ ∧ 0 < len) → w'.heap[b]? = w.heap[b]?) : Cur w' g a len cap zs i h := by
 refine ⟨(World.cell?_of_block (w := w) (a := ⟨g, 0, none⟩) e).trans C.c0, (World.cell?_of_block (w := w) (a := ⟨g, 1, none⟩) e).trans C.c1, (World.cell?_of_block (w := w) (a := ⟨g, 2, none⟩) e).trans C.c2, (World.frozen?_of_block (w := w) (a := ⟨g, 1, none⟩) e).trans C.f1, (World.frozen?_of_block (w := w) (a := ⟨g, 2, none⟩) e).trans C.f2, C.i0, C.i1, ?_, C.ap⟩
 refine ⟨C.rd.length, C.rd.range, ?_⟩
 rcases C.rd.cells with h0 | ⟨b, off, ha, hc⟩
 ·
  exact .inl h0
 ·
  by_cases hl : len = 0
  ·
   exact .inl hl
  ·
   have hlt : b < w.heap.size := World.block_lt_of_cell? _ _ (hc 0 (by omega))
   exact .inr ⟨b, off, ha, fun j hj => (World.cell?_of_block (w := w) (a := ⟨b, off + j, none⟩) (hb b hlt ⟨off, ha, by omega⟩)).trans (hc j hj)⟩
theorem cur_lt5 {w : World} {q : Nat} {a : Option Addr} {len cap : Nat} {zs : List Int} {i h : Int} (C : Cur w q a len cap zs i h) (b : Nat) (hb : ∃ off, a = some ⟨b, off, none⟩ ∧ 0 < len) : b < w.heap.size := by
 obtain ⟨off, ha, hp⟩ := hb
 rcases C.rd.cells with h0 | ⟨b', off', ha', hc⟩
 ·
  omega
 ·
  rw [ha] at ha'
  cases ha'
  exact World.block_lt_of_cell? _ _ (hc 0 hp)
theorem DrP.app {w : World} {q : Nat} {a : Option Addr} {len cap : Nat} {zs : List Int} {v v' : Value} {ps : Sp} {W W' : World} {y z : Int} {ob : Obj} (D : DrP w q a len cap zs v ps W) (ha : ∀ b, (∃ off, a = some ⟨b, off, none⟩ ∧ 0 < len) → b < w.heap.size) (hown : W'.ownsRow w.heap.size 81 2 v' (ps.length + 1) ((flat ps).map (Value.int .i64) ++ [.int .i64 y, .int .i64 z])) (hgrow : (W.alloc ob).grownBy W' v.ownBlock) : DrP w q a len cap zs v' (ps ++ [(y, z)]) W' := by
 have D' := D.alloc ob
 obtain ⟨i, h, C⟩ := D'.cur
 have hne : ∀ k, k < w.heap.size → some k ≠ v.ownBlock := fun k hk e => by have := (D'.own.lt k e.symm).1; omega
 have hs := D'.grown.size
 have hq := D'.lt
 refine ⟨?_, ⟨i, h, ?_⟩, ⟨hgrow.os.trans D'.grown.os, hgrow.tape.trans D'.grown.tape, hgrow.output.trans D'.grown.output, Nat.le_trans D'.grown.size hgrow.size, fun k hk hn => (hgrow.block k (by omega) (hne k hk)).trans (D'.grown.block k hk hn)⟩, D.lt⟩
 ·
  rw [flat_append, List.map_append, List.length_append]
  exact hown
 ·
  exact cur_agree5 C (by omega) (hgrow.block q (by omega) (hne q hq)) (fun b hb hx => hgrow.block b hb (hne b (ha b hx)))
set_option maxRecDepth 100000 in
set_option maxHeartbeats 4000000 in
theorem l5Draw_any (q : Nat) (a : Option Addr) (len cap : Nat) (zs : List Int) (i h : Int) (w : World) (C : Cur w q a len cap zs i h) (hlen : len ≤ 1048576) :
 Calls Try.prog 83 #[.pointer (some ⟨q, 0, none⟩)] w fun e w' => DrewP w q a len cap zs 8 e w' := by
 obtain ⟨t0, hi, hz0, hz1, hz2⟩ := info_parts infoSpan
 have HC : Hid (Cur w q a len cap zs i h) := C
 have HA : Hid (∀ b, (∃ off, a = some ⟨b, off, none⟩ ∧ 0 < len) → b < w.heap.size) := cur_lt5 C
 clear C
 go_enter Try.func83, Try.ntmps83
 go_wp2_with fail
 refine (l5Right_any q a len cap zs i h _ HC.out hlen).mono ?_
 rintro e w1 ⟨v, ps, rfl, D1, hl1, hne1, hf1⟩
 have HF1 : Hid ps.fit := hf1
 have HD1 : Hid (DrP w q a len cap zs v ps w1 ∧ v ≠ .slice none 0 0) := ⟨D1, hne1⟩
 clear D1 hne1 hf1 HC
 obtain ⟨i1, h1, C1⟩ := HD1.out.1.cur
 go_wp2_with fail
 refine (once_any q a len cap zs i1 h1 8 _ C1 hlen (by omega) (by omega)).mono ?_
 rintro e w2 ⟨b, i2, h2, rfl, C2, g2⟩
 have HD2 : Hid (DrP w q a len cap zs v ps w2) := HD1.out.1.next C2 g2
 have HC2 : Hid (Cur w2 q a len cap zs i2 h2) := C2
 clear C1 C2 g2
 cases b
 ·
  go_wp2
  go_ret
  exact ⟨_, ps, rfl, HD2.out, by omega, HD1.out.2, HF1.out⟩
 go_wp2_with fail
 have hqw2 : q < w2.heap.size := World.block_lt_of_cell? _ _ HC2.out.c0
 refine (pickInt_cur q w2.heap.size 3 a len cap zs i2 h2 [-1, 3, 10000] _ (HC2.out.alloc _) hlen (fun j hj => lit_ints w2 [-1, 3, 10000] _ j hj) (by omega) 3 rfl (by omega) (by omega)).mono ?_
 rintro e w3 ⟨y, i3, h3, hy, rfl, C3, g3⟩
 have HY : Hid (Fit64 y) := by rcases list3 hy with rfl | rfl | rfl <;> exact ⟨by omega, by omega⟩
 clear hy
 have HD3 : Hid (DrP w q a len cap zs v ps w3) := (HD2.out.alloc _).next C3 g3
 have HC3 : Hid (Cur w3 q a len cap zs i3 h3) := C3
 clear C3 g3 HD2 HC2 hqw2
 go_wp2_with fail
 have hqw3 : q < w3.heap.size := World.block_lt_of_cell? _ _ HC3.out.c0
 refine (pickInt_cur q w3.heap.size 3 a len cap zs i3 h3 [5, 10000, 9223372036854775807] _ (HC3.out.alloc _) hlen (fun j hj => lit_ints w3 [5, 10000, 9223372036854775807] _ j hj) (by omega) 3 rfl (by omega) (by omega)).mono ?_
 rintro e w4 ⟨z, i4, h4, hz, rfl, C4, g4⟩
 have HZ : Hid (Fit64 z) := by rcases list3 hz with rfl | rfl | rfl <;> exact ⟨by omega, by omega⟩
 clear hz
 have HD4 : Hid (DrP w q a len cap zs v ps w4) := (HD3.out.alloc _).next C4 g4
 clear C4 g4 HD3 HC3 hqw3
 have hsz : w.heap.size ≤ w4.heap.size := HD4.out.grown.size
 go_wp2_with (first | go_skip | (with_reducible refine stopAppend2 rfl ?_))
 refine Stop.intro (wpList_append_own _ rfl _ _ 25 rfl w.heap.size 81 t0 (.agg #[.int .i64 0, .int .i64 0]) 2 16 Try.underlying25 hi hz0 hz1 hz2 rfl (by decide) _ ps.length ((flat ps).map (Value.int .i64)) rfl (HD4.out.own.alloc _) ⟨w4.heap.size, 0, none⟩ 1 1 [.int .i64 y, .int .i64 z] rfl rfl (cell_new2 _ _ _ _) (by intro u hu; simp at hu; rcases hu with rfl | rfl <;> rfl) (by unfold maxLen; omega) (by omega) (by simp; omega) ?_)
 intro v5 w5 hown hgrow _
 have HD5 : Hid (DrP w q a len cap zs v5 (ps ++ [(y, z)]) w5 ∧ v5 ≠ .slice none 0 0) := ⟨HD4.out.app HA.out hown hgrow, put_ne _ _ _ _ _ _ hown (by omega)⟩
 clear hown hgrow HD4
 go_wp2
 go_ret
 exact ⟨_, ps ++ [(y, z)], rfl, HD5.out.1, by simp; omega, HD5.out.2, fun p hp => (List.mem_append.1 hp).elim (HF1.out p) (fun hp => by rw [List.mem_singleton.1 hp]; exact ⟨HY.out, HZ.out⟩)⟩
/-- A drawn set, as the law has it. -/
structure SetAt (W : World) (a : Option Addr) (l c : Nat) (ps : Sp) : Prop where
 rd : ∃ F, RdP W a l ps F
 len : l ≤ 8
 cap : l ≤ c
 some : a = none → c = 0
theorem SetAt.below {W W' : World} {a : Option Addr} {l c : Nat} {ps : Sp} (h : SetAt W a l c ps) (b : Below W.heap.size W W') : SetAt W' a l c ps := by
 obtain ⟨F, hF⟩ := h.rd
 exact ⟨⟨F, hF.below b⟩, h.len, h.cap, h.some⟩
theorem DrP.at {w : World} {q : Nat} {a : Option Addr} {len cap : Nat} {zs : List Int} {v : Value} {ps : Sp} {W : World} (D : DrP w q a len cap zs v ps W) (hn : ps.length ≤ 8) (hne : v ≠ .slice none 0 0) : ∃ g c, v = .slice (some ⟨g, 0, none⟩) ps.length c ∧ SetAt W (some ⟨g, 0, none⟩) ps.length c ps ∧ ∃ F, RdP W (some ⟨g, 0, none⟩) ps.length ps F ∧ ∀ b ∈ F, w.heap.size ≤ b := by
 obtain ⟨a', c', F, e, hr, ho, _⟩ := rdP_of_own D.own
 rcases D.own.2 with ⟨e2, _⟩ | ⟨g, cp, cur, e2, h2, h3, h4, _⟩
 ·
  exact absurd e2 hne
 ·
  rw [e2] at e
  cases e
  exact ⟨g, c', e2, ⟨⟨F, hr⟩, hn, h4, fun e => by cases e⟩, F, hr, ho.ge⟩
end Go.Proofs.Ytgkbhhlkaifnoaa
/- Slices of structs, whatever an element holds, as plain data. No statement of the seat is proved here. -/
namespace Go.Proofs.Ytgkbhhlkaifnoaa
open Go.RowKit
/-- What an element is: how many cells it has, and how its value is read. -/
structure ElK (α : Type) where
 n : Nat
 R : World → Value → α → List Nat → Prop
 agree : ∀ {w w' : World} {v : Value} {x : α} {F : List Nat}, R w v x F → Agree w w' F → R w' v x F
 lt : ∀ {w : World} {v : Value} {x : α} {F : List Nat}, R w v x F → ∀ b ∈ F, b < w.heap.size
 cells : ∀ {w : World} {v : Value} {x : α} {F : List Nat}, R w v x F → ∃ cs : Array Value, v = .agg cs ∧ cs.size = n ∧ cs.all (·.oneCell') = true
 pos : 0 < n
section
variable {α : Type} (K : ElK α)
/-- From off on block b holds these elements. -/
def RdEls (w : World) (b : Nat) : List α → Nat → List Nat → Prop
 | [], _, F => F = []
 | x :: xs, off, F => ∃ (cs : Array Value) (F1 F2 : List Nat), cs.size = K.n ∧ (∀ j, j < K.n → w.cell? ⟨b, off + j, none⟩ = cs[j]?) ∧ K.R w (.agg cs) x F1 ∧ RdEls w b xs (off + K.n) F2 ∧ F = F1 ++ F2
/-- The cells of several elements, one behind the other. -/
def RdC (w : World) : List α → List Value → List Nat → Prop
 | [], vs, F => vs = [] ∧ F = []
 | x :: xs, vs, F => ∃ (cs : Array Value) (vs' : List Value) (F1 F2 : List Nat), vs = cs.toList ++ vs' ∧ cs.size = K.n ∧ K.R w (.agg cs) x F1 ∧ RdC w xs vs' F2 ∧ F = F1 ++ F2
/-- A slice of such elements that can be read; F: its block, and theirs. -/
structure RdL (w : World) (a : Option Addr) (len : Nat) (xs : List α) (F : List Nat) : Prop where
 length : xs.length = len
 cells : (len = 0 ∧ F = []) ∨ ∃ b off F', 0 < len ∧ a = some ⟨b, off, none⟩ ∧ F = b :: F' ∧ RdEls K w b xs off F'
end
section
variable {α : Type} {K : ElK α} {w w' : World}
theorem RdEls.agree : ∀ {xs : List α} {b off : Nat} {F : List Nat}, RdEls K w b xs off F → w'.heap[b]? = w.heap[b]? → Agree w w' F → RdEls K w' b xs off F
 | [], b, off, F, h, _, _ => h
 | x :: xs, b, off, F, h, hb, ha => by
  obtain ⟨cs, F1, F2, h1, h2, h3, h4, rfl⟩ := h
  exact ⟨cs, F1, F2, h1, fun j hj => (World.cell?_of_block (w := w) (a := ⟨b, off + j, none⟩) hb).trans (h2 j hj), K.agree h3 ha.left, RdEls.agree h4 hb ha.right, rfl⟩
theorem RdEls.lt : ∀ {xs : List α} {b off : Nat} {F : List Nat}, RdEls K w b xs off F → ∀ x ∈ F, x < w.heap.size
 | [], b, off, F, h => by rw [RdEls] at h; simp [h]
 | x :: xs, b, off, F, h => by
  obtain ⟨cs, F1, F2, h1, h2, h3, h4, rfl⟩ := h
  intro y hy
  rcases List.mem_append.1 hy with hy | hy
  ·
   exact K.lt h3 y hy
  ·
   exact RdEls.lt h4 y hy
theorem RdEls.get : ∀ {xs : List α} {b off : Nat} {F : List Nat}, RdEls K w b xs off F → ∀ (i : Nat) (hi : i < xs.length), ∃ (cs : Array Value) (Fi : List Nat), cs.size = K.n ∧ (∀ j, j < K.n → w.cell? ⟨b, off + i * K.n + j, none⟩ = cs[j]?) ∧ K.R w (.agg cs) xs[i] Fi ∧ ∀ y ∈ Fi, y ∈ F
 | [], b, off, F, h, i, hi => by simp at hi
 | x :: xs, b, off, F, h, i, hi => by
  obtain ⟨cs, F1, F2, h1, h2, h3, h4, rfl⟩ := h
  cases i with
  | zero => exact ⟨cs, F1, h1, fun j hj => by rw [Nat.zero_mul, Nat.add_zero]; exact h2 j hj, h3, fun y hy => List.mem_append_left _ hy⟩
  | succ i =>
   obtain ⟨ds, Fi, k1, k2, k3, k4⟩ := RdEls.get h4 i (by simpa using hi)
   refine ⟨ds, Fi, k1, fun j hj => ?_, k3, fun y hy => List.mem_append_right _ (k4 y hy)⟩
   rw [show off + (i + 1) * K.n + j = off + K.n + i * K.n + j by rw [Nat.succ_mul]; omega]
   exact k2 j hj
theorem RdEls.first {x : α} {xs : List α} {b off : Nat} {F : List Nat} (h : RdEls K w b (x :: xs) off F) : b < w.heap.size := by
 obtain ⟨cs, F1, F2, h1, h2, _⟩ := h
 have c := h2 0 K.pos
 rw [Array.getElem?_eq_getElem (by rw [h1]; exact K.pos)] at c
 exact World.block_lt_of_cell? _ _ c
theorem RdL.agree {a : Option Addr} {len : Nat} {xs : List α} {F : List Nat} (h : RdL K w a len xs F) (ha : Agree w w' F) : RdL K w' a len xs F := by
 refine ⟨h.length, ?_⟩
 rcases h.cells with h0 | ⟨b, off, F', hp, e, rfl, hm⟩
 ·
  exact .inl h0
 ·
  exact .inr ⟨b, off, F', hp, e, rfl, hm.agree (ha b List.mem_cons_self) (fun x hx => ha x (List.mem_cons_of_mem _ hx))⟩
theorem RdL.lt {a : Option Addr} {len : Nat} {xs : List α} {F : List Nat} (h : RdL K w a len xs F) : ∀ b ∈ F, b < w.heap.size := by
 rcases h.cells with ⟨_, rfl⟩ | ⟨b, off, F', hp, e, rfl, hm⟩
 ·
  simp
 ·
  intro x hx
  rcases List.mem_cons.1 hx with rfl | hx
  ·
   cases xs with
   | nil => have := h.length; simp at this; omega
   | cons y ys => exact hm.first
  ·
   exact hm.lt x hx
theorem RdL.below {a : Option Addr} {len : Nat} {xs : List α} {F : List Nat} (h : RdL K w a len xs F) (hb : Below w.heap.size w w') : RdL K w' a len xs F := h.agree (.below hb h.lt)
theorem RdL.nil : RdL K w none 0 [] [] := ⟨rfl, .inl ⟨rfl, rfl⟩⟩
theorem RdL.zero {a : Option Addr} : RdL K w a 0 [] [] := ⟨rfl, .inl ⟨rfl, rfl⟩⟩
/-- One of its elements: its cells, what they hold. -/
theorem RdL.get {a : Option Addr} {len : Nat} {xs : List α} {F : List Nat} (h : RdL K w a len xs F) (i : Nat) (hi : i < len) : ∃ b off, a = some ⟨b, off, none⟩ ∧ b ∈ F ∧ ∃ (cs : Array Value) (Fi : List Nat), cs.size = K.n ∧ (∀ j, j < K.n → w.cell? ⟨b, off + i * K.n + j, none⟩ = cs[j]?) ∧ (∀ x, xs[i]? = some x → K.R w (.agg cs) x Fi) ∧ ∀ y ∈ Fi, y ∈ F := by
 rcases h.cells with ⟨h0, _⟩ | ⟨b, off, F', hp, e, rfl, hm⟩
 ·
  omega
 ·
  obtain ⟨cs, Fi, k1, k2, k3, k4⟩ := hm.get i (by rw [h.length]; exact hi)
  refine ⟨b, off, e, List.mem_cons_self, cs, Fi, k1, k2, fun x hx => ?_, fun y hy => List.mem_cons_of_mem _ (k4 y hy)⟩
  rw [List.getElem?_eq_getElem (by rw [h.length]; exact hi)] at hx
  cases hx
  exact k3
theorem RdC.agree : ∀ {xs : List α} {vs : List Value} {F : List Nat}, RdC K w xs vs F → Agree w w' F → RdC K w' xs vs F
 | [], vs, F, h, _ => h
 | x :: xs, vs, F, h, ha => by
  obtain ⟨cs, vs', F1, F2, h1, h2, h3, h4, rfl⟩ := h
  exact ⟨cs, vs', F1, F2, h1, h2, K.agree h3 ha.left, RdC.agree h4 ha.right, rfl⟩
theorem RdC.lt : ∀ {xs : List α} {vs : List Value} {F : List Nat}, RdC K w xs vs F → ∀ x ∈ F, x < w.heap.size
 | [], vs, F, h => by rw [RdC] at h; simp [h.2]
 | x :: xs, vs, F, h => by
  obtain ⟨cs, vs', F1, F2, h1, h2, h3, h4, rfl⟩ := h
  intro y hy
  rcases List.mem_append.1 hy with hy | hy
  ·
   exact K.lt h3 y hy
  ·
   exact RdC.lt h4 y hy
theorem RdC.below {xs : List α} {vs : List Value} {F : List Nat} (h : RdC K w xs vs F) (hb : Below w.heap.size w w') : RdC K w' xs vs F := h.agree (.below hb h.lt)
theorem RdC.length : ∀ {xs : List α} {vs : List Value} {F : List Nat}, RdC K w xs vs F → vs.length = xs.length * K.n
 | [], vs, F, h => by rw [RdC] at h; simp [h.1]
 | x :: xs, vs, F, h => by
  obtain ⟨cs, vs', F1, F2, h1, h2, h3, h4, rfl⟩ := h
  rw [h1, List.length_append, Array.length_toList, h2, RdC.length h4, List.length_cons, Nat.succ_mul]; omega
theorem RdC.nil : RdC K w [] [] [] := ⟨rfl, rfl⟩
theorem RdC.snoc : ∀ {xs : List α} {vs : List Value} {F : List Nat} {x : α} {cs : Array Value} {G : List Nat}, RdC K w xs vs F → K.R w (.agg cs) x G → cs.size = K.n → RdC K w (xs ++ [x]) (vs ++ cs.toList) (F ++ G)
 | [], vs, F, x, cs, G, h, k, hs => by
  rw [RdC] at h
  obtain ⟨rfl, rfl⟩ := h
  exact ⟨cs, [], G, [], by simp, hs, k, RdC.nil, by simp⟩
 | y :: xs, vs, F, x, cs, G, h, k, hs => by
  obtain ⟨ds, vs', F1, F2, rfl, h2, h3, h4, rfl⟩ := h
  exact ⟨ds, vs' ++ cs.toList, F1, F2 ++ G, by simp, h2, h3, RdC.snoc h4 k hs, by simp⟩
/-- The cells lie in a block: the elements are read there. -/
theorem rdEls_of : ∀ {xs : List α} {vs : List Value} {F : List Nat} {g : Nat} (off : Nat), RdC K w xs vs F → (∀ i, i < vs.length → w.cell? ⟨g, off + i, none⟩ = vs[i]?) → RdEls K w g xs off F
 | [], vs, F, g, off, h, _ => by rw [RdC] at h; exact h.2
 | x :: xs, vs, F, g, off, h, hc => by
  obtain ⟨cs, vs', F1, F2, rfl, h2, h3, h4, rfl⟩ := h
  refine ⟨cs, F1, F2, h2, fun j hj => ?_, h3, rdEls_of (off + K.n) h4 (fun i hi => ?_), rfl⟩
  ·
   have hl : j < cs.toList.length := by rw [Array.length_toList, h2]; exact hj
   rw [hc j (by rw [List.length_append]; omega), List.getElem?_append_left hl, Array.getElem?_toList]
  ·
   have := hc (K.n + i) (by rw [List.length_append, Array.length_toList, h2]; omega)
   rw [show off + K.n + i = off + (K.n + i) by omega, this, List.getElem?_append_right (by rw [Array.length_toList, h2]; omega), Array.length_toList, h2, Nat.add_sub_cancel_left]
/-- A row that the call made, each of its elements with its own reading. -/
theorem rdL_of_own {B e m : Nat} {v : Value} {xs : List α} {vs : List Value} {G : List Nat} (h : w.ownsRow B e K.n v m vs) (hr : RdC K w xs vs G) (hG : Own B w G) (hd : ∀ g, v.ownBlock = some g → g ∉ G) : ∃ a cap F, v = .slice a m cap ∧ RdL K w a m xs F ∧ Own B w F ∧ (a = none → cap = 0) ∧ m ≤ cap := by
 have hl : xs.length = m := by
  have h1 := hr.length
  have h2 := h.1
  exact Nat.eq_of_mul_eq_mul_right K.pos (h1.symm.trans h2)
 rcases h.2 with ⟨e1, e2⟩ | ⟨g, cap, cur, e1, h1, h2, h3, h4, h5, h6⟩
 ·
  subst e1
  subst e2
  obtain rfl : xs = [] := List.eq_nil_of_length_eq_zero hl
  exact ⟨_, 0, [], rfl, RdL.nil, Own.nil, fun _ => rfl, Nat.le_refl _⟩
 ·
  subst e1
  by_cases h0 : m = 0
  ·
   subst h0
   obtain rfl : xs = [] := List.eq_nil_of_length_eq_zero hl
   exact ⟨_, cap, [], rfl, RdL.zero, Own.nil, (fun e => by cases e), h3⟩
  ·
   refine ⟨_, cap, g :: G, rfl, ⟨hl, .inr ⟨g, 0, G, by omega, rfl, rfl, rdEls_of 0 hr (fun i hi => ?_)⟩⟩, ⟨?_, fun b hb o => ?_, fun b hb => ?_⟩, (fun e => by cases e), h3⟩
   ·
    rw [Nat.zero_add]; exact h.cellAt i (by rw [← h.1]; exact hi)
   ·
    exact List.nodup_cons.2 ⟨hd g rfl, hG.nodup⟩
   ·
    rcases List.mem_cons.1 hb with rfl | hb
    ·
     exact h.frozenAt o
    ·
     exact hG.free b hb o
   ·
    rcases List.mem_cons.1 hb with rfl | hb
    ·
     exact h1
    ·
     exact hG.ge b hb
end
end Go.Proofs.Ytgkbhhlkaifnoaa
/- Operations on a slice of structs: a whole element is loaded. No statement of the seat is proved here. -/
namespace Go.Proofs.Ytgkbhhlkaifnoaa
open Go.RowKit
section
variable {P : Program} {ops : Array Oper} {Q : Exit → Act → World → Prop} {rest : List Oper} {a : Act} {w : World} {x y : Operand} {o : Oper} {S : World → Prop}
theorem run_loadVar_at (w : World) (g off n : Nat) (ty : TypeId) (cs : Array Value) (d : TypeDesc) (hc : ∀ j, j < n → w.cell? ⟨g, off + j, none⟩ = cs[j]?) (hn : cs.size = n) (hu : P.underlying ty = some d) (hd : (match d with | .struct _ | .array _ _ => true | _ => false) = true) (hi : (P.info? ty).map (·.size) = some n) :
 (loadVar ty ⟨g, off, none⟩).run P w = .ok (.agg cs) w := by
 have hlen : cs.toList.length = n := by rw [Array.length_toList, hn]
 have hl := run_loadCells_list (P := P) w ⟨g, off, none⟩ cs.toList (fun j v hv => by
  have hadd : (⟨g, off, none⟩ : Addr).add j = ⟨g, off + j, none⟩ := by unfold Addr.add; split <;> simp_all
  have hj : j < n := by rw [← hlen]; exact (List.getElem?_eq_some_iff.1 hv).1
  rw [hadd, hc j hj, ← hv, Array.getElem?_toList])
 rw [hlen] at hl
 cases hq : P.info? ty with
 | none => simp [hq] at hi
 | some i =>
  have hs : i.size = n := by simpa [hq] using hi
  have hagg : (isAgg ty).run P w = .ok true w := by
   unfold isAgg
   rw [Sem.run_bind, run_underlying hu w]
   cases d <;> simp_all
  simp only [loadVar, Sem.run_bind, hagg, sizeOf, typeInfo, Result.andThen_ok, if_true]
  simp [hq, hs, hl]
/-- A whole element out of memory, plain or guarded. -/
theorem load_at (ty : TypeId) (g off n : Nat) (cs : Array Value) (d : TypeDesc) (hc : ∀ j, j < n → w.cell? ⟨g, off + j, none⟩ = cs[j]?) (hn : cs.size = n) (hw : Region.wanted o (yielded ops a.tmps) = true) (ho : o.op = .load ty x) (hx : a.eval x = .pointer (some ⟨g, off, none⟩))
 (hu : P.underlying ty = some d) (hd : (match d with | .struct _ | .array _ _ => true | _ => false) = true) (hi : (P.info? ty).map (·.size) = some n)
 (h : wpList P ops Q rest (a.put o.dst (.agg cs)) w) : Stop (wpList P ops Q (o :: rest) a w) := by
 refine wpList_wanted hw fun K hK => ?_
 unfold Oper.wp execOp
 simp only [ho, hx, Instr.loadAt, Instr.sureAddr, Sem.run_bind, Sem.run_pure, Result.andThen_ok, run_loadVar_at w g off n ty cs d hc hn hu hd hi]
 exact hK _ _ h
/-- The same within a region that draws its order. -/
theorem yields_at (ty : TypeId) (g off n : Nat) (cs : Array Value) (d : TypeDesc) (hw : Region.wanted o (yielded ops a.tmps) = true) (ho : o.op = .load ty x) (hx : a.eval x = .pointer (some ⟨g, off, none⟩)) (hu : P.underlying ty = some d) (hd : (match d with | .struct _ | .array _ _ => true | _ => false) = true)
 (hi : (P.info? ty).map (·.size) = some n) (hn : cs.size = n) (hS : ∀ W, S W → ∀ j, j < n → W.cell? ⟨g, off + j, none⟩ = cs[j]?) : YieldsIf P ops S o (.agg cs) a :=
 .inl ⟨hw, fun W hW => by
  unfold execOp
  simp only [ho, hx, Instr.loadAt, Instr.sureAddr, Sem.run_bind, Sem.run_pure, Result.andThen_ok, run_loadVar_at W g off n ty cs d (hS W hW) hn hu hd hi]⟩
end
end Go.Proofs.Ytgkbhhlkaifnoaa
/- A slice of structs that is made and filled, element by element. No statement of the seat is proved here. -/
namespace Go.Proofs.Ytgkbhhlkaifnoaa
open Go.RowKit
section
variable {α : Type} {K : ElK α}
/-- A copy behind k rounds: what is filled, and the zeros behind it. -/
structure CopyL (K : ElK α) (w : World) (T : TypeId) (zs : List Value) (xs : List α) (k : Nat) (vs : List Value) (G : List Nat) (wr : World) : Prop where
 blk : Blk wr w.heap.size (vs ++ zs.drop (k * K.n)).toArray T
 rd : RdC K wr (xs.take k) vs G
 mine : Own (w.heap.size + 1) wr G
 bel : Below w.heap.size w wr
theorem take_snoc_at {xs : List α} {k : Nat} {x : α} (h : xs[k]? = some x) : xs.take (k + 1) = xs.take k ++ [x] := by
 rw [List.take_add_one, h]; rfl
theorem cut_fill {vs zs ds : List Value} {k n : Nat} (hv : vs.length = k * n) (hd : ds.length = n) : cutIn (vs ++ zs.drop (k * n)).toArray (k * n) ds.toArray = ((vs ++ ds) ++ zs.drop ((k + 1) * n)).toArray := by
 unfold cutIn
 simp only [List.size_toArray]
 rw [List.take_left' hv, hd, List.drop_append, hv, List.drop_drop, List.drop_of_length_le (by omega)]
 congr 1
 rw [List.nil_append]
 congr 2
 rw [Nat.succ_mul]; omega
theorem CopyL.step {w wr w2 : World} {T : TypeId} {zs : List Value} {xs : List α} {k : Nat} {vs : List Value} {G F : List Nat} {cs : Array Value} {x : α}
 (h : CopyL K w T zs xs k vs G wr) (hx : xs[k]? = some x) (hr : K.R w2 (.agg cs) x F) (hn : cs.size = K.n) (ho : Own wr.heap.size w2 F) (hb : Below wr.heap.size wr w2) :
 Blk w2 w.heap.size (vs ++ zs.drop (k * K.n)).toArray T ∧ cutIn (vs ++ zs.drop (k * K.n)).toArray (k * K.n) cs = ((vs ++ cs.toList) ++ zs.drop ((k + 1) * K.n)).toArray ∧
  CopyL K w T zs xs (k + 1) (vs ++ cs.toList) (G ++ F) (w2.setRow w.heap.size ((vs ++ cs.toList) ++ zs.drop ((k + 1) * K.n)).toArray) := by
 have hg := h.blk.lt
 have hk : k < xs.length := (List.getElem?_eq_some_iff.1 hx).1
 have hGlt := h.rd.lt
 have hv : vs.length = k * K.n := by rw [h.rd.length, List.length_take, Nat.min_eq_left (by omega)]
 have hG : w.heap.size ∉ G := fun hx => by have := h.mine.ge _ hx; omega
 have hF : w.heap.size ∉ F := fun hx => by have := ho.ge _ hx; omega
 have b2 := h.blk.below hb
 refine ⟨b2, ?_, ⟨b2.setRow, ?_, ?_, below_setRow (h.bel.trans (hb.mono (by omega))) (Nat.le_refl _) _⟩⟩
 ·
  have := cut_fill (vs := vs) (zs := zs) (ds := cs.toList) (k := k) hv (by rw [Array.length_toList, hn])
  simpa using this
 ·
  rw [take_snoc_at hx]
  exact RdC.snoc ((h.rd.below hb).agree (Agree.row hG _)) (K.agree hr (Agree.row hF _)) hn
 ·
  have := (h.mine.below hGlt hb).join ho hGlt (by omega)
  exact this.agree (Agree.row (fun hx => (List.mem_append.1 hx).elim hG hF) _)
theorem CopyL.done {w wr : World} {T : TypeId} {zs : List Value} {xs : List α} {len : Nat} {vs : List Value} {G : List Nat} (h : CopyL K w T zs xs len vs G wr) (hl : xs.length = len) (hz : zs.length = len * K.n) :
 ∃ F, RdL K wr (some ⟨w.heap.size, 0, none⟩) len xs F ∧ Own w.heap.size wr F := by
 by_cases h0 : len = 0
 ·
  subst h0
  obtain rfl : xs = [] := List.eq_nil_of_length_eq_zero hl
  exact ⟨[], RdL.zero, Own.nil⟩
 ·
  have rd := h.rd
  rw [List.take_of_length_le (Nat.le_of_eq hl)] at rd
  have bk := h.blk
  rw [← hz, List.drop_length, List.append_nil] at bk
  refine ⟨w.heap.size :: G, ⟨hl, .inr ⟨_, 0, G, by omega, rfl, rfl, rdEls_of 0 rd (fun i hi => ?_)⟩⟩, ⟨?_, fun b hb o => ?_, fun b hb => ?_⟩⟩
  ·
   rw [Nat.zero_add, bk.cell]; simp
  ·
   exact List.nodup_cons.2 ⟨fun hx => by have := h.mine.ge _ hx; omega, h.mine.nodup⟩
  ·
   rcases List.mem_cons.1 hb with rfl | hb
   ·
    exact h.blk.frozen o
   ·
    exact h.mine.free b hb o
  ·
   rcases List.mem_cons.1 hb with rfl | hb
   ·
    omega
   ·
    have := h.mine.ge b hb; omega
end
end Go.Proofs.Ytgkbhhlkaifnoaa
/- Frames, as plain data. No statement of the seat is proved here. -/
namespace Go.Proofs.Ytgkbhhlkaifnoaa
open Go.RowKit
structure Fr where
 kind : Int
 agent : Int
 epoch : Int
 granted : Int
 taken : Sp
 item : It
 deriving DecidableEq
/-- A frame's value that can be read; F: its set's block, G: its item's. -/
def RdFr (w : World) (v : Value) (e : Fr) (F G : List Nat) : Prop :=
 ∃ b l c a1 n1 c1 a2 n2 c2 a3 n3 c3, v = .agg #[.int .i64 e.kind, .int .i64 e.agent, .int .i64 e.epoch, .int .i64 e.granted, .slice b l c, .int .i64 e.item.seq, .int .i64 e.item.cls, .int .i64 e.item.key, .int .i64 e.item.window, .int .i64 e.item.sk.count, .int .i64 e.item.sk.sum, .int .i64 e.item.sk.min, .int .i64 e.item.sk.max, .slice a1 n1 c1, .slice a2 n2 c2, .slice a3 n3 c3] ∧
  RdP w b l e.taken F ∧ RdIt w (.agg #[.int .i64 e.item.seq, .int .i64 e.item.cls, .int .i64 e.item.key, .int .i64 e.item.window, .int .i64 e.item.sk.count, .int .i64 e.item.sk.sum, .int .i64 e.item.sk.min, .int .i64 e.item.sk.max, .slice a1 n1 c1, .slice a2 n2 c2, .slice a3 n3 c3]) e.item G ∧ Capd b l c
theorem RdFr.agree {w w' : World} {v : Value} {e : Fr} {F G : List Nat} (h : RdFr w v e F G) (ha : Agree w w' F) (hg : Agree w w' G) : RdFr w' v e F G := by
 obtain ⟨b, l, c, a1, n1, c1, a2, n2, c2, a3, n3, c3, hv, hp, hr, hcp⟩ := h
 exact ⟨b, l, c, a1, n1, c1, a2, n2, c2, a3, n3, c3, hv, hp.agree ha, hr.agree hg, hcp⟩
theorem RdFr.lt1 {w : World} {v : Value} {e : Fr} {F G : List Nat} (h : RdFr w v e F G) : ∀ b ∈ F, b < w.heap.size := by
 obtain ⟨b, l, c, a1, n1, c1, a2, n2, c2, a3, n3, c3, hv, hp, hr, _⟩ := h
 exact hp.lt
theorem RdFr.lt2 {w : World} {v : Value} {e : Fr} {F G : List Nat} (h : RdFr w v e F G) : ∀ b ∈ G, b < w.heap.size := by
 obtain ⟨b, l, c, a1, n1, c1, a2, n2, c2, a3, n3, c3, hv, hp, hr, _⟩ := h
 exact hr.lt
theorem RdFr.below {w w' : World} {v : Value} {e : Fr} {F G : List Nat} (h : RdFr w v e F G) (hb : Below w.heap.size w w') : RdFr w' v e F G := h.agree (.below hb h.lt1) (.below hb h.lt2)
theorem Fr.eq_of {x y : Fr} (h1 : x.kind = y.kind) (h2 : x.agent = y.agent) (h3 : x.epoch = y.epoch) (h4 : x.granted = y.granted) (h5 : x.taken = y.taken) (h6 : x.item = y.item) : x = y := by
 cases x; cases y; simp_all
theorem RdIt.cells11 {w : World} {v : Value} {x : It} {F : List Nat} (h : RdIt w v x F) : ∃ a1 n1 c1 a2 n2 c2 a3 n3 c3, v = .agg #[.int .i64 x.seq, .int .i64 x.cls, .int .i64 x.key, .int .i64 x.window, .int .i64 x.sk.count, .int .i64 x.sk.sum, .int .i64 x.sk.min, .int .i64 x.sk.max, .slice a1 n1 c1, .slice a2 n2 c2, .slice a3 n3 c3] := by
 obtain ⟨a1, n1, c1, a2, n2, c2, a3, n3, c3, rfl, _⟩ := h
 exact ⟨a1, n1, c1, a2, n2, c2, a3, n3, c3, rfl⟩
theorem one11 (p q r s p' q' r' s' : Int) (a1 : Option Addr) (n1 c1 : Nat) (a2 : Option Addr) (n2 c2 : Nat) (a3 : Option Addr) (n3 c3 : Nat) : (#[Value.int .i64 p, .int .i64 q, .int .i64 r, .int .i64 s, .int .i64 p', .int .i64 q', .int .i64 r', .int .i64 s', .slice a1 n1 c1, .slice a2 n2 c2, .slice a3 n3 c3]).all (·.oneCell') = true := by
 simp [Value.oneCell']
theorem infoItA7 : (Try.prog.info? 36).map (·.size) = some 11 := by kernel_rfl
end Go.Proofs.Ytgkbhhlkaifnoaa
/- Agents, as plain data. No statement of the seat is proved here. -/
namespace Go.Proofs.Ytgkbhhlkaifnoaa
open Go.RowKit
/-- An item as an element of a slice. -/
def itK : ElK It where
 n := 11
 R := RdIt
 agree := fun h ha => RdIt.agree h ha
 lt := fun h => RdIt.lt h
 cells := fun h => by
  obtain ⟨a1, n1, c1, a2, n2, c2, a3, n3, c3, rfl⟩ := RdIt.cells11 h
  exact ⟨_, rfl, rfl, by simp [Value.oneCell']⟩
 pos := by decide
structure Ag where
 id : Int
 epoch : Int
 live : Bool
 granted : Int
 sealed : List It
 taken : Sp
 next : Int
 deriving DecidableEq
/-- An agent's value that can be read; F: its items' blocks, G: its set's. -/
def RdAg (w : World) (v : Value) (x : Ag) (F G : List Nat) : Prop :=
 ∃ a1 n1 c1 a2 n2 c2, v = .agg #[.int .i64 x.id, .int .i64 x.epoch, .bool x.live, .int .i64 x.granted, .slice a1 n1 c1, .slice a2 n2 c2, .int .i64 x.next] ∧
  RdL itK w a1 n1 x.sealed F ∧ RdP w a2 n2 x.taken G ∧ Capd a1 n1 c1 ∧ Capd a2 n2 c2
theorem RdAg.agree {w w' : World} {v : Value} {x : Ag} {F G : List Nat} (h : RdAg w v x F G) (ha : Agree w w' F) (hg : Agree w w' G) : RdAg w' v x F G := by
 obtain ⟨a1, n1, c1, a2, n2, c2, hv, h1, h2, k1, k2⟩ := h
 exact ⟨a1, n1, c1, a2, n2, c2, hv, h1.agree ha, h2.agree hg, k1, k2⟩
theorem RdAg.lt1 {w : World} {v : Value} {x : Ag} {F G : List Nat} (h : RdAg w v x F G) : ∀ b ∈ F, b < w.heap.size := by
 obtain ⟨a1, n1, c1, a2, n2, c2, hv, h1, h2, _⟩ := h
 exact h1.lt
theorem RdAg.lt2 {w : World} {v : Value} {x : Ag} {F G : List Nat} (h : RdAg w v x F G) : ∀ b ∈ G, b < w.heap.size := by
 obtain ⟨a1, n1, c1, a2, n2, c2, hv, h1, h2, _⟩ := h
 exact h2.lt
theorem RdAg.below {w w' : World} {v : Value} {x : Ag} {F G : List Nat} (h : RdAg w v x F G) (hb : Below w.heap.size w w') : RdAg w' v x F G := h.agree (.below hb h.lt1) (.below hb h.lt2)
theorem RdAg.cells {w : World} {v : Value} {x : Ag} {F G : List Nat} (h : RdAg w v x F G) : ∃ cs : Array Value, v = .agg cs ∧ cs.size = 7 ∧ cs.all (·.oneCell') = true := by
 obtain ⟨a1, n1, c1, a2, n2, c2, rfl, _⟩ := h
 exact ⟨_, rfl, rfl, by simp [Value.oneCell']⟩
def NewAg (w : World) (x : Ag) (e : Ending) (w' : World) : Prop := ∃ v F G, e = .returned v ∧ RdAg w' v x F G ∧ Own w.heap.size w' F ∧ Own w.heap.size w' G ∧ (∀ b ∈ F, b ∉ G) ∧ Below w.heap.size w w'
theorem Ag.eq_of {x y : Ag} (h1 : x.id = y.id) (h2 : x.epoch = y.epoch) (h3 : x.live = y.live) (h4 : x.granted = y.granted) (h5 : x.sealed = y.sealed) (h6 : x.taken = y.taken) (h7 : x.next = y.next) : x = y := by
 cases x; cases y; simp_all
end Go.Proofs.Ytgkbhhlkaifnoaa
/- The walks through the model's l7Zero and FrameOk. No statement of the seat is proved here. -/
namespace Go.Proofs.Ytgkbhhlkaifnoaa
open Go.RowKit
def It.zero : It := ⟨0, 0, 0, 0, Sk.zero⟩
/-- All of a set lies from 1 to m. -/
def Sp.under (ps : Sp) (m : Int) : Bool := (List.range ps.length).all fun k => decide (1 ≤ (ps.at k).1 ∧ (ps.at k).2 ≤ m)
theorem Sp.under_not {ps : Sp} {m : Int} {k : Nat} (hk : k < ps.length) (h : ¬ (1 ≤ (ps.at k).1 ∧ (ps.at k).2 ≤ m)) : ps.under m = false := by
 rw [Bool.eq_false_iff]
 intro e
 unfold Sp.under at e
 rw [List.all_eq_true] at e
 exact h (of_decide_eq_true (e k (List.mem_range.mpr hk)))
theorem Sp.under_all {ps : Sp} {m : Int} (h : ∀ k, k < ps.length → 1 ≤ (ps.at k).1 ∧ (ps.at k).2 ≤ m) : ps.under m = true := by
 unfold Sp.under
 rw [List.all_eq_true]
 exact fun k hk => decide_eq_true (h k (List.mem_range.mp hk))
def Sp.taken (ps : Sp) : Bool := (List.range ps.length).all fun k => decide (1 ≤ (ps.at k).1 ∧ (ps.at k).2 ≤ 60)
def Fr.ok (x : Fr) : Bool := decide (0 ≤ x.kind ∧ x.kind ≤ 3) && decide (0 ≤ x.agent ∧ x.agent ≤ 2) && decide (0 ≤ x.epoch ∧ x.epoch ≤ 1000) && decide (0 ≤ x.granted ∧ x.granted ≤ 60) && x.taken.ok && x.taken.taken && (if x.kind = 1 then x.item.ok else decide (x.item = It.zero))
theorem It.zero_iff {x : It} : x = It.zero ↔ x.seq = 0 ∧ x.cls = 0 ∧ x.key = 0 ∧ x.window = 0 ∧ x.sk.count = 0 ∧ x.sk.sum = 0 ∧ x.sk.min = 0 ∧ x.sk.max = 0 ∧ x.sk.hist.length = 0 ∧ x.sk.regs.length = 0 ∧ x.sk.rows.length = 0 := by
 constructor
 ·
  rintro rfl
  exact ⟨rfl, rfl, rfl, rfl, rfl, rfl, rfl, rfl, rfl, rfl, rfl⟩
 ·
  rcases x with ⟨p, q, r, s, ⟨c, u, m, n, h, g, o⟩⟩
  rintro ⟨h1, h2, h3, h4, h5, h6, h7, h8, h9, h10, h11⟩
  simp only at h1 h2 h3 h4 h5 h6 h7 h8 h9 h10 h11
  subst h1 h2 h3 h4 h5 h6 h7 h8
  rw [List.length_eq_zero_iff] at h9 h10 h11
  subst h9 h10 h11
  rfl
theorem RdSk.lens {w : World} {p q r s : Int} {a1 a2 a3 : Option Addr} {n1 n2 n3 c1 c2 c3 : Nat} {x : Sk} {F : List Nat} (h : RdSk w (.agg #[.int .i64 p, .int .i64 q, .int .i64 r, .int .i64 s, .slice a1 n1 c1, .slice a2 n2 c2, .slice a3 n3 c3]) x F) : x.hist.length = n1 ∧ x.regs.length = n2 ∧ x.rows.length = n3 := by
 obtain ⟨_, _, _, _, _, _, _, _, _, _, _, _, hv, h1, h2, h3, _⟩ := h
 simp only [Value.agg.injEq] at hv
 cases hv
 exact ⟨h1.length, h2.length, h3.length⟩
set_option maxRecDepth 100000 in
set_option maxHeartbeats 4000000 in
theorem l7Zero_any (v : Value) (x : It) (F : List Nat) (w : World) (h : RdIt w v x F) :
 Calls Try.prog 100 #[v] w fun e w' => e = .returned (.bool (decide (x = It.zero))) ∧ Below w.heap.size w w' := by
 obtain ⟨a1, n1, c1, a2, n2, c2, a3, n3, c3, rfl, hr⟩ := h
 have HL : Hid (x.sk.hist.length = n1 ∧ x.sk.regs.length = n2 ∧ x.sk.rows.length = n3) := hr.lens
 have HA : Hid (Blk (w.alloc (.cells #[.int .i64 x.seq, .int .i64 x.cls, .int .i64 x.key, .int .i64 x.window, .int .i64 x.sk.count, .int .i64 x.sk.sum, .int .i64 x.sk.min, .int .i64 x.sk.max, .slice a1 n1 c1, .slice a2 n2 c2, .slice a3 n3 c3] 36)) w.heap.size #[.int .i64 x.seq, .int .i64 x.cls, .int .i64 x.key, .int .i64 x.window, .int .i64 x.sk.count, .int .i64 x.sk.sum, .int .i64 x.sk.min, .int .i64 x.sk.max, .slice a1 n1 c1, .slice a2 n2 c2, .slice a3 n3 c3] 36) := Blk.made _ _ _
 have HB : Hid (Blk ((w.alloc (.cells #[.int .i64 x.seq, .int .i64 x.cls, .int .i64 x.key, .int .i64 x.window, .int .i64 x.sk.count, .int .i64 x.sk.sum, .int .i64 x.sk.min, .int .i64 x.sk.max, .slice a1 n1 c1, .slice a2 n2 c2, .slice a3 n3 c3] 36)).alloc (.cells #[.int .i64 0, .int .i64 0, .int .i64 0, .int .i64 0, .slice none 0 0, .slice none 0 0, .slice none 0 0] 34)) w.heap.size #[.int .i64 x.seq, .int .i64 x.cls, .int .i64 x.key, .int .i64 x.window, .int .i64 x.sk.count, .int .i64 x.sk.sum, .int .i64 x.sk.min, .int .i64 x.sk.max, .slice a1 n1 c1, .slice a2 n2 c2, .slice a3 n3 c3] 36 ∧ Blk ((w.alloc (.cells #[.int .i64 x.seq, .int .i64 x.cls, .int .i64 x.key, .int .i64 x.window, .int .i64 x.sk.count, .int .i64 x.sk.sum, .int .i64 x.sk.min, .int .i64 x.sk.max, .slice a1 n1 c1, .slice a2 n2 c2, .slice a3 n3 c3] 36)).alloc (.cells #[.int .i64 0, .int .i64 0, .int .i64 0, .int .i64 0, .slice none 0 0, .slice none 0 0, .slice none 0 0] 34)) (w.heap.size + 1) #[.int .i64 0, .int .i64 0, .int .i64 0, .int .i64 0, .slice none 0 0, .slice none 0 0, .slice none 0 0] 34 ∧ Below w.heap.size w ((w.alloc (.cells #[.int .i64 x.seq, .int .i64 x.cls, .int .i64 x.key, .int .i64 x.window, .int .i64 x.sk.count, .int .i64 x.sk.sum, .int .i64 x.sk.min, .int .i64 x.sk.max, .slice a1 n1 c1, .slice a2 n2 c2, .slice a3 n3 c3] 36)).alloc (.cells #[.int .i64 0, .int .i64 0, .int .i64 0, .int .i64 0, .slice none 0 0, .slice none 0 0, .slice none 0 0] 34))) := by
  refine ⟨(Blk.made _ _ _).below (Below.allocW _ (Below.refl _ _) (Nat.le_refl _)), ?_, Below.allocW _ (Below.allocW _ (Below.refl _ _) (Nat.le_refl _)) (by simp)⟩
  have e := Blk.made (w.alloc (.cells #[.int .i64 x.seq, .int .i64 x.cls, .int .i64 x.key, .int .i64 x.window, .int .i64 x.sk.count, .int .i64 x.sk.sum, .int .i64 x.sk.min, .int .i64 x.sk.max, .slice a1 n1 c1, .slice a2 n2 c2, .slice a3 n3 c3] 36)) #[.int .i64 0, .int .i64 0, .int .i64 0, .int .i64 0, .slice none 0 0, .slice none 0 0, .slice none 0 0] 34
  rw [World.size_alloc] at e
  exact e
 clear hr
 go_enter Try.func100, Try.ntmps100
 go_wp2_with (first | go_skip | (with_reducible refine stopLoad 34 rfl ?_))
 refine load_cut 34 w.heap.size 4 7 _ #[.int .i64 x.sk.count, .int .i64 x.sk.sum, .int .i64 x.sk.min, .int .i64 x.sk.max, .slice a1 n1 c1, .slice a2 n2 c2, .slice a3 n3 c3] 36 _ HA.out rfl rfl rfl Try.underlying34 rfl infoSkI (by simp) rfl ?_
 go_wp2_with (first | go_skip | (with_reducible refine stopStore 34 rfl ?_))
 refine store_known 34 (w.heap.size + 1) _ #[.int .i64 x.sk.count, .int .i64 x.sk.sum, .int .i64 x.sk.min, .int .i64 x.sk.max, .slice a1 n1 c1, .slice a2 n2 c2, .slice a3 n3 c3] 34 HB.out.2.1 rfl rfl rfl rfl (by kernel_rfl) rfl (one7 ..) ?_
 obtain ⟨W, hW⟩ : ∃ W, W = ((w.alloc (.cells #[.int .i64 x.seq, .int .i64 x.cls, .int .i64 x.key, .int .i64 x.window, .int .i64 x.sk.count, .int .i64 x.sk.sum, .int .i64 x.sk.min, .int .i64 x.sk.max, .slice a1 n1 c1, .slice a2 n2 c2, .slice a3 n3 c3] 36)).alloc (.cells #[.int .i64 0, .int .i64 0, .int .i64 0, .int .i64 0, .slice none 0 0, .slice none 0 0, .slice none 0 0] 34)).setRow (w.heap.size + 1) #[.int .i64 x.sk.count, .int .i64 x.sk.sum, .int .i64 x.sk.min, .int .i64 x.sk.max, .slice a1 n1 c1, .slice a2 n2 c2, .slice a3 n3 c3] := ⟨_, rfl⟩
 have HW : Hid (Blk W w.heap.size #[.int .i64 x.seq, .int .i64 x.cls, .int .i64 x.key, .int .i64 x.window, .int .i64 x.sk.count, .int .i64 x.sk.sum, .int .i64 x.sk.min, .int .i64 x.sk.max, .slice a1 n1 c1, .slice a2 n2 c2, .slice a3 n3 c3] 36 ∧ Blk W (w.heap.size + 1) #[.int .i64 x.sk.count, .int .i64 x.sk.sum, .int .i64 x.sk.min, .int .i64 x.sk.max, .slice a1 n1 c1, .slice a2 n2 c2, .slice a3 n3 c3] 34 ∧ Below w.heap.size w W) := by
  rw [hW]
  exact ⟨HB.out.1.setRowOther (by omega), HB.out.2.1.setRow, below_setRow HB.out.2.2 (by omega) _⟩
 rw [← hW]
 clear hW HB
 have d0 := HW.out.1.cell 0
 have f0 := HW.out.1.frozen 0
 have d1 := HW.out.1.cell 1
 have f1 := HW.out.1.frozen 1
 have d2 := HW.out.1.cell 2
 have f2 := HW.out.1.frozen 2
 have d3 := HW.out.1.cell 3
 have f3 := HW.out.1.frozen 3
 have g0 := HW.out.2.1.cell 0
 have y0 := HW.out.2.1.frozen 0
 have g1 := HW.out.2.1.cell 1
 have y1 := HW.out.2.1.frozen 1
 have g2 := HW.out.2.1.cell 2
 have y2 := HW.out.2.1.frozen 2
 have g3 := HW.out.2.1.cell 3
 have y3 := HW.out.2.1.frozen 3
 have g4 := HW.out.2.1.cell 4
 have y4 := HW.out.2.1.frozen 4
 have g5 := HW.out.2.1.cell 5
 have y5 := HW.out.2.1.frozen 5
 have g6 := HW.out.2.1.cell 6
 have y6 := HW.out.2.1.frozen 6
 simp only [aT, aZ, List.getElem?_cons_succ] at d0 d1 d2 d3 g0 g1 g2 g3 g4 g5 g6
 by_cases h0 : x.seq = 0
 rotate_left
 ·
  have e0 : (x.seq == 0) = false := by simpa using h0
  have HV : Hid (decide (x = It.zero) = false) := decF (fun e => h0 (It.zero_iff.mp e).1)
  clear h0
  go_wp2
  go_ret
  exact ⟨ret_bool HV.out.symm, HW.out.2.2⟩
 have e0 : (x.seq == 0) = true := by simpa using h0
 have H0 : Hid (x.seq = 0) := h0
 clear h0
 by_cases h1 : x.cls = 0
 rotate_left
 ·
  have e1 : (x.cls == 0) = false := by simpa using h1
  have HV : Hid (decide (x = It.zero) = false) := decF (fun e => h1 (It.zero_iff.mp e).2.1)
  clear h1
  go_wp2
  go_ret
  exact ⟨ret_bool HV.out.symm, HW.out.2.2⟩
 have e1 : (x.cls == 0) = true := by simpa using h1
 have H1 : Hid (x.cls = 0) := h1
 clear h1
 by_cases h2 : x.key = 0
 rotate_left
 ·
  have e2 : (x.key == 0) = false := by simpa using h2
  have HV : Hid (decide (x = It.zero) = false) := decF (fun e => h2 (It.zero_iff.mp e).2.2.1)
  clear h2
  go_wp2
  go_ret
  exact ⟨ret_bool HV.out.symm, HW.out.2.2⟩
 have e2 : (x.key == 0) = true := by simpa using h2
 have H2 : Hid (x.key = 0) := h2
 clear h2
 by_cases h3 : x.window = 0
 rotate_left
 ·
  have e3 : (x.window == 0) = false := by simpa using h3
  have HV : Hid (decide (x = It.zero) = false) := decF (fun e => h3 (It.zero_iff.mp e).2.2.2.1)
  clear h3
  go_wp2
  go_ret
  exact ⟨ret_bool HV.out.symm, HW.out.2.2⟩
 have e3 : (x.window == 0) = true := by simpa using h3
 have H3 : Hid (x.window = 0) := h3
 clear h3
 by_cases h4 : x.sk.count = 0
 rotate_left
 ·
  have e4 : (x.sk.count == 0) = false := by simpa using h4
  have HV : Hid (decide (x = It.zero) = false) := decF (fun e => h4 (It.zero_iff.mp e).2.2.2.2.1)
  clear h4
  go_wp2
  go_ret
  exact ⟨ret_bool HV.out.symm, HW.out.2.2⟩
 have e4 : (x.sk.count == 0) = true := by simpa using h4
 have H4 : Hid (x.sk.count = 0) := h4
 clear h4
 by_cases h5 : x.sk.sum = 0
 rotate_left
 ·
  have e5 : (x.sk.sum == 0) = false := by simpa using h5
  have HV : Hid (decide (x = It.zero) = false) := decF (fun e => h5 (It.zero_iff.mp e).2.2.2.2.2.1)
  clear h5
  go_wp2
  go_ret
  exact ⟨ret_bool HV.out.symm, HW.out.2.2⟩
 have e5 : (x.sk.sum == 0) = true := by simpa using h5
 have H5 : Hid (x.sk.sum = 0) := h5
 clear h5
 by_cases h6 : x.sk.min = 0
 rotate_left
 ·
  have e6 : (x.sk.min == 0) = false := by simpa using h6
  have HV : Hid (decide (x = It.zero) = false) := decF (fun e => h6 (It.zero_iff.mp e).2.2.2.2.2.2.1)
  clear h6
  go_wp2
  go_ret
  exact ⟨ret_bool HV.out.symm, HW.out.2.2⟩
 have e6 : (x.sk.min == 0) = true := by simpa using h6
 have H6 : Hid (x.sk.min = 0) := h6
 clear h6
 by_cases h7 : x.sk.max = 0
 rotate_left
 ·
  have e7 : (x.sk.max == 0) = false := by simpa using h7
  have HV : Hid (decide (x = It.zero) = false) := decF (fun e => h7 (It.zero_iff.mp e).2.2.2.2.2.2.2.1)
  clear h7
  go_wp2
  go_ret
  exact ⟨ret_bool HV.out.symm, HW.out.2.2⟩
 have e7 : (x.sk.max == 0) = true := by simpa using h7
 have H7 : Hid (x.sk.max = 0) := h7
 clear h7
 by_cases h8 : n1 = 0
 rotate_left
 ·
  have e8 : ((((n1 : Nat) : Int)) == 0) = false := by simpa using h8
  have HV : Hid (decide (x = It.zero) = false) := decF (fun e => h8 (by rw [← HL.out.1]; exact (It.zero_iff.mp e).2.2.2.2.2.2.2.2.1))
  clear h8
  go_wp2
  go_ret
  exact ⟨ret_bool HV.out.symm, HW.out.2.2⟩
 have e8 : ((((n1 : Nat) : Int)) == 0) = true := by simpa using h8
 have H8 : Hid (n1 = 0) := h8
 clear h8
 by_cases h9 : n2 = 0
 rotate_left
 ·
  have e9 : ((((n2 : Nat) : Int)) == 0) = false := by simpa using h9
  have HV : Hid (decide (x = It.zero) = false) := decF (fun e => h9 (by rw [← HL.out.2.1]; exact (It.zero_iff.mp e).2.2.2.2.2.2.2.2.2.1))
  clear h9
  go_wp2
  go_ret
  exact ⟨ret_bool HV.out.symm, HW.out.2.2⟩
 have e9 : ((((n2 : Nat) : Int)) == 0) = true := by simpa using h9
 have H9 : Hid (n2 = 0) := h9
 clear h9
 by_cases h10 : n3 = 0
 rotate_left
 ·
  have e10 : ((((n3 : Nat) : Int)) == 0) = false := by simpa using h10
  have HV : Hid (decide (x = It.zero) = false) := decF (fun e => h10 (by rw [← HL.out.2.2]; exact (It.zero_iff.mp e).2.2.2.2.2.2.2.2.2.2))
  clear h10
  go_wp2
  go_ret
  exact ⟨ret_bool HV.out.symm, HW.out.2.2⟩
 have e10 : ((((n3 : Nat) : Int)) == 0) = true := by simpa using h10
 have H10 : Hid (n3 = 0) := h10
 clear h10
 have HV : Hid (decide (x = It.zero) = true) := decT (It.zero_iff.mpr ⟨H0.out, H1.out, H2.out, H3.out, H4.out, H5.out, H6.out, H7.out, HL.out.1.trans H8.out, HL.out.2.1.trans H9.out, HL.out.2.2.trans H10.out⟩)
 go_wp2
 go_ret
 exact ⟨ret_bool HV.out.symm, HW.out.2.2⟩
theorem Sp.taken_not {ps : Sp} {k : Nat} (hk : k < ps.length) (h : ¬ (1 ≤ (ps.at k).1 ∧ (ps.at k).2 ≤ 60)) : ps.taken = false := by
 rw [Bool.eq_false_iff]
 intro e
 unfold Sp.taken at e
 rw [List.all_eq_true] at e
 exact h (of_decide_eq_true (e k (List.mem_range.mpr hk)))
theorem Sp.taken_all {ps : Sp} (h : ∀ k, k < ps.length → 1 ≤ (ps.at k).1 ∧ (ps.at k).2 ≤ 60) : ps.taken = true := by
 unfold Sp.taken
 rw [List.all_eq_true]
 exact fun k hk => decide_eq_true (h k (List.mem_range.mp hk))
set_option maxRecDepth 100000 in
set_option maxHeartbeats 4000000 in
theorem frameOkSpec_any (v : Value) (x : Fr) (F G : List Nat) (w : World) (h : RdFr w v x F G) (hw : x.item.sk.wide) (hl : x.taken.length ≤ 140737488355328) :
 Calls Try.prog 66 #[v] w fun e w' => e = .returned (.bool x.ok) ∧ Below w.heap.size w w' := by
 obtain ⟨b, l, c, a1, n1, c1, a2, n2, c2, a3, n3, c3, rfl, hp, hr, _⟩ := h
 have HR : Hid (RdIt w (.agg #[.int .i64 x.item.seq, .int .i64 x.item.cls, .int .i64 x.item.key, .int .i64 x.item.window, .int .i64 x.item.sk.count, .int .i64 x.item.sk.sum, .int .i64 x.item.sk.min, .int .i64 x.item.sk.max, .slice a1 n1 c1, .slice a2 n2 c2, .slice a3 n3 c3]) x.item G ∧ x.item.sk.wide) := ⟨hr, hw⟩
 have HP : Hid (RdP w b l x.taken F ∧ l ≤ 140737488355328 ∧ x.taken.length = l) := ⟨hp, by rw [← hp.length]; exact hl, hp.length⟩
 have hl' : l ≤ 140737488355328 := HP.out.2.1
 have HB : Hid (Below w.heap.size w (w.alloc (.cells #[.int .i64 x.kind, .int .i64 x.agent, .int .i64 x.epoch, .int .i64 x.granted, .slice b l c, .int .i64 x.item.seq, .int .i64 x.item.cls, .int .i64 x.item.key, .int .i64 x.item.window, .int .i64 x.item.sk.count, .int .i64 x.item.sk.sum, .int .i64 x.item.sk.min, .int .i64 x.item.sk.max, .slice a1 n1 c1, .slice a2 n2 c2, .slice a3 n3 c3] 38)) ∧ Blk (w.alloc (.cells #[.int .i64 x.kind, .int .i64 x.agent, .int .i64 x.epoch, .int .i64 x.granted, .slice b l c, .int .i64 x.item.seq, .int .i64 x.item.cls, .int .i64 x.item.key, .int .i64 x.item.window, .int .i64 x.item.sk.count, .int .i64 x.item.sk.sum, .int .i64 x.item.sk.min, .int .i64 x.item.sk.max, .slice a1 n1 c1, .slice a2 n2 c2, .slice a3 n3 c3] 38)) w.heap.size #[.int .i64 x.kind, .int .i64 x.agent, .int .i64 x.epoch, .int .i64 x.granted, .slice b l c, .int .i64 x.item.seq, .int .i64 x.item.cls, .int .i64 x.item.key, .int .i64 x.item.window, .int .i64 x.item.sk.count, .int .i64 x.item.sk.sum, .int .i64 x.item.sk.min, .int .i64 x.item.sk.max, .slice a1 n1 c1, .slice a2 n2 c2, .slice a3 n3 c3] 38) := ⟨Below.allocW _ (Below.refl _ _) (Nat.le_refl _), Blk.made _ _ _⟩
 clear hr hw hp hl
 go_enter Try.func66, Try.ntmps66
 go_wp2_with fail
 refine (l1In_any _ _ _ _).mono ?_
 rintro e w2 ⟨rfl, hw2⟩
 have hw2' := hw2.symm
 subst hw2'
 clear hw2
 obtain ⟨d1, hd1⟩ : ∃ d, d = decide (0 ≤ x.kind ∧ x.kind ≤ 3) := ⟨_, rfl⟩
 rw [← hd1]
 have HD1 : Hid (d1 = decide (0 ≤ x.kind ∧ x.kind ≤ 3)) := hd1
 clear hd1
 cases d1
 ·
  have HV : Hid (x.ok = false) := by show _ = _; unfold Fr.ok; rw [← HD1.out]; rfl
  go_wp2
  go_ret
  exact ⟨ret_bool HV.out.symm, HB.out.1⟩
 go_wp2_with fail
 refine (l6Agent_any _ _).mono ?_
 rintro e w2 ⟨rfl, hw2⟩
 have hw2' := hw2.symm
 subst hw2'
 clear hw2
 obtain ⟨d2, hd2⟩ : ∃ d, d = decide (0 ≤ x.agent ∧ x.agent ≤ 2) := ⟨_, rfl⟩
 rw [← hd2]
 have HD2 : Hid (d2 = decide (0 ≤ x.agent ∧ x.agent ≤ 2)) := hd2
 clear hd2
 cases d2
 ·
  have HV : Hid (x.ok = false) := by show _ = _; unfold Fr.ok; rw [← HD1.out, ← HD2.out]; rfl
  go_wp2
  go_ret
  exact ⟨ret_bool HV.out.symm, HB.out.1⟩
 go_wp2_with fail
 refine (l1In_any _ _ _ _).mono ?_
 rintro e w2 ⟨rfl, hw2⟩
 have hw2' := hw2.symm
 subst hw2'
 clear hw2
 obtain ⟨d3, hd3⟩ : ∃ d, d = decide (0 ≤ x.epoch ∧ x.epoch ≤ 1000) := ⟨_, rfl⟩
 rw [← hd3]
 have HD3 : Hid (d3 = decide (0 ≤ x.epoch ∧ x.epoch ≤ 1000)) := hd3
 clear hd3
 cases d3
 ·
  have HV : Hid (x.ok = false) := by show _ = _; unfold Fr.ok; rw [← HD1.out, ← HD2.out, ← HD3.out]; rfl
  go_wp2
  go_ret
  exact ⟨ret_bool HV.out.symm, HB.out.1⟩
 go_wp2_with fail
 refine (l1In_any _ _ _ _).mono ?_
 rintro e w2 ⟨rfl, hw2⟩
 have hw2' := hw2.symm
 subst hw2'
 clear hw2
 obtain ⟨d4, hd4⟩ : ∃ d, d = decide (0 ≤ x.granted ∧ x.granted ≤ 60) := ⟨_, rfl⟩
 rw [← hd4]
 have HD4 : Hid (d4 = decide (0 ≤ x.granted ∧ x.granted ≤ 60)) := hd4
 clear hd4
 cases d4
 ·
  have HV : Hid (x.ok = false) := by show _ = _; unfold Fr.ok; rw [← HD1.out, ← HD2.out, ← HD3.out, ← HD4.out]; rfl
  go_wp2
  go_ret
  exact ⟨ret_bool HV.out.symm, HB.out.1⟩
 have HOK : Hid (x.ok = (x.taken.ok && x.taken.taken && (if x.kind = 1 then x.item.ok else decide (x.item = It.zero)))) := by show _ = _; unfold Fr.ok; rw [← HD1.out, ← HD2.out, ← HD3.out, ← HD4.out]; rfl
 clear HD1 HD2 HD3 HD4
 go_wp2_with fail
 refine (setOkSpec_any b l c x.taken F _ (HP.out.1.below HB.out.1) HP.out.2.1).mono ?_
 rintro e w2 ⟨rfl, hq⟩
 have HB2 : Hid (Below w.heap.size w w2 ∧ Blk w2 w.heap.size #[.int .i64 x.kind, .int .i64 x.agent, .int .i64 x.epoch, .int .i64 x.granted, .slice b l c, .int .i64 x.item.seq, .int .i64 x.item.cls, .int .i64 x.item.key, .int .i64 x.item.window, .int .i64 x.item.sk.count, .int .i64 x.item.sk.sum, .int .i64 x.item.sk.min, .int .i64 x.item.sk.max, .slice a1 n1 c1, .slice a2 n2 c2, .slice a3 n3 c3] 38) := ⟨Below.next HB.out.1 (quiet_below hq), HB.out.2.below (quiet_below hq)⟩
 obtain ⟨d5, hd5⟩ : ∃ d, d = x.taken.ok := ⟨_, rfl⟩
 rw [← hd5]
 have HD5 : Hid (d5 = x.taken.ok) := hd5
 clear hd5 hq HB
 cases d5
 ·
  have HV : Hid (x.ok = false) := by show _ = _; rw [HOK.out, ← HD5.out]; rfl
  go_wp2
  go_ret
  exact ⟨ret_bool HV.out.symm, HB2.out.1⟩
 have c0 := HB2.out.2.cell 0
 have c4 := HB2.out.2.cell 4
 have f0 := HB2.out.2.frozen 0
 have f4 := HB2.out.2.frozen 4
 simp only [aT, aZ, List.getElem?_cons_succ] at c0 c4
 go_wp2
 go_loopw [3] (fun i wr => ∃ (k : Nat), k ≤ l ∧ i = .int .i64 k ∧ wr = w2 ∧ Hid (∀ j, j < k → 1 ≤ (x.taken.at j).1 ∧ (x.taken.at j).2 ≤ 60)) (fun i _ => l - (intOf i).toNat)
 case atStart => exact ⟨0, by omega, rfl, rfl, fun j hj => by omega⟩
 case round =>
  obtain ⟨k, hk, rfl, hwr, HN⟩ := hrel
  have hwr' := hwr.symm
  subst hwr'
  clear hwr
  by_cases hlt : k < l
  ·
   rcases (HP.out.1.below HB2.out.1).cells with ⟨h0, _, _⟩ | ⟨b0, off, hp0, hb0, _, hc⟩
   ·
    omega
   have hb0' := hb0.symm
   subst hb0'
   clear hb0
   obtain ⟨p, hp⟩ : ∃ p, p = (x.taken.at k).1 := ⟨_, rfl⟩
   obtain ⟨q, hq⟩ : ∃ p, p = (x.taken.at k).2 := ⟨_, rfl⟩
   have e := hc k hlt
   have HX : Hid (p = (x.taken.at k).1 ∧ q = (x.taken.at k).2) := ⟨hp, hq⟩
   have d1 : w2.cell? ⟨b0, off + k * 2, none⟩ = some (.int .i64 p) := by rw [hp]; exact e.1
   have d2 : w2.cell? ⟨b0, off + k * 2 + 1, none⟩ = some (.int .i64 q) := by rw [hq]; exact e.2
   have hI : (k : Int) < (l : Int) := by omega
   clear e hp hq hc hp0
   by_cases h1 : p < 1
   ·
    have HV : Hid (x.ok = false) := by show _ = _; rw [HOK.out, Sp.taken_not (by rw [HP.out.2.2]; exact hlt) (fun e => absurd e.1 (by rw [← HX.out.1]; omega))]; simp
    go_wp2
    go_ret
    exact ⟨ret_bool HV.out.symm, HB2.out.1⟩
   by_cases h2 : 60 < q
   ·
    have HV : Hid (x.ok = false) := by show _ = _; rw [HOK.out, Sp.taken_not (by rw [HP.out.2.2]; exact hlt) (fun e => absurd e.2 (by rw [← HX.out.2]; omega))]; simp
    go_wp2
    go_ret
    exact ⟨ret_bool HV.out.symm, HB2.out.1⟩
   have HN2 : Hid (∀ j, j < k + 1 → 1 ≤ (x.taken.at j).1 ∧ (x.taken.at j).2 ≤ 60) := all_up HN.out ⟨by rw [← HX.out.1]; omega, by rw [← HX.out.2]; omega⟩
   go_wp2
   go_roundw
   case rel => exact ⟨k + 1, by omega, by go_num, trivial, HN2⟩
   case measure => simp [intOf]; omega
  ·
   have HOK2 : Hid (x.ok = (if x.kind = 1 then x.item.ok else decide (x.item = It.zero))) := by
    show _ = _
    rw [HOK.out, ← HD5.out, Sp.taken_all (fun j hj => HN.out j (by have := HP.out.2.2; omega))]
    rfl
   by_cases h1 : x.kind = 1
   ·
    have e1 : (x.kind == 1) = true := by simpa using h1
    have HV : Hid (x.ok = x.item.ok) := by show _ = _; rw [HOK2.out, if_pos h1]
    clear h1
    go_wp2_with (first | go_skip | (with_reducible refine stopLoad 36 rfl ?_))
    refine load_cut 36 w.heap.size 5 11 _ #[.int .i64 x.item.seq, .int .i64 x.item.cls, .int .i64 x.item.key, .int .i64 x.item.window, .int .i64 x.item.sk.count, .int .i64 x.item.sk.sum, .int .i64 x.item.sk.min, .int .i64 x.item.sk.max, .slice a1 n1 c1, .slice a2 n2 c2, .slice a3 n3 c3] 38 _ HB2.out.2 rfl rfl rfl Try.underlying36 rfl infoItA (by simp) rfl ?_
    go_wp2_with fail
    refine (itemOkSpec_any _ x.item G _ (HR.out.1.below HB2.out.1) HR.out.2).mono ?_
    rintro e w3 ⟨rfl, hb3⟩
    have HB3 : Hid (Below w.heap.size w w3) := Below.next HB2.out.1 hb3
    clear hb3
    obtain ⟨d, hd⟩ : ∃ d, d = x.item.ok := ⟨_, rfl⟩
    rw [← hd] at HV ⊢
    clear hd
    go_wp2
    go_ret
    exact ⟨ret_bool HV.out.symm, HB3.out⟩
   ·
    have e1 : (x.kind == 1) = false := by simpa using h1
    have HV : Hid (x.ok = decide (x.item = It.zero)) := by show _ = _; rw [HOK2.out, if_neg h1]
    clear h1
    go_wp2_with (first | go_skip | (with_reducible refine stopLoad 36 rfl ?_))
    refine load_cut 36 w.heap.size 5 11 _ #[.int .i64 x.item.seq, .int .i64 x.item.cls, .int .i64 x.item.key, .int .i64 x.item.window, .int .i64 x.item.sk.count, .int .i64 x.item.sk.sum, .int .i64 x.item.sk.min, .int .i64 x.item.sk.max, .slice a1 n1 c1, .slice a2 n2 c2, .slice a3 n3 c3] 38 _ HB2.out.2 rfl rfl rfl Try.underlying36 rfl infoItA (by simp) rfl ?_
    go_wp2_with fail
    refine (l7Zero_any _ x.item G _ (HR.out.1.below HB2.out.1)).mono ?_
    rintro e w3 ⟨rfl, hb3⟩
    have HB3 : Hid (Below w.heap.size w w3) := Below.next HB2.out.1 hb3
    clear hb3
    obtain ⟨d, hd⟩ : ∃ d, d = decide (x.item = It.zero) := ⟨_, rfl⟩
    rw [← hd] at HV ⊢
    clear hd
    go_wp2
    go_ret
    exact ⟨ret_bool HV.out.symm, HB3.out⟩
end Go.Proofs.Ytgkbhhlkaifnoaa
