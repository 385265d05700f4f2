/- Several texts of mine, laid together. No statement of the seat is proved here. -/
import Derived.Test.YtjndcfamfminkaqB1
import Derived.Test.YtjndcfamfminkaqB2
import Derived.Test.YtjndcfamfminkaqB3
import Derived.BigQuiet
import Derived.Lib.SlBytesConst
/- The walk through the model's FrameOf. No statement of the seat is proved here. -/
namespace Go.Proofs.Ytjndcfamfminkaq
open Go.RowKit
theorem infoFrO7 : (Try.prog.info? 51).map (·.size) = some 16 := by kernel_rfl
theorem infoItO7 : (Try.prog.info? 49).map (·.size) = some 11 := by kernel_rfl
/-- The place of the result, what is worked on, the bytes that are read. -/
structure FoW (w : World) (T : Nat) (cs : Array Value) (a : Option Addr) (len : Nat) (zs : List Int) (W : World) : Prop where
  res : Blk W w.heap.size #[.int .i64 0, .int .i64 0, .int .i64 0, .int .i64 0, .slice none 0 0, .int .i64 0, .int .i64 0, .int .i64 0, .int .i64 0, .int .i64 0, .int .i64 0, .int .i64 0, .int .i64 0, .slice none 0 0, .slice none 0 0, .slice none 0 0] 51
  loc : Blk W T cs 51
  src : RdB W a len zs
  bel : Below w.heap.size w W
  ord : w.heap.size < T
section
variable {w W W' : World} {T : Nat} {cs ds : Array Value} {a : Option Addr} {len : Nat} {zs : List Int}
theorem FoW.below (h : FoW w T cs a len zs W) (b : Below W.heap.size W W') : FoW w T cs a len zs W' := ⟨h.res.below b, h.loc.below b, h.src.below b, Below.next h.bel b, h.ord⟩
theorem FoW.set (h : FoW w T cs a len zs W) (hs : RdB w a len zs) (j : Nat) (v : Value) : FoW w T (cs.setIfInBounds j v) a len zs (W.setCell ⟨T, j, none⟩ v) := by
  have o := h.ord
  have b : Below w.heap.size w (W.setCell ⟨T, j, none⟩ v) := h.bel.setCell (by show w.heap.size ≤ T; omega) v
  exact ⟨h.res.setOther (by omega) j v, h.loc.set j v, hs.below b, b, h.ord⟩
theorem FoW.row (h : FoW w T cs a len zs W) (hs : RdB w a len zs) (ds : Array Value) : FoW w T ds a len zs (W.setRow T ds) := by
  have o := h.ord
  have b : Below w.heap.size w (W.setRow T ds) := below_setRow h.bel (by omega) ds
  exact ⟨h.res.setRowOther (by omega), h.loc.setRow, hs.below b, b, h.ord⟩
end
section
variable {P : Program} {ops : Array Oper} {Q : Exit → Act → World → Prop} {a : Act} {w : World} {o : Oper} {K : Act → World → Prop} {x y : Operand}
theorem op_storeCut (ty : TypeId) (g off : Nat) (cs ds es : Array Value) (t : TypeId) (hg : Blk w g cs t) (hw : Region.wanted o (yielded ops a.tmps) = true) (ho : o.op = .store ty x y) (hx : a.eval x = .pointer (some ⟨g, off, none⟩)) (hy : a.eval y = .agg ds)
    (hi : (P.info? ty).map (·.size) = some ds.size) (hfit : off + ds.size ≤ cs.size) (h1 : ds.all (·.oneCell') = true) (hes : cutIn cs off ds = es)
    (h : ∃ a', a.put o.dst undef = a' ∧ K a' (w.setRow g es)) : if Region.wanted o (yielded ops a.tmps) = true then Oper.wp P o a w K Q else K (a.put o.dst undef) w := by
  subst hes
  obtain ⟨_, rfl, h⟩ := h
  rw [if_pos hw]
  unfold Oper.wp execOp
  simp only [ho, hx, hy, Instr.storeAt, Instr.sureAddr, Sem.run_bind, Sem.run_pure, Result.andThen_ok, run_storeVar_cut w g off t ty cs ds hg hi hfit h1]
  exact h
end
theorem own_setO {w : World} {base e size n : Nat} {v u : Value} {xs : List Value} {g j : Nat} (h : w.ownsRow base e size v n xs) (hg : g < base) : (w.setCell ⟨g, j, none⟩ u).ownsRow base e size v n xs := by
  refine ⟨h.1, ?_⟩
  rcases h.2 with q | ⟨g', cap, cur, h1, h2, h3, h4⟩
  · exact .inl q
  · exact .inr ⟨g', cap, cur, h1, h2, by rw [Below.heap_setCell w ⟨g, j, none⟩ u g' (by show g' ≠ g; omega)]; exact h3, h4⟩
theorem wrapO {n : Int} (h : -9223372036854775808 ≤ n ∧ n ≤ 9223372036854775807) : IntKind.i64.wrap n = n := by
  simp [IntKind.wrap, IntKind.bits, IntKind.signed]
  omega
theorem exec_conv {P : Program} {a : Act} {o : Oper} {x : Operand} {t u : TypeId} {v r : Value} {W : World} (ho : o.op = .convert t u x) (hx : a.eval x = v) (h : (convert t u v).run P W = .ok r W) : (execOp a.eval o).run P W = .ok (.value r) W := by
  unfold execOp
  simp only [ho, hx, Sem.run_bind, h, Result.andThen_ok, Sem.run_pure]
theorem exec_neStr {a : Act} {o : Oper} {x y : Operand} {s t : ByteArray} {W : World} (ho : o.op = .binOp .neq 9 x y 9) (hx : a.eval x = .string s) (hy : a.eval y = .string t) : (execOp a.eval o).run Try.prog W = .ok (.value (.bool (!decide (s = t)))) W := by
  unfold execOp
  simp only [ho, hx, hy]
  go_simp
  by_cases h : s = t
  · subst h; simp
  · rw [decide_eq_false h]
    simp [bytes_list, h]
set_option maxRecDepth 200000 in
set_option maxHeartbeats 16000000 in
theorem frameOfSpec_any (a : Option Addr) (len cap : Nat) (zs : List Int) (w : World) (h : RdB w a len zs) (hlen : len ≤ 1048576) (hcap : len ≤ cap) :
    Calls Try.prog 28 #[.slice a len cap] w fun e w' => NewFrR w (FrIs zs) e w' := by
  obtain ⟨i0, hi, hz0, hz1, hz2⟩ := info_parts infoSpan
  have HR : Hid (RdB w a len zs) := h
  have HZ : Hid (zs.length = len ∧ ∀ x ∈ zs, 0 ≤ x ∧ x ≤ 255) := ⟨h.length, h.range⟩
  have HT : Hid (Blk (w.alloc (.cells #[.int .i64 0, .int .i64 0, .int .i64 0, .int .i64 0, .slice none 0 0, .int .i64 0, .int .i64 0, .int .i64 0, .int .i64 0, .int .i64 0, .int .i64 0, .int .i64 0, .int .i64 0, .slice none 0 0, .slice none 0 0, .slice none 0 0] 51)) w.heap.size #[.int .i64 0, .int .i64 0, .int .i64 0, .int .i64 0, .slice none 0 0, .int .i64 0, .int .i64 0, .int .i64 0, .int .i64 0, .int .i64 0, .int .i64 0, .int .i64 0, .int .i64 0, .slice none 0 0, .slice none 0 0, .slice none 0 0] 51 ∧ Below w.heap.size w (w.alloc (.cells #[.int .i64 0, .int .i64 0, .int .i64 0, .int .i64 0, .slice none 0 0, .int .i64 0, .int .i64 0, .int .i64 0, .int .i64 0, .int .i64 0, .int .i64 0, .int .i64 0, .int .i64 0, .slice none 0 0, .slice none 0 0, .slice none 0 0] 51))) := ⟨Blk.made _ _ _, (Below.refl _ _).alloc (Nat.le_refl _) _⟩
  by_cases h6 : len < 6
  · have hd : decide ((len : Int) < 6) = true := dec_true (by omega)
    have HV : Hid (FrIs zs Fr.zero false) := of_short (by rw [HZ.out.1]; exact h6)
    clear h h6
    go_enter Try.func28, Try.ntmps28
    go_wp2_with fail
    obtain ⟨W1, hW1⟩ : ∃ W, W = w.alloc (.cells #[.int .i64 0, .int .i64 0, .int .i64 0, .int .i64 0, .slice none 0 0, .int .i64 0, .int .i64 0, .int .i64 0, .int .i64 0, .int .i64 0, .int .i64 0, .int .i64 0, .int .i64 0, .slice none 0 0, .slice none 0 0, .slice none 0 0] 51) := ⟨_, rfl⟩
    rw [← hW1] at HT ⊢
    clear hW1
    refine wp_region_held (S := fun _ => True) (by kernel_rfl) ?_
    change wpAnyH _ _ _ _ _ _ _ _ (World.drew _)
    refine takeH (o := ?o1) 0 (.slice a len cap) ?h1 ?r1
    case h1 => simp only [aT, aZ]; rfl
    refine ⟨_, by simp [Act.put]; rfl, by kernel_rfl, by kernel_rfl, by kernel_rfl, fun _ _ _ h => h, (.inl ⟨rfl, fun W _ => by kernel_rfl⟩), trivial, ?_⟩
    refine takeH (o := ?o2) 1 (.int .i64 len) ?h2 ?r2
    case h2 => simp only [aT, aS, aZ]; rfl
    refine ⟨_, by simp [Act.put]; rfl, by kernel_rfl, by kernel_rfl, by kernel_rfl, fun _ _ _ h => h, (.inl ⟨rfl, fun W _ => by go_simp⟩), trivial, ?_⟩
    refine takeH (o := ?o3) 2 (.bool true) ?h3 ?r3
    case h3 => simp only [aT, aS, aZ]; rfl
    refine ⟨_, by simp [Act.put]; rfl, by kernel_rfl, by kernel_rfl, by kernel_rfl, fun _ _ _ h => h, (.inl ⟨rfl, fun W _ => by go_simp⟩), trivial, ?_⟩
    refine takeH (o := ?o4) 3 (.bool true) ?h4 ?r4
    case h4 => simp only [aT, aS, aZ]; rfl
    refine ⟨_, by simp [Act.put]; rfl, by kernel_rfl, by kernel_rfl, by kernel_rfl, fun _ _ _ h => h, (.inl ⟨rfl, fun W _ => by kernel_rfl⟩), trivial, ?_⟩
    refine takeH (o := ?o5) 4 (undef) ?h5 ?r5
    case h5 => simp only [aT, aS, aZ]; rfl
    refine ⟨_, by simp [Act.put]; rfl, by kernel_rfl, by kernel_rfl, by kernel_rfl, fun _ _ _ h => h, (.inr ⟨rfl, rfl⟩), trivial, ?_⟩
    refine takeH (o := ?o6) 5 (undef) ?h6 ?r6
    case h6 => simp only [aT, aS, aZ]; rfl
    refine ⟨_, by simp [Act.put]; rfl, by kernel_rfl, by kernel_rfl, by kernel_rfl, fun _ _ _ h => h, (.inr ⟨rfl, rfl⟩), trivial, ?_⟩
    refine takeH (o := ?o7) 6 (undef) ?h7 ?r7
    case h7 => simp only [aT, aS, aZ]; rfl
    refine ⟨_, by simp [Act.put]; rfl, by kernel_rfl, by kernel_rfl, by kernel_rfl, fun _ _ _ h => h, (.inr ⟨rfl, rfl⟩), trivial, ?_⟩
    refine takeH (o := ?o8) 7 (undef) ?h8 ?r8
    case h8 => simp only [aT, aS, aZ]; rfl
    refine ⟨_, by simp [Act.put]; rfl, by kernel_rfl, by kernel_rfl, by kernel_rfl, fun _ _ _ h => h, (.inr ⟨rfl, rfl⟩), trivial, ?_⟩
    refine takeH (o := ?o9) 8 (undef) ?h9 ?r9
    case h9 => simp only [aT, aS, aZ]; rfl
    refine ⟨_, by simp [Act.put]; rfl, by kernel_rfl, by kernel_rfl, by kernel_rfl, fun _ _ _ h => h, (.inr ⟨rfl, rfl⟩), trivial, ?_⟩
    refine takeH (o := ?o10) 9 (undef) ?h10 ?r10
    case h10 => simp only [aT, aS, aZ]; rfl
    refine ⟨_, by simp [Act.put]; rfl, by kernel_rfl, by kernel_rfl, by kernel_rfl, fun _ _ _ h => h, (.inr ⟨rfl, rfl⟩), trivial, ?_⟩
    refine takeH (o := ?o11) 10 (undef) ?h11 ?r11
    case h11 => simp only [aT, aS, aZ]; rfl
    refine ⟨_, by simp [Act.put]; rfl, by kernel_rfl, by kernel_rfl, by kernel_rfl, fun _ _ _ h => h, (.inr ⟨rfl, rfl⟩), trivial, ?_⟩
    refine takeH (o := ?o12) 11 (undef) ?h12 ?r12
    case h12 => simp only [aT, aS, aZ]; rfl
    refine ⟨_, by simp [Act.put]; rfl, by kernel_rfl, by kernel_rfl, by kernel_rfl, fun _ _ _ h => h, (.inr ⟨rfl, rfl⟩), trivial, ?_⟩
    refine takeH (o := ?o13) 12 (undef) ?h13 ?r13
    case h13 => simp only [aT, aS, aZ]; rfl
    refine ⟨_, by simp [Act.put]; rfl, by kernel_rfl, by kernel_rfl, by kernel_rfl, fun _ _ _ h => h, (.inr ⟨rfl, rfl⟩), trivial, ?_⟩
    refine takeH (o := ?o14) 13 (undef) ?h14 ?r14
    case h14 => simp only [aT, aS, aZ]; rfl
    refine ⟨_, by simp [Act.put]; rfl, by kernel_rfl, by kernel_rfl, by kernel_rfl, fun _ _ _ h => h, (.inr ⟨rfl, rfl⟩), trivial, ?_⟩
    refine takeH (o := ?o15) 14 (undef) ?h15 ?r15
    case h15 => simp only [aT, aS, aZ]; rfl
    refine ⟨_, by simp [Act.put]; rfl, by kernel_rfl, by kernel_rfl, by kernel_rfl, fun _ _ _ h => h, (.inr ⟨rfl, rfl⟩), trivial, ?_⟩
    refine takeH (o := ?o16) 15 (undef) ?h16 ?r16
    case h16 => simp only [aT, aS, aZ]; rfl
    refine ⟨_, by simp [Act.put]; rfl, by kernel_rfl, by kernel_rfl, by kernel_rfl, fun _ _ _ h => h, (.inr ⟨rfl, rfl⟩), trivial, ?_⟩
    refine takeH (o := ?o17) 16 (undef) ?h17 ?r17
    case h17 => simp only [aT, aS, aZ]; rfl
    refine ⟨_, by simp [Act.put]; rfl, by kernel_rfl, by kernel_rfl, by kernel_rfl, fun _ _ _ h => h, (.inr ⟨rfl, rfl⟩), trivial, ?_⟩
    refine takeH (o := ?o18) 17 (undef) ?h18 ?r18
    case h18 => simp only [aT, aS, aZ]; rfl
    refine ⟨_, by simp [Act.put]; rfl, by kernel_rfl, by kernel_rfl, by kernel_rfl, fun _ _ _ h => h, (.inr ⟨rfl, rfl⟩), trivial, ?_⟩
    refine takeH (o := ?o19) 18 (.bool true) ?h19 ?r19
    case h19 => simp only [aT, aS, aZ]; rfl
    refine ⟨_, by simp [Act.put]; rfl, by kernel_rfl, by kernel_rfl, by kernel_rfl, fun _ _ _ h => h, (.inl ⟨rfl, fun W _ => by kernel_rfl⟩), trivial, ?_⟩
    refine wpAnyH_done (by kernel_rfl) ?_ _
    go_wp2_with (first | go_skip | (with_reducible refine stopStore 51 rfl ?_))
    refine store_known 51 w.heap.size _ #[.int .i64 0, .int .i64 0, .int .i64 0, .int .i64 0, .slice none 0 0, .int .i64 0, .int .i64 0, .int .i64 0, .int .i64 0, .int .i64 0, .int .i64 0, .int .i64 0, .int .i64 0, .slice none 0 0, .slice none 0 0, .slice none 0 0] 51 (Blk.drew HT.out.1) rfl rfl rfl rfl infoFrO7 rfl (by simp [Value.oneCell']) ?_
    go_wp2
    refine bodyPost_ret (results_row_tmp Try.results28 _ _ w.heap.size _ _ _ _ rfl (Blk.setRow (Blk.drew HT.out.1)) Try.underlying51 rfl infoFrO7) rfl ?_
    exact ⟨_, Fr.zero, false, [], [], rfl, rdFr_zero _, Own.nil, Own.nil, by simp, below_setRow (Below.drew HT.out.2) (Nat.le_refl _) _, HV.out⟩
  have hd : decide ((len : Int) < 6) = false := dec_false (by omega)
  obtain ⟨b, off, rfl⟩ := h.addr (by omega)
  obtain ⟨k, hk⟩ : ∃ k, len = k + 4 := ⟨len - 4, by omega⟩
  subst hk
  have h2k : 2 ≤ k := by omega
  have e4 : ((k + 4 : Nat) : Int) - 4 = (k : Int) := by omega
  have hkc : (k : Int) ≤ (cap : Int) := by omega
  have hkn : ¬ cap = k := by omega
  have HS0 : Hid (∀ W, Below w.heap.size w W → RdB W (some ⟨b, off, none⟩) k (zs.take k) ∧ RdB W (some ⟨b, off + k, none⟩) 4 (zs.drop k)) := fun W hb => ⟨(HR.out.below hb).take (by omega), by have := (HR.out.below hb).drop (m := k) (by omega); rw [Nat.add_sub_cancel_left] at this; exact this⟩
  have HRG : Hid ((∀ x ∈ zs.take k, 0 ≤ x ∧ x ≤ 255) ∧ (∀ x ∈ zs.drop k, 0 ≤ x ∧ x ≤ 255) ∧ (zs.take k).length = k ∧ (zs.drop k).length = 4) := ⟨fun x hx => HZ.out.2 x (List.mem_of_mem_take hx), fun x hx => HZ.out.2 x (List.mem_of_mem_drop hx), by have := HZ.out.1; simp; omega, by have := HZ.out.1; simp; omega⟩
  clear h h6
  go_enter Try.func28, Try.ntmps28
  go_wp2_with fail
  rw [e4] at *
  obtain ⟨W1, hW1⟩ : ∃ W, W = w.alloc (.cells #[.int .i64 0, .int .i64 0, .int .i64 0, .int .i64 0, .slice none 0 0, .int .i64 0, .int .i64 0, .int .i64 0, .int .i64 0, .int .i64 0, .int .i64 0, .int .i64 0, .int .i64 0, .slice none 0 0, .slice none 0 0, .slice none 0 0] 51) := ⟨_, rfl⟩
  rw [← hW1] at HT ⊢
  clear hW1
  have HTd : Hid (Blk W1.drew w.heap.size #[.int .i64 0, .int .i64 0, .int .i64 0, .int .i64 0, .slice none 0 0, .int .i64 0, .int .i64 0, .int .i64 0, .int .i64 0, .int .i64 0, .int .i64 0, .int .i64 0, .int .i64 0, .slice none 0 0, .slice none 0 0, .slice none 0 0] 51 ∧ Below w.heap.size w W1.drew) := ⟨HT.out.1.drew, Below.drew HT.out.2⟩
  refine wp_region_held (S := fun W => RdB W (some ⟨b, off + k, none⟩) 4 (zs.drop k)) (by kernel_rfl) ?_
  change wpAnyH _ _ _ _ _ _ _ _ (World.drew _)
  refine takeH (o := ?o20) 0 (.slice (some ⟨b, off, none⟩) (k + 4) cap) ?h20 ?r20
  case h20 => simp only [aT, aZ]; rfl
  refine ⟨_, by simp [Act.put]; rfl, by kernel_rfl, by kernel_rfl, by kernel_rfl, fun _ _ _ h => h, (.inl ⟨rfl, fun W _ => by kernel_rfl⟩), (HS0.out _ HTd.out.2).2, ?_⟩
  refine takeH (o := ?o21) 1 (.int .i64 ((k + 4 : Nat) : Int)) ?h21 ?r21
  case h21 => simp only [aT, aS, aZ]; rfl
  refine ⟨_, by simp [Act.put]; rfl, by kernel_rfl, by kernel_rfl, by kernel_rfl, fun _ _ _ h => h, (.inl ⟨rfl, fun W _ => by go_simp⟩), (HS0.out _ HTd.out.2).2, ?_⟩
  refine takeH (o := ?o22) 2 (.bool false) ?h22 ?r22
  case h22 => simp only [aT, aS, aZ]; rfl
  refine ⟨_, by simp [Act.put]; rfl, by kernel_rfl, by kernel_rfl, by kernel_rfl, fun _ _ _ h => h, (.inl ⟨rfl, fun W _ => by go_simp; first | done | omega⟩), (HS0.out _ HTd.out.2).2, ?_⟩
  refine takeH (o := ?o23) 3 (.bool false) ?h23 ?r23
  case h23 => simp only [aT, aS, aZ]; rfl
  refine ⟨_, by simp [Act.put]; rfl, by kernel_rfl, by kernel_rfl, by kernel_rfl, fun _ _ _ h => h, (.inl ⟨rfl, fun W _ => by kernel_rfl⟩), (HS0.out _ HTd.out.2).2, ?_⟩
  refine takeH (o := ?o24) 4 (.slice (some ⟨b, off, none⟩) (k + 4) cap) ?h24 ?r24
  case h24 => simp only [aT, aS, aZ]; rfl
  refine ⟨_, by simp [Act.put]; rfl, by kernel_rfl, by kernel_rfl, by kernel_rfl, fun _ _ _ h => h, (.inl ⟨rfl, fun W _ => by kernel_rfl⟩), (HS0.out _ HTd.out.2).2, ?_⟩
  refine takeH (o := ?o25) 5 (.slice (some ⟨b, off, none⟩) (k + 4) cap) ?h25 ?r25
  case h25 => simp only [aT, aS, aZ]; rfl
  refine ⟨_, by simp [Act.put]; rfl, by kernel_rfl, by kernel_rfl, by kernel_rfl, fun _ _ _ h => h, (.inl ⟨rfl, fun W _ => by kernel_rfl⟩), (HS0.out _ HTd.out.2).2, ?_⟩
  refine takeH (o := ?o26) 6 (.int .i64 ((k + 4 : Nat) : Int)) ?h26 ?r26
  case h26 => simp only [aT, aS, aZ]; rfl
  refine ⟨_, by simp [Act.put]; rfl, by kernel_rfl, by kernel_rfl, by kernel_rfl, fun _ _ _ h => h, (.inl ⟨rfl, fun W _ => by go_simp⟩), (HS0.out _ HTd.out.2).2, ?_⟩
  refine takeH (o := ?o27) 7 (.int .i64 (k : Int)) ?h27 ?r27
  case h27 => simp only [aT, aS, aZ]; rfl
  refine ⟨_, by simp [Act.put]; rfl, by kernel_rfl, by kernel_rfl, by kernel_rfl, fun _ _ _ h => h, (.inl ⟨rfl, fun W _ => by go_simp; first | done | (refine wrapO ?_; omega)⟩), (HS0.out _ HTd.out.2).2, ?_⟩
  refine takeH (o := ?o28) 8 (.slice (some ⟨b, off, none⟩) k cap) ?h28 ?r28
  case h28 => simp only [aT, aS, aZ]; rfl
  refine ⟨_, by simp [Act.put]; rfl, by kernel_rfl, by kernel_rfl, by kernel_rfl, fun _ _ _ h => h, (.inl ⟨rfl, fun W _ => by go_simp⟩), (HS0.out _ HTd.out.2).2, ?_⟩
  refine takeH (o := ?o29) 11 (.slice (some ⟨b, off, none⟩) (k + 4) cap) ?h29 ?r29
  case h29 => simp only [aT, aS, aZ]; rfl
  refine ⟨_, by simp [Act.put]; rfl, by kernel_rfl, by kernel_rfl, by kernel_rfl, fun _ _ _ h => h, (.inl ⟨rfl, fun W _ => by kernel_rfl⟩), (HS0.out _ HTd.out.2).2, ?_⟩
  refine takeH (o := ?o30) 12 (.slice (some ⟨b, off, none⟩) (k + 4) cap) ?h30 ?r30
  case h30 => simp only [aT, aS, aZ]; rfl
  refine ⟨_, by simp [Act.put]; rfl, by kernel_rfl, by kernel_rfl, by kernel_rfl, fun _ _ _ h => h, (.inl ⟨rfl, fun W _ => by kernel_rfl⟩), (HS0.out _ HTd.out.2).2, ?_⟩
  refine takeH (o := ?o31) 13 (.int .i64 ((k + 4 : Nat) : Int)) ?h31 ?r31
  case h31 => simp only [aT, aS, aZ]; rfl
  refine ⟨_, by simp [Act.put]; rfl, by kernel_rfl, by kernel_rfl, by kernel_rfl, fun _ _ _ h => h, (.inl ⟨rfl, fun W _ => by go_simp⟩), (HS0.out _ HTd.out.2).2, ?_⟩
  refine takeH (o := ?o32) 14 (.int .i64 (k : Int)) ?h32 ?r32
  case h32 => simp only [aT, aS, aZ]; rfl
  refine ⟨_, by simp [Act.put]; rfl, by kernel_rfl, by kernel_rfl, by kernel_rfl, fun _ _ _ h => h, (.inl ⟨rfl, fun W _ => by go_simp; first | done | (refine wrapO ?_; omega)⟩), (HS0.out _ HTd.out.2).2, ?_⟩
  refine takeH (o := ?o33) 15 (.slice (some ⟨b, off + k, none⟩) 4 (cap - k)) ?h33 ?r33
  case h33 => simp only [aT, aS, aZ]; rfl
  refine ⟨_, by simp [Act.put]; rfl, by kernel_rfl, by kernel_rfl, by kernel_rfl, fun _ _ _ h => h, (.inl ⟨rfl, fun W _ => by go_simp; intro h; omega⟩), (HS0.out _ HTd.out.2).2, ?_⟩
  refine takeH (o := ?o34) 16 (.string (strOfNums (zs.drop k))) ?h34 ?r34
  case h34 => simp only [aT, aS, aZ]; rfl
  refine ⟨_, by simp [Act.put]; rfl, by kernel_rfl, by kernel_rfl, by kernel_rfl, fun _ _ _ h => h, (.inl ⟨rfl, fun W hW => exec_conv rfl rfl (conv_any hW)⟩), (HS0.out _ HTd.out.2).2, ?_⟩
  refine onlyH (o := ?o35) 9 (by kernel_rfl) ?h35 ?r35
  case h35 => simp only [aT, aS, aZ]; rfl
  intro K hK
  refine op_call1 61 _ _ Try.f61 (fun v w' => v = .slice (some ⟨W1.heap.size, 0, none⟩) 4 4 ∧ w' = W1.drew.alloc (.cells ((sumOf (zs.take k)).map (Value.int .u8)).toArray 5)) rfl rfl Try.func61 (by kernel_rfl) (by kernel_rfl) ((l7Sum_any (some ⟨b, off, none⟩) k cap (zs.take k) W1.drew (HS0.out _ HTd.out.2).1 (by omega)).mono (by rintro e w' ⟨rfl, h1⟩; exact ⟨_, rfl, rfl, h1⟩)) ?_
  rintro v W2 ⟨rfl, hW2⟩
  have b1 : Below W1.drew.heap.size W1.drew W2 := by rw [hW2]; exact (Below.refl _ _).alloc (Nat.le_refl _) _
  have r1 : RdB W2 (some ⟨W1.heap.size, 0, none⟩) 4 (sumOf (zs.take k)) := by
    rw [hW2]
    refine ⟨sumOf_len _, sumOf_range _ HRG.out.1, .inr ⟨W1.heap.size, 0, rfl, fun i hi => ?_⟩⟩
    rw [Nat.zero_add, show W1.heap.size = W1.drew.heap.size from rfl, (Blk.made W1.drew _ _).cell i]
    have hi' : i < (sumOf (zs.take k)).length := by rw [sumOf_len]; exact hi
    simp [List.getElem?_eq_getElem hi']
  have HW2 : Hid (Blk W2 w.heap.size #[.int .i64 0, .int .i64 0, .int .i64 0, .int .i64 0, .slice none 0 0, .int .i64 0, .int .i64 0, .int .i64 0, .int .i64 0, .int .i64 0, .int .i64 0, .int .i64 0, .int .i64 0, .slice none 0 0, .slice none 0 0, .slice none 0 0] 51 ∧ Below w.heap.size w W2) := ⟨HTd.out.1.below b1, Below.next HTd.out.2 b1⟩
  have k1 := conv_any r1 (cap := 4)
  clear hW2 b1 r1
  refine ⟨_, by simp [Act.put]; rfl, hK _ _ ⟨(HS0.out _ HW2.out.2).2, ?_⟩⟩
  clear hK HT HTd
  refine onlyH (o := ?o36) 10 (by kernel_rfl) ?h36 ?r36
  case h36 => simp only [aT, aS, aZ]; rfl
  intro K hK
  refine op_value (.string (strOfNums (sumOf (zs.take k)))) rfl (exec_conv rfl rfl k1) ⟨_, by simp [Act.put]; rfl, hK _ _ ⟨(HS0.out _ HW2.out.2).2, ?_⟩⟩
  clear hK
  clear k1
  refine onlyH (o := ?o37) 17 (by kernel_rfl) ?h37 ?r37
  case h37 => simp only [aT, aS, aZ]; rfl
  intro K hK
  refine op_value (.bool (!decide (sumOf (zs.take k) = zs.drop k))) rfl ((exec_neStr rfl rfl rfl).trans (by rw [strOf_dec (sumOf_range _ HRG.out.1) HRG.out.2.1])) ⟨_, by simp [Act.put]; rfl, hK _ _ ⟨(HS0.out _ HW2.out.2).2, ?_⟩⟩
  clear hK
  refine onlyH (o := ?o38) 18 (by kernel_rfl) ?h38 ?r38
  case h38 => simp only [aT, aS, aZ]; rfl
  intro K hK
  refine op_value (.bool (!decide (sumOf (zs.take k) = zs.drop k))) rfl (by kernel_rfl) ⟨_, by simp [Act.put]; rfl, hK _ _ ⟨(HS0.out _ HW2.out.2).2, ?_⟩⟩
  clear hK
  refine wpAnyH_done (by kernel_rfl) ?_ _
  obtain ⟨d, hd2⟩ : ∃ d, d = !decide (sumOf (zs.take k) = zs.drop k) := ⟨_, rfl⟩
  rw [← hd2]
  have HD : Hid (d = !decide (sumOf (zs.take k) = zs.drop k)) := hd2
  clear hd2 hd e4
  cases d
  rotate_left
  · have HV : Hid (FrIs zs Fr.zero false) := by
      have q : ¬ sumOf (zs.take k) = zs.drop k := by
        have := HD.out
        intro e
        rw [decide_eq_true e] at this
        cases this
      have := frIs_noSum (body := zs.take k) (s := zs.drop k) HRG.out.2.2.2 (fun e => q e.symm)
      rw [List.take_append_drop] at this
      exact this
    go_wp2_with (first | go_skip | (with_reducible refine stopStore 51 rfl ?_))
    refine store_known 51 w.heap.size _ #[.int .i64 0, .int .i64 0, .int .i64 0, .int .i64 0, .slice none 0 0, .int .i64 0, .int .i64 0, .int .i64 0, .int .i64 0, .int .i64 0, .int .i64 0, .int .i64 0, .int .i64 0, .slice none 0 0, .slice none 0 0, .slice none 0 0] 51 HW2.out.1 rfl rfl rfl rfl infoFrO7 rfl (by simp [Value.oneCell']) ?_
    go_wp2
    refine bodyPost_ret (results_row_tmp Try.results28 _ _ w.heap.size _ _ _ _ rfl (Blk.setRow HW2.out.1) Try.underlying51 rfl infoFrO7) rfl ?_
    exact ⟨_, Fr.zero, false, [], [], rfl, rdFr_zero _, Own.nil, Own.nil, by simp, below_setRow HW2.out.2 (Nat.le_refl _) _, HV.out⟩
  have HB : Hid (zs = zs.take k ++ sumOf (zs.take k)) := by
    have q : sumOf (zs.take k) = zs.drop k := by
      have := HD.out
      by_cases e : sumOf (zs.take k) = zs.drop k
      · exact e
      · rw [decide_eq_false e] at this
        cases this
    show _ = _
    rw [q, List.take_append_drop]
  have HSB : Hid (∀ W, Below w.heap.size w W → RdB W (some ⟨b, off, none⟩) k (zs.take k)) := fun W hb => (HS0.out W hb).1
  obtain ⟨B, hB⟩ : ∃ B, B = zs.take k := ⟨_, rfl⟩
  rw [← hB] at HB HSB HRG
  clear HD hB HS0
  have e4 : ((k + 4 : Nat) : Int) - 4 = (k : Int) := by omega
  go_wp2_with fail
  rw [e4] at *
  refine (l7Get_any (some ⟨b, off, none⟩) k cap 2 5 B _ (HSB.out _ HW2.out.2) (by omega) (by omega)).mono ?_
  rintro e w3 ⟨⟨v, l, q, rfl, hown, hg⟩, hb3⟩
  have HW3 : Hid (Blk w3 w.heap.size #[.int .i64 0, .int .i64 0, .int .i64 0, .int .i64 0, .slice none 0 0, .int .i64 0, .int .i64 0, .int .i64 0, .int .i64 0, .int .i64 0, .int .i64 0, .int .i64 0, .int .i64 0, .slice none 0 0, .slice none 0 0, .slice none 0 0] 51 ∧ Below w.heap.size w w3) := ⟨HW2.out.1.below hb3, Below.next HW2.out.2 hb3⟩
  clear hb3 HW2 e4
  cases hgt : getTo B 2 5 with
  | none =>
    have HV : Hid (FrIs zs Fr.zero false) := by
      show FrIs _ _ _
      rw [HB.out]
      exact of_head hgt
    clear hgt hg hown
    simp only [Option.isSome]
    go_wp2_with (first | go_skip | (with_reducible refine stopStore 51 rfl ?_))
    refine store_known 51 w.heap.size _ #[.int .i64 0, .int .i64 0, .int .i64 0, .int .i64 0, .slice none 0 0, .int .i64 0, .int .i64 0, .int .i64 0, .int .i64 0, .int .i64 0, .int .i64 0, .int .i64 0, .int .i64 0, .slice none 0 0, .slice none 0 0, .slice none 0 0] 51 HW3.out.1 rfl rfl rfl rfl infoFrO7 rfl (by simp [Value.oneCell']) ?_
    go_wp2
    refine bodyPost_ret (results_row_tmp Try.results28 _ _ w.heap.size _ _ _ _ rfl (Blk.setRow HW3.out.1) Try.underlying51 rfl infoFrO7) rfl ?_
    exact ⟨_, Fr.zero, false, [], [], rfl, rdFr_zero _, Own.nil, Own.nil, by simp, below_setRow HW3.out.2 (Nat.le_refl _) _, HV.out⟩
  | some r =>
    obtain ⟨l', q'⟩ := r
    rw [hgt] at hg
    simp only [Option.getD] at hg
    cases hg
    simp only [Option.isSome]
    have HG : Hid (getTo B 2 5 = some (l, q)) := hgt
    have iv := getTo_inv HRG.out.1 (p := 2) (by rw [HRG.out.2.2.1]; omega) hgt
    have ll : l.length = 5 := getTo_len hgt
    have HI : Hid (∀ x ∈ l, InN x) := iv.1
    obtain ⟨p1, hp1⟩ : ∃ p : Nat, p = 2 + (putAll l).length := ⟨_, rfl⟩
    have eq1 : q = (p1 : Int) := by rw [iv.2.1, hp1]
    subst eq1
    have hp1k : p1 ≤ k := by have := iv.2.2.1; rw [HRG.out.2.2.1] at this; omega
    rw [ll] at hown
    obtain ⟨gn, cn, rfl, hcn⟩ := own_shape7 hown (by omega)
    obtain ⟨Fs, hrd, _, _⟩ := RdI.of_own hown
    have hgn := (hown.lt gn rfl).1
    have hgn2 := (hown.lt gn rfl).2
    have HS1 : Hid (RdI w3 (some ⟨gn, 0, none⟩) 5 l [gn]) := by
      rcases hrd.cells with ⟨h0, _⟩ | ⟨b', off', hp, e, hF, hc⟩
      · omega
      · cases e; exact ⟨hrd.length, .inr ⟨gn, 0, hp, rfl, rfl, hc⟩⟩
    have c4 : w3.cell? ⟨gn, 4, none⟩ = some (.int .i64 (l.getD 4 0)) := by
      rcases HS1.out.cells with ⟨h0, _⟩ | ⟨b', off', hp, e, hF, hc⟩
      · omega
      · cases e; exact hc 4 (by omega)
    have i4 : InN (l.getD 4 0) := HI.out _ (mem_getD (d := 0) (by rw [ll]; omega))
    obtain ⟨n, hn⟩ := Int.eq_ofNat_of_zero_le i4.1
    rw [hn] at c4
    have HN : Hid (l.getD 4 0 = (n : Int)) := hn
    clear hown hrd hgt hn i4 iv hp1
    by_cases hbig : 100 < n
    · have hbd : decide ((100 : Int) < (n : Int)) = true := dec_true (by omega)
      have HV : Hid (FrIs zs Fr.zero false) := by
        show FrIs _ _ _
        rw [HB.out]
        exact of_many HG.out (by have := HN.out; omega)
      go_wp2_with (first | go_skip | (with_reducible refine stopStore 51 rfl ?_))
      refine store_known 51 w.heap.size _ #[.int .i64 0, .int .i64 0, .int .i64 0, .int .i64 0, .slice none 0 0, .int .i64 0, .int .i64 0, .int .i64 0, .int .i64 0, .int .i64 0, .int .i64 0, .int .i64 0, .int .i64 0, .slice none 0 0, .slice none 0 0, .slice none 0 0] 51 HW3.out.1 rfl rfl rfl rfl infoFrO7 rfl (by simp [Value.oneCell']) ?_
      go_wp2
      refine bodyPost_ret (results_row_tmp Try.results28 _ _ w.heap.size _ _ _ _ rfl (Blk.setRow HW3.out.1) Try.underlying51 rfl infoFrO7) rfl ?_
      exact ⟨_, Fr.zero, false, [], [], rfl, rdFr_zero _, Own.nil, Own.nil, by simp, below_setRow HW3.out.2 (Nat.le_refl _) _, HV.out⟩
    have hbd : decide ((100 : Int) < (n : Int)) = false := dec_false (by omega)
    obtain ⟨x0, hx0⟩ : ∃ x, x = l.getD 0 0 := ⟨_, rfl⟩
    obtain ⟨x1, hx1⟩ : ∃ x, x = l.getD 1 0 := ⟨_, rfl⟩
    obtain ⟨x2, hx2⟩ : ∃ x, x = l.getD 2 0 := ⟨_, rfl⟩
    obtain ⟨x3, hx3⟩ : ∃ x, x = l.getD 3 0 := ⟨_, rfl⟩
    have HX : Hid (x0 = l.getD 0 0 ∧ x1 = l.getD 1 0 ∧ x2 = l.getD 2 0 ∧ x3 = l.getD 3 0) := ⟨hx0, hx1, hx2, hx3⟩
    clear hx0 hx1 hx2 hx3
    have HKN : Hid (∀ W, RdI W (some ⟨gn, 0, none⟩) 5 l [gn] → NumHeld gn 0 x0 x1 x2 x3 W ∧ W.cell? ⟨gn, 4, none⟩ = some (.int .i64 n)) := fun W r => by
      rw [HX.out.1, HX.out.2.1, HX.out.2.2.1, HX.out.2.2.2]
      refine ⟨r.numHeld (by omega), ?_⟩
      rw [← HN.out]
      rcases r.cells with ⟨h0, _⟩ | ⟨b', off', hp, e, hF, hc⟩
      · omega
      · cases e; exact hc 4 (by omega)
    go_wp2_with fail
    obtain ⟨W4, hW4⟩ : ∃ W, W = w3 := ⟨_, rfl⟩
    have HW4 : Hid (Blk W4 w.heap.size #[.int .i64 0, .int .i64 0, .int .i64 0, .int .i64 0, .slice none 0 0, .int .i64 0, .int .i64 0, .int .i64 0, .int .i64 0, .int .i64 0, .int .i64 0, .int .i64 0, .int .i64 0, .slice none 0 0, .slice none 0 0, .slice none 0 0] 51 ∧ Below w.heap.size w W4 ∧ RdI W4 (some ⟨gn, 0, none⟩) 5 l [gn]) := by rw [hW4]; exact ⟨HW3.out.1, HW3.out.2, HS1.out⟩
    rw [← hW4] at hgn2 ⊢
    clear hW4 HW3 HS1 c4 hbd
    have HDR : Hid (Blk W4.drew w.heap.size #[.int .i64 0, .int .i64 0, .int .i64 0, .int .i64 0, .slice none 0 0, .int .i64 0, .int .i64 0, .int .i64 0, .int .i64 0, .int .i64 0, .int .i64 0, .int .i64 0, .int .i64 0, .slice none 0 0, .slice none 0 0, .slice none 0 0] 51 ∧ Below w.heap.size w W4.drew ∧ RdI W4.drew (some ⟨gn, 0, none⟩) 5 l [gn]) := ⟨HW4.out.1.drew, Below.drew HW4.out.2.1, HW4.out.2.2.below (Below.refl _ _).drew⟩
    have HS : Hid (NumHeld gn 0 x0 x1 x2 x3 W4.drew) := (HKN.out _ HDR.out.2.2).1
    refine wp_region_held (S := NumHeld gn 0 x0 x1 x2 x3) (by kernel_rfl) ?_
    change wpAnyH _ _ _ _ _ _ _ _ (World.drew _)
    refine takeH (o := ?o39) 0 (.slice (some ⟨gn, 0, none⟩) 5 cn) ?h39 ?r39
    case h39 => simp only [aT, aZ]; rfl
    refine ⟨_, by simp [Act.put]; rfl, by kernel_rfl, by kernel_rfl, by kernel_rfl, fun _ _ _ h => h, (.inl ⟨rfl, fun W _ => by kernel_rfl⟩), HS.out, ?_⟩
    refine takeH (o := ?o40) 1 (.pointer (some ⟨gn, 0, none⟩)) ?h40 ?r40
    case h40 => simp only [aT, aS, aZ]; rfl
    refine ⟨_, by simp [Act.put]; rfl, by kernel_rfl, by kernel_rfl, by kernel_rfl, fun _ _ _ h => h, (.inl ⟨rfl, fun W _ => by go_simp⟩), HS.out, ?_⟩
    refine takeH (o := ?o41) 2 (.int .i64 x0) ?h41 ?r41
    case h41 => simp only [aT, aS, aZ]; rfl
    refine ⟨_, by simp [Act.put]; rfl, by kernel_rfl, by kernel_rfl, by kernel_rfl, fun _ _ _ h => h, (.inl ⟨rfl, fun W hW => by have c := hW.1; go_simp⟩), HS.out, ?_⟩
    refine takeH (o := ?o42) 3 (.slice (some ⟨gn, 0, none⟩) 5 cn) ?h42 ?r42
    case h42 => simp only [aT, aS, aZ]; rfl
    refine ⟨_, by simp [Act.put]; rfl, by kernel_rfl, by kernel_rfl, by kernel_rfl, fun _ _ _ h => h, (.inl ⟨rfl, fun W _ => by kernel_rfl⟩), HS.out, ?_⟩
    refine takeH (o := ?o43) 4 (.pointer (some ⟨gn, 1, none⟩)) ?h43 ?r43
    case h43 => simp only [aT, aS, aZ]; rfl
    refine ⟨_, by simp [Act.put]; rfl, by kernel_rfl, by kernel_rfl, by kernel_rfl, fun _ _ _ h => h, (.inl ⟨rfl, fun W _ => by go_simp⟩), HS.out, ?_⟩
    refine takeH (o := ?o44) 5 (.int .i64 x1) ?h44 ?r44
    case h44 => simp only [aT, aS, aZ]; rfl
    refine ⟨_, by simp [Act.put]; rfl, by kernel_rfl, by kernel_rfl, by kernel_rfl, fun _ _ _ h => h, (.inl ⟨rfl, fun W hW => by have c := hW.2.1; go_simp⟩), HS.out, ?_⟩
    refine takeH (o := ?o45) 6 (.slice (some ⟨gn, 0, none⟩) 5 cn) ?h45 ?r45
    case h45 => simp only [aT, aS, aZ]; rfl
    refine ⟨_, by simp [Act.put]; rfl, by kernel_rfl, by kernel_rfl, by kernel_rfl, fun _ _ _ h => h, (.inl ⟨rfl, fun W _ => by kernel_rfl⟩), HS.out, ?_⟩
    refine takeH (o := ?o46) 7 (.pointer (some ⟨gn, 2, none⟩)) ?h46 ?r46
    case h46 => simp only [aT, aS, aZ]; rfl
    refine ⟨_, by simp [Act.put]; rfl, by kernel_rfl, by kernel_rfl, by kernel_rfl, fun _ _ _ h => h, (.inl ⟨rfl, fun W _ => by go_simp⟩), HS.out, ?_⟩
    refine takeH (o := ?o47) 8 (.int .i64 x2) ?h47 ?r47
    case h47 => simp only [aT, aS, aZ]; rfl
    refine ⟨_, by simp [Act.put]; rfl, by kernel_rfl, by kernel_rfl, by kernel_rfl, fun _ _ _ h => h, (.inl ⟨rfl, fun W hW => by have c := hW.2.2.1; go_simp⟩), HS.out, ?_⟩
    refine takeH (o := ?o48) 9 (.slice (some ⟨gn, 0, none⟩) 5 cn) ?h48 ?r48
    case h48 => simp only [aT, aS, aZ]; rfl
    refine ⟨_, by simp [Act.put]; rfl, by kernel_rfl, by kernel_rfl, by kernel_rfl, fun _ _ _ h => h, (.inl ⟨rfl, fun W _ => by kernel_rfl⟩), HS.out, ?_⟩
    refine takeH (o := ?o49) 10 (.pointer (some ⟨gn, 3, none⟩)) ?h49 ?r49
    case h49 => simp only [aT, aS, aZ]; rfl
    refine ⟨_, by simp [Act.put]; rfl, by kernel_rfl, by kernel_rfl, by kernel_rfl, fun _ _ _ h => h, (.inl ⟨rfl, fun W _ => by go_simp⟩), HS.out, ?_⟩
    refine takeH (o := ?o50) 11 (.int .i64 x3) ?h50 ?r50
    case h50 => simp only [aT, aS, aZ]; rfl
    refine ⟨_, by simp [Act.put]; rfl, by kernel_rfl, by kernel_rfl, by kernel_rfl, fun _ _ _ h => h, (.inl ⟨rfl, fun W hW => by have c := hW.2.2.2; go_simp⟩), HS.out, ?_⟩
    refine takeH (o := ?o51) 12 (.agg #[.int .i64 x0, .int .i64 x1, .int .i64 x2, .int .i64 x3, .slice none 0 0, .int .i64 0, .int .i64 0, .int .i64 0, .int .i64 0, .int .i64 0, .int .i64 0, .int .i64 0, .int .i64 0, .slice none 0 0, .slice none 0 0, .slice none 0 0]) ?h51 ?r51
    case h51 => simp only [aT, aS, aZ]; rfl
    refine ⟨_, by simp [Act.put]; rfl, by kernel_rfl, by kernel_rfl, by kernel_rfl, fun _ _ _ h => h, (.inl ⟨rfl, fun W _ => by kernel_rfl⟩), HS.out, ?_⟩
    refine onlyH (o := ?o52) 13 (by kernel_rfl) ?h52 ?r52
    case h52 => simp only [aT, aS, aZ]; rfl
    intro K hK
    have bA : Below W4.drew.heap.size W4.drew (W4.drew.alloc (.cells #[.int .i64 0, .int .i64 0, .int .i64 0, .int .i64 0, .slice none 0 0, .int .i64 0, .int .i64 0, .int .i64 0, .int .i64 0, .int .i64 0, .int .i64 0, .int .i64 0, .int .i64 0, .slice none 0 0, .slice none 0 0, .slice none 0 0] 51)) := (Below.refl _ _).alloc (Nat.le_refl _) _
    have HA1 : Hid (FoW w W4.heap.size #[.int .i64 0, .int .i64 0, .int .i64 0, .int .i64 0, .slice none 0 0, .int .i64 0, .int .i64 0, .int .i64 0, .int .i64 0, .int .i64 0, .int .i64 0, .int .i64 0, .int .i64 0, .slice none 0 0, .slice none 0 0, .slice none 0 0] (some ⟨b, off, none⟩) (k + 4) zs (W4.drew.alloc (.cells #[.int .i64 0, .int .i64 0, .int .i64 0, .int .i64 0, .slice none 0 0, .int .i64 0, .int .i64 0, .int .i64 0, .int .i64 0, .int .i64 0, .int .i64 0, .int .i64 0, .int .i64 0, .slice none 0 0, .slice none 0 0, .slice none 0 0] 51)) ∧ RdI (W4.drew.alloc (.cells #[.int .i64 0, .int .i64 0, .int .i64 0, .int .i64 0, .slice none 0 0, .int .i64 0, .int .i64 0, .int .i64 0, .int .i64 0, .int .i64 0, .int .i64 0, .int .i64 0, .int .i64 0, .slice none 0 0, .slice none 0 0, .slice none 0 0] 51)) (some ⟨gn, 0, none⟩) 5 l [gn]) := ⟨⟨HDR.out.1.below bA, Blk.made W4.drew _ _, HR.out.below (Below.next HDR.out.2.1 bA), Below.next HDR.out.2.1 bA, HDR.out.1.lt⟩, HDR.out.2.2.below bA⟩
    refine op_turn (.pointer (some ⟨W4.heap.size, 0, none⟩)) (W4.drew.alloc (.cells #[.int .i64 0, .int .i64 0, .int .i64 0, .int .i64 0, .slice none 0 0, .int .i64 0, .int .i64 0, .int .i64 0, .int .i64 0, .int .i64 0, .int .i64 0, .int .i64 0, .int .i64 0, .slice none 0 0, .slice none 0 0, .slice none 0 0] 51)) rfl (by go_simp) ⟨_, by simp [Act.put]; rfl, hK _ _ ⟨(HKN.out _ HA1.out.2).1, ?_⟩⟩
    clear hK bA HDR HW4
    refine onlyH (o := ?o53) 14 (by kernel_rfl) ?h53 ?r53
    case h53 => simp only [aT, aS, aZ]; rfl
    intro K hK
    have HA2 : Hid (FoW w W4.heap.size #[.int .i64 x0, .int .i64 x1, .int .i64 x2, .int .i64 x3, .slice none 0 0, .int .i64 0, .int .i64 0, .int .i64 0, .int .i64 0, .int .i64 0, .int .i64 0, .int .i64 0, .int .i64 0, .slice none 0 0, .slice none 0 0, .slice none 0 0] (some ⟨b, off, none⟩) (k + 4) zs ((W4.drew.alloc (.cells #[.int .i64 0, .int .i64 0, .int .i64 0, .int .i64 0, .slice none 0 0, .int .i64 0, .int .i64 0, .int .i64 0, .int .i64 0, .int .i64 0, .int .i64 0, .int .i64 0, .int .i64 0, .slice none 0 0, .slice none 0 0, .slice none 0 0] 51)).setRow W4.heap.size #[.int .i64 x0, .int .i64 x1, .int .i64 x2, .int .i64 x3, .slice none 0 0, .int .i64 0, .int .i64 0, .int .i64 0, .int .i64 0, .int .i64 0, .int .i64 0, .int .i64 0, .int .i64 0, .slice none 0 0, .slice none 0 0, .slice none 0 0]) ∧ RdI ((W4.drew.alloc (.cells #[.int .i64 0, .int .i64 0, .int .i64 0, .int .i64 0, .slice none 0 0, .int .i64 0, .int .i64 0, .int .i64 0, .int .i64 0, .int .i64 0, .int .i64 0, .int .i64 0, .int .i64 0, .slice none 0 0, .slice none 0 0, .slice none 0 0] 51)).setRow W4.heap.size #[.int .i64 x0, .int .i64 x1, .int .i64 x2, .int .i64 x3, .slice none 0 0, .int .i64 0, .int .i64 0, .int .i64 0, .int .i64 0, .int .i64 0, .int .i64 0, .int .i64 0, .int .i64 0, .slice none 0 0, .slice none 0 0, .slice none 0 0]) (some ⟨gn, 0, none⟩) 5 l [gn]) := ⟨HA1.out.1.row HR.out _, HA1.out.2.agree (Agree.row (by simp; omega) _)⟩
    refine op_store 51 W4.heap.size #[.int .i64 0, .int .i64 0, .int .i64 0, .int .i64 0, .slice none 0 0, .int .i64 0, .int .i64 0, .int .i64 0, .int .i64 0, .int .i64 0, .int .i64 0, .int .i64 0, .int .i64 0, .slice none 0 0, .slice none 0 0, .slice none 0 0] #[.int .i64 x0, .int .i64 x1, .int .i64 x2, .int .i64 x3, .slice none 0 0, .int .i64 0, .int .i64 0, .int .i64 0, .int .i64 0, .int .i64 0, .int .i64 0, .int .i64 0, .int .i64 0, .slice none 0 0, .slice none 0 0, .slice none 0 0] 51 rfl rfl rfl rfl HA1.out.1.loc infoFrO7 rfl (by simp [Value.oneCell']) ⟨_, by simp [Act.put]; rfl, hK _ _ ⟨(HKN.out _ HA2.out.2).1, ?_⟩⟩
    clear hK HA1 HS
    refine wpAnyH_done (by kernel_rfl) ?_ _
    obtain ⟨W5, hW5⟩ : ∃ W, W = (W4.drew.alloc (.cells #[.int .i64 0, .int .i64 0, .int .i64 0, .int .i64 0, .slice none 0 0, .int .i64 0, .int .i64 0, .int .i64 0, .int .i64 0, .int .i64 0, .int .i64 0, .int .i64 0, .int .i64 0, .slice none 0 0, .slice none 0 0, .slice none 0 0] 51)).setRow W4.heap.size #[.int .i64 x0, .int .i64 x1, .int .i64 x2, .int .i64 x3, .slice none 0 0, .int .i64 0, .int .i64 0, .int .i64 0, .int .i64 0, .int .i64 0, .int .i64 0, .int .i64 0, .int .i64 0, .slice none 0 0, .slice none 0 0, .slice none 0 0] := ⟨_, rfl⟩
    rw [← hW5] at HA2 ⊢
    obtain ⟨T, hT⟩ : ∃ T, T = W4.heap.size := ⟨_, rfl⟩
    rw [← hT] at HA2 hgn2 ⊢
    clear hW5 hT
    have c4 := (HKN.out _ HA2.out.2).2
    have hn100 : (n : Int) ≤ 100 := by omega
    go_wp2_with fail
    have e2n : 2 * (n : Int) = ((2 * n : Nat) : Int) := by omega
    rw [e2n]
    clear c4 e2n HKN
    refine (l7Get_any (some ⟨b, off, none⟩) k cap p1 (2 * n) B _ (HSB.out _ HA2.out.1.bel) (by omega) (by omega)).mono ?_
    rintro e w6 ⟨⟨v, m, q, rfl, hown, hg⟩, hb6⟩
    have HA3 : Hid (FoW w T #[.int .i64 x0, .int .i64 x1, .int .i64 x2, .int .i64 x3, .slice none 0 0, .int .i64 0, .int .i64 0, .int .i64 0, .int .i64 0, .int .i64 0, .int .i64 0, .int .i64 0, .int .i64 0, .slice none 0 0, .slice none 0 0, .slice none 0 0] (some ⟨b, off, none⟩) (k + 4) zs w6) := HA2.out.1.below hb6
    have lT : T < w6.heap.size := HA3.out.loc.lt
    have lTW : Hid (T < W5.heap.size) := HA2.out.1.loc.lt
    clear hb6 HA2
    cases hgt : getTo B p1 (2 * n) with
    | none =>
      have HV : Hid (FrIs zs Fr.zero false) := by
        show FrIs _ _ _
        rw [HB.out]
        exact of_spans HG.out HN.out hgt
      clear hgt hg hown
      simp only [Option.isSome]
      go_wp2_with (first | go_skip | (with_reducible refine stopStore 51 rfl ?_))
      refine store_known 51 w.heap.size _ #[.int .i64 0, .int .i64 0, .int .i64 0, .int .i64 0, .slice none 0 0, .int .i64 0, .int .i64 0, .int .i64 0, .int .i64 0, .int .i64 0, .int .i64 0, .int .i64 0, .int .i64 0, .slice none 0 0, .slice none 0 0, .slice none 0 0] 51 HA3.out.res rfl rfl rfl rfl infoFrO7 rfl (by simp [Value.oneCell']) ?_
      go_wp2
      refine bodyPost_ret (results_row_tmp Try.results28 _ _ w.heap.size _ _ _ _ rfl (Blk.setRow HA3.out.res) Try.underlying51 rfl infoFrO7) rfl ?_
      exact ⟨_, Fr.zero, false, [], [], rfl, rdFr_zero _, Own.nil, Own.nil, by simp, below_setRow HA3.out.bel (Nat.le_refl _) _, HV.out⟩
    | some r =>
      obtain ⟨m', q'⟩ := r
      rw [hgt] at hg
      simp only [Option.getD] at hg
      cases hg
      simp only [Option.isSome]
      have HG2 : Hid (getTo B p1 (2 * n) = some (m, q)) := hgt
      have iv := getTo_inv HRG.out.1 (p := p1) (by rw [HRG.out.2.2.1]; omega) hgt
      have lm : m.length = 2 * n := getTo_len hgt
      obtain ⟨p2, hp2⟩ : ∃ p : Nat, p = p1 + (putAll m).length := ⟨_, rfl⟩
      have eq2 : q = (p2 : Int) := by rw [iv.2.1, hp2]
      subst eq2
      have hp2k : p2 ≤ k := by have := iv.2.2.1; rw [HRG.out.2.2.1] at this; omega
      rw [lm] at hown
      obtain ⟨sa, cm, Fm, rfl, hrm, hom⟩ := rdI_of_own hown
      have HTX : Hid (T ∉ Fm) := fun hx => by have := hom.ge _ hx; have := lTW.out; omega
      clear hom
      have HM : Hid (RdI w6 sa (2 * n) m Fm) := hrm
      have HLM : Hid (m.length = 2 * n) := lm
      clear hown hrm hgt iv hp2 lm
      go_wp2_with fail
      obtain ⟨B0, hB0⟩ : ∃ B0, B0 = w6.heap.size := ⟨_, rfl⟩
      rw [← hB0] at lT
      have HB0 : Hid (w6.heap.size = B0) := hB0.symm
      have HB1 : Hid (∀ W, Below B0 w6 W → RdI W sa (2 * n) m Fm) := fun W hb => HM.out.below (by rw [HB0.out]; exact hb)
      have HFm : Hid (∀ b ∈ Fm, b < B0) := fun b hb => by have := HM.out.lt b hb; rw [HB0.out] at this; exact this
      have HTT : Hid (T < B0) := lT
      have HTm : Hid (T ∉ Fm) := fun hx => HTX.out hx
      clear hB0
      go_loopw [11] (fun i wr => ∃ (j : Nat) (v : Value), j ≤ n ∧ i = .int .i64 (2 * (j : Int)) ∧ Hid (FoW w T #[.int .i64 x0, .int .i64 x1, .int .i64 x2, .int .i64 x3, v, .int .i64 0, .int .i64 0, .int .i64 0, .int .i64 0, .int .i64 0, .int .i64 0, .int .i64 0, .int .i64 0, .slice none 0 0, .slice none 0 0, .slice none 0 0] (some ⟨b, off, none⟩) (k + 4) zs wr ∧ RdI wr sa (2 * n) m Fm ∧ B0 ≤ wr.heap.size ∧ wr.ownsRow B0 103 2 v j ((flat (pairsTo m j)).map (Value.int .i64)))) (fun i _ => 2 * n - (intOf i).toNat)
      case atStart => exact ⟨0, .slice none 0 0, by omega, rfl, HA3.out, HM.out, Nat.le_of_eq HB0.out.symm, World.ownsRow_nil _ _ _ _⟩
      case round =>
        obtain ⟨j, v, hj, rfl, HO⟩ := hrel
        by_cases hlt : j < n
        · have hI : 2 * (j : Int) + 1 < ((2 * n : Nat) : Int) := by omega
          obtain ⟨gs, os, rfl⟩ := HO.out.2.1.addr (by omega)
          obtain ⟨y0, hy0⟩ : ∃ x, x = m.getD (2 * j) 0 := ⟨_, rfl⟩
          obtain ⟨y1, hy1⟩ : ∃ x, x = m.getD (2 * j + 1) 0 := ⟨_, rfl⟩
          have HPS : Hid (pairsTo m (j + 1) = pairsTo m j ++ [(y0, y1)]) := by show _ = _; rw [pairsTo, hy0, hy1]
          have HTW : Hid (∀ W, RdI W (some ⟨gs, os, none⟩) (2 * n) m Fm → TwoHeld gs (os + 2 * j) y0 y1 W) := fun W h => by
            rcases h.cells with ⟨q, _⟩ | ⟨b', off', _, e, _, hc⟩
            · omega
            · cases e
              exact ⟨by rw [hy0]; exact hc (2 * j) (by omega), by rw [hy1]; exact hc (2 * j + 1) (by omega)⟩
          clear hy0 hy1
          go_wp2_with fail
          have HOd : Hid (FoW w T #[.int .i64 x0, .int .i64 x1, .int .i64 x2, .int .i64 x3, v, .int .i64 0, .int .i64 0, .int .i64 0, .int .i64 0, .int .i64 0, .int .i64 0, .int .i64 0, .int .i64 0, .slice none 0 0, .slice none 0 0, .slice none 0 0] (some ⟨b, off, none⟩) (k + 4) zs wr.drew ∧ RdI wr.drew (some ⟨gs, os, none⟩) (2 * n) m Fm ∧ B0 ≤ wr.drew.heap.size ∧ wr.drew.ownsRow B0 103 2 v j ((flat (pairsTo m j)).map (Value.int .i64))) := ⟨HO.out.1.below (Below.refl _ _).drew, HO.out.2.1.below (Below.refl _ _).drew, HO.out.2.2.1, HO.out.2.2.2⟩
          have tJ : ((2 * (j : Int)).toNat) = 2 * j := by omega
          have tJ1 : ((2 * (j : Int) + 1).toNat) = 2 * j + 1 := by omega
          obtain ⟨Y, hY⟩ : ∃ Y, Y = wr.drew := ⟨_, rfl⟩
          rw [← hY] at HOd
          clear HO
          refine wp_region_held (S := TwoHeld gs (os + 2 * j) y0 y1) (by kernel_rfl) ?_
          change wpAnyH _ _ _ _ _ _ _ _ (World.drew _)
          rw [← hY]
          clear hY
          refine takeH (o := ?o54) 0 (.pointer (some ⟨T, 4, none⟩)) ?h54 ?r54
          case h54 => simp only [aT, aZ]; rfl
          refine ⟨_, by simp [Act.put]; rfl, by kernel_rfl, by kernel_rfl, by kernel_rfl, fun _ _ _ h => h, (.inl ⟨rfl, fun W _ => by kernel_rfl⟩), (HTW.out _ HOd.out.2.1), ?_⟩
          refine takeH (o := ?o55) 2 (.slice (some ⟨gs, os, none⟩) (2 * n) cm) ?h55 ?r55
          case h55 => simp only [aT, aS, aZ]; rfl
          refine ⟨_, by simp [Act.put]; rfl, by kernel_rfl, by kernel_rfl, by kernel_rfl, fun _ _ _ h => h, (.inl ⟨rfl, fun W _ => by kernel_rfl⟩), (HTW.out _ HOd.out.2.1), ?_⟩
          refine takeH (o := ?o56) 3 (.int .i64 (2 * (j : Int))) ?h56 ?r56
          case h56 => simp only [aT, aS, aZ]; rfl
          refine ⟨_, by simp [Act.put]; rfl, by kernel_rfl, by kernel_rfl, by kernel_rfl, fun _ _ _ h => h, (.inl ⟨rfl, fun W _ => by kernel_rfl⟩), (HTW.out _ HOd.out.2.1), ?_⟩
          refine takeH (o := ?o57) 4 (.pointer (some ⟨gs, os + 2 * j, none⟩)) ?h57 ?r57
          case h57 => simp only [aT, aS, aZ]; rfl
          refine ⟨_, by simp [Act.put]; rfl, by kernel_rfl, by kernel_rfl, by kernel_rfl, fun _ _ _ h => h, (.inl ⟨rfl, fun W _ => by go_simp; first | done | (intro h; omega) | (rw [if_pos (by omega)]; rfl)⟩), (HTW.out _ HOd.out.2.1), ?_⟩
          refine takeH (o := ?o58) 5 (.int .i64 y0) ?h58 ?r58
          case h58 => simp only [aT, aS, aZ]; rfl
          refine ⟨_, by simp [Act.put]; rfl, by kernel_rfl, by kernel_rfl, by kernel_rfl, fun _ _ _ h => h, (.inl ⟨rfl, fun W hW => by have c := hW.1; go_simp⟩), (HTW.out _ HOd.out.2.1), ?_⟩
          refine takeH (o := ?o59) 6 (.slice (some ⟨gs, os, none⟩) (2 * n) cm) ?h59 ?r59
          case h59 => simp only [aT, aS, aZ]; rfl
          refine ⟨_, by simp [Act.put]; rfl, by kernel_rfl, by kernel_rfl, by kernel_rfl, fun _ _ _ h => h, (.inl ⟨rfl, fun W _ => by kernel_rfl⟩), (HTW.out _ HOd.out.2.1), ?_⟩
          refine takeH (o := ?o60) 7 (.int .i64 (2 * (j : Int))) ?h60 ?r60
          case h60 => simp only [aT, aS, aZ]; rfl
          refine ⟨_, by simp [Act.put]; rfl, by kernel_rfl, by kernel_rfl, by kernel_rfl, fun _ _ _ h => h, (.inl ⟨rfl, fun W _ => by kernel_rfl⟩), (HTW.out _ HOd.out.2.1), ?_⟩
          refine takeH (o := ?o61) 8 (.int .i64 (2 * (j : Int) + 1)) ?h61 ?r61
          case h61 => simp only [aT, aS, aZ]; rfl
          refine ⟨_, by simp [Act.put]; rfl, by kernel_rfl, by kernel_rfl, by kernel_rfl, fun _ _ _ h => h, (.inl ⟨rfl, fun W _ => by go_simp; first | done | (refine wrapO ?_; omega)⟩), (HTW.out _ HOd.out.2.1), ?_⟩
          refine takeH (o := ?o62) 9 (.pointer (some ⟨gs, os + 2 * j + 1, none⟩)) ?h62 ?r62
          case h62 => simp only [aT, aS, aZ]; rfl
          refine ⟨_, by simp [Act.put]; rfl, by kernel_rfl, by kernel_rfl, by kernel_rfl, fun _ _ _ h => h, (.inl ⟨rfl, fun W _ => by go_simp; first | done | (intro h; omega) | (rw [if_pos (by omega)]; rfl)⟩), (HTW.out _ HOd.out.2.1), ?_⟩
          refine takeH (o := ?o63) 10 (.int .i64 y1) ?h63 ?r63
          case h63 => simp only [aT, aS, aZ]; rfl
          refine ⟨_, by simp [Act.put]; rfl, by kernel_rfl, by kernel_rfl, by kernel_rfl, fun _ _ _ h => h, (.inl ⟨rfl, fun W hW => by have c := hW.2; go_simp⟩), (HTW.out _ HOd.out.2.1), ?_⟩
          refine takeH (o := ?o64) 11 (.agg #[.int .i64 y0, .int .i64 y1]) ?h64 ?r64
          case h64 => simp only [aT, aS, aZ]; rfl
          refine ⟨_, by simp [Act.put]; rfl, by kernel_rfl, by kernel_rfl, by kernel_rfl, fun _ _ _ h => h, (.inl ⟨rfl, fun W _ => by kernel_rfl⟩), (HTW.out _ HOd.out.2.1), ?_⟩
          refine twoH (o := ?o65) (o' := ?p65) 1 12 (by kernel_rfl) ?h65 ?g65 ?r65 ?s65
          case h65 => simp only [aT, aS, aZ]; rfl
          case g65 => simp only [aT, aS, aZ]; rfl
          case r65 =>
            intro K hK
            have cv := HOd.out.1.loc.cell 4
            simp only [aT, aS, aZ] at cv
            refine op_value v rfl (by go_simp) ⟨_, by simp [Act.put]; rfl, hK _ _ ⟨HTW.out _ HOd.out.2.1, ?_⟩⟩
            clear hK cv
            refine onlyH (o := ?o66) 12 (by kernel_rfl) ?h66 ?r66
            case h66 => simp only [aT, aS, aZ]; rfl
            intro K hK
            have bA : Below Y.heap.size Y (Y.alloc (.cells #[.int .i64 y0, .int .i64 y1] 103)) := (Below.refl _ _).alloc (Nat.le_refl _) _
            have HOa : Hid (FoW w T #[.int .i64 x0, .int .i64 x1, .int .i64 x2, .int .i64 x3, v, .int .i64 0, .int .i64 0, .int .i64 0, .int .i64 0, .int .i64 0, .int .i64 0, .int .i64 0, .int .i64 0, .slice none 0 0, .slice none 0 0, .slice none 0 0] (some ⟨b, off, none⟩) (k + 4) zs (Y.alloc (.cells #[.int .i64 y0, .int .i64 y1] 103)) ∧ RdI (Y.alloc (.cells #[.int .i64 y0, .int .i64 y1] 103)) (some ⟨gs, os, none⟩) (2 * n) m Fm ∧ B0 ≤ (Y.alloc (.cells #[.int .i64 y0, .int .i64 y1] 103)).heap.size ∧ (Y.alloc (.cells #[.int .i64 y0, .int .i64 y1] 103)).ownsRow B0 103 2 v j ((flat (pairsTo m j)).map (Value.int .i64))) := ⟨HOd.out.1.below bA, HOd.out.2.1.below bA, Nat.le_trans HOd.out.2.2.1 bA.size, World.ownsRow.alloc (w := Y) HOd.out.2.2.2 _⟩
            refine op_turn (.slice (some ⟨Y.heap.size, 0, none⟩) 1 1) (Y.alloc (.cells #[.int .i64 y0, .int .i64 y1] 103)) rfl (by kernel_rfl) ⟨_, by simp [Act.put]; rfl, hK _ _ ⟨HTW.out _ HOa.out.2.1, ?_⟩⟩
            clear hK bA
            clear HOd
            refine onlyH (o := ?o67) 13 (by kernel_rfl) ?h67 ?r67
            case h67 => simp only [aT, aS, aZ]; rfl
            intro K hK
            refine op_append7 _ _ 47 rfl rfl B0 103 i0 (.agg #[.int .i64 0, .int .i64 0]) 2 16 Try.underlying47 hi hz0 hz1 hz2 rfl (by decide) _ _ _ rfl HOa.out.2.2.2 ⟨Y.heap.size, 0, none⟩ 1 1 [.int .i64 y0, .int .i64 y1] rfl rfl (cell_new2 Y (.int .i64 y0) (.int .i64 y1) _) (by intro u hu; simp at hu; rcases hu with rfl | rfl <;> rfl) (by unfold maxLen; omega) (by omega) HOa.out.2.2.1 ?_
            intro v2 Y2 hown hgrow
            obtain ⟨pv, kv, Fv, rfl, _, _, _⟩ := rdP_of_own (ps := pairsTo m j ++ [(y0, y1)]) (by rw [flat_append, List.map_append]; exact hown)
            have ob : ∀ g, v.ownBlock = some g → B0 ≤ g := fun g hg => (HOa.out.2.2.2.lt g hg).1
            have HOb : Hid (FoW w T #[.int .i64 x0, .int .i64 x1, .int .i64 x2, .int .i64 x3, v, .int .i64 0, .int .i64 0, .int .i64 0, .int .i64 0, .int .i64 0, .int .i64 0, .int .i64 0, .int .i64 0, .slice none 0 0, .slice none 0 0, .slice none 0 0] (some ⟨b, off, none⟩) (k + 4) zs Y2 ∧ RdI Y2 (some ⟨gs, os, none⟩) (2 * n) m Fm ∧ B0 ≤ Y2.heap.size ∧ Y2.ownsRow B0 103 2 (.slice pv (j + 1) kv) (j + 1) ((flat (pairsTo m (j + 1))).map (Value.int .i64))) := by
              have o := HOa.out.1.ord
              have bl := HOa.out.1.bel.grown hgrow HOa.out.1.bel.size (fun g hg => by have := ob g hg; omega)
              refine ⟨⟨HOa.out.1.res.agree (hgrow.block _ HOa.out.1.res.lt (fun e => by have := ob _ e.symm; omega)), HOa.out.1.loc.agree (hgrow.block _ HOa.out.1.loc.lt (fun e => by have := ob _ e.symm; omega)), HR.out.below bl, bl, o⟩, HOa.out.2.1.agree (fun x hx => hgrow.block x (HOa.out.2.1.lt x hx) (fun e => by have := ob _ e.symm; have := HFm.out x hx; omega)), Nat.le_trans HOa.out.2.2.1 hgrow.size, ?_⟩
              rw [HPS.out, flat_append, List.map_append]
              exact hown
            clear hown hgrow ob
            refine ⟨_, by simp [Act.put]; rfl, hK _ _ ⟨HTW.out _ HOb.out.2.1, ?_⟩⟩
            clear hK HOa
            refine takeH (o := ?o68) 14 (.pointer (some ⟨T, 4, none⟩)) ?h68 ?r68
            case h68 => simp only [aT, aS, aZ]; rfl
            refine ⟨_, by simp [Act.put]; rfl, by kernel_rfl, by kernel_rfl, by kernel_rfl, fun _ _ _ h => h, (.inl ⟨rfl, fun W _ => by kernel_rfl⟩), (HTW.out _ HOb.out.2.1), ?_⟩
            refine onlyH (o := ?o69) 15 (by kernel_rfl) ?h69 ?r69
            case h69 => simp only [aT, aS, aZ]; rfl
            intro K hK
            have HOc : Hid (FoW w T #[.int .i64 x0, .int .i64 x1, .int .i64 x2, .int .i64 x3, (.slice pv (j + 1) kv), .int .i64 0, .int .i64 0, .int .i64 0, .int .i64 0, .int .i64 0, .int .i64 0, .int .i64 0, .int .i64 0, .slice none 0 0, .slice none 0 0, .slice none 0 0] (some ⟨b, off, none⟩) (k + 4) zs (Y2.setCell ⟨T, 4, none⟩ (.slice pv (j + 1) kv)) ∧ RdI (Y2.setCell ⟨T, 4, none⟩ (.slice pv (j + 1) kv)) (some ⟨gs, os, none⟩) (2 * n) m Fm ∧ B0 ≤ (Y2.setCell ⟨T, 4, none⟩ (.slice pv (j + 1) kv)).heap.size ∧ (Y2.setCell ⟨T, 4, none⟩ (.slice pv (j + 1) kv)).ownsRow B0 103 2 (.slice pv (j + 1) kv) (j + 1) ((flat (pairsTo m (j + 1))).map (Value.int .i64))) := ⟨HOb.out.1.set HR.out 4 _, HOb.out.2.1.agree (.set (fun hx => by have := HTm.out; exact this hx) _ _), by simpa using HOb.out.2.2.1, own_setO HOb.out.2.2.2 HTT.out⟩
            have cc := HOb.out.1.loc.cell 4
            have ff := HOb.out.1.loc.frozen 4
            simp only [aT, aS, aZ] at cc
            refine op_skip (Y2.setCell ⟨T, 4, none⟩ (.slice pv (j + 1) kv)) rfl (by go_simp) ⟨_, by simp [Act.put]; rfl, hK _ _ ⟨HTW.out _ HOc.out.2.1, ?_⟩⟩
            clear hK cc ff HOb
            refine wpAnyH_done (by kernel_rfl) ?_ _
            obtain ⟨Y3, hY3⟩ : ∃ Z, Z = Y2.setCell ⟨T, 4, none⟩ (.slice pv (j + 1) kv) := ⟨_, rfl⟩
            rw [← hY3] at HOc ⊢
            clear hY3
            go_wp2
            all_goals
              go_roundw
              case rel => first | exact ⟨j + 1, .slice pv (j + 1) kv, by omega, by go_num, HOc.out⟩ | ((repeat apply Exists.intro); exact ⟨⟨j + 1, .slice pv (j + 1) kv, by omega, by go_num, HOc.out⟩, rfl⟩)
              case measure => simp [intOf]; omega
          case s65 =>
            intro K hK
            have bA : Below Y.heap.size Y (Y.alloc (.cells #[.int .i64 y0, .int .i64 y1] 103)) := (Below.refl _ _).alloc (Nat.le_refl _) _
            have HOa : Hid (FoW w T #[.int .i64 x0, .int .i64 x1, .int .i64 x2, .int .i64 x3, v, .int .i64 0, .int .i64 0, .int .i64 0, .int .i64 0, .int .i64 0, .int .i64 0, .int .i64 0, .int .i64 0, .slice none 0 0, .slice none 0 0, .slice none 0 0] (some ⟨b, off, none⟩) (k + 4) zs (Y.alloc (.cells #[.int .i64 y0, .int .i64 y1] 103)) ∧ RdI (Y.alloc (.cells #[.int .i64 y0, .int .i64 y1] 103)) (some ⟨gs, os, none⟩) (2 * n) m Fm ∧ B0 ≤ (Y.alloc (.cells #[.int .i64 y0, .int .i64 y1] 103)).heap.size ∧ (Y.alloc (.cells #[.int .i64 y0, .int .i64 y1] 103)).ownsRow B0 103 2 v j ((flat (pairsTo m j)).map (Value.int .i64))) := ⟨HOd.out.1.below bA, HOd.out.2.1.below bA, Nat.le_trans HOd.out.2.2.1 bA.size, World.ownsRow.alloc (w := Y) HOd.out.2.2.2 _⟩
            refine op_turn (.slice (some ⟨Y.heap.size, 0, none⟩) 1 1) (Y.alloc (.cells #[.int .i64 y0, .int .i64 y1] 103)) rfl (by kernel_rfl) ⟨_, by simp [Act.put]; rfl, hK _ _ ⟨HTW.out _ HOa.out.2.1, ?_⟩⟩
            clear hK bA
            clear HOd
            refine onlyH (o := ?o70) 1 (by kernel_rfl) ?h70 ?r70
            case h70 => simp only [aT, aS, aZ]; rfl
            intro K hK
            have cv := HOa.out.1.loc.cell 4
            simp only [aT, aS, aZ] at cv
            refine op_value v rfl (by go_simp) ⟨_, by simp [Act.put]; rfl, hK _ _ ⟨HTW.out _ HOa.out.2.1, ?_⟩⟩
            clear hK cv
            refine onlyH (o := ?o71) 13 (by kernel_rfl) ?h71 ?r71
            case h71 => simp only [aT, aS, aZ]; rfl
            intro K hK
            refine op_append7 _ _ 47 rfl rfl B0 103 i0 (.agg #[.int .i64 0, .int .i64 0]) 2 16 Try.underlying47 hi hz0 hz1 hz2 rfl (by decide) _ _ _ rfl HOa.out.2.2.2 ⟨Y.heap.size, 0, none⟩ 1 1 [.int .i64 y0, .int .i64 y1] rfl rfl (cell_new2 Y (.int .i64 y0) (.int .i64 y1) _) (by intro u hu; simp at hu; rcases hu with rfl | rfl <;> rfl) (by unfold maxLen; omega) (by omega) HOa.out.2.2.1 ?_
            intro v2 Y2 hown hgrow
            obtain ⟨pv, kv, Fv, rfl, _, _, _⟩ := rdP_of_own (ps := pairsTo m j ++ [(y0, y1)]) (by rw [flat_append, List.map_append]; exact hown)
            have ob : ∀ g, v.ownBlock = some g → B0 ≤ g := fun g hg => (HOa.out.2.2.2.lt g hg).1
            have HOb : Hid (FoW w T #[.int .i64 x0, .int .i64 x1, .int .i64 x2, .int .i64 x3, v, .int .i64 0, .int .i64 0, .int .i64 0, .int .i64 0, .int .i64 0, .int .i64 0, .int .i64 0, .int .i64 0, .slice none 0 0, .slice none 0 0, .slice none 0 0] (some ⟨b, off, none⟩) (k + 4) zs Y2 ∧ RdI Y2 (some ⟨gs, os, none⟩) (2 * n) m Fm ∧ B0 ≤ Y2.heap.size ∧ Y2.ownsRow B0 103 2 (.slice pv (j + 1) kv) (j + 1) ((flat (pairsTo m (j + 1))).map (Value.int .i64))) := by
              have o := HOa.out.1.ord
              have bl := HOa.out.1.bel.grown hgrow HOa.out.1.bel.size (fun g hg => by have := ob g hg; omega)
              refine ⟨⟨HOa.out.1.res.agree (hgrow.block _ HOa.out.1.res.lt (fun e => by have := ob _ e.symm; omega)), HOa.out.1.loc.agree (hgrow.block _ HOa.out.1.loc.lt (fun e => by have := ob _ e.symm; omega)), HR.out.below bl, bl, o⟩, HOa.out.2.1.agree (fun x hx => hgrow.block x (HOa.out.2.1.lt x hx) (fun e => by have := ob _ e.symm; have := HFm.out x hx; omega)), Nat.le_trans HOa.out.2.2.1 hgrow.size, ?_⟩
              rw [HPS.out, flat_append, List.map_append]
              exact hown
            clear hown hgrow ob
            refine ⟨_, by simp [Act.put]; rfl, hK _ _ ⟨HTW.out _ HOb.out.2.1, ?_⟩⟩
            clear hK HOa
            refine takeH (o := ?o72) 14 (.pointer (some ⟨T, 4, none⟩)) ?h72 ?r72
            case h72 => simp only [aT, aS, aZ]; rfl
            refine ⟨_, by simp [Act.put]; rfl, by kernel_rfl, by kernel_rfl, by kernel_rfl, fun _ _ _ h => h, (.inl ⟨rfl, fun W _ => by kernel_rfl⟩), (HTW.out _ HOb.out.2.1), ?_⟩
            refine onlyH (o := ?o73) 15 (by kernel_rfl) ?h73 ?r73
            case h73 => simp only [aT, aS, aZ]; rfl
            intro K hK
            have HOc : Hid (FoW w T #[.int .i64 x0, .int .i64 x1, .int .i64 x2, .int .i64 x3, (.slice pv (j + 1) kv), .int .i64 0, .int .i64 0, .int .i64 0, .int .i64 0, .int .i64 0, .int .i64 0, .int .i64 0, .int .i64 0, .slice none 0 0, .slice none 0 0, .slice none 0 0] (some ⟨b, off, none⟩) (k + 4) zs (Y2.setCell ⟨T, 4, none⟩ (.slice pv (j + 1) kv)) ∧ RdI (Y2.setCell ⟨T, 4, none⟩ (.slice pv (j + 1) kv)) (some ⟨gs, os, none⟩) (2 * n) m Fm ∧ B0 ≤ (Y2.setCell ⟨T, 4, none⟩ (.slice pv (j + 1) kv)).heap.size ∧ (Y2.setCell ⟨T, 4, none⟩ (.slice pv (j + 1) kv)).ownsRow B0 103 2 (.slice pv (j + 1) kv) (j + 1) ((flat (pairsTo m (j + 1))).map (Value.int .i64))) := ⟨HOb.out.1.set HR.out 4 _, HOb.out.2.1.agree (.set (fun hx => by have := HTm.out; exact this hx) _ _), by simpa using HOb.out.2.2.1, own_setO HOb.out.2.2.2 HTT.out⟩
            have cc := HOb.out.1.loc.cell 4
            have ff := HOb.out.1.loc.frozen 4
            simp only [aT, aS, aZ] at cc
            refine op_skip (Y2.setCell ⟨T, 4, none⟩ (.slice pv (j + 1) kv)) rfl (by go_simp) ⟨_, by simp [Act.put]; rfl, hK _ _ ⟨HTW.out _ HOc.out.2.1, ?_⟩⟩
            clear hK cc ff HOb
            refine wpAnyH_done (by kernel_rfl) ?_ _
            obtain ⟨Y3, hY3⟩ : ∃ Z, Z = Y2.setCell ⟨T, 4, none⟩ (.slice pv (j + 1) kv) := ⟨_, rfl⟩
            rw [← hY3] at HOc ⊢
            clear hY3
            go_wp2
            all_goals
              go_roundw
              case rel => first | exact ⟨j + 1, .slice pv (j + 1) kv, by omega, by go_num, HOc.out⟩ | ((repeat apply Exists.intro); exact ⟨⟨j + 1, .slice pv (j + 1) kv, by omega, by go_num, HOc.out⟩, rfl⟩)
              case measure => simp [intOf]; omega
        · obtain rfl : j = n := by omega
          have hI : ¬ 2 * (j : Int) + 1 < ((2 * j : Nat) : Int) := by omega
          have hId : decide (2 * (j : Int) + 1 < ((2 * j : Nat) : Int)) = false := dec_false hI
          obtain ⟨bb, cc, FF, rfl, hrp, hoo, hcd⟩ := rdP_of_own HO.out.2.2.2
          have HP : Hid (FoW w T #[.int .i64 x0, .int .i64 x1, .int .i64 x2, .int .i64 x3, .slice bb j cc, .int .i64 0, .int .i64 0, .int .i64 0, .int .i64 0, .int .i64 0, .int .i64 0, .int .i64 0, .int .i64 0, .slice none 0 0, .slice none 0 0, .slice none 0 0] (some ⟨b, off, none⟩) (k + 4) zs wr ∧ RdP wr bb j (pairsTo m j) FF ∧ Own B0 wr FF ∧ Capd bb j cc ∧ B0 ≤ wr.heap.size) := ⟨HO.out.1, hrp, hoo, hcd, HO.out.2.2.1⟩
          clear hrp hoo hcd HO hlt hj
          have ck := HP.out.1.loc.cell 0
          simp only [aT, aZ] at ck
          by_cases hk1 : x0 = 1
          · subst hk1
            go_wp2_with fail
            refine (l7Get_any (some ⟨b, off, none⟩) k cap p2 4 B _ (HSB.out _ HP.out.1.bel) (by omega) (by omega)).mono ?_
            rintro e w7 ⟨⟨v, t, q, rfl, hown, hg⟩, hb7⟩
            have HP7 : Hid (FoW w T #[.int .i64 1, .int .i64 x1, .int .i64 x2, .int .i64 x3, .slice bb j cc, .int .i64 0, .int .i64 0, .int .i64 0, .int .i64 0, .int .i64 0, .int .i64 0, .int .i64 0, .int .i64 0, .slice none 0 0, .slice none 0 0, .slice none 0 0] (some ⟨b, off, none⟩) (k + 4) zs w7 ∧ RdP w7 bb j (pairsTo m j) FF ∧ Own B0 w7 FF ∧ Capd bb j cc ∧ B0 ≤ w7.heap.size) := ⟨HP.out.1.below hb7, HP.out.2.1.below hb7, HP.out.2.2.1.below HP.out.2.1.lt hb7, HP.out.2.2.2.1, Nat.le_trans HP.out.2.2.2.2 hb7.size⟩
            have hBr : B0 ≤ wr.heap.size := HP.out.2.2.2.2
            clear hb7 HP ck
            cases hgt : getTo B p2 4 with
            | none =>
              have HV : Hid (FrIs zs Fr.zero false) := by
                show FrIs _ _ _
                rw [HB.out]
                exact of_item HG.out HN.out HG2.out HX.out.1.symm hgt
              clear hgt hg hown
              simp only [Option.isSome]
              go_wp2_with (first | go_skip | (with_reducible refine stopStore 51 rfl ?_))
              refine store_known 51 w.heap.size _ #[.int .i64 0, .int .i64 0, .int .i64 0, .int .i64 0, .slice none 0 0, .int .i64 0, .int .i64 0, .int .i64 0, .int .i64 0, .int .i64 0, .int .i64 0, .int .i64 0, .int .i64 0, .slice none 0 0, .slice none 0 0, .slice none 0 0] 51 HP7.out.1.res rfl rfl rfl rfl infoFrO7 rfl (by simp [Value.oneCell']) ?_
              go_wp2
              refine bodyPost_ret (results_row_tmp Try.results28 _ _ w.heap.size _ _ _ _ rfl (Blk.setRow HP7.out.1.res) Try.underlying51 rfl infoFrO7) rfl ?_
              exact ⟨_, Fr.zero, false, [], [], rfl, rdFr_zero _, Own.nil, Own.nil, by simp, below_setRow HP7.out.1.bel (Nat.le_refl _) _, HV.out⟩
            | some r =>
              obtain ⟨t', q'⟩ := r
              rw [hgt] at hg
              simp only [Option.getD] at hg
              cases hg
              simp only [Option.isSome]
              have HG3 : Hid (getTo B p2 4 = some (t, q)) := hgt
              have iv := getTo_inv HRG.out.1 (p := p2) (by rw [HRG.out.2.2.1]; omega) hgt
              have lt : t.length = 4 := getTo_len hgt
              obtain ⟨p3, hp3⟩ : ∃ p : Nat, p = p2 + (putAll t).length := ⟨_, rfl⟩
              have eq3 : q = (p3 : Int) := by rw [iv.2.1, hp3]
              subst eq3
              have hp3k : p3 ≤ k := by have := iv.2.2.1; rw [HRG.out.2.2.1] at this; omega
              rw [lt] at hown
              obtain ⟨gt, ct, rfl, hct⟩ := own_shape7 hown (by omega)
              obtain ⟨Ft, hrt, _, _⟩ := RdI.of_own hown
              have hgt1 := (hown.lt gt rfl).1
              have hgt2 := (hown.lt gt rfl).2
              have HS1 : Hid (RdI w7 (some ⟨gt, 0, none⟩) 4 t [gt]) := by
                rcases hrt.cells with ⟨h0, _⟩ | ⟨b', off', hp, e, hF, hc⟩
                · omega
                · cases e; exact ⟨hrt.length, .inr ⟨gt, 0, hp, rfl, rfl, hc⟩⟩
              clear hown hrt hgt iv hp3 lt
              have h3c : ¬ cap = p3 := by omega
              have h3d : (p3 : Int) ≤ (k : Int) := by omega
              have HSB3 : Hid (∀ W, Below w.heap.size w W → RdB W (some ⟨b, off + p3, none⟩) (k - p3) (B.drop p3)) := fun W hb => (HSB.out W hb).drop (by omega)
              go_wp2_with fail
              refine (sketchOfSpec_any (some ⟨b, off + p3, none⟩) (k - p3) (cap - p3) (B.drop p3) _ (HSB3.out _ HP7.out.1.bel) (by omega)).mono ?_
              rintro e w8 ⟨v8, s, d8, F8, rfl, rs, os, b8, hIs⟩
              have HIS : Hid (SkIs (B.drop p3) s d8) := hIs
              obtain ⟨a1, n1, c1, a2, n2, c2, a3, n3, c3, F1, F2, F3, rfl, hh1, hh2, hh3, hF8⟩ := rs
              have HS8 : Hid (RdSk w8 (.agg #[.int .i64 s.count, .int .i64 s.sum, .int .i64 s.min, .int .i64 s.max, .slice a1 n1 c1, .slice a2 n2 c2, .slice a3 n3 c3]) s F8 ∧ Own w7.heap.size w8 F8) := ⟨⟨a1, n1, c1, a2, n2, c2, a3, n3, c3, F1, F2, F3, rfl, hh1, hh2, hh3, hF8⟩, os⟩
              have HP8 : Hid (FoW w T #[.int .i64 1, .int .i64 x1, .int .i64 x2, .int .i64 x3, .slice bb j cc, .int .i64 0, .int .i64 0, .int .i64 0, .int .i64 0, .int .i64 0, .int .i64 0, .int .i64 0, .int .i64 0, .slice none 0 0, .slice none 0 0, .slice none 0 0] (some ⟨b, off, none⟩) (k + 4) zs w8 ∧ RdP w8 bb j (pairsTo m j) FF ∧ Own B0 w8 FF ∧ Capd bb j cc ∧ B0 ≤ w7.heap.size ∧ RdI w8 (some ⟨gt, 0, none⟩) 4 t [gt] ∧ (∀ b ∈ FF, b < w7.heap.size) ∧ w7.heap.size ≤ w8.heap.size) := ⟨HP7.out.1.below b8, HP7.out.2.1.below b8, HP7.out.2.2.1.below HP7.out.2.1.lt b8, HP7.out.2.2.2.1, HP7.out.2.2.2.2, HS1.out.below b8, HP7.out.2.1.lt, b8.size⟩
              clear os b8 hIs hh1 hh2 hh3 hF8 HP7 HS1
              go_wp2_with (first | go_skip | (with_reducible refine stopStore 29 rfl ?_))
              refine store_fresh 29 w8.heap.size rfl #[.int .i64 0, .int .i64 0, .int .i64 0, .int .i64 0, .slice none 0 0, .slice none 0 0, .slice none 0 0] #[.int .i64 s.count, .int .i64 s.sum, .int .i64 s.min, .int .i64 s.max, .slice a1 n1 c1, .slice a2 n2 c2, .slice a3 n3 c3] 29 rfl rfl rfl rfl infoSkI rfl (by simp [Value.oneCell']) ?_
              intro W8 hg8 hb8
              have HQ : Hid (FoW w T #[.int .i64 1, .int .i64 x1, .int .i64 x2, .int .i64 x3, .slice bb j cc, .int .i64 0, .int .i64 0, .int .i64 0, .int .i64 0, .int .i64 0, .int .i64 0, .int .i64 0, .int .i64 0, .slice none 0 0, .slice none 0 0, .slice none 0 0] (some ⟨b, off, none⟩) (k + 4) zs W8 ∧ RdP W8 bb j (pairsTo m j) FF ∧ Own B0 W8 FF ∧ Capd bb j cc ∧ B0 ≤ w7.heap.size ∧ RdI W8 (some ⟨gt, 0, none⟩) 4 t [gt] ∧ (∀ b ∈ FF, b < w7.heap.size) ∧ Blk W8 w8.heap.size #[.int .i64 s.count, .int .i64 s.sum, .int .i64 s.min, .int .i64 s.max, .slice a1 n1 c1, .slice a2 n2 c2, .slice a3 n3 c3] 29 ∧ RdSk W8 (.agg #[.int .i64 s.count, .int .i64 s.sum, .int .i64 s.min, .int .i64 s.max, .slice a1 n1 c1, .slice a2 n2 c2, .slice a3 n3 c3]) s F8 ∧ Own w7.heap.size W8 F8) := ⟨HP8.out.1.below hb8, HP8.out.2.1.below hb8, HP8.out.2.2.1.below HP8.out.2.1.lt hb8, HP8.out.2.2.2.1, HP8.out.2.2.2.2.1, HP8.out.2.2.2.2.2.1.below hb8, HP8.out.2.2.2.2.2.2.1, hg8, HS8.out.1.below hb8, HS8.out.2.below HS8.out.1.lt hb8⟩
              obtain ⟨T2, hT2⟩ : ∃ T2, T2 = w8.heap.size := ⟨_, rfl⟩
              rw [← hT2] at HQ ⊢
              have hT27 : w7.heap.size ≤ T2 := by rw [hT2]; exact HP8.out.2.2.2.2.2.2.2
              clear hg8 hb8 HP8 HS8 hT2
              cases d8
              · have HV : Hid (FrIs zs Fr.zero false) := by
                  show FrIs _ _ _
                  rw [HB.out]
                  exact of_sketch HG.out HN.out HG2.out HX.out.1.symm HG3.out HIS.out
                go_wp2_with (first | go_skip | (with_reducible refine stopStore 51 rfl ?_))
                refine store_known 51 w.heap.size _ #[.int .i64 0, .int .i64 0, .int .i64 0, .int .i64 0, .slice none 0 0, .int .i64 0, .int .i64 0, .int .i64 0, .int .i64 0, .int .i64 0, .int .i64 0, .int .i64 0, .int .i64 0, .slice none 0 0, .slice none 0 0, .slice none 0 0] 51 HQ.out.1.res rfl rfl rfl rfl infoFrO7 rfl (by simp [Value.oneCell']) ?_
                go_wp2
                refine bodyPost_ret (results_row_tmp Try.results28 _ _ w.heap.size _ _ _ _ rfl (Blk.setRow HQ.out.1.res) Try.underlying51 rfl infoFrO7) rfl ?_
                exact ⟨_, Fr.zero, false, [], [], rfl, rdFr_zero _, Own.nil, Own.nil, by simp, below_setRow HQ.out.1.bel (Nat.le_refl _) _, HV.out⟩
              obtain ⟨y0, hy0⟩ : ∃ x, x = t.getD 0 0 := ⟨_, rfl⟩
              obtain ⟨y1, hy1⟩ : ∃ x, x = t.getD 1 0 := ⟨_, rfl⟩
              obtain ⟨y2, hy2⟩ : ∃ x, x = t.getD 2 0 := ⟨_, rfl⟩
              obtain ⟨y3, hy3⟩ : ∃ x, x = t.getD 3 0 := ⟨_, rfl⟩
              have HY : Hid (y0 = t.getD 0 0 ∧ y1 = t.getD 1 0 ∧ y2 = t.getD 2 0 ∧ y3 = t.getD 3 0) := ⟨hy0, hy1, hy2, hy3⟩
              clear hy0 hy1 hy2 hy3
              have HKY : Hid (∀ W, RdI W (some ⟨gt, 0, none⟩) 4 t [gt] → NumHeld gt 0 y0 y1 y2 y3 W) := fun W r => by rw [HY.out.1, HY.out.2.1, HY.out.2.2.1, HY.out.2.2.2]; exact r.numHeld (by omega)
              go_wp2_with fail
              have HQd : Hid (FoW w T #[.int .i64 1, .int .i64 x1, .int .i64 x2, .int .i64 x3, .slice bb j cc, .int .i64 0, .int .i64 0, .int .i64 0, .int .i64 0, .int .i64 0, .int .i64 0, .int .i64 0, .int .i64 0, .slice none 0 0, .slice none 0 0, .slice none 0 0] (some ⟨b, off, none⟩) (k + 4) zs W8.drew ∧ RdP W8.drew bb j (pairsTo m j) FF ∧ Own B0 W8.drew FF ∧ Blk W8.drew T2 #[.int .i64 s.count, .int .i64 s.sum, .int .i64 s.min, .int .i64 s.max, .slice a1 n1 c1, .slice a2 n2 c2, .slice a3 n3 c3] 29 ∧ RdSk W8.drew (.agg #[.int .i64 s.count, .int .i64 s.sum, .int .i64 s.min, .int .i64 s.max, .slice a1 n1 c1, .slice a2 n2 c2, .slice a3 n3 c3]) s F8 ∧ Own w7.heap.size W8.drew F8 ∧ NumHeld gt 0 y0 y1 y2 y3 W8.drew) := ⟨HQ.out.1.below (Below.refl _ _).drew, HQ.out.2.1.below (Below.refl _ _).drew, HQ.out.2.2.1.below HQ.out.2.1.lt (Below.refl _ _).drew, HQ.out.2.2.2.2.2.2.2.1.drew, HQ.out.2.2.2.2.2.2.2.2.1.below (Below.refl _ _).drew, HQ.out.2.2.2.2.2.2.2.2.2.below HQ.out.2.2.2.2.2.2.2.2.1.lt (Below.refl _ _).drew, HKY.out _ (HQ.out.2.2.2.2.2.1.below (Below.refl _ _).drew)⟩
              have HQ0 : Hid (Capd bb j cc ∧ B0 ≤ w7.heap.size ∧ (∀ b ∈ FF, b < w7.heap.size) ∧ gt ≠ T ∧ T2 ≠ T) := ⟨HQ.out.2.2.2.1, HQ.out.2.2.2.2.1, HQ.out.2.2.2.2.2.2.1, by have := HTT.out; omega, by have := HQ.out.2.2.2.2.1; have := HTT.out; omega⟩
              have HQr : Hid (RdI W8.drew (some ⟨gt, 0, none⟩) 4 t [gt]) := HQ.out.2.2.2.2.2.1.below (Below.refl _ _).drew
              clear HQ
              obtain ⟨Y, hY⟩ : ∃ Y, Y = W8.drew := ⟨_, rfl⟩
              rw [← hY] at HQd HQr
              refine wp_region_held (S := fun W => NumHeld gt 0 y0 y1 y2 y3 W ∧ Blk W T2 #[.int .i64 s.count, .int .i64 s.sum, .int .i64 s.min, .int .i64 s.max, .slice a1 n1 c1, .slice a2 n2 c2, .slice a3 n3 c3] 29) (by kernel_rfl) ?_
              change wpAnyH _ _ _ _ _ _ _ _ (World.drew _)
              rw [← hY]
              clear hY
              refine takeH (o := ?o74) 0 (.slice (some ⟨gt, 0, none⟩) 4 ct) ?h74 ?r74
              case h74 => simp only [aT, aZ]; rfl
              refine ⟨_, by simp [Act.put]; rfl, by kernel_rfl, by kernel_rfl, by kernel_rfl, fun _ _ _ h => h, (.inl ⟨rfl, fun W _ => by kernel_rfl⟩), ⟨HQd.out.2.2.2.2.2.2, HQd.out.2.2.2.1⟩, ?_⟩
              refine takeH (o := ?o75) 1 (.pointer (some ⟨gt, 0, none⟩)) ?h75 ?r75
              case h75 => simp only [aT, aS, aZ]; rfl
              refine ⟨_, by simp [Act.put]; rfl, by kernel_rfl, by kernel_rfl, by kernel_rfl, fun _ _ _ h => h, (.inl ⟨rfl, fun W _ => by go_simp⟩), ⟨HQd.out.2.2.2.2.2.2, HQd.out.2.2.2.1⟩, ?_⟩
              refine takeH (o := ?o76) 2 (.int .i64 y0) ?h76 ?r76
              case h76 => simp only [aT, aS, aZ]; rfl
              refine ⟨_, by simp [Act.put]; rfl, by kernel_rfl, by kernel_rfl, by kernel_rfl, fun _ _ _ h => h, (.inl ⟨rfl, fun W hW => by have c := hW.1.1; go_simp⟩), ⟨HQd.out.2.2.2.2.2.2, HQd.out.2.2.2.1⟩, ?_⟩
              refine takeH (o := ?o77) 3 (.slice (some ⟨gt, 0, none⟩) 4 ct) ?h77 ?r77
              case h77 => simp only [aT, aS, aZ]; rfl
              refine ⟨_, by simp [Act.put]; rfl, by kernel_rfl, by kernel_rfl, by kernel_rfl, fun _ _ _ h => h, (.inl ⟨rfl, fun W _ => by kernel_rfl⟩), ⟨HQd.out.2.2.2.2.2.2, HQd.out.2.2.2.1⟩, ?_⟩
              refine takeH (o := ?o78) 4 (.pointer (some ⟨gt, 1, none⟩)) ?h78 ?r78
              case h78 => simp only [aT, aS, aZ]; rfl
              refine ⟨_, by simp [Act.put]; rfl, by kernel_rfl, by kernel_rfl, by kernel_rfl, fun _ _ _ h => h, (.inl ⟨rfl, fun W _ => by go_simp⟩), ⟨HQd.out.2.2.2.2.2.2, HQd.out.2.2.2.1⟩, ?_⟩
              refine takeH (o := ?o79) 5 (.int .i64 y1) ?h79 ?r79
              case h79 => simp only [aT, aS, aZ]; rfl
              refine ⟨_, by simp [Act.put]; rfl, by kernel_rfl, by kernel_rfl, by kernel_rfl, fun _ _ _ h => h, (.inl ⟨rfl, fun W hW => by have c := hW.1.2.1; go_simp⟩), ⟨HQd.out.2.2.2.2.2.2, HQd.out.2.2.2.1⟩, ?_⟩
              refine takeH (o := ?o80) 6 (.slice (some ⟨gt, 0, none⟩) 4 ct) ?h80 ?r80
              case h80 => simp only [aT, aS, aZ]; rfl
              refine ⟨_, by simp [Act.put]; rfl, by kernel_rfl, by kernel_rfl, by kernel_rfl, fun _ _ _ h => h, (.inl ⟨rfl, fun W _ => by kernel_rfl⟩), ⟨HQd.out.2.2.2.2.2.2, HQd.out.2.2.2.1⟩, ?_⟩
              refine takeH (o := ?o81) 7 (.pointer (some ⟨gt, 2, none⟩)) ?h81 ?r81
              case h81 => simp only [aT, aS, aZ]; rfl
              refine ⟨_, by simp [Act.put]; rfl, by kernel_rfl, by kernel_rfl, by kernel_rfl, fun _ _ _ h => h, (.inl ⟨rfl, fun W _ => by go_simp⟩), ⟨HQd.out.2.2.2.2.2.2, HQd.out.2.2.2.1⟩, ?_⟩
              refine takeH (o := ?o82) 8 (.int .i64 y2) ?h82 ?r82
              case h82 => simp only [aT, aS, aZ]; rfl
              refine ⟨_, by simp [Act.put]; rfl, by kernel_rfl, by kernel_rfl, by kernel_rfl, fun _ _ _ h => h, (.inl ⟨rfl, fun W hW => by have c := hW.1.2.2.1; go_simp⟩), ⟨HQd.out.2.2.2.2.2.2, HQd.out.2.2.2.1⟩, ?_⟩
              refine takeH (o := ?o83) 9 (.slice (some ⟨gt, 0, none⟩) 4 ct) ?h83 ?r83
              case h83 => simp only [aT, aS, aZ]; rfl
              refine ⟨_, by simp [Act.put]; rfl, by kernel_rfl, by kernel_rfl, by kernel_rfl, fun _ _ _ h => h, (.inl ⟨rfl, fun W _ => by kernel_rfl⟩), ⟨HQd.out.2.2.2.2.2.2, HQd.out.2.2.2.1⟩, ?_⟩
              refine takeH (o := ?o84) 10 (.pointer (some ⟨gt, 3, none⟩)) ?h84 ?r84
              case h84 => simp only [aT, aS, aZ]; rfl
              refine ⟨_, by simp [Act.put]; rfl, by kernel_rfl, by kernel_rfl, by kernel_rfl, fun _ _ _ h => h, (.inl ⟨rfl, fun W _ => by go_simp⟩), ⟨HQd.out.2.2.2.2.2.2, HQd.out.2.2.2.1⟩, ?_⟩
              refine takeH (o := ?o85) 11 (.int .i64 y3) ?h85 ?r85
              case h85 => simp only [aT, aS, aZ]; rfl
              refine ⟨_, by simp [Act.put]; rfl, by kernel_rfl, by kernel_rfl, by kernel_rfl, fun _ _ _ h => h, (.inl ⟨rfl, fun W hW => by have c := hW.1.2.2.2; go_simp⟩), ⟨HQd.out.2.2.2.2.2.2, HQd.out.2.2.2.1⟩, ?_⟩
              refine takeH (o := ?o86) 12 (.agg #[.int .i64 s.count, .int .i64 s.sum, .int .i64 s.min, .int .i64 s.max, .slice a1 n1 c1, .slice a2 n2 c2, .slice a3 n3 c3]) ?h86 ?r86
              case h86 => simp only [aT, aS, aZ]; rfl
              refine ⟨_, by simp [Act.put]; rfl, by kernel_rfl, by kernel_rfl, by kernel_rfl, fun _ _ _ h => h, (yields_whole 29 T2 #[.int .i64 s.count, .int .i64 s.sum, .int .i64 s.min, .int .i64 s.max, .slice a1 n1 c1, .slice a2 n2 c2, .slice a3 n3 c3] 29 _ rfl rfl rfl Try.underlying29 rfl infoSkI (fun W hW => hW.2)), ⟨HQd.out.2.2.2.2.2.2, HQd.out.2.2.2.1⟩, ?_⟩
              refine takeH (o := ?o87) 13 (.agg #[.int .i64 y0, .int .i64 y1, .int .i64 y2, .int .i64 y3, .int .i64 s.count, .int .i64 s.sum, .int .i64 s.min, .int .i64 s.max, .slice a1 n1 c1, .slice a2 n2 c2, .slice a3 n3 c3]) ?h87 ?r87
              case h87 => simp only [aT, aS, aZ]; rfl
              refine ⟨_, by simp [Act.put]; rfl, by kernel_rfl, by kernel_rfl, by kernel_rfl, fun _ _ _ h => h, (.inl ⟨rfl, fun W _ => by kernel_rfl⟩), ⟨HQd.out.2.2.2.2.2.2, HQd.out.2.2.2.1⟩, ?_⟩
              refine takeH (o := ?o88) 14 (.pointer (some ⟨T, 5, none⟩)) ?h88 ?r88
              case h88 => simp only [aT, aS, aZ]; rfl
              refine ⟨_, by simp [Act.put]; rfl, by kernel_rfl, by kernel_rfl, by kernel_rfl, fun _ _ _ h => h, (.inl ⟨rfl, fun W _ => by kernel_rfl⟩), ⟨HQd.out.2.2.2.2.2.2, HQd.out.2.2.2.1⟩, ?_⟩
              refine onlyH (o := ?o89) 15 (by kernel_rfl) ?h89 ?r89
              case h89 => simp only [aT, aS, aZ]; rfl
              intro K hK
              have HSt : Hid (NumHeld gt 0 y0 y1 y2 y3 (Y.setRow T #[.int .i64 1, .int .i64 x1, .int .i64 x2, .int .i64 x3, .slice bb j cc, .int .i64 y0, .int .i64 y1, .int .i64 y2, .int .i64 y3, .int .i64 s.count, .int .i64 s.sum, .int .i64 s.min, .int .i64 s.max, .slice a1 n1 c1, .slice a2 n2 c2, .slice a3 n3 c3]) ∧ Blk (Y.setRow T #[.int .i64 1, .int .i64 x1, .int .i64 x2, .int .i64 x3, .slice bb j cc, .int .i64 y0, .int .i64 y1, .int .i64 y2, .int .i64 y3, .int .i64 s.count, .int .i64 s.sum, .int .i64 s.min, .int .i64 s.max, .slice a1 n1 c1, .slice a2 n2 c2, .slice a3 n3 c3]) T2 #[.int .i64 s.count, .int .i64 s.sum, .int .i64 s.min, .int .i64 s.max, .slice a1 n1 c1, .slice a2 n2 c2, .slice a3 n3 c3] 29) := by
                have q := HQ0.out
                exact ⟨HKY.out _ (HQr.out.agree (Agree.row (by simp; omega) _)), HQd.out.2.2.2.1.setRowOther q.2.2.2.2⟩
              refine op_storeCut 49 T 5 #[.int .i64 1, .int .i64 x1, .int .i64 x2, .int .i64 x3, .slice bb j cc, .int .i64 0, .int .i64 0, .int .i64 0, .int .i64 0, .int .i64 0, .int .i64 0, .int .i64 0, .int .i64 0, .slice none 0 0, .slice none 0 0, .slice none 0 0] #[.int .i64 y0, .int .i64 y1, .int .i64 y2, .int .i64 y3, .int .i64 s.count, .int .i64 s.sum, .int .i64 s.min, .int .i64 s.max, .slice a1 n1 c1, .slice a2 n2 c2, .slice a3 n3 c3] #[.int .i64 1, .int .i64 x1, .int .i64 x2, .int .i64 x3, .slice bb j cc, .int .i64 y0, .int .i64 y1, .int .i64 y2, .int .i64 y3, .int .i64 s.count, .int .i64 s.sum, .int .i64 s.min, .int .i64 s.max, .slice a1 n1 c1, .slice a2 n2 c2, .slice a3 n3 c3] 51 HQd.out.1.loc rfl rfl rfl rfl infoItO7 (by exact Nat.le_refl 16) (by simp [Value.oneCell']) rfl ⟨_, by simp [Act.put]; rfl, hK _ _ ⟨HSt.out, ?_⟩⟩
              clear hK HSt
              refine wpAnyH_done (by kernel_rfl) ?_ _
              have HE : Hid (FoW w T #[.int .i64 1, .int .i64 x1, .int .i64 x2, .int .i64 x3, .slice bb j cc, .int .i64 y0, .int .i64 y1, .int .i64 y2, .int .i64 y3, .int .i64 s.count, .int .i64 s.sum, .int .i64 s.min, .int .i64 s.max, .slice a1 n1 c1, .slice a2 n2 c2, .slice a3 n3 c3] (some ⟨b, off, none⟩) (k + 4) zs (Y.setRow T #[.int .i64 1, .int .i64 x1, .int .i64 x2, .int .i64 x3, .slice bb j cc, .int .i64 y0, .int .i64 y1, .int .i64 y2, .int .i64 y3, .int .i64 s.count, .int .i64 s.sum, .int .i64 s.min, .int .i64 s.max, .slice a1 n1 c1, .slice a2 n2 c2, .slice a3 n3 c3]) ∧ RdFr (Y.setRow T #[.int .i64 1, .int .i64 x1, .int .i64 x2, .int .i64 x3, .slice bb j cc, .int .i64 y0, .int .i64 y1, .int .i64 y2, .int .i64 y3, .int .i64 s.count, .int .i64 s.sum, .int .i64 s.min, .int .i64 s.max, .slice a1 n1 c1, .slice a2 n2 c2, .slice a3 n3 c3]) (.agg #[.int .i64 1, .int .i64 x1, .int .i64 x2, .int .i64 x3, .slice bb j cc, .int .i64 y0, .int .i64 y1, .int .i64 y2, .int .i64 y3, .int .i64 s.count, .int .i64 s.sum, .int .i64 s.min, .int .i64 s.max, .slice a1 n1 c1, .slice a2 n2 c2, .slice a3 n3 c3]) ⟨1, x1, x2, x3, pairsTo m j, ⟨y0, y1, y2, y3, s⟩⟩ FF F8 ∧ Own (T + 1) (Y.setRow T #[.int .i64 1, .int .i64 x1, .int .i64 x2, .int .i64 x3, .slice bb j cc, .int .i64 y0, .int .i64 y1, .int .i64 y2, .int .i64 y3, .int .i64 s.count, .int .i64 s.sum, .int .i64 s.min, .int .i64 s.max, .slice a1 n1 c1, .slice a2 n2 c2, .slice a3 n3 c3]) FF ∧ Own (T + 1) (Y.setRow T #[.int .i64 1, .int .i64 x1, .int .i64 x2, .int .i64 x3, .slice bb j cc, .int .i64 y0, .int .i64 y1, .int .i64 y2, .int .i64 y3, .int .i64 s.count, .int .i64 s.sum, .int .i64 s.min, .int .i64 s.max, .slice a1 n1 c1, .slice a2 n2 c2, .slice a3 n3 c3]) F8 ∧ (∀ b ∈ FF, b ∉ F8) ∧ s.wide ∧ (pairsTo m j).length ≤ 100) := by
                have q := HQ0.out
                have tt := HTT.out
                have nF : T ∉ FF := fun hx => by have := HQd.out.2.2.1.ge _ hx; omega
                have n8 : T ∉ F8 := fun hx => by have := HQd.out.2.2.2.2.2.1.ge _ hx; omega
                refine ⟨HQd.out.1.row HR.out _, ⟨bb, j, cc, a1, n1, c1, a2, n2, c2, a3, n3, c3, rfl, HQd.out.2.1.agree (Agree.row nF _), ⟨a1, n1, c1, a2, n2, c2, a3, n3, c3, rfl, HQd.out.2.2.2.2.1.agree (Agree.row n8 _)⟩, q.1⟩, (HQd.out.2.2.1.agree (Agree.row nF _)).mono (by omega), (HQd.out.2.2.2.2.2.1.agree (Agree.row n8 _)).mono (by omega), fun b hb hx => by have := HQd.out.2.2.2.2.2.1.ge _ hx; have := q.2.2.1 _ hb; omega, ?_, by rw [pairsTo_len]; omega⟩
                have hs := HIS.out
                unfold SkIs at hs
                rw [if_pos rfl] at hs
                have ln := (Sk.ok_lens hs.1).1
                exact ⟨by have := ln.hist; omega, by have := ln.regs; omega, by have := ln.rows; omega, fun z hz => by have := ln.row z hz; omega⟩
              have HNO : Hid (¬ (({ kind := 1, agent := x1, epoch := x2, granted := x3, taken := pairsTo m j, item := ⟨y0, y1, y2, y3, s⟩ } : Fr).ok = true ∧ ({ kind := 1, agent := x1, epoch := x2, granted := x3, taken := pairsTo m j, item := ⟨y0, y1, y2, y3, s⟩ } : Fr).bytes = zs) → FrIs zs Fr.zero false) := fun hno => by
                rw [HB.out] at hno ⊢
                refine of_done HG.out HN.out HG2.out HX.out.1.symm HG3.out HIS.out ?_ hno
                rw [← HX.out.1, ← HX.out.2.1, ← HX.out.2.2.1, ← HX.out.2.2.2, ← HY.out.1, ← HY.out.2.1, ← HY.out.2.2.1, ← HY.out.2.2.2]
              obtain ⟨f, hf⟩ : ∃ f : Fr, f = ⟨1, x1, x2, x3, pairsTo m j, ⟨y0, y1, y2, y3, s⟩⟩ := ⟨_, rfl⟩
              obtain ⟨fc, hfc⟩ : ∃ fc : Array Value, fc = #[.int .i64 1, .int .i64 x1, .int .i64 x2, .int .i64 x3, .slice bb j cc, .int .i64 y0, .int .i64 y1, .int .i64 y2, .int .i64 y3, .int .i64 s.count, .int .i64 s.sum, .int .i64 s.min, .int .i64 s.max, .slice a1 n1 c1, .slice a2 n2 c2, .slice a3 n3 c3] := ⟨_, rfl⟩
              obtain ⟨W9, hW9⟩ : ∃ W, W = Y.setRow T #[.int .i64 1, .int .i64 x1, .int .i64 x2, .int .i64 x3, .slice bb j cc, .int .i64 y0, .int .i64 y1, .int .i64 y2, .int .i64 y3, .int .i64 s.count, .int .i64 s.sum, .int .i64 s.min, .int .i64 s.max, .slice a1 n1 c1, .slice a2 n2 c2, .slice a3 n3 c3] := ⟨_, rfl⟩
              have HFC : Hid (fc.size = 16 ∧ fc.all (·.oneCell') = true) := by rw [hfc]; exact ⟨rfl, by simp [Value.oneCell']⟩
              rw [show s.wide = f.item.sk.wide from by rw [hf], show (pairsTo m j).length = f.taken.length from by rw [hf], ← hW9, ← hfc, ← hf] at HE
              rw [← hf] at HNO
              rw [← hW9]
              clear hW9 hfc hf HQd HQ0 HKY HQr
              obtain ⟨GG, hGG⟩ : ∃ G, G = F8 := ⟨_, rfl⟩
              rw [← hGG] at HE
              clear hGG
              have HOK : Hid (∃ d, d = f.ok) := ⟨_, rfl⟩
              obtain ⟨d, hd⟩ := HOK.out
              clear HOK
              have HDK : Hid (d = f.ok) := hd
              clear hd
              go_wp2_with fail
              have HF : Hid (FoW w T fc (some ⟨b, off, none⟩) (k + 4) zs W9.drew ∧ RdFr W9.drew (.agg fc) f FF GG ∧ Own (T + 1) W9.drew FF ∧ Own (T + 1) W9.drew GG) := ⟨HE.out.1.below (Below.refl _ _).drew, HE.out.2.1.below (Below.refl _ _).drew, HE.out.2.2.1.below HE.out.2.1.lt1 (Below.refl _ _).drew, HE.out.2.2.2.1.below HE.out.2.1.lt2 (Below.refl _ _).drew⟩
              have HC : Hid ((∀ b ∈ FF, b ∉ GG) ∧ f.item.sk.wide ∧ f.taken.length ≤ 100) := HE.out.2.2.2.2
              clear HE
              obtain ⟨Z0, hZ0⟩ : ∃ Z, Z = W9.drew := ⟨_, rfl⟩
              rw [← hZ0] at HF
              refine wp_region_held (S := fun W => Blk W T fc 51 ∧ RdB W (some ⟨b, off, none⟩) (k + 4) zs) (by kernel_rfl) ?_
              change wpAnyH _ _ _ _ _ _ _ _ (World.drew _)
              rw [← hZ0]
              clear hZ0
              refine takeH (o := ?o90) 0 (.agg fc) ?h90 ?r90
              case h90 => simp only [aT, aZ]; rfl
              refine ⟨_, by simp [Act.put]; rfl, by kernel_rfl, by kernel_rfl, by kernel_rfl, fun _ _ _ h => h, (yields_whole 51 T fc 51 _ rfl rfl rfl Try.underlying51 rfl (by rw [HFC.out.1]; exact infoFrO7) (fun W hW => hW.1)), ⟨HF.out.1.loc, HF.out.1.src⟩, ?_⟩
              refine onlyH (o := ?o91) 1 (by kernel_rfl) ?h91 ?r91
              case h91 => simp only [aT, aS, aZ]; rfl
              intro K hK
              refine op_call1 59 _ _ Try.f59 (fun v w' => v = .bool d ∧ Below Z0.heap.size Z0 w') rfl rfl Try.func59 (by kernel_rfl) (by kernel_rfl) ((frameOkSpec_any (.agg fc) f FF GG Z0 HF.out.2.1 HC.out.2.1 (by have := HC.out.2.2; omega)).mono (by rintro e w' ⟨rfl, h1⟩; exact ⟨_, rfl, by rw [HDK.out], h1⟩)) ?_
              rintro v Z1 ⟨rfl, hb1⟩
              have HF1 : Hid (FoW w T fc (some ⟨b, off, none⟩) (k + 4) zs Z1 ∧ RdFr Z1 (.agg fc) f FF GG ∧ Own (T + 1) Z1 FF ∧ Own (T + 1) Z1 GG) := ⟨HF.out.1.below hb1, HF.out.2.1.below hb1, HF.out.2.2.1.below HF.out.2.1.lt1 hb1, HF.out.2.2.2.below HF.out.2.1.lt2 hb1⟩
              clear hb1 HF
              refine ⟨_, by simp [Act.put]; rfl, hK _ _ ⟨⟨HF1.out.1.loc, HF1.out.1.src⟩, ?_⟩⟩
              clear hK
              cases d
              · have HV : Hid (FrIs zs Fr.zero false) := HNO.out (fun e => by have := HDK.out; rw [e.1] at this; cases this)
                refine takeH (o := ?o92) 2 (.bool true) ?h92 ?r92
                case h92 => simp only [aT, aS, aZ]; rfl
                refine ⟨_, by simp [Act.put]; rfl, by kernel_rfl, by kernel_rfl, by kernel_rfl, fun _ _ _ h => h, (.inl ⟨rfl, fun W _ => by go_simp⟩), ⟨HF1.out.1.loc, HF1.out.1.src⟩, ?_⟩
                refine takeH (o := ?o93) 3 (.bool true) ?h93 ?r93
                case h93 => simp only [aT, aS, aZ]; rfl
                refine ⟨_, by simp [Act.put]; rfl, by kernel_rfl, by kernel_rfl, by kernel_rfl, fun _ _ _ h => h, (.inl ⟨rfl, fun W _ => by kernel_rfl⟩), ⟨HF1.out.1.loc, HF1.out.1.src⟩, ?_⟩
                refine takeH (o := ?o94) 4 (undef) ?h94 ?r94
                case h94 => simp only [aT, aS, aZ]; rfl
                refine ⟨_, by simp [Act.put]; rfl, by kernel_rfl, by kernel_rfl, by kernel_rfl, fun _ _ _ h => h, (.inr ⟨rfl, rfl⟩), ⟨HF1.out.1.loc, HF1.out.1.src⟩, ?_⟩
                refine takeH (o := ?o95) 5 (undef) ?h95 ?r95
                case h95 => simp only [aT, aS, aZ]; rfl
                refine ⟨_, by simp [Act.put]; rfl, by kernel_rfl, by kernel_rfl, by kernel_rfl, fun _ _ _ h => h, (.inr ⟨rfl, rfl⟩), ⟨HF1.out.1.loc, HF1.out.1.src⟩, ?_⟩
                refine takeH (o := ?o96) 6 (undef) ?h96 ?r96
                case h96 => simp only [aT, aS, aZ]; rfl
                refine ⟨_, by simp [Act.put]; rfl, by kernel_rfl, by kernel_rfl, by kernel_rfl, fun _ _ _ h => h, (.inr ⟨rfl, rfl⟩), ⟨HF1.out.1.loc, HF1.out.1.src⟩, ?_⟩
                refine takeH (o := ?o97) 7 (undef) ?h97 ?r97
                case h97 => simp only [aT, aS, aZ]; rfl
                refine ⟨_, by simp [Act.put]; rfl, by kernel_rfl, by kernel_rfl, by kernel_rfl, fun _ _ _ h => h, (.inr ⟨rfl, rfl⟩), ⟨HF1.out.1.loc, HF1.out.1.src⟩, ?_⟩
                refine takeH (o := ?o98) 8 (undef) ?h98 ?r98
                case h98 => simp only [aT, aS, aZ]; rfl
                refine ⟨_, by simp [Act.put]; rfl, by kernel_rfl, by kernel_rfl, by kernel_rfl, fun _ _ _ h => h, (.inr ⟨rfl, rfl⟩), ⟨HF1.out.1.loc, HF1.out.1.src⟩, ?_⟩
                refine takeH (o := ?o99) 9 (undef) ?h99 ?r99
                case h99 => simp only [aT, aS, aZ]; rfl
                refine ⟨_, by simp [Act.put]; rfl, by kernel_rfl, by kernel_rfl, by kernel_rfl, fun _ _ _ h => h, (.inr ⟨rfl, rfl⟩), ⟨HF1.out.1.loc, HF1.out.1.src⟩, ?_⟩
                refine takeH (o := ?o100) 10 (.bool true) ?h100 ?r100
                case h100 => simp only [aT, aS, aZ]; rfl
                refine ⟨_, by simp [Act.put]; rfl, by kernel_rfl, by kernel_rfl, by kernel_rfl, fun _ _ _ h => h, (.inl ⟨rfl, fun W _ => by kernel_rfl⟩), ⟨HF1.out.1.loc, HF1.out.1.src⟩, ?_⟩
                refine wpAnyH_done (by kernel_rfl) ?_ _
                go_wp2_with (first | go_skip | (with_reducible refine stopStore 51 rfl ?_))
                refine store_known 51 w.heap.size _ #[.int .i64 0, .int .i64 0, .int .i64 0, .int .i64 0, .slice none 0 0, .int .i64 0, .int .i64 0, .int .i64 0, .int .i64 0, .int .i64 0, .int .i64 0, .int .i64 0, .int .i64 0, .slice none 0 0, .slice none 0 0, .slice none 0 0] 51 HF1.out.1.res rfl rfl rfl rfl infoFrO7 rfl (by simp [Value.oneCell']) ?_
                go_wp2
                refine bodyPost_ret (results_row_tmp Try.results28 _ _ w.heap.size _ _ _ _ rfl (Blk.setRow HF1.out.1.res) Try.underlying51 rfl infoFrO7) rfl ?_
                exact ⟨_, Fr.zero, false, [], [], rfl, rdFr_zero _, Own.nil, Own.nil, by simp, below_setRow HF1.out.1.bel (Nat.le_refl _) _, HV.out⟩
              refine takeH (o := ?o101) 2 (.bool false) ?h101 ?r101
              case h101 => simp only [aT, aS, aZ]; rfl
              refine ⟨_, by simp [Act.put]; rfl, by kernel_rfl, by kernel_rfl, by kernel_rfl, fun _ _ _ h => h, (.inl ⟨rfl, fun W _ => by go_simp⟩), ⟨HF1.out.1.loc, HF1.out.1.src⟩, ?_⟩
              refine takeH (o := ?o102) 3 (.bool false) ?h102 ?r102
              case h102 => simp only [aT, aS, aZ]; rfl
              refine ⟨_, by simp [Act.put]; rfl, by kernel_rfl, by kernel_rfl, by kernel_rfl, fun _ _ _ h => h, (.inl ⟨rfl, fun W _ => by kernel_rfl⟩), ⟨HF1.out.1.loc, HF1.out.1.src⟩, ?_⟩
              refine takeH (o := ?o103) 4 (.agg fc) ?h103 ?r103
              case h103 => simp only [aT, aS, aZ]; rfl
              refine ⟨_, by simp [Act.put]; rfl, by kernel_rfl, by kernel_rfl, by kernel_rfl, fun _ _ _ h => h, (yields_whole 51 T fc 51 _ rfl rfl rfl Try.underlying51 rfl (by rw [HFC.out.1]; exact infoFrO7) (fun W hW => hW.1)), ⟨HF1.out.1.loc, HF1.out.1.src⟩, ?_⟩
              refine takeH (o := ?o104) 7 (.slice (some ⟨b, off, none⟩) (k + 4) cap) ?h104 ?r104
              case h104 => simp only [aT, aS, aZ]; rfl
              refine ⟨_, by simp [Act.put]; rfl, by kernel_rfl, by kernel_rfl, by kernel_rfl, fun _ _ _ h => h, (.inl ⟨rfl, fun W _ => by kernel_rfl⟩), ⟨HF1.out.1.loc, HF1.out.1.src⟩, ?_⟩
              refine takeH (o := ?o105) 8 (.string (strOfNums zs)) ?h105 ?r105
              case h105 => simp only [aT, aS, aZ]; rfl
              refine ⟨_, by simp [Act.put]; rfl, by kernel_rfl, by kernel_rfl, by kernel_rfl, fun _ _ _ h => h, (.inl ⟨rfl, fun W hW => exec_conv rfl rfl (conv_any hW.2)⟩), ⟨HF1.out.1.loc, HF1.out.1.src⟩, ?_⟩
              refine onlyH (o := ?o106) 5 (by kernel_rfl) ?h106 ?r106
              case h106 => simp only [aT, aS, aZ]; rfl
              intro K hK
              refine op_call1 23 _ _ Try.f23 (fun u w' => w'.ownsRow Z1.heap.size 5 1 u f.bytes.length (f.bytes.map (Value.int .u8)) ∧ Below Z1.heap.size Z1 w') rfl rfl Try.func23 (by kernel_rfl) (by kernel_rfl) ((frameBytesSpec_any (.agg fc) f FF GG Z1 HF1.out.2.1 HC.out.2.1 (by have := HC.out.2.2; omega)).mono (by rintro e w' ⟨u, rfl, h1, h2⟩; exact ⟨_, rfl, h1, h2⟩)) ?_
              rintro v Z2 ⟨hown, hb2⟩
              obtain ⟨gu, cu, rfl, _⟩ := own_shape7 hown (by have := Fr.bytes_min HDK.out.symm; omega)
              have k1 := conv_any (RdB.of_own hown f.bytes_range) (cap := cu)
              have HF2 : Hid (FoW w T fc (some ⟨b, off, none⟩) (k + 4) zs Z2 ∧ RdFr Z2 (.agg fc) f FF GG ∧ Own (T + 1) Z2 FF ∧ Own (T + 1) Z2 GG) := ⟨HF1.out.1.below hb2, HF1.out.2.1.below hb2, HF1.out.2.2.1.below HF1.out.2.1.lt1 hb2, HF1.out.2.2.2.below HF1.out.2.1.lt2 hb2⟩
              clear hb2 hown HF1
              refine ⟨_, by simp [Act.put]; rfl, hK _ _ ⟨⟨HF2.out.1.loc, HF2.out.1.src⟩, ?_⟩⟩
              clear hK
              refine onlyH (o := ?o107) 6 (by kernel_rfl) ?h107 ?r107
              case h107 => simp only [aT, aS, aZ]; rfl
              intro K hK
              refine op_value (.string (strOfNums f.bytes)) rfl (exec_conv rfl rfl k1) ⟨_, by simp [Act.put]; rfl, hK _ _ ⟨⟨HF2.out.1.loc, HF2.out.1.src⟩, ?_⟩⟩
              clear hK
              clear k1
              refine onlyH (o := ?o108) 9 (by kernel_rfl) ?h108 ?r108
              case h108 => simp only [aT, aS, aZ]; rfl
              intro K hK
              refine op_value (.bool (!decide (f.bytes = zs))) rfl ((exec_neStr rfl rfl rfl).trans (by rw [strOf_dec f.bytes_range HZ.out.2])) ⟨_, by simp [Act.put]; rfl, hK _ _ ⟨⟨HF2.out.1.loc, HF2.out.1.src⟩, ?_⟩⟩
              clear hK
              refine onlyH (o := ?o109) 10 (by kernel_rfl) ?h109 ?r109
              case h109 => simp only [aT, aS, aZ]; rfl
              intro K hK
              refine op_value (.bool (!decide (f.bytes = zs))) rfl (by kernel_rfl) ⟨_, by simp [Act.put]; rfl, hK _ _ ⟨⟨HF2.out.1.loc, HF2.out.1.src⟩, ?_⟩⟩
              clear hK
              refine wpAnyH_done (by kernel_rfl) ?_ _
              obtain ⟨d, hd⟩ : ∃ d, d = !decide (f.bytes = zs) := ⟨_, rfl⟩
              rw [← hd]
              have HD : Hid (d = !decide (f.bytes = zs)) := hd
              clear hd
              cases d
              rotate_left
              · have HV : Hid (FrIs zs Fr.zero false) := HNO.out (fun e => by have := HD.out; rw [decide_eq_true e.2] at this; cases this)
                go_wp2_with (first | go_skip | (with_reducible refine stopStore 51 rfl ?_))
                refine store_known 51 w.heap.size _ #[.int .i64 0, .int .i64 0, .int .i64 0, .int .i64 0, .slice none 0 0, .int .i64 0, .int .i64 0, .int .i64 0, .int .i64 0, .int .i64 0, .int .i64 0, .int .i64 0, .int .i64 0, .slice none 0 0, .slice none 0 0, .slice none 0 0] 51 HF2.out.1.res rfl rfl rfl rfl infoFrO7 rfl (by simp [Value.oneCell']) ?_
                go_wp2
                refine bodyPost_ret (results_row_tmp Try.results28 _ _ w.heap.size _ _ _ _ rfl (Blk.setRow HF2.out.1.res) Try.underlying51 rfl infoFrO7) rfl ?_
                exact ⟨_, Fr.zero, false, [], [], rfl, rdFr_zero _, Own.nil, Own.nil, by simp, below_setRow HF2.out.1.bel (Nat.le_refl _) _, HV.out⟩
              have HV : Hid (FrIs zs f true) := by
                refine frIs_yes HDK.out.symm ?_
                by_cases e : f.bytes = zs
                · exact e.symm
                · have := HD.out
                  rw [decide_eq_false e] at this
                  cases this
              have hds : (Try.prog.info? 51).map (·.size) = some fc.size := by rw [HFC.out.1]; exact infoFrO7
              go_wp2_with (first | go_skip | (with_reducible refine stopLoad 51 rfl ?_))
              refine load_known 51 T fc 51 _ HF2.out.1.loc rfl rfl rfl Try.underlying51 rfl hds ?_
              go_wp2_with (first | go_skip | (with_reducible refine stopStore 51 rfl ?_))
              refine store_known 51 w.heap.size _ fc 51 HF2.out.1.res rfl rfl rfl rfl hds (by rw [HFC.out.1]; rfl) HFC.out.2 ?_
              have oT := HF2.out.1.ord
              have nF : w.heap.size ∉ FF := fun hx => by have := HF2.out.2.2.1.ge _ hx; omega
              have nG : w.heap.size ∉ GG := fun hx => by have := HF2.out.2.2.2.ge _ hx; omega
              have HL : Hid (RdFr (Z2.setRow w.heap.size fc) (.agg fc) f FF GG ∧ Own w.heap.size (Z2.setRow w.heap.size fc) FF ∧ Own w.heap.size (Z2.setRow w.heap.size fc) GG ∧ (∀ b ∈ FF, b ∉ GG) ∧ Below w.heap.size w (Z2.setRow w.heap.size fc) ∧ Blk (Z2.setRow w.heap.size fc) w.heap.size fc 51) := ⟨HF2.out.2.1.agree (Agree.row nF _) (Agree.row nG _), (HF2.out.2.2.1.agree (Agree.row nF _)).mono (by omega), (HF2.out.2.2.2.agree (Agree.row nG _)).mono (by omega), HC.out.1, below_setRow HF2.out.1.bel (Nat.le_refl _) _, HF2.out.1.res.setRow⟩
              clear HF2 nF nG
              go_wp2
              refine bodyPost_ret (results_row_tmp Try.results28 _ _ w.heap.size _ _ _ _ rfl HL.out.2.2.2.2.2 Try.underlying51 rfl hds) rfl ?_
              exact ⟨_, f, true, FF, GG, rfl, HL.out.1, HL.out.2.1, HL.out.2.2.1, HL.out.2.2.2.1, HL.out.2.2.2.2.1, HV.out⟩
          · have hkd : (x0 == 1) = false := by simpa using hk1
            have hke : decide (x0 = 1) = false := by simpa using hk1
            have HE : Hid (FoW w T #[.int .i64 x0, .int .i64 x1, .int .i64 x2, .int .i64 x3, .slice bb j cc, .int .i64 0, .int .i64 0, .int .i64 0, .int .i64 0, .int .i64 0, .int .i64 0, .int .i64 0, .int .i64 0, .slice none 0 0, .slice none 0 0, .slice none 0 0] (some ⟨b, off, none⟩) (k + 4) zs wr ∧ RdFr wr (.agg #[.int .i64 x0, .int .i64 x1, .int .i64 x2, .int .i64 x3, .slice bb j cc, .int .i64 0, .int .i64 0, .int .i64 0, .int .i64 0, .int .i64 0, .int .i64 0, .int .i64 0, .int .i64 0, .slice none 0 0, .slice none 0 0, .slice none 0 0]) ⟨x0, x1, x2, x3, pairsTo m j, It.zero⟩ FF [] ∧ Own (T + 1) wr FF ∧ Own (T + 1) wr [] ∧ (∀ b ∈ FF, b ∉ ([] : List Nat)) ∧ It.zero.sk.wide ∧ (pairsTo m j).length ≤ 100) := by
              have tt := HTT.out
              exact ⟨HP.out.1, ⟨bb, j, cc, none, 0, 0, none, 0, 0, none, 0, 0, rfl, HP.out.2.1, rdIt_zero wr, HP.out.2.2.2.1⟩, HP.out.2.2.1.mono (by omega), Own.nil, by simp, It.zero_wide, by rw [pairsTo_len]; omega⟩
            have HNO : Hid (¬ (({ kind := x0, agent := x1, epoch := x2, granted := x3, taken := pairsTo m j, item := It.zero } : Fr).ok = true ∧ ({ kind := x0, agent := x1, epoch := x2, granted := x3, taken := pairsTo m j, item := It.zero } : Fr).bytes = zs) → FrIs zs Fr.zero false) := fun hno => by
              rw [HB.out] at hno ⊢
              refine of_done0 HG.out HN.out HG2.out (by rw [← HX.out.1]; exact hk1) ?_ hno
              rw [← HX.out.1, ← HX.out.2.1, ← HX.out.2.2.1, ← HX.out.2.2.2]
            go_wp2_with fail
            obtain ⟨f, hf⟩ : ∃ f : Fr, f = ⟨x0, x1, x2, x3, pairsTo m j, It.zero⟩ := ⟨_, rfl⟩
            obtain ⟨fc, hfc⟩ : ∃ fc : Array Value, fc = #[.int .i64 x0, .int .i64 x1, .int .i64 x2, .int .i64 x3, .slice bb j cc, .int .i64 0, .int .i64 0, .int .i64 0, .int .i64 0, .int .i64 0, .int .i64 0, .int .i64 0, .int .i64 0, .slice none 0 0, .slice none 0 0, .slice none 0 0] := ⟨_, rfl⟩
            obtain ⟨W9, hW9⟩ : ∃ W, W = wr := ⟨_, rfl⟩
            have HFC : Hid (fc.size = 16 ∧ fc.all (·.oneCell') = true) := by rw [hfc]; exact ⟨rfl, by simp [Value.oneCell']⟩
            rw [show It.zero.sk.wide = f.item.sk.wide from by rw [hf], show (pairsTo m j).length = f.taken.length from by rw [hf], ← hW9, ← hfc, ← hf] at HE
            rw [← hf] at HNO
            rw [← hW9]
            clear hW9 hfc hf HP ck
            obtain ⟨GG, hGG⟩ : ∃ G : List Nat, G = [] := ⟨_, rfl⟩
            rw [← hGG] at HE
            clear hGG
            have HOK : Hid (∃ d, d = f.ok) := ⟨_, rfl⟩
            obtain ⟨d, hd⟩ := HOK.out
            clear HOK
            have HDK : Hid (d = f.ok) := hd
            clear hd
            go_wp2_with fail
            have HF : Hid (FoW w T fc (some ⟨b, off, none⟩) (k + 4) zs W9.drew ∧ RdFr W9.drew (.agg fc) f FF GG ∧ Own (T + 1) W9.drew FF ∧ Own (T + 1) W9.drew GG) := ⟨HE.out.1.below (Below.refl _ _).drew, HE.out.2.1.below (Below.refl _ _).drew, HE.out.2.2.1.below HE.out.2.1.lt1 (Below.refl _ _).drew, HE.out.2.2.2.1.below HE.out.2.1.lt2 (Below.refl _ _).drew⟩
            have HC : Hid ((∀ b ∈ FF, b ∉ GG) ∧ f.item.sk.wide ∧ f.taken.length ≤ 100) := HE.out.2.2.2.2
            clear HE
            obtain ⟨Z0, hZ0⟩ : ∃ Z, Z = W9.drew := ⟨_, rfl⟩
            rw [← hZ0] at HF
            refine wp_region_held (S := fun W => Blk W T fc 51 ∧ RdB W (some ⟨b, off, none⟩) (k + 4) zs) (by kernel_rfl) ?_
            change wpAnyH _ _ _ _ _ _ _ _ (World.drew _)
            rw [← hZ0]
            clear hZ0
            refine takeH (o := ?o110) 0 (.agg fc) ?h110 ?r110
            case h110 => simp only [aT, aZ]; rfl
            refine ⟨_, by simp [Act.put]; rfl, by kernel_rfl, by kernel_rfl, by kernel_rfl, fun _ _ _ h => h, (yields_whole 51 T fc 51 _ rfl rfl rfl Try.underlying51 rfl (by rw [HFC.out.1]; exact infoFrO7) (fun W hW => hW.1)), ⟨HF.out.1.loc, HF.out.1.src⟩, ?_⟩
            refine onlyH (o := ?o111) 1 (by kernel_rfl) ?h111 ?r111
            case h111 => simp only [aT, aS, aZ]; rfl
            intro K hK
            refine op_call1 59 _ _ Try.f59 (fun v w' => v = .bool d ∧ Below Z0.heap.size Z0 w') rfl rfl Try.func59 (by kernel_rfl) (by kernel_rfl) ((frameOkSpec_any (.agg fc) f FF GG Z0 HF.out.2.1 HC.out.2.1 (by have := HC.out.2.2; omega)).mono (by rintro e w' ⟨rfl, h1⟩; exact ⟨_, rfl, by rw [HDK.out], h1⟩)) ?_
            rintro v Z1 ⟨rfl, hb1⟩
            have HF1 : Hid (FoW w T fc (some ⟨b, off, none⟩) (k + 4) zs Z1 ∧ RdFr Z1 (.agg fc) f FF GG ∧ Own (T + 1) Z1 FF ∧ Own (T + 1) Z1 GG) := ⟨HF.out.1.below hb1, HF.out.2.1.below hb1, HF.out.2.2.1.below HF.out.2.1.lt1 hb1, HF.out.2.2.2.below HF.out.2.1.lt2 hb1⟩
            clear hb1 HF
            refine ⟨_, by simp [Act.put]; rfl, hK _ _ ⟨⟨HF1.out.1.loc, HF1.out.1.src⟩, ?_⟩⟩
            clear hK
            cases d
            · have HV : Hid (FrIs zs Fr.zero false) := HNO.out (fun e => by have := HDK.out; rw [e.1] at this; cases this)
              refine takeH (o := ?o112) 2 (.bool true) ?h112 ?r112
              case h112 => simp only [aT, aS, aZ]; rfl
              refine ⟨_, by simp [Act.put]; rfl, by kernel_rfl, by kernel_rfl, by kernel_rfl, fun _ _ _ h => h, (.inl ⟨rfl, fun W _ => by go_simp⟩), ⟨HF1.out.1.loc, HF1.out.1.src⟩, ?_⟩
              refine takeH (o := ?o113) 3 (.bool true) ?h113 ?r113
              case h113 => simp only [aT, aS, aZ]; rfl
              refine ⟨_, by simp [Act.put]; rfl, by kernel_rfl, by kernel_rfl, by kernel_rfl, fun _ _ _ h => h, (.inl ⟨rfl, fun W _ => by kernel_rfl⟩), ⟨HF1.out.1.loc, HF1.out.1.src⟩, ?_⟩
              refine takeH (o := ?o114) 4 (undef) ?h114 ?r114
              case h114 => simp only [aT, aS, aZ]; rfl
              refine ⟨_, by simp [Act.put]; rfl, by kernel_rfl, by kernel_rfl, by kernel_rfl, fun _ _ _ h => h, (.inr ⟨rfl, rfl⟩), ⟨HF1.out.1.loc, HF1.out.1.src⟩, ?_⟩
              refine takeH (o := ?o115) 5 (undef) ?h115 ?r115
              case h115 => simp only [aT, aS, aZ]; rfl
              refine ⟨_, by simp [Act.put]; rfl, by kernel_rfl, by kernel_rfl, by kernel_rfl, fun _ _ _ h => h, (.inr ⟨rfl, rfl⟩), ⟨HF1.out.1.loc, HF1.out.1.src⟩, ?_⟩
              refine takeH (o := ?o116) 6 (undef) ?h116 ?r116
              case h116 => simp only [aT, aS, aZ]; rfl
              refine ⟨_, by simp [Act.put]; rfl, by kernel_rfl, by kernel_rfl, by kernel_rfl, fun _ _ _ h => h, (.inr ⟨rfl, rfl⟩), ⟨HF1.out.1.loc, HF1.out.1.src⟩, ?_⟩
              refine takeH (o := ?o117) 7 (undef) ?h117 ?r117
              case h117 => simp only [aT, aS, aZ]; rfl
              refine ⟨_, by simp [Act.put]; rfl, by kernel_rfl, by kernel_rfl, by kernel_rfl, fun _ _ _ h => h, (.inr ⟨rfl, rfl⟩), ⟨HF1.out.1.loc, HF1.out.1.src⟩, ?_⟩
              refine takeH (o := ?o118) 8 (undef) ?h118 ?r118
              case h118 => simp only [aT, aS, aZ]; rfl
              refine ⟨_, by simp [Act.put]; rfl, by kernel_rfl, by kernel_rfl, by kernel_rfl, fun _ _ _ h => h, (.inr ⟨rfl, rfl⟩), ⟨HF1.out.1.loc, HF1.out.1.src⟩, ?_⟩
              refine takeH (o := ?o119) 9 (undef) ?h119 ?r119
              case h119 => simp only [aT, aS, aZ]; rfl
              refine ⟨_, by simp [Act.put]; rfl, by kernel_rfl, by kernel_rfl, by kernel_rfl, fun _ _ _ h => h, (.inr ⟨rfl, rfl⟩), ⟨HF1.out.1.loc, HF1.out.1.src⟩, ?_⟩
              refine takeH (o := ?o120) 10 (.bool true) ?h120 ?r120
              case h120 => simp only [aT, aS, aZ]; rfl
              refine ⟨_, by simp [Act.put]; rfl, by kernel_rfl, by kernel_rfl, by kernel_rfl, fun _ _ _ h => h, (.inl ⟨rfl, fun W _ => by kernel_rfl⟩), ⟨HF1.out.1.loc, HF1.out.1.src⟩, ?_⟩
              refine wpAnyH_done (by kernel_rfl) ?_ _
              go_wp2_with (first | go_skip | (with_reducible refine stopStore 51 rfl ?_))
              refine store_known 51 w.heap.size _ #[.int .i64 0, .int .i64 0, .int .i64 0, .int .i64 0, .slice none 0 0, .int .i64 0, .int .i64 0, .int .i64 0, .int .i64 0, .int .i64 0, .int .i64 0, .int .i64 0, .int .i64 0, .slice none 0 0, .slice none 0 0, .slice none 0 0] 51 HF1.out.1.res rfl rfl rfl rfl infoFrO7 rfl (by simp [Value.oneCell']) ?_
              go_wp2
              refine bodyPost_ret (results_row_tmp Try.results28 _ _ w.heap.size _ _ _ _ rfl (Blk.setRow HF1.out.1.res) Try.underlying51 rfl infoFrO7) rfl ?_
              exact ⟨_, Fr.zero, false, [], [], rfl, rdFr_zero _, Own.nil, Own.nil, by simp, below_setRow HF1.out.1.bel (Nat.le_refl _) _, HV.out⟩
            refine takeH (o := ?o121) 2 (.bool false) ?h121 ?r121
            case h121 => simp only [aT, aS, aZ]; rfl
            refine ⟨_, by simp [Act.put]; rfl, by kernel_rfl, by kernel_rfl, by kernel_rfl, fun _ _ _ h => h, (.inl ⟨rfl, fun W _ => by go_simp⟩), ⟨HF1.out.1.loc, HF1.out.1.src⟩, ?_⟩
            refine takeH (o := ?o122) 3 (.bool false) ?h122 ?r122
            case h122 => simp only [aT, aS, aZ]; rfl
            refine ⟨_, by simp [Act.put]; rfl, by kernel_rfl, by kernel_rfl, by kernel_rfl, fun _ _ _ h => h, (.inl ⟨rfl, fun W _ => by kernel_rfl⟩), ⟨HF1.out.1.loc, HF1.out.1.src⟩, ?_⟩
            refine takeH (o := ?o123) 4 (.agg fc) ?h123 ?r123
            case h123 => simp only [aT, aS, aZ]; rfl
            refine ⟨_, by simp [Act.put]; rfl, by kernel_rfl, by kernel_rfl, by kernel_rfl, fun _ _ _ h => h, (yields_whole 51 T fc 51 _ rfl rfl rfl Try.underlying51 rfl (by rw [HFC.out.1]; exact infoFrO7) (fun W hW => hW.1)), ⟨HF1.out.1.loc, HF1.out.1.src⟩, ?_⟩
            refine takeH (o := ?o124) 7 (.slice (some ⟨b, off, none⟩) (k + 4) cap) ?h124 ?r124
            case h124 => simp only [aT, aS, aZ]; rfl
            refine ⟨_, by simp [Act.put]; rfl, by kernel_rfl, by kernel_rfl, by kernel_rfl, fun _ _ _ h => h, (.inl ⟨rfl, fun W _ => by kernel_rfl⟩), ⟨HF1.out.1.loc, HF1.out.1.src⟩, ?_⟩
            refine takeH (o := ?o125) 8 (.string (strOfNums zs)) ?h125 ?r125
            case h125 => simp only [aT, aS, aZ]; rfl
            refine ⟨_, by simp [Act.put]; rfl, by kernel_rfl, by kernel_rfl, by kernel_rfl, fun _ _ _ h => h, (.inl ⟨rfl, fun W hW => exec_conv rfl rfl (conv_any hW.2)⟩), ⟨HF1.out.1.loc, HF1.out.1.src⟩, ?_⟩
            refine onlyH (o := ?o126) 5 (by kernel_rfl) ?h126 ?r126
            case h126 => simp only [aT, aS, aZ]; rfl
            intro K hK
            refine op_call1 23 _ _ Try.f23 (fun u w' => w'.ownsRow Z1.heap.size 5 1 u f.bytes.length (f.bytes.map (Value.int .u8)) ∧ Below Z1.heap.size Z1 w') rfl rfl Try.func23 (by kernel_rfl) (by kernel_rfl) ((frameBytesSpec_any (.agg fc) f FF GG Z1 HF1.out.2.1 HC.out.2.1 (by have := HC.out.2.2; omega)).mono (by rintro e w' ⟨u, rfl, h1, h2⟩; exact ⟨_, rfl, h1, h2⟩)) ?_
            rintro v Z2 ⟨hown, hb2⟩
            obtain ⟨gu, cu, rfl, _⟩ := own_shape7 hown (by have := Fr.bytes_min HDK.out.symm; omega)
            have k1 := conv_any (RdB.of_own hown f.bytes_range) (cap := cu)
            have HF2 : Hid (FoW w T fc (some ⟨b, off, none⟩) (k + 4) zs Z2 ∧ RdFr Z2 (.agg fc) f FF GG ∧ Own (T + 1) Z2 FF ∧ Own (T + 1) Z2 GG) := ⟨HF1.out.1.below hb2, HF1.out.2.1.below hb2, HF1.out.2.2.1.below HF1.out.2.1.lt1 hb2, HF1.out.2.2.2.below HF1.out.2.1.lt2 hb2⟩
            clear hb2 hown HF1
            refine ⟨_, by simp [Act.put]; rfl, hK _ _ ⟨⟨HF2.out.1.loc, HF2.out.1.src⟩, ?_⟩⟩
            clear hK
            refine onlyH (o := ?o127) 6 (by kernel_rfl) ?h127 ?r127
            case h127 => simp only [aT, aS, aZ]; rfl
            intro K hK
            refine op_value (.string (strOfNums f.bytes)) rfl (exec_conv rfl rfl k1) ⟨_, by simp [Act.put]; rfl, hK _ _ ⟨⟨HF2.out.1.loc, HF2.out.1.src⟩, ?_⟩⟩
            clear hK
            clear k1
            refine onlyH (o := ?o128) 9 (by kernel_rfl) ?h128 ?r128
            case h128 => simp only [aT, aS, aZ]; rfl
            intro K hK
            refine op_value (.bool (!decide (f.bytes = zs))) rfl ((exec_neStr rfl rfl rfl).trans (by rw [strOf_dec f.bytes_range HZ.out.2])) ⟨_, by simp [Act.put]; rfl, hK _ _ ⟨⟨HF2.out.1.loc, HF2.out.1.src⟩, ?_⟩⟩
            clear hK
            refine onlyH (o := ?o129) 10 (by kernel_rfl) ?h129 ?r129
            case h129 => simp only [aT, aS, aZ]; rfl
            intro K hK
            refine op_value (.bool (!decide (f.bytes = zs))) rfl (by kernel_rfl) ⟨_, by simp [Act.put]; rfl, hK _ _ ⟨⟨HF2.out.1.loc, HF2.out.1.src⟩, ?_⟩⟩
            clear hK
            refine wpAnyH_done (by kernel_rfl) ?_ _
            obtain ⟨d, hd⟩ : ∃ d, d = !decide (f.bytes = zs) := ⟨_, rfl⟩
            rw [← hd]
            have HD : Hid (d = !decide (f.bytes = zs)) := hd
            clear hd
            cases d
            rotate_left
            · have HV : Hid (FrIs zs Fr.zero false) := HNO.out (fun e => by have := HD.out; rw [decide_eq_true e.2] at this; cases this)
              go_wp2_with (first | go_skip | (with_reducible refine stopStore 51 rfl ?_))
              refine store_known 51 w.heap.size _ #[.int .i64 0, .int .i64 0, .int .i64 0, .int .i64 0, .slice none 0 0, .int .i64 0, .int .i64 0, .int .i64 0, .int .i64 0, .int .i64 0, .int .i64 0, .int .i64 0, .int .i64 0, .slice none 0 0, .slice none 0 0, .slice none 0 0] 51 HF2.out.1.res rfl rfl rfl rfl infoFrO7 rfl (by simp [Value.oneCell']) ?_
              go_wp2
              refine bodyPost_ret (results_row_tmp Try.results28 _ _ w.heap.size _ _ _ _ rfl (Blk.setRow HF2.out.1.res) Try.underlying51 rfl infoFrO7) rfl ?_
              exact ⟨_, Fr.zero, false, [], [], rfl, rdFr_zero _, Own.nil, Own.nil, by simp, below_setRow HF2.out.1.bel (Nat.le_refl _) _, HV.out⟩
            have HV : Hid (FrIs zs f true) := by
              refine frIs_yes HDK.out.symm ?_
              by_cases e : f.bytes = zs
              · exact e.symm
              · have := HD.out
                rw [decide_eq_false e] at this
                cases this
            have hds : (Try.prog.info? 51).map (·.size) = some fc.size := by rw [HFC.out.1]; exact infoFrO7
            go_wp2_with (first | go_skip | (with_reducible refine stopLoad 51 rfl ?_))
            refine load_known 51 T fc 51 _ HF2.out.1.loc rfl rfl rfl Try.underlying51 rfl hds ?_
            go_wp2_with (first | go_skip | (with_reducible refine stopStore 51 rfl ?_))
            refine store_known 51 w.heap.size _ fc 51 HF2.out.1.res rfl rfl rfl rfl hds (by rw [HFC.out.1]; rfl) HFC.out.2 ?_
            have oT := HF2.out.1.ord
            have nF : w.heap.size ∉ FF := fun hx => by have := HF2.out.2.2.1.ge _ hx; omega
            have nG : w.heap.size ∉ GG := fun hx => by have := HF2.out.2.2.2.ge _ hx; omega
            have HL : Hid (RdFr (Z2.setRow w.heap.size fc) (.agg fc) f FF GG ∧ Own w.heap.size (Z2.setRow w.heap.size fc) FF ∧ Own w.heap.size (Z2.setRow w.heap.size fc) GG ∧ (∀ b ∈ FF, b ∉ GG) ∧ Below w.heap.size w (Z2.setRow w.heap.size fc) ∧ Blk (Z2.setRow w.heap.size fc) w.heap.size fc 51) := ⟨HF2.out.2.1.agree (Agree.row nF _) (Agree.row nG _), (HF2.out.2.2.1.agree (Agree.row nF _)).mono (by omega), (HF2.out.2.2.2.agree (Agree.row nG _)).mono (by omega), HC.out.1, below_setRow HF2.out.1.bel (Nat.le_refl _) _, HF2.out.1.res.setRow⟩
            clear HF2 nF nG
            go_wp2
            refine bodyPost_ret (results_row_tmp Try.results28 _ _ w.heap.size _ _ _ _ rfl HL.out.2.2.2.2.2 Try.underlying51 rfl hds) rfl ?_
            exact ⟨_, f, true, FF, GG, rfl, HL.out.1, HL.out.2.1, HL.out.2.2.1, HL.out.2.2.2.1, HL.out.2.2.2.2.1, HV.out⟩
end Go.Proofs.Ytjndcfamfminkaq
/- The walk through the program's FrameOf. No statement of the seat is proved here. -/
namespace Go.Proofs.Ytjndcfamfminkaq
open Go.RowKit
theorem frIs_noBody {zs body : List Int} (h : BodyIs zs body false) : FrIs zs Fr.zero false := frIs_ne (fun g hg e => by
  unfold BodyIs at h
  rw [if_neg (by simp)] at h
  exact h g.body (e.trans (Fr.bytes_ok hg)))
theorem take2_eq {body : List Int} (h : body.take 2 = [87, 82]) : body = [87, 82] ++ body.drop 2 := by
  conv => lhs; rw [← List.take_append_drop 2 body, h]
theorem take2_ne {body : List Int} (h : ¬ body.take 2 = [87, 82]) : ∀ r, body ≠ [87, 82] ++ r := fun r e => h (by rw [e]; rfl)
set_option maxRecDepth 200000 in
set_option maxHeartbeats 4000000 in
theorem frameOfImpl_any (a : Option Addr) (len cap : Nat) (zs : List Int) (w : World) (h : RdB w a len zs) (hlen : len ≤ 1048576) (hcap : len ≤ cap) (ha : a = none → cap = 0) :
    Calls Try.prog 29 #[.slice a len cap] w fun e w' => NewFrR w (FrIs zs) e w' := by
  have HR : Hid (RdB w a len zs ∧ len ≤ cap ∧ (a = none → cap = 0)) := ⟨h, hcap, ha⟩
  have HT : Hid (Blk (w.alloc (.cells #[.int .i64 0, .int .i64 0, .int .i64 0, .int .i64 0, .slice none 0 0, .int .i64 0, .int .i64 0, .int .i64 0, .int .i64 0, .int .i64 0, .int .i64 0, .int .i64 0, .int .i64 0, .slice none 0 0, .slice none 0 0, .slice none 0 0] 51)) w.heap.size #[.int .i64 0, .int .i64 0, .int .i64 0, .int .i64 0, .slice none 0 0, .int .i64 0, .int .i64 0, .int .i64 0, .int .i64 0, .int .i64 0, .int .i64 0, .int .i64 0, .int .i64 0, .slice none 0 0, .slice none 0 0, .slice none 0 0] 51 ∧ Below w.heap.size w (w.alloc (.cells #[.int .i64 0, .int .i64 0, .int .i64 0, .int .i64 0, .slice none 0 0, .int .i64 0, .int .i64 0, .int .i64 0, .int .i64 0, .int .i64 0, .int .i64 0, .int .i64 0, .int .i64 0, .slice none 0 0, .slice none 0 0, .slice none 0 0] 51))) := ⟨Blk.made _ _ _, (Below.refl _ _).alloc (Nat.le_refl _) _⟩
  clear h hcap ha
  go_enter Try.func29, Try.ntmps29
  go_wp2_with fail
  refine (wholeBody_any a len cap zs _ (HR.out.1.below HT.out.2) hlen HR.out.2.1 HR.out.2.2).mono ?_
  rintro e w1 ⟨⟨a1, l1, c1, body, d, rfl, rb, hl1, hc1, ha1, hB⟩, bw1⟩
  have HT1 : Hid (Blk w1 w.heap.size #[.int .i64 0, .int .i64 0, .int .i64 0, .int .i64 0, .slice none 0 0, .int .i64 0, .int .i64 0, .int .i64 0, .int .i64 0, .int .i64 0, .int .i64 0, .int .i64 0, .int .i64 0, .slice none 0 0, .slice none 0 0, .slice none 0 0] 51 ∧ Below w.heap.size w w1 ∧ RdB w1 a1 l1 body ∧ BodyIs zs body d ∧ (a1 = none → c1 = 0)) := ⟨HT.out.1.below bw1, Below.next HT.out.2 bw1, rb, hB, ha1⟩
  clear bw1 rb hB ha1 HT
  have kc : (convert 27 27 (.slice (some ⟨w1.heap.size, 0, none⟩) 2 2)).run Try.prog (w1.alloc (.cells #[.int .u8 87, .int .u8 82] 5)) = .ok (.slice (some ⟨w1.heap.size, 0, none⟩) 2 2) (w1.alloc (.cells #[.int .u8 87, .int .u8 82] 5 (2, 3))) := Lib.run_convert_bytes_const (P := Try.prog) w1 27 5 #[.int .u8 87, .int .u8 82] 2 2 Try.underlying27 Try.underlying5
  have bW : Below w1.heap.size w1 (w1.alloc (.cells #[.int .u8 87, .int .u8 82] 5 (2, 3))) := (Below.refl _ _).alloc (Nat.le_refl _) _
  have HT2 : Hid (Blk (w1.alloc (.cells #[.int .u8 87, .int .u8 82] 5 (2, 3))) w.heap.size #[.int .i64 0, .int .i64 0, .int .i64 0, .int .i64 0, .slice none 0 0, .int .i64 0, .int .i64 0, .int .i64 0, .int .i64 0, .int .i64 0, .int .i64 0, .int .i64 0, .int .i64 0, .slice none 0 0, .slice none 0 0, .slice none 0 0] 51 ∧ Below w.heap.size w (w1.alloc (.cells #[.int .u8 87, .int .u8 82] 5 (2, 3))) ∧ RdB (w1.alloc (.cells #[.int .u8 87, .int .u8 82] 5 (2, 3))) a1 l1 body ∧ RdB (w1.alloc (.cells #[.int .u8 87, .int .u8 82] 5 (2, 3))) (some ⟨w1.heap.size, 0, none⟩) 2 [87, 82]) := by
    refine ⟨HT1.out.1.below bW, Below.next HT1.out.2.1 bW, HT1.out.2.2.1.below bW, rfl, (by intro n hn; simp at hn; omega), .inr ⟨w1.heap.size, 0, rfl, fun i hi => ?_⟩⟩
    have hk : (w1.alloc (.cells #[.int .u8 87, .int .u8 82] 5 (2, 3))).heap[w1.heap.size]? = some (.cells #[.int .u8 87, .int .u8 82] 5 (2, 3)) := heap_alloc_new _ _
    match i, hi with
    | 0, _ => simp only [World.cell?, hk]; rfl
    | 1, _ => simp only [World.cell?, hk]; rfl
  clear bW
  go_wp2_with fail
  obtain ⟨W2, hW2⟩ : ∃ W, W = w1.alloc (.cells #[.int .u8 87, .int .u8 82] 5 (2, 3)) := ⟨_, rfl⟩
  rw [← hW2] at HT2 ⊢
  clear kc hW2
  refine (cutPrefix_any a1 (some ⟨w1.heap.size, 0, none⟩) l1 c1 2 body [87, 82] _ HT2.out.2.2.1 HT2.out.2.2.2 hc1).mono ?_
  rintro e w3 ⟨⟨a2, l2, c2, rfl, hcut⟩, hw3⟩
  have hw3' := hw3.symm
  subst hw3'
  clear hw3
  obtain ⟨d2, hd2⟩ : ∃ d, d = decide (body.take 2 = [87, 82]) := ⟨_, rfl⟩
  rw [← hd2] at hcut ⊢
  have HCUT : Hid (d2 = true → RdB W2 a2 l2 (body.drop 2) ∧ l2 ≤ l1 ∧ l2 ≤ c2 ∧ (a2 = none → c2 = 0)) := hcut
  have HD2 : Hid (d2 = decide (body.take 2 = [87, 82])) := hd2
  clear hcut hd2
  cases d
  · have HV : Hid (FrIs zs Fr.zero false) := frIs_noBody HT1.out.2.2.2.1
    go_wp2_with (first | go_skip | (with_reducible refine stopStore 51 rfl ?_))
    refine store_known 51 w.heap.size _ #[.int .i64 0, .int .i64 0, .int .i64 0, .int .i64 0, .slice none 0 0, .int .i64 0, .int .i64 0, .int .i64 0, .int .i64 0, .int .i64 0, .int .i64 0, .int .i64 0, .int .i64 0, .slice none 0 0, .slice none 0 0, .slice none 0 0] 51 HT2.out.1 rfl rfl rfl rfl infoFrF7 rfl (by simp [Value.oneCell']) ?_
    go_wp2
    refine bodyPost_ret (results_row_tmp Try.results29 _ _ w.heap.size _ _ _ _ rfl HT2.out.1.setRow Try.underlying51 rfl infoFrF7) rfl ?_
    exact ⟨_, Fr.zero, false, [], [], rfl, rdFr_zero _, Own.nil, Own.nil, by simp, below_setRow HT2.out.2.1 (Nat.le_refl _) _, HV.out⟩
  have HBd : Hid (zs = body ++ sumOf body) := by
    have q := HT1.out.2.2.2.1
    unfold BodyIs at q
    rw [if_pos rfl] at q
    exact q
  cases d2
  · have HV : Hid (FrIs zs Fr.zero false) := by
      show FrIs _ _ _
      rw [HBd.out]
      exact frIs_noSign (take2_ne (of_decide_eq_false HD2.out.symm))
    go_wp2_with (first | go_skip | (with_reducible refine stopStore 51 rfl ?_))
    refine store_known 51 w.heap.size _ #[.int .i64 0, .int .i64 0, .int .i64 0, .int .i64 0, .slice none 0 0, .int .i64 0, .int .i64 0, .int .i64 0, .int .i64 0, .int .i64 0, .int .i64 0, .int .i64 0, .int .i64 0, .slice none 0 0, .slice none 0 0, .slice none 0 0] 51 HT2.out.1 rfl rfl rfl rfl infoFrF7 rfl (by simp [Value.oneCell']) ?_
    go_wp2
    refine bodyPost_ret (results_row_tmp Try.results29 _ _ w.heap.size _ _ _ _ rfl HT2.out.1.setRow Try.underlying51 rfl infoFrF7) rfl ?_
    exact ⟨_, Fr.zero, false, [], [], rfl, rdFr_zero _, Own.nil, Own.nil, by simp, below_setRow HT2.out.2.1 (Nat.le_refl _) _, HV.out⟩
  have HSg : Hid (body = [87, 82] ++ body.drop 2) := take2_eq (of_decide_eq_true HD2.out.symm)
  have HCT : Hid (RdB W2 a2 l2 (body.drop 2) ∧ l2 ≤ l1 ∧ l2 ≤ c2 ∧ (a2 = none → c2 = 0)) := HCUT.out rfl
  have hl2 : l2 ≤ 1048576 := by have := HCT.out.2.1; omega
  clear HCUT
  go_wp2_with fail
  refine (numbersOfBytes_any a2 l2 c2 (body.drop 2) _ HCT.out.1 hl2 HCT.out.2.2.1 HCT.out.2.2.2).mono ?_
  rintro e w4 ⟨⟨v, l, d3, rfl, hown, hAll⟩, hb4⟩
  obtain ⟨a4, c4, X4, rfl, hr4, hc4⟩ := rdI_own_cap hown
  have hll : l.length ≤ 1048576 := by have := (allIs_len hAll).1; have := HCT.out.1.length; omega
  have HT4 : Hid (Blk w4 w.heap.size #[.int .i64 0, .int .i64 0, .int .i64 0, .int .i64 0, .slice none 0 0, .int .i64 0, .int .i64 0, .int .i64 0, .int .i64 0, .int .i64 0, .int .i64 0, .int .i64 0, .int .i64 0, .slice none 0 0, .slice none 0 0, .slice none 0 0] 51 ∧ Below w.heap.size w w4 ∧ RdI w4 a4 l.length l X4 ∧ l.length ≤ c4 ∧ AllIs (body.drop 2) l d3) := ⟨HT2.out.1.below hb4, Below.next HT2.out.2.1 hb4, hr4, hc4, hAll⟩
  clear hown hAll hb4 hr4 hc4 HT2 HT1 HCT
  cases d3
  · have HV : Hid (FrIs zs Fr.zero false) := by
      show FrIs _ _ _
      rw [HBd.out]
      refine frIs_noNums HSg.out ?_
      have q := HT4.out.2.2.2.2
      unfold AllIs at q
      rw [if_neg (by simp)] at q
      exact q.2
    go_wp2_with (first | go_skip | (with_reducible refine stopStore 51 rfl ?_))
    refine store_known 51 w.heap.size _ #[.int .i64 0, .int .i64 0, .int .i64 0, .int .i64 0, .slice none 0 0, .int .i64 0, .int .i64 0, .int .i64 0, .int .i64 0, .int .i64 0, .int .i64 0, .int .i64 0, .int .i64 0, .slice none 0 0, .slice none 0 0, .slice none 0 0] 51 HT4.out.1 rfl rfl rfl rfl infoFrF7 rfl (by simp [Value.oneCell']) ?_
    go_wp2
    refine bodyPost_ret (results_row_tmp Try.results29 _ _ w.heap.size _ _ _ _ rfl HT4.out.1.setRow Try.underlying51 rfl infoFrF7) rfl ?_
    exact ⟨_, Fr.zero, false, [], [], rfl, rdFr_zero _, Own.nil, Own.nil, by simp, below_setRow HT4.out.2.1 (Nat.le_refl _) _, HV.out⟩
  have HAl : Hid (body.drop 2 = putAll l ∧ ∀ x ∈ l, InN x) := by
    have q := HT4.out.2.2.2.2
    unfold AllIs at q
    rw [if_pos rfl] at q
    exact q
  obtain ⟨n4, hn4⟩ : ∃ n, n = l.length := ⟨_, rfl⟩
  rw [← hn4] at HT4 hll ⊢
  clear hn4
  go_wp2_with fail
  refine (frameOfNumbers_any a4 n4 c4 l X4 _ HT4.out.2.2.1 hll HT4.out.2.2.2.1 HAl.out.2).mono ?_
  rintro e w5 ⟨v5, f, d4, F, G, rfl, rf, oF, oG, ap, b5, hN⟩
  obtain ⟨ds, rfl, hd16, hdone⟩ := (show RdF w5 v5 f (F ++ G) from ⟨F, G, rfl, rf⟩).cells
  have HW5 : Hid (RdFr w5 (.agg ds) f F G ∧ Own w4.heap.size w5 F ∧ Own w4.heap.size w5 G ∧ (∀ b ∈ F, b ∉ G) ∧ Below w.heap.size w w5 ∧ Blk w5 w.heap.size #[.int .i64 0, .int .i64 0, .int .i64 0, .int .i64 0, .slice none 0 0, .int .i64 0, .int .i64 0, .int .i64 0, .int .i64 0, .int .i64 0, .int .i64 0, .int .i64 0, .int .i64 0, .slice none 0 0, .slice none 0 0, .slice none 0 0] 51 ∧ ds.size = 16 ∧ ds.all (·.oneCell') = true) := ⟨rf, oF, oG, ap, Below.next HT4.out.2.1 b5, HT4.out.1.below b5, hd16, hdone⟩
  have HV : Hid (FrIs zs f d4) := by
    show FrIs _ _ _
    rw [HBd.out]
    exact frIs_of HAl.out.2 hN (by rw [← HAl.out.1]; exact HSg.out)
  have lt4 : w.heap.size < w4.heap.size := HT4.out.1.lt
  have hds : (Try.prog.info? 51).map (·.size) = some ds.size := by rw [hd16]; exact infoFrF7
  clear rf oF oG ap b5 hN hd16 hdone HT4
  go_wp2_with (first | go_skip | (with_reducible refine stopStore 51 rfl ?_))
  refine store_known 51 w.heap.size _ ds 51 HW5.out.2.2.2.2.2.1 rfl rfl rfl rfl hds (by rw [HW5.out.2.2.2.2.2.2.1]; rfl) HW5.out.2.2.2.2.2.2.2 ?_
  have nF : w.heap.size ∉ F := fun hx => by have := HW5.out.2.1.ge _ hx; omega
  have nG : w.heap.size ∉ G := fun hx => by have := HW5.out.2.2.1.ge _ hx; omega
  have HE : Hid (RdFr (w5.setRow w.heap.size ds) (.agg ds) f F G ∧ Own w.heap.size (w5.setRow w.heap.size ds) F ∧ Own w.heap.size (w5.setRow w.heap.size ds) G ∧ (∀ b ∈ F, b ∉ G) ∧ Below w.heap.size w (w5.setRow w.heap.size ds) ∧ Blk (w5.setRow w.heap.size ds) w.heap.size ds 51) := ⟨HW5.out.1.agree (Agree.row nF _) (Agree.row nG _), (HW5.out.2.1.agree (Agree.row nF _)).mono (by omega), (HW5.out.2.2.1.agree (Agree.row nG _)).mono (by omega), HW5.out.2.2.2.1, below_setRow HW5.out.2.2.2.2.1 (Nat.le_refl _) _, HW5.out.2.2.2.2.2.1.setRow⟩
  clear HW5 nF nG
  go_wp2
  refine bodyPost_ret (results_row_tmp Try.results29 _ _ w.heap.size _ _ _ _ rfl HE.out.2.2.2.2.2 Try.underlying51 rfl hds) rfl ?_
  exact ⟨_, f, d4, F, G, rfl, HE.out.1, HE.out.2.1, HE.out.2.2.1, HE.out.2.2.2.1, HE.out.2.2.2.2.1, HV.out⟩
end Go.Proofs.Ytjndcfamfminkaq
