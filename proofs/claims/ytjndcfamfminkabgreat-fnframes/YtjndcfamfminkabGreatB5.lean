/- Several texts of mine, laid together. No statement of the seat is proved here. -/
import Derived.Test.YtjndcfamfminkabGreatB3
import Derived.Test.YtjndcfamfminkabGreatB4
import Derived.Test.YtjndcfamfminkabGreatB2
import Derived.BigQuiet
import Derived.Test.YtjndcfamfminkabGreatItHelp2
import Derived.Test.YtjndcfamfminkabGreatFrData
import Derived.Test.YtjndcfamfminkabGreatItModel
import Derived.Lib.SlBytesConst
import Derived.ArgAppend
import Derived.Test.YtjndcfamfminkabGreatTallyB
import Derived.Test.YtjndcfamfminkabGreatFrModel
/- The walk through the model's FrameOf. No statement of the seat is proved here. -/
namespace Go.Proofs.YtjndcfamfminkabGreat
open Go.RowKit
theorem infoFrO7 : (Tryz.prog.info? 32).map (·.size) = some 16 := by kernel_rfl
theorem infoItO7 : (Tryz.prog.info? 30).map (·.size) = some 11 := by kernel_rfl
/-- The place of the result, what is worked on, the bytes that are read. -/
structure FoW (w : World) (T : Nat) (cs : Array Value) (a : Option Addr) (len : Nat) (zs : List Int) (W : World) : Prop where
  res : Blk W w.heap.size #[.int .i64 0, .int .i64 0, .int .i64 0, .int .i64 0, .slice none 0 0, .int .i64 0, .int .i64 0, .int .i64 0, .int .i64 0, .int .i64 0, .int .i64 0, .int .i64 0, .int .i64 0, .slice none 0 0, .slice none 0 0, .slice none 0 0] 32
  loc : Blk W T cs 32
  src : RdB W a len zs
  bel : Below w.heap.size w W
  ord : w.heap.size < T
section
variable {w W W' : World} {T : Nat} {cs ds : Array Value} {a : Option Addr} {len : Nat} {zs : List Int}
theorem FoW.below (h : FoW w T cs a len zs W) (b : Below W.heap.size W W') : FoW w T cs a len zs W' := ⟨h.res.below b, h.loc.below b, h.src.below b, Below.next h.bel b, h.ord⟩
theorem FoW.set (h : FoW w T cs a len zs W) (hs : RdB w a len zs) (j : Nat) (v : Value) : FoW w T (cs.setIfInBounds j v) a len zs (W.setCell ⟨T, j, none⟩ v) := by
  have o := h.ord
  have b : Below w.heap.size w (W.setCell ⟨T, j, none⟩ v) := h.bel.setCell (by show w.heap.size ≤ T; omega) v
  exact ⟨h.res.setOther (by omega) j v, h.loc.set j v, hs.below b, b, h.ord⟩
theorem FoW.row (h : FoW w T cs a len zs W) (hs : RdB w a len zs) (ds : Array Value) : FoW w T ds a len zs (W.setRow T ds) := by
  have o := h.ord
  have b : Below w.heap.size w (W.setRow T ds) := below_setRow h.bel (by omega) ds
  exact ⟨h.res.setRowOther (by omega), h.loc.setRow, hs.below b, b, h.ord⟩
end
section
variable {P : Program} {ops : Array Oper} {Q : Exit → Act → World → Prop} {a : Act} {w : World} {o : Oper} {K : Act → World → Prop} {x y : Operand}
theorem op_storeCut (ty : TypeId) (g off : Nat) (cs ds es : Array Value) (t : TypeId) (hg : Blk w g cs t) (hw : Region.wanted o (yielded ops a.tmps) = true) (ho : o.op = .store ty x y) (hx : a.eval x = .pointer (some ⟨g, off, none⟩)) (hy : a.eval y = .agg ds)
    (hi : (P.info? ty).map (·.size) = some ds.size) (hfit : off + ds.size ≤ cs.size) (h1 : ds.all (·.oneCell') = true) (hes : cutIn cs off ds = es)
    (h : ∃ a', a.put o.dst undef = a' ∧ K a' (w.setRow g es)) : if Region.wanted o (yielded ops a.tmps) = true then Oper.wp P o a w K Q else K (a.put o.dst undef) w := by
  subst hes
  obtain ⟨_, rfl, h⟩ := h
  rw [if_pos hw]
  unfold Oper.wp execOp
  simp only [ho, hx, hy, Instr.storeAt, Instr.sureAddr, Sem.run_bind, Sem.run_pure, Result.andThen_ok, run_storeVar_cut w g off t ty cs ds hg hi hfit h1]
  exact h
end
theorem own_setO {w : World} {base e size n : Nat} {v u : Value} {xs : List Value} {g j : Nat} (h : w.ownsRow base e size v n xs) (hg : g < base) : (w.setCell ⟨g, j, none⟩ u).ownsRow base e size v n xs := by
  refine ⟨h.1, ?_⟩
  rcases h.2 with q | ⟨g', cap, cur, h1, h2, h3, h4⟩
  · exact .inl q
  · exact .inr ⟨g', cap, cur, h1, h2, by rw [Below.heap_setCell w ⟨g, j, none⟩ u g' (by show g' ≠ g; omega)]; exact h3, h4⟩
theorem wrapO {n : Int} (h : -9223372036854775808 ≤ n ∧ n ≤ 9223372036854775807) : IntKind.i64.wrap n = n := by
  simp [IntKind.wrap, IntKind.bits, IntKind.signed]
  omega
theorem exec_conv {P : Program} {a : Act} {o : Oper} {x : Operand} {t u : TypeId} {v r : Value} {W : World} (ho : o.op = .convert t u x) (hx : a.eval x = v) (h : (convert t u v).run P W = .ok r W) : (execOp a.eval o).run P W = .ok (.value r) W := by
  unfold execOp
  simp only [ho, hx, Sem.run_bind, h, Result.andThen_ok, Sem.run_pure]
theorem exec_neStr {a : Act} {o : Oper} {x y : Operand} {s t : ByteArray} {W : World} (ho : o.op = .binOp .neq 9 x y 9) (hx : a.eval x = .string s) (hy : a.eval y = .string t) : (execOp a.eval o).run Tryz.prog W = .ok (.value (.bool (!decide (s = t)))) W := by
  unfold execOp
  simp only [ho, hx, hy]
  go_simp
  by_cases h : s = t
  · subst h; simp
  · rw [decide_eq_false h]
    simp [bytes_list, h]
set_option maxRecDepth 200000 in
set_option maxHeartbeats 16000000 in
theorem frameOfSpec_any (a : Option Addr) (len cap : Nat) (zs : List Int) (w : World) (h : RdB w a len zs) (hlen : len ≤ 1048576) (hcap : len ≤ cap) :
    Calls Tryz.prog 11 #[.slice a len cap] w fun e w' => NewFrR w (FrIs zs) e w' := by
  obtain ⟨i0, hi, hz0, hz1, hz2⟩ := info_parts infoSpan
  have HR : Hid (RdB w a len zs) := h
  have HZ : Hid (zs.length = len ∧ ∀ x ∈ zs, 0 ≤ x ∧ x ≤ 255) := ⟨h.length, h.range⟩
  have HT : Hid (Blk (w.alloc (.cells #[.int .i64 0, .int .i64 0, .int .i64 0, .int .i64 0, .slice none 0 0, .int .i64 0, .int .i64 0, .int .i64 0, .int .i64 0, .int .i64 0, .int .i64 0, .int .i64 0, .int .i64 0, .slice none 0 0, .slice none 0 0, .slice none 0 0] 32)) w.heap.size #[.int .i64 0, .int .i64 0, .int .i64 0, .int .i64 0, .slice none 0 0, .int .i64 0, .int .i64 0, .int .i64 0, .int .i64 0, .int .i64 0, .int .i64 0, .int .i64 0, .int .i64 0, .slice none 0 0, .slice none 0 0, .slice none 0 0] 32 ∧ Below w.heap.size w (w.alloc (.cells #[.int .i64 0, .int .i64 0, .int .i64 0, .int .i64 0, .slice none 0 0, .int .i64 0, .int .i64 0, .int .i64 0, .int .i64 0, .int .i64 0, .int .i64 0, .int .i64 0, .int .i64 0, .slice none 0 0, .slice none 0 0, .slice none 0 0] 32))) := ⟨Blk.made _ _ _, (Below.refl _ _).alloc (Nat.le_refl _) _⟩
  by_cases h6 : len < 6
  · have hd : decide ((len : Int) < 6) = true := dec_true (by omega)
    have HV : Hid (FrIs zs Fr.zero false) := of_short (by rw [HZ.out.1]; exact h6)
    clear h h6
    go_enter Tryz.func11, Tryz.ntmps11
    go_wp2_with fail
    obtain ⟨W1, hW1⟩ : ∃ W, W = w.alloc (.cells #[.int .i64 0, .int .i64 0, .int .i64 0, .int .i64 0, .slice none 0 0, .int .i64 0, .int .i64 0, .int .i64 0, .int .i64 0, .int .i64 0, .int .i64 0, .int .i64 0, .int .i64 0, .slice none 0 0, .slice none 0 0, .slice none 0 0] 32) := ⟨_, rfl⟩
    rw [← hW1] at HT ⊢
    clear hW1
    refine wp_region_held (S := fun _ => True) (by kernel_rfl) ?_
    change wpAnyH _ _ _ _ _ _ _ _ (World.drew _)
    refine takeH (o := ?o1) 0 (.slice a len cap) ?h1 ?r1
    case h1 => simp only [aT, aZ]; rfl
    refine ⟨_, by simp [Act.put]; rfl, by kernel_rfl, by kernel_rfl, by kernel_rfl, fun _ _ _ h => h, (.inl ⟨rfl, fun W _ => by kernel_rfl⟩), trivial, ?_⟩
    refine takeH (o := ?o2) 1 (.int .i64 len) ?h2 ?r2
    case h2 => simp only [aT, aS, aZ]; rfl
    refine ⟨_, by simp [Act.put]; rfl, by kernel_rfl, by kernel_rfl, by kernel_rfl, fun _ _ _ h => h, (.inl ⟨rfl, fun W _ => by go_simp⟩), trivial, ?_⟩
    refine takeH (o := ?o3) 2 (.bool true) ?h3 ?r3
    case h3 => simp only [aT, aS, aZ]; rfl
    refine ⟨_, by simp [Act.put]; rfl, by kernel_rfl, by kernel_rfl, by kernel_rfl, fun _ _ _ h => h, (.inl ⟨rfl, fun W _ => by go_simp⟩), trivial, ?_⟩
    refine takeH (o := ?o4) 3 (.bool true) ?h4 ?r4
    case h4 => simp only [aT, aS, aZ]; rfl
    refine ⟨_, by simp [Act.put]; rfl, by kernel_rfl, by kernel_rfl, by kernel_rfl, fun _ _ _ h => h, (.inl ⟨rfl, fun W _ => by kernel_rfl⟩), trivial, ?_⟩
    refine takeH (o := ?o5) 4 (undef) ?h5 ?r5
    case h5 => simp only [aT, aS, aZ]; rfl
    refine ⟨_, by simp [Act.put]; rfl, by kernel_rfl, by kernel_rfl, by kernel_rfl, fun _ _ _ h => h, (.inr ⟨rfl, rfl⟩), trivial, ?_⟩
    refine takeH (o := ?o6) 5 (undef) ?h6 ?r6
    case h6 => simp only [aT, aS, aZ]; rfl
    refine ⟨_, by simp [Act.put]; rfl, by kernel_rfl, by kernel_rfl, by kernel_rfl, fun _ _ _ h => h, (.inr ⟨rfl, rfl⟩), trivial, ?_⟩
    refine takeH (o := ?o7) 6 (undef) ?h7 ?r7
    case h7 => simp only [aT, aS, aZ]; rfl
    refine ⟨_, by simp [Act.put]; rfl, by kernel_rfl, by kernel_rfl, by kernel_rfl, fun _ _ _ h => h, (.inr ⟨rfl, rfl⟩), trivial, ?_⟩
    refine takeH (o := ?o8) 7 (undef) ?h8 ?r8
    case h8 => simp only [aT, aS, aZ]; rfl
    refine ⟨_, by simp [Act.put]; rfl, by kernel_rfl, by kernel_rfl, by kernel_rfl, fun _ _ _ h => h, (.inr ⟨rfl, rfl⟩), trivial, ?_⟩
    refine takeH (o := ?o9) 8 (undef) ?h9 ?r9
    case h9 => simp only [aT, aS, aZ]; rfl
    refine ⟨_, by simp [Act.put]; rfl, by kernel_rfl, by kernel_rfl, by kernel_rfl, fun _ _ _ h => h, (.inr ⟨rfl, rfl⟩), trivial, ?_⟩
    refine takeH (o := ?o10) 9 (undef) ?h10 ?r10
    case h10 => simp only [aT, aS, aZ]; rfl
    refine ⟨_, by simp [Act.put]; rfl, by kernel_rfl, by kernel_rfl, by kernel_rfl, fun _ _ _ h => h, (.inr ⟨rfl, rfl⟩), trivial, ?_⟩
    refine takeH (o := ?o11) 10 (undef) ?h11 ?r11
    case h11 => simp only [aT, aS, aZ]; rfl
    refine ⟨_, by simp [Act.put]; rfl, by kernel_rfl, by kernel_rfl, by kernel_rfl, fun _ _ _ h => h, (.inr ⟨rfl, rfl⟩), trivial, ?_⟩
    refine takeH (o := ?o12) 11 (undef) ?h12 ?r12
    case h12 => simp only [aT, aS, aZ]; rfl
    refine ⟨_, by simp [Act.put]; rfl, by kernel_rfl, by kernel_rfl, by kernel_rfl, fun _ _ _ h => h, (.inr ⟨rfl, rfl⟩), trivial, ?_⟩
    refine takeH (o := ?o13) 12 (undef) ?h13 ?r13
    case h13 => simp only [aT, aS, aZ]; rfl
    refine ⟨_, by simp [Act.put]; rfl, by kernel_rfl, by kernel_rfl, by kernel_rfl, fun _ _ _ h => h, (.inr ⟨rfl, rfl⟩), trivial, ?_⟩
    refine takeH (o := ?o14) 13 (undef) ?h14 ?r14
    case h14 => simp only [aT, aS, aZ]; rfl
    refine ⟨_, by simp [Act.put]; rfl, by kernel_rfl, by kernel_rfl, by kernel_rfl, fun _ _ _ h => h, (.inr ⟨rfl, rfl⟩), trivial, ?_⟩
    refine takeH (o := ?o15) 14 (undef) ?h15 ?r15
    case h15 => simp only [aT, aS, aZ]; rfl
    refine ⟨_, by simp [Act.put]; rfl, by kernel_rfl, by kernel_rfl, by kernel_rfl, fun _ _ _ h => h, (.inr ⟨rfl, rfl⟩), trivial, ?_⟩
    refine takeH (o := ?o16) 15 (undef) ?h16 ?r16
    case h16 => simp only [aT, aS, aZ]; rfl
    refine ⟨_, by simp [Act.put]; rfl, by kernel_rfl, by kernel_rfl, by kernel_rfl, fun _ _ _ h => h, (.inr ⟨rfl, rfl⟩), trivial, ?_⟩
    refine takeH (o := ?o17) 16 (undef) ?h17 ?r17
    case h17 => simp only [aT, aS, aZ]; rfl
    refine ⟨_, by simp [Act.put]; rfl, by kernel_rfl, by kernel_rfl, by kernel_rfl, fun _ _ _ h => h, (.inr ⟨rfl, rfl⟩), trivial, ?_⟩
    refine takeH (o := ?o18) 17 (undef) ?h18 ?r18
    case h18 => simp only [aT, aS, aZ]; rfl
    refine ⟨_, by simp [Act.put]; rfl, by kernel_rfl, by kernel_rfl, by kernel_rfl, fun _ _ _ h => h, (.inr ⟨rfl, rfl⟩), trivial, ?_⟩
    refine takeH (o := ?o19) 18 (.bool true) ?h19 ?r19
    case h19 => simp only [aT, aS, aZ]; rfl
    refine ⟨_, by simp [Act.put]; rfl, by kernel_rfl, by kernel_rfl, by kernel_rfl, fun _ _ _ h => h, (.inl ⟨rfl, fun W _ => by kernel_rfl⟩), trivial, ?_⟩
    refine wpAnyH_done (by kernel_rfl) ?_ _
    go_wp2_with (first | go_skip | (with_reducible refine stopStore 32 rfl ?_))
    refine store_known 32 w.heap.size _ #[.int .i64 0, .int .i64 0, .int .i64 0, .int .i64 0, .slice none 0 0, .int .i64 0, .int .i64 0, .int .i64 0, .int .i64 0, .int .i64 0, .int .i64 0, .int .i64 0, .int .i64 0, .slice none 0 0, .slice none 0 0, .slice none 0 0] 32 (Blk.drew HT.out.1) rfl rfl rfl rfl infoFrO7 rfl (by simp [Value.oneCell']) ?_
    go_wp2
    refine bodyPost_ret (results_row_tmp Tryz.results11 _ _ w.heap.size _ _ _ _ rfl (Blk.setRow (Blk.drew HT.out.1)) Tryz.underlying32 rfl infoFrO7) rfl ?_
    exact ⟨_, Fr.zero, false, [], [], rfl, rdFr_zero _, Own.nil, Own.nil, by simp, below_setRow (Below.drew HT.out.2) (Nat.le_refl _) _, HV.out⟩
  have hd : decide ((len : Int) < 6) = false := dec_false (by omega)
  obtain ⟨b, off, rfl⟩ := h.addr (by omega)
  obtain ⟨k, hk⟩ : ∃ k, len = k + 4 := ⟨len - 4, by omega⟩
  subst hk
  have h2k : 2 ≤ k := by omega
  have e4 : ((k + 4 : Nat) : Int) - 4 = (k : Int) := by omega
  have hkc : (k : Int) ≤ (cap : Int) := by omega
  have hkn : ¬ cap = k := by omega
  have HS0 : Hid (∀ W, Below w.heap.size w W → RdB W (some ⟨b, off, none⟩) k (zs.take k) ∧ RdB W (some ⟨b, off + k, none⟩) 4 (zs.drop k)) := fun W hb => ⟨(HR.out.below hb).take (by omega), by have := (HR.out.below hb).drop (m := k) (by omega); rw [Nat.add_sub_cancel_left] at this; exact this⟩
  have HRG : Hid ((∀ x ∈ zs.take k, 0 ≤ x ∧ x ≤ 255) ∧ (∀ x ∈ zs.drop k, 0 ≤ x ∧ x ≤ 255) ∧ (zs.take k).length = k ∧ (zs.drop k).length = 4) := ⟨fun x hx => HZ.out.2 x (List.mem_of_mem_take hx), fun x hx => HZ.out.2 x (List.mem_of_mem_drop hx), by have := HZ.out.1; simp; omega, by have := HZ.out.1; simp; omega⟩
  clear h h6
  go_enter Tryz.func11, Tryz.ntmps11
  go_wp2_with fail
  rw [e4] at *
  obtain ⟨W1, hW1⟩ : ∃ W, W = w.alloc (.cells #[.int .i64 0, .int .i64 0, .int .i64 0, .int .i64 0, .slice none 0 0, .int .i64 0, .int .i64 0, .int .i64 0, .int .i64 0, .int .i64 0, .int .i64 0, .int .i64 0, .int .i64 0, .slice none 0 0, .slice none 0 0, .slice none 0 0] 32) := ⟨_, rfl⟩
  rw [← hW1] at HT ⊢
  clear hW1
  have HTd : Hid (Blk W1.drew w.heap.size #[.int .i64 0, .int .i64 0, .int .i64 0, .int .i64 0, .slice none 0 0, .int .i64 0, .int .i64 0, .int .i64 0, .int .i64 0, .int .i64 0, .int .i64 0, .int .i64 0, .int .i64 0, .slice none 0 0, .slice none 0 0, .slice none 0 0] 32 ∧ Below w.heap.size w W1.drew) := ⟨HT.out.1.drew, Below.drew HT.out.2⟩
  refine wp_region_held (S := fun W => RdB W (some ⟨b, off + k, none⟩) 4 (zs.drop k)) (by kernel_rfl) ?_
  change wpAnyH _ _ _ _ _ _ _ _ (World.drew _)
  refine takeH (o := ?o20) 0 (.slice (some ⟨b, off, none⟩) (k + 4) cap) ?h20 ?r20
  case h20 => simp only [aT, aZ]; rfl
  refine ⟨_, by simp [Act.put]; rfl, by kernel_rfl, by kernel_rfl, by kernel_rfl, fun _ _ _ h => h, (.inl ⟨rfl, fun W _ => by kernel_rfl⟩), (HS0.out _ HTd.out.2).2, ?_⟩
  refine takeH (o := ?o21) 1 (.int .i64 ((k + 4 : Nat) : Int)) ?h21 ?r21
  case h21 => simp only [aT, aS, aZ]; rfl
  refine ⟨_, by simp [Act.put]; rfl, by kernel_rfl, by kernel_rfl, by kernel_rfl, fun _ _ _ h => h, (.inl ⟨rfl, fun W _ => by go_simp⟩), (HS0.out _ HTd.out.2).2, ?_⟩
  refine takeH (o := ?o22) 2 (.bool false) ?h22 ?r22
  case h22 => simp only [aT, aS, aZ]; rfl
  refine ⟨_, by simp [Act.put]; rfl, by kernel_rfl, by kernel_rfl, by kernel_rfl, fun _ _ _ h => h, (.inl ⟨rfl, fun W _ => by go_simp; first | done | omega⟩), (HS0.out _ HTd.out.2).2, ?_⟩
  refine takeH (o := ?o23) 3 (.bool false) ?h23 ?r23
  case h23 => simp only [aT, aS, aZ]; rfl
  refine ⟨_, by simp [Act.put]; rfl, by kernel_rfl, by kernel_rfl, by kernel_rfl, fun _ _ _ h => h, (.inl ⟨rfl, fun W _ => by kernel_rfl⟩), (HS0.out _ HTd.out.2).2, ?_⟩
  refine takeH (o := ?o24) 4 (.slice (some ⟨b, off, none⟩) (k + 4) cap) ?h24 ?r24
  case h24 => simp only [aT, aS, aZ]; rfl
  refine ⟨_, by simp [Act.put]; rfl, by kernel_rfl, by kernel_rfl, by kernel_rfl, fun _ _ _ h => h, (.inl ⟨rfl, fun W _ => by kernel_rfl⟩), (HS0.out _ HTd.out.2).2, ?_⟩
  refine takeH (o := ?o25) 5 (.slice (some ⟨b, off, none⟩) (k + 4) cap) ?h25 ?r25
  case h25 => simp only [aT, aS, aZ]; rfl
  refine ⟨_, by simp [Act.put]; rfl, by kernel_rfl, by kernel_rfl, by kernel_rfl, fun _ _ _ h => h, (.inl ⟨rfl, fun W _ => by kernel_rfl⟩), (HS0.out _ HTd.out.2).2, ?_⟩
  refine takeH (o := ?o26) 6 (.int .i64 ((k + 4 : Nat) : Int)) ?h26 ?r26
  case h26 => simp only [aT, aS, aZ]; rfl
  refine ⟨_, by simp [Act.put]; rfl, by kernel_rfl, by kernel_rfl, by kernel_rfl, fun _ _ _ h => h, (.inl ⟨rfl, fun W _ => by go_simp⟩), (HS0.out _ HTd.out.2).2, ?_⟩
  refine takeH (o := ?o27) 7 (.int .i64 (k : Int)) ?h27 ?r27
  case h27 => simp only [aT, aS, aZ]; rfl
  refine ⟨_, by simp [Act.put]; rfl, by kernel_rfl, by kernel_rfl, by kernel_rfl, fun _ _ _ h => h, (.inl ⟨rfl, fun W _ => by go_simp; first | done | (refine wrapO ?_; omega)⟩), (HS0.out _ HTd.out.2).2, ?_⟩
  refine takeH (o := ?o28) 8 (.slice (some ⟨b, off, none⟩) k cap) ?h28 ?r28
  case h28 => simp only [aT, aS, aZ]; rfl
  refine ⟨_, by simp [Act.put]; rfl, by kernel_rfl, by kernel_rfl, by kernel_rfl, fun _ _ _ h => h, (.inl ⟨rfl, fun W _ => by go_simp⟩), (HS0.out _ HTd.out.2).2, ?_⟩
  refine takeH (o := ?o29) 11 (.slice (some ⟨b, off, none⟩) (k + 4) cap) ?h29 ?r29
  case h29 => simp only [aT, aS, aZ]; rfl
  refine ⟨_, by simp [Act.put]; rfl, by kernel_rfl, by kernel_rfl, by kernel_rfl, fun _ _ _ h => h, (.inl ⟨rfl, fun W _ => by kernel_rfl⟩), (HS0.out _ HTd.out.2).2, ?_⟩
  refine takeH (o := ?o30) 12 (.slice (some ⟨b, off, none⟩) (k + 4) cap) ?h30 ?r30
  case h30 => simp only [aT, aS, aZ]; rfl
  refine ⟨_, by simp [Act.put]; rfl, by kernel_rfl, by kernel_rfl, by kernel_rfl, fun _ _ _ h => h, (.inl ⟨rfl, fun W _ => by kernel_rfl⟩), (HS0.out _ HTd.out.2).2, ?_⟩
  refine takeH (o := ?o31) 13 (.int .i64 ((k + 4 : Nat) : Int)) ?h31 ?r31
  case h31 => simp only [aT, aS, aZ]; rfl
  refine ⟨_, by simp [Act.put]; rfl, by kernel_rfl, by kernel_rfl, by kernel_rfl, fun _ _ _ h => h, (.inl ⟨rfl, fun W _ => by go_simp⟩), (HS0.out _ HTd.out.2).2, ?_⟩
  refine takeH (o := ?o32) 14 (.int .i64 (k : Int)) ?h32 ?r32
  case h32 => simp only [aT, aS, aZ]; rfl
  refine ⟨_, by simp [Act.put]; rfl, by kernel_rfl, by kernel_rfl, by kernel_rfl, fun _ _ _ h => h, (.inl ⟨rfl, fun W _ => by go_simp; first | done | (refine wrapO ?_; omega)⟩), (HS0.out _ HTd.out.2).2, ?_⟩
  refine takeH (o := ?o33) 15 (.slice (some ⟨b, off + k, none⟩) 4 (cap - k)) ?h33 ?r33
  case h33 => simp only [aT, aS, aZ]; rfl
  refine ⟨_, by simp [Act.put]; rfl, by kernel_rfl, by kernel_rfl, by kernel_rfl, fun _ _ _ h => h, (.inl ⟨rfl, fun W _ => by go_simp; intro h; omega⟩), (HS0.out _ HTd.out.2).2, ?_⟩
  refine takeH (o := ?o34) 16 (.string (strOfNums (zs.drop k))) ?h34 ?r34
  case h34 => simp only [aT, aS, aZ]; rfl
  refine ⟨_, by simp [Act.put]; rfl, by kernel_rfl, by kernel_rfl, by kernel_rfl, fun _ _ _ h => h, (.inl ⟨rfl, fun W hW => exec_conv rfl rfl (conv_any hW)⟩), (HS0.out _ HTd.out.2).2, ?_⟩
  refine onlyH (o := ?o35) 9 (by kernel_rfl) ?h35 ?r35
  case h35 => simp only [aT, aS, aZ]; rfl
  intro K hK
  refine op_call1 39 _ _ Tryz.f39 (fun v w' => v = .slice (some ⟨W1.heap.size, 0, none⟩) 4 4 ∧ w' = W1.drew.alloc (.cells ((sumOf (zs.take k)).map (Value.int .u8)).toArray 5)) rfl rfl Tryz.func39 (by kernel_rfl) (by kernel_rfl) ((l7Sum_any (some ⟨b, off, none⟩) k cap (zs.take k) W1.drew (HS0.out _ HTd.out.2).1 (by omega)).mono (by rintro e w' ⟨rfl, h1⟩; exact ⟨_, rfl, rfl, h1⟩)) ?_
  rintro v W2 ⟨rfl, hW2⟩
  have b1 : Below W1.drew.heap.size W1.drew W2 := by rw [hW2]; exact (Below.refl _ _).alloc (Nat.le_refl _) _
  have r1 : RdB W2 (some ⟨W1.heap.size, 0, none⟩) 4 (sumOf (zs.take k)) := by
    rw [hW2]
    refine ⟨sumOf_len _, sumOf_range _ HRG.out.1, .inr ⟨W1.heap.size, 0, rfl, fun i hi => ?_⟩⟩
    rw [Nat.zero_add, show W1.heap.size = W1.drew.heap.size from rfl, (Blk.made W1.drew _ _).cell i]
    have hi' : i < (sumOf (zs.take k)).length := by rw [sumOf_len]; exact hi
    simp [List.getElem?_eq_getElem hi']
  have HW2 : Hid (Blk W2 w.heap.size #[.int .i64 0, .int .i64 0, .int .i64 0, .int .i64 0, .slice none 0 0, .int .i64 0, .int .i64 0, .int .i64 0, .int .i64 0, .int .i64 0, .int .i64 0, .int .i64 0, .int .i64 0, .slice none 0 0, .slice none 0 0, .slice none 0 0] 32 ∧ Below w.heap.size w W2) := ⟨HTd.out.1.below b1, Below.next HTd.out.2 b1⟩
  have k1 := conv_any r1 (cap := 4)
  clear hW2 b1 r1
  refine ⟨_, by simp [Act.put]; rfl, hK _ _ ⟨(HS0.out _ HW2.out.2).2, ?_⟩⟩
  clear hK HT HTd
  refine onlyH (o := ?o36) 10 (by kernel_rfl) ?h36 ?r36
  case h36 => simp only [aT, aS, aZ]; rfl
  intro K hK
  refine op_value (.string (strOfNums (sumOf (zs.take k)))) rfl (exec_conv rfl rfl k1) ⟨_, by simp [Act.put]; rfl, hK _ _ ⟨(HS0.out _ HW2.out.2).2, ?_⟩⟩
  clear hK
  clear k1
  refine onlyH (o := ?o37) 17 (by kernel_rfl) ?h37 ?r37
  case h37 => simp only [aT, aS, aZ]; rfl
  intro K hK
  refine op_value (.bool (!decide (sumOf (zs.take k) = zs.drop k))) rfl ((exec_neStr rfl rfl rfl).trans (by rw [strOf_dec (sumOf_range _ HRG.out.1) HRG.out.2.1])) ⟨_, by simp [Act.put]; rfl, hK _ _ ⟨(HS0.out _ HW2.out.2).2, ?_⟩⟩
  clear hK
  refine onlyH (o := ?o38) 18 (by kernel_rfl) ?h38 ?r38
  case h38 => simp only [aT, aS, aZ]; rfl
  intro K hK
  refine op_value (.bool (!decide (sumOf (zs.take k) = zs.drop k))) rfl (by kernel_rfl) ⟨_, by simp [Act.put]; rfl, hK _ _ ⟨(HS0.out _ HW2.out.2).2, ?_⟩⟩
  clear hK
  refine wpAnyH_done (by kernel_rfl) ?_ _
  obtain ⟨d, hd2⟩ : ∃ d, d = !decide (sumOf (zs.take k) = zs.drop k) := ⟨_, rfl⟩
  rw [← hd2]
  have HD : Hid (d = !decide (sumOf (zs.take k) = zs.drop k)) := hd2
  clear hd2 hd e4
  cases d
  rotate_left
  · have HV : Hid (FrIs zs Fr.zero false) := by
      have q : ¬ sumOf (zs.take k) = zs.drop k := by
        have := HD.out
        intro e
        rw [decide_eq_true e] at this
        cases this
      have := frIs_noSum (body := zs.take k) (s := zs.drop k) HRG.out.2.2.2 (fun e => q e.symm)
      rw [List.take_append_drop] at this
      exact this
    go_wp2_with (first | go_skip | (with_reducible refine stopStore 32 rfl ?_))
    refine store_known 32 w.heap.size _ #[.int .i64 0, .int .i64 0, .int .i64 0, .int .i64 0, .slice none 0 0, .int .i64 0, .int .i64 0, .int .i64 0, .int .i64 0, .int .i64 0, .int .i64 0, .int .i64 0, .int .i64 0, .slice none 0 0, .slice none 0 0, .slice none 0 0] 32 HW2.out.1 rfl rfl rfl rfl infoFrO7 rfl (by simp [Value.oneCell']) ?_
    go_wp2
    refine bodyPost_ret (results_row_tmp Tryz.results11 _ _ w.heap.size _ _ _ _ rfl (Blk.setRow HW2.out.1) Tryz.underlying32 rfl infoFrO7) rfl ?_
    exact ⟨_, Fr.zero, false, [], [], rfl, rdFr_zero _, Own.nil, Own.nil, by simp, below_setRow HW2.out.2 (Nat.le_refl _) _, HV.out⟩
  have HB : Hid (zs = zs.take k ++ sumOf (zs.take k)) := by
    have q : sumOf (zs.take k) = zs.drop k := by
      have := HD.out
      by_cases e : sumOf (zs.take k) = zs.drop k
      · exact e
      · rw [decide_eq_false e] at this
        cases this
    show _ = _
    rw [q, List.take_append_drop]
  have HSB : Hid (∀ W, Below w.heap.size w W → RdB W (some ⟨b, off, none⟩) k (zs.take k)) := fun W hb => (HS0.out W hb).1
  obtain ⟨B, hB⟩ : ∃ B, B = zs.take k := ⟨_, rfl⟩
  rw [← hB] at HB HSB HRG
  clear HD hB HS0
  have e4 : ((k + 4 : Nat) : Int) - 4 = (k : Int) := by omega
  go_wp2_with fail
  rw [e4] at *
  refine (l7Get_any (some ⟨b, off, none⟩) k cap 2 5 B _ (HSB.out _ HW2.out.2) (by omega) (by omega)).mono ?_
  rintro e w3 ⟨⟨v, l, q, rfl, hown, hg⟩, hb3⟩
  have HW3 : Hid (Blk w3 w.heap.size #[.int .i64 0, .int .i64 0, .int .i64 0, .int .i64 0, .slice none 0 0, .int .i64 0, .int .i64 0, .int .i64 0, .int .i64 0, .int .i64 0, .int .i64 0, .int .i64 0, .int .i64 0, .slice none 0 0, .slice none 0 0, .slice none 0 0] 32 ∧ Below w.heap.size w w3) := ⟨HW2.out.1.below hb3, Below.next HW2.out.2 hb3⟩
  clear hb3 HW2 e4
  cases hgt : getTo B 2 5 with
  | none =>
    have HV : Hid (FrIs zs Fr.zero false) := by
      show FrIs _ _ _
      rw [HB.out]
      exact of_head hgt
    clear hgt hg hown
    simp only [Option.isSome]
    go_wp2_with (first | go_skip | (with_reducible refine stopStore 32 rfl ?_))
    refine store_known 32 w.heap.size _ #[.int .i64 0, .int .i64 0, .int .i64 0, .int .i64 0, .slice none 0 0, .int .i64 0, .int .i64 0, .int .i64 0, .int .i64 0, .int .i64 0, .int .i64 0, .int .i64 0, .int .i64 0, .slice none 0 0, .slice none 0 0, .slice none 0 0] 32 HW3.out.1 rfl rfl rfl rfl infoFrO7 rfl (by simp [Value.oneCell']) ?_
    go_wp2
    refine bodyPost_ret (results_row_tmp Tryz.results11 _ _ w.heap.size _ _ _ _ rfl (Blk.setRow HW3.out.1) Tryz.underlying32 rfl infoFrO7) rfl ?_
    exact ⟨_, Fr.zero, false, [], [], rfl, rdFr_zero _, Own.nil, Own.nil, by simp, below_setRow HW3.out.2 (Nat.le_refl _) _, HV.out⟩
  | some r =>
    obtain ⟨l', q'⟩ := r
    rw [hgt] at hg
    simp only [Option.getD] at hg
    cases hg
    simp only [Option.isSome]
    have HG : Hid (getTo B 2 5 = some (l, q)) := hgt
    have iv := getTo_inv HRG.out.1 (p := 2) (by rw [HRG.out.2.2.1]; omega) hgt
    have ll : l.length = 5 := getTo_len hgt
    have HI : Hid (∀ x ∈ l, InN x) := iv.1
    obtain ⟨p1, hp1⟩ : ∃ p : Nat, p = 2 + (putAll l).length := ⟨_, rfl⟩
    have eq1 : q = (p1 : Int) := by rw [iv.2.1, hp1]
    subst eq1
    have hp1k : p1 ≤ k := by have := iv.2.2.1; rw [HRG.out.2.2.1] at this; omega
    rw [ll] at hown
    obtain ⟨gn, cn, rfl, hcn⟩ := own_shape7 hown (by omega)
    obtain ⟨Fs, hrd, _, _⟩ := RdI.of_own hown
    have hgn := (hown.lt gn rfl).1
    have hgn2 := (hown.lt gn rfl).2
    have HS1 : Hid (RdI w3 (some ⟨gn, 0, none⟩) 5 l [gn]) := by
      rcases hrd.cells with ⟨h0, _⟩ | ⟨b', off', hp, e, hF, hc⟩
      · omega
      · cases e; exact ⟨hrd.length, .inr ⟨gn, 0, hp, rfl, rfl, hc⟩⟩
    have c4 : w3.cell? ⟨gn, 4, none⟩ = some (.int .i64 (l.getD 4 0)) := by
      rcases HS1.out.cells with ⟨h0, _⟩ | ⟨b', off', hp, e, hF, hc⟩
      · omega
      · cases e; exact hc 4 (by omega)
    have i4 : InN (l.getD 4 0) := HI.out _ (mem_getD (d := 0) (by rw [ll]; omega))
    obtain ⟨n, hn⟩ := Int.eq_ofNat_of_zero_le i4.1
    rw [hn] at c4
    have HN : Hid (l.getD 4 0 = (n : Int)) := hn
    clear hown hrd hgt hn i4 iv hp1
    by_cases hbig : 100 < n
    · have hbd : decide ((100 : Int) < (n : Int)) = true := dec_true (by omega)
      have HV : Hid (FrIs zs Fr.zero false) := by
        show FrIs _ _ _
        rw [HB.out]
        exact of_many HG.out (by have := HN.out; omega)
      go_wp2_with (first | go_skip | (with_reducible refine stopStore 32 rfl ?_))
      refine store_known 32 w.heap.size _ #[.int .i64 0, .int .i64 0, .int .i64 0, .int .i64 0, .slice none 0 0, .int .i64 0, .int .i64 0, .int .i64 0, .int .i64 0, .int .i64 0, .int .i64 0, .int .i64 0, .int .i64 0, .slice none 0 0, .slice none 0 0, .slice none 0 0] 32 HW3.out.1 rfl rfl rfl rfl infoFrO7 rfl (by simp [Value.oneCell']) ?_
      go_wp2
      refine bodyPost_ret (results_row_tmp Tryz.results11 _ _ w.heap.size _ _ _ _ rfl (Blk.setRow HW3.out.1) Tryz.underlying32 rfl infoFrO7) rfl ?_
      exact ⟨_, Fr.zero, false, [], [], rfl, rdFr_zero _, Own.nil, Own.nil, by simp, below_setRow HW3.out.2 (Nat.le_refl _) _, HV.out⟩
    have hbd : decide ((100 : Int) < (n : Int)) = false := dec_false (by omega)
    obtain ⟨x0, hx0⟩ : ∃ x, x = l.getD 0 0 := ⟨_, rfl⟩
    obtain ⟨x1, hx1⟩ : ∃ x, x = l.getD 1 0 := ⟨_, rfl⟩
    obtain ⟨x2, hx2⟩ : ∃ x, x = l.getD 2 0 := ⟨_, rfl⟩
    obtain ⟨x3, hx3⟩ : ∃ x, x = l.getD 3 0 := ⟨_, rfl⟩
    have HX : Hid (x0 = l.getD 0 0 ∧ x1 = l.getD 1 0 ∧ x2 = l.getD 2 0 ∧ x3 = l.getD 3 0) := ⟨hx0, hx1, hx2, hx3⟩
    clear hx0 hx1 hx2 hx3
    have HKN : Hid (∀ W, RdI W (some ⟨gn, 0, none⟩) 5 l [gn] → NumHeld gn 0 x0 x1 x2 x3 W ∧ W.cell? ⟨gn, 4, none⟩ = some (.int .i64 n)) := fun W r => by
      rw [HX.out.1, HX.out.2.1, HX.out.2.2.1, HX.out.2.2.2]
      refine ⟨r.numHeld (by omega), ?_⟩
      rw [← HN.out]
      rcases r.cells with ⟨h0, _⟩ | ⟨b', off', hp, e, hF, hc⟩
      · omega
      · cases e; exact hc 4 (by omega)
    go_wp2_with fail
    obtain ⟨W4, hW4⟩ : ∃ W, W = w3 := ⟨_, rfl⟩
    have HW4 : Hid (Blk W4 w.heap.size #[.int .i64 0, .int .i64 0, .int .i64 0, .int .i64 0, .slice none 0 0, .int .i64 0, .int .i64 0, .int .i64 0, .int .i64 0, .int .i64 0, .int .i64 0, .int .i64 0, .int .i64 0, .slice none 0 0, .slice none 0 0, .slice none 0 0] 32 ∧ Below w.heap.size w W4 ∧ RdI W4 (some ⟨gn, 0, none⟩) 5 l [gn]) := by rw [hW4]; exact ⟨HW3.out.1, HW3.out.2, HS1.out⟩
    rw [← hW4] at hgn2 ⊢
    clear hW4 HW3 HS1 c4 hbd
    have HDR : Hid (Blk W4.drew w.heap.size #[.int .i64 0, .int .i64 0, .int .i64 0, .int .i64 0, .slice none 0 0, .int .i64 0, .int .i64 0, .int .i64 0, .int .i64 0, .int .i64 0, .int .i64 0, .int .i64 0, .int .i64 0, .slice none 0 0, .slice none 0 0, .slice none 0 0] 32 ∧ Below w.heap.size w W4.drew ∧ RdI W4.drew (some ⟨gn, 0, none⟩) 5 l [gn]) := ⟨HW4.out.1.drew, Below.drew HW4.out.2.1, HW4.out.2.2.below (Below.refl _ _).drew⟩
    have HS : Hid (NumHeld gn 0 x0 x1 x2 x3 W4.drew) := (HKN.out _ HDR.out.2.2).1
    refine wp_region_held (S := NumHeld gn 0 x0 x1 x2 x3) (by kernel_rfl) ?_
    change wpAnyH _ _ _ _ _ _ _ _ (World.drew _)
    refine takeH (o := ?o39) 0 (.slice (some ⟨gn, 0, none⟩) 5 cn) ?h39 ?r39
    case h39 => simp only [aT, aZ]; rfl
    refine ⟨_, by simp [Act.put]; rfl, by kernel_rfl, by kernel_rfl, by kernel_rfl, fun _ _ _ h => h, (.inl ⟨rfl, fun W _ => by kernel_rfl⟩), HS.out, ?_⟩
    refine takeH (o := ?o40) 1 (.pointer (some ⟨gn, 0, none⟩)) ?h40 ?r40
    case h40 => simp only [aT, aS, aZ]; rfl
    refine ⟨_, by simp [Act.put]; rfl, by kernel_rfl, by kernel_rfl, by kernel_rfl, fun _ _ _ h => h, (.inl ⟨rfl, fun W _ => by go_simp⟩), HS.out, ?_⟩
    refine takeH (o := ?o41) 2 (.int .i64 x0) ?h41 ?r41
    case h41 => simp only [aT, aS, aZ]; rfl
    refine ⟨_, by simp [Act.put]; rfl, by kernel_rfl, by kernel_rfl, by kernel_rfl, fun _ _ _ h => h, (.inl ⟨rfl, fun W hW => by have c := hW.1; go_simp⟩), HS.out, ?_⟩
    refine takeH (o := ?o42) 3 (.slice (some ⟨gn, 0, none⟩) 5 cn) ?h42 ?r42
    case h42 => simp only [aT, aS, aZ]; rfl
    refine ⟨_, by simp [Act.put]; rfl, by kernel_rfl, by kernel_rfl, by kernel_rfl, fun _ _ _ h => h, (.inl ⟨rfl, fun W _ => by kernel_rfl⟩), HS.out, ?_⟩
    refine takeH (o := ?o43) 4 (.pointer (some ⟨gn, 1, none⟩)) ?h43 ?r43
    case h43 => simp only [aT, aS, aZ]; rfl
    refine ⟨_, by simp [Act.put]; rfl, by kernel_rfl, by kernel_rfl, by kernel_rfl, fun _ _ _ h => h, (.inl ⟨rfl, fun W _ => by go_simp⟩), HS.out, ?_⟩
    refine takeH (o := ?o44) 5 (.int .i64 x1) ?h44 ?r44
    case h44 => simp only [aT, aS, aZ]; rfl
    refine ⟨_, by simp [Act.put]; rfl, by kernel_rfl, by kernel_rfl, by kernel_rfl, fun _ _ _ h => h, (.inl ⟨rfl, fun W hW => by have c := hW.2.1; go_simp⟩), HS.out, ?_⟩
    refine takeH (o := ?o45) 6 (.slice (some ⟨gn, 0, none⟩) 5 cn) ?h45 ?r45
    case h45 => simp only [aT, aS, aZ]; rfl
    refine ⟨_, by simp [Act.put]; rfl, by kernel_rfl, by kernel_rfl, by kernel_rfl, fun _ _ _ h => h, (.inl ⟨rfl, fun W _ => by kernel_rfl⟩), HS.out, ?_⟩
    refine takeH (o := ?o46) 7 (.pointer (some ⟨gn, 2, none⟩)) ?h46 ?r46
    case h46 => simp only [aT, aS, aZ]; rfl
    refine ⟨_, by simp [Act.put]; rfl, by kernel_rfl, by kernel_rfl, by kernel_rfl, fun _ _ _ h => h, (.inl ⟨rfl, fun W _ => by go_simp⟩), HS.out, ?_⟩
    refine takeH (o := ?o47) 8 (.int .i64 x2) ?h47 ?r47
    case h47 => simp only [aT, aS, aZ]; rfl
    refine ⟨_, by simp [Act.put]; rfl, by kernel_rfl, by kernel_rfl, by kernel_rfl, fun _ _ _ h => h, (.inl ⟨rfl, fun W hW => by have c := hW.2.2.1; go_simp⟩), HS.out, ?_⟩
    refine takeH (o := ?o48) 9 (.slice (some ⟨gn, 0, none⟩) 5 cn) ?h48 ?r48
    case h48 => simp only [aT, aS, aZ]; rfl
    refine ⟨_, by simp [Act.put]; rfl, by kernel_rfl, by kernel_rfl, by kernel_rfl, fun _ _ _ h => h, (.inl ⟨rfl, fun W _ => by kernel_rfl⟩), HS.out, ?_⟩
    refine takeH (o := ?o49) 10 (.pointer (some ⟨gn, 3, none⟩)) ?h49 ?r49
    case h49 => simp only [aT, aS, aZ]; rfl
    refine ⟨_, by simp [Act.put]; rfl, by kernel_rfl, by kernel_rfl, by kernel_rfl, fun _ _ _ h => h, (.inl ⟨rfl, fun W _ => by go_simp⟩), HS.out, ?_⟩
    refine takeH (o := ?o50) 11 (.int .i64 x3) ?h50 ?r50
    case h50 => simp only [aT, aS, aZ]; rfl
    refine ⟨_, by simp [Act.put]; rfl, by kernel_rfl, by kernel_rfl, by kernel_rfl, fun _ _ _ h => h, (.inl ⟨rfl, fun W hW => by have c := hW.2.2.2; go_simp⟩), HS.out, ?_⟩
    refine takeH (o := ?o51) 12 (.agg #[.int .i64 x0, .int .i64 x1, .int .i64 x2, .int .i64 x3, .slice none 0 0, .int .i64 0, .int .i64 0, .int .i64 0, .int .i64 0, .int .i64 0, .int .i64 0, .int .i64 0, .int .i64 0, .slice none 0 0, .slice none 0 0, .slice none 0 0]) ?h51 ?r51
    case h51 => simp only [aT, aS, aZ]; rfl
    refine ⟨_, by simp [Act.put]; rfl, by kernel_rfl, by kernel_rfl, by kernel_rfl, fun _ _ _ h => h, (.inl ⟨rfl, fun W _ => by kernel_rfl⟩), HS.out, ?_⟩
    refine onlyH (o := ?o52) 13 (by kernel_rfl) ?h52 ?r52
    case h52 => simp only [aT, aS, aZ]; rfl
    intro K hK
    have bA : Below W4.drew.heap.size W4.drew (W4.drew.alloc (.cells #[.int .i64 0, .int .i64 0, .int .i64 0, .int .i64 0, .slice none 0 0, .int .i64 0, .int .i64 0, .int .i64 0, .int .i64 0, .int .i64 0, .int .i64 0, .int .i64 0, .int .i64 0, .slice none 0 0, .slice none 0 0, .slice none 0 0] 32)) := (Below.refl _ _).alloc (Nat.le_refl _) _
    have HA1 : Hid (FoW w W4.heap.size #[.int .i64 0, .int .i64 0, .int .i64 0, .int .i64 0, .slice none 0 0, .int .i64 0, .int .i64 0, .int .i64 0, .int .i64 0, .int .i64 0, .int .i64 0, .int .i64 0, .int .i64 0, .slice none 0 0, .slice none 0 0, .slice none 0 0] (some ⟨b, off, none⟩) (k + 4) zs (W4.drew.alloc (.cells #[.int .i64 0, .int .i64 0, .int .i64 0, .int .i64 0, .slice none 0 0, .int .i64 0, .int .i64 0, .int .i64 0, .int .i64 0, .int .i64 0, .int .i64 0, .int .i64 0, .int .i64 0, .slice none 0 0, .slice none 0 0, .slice none 0 0] 32)) ∧ RdI (W4.drew.alloc (.cells #[.int .i64 0, .int .i64 0, .int .i64 0, .int .i64 0, .slice none 0 0, .int .i64 0, .int .i64 0, .int .i64 0, .int .i64 0, .int .i64 0, .int .i64 0, .int .i64 0, .int .i64 0, .slice none 0 0, .slice none 0 0, .slice none 0 0] 32)) (some ⟨gn, 0, none⟩) 5 l [gn]) := ⟨⟨HDR.out.1.below bA, Blk.made W4.drew _ _, HR.out.below (Below.next HDR.out.2.1 bA), Below.next HDR.out.2.1 bA, HDR.out.1.lt⟩, HDR.out.2.2.below bA⟩
    refine op_turn (.pointer (some ⟨W4.heap.size, 0, none⟩)) (W4.drew.alloc (.cells #[.int .i64 0, .int .i64 0, .int .i64 0, .int .i64 0, .slice none 0 0, .int .i64 0, .int .i64 0, .int .i64 0, .int .i64 0, .int .i64 0, .int .i64 0, .int .i64 0, .int .i64 0, .slice none 0 0, .slice none 0 0, .slice none 0 0] 32)) rfl (by go_simp) ⟨_, by simp [Act.put]; rfl, hK _ _ ⟨(HKN.out _ HA1.out.2).1, ?_⟩⟩
    clear hK bA HDR HW4
    refine onlyH (o := ?o53) 14 (by kernel_rfl) ?h53 ?r53
    case h53 => simp only [aT, aS, aZ]; rfl
    intro K hK
    have HA2 : Hid (FoW w W4.heap.size #[.int .i64 x0, .int .i64 x1, .int .i64 x2, .int .i64 x3, .slice none 0 0, .int .i64 0, .int .i64 0, .int .i64 0, .int .i64 0, .int .i64 0, .int .i64 0, .int .i64 0, .int .i64 0, .slice none 0 0, .slice none 0 0, .slice none 0 0] (some ⟨b, off, none⟩) (k + 4) zs ((W4.drew.alloc (.cells #[.int .i64 0, .int .i64 0, .int .i64 0, .int .i64 0, .slice none 0 0, .int .i64 0, .int .i64 0, .int .i64 0, .int .i64 0, .int .i64 0, .int .i64 0, .int .i64 0, .int .i64 0, .slice none 0 0, .slice none 0 0, .slice none 0 0] 32)).setRow W4.heap.size #[.int .i64 x0, .int .i64 x1, .int .i64 x2, .int .i64 x3, .slice none 0 0, .int .i64 0, .int .i64 0, .int .i64 0, .int .i64 0, .int .i64 0, .int .i64 0, .int .i64 0, .int .i64 0, .slice none 0 0, .slice none 0 0, .slice none 0 0]) ∧ RdI ((W4.drew.alloc (.cells #[.int .i64 0, .int .i64 0, .int .i64 0, .int .i64 0, .slice none 0 0, .int .i64 0, .int .i64 0, .int .i64 0, .int .i64 0, .int .i64 0, .int .i64 0, .int .i64 0, .int .i64 0, .slice none 0 0, .slice none 0 0, .slice none 0 0] 32)).setRow W4.heap.size #[.int .i64 x0, .int .i64 x1, .int .i64 x2, .int .i64 x3, .slice none 0 0, .int .i64 0, .int .i64 0, .int .i64 0, .int .i64 0, .int .i64 0, .int .i64 0, .int .i64 0, .int .i64 0, .slice none 0 0, .slice none 0 0, .slice none 0 0]) (some ⟨gn, 0, none⟩) 5 l [gn]) := ⟨HA1.out.1.row HR.out _, HA1.out.2.agree (Agree.row (by simp; omega) _)⟩
    refine op_store 32 W4.heap.size #[.int .i64 0, .int .i64 0, .int .i64 0, .int .i64 0, .slice none 0 0, .int .i64 0, .int .i64 0, .int .i64 0, .int .i64 0, .int .i64 0, .int .i64 0, .int .i64 0, .int .i64 0, .slice none 0 0, .slice none 0 0, .slice none 0 0] #[.int .i64 x0, .int .i64 x1, .int .i64 x2, .int .i64 x3, .slice none 0 0, .int .i64 0, .int .i64 0, .int .i64 0, .int .i64 0, .int .i64 0, .int .i64 0, .int .i64 0, .int .i64 0, .slice none 0 0, .slice none 0 0, .slice none 0 0] 32 rfl rfl rfl rfl HA1.out.1.loc infoFrO7 rfl (by simp [Value.oneCell']) ⟨_, by simp [Act.put]; rfl, hK _ _ ⟨(HKN.out _ HA2.out.2).1, ?_⟩⟩
    clear hK HA1 HS
    refine wpAnyH_done (by kernel_rfl) ?_ _
    obtain ⟨W5, hW5⟩ : ∃ W, W = (W4.drew.alloc (.cells #[.int .i64 0, .int .i64 0, .int .i64 0, .int .i64 0, .slice none 0 0, .int .i64 0, .int .i64 0, .int .i64 0, .int .i64 0, .int .i64 0, .int .i64 0, .int .i64 0, .int .i64 0, .slice none 0 0, .slice none 0 0, .slice none 0 0] 32)).setRow W4.heap.size #[.int .i64 x0, .int .i64 x1, .int .i64 x2, .int .i64 x3, .slice none 0 0, .int .i64 0, .int .i64 0, .int .i64 0, .int .i64 0, .int .i64 0, .int .i64 0, .int .i64 0, .int .i64 0, .slice none 0 0, .slice none 0 0, .slice none 0 0] := ⟨_, rfl⟩
    rw [← hW5] at HA2 ⊢
    obtain ⟨T, hT⟩ : ∃ T, T = W4.heap.size := ⟨_, rfl⟩
    rw [← hT] at HA2 hgn2 ⊢
    clear hW5 hT
    have c4 := (HKN.out _ HA2.out.2).2
    have hn100 : (n : Int) ≤ 100 := by omega
    go_wp2_with fail
    have e2n : 2 * (n : Int) = ((2 * n : Nat) : Int) := by omega
    rw [e2n]
    clear c4 e2n HKN
    refine (l7Get_any (some ⟨b, off, none⟩) k cap p1 (2 * n) B _ (HSB.out _ HA2.out.1.bel) (by omega) (by omega)).mono ?_
    rintro e w6 ⟨⟨v, m, q, rfl, hown, hg⟩, hb6⟩
    have HA3 : Hid (FoW w T #[.int .i64 x0, .int .i64 x1, .int .i64 x2, .int .i64 x3, .slice none 0 0, .int .i64 0, .int .i64 0, .int .i64 0, .int .i64 0, .int .i64 0, .int .i64 0, .int .i64 0, .int .i64 0, .slice none 0 0, .slice none 0 0, .slice none 0 0] (some ⟨b, off, none⟩) (k + 4) zs w6) := HA2.out.1.below hb6
    have lT : T < w6.heap.size := HA3.out.loc.lt
    have lTW : Hid (T < W5.heap.size) := HA2.out.1.loc.lt
    clear hb6 HA2
    cases hgt : getTo B p1 (2 * n) with
    | none =>
      have HV : Hid (FrIs zs Fr.zero false) := by
        show FrIs _ _ _
        rw [HB.out]
        exact of_spans HG.out HN.out hgt
      clear hgt hg hown
      simp only [Option.isSome]
      go_wp2_with (first | go_skip | (with_reducible refine stopStore 32 rfl ?_))
      refine store_known 32 w.heap.size _ #[.int .i64 0, .int .i64 0, .int .i64 0, .int .i64 0, .slice none 0 0, .int .i64 0, .int .i64 0, .int .i64 0, .int .i64 0, .int .i64 0, .int .i64 0, .int .i64 0, .int .i64 0, .slice none 0 0, .slice none 0 0, .slice none 0 0] 32 HA3.out.res rfl rfl rfl rfl infoFrO7 rfl (by simp [Value.oneCell']) ?_
      go_wp2
      refine bodyPost_ret (results_row_tmp Tryz.results11 _ _ w.heap.size _ _ _ _ rfl (Blk.setRow HA3.out.res) Tryz.underlying32 rfl infoFrO7) rfl ?_
      exact ⟨_, Fr.zero, false, [], [], rfl, rdFr_zero _, Own.nil, Own.nil, by simp, below_setRow HA3.out.bel (Nat.le_refl _) _, HV.out⟩
    | some r =>
      obtain ⟨m', q'⟩ := r
      rw [hgt] at hg
      simp only [Option.getD] at hg
      cases hg
      simp only [Option.isSome]
      have HG2 : Hid (getTo B p1 (2 * n) = some (m, q)) := hgt
      have iv := getTo_inv HRG.out.1 (p := p1) (by rw [HRG.out.2.2.1]; omega) hgt
      have lm : m.length = 2 * n := getTo_len hgt
      obtain ⟨p2, hp2⟩ : ∃ p : Nat, p = p1 + (putAll m).length := ⟨_, rfl⟩
      have eq2 : q = (p2 : Int) := by rw [iv.2.1, hp2]
      subst eq2
      have hp2k : p2 ≤ k := by have := iv.2.2.1; rw [HRG.out.2.2.1] at this; omega
      rw [lm] at hown
      obtain ⟨sa, cm, Fm, rfl, hrm, hom⟩ := rdI_of_own hown
      have HTX : Hid (T ∉ Fm) := fun hx => by have := hom.ge _ hx; have := lTW.out; omega
      clear hom
      have HM : Hid (RdI w6 sa (2 * n) m Fm) := hrm
      have HLM : Hid (m.length = 2 * n) := lm
      clear hown hrm hgt iv hp2 lm
      go_wp2_with fail
      obtain ⟨B0, hB0⟩ : ∃ B0, B0 = w6.heap.size := ⟨_, rfl⟩
      rw [← hB0] at lT
      have HB0 : Hid (w6.heap.size = B0) := hB0.symm
      have HB1 : Hid (∀ W, Below B0 w6 W → RdI W sa (2 * n) m Fm) := fun W hb => HM.out.below (by rw [HB0.out]; exact hb)
      have HFm : Hid (∀ b ∈ Fm, b < B0) := fun b hb => by have := HM.out.lt b hb; rw [HB0.out] at this; exact this
      have HTT : Hid (T < B0) := lT
      have HTm : Hid (T ∉ Fm) := fun hx => HTX.out hx
      clear hB0
      go_loopw [11] (fun i wr => ∃ (j : Nat) (v : Value), j ≤ n ∧ i = .int .i64 (2 * (j : Int)) ∧ Hid (FoW w T #[.int .i64 x0, .int .i64 x1, .int .i64 x2, .int .i64 x3, v, .int .i64 0, .int .i64 0, .int .i64 0, .int .i64 0, .int .i64 0, .int .i64 0, .int .i64 0, .int .i64 0, .slice none 0 0, .slice none 0 0, .slice none 0 0] (some ⟨b, off, none⟩) (k + 4) zs wr ∧ RdI wr sa (2 * n) m Fm ∧ B0 ≤ wr.heap.size ∧ wr.ownsRow B0 61 2 v j ((flat (pairsTo m j)).map (Value.int .i64)))) (fun i _ => 2 * n - (intOf i).toNat)
      case atStart => exact ⟨0, .slice none 0 0, by omega, rfl, HA3.out, HM.out, Nat.le_of_eq HB0.out.symm, World.ownsRow_nil _ _ _ _⟩
      case round =>
        obtain ⟨j, v, hj, rfl, HO⟩ := hrel
        by_cases hlt : j < n
        · have hI : 2 * (j : Int) + 1 < ((2 * n : Nat) : Int) := by omega
          obtain ⟨gs, os, rfl⟩ := HO.out.2.1.addr (by omega)
          obtain ⟨y0, hy0⟩ : ∃ x, x = m.getD (2 * j) 0 := ⟨_, rfl⟩
          obtain ⟨y1, hy1⟩ : ∃ x, x = m.getD (2 * j + 1) 0 := ⟨_, rfl⟩
          have HPS : Hid (pairsTo m (j + 1) = pairsTo m j ++ [(y0, y1)]) := by show _ = _; rw [pairsTo, hy0, hy1]
          have HTW : Hid (∀ W, RdI W (some ⟨gs, os, none⟩) (2 * n) m Fm → TwoHeld gs (os + 2 * j) y0 y1 W) := fun W h => by
            rcases h.cells with ⟨q, _⟩ | ⟨b', off', _, e, _, hc⟩
            · omega
            · cases e
              exact ⟨by rw [hy0]; exact hc (2 * j) (by omega), by rw [hy1]; exact hc (2 * j + 1) (by omega)⟩
          clear hy0 hy1
          go_wp2_with fail
          have HOd : Hid (FoW w T #[.int .i64 x0, .int .i64 x1, .int .i64 x2, .int .i64 x3, v, .int .i64 0, .int .i64 0, .int .i64 0, .int .i64 0, .int .i64 0, .int .i64 0, .int .i64 0, .int .i64 0, .slice none 0 0, .slice none 0 0, .slice none 0 0] (some ⟨b, off, none⟩) (k + 4) zs wr.drew ∧ RdI wr.drew (some ⟨gs, os, none⟩) (2 * n) m Fm ∧ B0 ≤ wr.drew.heap.size ∧ wr.drew.ownsRow B0 61 2 v j ((flat (pairsTo m j)).map (Value.int .i64))) := ⟨HO.out.1.below (Below.refl _ _).drew, HO.out.2.1.below (Below.refl _ _).drew, HO.out.2.2.1, HO.out.2.2.2⟩
          have tJ : ((2 * (j : Int)).toNat) = 2 * j := by omega
          have tJ1 : ((2 * (j : Int) + 1).toNat) = 2 * j + 1 := by omega
          obtain ⟨Y, hY⟩ : ∃ Y, Y = wr.drew := ⟨_, rfl⟩
          rw [← hY] at HOd
          clear HO
          refine wp_region_held (S := TwoHeld gs (os + 2 * j) y0 y1) (by kernel_rfl) ?_
          change wpAnyH _ _ _ _ _ _ _ _ (World.drew _)
          rw [← hY]
          clear hY
          refine takeH (o := ?o54) 0 (.pointer (some ⟨T, 4, none⟩)) ?h54 ?r54
          case h54 => simp only [aT, aZ]; rfl
          refine ⟨_, by simp [Act.put]; rfl, by kernel_rfl, by kernel_rfl, by kernel_rfl, fun _ _ _ h => h, (.inl ⟨rfl, fun W _ => by kernel_rfl⟩), (HTW.out _ HOd.out.2.1), ?_⟩
          refine takeH (o := ?o55) 2 (.slice (some ⟨gs, os, none⟩) (2 * n) cm) ?h55 ?r55
          case h55 => simp only [aT, aS, aZ]; rfl
          refine ⟨_, by simp [Act.put]; rfl, by kernel_rfl, by kernel_rfl, by kernel_rfl, fun _ _ _ h => h, (.inl ⟨rfl, fun W _ => by kernel_rfl⟩), (HTW.out _ HOd.out.2.1), ?_⟩
          refine takeH (o := ?o56) 3 (.int .i64 (2 * (j : Int))) ?h56 ?r56
          case h56 => simp only [aT, aS, aZ]; rfl
          refine ⟨_, by simp [Act.put]; rfl, by kernel_rfl, by kernel_rfl, by kernel_rfl, fun _ _ _ h => h, (.inl ⟨rfl, fun W _ => by kernel_rfl⟩), (HTW.out _ HOd.out.2.1), ?_⟩
          refine takeH (o := ?o57) 4 (.pointer (some ⟨gs, os + 2 * j, none⟩)) ?h57 ?r57
          case h57 => simp only [aT, aS, aZ]; rfl
          refine ⟨_, by simp [Act.put]; rfl, by kernel_rfl, by kernel_rfl, by kernel_rfl, fun _ _ _ h => h, (.inl ⟨rfl, fun W _ => by go_simp; first | done | (intro h; omega) | (rw [if_pos (by omega)]; rfl)⟩), (HTW.out _ HOd.out.2.1), ?_⟩
          refine takeH (o := ?o58) 5 (.int .i64 y0) ?h58 ?r58
          case h58 => simp only [aT, aS, aZ]; rfl
          refine ⟨_, by simp [Act.put]; rfl, by kernel_rfl, by kernel_rfl, by kernel_rfl, fun _ _ _ h => h, (.inl ⟨rfl, fun W hW => by have c := hW.1; go_simp⟩), (HTW.out _ HOd.out.2.1), ?_⟩
          refine takeH (o := ?o59) 6 (.slice (some ⟨gs, os, none⟩) (2 * n) cm) ?h59 ?r59
          case h59 => simp only [aT, aS, aZ]; rfl
          refine ⟨_, by simp [Act.put]; rfl, by kernel_rfl, by kernel_rfl, by kernel_rfl, fun _ _ _ h => h, (.inl ⟨rfl, fun W _ => by kernel_rfl⟩), (HTW.out _ HOd.out.2.1), ?_⟩
          refine takeH (o := ?o60) 7 (.int .i64 (2 * (j : Int))) ?h60 ?r60
          case h60 => simp only [aT, aS, aZ]; rfl
          refine ⟨_, by simp [Act.put]; rfl, by kernel_rfl, by kernel_rfl, by kernel_rfl, fun _ _ _ h => h, (.inl ⟨rfl, fun W _ => by kernel_rfl⟩), (HTW.out _ HOd.out.2.1), ?_⟩
          refine takeH (o := ?o61) 8 (.int .i64 (2 * (j : Int) + 1)) ?h61 ?r61
          case h61 => simp only [aT, aS, aZ]; rfl
          refine ⟨_, by simp [Act.put]; rfl, by kernel_rfl, by kernel_rfl, by kernel_rfl, fun _ _ _ h => h, (.inl ⟨rfl, fun W _ => by go_simp; first | done | (refine wrapO ?_; omega)⟩), (HTW.out _ HOd.out.2.1), ?_⟩
          refine takeH (o := ?o62) 9 (.pointer (some ⟨gs, os + 2 * j + 1, none⟩)) ?h62 ?r62
          case h62 => simp only [aT, aS, aZ]; rfl
          refine ⟨_, by simp [Act.put]; rfl, by kernel_rfl, by kernel_rfl, by kernel_rfl, fun _ _ _ h => h, (.inl ⟨rfl, fun W _ => by go_simp; first | done | (intro h; omega) | (rw [if_pos (by omega)]; rfl)⟩), (HTW.out _ HOd.out.2.1), ?_⟩
          refine takeH (o := ?o63) 10 (.int .i64 y1) ?h63 ?r63
          case h63 => simp only [aT, aS, aZ]; rfl
          refine ⟨_, by simp [Act.put]; rfl, by kernel_rfl, by kernel_rfl, by kernel_rfl, fun _ _ _ h => h, (.inl ⟨rfl, fun W hW => by have c := hW.2; go_simp⟩), (HTW.out _ HOd.out.2.1), ?_⟩
          refine takeH (o := ?o64) 11 (.agg #[.int .i64 y0, .int .i64 y1]) ?h64 ?r64
          case h64 => simp only [aT, aS, aZ]; rfl
          refine ⟨_, by simp [Act.put]; rfl, by kernel_rfl, by kernel_rfl, by kernel_rfl, fun _ _ _ h => h, (.inl ⟨rfl, fun W _ => by kernel_rfl⟩), (HTW.out _ HOd.out.2.1), ?_⟩
          refine twoH (o := ?o65) (o' := ?p65) 1 12 (by kernel_rfl) ?h65 ?g65 ?r65 ?s65
          case h65 => simp only [aT, aS, aZ]; rfl
          case g65 => simp only [aT, aS, aZ]; rfl
          case r65 =>
            intro K hK
            have cv := HOd.out.1.loc.cell 4
            simp only [aT, aS, aZ] at cv
            refine op_value v rfl (by go_simp) ⟨_, by simp [Act.put]; rfl, hK _ _ ⟨HTW.out _ HOd.out.2.1, ?_⟩⟩
            clear hK cv
            refine onlyH (o := ?o66) 12 (by kernel_rfl) ?h66 ?r66
            case h66 => simp only [aT, aS, aZ]; rfl
            intro K hK
            have bA : Below Y.heap.size Y (Y.alloc (.cells #[.int .i64 y0, .int .i64 y1] 61)) := (Below.refl _ _).alloc (Nat.le_refl _) _
            have HOa : Hid (FoW w T #[.int .i64 x0, .int .i64 x1, .int .i64 x2, .int .i64 x3, v, .int .i64 0, .int .i64 0, .int .i64 0, .int .i64 0, .int .i64 0, .int .i64 0, .int .i64 0, .int .i64 0, .slice none 0 0, .slice none 0 0, .slice none 0 0] (some ⟨b, off, none⟩) (k + 4) zs (Y.alloc (.cells #[.int .i64 y0, .int .i64 y1] 61)) ∧ RdI (Y.alloc (.cells #[.int .i64 y0, .int .i64 y1] 61)) (some ⟨gs, os, none⟩) (2 * n) m Fm ∧ B0 ≤ (Y.alloc (.cells #[.int .i64 y0, .int .i64 y1] 61)).heap.size ∧ (Y.alloc (.cells #[.int .i64 y0, .int .i64 y1] 61)).ownsRow B0 61 2 v j ((flat (pairsTo m j)).map (Value.int .i64))) := ⟨HOd.out.1.below bA, HOd.out.2.1.below bA, Nat.le_trans HOd.out.2.2.1 bA.size, World.ownsRow.alloc (w := Y) HOd.out.2.2.2 _⟩
            refine op_turn (.slice (some ⟨Y.heap.size, 0, none⟩) 1 1) (Y.alloc (.cells #[.int .i64 y0, .int .i64 y1] 61)) rfl (by kernel_rfl) ⟨_, by simp [Act.put]; rfl, hK _ _ ⟨HTW.out _ HOa.out.2.1, ?_⟩⟩
            clear hK bA
            clear HOd
            refine onlyH (o := ?o67) 13 (by kernel_rfl) ?h67 ?r67
            case h67 => simp only [aT, aS, aZ]; rfl
            intro K hK
            refine op_append7 _ _ 24 rfl rfl B0 61 i0 (.agg #[.int .i64 0, .int .i64 0]) 2 16 Tryz.underlying24 hi hz0 hz1 hz2 rfl (by decide) _ _ _ rfl HOa.out.2.2.2 ⟨Y.heap.size, 0, none⟩ 1 1 [.int .i64 y0, .int .i64 y1] rfl rfl (cell_new2 Y (.int .i64 y0) (.int .i64 y1) _) (by intro u hu; simp at hu; rcases hu with rfl | rfl <;> rfl) (by unfold maxLen; omega) (by omega) HOa.out.2.2.1 ?_
            intro v2 Y2 hown hgrow
            obtain ⟨pv, kv, Fv, rfl, _, _, _⟩ := rdP_of_own (ps := pairsTo m j ++ [(y0, y1)]) (by rw [flat_append, List.map_append]; exact hown)
            have ob : ∀ g, v.ownBlock = some g → B0 ≤ g := fun g hg => (HOa.out.2.2.2.lt g hg).1
            have HOb : Hid (FoW w T #[.int .i64 x0, .int .i64 x1, .int .i64 x2, .int .i64 x3, v, .int .i64 0, .int .i64 0, .int .i64 0, .int .i64 0, .int .i64 0, .int .i64 0, .int .i64 0, .int .i64 0, .slice none 0 0, .slice none 0 0, .slice none 0 0] (some ⟨b, off, none⟩) (k + 4) zs Y2 ∧ RdI Y2 (some ⟨gs, os, none⟩) (2 * n) m Fm ∧ B0 ≤ Y2.heap.size ∧ Y2.ownsRow B0 61 2 (.slice pv (j + 1) kv) (j + 1) ((flat (pairsTo m (j + 1))).map (Value.int .i64))) := by
              have o := HOa.out.1.ord
              have bl := HOa.out.1.bel.grown hgrow HOa.out.1.bel.size (fun g hg => by have := ob g hg; omega)
              refine ⟨⟨HOa.out.1.res.agree (hgrow.block _ HOa.out.1.res.lt (fun e => by have := ob _ e.symm; omega)), HOa.out.1.loc.agree (hgrow.block _ HOa.out.1.loc.lt (fun e => by have := ob _ e.symm; omega)), HR.out.below bl, bl, o⟩, HOa.out.2.1.agree (fun x hx => hgrow.block x (HOa.out.2.1.lt x hx) (fun e => by have := ob _ e.symm; have := HFm.out x hx; omega)), Nat.le_trans HOa.out.2.2.1 hgrow.size, ?_⟩
              rw [HPS.out, flat_append, List.map_append]
              exact hown
            clear hown hgrow ob
            refine ⟨_, by simp [Act.put]; rfl, hK _ _ ⟨HTW.out _ HOb.out.2.1, ?_⟩⟩
            clear hK HOa
            refine takeH (o := ?o68) 14 (.pointer (some ⟨T, 4, none⟩)) ?h68 ?r68
            case h68 => simp only [aT, aS, aZ]; rfl
            refine ⟨_, by simp [Act.put]; rfl, by kernel_rfl, by kernel_rfl, by kernel_rfl, fun _ _ _ h => h, (.inl ⟨rfl, fun W _ => by kernel_rfl⟩), (HTW.out _ HOb.out.2.1), ?_⟩
            refine onlyH (o := ?o69) 15 (by kernel_rfl) ?h69 ?r69
            case h69 => simp only [aT, aS, aZ]; rfl
            intro K hK
            have HOc : Hid (FoW w T #[.int .i64 x0, .int .i64 x1, .int .i64 x2, .int .i64 x3, (.slice pv (j + 1) kv), .int .i64 0, .int .i64 0, .int .i64 0, .int .i64 0, .int .i64 0, .int .i64 0, .int .i64 0, .int .i64 0, .slice none 0 0, .slice none 0 0, .slice none 0 0] (some ⟨b, off, none⟩) (k + 4) zs (Y2.setCell ⟨T, 4, none⟩ (.slice pv (j + 1) kv)) ∧ RdI (Y2.setCell ⟨T, 4, none⟩ (.slice pv (j + 1) kv)) (some ⟨gs, os, none⟩) (2 * n) m Fm ∧ B0 ≤ (Y2.setCell ⟨T, 4, none⟩ (.slice pv (j + 1) kv)).heap.size ∧ (Y2.setCell ⟨T, 4, none⟩ (.slice pv (j + 1) kv)).ownsRow B0 61 2 (.slice pv (j + 1) kv) (j + 1) ((flat (pairsTo m (j + 1))).map (Value.int .i64))) := ⟨HOb.out.1.set HR.out 4 _, HOb.out.2.1.agree (.set (fun hx => by have := HTm.out; exact this hx) _ _), by simpa using HOb.out.2.2.1, own_setO HOb.out.2.2.2 HTT.out⟩
            have cc := HOb.out.1.loc.cell 4
            have ff := HOb.out.1.loc.frozen 4
            simp only [aT, aS, aZ] at cc
            refine op_skip (Y2.setCell ⟨T, 4, none⟩ (.slice pv (j + 1) kv)) rfl (by go_simp) ⟨_, by simp [Act.put]; rfl, hK _ _ ⟨HTW.out _ HOc.out.2.1, ?_⟩⟩
            clear hK cc ff HOb
            refine wpAnyH_done (by kernel_rfl) ?_ _
            obtain ⟨Y3, hY3⟩ : ∃ Z, Z = Y2.setCell ⟨T, 4, none⟩ (.slice pv (j + 1) kv) := ⟨_, rfl⟩
            rw [← hY3] at HOc ⊢
            clear hY3
            go_wp2
            all_goals
              go_roundw
              case rel => first | exact ⟨j + 1, .slice pv (j + 1) kv, by omega, by go_num, HOc.out⟩ | ((repeat apply Exists.intro); exact ⟨⟨j + 1, .slice pv (j + 1) kv, by omega, by go_num, HOc.out⟩, rfl⟩)
              case measure => simp [intOf]; omega
          case s65 =>
            intro K hK
            have bA : Below Y.heap.size Y (Y.alloc (.cells #[.int .i64 y0, .int .i64 y1] 61)) := (Below.refl _ _).alloc (Nat.le_refl _) _
            have HOa : Hid (FoW w T #[.int .i64 x0, .int .i64 x1, .int .i64 x2, .int .i64 x3, v, .int .i64 0, .int .i64 0, .int .i64 0, .int .i64 0, .int .i64 0, .int .i64 0, .int .i64 0, .int .i64 0, .slice none 0 0, .slice none 0 0, .slice none 0 0] (some ⟨b, off, none⟩) (k + 4) zs (Y.alloc (.cells #[.int .i64 y0, .int .i64 y1] 61)) ∧ RdI (Y.alloc (.cells #[.int .i64 y0, .int .i64 y1] 61)) (some ⟨gs, os, none⟩) (2 * n) m Fm ∧ B0 ≤ (Y.alloc (.cells #[.int .i64 y0, .int .i64 y1] 61)).heap.size ∧ (Y.alloc (.cells #[.int .i64 y0, .int .i64 y1] 61)).ownsRow B0 61 2 v j ((flat (pairsTo m j)).map (Value.int .i64))) := ⟨HOd.out.1.below bA, HOd.out.2.1.below bA, Nat.le_trans HOd.out.2.2.1 bA.size, World.ownsRow.alloc (w := Y) HOd.out.2.2.2 _⟩
            refine op_turn (.slice (some ⟨Y.heap.size, 0, none⟩) 1 1) (Y.alloc (.cells #[.int .i64 y0, .int .i64 y1] 61)) rfl (by kernel_rfl) ⟨_, by simp [Act.put]; rfl, hK _ _ ⟨HTW.out _ HOa.out.2.1, ?_⟩⟩
            clear hK bA
            clear HOd
            refine onlyH (o := ?o70) 1 (by kernel_rfl) ?h70 ?r70
            case h70 => simp only [aT, aS, aZ]; rfl
            intro K hK
            have cv := HOa.out.1.loc.cell 4
            simp only [aT, aS, aZ] at cv
            refine op_value v rfl (by go_simp) ⟨_, by simp [Act.put]; rfl, hK _ _ ⟨HTW.out _ HOa.out.2.1, ?_⟩⟩
            clear hK cv
            refine onlyH (o := ?o71) 13 (by kernel_rfl) ?h71 ?r71
            case h71 => simp only [aT, aS, aZ]; rfl
            intro K hK
            refine op_append7 _ _ 24 rfl rfl B0 61 i0 (.agg #[.int .i64 0, .int .i64 0]) 2 16 Tryz.underlying24 hi hz0 hz1 hz2 rfl (by decide) _ _ _ rfl HOa.out.2.2.2 ⟨Y.heap.size, 0, none⟩ 1 1 [.int .i64 y0, .int .i64 y1] rfl rfl (cell_new2 Y (.int .i64 y0) (.int .i64 y1) _) (by intro u hu; simp at hu; rcases hu with rfl | rfl <;> rfl) (by unfold maxLen; omega) (by omega) HOa.out.2.2.1 ?_
            intro v2 Y2 hown hgrow
            obtain ⟨pv, kv, Fv, rfl, _, _, _⟩ := rdP_of_own (ps := pairsTo m j ++ [(y0, y1)]) (by rw [flat_append, List.map_append]; exact hown)
            have ob : ∀ g, v.ownBlock = some g → B0 ≤ g := fun g hg => (HOa.out.2.2.2.lt g hg).1
            have HOb : Hid (FoW w T #[.int .i64 x0, .int .i64 x1, .int .i64 x2, .int .i64 x3, v, .int .i64 0, .int .i64 0, .int .i64 0, .int .i64 0, .int .i64 0, .int .i64 0, .int .i64 0, .int .i64 0, .slice none 0 0, .slice none 0 0, .slice none 0 0] (some ⟨b, off, none⟩) (k + 4) zs Y2 ∧ RdI Y2 (some ⟨gs, os, none⟩) (2 * n) m Fm ∧ B0 ≤ Y2.heap.size ∧ Y2.ownsRow B0 61 2 (.slice pv (j + 1) kv) (j + 1) ((flat (pairsTo m (j + 1))).map (Value.int .i64))) := by
              have o := HOa.out.1.ord
              have bl := HOa.out.1.bel.grown hgrow HOa.out.1.bel.size (fun g hg => by have := ob g hg; omega)
              refine ⟨⟨HOa.out.1.res.agree (hgrow.block _ HOa.out.1.res.lt (fun e => by have := ob _ e.symm; omega)), HOa.out.1.loc.agree (hgrow.block _ HOa.out.1.loc.lt (fun e => by have := ob _ e.symm; omega)), HR.out.below bl, bl, o⟩, HOa.out.2.1.agree (fun x hx => hgrow.block x (HOa.out.2.1.lt x hx) (fun e => by have := ob _ e.symm; have := HFm.out x hx; omega)), Nat.le_trans HOa.out.2.2.1 hgrow.size, ?_⟩
              rw [HPS.out, flat_append, List.map_append]
              exact hown
            clear hown hgrow ob
            refine ⟨_, by simp [Act.put]; rfl, hK _ _ ⟨HTW.out _ HOb.out.2.1, ?_⟩⟩
            clear hK HOa
            refine takeH (o := ?o72) 14 (.pointer (some ⟨T, 4, none⟩)) ?h72 ?r72
            case h72 => simp only [aT, aS, aZ]; rfl
            refine ⟨_, by simp [Act.put]; rfl, by kernel_rfl, by kernel_rfl, by kernel_rfl, fun _ _ _ h => h, (.inl ⟨rfl, fun W _ => by kernel_rfl⟩), (HTW.out _ HOb.out.2.1), ?_⟩
            refine onlyH (o := ?o73) 15 (by kernel_rfl) ?h73 ?r73
            case h73 => simp only [aT, aS, aZ]; rfl
            intro K hK
            have HOc : Hid (FoW w T #[.int .i64 x0, .int .i64 x1, .int .i64 x2, .int .i64 x3, (.slice pv (j + 1) kv), .int .i64 0, .int .i64 0, .int .i64 0, .int .i64 0, .int .i64 0, .int .i64 0, .int .i64 0, .int .i64 0, .slice none 0 0, .slice none 0 0, .slice none 0 0] (some ⟨b, off, none⟩) (k + 4) zs (Y2.setCell ⟨T, 4, none⟩ (.slice pv (j + 1) kv)) ∧ RdI (Y2.setCell ⟨T, 4, none⟩ (.slice pv (j + 1) kv)) (some ⟨gs, os, none⟩) (2 * n) m Fm ∧ B0 ≤ (Y2.setCell ⟨T, 4, none⟩ (.slice pv (j + 1) kv)).heap.size ∧ (Y2.setCell ⟨T, 4, none⟩ (.slice pv (j + 1) kv)).ownsRow B0 61 2 (.slice pv (j + 1) kv) (j + 1) ((flat (pairsTo m (j + 1))).map (Value.int .i64))) := ⟨HOb.out.1.set HR.out 4 _, HOb.out.2.1.agree (.set (fun hx => by have := HTm.out; exact this hx) _ _), by simpa using HOb.out.2.2.1, own_setO HOb.out.2.2.2 HTT.out⟩
            have cc := HOb.out.1.loc.cell 4
            have ff := HOb.out.1.loc.frozen 4
            simp only [aT, aS, aZ] at cc
            refine op_skip (Y2.setCell ⟨T, 4, none⟩ (.slice pv (j + 1) kv)) rfl (by go_simp) ⟨_, by simp [Act.put]; rfl, hK _ _ ⟨HTW.out _ HOc.out.2.1, ?_⟩⟩
            clear hK cc ff HOb
            refine wpAnyH_done (by kernel_rfl) ?_ _
            obtain ⟨Y3, hY3⟩ : ∃ Z, Z = Y2.setCell ⟨T, 4, none⟩ (.slice pv (j + 1) kv) := ⟨_, rfl⟩
            rw [← hY3] at HOc ⊢
            clear hY3
            go_wp2
            all_goals
              go_roundw
              case rel => first | exact ⟨j + 1, .slice pv (j + 1) kv, by omega, by go_num, HOc.out⟩ | ((repeat apply Exists.intro); exact ⟨⟨j + 1, .slice pv (j + 1) kv, by omega, by go_num, HOc.out⟩, rfl⟩)
              case measure => simp [intOf]; omega
        · obtain rfl : j = n := by omega
          have hI : ¬ 2 * (j : Int) + 1 < ((2 * j : Nat) : Int) := by omega
          have hId : decide (2 * (j : Int) + 1 < ((2 * j : Nat) : Int)) = false := dec_false hI
          obtain ⟨bb, cc, FF, rfl, hrp, hoo, hcd⟩ := rdP_of_own HO.out.2.2.2
          have HP : Hid (FoW w T #[.int .i64 x0, .int .i64 x1, .int .i64 x2, .int .i64 x3, .slice bb j cc, .int .i64 0, .int .i64 0, .int .i64 0, .int .i64 0, .int .i64 0, .int .i64 0, .int .i64 0, .int .i64 0, .slice none 0 0, .slice none 0 0, .slice none 0 0] (some ⟨b, off, none⟩) (k + 4) zs wr ∧ RdP wr bb j (pairsTo m j) FF ∧ Own B0 wr FF ∧ Capd bb j cc ∧ B0 ≤ wr.heap.size) := ⟨HO.out.1, hrp, hoo, hcd, HO.out.2.2.1⟩
          clear hrp hoo hcd HO hlt hj
          have ck := HP.out.1.loc.cell 0
          simp only [aT, aZ] at ck
          by_cases hk1 : x0 = 1
          · subst hk1
            go_wp2_with fail
            refine (l7Get_any (some ⟨b, off, none⟩) k cap p2 4 B _ (HSB.out _ HP.out.1.bel) (by omega) (by omega)).mono ?_
            rintro e w7 ⟨⟨v, t, q, rfl, hown, hg⟩, hb7⟩
            have HP7 : Hid (FoW w T #[.int .i64 1, .int .i64 x1, .int .i64 x2, .int .i64 x3, .slice bb j cc, .int .i64 0, .int .i64 0, .int .i64 0, .int .i64 0, .int .i64 0, .int .i64 0, .int .i64 0, .int .i64 0, .slice none 0 0, .slice none 0 0, .slice none 0 0] (some ⟨b, off, none⟩) (k + 4) zs w7 ∧ RdP w7 bb j (pairsTo m j) FF ∧ Own B0 w7 FF ∧ Capd bb j cc ∧ B0 ≤ w7.heap.size) := ⟨HP.out.1.below hb7, HP.out.2.1.below hb7, HP.out.2.2.1.below HP.out.2.1.lt hb7, HP.out.2.2.2.1, Nat.le_trans HP.out.2.2.2.2 hb7.size⟩
            have hBr : B0 ≤ wr.heap.size := HP.out.2.2.2.2
            clear hb7 HP ck
            cases hgt : getTo B p2 4 with
            | none =>
              have HV : Hid (FrIs zs Fr.zero false) := by
                show FrIs _ _ _
                rw [HB.out]
                exact of_item HG.out HN.out HG2.out HX.out.1.symm hgt
              clear hgt hg hown
              simp only [Option.isSome]
              go_wp2_with (first | go_skip | (with_reducible refine stopStore 32 rfl ?_))
              refine store_known 32 w.heap.size _ #[.int .i64 0, .int .i64 0, .int .i64 0, .int .i64 0, .slice none 0 0, .int .i64 0, .int .i64 0, .int .i64 0, .int .i64 0, .int .i64 0, .int .i64 0, .int .i64 0, .int .i64 0, .slice none 0 0, .slice none 0 0, .slice none 0 0] 32 HP7.out.1.res rfl rfl rfl rfl infoFrO7 rfl (by simp [Value.oneCell']) ?_
              go_wp2
              refine bodyPost_ret (results_row_tmp Tryz.results11 _ _ w.heap.size _ _ _ _ rfl (Blk.setRow HP7.out.1.res) Tryz.underlying32 rfl infoFrO7) rfl ?_
              exact ⟨_, Fr.zero, false, [], [], rfl, rdFr_zero _, Own.nil, Own.nil, by simp, below_setRow HP7.out.1.bel (Nat.le_refl _) _, HV.out⟩
            | some r =>
              obtain ⟨t', q'⟩ := r
              rw [hgt] at hg
              simp only [Option.getD] at hg
              cases hg
              simp only [Option.isSome]
              have HG3 : Hid (getTo B p2 4 = some (t, q)) := hgt
              have iv := getTo_inv HRG.out.1 (p := p2) (by rw [HRG.out.2.2.1]; omega) hgt
              have lt : t.length = 4 := getTo_len hgt
              obtain ⟨p3, hp3⟩ : ∃ p : Nat, p = p2 + (putAll t).length := ⟨_, rfl⟩
              have eq3 : q = (p3 : Int) := by rw [iv.2.1, hp3]
              subst eq3
              have hp3k : p3 ≤ k := by have := iv.2.2.1; rw [HRG.out.2.2.1] at this; omega
              rw [lt] at hown
              obtain ⟨gt, ct, rfl, hct⟩ := own_shape7 hown (by omega)
              obtain ⟨Ft, hrt, _, _⟩ := RdI.of_own hown
              have hgt1 := (hown.lt gt rfl).1
              have hgt2 := (hown.lt gt rfl).2
              have HS1 : Hid (RdI w7 (some ⟨gt, 0, none⟩) 4 t [gt]) := by
                rcases hrt.cells with ⟨h0, _⟩ | ⟨b', off', hp, e, hF, hc⟩
                · omega
                · cases e; exact ⟨hrt.length, .inr ⟨gt, 0, hp, rfl, rfl, hc⟩⟩
              clear hown hrt hgt iv hp3 lt
              have h3c : ¬ cap = p3 := by omega
              have h3d : (p3 : Int) ≤ (k : Int) := by omega
              have HSB3 : Hid (∀ W, Below w.heap.size w W → RdB W (some ⟨b, off + p3, none⟩) (k - p3) (B.drop p3)) := fun W hb => (HSB.out W hb).drop (by omega)
              go_wp2_with fail
              refine (sketchOfSpec_any (some ⟨b, off + p3, none⟩) (k - p3) (cap - p3) (B.drop p3) _ (HSB3.out _ HP7.out.1.bel) (by omega)).mono ?_
              rintro e w8 ⟨v8, s, d8, F8, rfl, rs, os, b8, hIs⟩
              have HIS : Hid (SkIs (B.drop p3) s d8) := hIs
              obtain ⟨a1, n1, c1, a2, n2, c2, a3, n3, c3, F1, F2, F3, rfl, hh1, hh2, hh3, hF8⟩ := rs
              have HS8 : Hid (RdSk w8 (.agg #[.int .i64 s.count, .int .i64 s.sum, .int .i64 s.min, .int .i64 s.max, .slice a1 n1 c1, .slice a2 n2 c2, .slice a3 n3 c3]) s F8 ∧ Own w7.heap.size w8 F8) := ⟨⟨a1, n1, c1, a2, n2, c2, a3, n3, c3, F1, F2, F3, rfl, hh1, hh2, hh3, hF8⟩, os⟩
              have HP8 : Hid (FoW w T #[.int .i64 1, .int .i64 x1, .int .i64 x2, .int .i64 x3, .slice bb j cc, .int .i64 0, .int .i64 0, .int .i64 0, .int .i64 0, .int .i64 0, .int .i64 0, .int .i64 0, .int .i64 0, .slice none 0 0, .slice none 0 0, .slice none 0 0] (some ⟨b, off, none⟩) (k + 4) zs w8 ∧ RdP w8 bb j (pairsTo m j) FF ∧ Own B0 w8 FF ∧ Capd bb j cc ∧ B0 ≤ w7.heap.size ∧ RdI w8 (some ⟨gt, 0, none⟩) 4 t [gt] ∧ (∀ b ∈ FF, b < w7.heap.size) ∧ w7.heap.size ≤ w8.heap.size) := ⟨HP7.out.1.below b8, HP7.out.2.1.below b8, HP7.out.2.2.1.below HP7.out.2.1.lt b8, HP7.out.2.2.2.1, HP7.out.2.2.2.2, HS1.out.below b8, HP7.out.2.1.lt, b8.size⟩
              clear os b8 hIs hh1 hh2 hh3 hF8 HP7 HS1
              go_wp2_with (first | go_skip | (with_reducible refine stopStore 28 rfl ?_))
              refine store_fresh 28 w8.heap.size rfl #[.int .i64 0, .int .i64 0, .int .i64 0, .int .i64 0, .slice none 0 0, .slice none 0 0, .slice none 0 0] #[.int .i64 s.count, .int .i64 s.sum, .int .i64 s.min, .int .i64 s.max, .slice a1 n1 c1, .slice a2 n2 c2, .slice a3 n3 c3] 28 rfl rfl rfl rfl infoSkI rfl (by simp [Value.oneCell']) ?_
              intro W8 hg8 hb8
              have HQ : Hid (FoW w T #[.int .i64 1, .int .i64 x1, .int .i64 x2, .int .i64 x3, .slice bb j cc, .int .i64 0, .int .i64 0, .int .i64 0, .int .i64 0, .int .i64 0, .int .i64 0, .int .i64 0, .int .i64 0, .slice none 0 0, .slice none 0 0, .slice none 0 0] (some ⟨b, off, none⟩) (k + 4) zs W8 ∧ RdP W8 bb j (pairsTo m j) FF ∧ Own B0 W8 FF ∧ Capd bb j cc ∧ B0 ≤ w7.heap.size ∧ RdI W8 (some ⟨gt, 0, none⟩) 4 t [gt] ∧ (∀ b ∈ FF, b < w7.heap.size) ∧ Blk W8 w8.heap.size #[.int .i64 s.count, .int .i64 s.sum, .int .i64 s.min, .int .i64 s.max, .slice a1 n1 c1, .slice a2 n2 c2, .slice a3 n3 c3] 28 ∧ RdSk W8 (.agg #[.int .i64 s.count, .int .i64 s.sum, .int .i64 s.min, .int .i64 s.max, .slice a1 n1 c1, .slice a2 n2 c2, .slice a3 n3 c3]) s F8 ∧ Own w7.heap.size W8 F8) := ⟨HP8.out.1.below hb8, HP8.out.2.1.below hb8, HP8.out.2.2.1.below HP8.out.2.1.lt hb8, HP8.out.2.2.2.1, HP8.out.2.2.2.2.1, HP8.out.2.2.2.2.2.1.below hb8, HP8.out.2.2.2.2.2.2.1, hg8, HS8.out.1.below hb8, HS8.out.2.below HS8.out.1.lt hb8⟩
              obtain ⟨T2, hT2⟩ : ∃ T2, T2 = w8.heap.size := ⟨_, rfl⟩
              rw [← hT2] at HQ ⊢
              have hT27 : w7.heap.size ≤ T2 := by rw [hT2]; exact HP8.out.2.2.2.2.2.2.2
              clear hg8 hb8 HP8 HS8 hT2
              cases d8
              · have HV : Hid (FrIs zs Fr.zero false) := by
                  show FrIs _ _ _
                  rw [HB.out]
                  exact of_sketch HG.out HN.out HG2.out HX.out.1.symm HG3.out HIS.out
                go_wp2_with (first | go_skip | (with_reducible refine stopStore 32 rfl ?_))
                refine store_known 32 w.heap.size _ #[.int .i64 0, .int .i64 0, .int .i64 0, .int .i64 0, .slice none 0 0, .int .i64 0, .int .i64 0, .int .i64 0, .int .i64 0, .int .i64 0, .int .i64 0, .int .i64 0, .int .i64 0, .slice none 0 0, .slice none 0 0, .slice none 0 0] 32 HQ.out.1.res rfl rfl rfl rfl infoFrO7 rfl (by simp [Value.oneCell']) ?_
                go_wp2
                refine bodyPost_ret (results_row_tmp Tryz.results11 _ _ w.heap.size _ _ _ _ rfl (Blk.setRow HQ.out.1.res) Tryz.underlying32 rfl infoFrO7) rfl ?_
                exact ⟨_, Fr.zero, false, [], [], rfl, rdFr_zero _, Own.nil, Own.nil, by simp, below_setRow HQ.out.1.bel (Nat.le_refl _) _, HV.out⟩
              obtain ⟨y0, hy0⟩ : ∃ x, x = t.getD 0 0 := ⟨_, rfl⟩
              obtain ⟨y1, hy1⟩ : ∃ x, x = t.getD 1 0 := ⟨_, rfl⟩
              obtain ⟨y2, hy2⟩ : ∃ x, x = t.getD 2 0 := ⟨_, rfl⟩
              obtain ⟨y3, hy3⟩ : ∃ x, x = t.getD 3 0 := ⟨_, rfl⟩
              have HY : Hid (y0 = t.getD 0 0 ∧ y1 = t.getD 1 0 ∧ y2 = t.getD 2 0 ∧ y3 = t.getD 3 0) := ⟨hy0, hy1, hy2, hy3⟩
              clear hy0 hy1 hy2 hy3
              have HKY : Hid (∀ W, RdI W (some ⟨gt, 0, none⟩) 4 t [gt] → NumHeld gt 0 y0 y1 y2 y3 W) := fun W r => by rw [HY.out.1, HY.out.2.1, HY.out.2.2.1, HY.out.2.2.2]; exact r.numHeld (by omega)
              go_wp2_with fail
              have HQd : Hid (FoW w T #[.int .i64 1, .int .i64 x1, .int .i64 x2, .int .i64 x3, .slice bb j cc, .int .i64 0, .int .i64 0, .int .i64 0, .int .i64 0, .int .i64 0, .int .i64 0, .int .i64 0, .int .i64 0, .slice none 0 0, .slice none 0 0, .slice none 0 0] (some ⟨b, off, none⟩) (k + 4) zs W8.drew ∧ RdP W8.drew bb j (pairsTo m j) FF ∧ Own B0 W8.drew FF ∧ Blk W8.drew T2 #[.int .i64 s.count, .int .i64 s.sum, .int .i64 s.min, .int .i64 s.max, .slice a1 n1 c1, .slice a2 n2 c2, .slice a3 n3 c3] 28 ∧ RdSk W8.drew (.agg #[.int .i64 s.count, .int .i64 s.sum, .int .i64 s.min, .int .i64 s.max, .slice a1 n1 c1, .slice a2 n2 c2, .slice a3 n3 c3]) s F8 ∧ Own w7.heap.size W8.drew F8 ∧ NumHeld gt 0 y0 y1 y2 y3 W8.drew) := ⟨HQ.out.1.below (Below.refl _ _).drew, HQ.out.2.1.below (Below.refl _ _).drew, HQ.out.2.2.1.below HQ.out.2.1.lt (Below.refl _ _).drew, HQ.out.2.2.2.2.2.2.2.1.drew, HQ.out.2.2.2.2.2.2.2.2.1.below (Below.refl _ _).drew, HQ.out.2.2.2.2.2.2.2.2.2.below HQ.out.2.2.2.2.2.2.2.2.1.lt (Below.refl _ _).drew, HKY.out _ (HQ.out.2.2.2.2.2.1.below (Below.refl _ _).drew)⟩
              have HQ0 : Hid (Capd bb j cc ∧ B0 ≤ w7.heap.size ∧ (∀ b ∈ FF, b < w7.heap.size) ∧ gt ≠ T ∧ T2 ≠ T) := ⟨HQ.out.2.2.2.1, HQ.out.2.2.2.2.1, HQ.out.2.2.2.2.2.2.1, by have := HTT.out; omega, by have := HQ.out.2.2.2.2.1; have := HTT.out; omega⟩
              have HQr : Hid (RdI W8.drew (some ⟨gt, 0, none⟩) 4 t [gt]) := HQ.out.2.2.2.2.2.1.below (Below.refl _ _).drew
              clear HQ
              obtain ⟨Y, hY⟩ : ∃ Y, Y = W8.drew := ⟨_, rfl⟩
              rw [← hY] at HQd HQr
              refine wp_region_held (S := fun W => NumHeld gt 0 y0 y1 y2 y3 W ∧ Blk W T2 #[.int .i64 s.count, .int .i64 s.sum, .int .i64 s.min, .int .i64 s.max, .slice a1 n1 c1, .slice a2 n2 c2, .slice a3 n3 c3] 28) (by kernel_rfl) ?_
              change wpAnyH _ _ _ _ _ _ _ _ (World.drew _)
              rw [← hY]
              clear hY
              refine takeH (o := ?o74) 0 (.slice (some ⟨gt, 0, none⟩) 4 ct) ?h74 ?r74
              case h74 => simp only [aT, aZ]; rfl
              refine ⟨_, by simp [Act.put]; rfl, by kernel_rfl, by kernel_rfl, by kernel_rfl, fun _ _ _ h => h, (.inl ⟨rfl, fun W _ => by kernel_rfl⟩), ⟨HQd.out.2.2.2.2.2.2, HQd.out.2.2.2.1⟩, ?_⟩
              refine takeH (o := ?o75) 1 (.pointer (some ⟨gt, 0, none⟩)) ?h75 ?r75
              case h75 => simp only [aT, aS, aZ]; rfl
              refine ⟨_, by simp [Act.put]; rfl, by kernel_rfl, by kernel_rfl, by kernel_rfl, fun _ _ _ h => h, (.inl ⟨rfl, fun W _ => by go_simp⟩), ⟨HQd.out.2.2.2.2.2.2, HQd.out.2.2.2.1⟩, ?_⟩
              refine takeH (o := ?o76) 2 (.int .i64 y0) ?h76 ?r76
              case h76 => simp only [aT, aS, aZ]; rfl
              refine ⟨_, by simp [Act.put]; rfl, by kernel_rfl, by kernel_rfl, by kernel_rfl, fun _ _ _ h => h, (.inl ⟨rfl, fun W hW => by have c := hW.1.1; go_simp⟩), ⟨HQd.out.2.2.2.2.2.2, HQd.out.2.2.2.1⟩, ?_⟩
              refine takeH (o := ?o77) 3 (.slice (some ⟨gt, 0, none⟩) 4 ct) ?h77 ?r77
              case h77 => simp only [aT, aS, aZ]; rfl
              refine ⟨_, by simp [Act.put]; rfl, by kernel_rfl, by kernel_rfl, by kernel_rfl, fun _ _ _ h => h, (.inl ⟨rfl, fun W _ => by kernel_rfl⟩), ⟨HQd.out.2.2.2.2.2.2, HQd.out.2.2.2.1⟩, ?_⟩
              refine takeH (o := ?o78) 4 (.pointer (some ⟨gt, 1, none⟩)) ?h78 ?r78
              case h78 => simp only [aT, aS, aZ]; rfl
              refine ⟨_, by simp [Act.put]; rfl, by kernel_rfl, by kernel_rfl, by kernel_rfl, fun _ _ _ h => h, (.inl ⟨rfl, fun W _ => by go_simp⟩), ⟨HQd.out.2.2.2.2.2.2, HQd.out.2.2.2.1⟩, ?_⟩
              refine takeH (o := ?o79) 5 (.int .i64 y1) ?h79 ?r79
              case h79 => simp only [aT, aS, aZ]; rfl
              refine ⟨_, by simp [Act.put]; rfl, by kernel_rfl, by kernel_rfl, by kernel_rfl, fun _ _ _ h => h, (.inl ⟨rfl, fun W hW => by have c := hW.1.2.1; go_simp⟩), ⟨HQd.out.2.2.2.2.2.2, HQd.out.2.2.2.1⟩, ?_⟩
              refine takeH (o := ?o80) 6 (.slice (some ⟨gt, 0, none⟩) 4 ct) ?h80 ?r80
              case h80 => simp only [aT, aS, aZ]; rfl
              refine ⟨_, by simp [Act.put]; rfl, by kernel_rfl, by kernel_rfl, by kernel_rfl, fun _ _ _ h => h, (.inl ⟨rfl, fun W _ => by kernel_rfl⟩), ⟨HQd.out.2.2.2.2.2.2, HQd.out.2.2.2.1⟩, ?_⟩
              refine takeH (o := ?o81) 7 (.pointer (some ⟨gt, 2, none⟩)) ?h81 ?r81
              case h81 => simp only [aT, aS, aZ]; rfl
              refine ⟨_, by simp [Act.put]; rfl, by kernel_rfl, by kernel_rfl, by kernel_rfl, fun _ _ _ h => h, (.inl ⟨rfl, fun W _ => by go_simp⟩), ⟨HQd.out.2.2.2.2.2.2, HQd.out.2.2.2.1⟩, ?_⟩
              refine takeH (o := ?o82) 8 (.int .i64 y2) ?h82 ?r82
              case h82 => simp only [aT, aS, aZ]; rfl
              refine ⟨_, by simp [Act.put]; rfl, by kernel_rfl, by kernel_rfl, by kernel_rfl, fun _ _ _ h => h, (.inl ⟨rfl, fun W hW => by have c := hW.1.2.2.1; go_simp⟩), ⟨HQd.out.2.2.2.2.2.2, HQd.out.2.2.2.1⟩, ?_⟩
              refine takeH (o := ?o83) 9 (.slice (some ⟨gt, 0, none⟩) 4 ct) ?h83 ?r83
              case h83 => simp only [aT, aS, aZ]; rfl
              refine ⟨_, by simp [Act.put]; rfl, by kernel_rfl, by kernel_rfl, by kernel_rfl, fun _ _ _ h => h, (.inl ⟨rfl, fun W _ => by kernel_rfl⟩), ⟨HQd.out.2.2.2.2.2.2, HQd.out.2.2.2.1⟩, ?_⟩
              refine takeH (o := ?o84) 10 (.pointer (some ⟨gt, 3, none⟩)) ?h84 ?r84
              case h84 => simp only [aT, aS, aZ]; rfl
              refine ⟨_, by simp [Act.put]; rfl, by kernel_rfl, by kernel_rfl, by kernel_rfl, fun _ _ _ h => h, (.inl ⟨rfl, fun W _ => by go_simp⟩), ⟨HQd.out.2.2.2.2.2.2, HQd.out.2.2.2.1⟩, ?_⟩
              refine takeH (o := ?o85) 11 (.int .i64 y3) ?h85 ?r85
              case h85 => simp only [aT, aS, aZ]; rfl
              refine ⟨_, by simp [Act.put]; rfl, by kernel_rfl, by kernel_rfl, by kernel_rfl, fun _ _ _ h => h, (.inl ⟨rfl, fun W hW => by have c := hW.1.2.2.2; go_simp⟩), ⟨HQd.out.2.2.2.2.2.2, HQd.out.2.2.2.1⟩, ?_⟩
              refine takeH (o := ?o86) 12 (.agg #[.int .i64 s.count, .int .i64 s.sum, .int .i64 s.min, .int .i64 s.max, .slice a1 n1 c1, .slice a2 n2 c2, .slice a3 n3 c3]) ?h86 ?r86
              case h86 => simp only [aT, aS, aZ]; rfl
              refine ⟨_, by simp [Act.put]; rfl, by kernel_rfl, by kernel_rfl, by kernel_rfl, fun _ _ _ h => h, (yields_whole 28 T2 #[.int .i64 s.count, .int .i64 s.sum, .int .i64 s.min, .int .i64 s.max, .slice a1 n1 c1, .slice a2 n2 c2, .slice a3 n3 c3] 28 _ rfl rfl rfl Tryz.underlying28 rfl infoSkI (fun W hW => hW.2)), ⟨HQd.out.2.2.2.2.2.2, HQd.out.2.2.2.1⟩, ?_⟩
              refine takeH (o := ?o87) 13 (.agg #[.int .i64 y0, .int .i64 y1, .int .i64 y2, .int .i64 y3, .int .i64 s.count, .int .i64 s.sum, .int .i64 s.min, .int .i64 s.max, .slice a1 n1 c1, .slice a2 n2 c2, .slice a3 n3 c3]) ?h87 ?r87
              case h87 => simp only [aT, aS, aZ]; rfl
              refine ⟨_, by simp [Act.put]; rfl, by kernel_rfl, by kernel_rfl, by kernel_rfl, fun _ _ _ h => h, (.inl ⟨rfl, fun W _ => by kernel_rfl⟩), ⟨HQd.out.2.2.2.2.2.2, HQd.out.2.2.2.1⟩, ?_⟩
              refine takeH (o := ?o88) 14 (.pointer (some ⟨T, 5, none⟩)) ?h88 ?r88
              case h88 => simp only [aT, aS, aZ]; rfl
              refine ⟨_, by simp [Act.put]; rfl, by kernel_rfl, by kernel_rfl, by kernel_rfl, fun _ _ _ h => h, (.inl ⟨rfl, fun W _ => by kernel_rfl⟩), ⟨HQd.out.2.2.2.2.2.2, HQd.out.2.2.2.1⟩, ?_⟩
              refine onlyH (o := ?o89) 15 (by kernel_rfl) ?h89 ?r89
              case h89 => simp only [aT, aS, aZ]; rfl
              intro K hK
              have HSt : Hid (NumHeld gt 0 y0 y1 y2 y3 (Y.setRow T #[.int .i64 1, .int .i64 x1, .int .i64 x2, .int .i64 x3, .slice bb j cc, .int .i64 y0, .int .i64 y1, .int .i64 y2, .int .i64 y3, .int .i64 s.count, .int .i64 s.sum, .int .i64 s.min, .int .i64 s.max, .slice a1 n1 c1, .slice a2 n2 c2, .slice a3 n3 c3]) ∧ Blk (Y.setRow T #[.int .i64 1, .int .i64 x1, .int .i64 x2, .int .i64 x3, .slice bb j cc, .int .i64 y0, .int .i64 y1, .int .i64 y2, .int .i64 y3, .int .i64 s.count, .int .i64 s.sum, .int .i64 s.min, .int .i64 s.max, .slice a1 n1 c1, .slice a2 n2 c2, .slice a3 n3 c3]) T2 #[.int .i64 s.count, .int .i64 s.sum, .int .i64 s.min, .int .i64 s.max, .slice a1 n1 c1, .slice a2 n2 c2, .slice a3 n3 c3] 28) := by
                have q := HQ0.out
                exact ⟨HKY.out _ (HQr.out.agree (Agree.row (by simp; omega) _)), HQd.out.2.2.2.1.setRowOther q.2.2.2.2⟩
              refine op_storeCut 30 T 5 #[.int .i64 1, .int .i64 x1, .int .i64 x2, .int .i64 x3, .slice bb j cc, .int .i64 0, .int .i64 0, .int .i64 0, .int .i64 0, .int .i64 0, .int .i64 0, .int .i64 0, .int .i64 0, .slice none 0 0, .slice none 0 0, .slice none 0 0] #[.int .i64 y0, .int .i64 y1, .int .i64 y2, .int .i64 y3, .int .i64 s.count, .int .i64 s.sum, .int .i64 s.min, .int .i64 s.max, .slice a1 n1 c1, .slice a2 n2 c2, .slice a3 n3 c3] #[.int .i64 1, .int .i64 x1, .int .i64 x2, .int .i64 x3, .slice bb j cc, .int .i64 y0, .int .i64 y1, .int .i64 y2, .int .i64 y3, .int .i64 s.count, .int .i64 s.sum, .int .i64 s.min, .int .i64 s.max, .slice a1 n1 c1, .slice a2 n2 c2, .slice a3 n3 c3] 32 HQd.out.1.loc rfl rfl rfl rfl infoItO7 (by exact Nat.le_refl 16) (by simp [Value.oneCell']) rfl ⟨_, by simp [Act.put]; rfl, hK _ _ ⟨HSt.out, ?_⟩⟩
              clear hK HSt
              refine wpAnyH_done (by kernel_rfl) ?_ _
              have HE : Hid (FoW w T #[.int .i64 1, .int .i64 x1, .int .i64 x2, .int .i64 x3, .slice bb j cc, .int .i64 y0, .int .i64 y1, .int .i64 y2, .int .i64 y3, .int .i64 s.count, .int .i64 s.sum, .int .i64 s.min, .int .i64 s.max, .slice a1 n1 c1, .slice a2 n2 c2, .slice a3 n3 c3] (some ⟨b, off, none⟩) (k + 4) zs (Y.setRow T #[.int .i64 1, .int .i64 x1, .int .i64 x2, .int .i64 x3, .slice bb j cc, .int .i64 y0, .int .i64 y1, .int .i64 y2, .int .i64 y3, .int .i64 s.count, .int .i64 s.sum, .int .i64 s.min, .int .i64 s.max, .slice a1 n1 c1, .slice a2 n2 c2, .slice a3 n3 c3]) ∧ RdFr (Y.setRow T #[.int .i64 1, .int .i64 x1, .int .i64 x2, .int .i64 x3, .slice bb j cc, .int .i64 y0, .int .i64 y1, .int .i64 y2, .int .i64 y3, .int .i64 s.count, .int .i64 s.sum, .int .i64 s.min, .int .i64 s.max, .slice a1 n1 c1, .slice a2 n2 c2, .slice a3 n3 c3]) (.agg #[.int .i64 1, .int .i64 x1, .int .i64 x2, .int .i64 x3, .slice bb j cc, .int .i64 y0, .int .i64 y1, .int .i64 y2, .int .i64 y3, .int .i64 s.count, .int .i64 s.sum, .int .i64 s.min, .int .i64 s.max, .slice a1 n1 c1, .slice a2 n2 c2, .slice a3 n3 c3]) ⟨1, x1, x2, x3, pairsTo m j, ⟨y0, y1, y2, y3, s⟩⟩ FF F8 ∧ Own (T + 1) (Y.setRow T #[.int .i64 1, .int .i64 x1, .int .i64 x2, .int .i64 x3, .slice bb j cc, .int .i64 y0, .int .i64 y1, .int .i64 y2, .int .i64 y3, .int .i64 s.count, .int .i64 s.sum, .int .i64 s.min, .int .i64 s.max, .slice a1 n1 c1, .slice a2 n2 c2, .slice a3 n3 c3]) FF ∧ Own (T + 1) (Y.setRow T #[.int .i64 1, .int .i64 x1, .int .i64 x2, .int .i64 x3, .slice bb j cc, .int .i64 y0, .int .i64 y1, .int .i64 y2, .int .i64 y3, .int .i64 s.count, .int .i64 s.sum, .int .i64 s.min, .int .i64 s.max, .slice a1 n1 c1, .slice a2 n2 c2, .slice a3 n3 c3]) F8 ∧ (∀ b ∈ FF, b ∉ F8) ∧ s.wide ∧ (pairsTo m j).length ≤ 100) := by
                have q := HQ0.out
                have tt := HTT.out
                have nF : T ∉ FF := fun hx => by have := HQd.out.2.2.1.ge _ hx; omega
                have n8 : T ∉ F8 := fun hx => by have := HQd.out.2.2.2.2.2.1.ge _ hx; omega
                refine ⟨HQd.out.1.row HR.out _, ⟨bb, j, cc, a1, n1, c1, a2, n2, c2, a3, n3, c3, rfl, HQd.out.2.1.agree (Agree.row nF _), ⟨a1, n1, c1, a2, n2, c2, a3, n3, c3, rfl, HQd.out.2.2.2.2.1.agree (Agree.row n8 _)⟩, q.1⟩, (HQd.out.2.2.1.agree (Agree.row nF _)).mono (by omega), (HQd.out.2.2.2.2.2.1.agree (Agree.row n8 _)).mono (by omega), fun b hb hx => by have := HQd.out.2.2.2.2.2.1.ge _ hx; have := q.2.2.1 _ hb; omega, ?_, by rw [pairsTo_len]; omega⟩
                have hs := HIS.out
                unfold SkIs at hs
                rw [if_pos rfl] at hs
                have ln := (Sk.ok_lens hs.1).1
                exact ⟨by have := ln.hist; omega, by have := ln.regs; omega, by have := ln.rows; omega, fun z hz => by have := ln.row z hz; omega⟩
              have HNO : Hid (¬ (({ kind := 1, agent := x1, epoch := x2, granted := x3, taken := pairsTo m j, item := ⟨y0, y1, y2, y3, s⟩ } : Fr).ok = true ∧ ({ kind := 1, agent := x1, epoch := x2, granted := x3, taken := pairsTo m j, item := ⟨y0, y1, y2, y3, s⟩ } : Fr).bytes = zs) → FrIs zs Fr.zero false) := fun hno => by
                rw [HB.out] at hno ⊢
                refine of_done HG.out HN.out HG2.out HX.out.1.symm HG3.out HIS.out ?_ hno
                rw [← HX.out.1, ← HX.out.2.1, ← HX.out.2.2.1, ← HX.out.2.2.2, ← HY.out.1, ← HY.out.2.1, ← HY.out.2.2.1, ← HY.out.2.2.2]
              obtain ⟨f, hf⟩ : ∃ f : Fr, f = ⟨1, x1, x2, x3, pairsTo m j, ⟨y0, y1, y2, y3, s⟩⟩ := ⟨_, rfl⟩
              obtain ⟨fc, hfc⟩ : ∃ fc : Array Value, fc = #[.int .i64 1, .int .i64 x1, .int .i64 x2, .int .i64 x3, .slice bb j cc, .int .i64 y0, .int .i64 y1, .int .i64 y2, .int .i64 y3, .int .i64 s.count, .int .i64 s.sum, .int .i64 s.min, .int .i64 s.max, .slice a1 n1 c1, .slice a2 n2 c2, .slice a3 n3 c3] := ⟨_, rfl⟩
              obtain ⟨W9, hW9⟩ : ∃ W, W = Y.setRow T #[.int .i64 1, .int .i64 x1, .int .i64 x2, .int .i64 x3, .slice bb j cc, .int .i64 y0, .int .i64 y1, .int .i64 y2, .int .i64 y3, .int .i64 s.count, .int .i64 s.sum, .int .i64 s.min, .int .i64 s.max, .slice a1 n1 c1, .slice a2 n2 c2, .slice a3 n3 c3] := ⟨_, rfl⟩
              have HFC : Hid (fc.size = 16 ∧ fc.all (·.oneCell') = true) := by rw [hfc]; exact ⟨rfl, by simp [Value.oneCell']⟩
              rw [show s.wide = f.item.sk.wide from by rw [hf], show (pairsTo m j).length = f.taken.length from by rw [hf], ← hW9, ← hfc, ← hf] at HE
              rw [← hf] at HNO
              rw [← hW9]
              clear hW9 hfc hf HQd HQ0 HKY HQr
              obtain ⟨GG, hGG⟩ : ∃ G, G = F8 := ⟨_, rfl⟩
              rw [← hGG] at HE
              clear hGG
              have HOK : Hid (∃ d, d = f.ok) := ⟨_, rfl⟩
              obtain ⟨d, hd⟩ := HOK.out
              clear HOK
              have HDK : Hid (d = f.ok) := hd
              clear hd
              go_wp2_with fail
              have HF : Hid (FoW w T fc (some ⟨b, off, none⟩) (k + 4) zs W9.drew ∧ RdFr W9.drew (.agg fc) f FF GG ∧ Own (T + 1) W9.drew FF ∧ Own (T + 1) W9.drew GG) := ⟨HE.out.1.below (Below.refl _ _).drew, HE.out.2.1.below (Below.refl _ _).drew, HE.out.2.2.1.below HE.out.2.1.lt1 (Below.refl _ _).drew, HE.out.2.2.2.1.below HE.out.2.1.lt2 (Below.refl _ _).drew⟩
              have HC : Hid ((∀ b ∈ FF, b ∉ GG) ∧ f.item.sk.wide ∧ f.taken.length ≤ 100) := HE.out.2.2.2.2
              clear HE
              obtain ⟨Z0, hZ0⟩ : ∃ Z, Z = W9.drew := ⟨_, rfl⟩
              rw [← hZ0] at HF
              refine wp_region_held (S := fun W => Blk W T fc 32 ∧ RdB W (some ⟨b, off, none⟩) (k + 4) zs) (by kernel_rfl) ?_
              change wpAnyH _ _ _ _ _ _ _ _ (World.drew _)
              rw [← hZ0]
              clear hZ0
              refine takeH (o := ?o90) 0 (.agg fc) ?h90 ?r90
              case h90 => simp only [aT, aZ]; rfl
              refine ⟨_, by simp [Act.put]; rfl, by kernel_rfl, by kernel_rfl, by kernel_rfl, fun _ _ _ h => h, (yields_whole 32 T fc 32 _ rfl rfl rfl Tryz.underlying32 rfl (by rw [HFC.out.1]; exact infoFrO7) (fun W hW => hW.1)), ⟨HF.out.1.loc, HF.out.1.src⟩, ?_⟩
              refine onlyH (o := ?o91) 1 (by kernel_rfl) ?h91 ?r91
              case h91 => simp only [aT, aS, aZ]; rfl
              intro K hK
              refine op_call1 8 _ _ Tryz.f8 (fun v w' => v = .bool d ∧ Below Z0.heap.size Z0 w') rfl rfl Tryz.func8 (by kernel_rfl) (by kernel_rfl) ((frameOkSpec_any (.agg fc) f FF GG Z0 HF.out.2.1 HC.out.2.1 (by have := HC.out.2.2; omega)).mono (by rintro e w' ⟨rfl, h1⟩; exact ⟨_, rfl, by rw [HDK.out], h1⟩)) ?_
              rintro v Z1 ⟨rfl, hb1⟩
              have HF1 : Hid (FoW w T fc (some ⟨b, off, none⟩) (k + 4) zs Z1 ∧ RdFr Z1 (.agg fc) f FF GG ∧ Own (T + 1) Z1 FF ∧ Own (T + 1) Z1 GG) := ⟨HF.out.1.below hb1, HF.out.2.1.below hb1, HF.out.2.2.1.below HF.out.2.1.lt1 hb1, HF.out.2.2.2.below HF.out.2.1.lt2 hb1⟩
              clear hb1 HF
              refine ⟨_, by simp [Act.put]; rfl, hK _ _ ⟨⟨HF1.out.1.loc, HF1.out.1.src⟩, ?_⟩⟩
              clear hK
              cases d
              · have HV : Hid (FrIs zs Fr.zero false) := HNO.out (fun e => by have := HDK.out; rw [e.1] at this; cases this)
                refine takeH (o := ?o92) 2 (.bool true) ?h92 ?r92
                case h92 => simp only [aT, aS, aZ]; rfl
                refine ⟨_, by simp [Act.put]; rfl, by kernel_rfl, by kernel_rfl, by kernel_rfl, fun _ _ _ h => h, (.inl ⟨rfl, fun W _ => by go_simp⟩), ⟨HF1.out.1.loc, HF1.out.1.src⟩, ?_⟩
                refine takeH (o := ?o93) 3 (.bool true) ?h93 ?r93
                case h93 => simp only [aT, aS, aZ]; rfl
                refine ⟨_, by simp [Act.put]; rfl, by kernel_rfl, by kernel_rfl, by kernel_rfl, fun _ _ _ h => h, (.inl ⟨rfl, fun W _ => by kernel_rfl⟩), ⟨HF1.out.1.loc, HF1.out.1.src⟩, ?_⟩
                refine takeH (o := ?o94) 4 (undef) ?h94 ?r94
                case h94 => simp only [aT, aS, aZ]; rfl
                refine ⟨_, by simp [Act.put]; rfl, by kernel_rfl, by kernel_rfl, by kernel_rfl, fun _ _ _ h => h, (.inr ⟨rfl, rfl⟩), ⟨HF1.out.1.loc, HF1.out.1.src⟩, ?_⟩
                refine takeH (o := ?o95) 5 (undef) ?h95 ?r95
                case h95 => simp only [aT, aS, aZ]; rfl
                refine ⟨_, by simp [Act.put]; rfl, by kernel_rfl, by kernel_rfl, by kernel_rfl, fun _ _ _ h => h, (.inr ⟨rfl, rfl⟩), ⟨HF1.out.1.loc, HF1.out.1.src⟩, ?_⟩
                refine takeH (o := ?o96) 6 (undef) ?h96 ?r96
                case h96 => simp only [aT, aS, aZ]; rfl
                refine ⟨_, by simp [Act.put]; rfl, by kernel_rfl, by kernel_rfl, by kernel_rfl, fun _ _ _ h => h, (.inr ⟨rfl, rfl⟩), ⟨HF1.out.1.loc, HF1.out.1.src⟩, ?_⟩
                refine takeH (o := ?o97) 7 (undef) ?h97 ?r97
                case h97 => simp only [aT, aS, aZ]; rfl
                refine ⟨_, by simp [Act.put]; rfl, by kernel_rfl, by kernel_rfl, by kernel_rfl, fun _ _ _ h => h, (.inr ⟨rfl, rfl⟩), ⟨HF1.out.1.loc, HF1.out.1.src⟩, ?_⟩
                refine takeH (o := ?o98) 8 (undef) ?h98 ?r98
                case h98 => simp only [aT, aS, aZ]; rfl
                refine ⟨_, by simp [Act.put]; rfl, by kernel_rfl, by kernel_rfl, by kernel_rfl, fun _ _ _ h => h, (.inr ⟨rfl, rfl⟩), ⟨HF1.out.1.loc, HF1.out.1.src⟩, ?_⟩
                refine takeH (o := ?o99) 9 (undef) ?h99 ?r99
                case h99 => simp only [aT, aS, aZ]; rfl
                refine ⟨_, by simp [Act.put]; rfl, by kernel_rfl, by kernel_rfl, by kernel_rfl, fun _ _ _ h => h, (.inr ⟨rfl, rfl⟩), ⟨HF1.out.1.loc, HF1.out.1.src⟩, ?_⟩
                refine takeH (o := ?o100) 10 (.bool true) ?h100 ?r100
                case h100 => simp only [aT, aS, aZ]; rfl
                refine ⟨_, by simp [Act.put]; rfl, by kernel_rfl, by kernel_rfl, by kernel_rfl, fun _ _ _ h => h, (.inl ⟨rfl, fun W _ => by kernel_rfl⟩), ⟨HF1.out.1.loc, HF1.out.1.src⟩, ?_⟩
                refine wpAnyH_done (by kernel_rfl) ?_ _
                go_wp2_with (first | go_skip | (with_reducible refine stopStore 32 rfl ?_))
                refine store_known 32 w.heap.size _ #[.int .i64 0, .int .i64 0, .int .i64 0, .int .i64 0, .slice none 0 0, .int .i64 0, .int .i64 0, .int .i64 0, .int .i64 0, .int .i64 0, .int .i64 0, .int .i64 0, .int .i64 0, .slice none 0 0, .slice none 0 0, .slice none 0 0] 32 HF1.out.1.res rfl rfl rfl rfl infoFrO7 rfl (by simp [Value.oneCell']) ?_
                go_wp2
                refine bodyPost_ret (results_row_tmp Tryz.results11 _ _ w.heap.size _ _ _ _ rfl (Blk.setRow HF1.out.1.res) Tryz.underlying32 rfl infoFrO7) rfl ?_
                exact ⟨_, Fr.zero, false, [], [], rfl, rdFr_zero _, Own.nil, Own.nil, by simp, below_setRow HF1.out.1.bel (Nat.le_refl _) _, HV.out⟩
              refine takeH (o := ?o101) 2 (.bool false) ?h101 ?r101
              case h101 => simp only [aT, aS, aZ]; rfl
              refine ⟨_, by simp [Act.put]; rfl, by kernel_rfl, by kernel_rfl, by kernel_rfl, fun _ _ _ h => h, (.inl ⟨rfl, fun W _ => by go_simp⟩), ⟨HF1.out.1.loc, HF1.out.1.src⟩, ?_⟩
              refine takeH (o := ?o102) 3 (.bool false) ?h102 ?r102
              case h102 => simp only [aT, aS, aZ]; rfl
              refine ⟨_, by simp [Act.put]; rfl, by kernel_rfl, by kernel_rfl, by kernel_rfl, fun _ _ _ h => h, (.inl ⟨rfl, fun W _ => by kernel_rfl⟩), ⟨HF1.out.1.loc, HF1.out.1.src⟩, ?_⟩
              refine takeH (o := ?o103) 4 (.agg fc) ?h103 ?r103
              case h103 => simp only [aT, aS, aZ]; rfl
              refine ⟨_, by simp [Act.put]; rfl, by kernel_rfl, by kernel_rfl, by kernel_rfl, fun _ _ _ h => h, (yields_whole 32 T fc 32 _ rfl rfl rfl Tryz.underlying32 rfl (by rw [HFC.out.1]; exact infoFrO7) (fun W hW => hW.1)), ⟨HF1.out.1.loc, HF1.out.1.src⟩, ?_⟩
              refine takeH (o := ?o104) 7 (.slice (some ⟨b, off, none⟩) (k + 4) cap) ?h104 ?r104
              case h104 => simp only [aT, aS, aZ]; rfl
              refine ⟨_, by simp [Act.put]; rfl, by kernel_rfl, by kernel_rfl, by kernel_rfl, fun _ _ _ h => h, (.inl ⟨rfl, fun W _ => by kernel_rfl⟩), ⟨HF1.out.1.loc, HF1.out.1.src⟩, ?_⟩
              refine takeH (o := ?o105) 8 (.string (strOfNums zs)) ?h105 ?r105
              case h105 => simp only [aT, aS, aZ]; rfl
              refine ⟨_, by simp [Act.put]; rfl, by kernel_rfl, by kernel_rfl, by kernel_rfl, fun _ _ _ h => h, (.inl ⟨rfl, fun W hW => exec_conv rfl rfl (conv_any hW.2)⟩), ⟨HF1.out.1.loc, HF1.out.1.src⟩, ?_⟩
              refine onlyH (o := ?o106) 5 (by kernel_rfl) ?h106 ?r106
              case h106 => simp only [aT, aS, aZ]; rfl
              intro K hK
              refine op_call1 36 _ _ Tryz.f36 (fun u w' => w'.ownsRow Z1.heap.size 5 1 u f.bytes.length (f.bytes.map (Value.int .u8)) ∧ Below Z1.heap.size Z1 w') rfl rfl Tryz.func36 (by kernel_rfl) (by kernel_rfl) ((frameBytesSpec_any (.agg fc) f FF GG Z1 HF1.out.2.1 HC.out.2.1 (by have := HC.out.2.2; omega)).mono (by rintro e w' ⟨u, rfl, h1, h2⟩; exact ⟨_, rfl, h1, h2⟩)) ?_
              rintro v Z2 ⟨hown, hb2⟩
              obtain ⟨gu, cu, rfl, _⟩ := own_shape7 hown (by have := Fr.bytes_min HDK.out.symm; omega)
              have k1 := conv_any (RdB.of_own hown f.bytes_range) (cap := cu)
              have HF2 : Hid (FoW w T fc (some ⟨b, off, none⟩) (k + 4) zs Z2 ∧ RdFr Z2 (.agg fc) f FF GG ∧ Own (T + 1) Z2 FF ∧ Own (T + 1) Z2 GG) := ⟨HF1.out.1.below hb2, HF1.out.2.1.below hb2, HF1.out.2.2.1.below HF1.out.2.1.lt1 hb2, HF1.out.2.2.2.below HF1.out.2.1.lt2 hb2⟩
              clear hb2 hown HF1
              refine ⟨_, by simp [Act.put]; rfl, hK _ _ ⟨⟨HF2.out.1.loc, HF2.out.1.src⟩, ?_⟩⟩
              clear hK
              refine onlyH (o := ?o107) 6 (by kernel_rfl) ?h107 ?r107
              case h107 => simp only [aT, aS, aZ]; rfl
              intro K hK
              refine op_value (.string (strOfNums f.bytes)) rfl (exec_conv rfl rfl k1) ⟨_, by simp [Act.put]; rfl, hK _ _ ⟨⟨HF2.out.1.loc, HF2.out.1.src⟩, ?_⟩⟩
              clear hK
              clear k1
              refine onlyH (o := ?o108) 9 (by kernel_rfl) ?h108 ?r108
              case h108 => simp only [aT, aS, aZ]; rfl
              intro K hK
              refine op_value (.bool (!decide (f.bytes = zs))) rfl ((exec_neStr rfl rfl rfl).trans (by rw [strOf_dec f.bytes_range HZ.out.2])) ⟨_, by simp [Act.put]; rfl, hK _ _ ⟨⟨HF2.out.1.loc, HF2.out.1.src⟩, ?_⟩⟩
              clear hK
              refine onlyH (o := ?o109) 10 (by kernel_rfl) ?h109 ?r109
              case h109 => simp only [aT, aS, aZ]; rfl
              intro K hK
              refine op_value (.bool (!decide (f.bytes = zs))) rfl (by kernel_rfl) ⟨_, by simp [Act.put]; rfl, hK _ _ ⟨⟨HF2.out.1.loc, HF2.out.1.src⟩, ?_⟩⟩
              clear hK
              refine wpAnyH_done (by kernel_rfl) ?_ _
              obtain ⟨d, hd⟩ : ∃ d, d = !decide (f.bytes = zs) := ⟨_, rfl⟩
              rw [← hd]
              have HD : Hid (d = !decide (f.bytes = zs)) := hd
              clear hd
              cases d
              rotate_left
              · have HV : Hid (FrIs zs Fr.zero false) := HNO.out (fun e => by have := HD.out; rw [decide_eq_true e.2] at this; cases this)
                go_wp2_with (first | go_skip | (with_reducible refine stopStore 32 rfl ?_))
                refine store_known 32 w.heap.size _ #[.int .i64 0, .int .i64 0, .int .i64 0, .int .i64 0, .slice none 0 0, .int .i64 0, .int .i64 0, .int .i64 0, .int .i64 0, .int .i64 0, .int .i64 0, .int .i64 0, .int .i64 0, .slice none 0 0, .slice none 0 0, .slice none 0 0] 32 HF2.out.1.res rfl rfl rfl rfl infoFrO7 rfl (by simp [Value.oneCell']) ?_
                go_wp2
                refine bodyPost_ret (results_row_tmp Tryz.results11 _ _ w.heap.size _ _ _ _ rfl (Blk.setRow HF2.out.1.res) Tryz.underlying32 rfl infoFrO7) rfl ?_
                exact ⟨_, Fr.zero, false, [], [], rfl, rdFr_zero _, Own.nil, Own.nil, by simp, below_setRow HF2.out.1.bel (Nat.le_refl _) _, HV.out⟩
              have HV : Hid (FrIs zs f true) := by
                refine frIs_yes HDK.out.symm ?_
                by_cases e : f.bytes = zs
                · exact e.symm
                · have := HD.out
                  rw [decide_eq_false e] at this
                  cases this
              have hds : (Tryz.prog.info? 32).map (·.size) = some fc.size := by rw [HFC.out.1]; exact infoFrO7
              go_wp2_with (first | go_skip | (with_reducible refine stopLoad 32 rfl ?_))
              refine load_known 32 T fc 32 _ HF2.out.1.loc rfl rfl rfl Tryz.underlying32 rfl hds ?_
              go_wp2_with (first | go_skip | (with_reducible refine stopStore 32 rfl ?_))
              refine store_known 32 w.heap.size _ fc 32 HF2.out.1.res rfl rfl rfl rfl hds (by rw [HFC.out.1]; rfl) HFC.out.2 ?_
              have oT := HF2.out.1.ord
              have nF : w.heap.size ∉ FF := fun hx => by have := HF2.out.2.2.1.ge _ hx; omega
              have nG : w.heap.size ∉ GG := fun hx => by have := HF2.out.2.2.2.ge _ hx; omega
              have HL : Hid (RdFr (Z2.setRow w.heap.size fc) (.agg fc) f FF GG ∧ Own w.heap.size (Z2.setRow w.heap.size fc) FF ∧ Own w.heap.size (Z2.setRow w.heap.size fc) GG ∧ (∀ b ∈ FF, b ∉ GG) ∧ Below w.heap.size w (Z2.setRow w.heap.size fc) ∧ Blk (Z2.setRow w.heap.size fc) w.heap.size fc 32) := ⟨HF2.out.2.1.agree (Agree.row nF _) (Agree.row nG _), (HF2.out.2.2.1.agree (Agree.row nF _)).mono (by omega), (HF2.out.2.2.2.agree (Agree.row nG _)).mono (by omega), HC.out.1, below_setRow HF2.out.1.bel (Nat.le_refl _) _, HF2.out.1.res.setRow⟩
              clear HF2 nF nG
              go_wp2
              refine bodyPost_ret (results_row_tmp Tryz.results11 _ _ w.heap.size _ _ _ _ rfl HL.out.2.2.2.2.2 Tryz.underlying32 rfl hds) rfl ?_
              exact ⟨_, f, true, FF, GG, rfl, HL.out.1, HL.out.2.1, HL.out.2.2.1, HL.out.2.2.2.1, HL.out.2.2.2.2.1, HV.out⟩
          · have hkd : (x0 == 1) = false := by simpa using hk1
            have hke : decide (x0 = 1) = false := by simpa using hk1
            have HE : Hid (FoW w T #[.int .i64 x0, .int .i64 x1, .int .i64 x2, .int .i64 x3, .slice bb j cc, .int .i64 0, .int .i64 0, .int .i64 0, .int .i64 0, .int .i64 0, .int .i64 0, .int .i64 0, .int .i64 0, .slice none 0 0, .slice none 0 0, .slice none 0 0] (some ⟨b, off, none⟩) (k + 4) zs wr ∧ RdFr wr (.agg #[.int .i64 x0, .int .i64 x1, .int .i64 x2, .int .i64 x3, .slice bb j cc, .int .i64 0, .int .i64 0, .int .i64 0, .int .i64 0, .int .i64 0, .int .i64 0, .int .i64 0, .int .i64 0, .slice none 0 0, .slice none 0 0, .slice none 0 0]) ⟨x0, x1, x2, x3, pairsTo m j, It.zero⟩ FF [] ∧ Own (T + 1) wr FF ∧ Own (T + 1) wr [] ∧ (∀ b ∈ FF, b ∉ ([] : List Nat)) ∧ It.zero.sk.wide ∧ (pairsTo m j).length ≤ 100) := by
              have tt := HTT.out
              exact ⟨HP.out.1, ⟨bb, j, cc, none, 0, 0, none, 0, 0, none, 0, 0, rfl, HP.out.2.1, rdIt_zero wr, HP.out.2.2.2.1⟩, HP.out.2.2.1.mono (by omega), Own.nil, by simp, It.zero_wide, by rw [pairsTo_len]; omega⟩
            have HNO : Hid (¬ (({ kind := x0, agent := x1, epoch := x2, granted := x3, taken := pairsTo m j, item := It.zero } : Fr).ok = true ∧ ({ kind := x0, agent := x1, epoch := x2, granted := x3, taken := pairsTo m j, item := It.zero } : Fr).bytes = zs) → FrIs zs Fr.zero false) := fun hno => by
              rw [HB.out] at hno ⊢
              refine of_done0 HG.out HN.out HG2.out (by rw [← HX.out.1]; exact hk1) ?_ hno
              rw [← HX.out.1, ← HX.out.2.1, ← HX.out.2.2.1, ← HX.out.2.2.2]
            go_wp2_with fail
            obtain ⟨f, hf⟩ : ∃ f : Fr, f = ⟨x0, x1, x2, x3, pairsTo m j, It.zero⟩ := ⟨_, rfl⟩
            obtain ⟨fc, hfc⟩ : ∃ fc : Array Value, fc = #[.int .i64 x0, .int .i64 x1, .int .i64 x2, .int .i64 x3, .slice bb j cc, .int .i64 0, .int .i64 0, .int .i64 0, .int .i64 0, .int .i64 0, .int .i64 0, .int .i64 0, .int .i64 0, .slice none 0 0, .slice none 0 0, .slice none 0 0] := ⟨_, rfl⟩
            obtain ⟨W9, hW9⟩ : ∃ W, W = wr := ⟨_, rfl⟩
            have HFC : Hid (fc.size = 16 ∧ fc.all (·.oneCell') = true) := by rw [hfc]; exact ⟨rfl, by simp [Value.oneCell']⟩
            rw [show It.zero.sk.wide = f.item.sk.wide from by rw [hf], show (pairsTo m j).length = f.taken.length from by rw [hf], ← hW9, ← hfc, ← hf] at HE
            rw [← hf] at HNO
            rw [← hW9]
            clear hW9 hfc hf HP ck
            obtain ⟨GG, hGG⟩ : ∃ G : List Nat, G = [] := ⟨_, rfl⟩
            rw [← hGG] at HE
            clear hGG
            have HOK : Hid (∃ d, d = f.ok) := ⟨_, rfl⟩
            obtain ⟨d, hd⟩ := HOK.out
            clear HOK
            have HDK : Hid (d = f.ok) := hd
            clear hd
            go_wp2_with fail
            have HF : Hid (FoW w T fc (some ⟨b, off, none⟩) (k + 4) zs W9.drew ∧ RdFr W9.drew (.agg fc) f FF GG ∧ Own (T + 1) W9.drew FF ∧ Own (T + 1) W9.drew GG) := ⟨HE.out.1.below (Below.refl _ _).drew, HE.out.2.1.below (Below.refl _ _).drew, HE.out.2.2.1.below HE.out.2.1.lt1 (Below.refl _ _).drew, HE.out.2.2.2.1.below HE.out.2.1.lt2 (Below.refl _ _).drew⟩
            have HC : Hid ((∀ b ∈ FF, b ∉ GG) ∧ f.item.sk.wide ∧ f.taken.length ≤ 100) := HE.out.2.2.2.2
            clear HE
            obtain ⟨Z0, hZ0⟩ : ∃ Z, Z = W9.drew := ⟨_, rfl⟩
            rw [← hZ0] at HF
            refine wp_region_held (S := fun W => Blk W T fc 32 ∧ RdB W (some ⟨b, off, none⟩) (k + 4) zs) (by kernel_rfl) ?_
            change wpAnyH _ _ _ _ _ _ _ _ (World.drew _)
            rw [← hZ0]
            clear hZ0
            refine takeH (o := ?o110) 0 (.agg fc) ?h110 ?r110
            case h110 => simp only [aT, aZ]; rfl
            refine ⟨_, by simp [Act.put]; rfl, by kernel_rfl, by kernel_rfl, by kernel_rfl, fun _ _ _ h => h, (yields_whole 32 T fc 32 _ rfl rfl rfl Tryz.underlying32 rfl (by rw [HFC.out.1]; exact infoFrO7) (fun W hW => hW.1)), ⟨HF.out.1.loc, HF.out.1.src⟩, ?_⟩
            refine onlyH (o := ?o111) 1 (by kernel_rfl) ?h111 ?r111
            case h111 => simp only [aT, aS, aZ]; rfl
            intro K hK
            refine op_call1 8 _ _ Tryz.f8 (fun v w' => v = .bool d ∧ Below Z0.heap.size Z0 w') rfl rfl Tryz.func8 (by kernel_rfl) (by kernel_rfl) ((frameOkSpec_any (.agg fc) f FF GG Z0 HF.out.2.1 HC.out.2.1 (by have := HC.out.2.2; omega)).mono (by rintro e w' ⟨rfl, h1⟩; exact ⟨_, rfl, by rw [HDK.out], h1⟩)) ?_
            rintro v Z1 ⟨rfl, hb1⟩
            have HF1 : Hid (FoW w T fc (some ⟨b, off, none⟩) (k + 4) zs Z1 ∧ RdFr Z1 (.agg fc) f FF GG ∧ Own (T + 1) Z1 FF ∧ Own (T + 1) Z1 GG) := ⟨HF.out.1.below hb1, HF.out.2.1.below hb1, HF.out.2.2.1.below HF.out.2.1.lt1 hb1, HF.out.2.2.2.below HF.out.2.1.lt2 hb1⟩
            clear hb1 HF
            refine ⟨_, by simp [Act.put]; rfl, hK _ _ ⟨⟨HF1.out.1.loc, HF1.out.1.src⟩, ?_⟩⟩
            clear hK
            cases d
            · have HV : Hid (FrIs zs Fr.zero false) := HNO.out (fun e => by have := HDK.out; rw [e.1] at this; cases this)
              refine takeH (o := ?o112) 2 (.bool true) ?h112 ?r112
              case h112 => simp only [aT, aS, aZ]; rfl
              refine ⟨_, by simp [Act.put]; rfl, by kernel_rfl, by kernel_rfl, by kernel_rfl, fun _ _ _ h => h, (.inl ⟨rfl, fun W _ => by go_simp⟩), ⟨HF1.out.1.loc, HF1.out.1.src⟩, ?_⟩
              refine takeH (o := ?o113) 3 (.bool true) ?h113 ?r113
              case h113 => simp only [aT, aS, aZ]; rfl
              refine ⟨_, by simp [Act.put]; rfl, by kernel_rfl, by kernel_rfl, by kernel_rfl, fun _ _ _ h => h, (.inl ⟨rfl, fun W _ => by kernel_rfl⟩), ⟨HF1.out.1.loc, HF1.out.1.src⟩, ?_⟩
              refine takeH (o := ?o114) 4 (undef) ?h114 ?r114
              case h114 => simp only [aT, aS, aZ]; rfl
              refine ⟨_, by simp [Act.put]; rfl, by kernel_rfl, by kernel_rfl, by kernel_rfl, fun _ _ _ h => h, (.inr ⟨rfl, rfl⟩), ⟨HF1.out.1.loc, HF1.out.1.src⟩, ?_⟩
              refine takeH (o := ?o115) 5 (undef) ?h115 ?r115
              case h115 => simp only [aT, aS, aZ]; rfl
              refine ⟨_, by simp [Act.put]; rfl, by kernel_rfl, by kernel_rfl, by kernel_rfl, fun _ _ _ h => h, (.inr ⟨rfl, rfl⟩), ⟨HF1.out.1.loc, HF1.out.1.src⟩, ?_⟩
              refine takeH (o := ?o116) 6 (undef) ?h116 ?r116
              case h116 => simp only [aT, aS, aZ]; rfl
              refine ⟨_, by simp [Act.put]; rfl, by kernel_rfl, by kernel_rfl, by kernel_rfl, fun _ _ _ h => h, (.inr ⟨rfl, rfl⟩), ⟨HF1.out.1.loc, HF1.out.1.src⟩, ?_⟩
              refine takeH (o := ?o117) 7 (undef) ?h117 ?r117
              case h117 => simp only [aT, aS, aZ]; rfl
              refine ⟨_, by simp [Act.put]; rfl, by kernel_rfl, by kernel_rfl, by kernel_rfl, fun _ _ _ h => h, (.inr ⟨rfl, rfl⟩), ⟨HF1.out.1.loc, HF1.out.1.src⟩, ?_⟩
              refine takeH (o := ?o118) 8 (undef) ?h118 ?r118
              case h118 => simp only [aT, aS, aZ]; rfl
              refine ⟨_, by simp [Act.put]; rfl, by kernel_rfl, by kernel_rfl, by kernel_rfl, fun _ _ _ h => h, (.inr ⟨rfl, rfl⟩), ⟨HF1.out.1.loc, HF1.out.1.src⟩, ?_⟩
              refine takeH (o := ?o119) 9 (undef) ?h119 ?r119
              case h119 => simp only [aT, aS, aZ]; rfl
              refine ⟨_, by simp [Act.put]; rfl, by kernel_rfl, by kernel_rfl, by kernel_rfl, fun _ _ _ h => h, (.inr ⟨rfl, rfl⟩), ⟨HF1.out.1.loc, HF1.out.1.src⟩, ?_⟩
              refine takeH (o := ?o120) 10 (.bool true) ?h120 ?r120
              case h120 => simp only [aT, aS, aZ]; rfl
              refine ⟨_, by simp [Act.put]; rfl, by kernel_rfl, by kernel_rfl, by kernel_rfl, fun _ _ _ h => h, (.inl ⟨rfl, fun W _ => by kernel_rfl⟩), ⟨HF1.out.1.loc, HF1.out.1.src⟩, ?_⟩
              refine wpAnyH_done (by kernel_rfl) ?_ _
              go_wp2_with (first | go_skip | (with_reducible refine stopStore 32 rfl ?_))
              refine store_known 32 w.heap.size _ #[.int .i64 0, .int .i64 0, .int .i64 0, .int .i64 0, .slice none 0 0, .int .i64 0, .int .i64 0, .int .i64 0, .int .i64 0, .int .i64 0, .int .i64 0, .int .i64 0, .int .i64 0, .slice none 0 0, .slice none 0 0, .slice none 0 0] 32 HF1.out.1.res rfl rfl rfl rfl infoFrO7 rfl (by simp [Value.oneCell']) ?_
              go_wp2
              refine bodyPost_ret (results_row_tmp Tryz.results11 _ _ w.heap.size _ _ _ _ rfl (Blk.setRow HF1.out.1.res) Tryz.underlying32 rfl infoFrO7) rfl ?_
              exact ⟨_, Fr.zero, false, [], [], rfl, rdFr_zero _, Own.nil, Own.nil, by simp, below_setRow HF1.out.1.bel (Nat.le_refl _) _, HV.out⟩
            refine takeH (o := ?o121) 2 (.bool false) ?h121 ?r121
            case h121 => simp only [aT, aS, aZ]; rfl
            refine ⟨_, by simp [Act.put]; rfl, by kernel_rfl, by kernel_rfl, by kernel_rfl, fun _ _ _ h => h, (.inl ⟨rfl, fun W _ => by go_simp⟩), ⟨HF1.out.1.loc, HF1.out.1.src⟩, ?_⟩
            refine takeH (o := ?o122) 3 (.bool false) ?h122 ?r122
            case h122 => simp only [aT, aS, aZ]; rfl
            refine ⟨_, by simp [Act.put]; rfl, by kernel_rfl, by kernel_rfl, by kernel_rfl, fun _ _ _ h => h, (.inl ⟨rfl, fun W _ => by kernel_rfl⟩), ⟨HF1.out.1.loc, HF1.out.1.src⟩, ?_⟩
            refine takeH (o := ?o123) 4 (.agg fc) ?h123 ?r123
            case h123 => simp only [aT, aS, aZ]; rfl
            refine ⟨_, by simp [Act.put]; rfl, by kernel_rfl, by kernel_rfl, by kernel_rfl, fun _ _ _ h => h, (yields_whole 32 T fc 32 _ rfl rfl rfl Tryz.underlying32 rfl (by rw [HFC.out.1]; exact infoFrO7) (fun W hW => hW.1)), ⟨HF1.out.1.loc, HF1.out.1.src⟩, ?_⟩
            refine takeH (o := ?o124) 7 (.slice (some ⟨b, off, none⟩) (k + 4) cap) ?h124 ?r124
            case h124 => simp only [aT, aS, aZ]; rfl
            refine ⟨_, by simp [Act.put]; rfl, by kernel_rfl, by kernel_rfl, by kernel_rfl, fun _ _ _ h => h, (.inl ⟨rfl, fun W _ => by kernel_rfl⟩), ⟨HF1.out.1.loc, HF1.out.1.src⟩, ?_⟩
            refine takeH (o := ?o125) 8 (.string (strOfNums zs)) ?h125 ?r125
            case h125 => simp only [aT, aS, aZ]; rfl
            refine ⟨_, by simp [Act.put]; rfl, by kernel_rfl, by kernel_rfl, by kernel_rfl, fun _ _ _ h => h, (.inl ⟨rfl, fun W hW => exec_conv rfl rfl (conv_any hW.2)⟩), ⟨HF1.out.1.loc, HF1.out.1.src⟩, ?_⟩
            refine onlyH (o := ?o126) 5 (by kernel_rfl) ?h126 ?r126
            case h126 => simp only [aT, aS, aZ]; rfl
            intro K hK
            refine op_call1 36 _ _ Tryz.f36 (fun u w' => w'.ownsRow Z1.heap.size 5 1 u f.bytes.length (f.bytes.map (Value.int .u8)) ∧ Below Z1.heap.size Z1 w') rfl rfl Tryz.func36 (by kernel_rfl) (by kernel_rfl) ((frameBytesSpec_any (.agg fc) f FF GG Z1 HF1.out.2.1 HC.out.2.1 (by have := HC.out.2.2; omega)).mono (by rintro e w' ⟨u, rfl, h1, h2⟩; exact ⟨_, rfl, h1, h2⟩)) ?_
            rintro v Z2 ⟨hown, hb2⟩
            obtain ⟨gu, cu, rfl, _⟩ := own_shape7 hown (by have := Fr.bytes_min HDK.out.symm; omega)
            have k1 := conv_any (RdB.of_own hown f.bytes_range) (cap := cu)
            have HF2 : Hid (FoW w T fc (some ⟨b, off, none⟩) (k + 4) zs Z2 ∧ RdFr Z2 (.agg fc) f FF GG ∧ Own (T + 1) Z2 FF ∧ Own (T + 1) Z2 GG) := ⟨HF1.out.1.below hb2, HF1.out.2.1.below hb2, HF1.out.2.2.1.below HF1.out.2.1.lt1 hb2, HF1.out.2.2.2.below HF1.out.2.1.lt2 hb2⟩
            clear hb2 hown HF1
            refine ⟨_, by simp [Act.put]; rfl, hK _ _ ⟨⟨HF2.out.1.loc, HF2.out.1.src⟩, ?_⟩⟩
            clear hK
            refine onlyH (o := ?o127) 6 (by kernel_rfl) ?h127 ?r127
            case h127 => simp only [aT, aS, aZ]; rfl
            intro K hK
            refine op_value (.string (strOfNums f.bytes)) rfl (exec_conv rfl rfl k1) ⟨_, by simp [Act.put]; rfl, hK _ _ ⟨⟨HF2.out.1.loc, HF2.out.1.src⟩, ?_⟩⟩
            clear hK
            clear k1
            refine onlyH (o := ?o128) 9 (by kernel_rfl) ?h128 ?r128
            case h128 => simp only [aT, aS, aZ]; rfl
            intro K hK
            refine op_value (.bool (!decide (f.bytes = zs))) rfl ((exec_neStr rfl rfl rfl).trans (by rw [strOf_dec f.bytes_range HZ.out.2])) ⟨_, by simp [Act.put]; rfl, hK _ _ ⟨⟨HF2.out.1.loc, HF2.out.1.src⟩, ?_⟩⟩
            clear hK
            refine onlyH (o := ?o129) 10 (by kernel_rfl) ?h129 ?r129
            case h129 => simp only [aT, aS, aZ]; rfl
            intro K hK
            refine op_value (.bool (!decide (f.bytes = zs))) rfl (by kernel_rfl) ⟨_, by simp [Act.put]; rfl, hK _ _ ⟨⟨HF2.out.1.loc, HF2.out.1.src⟩, ?_⟩⟩
            clear hK
            refine wpAnyH_done (by kernel_rfl) ?_ _
            obtain ⟨d, hd⟩ : ∃ d, d = !decide (f.bytes = zs) := ⟨_, rfl⟩
            rw [← hd]
            have HD : Hid (d = !decide (f.bytes = zs)) := hd
            clear hd
            cases d
            rotate_left
            · have HV : Hid (FrIs zs Fr.zero false) := HNO.out (fun e => by have := HD.out; rw [decide_eq_true e.2] at this; cases this)
              go_wp2_with (first | go_skip | (with_reducible refine stopStore 32 rfl ?_))
              refine store_known 32 w.heap.size _ #[.int .i64 0, .int .i64 0, .int .i64 0, .int .i64 0, .slice none 0 0, .int .i64 0, .int .i64 0, .int .i64 0, .int .i64 0, .int .i64 0, .int .i64 0, .int .i64 0, .int .i64 0, .slice none 0 0, .slice none 0 0, .slice none 0 0] 32 HF2.out.1.res rfl rfl rfl rfl infoFrO7 rfl (by simp [Value.oneCell']) ?_
              go_wp2
              refine bodyPost_ret (results_row_tmp Tryz.results11 _ _ w.heap.size _ _ _ _ rfl (Blk.setRow HF2.out.1.res) Tryz.underlying32 rfl infoFrO7) rfl ?_
              exact ⟨_, Fr.zero, false, [], [], rfl, rdFr_zero _, Own.nil, Own.nil, by simp, below_setRow HF2.out.1.bel (Nat.le_refl _) _, HV.out⟩
            have HV : Hid (FrIs zs f true) := by
              refine frIs_yes HDK.out.symm ?_
              by_cases e : f.bytes = zs
              · exact e.symm
              · have := HD.out
                rw [decide_eq_false e] at this
                cases this
            have hds : (Tryz.prog.info? 32).map (·.size) = some fc.size := by rw [HFC.out.1]; exact infoFrO7
            go_wp2_with (first | go_skip | (with_reducible refine stopLoad 32 rfl ?_))
            refine load_known 32 T fc 32 _ HF2.out.1.loc rfl rfl rfl Tryz.underlying32 rfl hds ?_
            go_wp2_with (first | go_skip | (with_reducible refine stopStore 32 rfl ?_))
            refine store_known 32 w.heap.size _ fc 32 HF2.out.1.res rfl rfl rfl rfl hds (by rw [HFC.out.1]; rfl) HFC.out.2 ?_
            have oT := HF2.out.1.ord
            have nF : w.heap.size ∉ FF := fun hx => by have := HF2.out.2.2.1.ge _ hx; omega
            have nG : w.heap.size ∉ GG := fun hx => by have := HF2.out.2.2.2.ge _ hx; omega
            have HL : Hid (RdFr (Z2.setRow w.heap.size fc) (.agg fc) f FF GG ∧ Own w.heap.size (Z2.setRow w.heap.size fc) FF ∧ Own w.heap.size (Z2.setRow w.heap.size fc) GG ∧ (∀ b ∈ FF, b ∉ GG) ∧ Below w.heap.size w (Z2.setRow w.heap.size fc) ∧ Blk (Z2.setRow w.heap.size fc) w.heap.size fc 32) := ⟨HF2.out.2.1.agree (Agree.row nF _) (Agree.row nG _), (HF2.out.2.2.1.agree (Agree.row nF _)).mono (by omega), (HF2.out.2.2.2.agree (Agree.row nG _)).mono (by omega), HC.out.1, below_setRow HF2.out.1.bel (Nat.le_refl _) _, HF2.out.1.res.setRow⟩
            clear HF2 nF nG
            go_wp2
            refine bodyPost_ret (results_row_tmp Tryz.results11 _ _ w.heap.size _ _ _ _ rfl HL.out.2.2.2.2.2 Tryz.underlying32 rfl hds) rfl ?_
            exact ⟨_, f, true, FF, GG, rfl, HL.out.1, HL.out.2.1, HL.out.2.2.1, HL.out.2.2.2.1, HL.out.2.2.2.2.1, HV.out⟩
end Go.Proofs.YtjndcfamfminkabGreat
/- Items and entries that came in. No statement of the seat is proved here. -/
namespace Go.Proofs.YtjndcfamfminkabGreat
open Go.RowKit Go.WideShapes Go.ChangeShapes Go.ChangeAt Go.Deep
end Go.Proofs.YtjndcfamfminkabGreat
/- The walks through the helpers of the laws over frames. No statement of the seat is proved here. -/
namespace Go.Proofs.YtjndcfamfminkabGreat
open Go.RowKit
end Go.Proofs.YtjndcfamfminkabGreat
/- Frames that came in. No statement of the seat is proved here. -/
namespace Go.Proofs.YtjndcfamfminkabGreat
open Go.RowKit Go.WideShapes Go.ChangeShapes Go.ChangeAt Go.Deep
end Go.Proofs.YtjndcfamfminkabGreat
/- What the laws over items and entries share. No statement of the seat is proved here. -/
namespace Go.Proofs.YtjndcfamfminkabGreat
open Go.RowKit Go.WideShapes Go.ChangeShapes Go.ChangeAt
theorem RdIt.cells {w : World} {v : Value} {x : It} {F : List Nat} (h : RdIt w v x F) : ∃ cs : Array Value, v = .agg cs ∧ cs.size = 11 ∧ cs.all (·.oneCell') = true := by
  obtain ⟨a1, n1, c1, a2, n2, c2, a3, n3, c3, rfl, _⟩ := h
  exact ⟨_, rfl, rfl, by simp [Value.oneCell']⟩
/-- An entry's value that can be read; F: its blocks. -/
def RdE (w : World) (v : Value) (x : En) (F : List Nat) : Prop := ∃ F1 F2, F = F1 ++ F2 ∧ RdEn w v x F1 F2
theorem RdE.agree {w w' : World} {v : Value} {x : En} {F : List Nat} (h : RdE w v x F) (ha : Agree w w' F) : RdE w' v x F := by
  obtain ⟨F1, F2, rfl, h⟩ := h
  exact ⟨F1, F2, rfl, h.agree (fun b hb => ha b (List.mem_append_left _ hb)) (fun b hb => ha b (List.mem_append_right _ hb))⟩
theorem RdE.lt {w : World} {v : Value} {x : En} {F : List Nat} (h : RdE w v x F) : ∀ b ∈ F, b < w.heap.size := by
  obtain ⟨F1, F2, rfl, h⟩ := h
  exact fun b hb => (List.mem_append.1 hb).elim (h.lt1 b) (h.lt2 b)
theorem RdE.below {w w' : World} {v : Value} {x : En} {F : List Nat} (h : RdE w v x F) (hb : Below w.heap.size w w') : RdE w' v x F := h.agree (.below hb h.lt)
theorem RdE.cells {w : World} {v : Value} {x : En} {F : List Nat} (h : RdE w v x F) : ∃ cs : Array Value, v = .agg cs ∧ cs.size = 10 ∧ cs.all (·.oneCell') = true := by
  obtain ⟨F1, F2, rfl, b, l, c, a1, n1, c1, a2, n2, c2, a3, n3, c3, rfl, _⟩ := h
  exact ⟨_, rfl, rfl, by simp [Value.oneCell']⟩
def It.fits (x : It) : Prop := x.sk.fits
def It.wide (x : It) : Prop := x.sk.wide
theorem It.fits.wide {x : It} (h : x.fits) : x.wide := Sk.fits.wide h
def En.fits (x : En) : Prop := x.sk.fits ∧ x.ids.length ≤ 1048576
def En.wide (x : En) : Prop := x.sk.wide ∧ x.ids.length ≤ 1048576
theorem En.fits.wide {x : En} (h : x.fits) : x.wide := ⟨h.1.wide, h.2⟩
end Go.Proofs.YtjndcfamfminkabGreat
/- What the laws over frames share. No statement of the seat is proved here. -/
namespace Go.Proofs.YtjndcfamfminkabGreat
open Go.RowKit Go.WideShapes Go.ChangeShapes Go.ChangeAt
/-- A frame's value that can be read; F: its blocks. -/
def RdF (w : World) (v : Value) (x : Fr) (F : List Nat) : Prop := ∃ F1 F2, F = F1 ++ F2 ∧ RdFr w v x F1 F2
theorem RdF.agree {w w' : World} {v : Value} {x : Fr} {F : List Nat} (h : RdF w v x F) (ha : Agree w w' F) : RdF w' v x F := by
  obtain ⟨F1, F2, rfl, h⟩ := h
  exact ⟨F1, F2, rfl, h.agree (fun b hb => ha b (List.mem_append_left _ hb)) (fun b hb => ha b (List.mem_append_right _ hb))⟩
theorem RdF.lt {w : World} {v : Value} {x : Fr} {F : List Nat} (h : RdF w v x F) : ∀ b ∈ F, b < w.heap.size := by
  obtain ⟨F1, F2, rfl, h⟩ := h
  exact fun b hb => (List.mem_append.1 hb).elim (h.lt1 b) (h.lt2 b)
theorem RdF.below {w w' : World} {v : Value} {x : Fr} {F : List Nat} (h : RdF w v x F) (hb : Below w.heap.size w w') : RdF w' v x F := h.agree (.below hb h.lt)
theorem RdF.cells {w : World} {v : Value} {x : Fr} {F : List Nat} (h : RdF w v x F) : ∃ cs : Array Value, v = .agg cs ∧ cs.size = 16 ∧ cs.all (·.oneCell') = true := by
  obtain ⟨F1, F2, rfl, b, l, c, a1, n1, c1, a2, n2, c2, a3, n3, c3, rfl, _⟩ := h
  exact ⟨_, rfl, rfl, by simp [Value.oneCell']⟩
def Fr.fits (x : Fr) : Prop := x.item.sk.fits ∧ x.taken.length ≤ 1048576
def Fr.wide (x : Fr) : Prop := x.item.sk.wide ∧ x.taken.length ≤ 1048576
theorem Fr.fits.wide {x : Fr} (h : x.fits) : x.wide := ⟨h.1.wide, h.2⟩
end Go.Proofs.YtjndcfamfminkabGreat
/- The walk through the program's FrameOf. No statement of the seat is proved here. -/
namespace Go.Proofs.YtjndcfamfminkabGreat
open Go.RowKit
theorem frIs_noBody {zs body : List Int} (h : BodyIs zs body false) : FrIs zs Fr.zero false := frIs_ne (fun g hg e => by
  unfold BodyIs at h
  rw [if_neg (by simp)] at h
  exact h g.body (e.trans (Fr.bytes_ok hg)))
theorem take2_eq {body : List Int} (h : body.take 2 = [87, 82]) : body = [87, 82] ++ body.drop 2 := by
  conv => lhs; rw [← List.take_append_drop 2 body, h]
theorem take2_ne {body : List Int} (h : ¬ body.take 2 = [87, 82]) : ∀ r, body ≠ [87, 82] ++ r := fun r e => h (by rw [e]; rfl)
set_option maxRecDepth 200000 in
set_option maxHeartbeats 4000000 in
theorem frameOfImpl_any (a : Option Addr) (len cap : Nat) (zs : List Int) (w : World) (h : RdB w a len zs) (hlen : len ≤ 1048576) (hcap : len ≤ cap) (ha : a = none → cap = 0) :
    Calls Tryz.prog 7 #[.slice a len cap] w fun e w' => NewFrR w (FrIs zs) e w' := by
  have HR : Hid (RdB w a len zs ∧ len ≤ cap ∧ (a = none → cap = 0)) := ⟨h, hcap, ha⟩
  have HT : Hid (Blk (w.alloc (.cells #[.int .i64 0, .int .i64 0, .int .i64 0, .int .i64 0, .slice none 0 0, .int .i64 0, .int .i64 0, .int .i64 0, .int .i64 0, .int .i64 0, .int .i64 0, .int .i64 0, .int .i64 0, .slice none 0 0, .slice none 0 0, .slice none 0 0] 32)) w.heap.size #[.int .i64 0, .int .i64 0, .int .i64 0, .int .i64 0, .slice none 0 0, .int .i64 0, .int .i64 0, .int .i64 0, .int .i64 0, .int .i64 0, .int .i64 0, .int .i64 0, .int .i64 0, .slice none 0 0, .slice none 0 0, .slice none 0 0] 32 ∧ Below w.heap.size w (w.alloc (.cells #[.int .i64 0, .int .i64 0, .int .i64 0, .int .i64 0, .slice none 0 0, .int .i64 0, .int .i64 0, .int .i64 0, .int .i64 0, .int .i64 0, .int .i64 0, .int .i64 0, .int .i64 0, .slice none 0 0, .slice none 0 0, .slice none 0 0] 32))) := ⟨Blk.made _ _ _, (Below.refl _ _).alloc (Nat.le_refl _) _⟩
  clear h hcap ha
  go_enter Tryz.func7, Tryz.ntmps7
  go_wp2_with fail
  refine (wholeBody_any a len cap zs _ (HR.out.1.below HT.out.2) hlen HR.out.2.1 HR.out.2.2).mono ?_
  rintro e w1 ⟨⟨a1, l1, c1, body, d, rfl, rb, hl1, hc1, ha1, hB⟩, bw1⟩
  have HT1 : Hid (Blk w1 w.heap.size #[.int .i64 0, .int .i64 0, .int .i64 0, .int .i64 0, .slice none 0 0, .int .i64 0, .int .i64 0, .int .i64 0, .int .i64 0, .int .i64 0, .int .i64 0, .int .i64 0, .int .i64 0, .slice none 0 0, .slice none 0 0, .slice none 0 0] 32 ∧ Below w.heap.size w w1 ∧ RdB w1 a1 l1 body ∧ BodyIs zs body d ∧ (a1 = none → c1 = 0)) := ⟨HT.out.1.below bw1, Below.next HT.out.2 bw1, rb, hB, ha1⟩
  clear bw1 rb hB ha1 HT
  have kc : (convert 22 22 (.slice (some ⟨w1.heap.size, 0, none⟩) 2 2)).run Tryz.prog (w1.alloc (.cells #[.int .u8 87, .int .u8 82] 5)) = .ok (.slice (some ⟨w1.heap.size, 0, none⟩) 2 2) (w1.alloc (.cells #[.int .u8 87, .int .u8 82] 5 (2, 3))) := Lib.run_convert_bytes_const (P := Tryz.prog) w1 22 5 #[.int .u8 87, .int .u8 82] 2 2 Tryz.underlying22 Tryz.underlying5
  have bW : Below w1.heap.size w1 (w1.alloc (.cells #[.int .u8 87, .int .u8 82] 5 (2, 3))) := (Below.refl _ _).alloc (Nat.le_refl _) _
  have HT2 : Hid (Blk (w1.alloc (.cells #[.int .u8 87, .int .u8 82] 5 (2, 3))) w.heap.size #[.int .i64 0, .int .i64 0, .int .i64 0, .int .i64 0, .slice none 0 0, .int .i64 0, .int .i64 0, .int .i64 0, .int .i64 0, .int .i64 0, .int .i64 0, .int .i64 0, .int .i64 0, .slice none 0 0, .slice none 0 0, .slice none 0 0] 32 ∧ Below w.heap.size w (w1.alloc (.cells #[.int .u8 87, .int .u8 82] 5 (2, 3))) ∧ RdB (w1.alloc (.cells #[.int .u8 87, .int .u8 82] 5 (2, 3))) a1 l1 body ∧ RdB (w1.alloc (.cells #[.int .u8 87, .int .u8 82] 5 (2, 3))) (some ⟨w1.heap.size, 0, none⟩) 2 [87, 82]) := by
    refine ⟨HT1.out.1.below bW, Below.next HT1.out.2.1 bW, HT1.out.2.2.1.below bW, rfl, (by intro n hn; simp at hn; omega), .inr ⟨w1.heap.size, 0, rfl, fun i hi => ?_⟩⟩
    have hk : (w1.alloc (.cells #[.int .u8 87, .int .u8 82] 5 (2, 3))).heap[w1.heap.size]? = some (.cells #[.int .u8 87, .int .u8 82] 5 (2, 3)) := heap_alloc_new _ _
    match i, hi with
    | 0, _ => simp only [World.cell?, hk]; rfl
    | 1, _ => simp only [World.cell?, hk]; rfl
  clear bW
  go_wp2_with fail
  obtain ⟨W2, hW2⟩ : ∃ W, W = w1.alloc (.cells #[.int .u8 87, .int .u8 82] 5 (2, 3)) := ⟨_, rfl⟩
  rw [← hW2] at HT2 ⊢
  clear kc hW2
  refine (cutPrefix_any a1 (some ⟨w1.heap.size, 0, none⟩) l1 c1 2 body [87, 82] _ HT2.out.2.2.1 HT2.out.2.2.2 hc1).mono ?_
  rintro e w3 ⟨⟨a2, l2, c2, rfl, hcut⟩, hw3⟩
  have hw3' := hw3.symm
  subst hw3'
  clear hw3
  obtain ⟨d2, hd2⟩ : ∃ d, d = decide (body.take 2 = [87, 82]) := ⟨_, rfl⟩
  rw [← hd2] at hcut ⊢
  have HCUT : Hid (d2 = true → RdB W2 a2 l2 (body.drop 2) ∧ l2 ≤ l1 ∧ l2 ≤ c2 ∧ (a2 = none → c2 = 0)) := hcut
  have HD2 : Hid (d2 = decide (body.take 2 = [87, 82])) := hd2
  clear hcut hd2
  cases d
  · have HV : Hid (FrIs zs Fr.zero false) := frIs_noBody HT1.out.2.2.2.1
    go_wp2_with (first | go_skip | (with_reducible refine stopStore 32 rfl ?_))
    refine store_known 32 w.heap.size _ #[.int .i64 0, .int .i64 0, .int .i64 0, .int .i64 0, .slice none 0 0, .int .i64 0, .int .i64 0, .int .i64 0, .int .i64 0, .int .i64 0, .int .i64 0, .int .i64 0, .int .i64 0, .slice none 0 0, .slice none 0 0, .slice none 0 0] 32 HT2.out.1 rfl rfl rfl rfl infoFrF7 rfl (by simp [Value.oneCell']) ?_
    go_wp2
    refine bodyPost_ret (results_row_tmp Tryz.results7 _ _ w.heap.size _ _ _ _ rfl HT2.out.1.setRow Tryz.underlying32 rfl infoFrF7) rfl ?_
    exact ⟨_, Fr.zero, false, [], [], rfl, rdFr_zero _, Own.nil, Own.nil, by simp, below_setRow HT2.out.2.1 (Nat.le_refl _) _, HV.out⟩
  have HBd : Hid (zs = body ++ sumOf body) := by
    have q := HT1.out.2.2.2.1
    unfold BodyIs at q
    rw [if_pos rfl] at q
    exact q
  cases d2
  · have HV : Hid (FrIs zs Fr.zero false) := by
      show FrIs _ _ _
      rw [HBd.out]
      exact frIs_noSign (take2_ne (of_decide_eq_false HD2.out.symm))
    go_wp2_with (first | go_skip | (with_reducible refine stopStore 32 rfl ?_))
    refine store_known 32 w.heap.size _ #[.int .i64 0, .int .i64 0, .int .i64 0, .int .i64 0, .slice none 0 0, .int .i64 0, .int .i64 0, .int .i64 0, .int .i64 0, .int .i64 0, .int .i64 0, .int .i64 0, .int .i64 0, .slice none 0 0, .slice none 0 0, .slice none 0 0] 32 HT2.out.1 rfl rfl rfl rfl infoFrF7 rfl (by simp [Value.oneCell']) ?_
    go_wp2
    refine bodyPost_ret (results_row_tmp Tryz.results7 _ _ w.heap.size _ _ _ _ rfl HT2.out.1.setRow Tryz.underlying32 rfl infoFrF7) rfl ?_
    exact ⟨_, Fr.zero, false, [], [], rfl, rdFr_zero _, Own.nil, Own.nil, by simp, below_setRow HT2.out.2.1 (Nat.le_refl _) _, HV.out⟩
  have HSg : Hid (body = [87, 82] ++ body.drop 2) := take2_eq (of_decide_eq_true HD2.out.symm)
  have HCT : Hid (RdB W2 a2 l2 (body.drop 2) ∧ l2 ≤ l1 ∧ l2 ≤ c2 ∧ (a2 = none → c2 = 0)) := HCUT.out rfl
  have hl2 : l2 ≤ 1048576 := by have := HCT.out.2.1; omega
  clear HCUT
  go_wp2_with fail
  refine (numbersOfBytes_any a2 l2 c2 (body.drop 2) _ HCT.out.1 hl2 HCT.out.2.2.1 HCT.out.2.2.2).mono ?_
  rintro e w4 ⟨⟨v, l, d3, rfl, hown, hAll⟩, hb4⟩
  obtain ⟨a4, c4, X4, rfl, hr4, hc4⟩ := rdI_own_cap hown
  have hll : l.length ≤ 1048576 := by have := (allIs_len hAll).1; have := HCT.out.1.length; omega
  have HT4 : Hid (Blk w4 w.heap.size #[.int .i64 0, .int .i64 0, .int .i64 0, .int .i64 0, .slice none 0 0, .int .i64 0, .int .i64 0, .int .i64 0, .int .i64 0, .int .i64 0, .int .i64 0, .int .i64 0, .int .i64 0, .slice none 0 0, .slice none 0 0, .slice none 0 0] 32 ∧ Below w.heap.size w w4 ∧ RdI w4 a4 l.length l X4 ∧ l.length ≤ c4 ∧ AllIs (body.drop 2) l d3) := ⟨HT2.out.1.below hb4, Below.next HT2.out.2.1 hb4, hr4, hc4, hAll⟩
  clear hown hAll hb4 hr4 hc4 HT2 HT1 HCT
  cases d3
  · have HV : Hid (FrIs zs Fr.zero false) := by
      show FrIs _ _ _
      rw [HBd.out]
      refine frIs_noNums HSg.out ?_
      have q := HT4.out.2.2.2.2
      unfold AllIs at q
      rw [if_neg (by simp)] at q
      exact q.2
    go_wp2_with (first | go_skip | (with_reducible refine stopStore 32 rfl ?_))
    refine store_known 32 w.heap.size _ #[.int .i64 0, .int .i64 0, .int .i64 0, .int .i64 0, .slice none 0 0, .int .i64 0, .int .i64 0, .int .i64 0, .int .i64 0, .int .i64 0, .int .i64 0, .int .i64 0, .int .i64 0, .slice none 0 0, .slice none 0 0, .slice none 0 0] 32 HT4.out.1 rfl rfl rfl rfl infoFrF7 rfl (by simp [Value.oneCell']) ?_
    go_wp2
    refine bodyPost_ret (results_row_tmp Tryz.results7 _ _ w.heap.size _ _ _ _ rfl HT4.out.1.setRow Tryz.underlying32 rfl infoFrF7) rfl ?_
    exact ⟨_, Fr.zero, false, [], [], rfl, rdFr_zero _, Own.nil, Own.nil, by simp, below_setRow HT4.out.2.1 (Nat.le_refl _) _, HV.out⟩
  have HAl : Hid (body.drop 2 = putAll l ∧ ∀ x ∈ l, InN x) := by
    have q := HT4.out.2.2.2.2
    unfold AllIs at q
    rw [if_pos rfl] at q
    exact q
  obtain ⟨n4, hn4⟩ : ∃ n, n = l.length := ⟨_, rfl⟩
  rw [← hn4] at HT4 hll ⊢
  clear hn4
  go_wp2_with fail
  refine (frameOfNumbers_any a4 n4 c4 l X4 _ HT4.out.2.2.1 hll HT4.out.2.2.2.1 HAl.out.2).mono ?_
  rintro e w5 ⟨v5, f, d4, F, G, rfl, rf, oF, oG, ap, b5, hN⟩
  obtain ⟨ds, rfl, hd16, hdone⟩ := (show RdF w5 v5 f (F ++ G) from ⟨F, G, rfl, rf⟩).cells
  have HW5 : Hid (RdFr w5 (.agg ds) f F G ∧ Own w4.heap.size w5 F ∧ Own w4.heap.size w5 G ∧ (∀ b ∈ F, b ∉ G) ∧ Below w.heap.size w w5 ∧ Blk w5 w.heap.size #[.int .i64 0, .int .i64 0, .int .i64 0, .int .i64 0, .slice none 0 0, .int .i64 0, .int .i64 0, .int .i64 0, .int .i64 0, .int .i64 0, .int .i64 0, .int .i64 0, .int .i64 0, .slice none 0 0, .slice none 0 0, .slice none 0 0] 32 ∧ ds.size = 16 ∧ ds.all (·.oneCell') = true) := ⟨rf, oF, oG, ap, Below.next HT4.out.2.1 b5, HT4.out.1.below b5, hd16, hdone⟩
  have HV : Hid (FrIs zs f d4) := by
    show FrIs _ _ _
    rw [HBd.out]
    exact frIs_of HAl.out.2 hN (by rw [← HAl.out.1]; exact HSg.out)
  have lt4 : w.heap.size < w4.heap.size := HT4.out.1.lt
  have hds : (Tryz.prog.info? 32).map (·.size) = some ds.size := by rw [hd16]; exact infoFrF7
  clear rf oF oG ap b5 hN hd16 hdone HT4
  go_wp2_with (first | go_skip | (with_reducible refine stopStore 32 rfl ?_))
  refine store_known 32 w.heap.size _ ds 32 HW5.out.2.2.2.2.2.1 rfl rfl rfl rfl hds (by rw [HW5.out.2.2.2.2.2.2.1]; rfl) HW5.out.2.2.2.2.2.2.2 ?_
  have nF : w.heap.size ∉ F := fun hx => by have := HW5.out.2.1.ge _ hx; omega
  have nG : w.heap.size ∉ G := fun hx => by have := HW5.out.2.2.1.ge _ hx; omega
  have HE : Hid (RdFr (w5.setRow w.heap.size ds) (.agg ds) f F G ∧ Own w.heap.size (w5.setRow w.heap.size ds) F ∧ Own w.heap.size (w5.setRow w.heap.size ds) G ∧ (∀ b ∈ F, b ∉ G) ∧ Below w.heap.size w (w5.setRow w.heap.size ds) ∧ Blk (w5.setRow w.heap.size ds) w.heap.size ds 32) := ⟨HW5.out.1.agree (Agree.row nF _) (Agree.row nG _), (HW5.out.2.1.agree (Agree.row nF _)).mono (by omega), (HW5.out.2.2.1.agree (Agree.row nG _)).mono (by omega), HW5.out.2.2.2.1, below_setRow HW5.out.2.2.2.2.1 (Nat.le_refl _) _, HW5.out.2.2.2.2.2.1.setRow⟩
  clear HW5 nF nG
  go_wp2
  refine bodyPost_ret (results_row_tmp Tryz.results7 _ _ w.heap.size _ _ _ _ rfl HE.out.2.2.2.2.2 Tryz.underlying32 rfl hds) rfl ?_
  exact ⟨_, f, d4, F, G, rfl, HE.out.1, HE.out.2.1, HE.out.2.2.1, HE.out.2.2.2.1, HE.out.2.2.2.2.1, HV.out⟩
end Go.Proofs.YtjndcfamfminkabGreat
/- The walks through the program's numbersOfFrame and FrameBytes. No statement of the seat is proved here. -/
namespace Go.Proofs.YtjndcfamfminkabGreat
open Go.RowKit
theorem Fr.numbers_len {x : Fr} (h : x.Right) : x.numbers.length ≤ 1000 := by
  have m := h.many
  have i := h.item
  unfold Fr.numbers
  rw [List.length_append, List.length_append, flat_length]
  by_cases q : x.kind = 1
  · rw [if_pos q] at i ⊢
    rw [List.length_append, Sk.nums_len (Sk.ok_lens (It.ok_nums i).2.2.2.2).1]
    simp only [List.length_cons, List.length_nil]
    omega
  · rw [if_neg q]
    simp only [List.length_cons, List.length_nil]
    omega
def Fr.numsTo (x : Fr) (k : Nat) : List Int := [x.kind, x.agent, x.epoch, x.granted, (x.taken.length : Int)] ++ flat (x.taken.take k)
theorem frNums_succ {x : Fr} {k : Nat} (hk : k < x.taken.length) : x.numsTo (k + 1) = x.numsTo k ++ [(x.taken.at k).1, (x.taken.at k).2] := by
  unfold Fr.numsTo
  rw [show x.taken.take (k + 1) = x.taken.take k ++ [x.taken.at k] from by rw [List.take_add_one, List.getElem?_eq_getElem hk]; simp [Sp.at, List.getElem?_eq_getElem hk], flat_append]
  simp [flat]
theorem frNums_len (x : Fr) {k : Nat} (hk : k ≤ x.taken.length) : (x.numsTo k).length = 5 + 2 * k := by
  unfold Fr.numsTo
  rw [List.length_append, flat_length, List.length_take]
  simp only [List.length_cons, List.length_nil]
  omega
theorem NumSt.lit {w W : World} {cs : Array Value} {t : TypeId} {v : Value} {xs : List Int} (h : NumSt w cs t v xs W) (o : Obj) : NumSt w cs t v xs (W.alloc o) := h.below ((Below.refl _ _).alloc (Nat.le_refl _) _)
set_option maxRecDepth 200000 in
set_option maxHeartbeats 8000000 in
theorem numbersOfFrame_any (v : Value) (x : Fr) (F G : List Nat) (w : World) (h : RdFr w v x F G) (hx : x.Right) (hw : x.item.sk.wide) :
    Calls Tryz.prog 23 #[v] w fun e w' => ∃ u, e = .returned u ∧ w'.ownsRow w.heap.size 3 1 u x.numbers.length (x.numbers.map (Value.int .i64)) ∧ Below w.heap.size w w' := by
  obtain ⟨i0, hi, hz0, hz1, hz2⟩ := info_parts infoInt
  obtain ⟨b, l, c, a1, n1, c1, a2, n2, c2, a3, n3, c3, rfl, hp, hr, _⟩ := h
  have HX : Hid (x.Right ∧ x.item.sk.wide ∧ RdIt w (.agg #[.int .i64 x.item.seq, .int .i64 x.item.cls, .int .i64 x.item.key, .int .i64 x.item.window, .int .i64 x.item.sk.count, .int .i64 x.item.sk.sum, .int .i64 x.item.sk.min, .int .i64 x.item.sk.max, .slice a1 n1 c1, .slice a2 n2 c2, .slice a3 n3 c3]) x.item G) := ⟨hx, hw, hr⟩
  have HP : Hid (RdP w b l x.taken F ∧ x.taken.length = l) := ⟨hp, hp.length⟩
  have hl : l ≤ 30 := by rw [← hp.length]; exact hx.many
  have HS0 : Hid (NumSt w #[.int .i64 x.kind, .int .i64 x.agent, .int .i64 x.epoch, .int .i64 x.granted, .slice b l c, .int .i64 x.item.seq, .int .i64 x.item.cls, .int .i64 x.item.key, .int .i64 x.item.window, .int .i64 x.item.sk.count, .int .i64 x.item.sk.sum, .int .i64 x.item.sk.min, .int .i64 x.item.sk.max, .slice a1 n1 c1, .slice a2 n2 c2, .slice a3 n3 c3] 32 (.slice (some ⟨w.heap.size + 1, 0, none⟩) 5 5) [x.kind, x.agent, x.epoch, x.granted, (l : Int)] ((w.alloc (.cells #[.int .i64 x.kind, .int .i64 x.agent, .int .i64 x.epoch, .int .i64 x.granted, .slice b l c, .int .i64 x.item.seq, .int .i64 x.item.cls, .int .i64 x.item.key, .int .i64 x.item.window, .int .i64 x.item.sk.count, .int .i64 x.item.sk.sum, .int .i64 x.item.sk.min, .int .i64 x.item.sk.max, .slice a1 n1 c1, .slice a2 n2 c2, .slice a3 n3 c3] 32)).alloc (.cells #[.int .i64 x.kind, .int .i64 x.agent, .int .i64 x.epoch, .int .i64 x.granted, .int .i64 (l : Int)] 3))) := by
    have m := two_made w #[.int .i64 x.kind, .int .i64 x.agent, .int .i64 x.epoch, .int .i64 x.granted, .slice b l c, .int .i64 x.item.seq, .int .i64 x.item.cls, .int .i64 x.item.key, .int .i64 x.item.window, .int .i64 x.item.sk.count, .int .i64 x.item.sk.sum, .int .i64 x.item.sk.min, .int .i64 x.item.sk.max, .slice a1 n1 c1, .slice a2 n2 c2, .slice a3 n3 c3] #[.int .i64 x.kind, .int .i64 x.agent, .int .i64 x.epoch, .int .i64 x.granted, .int .i64 (l : Int)] 32 3
    have o := World.ownsRow_lit (base := w.heap.size + 1) (e := 3) (size := 1) (w.alloc (.cells #[.int .i64 x.kind, .int .i64 x.agent, .int .i64 x.epoch, .int .i64 x.granted, .slice b l c, .int .i64 x.item.seq, .int .i64 x.item.cls, .int .i64 x.item.key, .int .i64 x.item.window, .int .i64 x.item.sk.count, .int .i64 x.item.sk.sum, .int .i64 x.item.sk.min, .int .i64 x.item.sk.max, .slice a1 n1 c1, .slice a2 n2 c2, .slice a3 n3 c3] 32)) #[.int .i64 x.kind, .int .i64 x.agent, .int .i64 x.epoch, .int .i64 x.granted, .int .i64 (l : Int)] 5 (by simp) (by unfold maxLen; omega) rfl
    have e : (w.alloc (.cells #[.int .i64 x.kind, .int .i64 x.agent, .int .i64 x.epoch, .int .i64 x.granted, .slice b l c, .int .i64 x.item.seq, .int .i64 x.item.cls, .int .i64 x.item.key, .int .i64 x.item.window, .int .i64 x.item.sk.count, .int .i64 x.item.sk.sum, .int .i64 x.item.sk.min, .int .i64 x.item.sk.max, .slice a1 n1 c1, .slice a2 n2 c2, .slice a3 n3 c3] 32)).heap.size = w.heap.size + 1 := by simp
    rw [e] at o
    exact ⟨m.1, o, m.2.2⟩
  clear hp hr hx hw
  go_enter Tryz.func23, Tryz.ntmps23
  go_wp2
  go_loopw [3, 21] (fun v i wr => ∃ (k : Nat), k ≤ l ∧ i = .int .i64 k ∧ Hid (NumSt w #[.int .i64 x.kind, .int .i64 x.agent, .int .i64 x.epoch, .int .i64 x.granted, .slice b l c, .int .i64 x.item.seq, .int .i64 x.item.cls, .int .i64 x.item.key, .int .i64 x.item.window, .int .i64 x.item.sk.count, .int .i64 x.item.sk.sum, .int .i64 x.item.sk.min, .int .i64 x.item.sk.max, .slice a1 n1 c1, .slice a2 n2 c2, .slice a3 n3 c3] 32 v (x.numsTo k) wr)) (fun _ i _ => l - (intOf i).toNat)
  case atStart =>
    refine ⟨0, by omega, rfl, ?_⟩
    have e : x.numsTo 0 = [x.kind, x.agent, x.epoch, x.granted, (l : Int)] := by unfold Fr.numsTo; rw [HP.out.2]; simp [flat]
    rw [e]
    exact HS0
  case round =>
    clear HS0
    obtain ⟨k, hk, rfl, HQ⟩ := hrel
    have k0 := HQ.out.box.cell 0
    simp only [aT, aZ] at k0
    by_cases hlt : k < l
    · rcases cells_of (HP.out.1.below HQ.out.bel) with h0 | ⟨p, off, rfl, hbw, hc⟩
      · omega
      have d := hc k hlt
      have d1 := d.1
      have d2 := d.2
      obtain ⟨y, hy⟩ : ∃ y, y = (x.taken.at k).1 := ⟨_, rfl⟩
      obtain ⟨z, hz⟩ : ∃ y, y = (x.taken.at k).2 := ⟨_, rfl⟩
      rw [← hy] at d1
      rw [← hz] at d2
      have HY : Hid (x.numsTo (k + 1) = x.numsTo k ++ [y, z]) := by
        show _ = _
        rw [frNums_succ (by rw [HP.out.2]; exact hlt), hy, hz]
      have hln := frNums_len x (k := k) (by rw [HP.out.2]; omega)
      have hI : (k : Int) < (l : Int) := by omega
      have HQ2 : Hid (NumSt w #[.int .i64 x.kind, .int .i64 x.agent, .int .i64 x.epoch, .int .i64 x.granted, .slice (some ⟨p, off, none⟩) l c, .int .i64 x.item.seq, .int .i64 x.item.cls, .int .i64 x.item.key, .int .i64 x.item.window, .int .i64 x.item.sk.count, .int .i64 x.item.sk.sum, .int .i64 x.item.sk.min, .int .i64 x.item.sk.max, .slice a1 n1 c1, .slice a2 n2 c2, .slice a3 n3 c3] 32 u3 (x.numsTo k) ((wr.alloc (.cells #[.int .i64 y, .int .i64 z] 61)).alloc (.cells #[.int .i64 y, .int .i64 z] 3)) ∧ ∀ j u, ([y, z].map (Value.int .i64))[j]? = some u → ((wr.alloc (.cells #[.int .i64 y, .int .i64 z] 61)).alloc (.cells #[.int .i64 y, .int .i64 z] 3)).cell? ((⟨wr.heap.size + 1, 0, none⟩ : Addr).add j) = some u) := by
        refine ⟨(HQ.out.lit _).lit _, fun j u hj => ?_⟩
        have e : (wr.alloc (.cells #[.int .i64 y, .int .i64 z] 61)).heap.size = wr.heap.size + 1 := by simp
        have bl := Blk.made (wr.alloc (.cells #[.int .i64 y, .int .i64 z] 61)) #[.int .i64 y, .int .i64 z] 3
        rw [e] at bl
        rw [show (⟨wr.heap.size + 1, 0, none⟩ : Addr).add j = ⟨wr.heap.size + 1, j, none⟩ from by cases j <;> simp [Addr.add], bl.cell j]
        simpa using hj
      clear hc d hy hz HQ k0
      go_wp2_with (with_reducible refine stopAppend rfl ?_)
      refine Stop.intro (wpList_append_own _ rfl _ _ 25 rfl (w.heap.size + 1) 3 i0 (.int .i64 0) 1 8 Tryz.underlying25 hi hz0 hz1 hz2 rfl (by decide) _ _ _ rfl HQ2.out.1.own ⟨wr.heap.size + 1, 0, none⟩ 2 2 ([y, z].map (Value.int .i64)) rfl (by simp) HQ2.out.2 (ints_one _) (by unfold maxLen; omega) (by omega) HQ2.out.1.size ?_)
      intro v3 w3 hown hgrow _
      have HS3 : Hid (NumSt w #[.int .i64 x.kind, .int .i64 x.agent, .int .i64 x.epoch, .int .i64 x.granted, .slice (some ⟨p, off, none⟩) l c, .int .i64 x.item.seq, .int .i64 x.item.cls, .int .i64 x.item.key, .int .i64 x.item.window, .int .i64 x.item.sk.count, .int .i64 x.item.sk.sum, .int .i64 x.item.sk.min, .int .i64 x.item.sk.max, .slice a1 n1 c1, .slice a2 n2 c2, .slice a3 n3 c3] 32 v3 (x.numsTo (k + 1)) w3) := by
        show NumSt _ _ _ _ _ _
        rw [HY.out]
        exact HQ2.out.1.app rfl hown hgrow
      clear hown hgrow d1 d2 hln HQ2
      go_wp2
      go_roundw
      case rel => exact ⟨k + 1, by omega, by go_num, HS3⟩
      case measure => simp [intOf]; omega
    · obtain rfl : k = l := by omega
      have hln := frNums_len x (k := k) (by rw [HP.out.2]; omega)
      by_cases h1 : x.kind = 1
      · have e1 : (x.kind == 1) = true := by simpa using h1
        have HV : Hid (x.numbers = x.numsTo k ++ ([x.item.seq, x.item.cls, x.item.key, x.item.window] ++ x.item.sk.nums) ∧ x.item.sk.ok = true ∧ ([x.item.seq, x.item.cls, x.item.key, x.item.window] ++ x.item.sk.nums).length = 32) := by
          have i := HX.out.1.item
          rw [if_pos h1] at i
          have o := (It.ok_nums i).2.2.2.2
          refine ⟨?_, o, by rw [List.length_append, Sk.nums_len (Sk.ok_lens o).1]; rfl⟩
          unfold Fr.numbers Fr.numsTo
          rw [if_pos h1, List.take_of_length_le (by rw [HP.out.2]; omega)]
        clear h1
        go_wp2_with (first | go_skip | (with_reducible refine stopLoad 30 rfl ?_))
        refine load_cut 30 w.heap.size 5 11 _ #[.int .i64 x.item.seq, .int .i64 x.item.cls, .int .i64 x.item.key, .int .i64 x.item.window, .int .i64 x.item.sk.count, .int .i64 x.item.sk.sum, .int .i64 x.item.sk.min, .int .i64 x.item.sk.max, .slice a1 n1 c1, .slice a2 n2 c2, .slice a3 n3 c3] 32 _ HQ.out.box rfl rfl rfl Tryz.underlying30 rfl infoItA7 (by simp) rfl ?_
        go_wp2_with fail
        refine (numbersOfItem_any _ x.item G _ (HX.out.2.2.below HQ.out.bel) HV.out.2.1 HX.out.2.1).mono ?_
        rintro e w4 ⟨u4, rfl, hown4, hb4⟩
        obtain ⟨gu, cu, rfl, _⟩ := own_shape7 hown4 (by omega)
        have HE : Hid (∀ j u, (([x.item.seq, x.item.cls, x.item.key, x.item.window] ++ x.item.sk.nums).map (Value.int .i64))[j]? = some u → w4.cell? ((⟨gu, 0, none⟩ : Addr).add j) = some u) := own_news hown4
        have HQ4 : Hid (NumSt w #[.int .i64 x.kind, .int .i64 x.agent, .int .i64 x.epoch, .int .i64 x.granted, .slice b k c, .int .i64 x.item.seq, .int .i64 x.item.cls, .int .i64 x.item.key, .int .i64 x.item.window, .int .i64 x.item.sk.count, .int .i64 x.item.sk.sum, .int .i64 x.item.sk.min, .int .i64 x.item.sk.max, .slice a1 n1 c1, .slice a2 n2 c2, .slice a3 n3 c3] 32 u3 (x.numsTo k) w4) := HQ.out.below hb4
        clear hown4 hb4 HQ k0
        go_wp2_with (with_reducible refine stopAppend rfl ?_)
        refine Stop.intro (wpList_append_own _ rfl _ _ 25 rfl (w.heap.size + 1) 3 i0 (.int .i64 0) 1 8 Tryz.underlying25 hi hz0 hz1 hz2 rfl (by decide) _ _ _ rfl HQ4.out.own ⟨gu, 0, none⟩ 32 cu (([x.item.seq, x.item.cls, x.item.key, x.item.window] ++ x.item.sk.nums).map (Value.int .i64)) rfl (by rw [List.length_map, HV.out.2.2]) HE.out (ints_one _) (by unfold maxLen; omega) (by omega) HQ4.out.size ?_)
        intro v5 w5 hown hgrow _
        have HS5 : Hid (NumSt w #[.int .i64 x.kind, .int .i64 x.agent, .int .i64 x.epoch, .int .i64 x.granted, .slice b k c, .int .i64 x.item.seq, .int .i64 x.item.cls, .int .i64 x.item.key, .int .i64 x.item.window, .int .i64 x.item.sk.count, .int .i64 x.item.sk.sum, .int .i64 x.item.sk.min, .int .i64 x.item.sk.max, .slice a1 n1 c1, .slice a2 n2 c2, .slice a3 n3 c3] 32 v5 x.numbers w5) := by
          show NumSt _ _ _ _ _ _
          rw [HV.out.1]
          exact HQ4.out.app HV.out.2.2 hown hgrow
        clear hown hgrow HQ4 HE
        go_wp2
        go_ret
        exact ⟨_, rfl, own_mono7 HS5.out.own (by omega), HS5.out.bel⟩
      · have e1 : (x.kind == 1) = false := by simpa using h1
        have HV : Hid (x.numbers = x.numsTo k) := by
          show _ = _
          unfold Fr.numbers Fr.numsTo
          rw [if_neg h1, List.take_of_length_le (by rw [HP.out.2]; omega), List.append_nil]
        clear h1
        rw [← HV.out] at HQ
        go_wp2
        go_ret
        exact ⟨_, rfl, own_mono7 HQ.out.own (by omega), HQ.out.bel⟩
set_option maxRecDepth 200000 in
set_option maxHeartbeats 8000000 in
theorem frameBytesImpl_any (v : Value) (x : Fr) (F G : List Nat) (w : World) (h : RdFr w v x F G) (hw : x.item.sk.wide) (hl : x.taken.length ≤ 2097152) :
    Calls Tryz.prog 6 #[v] w fun e w' => ∃ u, e = .returned u ∧ w'.ownsRow w.heap.size 5 1 u x.bytes.length (x.bytes.map (Value.int .u8)) ∧ Below w.heap.size w w' := by
  obtain ⟨i0, hi, hz0, hz1, hz2⟩ := info_parts Tryz.info5
  obtain ⟨cs, rfl, hc⟩ : ∃ cs, v = .agg cs ∧ cs.size = 16 := by
    obtain ⟨b, l, c, a1, n1, c1, a2, n2, c2, a3, n3, c3, rfl, _⟩ := h
    exact ⟨_, rfl, rfl⟩
  have HH : Hid (RdFr w (.agg cs) x F G ∧ x.item.sk.wide ∧ x.taken.length ≤ 2097152) := ⟨h, hw, hl⟩
  have HT : Hid (Blk (w.alloc (.cells cs 32)) w.heap.size cs 32 ∧ Below w.heap.size w (w.alloc (.cells cs 32))) := ⟨Blk.made _ _ _, (Below.refl _ _).alloc (Nat.le_refl _) _⟩
  have hsz : (Tryz.prog.info? 32).map (·.size) = some cs.size := by rw [hc]; exact infoFrF7
  clear h hw hl
  go_enter Tryz.func6, Tryz.ntmps6
  go_wp2_with (first | go_skip | (with_reducible refine stopLoad 32 rfl ?_))
  refine load_known 32 w.heap.size cs 32 _ HT.out.1 rfl rfl rfl Tryz.underlying32 rfl hsz ?_
  go_wp2_with fail
  refine (frameOkImpl_any _ x F G _ (HH.out.1.below HT.out.2) HH.out.2.1 HH.out.2.2).mono ?_
  rintro e w1 ⟨rfl, hb1⟩
  have HT1 : Hid (Blk w1 w.heap.size cs 32 ∧ Below w.heap.size w w1) := ⟨HT.out.1.below hb1, Below.next HT.out.2 hb1⟩
  obtain ⟨d, hd⟩ : ∃ d, d = x.ok := ⟨_, rfl⟩
  rw [← hd]
  have HD : Hid (d = x.ok) := hd
  clear hb1 HT hd
  cases d
  · have HV : Hid (x.bytes = []) := by show _ = _; unfold Fr.bytes; rw [← HD.out]; rfl
    go_wp2
    go_ret
    rw [HV.out]
    exact ⟨_, rfl, World.ownsRow_nil _ _ _ _, HT1.out.2⟩
  have HRt : Hid (x.Right) := Fr.ok_right HD.out.symm
  have HV : Hid (x.bytes = x.body ++ sumOf x.body ∧ x.body = [87, 82] ++ putAll x.numbers ∧ (∀ y ∈ x.numbers, InN y)) := ⟨Fr.bytes_ok HD.out.symm, Fr.body_numbers HRt.out, Fr.right_numbers HRt.out⟩
  have hlen := Fr.body_len HRt.out
  have hnl : x.numbers.length ≤ 1000 := Fr.numbers_len HRt.out
  have hnp : 0 < (putAll x.numbers).length := by
    have e : x.numbers = x.kind :: x.numbers.tail := by unfold Fr.numbers; rfl
    have k := HRt.out.kind
    rw [e]
    exact putAll_pos ⟨by omega, by omega⟩
  have kc : (convert 22 22 (.slice (some ⟨w1.heap.size, 0, none⟩) 2 2)).run Tryz.prog (w1.alloc (.cells #[.int .u8 87, .int .u8 82] 5)) = .ok (.slice (some ⟨w1.heap.size, 0, none⟩) 2 2) (w1.alloc (.cells #[.int .u8 87, .int .u8 82] 5 (2, 3))) := Lib.run_convert_bytes_const (P := Tryz.prog) w1 22 5 #[.int .u8 87, .int .u8 82] 2 2 Tryz.underlying22 Tryz.underlying5
  have bW : Below w1.heap.size w1 (w1.alloc (.cells #[.int .u8 87, .int .u8 82] 5 (2, 3))) := (Below.refl _ _).alloc (Nat.le_refl _) _
  have HT2 : Hid (Blk (w1.alloc (.cells #[.int .u8 87, .int .u8 82] 5 (2, 3))) w.heap.size cs 32 ∧ Below w.heap.size w (w1.alloc (.cells #[.int .u8 87, .int .u8 82] 5 (2, 3))) ∧ ∀ j, (w1.alloc (.cells #[.int .u8 87, .int .u8 82] 5 (2, 3))).cell? ⟨w1.heap.size, j, none⟩ = #[Value.int .u8 87, .int .u8 82][j]?) := by
    refine ⟨HT1.out.1.below bW, Below.next HT1.out.2 bW, fun j => ?_⟩
    have hk : (w1.alloc (.cells #[.int .u8 87, .int .u8 82] 5 (2, 3))).heap[w1.heap.size]? = some (.cells #[.int .u8 87, .int .u8 82] 5 (2, 3)) := heap_alloc_new _ _
    simp only [World.cell?, hk]
    rfl
  clear bW
  go_wp2_with (first | go_skip | (with_reducible refine stopLoad 32 rfl ?_))
  obtain ⟨W2, hW2⟩ : ∃ W, W = w1.alloc (.cells #[.int .u8 87, .int .u8 82] 5 (2, 3)) := ⟨_, rfl⟩
  have hs2 : w1.heap.size < W2.heap.size := by rw [hW2]; simp
  rw [← hW2] at HT2 ⊢
  clear kc hW2
  refine load_known 32 w.heap.size cs 32 _ HT2.out.1 rfl rfl rfl Tryz.underlying32 rfl hsz ?_
  go_wp2_with fail
  refine (numbersOfFrame_any _ x F G _ (HH.out.1.below HT2.out.2.1) HRt.out HH.out.2.1).mono ?_
  rintro e w3 ⟨u, rfl, hown, hb3⟩
  obtain ⟨a, cap, X, rfl, hr, _⟩ := rdI_of_own hown
  have HR3 : Hid (RdI w3 a x.numbers.length x.numbers X ∧ Below w.heap.size w w3 ∧ ∀ j, w3.cell? ⟨w1.heap.size, j, none⟩ = #[Value.int .u8 87, .int .u8 82][j]?) := ⟨hr, Below.next HT2.out.2.1 hb3, fun j => by rw [hb3.cell (p := ⟨w1.heap.size, j, none⟩) hs2]; exact HT2.out.2.2 j⟩
  have hs3 : w1.heap.size < w3.heap.size := Nat.lt_of_lt_of_le hs2 hb3.size
  clear hown hb3 hr HT2 hs2
  generalize x.numbers = NN at HV hnl hnp HR3
  go_wp2_with fail
  refine (bytesOfNumbers_any a NN.length cap NN X _ HR3.out.1 HV.out.2.2 (by omega)).mono ?_
  rintro e w4 ⟨u4, rfl, hown4, hb4⟩
  obtain ⟨g4, c4, hv4, _⟩ := own_shape7 hown4 hnp
  have hv4' := hv4.symm
  subst hv4'
  have HE : Hid (∀ j u, ((putAll NN).map (Value.int .u8))[j]? = some u → w4.cell? ((⟨g4, 0, none⟩ : Addr).add j) = some u) := own_news hown4
  have HS4 : Hid (Below w.heap.size w w4 ∧ ∀ b, (some ⟨w1.heap.size, 0, none⟩ : Option Addr) = some b → ∀ j u, [Value.int .u8 87, .int .u8 82][j]? = some u → w4.cell? (b.add j) = some u) := by
    refine ⟨Below.next HR3.out.2.1 hb4, fun b hb j u hj => ?_⟩
    cases hb
    rw [show (⟨w1.heap.size, 0, none⟩ : Addr).add j = ⟨w1.heap.size, j, none⟩ from by cases j <;> simp [Addr.add], hb4.cell (p := ⟨w1.heap.size, j, none⟩) hs3, HR3.out.2.2 j]
    simpa using hj
  have hq : (putAll NN).length ≤ 5000 := by have := putAll_len NN; omega
  clear hown4 hb4 hv4 HR3
  go_wp2_with (with_reducible refine stopAppend rfl ?_)
  refine Stop.intro (wpList_append_grows _ rfl _ _ 22 rfl 5 i0 (.int .u8 0) 1 1 Tryz.underlying22 hi hz0 hz1 hz2 rfl (by decide) (some ⟨w1.heap.size, 0, none⟩) 2 2 [.int .u8 87, .int .u8 82] rfl (by intro h; cases h) rfl HS4.out.2 ⟨g4, 0, none⟩ (putAll NN).length c4 ((putAll NN).map (Value.int .u8)) rfl (by simp) HE.out (u8_one _) (by omega) (by unfold maxLen; omega) (by omega) ?_)
  intro v5 w5 hown5 hgrow5
  have hB5 : w5.ownsRow w.heap.size 5 1 v5 x.body.length (x.body.map (Value.int .u8)) := by
    rw [HV.out.2.1, List.length_append, List.map_append]
    exact own_mono7 hown5 HS4.out.1.size
  have hb5 : Below w.heap.size w w5 := Below.next HS4.out.1 ((Below.refl _ _).grown hgrow5 (Nat.le_refl _) (fun g e => by cases e))
  have HRG : Hid (∀ y ∈ x.body, 0 ≤ y ∧ y ≤ 255) := x.body_range
  have HVB : Hid (x.bytes = x.body ++ sumOf x.body) := HV.out.1
  clear hown5 hgrow5 HV HE HS4 hnp hnl hq
  generalize x.body = B at hB5 hlen HVB HRG
  obtain ⟨a5, cap5, rfl, hr5⟩ := rd_own hB5 HRG.out
  have HB5 : Hid (w5.ownsRow w.heap.size 5 1 (.slice a5 B.length cap5) B.length (B.map (Value.int .u8)) ∧ RdB w5 a5 B.length B ∧ Below w.heap.size w w5) := ⟨hB5, hr5, hb5⟩
  clear hB5 hr5 hb5
  go_wp2_with fail
  refine (crcBytes_any a5 B.length cap5 B _ HB5.out.2.1 (by omega)).mono ?_
  rintro e w6 ⟨rfl, hw6⟩
  have HC6 : Hid (∀ j u, ((sumOf B).map (Value.int .u8))[j]? = some u → w6.cell? ((⟨w5.heap.size, 0, none⟩ : Addr).add j) = some u) := by
    intro j u hj
    rw [show (⟨w5.heap.size, 0, none⟩ : Addr).add j = ⟨w5.heap.size, j, none⟩ from by cases j <;> simp [Addr.add], hw6, (Blk.made w5 _ _).cell j]
    simpa using hj
  have b6 : Below w5.heap.size w5 w6 := by rw [hw6]; exact (Below.refl _ _).alloc (Nat.le_refl _) _
  have HB6 : Hid (w6.ownsRow w.heap.size 5 1 (.slice a5 B.length cap5) B.length (B.map (Value.int .u8)) ∧ Below w.heap.size w w6) := ⟨ownsRow_below HB5.out.1 b6, Below.next HB5.out.2.2 b6⟩
  clear hw6 b6 HB5
  go_wp2_with (with_reducible refine stopAppend rfl ?_)
  refine Stop.intro (wpList_append_own _ rfl _ _ 22 rfl w.heap.size 5 i0 (.int .u8 0) 1 1 Tryz.underlying22 hi hz0 hz1 hz2 rfl (by decide) _ _ _ rfl HB6.out.1 ⟨w5.heap.size, 0, none⟩ 4 4 ((sumOf B).map (Value.int .u8)) rfl (by simp [sumOf_len]) HC6.out (u8_one _) (by unfold maxLen; omega) (by omega) HB6.out.2.size ?_)
  intro v7 w7 hown hgrow _
  have h7 : w7.ownsRow w.heap.size 5 1 v7 x.bytes.length (x.bytes.map (Value.int .u8)) := by
    rw [HVB.out, List.length_append, List.map_append, sumOf_len]
    exact hown
  have HB7 : Hid (w7.ownsRow w.heap.size 5 1 v7 x.bytes.length (x.bytes.map (Value.int .u8)) ∧ Below w.heap.size w w7) := ⟨h7, HB6.out.2.grown hgrow HB6.out.2.size (fun g hg => (HB6.out.1.lt g hg).1)⟩
  clear hown hgrow h7 HB6 HC6
  go_wp2
  go_ret
  exact ⟨_, rfl, HB7.out⟩
end Go.Proofs.YtjndcfamfminkabGreat
/- The walk through EntrySame. No statement of the seat is proved here. -/
namespace Go.Proofs.YtjndcfamfminkabGreat
open Go.RowKit
set_option maxRecDepth 200000 in
set_option maxHeartbeats 2000000 in
theorem l5Same_any (a b : Option Addr) (la lb ca cb : Nat) (xs ys : Sp) (F G : List Nat) (w : World) (ha : RdP w a la xs F) (hb : RdP w b lb ys G) (hla : la ≤ 140737488355328) (hlb : lb ≤ 140737488355328) :
    Calls Tryz.prog 34 #[.slice a la ca, .slice b lb cb] w fun e w' => e = .returned (.bool (decide (xs = ys))) ∧ QuietTo w w' := by
  have Hx : Hid (xs.length = la) := ha.length
  have Hy : Hid (ys.length = lb) := hb.length
  by_cases hl : la = lb
  · subst hl
    have hbne : ((la : Int) != (la : Int)) = false := by simp
    have HCA : Hid (la = 0 ∨ ∃ b1 o1, a = some ⟨b1, o1, none⟩ ∧ b1 < w.heap.size ∧ SpCells w b1 o1 la xs) := cells_of ha
    have HCB : Hid (la = 0 ∨ ∃ b1 o1, b = some ⟨b1, o1, none⟩ ∧ b1 < w.heap.size ∧ SpCells w b1 o1 la ys) := cells_of hb
    clear ha hb
    go_enter Tryz.func34, Tryz.ntmps34
    go_wp2
    go_loopw [5] (fun i wr => ∃ k : Nat, k ≤ la ∧ i = .int .i64 k ∧ Hid (xs.take k = ys.take k) ∧ Hid (QuietTo w wr)) (fun i _ => la - (intOf i).toNat)
    case atStart => exact ⟨0, by omega, rfl, rfl, QuietTo.refl _⟩
    case round =>
      obtain ⟨k, hk, rfl, HT, HQ⟩ := hrel
      by_cases hlt : k < la
      · rcases HCA.out with h0 | ⟨b1, o1, rfl, hbw1, hc1⟩
        · omega
        rcases HCB.out with h0 | ⟨b2, o2, rfl, hbw2, hc2⟩
        · omega
        obtain ⟨x, hx⟩ : ∃ x, x = (xs.at k).1 := ⟨_, rfl⟩
        obtain ⟨y, hy⟩ : ∃ x, x = (xs.at k).2 := ⟨_, rfl⟩
        obtain ⟨x', hx'⟩ : ∃ x, x = (ys.at k).1 := ⟨_, rfl⟩
        obtain ⟨y', hy'⟩ : ∃ x, x = (ys.at k).2 := ⟨_, rfl⟩
        have e1 := hc1 k hlt
        have e2 := hc2 k hlt
        rw [← hx, ← hy] at e1
        rw [← hx', ← hy'] at e2
        have d1 : wr.cell? ⟨b1, o1 + k * 2, none⟩ = some (.int .i64 x) := (HQ.out.cell _).trans e1.1
        have d2 : wr.cell? ⟨b1, o1 + k * 2 + 1, none⟩ = some (.int .i64 y) := (HQ.out.cell _).trans e1.2
        have d3 : wr.cell? ⟨b2, o2 + k * 2, none⟩ = some (.int .i64 x') := (HQ.out.cell _).trans e2.1
        have d4 : wr.cell? ⟨b2, o2 + k * 2 + 1, none⟩ = some (.int .i64 y') := (HQ.out.cell _).trans e2.2
        have HE : Hid ((x = x' ∧ y = y') ↔ xs[k]?.getD (0, 0) = ys[k]?.getD (0, 0)) := by rw [hx, hy, hx', hy']; exact Prod.ext_iff.symm
        have hI : (k : Int) < (la : Int) := by omega
        clear e1 e2 hx hy hx' hy' hc1 hc2
        by_cases c : x = x' ∧ y = y'
        · have e1 : (x == x') = true := by simp [c.1]
          have e2 : (y == y') = true := by simp [c.2]
          have HT2 : Hid (xs.take (k + 1) = ys.take (k + 1)) := eqP_step (by rw [Hx.out, Hy.out]) (by rw [Hx.out]; exact hlt) HT.out (HE.out.1 c)
          clear c
          go_wp2
          go_quiet (fail)
          go_wp2
          go_roundw
          case rel => exact ⟨k + 1, by omega, by go_num, HT2, HQ.out.drewN _⟩
          case measure => simp [intOf]; omega
        have HV : Hid (decide (xs = ys) = false) := neP_of_at (fun e => c (HE.out.2 e))
        by_cases c1 : x = x'
        · have e1 : (x == x') = true := by simp [c1]
          have e2 : (y == y') = false := by simpa using (fun e => c ⟨c1, e⟩)
          clear c c1
          go_wp2
          go_quiet (fail)
          go_wp2
          go_ret
          exact ⟨ret_bool HV.out.symm, HQ.out.drewN _⟩
        · have e1 : (x == x') = false := by simpa using c1
          clear c c1
          go_wp2
          go_quiet (fail)
          go_wp2
          go_ret
          exact ⟨ret_bool HV.out.symm, HQ.out.drewN _⟩
      · obtain rfl : k = la := by omega
        go_wp2
        go_ret
        exact ⟨ret_bool (eqP_end Hx.out Hy.out HT.out).symm, HQ.out⟩
  · have hbne : ((la : Int) != (lb : Int)) = true := by simp; omega
    have e : decide (xs = ys) = false := by
      rw [decide_eq_false_iff_not]; intro e; subst e; exact hl (Hx.out.symm.trans Hy.out)
    clear ha hb
    go_enter Tryz.func34, Tryz.ntmps34
    go_wp2
    go_ret
    exact ⟨ret_bool e.symm, QuietTo.refl _⟩
end Go.Proofs.YtjndcfamfminkabGreat
/- The walks through the model's l7Item and FrameSame. No statement of the seat is proved here. -/
namespace Go.Proofs.YtjndcfamfminkabGreat
open Go.RowKit
set_option maxRecDepth 200000 in
set_option maxHeartbeats 4000000 in
theorem l7Item_any (v u : Value) (x y : It) (F G : List Nat) (w : World) (h : RdIt w v x F) (k : RdIt w u y G) (hx : x.sk.wide) (hy : y.sk.wide) :
    Calls Tryz.prog 35 #[v, u] w fun e w' => e = .returned (.bool (decide (x = y))) ∧ Below w.heap.size w w' := by
  obtain ⟨a1, n1, nc1, a2, n2, nc2, a3, n3, nc3, rfl, sx⟩ := h
  obtain ⟨b1, m1, mc1, b2, m2, mc2, b3, m3, mc3, rfl, sy⟩ := k
  have HX : Hid (RdSk w (.agg #[.int .i64 x.sk.count, .int .i64 x.sk.sum, .int .i64 x.sk.min, .int .i64 x.sk.max, .slice a1 n1 nc1, .slice a2 n2 nc2, .slice a3 n3 nc3]) x.sk F ∧ RdSk w (.agg #[.int .i64 y.sk.count, .int .i64 y.sk.sum, .int .i64 y.sk.min, .int .i64 y.sk.max, .slice b1 m1 mc1, .slice b2 m2 mc2, .slice b3 m3 mc3]) y.sk G ∧ x.sk.wide ∧ y.sk.wide) := ⟨sx, sy, hx, hy⟩
  have HT : Hid (_ ∧ _ ∧ _) := two_made w #[.int .i64 x.seq, .int .i64 x.cls, .int .i64 x.key, .int .i64 x.window, .int .i64 x.sk.count, .int .i64 x.sk.sum, .int .i64 x.sk.min, .int .i64 x.sk.max, .slice a1 n1 nc1, .slice a2 n2 nc2, .slice a3 n3 nc3] #[.int .i64 y.seq, .int .i64 y.cls, .int .i64 y.key, .int .i64 y.window, .int .i64 y.sk.count, .int .i64 y.sk.sum, .int .i64 y.sk.min, .int .i64 y.sk.max, .slice b1 m1 mc1, .slice b2 m2 mc2, .slice b3 m3 mc3] 30 30
  obtain ⟨d, hd⟩ : ∃ d, d = decide (x = y) := ⟨_, rfl⟩
  rw [← hd]
  have HD : Hid (d = decide (x = y)) := hd
  clear sx sy hx hy hd
  have k0 := HT.out.1.cell 0
  have j0 := HT.out.2.1.cell 0
  have k1 := HT.out.1.cell 1
  have j1 := HT.out.2.1.cell 1
  have k2 := HT.out.1.cell 2
  have j2 := HT.out.2.1.cell 2
  have k3 := HT.out.1.cell 3
  have j3 := HT.out.2.1.cell 3
  simp only [aT, aS, aZ] at k0 j0 k1 j1 k2 j2 k3 j3
  by_cases c1 : x.seq = y.seq
  rotate_left
  · have HV : Hid (d = false) := by show d = _; rw [HD.out]; exact dec_false (fun e => c1 (by rw [e]))
    have z1 : (x.seq == y.seq) = false := by simpa using c1
    clear c1
    go_enter Tryz.func35, Tryz.ntmps35
    go_wp2
    go_ret
    exact ⟨ret_bool HV.out.symm, HT.out.2.2⟩
  have z1 : (x.seq == y.seq) = true := by simpa using c1
  by_cases c2 : x.cls = y.cls
  rotate_left
  · have HV : Hid (d = false) := by show d = _; rw [HD.out]; exact dec_false (fun e => c2 (by rw [e]))
    have z2 : (x.cls == y.cls) = false := by simpa using c2
    clear c1 c2
    go_enter Tryz.func35, Tryz.ntmps35
    go_wp2
    go_ret
    exact ⟨ret_bool HV.out.symm, HT.out.2.2⟩
  have z2 : (x.cls == y.cls) = true := by simpa using c2
  by_cases c3 : x.key = y.key
  rotate_left
  · have HV : Hid (d = false) := by show d = _; rw [HD.out]; exact dec_false (fun e => c3 (by rw [e]))
    have z3 : (x.key == y.key) = false := by simpa using c3
    clear c1 c2 c3
    go_enter Tryz.func35, Tryz.ntmps35
    go_wp2
    go_ret
    exact ⟨ret_bool HV.out.symm, HT.out.2.2⟩
  have z3 : (x.key == y.key) = true := by simpa using c3
  by_cases c4 : x.window = y.window
  rotate_left
  · have HV : Hid (d = false) := by show d = _; rw [HD.out]; exact dec_false (fun e => c4 (by rw [e]))
    have z4 : (x.window == y.window) = false := by simpa using c4
    clear c1 c2 c3 c4
    go_enter Tryz.func35, Tryz.ntmps35
    go_wp2
    go_ret
    exact ⟨ret_bool HV.out.symm, HT.out.2.2⟩
  have z4 : (x.window == y.window) = true := by simpa using c4
  have HC : Hid (x.seq = y.seq ∧ x.cls = y.cls ∧ x.key = y.key ∧ x.window = y.window) := ⟨c1, c2, c3, c4⟩
  clear c1 c2 c3 c4
  go_enter Tryz.func35, Tryz.ntmps35
  go_wp2_with (first | go_skip | (with_reducible refine stopLoad 28 rfl ?_))
  refine load_cutw 28 w.heap.size 4 7 _ #[.int .i64 x.sk.count, .int .i64 x.sk.sum, .int .i64 x.sk.min, .int .i64 x.sk.max, .slice a1 n1 nc1, .slice a2 n2 nc2, .slice a3 n3 nc3] 30 _ HT.out.1 rfl rfl rfl Tryz.underlying28 rfl infoSkI (by simp) rfl ?_
  go_wp2_with (first | go_skip | (with_reducible refine stopLoad 28 rfl ?_))
  refine load_cutw 28 (w.heap.size + 1) 4 7 _ #[.int .i64 y.sk.count, .int .i64 y.sk.sum, .int .i64 y.sk.min, .int .i64 y.sk.max, .slice b1 m1 mc1, .slice b2 m2 mc2, .slice b3 m3 mc3] 30 _ HT.out.2.1 rfl rfl rfl Tryz.underlying28 rfl infoSkI (by simp) rfl ?_
  go_wp2_with fail
  refine (sameSpec_any _ _ x.sk y.sk F G _ (HX.out.1.below HT.out.2.2) (HX.out.2.1.below HT.out.2.2) HX.out.2.2.1 HX.out.2.2.2).mono ?_
  rintro e w2 ⟨rfl, b2⟩
  have HB2 : Hid (Below w.heap.size w w2) := Below.next HT.out.2.2 b2
  clear b2
  obtain ⟨d2, hd2⟩ : ∃ d, d = decide (x.sk = y.sk) := ⟨_, rfl⟩
  rw [← hd2]
  have HV : Hid (d2 = d) := by
    show _ = _
    rw [hd2, HD.out]
    by_cases e : x.sk = y.sk
    · rw [dec_true e, dec_true (It.eq_of HC.out.1 HC.out.2.1 HC.out.2.2.1 HC.out.2.2.2 e)]
    · rw [dec_false e, dec_false (fun q => e (by rw [q]))]
  clear hd2
  go_wp2
  go_ret
  exact ⟨ret_bool HV.out, HB2.out⟩
set_option maxRecDepth 200000 in
set_option maxHeartbeats 4000000 in
theorem frameSameSpec_any (v u : Value) (x y : Fr) (F F' G G' : List Nat) (w : World) (h : RdFr w v x F F') (k : RdFr w u y G G') (hx : x.item.sk.wide) (hy : y.item.sk.wide) (hlx : x.taken.length ≤ 2097152) (hly : y.taken.length ≤ 2097152) :
    Calls Tryz.prog 9 #[v, u] w fun e w' => e = .returned (.bool (decide (x = y))) ∧ Below w.heap.size w w' := by
  obtain ⟨p, l, g, a1, n1, nc1, a2, n2, nc2, a3, n3, nc3, rfl, px, sx, _⟩ := h
  obtain ⟨q, k, j, b1, m1, mc1, b2, m2, mc2, b3, m3, mc3, rfl, py, sy, _⟩ := k
  have HX : Hid (RdIt w (.agg #[.int .i64 x.item.seq, .int .i64 x.item.cls, .int .i64 x.item.key, .int .i64 x.item.window, .int .i64 x.item.sk.count, .int .i64 x.item.sk.sum, .int .i64 x.item.sk.min, .int .i64 x.item.sk.max, .slice a1 n1 nc1, .slice a2 n2 nc2, .slice a3 n3 nc3]) x.item F' ∧ RdIt w (.agg #[.int .i64 y.item.seq, .int .i64 y.item.cls, .int .i64 y.item.key, .int .i64 y.item.window, .int .i64 y.item.sk.count, .int .i64 y.item.sk.sum, .int .i64 y.item.sk.min, .int .i64 y.item.sk.max, .slice b1 m1 mc1, .slice b2 m2 mc2, .slice b3 m3 mc3]) y.item G' ∧ x.item.sk.wide ∧ y.item.sk.wide) := ⟨sx, sy, hx, hy⟩
  have HP : Hid (RdP w p l x.taken F ∧ RdP w q k y.taken G ∧ l ≤ 2097152 ∧ k ≤ 2097152) := ⟨px, py, by rw [← px.length]; exact hlx, by rw [← py.length]; exact hly⟩
  have HT : Hid (_ ∧ _ ∧ _) := two_made w #[.int .i64 x.kind, .int .i64 x.agent, .int .i64 x.epoch, .int .i64 x.granted, .slice p l g, .int .i64 x.item.seq, .int .i64 x.item.cls, .int .i64 x.item.key, .int .i64 x.item.window, .int .i64 x.item.sk.count, .int .i64 x.item.sk.sum, .int .i64 x.item.sk.min, .int .i64 x.item.sk.max, .slice a1 n1 nc1, .slice a2 n2 nc2, .slice a3 n3 nc3] #[.int .i64 y.kind, .int .i64 y.agent, .int .i64 y.epoch, .int .i64 y.granted, .slice q k j, .int .i64 y.item.seq, .int .i64 y.item.cls, .int .i64 y.item.key, .int .i64 y.item.window, .int .i64 y.item.sk.count, .int .i64 y.item.sk.sum, .int .i64 y.item.sk.min, .int .i64 y.item.sk.max, .slice b1 m1 mc1, .slice b2 m2 mc2, .slice b3 m3 mc3] 32 32
  obtain ⟨d, hd⟩ : ∃ d, d = decide (x = y) := ⟨_, rfl⟩
  rw [← hd]
  have HD : Hid (d = decide (x = y)) := hd
  clear px py sx sy hx hy hlx hly hd
  have k0 := HT.out.1.cell 0
  have j0 := HT.out.2.1.cell 0
  have k1 := HT.out.1.cell 1
  have j1 := HT.out.2.1.cell 1
  have k2 := HT.out.1.cell 2
  have j2 := HT.out.2.1.cell 2
  have k3 := HT.out.1.cell 3
  have j3 := HT.out.2.1.cell 3
  have k4 := HT.out.1.cell 4
  have j4 := HT.out.2.1.cell 4
  simp only [aT, aS, aZ] at k0 j0 k1 j1 k2 j2 k3 j3 k4 j4
  by_cases c1 : x.kind = y.kind
  rotate_left
  · have HV : Hid (d = false) := by show d = _; rw [HD.out]; exact dec_false (fun e => c1 (by rw [e]))
    have z1 : (x.kind == y.kind) = false := by simpa using c1
    clear c1
    go_enter Tryz.func9, Tryz.ntmps9
    go_wp2
    go_ret
    exact ⟨ret_bool HV.out.symm, HT.out.2.2⟩
  have z1 : (x.kind == y.kind) = true := by simpa using c1
  by_cases c2 : x.agent = y.agent
  rotate_left
  · have HV : Hid (d = false) := by show d = _; rw [HD.out]; exact dec_false (fun e => c2 (by rw [e]))
    have z2 : (x.agent == y.agent) = false := by simpa using c2
    clear c1 c2
    go_enter Tryz.func9, Tryz.ntmps9
    go_wp2
    go_ret
    exact ⟨ret_bool HV.out.symm, HT.out.2.2⟩
  have z2 : (x.agent == y.agent) = true := by simpa using c2
  by_cases c3 : x.epoch = y.epoch
  rotate_left
  · have HV : Hid (d = false) := by show d = _; rw [HD.out]; exact dec_false (fun e => c3 (by rw [e]))
    have z3 : (x.epoch == y.epoch) = false := by simpa using c3
    clear c1 c2 c3
    go_enter Tryz.func9, Tryz.ntmps9
    go_wp2
    go_ret
    exact ⟨ret_bool HV.out.symm, HT.out.2.2⟩
  have z3 : (x.epoch == y.epoch) = true := by simpa using c3
  by_cases c4 : x.granted = y.granted
  rotate_left
  · have HV : Hid (d = false) := by show d = _; rw [HD.out]; exact dec_false (fun e => c4 (by rw [e]))
    have z4 : (x.granted == y.granted) = false := by simpa using c4
    clear c1 c2 c3 c4
    go_enter Tryz.func9, Tryz.ntmps9
    go_wp2
    go_ret
    exact ⟨ret_bool HV.out.symm, HT.out.2.2⟩
  have z4 : (x.granted == y.granted) = true := by simpa using c4
  have HC : Hid (x.kind = y.kind ∧ x.agent = y.agent ∧ x.epoch = y.epoch ∧ x.granted = y.granted) := ⟨c1, c2, c3, c4⟩
  clear c1 c2 c3 c4
  go_enter Tryz.func9, Tryz.ntmps9
  go_wp2_with fail
  refine (l5Same_any p q l k g j x.taken y.taken F G _ (HP.out.1.below HT.out.2.2) (HP.out.2.1.below HT.out.2.2) (by have := HP.out.2.2; omega) (by have := HP.out.2.2; omega)).mono ?_
  rintro e w1 ⟨rfl, hq⟩
  have HB1 : Hid (Blk w1 w.heap.size #[.int .i64 x.kind, .int .i64 x.agent, .int .i64 x.epoch, .int .i64 x.granted, .slice p l g, .int .i64 x.item.seq, .int .i64 x.item.cls, .int .i64 x.item.key, .int .i64 x.item.window, .int .i64 x.item.sk.count, .int .i64 x.item.sk.sum, .int .i64 x.item.sk.min, .int .i64 x.item.sk.max, .slice a1 n1 nc1, .slice a2 n2 nc2, .slice a3 n3 nc3] 32 ∧ Blk w1 (w.heap.size + 1) #[.int .i64 y.kind, .int .i64 y.agent, .int .i64 y.epoch, .int .i64 y.granted, .slice q k j, .int .i64 y.item.seq, .int .i64 y.item.cls, .int .i64 y.item.key, .int .i64 y.item.window, .int .i64 y.item.sk.count, .int .i64 y.item.sk.sum, .int .i64 y.item.sk.min, .int .i64 y.item.sk.max, .slice b1 m1 mc1, .slice b2 m2 mc2, .slice b3 m3 mc3] 32 ∧ Below w.heap.size w w1) := ⟨HT.out.1.below (quiet_below hq), HT.out.2.1.below (quiet_below hq), Below.next HT.out.2.2 (quiet_below hq)⟩
  clear hq HT k0 k1 k2 k3 k4 j0 j1 j2 j3 j4 z1 z2 z3 z4
  by_cases c5 : x.taken = y.taken
  rotate_left
  · rw [dec_false c5]
    have HV : Hid (d = false) := by show d = _; rw [HD.out]; exact dec_false (fun e => c5 (by rw [e]))
    clear c5
    go_wp2
    go_ret
    exact ⟨ret_bool HV.out.symm, HB1.out.2.2⟩
  rw [dec_true c5]
  have HC5 : Hid (x.taken = y.taken) := c5
  clear c5
  go_wp2_with (first | go_skip | (with_reducible refine stopLoad 30 rfl ?_))
  refine load_cutw 30 w.heap.size 5 11 _ #[.int .i64 x.item.seq, .int .i64 x.item.cls, .int .i64 x.item.key, .int .i64 x.item.window, .int .i64 x.item.sk.count, .int .i64 x.item.sk.sum, .int .i64 x.item.sk.min, .int .i64 x.item.sk.max, .slice a1 n1 nc1, .slice a2 n2 nc2, .slice a3 n3 nc3] 32 _ HB1.out.1 rfl rfl rfl Tryz.underlying30 rfl infoItA7 (by simp) rfl ?_
  go_wp2_with (first | go_skip | (with_reducible refine stopLoad 30 rfl ?_))
  refine load_cutw 30 (w.heap.size + 1) 5 11 _ #[.int .i64 y.item.seq, .int .i64 y.item.cls, .int .i64 y.item.key, .int .i64 y.item.window, .int .i64 y.item.sk.count, .int .i64 y.item.sk.sum, .int .i64 y.item.sk.min, .int .i64 y.item.sk.max, .slice b1 m1 mc1, .slice b2 m2 mc2, .slice b3 m3 mc3] 32 _ HB1.out.2.1 rfl rfl rfl Tryz.underlying30 rfl infoItA7 (by simp) rfl ?_
  go_wp2_with fail
  refine (l7Item_any _ _ x.item y.item F' G' _ (HX.out.1.below HB1.out.2.2) (HX.out.2.1.below HB1.out.2.2) HX.out.2.2.1 HX.out.2.2.2).mono ?_
  rintro e w2 ⟨rfl, b2⟩
  have HB2 : Hid (Below w.heap.size w w2) := Below.next HB1.out.2.2 b2
  clear b2
  obtain ⟨d2, hd2⟩ : ∃ d, d = decide (x.item = y.item) := ⟨_, rfl⟩
  rw [← hd2]
  have HV : Hid (d2 = d) := by
    show _ = _
    rw [hd2, HD.out]
    by_cases e : x.item = y.item
    · rw [dec_true e, dec_true (Fr.eq_of HC.out.1 HC.out.2.1 HC.out.2.2.1 HC.out.2.2.2 HC5.out e)]
    · rw [dec_false e, dec_false (fun q => e (by rw [q]))]
  clear hd2
  go_wp2
  go_ret
  exact ⟨ret_bool HV.out, HB2.out⟩
end Go.Proofs.YtjndcfamfminkabGreat
