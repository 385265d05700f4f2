/- A turn that is worked on; the model's l11Copy and l11Next. No statement of the seat is proved here. -/
import Derived.Test.YthimjmkdcocofaaTuImplA
import Derived.Test.YthimjmkdcocofaaAppAny
import Derived.Test.YthimjmkdcocofaaSkIns
import Derived.Test.YthimjmkdcocofaaSkRoom
import Derived.OrdersHeld
namespace Go.Proofs.Ythimjmkdcocofaa
open Go.RowKit
/-- A turn that is worked on: its variable's block X, its list's block L. -/
structure PV (W : World) (lo X L off cap : Nat) (x : Tu) : Prop where
  blk : Blk W X #[.int .i64 x.who, .bool x.fresh, .slice (some ⟨L, off, none⟩) 3 cap] 26
  rd : RdI W (some ⟨L, off, none⟩) 3 x.left [L]
  own : Own lo W [L]
  ne : X ≠ L
  ge : lo ≤ X
theorem PV.ge2 {W : World} {lo X L off cap : Nat} {x : Tu} (h : PV W lo X L off cap x) : lo ≤ L := h.own.ge L (by simp)
theorem PV.lt {W : World} {lo X L off cap : Nat} {x : Tu} (h : PV W lo X L off cap x) : X < W.heap.size ∧ L < W.heap.size := ⟨h.blk.lt, h.rd.lt L (by simp)⟩
theorem PV.below {W W' : World} {lo X L off cap : Nat} {x : Tu} (h : PV W lo X L off cap x) (b : Below W.heap.size W W') : PV W' lo X L off cap x := ⟨h.blk.below b, h.rd.below b, h.own.below h.rd.lt b, h.ne, h.ge⟩
theorem PV.who {W : World} {lo X L off cap : Nat} {x : Tu} (h : PV W lo X L off cap x) (n : Int) : PV (W.setCell ⟨X, 0, none⟩ (.int .i64 n)) lo X L off cap ⟨n, x.fresh, x.left⟩ := by
  have ag : Agree W (W.setCell ⟨X, 0, none⟩ (.int .i64 n)) [L] := .set (by simp; exact h.ne) 0 _
  exact ⟨h.blk.set 0 _, h.rd.agree ag, h.own.agree ag, h.ne, h.ge⟩
theorem PV.fr {W : World} {lo X L off cap : Nat} {x : Tu} (h : PV W lo X L off cap x) (f : Bool) : PV (W.setCell ⟨X, 1, none⟩ (.bool f)) lo X L off cap ⟨x.who, f, x.left⟩ := by
  have ag : Agree W (W.setCell ⟨X, 1, none⟩ (.bool f)) [L] := .set (by simp; exact h.ne) 1 _
  exact ⟨h.blk.set 1 _, h.rd.agree ag, h.own.agree ag, h.ne, h.ge⟩
theorem PV.el {W : World} {lo X L off cap : Nat} {x : Tu} (h : PV W lo X L off cap x) (k : Nat) (hk : k < 3) (n : Int) : PV (W.setCell ⟨L, off + k, none⟩ (.int .i64 n)) lo X L off cap ⟨x.who, x.fresh, x.left.set k n⟩ :=
  ⟨h.blk.setOther h.ne _ _, h.rd.set (by omega) k hk n, h.own.set _ _ _, h.ne, h.ge⟩
theorem PV.row {W : World} {lo X L off cap : Nat} {x : Tu} (h : PV W lo X L off cap x) (n : Int) (f : Bool) : PV (W.setRow X #[.int .i64 n, .bool f, .slice (some ⟨L, off, none⟩) 3 cap]) lo X L off cap ⟨n, f, x.left⟩ := by
  have ag : Agree W (W.setRow X #[.int .i64 n, .bool f, .slice (some ⟨L, off, none⟩) 3 cap]) [L] := Agree.row (by simp; exact h.ne) _
  exact ⟨h.blk.setRow, h.rd.agree ag, h.own.agree ag, h.ne, h.ge⟩
theorem PV.cellAt {W : World} {lo X L off cap : Nat} {x : Tu} (h : PV W lo X L off cap x) (k : Nat) (hk : k < 3) : W.cell? ⟨L, off + k, none⟩ = some (.int .i64 (x.left.getD k 0)) := h.rd.at k hk
theorem PV.frozenAt {W : World} {lo X L off cap : Nat} {x : Tu} (h : PV W lo X L off cap x) (k : Nat) : W.frozen? ⟨L, off + k, none⟩ = false := h.own.free L (by simp) _
/-- A turn's value out of its variable. -/
theorem PV.value {W : World} {lo X L off cap : Nat} {x : Tu} (h : PV W lo X L off cap x) : RdTu W (.agg #[.int .i64 x.who, .bool x.fresh, .slice (some ⟨L, off, none⟩) 3 cap]) x [L] := ⟨_, _, _, rfl, h.rd⟩
/-- A copy stored into a new variable. -/
theorem PV.start {W1 : World} {v : Value} {x : Tu} {F : List Nat} {lo : Nat} (r : RdTu W1 v x F) (o : Own lo W1 F) (hx : x.left.length = 3) (hlo : lo ≤ W1.heap.size) : ∃ L off cap, v = .agg #[.int .i64 x.who, .bool x.fresh, .slice (some ⟨L, off, none⟩) 3 cap] ∧ ∀ W, Blk W W1.heap.size #[.int .i64 x.who, .bool x.fresh, .slice (some ⟨L, off, none⟩) 3 cap] 26 → Below W1.heap.size W1 W → PV W lo W1.heap.size L off cap x := by
  obtain ⟨b, l, c, rfl, hR⟩ := r
  obtain rfl : l = 3 := by rw [← hR.length]; exact hx
  obtain ⟨L, off, rfl, rfl⟩ := hR.single (by omega)
  exact ⟨L, off, c, rfl, fun W k b => ⟨k, hR.below b, o.below hR.lt b, fun e => by have := hR.lt L (by simp); omega, hlo⟩⟩
set_option maxRecDepth 200000 in
set_option maxHeartbeats 2000000 in
theorem l11Next_any (b : Option Addr) (l c : Nat) (k : Int) (f : Bool) (w : World) (hk : 0 ≤ k ∧ k ≤ 2) :
    Calls Try.prog 37 #[.agg #[.int .i64 k, .bool f, .slice b l c]] w fun e w' => e = .returned (.agg #[.int .i64 ((k + 1) % 3), .bool true, .slice b l c]) ∧ Below w.heap.size w w' := by
  have hm : (k + 1).tmod 3 = (k + 1) % 3 := Int.tmod_eq_emod_of_nonneg (by omega)
  obtain ⟨m, hmm⟩ : ∃ m, m = (k + 1) % 3 := ⟨_, rfl⟩
  rw [← hmm] at hm ⊢
  have hm3 : 0 ≤ m ∧ m ≤ 2 := by omega
  have HT : Hid (Two w #[.int .i64 k, .bool f, .slice b l c] #[.int .i64 0, .bool false, .slice none 0 0] 26 ((w.alloc (.cells #[.int .i64 k, .bool f, .slice b l c] 26)).alloc (.cells #[.int .i64 0, .bool false, .slice none 0 0] 26))) := Two.made w _ _ _
  clear hmm
  go_enter Try.func37, Try.ntmps37
  go_wp2_with (first | go_skip | (with_reducible refine stopLoad 26 rfl ?_) | (with_reducible refine stopStore 26 rfl ?_))
  have T1 := Two.made w #[.int .i64 m, .bool true, .slice b l c] #[.int .i64 0, .bool false, .slice none 0 0] 26
  obtain ⟨W0, hW0⟩ : ∃ W, W = (w.alloc (.cells #[.int .i64 m, .bool true, .slice b l c] 26)).alloc (.cells #[.int .i64 0, .bool false, .slice none 0 0] 26) := ⟨_, rfl⟩
  rw [← hW0] at T1 ⊢
  have H1 : Hid (Blk W0 w.heap.size #[.int .i64 m, .bool true, .slice b l c] 26 ∧ Blk W0 (w.heap.size + 1) #[.int .i64 0, .bool false, .slice none 0 0] 26 ∧ Below w.heap.size w W0) := ⟨T1.fst, T1.snd, T1.bel⟩
  clear hW0 HT T1
  refine load_known 26 w.heap.size #[.int .i64 m, .bool true, .slice b l c] 26 _ H1.out.1 rfl rfl rfl Try.underlying26 rfl infoTuI ?_
  go_wp2_with (first | go_skip | (with_reducible refine stopLoad 26 rfl ?_) | (with_reducible refine stopStore 26 rfl ?_))
  refine store_known 26 (w.heap.size + 1) _ #[.int .i64 m, .bool true, .slice b l c] 26 H1.out.2.1 rfl rfl rfl rfl infoTuI rfl (by simp [Value.oneCell']) ?_
  go_wp2
  refine bodyPost_ret (results_cell_row Try.results37 _ _ (w.heap.size + 1) _ _ (0, 0) _ rfl H1.out.2.1.setRow Try.underlying26 rfl infoTuI) rfl ?_
  exact ⟨rfl, below_setRow H1.out.2.2 (by omega) _⟩
set_option maxRecDepth 200000 in
set_option maxHeartbeats 4000000 in
theorem l11Copy_any (v : Value) (x : Tu) (F : List Nat) (w : World) (h : RdTu w v x F) (hx : x.fits) :
    Calls Try.prog 34 #[v] w fun e w' => NewTu w x e w' := by
  obtain ⟨i0, hi, hz0, hz1, hz2⟩ := info_parts infoInt
  obtain ⟨b, l, c, rfl, hP⟩ := h
  obtain ⟨fx, hfx⟩ : ∃ f, f = x.fresh := ⟨_, rfl⟩
  rw [← hfx]
  have HFX : Hid (fx = x.fresh) := hfx
  have HP : Hid (RdI w b l x.left F ∧ l ≤ 1048576) := ⟨hP, by rw [← hP.length]; exact hx⟩
  have HT : Hid (Two w #[.int .i64 x.who, .bool fx, .slice b l c] #[.int .i64 0, .bool false, .slice none 0 0] 26 ((w.alloc (.cells #[.int .i64 x.who, .bool fx, .slice b l c] 26)).alloc (.cells #[.int .i64 0, .bool false, .slice none 0 0] 26))) := Two.made w _ _ _
  clear hP hx hfx
  go_enter Try.func34, Try.ntmps34
  go_wp2_with fail
  obtain ⟨W0, hW0⟩ : ∃ W, W = (w.alloc (.cells #[.int .i64 x.who, .bool fx, .slice b l c] 26)).alloc (.cells #[.int .i64 0, .bool false, .slice none 0 0] 26) := ⟨_, rfl⟩
  rw [← hW0] at HT ⊢
  clear hW0
  refine wp_region_held (S := fun W => Blk W w.heap.size #[.int .i64 x.who, .bool fx, .slice b l c] 26) (by kernel_rfl) ?_
  change wpAnyH _ _ _ _ _ _ _ _ (World.drew _)
  have BD := (Below.refl W0.heap.size W0).drew
  obtain ⟨Y0, hY0⟩ : ∃ Y, Y = W0.drew := ⟨_, rfl⟩
  rw [← hY0] at BD ⊢
  have HT : Hid (Two w #[.int .i64 x.who, .bool fx, .slice b l c] #[.int .i64 0, .bool false, .slice none 0 0] 26 Y0) := HT.out.below BD
  have HS : Hid (Blk Y0 w.heap.size #[.int .i64 x.who, .bool fx, .slice b l c] 26) := HT.out.fst
  clear hY0 BD
  refine takeH (o := ?o1) 0 (.pointer (some ⟨w.heap.size, 0, none⟩)) ?h1 ?r1
  case h1 => simp only [aT, aZ]; rfl
  refine ⟨_, by simp [Act.put]; rfl, by kernel_rfl, by kernel_rfl, by kernel_rfl, fun _ _ _ h => h, (.inl ⟨rfl, fun W _ => by go_simp⟩), HS.out, ?_⟩
  refine takeH (o := ?o2) 1 (.int .i64 x.who) ?h2 ?r2
  case h2 => simp only [aT, aS, aZ]; rfl
  refine ⟨_, by simp [Act.put]; rfl, by kernel_rfl, by kernel_rfl, by kernel_rfl, fun _ _ _ h => h, (.inl ⟨rfl, fun W hW => by have c := hW.cell 0; simp only [aT, aZ] at c; go_simp⟩), HS.out, ?_⟩
  refine takeH (o := ?o3) 2 (.pointer (some ⟨w.heap.size, 1, none⟩)) ?h3 ?r3
  case h3 => simp only [aT, aS, aZ]; rfl
  refine ⟨_, by simp [Act.put]; rfl, by kernel_rfl, by kernel_rfl, by kernel_rfl, fun _ _ _ h => h, (.inl ⟨rfl, fun W _ => by go_simp⟩), HS.out, ?_⟩
  refine takeH (o := ?o4) 3 (.bool fx) ?h4 ?r4
  case h4 => simp only [aT, aS, aZ]; rfl
  refine ⟨_, by simp [Act.put]; rfl, by kernel_rfl, by kernel_rfl, by kernel_rfl, fun _ _ _ h => h, (.inl ⟨rfl, fun W hW => by have c := hW.cell 1; simp only [aT, aS, aZ] at c; go_simp⟩), HS.out, ?_⟩
  refine takeH (o := ?o5) 5 (.pointer (some ⟨w.heap.size, 2, none⟩)) ?h5 ?r5
  case h5 => simp only [aT, aS, aZ]; rfl
  refine ⟨_, by simp [Act.put]; rfl, by kernel_rfl, by kernel_rfl, by kernel_rfl, fun _ _ _ h => h, (.inl ⟨rfl, fun W _ => by go_simp⟩), HS.out, ?_⟩
  refine takeH (o := ?o6) 6 (.slice b l c) ?h6 ?r6
  case h6 => simp only [aT, aS, aZ]; rfl
  refine ⟨_, by simp [Act.put]; rfl, by kernel_rfl, by kernel_rfl, by kernel_rfl, fun _ _ _ h => h, (.inl ⟨rfl, fun W hW => by have c := hW.cell 2; simp only [aT, aS, aZ] at c; go_simp⟩), HS.out, ?_⟩
  refine onlyH (o := ?o7) 4 (by kernel_rfl) ?h7 ?r7
  case h7 => simp only [aT, aS, aZ]; rfl
  intro K hK
  refine op_turn (.slice (some ⟨Y0.heap.size, 0, none⟩) 0 0) (Y0.alloc (.cells #[] 3)) rfl (by go_simp) ⟨_, by simp [Act.put]; rfl, hK _ _ ⟨HS.out.alloc _, ?_⟩⟩
  have BA : Below Y0.heap.size Y0 (Y0.alloc (.cells #[] 3)) := (Below.refl _ _).alloc (Nat.le_refl _) _
  obtain ⟨Y1, hY1⟩ : ∃ Y, Y = Y0.alloc (.cells #[] 3) := ⟨_, rfl⟩
  rw [← hY1] at BA ⊢
  have HT1 : Hid (Two w #[.int .i64 x.who, .bool fx, .slice b l c] #[.int .i64 0, .bool false, .slice none 0 0] 26 Y1) := HT.out.below BA
  obtain ⟨g, hg⟩ : ∃ g, g = Y0.heap.size := ⟨_, rfl⟩
  have HG : Hid (w.heap.size + 2 ≤ g ∧ g ≤ Y1.heap.size) := ⟨by rw [hg]; exact HT.out.snd.lt, by rw [hg]; exact BA.size⟩
  rw [← hg]
  clear hK hY1 hg BA HS HT
  have HS : Hid (Blk Y1 w.heap.size #[.int .i64 x.who, .bool fx, .slice b l c] 26) := HT1.out.fst
  refine onlyH (o := ?o8) 7 (by kernel_rfl) ?h8 ?r8
  case h8 => simp only [aT, aS, aZ]; rfl
  intro K hK
  refine op_growsI _ _ 24 rfl rfl 3 i0 Try.underlying24 hi hz0 hz1 hz2 (some _) rfl b l c x.left F rfl (HP.out.1.below HT1.out.bel) HP.out.2 ?_
  intro p k G Y2 rG oG bG _
  refine ⟨_, by simp [Act.put]; rfl, hK _ _ ⟨HS.out.below bG, ?_⟩⟩
  have HT2 : Hid (Two w #[.int .i64 x.who, .bool fx, .slice b l c] #[.int .i64 0, .bool false, .slice none 0 0] 26 Y2) := HT1.out.below bG
  have HR : Hid (RdI Y2 p l x.left G ∧ Own (w.heap.size + 2) Y2 G) := ⟨rG, oG.mono (by have := HG.out; omega)⟩
  clear hK rG oG bG HS HT1
  have HS : Hid (Blk Y2 w.heap.size #[.int .i64 x.who, .bool fx, .slice b l c] 26) := HT2.out.fst
  refine takeH (o := ?o9) 8 (.agg #[.int .i64 x.who, .bool fx, .slice p l k]) ?h9 ?r9
  case h9 => simp only [aT, aS, aZ]; rfl
  refine ⟨_, by simp [Act.put]; rfl, by kernel_rfl, by kernel_rfl, by kernel_rfl, fun _ _ _ h => h, (.inl ⟨rfl, fun W _ => by kernel_rfl⟩), HS.out, ?_⟩
  refine onlyH (o := ?o10) 9 (by kernel_rfl) ?h10 ?r10
  case h10 => simp only [aT, aS, aZ]; rfl
  intro K hK
  refine op_store 26 (w.heap.size + 1) #[.int .i64 0, .bool false, .slice none 0 0] #[.int .i64 x.who, .bool fx, .slice p l k] 26 rfl rfl rfl rfl HT2.out.snd infoTuI rfl (by simp [Value.oneCell']) ⟨_, by simp [Act.put]; rfl, hK _ _ ⟨HS.out.setRowOther (by omega), ?_⟩⟩
  clear hK
  refine wpAnyH_done (by kernel_rfl) ?_ _
  go_wp2
  refine bodyPost_ret (results_cell_row Try.results34 _ _ (w.heap.size + 1) _ _ (0, 0) _ rfl HT2.out.snd.setRow Try.underlying26 rfl infoTuI) rfl ?_
  have ag := Agree.row (w := Y2) (g := w.heap.size + 1) (F := G) (fun hx => by have := HR.out.2.ge _ hx; omega) #[.int .i64 x.who, .bool fx, .slice p l k]
  exact ⟨_, G, rfl, ⟨p, l, k, by rw [HFX.out], HR.out.1.agree ag⟩, (HR.out.2.agree ag).mono (by omega), below_setRow HT2.out.bel (by omega) _⟩
end Go.Proofs.Ythimjmkdcocofaa
