/- Several texts of mine, laid together. No statement of the seat is proved here. -/
import Derived.Test.YtjnamoppcklomaaGreatB2
import Derived.Test.YtjnamoppcklomaaGreatWhole
import Derived.Test.YtjnamoppcklomaaGreatPart
import Derived.Test.YtjnamoppcklomaaGreatItHelp2
import Derived.Test.YtjnamoppcklomaaGreatItLaw
import Derived.Test.YtjnamoppcklomaaGreatLstGrow
import Derived.Lib.AppendZeros
import Derived.Test.YtjnamoppcklomaaGreatB1
import Derived.Lib.SliceRun
import Derived.OwnWalk
import Derived.Deep.AppendLies
/- The program's copiedEntry. No statement of the seat is proved here. -/
namespace Go.Proofs.YtjnamoppcklomaaGreat
open Go.RowKit
section
variable {P : Program} {ops : Array Oper} {Q : Exit → Act → World → Prop} {a : Act} {w : World} {x y : Operand} {o : Oper} {K : Act → World → Prop}
theorem op_storePart (ty : TypeId) (g off : Nat) (cs ds es : Array Value) (t : TypeId) (hg : Blk w g cs t) (hw : Region.wanted o (yielded ops a.tmps) = true) (ho : o.op = .store ty x y) (hx : a.eval x = .pointer (some ⟨g, off, none⟩)) (hy : a.eval y = .agg ds)
    (hi : (P.info? ty).map (·.size) = some ds.size) (hfit : off + ds.size ≤ cs.size) (h1 : ds.all (·.oneCell') = true) (hes : cutIn cs off ds = es)
    (h : ∃ a', a.put o.dst undef = a' ∧ K a' (w.setRow g es)) : if Region.wanted o (yielded ops a.tmps) = true then Oper.wp P o a w K Q else K (a.put o.dst undef) w := by
  subst hes
  obtain ⟨_, rfl, h⟩ := h
  rw [if_pos hw]
  unfold Oper.wp execOp
  simp only [ho, hx, hy, Instr.storeAt, Instr.sureAddr, Sem.run_bind, Sem.run_pure, Result.andThen_ok, run_storeVar_cut w g off t ty cs ds hg hi hfit h1]
  exact h
theorem op_loadPart (ty : TypeId) (g off n : Nat) (cs ds : Array Value) (t : TypeId) (d : TypeDesc) (hg : Blk w g cs t) (hw : Region.wanted o (yielded ops a.tmps) = true) (ho : o.op = .load ty x) (hx : a.eval x = .pointer (some ⟨g, off, none⟩)) (hu : P.underlying ty = some d) (hd : (match d with | .struct _ | .array _ _ => true | _ => false) = true)
    (hi : (P.info? ty).map (·.size) = some n) (hfit : off + n ≤ cs.size) (hds : cutOf cs off n = ds) (h : ∃ a', a.put o.dst (.agg ds) = a' ∧ K a' w) : if Region.wanted o (yielded ops a.tmps) = true then Oper.wp P o a w K Q else K (a.put o.dst undef) w := by
  have y : YieldsIf P ops (fun W => W = w) o (.agg ds) a := yields_cut ty g off n cs ds t d hw ho hx hu hd hi hfit hds (fun W hW => by rw [hW]; exact hg)
  rcases y with ⟨_, y⟩ | ⟨y, _⟩
  · exact op_value (.agg ds) hw (y w rfl) h
  · rw [hw] at y; cases y
end
theorem infoEnP10 : (Tryz.prog.info? 33).map (·.size) = some 10 := by kernel_rfl
set_option maxRecDepth 200000 in
set_option maxHeartbeats 4000000 in
theorem copiedEntry_any (v : Value) (x : En) (F0 : List Nat) (w : World) (h : RdE w v x F0) (hf : x.fits) :
    Calls Tryz.prog 40 #[v] w fun e w' => ∃ v F, e = .returned v ∧ RdE w' v x F ∧ Own w.heap.size w' F ∧ Below w.heap.size w w' := by
  obtain ⟨F1, F2, _, b, l, c, a1, n1, c1, a2, n2, c2, a3, n3, c3, rfl, hp, hr, hcp⟩ := h
  have HP : Hid (RdP w b l x.ids F1 ∧ RdSk w (.agg #[.int .i64 x.sk.count, .int .i64 x.sk.sum, .int .i64 x.sk.min, .int .i64 x.sk.max, .slice a1 n1 c1, .slice a2 n2 c2, .slice a3 n3 c3]) x.sk F2 ∧ l ≤ 2097152 ∧ x.sk.fits) := ⟨hp, hr, by rw [← hp.length]; have := hf.2; omega, hf.1⟩
  have HT : Hid (_ ∧ _ ∧ _) := two_made w #[.int .i64 x.key, .int .i64 x.window, .slice b l c, .int .i64 x.sk.count, .int .i64 x.sk.sum, .int .i64 x.sk.min, .int .i64 x.sk.max, .slice a1 n1 c1, .slice a2 n2 c2, .slice a3 n3 c3] #[.int .i64 0, .int .i64 0, .slice none 0 0, .int .i64 0, .int .i64 0, .int .i64 0, .int .i64 0, .slice none 0 0, .slice none 0 0, .slice none 0 0] 33 33
  clear hp hr hcp hf
  go_enter Tryz.func40, Tryz.ntmps40
  go_wp2_with fail
  obtain ⟨W0, hW0⟩ : ∃ W0, W0 = (w.alloc (.cells #[.int .i64 x.key, .int .i64 x.window, .slice b l c, .int .i64 x.sk.count, .int .i64 x.sk.sum, .int .i64 x.sk.min, .int .i64 x.sk.max, .slice a1 n1 c1, .slice a2 n2 c2, .slice a3 n3 c3] 33)).alloc (.cells #[.int .i64 0, .int .i64 0, .slice none 0 0, .int .i64 0, .int .i64 0, .int .i64 0, .int .i64 0, .slice none 0 0, .slice none 0 0, .slice none 0 0] 33) := ⟨_, rfl⟩
  rw [← hW0] at HT ⊢
  clear hW0
  have HS : Hid (Blk W0.drew w.heap.size #[.int .i64 x.key, .int .i64 x.window, .slice b l c, .int .i64 x.sk.count, .int .i64 x.sk.sum, .int .i64 x.sk.min, .int .i64 x.sk.max, .slice a1 n1 c1, .slice a2 n2 c2, .slice a3 n3 c3] 33 ∧ Blk W0.drew (w.heap.size + 1) #[.int .i64 0, .int .i64 0, .slice none 0 0, .int .i64 0, .int .i64 0, .int .i64 0, .int .i64 0, .slice none 0 0, .slice none 0 0, .slice none 0 0] 33 ∧ Below w.heap.size w W0.drew) := ⟨HT.out.1.drew, HT.out.2.1.drew, HT.out.2.2.drew⟩
  obtain ⟨Y0, hY0⟩ : ∃ Y, Y = W0.drew := ⟨_, rfl⟩
  rw [← hY0] at HS
  clear HT
  refine wp_region_held (S := fun _ => True) (by kernel_rfl) ?_
  change wpAnyH _ _ _ _ _ _ _ _ (World.drew _)
  rw [← hY0]
  clear hY0
  refine takeH (o := ?o1) 0 (.pointer (some ⟨w.heap.size, 2, none⟩)) ?h1 ?r1
  case h1 => simp only [aT, aZ]; rfl
  refine ⟨_, by simp [Act.put]; rfl, by kernel_rfl, by kernel_rfl, by kernel_rfl, fun _ _ _ h => h, (.inl ⟨rfl, fun W _ => by kernel_rfl⟩), trivial, ?_⟩
  refine takeH (o := ?o2) 3 (.pointer (some ⟨w.heap.size, 3, none⟩)) ?h2 ?r2
  case h2 => simp only [aT, aS, aZ]; rfl
  refine ⟨_, by simp [Act.put]; rfl, by kernel_rfl, by kernel_rfl, by kernel_rfl, fun _ _ _ h => h, (.inl ⟨rfl, fun W _ => by kernel_rfl⟩), trivial, ?_⟩
  refine twoH (o := ?o3) (o' := ?p3) 1 4 (by kernel_rfl) ?h3 ?g3 ?r3 ?s3
  case h3 => simp only [aT, aS, aZ]; rfl
  case g3 => simp only [aT, aS, aZ]; rfl
  case r3 =>
    intro K hK
    have co := HS.out.1.cell 2
    simp only [aT, aS, aZ] at co
    refine op_value (.slice b l c) rfl (by go_simp) ⟨_, by simp [Act.put]; rfl, hK _ _ ⟨trivial, ?_⟩⟩
    clear hK co
    refine twoH (o := ?o4) (o' := ?p4) 2 4 (by kernel_rfl) ?h4 ?g4 ?r4 ?s4
    case h4 => simp only [aT, aS, aZ]; rfl
    case g4 => simp only [aT, aS, aZ]; rfl
    case r4 =>
      intro K hK
      refine op_call1 82 _ _ Tryz.f82 (fun v w' => ∃ a len cap F, v = .slice a len cap ∧ RdP w' a len x.ids F ∧ Own Y0.heap.size w' F ∧ Below Y0.heap.size Y0 w' ∧ Capd a len cap) rfl rfl Tryz.func82 (by kernel_rfl) (by kernel_rfl) ((copiedSpans_any b l c x.ids F1 Y0 (HP.out.1.below HS.out.2.2) HP.out.2.2.1).mono (by rintro e w' ⟨a, len, cap, F, rfl, h1, h2, h3, h4⟩; exact ⟨_, rfl, a, len, cap, F, rfl, h1, h2, h3, h4⟩)) ?_
      rintro _ Y1 ⟨aj, lj, cj, Fj, rfl, rj, oj, bz, hcj⟩
      have HS1 : Hid (Blk Y1 w.heap.size #[.int .i64 x.key, .int .i64 x.window, .slice b l c, .int .i64 x.sk.count, .int .i64 x.sk.sum, .int .i64 x.sk.min, .int .i64 x.sk.max, .slice a1 n1 c1, .slice a2 n2 c2, .slice a3 n3 c3] 33 ∧ Blk Y1 (w.heap.size + 1) #[.int .i64 0, .int .i64 0, .slice none 0 0, .int .i64 0, .int .i64 0, .int .i64 0, .int .i64 0, .slice none 0 0, .slice none 0 0, .slice none 0 0] 33 ∧ Below w.heap.size w Y1) := ⟨HS.out.1.below bz, HS.out.2.1.below bz, Below.next HS.out.2.2 bz⟩
      have HJ : Hid (RdP Y1 aj lj x.ids Fj ∧ Own (w.heap.size + 2) Y1 Fj ∧ Capd aj lj cj) := ⟨rj, oj.mono HS.out.2.1.lt, hcj⟩
      refine ⟨_, by simp [Act.put]; rfl, hK _ _ ⟨trivial, ?_⟩⟩
      clear hK bz rj oj hcj HS
      refine onlyH (o := ?o5) 4 (by kernel_rfl) ?h5 ?r5
      case h5 => simp only [aT, aS, aZ]; rfl
      intro K hK
      refine op_loadPart 31 w.heap.size 3 7 #[.int .i64 x.key, .int .i64 x.window, .slice b l c, .int .i64 x.sk.count, .int .i64 x.sk.sum, .int .i64 x.sk.min, .int .i64 x.sk.max, .slice a1 n1 c1, .slice a2 n2 c2, .slice a3 n3 c3] #[.int .i64 x.sk.count, .int .i64 x.sk.sum, .int .i64 x.sk.min, .int .i64 x.sk.max, .slice a1 n1 c1, .slice a2 n2 c2, .slice a3 n3 c3] 33 _ HS1.out.1 rfl rfl rfl Tryz.underlying31 rfl infoSkI (by simp) rfl ⟨_, by simp [Act.put]; rfl, hK _ _ ⟨trivial, ?_⟩⟩
      clear hK
      refine takeH (o := ?o6) 6 (.pointer (some ⟨w.heap.size, 2, none⟩)) ?h6 ?r6
      case h6 => simp only [aT, aS, aZ]; rfl
      refine ⟨_, by simp [Act.put]; rfl, by kernel_rfl, by kernel_rfl, by kernel_rfl, fun _ _ _ h => h, (.inl ⟨rfl, fun W _ => by kernel_rfl⟩), trivial, ?_⟩
      refine onlyH (o := ?o7) 5 (by kernel_rfl) ?h7 ?r7
      case h7 => simp only [aT, aS, aZ]; rfl
      intro K hK
      refine op_call1 83 _ _ Tryz.f83 (fun v w' => ∃ X, RdSk w' v x.sk X ∧ Own Y1.heap.size w' X ∧ Below Y1.heap.size Y1 w') rfl rfl Tryz.func83 (by kernel_rfl) (by kernel_rfl) ((copiedSketch_all _ x.sk F2 Y1 (HP.out.2.1.below HS1.out.2.2) HP.out.2.2.2).mono (by rintro e w' ⟨v, X, rfl, h1, h2, h3⟩; exact ⟨_, rfl, X, h1, h2, h3⟩)) ?_
      rintro vm Y2 ⟨X, rm, om, bz⟩
      obtain ⟨e1, r1, f1, e2, r2, f2, e3, r3, f3, rfl⟩ := rm.cells7
      have HS2 : Hid (Blk Y2 w.heap.size #[.int .i64 x.key, .int .i64 x.window, .slice b l c, .int .i64 x.sk.count, .int .i64 x.sk.sum, .int .i64 x.sk.min, .int .i64 x.sk.max, .slice a1 n1 c1, .slice a2 n2 c2, .slice a3 n3 c3] 33 ∧ Blk Y2 (w.heap.size + 1) #[.int .i64 0, .int .i64 0, .slice none 0 0, .int .i64 0, .int .i64 0, .int .i64 0, .int .i64 0, .slice none 0 0, .slice none 0 0, .slice none 0 0] 33 ∧ Below w.heap.size w Y2) := ⟨HS1.out.1.below bz, HS1.out.2.1.below bz, Below.next HS1.out.2.2 bz⟩
      have HJ2 : Hid (RdP Y2 aj lj x.ids Fj ∧ Own (w.heap.size + 2) Y2 Fj ∧ RdSk Y2 (.agg #[.int .i64 x.sk.count, .int .i64 x.sk.sum, .int .i64 x.sk.min, .int .i64 x.sk.max, .slice e1 r1 f1, .slice e2 r2 f2, .slice e3 r3 f3]) x.sk X ∧ Own (w.heap.size + 2) Y2 X ∧ (∀ b ∈ Fj, b ∉ X) ∧ Capd aj lj cj) := ⟨HJ.out.1.below bz, HJ.out.2.1.below HJ.out.1.lt bz, rm, om.mono HS1.out.2.1.lt, fun b hb hx => by have := HJ.out.1.lt b hb; have := om.ge b hx; omega, HJ.out.2.2⟩
      refine ⟨_, by simp [Act.put]; rfl, hK _ _ ⟨trivial, ?_⟩⟩
      clear hK bz rm om HS1 HJ
      refine onlyH (o := ?o8) 7 (by kernel_rfl) ?h8 ?r8
      case h8 => simp only [aT, aS, aZ]; rfl
      intro K hK
      have co := HS2.out.1.cell 2
      have fo := HS2.out.1.frozen 2
      simp only [aT, aS, aZ] at co
      have HA : Hid (Blk (Y2.setCell ⟨w.heap.size, 2, none⟩ (.slice aj lj cj)) w.heap.size #[.int .i64 x.key, .int .i64 x.window, .slice aj lj cj, .int .i64 x.sk.count, .int .i64 x.sk.sum, .int .i64 x.sk.min, .int .i64 x.sk.max, .slice a1 n1 c1, .slice a2 n2 c2, .slice a3 n3 c3] 33 ∧ Blk (Y2.setCell ⟨w.heap.size, 2, none⟩ (.slice aj lj cj)) (w.heap.size + 1) #[.int .i64 0, .int .i64 0, .slice none 0 0, .int .i64 0, .int .i64 0, .int .i64 0, .int .i64 0, .slice none 0 0, .slice none 0 0, .slice none 0 0] 33 ∧ Below w.heap.size w (Y2.setCell ⟨w.heap.size, 2, none⟩ (.slice aj lj cj))) := ⟨HS2.out.1.set 2 _, HS2.out.2.1.setOther (by omega) 2 _, HS2.out.2.2.setCell (by show w.heap.size ≤ w.heap.size; omega) _⟩
      have nf : w.heap.size ∉ Fj := fun hx => by have := HJ2.out.2.1.ge _ hx; omega
      have nx : w.heap.size ∉ X := fun hx => by have := HJ2.out.2.2.2.1.ge _ hx; omega
      have HJ3 : Hid (RdP (Y2.setCell ⟨w.heap.size, 2, none⟩ (.slice aj lj cj)) aj lj x.ids Fj ∧ Own (w.heap.size + 2) (Y2.setCell ⟨w.heap.size, 2, none⟩ (.slice aj lj cj)) Fj ∧ RdSk (Y2.setCell ⟨w.heap.size, 2, none⟩ (.slice aj lj cj)) (.agg #[.int .i64 x.sk.count, .int .i64 x.sk.sum, .int .i64 x.sk.min, .int .i64 x.sk.max, .slice e1 r1 f1, .slice e2 r2 f2, .slice e3 r3 f3]) x.sk X ∧ Own (w.heap.size + 2) (Y2.setCell ⟨w.heap.size, 2, none⟩ (.slice aj lj cj)) X ∧ (∀ b ∈ Fj, b ∉ X) ∧ Capd aj lj cj) := ⟨HJ2.out.1.agree (.set nf 2 _), HJ2.out.2.1.agree (.set nf 2 _), HJ2.out.2.2.1.agree (.set nx 2 _), HJ2.out.2.2.2.1.agree (.set nx 2 _), HJ2.out.2.2.2.2⟩
      refine op_skip (Y2.setCell ⟨w.heap.size, 2, none⟩ (.slice aj lj cj)) rfl (by go_simp) ⟨_, by simp [Act.put]; rfl, hK _ _ ⟨trivial, ?_⟩⟩
      obtain ⟨Z7, hZ7⟩ : ∃ Z, Z = (Y2.setCell ⟨w.heap.size, 2, none⟩ (.slice aj lj cj)) := ⟨_, rfl⟩
      rw [← hZ7] at HA HJ3 ⊢
      clear hK co fo HS2 HJ2 hZ7
      refine takeH (o := ?o9) 8 (.pointer (some ⟨w.heap.size, 3, none⟩)) ?h9 ?r9
      case h9 => simp only [aT, aS, aZ]; rfl
      refine ⟨_, by simp [Act.put]; rfl, by kernel_rfl, by kernel_rfl, by kernel_rfl, fun _ _ _ h => h, (.inl ⟨rfl, fun W _ => by kernel_rfl⟩), trivial, ?_⟩
      refine onlyH (o := ?o10) 9 (by kernel_rfl) ?h10 ?r10
      case h10 => simp only [aT, aS, aZ]; rfl
      intro K hK
      refine op_storePart 31 w.heap.size 3 #[.int .i64 x.key, .int .i64 x.window, .slice aj lj cj, .int .i64 x.sk.count, .int .i64 x.sk.sum, .int .i64 x.sk.min, .int .i64 x.sk.max, .slice a1 n1 c1, .slice a2 n2 c2, .slice a3 n3 c3] #[.int .i64 x.sk.count, .int .i64 x.sk.sum, .int .i64 x.sk.min, .int .i64 x.sk.max, .slice e1 r1 f1, .slice e2 r2 f2, .slice e3 r3 f3] #[.int .i64 x.key, .int .i64 x.window, .slice aj lj cj, .int .i64 x.sk.count, .int .i64 x.sk.sum, .int .i64 x.sk.min, .int .i64 x.sk.max, .slice e1 r1 f1, .slice e2 r2 f2, .slice e3 r3 f3] 33 HA.out.1 rfl rfl rfl rfl infoSkI (by exact Nat.le_refl 10) (by simp [Value.oneCell']) rfl ⟨_, by simp [Act.put]; rfl, hK _ _ ⟨trivial, ?_⟩⟩
      clear hK
      refine wpAnyH_done (by kernel_rfl) ?_ _
      obtain ⟨E, hE⟩ : ∃ E : Array Value, E = #[.int .i64 x.key, .int .i64 x.window, .slice aj lj cj, .int .i64 x.sk.count, .int .i64 x.sk.sum, .int .i64 x.sk.min, .int .i64 x.sk.max, .slice e1 r1 f1, .slice e2 r2 f2, .slice e3 r3 f3] := ⟨_, rfl⟩
      rw [← hE]
      have HE : Hid (E = #[.int .i64 x.key, .int .i64 x.window, .slice aj lj cj, .int .i64 x.sk.count, .int .i64 x.sk.sum, .int .i64 x.sk.min, .int .i64 x.sk.max, .slice e1 r1 f1, .slice e2 r2 f2, .slice e3 r3 f3] ∧ E.size = 10 ∧ E.all (·.oneCell') = true) := ⟨hE, by rw [hE]; rfl, by rw [hE]; simp [Value.oneCell']⟩
      have HB : Hid (Blk (Z7.setRow w.heap.size E) w.heap.size E 33 ∧ Blk (Z7.setRow w.heap.size E) (w.heap.size + 1) #[.int .i64 0, .int .i64 0, .slice none 0 0, .int .i64 0, .int .i64 0, .int .i64 0, .int .i64 0, .slice none 0 0, .slice none 0 0, .slice none 0 0] 33 ∧ Below w.heap.size w (Z7.setRow w.heap.size E)) := ⟨HA.out.1.setRow, HA.out.2.1.setRowOther (by omega), below_setRow HA.out.2.2 (by omega) _⟩
      have HJ4 : Hid (RdP (Z7.setRow w.heap.size E) aj lj x.ids Fj ∧ Own (w.heap.size + 2) (Z7.setRow w.heap.size E) Fj ∧ RdSk (Z7.setRow w.heap.size E) (.agg #[.int .i64 x.sk.count, .int .i64 x.sk.sum, .int .i64 x.sk.min, .int .i64 x.sk.max, .slice e1 r1 f1, .slice e2 r2 f2, .slice e3 r3 f3]) x.sk X ∧ Own (w.heap.size + 2) (Z7.setRow w.heap.size E) X ∧ (∀ b ∈ Fj, b ∉ X) ∧ Capd aj lj cj) := ⟨HJ3.out.1.agree (Agree.row nf E), HJ3.out.2.1.agree (Agree.row nf E), HJ3.out.2.2.1.agree (Agree.row nx E), HJ3.out.2.2.2.1.agree (Agree.row nx E), HJ3.out.2.2.2.2⟩
      obtain ⟨w3, hw3⟩ : ∃ W, W = Z7.setRow w.heap.size E := ⟨_, rfl⟩
      rw [← hw3] at HB HJ4 ⊢
      clear hE hw3 HJ3 HA nf nx
      go_wp2_with (first | go_skip | (with_reducible refine stopLoad 33 rfl ?_))
      refine load_known 33 w.heap.size E 33 _ HB.out.1 rfl rfl rfl Tryz.underlying33 rfl (by rw [HE.out.2.1]; exact infoEnP10) ?_
      go_wp2_with (first | go_skip | (with_reducible refine stopStore 33 rfl ?_))
      refine store_known 33 (w.heap.size + 1) _ E 33 HB.out.2.1 rfl rfl rfl rfl (by rw [HE.out.2.1]; exact infoEnP10) (by rw [HE.out.2.1]; rfl) HE.out.2.2 ?_
      have nf : w.heap.size + 1 ∉ Fj := fun hx => by have := HJ4.out.2.1.ge _ hx; omega
      have nx : w.heap.size + 1 ∉ X := fun hx => by have := HJ4.out.2.2.2.1.ge _ hx; omega
      have HF : Hid (Blk (w3.setRow (w.heap.size + 1) E) (w.heap.size + 1) E 33 ∧ RdP (w3.setRow (w.heap.size + 1) E) aj lj x.ids Fj ∧ Own w.heap.size (w3.setRow (w.heap.size + 1) E) Fj ∧ RdSk (w3.setRow (w.heap.size + 1) E) (.agg #[.int .i64 x.sk.count, .int .i64 x.sk.sum, .int .i64 x.sk.min, .int .i64 x.sk.max, .slice e1 r1 f1, .slice e2 r2 f2, .slice e3 r3 f3]) x.sk X ∧ Own w.heap.size (w3.setRow (w.heap.size + 1) E) X ∧ Below w.heap.size w (w3.setRow (w.heap.size + 1) E)) := ⟨HB.out.2.1.setRow, HJ4.out.1.agree (Agree.row nf E), (HJ4.out.2.1.agree (Agree.row nf E)).mono (by omega), HJ4.out.2.2.1.agree (Agree.row nx E), (HJ4.out.2.2.2.1.agree (Agree.row nx E)).mono (by omega), below_setRow HB.out.2.2 (by omega) _⟩
      go_wp2
      refine bodyPost_ret (results_cell_row Tryz.results40 _ _ (w.heap.size + 1) _ _ (0, 0) _ rfl HF.out.1 Tryz.underlying33 rfl (by rw [HE.out.2.1]; exact infoEnP10)) rfl ?_
      exact ⟨_, Fj ++ X, rfl, ⟨Fj, X, rfl, aj, lj, cj, e1, r1, f1, e2, r2, f2, e3, r3, f3, by rw [HE.out.1], HF.out.2.1, HF.out.2.2.2.1, HJ4.out.2.2.2.2.2⟩, HF.out.2.2.1.app HF.out.2.2.2.2.1 HJ4.out.2.2.2.2.1, HF.out.2.2.2.2.2⟩
    case s4 =>
      intro K hK
      refine op_loadPart 31 w.heap.size 3 7 #[.int .i64 x.key, .int .i64 x.window, .slice b l c, .int .i64 x.sk.count, .int .i64 x.sk.sum, .int .i64 x.sk.min, .int .i64 x.sk.max, .slice a1 n1 c1, .slice a2 n2 c2, .slice a3 n3 c3] #[.int .i64 x.sk.count, .int .i64 x.sk.sum, .int .i64 x.sk.min, .int .i64 x.sk.max, .slice a1 n1 c1, .slice a2 n2 c2, .slice a3 n3 c3] 33 _ HS.out.1 rfl rfl rfl Tryz.underlying31 rfl infoSkI (by simp) rfl ⟨_, by simp [Act.put]; rfl, hK _ _ ⟨trivial, ?_⟩⟩
      clear hK
      refine onlyH (o := ?o11) 2 (by kernel_rfl) ?h11 ?r11
      case h11 => simp only [aT, aS, aZ]; rfl
      intro K hK
      refine op_call1 82 _ _ Tryz.f82 (fun v w' => ∃ a len cap F, v = .slice a len cap ∧ RdP w' a len x.ids F ∧ Own Y0.heap.size w' F ∧ Below Y0.heap.size Y0 w' ∧ Capd a len cap) rfl rfl Tryz.func82 (by kernel_rfl) (by kernel_rfl) ((copiedSpans_any b l c x.ids F1 Y0 (HP.out.1.below HS.out.2.2) HP.out.2.2.1).mono (by rintro e w' ⟨a, len, cap, F, rfl, h1, h2, h3, h4⟩; exact ⟨_, rfl, a, len, cap, F, rfl, h1, h2, h3, h4⟩)) ?_
      rintro _ Y3 ⟨aj, lj, cj, Fj, rfl, rj, oj, bz, hcj⟩
      have HS3 : Hid (Blk Y3 w.heap.size #[.int .i64 x.key, .int .i64 x.window, .slice b l c, .int .i64 x.sk.count, .int .i64 x.sk.sum, .int .i64 x.sk.min, .int .i64 x.sk.max, .slice a1 n1 c1, .slice a2 n2 c2, .slice a3 n3 c3] 33 ∧ Blk Y3 (w.heap.size + 1) #[.int .i64 0, .int .i64 0, .slice none 0 0, .int .i64 0, .int .i64 0, .int .i64 0, .int .i64 0, .slice none 0 0, .slice none 0 0, .slice none 0 0] 33 ∧ Below w.heap.size w Y3) := ⟨HS.out.1.below bz, HS.out.2.1.below bz, Below.next HS.out.2.2 bz⟩
      have HJ : Hid (RdP Y3 aj lj x.ids Fj ∧ Own (w.heap.size + 2) Y3 Fj ∧ Capd aj lj cj) := ⟨rj, oj.mono HS.out.2.1.lt, hcj⟩
      refine ⟨_, by simp [Act.put]; rfl, hK _ _ ⟨trivial, ?_⟩⟩
      clear hK bz rj oj hcj HS
      refine takeH (o := ?o12) 6 (.pointer (some ⟨w.heap.size, 2, none⟩)) ?h12 ?r12
      case h12 => simp only [aT, aS, aZ]; rfl
      refine ⟨_, by simp [Act.put]; rfl, by kernel_rfl, by kernel_rfl, by kernel_rfl, fun _ _ _ h => h, (.inl ⟨rfl, fun W _ => by kernel_rfl⟩), trivial, ?_⟩
      refine onlyH (o := ?o13) 5 (by kernel_rfl) ?h13 ?r13
      case h13 => simp only [aT, aS, aZ]; rfl
      intro K hK
      refine op_call1 83 _ _ Tryz.f83 (fun v w' => ∃ X, RdSk w' v x.sk X ∧ Own Y3.heap.size w' X ∧ Below Y3.heap.size Y3 w') rfl rfl Tryz.func83 (by kernel_rfl) (by kernel_rfl) ((copiedSketch_all _ x.sk F2 Y3 (HP.out.2.1.below HS3.out.2.2) HP.out.2.2.2).mono (by rintro e w' ⟨v, X, rfl, h1, h2, h3⟩; exact ⟨_, rfl, X, h1, h2, h3⟩)) ?_
      rintro vm Y4 ⟨X, rm, om, bz⟩
      obtain ⟨e1, r1, f1, e2, r2, f2, e3, r3, f3, rfl⟩ := rm.cells7
      have HS4 : Hid (Blk Y4 w.heap.size #[.int .i64 x.key, .int .i64 x.window, .slice b l c, .int .i64 x.sk.count, .int .i64 x.sk.sum, .int .i64 x.sk.min, .int .i64 x.sk.max, .slice a1 n1 c1, .slice a2 n2 c2, .slice a3 n3 c3] 33 ∧ Blk Y4 (w.heap.size + 1) #[.int .i64 0, .int .i64 0, .slice none 0 0, .int .i64 0, .int .i64 0, .int .i64 0, .int .i64 0, .slice none 0 0, .slice none 0 0, .slice none 0 0] 33 ∧ Below w.heap.size w Y4) := ⟨HS3.out.1.below bz, HS3.out.2.1.below bz, Below.next HS3.out.2.2 bz⟩
      have HJ2 : Hid (RdP Y4 aj lj x.ids Fj ∧ Own (w.heap.size + 2) Y4 Fj ∧ RdSk Y4 (.agg #[.int .i64 x.sk.count, .int .i64 x.sk.sum, .int .i64 x.sk.min, .int .i64 x.sk.max, .slice e1 r1 f1, .slice e2 r2 f2, .slice e3 r3 f3]) x.sk X ∧ Own (w.heap.size + 2) Y4 X ∧ (∀ b ∈ Fj, b ∉ X) ∧ Capd aj lj cj) := ⟨HJ.out.1.below bz, HJ.out.2.1.below HJ.out.1.lt bz, rm, om.mono HS3.out.2.1.lt, fun b hb hx => by have := HJ.out.1.lt b hb; have := om.ge b hx; omega, HJ.out.2.2⟩
      refine ⟨_, by simp [Act.put]; rfl, hK _ _ ⟨trivial, ?_⟩⟩
      clear hK bz rm om HS3 HJ
      refine onlyH (o := ?o14) 7 (by kernel_rfl) ?h14 ?r14
      case h14 => simp only [aT, aS, aZ]; rfl
      intro K hK
      have co := HS4.out.1.cell 2
      have fo := HS4.out.1.frozen 2
      simp only [aT, aS, aZ] at co
      have HA : Hid (Blk (Y4.setCell ⟨w.heap.size, 2, none⟩ (.slice aj lj cj)) w.heap.size #[.int .i64 x.key, .int .i64 x.window, .slice aj lj cj, .int .i64 x.sk.count, .int .i64 x.sk.sum, .int .i64 x.sk.min, .int .i64 x.sk.max, .slice a1 n1 c1, .slice a2 n2 c2, .slice a3 n3 c3] 33 ∧ Blk (Y4.setCell ⟨w.heap.size, 2, none⟩ (.slice aj lj cj)) (w.heap.size + 1) #[.int .i64 0, .int .i64 0, .slice none 0 0, .int .i64 0, .int .i64 0, .int .i64 0, .int .i64 0, .slice none 0 0, .slice none 0 0, .slice none 0 0] 33 ∧ Below w.heap.size w (Y4.setCell ⟨w.heap.size, 2, none⟩ (.slice aj lj cj))) := ⟨HS4.out.1.set 2 _, HS4.out.2.1.setOther (by omega) 2 _, HS4.out.2.2.setCell (by show w.heap.size ≤ w.heap.size; omega) _⟩
      have nf : w.heap.size ∉ Fj := fun hx => by have := HJ2.out.2.1.ge _ hx; omega
      have nx : w.heap.size ∉ X := fun hx => by have := HJ2.out.2.2.2.1.ge _ hx; omega
      have HJ3 : Hid (RdP (Y4.setCell ⟨w.heap.size, 2, none⟩ (.slice aj lj cj)) aj lj x.ids Fj ∧ Own (w.heap.size + 2) (Y4.setCell ⟨w.heap.size, 2, none⟩ (.slice aj lj cj)) Fj ∧ RdSk (Y4.setCell ⟨w.heap.size, 2, none⟩ (.slice aj lj cj)) (.agg #[.int .i64 x.sk.count, .int .i64 x.sk.sum, .int .i64 x.sk.min, .int .i64 x.sk.max, .slice e1 r1 f1, .slice e2 r2 f2, .slice e3 r3 f3]) x.sk X ∧ Own (w.heap.size + 2) (Y4.setCell ⟨w.heap.size, 2, none⟩ (.slice aj lj cj)) X ∧ (∀ b ∈ Fj, b ∉ X) ∧ Capd aj lj cj) := ⟨HJ2.out.1.agree (.set nf 2 _), HJ2.out.2.1.agree (.set nf 2 _), HJ2.out.2.2.1.agree (.set nx 2 _), HJ2.out.2.2.2.1.agree (.set nx 2 _), HJ2.out.2.2.2.2⟩
      refine op_skip (Y4.setCell ⟨w.heap.size, 2, none⟩ (.slice aj lj cj)) rfl (by go_simp) ⟨_, by simp [Act.put]; rfl, hK _ _ ⟨trivial, ?_⟩⟩
      obtain ⟨Z7, hZ7⟩ : ∃ Z, Z = (Y4.setCell ⟨w.heap.size, 2, none⟩ (.slice aj lj cj)) := ⟨_, rfl⟩
      rw [← hZ7] at HA HJ3 ⊢
      clear hK co fo HS4 HJ2 hZ7
      refine takeH (o := ?o15) 8 (.pointer (some ⟨w.heap.size, 3, none⟩)) ?h15 ?r15
      case h15 => simp only [aT, aS, aZ]; rfl
      refine ⟨_, by simp [Act.put]; rfl, by kernel_rfl, by kernel_rfl, by kernel_rfl, fun _ _ _ h => h, (.inl ⟨rfl, fun W _ => by kernel_rfl⟩), trivial, ?_⟩
      refine onlyH (o := ?o16) 9 (by kernel_rfl) ?h16 ?r16
      case h16 => simp only [aT, aS, aZ]; rfl
      intro K hK
      refine op_storePart 31 w.heap.size 3 #[.int .i64 x.key, .int .i64 x.window, .slice aj lj cj, .int .i64 x.sk.count, .int .i64 x.sk.sum, .int .i64 x.sk.min, .int .i64 x.sk.max, .slice a1 n1 c1, .slice a2 n2 c2, .slice a3 n3 c3] #[.int .i64 x.sk.count, .int .i64 x.sk.sum, .int .i64 x.sk.min, .int .i64 x.sk.max, .slice e1 r1 f1, .slice e2 r2 f2, .slice e3 r3 f3] #[.int .i64 x.key, .int .i64 x.window, .slice aj lj cj, .int .i64 x.sk.count, .int .i64 x.sk.sum, .int .i64 x.sk.min, .int .i64 x.sk.max, .slice e1 r1 f1, .slice e2 r2 f2, .slice e3 r3 f3] 33 HA.out.1 rfl rfl rfl rfl infoSkI (by exact Nat.le_refl 10) (by simp [Value.oneCell']) rfl ⟨_, by simp [Act.put]; rfl, hK _ _ ⟨trivial, ?_⟩⟩
      clear hK
      refine wpAnyH_done (by kernel_rfl) ?_ _
      obtain ⟨E, hE⟩ : ∃ E : Array Value, E = #[.int .i64 x.key, .int .i64 x.window, .slice aj lj cj, .int .i64 x.sk.count, .int .i64 x.sk.sum, .int .i64 x.sk.min, .int .i64 x.sk.max, .slice e1 r1 f1, .slice e2 r2 f2, .slice e3 r3 f3] := ⟨_, rfl⟩
      rw [← hE]
      have HE : Hid (E = #[.int .i64 x.key, .int .i64 x.window, .slice aj lj cj, .int .i64 x.sk.count, .int .i64 x.sk.sum, .int .i64 x.sk.min, .int .i64 x.sk.max, .slice e1 r1 f1, .slice e2 r2 f2, .slice e3 r3 f3] ∧ E.size = 10 ∧ E.all (·.oneCell') = true) := ⟨hE, by rw [hE]; rfl, by rw [hE]; simp [Value.oneCell']⟩
      have HB : Hid (Blk (Z7.setRow w.heap.size E) w.heap.size E 33 ∧ Blk (Z7.setRow w.heap.size E) (w.heap.size + 1) #[.int .i64 0, .int .i64 0, .slice none 0 0, .int .i64 0, .int .i64 0, .int .i64 0, .int .i64 0, .slice none 0 0, .slice none 0 0, .slice none 0 0] 33 ∧ Below w.heap.size w (Z7.setRow w.heap.size E)) := ⟨HA.out.1.setRow, HA.out.2.1.setRowOther (by omega), below_setRow HA.out.2.2 (by omega) _⟩
      have HJ4 : Hid (RdP (Z7.setRow w.heap.size E) aj lj x.ids Fj ∧ Own (w.heap.size + 2) (Z7.setRow w.heap.size E) Fj ∧ RdSk (Z7.setRow w.heap.size E) (.agg #[.int .i64 x.sk.count, .int .i64 x.sk.sum, .int .i64 x.sk.min, .int .i64 x.sk.max, .slice e1 r1 f1, .slice e2 r2 f2, .slice e3 r3 f3]) x.sk X ∧ Own (w.heap.size + 2) (Z7.setRow w.heap.size E) X ∧ (∀ b ∈ Fj, b ∉ X) ∧ Capd aj lj cj) := ⟨HJ3.out.1.agree (Agree.row nf E), HJ3.out.2.1.agree (Agree.row nf E), HJ3.out.2.2.1.agree (Agree.row nx E), HJ3.out.2.2.2.1.agree (Agree.row nx E), HJ3.out.2.2.2.2⟩
      obtain ⟨w3, hw3⟩ : ∃ W, W = Z7.setRow w.heap.size E := ⟨_, rfl⟩
      rw [← hw3] at HB HJ4 ⊢
      clear hE hw3 HJ3 HA nf nx
      go_wp2_with (first | go_skip | (with_reducible refine stopLoad 33 rfl ?_))
      refine load_known 33 w.heap.size E 33 _ HB.out.1 rfl rfl rfl Tryz.underlying33 rfl (by rw [HE.out.2.1]; exact infoEnP10) ?_
      go_wp2_with (first | go_skip | (with_reducible refine stopStore 33 rfl ?_))
      refine store_known 33 (w.heap.size + 1) _ E 33 HB.out.2.1 rfl rfl rfl rfl (by rw [HE.out.2.1]; exact infoEnP10) (by rw [HE.out.2.1]; rfl) HE.out.2.2 ?_
      have nf : w.heap.size + 1 ∉ Fj := fun hx => by have := HJ4.out.2.1.ge _ hx; omega
      have nx : w.heap.size + 1 ∉ X := fun hx => by have := HJ4.out.2.2.2.1.ge _ hx; omega
      have HF : Hid (Blk (w3.setRow (w.heap.size + 1) E) (w.heap.size + 1) E 33 ∧ RdP (w3.setRow (w.heap.size + 1) E) aj lj x.ids Fj ∧ Own w.heap.size (w3.setRow (w.heap.size + 1) E) Fj ∧ RdSk (w3.setRow (w.heap.size + 1) E) (.agg #[.int .i64 x.sk.count, .int .i64 x.sk.sum, .int .i64 x.sk.min, .int .i64 x.sk.max, .slice e1 r1 f1, .slice e2 r2 f2, .slice e3 r3 f3]) x.sk X ∧ Own w.heap.size (w3.setRow (w.heap.size + 1) E) X ∧ Below w.heap.size w (w3.setRow (w.heap.size + 1) E)) := ⟨HB.out.2.1.setRow, HJ4.out.1.agree (Agree.row nf E), (HJ4.out.2.1.agree (Agree.row nf E)).mono (by omega), HJ4.out.2.2.1.agree (Agree.row nx E), (HJ4.out.2.2.2.1.agree (Agree.row nx E)).mono (by omega), below_setRow HB.out.2.2 (by omega) _⟩
      go_wp2
      refine bodyPost_ret (results_cell_row Tryz.results40 _ _ (w.heap.size + 1) _ _ (0, 0) _ rfl HF.out.1 Tryz.underlying33 rfl (by rw [HE.out.2.1]; exact infoEnP10)) rfl ?_
      exact ⟨_, Fj ++ X, rfl, ⟨Fj, X, rfl, aj, lj, cj, e1, r1, f1, e2, r2, f2, e3, r3, f3, by rw [HE.out.1], HF.out.2.1, HF.out.2.2.2.1, HJ4.out.2.2.2.2.2⟩, HF.out.2.2.1.app HF.out.2.2.2.2.1 HJ4.out.2.2.2.2.1, HF.out.2.2.2.2.2⟩
  case s3 =>
    intro K hK
    refine op_loadPart 31 w.heap.size 3 7 #[.int .i64 x.key, .int .i64 x.window, .slice b l c, .int .i64 x.sk.count, .int .i64 x.sk.sum, .int .i64 x.sk.min, .int .i64 x.sk.max, .slice a1 n1 c1, .slice a2 n2 c2, .slice a3 n3 c3] #[.int .i64 x.sk.count, .int .i64 x.sk.sum, .int .i64 x.sk.min, .int .i64 x.sk.max, .slice a1 n1 c1, .slice a2 n2 c2, .slice a3 n3 c3] 33 _ HS.out.1 rfl rfl rfl Tryz.underlying31 rfl infoSkI (by simp) rfl ⟨_, by simp [Act.put]; rfl, hK _ _ ⟨trivial, ?_⟩⟩
    clear hK
    refine onlyH (o := ?o17) 1 (by kernel_rfl) ?h17 ?r17
    case h17 => simp only [aT, aS, aZ]; rfl
    intro K hK
    have co := HS.out.1.cell 2
    simp only [aT, aS, aZ] at co
    refine op_value (.slice b l c) rfl (by go_simp) ⟨_, by simp [Act.put]; rfl, hK _ _ ⟨trivial, ?_⟩⟩
    clear hK co
    refine onlyH (o := ?o18) 2 (by kernel_rfl) ?h18 ?r18
    case h18 => simp only [aT, aS, aZ]; rfl
    intro K hK
    refine op_call1 82 _ _ Tryz.f82 (fun v w' => ∃ a len cap F, v = .slice a len cap ∧ RdP w' a len x.ids F ∧ Own Y0.heap.size w' F ∧ Below Y0.heap.size Y0 w' ∧ Capd a len cap) rfl rfl Tryz.func82 (by kernel_rfl) (by kernel_rfl) ((copiedSpans_any b l c x.ids F1 Y0 (HP.out.1.below HS.out.2.2) HP.out.2.2.1).mono (by rintro e w' ⟨a, len, cap, F, rfl, h1, h2, h3, h4⟩; exact ⟨_, rfl, a, len, cap, F, rfl, h1, h2, h3, h4⟩)) ?_
    rintro _ Y5 ⟨aj, lj, cj, Fj, rfl, rj, oj, bz, hcj⟩
    have HS5 : Hid (Blk Y5 w.heap.size #[.int .i64 x.key, .int .i64 x.window, .slice b l c, .int .i64 x.sk.count, .int .i64 x.sk.sum, .int .i64 x.sk.min, .int .i64 x.sk.max, .slice a1 n1 c1, .slice a2 n2 c2, .slice a3 n3 c3] 33 ∧ Blk Y5 (w.heap.size + 1) #[.int .i64 0, .int .i64 0, .slice none 0 0, .int .i64 0, .int .i64 0, .int .i64 0, .int .i64 0, .slice none 0 0, .slice none 0 0, .slice none 0 0] 33 ∧ Below w.heap.size w Y5) := ⟨HS.out.1.below bz, HS.out.2.1.below bz, Below.next HS.out.2.2 bz⟩
    have HJ : Hid (RdP Y5 aj lj x.ids Fj ∧ Own (w.heap.size + 2) Y5 Fj ∧ Capd aj lj cj) := ⟨rj, oj.mono HS.out.2.1.lt, hcj⟩
    refine ⟨_, by simp [Act.put]; rfl, hK _ _ ⟨trivial, ?_⟩⟩
    clear hK bz rj oj hcj HS
    refine takeH (o := ?o19) 6 (.pointer (some ⟨w.heap.size, 2, none⟩)) ?h19 ?r19
    case h19 => simp only [aT, aS, aZ]; rfl
    refine ⟨_, by simp [Act.put]; rfl, by kernel_rfl, by kernel_rfl, by kernel_rfl, fun _ _ _ h => h, (.inl ⟨rfl, fun W _ => by kernel_rfl⟩), trivial, ?_⟩
    refine onlyH (o := ?o20) 5 (by kernel_rfl) ?h20 ?r20
    case h20 => simp only [aT, aS, aZ]; rfl
    intro K hK
    refine op_call1 83 _ _ Tryz.f83 (fun v w' => ∃ X, RdSk w' v x.sk X ∧ Own Y5.heap.size w' X ∧ Below Y5.heap.size Y5 w') rfl rfl Tryz.func83 (by kernel_rfl) (by kernel_rfl) ((copiedSketch_all _ x.sk F2 Y5 (HP.out.2.1.below HS5.out.2.2) HP.out.2.2.2).mono (by rintro e w' ⟨v, X, rfl, h1, h2, h3⟩; exact ⟨_, rfl, X, h1, h2, h3⟩)) ?_
    rintro vm Y6 ⟨X, rm, om, bz⟩
    obtain ⟨e1, r1, f1, e2, r2, f2, e3, r3, f3, rfl⟩ := rm.cells7
    have HS6 : Hid (Blk Y6 w.heap.size #[.int .i64 x.key, .int .i64 x.window, .slice b l c, .int .i64 x.sk.count, .int .i64 x.sk.sum, .int .i64 x.sk.min, .int .i64 x.sk.max, .slice a1 n1 c1, .slice a2 n2 c2, .slice a3 n3 c3] 33 ∧ Blk Y6 (w.heap.size + 1) #[.int .i64 0, .int .i64 0, .slice none 0 0, .int .i64 0, .int .i64 0, .int .i64 0, .int .i64 0, .slice none 0 0, .slice none 0 0, .slice none 0 0] 33 ∧ Below w.heap.size w Y6) := ⟨HS5.out.1.below bz, HS5.out.2.1.below bz, Below.next HS5.out.2.2 bz⟩
    have HJ2 : Hid (RdP Y6 aj lj x.ids Fj ∧ Own (w.heap.size + 2) Y6 Fj ∧ RdSk Y6 (.agg #[.int .i64 x.sk.count, .int .i64 x.sk.sum, .int .i64 x.sk.min, .int .i64 x.sk.max, .slice e1 r1 f1, .slice e2 r2 f2, .slice e3 r3 f3]) x.sk X ∧ Own (w.heap.size + 2) Y6 X ∧ (∀ b ∈ Fj, b ∉ X) ∧ Capd aj lj cj) := ⟨HJ.out.1.below bz, HJ.out.2.1.below HJ.out.1.lt bz, rm, om.mono HS5.out.2.1.lt, fun b hb hx => by have := HJ.out.1.lt b hb; have := om.ge b hx; omega, HJ.out.2.2⟩
    refine ⟨_, by simp [Act.put]; rfl, hK _ _ ⟨trivial, ?_⟩⟩
    clear hK bz rm om HS5 HJ
    refine onlyH (o := ?o21) 7 (by kernel_rfl) ?h21 ?r21
    case h21 => simp only [aT, aS, aZ]; rfl
    intro K hK
    have co := HS6.out.1.cell 2
    have fo := HS6.out.1.frozen 2
    simp only [aT, aS, aZ] at co
    have HA : Hid (Blk (Y6.setCell ⟨w.heap.size, 2, none⟩ (.slice aj lj cj)) w.heap.size #[.int .i64 x.key, .int .i64 x.window, .slice aj lj cj, .int .i64 x.sk.count, .int .i64 x.sk.sum, .int .i64 x.sk.min, .int .i64 x.sk.max, .slice a1 n1 c1, .slice a2 n2 c2, .slice a3 n3 c3] 33 ∧ Blk (Y6.setCell ⟨w.heap.size, 2, none⟩ (.slice aj lj cj)) (w.heap.size + 1) #[.int .i64 0, .int .i64 0, .slice none 0 0, .int .i64 0, .int .i64 0, .int .i64 0, .int .i64 0, .slice none 0 0, .slice none 0 0, .slice none 0 0] 33 ∧ Below w.heap.size w (Y6.setCell ⟨w.heap.size, 2, none⟩ (.slice aj lj cj))) := ⟨HS6.out.1.set 2 _, HS6.out.2.1.setOther (by omega) 2 _, HS6.out.2.2.setCell (by show w.heap.size ≤ w.heap.size; omega) _⟩
    have nf : w.heap.size ∉ Fj := fun hx => by have := HJ2.out.2.1.ge _ hx; omega
    have nx : w.heap.size ∉ X := fun hx => by have := HJ2.out.2.2.2.1.ge _ hx; omega
    have HJ3 : Hid (RdP (Y6.setCell ⟨w.heap.size, 2, none⟩ (.slice aj lj cj)) aj lj x.ids Fj ∧ Own (w.heap.size + 2) (Y6.setCell ⟨w.heap.size, 2, none⟩ (.slice aj lj cj)) Fj ∧ RdSk (Y6.setCell ⟨w.heap.size, 2, none⟩ (.slice aj lj cj)) (.agg #[.int .i64 x.sk.count, .int .i64 x.sk.sum, .int .i64 x.sk.min, .int .i64 x.sk.max, .slice e1 r1 f1, .slice e2 r2 f2, .slice e3 r3 f3]) x.sk X ∧ Own (w.heap.size + 2) (Y6.setCell ⟨w.heap.size, 2, none⟩ (.slice aj lj cj)) X ∧ (∀ b ∈ Fj, b ∉ X) ∧ Capd aj lj cj) := ⟨HJ2.out.1.agree (.set nf 2 _), HJ2.out.2.1.agree (.set nf 2 _), HJ2.out.2.2.1.agree (.set nx 2 _), HJ2.out.2.2.2.1.agree (.set nx 2 _), HJ2.out.2.2.2.2⟩
    refine op_skip (Y6.setCell ⟨w.heap.size, 2, none⟩ (.slice aj lj cj)) rfl (by go_simp) ⟨_, by simp [Act.put]; rfl, hK _ _ ⟨trivial, ?_⟩⟩
    obtain ⟨Z7, hZ7⟩ : ∃ Z, Z = (Y6.setCell ⟨w.heap.size, 2, none⟩ (.slice aj lj cj)) := ⟨_, rfl⟩
    rw [← hZ7] at HA HJ3 ⊢
    clear hK co fo HS6 HJ2 hZ7
    refine takeH (o := ?o22) 8 (.pointer (some ⟨w.heap.size, 3, none⟩)) ?h22 ?r22
    case h22 => simp only [aT, aS, aZ]; rfl
    refine ⟨_, by simp [Act.put]; rfl, by kernel_rfl, by kernel_rfl, by kernel_rfl, fun _ _ _ h => h, (.inl ⟨rfl, fun W _ => by kernel_rfl⟩), trivial, ?_⟩
    refine onlyH (o := ?o23) 9 (by kernel_rfl) ?h23 ?r23
    case h23 => simp only [aT, aS, aZ]; rfl
    intro K hK
    refine op_storePart 31 w.heap.size 3 #[.int .i64 x.key, .int .i64 x.window, .slice aj lj cj, .int .i64 x.sk.count, .int .i64 x.sk.sum, .int .i64 x.sk.min, .int .i64 x.sk.max, .slice a1 n1 c1, .slice a2 n2 c2, .slice a3 n3 c3] #[.int .i64 x.sk.count, .int .i64 x.sk.sum, .int .i64 x.sk.min, .int .i64 x.sk.max, .slice e1 r1 f1, .slice e2 r2 f2, .slice e3 r3 f3] #[.int .i64 x.key, .int .i64 x.window, .slice aj lj cj, .int .i64 x.sk.count, .int .i64 x.sk.sum, .int .i64 x.sk.min, .int .i64 x.sk.max, .slice e1 r1 f1, .slice e2 r2 f2, .slice e3 r3 f3] 33 HA.out.1 rfl rfl rfl rfl infoSkI (by exact Nat.le_refl 10) (by simp [Value.oneCell']) rfl ⟨_, by simp [Act.put]; rfl, hK _ _ ⟨trivial, ?_⟩⟩
    clear hK
    refine wpAnyH_done (by kernel_rfl) ?_ _
    obtain ⟨E, hE⟩ : ∃ E : Array Value, E = #[.int .i64 x.key, .int .i64 x.window, .slice aj lj cj, .int .i64 x.sk.count, .int .i64 x.sk.sum, .int .i64 x.sk.min, .int .i64 x.sk.max, .slice e1 r1 f1, .slice e2 r2 f2, .slice e3 r3 f3] := ⟨_, rfl⟩
    rw [← hE]
    have HE : Hid (E = #[.int .i64 x.key, .int .i64 x.window, .slice aj lj cj, .int .i64 x.sk.count, .int .i64 x.sk.sum, .int .i64 x.sk.min, .int .i64 x.sk.max, .slice e1 r1 f1, .slice e2 r2 f2, .slice e3 r3 f3] ∧ E.size = 10 ∧ E.all (·.oneCell') = true) := ⟨hE, by rw [hE]; rfl, by rw [hE]; simp [Value.oneCell']⟩
    have HB : Hid (Blk (Z7.setRow w.heap.size E) w.heap.size E 33 ∧ Blk (Z7.setRow w.heap.size E) (w.heap.size + 1) #[.int .i64 0, .int .i64 0, .slice none 0 0, .int .i64 0, .int .i64 0, .int .i64 0, .int .i64 0, .slice none 0 0, .slice none 0 0, .slice none 0 0] 33 ∧ Below w.heap.size w (Z7.setRow w.heap.size E)) := ⟨HA.out.1.setRow, HA.out.2.1.setRowOther (by omega), below_setRow HA.out.2.2 (by omega) _⟩
    have HJ4 : Hid (RdP (Z7.setRow w.heap.size E) aj lj x.ids Fj ∧ Own (w.heap.size + 2) (Z7.setRow w.heap.size E) Fj ∧ RdSk (Z7.setRow w.heap.size E) (.agg #[.int .i64 x.sk.count, .int .i64 x.sk.sum, .int .i64 x.sk.min, .int .i64 x.sk.max, .slice e1 r1 f1, .slice e2 r2 f2, .slice e3 r3 f3]) x.sk X ∧ Own (w.heap.size + 2) (Z7.setRow w.heap.size E) X ∧ (∀ b ∈ Fj, b ∉ X) ∧ Capd aj lj cj) := ⟨HJ3.out.1.agree (Agree.row nf E), HJ3.out.2.1.agree (Agree.row nf E), HJ3.out.2.2.1.agree (Agree.row nx E), HJ3.out.2.2.2.1.agree (Agree.row nx E), HJ3.out.2.2.2.2⟩
    obtain ⟨w3, hw3⟩ : ∃ W, W = Z7.setRow w.heap.size E := ⟨_, rfl⟩
    rw [← hw3] at HB HJ4 ⊢
    clear hE hw3 HJ3 HA nf nx
    go_wp2_with (first | go_skip | (with_reducible refine stopLoad 33 rfl ?_))
    refine load_known 33 w.heap.size E 33 _ HB.out.1 rfl rfl rfl Tryz.underlying33 rfl (by rw [HE.out.2.1]; exact infoEnP10) ?_
    go_wp2_with (first | go_skip | (with_reducible refine stopStore 33 rfl ?_))
    refine store_known 33 (w.heap.size + 1) _ E 33 HB.out.2.1 rfl rfl rfl rfl (by rw [HE.out.2.1]; exact infoEnP10) (by rw [HE.out.2.1]; rfl) HE.out.2.2 ?_
    have nf : w.heap.size + 1 ∉ Fj := fun hx => by have := HJ4.out.2.1.ge _ hx; omega
    have nx : w.heap.size + 1 ∉ X := fun hx => by have := HJ4.out.2.2.2.1.ge _ hx; omega
    have HF : Hid (Blk (w3.setRow (w.heap.size + 1) E) (w.heap.size + 1) E 33 ∧ RdP (w3.setRow (w.heap.size + 1) E) aj lj x.ids Fj ∧ Own w.heap.size (w3.setRow (w.heap.size + 1) E) Fj ∧ RdSk (w3.setRow (w.heap.size + 1) E) (.agg #[.int .i64 x.sk.count, .int .i64 x.sk.sum, .int .i64 x.sk.min, .int .i64 x.sk.max, .slice e1 r1 f1, .slice e2 r2 f2, .slice e3 r3 f3]) x.sk X ∧ Own w.heap.size (w3.setRow (w.heap.size + 1) E) X ∧ Below w.heap.size w (w3.setRow (w.heap.size + 1) E)) := ⟨HB.out.2.1.setRow, HJ4.out.1.agree (Agree.row nf E), (HJ4.out.2.1.agree (Agree.row nf E)).mono (by omega), HJ4.out.2.2.1.agree (Agree.row nx E), (HJ4.out.2.2.2.1.agree (Agree.row nx E)).mono (by omega), below_setRow HB.out.2.2 (by omega) _⟩
    go_wp2
    refine bodyPost_ret (results_cell_row Tryz.results40 _ _ (w.heap.size + 1) _ _ (0, 0) _ rfl HF.out.1 Tryz.underlying33 rfl (by rw [HE.out.2.1]; exact infoEnP10)) rfl ?_
    exact ⟨_, Fj ++ X, rfl, ⟨Fj, X, rfl, aj, lj, cj, e1, r1, f1, e2, r2, f2, e3, r3, f3, by rw [HE.out.1], HF.out.2.1, HF.out.2.2.2.1, HJ4.out.2.2.2.2.2⟩, HF.out.2.2.1.app HF.out.2.2.2.2.1 HJ4.out.2.2.2.2.1, HF.out.2.2.2.2.2⟩
end Go.Proofs.YtjnamoppcklomaaGreat
/- Slices of structs: a tail, a shallow copy by appending onto an empty literal. No statement of the seat is proved here. -/
namespace Go.Proofs.YtjnamoppcklomaaGreat
open Go.RowKit
section
variable {α : Type} {K : ElK α} {w w' : World}
/-- The cells of a list, one behind the other. -/
theorem rdC_of : ∀ {xs : List α} {b off : Nat} {F : List Nat}, RdEls K w b xs off F → ∃ vs, RdC K w xs vs F ∧ (∀ i, i < vs.length → w.cell? ⟨b, off + i, none⟩ = vs[i]?) ∧ ∀ u ∈ vs, u.oneCell' = true
  | [], b, off, F, h => by
    rw [RdEls] at h
    exact ⟨[], ⟨rfl, h⟩, fun i hi => by simp at hi, by simp⟩
  | x :: xs, b, off, F, h => by
    obtain ⟨cs, F1, F2, h1, h2, h3, h4, rfl⟩ := h
    obtain ⟨vs, k1, k2, k3⟩ := rdC_of h4
    obtain ⟨cs', e, _, hone⟩ := K.cells h3
    injection e with e
    subst e
    refine ⟨cs.toList ++ vs, ⟨cs, vs, F1, F2, rfl, h1, h3, k1, rfl⟩, fun i hi => ?_, fun u hu => ?_⟩
    · by_cases hlt : i < K.n
      · rw [h2 i hlt, List.getElem?_append_left (by rw [Array.length_toList, h1]; exact hlt), Array.getElem?_toList]
      · rw [List.getElem?_append_right (by rw [Array.length_toList, h1]; omega), Array.length_toList, h1]
        have := k2 (i - K.n) (by rw [List.length_append, Array.length_toList, h1] at hi; omega)
        rw [show off + K.n + (i - K.n) = off + i by omega] at this
        exact this
    · rcases List.mem_append.1 hu with hu | hu
      · exact (Array.all_eq_true_iff_forall_mem.1 hone) u (by simpa using hu)
      · exact k3 u hu
/-- A list that a call laid, its elements' blocks wherever they are. -/
theorem rdL_shallow {B e m : Nat} {v : Value} {xs : List α} {vs : List Value} {G : List Nat} (h : w.ownsRow B e K.n v m vs) (hr : RdC K w xs vs G) (hm : 0 < m) :
    ∃ g cap, v = .slice (some ⟨g, 0, none⟩) m cap ∧ m ≤ cap ∧ RdL K w (some ⟨g, 0, none⟩) m xs (g :: G) ∧ B ≤ g ∧ g < w.heap.size ∧ ∀ o, w.frozen? ⟨g, o, none⟩ = false := by
  have hl : xs.length = m := by
    have h1 := hr.length
    have h2 := h.1
    exact Nat.eq_of_mul_eq_mul_right K.pos (h1.symm.trans h2)
  rcases h.2 with ⟨e1, e2⟩ | ⟨g, cap, cur, e1, h1, h2, h3, h4, h5, h6⟩
  · subst e2; omega
  · subst e1
    refine ⟨g, cap, rfl, h3, ⟨hl, .inr ⟨g, 0, G, hm, rfl, rfl, rdEls_of 0 hr (fun i hi => ?_)⟩⟩, h1, (h.lt g rfl).2, fun o => h.frozenAt o⟩
    rw [Nat.zero_add]; exact h.cellAt i (by rw [← h.1]; exact hi)
/-- What a slice of a list is, where it may be empty. -/
def ElsAt (K : ElK α) (w : World) (ax : Option Addr) (m : Nat) (xs : List α) (F : List Nat) : Prop := (m = 0 ∧ xs = [] ∧ F = []) ∨ (0 < m ∧ xs.length = m ∧ ∃ b off, ax = some ⟨b, off, none⟩ ∧ RdEls K w b xs off F)
theorem ElsAt.below {ax : Option Addr} {m : Nat} {xs : List α} {F : List Nat} (h : ElsAt K w ax m xs F) (hb : Below w.heap.size w w') (hlt : ∀ b off, ax = some ⟨b, off, none⟩ → 0 < m → b < w.heap.size) : ElsAt K w' ax m xs F := by
  rcases h with h | ⟨h1, h2, b, off, rfl, h3⟩
  · exact .inl h
  · exact .inr ⟨h1, h2, b, off, rfl, h3.agree (hb.block b (hlt b off rfl h1)) (.below hb h3.lt)⟩
variable {P : Program} {ops : Array Oper} {Q : Exit → Act → World → Prop} {a : Act} {o : Oper} {C : Act → World → Prop}
end
end Go.Proofs.YtjnamoppcklomaaGreat
/- slices.Grow, slices.Concat, the method behind. No statement of the seat is proved here. -/
namespace Go.Proofs.YtjnamoppcklomaaGreat
open Go.RowKit
theorem run_append_nothing {P : Program} {w : World} (t ty e : TypeId) (i : TypeInfo) (ht : P.underlying t = some (.slice e)) (hi : P.info? e = some i) (ad : Addr) (n k : Nat) (hk : n ≤ k) :
    (Builtin.append_ #[t, t] ty #[.slice (some ad) n k, .slice none 0 0]).run P w = .ok (.slice (some ad) n k) w := by
  simp [Builtin.append_, run_underlying ht, sizeOf, typeInfo, hi, Builtin.lenOf, Builtin.firstCells, storeCells, hk]
set_option maxRecDepth 200000 in
set_option maxHeartbeats 1000000 in
theorem growNil_any (n : Nat) (w : World) (h0 : 0 < n) (hn : n ≤ 2097153) :
    Calls Tryz.prog 143 #[.slice none 0 0, .int .i64 n] w fun e w' => ∃ cap, e = .returned (.slice (some ⟨w.heap.size, 0, none⟩) 0 cap) ∧ w'.ownsRow w.heap.size 33 10 (.slice (some ⟨w.heap.size, 0, none⟩) 0 cap) 0 [] ∧ Below w.heap.size w w' := by
  obtain ⟨i0, hi, hz0, hz1, hz2⟩ := info_parts infoEnG
  have h1 : ¬ ((n : Int) < 0) := by omega
  have h2 : (0 : Int) < (n : Int) := by omega
  have h3 : wrap64 (n : Int) = (n : Int) := by unfold wrap64; omega
  have hrz : ∀ ty, (Builtin.append_ #[24, 3] ty #[.slice none 0 0, .int .i64 n]).run Tryz.prog w = .ok (.slice (some ⟨w.heap.size, 0, none⟩) n (grownCap w n 0 33)) (w.drew.alloc (.cells (Builtin.zeroCells (Value.agg #[.int .i64 0, .int .i64 0, .slice none 0 0, .int .i64 0, .int .i64 0, .int .i64 0, .int .i64 0, .slice none 0 0, .slice none 0 0, .slice none 0 0]).cells n ++ Builtin.zeroCells (Value.agg #[.int .i64 0, .int .i64 0, .slice none 0 0, .int .i64 0, .int .i64 0, .int .i64 0, .int .i64 0, .slice none 0 0, .slice none 0 0, .slice none 0 0]).cells (grownCap w n 0 33 - n)) 33)) :=
    fun ty => Lib.run_append_nil_zeros w 24 3 ty 33 i0 _ .i64 .i64 Tryz.underlying24 Tryz.underlying3 hi hz0 n h0 (by rw [hz1]; decide) (by omega) (by rw [hz2]; omega)
  have HG : Hid (n ≤ grownCap w n 0 33 ∧ grownCap w n 0 33 ≤ maxLen) := ⟨grownCap_ge w _ _ _, grownCap_le_maxLen w n 0 _ (by unfold maxLen; omega)⟩
  obtain ⟨G, hG⟩ : ∃ G, G = grownCap w n 0 33 := ⟨_, rfl⟩
  rw [← hG] at hrz HG
  clear hG
  obtain ⟨cells, hcells⟩ : ∃ cells, cells = Builtin.zeroCells (Value.agg #[.int .i64 0, .int .i64 0, .slice none 0 0, .int .i64 0, .int .i64 0, .int .i64 0, .int .i64 0, .slice none 0 0, .slice none 0 0, .slice none 0 0]).cells n ++ Builtin.zeroCells (Value.agg #[.int .i64 0, .int .i64 0, .slice none 0 0, .int .i64 0, .int .i64 0, .int .i64 0, .int .i64 0, .slice none 0 0, .slice none 0 0, .slice none 0 0]).cells (G - n) := ⟨_, rfl⟩
  rw [← hcells] at hrz
  have HC : Hid (cells.size = G * 10) := by
    show _ = _
    have := HG.out.1
    rw [hcells]
    simp [Builtin.zeroCells, Value.cells]
    omega
  clear hcells hi hz0 hz1 hz2 i0
  have hGn : n ≤ G := HG.out.1
  have h4 : ¬ ((G : Int) < 0) := by omega
  go_enter Tryz.func143, Tryz.ntmps143
  go_wp2_with (at_builtin; refine Lib.wpList_append_run _ rfl _ _ _ _ rfl _ _ rfl rfl _ _ (hrz _) ?_)
  go_wp2
  go_ret
  refine ⟨_, rfl, ?_, Below.allocW _ (Below.refl _ _).drew (by simp)⟩
  have := World.ownsRow_made (base := w.heap.size) (e := 33) (size := 10) w.drew cells G (by simp) HG.out.2 HC.out
  change (w.drew.alloc (.cells cells 33)).ownsRow _ _ _ _ _ _
  simpa using this
/-- A list of entries in a new row, the entries' own blocks as they were. -/
def Shal (w : World) (xs : List En) (v : Value) (H : List Nat) (w' : World) : Prop := ∃ vs, w'.ownsRow w.heap.size 33 10 v xs.length vs ∧ RdC enK w' xs vs H ∧ (∀ u ∈ vs, u.oneCell' = true) ∧ Below w.heap.size w w'
theorem Shal.row {w : World} {xs : List En} {v : Value} {H : List Nat} {w' : World} (h : Shal w xs v H w') (hp : 0 < xs.length) : ∃ g cap, v = .slice (some ⟨g, 0, none⟩) xs.length cap ∧ xs.length ≤ cap ∧ RdL enK w' (some ⟨g, 0, none⟩) xs.length xs (g :: H) ∧ w.heap.size ≤ g ∧ g < w'.heap.size ∧ ∀ o, w'.frozen? ⟨g, o, none⟩ = false := by
  obtain ⟨vs, h1, h2, _, _⟩ := h
  exact rdL_shallow h1 h2 hp
/-- The cells of a list that came in. -/
theorem RdL.flat {w : World} {p : Option Addr} {l : Nat} {xs : List En} {F : List Nat} (h : RdL enK w p l xs F) : ∃ vs H, RdC enK w xs vs H ∧ (∀ u ∈ vs, u.oneCell' = true) ∧ vs.length = l * 10 ∧ (∀ b ∈ H, b ∈ F) ∧ (l = 0 ∨ ∃ b off, p = some ⟨b, off, none⟩ ∧ b < w.heap.size ∧ ∀ i, i < vs.length → w.cell? ⟨b, off + i, none⟩ = vs[i]?) := by
  rcases h.cells with ⟨h0, hF⟩ | ⟨b, off, F', hp, ha, hF, he⟩
  · have : xs = [] := List.eq_nil_of_length_eq_zero (by rw [h.length, h0])
    subst this
    exact ⟨[], [], ⟨rfl, rfl⟩, by simp, by simp [h0], by simp, .inl h0⟩
  · obtain ⟨vs, k1, k2, k3⟩ := rdC_of he
    have hb : b < w.heap.size := h.lt b (by rw [hF]; simp)
    exact ⟨vs, F', k1, k3, by rw [k1.length, h.length]; rfl, fun x hx => by rw [hF]; simp [hx], .inr ⟨b, off, ha, hb, k2⟩⟩
set_option maxRecDepth 200000 in
set_option maxHeartbeats 4000000 in
theorem concat_any (p : Option Addr) (l c : Nat) (xs : List En) (F : List Nat) (e : En) (es : Array Value) (G : List Nat) (Q PB : Nat) (w : World) (h : RdL enK w p l xs F) (hc : Capd p l c) (k : RdE w (.agg es) e G) (hQ : Blk w Q es 33) (hP : Blk w PB #[.slice p l c, .slice (some ⟨Q, 0, none⟩) 1 1] 24) (hl : l ≤ 2097152) :
    Calls Tryz.prog 102 #[.slice (some ⟨PB, 0, none⟩) 2 2] w fun r w' => ∃ v, r = .returned v ∧ ∃ H, Shal w (xs ++ [e]) v H w' ∧ ∀ b ∈ H, b ∈ F ∨ b ∈ G := by
  obtain ⟨i0, hi, hz0, hz1, hz2⟩ := info_parts infoEnG
  have HI : Hid (p = none → l = 0 ∧ c = 0) := fun e => by have := hc.1 e; have := hc.2; exact ⟨by omega, by omega⟩
  obtain ⟨_, ee, hes, hes1⟩ := RdE.cells k
  injection ee with ee
  subst ee
  obtain ⟨vs, H, hrc, hone, hvl, hHF, hcell⟩ := h.flat
  have HV : Hid (RdC enK w xs vs H ∧ (∀ u ∈ vs, u.oneCell' = true) ∧ vs.length = l * 10 ∧ (l = 0 ∨ ∃ b off, p = some ⟨b, off, none⟩ ∧ b < w.heap.size ∧ ∀ i, i < vs.length → w.cell? ⟨b, off + i, none⟩ = vs[i]?)) := ⟨hrc, hone, hvl, hcell⟩
  have HX : Hid (xs.length = l ∧ (∀ b ∈ H, b ∈ F) ∧ RdE w (.agg es) e G ∧ es.size = 10 ∧ es.all (·.oneCell') = true) := ⟨h.length, hHF, k, hes, hes1⟩
  have HB : Hid (Blk w Q es 33 ∧ Blk w PB #[.slice p l c, .slice (some ⟨Q, 0, none⟩) 1 1] 24) := ⟨hQ, hP⟩
  clear h hc k hQ hP hes hes1 hrc hone hvl hHF hcell
  have p0 := HB.out.2.cell 0
  have p1 := HB.out.2.cell 1
  simp only [aT, aS, aZ] at p0 p1
  go_enter Tryz.func102, Tryz.ntmps102
  go_wp2
  go_loopw [3, 11] (fun s i wr => ∃ (k : Nat) (z : Nat), k ≤ 2 ∧ i = .int .i64 k ∧ s = .int .i64 z ∧ wr = w ∧ Hid (z = if k = 0 then 0 else if k = 1 then l else l + 1)) (fun _ i _ => 2 - (intOf i).toNat)
  case atStart => exact ⟨0, 0, by omega, rfl, rfl, rfl, rfl⟩
  case round =>
    obtain ⟨k, z, hk, rfl, rfl, rfl, HZ⟩ := hrel
    by_cases hlt : k < 2
    · have hI : (k : Int) < 2 := by omega
      have hz : z ≤ 2097153 := by have := HZ.out; split at this <;> (try split at this) <;> omega
      rcases (show k = 0 ∨ k = 1 by omega) with rfl | rfl
      · have HZ2 : Hid (z + l = l) := by have := HZ.out; simp at this; show _ = _; omega
        have n0 : ¬ (((z : Int) + (l : Int)) < 0) := by omega
        go_wp2
        go_roundw
        case rel => exact ⟨1, z + l, by omega, by go_num, by go_num, trivial, by have := HZ2.out; show _ = _; simp; omega⟩
        case measure => simp [intOf]
      · have HZ2 : Hid (z = l) := by have := HZ.out; simp at this; exact this
        have n0 : ¬ (((z : Int) + 1) < 0) := by omega
        go_wp2
        go_roundw
        case rel => exact ⟨2, z + 1, by omega, by go_num, by go_num, trivial, by have := HZ2.out; show _ = _; simp; omega⟩
        case measure => simp [intOf]
    · obtain rfl : k = 2 := by omega
      have hz : z = l + 1 := by have := HZ.out; simpa using this
      subst hz
      go_wp2_with fail
      refine (growNil_any (l + 1) _ (by omega) (by omega)).mono ?_
      rintro r w1 ⟨cap, rfl, ho, hb⟩
      obtain ⟨w0, hw0⟩ : ∃ W, W = wr := ⟨_, rfl⟩
      subst hw0
      obtain ⟨L, hL⟩ : ∃ L, L = w0.heap.size := ⟨_, rfl⟩
      have HG : Hid (L = w0.heap.size) := hL
      have HO : Hid (w1.ownsRow L 33 10 (.slice (some ⟨L, 0, none⟩) 0 cap) 0 [] ∧ Below w0.heap.size w0 w1) := ⟨by rw [hL]; exact ho, hb⟩
      rw [← hL]
      clear ho hb hL p0 p1 HZ
      go_wp2
      go_loopw [6, 27] (fun v i ws => ∃ k : Nat, k ≤ 2 ∧ i = .int .i64 k ∧ Hid (Below w0.heap.size w0 ws ∧ ((k = 0 ∧ v = .slice (some ⟨L, 0, none⟩) 0 cap ∧ ws.ownsRow L 33 10 (.slice (some ⟨L, 0, none⟩) 0 cap) 0 []) ∨ (k = 1 ∧ ws.ownsRow L 33 10 v l vs) ∨ (k = 2 ∧ ws.ownsRow L 33 10 v (l + 1) (vs ++ es.toList))))) (fun _ i _ => 2 - (intOf i).toNat)
      case atStart => exact ⟨0, by omega, rfl, HO.out.2, .inl ⟨rfl, rfl, HO.out.1⟩⟩
      case round =>
        clear HO
        obtain ⟨k, hk, rfl, HW⟩ := hrel
        have p0 : wr.cell? ⟨PB, 0, none⟩ = some (.slice p l c) := by rw [(HB.out.2.below HW.out.1).cell]; rfl
        have p1 : wr.cell? ⟨PB, 1, none⟩ = some (.slice (some ⟨Q, 0, none⟩) 1 1) := by rw [(HB.out.2.below HW.out.1).cell]; rfl
        have hLw : L ≤ wr.heap.size := by have := HW.out.1.size; have := HG.out; omega
        by_cases hlt : k < 2
        · have hI : (k : Int) < 2 := by omega
          rcases (show k = 0 ∨ k = 1 by omega) with rfl | rfl
          · have HR : Hid (u6 = .slice (some ⟨L, 0, none⟩) 0 cap ∧ wr.ownsRow L 33 10 (.slice (some ⟨L, 0, none⟩) 0 cap) 0 []) := by
              rcases HW.out.2 with ⟨_, h1, h2⟩ | ⟨h1, _⟩ | ⟨h1, _⟩
              · exact ⟨h1, h2⟩
              · omega
              · omega
            have hu := HR.out.1
            subst hu
            by_cases hnil : p = none
            · obtain ⟨hl0, hc0⟩ := HI.out hnil
              have HN : Hid (l = 0 ∧ vs = []) := ⟨hl0, List.eq_nil_of_length_eq_zero (by rw [HV.out.2.2.1, hl0])⟩
              have p0' : wr.cell? ⟨PB, 0, none⟩ = some (.slice none 0 0) := by rw [p0, hnil, hl0, hc0]
              clear p0 hl0 hc0 hnil
              have hcap : 0 ≤ cap := Nat.zero_le _
              go_wp2_with (with_reducible refine stopAppend rfl ?_)
              refine Stop.intro (Lib.wpList_append_run _ rfl _ _ _ _ rfl _ _ rfl rfl _ _ (run_append_nothing 24 _ 33 i0 Tryz.underlying24 hi ⟨L, 0, none⟩ 0 cap hcap) ?_)
              go_wp2
              go_roundw
              case rel => exact ⟨1, by omega, by go_num, HW.out.1, .inr (.inl ⟨rfl, by rw [HN.out.1, HN.out.2]; exact HR.out.2⟩)⟩
              case measure => simp [intOf]
            · obtain ⟨ad, rfl⟩ : ∃ ad, p = some ad := by cases p; exact absurd rfl hnil; exact ⟨_, rfl⟩
              have HNW : Hid (∀ j u, vs[j]? = some u → wr.cell? (ad.add j) = some u) := fun j u hj => by
                have hj' : j < vs.length := (List.getElem?_eq_some_iff.1 hj).1
                rcases HV.out.2.2.2 with h0 | ⟨b, off, e, hb, hc⟩
                · rw [HV.out.2.2.1, h0] at hj'; omega
                · cases e
                  have ea : ((⟨b, off, none⟩ : Addr).add j) = ⟨b, off + j, none⟩ := by unfold Addr.add; split <;> simp_all
                  rw [ea, HW.out.1.cell (p := ⟨b, off + j, none⟩) hb, hc j hj', hj]
              clear hnil
              go_wp2_with (with_reducible refine stopAppend rfl ?_)
              refine Stop.intro (wpList_append_own _ rfl _ _ 24 rfl L 33 i0 _ 10 144 Tryz.underlying24 hi hz0 hz1 hz2 rfl (by decide) (.slice (some ⟨L, 0, none⟩) 0 cap) 0 [] rfl HR.out.2 ad l c vs rfl HV.out.2.2.1 HNW.out HV.out.2.1 (by unfold maxLen; omega) (by omega) hLw ?_)
              intro v' w' hown hgrow _
              have HW2 : Hid (Below w0.heap.size w0 w' ∧ w'.ownsRow L 33 10 v' l vs) := ⟨HW.out.1.grown hgrow HW.out.1.size (fun b hb => by simp [Value.ownBlock] at hb; rw [← hb, ← HG.out]; exact Nat.le_refl _), by simpa using hown⟩
              clear hown hgrow HNW
              go_wp2
              go_roundw
              case rel => exact ⟨1, by omega, by go_num, HW2.out.1, .inr (.inl ⟨rfl, HW2.out.2⟩)⟩
              case measure => simp [intOf]
          · have HR : Hid (wr.ownsRow L 33 10 u6 l vs) := by
              rcases HW.out.2 with ⟨h1, _⟩ | ⟨_, h2⟩ | ⟨h1, _⟩
              · omega
              · exact h2
              · omega
            have HNW : Hid (∀ j u, es.toList[j]? = some u → wr.cell? ((⟨Q, 0, none⟩ : Addr).add j) = some u) := fun j u hj => by
              have ea : ((⟨Q, 0, none⟩ : Addr).add j) = ⟨Q, j, none⟩ := by unfold Addr.add; split <;> simp_all
              rw [ea, (HB.out.1.below HW.out.1).cell, ← Array.getElem?_toList]; exact hj
            go_wp2_with (with_reducible refine stopAppend rfl ?_)
            refine Stop.intro (wpList_append_own _ rfl _ _ 24 rfl L 33 i0 _ 10 144 Tryz.underlying24 hi hz0 hz1 hz2 rfl (by decide) u6 l vs rfl HR.out ⟨Q, 0, none⟩ 1 1 es.toList rfl (by rw [Array.length_toList, HX.out.2.2.2.1]) HNW.out (fun u hu => (Array.all_eq_true_iff_forall_mem.1 HX.out.2.2.2.2) u (by simpa using hu)) (by unfold maxLen; omega) (by omega) hLw ?_)
            intro v' w' hown hgrow _
            have HW2 : Hid (Below w0.heap.size w0 w' ∧ w'.ownsRow L 33 10 v' (l + 1) (vs ++ es.toList)) := ⟨HW.out.1.grown hgrow HW.out.1.size (fun b hb => by have := (HR.out.lt b hb).1; have := HG.out; omega), hown⟩
            clear hown hgrow HNW
            go_wp2
            go_roundw
            case rel => exact ⟨2, by omega, by go_num, HW2.out.1, .inr (.inr ⟨rfl, HW2.out.2⟩)⟩
            case measure => simp [intOf]
        · obtain rfl : k = 2 := by omega
          have HR : Hid (wr.ownsRow L 33 10 u6 (l + 1) (vs ++ es.toList)) := by
            rcases HW.out.2 with ⟨h1, _⟩ | ⟨h1, _⟩ | ⟨_, h2⟩
            · omega
            · omega
            · exact h2
          go_wp2
          go_ret
          refine ⟨u6, rfl, H ++ G, ⟨vs ++ es.toList, ?_, ?_, ?_, HW.out.1⟩, fun b hb => ?_⟩
          · rw [← HG.out, List.length_append, HX.out.1]
            exact HR.out
          · exact (HV.out.1.below HW.out.1).snoc (HX.out.2.2.1.below HW.out.1) HX.out.2.2.2.1
          · intro u hu
            rcases List.mem_append.1 hu with hu | hu
            · exact HV.out.2.1 u hu
            · exact (Array.all_eq_true_iff_forall_mem.1 HX.out.2.2.2.2) u (by simpa using hu)
          · rcases List.mem_append.1 hb with hb | hb
            · exact .inl (HX.out.2.1 b hb)
            · exact .inr hb
end Go.Proofs.YtjnamoppcklomaaGreat
/- The methods behind and with; slices.Clone. No statement of the seat is proved here. -/
namespace Go.Proofs.YtjnamoppcklomaaGreat
open Go.RowKit
section
variable {α : Type} {K : ElK α} {w : World}
/-- One element of a list changed for another. -/
theorem RdC.set : ∀ {xs : List α} {vs : List Value} {H : List Nat} {k : Nat} {x : α} {es : Array Value} {G : List Nat}, RdC K w xs vs H → k < xs.length → K.R w (.agg es) x G → es.size = K.n → ∃ H', RdC K w (xs.set k x) (vs.take (k * K.n) ++ es.toList ++ vs.drop ((k + 1) * K.n)) H' ∧ ∀ b ∈ H', b ∈ H ∨ b ∈ G
  | [], vs, H, k, x, es, G, h, hk, _, _ => by simp at hk
  | y :: xs, vs, H, 0, x, es, G, h, hk, hr, hs => by
    obtain ⟨cs, vs', F1, F2, rfl, h2, h3, h4, rfl⟩ := h
    refine ⟨G ++ F2, ⟨es, vs', G, F2, ?_, hs, hr, h4, rfl⟩, fun b hb => ?_⟩
    · rw [Nat.zero_mul, List.take_zero, List.nil_append, Nat.zero_add, Nat.one_mul, List.drop_left' (by rw [Array.length_toList, h2])]
    · rcases List.mem_append.1 hb with hb | hb
      · exact .inr hb
      · exact .inl (List.mem_append_right _ hb)
  | y :: xs, vs, H, k + 1, x, es, G, h, hk, hr, hs => by
    obtain ⟨cs, vs', F1, F2, rfl, h2, h3, h4, rfl⟩ := h
    obtain ⟨H', q1, q2⟩ := RdC.set (k := k) h4 (by simpa using hk) hr hs
    have hl : cs.toList.length = K.n := by rw [Array.length_toList, h2]
    refine ⟨F1 ++ H', ⟨cs, _, F1, H', ?_, h2, h3, q1, rfl⟩, fun b hb => ?_⟩
    · rw [List.take_append, List.drop_append, hl]
      rw [List.take_of_length_le (by rw [hl, Nat.succ_mul]; omega), List.drop_of_length_le (by rw [hl, Nat.succ_mul]; omega)]
      rw [show (k + 1) * K.n - K.n = k * K.n by rw [Nat.succ_mul]; omega, show (k + 1 + 1) * K.n - K.n = (k + 1) * K.n by rw [Nat.succ_mul (k + 1)]; omega]
      simp
    · rcases List.mem_append.1 hb with hb | hb
      · exact .inl (List.mem_append_left _ hb)
      · rcases q2 b hb with hb | hb
        · exact .inl (List.mem_append_right _ hb)
        · exact .inr hb
end
theorem Shal.into {w w1 w' : World} {xs : List En} {v : Value} {H : List Nat} (h : Shal w1 xs v H w') (hb : Below w.heap.size w w1) {X : Nat} (h1 : w.heap.size ≤ X) (h2 : X < w1.heap.size) (h3 : X ∉ H) (ds : Array Value) : Shal w xs v H (w'.setRow X ds) := by
  obtain ⟨vs, q1, q2, q3, q4⟩ := h
  refine ⟨vs, ⟨q1.1, ?_⟩, q2.agree (Agree.row h3 _), q3, below_setRow (Below.next hb q4) h1 _⟩
  rcases q1.2 with e | ⟨g, cap, cur, e1, e2, e3, e4⟩
  · exact .inl e
  · exact .inr ⟨g, cap, cur, e1, by have := hb.size; omega, by rw [setRow_other w' X g ds (by omega)]; exact e3, e4⟩
theorem Shal.from {w w1 w' : World} {xs : List En} {v : Value} {H : List Nat} (h : Shal w1 xs v H w') (hb : Below w.heap.size w w1) : Shal w xs v H w' := by
  obtain ⟨vs, q1, q2, q3, q4⟩ := h
  refine ⟨vs, ⟨q1.1, ?_⟩, q2, q3, Below.next hb q4⟩
  rcases q1.2 with e | ⟨g, cap, cur, e1, e2, e3, e4⟩
  · exact .inl e
  · exact .inr ⟨g, cap, cur, e1, by have := hb.size; omega, e3, e4⟩
theorem Shal.rd {w w' : World} {xs : List En} {v : Value} {H : List Nat} (h : Shal w xs v H w') (hp : 0 < xs.length) : ∃ F, RdRw w' (.agg #[v]) ⟨xs⟩ F ∧ ∀ b ∈ F, b ∈ H ∨ w.heap.size ≤ b := by
  obtain ⟨g, cap, rfl, hc, hr, hg, _, _⟩ := h.row hp
  exact ⟨g :: H, ⟨_, _, cap, rfl, hr, (fun e => by cases e), hc⟩, fun b hb => by
    rcases List.mem_cons.1 hb with rfl | hb
    · exact .inr hg
    · exact .inl hb⟩
theorem Shal.val {w w' : World} {xs : List En} {v : Value} {H : List Nat} (h : Shal w xs v H w') (hp : 0 < xs.length) : ∃ g m cap, v = .slice (some ⟨g, 0, none⟩) m cap := by
  obtain ⟨g, cap, e, _⟩ := h.row hp
  exact ⟨g, _, cap, e⟩
theorem infoQI2 : (Tryz.prog.info? 60).map (·.size) = some 1 := by kernel_rfl
set_option maxRecDepth 200000 in
set_option maxHeartbeats 4000000 in
theorem behind_any (v u : Value) (x : Rw) (F : List Nat) (e : En) (G : List Nat) (w : World) (h : RdRw w v x F) (k : RdE w u e G) (hl : x.list.length ≤ 2097152) :
    Calls Tryz.prog 66 #[v, u] w fun r w' => ∃ v', r = .returned (.agg #[v']) ∧ ∃ H, Shal w (x.list ++ [e]) v' H w' ∧ ∀ b ∈ H, b ∈ F ∨ b ∈ G := by
  obtain ⟨a, n, c, rfl, hL, hcp⟩ := h
  have hn : n ≤ 2097152 := by rw [← hL.length]; exact hl
  have HL : Hid (RdL enK w a n x.list F ∧ Capd a n c) := ⟨hL, hcp⟩
  have k' := k
  obtain ⟨G1, G2, _, b0, l0, c0, b1, m1, d1, b2, m2, d2, b3, m3, d3, rfl, _⟩ := k
  have HE : Hid (RdE w (.agg #[.int .i64 e.key, .int .i64 e.window, .slice b0 l0 c0, .int .i64 e.sk.count, .int .i64 e.sk.sum, .int .i64 e.sk.min, .int .i64 e.sk.max, .slice b1 m1 d1, .slice b2 m2 d2, .slice b3 m3 d3]) e G) := k'
  clear hL hcp k' hl
  have bw : Below w.heap.size w (((((w.alloc (.cells #[.slice a n c] 60)).alloc (.cells #[.int .i64 e.key, .int .i64 e.window, .slice b0 l0 c0, .int .i64 e.sk.count, .int .i64 e.sk.sum, .int .i64 e.sk.min, .int .i64 e.sk.max, .slice b1 m1 d1, .slice b2 m2 d2, .slice b3 m3 d3] 33)).alloc (.cells #[.slice none 0 0] 60)).alloc (.cells #[.int .i64 e.key, .int .i64 e.window, .slice b0 l0 c0, .int .i64 e.sk.count, .int .i64 e.sk.sum, .int .i64 e.sk.min, .int .i64 e.sk.max, .slice b1 m1 d1, .slice b2 m2 d2, .slice b3 m3 d3] 33)).alloc (.cells #[.slice a n c, .slice (some ⟨w.heap.size + 1 + 1 + 1, 0, none⟩) 1 1] 24)) := Below.allocW _ (Below.allocW _ (Below.allocW _ (Below.allocW _ (Below.allocW _ (Below.refl _ _) (Nat.le_refl _)) (by simp)) (by simp <;> omega)) (by simp <;> omega)) (by simp <;> omega)
  have q2 : Blk (((((w.alloc (.cells #[.slice a n c] 60)).alloc (.cells #[.int .i64 e.key, .int .i64 e.window, .slice b0 l0 c0, .int .i64 e.sk.count, .int .i64 e.sk.sum, .int .i64 e.sk.min, .int .i64 e.sk.max, .slice b1 m1 d1, .slice b2 m2 d2, .slice b3 m3 d3] 33)).alloc (.cells #[.slice none 0 0] 60)).alloc (.cells #[.int .i64 e.key, .int .i64 e.window, .slice b0 l0 c0, .int .i64 e.sk.count, .int .i64 e.sk.sum, .int .i64 e.sk.min, .int .i64 e.sk.max, .slice b1 m1 d1, .slice b2 m2 d2, .slice b3 m3 d3] 33)).alloc (.cells #[.slice a n c, .slice (some ⟨w.heap.size + 1 + 1 + 1, 0, none⟩) 1 1] 24)) (w.heap.size + 1 + 1) #[.slice none 0 0] 60 := ((Blk.made_eq (by simp)).alloc _).alloc _
  have q1 : Blk (((w.alloc (.cells #[.slice a n c] 60)).alloc (.cells #[.int .i64 e.key, .int .i64 e.window, .slice b0 l0 c0, .int .i64 e.sk.count, .int .i64 e.sk.sum, .int .i64 e.sk.min, .int .i64 e.sk.max, .slice b1 m1 d1, .slice b2 m2 d2, .slice b3 m3 d3] 33)).alloc (.cells #[.slice none 0 0] 60)) (w.heap.size + 1) #[.int .i64 e.key, .int .i64 e.window, .slice b0 l0 c0, .int .i64 e.sk.count, .int .i64 e.sk.sum, .int .i64 e.sk.min, .int .i64 e.sk.max, .slice b1 m1 d1, .slice b2 m2 d2, .slice b3 m3 d3] 33 := (Blk.made_eq (by simp)).alloc _
  have q3 : Blk (((((w.alloc (.cells #[.slice a n c] 60)).alloc (.cells #[.int .i64 e.key, .int .i64 e.window, .slice b0 l0 c0, .int .i64 e.sk.count, .int .i64 e.sk.sum, .int .i64 e.sk.min, .int .i64 e.sk.max, .slice b1 m1 d1, .slice b2 m2 d2, .slice b3 m3 d3] 33)).alloc (.cells #[.slice none 0 0] 60)).alloc (.cells #[.int .i64 e.key, .int .i64 e.window, .slice b0 l0 c0, .int .i64 e.sk.count, .int .i64 e.sk.sum, .int .i64 e.sk.min, .int .i64 e.sk.max, .slice b1 m1 d1, .slice b2 m2 d2, .slice b3 m3 d3] 33)).alloc (.cells #[.slice a n c, .slice (some ⟨w.heap.size + 1 + 1 + 1, 0, none⟩) 1 1] 24)) (w.heap.size + 1 + 1 + 1) #[.int .i64 e.key, .int .i64 e.window, .slice b0 l0 c0, .int .i64 e.sk.count, .int .i64 e.sk.sum, .int .i64 e.sk.min, .int .i64 e.sk.max, .slice b1 m1 d1, .slice b2 m2 d2, .slice b3 m3 d3] 33 := (Blk.made_eq (by simp)).alloc _
  have q4 : Blk (((((w.alloc (.cells #[.slice a n c] 60)).alloc (.cells #[.int .i64 e.key, .int .i64 e.window, .slice b0 l0 c0, .int .i64 e.sk.count, .int .i64 e.sk.sum, .int .i64 e.sk.min, .int .i64 e.sk.max, .slice b1 m1 d1, .slice b2 m2 d2, .slice b3 m3 d3] 33)).alloc (.cells #[.slice none 0 0] 60)).alloc (.cells #[.int .i64 e.key, .int .i64 e.window, .slice b0 l0 c0, .int .i64 e.sk.count, .int .i64 e.sk.sum, .int .i64 e.sk.min, .int .i64 e.sk.max, .slice b1 m1 d1, .slice b2 m2 d2, .slice b3 m3 d3] 33)).alloc (.cells #[.slice a n c, .slice (some ⟨w.heap.size + 1 + 1 + 1, 0, none⟩) 1 1] 24)) (w.heap.size + 1 + 1 + 1 + 1) #[.slice a n c, .slice (some ⟨w.heap.size + 1 + 1 + 1, 0, none⟩) 1 1] 24 := Blk.made_eq (by simp)
  have HB : Hid (Below w.heap.size w (((((w.alloc (.cells #[.slice a n c] 60)).alloc (.cells #[.int .i64 e.key, .int .i64 e.window, .slice b0 l0 c0, .int .i64 e.sk.count, .int .i64 e.sk.sum, .int .i64 e.sk.min, .int .i64 e.sk.max, .slice b1 m1 d1, .slice b2 m2 d2, .slice b3 m3 d3] 33)).alloc (.cells #[.slice none 0 0] 60)).alloc (.cells #[.int .i64 e.key, .int .i64 e.window, .slice b0 l0 c0, .int .i64 e.sk.count, .int .i64 e.sk.sum, .int .i64 e.sk.min, .int .i64 e.sk.max, .slice b1 m1 d1, .slice b2 m2 d2, .slice b3 m3 d3] 33)).alloc (.cells #[.slice a n c, .slice (some ⟨w.heap.size + 1 + 1 + 1, 0, none⟩) 1 1] 24)) ∧ Blk (((((w.alloc (.cells #[.slice a n c] 60)).alloc (.cells #[.int .i64 e.key, .int .i64 e.window, .slice b0 l0 c0, .int .i64 e.sk.count, .int .i64 e.sk.sum, .int .i64 e.sk.min, .int .i64 e.sk.max, .slice b1 m1 d1, .slice b2 m2 d2, .slice b3 m3 d3] 33)).alloc (.cells #[.slice none 0 0] 60)).alloc (.cells #[.int .i64 e.key, .int .i64 e.window, .slice b0 l0 c0, .int .i64 e.sk.count, .int .i64 e.sk.sum, .int .i64 e.sk.min, .int .i64 e.sk.max, .slice b1 m1 d1, .slice b2 m2 d2, .slice b3 m3 d3] 33)).alloc (.cells #[.slice a n c, .slice (some ⟨w.heap.size + 1 + 1 + 1, 0, none⟩) 1 1] 24)) (w.heap.size + 1 + 1) #[.slice none 0 0] 60 ∧ Blk (((((w.alloc (.cells #[.slice a n c] 60)).alloc (.cells #[.int .i64 e.key, .int .i64 e.window, .slice b0 l0 c0, .int .i64 e.sk.count, .int .i64 e.sk.sum, .int .i64 e.sk.min, .int .i64 e.sk.max, .slice b1 m1 d1, .slice b2 m2 d2, .slice b3 m3 d3] 33)).alloc (.cells #[.slice none 0 0] 60)).alloc (.cells #[.int .i64 e.key, .int .i64 e.window, .slice b0 l0 c0, .int .i64 e.sk.count, .int .i64 e.sk.sum, .int .i64 e.sk.min, .int .i64 e.sk.max, .slice b1 m1 d1, .slice b2 m2 d2, .slice b3 m3 d3] 33)).alloc (.cells #[.slice a n c, .slice (some ⟨w.heap.size + 1 + 1 + 1, 0, none⟩) 1 1] 24)) (w.heap.size + 1 + 1 + 1) #[.int .i64 e.key, .int .i64 e.window, .slice b0 l0 c0, .int .i64 e.sk.count, .int .i64 e.sk.sum, .int .i64 e.sk.min, .int .i64 e.sk.max, .slice b1 m1 d1, .slice b2 m2 d2, .slice b3 m3 d3] 33 ∧ Blk (((((w.alloc (.cells #[.slice a n c] 60)).alloc (.cells #[.int .i64 e.key, .int .i64 e.window, .slice b0 l0 c0, .int .i64 e.sk.count, .int .i64 e.sk.sum, .int .i64 e.sk.min, .int .i64 e.sk.max, .slice b1 m1 d1, .slice b2 m2 d2, .slice b3 m3 d3] 33)).alloc (.cells #[.slice none 0 0] 60)).alloc (.cells #[.int .i64 e.key, .int .i64 e.window, .slice b0 l0 c0, .int .i64 e.sk.count, .int .i64 e.sk.sum, .int .i64 e.sk.min, .int .i64 e.sk.max, .slice b1 m1 d1, .slice b2 m2 d2, .slice b3 m3 d3] 33)).alloc (.cells #[.slice a n c, .slice (some ⟨w.heap.size + 1 + 1 + 1, 0, none⟩) 1 1] 24)) (w.heap.size + 1 + 1 + 1 + 1) #[.slice a n c, .slice (some ⟨w.heap.size + 1 + 1 + 1, 0, none⟩) 1 1] 24 ∧ (((((w.alloc (.cells #[.slice a n c] 60)).alloc (.cells #[.int .i64 e.key, .int .i64 e.window, .slice b0 l0 c0, .int .i64 e.sk.count, .int .i64 e.sk.sum, .int .i64 e.sk.min, .int .i64 e.sk.max, .slice b1 m1 d1, .slice b2 m2 d2, .slice b3 m3 d3] 33)).alloc (.cells #[.slice none 0 0] 60)).alloc (.cells #[.int .i64 e.key, .int .i64 e.window, .slice b0 l0 c0, .int .i64 e.sk.count, .int .i64 e.sk.sum, .int .i64 e.sk.min, .int .i64 e.sk.max, .slice b1 m1 d1, .slice b2 m2 d2, .slice b3 m3 d3] 33)).alloc (.cells #[.slice a n c, .slice (some ⟨w.heap.size + 1 + 1 + 1, 0, none⟩) 1 1] 24)).heap.size = w.heap.size + 5) := ⟨bw, q2, q3, q4, by simp⟩
  have HQ1 : Hid (Blk (((w.alloc (.cells #[.slice a n c] 60)).alloc (.cells #[.int .i64 e.key, .int .i64 e.window, .slice b0 l0 c0, .int .i64 e.sk.count, .int .i64 e.sk.sum, .int .i64 e.sk.min, .int .i64 e.sk.max, .slice b1 m1 d1, .slice b2 m2 d2, .slice b3 m3 d3] 33)).alloc (.cells #[.slice none 0 0] 60)) (w.heap.size + 1) #[.int .i64 e.key, .int .i64 e.window, .slice b0 l0 c0, .int .i64 e.sk.count, .int .i64 e.sk.sum, .int .i64 e.sk.min, .int .i64 e.sk.max, .slice b1 m1 d1, .slice b2 m2 d2, .slice b3 m3 d3] 33) := q1
  clear bw q1 q2 q3 q4
  go_enter Tryz.func66, Tryz.ntmps66
  go_wp2_with (first | go_skip | (with_reducible refine stopLoad 33 rfl ?_))
  refine load_any 33 (w.heap.size + 1) #[.int .i64 e.key, .int .i64 e.window, .slice b0 l0 c0, .int .i64 e.sk.count, .int .i64 e.sk.sum, .int .i64 e.sk.min, .int .i64 e.sk.max, .slice b1 m1 d1, .slice b2 m2 d2, .slice b3 m3 d3] 33 _ HQ1.out rfl rfl rfl Tryz.underlying33 rfl infoEnG2 ?_
  go_wp2_with fail
  refine (concat_any a n c x.list F e #[.int .i64 e.key, .int .i64 e.window, .slice b0 l0 c0, .int .i64 e.sk.count, .int .i64 e.sk.sum, .int .i64 e.sk.min, .int .i64 e.sk.max, .slice b1 m1 d1, .slice b2 m2 d2, .slice b3 m3 d3] G (w.heap.size + 1 + 1 + 1) (w.heap.size + 1 + 1 + 1 + 1) _ (HL.out.1.below HB.out.1) HL.out.2 (HE.out.below HB.out.1) HB.out.2.2.1 HB.out.2.2.2.1 hn).mono ?_
  rintro r w2 ⟨v', rfl, H, hS, hH⟩
  have HS : Hid (Shal (((((w.alloc (.cells #[.slice a n c] 60)).alloc (.cells #[.int .i64 e.key, .int .i64 e.window, .slice b0 l0 c0, .int .i64 e.sk.count, .int .i64 e.sk.sum, .int .i64 e.sk.min, .int .i64 e.sk.max, .slice b1 m1 d1, .slice b2 m2 d2, .slice b3 m3 d3] 33)).alloc (.cells #[.slice none 0 0] 60)).alloc (.cells #[.int .i64 e.key, .int .i64 e.window, .slice b0 l0 c0, .int .i64 e.sk.count, .int .i64 e.sk.sum, .int .i64 e.sk.min, .int .i64 e.sk.max, .slice b1 m1 d1, .slice b2 m2 d2, .slice b3 m3 d3] 33)).alloc (.cells #[.slice a n c, .slice (some ⟨w.heap.size + 1 + 1 + 1, 0, none⟩) 1 1] 24)) (x.list ++ [e]) v' H w2 ∧ (∀ b ∈ H, b ∈ F ∨ b ∈ G) ∧ Blk w2 (w.heap.size + 1 + 1) #[.slice none 0 0] 60 ∧ w.heap.size + 1 + 1 ∉ H) := ⟨hS, hH, HB.out.2.1.below hS.choose_spec.2.2.2, fun hx => by
    rcases hH _ hx with h | h
    · have := HL.out.1.lt _ h; omega
    · have := HE.out.lt _ h; omega⟩
  obtain ⟨g, m, cap, rfl⟩ := hS.val (by simp)
  clear hS hH HQ1
  go_wp2_with (first | go_skip | (with_reducible refine stopStore 60 rfl ?_))
  refine store_known 60 (w.heap.size + 1 + 1) _ #[.slice (some ⟨g, 0, none⟩) m cap] 60 HS.out.2.2.1 rfl rfl rfl rfl infoQI2 rfl (by simp [Value.oneCell']) ?_
  go_wp2
  refine bodyPost_ret (results_cell_row Tryz.results66 _ _ (w.heap.size + 1 + 1) _ _ (0, 0) _ rfl HS.out.2.2.1.setRow Tryz.underlying60 rfl infoQI2) rfl ?_
  exact ⟨_, rfl, H, HS.out.1.into HB.out.1 (by omega) (by rw [HB.out.2.2.2.2]; omega) HS.out.2.2.2 _, HS.out.2.1⟩
set_option maxRecDepth 200000 in
set_option maxHeartbeats 4000000 in
theorem clone_any (p : Option Addr) (l c : Nat) (xs : List En) (F : List Nat) (w : World) (h : RdL enK w p l xs F) (hp : 0 < l) (hl : l ≤ 2097152) :
    Calls Tryz.prog 106 #[.slice p l c] w fun r w' => ∃ v, r = .returned v ∧ ∃ H, Shal w xs v H w' ∧ ∀ b ∈ H, b ∈ F := by
  obtain ⟨i0, hi, hz0, hz1, hz2⟩ := info_parts infoEnG
  obtain ⟨vs, H, hrc, hone, hvl, hHF, hcell⟩ := h.flat
  obtain ⟨b, off, rfl, hb, hc⟩ : ∃ b off, p = some ⟨b, off, none⟩ ∧ b < w.heap.size ∧ ∀ i, i < vs.length → w.cell? ⟨b, off + i, none⟩ = vs[i]? := by
    rcases hcell with h0 | h0
    · omega
    · exact h0
  have HV : Hid (RdC enK w xs vs H ∧ (∀ u ∈ vs, u.oneCell' = true) ∧ vs.length = l * 10 ∧ (∀ b ∈ H, b ∈ F) ∧ xs.length = l) := ⟨hrc, hone, hvl, hHF, h.length⟩
  have HW : Hid (Below w.heap.size w (w.alloc (.cells #[] 33)) ∧ ∀ j u, vs[j]? = some u → (w.alloc (.cells #[] 33)).cell? ((⟨b, off, none⟩ : Addr).add j) = some u) := ⟨Below.allocW _ (Below.refl _ _) (Nat.le_refl _), fun j u hj => by
    have hj' : j < vs.length := (List.getElem?_eq_some_iff.1 hj).1
    have ea : ((⟨b, off, none⟩ : Addr).add j) = ⟨b, off + j, none⟩ := by unfold Addr.add; split <;> simp_all
    rw [ea, (Below.allocW (o := .cells #[] 33) (Below.refl w.heap.size w) (Nat.le_refl _)).cell (p := ⟨b, off + j, none⟩) hb, hc j hj', hj]⟩
  clear h hrc hone hvl hHF hcell hc
  have q22 : ∀ (w : World) (a : Option Addr) (n c n' c' : Nat), (binOp .eql 24 (.slice a n c) (.slice none n' c')).run Tryz.prog w = .ok (.bool a.isNone) w := fun w a n c n' c' => Lib.run_eql_slice_nil w _ _ a n c n' c' Tryz.underlying24
  go_enter Tryz.func106, Tryz.ntmps106
  go_wp2_with (with_reducible refine stopAppend rfl ?_)
  refine Stop.intro (wpList_append_own _ rfl _ _ 24 rfl w.heap.size 33 i0 _ 10 144 Tryz.underlying24 hi hz0 hz1 hz2 rfl (by decide) (.slice (some ⟨w.heap.size, 0, none⟩) 0 0) 0 [] rfl (World.ownsRow_made w #[] 0 (Nat.le_refl _) (Nat.zero_le _) (by simp)) ⟨b, off, none⟩ l c vs rfl HV.out.2.2.1 HW.out.2 HV.out.2.1 (by unfold maxLen; omega) (by omega) (by simp) ?_)
  intro v' w' hown hgrow _
  have HS : Hid (Shal w xs v' H w') := by
    have hb2 : Below w.heap.size w w' := HW.out.1.grown hgrow (by simp) (fun b hb => by simp [Value.ownBlock] at hb; omega)
    exact ⟨vs, by rw [HV.out.2.2.2.2]; simpa using hown, HV.out.1.below hb2, HV.out.2.1, hb2⟩
  clear hown hgrow
  go_wp2
  go_ret
  exact ⟨v', rfl, H, HS.out, HV.out.2.2.2.1⟩
theorem cut_takeR {cs : Array Value} {ds : Array Value} {n k : Nat} (hds : ds.size = 10) (hk : k < n) (hc : n * 10 ≤ cs.size) : (cutIn cs (k * 10) ds).size = cs.size ∧ (cutIn cs (k * 10) ds).toList.take (n * 10) = (cs.toList.take (n * 10)).take (k * 10) ++ ds.toList ++ (cs.toList.take (n * 10)).drop ((k + 1) * 10) := by
  have hcl : cs.toList.length = cs.size := Array.length_toList
  have hdl : ds.toList.length = 10 := by rw [Array.length_toList, hds]
  unfold cutIn
  simp only [hds]
  refine ⟨by simp; omega, ?_⟩
  obtain ⟨T, R, e, hT⟩ : ∃ T R, cs.toList = T ++ R ∧ T.length = n * 10 := ⟨cs.toList.take (n * 10), cs.toList.drop (n * 10), (List.take_append_drop _ _).symm, by rw [List.length_take]; omega⟩
  rw [e]
  have e1 : List.take (k * 10) (T ++ R) = T.take (k * 10) := List.take_append_of_le_length (by omega)
  have e2 : List.drop (k * 10 + 10) (T ++ R) = T.drop ((k + 1) * 10) ++ R := by rw [List.drop_append_of_le_length (by omega), show k * 10 + 10 = (k + 1) * 10 by omega]
  have e3 : List.take (n * 10) (T ++ R) = T := List.take_left' hT
  rw [e1, e2, e3]
  show List.take (n * 10) (T.take (k * 10) ++ ds.toList ++ (T.drop ((k + 1) * 10) ++ R)) = _
  rw [← List.append_assoc]
  exact List.take_left' (by rw [List.length_append, List.length_append, List.length_take, List.length_drop, hdl]; omega)
set_option maxRecDepth 200000 in
set_option maxHeartbeats 4000000 in
theorem with_any (v u : Value) (x : Rw) (F : List Nat) (e : En) (G : List Nat) (k : Nat) (w : World) (h : RdRw w v x F) (q : RdE w u e G) (hk : k < x.list.length) (hl : x.list.length ≤ 2097152) :
    Calls Tryz.prog 68 #[v, .int .i64 k, u] w fun r w' => ∃ v', r = .returned (.agg #[v']) ∧ ∃ H, Shal w (x.list.set k e) v' H w' ∧ ∀ b ∈ H, b ∈ F ∨ b ∈ G := by
  obtain ⟨a, n, c, rfl, hL, hcp⟩ := h
  have hn : n ≤ 2097152 := by rw [← hL.length]; exact hl
  have hkn : k < n := by rw [← hL.length]; exact hk
  have HL : Hid (RdL enK w a n x.list F ∧ x.list.length = n) := ⟨hL, hL.length⟩
  have q' := q
  obtain ⟨G1, G2, _, b0, l0, c0, b1, m1, d1, b2, m2, d2, b3, m3, d3, rfl, _⟩ := q
  have HE : Hid (RdE w (.agg #[.int .i64 e.key, .int .i64 e.window, .slice b0 l0 c0, .int .i64 e.sk.count, .int .i64 e.sk.sum, .int .i64 e.sk.min, .int .i64 e.sk.max, .slice b1 m1 d1, .slice b2 m2 d2, .slice b3 m3 d3]) e G) := q'
  clear hL hcp q' hl hk
  have HB : Hid (Below w.heap.size w (((w.alloc (.cells #[.slice a n c] 60)).alloc (.cells #[.int .i64 e.key, .int .i64 e.window, .slice b0 l0 c0, .int .i64 e.sk.count, .int .i64 e.sk.sum, .int .i64 e.sk.min, .int .i64 e.sk.max, .slice b1 m1 d1, .slice b2 m2 d2, .slice b3 m3 d3] 33)).alloc (.cells #[.slice none 0 0] 60)) ∧ Blk (((w.alloc (.cells #[.slice a n c] 60)).alloc (.cells #[.int .i64 e.key, .int .i64 e.window, .slice b0 l0 c0, .int .i64 e.sk.count, .int .i64 e.sk.sum, .int .i64 e.sk.min, .int .i64 e.sk.max, .slice b1 m1 d1, .slice b2 m2 d2, .slice b3 m3 d3] 33)).alloc (.cells #[.slice none 0 0] 60)) (w.heap.size + 1) #[.int .i64 e.key, .int .i64 e.window, .slice b0 l0 c0, .int .i64 e.sk.count, .int .i64 e.sk.sum, .int .i64 e.sk.min, .int .i64 e.sk.max, .slice b1 m1 d1, .slice b2 m2 d2, .slice b3 m3 d3] 33 ∧ Blk (((w.alloc (.cells #[.slice a n c] 60)).alloc (.cells #[.int .i64 e.key, .int .i64 e.window, .slice b0 l0 c0, .int .i64 e.sk.count, .int .i64 e.sk.sum, .int .i64 e.sk.min, .int .i64 e.sk.max, .slice b1 m1 d1, .slice b2 m2 d2, .slice b3 m3 d3] 33)).alloc (.cells #[.slice none 0 0] 60)) (w.heap.size + 1 + 1) #[.slice none 0 0] 60 ∧ (((w.alloc (.cells #[.slice a n c] 60)).alloc (.cells #[.int .i64 e.key, .int .i64 e.window, .slice b0 l0 c0, .int .i64 e.sk.count, .int .i64 e.sk.sum, .int .i64 e.sk.min, .int .i64 e.sk.max, .slice b1 m1 d1, .slice b2 m2 d2, .slice b3 m3 d3] 33)).alloc (.cells #[.slice none 0 0] 60)).heap.size = w.heap.size + 3) := ⟨Below.allocW _ (Below.allocW _ (Below.allocW _ (Below.refl _ _) (Nat.le_refl _)) (by simp)) (by simp <;> omega), (Blk.made_eq (by simp)).alloc _, Blk.made_eq (by simp), by simp⟩
  go_enter Tryz.func68, Tryz.ntmps68
  go_wp2_with fail
  refine (clone_any a n c x.list F _ (HL.out.1.below HB.out.1) (by omega) hn).mono ?_
  rintro r w2 ⟨v', rfl, H, hS, hH⟩
  obtain ⟨vs, q1, q2, q3, q4⟩ := hS
  obtain ⟨g, cap, cur, rfl, hge, hcur, hnc, hmax, hsz, htk⟩ : ∃ g cap cur, v' = .slice (some ⟨g, 0, none⟩) x.list.length cap ∧ (((w.alloc (.cells #[.slice a n c] 60)).alloc (.cells #[.int .i64 e.key, .int .i64 e.window, .slice b0 l0 c0, .int .i64 e.sk.count, .int .i64 e.sk.sum, .int .i64 e.sk.min, .int .i64 e.sk.max, .slice b1 m1 d1, .slice b2 m2 d2, .slice b3 m3 d3] 33)).alloc (.cells #[.slice none 0 0] 60)).heap.size ≤ g ∧ w2.heap[g]? = some (.cells cur 33 (0, 0)) ∧ x.list.length ≤ cap ∧ cap ≤ maxLen ∧ cur.size = cap * 10 ∧ cur.toList.take (x.list.length * 10) = vs := by
    rcases q1.2 with ⟨_, h0⟩ | h0
    · have := HL.out.2; omega
    · exact h0
  rw [HL.out.2] at hnc htk q1
  have HS : Hid (w.heap.size + 3 ≤ g ∧ Blk w2 g cur 33 ∧ n ≤ cap ∧ cap ≤ maxLen ∧ cur.size = cap * 10 ∧ cur.toList.take (n * 10) = vs ∧ RdC enK w2 x.list vs H ∧ (∀ u ∈ vs, u.oneCell' = true) ∧ Below (((w.alloc (.cells #[.slice a n c] 60)).alloc (.cells #[.int .i64 e.key, .int .i64 e.window, .slice b0 l0 c0, .int .i64 e.sk.count, .int .i64 e.sk.sum, .int .i64 e.sk.min, .int .i64 e.sk.max, .slice b1 m1 d1, .slice b2 m2 d2, .slice b3 m3 d3] 33)).alloc (.cells #[.slice none 0 0] 60)).heap.size (((w.alloc (.cells #[.slice a n c] 60)).alloc (.cells #[.int .i64 e.key, .int .i64 e.window, .slice b0 l0 c0, .int .i64 e.sk.count, .int .i64 e.sk.sum, .int .i64 e.sk.min, .int .i64 e.sk.max, .slice b1 m1 d1, .slice b2 m2 d2, .slice b3 m3 d3] 33)).alloc (.cells #[.slice none 0 0] 60)) w2 ∧ vs.length = n * 10 ∧ ∀ b ∈ H, b ∈ F) := ⟨by rw [← HB.out.2.2.2]; exact hge, hcur, hnc, hmax, hsz, htk, q2, q3, q4, q1.1, hH⟩
  have HB2 : Hid (Blk w2 (w.heap.size + 1) #[.int .i64 e.key, .int .i64 e.window, .slice b0 l0 c0, .int .i64 e.sk.count, .int .i64 e.sk.sum, .int .i64 e.sk.min, .int .i64 e.sk.max, .slice b1 m1 d1, .slice b2 m2 d2, .slice b3 m3 d3] 33 ∧ Blk w2 (w.heap.size + 1 + 1) #[.slice none 0 0] 60) := ⟨HB.out.2.1.below q4, HB.out.2.2.1.below q4⟩
  rw [HL.out.2]
  have hI : (k : Int) < (n : Int) := by omega
  clear hge hcur hnc hmax hsz htk q1 q2 q3 q4 hH
  go_wp2_with (first | go_skip | (with_reducible refine stopLoad 33 rfl ?_))
  refine load_any 33 (w.heap.size + 1) #[.int .i64 e.key, .int .i64 e.window, .slice b0 l0 c0, .int .i64 e.sk.count, .int .i64 e.sk.sum, .int .i64 e.sk.min, .int .i64 e.sk.max, .slice b1 m1 d1, .slice b2 m2 d2, .slice b3 m3 d3] 33 _ HB2.out.1 rfl rfl rfl Tryz.underlying33 rfl infoEnG2 ?_
  go_wp2_with (first | go_skip | (with_reducible refine stopStore 33 rfl ?_))
  refine store_cut 33 g (k * 10) cur #[.int .i64 e.key, .int .i64 e.window, .slice b0 l0 c0, .int .i64 e.sk.count, .int .i64 e.sk.sum, .int .i64 e.sk.min, .int .i64 e.sk.max, .slice b1 m1 d1, .slice b2 m2 d2, .slice b3 m3 d3] (cutIn cur (k * 10) #[.int .i64 e.key, .int .i64 e.window, .slice b0 l0 c0, .int .i64 e.sk.count, .int .i64 e.sk.sum, .int .i64 e.sk.min, .int .i64 e.sk.max, .slice b1 m1 d1, .slice b2 m2 d2, .slice b3 m3 d3]) 33 HS.out.2.1 rfl rfl rfl rfl infoEnG2 (by have h1 := HS.out.2.2.1; have h2 := HS.out.2.2.2.2.1; show k * 10 + 10 ≤ _; omega) (by simp [Value.oneCell']) rfl ?_
  obtain ⟨cut, hcut⟩ : ∃ c, c = cutIn cur (k * 10) #[.int .i64 e.key, .int .i64 e.window, .slice b0 l0 c0, .int .i64 e.sk.count, .int .i64 e.sk.sum, .int .i64 e.sk.min, .int .i64 e.sk.max, .slice b1 m1 d1, .slice b2 m2 d2, .slice b3 m3 d3] := ⟨_, rfl⟩
  rw [← hcut]
  have HC : Hid (cut.size = cur.size ∧ cut.toList.take (n * 10) = vs.take (k * 10) ++ (#[.int .i64 e.key, .int .i64 e.window, .slice b0 l0 c0, .int .i64 e.sk.count, .int .i64 e.sk.sum, .int .i64 e.sk.min, .int .i64 e.sk.max, .slice b1 m1 d1, .slice b2 m2 d2, .slice b3 m3 d3] : Array Value).toList ++ vs.drop ((k + 1) * 10)) := by
    have h1 := HS.out.2.2.1
    have h2 := HS.out.2.2.2.2.1
    have := cut_takeR (cs := cur) (ds := #[.int .i64 e.key, .int .i64 e.window, .slice b0 l0 c0, .int .i64 e.sk.count, .int .i64 e.sk.sum, .int .i64 e.sk.min, .int .i64 e.sk.max, .slice b1 m1 d1, .slice b2 m2 d2, .slice b3 m3 d3]) (n := n) (k := k) rfl hkn (by omega)
    rw [hcut, ← HS.out.2.2.2.2.2.1]
    exact this
  clear hcut
  have nr : w.heap.size + 1 + 1 ≠ g := by have := HS.out.1; omega
  have HB3 : Hid (Blk (w2.setRow g cut) (w.heap.size + 1 + 1) #[.slice none 0 0] 60) := HB2.out.2.setRowOther (by omega)
  have HF : Hid (∃ H', Shal (((w.alloc (.cells #[.slice a n c] 60)).alloc (.cells #[.int .i64 e.key, .int .i64 e.window, .slice b0 l0 c0, .int .i64 e.sk.count, .int .i64 e.sk.sum, .int .i64 e.sk.min, .int .i64 e.sk.max, .slice b1 m1 d1, .slice b2 m2 d2, .slice b3 m3 d3] 33)).alloc (.cells #[.slice none 0 0] 60)) (x.list.set k e) (.slice (some ⟨g, 0, none⟩) n cap) H' (w2.setRow g cut) ∧ (∀ b ∈ H', b ∈ F ∨ b ∈ G)) := by
    obtain ⟨H', r1, r2⟩ := RdC.set (k := k) HS.out.2.2.2.2.2.2.1 (by rw [HL.out.2]; exact hkn) ((HE.out.below HB.out.1).below HS.out.2.2.2.2.2.2.2.2.1) (es := #[.int .i64 e.key, .int .i64 e.window, .slice b0 l0 c0, .int .i64 e.sk.count, .int .i64 e.sk.sum, .int .i64 e.sk.min, .int .i64 e.sk.max, .slice b1 m1 d1, .slice b2 m2 d2, .slice b3 m3 d3]) rfl
    have hin : ∀ b ∈ H', b ∈ F ∨ b ∈ G := fun b hb => (r2 b hb).imp (HS.out.2.2.2.2.2.2.2.2.2.2 b) id
    have hng : g ∉ H' := fun hx => by
      have := HS.out.1
      rcases hin g hx with h | h
      · have := HL.out.1.lt g h; omega
      · have := HE.out.lt g h; omega
    have hlen : (x.list.set k e).length = n := by rw [List.length_set]; exact HL.out.2
    have hvl : (vs.take (k * 10) ++ (#[.int .i64 e.key, .int .i64 e.window, .slice b0 l0 c0, .int .i64 e.sk.count, .int .i64 e.sk.sum, .int .i64 e.sk.min, .int .i64 e.sk.max, .slice b1 m1 d1, .slice b2 m2 d2, .slice b3 m3 d3] : Array Value).toList ++ vs.drop ((k + 1) * 10)).length = n * 10 := by
      have := HS.out.2.2.2.2.2.2.2.2.2.1
      simp only [List.length_append, List.length_take, List.length_drop]
      show min (k * 10) vs.length + 10 + (vs.length - (k + 1) * 10) = _
      omega
    refine ⟨H', ⟨_, ⟨by rw [hlen]; exact hvl, .inr ⟨g, cap, cut, by rw [hlen], by have := HS.out.1; rw [HB.out.2.2.2]; exact this, HS.out.2.1.setRow, by rw [hlen]; exact HS.out.2.2.1, HS.out.2.2.2.1, HC.out.1.trans HS.out.2.2.2.2.1, by rw [hlen]; exact HC.out.2⟩⟩, r1.agree (Agree.row hng _), fun z hz => ?_, below_setRow HS.out.2.2.2.2.2.2.2.2.1 (by have := HS.out.1; rw [HB.out.2.2.2]; exact this) _⟩, hin⟩
    rcases List.mem_append.1 hz with hz | hz
    · rcases List.mem_append.1 hz with hz | hz
      · exact HS.out.2.2.2.2.2.2.2.1 z (List.mem_of_mem_take hz)
      · have : (#[.int .i64 e.key, .int .i64 e.window, .slice b0 l0 c0, .int .i64 e.sk.count, .int .i64 e.sk.sum, .int .i64 e.sk.min, .int .i64 e.sk.max, .slice b1 m1 d1, .slice b2 m2 d2, .slice b3 m3 d3] : Array Value).all (·.oneCell') = true := by simp [Value.oneCell']
        exact (Array.all_eq_true_iff_forall_mem.1 this) z (by simpa using hz)
    · exact HS.out.2.2.2.2.2.2.2.1 z (List.mem_of_mem_drop hz)
  obtain ⟨w3, hw3⟩ : ∃ W, W = w2.setRow g cut := ⟨_, rfl⟩
  rw [← hw3] at HB3 HF ⊢
  clear hw3 HB2 HS HC nr
  go_wp2_with (first | go_skip | (with_reducible refine stopStore 60 rfl ?_))
  refine store_known 60 (w.heap.size + 1 + 1) _ #[.slice (some ⟨g, 0, none⟩) n cap] 60 HB3.out rfl rfl rfl rfl infoQI2 rfl (by simp [Value.oneCell']) ?_
  go_wp2
  refine bodyPost_ret (results_cell_row Tryz.results68 _ _ (w.heap.size + 1 + 1) _ _ (0, 0) _ rfl HB3.out.setRow Tryz.underlying60 rfl infoQI2) rfl ?_
  obtain ⟨H', s1, s2⟩ := HF.out
  refine ⟨_, rfl, H', s1.into HB.out.1 (by omega) (by rw [HB.out.2.2.2]; omega) (fun hx => ?_) _, s2⟩
  rcases s2 _ hx with h | h
  · have := HL.out.1.lt _ h; omega
  · have := HE.out.lt _ h; omega
end Go.Proofs.YtjnamoppcklomaaGreat
/- The model's l10Apart and RowPush. No statement of the seat is proved here. -/
namespace Go.Proofs.YtjnamoppcklomaaGreat
open Go.RowKit
section
variable {P : Program} {ops : Array Oper} {Q : Exit → Act → World → Prop} {a : Act} {w : World} {x : Operand} {o : Oper} {K : Act → World → Prop}
theorem op_loadAt (ty : TypeId) (g off n : Nat) (cs : Array Value) (d : TypeDesc) (hw : Region.wanted o (yielded ops a.tmps) = true) (ho : o.op = .load ty x) (hx : a.eval x = .pointer (some ⟨g, off, none⟩)) (hu : P.underlying ty = some d) (hd : (match d with | .struct _ | .array _ _ => true | _ => false) = true)
    (hi : (P.info? ty).map (·.size) = some n) (hn : cs.size = n) (hS : ∀ j, j < n → w.cell? ⟨g, off + j, none⟩ = cs[j]?) (h : ∃ a', a.put o.dst (.agg cs) = a' ∧ K a' w) : if Region.wanted o (yielded ops a.tmps) = true then Oper.wp P o a w K Q else K (a.put o.dst undef) w := by
  have y : YieldsIf P ops (fun W => W = w) o (.agg cs) a := yields_at ty g off n cs d hw ho hx hu hd hi hn (fun W hW => by rw [hW]; exact hS)
  rcases y with ⟨_, y⟩ | ⟨y, _⟩
  · exact op_value (.agg cs) hw (y w rfl) h
  · rw [hw] at y; cases y
end
section
variable {α : Type} {K : ElK α} {w : World}
/-- One element of a list changed for another: where its blocks stood, the new one's stand. -/
theorem RdC.setW : ∀ {xs : List α} {vs : List Value} {H : List Nat} {k : Nat} {x : α} {es : Array Value} {G : List Nat}, RdC K w xs vs H → k < xs.length → K.R w (.agg es) x G → es.size = K.n → ∃ H1 Hk H2, H = H1 ++ (Hk ++ H2) ∧ RdC K w (xs.set k x) (vs.take (k * K.n) ++ es.toList ++ vs.drop ((k + 1) * K.n)) (H1 ++ (G ++ H2))
  | [], vs, H, k, x, es, G, h, hk, _, _ => by simp at hk
  | y :: xs, vs, H, 0, x, es, G, h, hk, hr, hs => by
    obtain ⟨cs, vs', F1, F2, rfl, h2, h3, h4, rfl⟩ := h
    refine ⟨[], F1, F2, rfl, es, vs', G, F2, ?_, hs, hr, h4, rfl⟩
    rw [Nat.zero_mul, List.take_zero, List.nil_append, Nat.zero_add, Nat.one_mul, List.drop_left' (by rw [Array.length_toList, h2])]
  | y :: xs, vs, H, k + 1, x, es, G, h, hk, hr, hs => by
    obtain ⟨cs, vs', F1, F2, rfl, h2, h3, h4, rfl⟩ := h
    obtain ⟨H1, Hk, H2, q0, q1⟩ := RdC.setW (k := k) h4 (by simpa using hk) hr hs
    have hl : cs.toList.length = K.n := by rw [Array.length_toList, h2]
    refine ⟨F1 ++ H1, Hk, H2, by rw [q0, List.append_assoc], cs, _, F1, H1 ++ (G ++ H2), ?_, h2, h3, q1, by rw [List.append_assoc]⟩
    rw [List.take_append, List.drop_append, hl]
    rw [List.take_of_length_le (by rw [hl, Nat.succ_mul]; omega), List.drop_of_length_le (by rw [hl, Nat.succ_mul]; omega)]
    rw [show (k + 1) * K.n - K.n = k * K.n by rw [Nat.succ_mul]; omega, show (k + 1 + 1) * K.n - K.n = (k + 1) * K.n by rw [Nat.succ_mul (k + 1)]; omega]
    simp
end
theorem GrowL.longer {α : Type} {K : ElK α} {e : TypeId} {xs ys : List α} {lo k : Nat} {v : Value} {vs : List Value} {G : List Nat} {W : World} (h : GrowL K e xs lo k v vs G W) (ht : ys.take k = xs.take k) : GrowL K e ys lo k v vs G W := ⟨h.row, by rw [ht]; exact h.rd, h.og, h.ap, h.lw⟩
theorem PuR.grown {w W W' : World} {A es : Array Value} {tR tE : TypeId} {v : Value} (h : PuR w A es tR tE W) (hgrow : W.grownBy W' v.ownBlock) (hv : ∀ b, v.ownBlock = some b → w.heap.size + 3 ≤ b) : PuR w A es tR tE W' := by
  have ot : ∀ b, b < w.heap.size + 3 → W'.heap[b]? = W.heap[b]? := fun b hb => hgrow.block b (by have := h.size; omega) (fun e => by have := hv b e.symm; omega)
  exact ⟨h.box.agree (ot _ (by omega)), h.en.agree (ot _ (by omega)), h.res.agree (ot _ (by omega)), h.bel.grown hgrow h.bel.size (fun b hb => by have := hv b hb; omega)⟩
theorem PuR.setCell {w W : World} {A es : Array Value} {tR tE : TypeId} (h : PuR w A es tR tE W) {X : Nat} (hX : w.heap.size + 3 ≤ X) (v : Value) : PuR w A es tR tE (W.setCell ⟨X, 0, none⟩ v) :=
  ⟨h.box.setOther (by omega) _ _, h.en.setOther (by omega) _ _, h.res.setOther (by omega) _ _, h.bel.setCell (p := ⟨X, 0, none⟩) (by show w.heap.size ≤ X; omega) _⟩
theorem PuR.setRow {w W : World} {A es : Array Value} {tR tE : TypeId} (h : PuR w A es tR tE W) {X : Nat} (hX : w.heap.size + 3 ≤ X) (ds : Array Value) : PuR w A es tR tE (W.setRow X ds) :=
  ⟨h.box.setRowOther (by omega), h.en.setRowOther (by omega), h.res.setRowOther (by omega), below_setRow h.bel (by omega) _⟩
/-- An element changed in a list that the writer has made. -/
theorem GrowL.put {e : TypeId} {xs : List En} {lo n k g cap L : Nat} {vs : List Value} {GG G : List Nat} {W : World} {x : En} {ds : Array Value} (h : GrowL enK e xs lo n (.slice (some ⟨g, 0, none⟩) n cap) vs GG W) (hn : xs.length = n) (hk : k < n) (hr : RdE W (.agg ds) x G) (hd : ds.size = 10)
    (ho : Own L W G) (hL : lo ≤ L) (ltG : ∀ b ∈ GG, b < L) (hgL : g < L) : lo ≤ g ∧ ∃ cur, Blk W g cur e ∧ k * 10 + 10 ≤ cur.size ∧ ∃ vs' H', GrowL enK e (xs.set k x) lo n (.slice (some ⟨g, 0, none⟩) n cap) vs' H' (W.setRow g (cutIn cur (k * 10) ds)) ∧ ∀ b ∈ H', b < L ∨ b ∈ G := by
  have hrow := h.row
  have rd := h.rd
  have og := h.og
  rw [List.take_of_length_le (Nat.le_of_eq hn)] at rd
  obtain ⟨hvl, hrow⟩ := hrow
  obtain ⟨cur, hge, hcur, hnc, hmax, hsz, htk⟩ : ∃ cur, lo ≤ g ∧ W.heap[g]? = some (.cells cur e (0, 0)) ∧ n ≤ cap ∧ cap ≤ maxLen ∧ cur.size = cap * 10 ∧ cur.toList.take (n * 10) = vs := by
    rcases hrow with ⟨h0, _⟩ | ⟨g', cap', cur, h1, h2, h3, h4, h5, h6, h7⟩
    · cases h0
    · injection h1 with e1 e2 e3
      injection e1 with e1
      injection e1 with e1
      subst e1 e3
      exact ⟨cur, h2, h3, h4, h5, h6, h7⟩
  obtain ⟨H1, Hk, H2, rfl, q1⟩ := RdC.setW (k := k) rd (by omega) hr hd
  obtain ⟨c1, c2⟩ := cut_takeR (cs := cur) (ds := ds) (n := n) (k := k) hd hk (by omega)
  have hin : ∀ b ∈ H1 ++ (G ++ H2), b < L ∨ b ∈ G := fun b hb => by
    rcases List.mem_append.1 hb with hb | hb
    · exact .inl (ltG b (List.mem_append_left _ hb))
    · rcases List.mem_append.1 hb with hb | hb
      · exact .inr hb
      · exact .inl (ltG b (List.mem_append_right _ (List.mem_append_right _ hb)))
  have hown : Own lo W (H1 ++ (G ++ H2)) := by
    refine og.left.app ((ho.mono hL).app og.right.right (fun b hb hx => ?_)) (fun b hb hx => ?_)
    · have := ho.ge b hb; have := ltG b (List.mem_append_right _ (List.mem_append_right _ hx)); omega
    · rcases List.mem_append.1 hx with hx | hx
      · have := ho.ge b hx; have := ltG b (List.mem_append_left _ hb); omega
      · exact og.apart b hb (List.mem_append_right _ hx)
  have hng : g ∉ H1 ++ (G ++ H2) := fun hx => by
    rcases List.mem_append.1 hx with hx | hx
    · exact h.ap g rfl (List.mem_append_left _ hx)
    · rcases List.mem_append.1 hx with hx | hx
      · have := ho.ge g hx; omega
      · exact h.ap g rfl (List.mem_append_right _ (List.mem_append_right _ hx))
  have hlen : (xs.set k x).length = n := by rw [List.length_set]; exact hn
  refine ⟨hge, cur, hcur, by omega, _, _, ⟨⟨?_, .inr ⟨g, cap, _, rfl, hge, Blk.setRow hcur, hnc, hmax, c1.trans hsz, c2⟩⟩, ?_, hown.agree (Agree.row hng _), fun b hb => ?_, ?_⟩, hin⟩
  · rw [htk]
    have hdl : ds.toList.length = 10 := by rw [Array.length_toList, hd]
    simp only [List.length_append, List.length_take, List.length_drop, hdl, hvl]
    show _ = n * 10
    have : enK.n = 10 := rfl
    rw [this]
    omega
  · rw [List.take_of_length_le (Nat.le_of_eq hlen), htk]
    exact q1.agree (Agree.row hng _)
  · have : b = g := by simpa [Value.ownBlock] using hb.symm
    subst this; exact hng
  · have := (below_setRow (Below.refl 0 W) (Nat.zero_le g) (cutIn cur (k * 10) ds)).size
    exact Nat.le_trans h.lw this
set_option maxRecDepth 200000 in
theorem addSpecE_any (v u : Value) (x y : En) (F G : List Nat) (w : World) (h : RdE w v x F) (k : RdE w u y G) (hx : x.ok = true) (hy : y.ok = true) (hlen : x.ids.length + y.ids.length ≤ 2097152) :
    Calls Tryz.prog 34 #[v, u] w fun e w' => ∃ v F, e = .returned v ∧ RdE w' v (x.add y) F ∧ Own w.heap.size w' F ∧ Below w.heap.size w w' := by
  obtain ⟨F1, F2, rfl, h⟩ := h
  obtain ⟨G1, G2, rfl, k⟩ := k
  refine (l6Add_any v u x y F1 F2 G1 G2 w h k hx hy hlen).mono ?_
  rintro e w' ⟨v', F', G', rfl, r, o, o', d, b⟩
  exact ⟨v', F' ++ G', rfl, ⟨F', G', rfl, r⟩, o.app o' d, b⟩

end Go.Proofs.YtjnamoppcklomaaGreat
/- Sums by place: in the order of pushing, and ordered by place; they are one another's permutations. No statement of the seat is proved here. -/
namespace Go.Proofs.YtjnamoppcklomaaGreat
open Go.RowKit
def placeLt (x e : En) : Bool := decide (x.key < e.key) || (x.key == e.key && decide (x.window < e.window))
theorem placeLt_iff {x e : En} : placeLt x e = true ↔ x.key < e.key ∨ (x.key = e.key ∧ x.window < e.window) := by unfold placeLt; simp
theorem placeLt_trans {x y z : En} (h : placeLt x y = true) (k : placeLt y z = true) : placeLt x z = true := by
  rw [placeLt_iff] at *; omega
theorem placeLt_not {x y : En} (h : placeLt x y = true) : samePlace x y = false := by
  cases hs : samePlace x y
  · rfl
  · rw [placeLt_iff] at h; rw [samePlace_iff] at hs; omega
theorem placeLt_asymm {x y : En} (h : placeLt x y = true) : placeLt y x = false := by
  cases hs : placeLt y x
  · rfl
  · rw [placeLt_iff] at h hs; omega
theorem placeLt_total {x y : En} (h : samePlace x y = false) (k : placeLt y x = false) : placeLt x y = true := by
  have h' : ¬ (x.key = y.key ∧ x.window = y.window) := fun e => by rw [samePlace_iff.2 e] at h; cases h
  have k' : ¬ (y.key < x.key ∨ (y.key = x.key ∧ y.window < x.window)) := fun e => by rw [placeLt_iff.2 e] at k; cases k
  rw [placeLt_iff]; omega
theorem samePlace_symm {x y : En} : samePlace x y = samePlace y x := by
  cases h : samePlace y x
  · cases k : samePlace x y
    · rfl
    · rw [samePlace_iff] at k; rw [samePlace_iff.2 ⟨k.1.symm, k.2.symm⟩] at h; cases h
  · rw [samePlace_iff] at h; exact samePlace_iff.2 ⟨h.1.symm, h.2.symm⟩
/-- Strictly ascending by place. -/
def Asc (xs : List En) : Prop := xs.Pairwise fun x y => placeLt x y = true
/-- No place twice. -/
def Dist (xs : List En) : Prop := xs.Pairwise fun x y => samePlace x y = false
theorem Asc.dist {xs : List En} (h : Asc xs) : Dist xs := List.Pairwise.imp (fun h => placeLt_not h) h
theorem Dist.perm {xs ys : List En} (h : Dist xs) (p : xs.Perm ys) : Dist ys := (p.pairwise_iff (fun h => by rw [samePlace_symm]; exact h)).1 h
theorem Dist.one : ∀ {xs : List En}, Dist xs → ∀ {y z : En}, y ∈ xs → z ∈ xs → samePlace y z = true → y = z
  | [], _, y, z, hy, _, _ => by cases hy
  | x :: xs, h, y, z, hy, hz, hs => by
    obtain ⟨h1, h2⟩ := List.pairwise_cons.1 h
    rcases List.mem_cons.1 hy with rfl | hy'
    · rcases List.mem_cons.1 hz with rfl | hz'
      · rfl
      · rw [h1 z hz'] at hs; cases hs
    · rcases List.mem_cons.1 hz with rfl | hz'
      · rw [samePlace_symm, h1 y hy'] at hs; cases hs
      · exact Dist.one h2 hy' hz' hs
/-- What the model's insertion makes. -/
def insAt (xs : List En) (e : En) : Nat := xs.findIdx fun x => placeLt e x
def insL (xs : List En) (e : En) : List En := match hitAt xs e with
  | some k => xs.set k ((xs.getD k En.zero).add e)
  | none => xs.take (insAt xs e) ++ e :: xs.drop (insAt xs e)
theorem insL_hit {xs : List En} {e : En} {k : Nat} {y : En} (h : hitAt xs e = some k) (hy : xs[k]? = some y) : insL xs e = xs.set k (y.add e) := by
  unfold insL; rw [h]; show xs.set k ((xs.getD k En.zero).add e) = _; rw [List.getD_eq_getElem?_getD, hy]; rfl
theorem insL_none {xs : List En} {e : En} (h : hitAt xs e = none) : insL xs e = xs.take (insAt xs e) ++ e :: xs.drop (insAt xs e) := by unfold insL; rw [h]
theorem asc_ins : ∀ {xs : List En} {e : En}, Asc xs → (∀ z ∈ xs, samePlace z e = false) → Asc (xs.take (insAt xs e) ++ e :: xs.drop (insAt xs e))
  | [], e, _, _ => by simp [insAt, Asc]
  | x :: xs, e, h, hn => by
    obtain ⟨h1, h2⟩ := List.pairwise_cons.1 h
    cases hp : placeLt e x
    · have ha : insAt (x :: xs) e = insAt xs e + 1 := by unfold insAt; rw [List.findIdx_cons, hp]; rfl
      rw [ha, List.take_succ_cons, List.drop_succ_cons]
      have ih := asc_ins h2 (fun z hz => hn z (List.mem_cons_of_mem _ hz))
      refine List.pairwise_cons.2 ⟨fun z hz => ?_, ih⟩
      have hxe := placeLt_total (hn x List.mem_cons_self) hp
      rcases List.mem_append.1 hz with hz | hz
      · exact h1 z (List.mem_of_mem_take hz)
      · rcases List.mem_cons.1 hz with rfl | hz
        · exact hxe
        · exact h1 z (List.mem_of_mem_drop hz)
    · have ha : insAt (x :: xs) e = 0 := by unfold insAt; rw [List.findIdx_cons, hp]; rfl
      rw [ha]
      refine List.pairwise_cons.2 ⟨fun z hz => ?_, h⟩
      rcases List.mem_cons.1 hz with rfl | hz
      · exact hp
      · exact placeLt_trans hp (h1 z hz)
theorem asc_places {xs ys : List En} (h : Asc xs) (hm : ys.map (fun x => (x.key, x.window)) = xs.map (fun x => (x.key, x.window))) : Asc ys := by
  have lem : ∀ zs : List En, Asc zs ↔ (zs.map (fun x => (x.key, x.window))).Pairwise (fun p q => p.1 < q.1 ∨ (p.1 = q.1 ∧ p.2 < q.2)) := fun zs => by
    rw [List.pairwise_map]
    unfold Asc
    constructor
    · exact List.Pairwise.imp (fun h => placeLt_iff.1 h)
    · exact List.Pairwise.imp (fun h => placeLt_iff.2 h)
  rw [lem] at h ⊢
  rw [hm]; exact h
theorem asc_set {xs : List En} {k : Nat} {y z : En} (h : Asc xs) (hy : xs[k]? = some y) (hk : z.key = y.key) (hw : z.window = y.window) : Asc (xs.set k z) := by
  refine asc_places h ?_
  apply List.ext_getElem?
  intro i
  simp only [List.getElem?_map, List.getElem?_set]
  by_cases e : k = i
  · subst e
    obtain ⟨hl, hy2⟩ := List.getElem?_eq_some_iff.1 hy
    subst hy2
    simp [hl, hk, hw]
  · simp [e]
theorem perm_set {xs : List En} {k : Nat} {y : En} (hy : xs[k]? = some y) : ∃ r, xs.Perm (y :: r) ∧ ∀ z, (xs.set k z).Perm (z :: r) := by
  obtain ⟨hk, hy⟩ := List.getElem?_eq_some_iff.1 hy
  refine ⟨xs.take k ++ xs.drop (k + 1), ?_, fun z => ?_⟩
  · have e : xs = xs.take k ++ y :: xs.drop (k + 1) := by rw [← hy, List.getElem_cons_drop hk, List.take_append_drop]
    exact (List.Perm.of_eq e).trans List.perm_middle
  · rw [List.set_eq_take_append_cons_drop, if_pos hk]
    exact List.perm_middle
theorem perm_ins (xs : List En) (e : En) (a : Nat) : (xs.take a ++ e :: xs.drop a).Perm (e :: xs) := by
  refine List.perm_middle.trans ?_
  rw [List.take_append_drop]
theorem asc_insL {xs : List En} {e : En} (h : Asc xs) : Asc (insL xs e) := by
  cases hh : hitAt xs e
  · rw [insL_none hh]; exact asc_ins h (hitAt_no hh)
  · rename_i k
    obtain ⟨y, hy, _⟩ := hitAt_lt hh
    rw [insL_hit hh hy]
    exact asc_set h hy rfl rfl
/-- A pushed entry: both lists stay one another's permutations. -/
theorem perm_push {P M : List En} {e : En} (ha : Asc M) (hp : P.Perm M) (hok : ∀ y ∈ P, samePlace y e = true → y.addOk e = true) : (pushL P e true).Perm (insL M e) := by
  have hd : Dist P := ha.dist.perm hp.symm
  cases hh : hitAt P e
  · have hn := hitAt_no hh
    have hm : hitAt M e = none := hitAt_none (fun z hz => hn z (hp.mem_iff.2 hz))
    rw [pushL_none (.inr hh), insL_none hm]
    exact (List.perm_append_singleton e P).trans ((hp.cons e).trans (perm_ins M e _).symm)
  · rename_i k
    obtain ⟨y, hy, hs, _⟩ := hitAt_lt hh
    have hyP : y ∈ P := List.mem_of_getElem? hy
    cases hm : hitAt M e
    · have := hitAt_no hm y (hp.mem_iff.1 hyP)
      rw [hs] at this; cases this
    · rename_i j
      obtain ⟨y', hy', hs', _⟩ := hitAt_lt hm
      have e1 : y' = y := by
        refine hd.one (hp.mem_iff.2 (List.mem_of_getElem? hy')) hyP ?_
        rw [samePlace_iff] at hs hs' ⊢
        exact ⟨by omega, by omega⟩
      subst e1
      rw [pushL_hit hh hy, insL_hit hm hy', En.addR_yes (hok y' hyP hs)]
      obtain ⟨r, p1, p2⟩ := perm_set hy
      obtain ⟨r', q1, q2⟩ := perm_set hy'
      have : r.Perm r' := ((p1.symm.trans hp).trans q1).cons_inv
      exact (p2 _).trans ((this.cons _).trans (q2 _).symm)
theorem asc_unique : ∀ {A B : List En}, Asc A → Asc B → A.Perm B → A = B
  | [], B, _, _, p => (List.nil_perm.1 p).symm
  | a :: A, [], _, _, p => by have := p.length_eq; simp at this
  | a :: A, b :: B, h, k, p => by
    obtain ⟨h1, h2⟩ := List.pairwise_cons.1 h
    obtain ⟨k1, k2⟩ := List.pairwise_cons.1 k
    have e : a = b := by
      rcases List.mem_cons.1 (p.mem_iff.1 (List.mem_cons_self (a := a) (l := A))) with e | ha
      · exact e
      · rcases List.mem_cons.1 (p.mem_iff.2 (List.mem_cons_self (a := b) (l := B))) with e | hb
        · exact e.symm
        · have q1 := h1 b hb
          have q2 := k1 a ha
          rw [placeLt_asymm q1] at q2; cases q2
    subst e
    rw [asc_unique h2 k2 p.cons_inv]
/-- Right entries, none of whose numbers is in another: said of pairs. -/
def Far (x y : En) : Prop := ∀ n, (x.ids.has n && y.ids.has n) = false
theorem good_pair {xs : List En} : Good xs ↔ (∀ y ∈ xs, y.ok = true) ∧ xs.Pairwise Far := by
  constructor
  · intro h
    refine ⟨fun y hy => ?_, List.pairwise_iff_getElem.2 fun i j hi hj hij n => h.2 i j _ _ hij (List.getElem?_eq_getElem hi) (List.getElem?_eq_getElem hj) n⟩
    obtain ⟨i, hi⟩ := List.mem_iff_getElem?.1 hy
    exact h.1 i y hi
  · rintro ⟨h1, h2⟩
    refine ⟨fun i y hy => h1 y (List.mem_of_getElem? hy), fun i j y z hij hy hz n => ?_⟩
    obtain ⟨hi, rfl⟩ := List.getElem?_eq_some_iff.1 hy
    obtain ⟨hj, rfl⟩ := List.getElem?_eq_some_iff.1 hz
    exact List.pairwise_iff_getElem.1 h2 i j hi hj hij n
theorem Far.symm {x y : En} (h : Far x y) : Far y x := fun n => by rw [Bool.and_comm]; exact h n
theorem good_perm {xs ys : List En} (p : xs.Perm ys) (h : Good xs) : Good ys := by
  rw [good_pair] at h ⊢
  exact ⟨fun y hy => h.1 y (p.mem_iff.2 hy), (p.pairwise_iff Far.symm).1 h.2⟩
theorem far_apart {x y : En} (h : Far x y) (hx : x.ok = true) (hy : y.ok = true) : x.ids.apart y.ids = true := (apart_iff (En.ok_ids hx).1 (En.ok_ids hy).1).2 h
/-- One more entry pushed: what is pushed and what is left stays right. -/
theorem good_push {P rest : List En} {e : En} (h : Good (P ++ e :: rest)) : Good (pushL P e true ++ rest) ∧ ∀ y ∈ P, samePlace y e = true → y.addOk e = true := by
  have hg := good_pair.1 h
  have hap : ∀ y ∈ P, samePlace y e = true → y.addOk e = true := fun y hy hs => by
    have hy1 : y.ok = true := hg.1 y (List.mem_append_left _ hy)
    have he1 : e.ok = true := hg.1 e (List.mem_append_right _ List.mem_cons_self)
    have hf : Far y e := (List.pairwise_append.1 hg.2).2.2 y hy e List.mem_cons_self
    exact addOk_of hy1 he1 hs (far_apart hf hy1 he1)
  refine ⟨?_, hap⟩
  cases hh : hitAt P e
  · rw [pushL_none (.inr hh), List.append_assoc]; exact h
  · rename_i k
    obtain ⟨y, hy, hs, _⟩ := hitAt_lt hh
    have ha := hap y (List.mem_of_getElem? hy) hs
    rw [pushL_hit hh hy]
    obtain ⟨r, p1, p2⟩ := perm_set hy
    have hP : (P ++ e :: rest).Perm (y :: e :: (r ++ rest)) := by
      refine (p1.append_right _).trans ?_
      show (y :: (r ++ e :: rest)).Perm _
      exact List.perm_middle.cons y
    have hg2 := good_pair.1 (good_perm hP h)
    obtain ⟨q1, q2⟩ := List.pairwise_cons.1 hg2.2
    obtain ⟨q3, q4⟩ := List.pairwise_cons.1 q2
    refine good_perm ((p2 (y.addR e)).append_right rest).symm ?_
    show Good (y.addR e :: (r ++ rest))
    refine good_pair.2 ⟨fun z hz => ?_, List.pairwise_cons.2 ⟨fun z hz n => ?_, q4⟩⟩
    · rcases List.mem_cons.1 hz with rfl | hz
      · exact addR_ok ha
      · exact hg2.1 z (List.mem_cons_of_mem _ (List.mem_cons_of_mem _ hz))
    · rw [has_addR ha]
      have a1 := q1 z (List.mem_cons_of_mem _ hz) n
      have a2 := q3 z hz n
      cases h1 : z.ids.has n <;> simp_all
/-- The sums behind some pushes: in the order of pushing, and by place. -/
def sumP (P : List En) (xs : List En) : List En := xs.foldl (fun s e => pushL s e true) P
def sumM (M : List En) (xs : List En) : List En := xs.foldl insL M
theorem sums_perm : ∀ {xs P M : List En}, Asc M → P.Perm M → Good (P ++ xs) → (sumP P xs).Perm (sumM M xs) ∧ Asc (sumM M xs) ∧ Good (sumP P xs)
  | [], P, M, ha, hp, hg => ⟨hp, ha, by rw [List.append_nil] at hg; exact hg⟩
  | e :: xs, P, M, ha, hp, hg => by
    obtain ⟨g1, g2⟩ := good_push hg
    show (sumP (pushL P e true) xs).Perm (sumM (insL M e) xs) ∧ Asc (sumM (insL M e) xs) ∧ Good (sumP (pushL P e true) xs)
    exact sums_perm (asc_insL ha) (perm_push ha hp g2) g1
theorem ensSize_append (xs ys : List En) : ensSize (xs ++ ys) = ensSize xs + ensSize ys := by unfold ensSize; rw [sumOfL_split]
theorem sumP_size : ∀ {xs P : List En}, ensSize (sumP P xs) ≤ ensSize P + ensSize xs ∧ (sumP P xs).length ≤ P.length + xs.length
  | [], P => ⟨by show ensSize P ≤ ensSize P + ensSize []; have : ensSize ([] : List En) = 0 := rfl; omega, Nat.le_refl _⟩
  | e :: xs, P => by
    obtain ⟨h1, h2⟩ := sumP_size (xs := xs) (P := pushL P e true)
    obtain ⟨k1, k2, _⟩ := pushL_size P e true
    have : ensSize (e :: xs) = e.wt + ensSize xs := rfl
    refine ⟨?_, ?_⟩
    · show ensSize (sumP (pushL P e true) xs) ≤ _; omega
    · show (sumP (pushL P e true) xs).length ≤ _; simp only [List.length_cons]; omega
/-- The sums by place of a right row. -/
def Rw.sums (x : Rw) : List En := if x.ok = true then sumM [] x.list else []
theorem sumM_succ {M xs : List En} {k : Nat} {y : En} (hy : xs[k]? = some y) : sumM M (xs.take (k + 1)) = insL (sumM M (xs.take k)) y := by
  rw [take_snoc_en hy]; unfold sumM; rw [List.foldl_append]; rfl
/-- The sums of a right row's first k entries. -/
theorem sums_at {x : Rw} (hok : x.ok = true) (hf : x.fits) (k : Nat) : Asc (sumM [] (x.list.take k)) ∧ (∀ y ∈ sumM [] (x.list.take k), y.ok = true ∧ y.fits) ∧ (sumM [] (x.list.take k)).length ≤ 24 ∧ (sumP [] (x.list.take k)).Perm (sumM [] (x.list.take k)) ∧ Good (sumP [] (x.list.take k)) ∧ ensSize (sumP [] (x.list.take k)) ≤ 1048576 := by
  obtain ⟨h24, hg⟩ := rw_ok_iff.1 hok
  have hg' := good_pair.1 hg
  have hgt : Good (x.list.take k) := good_pair.2 ⟨fun y hy => hg'.1 y (List.mem_of_mem_take hy), hg'.2.sublist (List.take_sublist _ _)⟩
  obtain ⟨h1, h2, h3⟩ := sums_perm (xs := x.list.take k) (P := []) (M := []) List.Pairwise.nil (List.Perm.refl _) hgt
  obtain ⟨s1, s2⟩ := sumP_size (xs := x.list.take k) (P := [])
  have e1 : ensSize x.list = ensSize (x.list.take k) + ensSize (x.list.drop k) := by rw [← ensSize_append, List.take_append_drop]
  have e2 := ensSize_nonneg (x.list.drop k)
  have e3 : ensSize ([] : List En) = 0 := rfl
  have hs : ensSize (sumP [] (x.list.take k)) ≤ 1048576 := by
    have := hf
    unfold Rw.fits Rw.size at this
    omega
  refine ⟨h2, fun y hy => ?_, ?_, h1, h3, hs⟩
  · have hy' := h1.mem_iff.2 hy
    exact ⟨(good_pair.1 h3).1 y hy', mem_wt hy' hs⟩
  · rw [← h1.length_eq]
    rw [List.length_take] at s2
    simp only [List.length_nil] at s2
    omega
end Go.Proofs.YtjnamoppcklomaaGreat
/- Lists split and joined; appending a part of a list, empty or not. No statement of the seat is proved here. -/
namespace Go.Proofs.YtjnamoppcklomaaGreat
open Go.RowKit
section
variable {α : Type} {K : ElK α} {w W W' : World}
theorem rdC_split : ∀ {xs : List α} {vs : List Value} {F : List Nat}, RdC K w xs vs F → ∀ a, a ≤ xs.length → ∃ F1 F2, F = F1 ++ F2 ∧ RdC K w (xs.take a) (vs.take (a * K.n)) F1 ∧ RdC K w (xs.drop a) (vs.drop (a * K.n)) F2
  | xs, vs, F, h, 0, _ => by
    refine ⟨[], F, rfl, ?_, ?_⟩
    · rw [Nat.zero_mul, List.take_zero, List.take_zero]; exact RdC.nil
    · rw [Nat.zero_mul, List.drop_zero, List.drop_zero]; exact h
  | [], vs, F, h, a + 1, ha => by simp at ha
  | x :: xs, vs, F, h, a + 1, ha => by
    obtain ⟨cs, vs', F1, F2, rfl, h2, h3, h4, rfl⟩ := h
    obtain ⟨G1, G2, rfl, q1, q2⟩ := rdC_split h4 a (by simpa using ha)
    have hl : cs.toList.length = K.n := by rw [Array.length_toList, h2]
    have e : (a + 1) * K.n = cs.toList.length + a * K.n := by rw [hl, Nat.succ_mul]; omega
    refine ⟨F1 ++ G1, G2, by rw [List.append_assoc], ?_, ?_⟩
    · rw [e, List.take_succ_cons]
      refine ⟨cs, vs'.take (a * K.n), F1, G1, ?_, h2, h3, q1, rfl⟩
      rw [List.take_append, List.take_of_length_le (by omega)]
      congr 1
      congr 1
      omega
    · have e3 : List.drop (cs.toList.length + a * K.n) cs.toList = [] := List.drop_of_length_le (by omega)
      rw [e, List.drop_succ_cons, List.drop_append, e3, List.nil_append]
      rw [show cs.toList.length + a * K.n - cs.toList.length = a * K.n by omega]
      exact q2
theorem rdC_join : ∀ {xs ys : List α} {vs us : List Value} {F G : List Nat}, RdC K w xs vs F → RdC K w ys us G → RdC K w (xs ++ ys) (vs ++ us) (F ++ G)
  | [], ys, vs, us, F, G, h, k => by
    obtain ⟨rfl, rfl⟩ := h
    exact k
  | x :: xs, ys, vs, us, F, G, h, k => by
    obtain ⟨cs, vs', F1, F2, rfl, h2, h3, h4, rfl⟩ := h
    exact ⟨cs, vs' ++ us, F1, F2 ++ G, by rw [List.append_assoc], h2, h3, rdC_join h4 k, by rw [List.append_assoc]⟩
/-- Several elements appended at once, their own blocks as they were. -/
theorem GrowL.chunk {e : TypeId} {xs ys : List α} {lo k m : Nat} {v v' : Value} {vs us : List Value} {G Fk : List Nat} (h : GrowL K e xs lo k v vs G W) (hk : xs.length = k) (hm : ys.length = m) (rk : RdC K W ys us Fk) (ok : Own lo W Fk) (dis : ∀ b ∈ G, b ∉ Fk) (apv : ∀ b, v.ownBlock = some b → b ∉ Fk)
    (hown : W'.ownsRow lo e K.n v' (k + m) (vs ++ us)) (hgrow : W.grownBy W' v.ownBlock) (hat : ∀ g, v'.ownBlock = some g → v.ownBlock = some g ∨ W.heap.size ≤ g) :
    GrowL K e (xs ++ ys) lo (k + m) v' (vs ++ us) (G ++ Fk) W' := by
  have blk : ∀ b, b < W.heap.size → ¬ v.ownBlock = some b → W'.heap[b]? = W.heap[b]? := fun b hb hn => hgrow.block b hb (fun e => hn e.symm)
  have agG : Agree W W' G := fun b hb => blk b (h.rd.lt b hb) (fun e => h.ap b e hb)
  have agF : Agree W W' Fk := fun b hb => blk b (rk.lt b hb) (fun e => apv b e hb)
  have rd := h.rd
  rw [List.take_of_length_le (Nat.le_of_eq hk)] at rd
  refine ⟨hown, ?_, ?_, ?_, Nat.le_trans h.lw hgrow.size⟩
  · rw [List.take_of_length_le (by rw [List.length_append]; omega)]
    exact rdC_join (rd.agree agG) (rk.agree agF)
  · exact (h.og.agree agG).app (ok.agree agF) dis
  · intro b hb hx
    rcases hat b hb with q | q
    · rcases List.mem_append.1 hx with hx | hx
      · exact h.ap _ q hx
      · exact apv _ q hx
    · rcases List.mem_append.1 hx with hx | hx
      · have := h.rd.lt _ hx; omega
      · have := rk.lt _ hx; omega
theorem rdC_one : ∀ {xs : List α} {vs : List Value} {F : List Nat}, RdC K w xs vs F → ∀ u ∈ vs, u.oneCell' = true
  | [], vs, F, h => by
    obtain ⟨rfl, rfl⟩ := h
    simp
  | x :: xs, vs, F, h => by
    obtain ⟨cs, vs', F1, F2, rfl, _, h3, h4, rfl⟩ := h
    obtain ⟨cs', e, _, hone⟩ := K.cells h3
    injection e with e
    subst e
    intro u hu
    rcases List.mem_append.1 hu with hu | hu
    · exact (Array.all_eq_true_iff_forall_mem.1 hone) u (by simpa using hu)
    · exact rdC_one h4 u hu
theorem rdC_far {xs : List α} {vs : List Value} {F : List Nat} {row : Option Nat} (h : RdC K W xs vs F) (hg : W.grownBy W' row) (hr : ∀ b ∈ F, row ≠ some b) : RdC K W' xs vs F :=
  h.agree (fun b hb => hg.block b (h.lt b hb) (fun e => hr b hb e.symm))
theorem own_far {lo : Nat} {xs : List α} {vs : List Value} {F : List Nat} {row : Option Nat} (h : Own lo W F) (k : RdC K W xs vs F) (hg : W.grownBy W' row) (hr : ∀ b ∈ F, row ≠ some b) : Own lo W' F :=
  h.agree (fun b hb => hg.block b (k.lt b hb) (fun e => hr b hb e.symm))
/-- The first c elements, appended onto an empty literal; the others lie as they lay. -/
theorem GrowL.first {e : TypeId} {xs : List α} {lo n c : Nat} {v v1 : Value} {vs : List Value} {GG : List Nat} {w1 : World} (h : GrowL K e xs lo n v vs GG W) (hn : xs.length = n) (hc : c ≤ n)
    (hown : w1.ownsRow lo e K.n v1 (0 + c) ([] ++ vs.take (c * K.n))) (hgrow : (W.alloc (.cells #[] e)).grownBy w1 (some W.heap.size)) (hat : ∀ g, v1.ownBlock = some g → some W.heap.size = some g ∨ (W.alloc (.cells #[] e)).heap.size ≤ g) :
    ∃ F1 F2, GG = F1 ++ F2 ∧ GrowL K e (xs.take c) lo c v1 (vs.take (c * K.n)) F1 w1 ∧ RdC K w1 (xs.drop c) (vs.drop (c * K.n)) F2 ∧ Own lo w1 F2 ∧ (∀ b ∈ F1, b ∉ F2) ∧ (∀ b ∈ F2, b < W.heap.size) ∧ (∀ b, v1.ownBlock = some b → W.heap.size ≤ b) ∧ Below W.heap.size W w1 := by
  have rd := h.rd
  rw [List.take_of_length_le (Nat.le_of_eq hn)] at rd
  obtain ⟨F1, F2, rfl, r1, r2⟩ := rdC_split rd c (by omega)
  have bl : Below W.heap.size W (W.alloc (.cells #[] e)) := Below.allocW _ (Below.refl _ _) (Nat.le_refl _)
  have hsz : (W.alloc (.cells #[] e)).heap.size = W.heap.size + 1 := by simp
  have lt1 : ∀ b ∈ F1, b < W.heap.size := r1.lt
  have lt2 : ∀ b ∈ F2, b < W.heap.size := r2.lt
  have bw : Below W.heap.size W w1 := bl.grown hgrow (by omega) (fun b hb => by injection hb with hb; omega)
  have G0 : GrowL K e ([] : List α) lo 0 (.slice (some ⟨W.heap.size, 0, none⟩) 0 0) [] [] (W.alloc (.cells #[] e)) :=
    ⟨World.ownsRow_made W #[] 0 h.lw (Nat.zero_le _) (by simp), by rw [List.take_zero]; exact RdC.nil, Own.nil, (fun b _ hx => by cases hx), by have := h.lw; omega⟩
  have G1 := G0.chunk (ys := xs.take c) (m := c) (v' := v1) (us := vs.take (c * K.n)) (Fk := F1) rfl (by rw [List.length_take]; omega) (r1.below bl) (h.og.left.below lt1 bl) (by simp) (fun b hb hx => by
    have : b = W.heap.size := by simpa [Value.ownBlock] using hb.symm
    have := lt1 b hx; omega) hown hgrow hat
  refine ⟨F1, F2, rfl, ?_, r2.below bw, h.og.right.below lt2 bw, h.og.apart, lt2, fun b hb => ?_, bw⟩
  · rw [Nat.zero_add, List.nil_append, List.nil_append, List.nil_append] at G1; exact G1
  · rcases hat b hb with q | q
    · injection q with q; omega
    · omega
/-- One element behind them, copied since. -/
theorem GrowL.second {e : TypeId} {xs ys : List α} {lo c L : Nat} {v1 v2 : Value} {vs us1 us : List Value} {F1 F2 Fr : List Nat} {w1 w2 w3 : World} {x : α} (h : GrowL K e xs lo c v1 vs F1 w1) (hc : xs.length = c) (r2 : RdC K w1 ys us F2) (o2 : Own lo w1 F2) (lt2 : ∀ b ∈ F2, b < L) (own1 : ∀ b, v1.ownBlock = some b → L ≤ b)
    (bl : Below w1.heap.size w1 w2) (rx : RdC K w2 [x] us1 Fr) (ox : Own w1.heap.size w2 Fr) (hown : w3.ownsRow lo e K.n v2 (c + 1) (vs ++ us1)) (hgrow : w2.grownBy w3 v1.ownBlock) (hat : ∀ g, v2.ownBlock = some g → v1.ownBlock = some g ∨ w2.heap.size ≤ g) (hL : L ≤ w1.heap.size) :
    GrowL K e (xs ++ [x]) lo (c + 1) v2 (vs ++ us1) (F1 ++ Fr) w3 ∧ RdC K w3 ys us F2 ∧ Own lo w3 F2 ∧ (∀ b ∈ Fr, b ∉ F2) ∧ (∀ b, v2.ownBlock = some b → L ≤ b) := by
  have h2 := h.below bl
  have far : ∀ b ∈ F2, v1.ownBlock ≠ some b := fun b hb e => by have := lt2 b hb; have := own1 b e; omega
  have ls := h.lts
  refine ⟨h2.chunk (ys := [x]) (m := 1) hc rfl rx (ox.mono h.lw) (fun b hb hx => ?_) (fun b hb hx => ?_) hown hgrow hat, rdC_far (r2.below bl) hgrow far, own_far (o2.below r2.lt bl) (r2.below bl) hgrow far, fun b hb hx => ?_, fun b hb => ?_⟩
  · have := ls.1 b hb; have := ox.ge b hx; omega
  · have := ls.2.1 b hb; have := ox.ge b hx; omega
  · have := ox.ge b hb; have := r2.lt b hx; omega
  · rcases hat b hb with q | q
    · exact own1 b q
    · have := bl.size; omega
/-- And the others behind it. -/
theorem GrowL.third {e : TypeId} {xs ys : List α} {lo k m L : Nat} {v2 v3 : Value} {vs us : List Value} {G F2 : List Nat} {w3 w4 : World} (h : GrowL K e xs lo k v2 vs G w3) (hk : xs.length = k) (hm : ys.length = m) (r2 : RdC K w3 ys us F2) (o2 : Own lo w3 F2) (dis : ∀ b ∈ G, b ∉ F2) (lt2 : ∀ b ∈ F2, b < L) (own2 : ∀ b, v2.ownBlock = some b → L ≤ b)
    (hown : w4.ownsRow lo e K.n v3 (k + m) (vs ++ us)) (hgrow : w3.grownBy w4 v2.ownBlock) (hat : ∀ g, v3.ownBlock = some g → v2.ownBlock = some g ∨ w3.heap.size ≤ g) : GrowL K e (xs ++ ys) lo (k + m) v3 (vs ++ us) (G ++ F2) w4 :=
  h.chunk hk hm r2 o2 dis (fun b hb hx => by have := lt2 b hx; have := own2 b hb; omega) hown hgrow hat
end
theorem run_append_none {P : Program} {w : World} (t ty e : TypeId) (i : TypeInfo) (ht : P.underlying t = some (.slice e)) (hi : P.info? e = some i) (ao ax : Option Addr) (n c' c : Nat) (hn : n ≤ c') (ha : ao = none → n = 0 ∧ c' = 0) :
    (Builtin.append_ #[t, t] ty #[.slice ao n c', .slice ax 0 c]).run P w = .ok (.slice ao n c') w := by
  have hl : ∀ ad : Addr, (loadCells ad 0).run P w = .ok #[] w := fun ad => by
    have := run_loadCells_list (P := P) w ad [] (fun j v hj => by simp at hj)
    simpa using this
  cases ao
  · obtain ⟨rfl, rfl⟩ := ha rfl
    cases ax <;> simp [Builtin.append_, run_underlying ht, sizeOf, typeInfo, hi, Builtin.lenOf, Builtin.firstCells, hl]
  · cases ax <;> simp [Builtin.append_, run_underlying ht, sizeOf, typeInfo, hi, Builtin.lenOf, Builtin.firstCells, storeCells, hl, hn]
section
variable {P : Program} {ops : Array Oper} {rest : List Oper} {Q : Exit → Act → World → Prop} {a : Act} {w : World} {o : Oper}
/-- append(v, x...) where v is the writer's own, x empty or not. -/
theorem wpList_chunk (hgd : o.guard = none) (s x : Operand) (t : TypeId) (ho : o.op = .call { callee := .builtin .append, args := #[s, x], argTypes := #[t, t] })
    (lo : Nat) (e : TypeId) (i : TypeInfo) (z : Value) (size bytes : Nat) (ht : P.underlying t = some (.slice e)) (hi : P.info? e = some i) (hz : i.zero = some z) (hsize : i.size = size) (hby : i.bytes = bytes) (hzs : z.cells.size = size) (hsz : 0 < size)
    (v : Value) (n : Nat) (vs : List Value) (hs : a.eval s = v) (hown : w.ownsRow lo e size v n vs) (ax : Option Addr) (m c : Nat) (us : List Value) (hx : a.eval x = .slice ax m c) (hl : us.length = m * size)
    (hcell : 0 < m → ∃ b off, ax = some ⟨b, off, none⟩ ∧ ∀ j, j < us.length → w.cell? ⟨b, off + j, none⟩ = us[j]?) (h1 : ∀ u ∈ us, u.oneCell' = true) (h63 : n + m ≤ maxLen) (hbytes : (n + m) * bytes ≤ 140737488355328) (hbase : lo ≤ w.heap.size)
    (h : ∀ v' w', w'.ownsRow lo e size v' (n + m) (vs ++ us) → w.grownBy w' v.ownBlock → (∀ g, v'.ownBlock = some g → v.ownBlock = some g ∨ w.heap.size ≤ g) → wpList P ops Q rest (a.put o.dst v') w') : wpList P ops Q (o :: rest) a w := by
  by_cases h0 : m = 0
  · subst h0
    obtain rfl : us = [] := List.eq_nil_of_length_eq_zero (by simpa using hl)
    have hk := h v w (by simpa using hown) (World.grownBy.refl w _) (fun g hg => .inl hg)
    obtain ⟨ao, c', hv, hn, ha⟩ : ∃ ao c', v = .slice ao n c' ∧ n ≤ c' ∧ (ao = none → n = 0 ∧ c' = 0) := by
      rcases hown.2 with ⟨e1, e2⟩ | ⟨g, cap, cur, e1, _, _, h3, _⟩
      · exact ⟨none, 0, by rw [e1, e2], by omega, fun _ => ⟨e2, rfl⟩⟩
      · exact ⟨_, cap, e1, h3, fun e => by cases e⟩
    subst hv
    have hrun := run_append_none (P := P) (w := w) t o.type e i ht hi ao ax n c' c hn ha
    refine wpList_plain hgd fun K hK => ?_
    unfold Oper.wp
    simp [execOp, ho, resolve, invoke, builtin, hs, hx, hrun, Result.andThen]
    exact hK _ _ hk
  · obtain ⟨b, off, rfl, hc⟩ := hcell (by omega)
    refine wpList_append_lies w hgd s x t ho lo e i z size bytes ht hi hz hsize hby hzs hsz v n vs hs hown ⟨b, off, none⟩ m c us hx hl (fun j u hj => ?_) h1 (by omega) h63 hbytes hbase _ rfl ?_
    · have hj' : j < us.length := (List.getElem?_eq_some_iff.1 hj).1
      have ea : ((⟨b, off, none⟩ : Addr).add j) = ⟨b, off + j, none⟩ := by unfold Addr.add; split <;> simp_all
      rw [ea, hc j hj', hj]
    · intro g cap w' q1 q2 q3 _
      refine h _ w' q1 q2 (fun g' hg' => ?_)
      have : g' = g := by simpa [Value.ownBlock] using hg'.symm
      subst this
      rcases q3 with q3 | q3
      · exact .inl q3
      · exact .inr (by omega)
end
end Go.Proofs.YtjnamoppcklomaaGreat
