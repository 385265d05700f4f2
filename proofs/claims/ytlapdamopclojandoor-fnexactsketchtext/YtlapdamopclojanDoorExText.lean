/- For every summary (no condition): laws.FnExactSketchText returns true, and its argument reads afterwards as it did: the program's SketchText answers as the model's and writes nothing into its argument; the library's tables start as the program's text lays them (the card ties them). -/
import Derived.Test.YtlapdamopclojanDoorCards
import Derived.Test.YtlapdamopclojanDoorTie
import Derived.Test.YtlapdamopclojanDoorSkLaw
import Derived.Test.YtlapdamopclojanDoorAskText
import Derived.ProofKit
import Derived.OpenShut
import Derived.ShutString
import Derived.Below
import Derived.Deep.DeepHandedRow
namespace Go.Proofs.YtlapdamopclojanDoor.fnExactSketchText
open Go.ChangeShapes Go.WideShapes Go.ChangeAt Go.RowKit
set_option linter.unusedVariables false
theorem own : ownKnob Tryd.prog.godebug = none := by kernel_rfl
theorem gTab : Tryd.prog.globalNamed "internal/strconv.uint64pow10" = some 1 := by kernel_rfl
theorem gTabType : (Tryd.prog.globals[1]?).map (·.type) = some 78 := by kernel_rfl
theorem cellsA : Tryd.prog.cellsOf 78 = 20 := by kernel_rfl
theorem cellsE : Tryd.prog.cellsOf 71 = 1 := by kernel_rfl
/-- What the row's list gives: the table's cells hold its twenty numbers. -/
theorem table {W : World} (h : laidMetH Tryd.prog Rows.fnExactSketchTextRow.laid W) : Lib.TabIs Tryd.prog W "internal/strconv.uint64pow10" .u64 Lib.pow10Tab := by
  have h3 := laidMetH.filter (fun x => x.1 == "internal/strconv.uint64pow10") h
  have e : Rows.fnExactSketchTextRow.laid.filter (fun x => x.1 == "internal/strconv.uint64pow10") = [("internal/strconv.uint64pow10", Rows.laid_internal_strconv_uint64pow10)] := by kernel_rfl
  rw [e] at h3
  exact Lib.tabIs_of_head (rest := []) gTab gTabType Tryd.underlying78 Tryd.underlying71 cellsE cellsA h3

set_option maxHeartbeats 4000000 in
theorem walk (v0 : Value) (s : Sk) (F : List Nat) (w : World) (h : RdSk w v0 s F) (hv : s.vast) (ht : Lib.TabIs Tryd.prog w "internal/strconv.uint64pow10" .u64 Lib.pow10Tab) :
    Calls Tryd.prog 3 #[v0] w fun e w' => e = .returned (.bool true) ∧ Below w.heap.size w w' := by
  have HH : Hid (RdSk w v0 s F ∧ s.vast) := ⟨h, hv⟩
  have HTAB : Hid (Lib.TabIs Tryd.prog w "internal/strconv.uint64pow10" .u64 Lib.pow10Tab) := ht
  clear ht
  obtain ⟨cs, rfl, hc7, hone⟩ := h.cells
  have HC : Hid (cs.size = 7 ∧ cs.all (·.oneCell') = true) := ⟨hc7, hone⟩
  have HT : Hid (Blk (w.alloc (.cells cs 25)) w.heap.size cs 25 ∧ Below w.heap.size w (w.alloc (.cells cs 25))) := ⟨Blk.made _ _ _, (Below.refl _ _).alloc (Nat.le_refl _) _⟩
  clear h hv hc7 hone
  go_enter Tryd.func3, Tryd.ntmps3
  go_wp2_with (first | go_skip | (with_reducible refine stopLoad 25 rfl ?_) | (with_reducible refine stopLoad 28 rfl ?_) | (with_reducible refine stopStore 28 rfl ?_))
  refine load_known 25 w.heap.size cs 25 _ HT.out.1 rfl rfl rfl Tryd.underlying25 rfl (lskSize HC.out.1) ?_
  go_wp2_with fail
  refine (szSketch_vast _ s F 1048576 _ (HH.out.1.below HT.out.2) HH.out.2 (by omega) (by omega)).mono ?_
  rintro e w1 ⟨⟨r, rfl, ra, rb, rc⟩, hb1⟩
  have HW1 : Hid (Blk w1 w.heap.size cs 25 ∧ Below w.heap.size w w1) := ⟨HT.out.1.below hb1, Below.next HT.out.2 hb1⟩
  by_cases q : r < 0
  · clear ra rb rc hb1
    go_wp2
    go_ret
    exact ⟨rfl, HW1.out.2⟩
  have HFit : Hid (s.fits) := Sk.fits_of (by have := rb (by omega); omega)
  have q' : 0 ≤ r := by omega
  clear ra rb rc hb1 HT q
  go_wp2_with (first | go_skip | (with_reducible refine stopLoad 25 rfl ?_) | (with_reducible refine stopLoad 28 rfl ?_) | (with_reducible refine stopStore 28 rfl ?_))
  refine load_known 25 w.heap.size cs 25 _ HW1.out.1 rfl rfl rfl Tryd.underlying25 rfl (lskSize HC.out.1) ?_
  go_wp2_with fail
  refine (toSketch_any _ s F _ (HH.out.1.below HW1.out.2) HFit.out).mono ?_
  rintro e w2 ⟨v1, G1, rfl, r1, o1, hb2⟩
  have HW2 : Hid (RdSk w2 v1 s G1 ∧ Blk w2 w.heap.size cs 25 ∧ Below w.heap.size w w2) := ⟨r1, HW1.out.1.below hb2, Below.next HW1.out.2 hb2⟩
  clear r1 o1 hb2
  go_wp2_with fail
  refine (textSpec_any v1 s G1 _ HW2.out.1 HFit.out.wide).mono ?_
  rintro e w3 ⟨rfl, hb3⟩
  have HW3 : Hid (Blk w3 w.heap.size cs 25 ∧ Below w.heap.size w w3) := ⟨HW2.out.2.1.below hb3, Below.next HW2.out.2.2 hb3⟩
  clear hb3 HW1
  go_wp2_with (first | go_skip | (with_reducible refine stopLoad 25 rfl ?_) | (with_reducible refine stopLoad 28 rfl ?_) | (with_reducible refine stopStore 28 rfl ?_))
  refine load_known 25 w.heap.size cs 25 _ HW3.out.1 rfl rfl rfl Tryd.underlying25 rfl (lskSize HC.out.1) ?_
  go_wp2_with fail
  refine (toSketch_any _ s F _ (HH.out.1.below HW3.out.2) HFit.out).mono ?_
  rintro e w4 ⟨v2, G2, rfl, r2, o2, hb4⟩
  obtain ⟨ds, rfl, hd7, hdone⟩ := r2.cells
  have HW4 : Hid (RdSk w4 (.agg ds) s G2 ∧ Blk w4 w.heap.size cs 25 ∧ Below w.heap.size w w4) := ⟨r2, HW3.out.1.below hb4, Below.next HW3.out.2 hb4⟩
  have HD : Hid (ds.size = 7 ∧ ds.all (·.oneCell') = true) := ⟨hd7, hdone⟩
  clear r2 o2 hb4 hd7 hdone HW3 HW2
  go_wp2_with (first | go_skip | (with_reducible refine stopLoad 25 rfl ?_) | (with_reducible refine stopLoad 28 rfl ?_) | (with_reducible refine stopStore 28 rfl ?_))
  refine store_fresh 28 w4.heap.size rfl #[.int .i64 0, .int .i64 0, .int .i64 0, .int .i64 0, .slice none 0 0, .slice none 0 0, .slice none 0 0] ds 28 rfl rfl rfl rfl (skSize HD.out.1) HD.out.1.symm HD.out.2 ?_
  intro W5 hg5 hb5
  have HW5 : Hid (RdSk W5 (.agg ds) s G2 ∧ Blk W5 w.heap.size cs 25 ∧ Below w.heap.size w W5 ∧ Blk W5 w4.heap.size ds 28) := ⟨HW4.out.1.below hb5, HW4.out.2.1.below hb5, Below.next HW4.out.2.2 hb5, hg5⟩
  clear hg5 hb5 HW4
  go_wp2_with (first | go_skip | (with_reducible refine stopLoad 25 rfl ?_) | (with_reducible refine stopLoad 28 rfl ?_) | (with_reducible refine stopStore 28 rfl ?_))
  refine load_known 28 w4.heap.size ds 28 _ HW5.out.2.2.2 rfl rfl rfl Tryd.underlying28 rfl (skSize HD.out.1) ?_
  go_wp2_with fail
  refine (textImpl_any _ s G2 _ HW5.out.1 HFit.out.wide gTab (tab_below gTab HTAB.out HW5.out.2.2.1)).mono ?_
  rintro e W6 ⟨rfl, hb6⟩
  have HW6 : Hid (RdSk W6 (.agg ds) s G2 ∧ Blk W6 w.heap.size cs 25 ∧ Below w.heap.size w W6 ∧ Blk W6 w4.heap.size ds 28) := ⟨HW5.out.1.below hb6, HW5.out.2.1.below hb6, Below.next HW5.out.2.2.1 hb6, HW5.out.2.2.2.below hb6⟩
  clear hb6 HW5
  obtain ⟨b, hb⟩ : ∃ b, b = textN s := ⟨_, rfl⟩
  rw [← hb]
  clear hb
  go_wp2
  have HS : Hid (SkTwo w.heap.size cs w4.heap.size ds W6.drew) := ⟨HW6.out.2.1.drew, HW6.out.2.2.2.drew⟩
  have keepS : ∀ {W W' : World}, SkTwo w.heap.size cs w4.heap.size ds W → Below W.heap.size W W' → SkTwo w.heap.size cs w4.heap.size ds W' := fun h b => ⟨h.1.below b, h.2.below b⟩
  refine wp_region_held (S := SkTwo w.heap.size cs w4.heap.size ds) (by kernel_rfl) ?_
  change wpAnyH _ _ _ _ _ _ _ _ (World.drew _)
  refine takeH (o := ?o1) 0 (.agg ds) ?h1 ?r1
  case h1 => simp only [List.getElem?_toArray, List.getElem?_cons_zero]; rfl
  refine ⟨_, by simp [Act.put]; rfl, by kernel_rfl, by kernel_rfl, by kernel_rfl, fun _ _ _ h => h, (yields_whole 28 w4.heap.size ds 28 _ rfl rfl rfl Tryd.underlying28 rfl (skSize HD.out.1) (fun W hW => hW.2)), HS.out, ?_⟩
  refine takeH (o := ?o2) 1 (.agg cs) ?h2 ?r2
  case h2 => simp only [List.getElem?_toArray, List.getElem?_cons_succ, List.getElem?_cons_zero]; rfl
  refine ⟨_, by simp [Act.put]; rfl, by kernel_rfl, by kernel_rfl, by kernel_rfl, fun _ _ _ h => h, (yields_whole 25 w.heap.size cs 25 _ rfl rfl rfl Tryd.underlying25 rfl (lskSize HC.out.1) (fun W hW => hW.1)), HS.out, ?_⟩
  refine onlyH (o := ?o3) 2 (by kernel_rfl) ?h3 ?r3
  case h3 => simp only [List.getElem?_toArray, List.getElem?_cons_succ, List.getElem?_cons_zero]; rfl
  intro K hK
  refine op_call1 6 _ _ Tryd.f6 (fun v w' => ∃ G, RdSk w' v s G ∧ Below W6.drew.heap.size W6.drew w') rfl rfl Tryd.func6 (by kernel_rfl) (by kernel_rfl) ((toSketch_any _ s F W6.drew (HH.out.1.below HW6.out.2.2.1.drew) HFit.out).mono (by rintro e w' ⟨v, G, rfl, h1, _, h3⟩; exact ⟨_, rfl, G, h1, h3⟩)) ?_
  rintro v3 W7 ⟨G3, r3, b7⟩
  refine ⟨_, by simp [Act.put]; rfl, hK _ _ ⟨keepS HS.out b7, ?_⟩⟩
  have HW7 : Hid (RdSk W7 (.agg ds) s G2 ∧ RdSk W7 v3 s G3 ∧ Below w.heap.size w W7 ∧ SkTwo w.heap.size cs w4.heap.size ds W7) := ⟨(HW6.out.1.below (Below.refl _ _).drew).below b7, r3, Below.next HW6.out.2.2.1.drew b7, keepS HS.out b7⟩
  clear hK r3 b7
  refine onlyH (o := ?o4) 3 (by kernel_rfl) ?h4 ?r4
  case h4 => simp only [List.getElem?_toArray, List.getElem?_cons_succ, List.getElem?_cons_zero]; rfl
  intro K hK
  refine op_call2 8 _ _ _ Tryd.f8 (fun w' => Below W7.heap.size W7 w') (.bool (decide (s = s))) rfl rfl Tryd.func8 (by kernel_rfl) (by kernel_rfl) (eqSketch_any (.agg ds) v3 s s G2 G3 W7 HW7.out.1 HW7.out.2.1 HFit.out.wide HFit.out.wide) ⟨_, by simp [Act.put]; rfl, ?_⟩
  intro W8 b8
  refine hK _ _ ⟨keepS HW7.out.2.2.2 b8, ?_⟩
  have HW8 : Hid (Below w.heap.size w W8 ∧ SkTwo w.heap.size cs w4.heap.size ds W8) := ⟨Below.next HW7.out.2.2.1 b8, keepS HW7.out.2.2.2 b8⟩
  clear hK b8
  refine takeH (o := ?o5) 4 (.bool false) ?h5 ?r5
  case h5 => simp only [List.getElem?_toArray, List.getElem?_cons_succ, List.getElem?_cons_zero]; rfl
  refine ⟨_, by simp [Act.put]; rfl, by kernel_rfl, by kernel_rfl, by kernel_rfl, fun _ _ _ h => h, (.inl ⟨rfl, fun W _ => by go_simp⟩), HW8.out.2, ?_⟩
  refine wpAnyH_done (by kernel_rfl) ?_ _
  go_wp2
  go_ret
  exact ⟨rfl, HW8.out.1⟩
theorem contract (H : Type) (enc : TypeId × Value → H) (W : World) (base : Nat) (args : Array Value) (ds gs : List (DataW H)) (before : List MemPlace)
    (hval0 : ∀ (j : Nat) t v, Tryd.f3.params[j]? = some t → args[j]? = some v → Value.okWide Tryd.prog W .any base t v)
    (hW : DataW.Whole enc Tryd.prog Tryd.f3.params.toList Rows.fnExactSketchTextSpec.vars false W args.toList ds gs before) (hL : laidMetH Tryd.prog Rows.fnExactSketchTextRow.laid W) :
    Calls Tryd.prog 3 args W fun e W' => ∃ v, e = .returned v ∧ Rows.fnExactSketchTextSpec.post enc Tryd.prog Tryd.f3 false true false false W args v W' := by
  have hval := hval0
  have hW' := hW
  obtain ⟨p, q, hA0, hV, rfl, hfz, hnd⟩ := hW
  have hA : DataW.TrodAll enc Tryd.prog W 0 (fun _ => true) true Tryd.f3.params.toList args.toList ds p := hA0
  rw [Tryd.params3] at hA hval
  obtain ⟨v0, vs0, d0, ds0, p0, q0, hargs, rfl, rfl, h0, r0⟩ := trodAll_cons hA
  obtain ⟨rfl, rfl, rfl⟩ := trodAll_nil r0
  obtain rfl : args = #[v0] := by cases args; simp_all
  obtain ⟨rfl, rfl⟩ := trodVars_none hV
  have k0 := h0
  have lt0 : ∀ x ∈ p0, x.block < W.heap.size := by obtain ⟨m, hm⟩ := k0; exact DataW.trod_lt m _ _ _ hm
  obtain ⟨s, F, hR, hv⟩ := open_sk (hval 0 25 v0 rfl rfl) h0
  clear hA0 hval0
  refine (walk v0 s F W hR hv (table hL)).mono fun e W' ⟨he, bel⟩ => ?_
  subst he
  exact ⟨_, rfl, _, _, _, [], _, [], hW', trodAll_mk1 (shut_bool Tryd.underlying4 _), (trodAll_cons_mk (Below.trod laidOut (by kernel_rfl) (of_decide_eq_true (by kernel_rfl)) k0 bel lt0) trodAll_mk0), rfl, bel.frame _, fun h => by cases h⟩
/-- The cells that a table's datum stands for. -/
def cellsOfData : DataW Unit → Array Value
  | .agg l => (l.map fun d => match d with | .lit (.int k n) => Value.int k n | _ => undef).toArray
  | _ => #[]
def setBlock (cs : Array Value) : Obj → Obj
  | .cells _ t frozen => .cells cs t frozen
  | o => o
/-- A world for the witness: the settled one, each table holding what its initialiser lays. -/
noncomputable def laidWorld (os : Os) : World :=
  { World.holding Tryd.prog os ⟨#[], #[], []⟩ with heap := (((World.holding Tryd.prog os ⟨#[], #[], []⟩).heap.modify 1 (setBlock (cellsOfData Rows.laid_internal_strconv_uint64pow10))).modify 2 (setBlock (cellsOfData Rows.laid_math_bits_deBruijn32tab))).modify 3 (setBlock (cellsOfData Rows.laid_math_bits_deBruijn64tab)) }
theorem gDb32 : Tryd.prog.globalNamed "math/bits.deBruijn32tab" = some 2 := by kernel_rfl
theorem gDb64 : Tryd.prog.globalNamed "math/bits.deBruijn64tab" = some 3 := by kernel_rfl
theorem laid_met (os : Os) : laidMet Tryd.prog Rows.fnExactSketchTextRow.laid ((laidWorld os).forCall (fun _ _ => 0) ⟨#[], #[.agg #[.int .i64 0, .int .i64 0, .int .i64 0, .int .i64 0, .slice none 0 0, .slice none 0 0, .slice none 0 0]], []⟩).memory :=
  laidMet_of_run' 8 (by kernel_rfl) (by kernel_rfl)
theorem reads (os : Os) {H : Type} (enc : TypeId × Value → H) : ∃ places, DataW.whole enc Tryd.prog ((laidWorld os).forCall (fun _ _ => 0) ⟨#[], #[.agg #[.int .i64 0, .int .i64 0, .int .i64 0, .int .i64 0, .slice none 0 0, .slice none 0 0, .slice none 0 0]], []⟩).memory Tryd.f3.params.toList Rows.fnExactSketchTextSpec.vars false #[Value.agg #[.int .i64 0, .int .i64 0, .int .i64 0, .int .i64 0, .slice none 0 0, .slice none 0 0, .slice none 0 0]].toList 8 = some ([.agg [.lit (.int .i64 0), .lit (.int .i64 0), .lit (.int .i64 0), .lit (.int .i64 0), .nil, .nil, .nil]], [], places) :=
  ⟨[], by kernel_rfl⟩

set_option maxRecDepth 100000 in
theorem lifted (os : Os) (started : os.Started) (H : Type) (enc : TypeId × Value → H) (F : Stop.Interp) :
    ReturnsInHanded {} Tryd.checked os 3 .any ((OpenSpec.ofChange Rows.fnExactSketchTextSpec).preRow enc Tryd.prog Tryd.f3 Rows.fnExactSketchTextRow.domain false Rows.fnExactSketchTextRow.laid) (((OpenSpec.ofChange Rows.fnExactSketchTextSpec).at F).post enc Tryd.prog Tryd.f3 false true false false) := by
  obtain ⟨places, hx⟩ := reads os enc
  refine returnsInHanded_of_row (C := Tryd.checked) (s := OpenSpec.ofChange Rows.fnExactSketchTextSpec) own started (by kernel_rfl) Tryd.func3
    (witness_row_at (enc := enc) (C := Tryd.checked) false (laidWorld os) #[.agg #[.int .i64 0, .int .i64 0, .int .i64 0, .int .i64 0, .slice none 0 0, .slice none 0 0, .slice none 0 0]] rfl (by kernel_rfl) (by kernel_rfl) (by kernel_rfl)
      (OpenSpec.preRow_of_cond 8 hx (by kernel_rfl) (fun k hk => by cases hk) (by kernel_rfl) (laid_met os))) ?_
  intro W base args ds gs before hval hW _ _ _ hL _ _
  exact contract H enc W base args ds gs before hval hW hL

theorem said : Rows.FnExactSketchTextSaid :=
  OpenClaim.holds_of_cond 3 Tryd.f3 rfl rfl rfl rfl rfl rfl rfl ⟨rfl, rfl, rfl, rfl, rfl⟩ rfl rfl rfl rfl rfl (by kernel_rfl) Tryd.func3 (by kernel_rfl)
    (of_decide_eq_true (by kernel_rfl)) (by unfold Func.isWrapper; first | (rw [if_pos (by decide +kernel)]; kernel_rfl) | (rw [if_neg (by decide +kernel)]; exact ⟨rfl, rfl⟩))
    (fun os started H enc _ F => by rw [OpenClaim.pre_eq_preRow]; exact lifted os started H enc F)

theorem plain (f : FuncId) (fn : Func) (hf : Tryd.pinned.checked.prog.funcNamed "loop.example/g00491/laws.FnExactSketchText" = some f) (hfn : Tryd.pinned.checked.prog.funcs[f]? = some fn) :
    false = Tryd.pinned.checked.prog.looks [] ∧ ∀ (j : Nat) t, fn.params[j]? = some t → Tryd.pinned.checked.prog.wantsStandIn t = false := by
  obtain rfl : f = 3 := Option.some.inj ((show Tryd.prog.funcNamed "loop.example/g00491/laws.FnExactSketchText" = some 3 by kernel_rfl).symm.trans hf) |>.symm
  obtain rfl : fn = Tryd.f3 := (Option.some.inj (Tryd.func3.symm.trans hfn)).symm
  refine ⟨by kernel_rfl, fun j t ht => ?_⟩
  rw [Tryd.params3] at ht
  obtain rfl : t = 25 := by simpa using Array.mem_of_getElem? ht
  exact (show Tryd.prog.wantsStandIn 25 = false by kernel_rfl)

theorem proved : Rows.FnExactSketchTextCardSaid :=
  Claim7.holds_tied_plain_at .later [] _ _ _ _ said (fun _ h => by cases h) (by kernel_rfl) (fun _ h => by cases h) fnExactSketchText_row_tie rfl ⟨rfl, rfl⟩ (by kernel_rfl) rfl plain (by kernel_rfl)
#print axioms proved
end Go.Proofs.YtlapdamopclojanDoor.fnExactSketchText
