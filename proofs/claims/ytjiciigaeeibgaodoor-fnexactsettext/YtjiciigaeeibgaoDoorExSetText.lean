/- For every slice of spans (no condition): laws.FnExactSetText returns true, and its argument reads afterwards as it did: the program's SetText answers as the model's and writes nothing into its argument; the library's tables start as the program's text lays them (the card ties them). -/
import Derived.Test.YtjiciigaeeibgaoDoorSpTextJ
import Derived.Test.YtjiciigaeeibgaoDoorCards
import Derived.Test.YtjiciigaeeibgaoDoorTie
import Derived.ProofKit
import Derived.OpenShut
import Derived.ShutString
import Derived.Below
import Derived.Deep.DeepHandedRow
namespace Go.Proofs.YtjiciigaeeibgaoDoor.fnExactSetText
open Go.ChangeShapes Go.WideShapes Go.ChangeAt Go.RowKit
set_option linter.unusedVariables false
theorem own : ownKnob Tryd.prog.godebug = none := by kernel_rfl
theorem gTab : Tryd.prog.globalNamed "internal/strconv.uint64pow10" = some 1 := by kernel_rfl
theorem gTabType : (Tryd.prog.globals[1]?).map (·.type) = some 62 := by kernel_rfl
theorem cellsA : Tryd.prog.cellsOf 62 = 20 := by kernel_rfl
theorem cellsE : Tryd.prog.cellsOf 55 = 1 := by kernel_rfl
/-- What the row's list gives: the table's cells hold its twenty numbers. -/
theorem table {W : World} (h : laidMetH Tryd.prog Rows.fnExactSetTextRow.laid W) : Lib.TabIs Tryd.prog W "internal/strconv.uint64pow10" .u64 Lib.pow10Tab := by
  have h3 := laidMetH.filter (fun x => x.1 == "internal/strconv.uint64pow10") h
  have e : Rows.fnExactSetTextRow.laid.filter (fun x => x.1 == "internal/strconv.uint64pow10") = [("internal/strconv.uint64pow10", Rows.laid_internal_strconv_uint64pow10)] := by kernel_rfl
  rw [e] at h3
  exact Lib.tabIs_of_head (rest := []) gTab gTabType Tryd.underlying62 Tryd.underlying55 cellsE cellsA h3

set_option maxHeartbeats 4000000 in
theorem walk (a00 : Option Addr) (n00 k00 : Nat) (ps : Sp) (F0 : List Nat) (w : World) (h0 : RdP w a00 n00 ps F0) (g0 : n00 ≤ 9223372036854775807) (h64 : ps.in64) (ht : TabAt w) :
    Calls Tryd.prog 3 #[.slice a00 n00 k00] w fun e w' => e = .returned (.bool true) ∧ Below w.heap.size w w' := by
  have HH : Hid (RdP w a00 n00 ps F0 ∧ True) := ⟨h0, trivial⟩
  have HLEN : Hid (ps.length = n00 ∧ True) := ⟨h0.length, trivial⟩
  have H64 : Hid (ps.in64 ∧ TabAt w) := ⟨h64, ht⟩
  clear h64 ht
  have BEL : Hid (Below w.heap.size w w) := Below.refl _ _
  clear h0
  go_enter Tryd.func3, Tryd.ntmps3
  go_wp2_with fail
  refine (szSpanS_vast _ _ _ 1048576 _ g0 (by omega) (by omega)).mono ?_
  rintro e x0 ⟨⟨r0, rfl, ra, rb, rc⟩, hw⟩
  have hw' := hw.symm
  subst hw'
  clear hw
  by_cases q : r0 < 0
  · clear ra rb rc
    go_wp2
    go_ret
    exact ⟨rfl, BEL.out⟩
  have q00 : 0 ≤ r0 := by omega
  have q01 : r0 ≤ 1048576 := by omega
  have HF0 : Hid (n00 ≤ 1048576) := by have := rb q00; show _ ≤ _; omega
  have HS0 : Hid (r0 = 1048576 - n00) := rb q00
  clear ra rb rc q
  go_wp2_with fail
  refine (toSpanS_cap _ _ _ ps F0 _ (HH.out.1.below BEL.out) HF0.out).mono ?_
  rintro e w1 ⟨as0, ls0, cs0, Fs0, rfl, rr, oo, hb, nn, cc⟩
  have BEL : Hid (Below w.heap.size w w1) := Below.next BEL.out hb
  have Rs0 : Hid (RdP w1 as0 ls0 ps Fs0) := rr
  have Os0 : Hid (Own w.heap.size w1 Fs0 ∧ (as0 = none → cs0 = 0) ∧ ls0 ≤ 1048576 ∧ w.heap.size ≤ w1.heap.size ∧ ls0 ≤ cs0) := ⟨oo, nn, by rw [← rr.length, HLEN.out.1]; exact HF0.out, hb.size, cc⟩
  clear rr oo hb nn cc
  go_wp2_with fail
  refine (textSpecP_any _ _ _ ps Fs0 _ Rs0.out Os0.out.2.2.1 H64.out.1).mono ?_
  rintro e w2 ⟨rfl, hb⟩
  have BEL : Hid (Below w.heap.size w w2) := Below.next BEL.out hb
  have Rs0 : Hid (RdP w2 as0 ls0 ps Fs0) := Rs0.out.below hb
  clear hb Rs0 Os0
  go_wp2_with fail
  refine (toSpanS_cap _ _ _ ps F0 _ (HH.out.1.below BEL.out) HF0.out).mono ?_
  rintro e w3 ⟨ax0, lx0, cx0, Fx0, rfl, rr, oo, hb, nn, cc⟩
  have BEL : Hid (Below w.heap.size w w3) := Below.next BEL.out hb
  have Rx0 : Hid (RdP w3 ax0 lx0 ps Fx0) := rr
  have Ox0 : Hid (Own w2.heap.size w3 Fx0 ∧ (ax0 = none → cx0 = 0) ∧ lx0 ≤ 1048576 ∧ w2.heap.size ≤ w3.heap.size ∧ lx0 ≤ cx0) := ⟨oo, nn, by rw [← rr.length, HLEN.out.1]; exact HF0.out, hb.size, cc⟩
  clear rr oo hb nn cc
  go_wp2_with fail
  refine (textImplP_any _ _ _ ps Fx0 _ Rx0.out Ox0.out.2.2.1 H64.out.1 gTab (tab_below gTab H64.out.2 BEL.out)).mono ?_
  rintro e w4 ⟨rfl, hb⟩
  have BEL : Hid (Below w.heap.size w w4) := Below.next BEL.out hb
  have Rx0 : Hid (RdP w4 ax0 lx0 ps Fx0) := Rx0.out.below hb
  clear hb
  obtain ⟨vv, hv⟩ : ∃ v, v = ps.text := ⟨_, rfl⟩
  rw [← hv]
  clear hv
  go_wp2_with fail
  refine (toSpanS_cap _ _ _ ps F0 _ (HH.out.1.below BEL.out) HF0.out).mono ?_
  rintro e w5 ⟨ax0e4, lx0e4, cx0e4, Fx0e4, rfl, rr, oo, hb, nn, cc⟩
  have BEL : Hid (Below w.heap.size w w5) := Below.next BEL.out hb
  have Rx0 : Hid (RdP w5 ax0 lx0 ps Fx0) := Rx0.out.below hb
  have Rx0e4 : Hid (RdP w5 ax0e4 lx0e4 ps Fx0e4) := rr
  have Ox0e4 : Hid (Own w4.heap.size w5 Fx0e4 ∧ (ax0e4 = none → cx0e4 = 0) ∧ lx0e4 ≤ 1048576 ∧ w4.heap.size ≤ w5.heap.size ∧ lx0e4 ≤ cx0e4) := ⟨oo, nn, by rw [← rr.length, HLEN.out.1]; exact HF0.out, hb.size, cc⟩
  clear rr oo hb nn cc
  go_wp2_with fail
  refine (eqSpanS_any _ _ _ _ _ _ ps ps Fx0 Fx0e4 _ Rx0.out Rx0e4.out (by have := Ox0.out.2.2.1; omega) (by have := Ox0e4.out.2.2.1; omega)).mono ?_
  rintro e w6 ⟨rfl, hb⟩
  have BEL : Hid (Below w.heap.size w w6) := Below.next BEL.out hb
  have Rx0 : Hid (RdP w6 ax0 lx0 ps Fx0) := Rx0.out.below hb
  have Rx0e4 : Hid (RdP w6 ax0e4 lx0e4 ps Fx0e4) := Rx0e4.out.below hb
  clear hb
  rw [show decide (ps = ps) = true from decT rfl]
  clear Rx0e4 Ox0e4
  go_wp2
  go_ret
  exact ⟨rfl, BEL.out⟩
theorem contract (H : Type) (enc : TypeId × Value → H) (W : World) (base : Nat) (args : Array Value) (ds gs : List (DataW H)) (before : List MemPlace)
    (hval0 : ∀ (j : Nat) t v, Tryd.f3.params[j]? = some t → args[j]? = some v → Value.okWide Tryd.prog W .any base t v)
    (hW : DataW.Whole enc Tryd.prog Tryd.f3.params.toList Rows.fnExactSetTextSpec.vars false W args.toList ds gs before) (hL : laidMetH Tryd.prog Rows.fnExactSetTextRow.laid W) :
    Calls Tryd.prog 3 args W fun e W' => ∃ v, e = .returned v ∧ Rows.fnExactSetTextSpec.post enc Tryd.prog Tryd.f3 false true false false W args v W' := by
  have hval := hval0
  have hW' := hW
  obtain ⟨p, q, hA0, hV, rfl, hfz, hnd⟩ := hW
  have hA : DataW.TrodAll enc Tryd.prog W 0 (fun _ => true) true Tryd.f3.params.toList args.toList ds p := hA0
  rw [Tryd.params3] at hA hval
  obtain ⟨v0, vs0, d0, ds0, p0, q0, hargs, rfl, rfl, h0, r0⟩ := trodAll_cons hA
  obtain ⟨rfl, rfl, rfl⟩ := trodAll_nil r0
  obtain rfl : args = #[v0] := by cases args; simp_all
  obtain ⟨rfl, rfl⟩ := trodVars_none hV
  have k0 := h0
  have lt0 : ∀ x ∈ p0, x.block < W.heap.size := by obtain ⟨m, hm⟩ := k0; exact DataW.trod_lt m _ _ _ hm
  obtain ⟨a0, n0, c0, ps0, F0, rfl, hR0, hb0, hf0⟩ := open_spans (hval 0 22 v0 rfl rfl) h0
  clear hA0 hval0
  refine (walk a0 n0 c0 ps0 F0 W hR0 hb0 hf0 (table hL)).mono fun e W' ⟨he, bel⟩ => ?_
  subst he
  exact ⟨_, rfl, _, _, _, [], _, [], hW', trodAll_mk1 (shut_bool Tryd.underlying4 _), (trodAll_cons_mk (Below.trod sp_laidOut (by kernel_rfl) (of_decide_eq_true (by kernel_rfl)) k0 bel lt0) trodAll_mk0), rfl, bel.frame _, fun h => by cases h⟩
/-- The cells that a table's datum stands for. -/
def cellsOfData : DataW Unit → Array Value
  | .agg l => (l.map fun d => match d with | .lit (.int k n) => Value.int k n | _ => undef).toArray
  | _ => #[]
def setBlock (cs : Array Value) : Obj → Obj
  | .cells _ t frozen => .cells cs t frozen
  | o => o
/-- A world for the witness: the settled one, each table holding what its initialiser lays. -/
noncomputable def laidWorld (os : Os) : World :=
  { World.holding Tryd.prog os ⟨#[], #[], []⟩ with heap := (((World.holding Tryd.prog os ⟨#[], #[], []⟩).heap.modify 1 (setBlock (cellsOfData Rows.laid_internal_strconv_uint64pow10))).modify 2 (setBlock (cellsOfData Rows.laid_math_bits_deBruijn32tab))).modify 3 (setBlock (cellsOfData Rows.laid_math_bits_deBruijn64tab)) }
theorem gDb32 : Tryd.prog.globalNamed "math/bits.deBruijn32tab" = some 2 := by kernel_rfl
theorem gDb64 : Tryd.prog.globalNamed "math/bits.deBruijn64tab" = some 3 := by kernel_rfl
theorem laid_met (os : Os) : laidMet Tryd.prog Rows.fnExactSetTextRow.laid ((laidWorld os).forCall (fun _ _ => 0) ⟨#[], #[.slice none 0 0], []⟩).memory :=
  laidMet_of_run' 8 (by kernel_rfl) (by kernel_rfl)
theorem reads (os : Os) {H : Type} (enc : TypeId × Value → H) : ∃ places, DataW.whole enc Tryd.prog ((laidWorld os).forCall (fun _ _ => 0) ⟨#[], #[.slice none 0 0], []⟩).memory Tryd.f3.params.toList Rows.fnExactSetTextSpec.vars false #[Value.slice none 0 0].toList 8 = some ([.nil], [], places) :=
  ⟨[], by kernel_rfl⟩

set_option maxRecDepth 100000 in
theorem lifted (os : Os) (started : os.Started) (H : Type) (enc : TypeId × Value → H) (F : Stop.Interp) :
    ReturnsInHanded {} Tryd.checked os 3 .any ((OpenSpec.ofChange Rows.fnExactSetTextSpec).preRow enc Tryd.prog Tryd.f3 Rows.fnExactSetTextRow.domain false Rows.fnExactSetTextRow.laid) (((OpenSpec.ofChange Rows.fnExactSetTextSpec).at F).post enc Tryd.prog Tryd.f3 false true false false) := by
  obtain ⟨places, hx⟩ := reads os enc
  refine returnsInHanded_of_row (C := Tryd.checked) (s := OpenSpec.ofChange Rows.fnExactSetTextSpec) own started (by kernel_rfl) Tryd.func3
    (witness_row_at (enc := enc) (C := Tryd.checked) false (laidWorld os) #[.slice none 0 0] rfl (by kernel_rfl) (by kernel_rfl) (by kernel_rfl)
      (OpenSpec.preRow_of_cond 8 hx (by kernel_rfl) (fun k hk => by cases hk) (by kernel_rfl) (laid_met os))) ?_
  intro W base args ds gs before hval hW _ _ _ hL _ _
  exact contract H enc W base args ds gs before hval hW hL

theorem said : Rows.FnExactSetTextSaid :=
  OpenClaim.holds_of_cond 3 Tryd.f3 rfl rfl rfl rfl rfl rfl rfl ⟨rfl, rfl, rfl, rfl, rfl⟩ rfl rfl rfl rfl rfl (by kernel_rfl) Tryd.func3 (by kernel_rfl)
    (of_decide_eq_true (by kernel_rfl)) (by unfold Func.isWrapper; first | (rw [if_pos (by decide +kernel)]; kernel_rfl) | (rw [if_neg (by decide +kernel)]; exact ⟨rfl, rfl⟩))
    (fun os started H enc _ F => by rw [OpenClaim.pre_eq_preRow]; exact lifted os started H enc F)

theorem plain (f : FuncId) (fn : Func) (hf : Tryd.pinned.checked.prog.funcNamed "loop.example/g00491/laws.FnExactSetText" = some f) (hfn : Tryd.pinned.checked.prog.funcs[f]? = some fn) :
    false = Tryd.pinned.checked.prog.looks [] ∧ ∀ (j : Nat) t, fn.params[j]? = some t → Tryd.pinned.checked.prog.wantsStandIn t = false := by
  obtain rfl : f = 3 := Option.some.inj ((show Tryd.prog.funcNamed "loop.example/g00491/laws.FnExactSetText" = some 3 by kernel_rfl).symm.trans hf) |>.symm
  obtain rfl : fn = Tryd.f3 := (Option.some.inj (Tryd.func3.symm.trans hfn)).symm
  refine ⟨by kernel_rfl, fun j t ht => ?_⟩
  rw [Tryd.params3] at ht
  obtain rfl : t = 22 := by simpa using Array.mem_of_getElem? ht
  exact (show Tryd.prog.wantsStandIn 22 = false by kernel_rfl)

theorem proved : Rows.FnExactSetTextCardSaid :=
  Claim7.holds_tied_plain_at .later [] _ _ _ _ said (fun _ h => by cases h) (by kernel_rfl) (fun _ h => by cases h) fnExactSetText_row_tie rfl ⟨rfl, rfl⟩ (by kernel_rfl) rfl plain (by kernel_rfl)
#print axioms proved
end Go.Proofs.YtjiciigaeeibgaoDoor.fnExactSetText
