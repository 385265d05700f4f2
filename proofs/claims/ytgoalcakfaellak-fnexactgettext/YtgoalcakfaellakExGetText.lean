/- For every byte slice and every number (no condition): laws.FnExactGetText returns true, and its arguments read afterwards as they did: the program's GetText answers as the model's and writes nothing. -/
import Derived.Test.YtgoalcakfaellakGetText
import Derived.Test.YtgoalcakfaellakBytes
import Derived.Test.YtgoalcakfaellakCopy
import Derived.Test.YtgoalcakfaellakRows
import Derived.WalkKit
import Derived.ProofKit
import Derived.OpenShut
import Derived.ShutString
import Derived.ChangeOld
import Derived.Below
namespace Go.Proofs.Ytgoalcakfaellak.fnExactGetText
open Go.ChangeShapes Go.WideShapes Go.ChangeAt Go.RowKit
open Go.ChangeMaps (open_string shut_string)
set_option linter.unusedVariables false

theorem own : ownKnob Try.prog.godebug = none := by kernel_rfl
theorem laidOut : laidOutB Try.prog = true := by kernel_rfl

def IsRow (k : IntKind) (w : World) (a : Option Addr) (len cap : Nat) (zs : List Int) : Prop :=
  (a = none ∧ len = 0 ∧ cap = 0 ∧ zs = []) ∨
  ∃ x, a = some x ∧ len ≤ cap ∧ cap ≤ maxLen ∧ zs.length = cap ∧ (∀ i, i < zs.length → w.cell? (x.add i) = some (.int k (zs.getD i 0))) ∧ ∀ n ∈ zs, (Lit.int k n).wf = true

theorem rd_of {w : World} {a : Option Addr} {len cap : Nat} {zs : List Int} (h : IsRow .u8 w a len cap zs) : RdB w a len (zs.take len) := by
  rcases h with ⟨rfl, rfl, rfl, rfl⟩ | ⟨x, rfl, hl, _, hz, hcell, hwz⟩
  · exact RdB.nil
  · refine ⟨by simp; omega, fun n hn => byte_wf (hwz n (List.mem_of_mem_take hn)), ?_⟩
    by_cases h0 : len = 0
    · exact .inl h0
    · obtain ⟨b, off, spot⟩ := x
      have hspot : spot = none := by simpa [Addr.add] using World.cell?_spot (hcell 0 (by omega))
      subst hspot
      refine .inr ⟨b, off, rfl, fun i hi => ?_⟩
      have := hcell i (by omega)
      rw [add_plain] at this
      simpa [List.getElem?_take, hi] using this

theorem walk (a0 : Option Addr) (len0 cap0 : Nat) (z0 : List Int) (a1 : Int) (w : World) (w0 : IsRow .u8 w a0 len0 cap0 z0) (w1 : (Lit.int .i64 a1).wf = true) :
    Calls Try.prog 5 #[.slice a0 len0 cap0, .int .i64 a1] w fun e w' => e = .returned (.bool true) ∧ Below w.heap.size w w' := by
  have hR := rd_of w0
  generalize z0.take len0 = zs at hR
  clear w0 w1
  by_cases hbig : 1048576 < len0
  · go_enter Try.func5, Try.ntmps5
    clear hR
    go_wp2
    go_ret
    exact ⟨rfl, Below.refl _ _⟩
  · have hlen : len0 ≤ 1048576 := by omega
    have HR : Hid (RdB w a0 len0 zs) := hR
    have Hrange : Hid (∀ n ∈ zs, 0 ≤ n ∧ n ≤ 255) := hR.range
    clear hR
    have hd : decide (zs = zs) = true := by simp
    have key : ∀ (n : ByteArray) (m : Int) (t : Bool), outT (tres zs a1) = .tuple #[.string n, .int .i64 m, .bool t] → Calls Try.prog 5 #[.slice a0 len0 cap0, .int .i64 a1] w fun e w' => e = .returned (.bool true) ∧ Below w.heap.size w w' := by
      intro n m t ho
      have HO : Hid (outT (tres zs a1) = .tuple #[.string n, .int .i64 m, .bool t]) := ho
      have e2 : (m != m) = false := by simp
      have e3 : (t != t) = false := by simp
      clear ho
      go_enter Try.func5, Try.ntmps5
      go_wp2_with fail
      refine (toByteS_any a0 len0 cap0 zs _ HR.out hlen).mono ?_
      rintro e x1 ⟨rfl, hown1, hb1⟩
      have R1 := RdB.of_own hown1 Hrange.out
      clear hown1
      go_wp2_with fail
      refine (textSpec_any _ len0 len0 a1 zs _ R1 hlen (Nat.le_refl _) (by simp)).mono ?_
      rintro e x1' ⟨rfl, hb1'⟩
      rw [HO.out]
      have hb1 := hb1.trans (hb1'.mono hb1.size)
      clear R1 hb1'
      have R0 := HR.out.below hb1
      go_wp2_with fail
      refine (toByteS_any a0 len0 cap0 zs _ R0 hlen).mono ?_
      rintro e x2 ⟨rfl, hown2, hb2⟩
      have R2 := RdB.of_own hown2 Hrange.out
      have hb12 : Below w.heap.size w x2 := hb1.trans (hb2.mono hb1.size)
      clear hown2 hb1 hb2 R0
      go_wp2_with fail
      refine (textImpl_any _ len0 len0 a1 zs _ R2 hlen (Nat.le_refl _) (by simp)).mono ?_
      rintro e x3 ⟨rfl, hb3⟩
      rw [HO.out]
      have R2 := R2.below hb3
      have hb13 : Below w.heap.size w x3 := hb12.trans (hb3.mono hb12.size)
      have R0 := HR.out.below hb13
      clear hb3 hb12
      go_wp2_with fail
      refine (toByteS_any a0 len0 cap0 zs _ R0 hlen).mono ?_
      rintro e x4 ⟨rfl, hown4, hb4⟩
      have R4 := RdB.of_own hown4 Hrange.out
      have R2 := R2.below hb4
      have hb14 : Below w.heap.size w x4 := hb13.trans (hb4.mono hb13.size)
      clear hown4 hb13 hb4 R0
      go_wp2_with fail
      refine (eqByteS_any _ _ len0 len0 len0 len0 zs zs _ R2 R4 (by omega) (by omega)).mono ?_
      rintro e x5 ⟨rfl, hb5⟩
      have hb15 : Below w.heap.size w x5 := hb14.trans (hb5.mono hb14.size)
      clear hb5 hb14 R2 R4
      go_wp2
      go_ret
      exact ⟨rfl, hb15⟩
    cases hres : tres zs a1 with
    | none => exact key ⟨#[]⟩ 0 false (by rw [hres]; rfl)
    | some x => exact key x.1 x.2 true (by rw [hres]; rfl)

set_option maxRecDepth 100000 in
theorem lifted (os : Os) (started : os.Started) (H : Type) (enc : TypeId × Value → H) :
    ReturnsInHanded {} Try.checked os 5 .any (Rows.fnExactGetTextSpec.pre6 enc Try.prog Try.f5 Rows.fnExactGetTextRow.domain false) (Rows.fnExactGetTextSpec.post enc Try.prog Try.f5 false true false false) := by
  refine returnsInHanded_of_change (C := Try.checked) own started (by kernel_rfl) Try.func5
    (ChangeSpec.witness6 (enc := enc) (C := Try.checked) false ⟨#[], #[.slice none 0 0, .int .i64 0], []⟩ 8 (by kernel_rfl) (by kernel_rfl) (by kernel_rfl) (by kernel_rfl)) ?_
  intro W base args ds gs before hval0 hW hcnd _
  have hval : ∀ (j : Nat) t v, Try.f5.params[j]? = some t → args[j]? = some v → Value.okWide Try.prog W .any base t v := hval0
  have hW' := hW
  obtain ⟨p, q, hA0, hV, rfl, hfz, hnd⟩ := hW
  have hA : DataW.TrodAll enc Try.prog W 0 (fun _ => true) true Try.f5.params.toList args.toList ds p := hA0
  rw [Try.params5] at hA hval
  obtain ⟨v0, vs0, d0, ds0, p0, q0, hargs, rfl, rfl, h0, r0⟩ := trodAll_cons hA
  obtain ⟨v1, vs1, d1, ds1, p1, q1, rfl, rfl, rfl, h1, r1⟩ := trodAll_cons r0
  obtain ⟨rfl, rfl, rfl⟩ := trodAll_nil r1
  obtain rfl : args = #[v0, v1] := by cases args; simp_all
  obtain ⟨rfl, rfl⟩ := trodVars_none hV
  obtain ⟨a0, len0, cap0, rfl⟩ := okWide_slice Try.underlying22 (hval 0 22 v0 rfl rfl)
  have k0 := h0
  have lt0 : ∀ x ∈ p0, x.block < W.heap.size := by obtain ⟨m, hm⟩ := k0; exact DataW.trod_lt m _ _ _ hm
  obtain ⟨z0, w0⟩ : ∃ zs, IsRow .u8 W a0 len0 cap0 zs := by
    obtain ⟨fuel, hf⟩ := h0
    rcases open_ints Try.underlying22 Try.underlying5 (by kernel_rfl) hf with ⟨hcs, _⟩ | ⟨x, l, c, zs, hcs, _, hl, hm, hz, _, hcell, hwz⟩
    · simp [Value.cells] at hcs
      obtain ⟨rfl, rfl, rfl⟩ := hcs
      exact ⟨[], .inl ⟨rfl, rfl, rfl, rfl⟩⟩
    · simp [Value.cells] at hcs
      obtain ⟨rfl, rfl, rfl⟩ := hcs
      exact ⟨zs, .inr ⟨_, rfl, hl, hm, by simpa using hz, hcell, hwz⟩⟩
  obtain ⟨a1, rfl, rfl, rfl, w1⟩ := open_int Try.underlying3 (hval 1 3 v1 rfl rfl) h1
  clear hA0 hval0
  refine (walk a0 len0 cap0 z0 a1 W w0 w1).mono fun e W' ⟨he, bel⟩ => ?_
  subst he
  exact ⟨_, rfl, _, _, _, [], _, [], hW', trodAll_mk1 (shut_bool Try.underlying4 _), (trodAll_cons_mk (Below.trod laidOut (by kernel_rfl) (of_decide_eq_true (by kernel_rfl)) k0 bel lt0) (trodAll_cons_mk (shut_int Try.underlying3 w1) trodAll_mk0)), rfl, bel.frame _, fun h => by cases h⟩

theorem over : Rows.fnExactGetTextRow.holds Try.pinned (OpenSpec.ofChange Rows.fnExactGetTextSpec) :=
  OpenClaim.holds_of_wide 5 Try.f5 rfl rfl rfl rfl rfl rfl rfl ⟨rfl, rfl, rfl, rfl, rfl⟩ rfl rfl rfl rfl rfl (by kernel_rfl) Try.func5 (by kernel_rfl)
    (of_decide_eq_true (by kernel_rfl)) (by unfold Func.isWrapper; first | (rw [if_pos (by decide +kernel)]; kernel_rfl) | (rw [if_neg (by decide +kernel)]; exact ⟨rfl, rfl⟩))
    (fun os started H enc _ => lifted os started H enc)

theorem proved : Rows.FnExactGetTextSaid := over
#print axioms proved
end Go.Proofs.Ytgoalcakfaellak.fnExactGetText
