/- For every text and every byte (no condition): laws.FnExactParts returns true, and its arguments read afterwards as they did: the program's Parts answers as the model's, at each call anew, in memory of its own. -/
import Derived.Test.YtgoalcakfaellakPartsImpl
import Derived.Test.YtgoalcakfaellakMarkTexts
import Derived.Test.YtgoalcakfaellakRows
import Derived.WalkKit
import Derived.ProofKit
import Derived.OpenShut
import Derived.ShutString
namespace Go.Proofs.Ytgoalcakfaellak.fnExactParts
open Go.ChangeShapes Go.WideShapes Go.ChangeAt Go.RowKit
open Go.ChangeMaps (open_string shut_string)
set_option linter.unusedVariables false      -- a walk need not use every 'w<i>' (that an integer argument fits its kind)

theorem own : ownKnob Try.prog.godebug = none := by kernel_rfl



theorem walk (a0 : ByteArray) (a1 : Int) (w0 : a0.size ≤ maxLen) (w1 : (Lit.int .u8 a1).wf = true) (w : World) :
    Calls Try.prog 6 #[.string a0, .int .u8 a1] w fun e w' => e = .returned (.bool true) ∧ Below w.heap.size w w' := by
  by_cases hbig : (1048576 : Int) < (a0.size : Int)
  · go_enter Try.func6, Try.ntmps6
    go_wp2
    go_ret
    exact ⟨rfl, Below.refl _ _⟩
  · have hlen : a0.size ≤ 1048576 := by omega
    obtain ⟨L, hLe⟩ : ∃ L, L = partsOf a0 a1 := ⟨_, rfl⟩
    have hL : L.length ≤ 1048577 := by rw [hLe]; have := partsOf_len a0 a1; omega
    have HL : Hid (partsOf a0 a1 = L) := hLe.symm
    clear w0 w1 hLe
    go_enter Try.func6, Try.ntmps6
    go_wp2_with fail
    refine (partsSpec_any a0 a1 _ hlen).mono ?_
    rintro e w1 ⟨v1, rfl, own1, b1⟩
    rw [HL.out] at own1
    go_wp2_with fail
    refine (partsImpl_any a0 a1 _ hlen).mono ?_
    rintro e w2 ⟨v2, rfl, own2, b2⟩
    rw [HL.out] at own2
    have hap : Hid (v1.ownBlock = none ∨ v1.ownBlock ≠ v2.ownBlock) := own_apart own1 own2
    have hw1 := b1.size
    have own1 := ownsRow_below own1 b2
    have b2 := b1.trans (b2.mono b1.size)
    clear b1
    go_wp2_with fail
    refine (eqTexts_any _ _ _ _ _ L _ own2 own1 (by omega)).mono ?_
    rintro e w3 ⟨rfl, b3⟩
    have own1 := ownsRow_below own1 b3
    have own2 := ownsRow_below own2 b3
    have b3 := b2.trans (b3.mono b2.size)
    clear b2
    go_wp2_with fail
    refine (markTexts_any _ _ 1 _ _ _ own2 (by omega) (by omega)).mono ?_
    rintro e w4 ⟨rfl, own4, g4⟩
    have own1 := own1.kept g4 hap.out
    have b4 := b3.grown g4 b3.size (fun k hk => Nat.le_trans hw1 (own2.lt k hk).1)
    clear g4 own2 b3
    go_wp2_with fail
    refine (heldTexts_any _ _ 1 _ _ own4 (by omega) (by omega)).mono ?_
    rintro e w5 ⟨rfl, b5⟩
    have own1 := ownsRow_below own1 b5
    have own4 := ownsRow_below own4 b5
    have b5 := b4.trans (b5.mono b4.size)
    clear b4
    have hq1 : decide ((1 : Int) + (L.length : Int) < 0) = false := by simp; omega
    have hq2 : ((1 : Int) + (L.length : Int) != 1 + (L.length : Int)) = false := by simp
    go_wp2_with fail
    refine (partsImpl_any a0 a1 _ hlen).mono ?_
    rintro e w6 ⟨v6, rfl, own6, b6⟩
    rw [HL.out] at own6
    have own1 := ownsRow_below own1 b6
    have own4 := ownsRow_below own4 b6
    have b6 := b5.trans (b6.mono b5.size)
    clear b5
    go_wp2_with fail
    refine (eqTexts_any _ _ _ _ _ L _ own6 own1 (by omega)).mono ?_
    rintro e w7 ⟨rfl, b7⟩
    have own4 := ownsRow_below own4 b7
    have b7 := b6.trans (b7.mono b6.size)
    clear b6 own1 own6
    go_wp2_with fail
    refine (heldTexts_any _ _ 1 _ _ own4 (by omega) (by omega)).mono ?_
    rintro e w8 ⟨rfl, b8⟩
    have b8 := b7.trans (b8.mono b7.size)
    clear b7 own4
    go_wp2
    go_ret
    exact ⟨rfl, b8⟩

set_option maxRecDepth 100000 in
theorem lifted (os : Os) (started : os.Started) (H : Type) (enc : TypeId × Value → H) :
    ReturnsInHanded {} Try.checked os 6 .any (Rows.fnExactPartsSpec.pre6 enc Try.prog Try.f6 Rows.fnExactPartsRow.domain false) (Rows.fnExactPartsSpec.post enc Try.prog Try.f6 false true false false) := by
  refine returnsInHanded_of_change (C := Try.checked) own started (by kernel_rfl) Try.func6
    (ChangeSpec.witness6 (enc := enc) (C := Try.checked) false ⟨#[], #[.string ByteArray.empty, .int .u8 0], []⟩ 8 (by kernel_rfl) (by kernel_rfl) (by kernel_rfl) (by kernel_rfl)) ?_
  intro W base args ds gs before hval0 hW hcnd _
  have hval : ∀ (j : Nat) t v, Try.f6.params[j]? = some t → args[j]? = some v → Value.okWide Try.prog W .any base t v := hval0
  have hW' := hW
  obtain ⟨p, q, hA0, hV, rfl, hfz, hnd⟩ := hW
  have hA : DataW.TrodAll enc Try.prog W 0 (fun _ => true) true Try.f6.params.toList args.toList ds p := hA0
  rw [Try.params6] at hA hval
  obtain ⟨v0, vs0, d0, ds0, p0, q0, hargs, rfl, rfl, h0, r0⟩ := trodAll_cons hA
  obtain ⟨v1, vs1, d1, ds1, p1, q1, rfl, rfl, rfl, h1, r1⟩ := trodAll_cons r0
  obtain ⟨rfl, rfl, rfl⟩ := trodAll_nil r1
  obtain rfl : args = #[v0, v1] := by cases args; simp_all
  obtain ⟨rfl, rfl⟩ := trodVars_none hV
  obtain ⟨a0, rfl, rfl, rfl, w0⟩ := open_string Try.underlying9 (hval 0 9 v0 rfl rfl) h0
  obtain ⟨a1, rfl, rfl, rfl, w1⟩ := open_int Try.underlying5 (hval 1 5 v1 rfl rfl) h1
  clear hA0 hval0
  simp only [List.append_nil] at hW'
  refine (walk a0 a1 w0 w1 W).mono fun e W' ⟨he, hg⟩ => ?_
  subst he
  exact ⟨_, rfl, _, _, _, [], [], [], hW', (trodAll_cons_mk (shut_bool Try.underlying4 _) trodAll_mk0), (trodAll_cons_mk (shut_string Try.underlying9 w0) (trodAll_cons_mk (shut_int Try.underlying5 w1) trodAll_mk0)), rfl, hg.frame _, fun h => by cases h⟩

theorem over : Rows.fnExactPartsRow.holds Try.pinned (OpenSpec.ofChange Rows.fnExactPartsSpec) :=
  OpenClaim.holds_of_wide 6 Try.f6 rfl rfl rfl rfl rfl rfl rfl ⟨rfl, rfl, rfl, rfl, rfl⟩ rfl rfl rfl rfl rfl (by kernel_rfl) Try.func6 (by kernel_rfl)
    (of_decide_eq_true (by kernel_rfl)) (by unfold Func.isWrapper; first | (rw [if_pos (by decide +kernel)]; kernel_rfl) | (rw [if_neg (by decide +kernel)]; exact ⟨rfl, rfl⟩))
    (fun os started H enc _ => lifted os started H enc)

theorem proved : Rows.FnExactPartsSaid :=
  over
#print axioms proved
end Go.Proofs.Ytgoalcakfaellak.fnExactParts
