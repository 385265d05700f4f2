/- For every agent (no condition): laws.FnExactAgentOk returns true, and its argument reads afterwards as it did: the program's AgentOk answers as the model's and writes nothing into its argument. -/
import Derived.Test.YtjndcfamfminkaqB2
import Derived.Test.YtjndcfamfminkaqRows
import Derived.WalkKit
import Derived.ProofKit
import Derived.OpenShut
import Derived.ShutString
import Derived.ChangeOld
import Derived.Below
namespace Go.Proofs.Ytjndcfamfminkaq.fnExactAgentOk
open Go.ChangeShapes Go.WideShapes Go.ChangeAt Go.RowKit
set_option linter.unusedVariables false
theorem own : ownKnob Try.prog.godebug = none := by kernel_rfl
set_option maxRecDepth 200000 in
set_option maxHeartbeats 4000000 in
theorem walk (v0 : Value) (s : Ag) (F : List Nat) (w : World) (h : RdA w v0 s F) (hv : s.vast) :
    Calls Try.prog 8 #[v0] w fun e w' => e = .returned (.bool true) ∧ Below w.heap.size w w' := by
  have HH : Hid (RdA w v0 s F ∧ s.vast) := ⟨h, hv⟩
  obtain ⟨cs, rfl, hc7, hone⟩ := h.cells
  have HC : Hid (cs.size = 7 ∧ cs.all (·.oneCell') = true) := ⟨hc7, hone⟩
  have HT : Hid (Blk (w.alloc (.cells cs 61)) w.heap.size cs 61 ∧ Below w.heap.size w (w.alloc (.cells cs 61))) := ⟨Blk.made _ _ _, (Below.refl _ _).alloc (Nat.le_refl _) _⟩
  clear h hv hc7 hone
  go_enter Try.func8, Try.ntmps8
  go_wp2_with (first | go_skip | (with_reducible refine stopLoad 61 rfl ?_) | (with_reducible refine stopLoad 66 rfl ?_) | (with_reducible refine stopStore 66 rfl ?_))
  refine load_known 61 w.heap.size cs 61 _ HT.out.1 rfl rfl rfl Try.underlying61 rfl (lagSize HC.out.1) ?_
  go_wp2_with fail
  refine (szA_vast _ s F 1048576 _ (HH.out.1.below HT.out.2) HH.out.2 (by omega) (by omega)).mono ?_
  rintro e w1 ⟨⟨r, rfl, ra, rb, rc⟩, hb1⟩
  have HW1 : Hid (Blk w1 w.heap.size cs 61 ∧ Below w.heap.size w w1) := ⟨HT.out.1.below hb1, Below.next HT.out.2 hb1⟩
  by_cases q : r < 0
  · clear ra rb rc hb1
    go_wp2
    go_ret
    exact ⟨rfl, HW1.out.2⟩
  have HFit : Hid (s.fits) := (by have := rb (by omega); show _ ≤ _; omega)
  have q' : 0 ≤ r := by omega
  clear ra rb rc hb1 HT q
  go_wp2_with (first | go_skip | (with_reducible refine stopLoad 61 rfl ?_) | (with_reducible refine stopLoad 66 rfl ?_) | (with_reducible refine stopStore 66 rfl ?_))
  refine load_known 61 w.heap.size cs 61 _ HW1.out.1 rfl rfl rfl Try.underlying61 rfl (lagSize HC.out.1) ?_
  go_wp2_with fail
  refine (toA_any _ s F _ (HH.out.1.below HW1.out.2) HFit.out).mono ?_
  rintro e w2 ⟨v1, G1, rfl, r1, o1, hb2⟩
  have HW2 : Hid (RdA w2 v1 s G1 ∧ Blk w2 w.heap.size cs 61 ∧ Below w.heap.size w w2) := ⟨r1, HW1.out.1.below hb2, Below.next HW1.out.2 hb2⟩
  clear r1 o1 hb2
  go_wp2_with fail
  refine (okSpecA_any v1 s G1 _ HW2.out.1 HFit.out.wide).mono ?_
  rintro e w3 ⟨rfl, hb3⟩
  have HW3 : Hid (Blk w3 w.heap.size cs 61 ∧ Below w.heap.size w w3) := ⟨HW2.out.2.1.below hb3, Below.next HW2.out.2.2 hb3⟩
  clear hb3 HW1
  go_wp2_with (first | go_skip | (with_reducible refine stopLoad 61 rfl ?_) | (with_reducible refine stopLoad 66 rfl ?_) | (with_reducible refine stopStore 66 rfl ?_))
  refine load_known 61 w.heap.size cs 61 _ HW3.out.1 rfl rfl rfl Try.underlying61 rfl (lagSize HC.out.1) ?_
  go_wp2_with fail
  refine (toA_any _ s F _ (HH.out.1.below HW3.out.2) HFit.out).mono ?_
  rintro e w4 ⟨v2, G2, rfl, r2, o2, hb4⟩
  obtain ⟨ds, rfl, hd7, hdone⟩ := r2.cells
  have HW4 : Hid (RdA w4 (.agg ds) s G2 ∧ Blk w4 w.heap.size cs 61 ∧ Below w.heap.size w w4) := ⟨r2, HW3.out.1.below hb4, Below.next HW3.out.2 hb4⟩
  have HD : Hid (ds.size = 7 ∧ ds.all (·.oneCell') = true) := ⟨hd7, hdone⟩
  clear r2 o2 hb4 hd7 hdone HW3 HW2
  go_wp2_with (first | go_skip | (with_reducible refine stopLoad 61 rfl ?_) | (with_reducible refine stopLoad 66 rfl ?_) | (with_reducible refine stopStore 66 rfl ?_))
  refine store_fresh 66 w4.heap.size rfl #[.int .i64 0, .int .i64 0, .bool false, .int .i64 0, .slice none 0 0, .slice none 0 0, .int .i64 0] ds 66 rfl rfl rfl rfl (agSize HD.out.1) HD.out.1.symm HD.out.2 ?_
  intro W5 hg5 hb5
  have HW5 : Hid (RdA W5 (.agg ds) s G2 ∧ Blk W5 w.heap.size cs 61 ∧ Below w.heap.size w W5 ∧ Blk W5 w4.heap.size ds 66) := ⟨HW4.out.1.below hb5, HW4.out.2.1.below hb5, Below.next HW4.out.2.2 hb5, hg5⟩
  clear hg5 hb5 HW4
  go_wp2_with (first | go_skip | (with_reducible refine stopLoad 61 rfl ?_) | (with_reducible refine stopLoad 66 rfl ?_) | (with_reducible refine stopStore 66 rfl ?_))
  refine load_known 66 w4.heap.size ds 66 _ HW5.out.2.2.2 rfl rfl rfl Try.underlying66 rfl (agSize HD.out.1) ?_
  go_wp2_with fail
  refine (okImplA_any _ s G2 _ HW5.out.1 HFit.out.wide).mono ?_
  rintro e W6 ⟨rfl, hb6⟩
  have HW6 : Hid (RdA W6 (.agg ds) s G2 ∧ Blk W6 w.heap.size cs 61 ∧ Below w.heap.size w W6 ∧ Blk W6 w4.heap.size ds 66) := ⟨HW5.out.1.below hb6, HW5.out.2.1.below hb6, Below.next HW5.out.2.2.1 hb6, HW5.out.2.2.2.below hb6⟩
  clear hb6 HW5
  have hne : (s.ok != s.ok) = false := by simp
  obtain ⟨b, hb⟩ : ∃ b, b = s.ok := ⟨_, rfl⟩
  rw [← hb] at hne ⊢
  clear hb
  go_wp2
  have HS : Hid (AgTwo w.heap.size cs w4.heap.size ds W6.drew) := ⟨HW6.out.2.1.drew, HW6.out.2.2.2.drew⟩
  have keepS : ∀ {W W' : World}, AgTwo w.heap.size cs w4.heap.size ds W → Below W.heap.size W W' → AgTwo w.heap.size cs w4.heap.size ds W' := fun h b => ⟨h.1.below b, h.2.below b⟩
  refine wp_region_held (S := AgTwo w.heap.size cs w4.heap.size ds) (by kernel_rfl) ?_
  change wpAnyH _ _ _ _ _ _ _ _ (World.drew _)
  refine takeH (o := ?o1) 0 (.agg ds) ?h1 ?r1
  case h1 => simp only [aT, aZ]; rfl
  refine ⟨_, by simp [Act.put]; rfl, by kernel_rfl, by kernel_rfl, by kernel_rfl, fun _ _ _ h => h, (yields_whole 66 w4.heap.size ds 66 _ rfl rfl rfl Try.underlying66 rfl (agSize HD.out.1) (fun W hW => hW.2)), HS.out, ?_⟩
  refine takeH (o := ?o2) 1 (.agg cs) ?h2 ?r2
  case h2 => simp only [aT, aS, aZ]; rfl
  refine ⟨_, by simp [Act.put]; rfl, by kernel_rfl, by kernel_rfl, by kernel_rfl, fun _ _ _ h => h, (yields_whole 61 w.heap.size cs 61 _ rfl rfl rfl Try.underlying61 rfl (lagSize HC.out.1) (fun W hW => hW.1)), HS.out, ?_⟩
  refine onlyH (o := ?o3) 2 (by kernel_rfl) ?h3 ?r3
  case h3 => simp only [aT, aS, aZ]; rfl
  intro K hK
  refine op_call1 35 _ _ Try.f35 (fun v w' => ∃ G, RdA w' v s G ∧ Below W6.drew.heap.size W6.drew w') rfl rfl Try.func35 (by kernel_rfl) (by kernel_rfl) ((toA_any _ s F W6.drew (HH.out.1.below HW6.out.2.2.1.drew) HFit.out).mono (by rintro e w' ⟨v, G, rfl, h1, _, h3⟩; exact ⟨_, rfl, G, h1, h3⟩)) ?_
  rintro v3 W7 ⟨G3, r3, b7⟩
  refine ⟨_, by simp [Act.put]; rfl, hK _ _ ⟨keepS HS.out b7, ?_⟩⟩
  have HW7 : Hid (RdA W7 (.agg ds) s G2 ∧ RdA W7 v3 s G3 ∧ Below w.heap.size w W7 ∧ AgTwo w.heap.size cs w4.heap.size ds W7) := ⟨(HW6.out.1.below (Below.refl _ _).drew).below b7, r3, Below.next HW6.out.2.2.1.drew b7, keepS HS.out b7⟩
  clear hK r3 b7
  refine onlyH (o := ?o4) 3 (by kernel_rfl) ?h4 ?r4
  case h4 => simp only [aT, aS, aZ]; rfl
  intro K hK
  refine op_call2 37 _ _ _ Try.f37 (fun w' => Below W7.heap.size W7 w') (.bool (decide (s = s))) rfl rfl Try.func37 (by kernel_rfl) (by kernel_rfl) (eqA_any (.agg ds) v3 s s G2 G3 W7 HW7.out.1 HW7.out.2.1 HFit.out.wide HFit.out.wide) ⟨_, by simp [Act.put]; rfl, ?_⟩
  intro W8 b8
  refine hK _ _ ⟨keepS HW7.out.2.2.2 b8, ?_⟩
  have HW8 : Hid (Below w.heap.size w W8 ∧ AgTwo w.heap.size cs w4.heap.size ds W8) := ⟨Below.next HW7.out.2.2.1 b8, keepS HW7.out.2.2.2 b8⟩
  clear hK b8
  refine takeH (o := ?o5) 4 (.bool false) ?h5 ?r5
  case h5 => simp only [aT, aS, aZ]; rfl
  refine ⟨_, by simp [Act.put]; rfl, by kernel_rfl, by kernel_rfl, by kernel_rfl, fun _ _ _ h => h, (.inl ⟨rfl, fun W _ => by go_simp⟩), HW8.out.2, ?_⟩
  refine wpAnyH_done (by kernel_rfl) ?_ _
  go_wp2
  go_ret
  exact ⟨rfl, HW8.out.1⟩
set_option maxRecDepth 100000 in
theorem lifted (os : Os) (started : os.Started) (H : Type) (enc : TypeId × Value → H) :
    ReturnsInHanded {} Try.checked os 8 .any (Rows.fnExactAgentOkSpec.pre6 enc Try.prog Try.f8 Rows.fnExactAgentOkRow.domain false) (Rows.fnExactAgentOkSpec.post enc Try.prog Try.f8 false true false false) := by
  refine returnsInHanded_of_change (C := Try.checked) own started (by kernel_rfl) Try.func8
    (ChangeSpec.witness6 (enc := enc) (C := Try.checked) false ⟨#[], #[.agg #[.int .i64 0, .int .i64 0, .bool false, .int .i64 0, .slice none 0 0, .slice none 0 0, .int .i64 0]], []⟩ 8 (by kernel_rfl) (by kernel_rfl) (by kernel_rfl) (by kernel_rfl)) ?_
  intro W base args ds gs before hval0 hW hcnd _
  have hval : ∀ (j : Nat) t v, Try.f8.params[j]? = some t → args[j]? = some v → Value.okWide Try.prog W .any base t v := hval0
  have hW' := hW
  obtain ⟨p, q, hA0, hV, rfl, hfz, hnd⟩ := hW
  have hA : DataW.TrodAll enc Try.prog W 0 (fun _ => true) true Try.f8.params.toList args.toList ds p := hA0
  rw [Try.params8] at hA hval
  obtain ⟨v0, vs0, d0, ds0, p0, q0, hargs, rfl, rfl, h0, r0⟩ := trodAll_cons hA
  obtain ⟨rfl, rfl, rfl⟩ := trodAll_nil r0
  obtain rfl : args = #[v0] := by cases args; simp_all
  obtain ⟨rfl, rfl⟩ := trodVars_none hV
  have k0 := h0
  have lt0 : ∀ x ∈ p0, x.block < W.heap.size := by obtain ⟨m, hm⟩ := k0; exact DataW.trod_lt m _ _ _ hm
  obtain ⟨s, F, hR, hv⟩ := open_A (hval 0 61 v0 rfl rfl) h0
  clear hA0 hval0
  refine (walk v0 s F W hR hv).mono fun e W' ⟨he, bel⟩ => ?_
  subst he
  exact ⟨_, rfl, _, _, _, [], _, [], hW', trodAll_mk1 (shut_bool Try.underlying4 _), (trodAll_cons_mk (Below.trod laidOut (by kernel_rfl) (of_decide_eq_true (by kernel_rfl)) k0 bel lt0) trodAll_mk0), rfl, bel.frame _, fun h => by cases h⟩
theorem over : Rows.fnExactAgentOkRow.holds Try.pinned (OpenSpec.ofChange Rows.fnExactAgentOkSpec) :=
  OpenClaim.holds_of_wide 8 Try.f8 rfl rfl rfl rfl rfl rfl rfl ⟨rfl, rfl, rfl, rfl, rfl⟩ rfl rfl rfl rfl rfl (by kernel_rfl) Try.func8 (by kernel_rfl)
    (of_decide_eq_true (by kernel_rfl)) (by unfold Func.isWrapper; first | (rw [if_pos (by decide +kernel)]; kernel_rfl) | (rw [if_neg (by decide +kernel)]; exact ⟨rfl, rfl⟩))
    (fun os started H enc _ => lifted os started H enc)
theorem proved : Rows.FnExactAgentOkSaid := over
#print axioms proved
end Go.Proofs.Ytjndcfamfminkaq.fnExactAgentOk
