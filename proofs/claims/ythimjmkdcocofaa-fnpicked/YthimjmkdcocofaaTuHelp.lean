/- The walks through the helpers of the laws over turns. No statement of the seat is proved here. -/
import Derived.Test.YthimjmkdcocofaaTuData
import Derived.Test.YthimjmkdcocofaaIntMarks
import Derived.Test.YthimjmkdcocofaaSkLaw
import Derived.Test.YthimjmkdcocofaaItHelp
namespace Go.Proofs.Ythimjmkdcocofaa
open Go.RowKit
theorem infoTuI : (Try.prog.info? 26).map (·.size) = some 3 := by kernel_rfl
theorem tuSize {cs : Array Value} (h : cs.size = 3) : (Try.prog.info? 26).map (·.size) = some cs.size := by rw [h]; kernel_rfl
theorem ltuSize {cs : Array Value} (h : cs.size = 3) : (Try.prog.info? 33).map (·.size) = some cs.size := by rw [h]; kernel_rfl
set_option maxRecDepth 200000 in
set_option maxHeartbeats 2000000 in
theorem toTu_any (v : Value) (x : Tu) (F0 : List Nat) (w : World) (h : RdTu w v x F0) (hf : x.fits) :
    Calls Try.prog 15 #[v] w fun e w' => NewTu w x e w' := by
  obtain ⟨b, l, c, rfl, hP⟩ := h
  have HP : Hid (RdI w b l x.left F0 ∧ l ≤ 1048576) := ⟨hP, by rw [← hP.length]; exact hf⟩
  obtain ⟨fx, hfx⟩ : ∃ f, f = x.fresh := ⟨_, rfl⟩
  rw [← hfx]
  have HFX : Hid (fx = x.fresh) := hfx
  clear hP hf hfx
  go_enter Try.func15, Try.ntmps15
  go_wp2_with fail
  have T0 := Three.made w #[.int .i64 x.who, .bool fx, .slice b l c] 33 #[.int .i64 0, .bool false, .slice none 0 0] #[.int .i64 x.who, .bool fx, .slice none 0 0] 26
  refine (toIntS_any b l c x.left F0 _ (HP.out.1.below T0.bel) HP.out.2).mono ?_
  rintro e w1 ⟨p1, l1, k1, F, rfl, r1, o1, hb1⟩
  have HT1 : Hid (Three w _ _ _ _ _ w1) := T0.below hb1
  have HF1 : Hid (RdI w1 p1 l1 x.left F ∧ Own (w.heap.size + 3) w1 F) := ⟨r1, o1.mono T0.size⟩
  have c2' := HT1.out.loc.cell 2
  have f2' := HT1.out.loc.frozen 2
  simp only [aT, aS, aZ] at c2'
  clear T0 hb1 r1 o1 HP
  go_wp2_with (first | go_skip | (with_reducible refine stopLoad 26 rfl ?_))
  obtain ⟨E, hE⟩ : ∃ E : Array Value, E = #[.int .i64 x.who, .bool fx, .slice p1 l1 k1] := ⟨_, rfl⟩
  have HT5 : Hid (Three w #[.int .i64 x.who, .bool fx, .slice b l c] 33 #[.int .i64 0, .bool false, .slice none 0 0] E 26 (w1.setCell ⟨w.heap.size + 1 + 1, 2, none⟩ (.slice p1 l1 k1))) := by
    have := HT1.out.set 2 (.slice p1 l1 k1)
    rw [hE]
    exact this
  have HE : Hid (E = #[.int .i64 x.who, .bool fx, .slice p1 l1 k1]) := hE
  have hE3 : E.size = 3 := by rw [hE]; rfl
  have hEone : E.all (·.oneCell') = true := by rw [hE]; simp [Value.oneCell']
  have nl : w.heap.size + 1 + 1 ∉ F := fun hx => by have := HF1.out.2.ge _ hx; omega
  have HG5 : Hid (RdI (w1.setCell ⟨w.heap.size + 1 + 1, 2, none⟩ (.slice p1 l1 k1)) p1 l1 x.left F ∧ Own (w.heap.size + 3) (w1.setCell ⟨w.heap.size + 1 + 1, 2, none⟩ (.slice p1 l1 k1)) F) := by
    have ag := (Agree.refl w1 F).thenSet nl 2 (.slice p1 l1 k1)
    exact ⟨HF1.out.1.agree ag, HF1.out.2.agree ag⟩
  obtain ⟨w5, hw5⟩ : ∃ W, W = (w1.setCell ⟨w.heap.size + 1 + 1, 2, none⟩ (.slice p1 l1 k1)) := ⟨_, rfl⟩
  rw [← hw5] at HT5 HG5 ⊢
  clear hw5 c2' f2' HT1 HF1 nl hE
  refine load_known 26 (w.heap.size + 1 + 1) E 26 _ HT5.out.loc rfl rfl rfl Try.underlying26 rfl (by rw [hE3]; exact infoTuI) ?_
  go_wp2_with (first | go_skip | (with_reducible refine stopStore 26 rfl ?_))
  refine store_known 26 (w.heap.size + 1) _ E 26 HT5.out.res rfl rfl rfl rfl (by rw [hE3]; exact infoTuI) (by rw [hE3]; rfl) hEone ?_
  have nr : w.heap.size + 1 ∉ F := fun hx => by have := HG5.out.2.ge _ hx; omega
  have HB4 : Hid (Blk (w5.setRow (w.heap.size + 1) E) (w.heap.size + 1) E 26) := HT5.out.res.setRow
  have HF : Hid (RdI (w5.setRow (w.heap.size + 1) E) p1 l1 x.left F ∧ Own w.heap.size (w5.setRow (w.heap.size + 1) E) F ∧ Below w.heap.size w (w5.setRow (w.heap.size + 1) E)) := ⟨HG5.out.1.agree (Agree.row nr E), (HG5.out.2.agree (Agree.row nr E)).mono (by omega), below_setRow HT5.out.bel (by omega) _⟩
  obtain ⟨w6, hw6⟩ : ∃ W, W = w5.setRow (w.heap.size + 1) E := ⟨_, rfl⟩
  rw [← hw6] at HB4 HF ⊢
  clear hw6 HT5 nr
  go_wp2
  refine bodyPost_ret (results_cell_row Try.results15 _ _ (w.heap.size + 1) _ _ (0, 0) _ rfl HB4.out Try.underlying26 rfl (by rw [hE3]; exact infoTuI)) rfl ?_
  exact ⟨_, F, rfl, ⟨p1, l1, k1, by rw [HE.out, HFX.out], HF.out.1⟩, HF.out.2.1, HF.out.2.2⟩
set_option maxRecDepth 200000 in
set_option maxHeartbeats 2000000 in
theorem szTu_vast (v : Value) (x : Tu) (F : List Nat) (left : Int) (w : World) (h : RdTu w v x F) (hv : x.vast) (hl0 : 0 ≤ left) (hl1 : left ≤ 1048576) :
    Calls Try.prog 14 #[v, .int .i64 left] w fun e w' => (∃ r, e = .returned (.int .i64 r) ∧ r ≤ left ∧ (0 ≤ r → (x.left.length : Int) ≤ left) ∧ (r < 0 → left < x.left.length)) ∧ Below w.heap.size w w' := by
  obtain ⟨b, l, c, rfl, hP⟩ := h
  have HT : Hid (x.left.length = l) := hP.length
  have hln : l ≤ 9223372036854775807 := by rw [← hP.length]; exact hv
  have HB : Hid (Below w.heap.size w (w.alloc (.cells #[.int .i64 x.who, .bool x.fresh, .slice b l c] 33)) ∧ Blk (w.alloc (.cells #[.int .i64 x.who, .bool x.fresh, .slice b l c] 33)) w.heap.size #[.int .i64 x.who, .bool x.fresh, .slice b l c] 33) := ⟨Below.allocW _ (Below.refl _ _) (Nat.le_refl _), Blk.made _ _ _⟩
  clear hP hv
  go_enter Try.func14, Try.ntmps14
  go_wp2_with fail
  refine (szIntS_vast b l c left _ hln hl0 hl1).mono ?_
  rintro e w2 ⟨⟨s, rfl, sa, sb, sc⟩, hw2⟩
  have hw2' := hw2.symm
  subst hw2'
  have HSS : Hid (s ≤ left ∧ (0 ≤ s → s = left - l) ∧ (s < 0 → left < l)) := ⟨sa, sb, sc⟩
  clear hw2 sa sb sc
  by_cases q2 : s < 0
  · go_wp2
    go_ret
    have t2 := HT.out
    have t3 := HSS.out.2.2 q2
    exact ⟨⟨-1, rfl, by omega, by omega, fun _ => by omega⟩, HB.out.1⟩
  · go_wp2
    go_ret
    have t2 := HT.out
    have t3 := HSS.out.2.1 (by omega)
    exact ⟨⟨s, rfl, HSS.out.1, fun _ => by omega, fun hs => by omega⟩, HB.out.1⟩
set_option maxRecDepth 200000 in
set_option maxHeartbeats 4000000 in
theorem eqTu_any (v u : Value) (x y : Tu) (F G : List Nat) (w : World) (h : RdTu w v x F) (k : RdTu w u y G) (hw : x.wide) (kw : y.wide) :
    Calls Try.prog 16 #[v, u] w fun e w' => e = .returned (.bool (decide (x = y))) ∧ Below w.heap.size w w' := by
  obtain ⟨b, l, c, rfl, hP⟩ := h
  obtain ⟨d, m, j, rfl, kP⟩ := k
  obtain ⟨lx, hlx⟩ : ∃ b, b = x.fresh := ⟨_, rfl⟩
  obtain ⟨ly, hly⟩ : ∃ b, b = y.fresh := ⟨_, rfl⟩
  have HLL : Hid (lx = x.fresh ∧ ly = y.fresh) := ⟨hlx, hly⟩
  rw [← hlx, ← hly]
  clear hlx hly
  have HX : Hid (RdI w b l x.left F ∧ RdI w d m y.left G ∧ l ≤ 140737488355328 ∧ m ≤ 140737488355328) := ⟨hP, kP, by rw [← hP.length]; exact Nat.le_trans hw (by omega), by rw [← kP.length]; exact Nat.le_trans kw (by omega)⟩
  have HT : Hid (Two w #[.int .i64 x.who, .bool lx, .slice b l c] #[.int .i64 y.who, .bool ly, .slice d m j] 26 ((w.alloc (.cells #[.int .i64 x.who, .bool lx, .slice b l c] 26)).alloc (.cells #[.int .i64 y.who, .bool ly, .slice d m j] 26))) := Two.made w _ _ _
  clear hP kP hw kw
  go_enter Try.func16, Try.ntmps16
  by_cases h0 : x.who = y.who
  rotate_left
  · have e0 : (x.who != y.who) = true := by simpa using h0
    have HV : Hid (decide (x = y) = false) := dec_false (fun e => h0 (by rw [e]))
    clear h0
    go_wp2
    go_ret
    exact ⟨ret_bool HV.out.symm, HT.out.bel⟩
  have e0 : (x.who != y.who) = false := by simpa using h0
  have H0 : Hid (x.who = y.who) := h0
  clear h0
  by_cases h2 : lx = ly
  rotate_left
  · have HV : Hid (decide (x = y) = false) := dec_false (fun e => h2 (by rw [HLL.out.1, HLL.out.2, e]))
    cases lx <;> cases ly
    · exact absurd rfl h2
    · clear h2
      go_wp2
      go_ret
      exact ⟨ret_bool HV.out.symm, HT.out.bel⟩
    · clear h2
      go_wp2
      go_ret
      exact ⟨ret_bool HV.out.symm, HT.out.bel⟩
    · exact absurd rfl h2
  have H2 : Hid (x.fresh = y.fresh) := by show _ = _; rw [← HLL.out.1, ← HLL.out.2, h2]
  subst h2
  go_wp2_with fail
  refine (eqIntS_any b d l m c j x.left y.left F G _ (HX.out.1.below HT.out.bel) (HX.out.2.1.below HT.out.bel) HX.out.2.2.1 HX.out.2.2.2).mono ?_
  rintro e w2 ⟨rfl, hb2⟩
  have HT2 : Hid (Two w #[.int .i64 x.who, .bool lx, .slice b l c] #[.int .i64 y.who, .bool lx, .slice d m j] 26 w2) := HT.out.below hb2
  obtain ⟨g, hg⟩ : ∃ d, d = decide (x.left = y.left) := ⟨_, rfl⟩
  rw [← hg]
  have HD2 : Hid (g = decide (x.left = y.left)) := hg
  clear hb2 HT hg
  cases g
  · have HV : Hid (decide (x = y) = false) := dec_false (fun e => by have := HD2.out.symm; rw [decide_eq_false_iff_not] at this; exact this (by rw [e]))
    go_wp2
    go_ret
    exact ⟨ret_bool HV.out.symm, HT2.out.bel⟩
  have H5 : Hid (x.left = y.left) := by show x.left = y.left; exact of_decide_eq_true HD2.out.symm
  have HV : Hid (decide (x = y) = true) := dec_true (Tu.eq_of H0.out H2.out H5.out)
  go_wp2
  go_ret
  exact ⟨ret_bool HV.out.symm, HT2.out.bel⟩
end Go.Proofs.Ythimjmkdcocofaa
