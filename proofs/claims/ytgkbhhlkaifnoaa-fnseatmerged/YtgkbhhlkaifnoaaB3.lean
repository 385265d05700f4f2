/- Several texts of mine, laid together. No statement of the seat is proved here. -/
import Derived.Test.YtgkbhhlkaifnoaaB2
import Derived.Test.YtgkbhhlkaifnoaaB1
import Derived.Test.YtgkbhhlkaifnoaaSkRight
/- The walks through SeatMerge, of the model and of the program. No statement of the seat is proved here. -/
namespace Go.Proofs.Ytgkbhhlkaifnoaa
open Go.RowKit
def Se.plus (x : Se) (n : Int) : Se := ⟨x.epoch, x.granted, x.taken, x.merged + n, x.last⟩
/-- A seat behind a SeatMerge, and whether it was done. -/
def Se.merge (x : Se) (per n : Int) : Se × Bool := if x.ok per = true ∧ 0 ≤ n ∧ n ≤ x.taken.size - x.merged then (x.plus n, true) else (x, false)
def NewSe2 (w : World) (z : Se × Bool) (e : Ending) (w' : World) : Prop := ∃ v F, e = .returned (.tuple #[v, .bool z.2]) ∧ RdSe w' v z.1 F ∧ Own w.heap.size w' F ∧ Below w.heap.size w w'
theorem Se.merge_wide {x : Se} (h : x.wide) (per n : Int) : (x.merge per n).1.wide := by
  unfold Se.merge
  split <;> exact h
theorem Sp.under_at {ps : Sp} {m : Int} (h : ps.under m = true) {k : Nat} (hk : k < ps.length) : 1 ≤ (ps.at k).1 ∧ (ps.at k).2 ≤ m := by
  unfold Sp.under at h
  rw [List.all_eq_true] at h
  exact of_decide_eq_true (h k (List.mem_range.2 hk))
theorem Sp.sum_top {ps : Sp} {m : Int} (h : ps.ok = true) (u : ps.under m = true) : ∀ k, k < ps.length → Sp.sum (ps.take (k + 1)) ≤ (ps.at k).2
  | 0, hk => by
    have e := Sp.sum_step (ps := ps) (k := 0) hk
    have p := Sp.under_at u hk
    rw [List.take_zero] at e
    rw [e]
    have : Sp.sum [] = 0 := rfl
    omega
  | k + 1, hk => by
    have ih := Sp.sum_top h u k (by omega)
    have e := Sp.sum_step (ps := ps) (k := k + 1) hk
    have p := (Sp.okAt_parts (Sp.ok_at h (k + 1) hk)).2 (by omega)
    rw [Nat.add_sub_cancel] at p
    omega
/-- What is in 1 .. m is no more than m. -/
theorem Sp.size_under {ps : Sp} {m : Int} (h : ps.ok = true) (u : ps.under m = true) (hm : 0 ≤ m) : ps.size ≤ m := by
  unfold Sp.size
  rw [if_pos h]
  by_cases h0 : ps.length = 0
  · have e : ps = [] := List.eq_nil_of_length_eq_zero h0
    rw [e]
    have : Sp.sum [] = 0 := rfl
    omega
  · have q := Sp.sum_top h u (ps.length - 1) (by omega)
    rw [show ps.length - 1 + 1 = ps.length by omega, List.take_length] at q
    have := (Sp.under_at u (k := ps.length - 1) (by omega)).2
    omega
theorem Se.Right.size {x : Se} {p : Int} (h : x.Right p) : x.taken.size ≤ 60 := by
  have := Sp.size_under h.taken h.under h.granted.1
  have := h.granted.2
  omega
theorem Se.plus_ok {x : Se} {per n : Int} (h : x.Right per) (hn : 0 ≤ n) : (x.plus n).ok per = decide (n ≤ x.taken.size - x.merged) := by
  by_cases q : n ≤ x.taken.size - x.merged
  · rw [decide_eq_true q]
    exact Se.Right.ok ⟨h.per, h.epoch, h.granted, h.taken, h.under, ⟨by have := h.merged; show 0 ≤ x.merged + n; omega, by show x.merged + n ≤ x.taken.size; omega⟩, by have := h.share; show x.granted ≤ x.merged + n + per; omega, h.last⟩
  · rw [decide_eq_false q]
    cases e : (x.plus n).ok per
    · rfl
    · have := (Se.right e).merged
      have hp : (x.plus n).merged = x.merged + n := rfl
      have ht : (x.plus n).taken = x.taken := rfl
      rw [hp, ht] at this
      omega
set_option maxRecDepth 200000 in
set_option maxHeartbeats 8000000 in
theorem seMergeSpec_any (v : Value) (x : Se) (per : Int) (n : Int) (F : List Nat) (w : World) (h : RdSe w v x F) (hl : x.taken.length ≤ 2097152) :
    Calls Try.prog 29 #[v, .int .i64 per, .int .i64 n] w fun e w' => NewSe2 w (x.merge per n) e w' := by
  obtain ⟨b, l, c, rfl, hP, hcp⟩ := h
  have HX : Hid (RdSe w (.agg #[.int .i64 x.epoch, .int .i64 x.granted, .slice b l c, .int .i64 x.merged, .int .i64 x.last]) x F ∧ x.taken.length ≤ 2097152) := ⟨⟨b, l, c, rfl, hP, hcp⟩, hl⟩
  have HP : Hid (RdP w b l x.taken F ∧ l ≤ 2097152 ∧ x.taken.length = l ∧ Capd b l c) := ⟨hP, by rw [← hP.length]; exact hl, hP.length, hcp⟩
  have HSZ : Hid (0 ≤ x.taken.size ∧ x.taken.size ≤ 20971520000) := by have := Sp.size_range x.taken; exact ⟨this.1, by omega⟩
  clear hP hl hcp
  have HT : Hid (Two w #[.int .i64 x.epoch, .int .i64 x.granted, .slice b l c, .int .i64 x.merged, .int .i64 x.last] #[.int .i64 0, .int .i64 0, .slice none 0 0, .int .i64 0, .int .i64 0] 54 ((w.alloc (.cells #[.int .i64 x.epoch, .int .i64 x.granted, .slice b l c, .int .i64 x.merged, .int .i64 x.last] 54)).alloc (.cells #[.int .i64 0, .int .i64 0, .slice none 0 0, .int .i64 0, .int .i64 0] 54))) := Two.made w _ _ _
  go_enter Try.func29, Try.ntmps29
  go_wp2_with (first | go_skip | (with_reducible refine stopLoad 54 rfl ?_) | (with_reducible refine stopStore 54 rfl ?_))
  obtain ⟨W0, hW0⟩ : ∃ W, W = (w.alloc (.cells #[.int .i64 x.epoch, .int .i64 x.granted, .slice b l c, .int .i64 x.merged, .int .i64 x.last] 54)).alloc (.cells #[.int .i64 0, .int .i64 0, .slice none 0 0, .int .i64 0, .int .i64 0] 54) := ⟨_, rfl⟩
  rw [← hW0] at HT ⊢
  clear hW0
  refine load_known 54 w.heap.size #[.int .i64 x.epoch, .int .i64 x.granted, .slice b l c, .int .i64 x.merged, .int .i64 x.last] 54 _ HT.out.fst rfl rfl rfl Try.underlying54 rfl infoSeI ?_
  go_wp2_with fail
  refine (l9Copy_any _ x F _ (HX.out.1.below HT.out.bel) HX.out.2).mono ?_
  rintro e w1 ⟨zv, G, rfl, ⟨p, nn, k, rfl, rp, kp⟩, oz, bz⟩
  have HC1 : Hid (Two w #[.int .i64 x.epoch, .int .i64 x.granted, .slice b l c, .int .i64 x.merged, .int .i64 x.last] #[.int .i64 0, .int .i64 0, .slice none 0 0, .int .i64 0, .int .i64 0] 54 W0 ∧ RdP w1 p nn x.taken G ∧ Capd p nn k ∧ Own W0.heap.size w1 G ∧ Below W0.heap.size W0 w1) := ⟨HT.out, rp, kp, oz, bz⟩
  clear rp kp oz bz HT
  go_wp2_with (first | go_skip | (with_reducible refine stopLoad 54 rfl ?_) | (with_reducible refine stopStore 54 rfl ?_))
  refine store_fresh 54 w1.heap.size rfl #[.int .i64 0, .int .i64 0, .slice none 0 0, .int .i64 0, .int .i64 0] #[.int .i64 x.epoch, .int .i64 x.granted, .slice p nn k, .int .i64 x.merged, .int .i64 x.last] 54 rfl rfl rfl rfl infoSeI rfl (by simp [Value.oneCell']) ?_
  intro w2 hg hb
  have H2 : Hid (SeW w #[.int .i64 x.epoch, .int .i64 x.granted, .slice b l c, .int .i64 x.merged, .int .i64 x.last] w1.heap.size x.epoch x.granted x.merged x.last x.taken p nn k G w2) := SeW.start HC1.out.1 HC1.out.2.1 HC1.out.2.2.1 HC1.out.2.2.2.1 HC1.out.2.2.2.2 hg hb
  obtain ⟨L, hL⟩ : ∃ L, L = w1.heap.size := ⟨_, rfl⟩
  rw [← hL] at H2 ⊢
  clear hg hb hL HC1
  go_wp2_with (first | go_skip | (with_reducible refine stopLoad 54 rfl ?_) | (with_reducible refine stopStore 54 rfl ?_))
  refine load_known 54 w.heap.size #[.int .i64 x.epoch, .int .i64 x.granted, .slice b l c, .int .i64 x.merged, .int .i64 x.last] 54 _ H2.out.box rfl rfl rfl Try.underlying54 rfl infoSeI ?_
  go_wp2_with fail
  refine (seOkSpec_any _ x per F _ (HX.out.1.below H2.out.bel) HX.out.2).mono ?_
  rintro e w3 ⟨rfl, hb⟩
  have H3 : Hid (SeW w #[.int .i64 x.epoch, .int .i64 x.granted, .slice b l c, .int .i64 x.merged, .int .i64 x.last] L x.epoch x.granted x.merged x.last x.taken p nn k G w3) := H2.out.below hb
  obtain ⟨d, hd⟩ : ∃ d, d = x.ok per := ⟨_, rfl⟩
  rw [← hd]
  have HD : Hid (d = x.ok per) := hd
  clear hd hb H2
  cases d
  · have HV : Hid (x.merge per n = (x, false)) := by show _ = _; unfold Se.merge; rw [if_neg (fun q => by have := HD.out; rw [q.1] at this; cases this)]
    go_wp2_with (first | go_skip | (with_reducible refine stopLoad 54 rfl ?_) | (with_reducible refine stopStore 54 rfl ?_))
    refine load_known 54 L #[.int .i64 x.epoch, .int .i64 x.granted, .slice p nn k, .int .i64 x.merged, .int .i64 x.last] 54 _ H3.out.loc rfl rfl rfl Try.underlying54 rfl infoSeI ?_
    go_wp2_with (first | go_skip | (with_reducible refine stopLoad 54 rfl ?_) | (with_reducible refine stopStore 54 rfl ?_))
    refine store_known 54 (w.heap.size + 1) _ #[.int .i64 x.epoch, .int .i64 x.granted, .slice p nn k, .int .i64 x.merged, .int .i64 x.last] 54 H3.out.res rfl rfl rfl rfl infoSeI rfl (by simp [Value.oneCell']) ?_
    go_wp2
    refine bodyPost_ret (results_row_tmp Try.results29 _ _ (w.heap.size + 1) _ _ _ _ rfl H3.out.res.setRow Try.underlying54 rfl infoSeI) rfl ?_
    rw [HV.out]
    exact ⟨_, G, rfl, H3.out.done.1, H3.out.done.2.1, H3.out.done.2.2⟩
  have HR : Hid (x.Right per) := Se.right HD.out.symm
  go_wp2_with fail
  refine (l1In_any n 0 60 _).mono ?_
  rintro e w4 ⟨rfl, hq⟩
  have hq' := hq.symm
  subst hq'
  clear hq
  obtain ⟨d2, hd2⟩ : ∃ d, d = decide (0 ≤ n ∧ n ≤ 60) := ⟨_, rfl⟩
  rw [← hd2]
  have HD2 : Hid (d2 = decide (0 ≤ n ∧ n ≤ 60)) := hd2
  clear hd2
  cases d2
  · have HV : Hid (x.merge per n = (x, false)) := by show _ = _; have := of_decide_eq_false HD2.out.symm; have := HR.out.size; have := HR.out.merged; unfold Se.merge; rw [if_neg (by omega)]
    go_wp2_with (first | go_skip | (with_reducible refine stopLoad 54 rfl ?_) | (with_reducible refine stopStore 54 rfl ?_))
    refine load_known 54 L #[.int .i64 x.epoch, .int .i64 x.granted, .slice p nn k, .int .i64 x.merged, .int .i64 x.last] 54 _ H3.out.loc rfl rfl rfl Try.underlying54 rfl infoSeI ?_
    go_wp2_with (first | go_skip | (with_reducible refine stopLoad 54 rfl ?_) | (with_reducible refine stopStore 54 rfl ?_))
    refine store_known 54 (w.heap.size + 1) _ #[.int .i64 x.epoch, .int .i64 x.granted, .slice p nn k, .int .i64 x.merged, .int .i64 x.last] 54 H3.out.res rfl rfl rfl rfl infoSeI rfl (by simp [Value.oneCell']) ?_
    go_wp2
    refine bodyPost_ret (results_row_tmp Try.results29 _ _ (w.heap.size + 1) _ _ _ _ rfl H3.out.res.setRow Try.underlying54 rfl infoSeI) rfl ?_
    rw [HV.out]
    exact ⟨_, G, rfl, H3.out.done.1, H3.out.done.2.1, H3.out.done.2.2⟩
  have HN : Hid (0 ≤ n ∧ n ≤ 60) := by show _ ∧ _; exact of_decide_eq_true HD2.out.symm
  have hwz : IntKind.i64.wrap (x.merged + n) = x.merged + n := wrapSe (by have := HR.out.merged; have := HN.out; have := HSZ.out; omega)
  have hm0 : 0 ≤ x.merged + n := by have := HR.out.merged; have := HN.out; omega
  have hm1 : x.merged + n ≤ 20971520008 := by have := HR.out.merged; have := HN.out; have := HSZ.out; have := HR.out.size; omega
  have c3 := H3.out.box.cell 3
  have e3 := H3.out.loc.cell 3
  have f3 := H3.out.loc.frozen 3
  simp only [aT, aS, aZ] at c3 e3
  go_wp2_with (first | go_skip | (with_reducible refine stopLoad 54 rfl ?_) | (with_reducible refine stopStore 54 rfl ?_))
  have H4 : Hid (SeW w #[.int .i64 x.epoch, .int .i64 x.granted, .slice b l c, .int .i64 x.merged, .int .i64 x.last] L x.epoch x.granted (x.merged + n) x.last x.taken p nn k G (w3.setCell ⟨L, 3, none⟩ (.int .i64 (x.merged + n)))) := H3.out.set 3 (.int .i64 (x.merged + n)) rfl
  obtain ⟨w4, hw4⟩ : ∃ W, W = w3.setCell ⟨L, 3, none⟩ (.int .i64 (x.merged + n)) := ⟨_, rfl⟩
  rw [← hw4] at H4 ⊢
  clear hw4 c3 e3 f3 H3 hwz hm0 hm1
  refine load_known 54 L #[.int .i64 x.epoch, .int .i64 x.granted, .slice p nn k, .int .i64 (x.merged + n), .int .i64 x.last] 54 _ H4.out.loc rfl rfl rfl Try.underlying54 rfl infoSeI ?_
  go_wp2_with fail
  refine (seOkSpec_any _ (x.plus n) per G _ H4.out.rd HX.out.2).mono ?_
  rintro e w5 ⟨rfl, hb⟩
  have H5 : Hid (SeW w #[.int .i64 x.epoch, .int .i64 x.granted, .slice b l c, .int .i64 x.merged, .int .i64 x.last] L x.epoch x.granted (x.merged + n) x.last x.taken p nn k G w5) := H4.out.below hb
  obtain ⟨d3, hd3⟩ : ∃ d, d = (x.plus n).ok per := ⟨_, rfl⟩
  rw [← hd3]
  have HD3 : Hid (d3 = decide (n ≤ x.taken.size - x.merged)) := hd3.trans (Se.plus_ok HR.out HN.out.1)
  clear hd3 hb H4
  cases d3
  · have HV : Hid (x.merge per n = (x, false)) := by show _ = _; have := of_decide_eq_false HD3.out.symm; unfold Se.merge; rw [if_neg (by omega)]
    go_wp2_with (first | go_skip | (with_reducible refine stopLoad 54 rfl ?_) | (with_reducible refine stopStore 54 rfl ?_))
    refine load_known 54 w.heap.size #[.int .i64 x.epoch, .int .i64 x.granted, .slice b l c, .int .i64 x.merged, .int .i64 x.last] 54 _ H5.out.box rfl rfl rfl Try.underlying54 rfl infoSeI ?_
    go_wp2_with fail
    refine (l9Copy_any _ x F _ (HX.out.1.below H5.out.bel) HX.out.2).mono ?_
    rintro e w6 ⟨zv, G6, rfl, ⟨p6, n6, k6, rfl, rp, kp⟩, oz, bz⟩
    have hlt := H5.out.res.lt
    have H6 : Hid (Blk w6 (w.heap.size + 1) #[.int .i64 0, .int .i64 0, .slice none 0 0, .int .i64 0, .int .i64 0] 54 ∧ RdP w6 p6 n6 x.taken G6 ∧ Capd p6 n6 k6 ∧ Own (w.heap.size + 2) w6 G6 ∧ Below w.heap.size w w6) := ⟨H5.out.res.below bz, rp, kp, oz.mono (by omega), Below.next H5.out.bel bz⟩
    clear rp kp oz bz hlt H5
    go_wp2_with (first | go_skip | (with_reducible refine stopLoad 54 rfl ?_) | (with_reducible refine stopStore 54 rfl ?_))
    refine store_known 54 (w.heap.size + 1) _ #[.int .i64 x.epoch, .int .i64 x.granted, .slice p6 n6 k6, .int .i64 x.merged, .int .i64 x.last] 54 H6.out.1 rfl rfl rfl rfl infoSeI rfl (by simp [Value.oneCell']) ?_
    go_wp2
    refine bodyPost_ret (results_row_tmp Try.results29 _ _ (w.heap.size + 1) _ _ _ _ rfl H6.out.1.setRow Try.underlying54 rfl infoSeI) rfl ?_
    have nr : w.heap.size + 1 ∉ G6 := fun hx => by have := H6.out.2.2.2.1.ge _ hx; omega
    rw [HV.out]
    exact ⟨_, G6, rfl, ⟨p6, n6, k6, rfl, H6.out.2.1.agree (Agree.row nr _), H6.out.2.2.1⟩, (H6.out.2.2.2.1.agree (Agree.row nr _)).mono (by omega), below_setRow H6.out.2.2.2.2 (by omega) _⟩
  have HV : Hid (x.merge per n = (x.plus n, true)) := by show _ = _; unfold Se.merge; rw [if_pos ⟨HD.out.symm, HN.out.1, of_decide_eq_true HD3.out.symm⟩]
  go_wp2_with (first | go_skip | (with_reducible refine stopLoad 54 rfl ?_) | (with_reducible refine stopStore 54 rfl ?_))
  refine load_known 54 L #[.int .i64 x.epoch, .int .i64 x.granted, .slice p nn k, .int .i64 (x.merged + n), .int .i64 x.last] 54 _ H5.out.loc rfl rfl rfl Try.underlying54 rfl infoSeI ?_
  go_wp2_with (first | go_skip | (with_reducible refine stopLoad 54 rfl ?_) | (with_reducible refine stopStore 54 rfl ?_))
  refine store_known 54 (w.heap.size + 1) _ #[.int .i64 x.epoch, .int .i64 x.granted, .slice p nn k, .int .i64 (x.merged + n), .int .i64 x.last] 54 H5.out.res rfl rfl rfl rfl infoSeI rfl (by simp [Value.oneCell']) ?_
  go_wp2
  refine bodyPost_ret (results_row_tmp Try.results29 _ _ (w.heap.size + 1) _ _ _ _ rfl H5.out.res.setRow Try.underlying54 rfl infoSeI) rfl ?_
  rw [HV.out]
  exact ⟨_, G, rfl, H5.out.done.1, H5.out.done.2.1, H5.out.done.2.2⟩
set_option maxRecDepth 200000 in
set_option maxHeartbeats 8000000 in
theorem seMergeImpl_any (v : Value) (x : Se) (per : Int) (n : Int) (F : List Nat) (w : World) (h : RdSe w v x F) (hl : x.taken.length ≤ 2097152) :
    Calls Try.prog 28 #[v, .int .i64 per, .int .i64 n] w fun e w' => NewSe2 w (x.merge per n) e w' := by
  obtain ⟨b, l, c, rfl, hP, hcp⟩ := h
  have HX : Hid (RdSe w (.agg #[.int .i64 x.epoch, .int .i64 x.granted, .slice b l c, .int .i64 x.merged, .int .i64 x.last]) x F ∧ x.taken.length ≤ 2097152) := ⟨⟨b, l, c, rfl, hP, hcp⟩, hl⟩
  have HP : Hid (RdP w b l x.taken F ∧ l ≤ 2097152 ∧ x.taken.length = l ∧ Capd b l c) := ⟨hP, by rw [← hP.length]; exact hl, hP.length, hcp⟩
  have HSZ : Hid (0 ≤ x.taken.size ∧ x.taken.size ≤ 20971520000) := by have := Sp.size_range x.taken; exact ⟨this.1, by omega⟩
  clear hP hl hcp
  have HT : Hid (Two w #[.int .i64 x.epoch, .int .i64 x.granted, .slice b l c, .int .i64 x.merged, .int .i64 x.last] #[.int .i64 0, .int .i64 0, .slice none 0 0, .int .i64 0, .int .i64 0] 54 ((w.alloc (.cells #[.int .i64 x.epoch, .int .i64 x.granted, .slice b l c, .int .i64 x.merged, .int .i64 x.last] 54)).alloc (.cells #[.int .i64 0, .int .i64 0, .slice none 0 0, .int .i64 0, .int .i64 0] 54))) := Two.made w _ _ _
  go_enter Try.func28, Try.ntmps28
  go_wp2_with (first | go_skip | (with_reducible refine stopLoad 54 rfl ?_) | (with_reducible refine stopStore 54 rfl ?_))
  obtain ⟨W0, hW0⟩ : ∃ W, W = (w.alloc (.cells #[.int .i64 x.epoch, .int .i64 x.granted, .slice b l c, .int .i64 x.merged, .int .i64 x.last] 54)).alloc (.cells #[.int .i64 0, .int .i64 0, .slice none 0 0, .int .i64 0, .int .i64 0] 54) := ⟨_, rfl⟩
  rw [← hW0] at HT ⊢
  clear hW0
  refine load_known 54 w.heap.size #[.int .i64 x.epoch, .int .i64 x.granted, .slice b l c, .int .i64 x.merged, .int .i64 x.last] 54 _ HT.out.fst rfl rfl rfl Try.underlying54 rfl infoSeI ?_
  go_wp2_with fail
  refine (copiedSeat_any _ x F _ (HX.out.1.below HT.out.bel) HX.out.2).mono ?_
  rintro e w1 ⟨zv, G, rfl, ⟨p, nn, k, rfl, rp, kp⟩, oz, bz⟩
  have HC1 : Hid (Two w #[.int .i64 x.epoch, .int .i64 x.granted, .slice b l c, .int .i64 x.merged, .int .i64 x.last] #[.int .i64 0, .int .i64 0, .slice none 0 0, .int .i64 0, .int .i64 0] 54 W0 ∧ RdP w1 p nn x.taken G ∧ Capd p nn k ∧ Own W0.heap.size w1 G ∧ Below W0.heap.size W0 w1) := ⟨HT.out, rp, kp, oz, bz⟩
  clear rp kp oz bz HT
  go_wp2_with (first | go_skip | (with_reducible refine stopLoad 54 rfl ?_) | (with_reducible refine stopStore 54 rfl ?_))
  refine store_fresh 54 w1.heap.size rfl #[.int .i64 0, .int .i64 0, .slice none 0 0, .int .i64 0, .int .i64 0] #[.int .i64 x.epoch, .int .i64 x.granted, .slice p nn k, .int .i64 x.merged, .int .i64 x.last] 54 rfl rfl rfl rfl infoSeI rfl (by simp [Value.oneCell']) ?_
  intro w2 hg hb
  have H2 : Hid (SeW w #[.int .i64 x.epoch, .int .i64 x.granted, .slice b l c, .int .i64 x.merged, .int .i64 x.last] w1.heap.size x.epoch x.granted x.merged x.last x.taken p nn k G w2) := SeW.start HC1.out.1 HC1.out.2.1 HC1.out.2.2.1 HC1.out.2.2.2.1 HC1.out.2.2.2.2 hg hb
  obtain ⟨L, hL⟩ : ∃ L, L = w1.heap.size := ⟨_, rfl⟩
  rw [← hL] at H2 ⊢
  clear hg hb hL HC1
  go_wp2_with fail
  obtain ⟨Y0, hY0⟩ : ∃ W, W = w2.drew := ⟨_, rfl⟩
  have HS : Hid (SeW w #[.int .i64 x.epoch, .int .i64 x.granted, .slice b l c, .int .i64 x.merged, .int .i64 x.last] L x.epoch x.granted x.merged x.last x.taken p nn k G Y0) := by rw [hY0]; exact H2.out.drew
  clear H2
  refine wp_region_held (S := fun W => Blk W w.heap.size #[.int .i64 x.epoch, .int .i64 x.granted, .slice b l c, .int .i64 x.merged, .int .i64 x.last] 54) (by kernel_rfl) ?_
  change wpAnyH _ _ _ _ _ _ _ _ (World.drew _)
  rw [← hY0]
  clear hY0
  refine takeH (o := ?o1) 0 (.agg #[.int .i64 x.epoch, .int .i64 x.granted, .slice b l c, .int .i64 x.merged, .int .i64 x.last]) ?h1 ?r1
  case h1 => simp only [aT, aZ]; rfl
  refine ⟨_, by simp [Act.put]; rfl, by kernel_rfl, by kernel_rfl, by kernel_rfl, fun _ _ _ h => h, (yields_whole 54 _ #[.int .i64 x.epoch, .int .i64 x.granted, .slice b l c, .int .i64 x.merged, .int .i64 x.last] 54 _ rfl rfl rfl Try.underlying54 rfl infoSeI (fun W hW => hW)), HS.out.box, ?_⟩
  refine takeH (o := ?o2) 1 (.int .i64 per) ?h2 ?r2
  case h2 => simp only [aT, aS, aZ]; rfl
  refine ⟨_, by simp [Act.put]; rfl, by kernel_rfl, by kernel_rfl, by kernel_rfl, fun _ _ _ h => h, (.inl ⟨rfl, fun W _ => by kernel_rfl⟩), HS.out.box, ?_⟩
  refine onlyH (o := ?o3) 2 (by kernel_rfl) ?h3 ?r3
  case h3 => simp only [aT, aS, aZ]; rfl
  intro K hK
  obtain ⟨d, hd⟩ : ∃ d, d = x.ok per := ⟨_, rfl⟩
  have HD : Hid (d = x.ok per) := hd
  refine op_callS2 31 _ _ _ Try.f31 (fun v w' => v = .bool d ∧ Below Y0.heap.size Y0 w') rfl rfl Try.func31 (by kernel_rfl) (by kernel_rfl) ((seOkImpl_any _ x per F Y0 (HX.out.1.below HS.out.bel) HX.out.2).mono (by rintro e w' ⟨rfl, hb⟩; exact ⟨_, rfl, by rw [hd], hb⟩)) ?_
  rintro v Y1 ⟨rfl, hb⟩
  have HS : Hid (SeW w #[.int .i64 x.epoch, .int .i64 x.granted, .slice b l c, .int .i64 x.merged, .int .i64 x.last] L x.epoch x.granted x.merged x.last x.taken p nn k G Y1) := HS.out.below hb
  clear hd hb
  refine ⟨_, by simp [Act.put]; rfl, hK _ _ ⟨HS.out.box, ?_⟩⟩
  clear hK
  cases d
  · refine takeH (o := ?o4) 3 (.bool true) ?h4 ?r4
    case h4 => simp only [aT, aS, aZ]; rfl
    refine ⟨_, by simp [Act.put]; rfl, by kernel_rfl, by kernel_rfl, by kernel_rfl, fun _ _ _ h => h, (.inl ⟨rfl, fun W _ => by go_simp⟩), HS.out.box, ?_⟩
    refine takeH (o := ?o5) 4 (.bool true) ?h5 ?r5
    case h5 => simp only [aT, aS, aZ]; rfl
    refine ⟨_, by simp [Act.put]; rfl, by kernel_rfl, by kernel_rfl, by kernel_rfl, fun _ _ _ h => h, (.inl ⟨rfl, fun W _ => by kernel_rfl⟩), HS.out.box, ?_⟩
    refine takeH (o := ?o6) 5 (undef) ?h6 ?r6
    case h6 => simp only [aT, aS, aZ]; rfl
    refine ⟨_, by simp [Act.put]; rfl, by kernel_rfl, by kernel_rfl, by kernel_rfl, fun _ _ _ h => h, (.inr ⟨rfl, rfl⟩), HS.out.box, ?_⟩
    refine takeH (o := ?o7) 6 (undef) ?h7 ?r7
    case h7 => simp only [aT, aS, aZ]; rfl
    refine ⟨_, by simp [Act.put]; rfl, by kernel_rfl, by kernel_rfl, by kernel_rfl, fun _ _ _ h => h, (.inr ⟨rfl, rfl⟩), HS.out.box, ?_⟩
    refine takeH (o := ?o8) 7 (undef) ?h8 ?r8
    case h8 => simp only [aT, aS, aZ]; rfl
    refine ⟨_, by simp [Act.put]; rfl, by kernel_rfl, by kernel_rfl, by kernel_rfl, fun _ _ _ h => h, (.inr ⟨rfl, rfl⟩), HS.out.box, ?_⟩
    refine takeH (o := ?o9) 8 (undef) ?h9 ?r9
    case h9 => simp only [aT, aS, aZ]; rfl
    refine ⟨_, by simp [Act.put]; rfl, by kernel_rfl, by kernel_rfl, by kernel_rfl, fun _ _ _ h => h, (.inr ⟨rfl, rfl⟩), HS.out.box, ?_⟩
    refine takeH (o := ?o10) 9 (undef) ?h10 ?r10
    case h10 => simp only [aT, aS, aZ]; rfl
    refine ⟨_, by simp [Act.put]; rfl, by kernel_rfl, by kernel_rfl, by kernel_rfl, fun _ _ _ h => h, (.inr ⟨rfl, rfl⟩), HS.out.box, ?_⟩
    refine takeH (o := ?o11) 10 (undef) ?h11 ?r11
    case h11 => simp only [aT, aS, aZ]; rfl
    refine ⟨_, by simp [Act.put]; rfl, by kernel_rfl, by kernel_rfl, by kernel_rfl, fun _ _ _ h => h, (.inr ⟨rfl, rfl⟩), HS.out.box, ?_⟩
    refine takeH (o := ?o12) 11 (undef) ?h12 ?r12
    case h12 => simp only [aT, aS, aZ]; rfl
    refine ⟨_, by simp [Act.put]; rfl, by kernel_rfl, by kernel_rfl, by kernel_rfl, fun _ _ _ h => h, (.inr ⟨rfl, rfl⟩), HS.out.box, ?_⟩
    refine takeH (o := ?o13) 12 (undef) ?h13 ?r13
    case h13 => simp only [aT, aS, aZ]; rfl
    refine ⟨_, by simp [Act.put]; rfl, by kernel_rfl, by kernel_rfl, by kernel_rfl, fun _ _ _ h => h, (.inr ⟨rfl, rfl⟩), HS.out.box, ?_⟩
    refine takeH (o := ?o14) 13 (undef) ?h14 ?r14
    case h14 => simp only [aT, aS, aZ]; rfl
    refine ⟨_, by simp [Act.put]; rfl, by kernel_rfl, by kernel_rfl, by kernel_rfl, fun _ _ _ h => h, (.inr ⟨rfl, rfl⟩), HS.out.box, ?_⟩
    refine takeH (o := ?o15) 14 (.bool true) ?h15 ?r15
    case h15 => simp only [aT, aS, aZ]; rfl
    refine ⟨_, by simp [Act.put]; rfl, by kernel_rfl, by kernel_rfl, by kernel_rfl, fun _ _ _ h => h, (.inl ⟨rfl, fun W _ => by kernel_rfl⟩), HS.out.box, ?_⟩
    refine wpAnyH_done (by kernel_rfl) ?_ _
    have HV : Hid (x.merge per n = (x, false)) := by show _ = _; unfold Se.merge; rw [if_neg (fun q => by have := HD.out; rw [q.1] at this; cases this)]
    go_wp2_with (first | go_skip | (with_reducible refine stopLoad 54 rfl ?_) | (with_reducible refine stopStore 54 rfl ?_))
    refine load_known 54 L #[.int .i64 x.epoch, .int .i64 x.granted, .slice p nn k, .int .i64 x.merged, .int .i64 x.last] 54 _ HS.out.loc rfl rfl rfl Try.underlying54 rfl infoSeI ?_
    go_wp2_with (first | go_skip | (with_reducible refine stopLoad 54 rfl ?_) | (with_reducible refine stopStore 54 rfl ?_))
    refine store_known 54 (w.heap.size + 1) _ #[.int .i64 x.epoch, .int .i64 x.granted, .slice p nn k, .int .i64 x.merged, .int .i64 x.last] 54 HS.out.res rfl rfl rfl rfl infoSeI rfl (by simp [Value.oneCell']) ?_
    go_wp2
    refine bodyPost_ret (results_row_tmp Try.results28 _ _ (w.heap.size + 1) _ _ _ _ rfl HS.out.res.setRow Try.underlying54 rfl infoSeI) rfl ?_
    rw [HV.out]
    exact ⟨_, G, rfl, HS.out.done.1, HS.out.done.2.1, HS.out.done.2.2⟩
  have HR : Hid (x.Right per) := Se.right HD.out.symm
  refine takeH (o := ?o16) 3 (.bool false) ?h16 ?r16
  case h16 => simp only [aT, aS, aZ]; rfl
  refine ⟨_, by simp [Act.put]; rfl, by kernel_rfl, by kernel_rfl, by kernel_rfl, fun _ _ _ h => h, (.inl ⟨rfl, fun W _ => by go_simp⟩), HS.out.box, ?_⟩
  refine takeH (o := ?o17) 4 (.bool false) ?h17 ?r17
  case h17 => simp only [aT, aS, aZ]; rfl
  refine ⟨_, by simp [Act.put]; rfl, by kernel_rfl, by kernel_rfl, by kernel_rfl, fun _ _ _ h => h, (.inl ⟨rfl, fun W _ => by kernel_rfl⟩), HS.out.box, ?_⟩
  refine takeH (o := ?o18) 5 (.int .i64 n) ?h18 ?r18
  case h18 => simp only [aT, aS, aZ]; rfl
  refine ⟨_, by simp [Act.put]; rfl, by kernel_rfl, by kernel_rfl, by kernel_rfl, fun _ _ _ h => h, (.inl ⟨rfl, fun W _ => by kernel_rfl⟩), HS.out.box, ?_⟩
  refine takeH (o := ?o19) 6 (.pointer (some ⟨w.heap.size, 2, none⟩)) ?h19 ?r19
  case h19 => simp only [aT, aS, aZ]; rfl
  refine ⟨_, by simp [Act.put]; rfl, by kernel_rfl, by kernel_rfl, by kernel_rfl, fun _ _ _ h => h, (.inl ⟨rfl, fun W _ => by kernel_rfl⟩), HS.out.box, ?_⟩
  refine takeH (o := ?o20) 7 (.slice b l c) ?h20 ?r20
  case h20 => simp only [aT, aS, aZ]; rfl
  refine ⟨_, by simp [Act.put]; rfl, by kernel_rfl, by kernel_rfl, by kernel_rfl, fun _ _ _ h => h, (.inl ⟨rfl, fun W hW => by have c := hW.cell 2; simp only [aT, aS, aZ] at c; go_simp⟩), HS.out.box, ?_⟩
  refine takeH (o := ?o21) 9 (.pointer (some ⟨w.heap.size, 3, none⟩)) ?h21 ?r21
  case h21 => simp only [aT, aS, aZ]; rfl
  refine ⟨_, by simp [Act.put]; rfl, by kernel_rfl, by kernel_rfl, by kernel_rfl, fun _ _ _ h => h, (.inl ⟨rfl, fun W _ => by kernel_rfl⟩), HS.out.box, ?_⟩
  refine takeH (o := ?o22) 10 (.int .i64 x.merged) ?h22 ?r22
  case h22 => simp only [aT, aS, aZ]; rfl
  refine ⟨_, by simp [Act.put]; rfl, by kernel_rfl, by kernel_rfl, by kernel_rfl, fun _ _ _ h => h, (.inl ⟨rfl, fun W hW => by have c := hW.cell 3; simp only [aT, aS, aZ] at c; go_simp⟩), HS.out.box, ?_⟩
  refine onlyH (o := ?o23) 8 (by kernel_rfl) ?h23 ?r23
  case h23 => simp only [aT, aS, aZ]; rfl
  intro K hK
  refine op_call1 32 _ _ Try.f32 (fun v w' => v = .int .i64 x.taken.size ∧ Below Y1.heap.size Y1 w') rfl rfl Try.func32 (by kernel_rfl) (by kernel_rfl) ((sizeImpl_any b l c x.taken F Y1 (HP.out.1.below HS.out.bel) HP.out.2.1).mono (by rintro e w' ⟨rfl, hb⟩; exact ⟨_, rfl, rfl, hb⟩)) ?_
  rintro v Y2 ⟨rfl, hb⟩
  have HS : Hid (SeW w #[.int .i64 x.epoch, .int .i64 x.granted, .slice b l c, .int .i64 x.merged, .int .i64 x.last] L x.epoch x.granted x.merged x.last x.taken p nn k G Y2) := HS.out.below hb
  clear hb
  refine ⟨_, by simp [Act.put]; rfl, hK _ _ ⟨HS.out.box, ?_⟩⟩
  clear hK
  have hwz : IntKind.i64.wrap (x.taken.size - x.merged) = x.taken.size - x.merged := wrapSe (by have := HR.out.merged; have := HSZ.out; omega)
  refine takeH (o := ?o24) 11 (.int .i64 (x.taken.size - x.merged)) ?h24 ?r24
  case h24 => simp only [aT, aS, aZ]; rfl
  refine ⟨_, by simp [Act.put]; rfl, by kernel_rfl, by kernel_rfl, by kernel_rfl, fun _ _ _ h => h, (.inl ⟨rfl, fun W _ => by first | (go_simp; done) | (go_simp; exact hwz)⟩), HS.out.box, ?_⟩
  refine onlyH (o := ?o25) 12 (by kernel_rfl) ?h25 ?r25
  case h25 => simp only [aT, aS, aZ]; rfl
  intro K hK
  clear hwz
  obtain ⟨d2, hd2⟩ : ∃ d, d = decide (0 ≤ n ∧ n ≤ x.taken.size - x.merged) := ⟨_, rfl⟩
  have HD2 : Hid (d2 = decide (0 ≤ n ∧ n ≤ x.taken.size - x.merged)) := hd2
  refine op_callS2 51 _ _ _ Try.f51 (fun v w' => v = .bool d2 ∧ w' = Y2) rfl rfl Try.func51 (by kernel_rfl) (by kernel_rfl) ((inRange_any n (x.taken.size - x.merged) Y2).mono (by rintro e w' ⟨rfl, rfl⟩; exact ⟨_, rfl, by rw [hd2], rfl⟩)) ?_
  rintro v Y3 ⟨rfl, hq⟩
  have hq' := hq.symm
  subst hq'
  clear hq hd2
  refine ⟨_, by simp [Act.put]; rfl, hK _ _ ⟨HS.out.box, ?_⟩⟩
  clear hK
  cases d2
  · refine takeH (o := ?o26) 13 (.bool true) ?h26 ?r26
    case h26 => simp only [aT, aS, aZ]; rfl
    refine ⟨_, by simp [Act.put]; rfl, by kernel_rfl, by kernel_rfl, by kernel_rfl, fun _ _ _ h => h, (.inl ⟨rfl, fun W _ => by go_simp⟩), HS.out.box, ?_⟩
    refine takeH (o := ?o27) 14 (.bool true) ?h27 ?r27
    case h27 => simp only [aT, aS, aZ]; rfl
    refine ⟨_, by simp [Act.put]; rfl, by kernel_rfl, by kernel_rfl, by kernel_rfl, fun _ _ _ h => h, (.inl ⟨rfl, fun W _ => by kernel_rfl⟩), HS.out.box, ?_⟩
    refine wpAnyH_done (by kernel_rfl) ?_ _
    have HV : Hid (x.merge per n = (x, false)) := by show _ = _; have := of_decide_eq_false HD2.out.symm; unfold Se.merge; rw [if_neg (fun q => this q.2)]
    go_wp2_with (first | go_skip | (with_reducible refine stopLoad 54 rfl ?_) | (with_reducible refine stopStore 54 rfl ?_))
    refine load_known 54 L #[.int .i64 x.epoch, .int .i64 x.granted, .slice p nn k, .int .i64 x.merged, .int .i64 x.last] 54 _ HS.out.loc rfl rfl rfl Try.underlying54 rfl infoSeI ?_
    go_wp2_with (first | go_skip | (with_reducible refine stopLoad 54 rfl ?_) | (with_reducible refine stopStore 54 rfl ?_))
    refine store_known 54 (w.heap.size + 1) _ #[.int .i64 x.epoch, .int .i64 x.granted, .slice p nn k, .int .i64 x.merged, .int .i64 x.last] 54 HS.out.res rfl rfl rfl rfl infoSeI rfl (by simp [Value.oneCell']) ?_
    go_wp2
    refine bodyPost_ret (results_row_tmp Try.results28 _ _ (w.heap.size + 1) _ _ _ _ rfl HS.out.res.setRow Try.underlying54 rfl infoSeI) rfl ?_
    rw [HV.out]
    exact ⟨_, G, rfl, HS.out.done.1, HS.out.done.2.1, HS.out.done.2.2⟩
  refine takeH (o := ?o28) 13 (.bool false) ?h28 ?r28
  case h28 => simp only [aT, aS, aZ]; rfl
  refine ⟨_, by simp [Act.put]; rfl, by kernel_rfl, by kernel_rfl, by kernel_rfl, fun _ _ _ h => h, (.inl ⟨rfl, fun W _ => by go_simp⟩), HS.out.box, ?_⟩
  refine takeH (o := ?o29) 14 (.bool false) ?h29 ?r29
  case h29 => simp only [aT, aS, aZ]; rfl
  refine ⟨_, by simp [Act.put]; rfl, by kernel_rfl, by kernel_rfl, by kernel_rfl, fun _ _ _ h => h, (.inl ⟨rfl, fun W _ => by kernel_rfl⟩), HS.out.box, ?_⟩
  refine wpAnyH_done (by kernel_rfl) ?_ _
  have HN : Hid (0 ≤ n ∧ n ≤ x.taken.size - x.merged) := by show _ ∧ _; exact of_decide_eq_true HD2.out.symm
  have HV : Hid (x.merge per n = (x.plus n, true)) := by show _ = _; unfold Se.merge; rw [if_pos ⟨HD.out.symm, HN.out⟩]
  have hwz : IntKind.i64.wrap (x.merged + n) = x.merged + n := wrapSe (by have := HR.out.merged; have := HN.out; have := HSZ.out; omega)
  have hm0 : 0 ≤ x.merged + n := by have := HR.out.merged; have := HN.out; omega
  have hm1 : x.merged + n ≤ 20971520008 := by have := HR.out.merged; have := HN.out; have := HSZ.out; omega
  have e3 := HS.out.loc.cell 3
  have f3 := HS.out.loc.frozen 3
  simp only [aT, aS, aZ] at e3
  go_wp2_with (first | go_skip | (with_reducible refine stopLoad 54 rfl ?_) | (with_reducible refine stopStore 54 rfl ?_))
  have H4 : Hid (SeW w #[.int .i64 x.epoch, .int .i64 x.granted, .slice b l c, .int .i64 x.merged, .int .i64 x.last] L x.epoch x.granted (x.merged + n) x.last x.taken p nn k G (Y2.setCell ⟨L, 3, none⟩ (.int .i64 (x.merged + n)))) := HS.out.set 3 (.int .i64 (x.merged + n)) rfl
  obtain ⟨w4, hw4⟩ : ∃ W, W = Y2.setCell ⟨L, 3, none⟩ (.int .i64 (x.merged + n)) := ⟨_, rfl⟩
  rw [← hw4] at H4 ⊢
  clear hw4 e3 f3 HS hwz hm0 hm1
  refine load_known 54 L #[.int .i64 x.epoch, .int .i64 x.granted, .slice p nn k, .int .i64 (x.merged + n), .int .i64 x.last] 54 _ H4.out.loc rfl rfl rfl Try.underlying54 rfl infoSeI ?_
  go_wp2_with (first | go_skip | (with_reducible refine stopLoad 54 rfl ?_) | (with_reducible refine stopStore 54 rfl ?_))
  refine store_known 54 (w.heap.size + 1) _ #[.int .i64 x.epoch, .int .i64 x.granted, .slice p nn k, .int .i64 (x.merged + n), .int .i64 x.last] 54 H4.out.res rfl rfl rfl rfl infoSeI rfl (by simp [Value.oneCell']) ?_
  go_wp2
  refine bodyPost_ret (results_row_tmp Try.results28 _ _ (w.heap.size + 1) _ _ _ _ rfl H4.out.res.setRow Try.underlying54 rfl infoSeI) rfl ?_
  rw [HV.out]
  exact ⟨_, G, rfl, H4.out.done.1, H4.out.done.2.1, H4.out.done.2.2⟩
end Go.Proofs.Ytgkbhhlkaifnoaa
/- The walks through SeatData, of the model. No statement of the seat is proved here. -/
namespace Go.Proofs.Ytgkbhhlkaifnoaa
open Go.RowKit
def Se.took (x : Se) (sq : Int) : Se := ⟨x.epoch, x.granted, put x.taken (sq, sq) false, x.merged, x.last⟩
/-- A seat behind a SeatData, and the code. -/
def Se.data (x : Se) (per ep sq : Int) : Se × Int :=
  if ¬ (x.ok per = true ∧ 1 ≤ sq ∧ sq ≤ 60) then (x, 4) else if ¬ ep = x.epoch then (x, 2) else if x.taken.has sq = true then (x, 1) else if x.granted < sq then (x, 3) else (x.took sq, 0)
def NewSeI (w : World) (z : Se × Int) (e : Ending) (w' : World) : Prop := ∃ v F, e = .returned (.tuple #[v, .int .i64 z.2]) ∧ RdSe w' v z.1 F ∧ Own w.heap.size w' F ∧ Below w.heap.size w w'
theorem Se.data_wide {x : Se} (h : x.fits) (per ep sq : Int) : (x.data per ep sq).1.wide := by
  have hw := h.wide
  unfold Se.data
  split
  · exact hw
  split
  · exact hw
  split
  · exact hw
  split
  · exact hw
  · have := put_length x.taken (sq, sq) false
    unfold Se.fits at h
    show (put x.taken (sq, sq) false).length ≤ 2097152
    omega
section
variable {x : Se} {per ep sq : Int}
theorem Se.data_bad (h : ¬ (x.ok per = true ∧ 1 ≤ sq ∧ sq ≤ 60)) : x.data per ep sq = (x, 4) := by unfold Se.data; rw [if_pos h]
theorem Se.data_epoch (h : x.ok per = true ∧ 1 ≤ sq ∧ sq ≤ 60) (h2 : ¬ ep = x.epoch) : x.data per ep sq = (x, 2) := by unfold Se.data; rw [if_neg (fun q => q h), if_pos h2]
theorem Se.data_twice (h : x.ok per = true ∧ 1 ≤ sq ∧ sq ≤ 60) (h2 : ep = x.epoch) (h3 : x.taken.has sq = true) : x.data per ep sq = (x, 1) := by unfold Se.data; rw [if_neg (fun q => q h), if_neg (fun q => q h2), if_pos h3]
theorem Se.data_credit (h : x.ok per = true ∧ 1 ≤ sq ∧ sq ≤ 60) (h2 : ep = x.epoch) (h3 : x.taken.has sq = false) (h4 : x.granted < sq) : x.data per ep sq = (x, 3) := by unfold Se.data; rw [if_neg (fun q => q h), if_neg (fun q => q h2), if_neg (by rw [h3]; simp), if_pos h4]
theorem Se.data_new (h : x.ok per = true ∧ 1 ≤ sq ∧ sq ≤ 60) (h2 : ep = x.epoch) (h3 : x.taken.has sq = false) (h4 : ¬ x.granted < sq) : x.data per ep sq = (x.took sq, 0) := by unfold Se.data; rw [if_neg (fun q => q h), if_neg (fun q => q h2), if_neg (by rw [h3]; simp), if_neg h4]
end
theorem Se.took_eq {x : Se} {per sq : Int} (h : x.Right per) (hs : 1 ≤ sq ∧ sq ≤ 60) (hn : x.taken.has sq = false) : (x.taken.add sq).1 = put x.taken (sq, sq) false := by
  rw [Sp.add_yes h.taken (by omega) hn]
section
variable {w W W' : World} {A : Array Value} {L : Nat} {ep gr me la : Int} {ts : Sp} {b : Option Addr} {l c : Nat} {F : List Nat}
theorem SeW.row (h : SeW w A L ep gr me la ts b l c F W) {M : Nat} (hM : w.heap.size + 2 ≤ M) (hL : M ≠ L) (hF : M ∉ F) (ds : Array Value) : SeW w A L ep gr me la ts b l c F (W.setRow M ds) := by
  have ag := Agree.row (w := W) hF ds
  exact ⟨h.box.setRowOther (by omega), h.res.setRowOther (by omega), h.loc.setRowOther (fun e => hL e.symm), h.rp.agree ag, h.cp, h.own.agree ag, below_setRow h.bel (by omega) _, h.gt, h.ap⟩
end
set_option maxRecDepth 200000 in
theorem infoSpSe : (Try.prog.info? 81).map (·.size) = some 2 := by kernel_rfl
set_option maxRecDepth 200000 in
theorem l8OneSe_any (n : Int) (w : World) : Calls Try.prog 62 #[.int .i64 n] w fun e w' => e = .returned (.agg #[.int .i64 n, .int .i64 n]) ∧ Below w.heap.size w w' := by
  have H0 : Hid (Blk (w.alloc (.cells #[.int .i64 0, .int .i64 0] 81)) w.heap.size #[.int .i64 0, .int .i64 0] 81 ∧ Below w.heap.size w (w.alloc (.cells #[.int .i64 0, .int .i64 0] 81))) := ⟨Blk.made _ _ _, (Below.refl _ _).alloc (Nat.le_refl _) _⟩
  go_enter Try.func62, Try.ntmps62
  go_wp2_with (first | go_skip | (with_reducible refine stopStore 81 rfl ?_))
  refine store_known 81 w.heap.size _ #[.int .i64 n, .int .i64 n] 81 H0.out.1 rfl rfl rfl rfl infoSpSe rfl (by simp [Value.oneCell']) ?_
  go_wp2
  refine bodyPost_ret (results_cell_row Try.results62 _ _ w.heap.size _ _ (0, 0) _ rfl H0.out.1.setRow Try.underlying81 rfl infoSpSe) rfl ?_
  exact ⟨rfl, below_setRow H0.out.2 (Nat.le_refl _) _⟩
set_option maxRecDepth 200000 in
set_option maxHeartbeats 8000000 in
theorem seDataSpec_any (v : Value) (x : Se) (per : Int) (ep : Int) (sq : Int) (F : List Nat) (w : World) (h : RdSe w v x F) (hl : x.taken.length ≤ 2097152) :
    Calls Try.prog 120 #[v, .int .i64 per, .int .i64 ep, .int .i64 sq] w fun e w' => NewSeI w (x.data per ep sq) e w' := by
  obtain ⟨b, l, c, rfl, hP, hcp⟩ := h
  have HX : Hid (RdSe w (.agg #[.int .i64 x.epoch, .int .i64 x.granted, .slice b l c, .int .i64 x.merged, .int .i64 x.last]) x F ∧ x.taken.length ≤ 2097152) := ⟨⟨b, l, c, rfl, hP, hcp⟩, hl⟩
  have HP : Hid (RdP w b l x.taken F ∧ l ≤ 2097152 ∧ x.taken.length = l ∧ Capd b l c) := ⟨hP, by rw [← hP.length]; exact hl, hP.length, hcp⟩
  have HSZ : Hid (0 ≤ x.taken.size ∧ x.taken.size ≤ 20971520000) := by have := Sp.size_range x.taken; exact ⟨this.1, by omega⟩
  clear hP hl hcp
  have HT : Hid (Two w #[.int .i64 x.epoch, .int .i64 x.granted, .slice b l c, .int .i64 x.merged, .int .i64 x.last] #[.int .i64 0, .int .i64 0, .slice none 0 0, .int .i64 0, .int .i64 0] 54 ((w.alloc (.cells #[.int .i64 x.epoch, .int .i64 x.granted, .slice b l c, .int .i64 x.merged, .int .i64 x.last] 54)).alloc (.cells #[.int .i64 0, .int .i64 0, .slice none 0 0, .int .i64 0, .int .i64 0] 54))) := Two.made w _ _ _
  go_enter Try.func120, Try.ntmps120
  go_wp2_with (first | go_skip | (with_reducible refine stopLoad 54 rfl ?_) | (with_reducible refine stopStore 54 rfl ?_))
  obtain ⟨W0, hW0⟩ : ∃ W, W = (w.alloc (.cells #[.int .i64 x.epoch, .int .i64 x.granted, .slice b l c, .int .i64 x.merged, .int .i64 x.last] 54)).alloc (.cells #[.int .i64 0, .int .i64 0, .slice none 0 0, .int .i64 0, .int .i64 0] 54) := ⟨_, rfl⟩
  rw [← hW0] at HT ⊢
  clear hW0
  refine load_known 54 w.heap.size #[.int .i64 x.epoch, .int .i64 x.granted, .slice b l c, .int .i64 x.merged, .int .i64 x.last] 54 _ HT.out.fst rfl rfl rfl Try.underlying54 rfl infoSeI ?_
  go_wp2_with fail
  refine (l9Copy_any _ x F _ (HX.out.1.below HT.out.bel) HX.out.2).mono ?_
  rintro e w1 ⟨zv, G, rfl, ⟨p, n, k, rfl, rp, kp⟩, oz, bz⟩
  have HC1 : Hid (Two w #[.int .i64 x.epoch, .int .i64 x.granted, .slice b l c, .int .i64 x.merged, .int .i64 x.last] #[.int .i64 0, .int .i64 0, .slice none 0 0, .int .i64 0, .int .i64 0] 54 W0 ∧ RdP w1 p n x.taken G ∧ Capd p n k ∧ Own W0.heap.size w1 G ∧ Below W0.heap.size W0 w1) := ⟨HT.out, rp, kp, oz, bz⟩
  clear rp kp oz bz HT
  go_wp2_with (first | go_skip | (with_reducible refine stopLoad 54 rfl ?_) | (with_reducible refine stopStore 54 rfl ?_))
  refine store_fresh 54 w1.heap.size rfl #[.int .i64 0, .int .i64 0, .slice none 0 0, .int .i64 0, .int .i64 0] #[.int .i64 x.epoch, .int .i64 x.granted, .slice p n k, .int .i64 x.merged, .int .i64 x.last] 54 rfl rfl rfl rfl infoSeI rfl (by simp [Value.oneCell']) ?_
  intro w2 hg hb
  have H2 : Hid (SeW w #[.int .i64 x.epoch, .int .i64 x.granted, .slice b l c, .int .i64 x.merged, .int .i64 x.last] w1.heap.size x.epoch x.granted x.merged x.last x.taken p n k G w2) := SeW.start HC1.out.1 HC1.out.2.1 HC1.out.2.2.1 HC1.out.2.2.2.1 HC1.out.2.2.2.2 hg hb
  obtain ⟨L, hL⟩ : ∃ L, L = w1.heap.size := ⟨_, rfl⟩
  rw [← hL] at H2 ⊢
  clear hg hb hL HC1
  go_wp2_with (first | go_skip | (with_reducible refine stopLoad 54 rfl ?_) | (with_reducible refine stopStore 54 rfl ?_))
  refine load_known 54 w.heap.size #[.int .i64 x.epoch, .int .i64 x.granted, .slice b l c, .int .i64 x.merged, .int .i64 x.last] 54 _ H2.out.box rfl rfl rfl Try.underlying54 rfl infoSeI ?_
  go_wp2_with fail
  refine (seOkSpec_any _ x per F _ (HX.out.1.below H2.out.bel) HX.out.2).mono ?_
  rintro e w3 ⟨rfl, hb⟩
  have H3 : Hid (SeW w #[.int .i64 x.epoch, .int .i64 x.granted, .slice b l c, .int .i64 x.merged, .int .i64 x.last] L x.epoch x.granted x.merged x.last x.taken p n k G w3) := H2.out.below hb
  obtain ⟨d, hd⟩ : ∃ d, d = x.ok per := ⟨_, rfl⟩
  rw [← hd]
  have HD : Hid (d = x.ok per) := hd
  clear hd hb H2
  cases d
  · have HV : Hid (x.data per ep sq = (x, 4)) := Se.data_bad (fun q => by have := HD.out; rw [q.1] at this; cases this)
    go_wp2_with (first | go_skip | (with_reducible refine stopLoad 54 rfl ?_) | (with_reducible refine stopStore 54 rfl ?_))
    refine load_known 54 L #[.int .i64 x.epoch, .int .i64 x.granted, .slice p n k, .int .i64 x.merged, .int .i64 x.last] 54 _ H3.out.loc rfl rfl rfl Try.underlying54 rfl infoSeI ?_
    go_wp2_with (first | go_skip | (with_reducible refine stopLoad 54 rfl ?_) | (with_reducible refine stopStore 54 rfl ?_))
    refine store_known 54 (w.heap.size + 1) _ #[.int .i64 x.epoch, .int .i64 x.granted, .slice p n k, .int .i64 x.merged, .int .i64 x.last] 54 H3.out.res rfl rfl rfl rfl infoSeI rfl (by simp [Value.oneCell']) ?_
    go_wp2
    refine bodyPost_ret (results_row_tmp Try.results120 _ _ (w.heap.size + 1) _ _ _ _ rfl H3.out.res.setRow Try.underlying54 rfl infoSeI) rfl ?_
    rw [HV.out]
    exact ⟨_, G, rfl, H3.out.done.1, H3.out.done.2.1, H3.out.done.2.2⟩
  go_wp2_with fail
  refine (l1In_any sq 1 60 _).mono ?_
  rintro e w4 ⟨rfl, hq⟩
  have hq' := hq.symm
  subst hq'
  clear hq
  obtain ⟨d2, hd2⟩ : ∃ d, d = decide (1 ≤ sq ∧ sq ≤ 60) := ⟨_, rfl⟩
  rw [← hd2]
  have HD2 : Hid (d2 = decide (1 ≤ sq ∧ sq ≤ 60)) := hd2
  clear hd2
  cases d2
  · have HV : Hid (x.data per ep sq = (x, 4)) := Se.data_bad (fun q => of_decide_eq_false HD2.out.symm q.2)
    go_wp2_with (first | go_skip | (with_reducible refine stopLoad 54 rfl ?_) | (with_reducible refine stopStore 54 rfl ?_))
    refine load_known 54 L #[.int .i64 x.epoch, .int .i64 x.granted, .slice p n k, .int .i64 x.merged, .int .i64 x.last] 54 _ H3.out.loc rfl rfl rfl Try.underlying54 rfl infoSeI ?_
    go_wp2_with (first | go_skip | (with_reducible refine stopLoad 54 rfl ?_) | (with_reducible refine stopStore 54 rfl ?_))
    refine store_known 54 (w.heap.size + 1) _ #[.int .i64 x.epoch, .int .i64 x.granted, .slice p n k, .int .i64 x.merged, .int .i64 x.last] 54 H3.out.res rfl rfl rfl rfl infoSeI rfl (by simp [Value.oneCell']) ?_
    go_wp2
    refine bodyPost_ret (results_row_tmp Try.results120 _ _ (w.heap.size + 1) _ _ _ _ rfl H3.out.res.setRow Try.underlying54 rfl infoSeI) rfl ?_
    rw [HV.out]
    exact ⟨_, G, rfl, H3.out.done.1, H3.out.done.2.1, H3.out.done.2.2⟩
  have HH : Hid (x.ok per = true ∧ 1 ≤ sq ∧ sq ≤ 60) := ⟨HD.out.symm, of_decide_eq_true HD2.out.symm⟩
  have c0 := H3.out.box.cell 0
  simp only [aT, aZ] at c0
  by_cases hE : ep = x.epoch
  rotate_left
  · have HV : Hid (x.data per ep sq = (x, 2)) := Se.data_epoch HH.out hE
    have e0 : (ep != x.epoch) = true := by simpa using hE
    clear hE
    go_wp2_with (first | go_skip | (with_reducible refine stopLoad 54 rfl ?_) | (with_reducible refine stopStore 54 rfl ?_))
    refine load_known 54 L #[.int .i64 x.epoch, .int .i64 x.granted, .slice p n k, .int .i64 x.merged, .int .i64 x.last] 54 _ H3.out.loc rfl rfl rfl Try.underlying54 rfl infoSeI ?_
    go_wp2_with (first | go_skip | (with_reducible refine stopLoad 54 rfl ?_) | (with_reducible refine stopStore 54 rfl ?_))
    refine store_known 54 (w.heap.size + 1) _ #[.int .i64 x.epoch, .int .i64 x.granted, .slice p n k, .int .i64 x.merged, .int .i64 x.last] 54 H3.out.res rfl rfl rfl rfl infoSeI rfl (by simp [Value.oneCell']) ?_
    go_wp2
    refine bodyPost_ret (results_row_tmp Try.results120 _ _ (w.heap.size + 1) _ _ _ _ rfl H3.out.res.setRow Try.underlying54 rfl infoSeI) rfl ?_
    rw [HV.out]
    exact ⟨_, G, rfl, H3.out.done.1, H3.out.done.2.1, H3.out.done.2.2⟩
  have HE : Hid (ep = x.epoch) := hE
  have e0 : (ep != x.epoch) = false := by simpa using hE
  have c2 := H3.out.box.cell 2
  simp only [aT, aS, aZ] at c2
  clear hE
  go_wp2_with fail
  refine (hasSpec_any b l c x.taken sq F _ (HP.out.1.below H3.out.bel) (by have := HP.out.2.1; omega)).mono ?_
  rintro e w4 ⟨rfl, hb⟩
  have H4 : Hid (SeW w #[.int .i64 x.epoch, .int .i64 x.granted, .slice b l c, .int .i64 x.merged, .int .i64 x.last] L x.epoch x.granted x.merged x.last x.taken p n k G w4) := H3.out.below (quiet_below hb)
  obtain ⟨d3, hd3⟩ : ∃ d, d = x.taken.has sq := ⟨_, rfl⟩
  rw [← hd3]
  have HD3 : Hid (d3 = x.taken.has sq) := hd3
  clear hd3 hb c0 c2 e0 H3
  cases d3
  rotate_left
  · have HV : Hid (x.data per ep sq = (x, 1)) := Se.data_twice HH.out HE.out HD3.out.symm
    go_wp2_with (first | go_skip | (with_reducible refine stopLoad 54 rfl ?_) | (with_reducible refine stopStore 54 rfl ?_))
    refine load_known 54 L #[.int .i64 x.epoch, .int .i64 x.granted, .slice p n k, .int .i64 x.merged, .int .i64 x.last] 54 _ H4.out.loc rfl rfl rfl Try.underlying54 rfl infoSeI ?_
    go_wp2_with (first | go_skip | (with_reducible refine stopLoad 54 rfl ?_) | (with_reducible refine stopStore 54 rfl ?_))
    refine store_known 54 (w.heap.size + 1) _ #[.int .i64 x.epoch, .int .i64 x.granted, .slice p n k, .int .i64 x.merged, .int .i64 x.last] 54 H4.out.res rfl rfl rfl rfl infoSeI rfl (by simp [Value.oneCell']) ?_
    go_wp2
    refine bodyPost_ret (results_row_tmp Try.results120 _ _ (w.heap.size + 1) _ _ _ _ rfl H4.out.res.setRow Try.underlying54 rfl infoSeI) rfl ?_
    rw [HV.out]
    exact ⟨_, G, rfl, H4.out.done.1, H4.out.done.2.1, H4.out.done.2.2⟩
  have c1 := H4.out.box.cell 1
  simp only [aT, aS, aZ] at c1
  by_cases hG : x.granted < sq
  · have HV : Hid (x.data per ep sq = (x, 3)) := Se.data_credit HH.out HE.out HD3.out.symm hG
    have e1 : decide (x.granted < sq) = true := decide_eq_true hG
    clear hG
    go_wp2_with (first | go_skip | (with_reducible refine stopLoad 54 rfl ?_) | (with_reducible refine stopStore 54 rfl ?_))
    refine load_known 54 L #[.int .i64 x.epoch, .int .i64 x.granted, .slice p n k, .int .i64 x.merged, .int .i64 x.last] 54 _ H4.out.loc rfl rfl rfl Try.underlying54 rfl infoSeI ?_
    go_wp2_with (first | go_skip | (with_reducible refine stopLoad 54 rfl ?_) | (with_reducible refine stopStore 54 rfl ?_))
    refine store_known 54 (w.heap.size + 1) _ #[.int .i64 x.epoch, .int .i64 x.granted, .slice p n k, .int .i64 x.merged, .int .i64 x.last] 54 H4.out.res rfl rfl rfl rfl infoSeI rfl (by simp [Value.oneCell']) ?_
    go_wp2
    refine bodyPost_ret (results_row_tmp Try.results120 _ _ (w.heap.size + 1) _ _ _ _ rfl H4.out.res.setRow Try.underlying54 rfl infoSeI) rfl ?_
    rw [HV.out]
    exact ⟨_, G, rfl, H4.out.done.1, H4.out.done.2.1, H4.out.done.2.2⟩
  have HV : Hid (x.data per ep sq = (x.took sq, 0)) := Se.data_new HH.out HE.out HD3.out.symm hG
  have HIN : Hid ((∀ k, k < l → InB (x.taken.at k)) ∧ InB (sq, sq)) := by
    have hR := Se.right HH.out.1
    have h1 := HH.out.2
    exact ⟨fun k hk => ok_inb hR.taken k (by rw [HP.out.2.2.1]; exact hk), ⟨⟨by show 0 ≤ sq; omega, by show sq ≤ 9999; omega⟩, by show 0 ≤ sq; omega, by show sq ≤ 9999; omega⟩⟩
  have e1 : decide (x.granted < sq) = false := decide_eq_false hG
  clear hG
  go_wp2_with fail
  obtain ⟨Y0, hY0⟩ : ∃ W, W = w4.drew := ⟨_, rfl⟩
  have HS : Hid (SeW w #[.int .i64 x.epoch, .int .i64 x.granted, .slice b l c, .int .i64 x.merged, .int .i64 x.last] L x.epoch x.granted x.merged x.last x.taken p n k G Y0) := by rw [hY0]; exact H4.out.drew
  clear H4 c1 e1
  refine wp_region_held (S := fun W => Blk W w.heap.size #[.int .i64 x.epoch, .int .i64 x.granted, .slice b l c, .int .i64 x.merged, .int .i64 x.last] 54) (by kernel_rfl) ?_
  change wpAnyH _ _ _ _ _ _ _ _ (World.drew _)
  rw [← hY0]
  clear hY0
  refine takeH (o := ?o30) 0 (.pointer (some ⟨w.heap.size, 2, none⟩)) ?h30 ?r30
  case h30 => simp only [aT, aZ]; rfl
  refine ⟨_, by simp [Act.put]; rfl, by kernel_rfl, by kernel_rfl, by kernel_rfl, fun _ _ _ h => h, (.inl ⟨rfl, fun W _ => by kernel_rfl⟩), HS.out.box, ?_⟩
  refine takeH (o := ?o31) 1 (.slice b l c) ?h31 ?r31
  case h31 => simp only [aT, aS, aZ]; rfl
  refine ⟨_, by simp [Act.put]; rfl, by kernel_rfl, by kernel_rfl, by kernel_rfl, fun _ _ _ h => h, (.inl ⟨rfl, fun W hW => by have c := hW.cell 2; simp only [aT, aS, aZ] at c; go_simp⟩), HS.out.box, ?_⟩
  refine takeH (o := ?o32) 2 (.int .i64 sq) ?h32 ?r32
  case h32 => simp only [aT, aS, aZ]; rfl
  refine ⟨_, by simp [Act.put]; rfl, by kernel_rfl, by kernel_rfl, by kernel_rfl, fun _ _ _ h => h, (.inl ⟨rfl, fun W _ => by kernel_rfl⟩), HS.out.box, ?_⟩
  refine onlyH (o := ?o33) 3 (by kernel_rfl) ?h33 ?r33
  case h33 => simp only [aT, aS, aZ]; rfl
  intro K hK
  refine op_call1 62 _ _ Try.f62 (fun v w' => v = .agg #[.int .i64 sq, .int .i64 sq] ∧ Below Y0.heap.size Y0 w') rfl rfl Try.func62 (by kernel_rfl) (by kernel_rfl) ((l8OneSe_any sq Y0).mono (by rintro e w' ⟨rfl, r⟩; exact ⟨_, rfl, rfl, r⟩)) ?_
  rintro v Y1 ⟨rfl, hb⟩
  have HS : Hid (SeW w #[.int .i64 x.epoch, .int .i64 x.granted, .slice b l c, .int .i64 x.merged, .int .i64 x.last] L x.epoch x.granted x.merged x.last x.taken p n k G Y1) := HS.out.below hb
  clear hb
  refine ⟨_, by simp [Act.put]; rfl, hK _ _ ⟨HS.out.box, ?_⟩⟩
  clear hK
  refine onlyH (o := ?o34) 4 (by kernel_rfl) ?h34 ?r34
  case h34 => simp only [aT, aS, aZ]; rfl
  intro K hK
  refine op_callS2 101 _ _ _ Try.f101 (fun v w' => ∃ b' l' c' F', v = .slice b' l' c' ∧ RdP w' b' l' (put x.taken (sq, sq) false) F' ∧ Own Y1.heap.size w' F' ∧ Below Y1.heap.size Y1 w' ∧ Capd b' l' c') rfl rfl Try.func101 (by kernel_rfl) (by kernel_rfl) ((l5Put_any b l c x.taken (sq, sq) F Y1 (HP.out.1.below HS.out.bel) HP.out.2.1 HIN.out.1 HIN.out.2).mono (by intro e w' hh; obtain ⟨b', l', c', F', rfl, r1, r2, r3, r4⟩ := hh; exact ⟨_, rfl, b', l', c', F', rfl, r1, r2, r3, r4⟩)) ?_
  rintro v Y2 ⟨bq, nq, cq, Gq, rfl, r1, r2, r3, r4⟩
  have lL : L < Y1.heap.size := HS.out.loc.lt
  have lg := HS.out.gt
  have HQ : Hid (RdP Y2 bq nq (put x.taken (sq, sq) false) Gq ∧ Capd bq nq cq ∧ Own (w.heap.size + 2) Y2 Gq ∧ L ∉ Gq) := ⟨r1, r4, r2.mono (by omega), fun hx => by have := r2.ge _ hx; omega⟩
  have HS : Hid (SeW w #[.int .i64 x.epoch, .int .i64 x.granted, .slice b l c, .int .i64 x.merged, .int .i64 x.last] L x.epoch x.granted x.merged x.last x.taken p n k G Y2) := HS.out.below r3
  clear r1 r2 r3 r4 lL
  refine ⟨_, by simp [Act.put]; rfl, hK _ _ ⟨HS.out.box, ?_⟩⟩
  clear hK
  refine takeH (o := ?o35) 5 (.pointer (some ⟨L, 2, none⟩)) ?h35 ?r35
  case h35 => simp only [aT, aS, aZ]; rfl
  refine ⟨_, by simp [Act.put]; rfl, by kernel_rfl, by kernel_rfl, by kernel_rfl, fun _ _ _ h => h, (.inl ⟨rfl, fun W _ => by kernel_rfl⟩), HS.out.box, ?_⟩
  refine onlyH (o := ?o36) 6 (by kernel_rfl) ?h36 ?r36
  case h36 => simp only [aT, aS, aZ]; rfl
  intro K hK
  have c2 := HS.out.loc.cell 2
  have f2 := HS.out.loc.frozen 2
  simp only [aT, aS, aZ] at c2
  have HZ : Hid (SeW w #[.int .i64 x.epoch, .int .i64 x.granted, .slice b l c, .int .i64 x.merged, .int .i64 x.last] L x.epoch x.granted x.merged x.last (put x.taken (sq, sq) false) bq nq cq Gq (Y2.setCell ⟨L, 2, none⟩ (.slice bq nq cq))) := HS.out.put HQ.out.1 HQ.out.2.1 HQ.out.2.2.1 HQ.out.2.2.2
  refine op_skip (Y2.setCell ⟨L, 2, none⟩ (.slice bq nq cq)) rfl (by go_simp) ⟨_, by simp [Act.put]; rfl, hK _ _ ⟨HZ.out.box, ?_⟩⟩
  clear hK c2 f2 HS HQ lg
  refine wpAnyH_done (by kernel_rfl) ?_ _
  obtain ⟨w6, hw6⟩ : ∃ W, W = Y2.setCell ⟨L, 2, none⟩ (.slice bq nq cq) := ⟨_, rfl⟩
  rw [← hw6] at HZ ⊢
  clear hw6
  go_wp2_with (first | go_skip | (with_reducible refine stopLoad 54 rfl ?_) | (with_reducible refine stopStore 54 rfl ?_))
  refine load_known 54 L #[.int .i64 x.epoch, .int .i64 x.granted, .slice bq nq cq, .int .i64 x.merged, .int .i64 x.last] 54 _ HZ.out.loc rfl rfl rfl Try.underlying54 rfl infoSeI ?_
  go_wp2_with (first | go_skip | (with_reducible refine stopLoad 54 rfl ?_) | (with_reducible refine stopStore 54 rfl ?_))
  refine store_known 54 (w.heap.size + 1) _ #[.int .i64 x.epoch, .int .i64 x.granted, .slice bq nq cq, .int .i64 x.merged, .int .i64 x.last] 54 HZ.out.res rfl rfl rfl rfl infoSeI rfl (by simp [Value.oneCell']) ?_
  go_wp2
  refine bodyPost_ret (results_row_tmp Try.results120 _ _ (w.heap.size + 1) _ _ _ _ rfl HZ.out.res.setRow Try.underlying54 rfl infoSeI) rfl ?_
  rw [HV.out]
  exact ⟨_, Gq, rfl, HZ.out.done.1, HZ.out.done.2.1, HZ.out.done.2.2⟩
end Go.Proofs.Ytgkbhhlkaifnoaa
/- The walks through the model's drawing of seats. No statement of the seat is proved here. -/
namespace Go.Proofs.Ytgkbhhlkaifnoaa
open Go.RowKit
/-- A seat that is being drawn: the result's place, the cursor, the seat's cells in block L. -/
structure LocQ (w : World) (q : Nat) (a : Option Addr) (len cap : Nat) (zs : List Int) (i h : Int) (L : Nat) (ep gr me la : Int) (ts : Sp) (b : Option Addr) (l c : Nat) (F : List Nat) (W : World) : Prop where
  held : HeldR w q a len cap zs i h #[.int .i64 0, .int .i64 0, .slice none 0 0, .int .i64 0, .int .i64 0] 54 W
  loc : Blk W L #[.int .i64 ep, .int .i64 gr, .slice b l c, .int .i64 me, .int .i64 la] 54
  rp : RdP W b l ts F
  cp : Capd b l c
  own : Own (w.heap.size + 1) W F
  ap : L ∉ F
  gt : w.heap.size < L
/-- What a drawing of a seat tells. -/
def DrewSe (w : World) (q : Nat) (a : Option Addr) (len cap : Nat) (zs : List Int) (m : Nat) (e : Ending) (w' : World) : Prop :=
  ∃ v x F i' h', e = .returned v ∧ RdSe w' v x F ∧ (x.taken.length ≤ m ∧ x.taken.fit) ∧ Own w.heap.size w' F ∧ Cur w' q a len cap zs i' h' ∧ w.grownBy w' (some q)
def DrewSeI (w : World) (q : Nat) (a : Option Addr) (len cap : Nat) (zs : List Int) (m : Nat) (e : Ending) (w' : World) : Prop :=
  ∃ v x per F i' h', e = .returned (.tuple #[v, .int .i64 per]) ∧ RdSe w' v x F ∧ (x.taken.length ≤ m ∧ x.taken.fit) ∧ Own w.heap.size w' F ∧ Cur w' q a len cap zs i' h' ∧ w.grownBy w' (some q)
section
variable {w W W' : World} {q : Nat} {a : Option Addr} {len cap : Nat} {zs : List Int} {i h i' h' : Int} {L : Nat} {ep gr me la : Int} {ts : Sp} {b : Option Addr} {l c : Nat} {F : List Nat}
theorem LocQ.next (H : LocQ w q a len cap zs i h L ep gr me la ts b l c F W) (hq : q < w.heap.size) (C : Cur W' q a len cap zs i' h') (g : W.grownBy W' (some q)) : LocQ w q a len cap zs i' h' L ep gr me la ts b l c F W' := by
  have ag : Agree W W' F := fun x hx => g.block x (H.rp.lt x hx) (fun e => by have := H.own.ge x hx; simp at e; omega)
  have gt := H.gt
  exact ⟨H.held.next hq C g, H.loc.grown g (by omega), H.rp.agree ag, H.cp, H.own.agree ag, H.ap, H.gt⟩
theorem LocQ.below (H : LocQ w q a len cap zs i h L ep gr me la ts b l c F W) (k : Below W.heap.size W W') : LocQ w q a len cap zs i h L ep gr me la ts b l c F W' :=
  ⟨H.held.below k, H.loc.below k, H.rp.below k, H.cp, H.own.below H.rp.lt k, H.ap, H.gt⟩
theorem LocQ.drew (H : LocQ w q a len cap zs i h L ep gr me la ts b l c F W) : LocQ w q a len cap zs i h L ep gr me la ts b l c F W.drew := H.below (Below.refl _ _).drew
theorem LocQ.set (H : LocQ w q a len cap zs i h L ep gr me la ts b l c F W) (hq : q < w.heap.size) (ha : ∀ b, (∃ off, a = some ⟨b, off, none⟩ ∧ 0 < len) → b < w.heap.size) (j : Nat) (v : Value) {ep' gr' me' la' : Int} (hc : (#[.int .i64 ep, .int .i64 gr, .slice b l c, .int .i64 me, .int .i64 la] : Array Value).setIfInBounds j v = #[.int .i64 ep', .int .i64 gr', .slice b l c, .int .i64 me', .int .i64 la']) : LocQ w q a len cap zs i h L ep' gr' me' la' ts b l c F (W.setCell ⟨L, j, none⟩ v) := by
  have hgt := H.gt
  have hl := H.loc.set j v
  rw [hc] at hl
  have ag : Agree W (W.setCell ⟨L, j, none⟩ v) F := .set H.ap j v
  exact ⟨⟨H.held.res.setOther (by omega) j v, cur_cell H.held.cur (by omega) (fun b hb => by have := ha b hb; omega), grown_cell H.held.grown (by omega)⟩, hl, H.rp.agree ag, H.cp, H.own.agree ag, H.ap, H.gt⟩
theorem LocQ.put (H : LocQ w q a len cap zs i h L ep gr me la ts b l c F W) (hq : q < w.heap.size) (ha : ∀ b, (∃ off, a = some ⟨b, off, none⟩ ∧ 0 < len) → b < w.heap.size) {b' : Option Addr} {l' c' : Nat} {us : Sp} {G : List Nat} (r : RdP W b' l' us G) (hk : Capd b' l' c') (ho : Own (w.heap.size + 1) W G) (hL : L ∉ G) : LocQ w q a len cap zs i h L ep gr me la us b' l' c' G (W.setCell ⟨L, 2, none⟩ (.slice b' l' c')) := by
  have hgt := H.gt
  have ag : Agree W (W.setCell ⟨L, 2, none⟩ (.slice b' l' c')) G := .set hL 2 _
  exact ⟨⟨H.held.res.setOther (by omega) _ _, cur_cell H.held.cur (by omega) (fun b hb => by have := ha b hb; omega), grown_cell H.held.grown (by omega)⟩, H.loc.set 2 _, r.agree ag, hk, ho.agree ag, hL, H.gt⟩
theorem LocQ.whole (H : LocQ w q a len cap zs i h L ep gr me la ts b l c F W) (hq : q < w.heap.size) (ha : ∀ b, (∃ off, a = some ⟨b, off, none⟩ ∧ 0 < len) → b < w.heap.size) {ep' gr' me' la' : Int} {b' : Option Addr} {l' c' : Nat} {us : Sp} {G : List Nat} (r : RdP W b' l' us G) (hk : Capd b' l' c') (ho : Own (w.heap.size + 1) W G) (hL : L ∉ G) : LocQ w q a len cap zs i h L ep' gr' me' la' us b' l' c' G (W.setRow L #[.int .i64 ep', .int .i64 gr', .slice b' l' c', .int .i64 me', .int .i64 la']) := by
  have hgt := H.gt
  exact ⟨⟨H.held.res.setRowOther (by omega), cur_row H.held.cur (by omega) (fun b hb => by have := ha b hb; omega), grown_row H.held.grown (by omega)⟩, H.loc.setRow, r.agree (Agree.row hL _), hk, ho.agree (Agree.row hL _), hL, H.gt⟩
theorem LocQ.rd (H : LocQ w q a len cap zs i h L ep gr me la ts b l c F W) : RdSe W (.agg #[.int .i64 ep, .int .i64 gr, .slice b l c, .int .i64 me, .int .i64 la]) ⟨ep, gr, ts, me, la⟩ F := ⟨b, l, c, rfl, H.rp, H.cp⟩
theorem LocQ.done (H : LocQ w q a len cap zs i h L ep gr me la ts b l c F W) (hq : q < w.heap.size) (ha : ∀ b, (∃ off, a = some ⟨b, off, none⟩ ∧ 0 < len) → b < w.heap.size) : RdSe (W.setRow w.heap.size #[.int .i64 ep, .int .i64 gr, .slice b l c, .int .i64 me, .int .i64 la]) (.agg #[.int .i64 ep, .int .i64 gr, .slice b l c, .int .i64 me, .int .i64 la]) ⟨ep, gr, ts, me, la⟩ F ∧ Own w.heap.size (W.setRow w.heap.size #[.int .i64 ep, .int .i64 gr, .slice b l c, .int .i64 me, .int .i64 la]) F ∧ Cur (W.setRow w.heap.size #[.int .i64 ep, .int .i64 gr, .slice b l c, .int .i64 me, .int .i64 la]) q a len cap zs i h ∧ w.grownBy (W.setRow w.heap.size #[.int .i64 ep, .int .i64 gr, .slice b l c, .int .i64 me, .int .i64 la]) (some q) := by
  have nF : w.heap.size ∉ F := fun hx => by have := H.own.ge _ hx; omega
  exact ⟨H.rd.agree (Agree.row nF _), (H.own.agree (Agree.row nF _)).mono (by omega), cur_row H.held.cur (by omega) (fun b hb => by have := ha b hb; omega), grown_row H.held.grown (Nat.le_refl _)⟩
end
theorem results_row_tmp2 {P : Program} {fn : Func} {p u v : Tmp} {ty : TypeId} (h : fn.results = #[.cell p ty, .tmp u, .tmp v]) (tmps : Array Value) (w : World) (g : Nat) (t : TypeId) (cs : Array Value) (fr : Nat × Nat) (d : TypeDesc)
    (hp : tmps.getD p undef = .pointer (some ⟨g, 0, none⟩)) (hg : w.heap[g]? = some (.cells cs t fr))
    (hu : P.underlying ty = some d) (hd : (match d with | .struct _ | .array _ _ => true | _ => false) = true) (hi : (P.info? ty).map (·.size) = some cs.size) :
    (results fn tmps).run P w = .ok (.tuple #[.agg cs, tmps.getD u undef, tmps.getD v undef]) w := by
  have hp' : tmps[p]?.getD undef = .pointer (some ⟨g, 0, none⟩) := by simpa using hp
  simp only [results, h]
  simp [Result.andThen, hp', asAddr, run_loadVar_row w g t ty cs fr d hg hu hd hi]
theorem results_row_tmp3 {P : Program} {fn : Func} {p u v y : Tmp} {ty : TypeId} (h : fn.results = #[.cell p ty, .tmp u, .tmp v, .tmp y]) (tmps : Array Value) (w : World) (g : Nat) (t : TypeId) (cs : Array Value) (fr : Nat × Nat) (d : TypeDesc)
    (hp : tmps.getD p undef = .pointer (some ⟨g, 0, none⟩)) (hg : w.heap[g]? = some (.cells cs t fr))
    (hu : P.underlying ty = some d) (hd : (match d with | .struct _ | .array _ _ => true | _ => false) = true) (hi : (P.info? ty).map (·.size) = some cs.size) :
    (results fn tmps).run P w = .ok (.tuple #[.agg cs, tmps.getD u undef, tmps.getD v undef, tmps.getD y undef]) w := by
  have hp' : tmps[p]?.getD undef = .pointer (some ⟨g, 0, none⟩) := by simpa using hp
  simp only [results, h]
  simp [Result.andThen, hp', asAddr, run_loadVar_row w g t ty cs fr d hg hu hd hi]
theorem Se.grant_taken (x : Se) (per : Int) : (x.grant per).taken = x.taken := by unfold Se.grant; split <;> rfl
theorem Se.merge_taken (x : Se) (per n : Int) : (x.merge per n).1.taken = x.taken := by unfold Se.merge; split <;> rfl
theorem Se.data_taken (x : Se) (per ep sq : Int) : (x.data per ep sq).1.taken = x.taken ∨ ((x.data per ep sq).1.taken = put x.taken (sq, sq) false ∧ InB (sq, sq)) := by
  unfold Se.data
  split
  · exact .inl rfl
  split
  · exact .inl rfl
  split
  · exact .inl rfl
  split
  · exact .inl rfl
  · rename_i h1 _ _ _
    have h := Decidable.not_not.1 h1
    exact .inr ⟨rfl, ⟨by show 0 ≤ sq; omega, by show sq ≤ 9999; omega⟩, by show 0 ≤ sq; omega, by show sq ≤ 9999; omega⟩
theorem Se.data_small {x : Se} {per ep sq : Int} {k : Nat} (h : x.taken.length ≤ k ∧ ∀ p ∈ x.taken, InB p) : (x.data per ep sq).1.taken.length ≤ k + 1 ∧ ∀ p ∈ (x.data per ep sq).1.taken, InB p := by
  rcases x.data_taken per ep sq with e | ⟨e, hi⟩
  · rw [e]; exact ⟨by omega, h.2⟩
  · rw [e]; have := put_length x.taken (sq, sq) false; exact ⟨by omega, put_inb h.2 hi⟩
theorem rdSe_last (w : World) (n : Int) : RdSe w (.agg #[.int .i64 0, .int .i64 0, .slice none 0 0, .int .i64 0, .int .i64 n]) ⟨0, 0, [], 0, n⟩ [] := ⟨none, 0, 0, rfl, RdP.nil, ⟨fun _ => rfl, Nat.le_refl _⟩⟩
section
variable {P : Program} {ops : Array Oper} {Q : Exit → Act → World → Prop} {a : Act} {w : World} {o : Oper} {K : Act → World → Prop}
theorem op_callS4 (f : FuncId) (x y z u : Operand) (ts : Array TypeId) (fn : Func) (R : Value → World → Prop) (hw : Region.wanted o (yielded ops a.tmps) = true) (ho : o.op = Op.call { callee := Callee.value (Operand.func f), args := #[x, y, z, u], argTypes := ts })
    (hfn : P.funcs[f]? = some fn) (hnm : (fn.name == "runtime.NumGoroutine") = false) (hbd : fn.body.isNone = false) (hc : Calls P f #[a.eval x, a.eval y, a.eval z, a.eval u] w fun e w' => ∃ v, e = .returned v ∧ R v w') (h : ∀ v w', R v w' → ∃ a', a.put o.dst v = a' ∧ K a' w') : if Region.wanted o (yielded ops a.tmps) = true then Oper.wp P o a w K Q else K (a.put o.dst undef) w := by
  rw [if_pos hw]
  have hnm' : ¬ fn.name = "runtime.NumGoroutine" := by simpa using hnm
  have hbd' : ¬ fn.body = none := by intro e; rw [e] at hbd; cases hbd
  unfold Oper.wp
  simp only [execOp, ho, resolve, invoke, Oper.upon, go_sem]
  simp [callFunc, hfn, hnm', hbd', go_sem]
  simp [Act.eval, go_sem] at hc
  refine Calls.mono hc ?_
  rintro e w' ⟨v, rfl, hr⟩
  obtain ⟨a', ha', hk⟩ := h v w' hr
  rw [← ha'] at hk
  exact hk
theorem op_loadS (ty : TypeId) (g : Nat) (cells : Array Value) (t : TypeId) (d : TypeDesc) {x : Operand} (hg : Blk w g cells t) (hw : Region.wanted o (yielded ops a.tmps) = true) (ho : o.op = .load ty x) (hx : a.eval x = .pointer (some ⟨g, 0, none⟩))
    (hu : P.underlying ty = some d) (hd : (match d with | .struct _ | .array _ _ => true | _ => false) = true) (hi : (P.info? ty).map (·.size) = some cells.size)
    (h : ∃ a', a.put o.dst (.agg cells) = a' ∧ K a' w) : if Region.wanted o (yielded ops a.tmps) = true then Oper.wp P o a w K Q else K (a.put o.dst undef) w := by
  obtain ⟨_, rfl, h⟩ := h
  rw [if_pos hw]
  exact wp_load_row ty x ho g hx t cells (0, 0) d hg hu hd hi h
end
set_option maxRecDepth 200000 in
set_option maxHeartbeats 8000000 in
theorem l9Right_any (q : Nat) (a : Option Addr) (len cap : Nat) (zs : List Int) (i h : Int) (per : Int) (w : World) (C : Cur w q a len cap zs i h) (hlen : len ≤ 1048576) :
    Calls Try.prog 105 #[.pointer (some ⟨q, 0, none⟩), .int .i64 per] w fun e w' => DrewSe w q a len cap zs 6 e w' := by
  have hq : q < w.heap.size := World.block_lt_of_cell? _ _ C.c0
  have HA : Hid (∀ b, (∃ off, a = some ⟨b, off, none⟩ ∧ 0 < len) → b < w.heap.size) := cur_lt C
  have H0 : Hid (HeldR w q a len cap zs i h #[.int .i64 0, .int .i64 0, .slice none 0 0, .int .i64 0, .int .i64 0] 54 (w.alloc (.cells #[.int .i64 0, .int .i64 0, .slice none 0 0, .int .i64 0, .int .i64 0] 54))) := HeldR.made C _ _
  clear C
  go_enter Try.func105, Try.ntmps105
  go_wp2_with fail
  refine (l1Below_any q a len cap zs i h 5 _ H0.out.cur hlen (by omega) (by omega)).mono ?_
  rintro e w1 ⟨x1, i1, h1, rfl, p1, r1, C1, g1⟩
  have H1 : Hid (HeldR w q a len cap zs i1 h1 #[.int .i64 0, .int .i64 0, .slice none 0 0, .int .i64 0, .int .i64 0] 54 w1) := H0.out.next hq C1 g1
  clear C1 g1 H0
  go_wp2_with fail
  refine (seGrantSpec_any _ ⟨0, 0, [], 0, x1⟩ per [] _ (rdSe_last _ x1) (by simp)).mono ?_
  rintro e w2 ⟨v2, F2, rfl, r2, o2, b2⟩
  have HS0 : Hid (((Se.mk 0 0 [] 0 x1).grant per).taken.length ≤ 0 ∧ ∀ p ∈ ((Se.mk 0 0 [] 0 x1).grant per).taken, InB p) := by show _ ∧ _; rw [Se.grant_taken]; exact ⟨Nat.le_refl _, fun p hp => nomatch (show p ∈ ([] : Sp) from hp)⟩
  generalize (Se.mk 0 0 [] 0 x1).grant per = X at r2 HS0
  obtain ⟨ep, gr, ts, me, la⟩ := X
  obtain ⟨b, l, c, rfl, rp2, k2⟩ := r2
  have H2 : Hid (HeldR w q a len cap zs i1 h1 #[.int .i64 0, .int .i64 0, .slice none 0 0, .int .i64 0, .int .i64 0] 54 w2 ∧ RdP w2 b l ts F2 ∧ Capd b l c ∧ Own w1.heap.size w2 F2 ∧ w.heap.size < w1.heap.size) := ⟨H1.out.below b2, rp2, k2, o2, H1.out.res.lt⟩
  clear rp2 k2 o2 b2 H1
  go_wp2_with (first | go_skip | (with_reducible refine stopLoad 54 rfl ?_) | (with_reducible refine stopStore 54 rfl ?_))
  refine store_fresh 54 w2.heap.size rfl #[.int .i64 0, .int .i64 0, .slice none 0 0, .int .i64 0, .int .i64 0] #[.int .i64 ep, .int .i64 gr, .slice b l c, .int .i64 me, .int .i64 la] 54 rfl rfl rfl rfl infoSeI rfl (by simp [Value.oneCell']) ?_
  intro w3 hg3 hb3
  have H3 : Hid (LocQ w q a len cap zs i1 h1 w2.heap.size ep gr me la ts b l c F2 w3) := ⟨H2.out.1.below hb3, hg3, H2.out.2.1.below hb3, H2.out.2.2.1, (H2.out.2.2.2.1.below H2.out.2.1.lt hb3).mono (by have := H2.out.2.2.2.2; omega), fun hx => by have := H2.out.2.1.lt _ hx; omega, H2.out.1.res.lt⟩
  clear hg3 hb3 H2
  go_wp2_with fail
  refine (l1Below_any q a len cap zs i1 h1 7 _ H3.out.held.cur hlen (by omega) (by omega)).mono ?_
  rintro e w6 ⟨m, i6, h6, rfl, m0, m1, C6, g6⟩
  have H6 : Hid (LocQ w q a len cap zs i6 h6 w2.heap.size ep gr me la ts b l c F2 w6) := H3.out.next hq C6 g6
  obtain ⟨L, hL⟩ : ∃ L, L = w2.heap.size := ⟨_, rfl⟩
  rw [← hL] at H6 ⊢
  clear C6 g6 H3 hL
  go_wp2
  go_loopw [7] (fun i wr => ∃ (k : Nat) (ep gr me la : Int) (ts : Sp) (b : Option Addr) (l c : Nat) (F : List Nat) (i' h' : Int), (k : Int) ≤ m ∧ i = .int .i64 k ∧ Hid (LocQ w q a len cap zs i' h' L ep gr me la ts b l c F wr) ∧ Hid (ts.length ≤ k ∧ ∀ p ∈ ts, InB p)) (fun i _ => (m - intOf i).toNat)
  case atStart => exact ⟨0, ep, gr, me, la, ts, b, l, c, F2, i6, h6, by omega, rfl, H6, HS0⟩
  case round =>
    clear H6 HS0
    obtain ⟨k, ep, gr, me, la, ts, b, l, c, F, i7, h7, hk, rfl, HD, HS⟩ := hrel
    by_cases hlt : (k : Int) < m
    · have hcd : decide ((k : Int) < m) = true := decT hlt
      go_wp2
      obtain ⟨WD, hWD⟩ : ∃ W, W = wr.drew := ⟨_, rfl⟩
      have HDd0 := HD.out.drew
      rw [← hWD] at HDd0
      have HDd : Hid (LocQ w q a len cap zs i7 h7 L ep gr me la ts b l c F WD) := HDd0
      clear HDd0 HD
      refine wp_region_held (S := fun _ => True) (by kernel_rfl) ?_
      change wpAnyH _ _ _ _ _ _ _ _ (World.drew _)
      rw [← hWD]
      clear hWD
      refine takeH (o := ?o1) 1 (.int .i64 per) ?h1 ?r1
      case h1 => simp only [aT, aS, aZ]; rfl
      refine ⟨_, by simp [Act.put]; rfl, by kernel_rfl, by kernel_rfl, by kernel_rfl, fun _ _ _ h => h, (.inl ⟨rfl, fun W _ => by kernel_rfl⟩), trivial, ?_⟩
      refine takeH (o := ?o2) 2 (.pointer (some ⟨q, 0, none⟩)) ?h2 ?r2
      case h2 => simp only [aT, aS, aZ]; rfl
      refine ⟨_, by simp [Act.put]; rfl, by kernel_rfl, by kernel_rfl, by kernel_rfl, fun _ _ _ h => h, (.inl ⟨rfl, fun W _ => by kernel_rfl⟩), trivial, ?_⟩
      refine twoH (o := ?o3) (o' := ?p3) 0 3 (by kernel_rfl) ?h3 ?g3 ?r3 ?s3
      case h3 => simp only [aT, aZ]; rfl
      case g3 => simp only [aT, aS, aZ]; rfl
      case r3 =>
        intro K hK
        refine op_loadS 54 L #[.int .i64 ep, .int .i64 gr, .slice b l c, .int .i64 me, .int .i64 la] 54 _ HDd.out.loc rfl rfl rfl Try.underlying54 rfl infoSeI ⟨_, by simp [Act.put]; rfl, hK _ _ ⟨trivial, ?_⟩⟩
        clear hK
        refine onlyH (o := ?o4) 3 (by kernel_rfl) ?h4 ?r4
        case h4 => simp only [aT, aS, aZ]; rfl
        intro K hK
        refine op_callS2 61 _ _ _ Try.f61 (fun v w' => ∃ x i' h', v = .int .i64 x ∧ 0 ≤ x ∧ x < 12 ∧ Cur w' q a len cap zs i' h' ∧ WD.grownBy w' (some q)) rfl rfl Try.func61 (by kernel_rfl) (by kernel_rfl) ((l1Below_any q a len cap zs i7 h7 12 WD HDd.out.held.cur hlen (by omega) (by omega)).mono (by rintro e w' ⟨x, i', h', rfl, r⟩; exact ⟨_, rfl, x, i', h', rfl, r⟩)) ?_
        rintro v wb1 ⟨z, ib1, hb1, rfl, z0, z1, C9, g9⟩
        have HB1 : Hid (LocQ w q a len cap zs ib1 hb1 L ep gr me la ts b l c F wb1) := HDd.out.next hq C9 g9
        obtain ⟨zo, hzo⟩ : ∃ n, n = 1 + z := ⟨_, rfl⟩
        have hwz : IntKind.i64.wrap (1 + z) = zo := by rw [hzo]; exact wrapSe (by omega)
        clear C9 g9 HDd
        refine ⟨_, by simp [Act.put]; rfl, hK _ _ ⟨trivial, ?_⟩⟩
        clear hK
        refine takeH (o := ?o5) 4 (.int .i64 zo) ?h5 ?r5
        case h5 => simp only [aT, aS, aZ]; rfl
        refine ⟨_, by simp [Act.put]; rfl, by kernel_rfl, by kernel_rfl, by kernel_rfl, fun _ _ _ h => h, (.inl ⟨rfl, fun W _ => by first | (go_simp; done) | (go_simp; exact hwz)⟩), trivial, ?_⟩
        refine onlyH (o := ?o6) 5 (by kernel_rfl) ?h6 ?r6
        case h6 => simp only [aT, aS, aZ]; rfl
        intro K hK
        have hsl := HS.out.1
        refine op_callS4 120 _ _ _ _ _ Try.f120 (fun v w' => NewSeI wb1 ((Se.mk ep gr ts me la).data per 0 zo) (.returned v) w') rfl rfl Try.func120 (by kernel_rfl) (by kernel_rfl) ((seDataSpec_any _ ⟨ep, gr, ts, me, la⟩ per 0 zo F wb1 HB1.out.rd (by show ts.length ≤ _; omega)).mono (by intro e w' hh; have hh' := hh; obtain ⟨v, F', rfl, _⟩ := hh'; exact ⟨_, rfl, hh⟩)) ?_
        rintro v WE ⟨v9, F9, e9, r9, o9, b9⟩
        injection e9 with e9
        subst e9
        have HS9 : Hid (((Se.mk ep gr ts me la).data per 0 zo).1.taken.length ≤ (k + 1) ∧ ∀ p ∈ ((Se.mk ep gr ts me la).data per 0 zo).1.taken, InB p) := Se.data_small HS.out
        generalize ((Se.mk ep gr ts me la).data per 0 zo) = X at r9 HS9 ⊢
        obtain ⟨⟨ep', gr', us, me', la'⟩, cd⟩ := X
        obtain ⟨b', l', c', rfl, rp9, k9⟩ := r9
        have lL : L < wb1.heap.size := HB1.out.loc.lt
        have lw : w.heap.size < wb1.heap.size := HB1.out.held.res.lt
        have HN : Hid (RdP WE b' l' us F9 ∧ Capd b' l' c' ∧ Own (w.heap.size + 1) WE F9 ∧ L ∉ F9) := ⟨rp9, k9, o9.mono (by omega), fun hx => by have := o9.ge _ hx; omega⟩
        have HE : Hid (LocQ w q a len cap zs ib1 hb1 L ep gr me la ts b l c F WE) := HB1.out.below b9
        clear rp9 k9 o9 b9 lL lw HB1 hsl HS
        refine ⟨_, by simp [Act.put]; rfl, hK _ _ ⟨trivial, ?_⟩⟩
        clear hK
        refine takeH (o := ?o7) 6 (.tuple #[.agg #[.int .i64 ep', .int .i64 gr', .slice b' l' c', .int .i64 me', .int .i64 la'], .int .i64 cd]) ?h7 ?r7
        case h7 => simp only [aT, aS, aZ]; rfl
        refine ⟨_, by simp [Act.put]; rfl, by kernel_rfl, by kernel_rfl, by kernel_rfl, fun _ _ _ h => h, (.inl ⟨rfl, fun W _ => by kernel_rfl⟩), trivial, ?_⟩
        refine takeH (o := ?o8) 7 (.agg #[.int .i64 ep', .int .i64 gr', .slice b' l' c', .int .i64 me', .int .i64 la']) ?h8 ?r8
        case h8 => simp only [aT, aS, aZ]; rfl
        refine ⟨_, by simp [Act.put]; rfl, by kernel_rfl, by kernel_rfl, by kernel_rfl, fun _ _ _ h => h, (.inl ⟨rfl, fun W _ => by kernel_rfl⟩), trivial, ?_⟩
        refine takeH (o := ?o9) 8 (.int .i64 cd) ?h9 ?r9
        case h9 => simp only [aT, aS, aZ]; rfl
        refine ⟨_, by simp [Act.put]; rfl, by kernel_rfl, by kernel_rfl, by kernel_rfl, fun _ _ _ h => h, (.inl ⟨rfl, fun W _ => by kernel_rfl⟩), trivial, ?_⟩
        refine onlyH (o := ?o10) 9 (by kernel_rfl) ?h10 ?r10
        case h10 => simp only [aT, aS, aZ]; rfl
        intro K hK
        have HW : Hid (LocQ w q a len cap zs ib1 hb1 L ep' gr' me' la' us b' l' c' F9 (WE.setRow L #[.int .i64 ep', .int .i64 gr', .slice b' l' c', .int .i64 me', .int .i64 la'])) := HE.out.whole hq HA.out HN.out.1 HN.out.2.1 HN.out.2.2.1 HN.out.2.2.2
        refine op_store 54 L #[.int .i64 ep, .int .i64 gr, .slice b l c, .int .i64 me, .int .i64 la] #[.int .i64 ep', .int .i64 gr', .slice b' l' c', .int .i64 me', .int .i64 la'] 54 rfl rfl rfl rfl HE.out.loc infoSeI rfl (by simp [Value.oneCell']) ⟨_, by simp [Act.put]; rfl, hK _ _ ⟨trivial, ?_⟩⟩
        clear hK HE HN
        refine wpAnyH_done (by kernel_rfl) ?_ _
        obtain ⟨WA, hWA⟩ : ∃ W, W = (WE.setRow L #[.int .i64 ep', .int .i64 gr', .slice b' l' c', .int .i64 me', .int .i64 la']) := ⟨_, rfl⟩
        rw [← hWA] at HW ⊢
        clear hWA
        go_wp2_with fail
        refine (l1Once_any q a len cap zs ib1 hb1 3 _ HW.out.held.cur hlen (by omega) (by omega)).mono ?_
        rintro e wo ⟨d, io, ho, rfl, C9, g9⟩
        have HO : Hid (LocQ w q a len cap zs io ho L ep' gr' me' la' us b' l' c' F9 wo) := HW.out.next hq C9 g9
        clear C9 g9 HW
        cases d
        · go_wp2
          go_roundw
          case rel => exact ⟨k + 1, ep', gr', me', la', us, b', l', c', F9, io, ho, by omega, by go_num, HO, HS9⟩
          case measure => simp [intOf]; omega
        go_wp2_with (first | go_skip | (with_reducible refine stopLoad 54 rfl ?_) | (with_reducible refine stopStore 54 rfl ?_))
        refine load_known 54 L _ 54 _ HO.out.loc rfl rfl rfl Try.underlying54 rfl infoSeI ?_
        go_wp2_with fail
        have hsl := HS9.out.1
        refine (seMergeSpec_any _ ⟨ep', gr', us, me', la'⟩ per 1 F9 _ HO.out.rd (by show us.length ≤ _; have e : us.length ≤ k + 1 := hsl; omega)).mono ?_
        rintro e wm ⟨vm, Fm, rfl, rm, om, bm⟩
        have HSM : Hid (((Se.mk ep' gr' us me' la').merge per 1).1.taken.length ≤ (k + 1) ∧ ∀ p ∈ ((Se.mk ep' gr' us me' la').merge per 1).1.taken, InB p) := by show _ ∧ _; rw [Se.merge_taken]; exact HS9.out
        generalize ((Se.mk ep' gr' us me' la').merge per 1) = X at rm HSM ⊢
        obtain ⟨⟨em, gm, tm, mm, lm⟩, dm⟩ := X
        obtain ⟨pm, nm, km, rfl, rpm, cpm⟩ := rm
        have lL : L < wo.heap.size := HO.out.loc.lt
        have lw : w.heap.size < wo.heap.size := HO.out.held.res.lt
        have HN : Hid (RdP wm pm nm tm Fm ∧ Capd pm nm km ∧ Own (w.heap.size + 1) wm Fm ∧ L ∉ Fm) := ⟨rpm, cpm, om.mono (by omega), fun hx => by have := om.ge _ hx; omega⟩
        have HE : Hid (LocQ w q a len cap zs io ho L ep' gr' me' la' us b' l' c' F9 wm) := HO.out.below bm
        clear rpm cpm om bm lL lw HO hsl HS9
        go_wp2_with (first | go_skip | (with_reducible refine stopLoad 54 rfl ?_) | (with_reducible refine stopStore 54 rfl ?_))
        refine store_known 54 L _ #[.int .i64 em, .int .i64 gm, .slice pm nm km, .int .i64 mm, .int .i64 lm] 54 HE.out.loc rfl rfl rfl rfl infoSeI rfl (by simp [Value.oneCell']) ?_
        have HW : Hid (LocQ w q a len cap zs io ho L em gm mm lm tm pm nm km Fm (wm.setRow L #[.int .i64 em, .int .i64 gm, .slice pm nm km, .int .i64 mm, .int .i64 lm])) := HE.out.whole hq HA.out HN.out.1 HN.out.2.1 HN.out.2.2.1 HN.out.2.2.2
        obtain ⟨WM, hWM⟩ : ∃ W, W = (wm.setRow L #[.int .i64 em, .int .i64 gm, .slice pm nm km, .int .i64 mm, .int .i64 lm]) := ⟨_, rfl⟩
        rw [← hWM] at HW ⊢
        clear hWM HE HN
        go_wp2_with (first | go_skip | (with_reducible refine stopLoad 54 rfl ?_) | (with_reducible refine stopStore 54 rfl ?_))
        refine load_known 54 L _ 54 _ HW.out.loc rfl rfl rfl Try.underlying54 rfl infoSeI ?_
        go_wp2_with fail
        have hsl := HSM.out.1
        refine (seGrantSpec_any _ ⟨em, gm, tm, mm, lm⟩ per Fm _ HW.out.rd (by show tm.length ≤ _; have e : tm.length ≤ k + 1 := hsl; omega)).mono ?_
        rintro e wg ⟨vg, Fg, rfl, rg, og, bg⟩
        have HSG : Hid (((Se.mk em gm tm mm lm).grant per).taken.length ≤ (k + 1) ∧ ∀ p ∈ ((Se.mk em gm tm mm lm).grant per).taken, InB p) := by show _ ∧ _; rw [Se.grant_taken]; exact HSM.out
        generalize ((Se.mk em gm tm mm lm).grant per) = X at rg HSG ⊢
        obtain ⟨eg, gg, tg, mg, lg⟩ := X
        obtain ⟨pg, ng, kg, rfl, rpg, cpg⟩ := rg
        have lL : L < WM.heap.size := HW.out.loc.lt
        have lw : w.heap.size < WM.heap.size := HW.out.held.res.lt
        have HN : Hid (RdP wg pg ng tg Fg ∧ Capd pg ng kg ∧ Own (w.heap.size + 1) wg Fg ∧ L ∉ Fg) := ⟨rpg, cpg, og.mono (by omega), fun hx => by have := og.ge _ hx; omega⟩
        have HE : Hid (LocQ w q a len cap zs io ho L em gm mm lm tm pm nm km Fm wg) := HW.out.below bg
        clear rpg cpg og bg lL lw HW hsl HSM
        go_wp2_with (first | go_skip | (with_reducible refine stopLoad 54 rfl ?_) | (with_reducible refine stopStore 54 rfl ?_))
        refine store_known 54 L _ #[.int .i64 eg, .int .i64 gg, .slice pg ng kg, .int .i64 mg, .int .i64 lg] 54 HE.out.loc rfl rfl rfl rfl infoSeI rfl (by simp [Value.oneCell']) ?_
        have HZ : Hid (LocQ w q a len cap zs io ho L eg gg mg lg tg pg ng kg Fg (wg.setRow L #[.int .i64 eg, .int .i64 gg, .slice pg ng kg, .int .i64 mg, .int .i64 lg])) := HE.out.whole hq HA.out HN.out.1 HN.out.2.1 HN.out.2.2.1 HN.out.2.2.2
        obtain ⟨WG, hWG⟩ : ∃ W, W = (wg.setRow L #[.int .i64 eg, .int .i64 gg, .slice pg ng kg, .int .i64 mg, .int .i64 lg]) := ⟨_, rfl⟩
        rw [← hWG] at HZ ⊢
        clear hWG HE HN
        go_wp2
        go_roundw
        case rel => exact ⟨k + 1, eg, gg, mg, lg, tg, pg, ng, kg, Fg, io, ho, by omega, by go_num, HZ, HSG⟩
        case measure => simp [intOf]; omega
      case s3 =>
        intro K hK
        refine op_callS2 61 _ _ _ Try.f61 (fun v w' => ∃ x i' h', v = .int .i64 x ∧ 0 ≤ x ∧ x < 12 ∧ Cur w' q a len cap zs i' h' ∧ WD.grownBy w' (some q)) rfl rfl Try.func61 (by kernel_rfl) (by kernel_rfl) ((l1Below_any q a len cap zs i7 h7 12 WD HDd.out.held.cur hlen (by omega) (by omega)).mono (by rintro e w' ⟨x, i', h', rfl, r⟩; exact ⟨_, rfl, x, i', h', rfl, r⟩)) ?_
        rintro v wb2 ⟨z, ib2, hb2, rfl, z0, z1, C9, g9⟩
        have HB2 : Hid (LocQ w q a len cap zs ib2 hb2 L ep gr me la ts b l c F wb2) := HDd.out.next hq C9 g9
        obtain ⟨zo, hzo⟩ : ∃ n, n = 1 + z := ⟨_, rfl⟩
        have hwz : IntKind.i64.wrap (1 + z) = zo := by rw [hzo]; exact wrapSe (by omega)
        clear C9 g9 HDd
        refine ⟨_, by simp [Act.put]; rfl, hK _ _ ⟨trivial, ?_⟩⟩
        clear hK
        refine takeH (o := ?o11) 4 (.int .i64 zo) ?h11 ?r11
        case h11 => simp only [aT, aS, aZ]; rfl
        refine ⟨_, by simp [Act.put]; rfl, by kernel_rfl, by kernel_rfl, by kernel_rfl, fun _ _ _ h => h, (.inl ⟨rfl, fun W _ => by first | (go_simp; done) | (go_simp; exact hwz)⟩), trivial, ?_⟩
        refine onlyH (o := ?o12) 0 (by kernel_rfl) ?h12 ?r12
        case h12 => simp only [aT, aZ]; rfl
        intro K hK
        refine op_loadS 54 L #[.int .i64 ep, .int .i64 gr, .slice b l c, .int .i64 me, .int .i64 la] 54 _ HB2.out.loc rfl rfl rfl Try.underlying54 rfl infoSeI ⟨_, by simp [Act.put]; rfl, hK _ _ ⟨trivial, ?_⟩⟩
        clear hK
        refine onlyH (o := ?o13) 5 (by kernel_rfl) ?h13 ?r13
        case h13 => simp only [aT, aS, aZ]; rfl
        intro K hK
        have hsl := HS.out.1
        refine op_callS4 120 _ _ _ _ _ Try.f120 (fun v w' => NewSeI wb2 ((Se.mk ep gr ts me la).data per 0 zo) (.returned v) w') rfl rfl Try.func120 (by kernel_rfl) (by kernel_rfl) ((seDataSpec_any _ ⟨ep, gr, ts, me, la⟩ per 0 zo F wb2 HB2.out.rd (by show ts.length ≤ _; omega)).mono (by intro e w' hh; have hh' := hh; obtain ⟨v, F', rfl, _⟩ := hh'; exact ⟨_, rfl, hh⟩)) ?_
        rintro v WE ⟨v9, F9, e9, r9, o9, b9⟩
        injection e9 with e9
        subst e9
        have HS9 : Hid (((Se.mk ep gr ts me la).data per 0 zo).1.taken.length ≤ (k + 1) ∧ ∀ p ∈ ((Se.mk ep gr ts me la).data per 0 zo).1.taken, InB p) := Se.data_small HS.out
        generalize ((Se.mk ep gr ts me la).data per 0 zo) = X at r9 HS9 ⊢
        obtain ⟨⟨ep', gr', us, me', la'⟩, cd⟩ := X
        obtain ⟨b', l', c', rfl, rp9, k9⟩ := r9
        have lL : L < wb2.heap.size := HB2.out.loc.lt
        have lw : w.heap.size < wb2.heap.size := HB2.out.held.res.lt
        have HN : Hid (RdP WE b' l' us F9 ∧ Capd b' l' c' ∧ Own (w.heap.size + 1) WE F9 ∧ L ∉ F9) := ⟨rp9, k9, o9.mono (by omega), fun hx => by have := o9.ge _ hx; omega⟩
        have HE : Hid (LocQ w q a len cap zs ib2 hb2 L ep gr me la ts b l c F WE) := HB2.out.below b9
        clear rp9 k9 o9 b9 lL lw HB2 hsl HS
        refine ⟨_, by simp [Act.put]; rfl, hK _ _ ⟨trivial, ?_⟩⟩
        clear hK
        refine takeH (o := ?o14) 6 (.tuple #[.agg #[.int .i64 ep', .int .i64 gr', .slice b' l' c', .int .i64 me', .int .i64 la'], .int .i64 cd]) ?h14 ?r14
        case h14 => simp only [aT, aS, aZ]; rfl
        refine ⟨_, by simp [Act.put]; rfl, by kernel_rfl, by kernel_rfl, by kernel_rfl, fun _ _ _ h => h, (.inl ⟨rfl, fun W _ => by kernel_rfl⟩), trivial, ?_⟩
        refine takeH (o := ?o15) 7 (.agg #[.int .i64 ep', .int .i64 gr', .slice b' l' c', .int .i64 me', .int .i64 la']) ?h15 ?r15
        case h15 => simp only [aT, aS, aZ]; rfl
        refine ⟨_, by simp [Act.put]; rfl, by kernel_rfl, by kernel_rfl, by kernel_rfl, fun _ _ _ h => h, (.inl ⟨rfl, fun W _ => by kernel_rfl⟩), trivial, ?_⟩
        refine takeH (o := ?o16) 8 (.int .i64 cd) ?h16 ?r16
        case h16 => simp only [aT, aS, aZ]; rfl
        refine ⟨_, by simp [Act.put]; rfl, by kernel_rfl, by kernel_rfl, by kernel_rfl, fun _ _ _ h => h, (.inl ⟨rfl, fun W _ => by kernel_rfl⟩), trivial, ?_⟩
        refine onlyH (o := ?o17) 9 (by kernel_rfl) ?h17 ?r17
        case h17 => simp only [aT, aS, aZ]; rfl
        intro K hK
        have HW : Hid (LocQ w q a len cap zs ib2 hb2 L ep' gr' me' la' us b' l' c' F9 (WE.setRow L #[.int .i64 ep', .int .i64 gr', .slice b' l' c', .int .i64 me', .int .i64 la'])) := HE.out.whole hq HA.out HN.out.1 HN.out.2.1 HN.out.2.2.1 HN.out.2.2.2
        refine op_store 54 L #[.int .i64 ep, .int .i64 gr, .slice b l c, .int .i64 me, .int .i64 la] #[.int .i64 ep', .int .i64 gr', .slice b' l' c', .int .i64 me', .int .i64 la'] 54 rfl rfl rfl rfl HE.out.loc infoSeI rfl (by simp [Value.oneCell']) ⟨_, by simp [Act.put]; rfl, hK _ _ ⟨trivial, ?_⟩⟩
        clear hK HE HN
        refine wpAnyH_done (by kernel_rfl) ?_ _
        obtain ⟨WA, hWA⟩ : ∃ W, W = (WE.setRow L #[.int .i64 ep', .int .i64 gr', .slice b' l' c', .int .i64 me', .int .i64 la']) := ⟨_, rfl⟩
        rw [← hWA] at HW ⊢
        clear hWA
        go_wp2_with fail
        refine (l1Once_any q a len cap zs ib2 hb2 3 _ HW.out.held.cur hlen (by omega) (by omega)).mono ?_
        rintro e wo ⟨d, io, ho, rfl, C9, g9⟩
        have HO : Hid (LocQ w q a len cap zs io ho L ep' gr' me' la' us b' l' c' F9 wo) := HW.out.next hq C9 g9
        clear C9 g9 HW
        cases d
        · go_wp2
          go_roundw
          case rel => exact ⟨k + 1, ep', gr', me', la', us, b', l', c', F9, io, ho, by omega, by go_num, HO, HS9⟩
          case measure => simp [intOf]; omega
        go_wp2_with (first | go_skip | (with_reducible refine stopLoad 54 rfl ?_) | (with_reducible refine stopStore 54 rfl ?_))
        refine load_known 54 L _ 54 _ HO.out.loc rfl rfl rfl Try.underlying54 rfl infoSeI ?_
        go_wp2_with fail
        have hsl := HS9.out.1
        refine (seMergeSpec_any _ ⟨ep', gr', us, me', la'⟩ per 1 F9 _ HO.out.rd (by show us.length ≤ _; have e : us.length ≤ k + 1 := hsl; omega)).mono ?_
        rintro e wm ⟨vm, Fm, rfl, rm, om, bm⟩
        have HSM : Hid (((Se.mk ep' gr' us me' la').merge per 1).1.taken.length ≤ (k + 1) ∧ ∀ p ∈ ((Se.mk ep' gr' us me' la').merge per 1).1.taken, InB p) := by show _ ∧ _; rw [Se.merge_taken]; exact HS9.out
        generalize ((Se.mk ep' gr' us me' la').merge per 1) = X at rm HSM ⊢
        obtain ⟨⟨em, gm, tm, mm, lm⟩, dm⟩ := X
        obtain ⟨pm, nm, km, rfl, rpm, cpm⟩ := rm
        have lL : L < wo.heap.size := HO.out.loc.lt
        have lw : w.heap.size < wo.heap.size := HO.out.held.res.lt
        have HN : Hid (RdP wm pm nm tm Fm ∧ Capd pm nm km ∧ Own (w.heap.size + 1) wm Fm ∧ L ∉ Fm) := ⟨rpm, cpm, om.mono (by omega), fun hx => by have := om.ge _ hx; omega⟩
        have HE : Hid (LocQ w q a len cap zs io ho L ep' gr' me' la' us b' l' c' F9 wm) := HO.out.below bm
        clear rpm cpm om bm lL lw HO hsl HS9
        go_wp2_with (first | go_skip | (with_reducible refine stopLoad 54 rfl ?_) | (with_reducible refine stopStore 54 rfl ?_))
        refine store_known 54 L _ #[.int .i64 em, .int .i64 gm, .slice pm nm km, .int .i64 mm, .int .i64 lm] 54 HE.out.loc rfl rfl rfl rfl infoSeI rfl (by simp [Value.oneCell']) ?_
        have HW : Hid (LocQ w q a len cap zs io ho L em gm mm lm tm pm nm km Fm (wm.setRow L #[.int .i64 em, .int .i64 gm, .slice pm nm km, .int .i64 mm, .int .i64 lm])) := HE.out.whole hq HA.out HN.out.1 HN.out.2.1 HN.out.2.2.1 HN.out.2.2.2
        obtain ⟨WM, hWM⟩ : ∃ W, W = (wm.setRow L #[.int .i64 em, .int .i64 gm, .slice pm nm km, .int .i64 mm, .int .i64 lm]) := ⟨_, rfl⟩
        rw [← hWM] at HW ⊢
        clear hWM HE HN
        go_wp2_with (first | go_skip | (with_reducible refine stopLoad 54 rfl ?_) | (with_reducible refine stopStore 54 rfl ?_))
        refine load_known 54 L _ 54 _ HW.out.loc rfl rfl rfl Try.underlying54 rfl infoSeI ?_
        go_wp2_with fail
        have hsl := HSM.out.1
        refine (seGrantSpec_any _ ⟨em, gm, tm, mm, lm⟩ per Fm _ HW.out.rd (by show tm.length ≤ _; have e : tm.length ≤ k + 1 := hsl; omega)).mono ?_
        rintro e wg ⟨vg, Fg, rfl, rg, og, bg⟩
        have HSG : Hid (((Se.mk em gm tm mm lm).grant per).taken.length ≤ (k + 1) ∧ ∀ p ∈ ((Se.mk em gm tm mm lm).grant per).taken, InB p) := by show _ ∧ _; rw [Se.grant_taken]; exact HSM.out
        generalize ((Se.mk em gm tm mm lm).grant per) = X at rg HSG ⊢
        obtain ⟨eg, gg, tg, mg, lg⟩ := X
        obtain ⟨pg, ng, kg, rfl, rpg, cpg⟩ := rg
        have lL : L < WM.heap.size := HW.out.loc.lt
        have lw : w.heap.size < WM.heap.size := HW.out.held.res.lt
        have HN : Hid (RdP wg pg ng tg Fg ∧ Capd pg ng kg ∧ Own (w.heap.size + 1) wg Fg ∧ L ∉ Fg) := ⟨rpg, cpg, og.mono (by omega), fun hx => by have := og.ge _ hx; omega⟩
        have HE : Hid (LocQ w q a len cap zs io ho L em gm mm lm tm pm nm km Fm wg) := HW.out.below bg
        clear rpg cpg og bg lL lw HW hsl HSM
        go_wp2_with (first | go_skip | (with_reducible refine stopLoad 54 rfl ?_) | (with_reducible refine stopStore 54 rfl ?_))
        refine store_known 54 L _ #[.int .i64 eg, .int .i64 gg, .slice pg ng kg, .int .i64 mg, .int .i64 lg] 54 HE.out.loc rfl rfl rfl rfl infoSeI rfl (by simp [Value.oneCell']) ?_
        have HZ : Hid (LocQ w q a len cap zs io ho L eg gg mg lg tg pg ng kg Fg (wg.setRow L #[.int .i64 eg, .int .i64 gg, .slice pg ng kg, .int .i64 mg, .int .i64 lg])) := HE.out.whole hq HA.out HN.out.1 HN.out.2.1 HN.out.2.2.1 HN.out.2.2.2
        obtain ⟨WG, hWG⟩ : ∃ W, W = (wg.setRow L #[.int .i64 eg, .int .i64 gg, .slice pg ng kg, .int .i64 mg, .int .i64 lg]) := ⟨_, rfl⟩
        rw [← hWG] at HZ ⊢
        clear hWG HE HN
        go_wp2
        go_roundw
        case rel => exact ⟨k + 1, eg, gg, mg, lg, tg, pg, ng, kg, Fg, io, ho, by omega, by go_num, HZ, HSG⟩
        case measure => simp [intOf]; omega
    · have hkm : (k : Int) = m := by omega
      have hcd : decide ((k : Int) < m) = false := decF hlt
      go_wp2_with fail
      refine (l1Below_any q a len cap zs i7 h7 3 _ HD.out.held.cur hlen (by omega) (by omega)).mono ?_
      rintro e w10 ⟨x10, i10, h10, rfl, _, _, C10, g10⟩
      have HD10 : Hid (LocQ w q a len cap zs i10 h10 L ep gr me la ts b l c F w10) := HD.out.next hq C10 g10
      clear C10 g10 HD
      have c1' := HD10.out.loc.cell 0
      have fz1 := HD10.out.loc.frozen 0
      simp only [aT, aZ] at c1'
      go_wp2_with (first | go_skip | (with_reducible refine stopLoad 54 rfl ?_) | (with_reducible refine stopStore 54 rfl ?_))
      have HE : Hid (LocQ w q a len cap zs i10 h10 L x10 gr me la ts b l c F (w10.setCell ⟨L, 0, none⟩ (.int .i64 x10))) := HD10.out.set hq HA.out 0 (.int .i64 x10) rfl
      obtain ⟨WE, hWE⟩ : ∃ W, W = w10.setCell ⟨L, 0, none⟩ (.int .i64 x10) := ⟨_, rfl⟩
      rw [← hWE] at HE ⊢
      clear hWE HD10 c1' fz1
      refine load_known 54 L _ 54 _ HE.out.loc rfl rfl rfl Try.underlying54 rfl infoSeI ?_
      go_wp2_with (first | go_skip | (with_reducible refine stopLoad 54 rfl ?_) | (with_reducible refine stopStore 54 rfl ?_))
      refine store_known 54 w.heap.size _ #[.int .i64 x10, .int .i64 gr, .slice b l c, .int .i64 me, .int .i64 la] 54 HE.out.held.res rfl rfl rfl rfl infoSeI rfl (by simp [Value.oneCell']) ?_
      go_wp2
      refine bodyPost_ret (results_cell_row Try.results105 _ _ w.heap.size _ _ (0, 0) _ rfl HE.out.held.res.setRow Try.underlying54 rfl infoSeI) rfl ?_
      have hz := HE.out.done hq HA.out
      exact ⟨_, ⟨x10, gr, ts, me, la⟩, F, i10, h10, rfl, hz.1, ⟨by show ts.length ≤ 6; have e : ts.length ≤ k := HS.out.1; omega, fit_of_inb HS.out.2⟩, hz.2.1, hz.2.2.1, hz.2.2.2⟩
set_option maxRecDepth 200000 in
set_option maxHeartbeats 8000000 in
theorem l9Draw_any (q : Nat) (a : Option Addr) (len cap : Nat) (zs : List Int) (i h : Int) (w : World) (C : Cur w q a len cap zs i h) (hlen : len ≤ 1048576) :
    Calls Try.prog 73 #[.pointer (some ⟨q, 0, none⟩)] w fun e w' => DrewSeI w q a len cap zs 8 e w' := by
  have hq : q < w.heap.size := World.block_lt_of_cell? _ _ C.c0
  have HA : Hid (∀ b, (∃ off, a = some ⟨b, off, none⟩ ∧ 0 < len) → b < w.heap.size) := cur_lt C
  have H0 : Hid (HeldR w q a len cap zs i h #[.int .i64 0, .int .i64 0, .slice none 0 0, .int .i64 0, .int .i64 0] 54 (w.alloc (.cells #[.int .i64 0, .int .i64 0, .slice none 0 0, .int .i64 0, .int .i64 0] 54))) := HeldR.made C _ _
  clear C
  go_enter Try.func73, Try.ntmps73
  go_wp2_with fail
  refine (l1Below_any q a len cap zs i h 8 _ H0.out.cur hlen (by omega) (by omega)).mono ?_
  rintro e w1 ⟨x1, i1, h1, rfl, p1, r1, C1, g1⟩
  have H1 : Hid (HeldR w q a len cap zs i1 h1 #[.int .i64 0, .int .i64 0, .slice none 0 0, .int .i64 0, .int .i64 0] 54 w1) := H0.out.next hq C1 g1
  clear C1 g1 H0
  go_wp2_with fail
  obtain ⟨per, hper⟩ : ∃ n, n = 1 + x1 := ⟨_, rfl⟩
  rw [← hper]
  clear hper
  refine (l9Right_any q a len cap zs i1 h1 per _ H1.out.cur hlen).mono ?_
  rintro e w2 ⟨v2, X, F, i2, h2, rfl, r2, s2, o2, C2, g2⟩
  obtain ⟨ep, gr, ts, me, la⟩ := X
  obtain ⟨b, l, c, rfl, rp2, k2⟩ := r2
  have H2 : Hid (HeldR w q a len cap zs i2 h2 #[.int .i64 0, .int .i64 0, .slice none 0 0, .int .i64 0, .int .i64 0] 54 w2 ∧ RdP w2 b l ts F ∧ Capd b l c ∧ Own w1.heap.size w2 F ∧ w.heap.size < w1.heap.size) := ⟨H1.out.next hq C2 g2, rp2, k2, o2, H1.out.res.lt⟩
  have HSM : Hid (ts.length ≤ 8 ∧ ts.fit) := ⟨by have e : ts.length ≤ 6 := s2.1; omega, s2.2⟩
  clear rp2 k2 o2 C2 g2 s2 H1
  go_wp2_with (first | go_skip | (with_reducible refine stopLoad 54 rfl ?_) | (with_reducible refine stopStore 54 rfl ?_))
  refine store_fresh 54 w2.heap.size rfl #[.int .i64 0, .int .i64 0, .slice none 0 0, .int .i64 0, .int .i64 0] #[.int .i64 ep, .int .i64 gr, .slice b l c, .int .i64 me, .int .i64 la] 54 rfl rfl rfl rfl infoSeI rfl (by simp [Value.oneCell']) ?_
  intro w3 hg3 hb3
  have H3 : Hid (LocQ w q a len cap zs i2 h2 w2.heap.size ep gr me la ts b l c F w3) := ⟨H2.out.1.below hb3, hg3, H2.out.2.1.below hb3, H2.out.2.2.1, (H2.out.2.2.2.1.below H2.out.2.1.lt hb3).mono (by have := H2.out.2.2.2.2; omega), fun hx => by have := H2.out.2.1.lt _ hx; omega, H2.out.1.res.lt⟩
  clear hg3 hb3 H2
  go_wp2_with fail
  refine (l1Below_any q a len cap zs i2 h2 14 _ H3.out.held.cur hlen (by omega) (by omega)).mono ?_
  rintro e w6 ⟨m, i6, h6, rfl, m0, m1, C6, g6⟩
  have H6 : Hid (LocQ w q a len cap zs i6 h6 w2.heap.size ep gr me la ts b l c F w6) := H3.out.next hq C6 g6
  obtain ⟨L, hL⟩ : ∃ L, L = w2.heap.size := ⟨_, rfl⟩
  rw [← hL] at H6 ⊢
  clear C6 g6 H3 hL
  by_cases hm0 : m = 0
  · subst hm0
    go_wp2_with fail
    have hqw : q < w6.heap.size := World.block_lt_of_cell? _ _ H6.out.held.cur.c0
    refine (pickInt_cur q w6.heap.size 4 a len cap zs i6 h6 [-1, 60, 61, 0] _ (H6.out.held.cur.alloc _) hlen (fun j hj => lit_ints w6 [-1, 60, 61, 0] _ j hj) (by omega) 4 rfl (by omega) (by omega)).mono ?_
    rintro e w7 ⟨y, i7, h7, hy, rfl, C7, g7⟩
    have H7 : Hid (LocQ w q a len cap zs i7 h7 L ep gr me la ts b l c F w7) := (H6.out.below ((Below.refl _ _).alloc (Nat.le_refl _) _)).next hq C7 g7
    clear C7 g7 H6 hqw hy
    have c1' := H7.out.loc.cell 1
    have fz1 := H7.out.loc.frozen 1
    simp only [aT, aS, aZ] at c1'
    go_wp2_with (first | go_skip | (with_reducible refine stopLoad 54 rfl ?_) | (with_reducible refine stopStore 54 rfl ?_))
    have HE : Hid (LocQ w q a len cap zs i7 h7 L ep y me la ts b l c F (w7.setCell ⟨L, 1, none⟩ (.int .i64 y))) := H7.out.set hq HA.out 1 (.int .i64 y) rfl
    obtain ⟨WE, hWE⟩ : ∃ W, W = w7.setCell ⟨L, 1, none⟩ (.int .i64 y) := ⟨_, rfl⟩
    rw [← hWE] at HE ⊢
    clear hWE H7 c1' fz1
    refine load_known 54 L _ 54 _ HE.out.loc rfl rfl rfl Try.underlying54 rfl infoSeI ?_
    go_wp2_with (first | go_skip | (with_reducible refine stopLoad 54 rfl ?_) | (with_reducible refine stopStore 54 rfl ?_))
    refine store_known 54 w.heap.size _ #[.int .i64 ep, .int .i64 y, .slice b l c, .int .i64 me, .int .i64 la] 54 HE.out.held.res rfl rfl rfl rfl infoSeI rfl (by simp [Value.oneCell']) ?_
    go_wp2
    refine bodyPost_ret (results_row_tmp Try.results73 _ _ w.heap.size _ _ _ _ rfl HE.out.held.res.setRow Try.underlying54 rfl infoSeI) rfl ?_
    have hz := HE.out.done hq HA.out
    exact ⟨_, ⟨ep, y, ts, me, la⟩, per, F, i7, h7, rfl, hz.1, HSM.out, hz.2.1, hz.2.2.1, hz.2.2.2⟩
  have em0 : (m == 0) = false := by simpa using hm0
  by_cases hm1 : m = 1
  · subst hm1
    go_wp2_with fail
    refine (l5Draw_any q a len cap zs i6 h6 _ H6.out.held.cur hlen).mono ?_
    rintro e w7 ⟨v7, us, rfl, D7, hl7, hne7, hf7⟩
    obtain ⟨i7, h7, C7⟩ := D7.cur
    have H7 : Hid (LocQ w q a len cap zs i7 h7 L ep gr me la ts b l c F w7) := H6.out.next hq C7 D7.grown
    obtain ⟨e7, k7, X7, rfl, r7, o7, cp7⟩ := rdP_of_own D7.own
    have HR7 : Hid (RdP w7 e7 us.length us X7 ∧ Capd e7 us.length k7 ∧ Own (w.heap.size + 1) w7 X7 ∧ L ∉ X7) := ⟨r7, cp7, o7.mono (by have := H6.out.held.res.lt; omega), fun hx => by have h1 := o7.ge _ hx; have h2 := H6.out.loc.lt; omega⟩
    have HSM : Hid (us.length ≤ 8 ∧ us.fit) := ⟨hl7, hf7⟩
    clear C7 r7 o7 cp7 D7 H6 hne7 hf7
    have c1' := H7.out.loc.cell 2
    have fz1 := H7.out.loc.frozen 2
    simp only [aT, aS, aZ] at c1'
    go_wp2_with (first | go_skip | (with_reducible refine stopLoad 54 rfl ?_) | (with_reducible refine stopStore 54 rfl ?_))
    have HE : Hid (LocQ w q a len cap zs i7 h7 L ep gr me la us e7 us.length k7 X7 (w7.setCell ⟨L, 2, none⟩ (.slice e7 us.length k7))) := H7.out.put hq HA.out HR7.out.1 HR7.out.2.1 HR7.out.2.2.1 HR7.out.2.2.2
    obtain ⟨WE, hWE⟩ : ∃ W, W = w7.setCell ⟨L, 2, none⟩ (.slice e7 us.length k7) := ⟨_, rfl⟩
    rw [← hWE] at HE ⊢
    clear hWE H7 c1' fz1 HR7
    refine load_known 54 L _ 54 _ HE.out.loc rfl rfl rfl Try.underlying54 rfl infoSeI ?_
    go_wp2_with (first | go_skip | (with_reducible refine stopLoad 54 rfl ?_) | (with_reducible refine stopStore 54 rfl ?_))
    refine store_known 54 w.heap.size _ #[.int .i64 ep, .int .i64 gr, .slice e7 us.length k7, .int .i64 me, .int .i64 la] 54 HE.out.held.res rfl rfl rfl rfl infoSeI rfl (by simp [Value.oneCell']) ?_
    go_wp2
    refine bodyPost_ret (results_row_tmp Try.results73 _ _ w.heap.size _ _ _ _ rfl HE.out.held.res.setRow Try.underlying54 rfl infoSeI) rfl ?_
    have hz := HE.out.done hq HA.out
    exact ⟨_, ⟨ep, gr, us, me, la⟩, per, X7, i7, h7, rfl, hz.1, HSM.out, hz.2.1, hz.2.2.1, hz.2.2.2⟩
  have em1 : (m == 1) = false := by simpa using hm1
  by_cases hm2 : m = 2
  · subst hm2
    go_wp2_with fail
    have hqw : q < w6.heap.size := World.block_lt_of_cell? _ _ H6.out.held.cur.c0
    refine (pickInt_cur q w6.heap.size 4 a len cap zs i6 h6 [-1, 1, 9, 9223372036854775807] _ (H6.out.held.cur.alloc _) hlen (fun j hj => lit_ints w6 [-1, 1, 9, 9223372036854775807] _ j hj) (by omega) 4 rfl (by omega) (by omega)).mono ?_
    rintro e w7 ⟨y, i7, h7, hy, rfl, C7, g7⟩
    have H7 : Hid (LocQ w q a len cap zs i7 h7 L ep gr me la ts b l c F w7) := (H6.out.below ((Below.refl _ _).alloc (Nat.le_refl _) _)).next hq C7 g7
    clear C7 g7 H6 hqw hy
    have c1' := H7.out.loc.cell 3
    have fz1 := H7.out.loc.frozen 3
    simp only [aT, aS, aZ] at c1'
    go_wp2_with (first | go_skip | (with_reducible refine stopLoad 54 rfl ?_) | (with_reducible refine stopStore 54 rfl ?_))
    have HE : Hid (LocQ w q a len cap zs i7 h7 L ep gr y la ts b l c F (w7.setCell ⟨L, 3, none⟩ (.int .i64 y))) := H7.out.set hq HA.out 3 (.int .i64 y) rfl
    obtain ⟨WE, hWE⟩ : ∃ W, W = w7.setCell ⟨L, 3, none⟩ (.int .i64 y) := ⟨_, rfl⟩
    rw [← hWE] at HE ⊢
    clear hWE H7 c1' fz1
    refine load_known 54 L _ 54 _ HE.out.loc rfl rfl rfl Try.underlying54 rfl infoSeI ?_
    go_wp2_with (first | go_skip | (with_reducible refine stopLoad 54 rfl ?_) | (with_reducible refine stopStore 54 rfl ?_))
    refine store_known 54 w.heap.size _ #[.int .i64 ep, .int .i64 gr, .slice b l c, .int .i64 y, .int .i64 la] 54 HE.out.held.res rfl rfl rfl rfl infoSeI rfl (by simp [Value.oneCell']) ?_
    go_wp2
    refine bodyPost_ret (results_row_tmp Try.results73 _ _ w.heap.size _ _ _ _ rfl HE.out.held.res.setRow Try.underlying54 rfl infoSeI) rfl ?_
    have hz := HE.out.done hq HA.out
    exact ⟨_, ⟨ep, gr, ts, y, la⟩, per, F, i7, h7, rfl, hz.1, HSM.out, hz.2.1, hz.2.2.1, hz.2.2.2⟩
  have em2 : (m == 2) = false := by simpa using hm2
  by_cases hm3 : m = 3
  · subst hm3
    go_wp2_with fail
    have hqw : q < w6.heap.size := World.block_lt_of_cell? _ _ H6.out.held.cur.c0
    refine (pickInt_cur q w6.heap.size 3 a len cap zs i6 h6 [-1, 1000, 1001] _ (H6.out.held.cur.alloc _) hlen (fun j hj => lit_ints w6 [-1, 1000, 1001] _ j hj) (by omega) 3 rfl (by omega) (by omega)).mono ?_
    rintro e w7 ⟨y, i7, h7, hy, rfl, C7, g7⟩
    have H7 : Hid (LocQ w q a len cap zs i7 h7 L ep gr me la ts b l c F w7) := (H6.out.below ((Below.refl _ _).alloc (Nat.le_refl _) _)).next hq C7 g7
    clear C7 g7 H6 hqw hy
    have c1' := H7.out.loc.cell 0
    have fz1 := H7.out.loc.frozen 0
    simp only [aT, aZ] at c1'
    go_wp2_with (first | go_skip | (with_reducible refine stopLoad 54 rfl ?_) | (with_reducible refine stopStore 54 rfl ?_))
    have HE : Hid (LocQ w q a len cap zs i7 h7 L y gr me la ts b l c F (w7.setCell ⟨L, 0, none⟩ (.int .i64 y))) := H7.out.set hq HA.out 0 (.int .i64 y) rfl
    obtain ⟨WE, hWE⟩ : ∃ W, W = w7.setCell ⟨L, 0, none⟩ (.int .i64 y) := ⟨_, rfl⟩
    rw [← hWE] at HE ⊢
    clear hWE H7 c1' fz1
    refine load_known 54 L _ 54 _ HE.out.loc rfl rfl rfl Try.underlying54 rfl infoSeI ?_
    go_wp2_with (first | go_skip | (with_reducible refine stopLoad 54 rfl ?_) | (with_reducible refine stopStore 54 rfl ?_))
    refine store_known 54 w.heap.size _ #[.int .i64 y, .int .i64 gr, .slice b l c, .int .i64 me, .int .i64 la] 54 HE.out.held.res rfl rfl rfl rfl infoSeI rfl (by simp [Value.oneCell']) ?_
    go_wp2
    refine bodyPost_ret (results_row_tmp Try.results73 _ _ w.heap.size _ _ _ _ rfl HE.out.held.res.setRow Try.underlying54 rfl infoSeI) rfl ?_
    have hz := HE.out.done hq HA.out
    exact ⟨_, ⟨y, gr, ts, me, la⟩, per, F, i7, h7, rfl, hz.1, HSM.out, hz.2.1, hz.2.2.1, hz.2.2.2⟩
  have em3 : (m == 3) = false := by simpa using hm3
  by_cases hm4 : m = 4
  · subst hm4
    go_wp2_with fail
    have hqw : q < w6.heap.size := World.block_lt_of_cell? _ _ H6.out.held.cur.c0
    refine (pickInt_cur q w6.heap.size 3 a len cap zs i6 h6 [0, 9, 1] _ (H6.out.held.cur.alloc _) hlen (fun j hj => lit_ints w6 [0, 9, 1] _ j hj) (by omega) 3 rfl (by omega) (by omega)).mono ?_
    rintro e w7 ⟨y, i7, h7, hy, rfl, C7, g7⟩
    have H7 : Hid (LocQ w q a len cap zs i7 h7 L ep gr me la ts b l c F w7) := (H6.out.below ((Below.refl _ _).alloc (Nat.le_refl _) _)).next hq C7 g7
    clear C7 g7 H6 hqw hy
    go_wp2_with (first | go_skip | (with_reducible refine stopLoad 54 rfl ?_) | (with_reducible refine stopStore 54 rfl ?_))
    refine load_known 54 L _ 54 _ H7.out.loc rfl rfl rfl Try.underlying54 rfl infoSeI ?_
    go_wp2_with (first | go_skip | (with_reducible refine stopLoad 54 rfl ?_) | (with_reducible refine stopStore 54 rfl ?_))
    refine store_known 54 w.heap.size _ #[.int .i64 ep, .int .i64 gr, .slice b l c, .int .i64 me, .int .i64 la] 54 H7.out.held.res rfl rfl rfl rfl infoSeI rfl (by simp [Value.oneCell']) ?_
    go_wp2
    refine bodyPost_ret (results_row_tmp Try.results73 _ _ w.heap.size _ _ _ _ rfl H7.out.held.res.setRow Try.underlying54 rfl infoSeI) rfl ?_
    have hz := H7.out.done hq HA.out
    exact ⟨_, ⟨ep, gr, ts, me, la⟩, y, F, i7, h7, rfl, hz.1, HSM.out, hz.2.1, hz.2.2.1, hz.2.2.2⟩
  have em4 : (m == 4) = false := by simpa using hm4
  clear hm0 hm1 hm2 hm3 hm4
  go_wp2_with (first | go_skip | (with_reducible refine stopLoad 54 rfl ?_) | (with_reducible refine stopStore 54 rfl ?_))
  refine load_known 54 L _ 54 _ H6.out.loc rfl rfl rfl Try.underlying54 rfl infoSeI ?_
  go_wp2_with (first | go_skip | (with_reducible refine stopLoad 54 rfl ?_) | (with_reducible refine stopStore 54 rfl ?_))
  refine store_known 54 w.heap.size _ #[.int .i64 ep, .int .i64 gr, .slice b l c, .int .i64 me, .int .i64 la] 54 H6.out.held.res rfl rfl rfl rfl infoSeI rfl (by simp [Value.oneCell']) ?_
  go_wp2
  refine bodyPost_ret (results_row_tmp Try.results73 _ _ w.heap.size _ _ _ _ rfl H6.out.held.res.setRow Try.underlying54 rfl infoSeI) rfl ?_
  have hz := H6.out.done hq HA.out
  exact ⟨_, ⟨ep, gr, ts, me, la⟩, per, F, i6, h6, rfl, hz.1, HSM.out, hz.2.1, hz.2.2.1, hz.2.2.2⟩
/-- A drawn seat in a variable at L of a drawing with a cursor of its own. -/
structure DrS (w : World) (q : Nat) (a : Option Addr) (len cap : Nat) (zs : List Int) (i h : Int) (L : Nat) (ep gr me la : Int) (ts : Sp) (b : Option Addr) (l c : Nat) (F : List Nat) (W : World) : Prop where
  res : Blk W w.heap.size #[.int .i64 0, .int .i64 0, .slice none 0 0, .int .i64 0, .int .i64 0] 54
  bel : Below w.heap.size w W
  loc : Blk W L #[.int .i64 ep, .int .i64 gr, .slice b l c, .int .i64 me, .int .i64 la] 54
  rp : RdP W b l ts F
  own : Own (w.heap.size + 1) W F
  cur : Cur W q a len cap zs i h
  ap : L ∉ F
  gq : w.heap.size < q
  ql : q < L
  fq : ∀ b ∈ F, ¬ b = q
theorem DrS.below {w W W' : World} {q : Nat} {a : Option Addr} {len cap : Nat} {zs : List Int} {i h : Int} {L : Nat} {ep gr me la : Int} {ts : Sp} {b : Option Addr} {l c : Nat} {F : List Nat} (H : DrS w q a len cap zs i h L ep gr me la ts b l c F W) (k : Below W.heap.size W W') : DrS w q a len cap zs i h L ep gr me la ts b l c F W' :=
  ⟨H.res.below k, Below.next H.bel k, H.loc.below k, H.rp.below k, H.own.below H.rp.lt k, H.cur.keep k, H.ap, H.gq, H.ql, H.fq⟩
theorem DrS.next {w W W' : World} {q : Nat} {a : Option Addr} {len cap : Nat} {zs : List Int} {i h i' h' : Int} {L : Nat} {ep gr me la : Int} {ts : Sp} {b : Option Addr} {l c : Nat} {F : List Nat} (H : DrS w q a len cap zs i h L ep gr me la ts b l c F W) (C : Cur W' q a len cap zs i' h') (g : W.grownBy W' (some q)) : DrS w q a len cap zs i' h' L ep gr me la ts b l c F W' := by
  have ag : Agree W W' F := fun x hx => g.block x (H.rp.lt x hx) (fun e => H.fq x hx (by simp at e; omega))
  have gq := H.gq; have ql := H.ql
  exact ⟨H.res.grown g (by omega), H.bel.grown g H.bel.size (fun k hk => by simp at hk; omega), H.loc.grown g (by omega), H.rp.agree ag, H.own.agree ag, C, H.ap, H.gq, H.ql, H.fq⟩
set_option maxRecDepth 200000 in
set_option maxHeartbeats 8000000 in
theorem drawSeatMerge_any (a : Option Addr) (len cap : Nat) (zs : List Int) (w : World) (hR : RdB w a len zs) (hlen : len ≤ 1048576) :
    Calls Try.prog 27 #[.slice a len cap] w fun e w' => ∃ v x per n F, e = .returned (.tuple #[v, .int .i64 per, .int .i64 n]) ∧ RdSe w' v x F ∧ (x.taken.length ≤ 8 ∧ x.taken.fit) ∧ Own w.heap.size w' F ∧ Below w.heap.size w w' := by
  have HZ : Hid (Blk (w.alloc (.cells #[.int .i64 0, .int .i64 0, .slice none 0 0, .int .i64 0, .int .i64 0] 54)) w.heap.size #[.int .i64 0, .int .i64 0, .slice none 0 0, .int .i64 0, .int .i64 0] 54 ∧ Below w.heap.size w (w.alloc (.cells #[.int .i64 0, .int .i64 0, .slice none 0 0, .int .i64 0, .int .i64 0] 54))) := ⟨Blk.made _ _ _, (Below.refl _ _).alloc (Nat.le_refl _) _⟩
  have HR : Hid (RdB (w.alloc (.cells #[.int .i64 0, .int .i64 0, .slice none 0 0, .int .i64 0, .int .i64 0] 54)) a len zs) := hR.below HZ.out.2
  clear hR
  go_enter Try.func27, Try.ntmps27
  go_wp2_with fail
  obtain ⟨W0, hW0⟩ : ∃ W, W = w.alloc (.cells #[.int .i64 0, .int .i64 0, .slice none 0 0, .int .i64 0, .int .i64 0] 54) := ⟨_, rfl⟩
  rw [← hW0] at HZ HR ⊢
  clear hW0
  refine (l1New_any a len cap zs _ HR.out hlen).mono ?_
  rintro e w1 ⟨rfl, ⟨h, C1⟩, b1⟩
  have HZ1 : Hid (Blk w1 w.heap.size #[.int .i64 0, .int .i64 0, .slice none 0 0, .int .i64 0, .int .i64 0] 54 ∧ Below w.heap.size w w1 ∧ W0.heap.size < w1.heap.size ∧ w.heap.size < W0.heap.size) := ⟨HZ.out.1.below b1, Below.next HZ.out.2 b1, World.block_lt_of_cell? _ _ C1.c0, HZ.out.1.lt⟩
  obtain ⟨q, hqe⟩ : ∃ q, q = W0.heap.size := ⟨_, rfl⟩
  rw [← hqe] at C1 HZ1 ⊢
  have HC1 : Hid (Cur w1 q a len cap zs 0 h) := C1
  clear C1 b1 HZ HR hqe
  go_wp2_with fail
  refine (l9Draw_any q a len cap zs 0 h _ HC1.out hlen).mono ?_
  rintro e w2 ⟨v, X, per, F, i2, h2, rfl, r2, s2, o2, C2, g2⟩
  obtain ⟨ep, gr, ts, me, la⟩ := X
  obtain ⟨b, l, c, rfl, rp2, k2⟩ := r2
  have HZ2 : Hid (Blk w2 w.heap.size #[.int .i64 0, .int .i64 0, .slice none 0 0, .int .i64 0, .int .i64 0] 54 ∧ Below w.heap.size w w2 ∧ w.heap.size < q) := ⟨HZ1.out.1.grown g2 (by have := HZ1.out.2.2; omega), HZ1.out.2.1.grown g2 HZ1.out.2.1.size (fun k hk => by simp at hk; have := HZ1.out.2.2; omega), HZ1.out.2.2.2⟩
  have HX : Hid (RdP w2 b l ts F ∧ Capd b l c ∧ Own (w.heap.size + 1) w2 F ∧ (ts.length ≤ 8 ∧ ts.fit) ∧ ∀ b ∈ F, q < b) := ⟨rp2, k2, o2.mono (by have := HZ1.out.2.2; omega), s2, fun b hb => by have h1 := o2.ge b hb; have h2 := HZ1.out.2.2.1; omega⟩
  have HC2 : Hid (Cur w2 q a len cap zs i2 h2) := C2
  clear rp2 k2 o2 C2 g2 s2 HZ1 HC1
  go_wp2_with (first | go_skip | (with_reducible refine stopLoad 54 rfl ?_) | (with_reducible refine stopStore 54 rfl ?_))
  refine store_fresh 54 w2.heap.size rfl #[.int .i64 0, .int .i64 0, .slice none 0 0, .int .i64 0, .int .i64 0] #[.int .i64 ep, .int .i64 gr, .slice b l c, .int .i64 me, .int .i64 la] 54 rfl rfl rfl rfl infoSeI rfl (by simp [Value.oneCell']) ?_
  intro w3 hg3 hb3
  have H3 : Hid (Blk w3 w.heap.size #[.int .i64 0, .int .i64 0, .slice none 0 0, .int .i64 0, .int .i64 0] 54 ∧ Below w.heap.size w w3 ∧ Blk w3 w2.heap.size #[.int .i64 ep, .int .i64 gr, .slice b l c, .int .i64 me, .int .i64 la] 54 ∧ RdP w3 b l ts F ∧ Own (w.heap.size + 1) w3 F ∧ Cur w3 q a len cap zs i2 h2 ∧ w2.heap.size ∉ F ∧ w.heap.size < w2.heap.size ∧ q < w2.heap.size) := ⟨HZ2.out.1.below hb3, Below.next HZ2.out.2.1 hb3, hg3, HX.out.1.below hb3, HX.out.2.2.1.below HX.out.1.lt hb3, HC2.out.keep hb3, fun hx => by have := HX.out.1.lt _ hx; omega, HZ2.out.1.lt, World.block_lt_of_cell? _ _ HC2.out.c0⟩
  obtain ⟨L, hL⟩ : ∃ L, L = w2.heap.size := ⟨_, rfl⟩
  rw [← hL] at H3 ⊢
  clear hg3 hb3 HC2 hL
  go_wp2_with fail
  obtain ⟨WD, hWD⟩ : ∃ W, W = w3.drew := ⟨_, rfl⟩
  have bd := (Below.refl w3.heap.size w3).drew
  rw [← hWD] at bd
  have HD : Hid (Blk WD w.heap.size #[.int .i64 0, .int .i64 0, .slice none 0 0, .int .i64 0, .int .i64 0] 54 ∧ Below w.heap.size w WD ∧ Blk WD L #[.int .i64 ep, .int .i64 gr, .slice b l c, .int .i64 me, .int .i64 la] 54 ∧ RdP WD b l ts F ∧ Own (w.heap.size + 1) WD F ∧ Cur WD q a len cap zs i2 h2 ∧ L ∉ F ∧ w.heap.size < L ∧ q < L) := ⟨H3.out.1.below bd, Below.next H3.out.2.1 bd, H3.out.2.2.1.below bd, H3.out.2.2.2.1.below bd, H3.out.2.2.2.2.1.below H3.out.2.2.2.1.lt bd, H3.out.2.2.2.2.2.1.keep bd, H3.out.2.2.2.2.2.2⟩
  clear H3 bd
  refine wp_region_held (S := fun W => Blk W L #[.int .i64 ep, .int .i64 gr, .slice b l c, .int .i64 me, .int .i64 la] 54) (by kernel_rfl) ?_
  change wpAnyH _ _ _ _ _ _ _ _ (World.drew _)
  rw [← hWD]
  clear hWD
  refine takeH (o := ?o18) 0 (.agg #[.int .i64 ep, .int .i64 gr, .slice b l c, .int .i64 me, .int .i64 la]) ?h18 ?r18
  case h18 => simp only [aT, aZ]; rfl
  refine ⟨_, by simp [Act.put]; rfl, by kernel_rfl, by kernel_rfl, by kernel_rfl, fun _ _ _ h => h, (yields_whole 54 _ #[.int .i64 ep, .int .i64 gr, .slice b l c, .int .i64 me, .int .i64 la] 54 _ rfl rfl rfl Try.underlying54 rfl infoSeI (fun W hW => hW)), HD.out.2.2.1, ?_⟩
  refine takeH (o := ?o19) 1 (.int .i64 per) ?h19 ?r19
  case h19 => simp only [aT, aS, aZ]; rfl
  refine ⟨_, by simp [Act.put]; rfl, by kernel_rfl, by kernel_rfl, by kernel_rfl, fun _ _ _ h => h, (.inl ⟨rfl, fun W _ => by kernel_rfl⟩), HD.out.2.2.1, ?_⟩
  refine takeH (o := ?o20) 2 (.pointer (some ⟨q, 0, none⟩)) ?h20 ?r20
  case h20 => simp only [aT, aS, aZ]; rfl
  refine ⟨_, by simp [Act.put]; rfl, by kernel_rfl, by kernel_rfl, by kernel_rfl, fun _ _ _ h => h, (.inl ⟨rfl, fun W _ => by kernel_rfl⟩), HD.out.2.2.1, ?_⟩
  refine onlyH (o := ?o21) 3 (by kernel_rfl) ?h21 ?r21
  case h21 => simp only [aT, aS, aZ]; rfl
  intro K hK
  refine op_turn (.slice (some ⟨WD.heap.size, 0, none⟩) 6 6) (WD.alloc (.cells #[.int .i64 0, .int .i64 1, .int .i64 2, .int .i64 (-1), .int .i64 9, .int .i64 9223372036854775807] 3)) rfl (by kernel_rfl) ⟨_, by simp [Act.put]; rfl, hK _ _ ⟨HD.out.2.2.1.alloc _, ?_⟩⟩
  clear hK
  refine onlyH (o := ?o22) 4 (by kernel_rfl) ?h22 ?r22
  case h22 => simp only [aT, aS, aZ]; rfl
  intro K hK
  have hqw : q < WD.heap.size := World.block_lt_of_cell? _ _ HD.out.2.2.2.2.2.1.c0
  refine op_callS2 74 _ _ _ Try.f74 (fun v w' => ∃ yy i' h', v = .int .i64 yy ∧ Cur w' q a len cap zs i' h' ∧ (WD.alloc (.cells #[.int .i64 0, .int .i64 1, .int .i64 2, .int .i64 (-1), .int .i64 9, .int .i64 9223372036854775807] 3)).grownBy w' (some q)) rfl rfl Try.func74 (by kernel_rfl) (by kernel_rfl) ((pickInt_cur q WD.heap.size 6 a len cap zs i2 h2 [0, 1, 2, -1, 9, 9223372036854775807] _ (HD.out.2.2.2.2.2.1.alloc _) hlen (fun j hj => lit_ints WD [0, 1, 2, -1, 9, 9223372036854775807] _ j hj) (by omega) 6 rfl (by omega) (by omega)).mono (by rintro e w' ⟨y2, i', h', _, rfl, C9, g9⟩; exact ⟨_, rfl, y2, i', h', rfl, C9, g9⟩)) ?_
  rintro v WE ⟨y, i9, h9, rfl, C9, g9⟩
  have ba : Below WD.heap.size WD (WD.alloc (.cells #[.int .i64 0, .int .i64 1, .int .i64 2, .int .i64 (-1), .int .i64 9, .int .i64 9223372036854775807] 3)) := (Below.refl _ _).alloc (Nat.le_refl _) _
  have hFq : ∀ b ∈ F, ¬ b = q := fun b hb e => by have := HX.out.2.2.2.2 b hb; omega
  have hls : L < WD.heap.size := HD.out.2.2.1.lt
  have ag : Agree (WD.alloc (.cells #[.int .i64 0, .int .i64 1, .int .i64 2, .int .i64 (-1), .int .i64 9, .int .i64 9223372036854775807] 3)) WE F := fun x hx => g9.block x (Nat.lt_of_lt_of_le (HD.out.2.2.2.1.lt x hx) ba.size) (fun e => hFq x hx (by simp at e; omega))
  have HE : Hid (Blk WE w.heap.size #[.int .i64 0, .int .i64 0, .slice none 0 0, .int .i64 0, .int .i64 0] 54 ∧ Below w.heap.size w WE ∧ Blk WE L #[.int .i64 ep, .int .i64 gr, .slice b l c, .int .i64 me, .int .i64 la] 54 ∧ RdP WE b l ts F ∧ Own (w.heap.size + 1) WE F ∧ L ∉ F ∧ w.heap.size < L) := ⟨(HD.out.1.below ba).grown g9 (by have := HZ2.out.2.2; omega), (Below.next HD.out.2.1 ba).grown g9 (Below.next HD.out.2.1 ba).size (fun k hk => by simp at hk; have := HZ2.out.2.2; omega), (HD.out.2.2.1.below ba).grown g9 (by have := HD.out.2.2.2.2.2.2.2.2; omega), (HD.out.2.2.2.1.below ba).agree ag, (HD.out.2.2.2.2.1.below HD.out.2.2.2.1.lt ba).agree ag, HD.out.2.2.2.2.2.2.1, HD.out.2.2.2.2.2.2.2.1⟩
  clear C9 g9 ba hFq hls ag HD hqw
  refine ⟨_, by simp [Act.put]; rfl, hK _ _ ⟨HE.out.2.2.1, ?_⟩⟩
  clear hK
  refine onlyH (o := ?o23) 5 (by kernel_rfl) ?h23 ?r23
  case h23 => simp only [aT, aS, aZ]; rfl
  intro K hK
  have hlt := HE.out.2.2.2.2.2.2
  refine op_store 54 w.heap.size #[.int .i64 0, .int .i64 0, .slice none 0 0, .int .i64 0, .int .i64 0] #[.int .i64 ep, .int .i64 gr, .slice b l c, .int .i64 me, .int .i64 la] 54 rfl rfl rfl rfl HE.out.1 infoSeI rfl (by simp [Value.oneCell']) ⟨_, by simp [Act.put]; rfl, hK _ _ ⟨HE.out.2.2.1.setRowOther (by omega), ?_⟩⟩
  clear hK
  refine takeH (o := ?o24) 6 (.int .i64 per) ?h24 ?r24
  case h24 => simp only [aT, aS, aZ]; rfl
  refine ⟨_, by simp [Act.put]; rfl, by kernel_rfl, by kernel_rfl, by kernel_rfl, fun _ _ _ h => h, (.inl ⟨rfl, fun W _ => by kernel_rfl⟩), (HE.out.2.2.1.setRowOther (by omega)), ?_⟩
  refine takeH (o := ?o25) 7 (.int .i64 y) ?h25 ?r25
  case h25 => simp only [aT, aS, aZ]; rfl
  refine ⟨_, by simp [Act.put]; rfl, by kernel_rfl, by kernel_rfl, by kernel_rfl, fun _ _ _ h => h, (.inl ⟨rfl, fun W _ => by kernel_rfl⟩), (HE.out.2.2.1.setRowOther (by omega)), ?_⟩
  refine wpAnyH_done (by kernel_rfl) ?_ _
  clear hlt
  go_wp2
  refine bodyPost_ret (results_row_tmp2 Try.results27 _ _ w.heap.size _ _ _ _ rfl HE.out.1.setRow Try.underlying54 rfl infoSeI) rfl ?_
  have nF : w.heap.size ∉ F := fun hx => by have := HE.out.2.2.2.2.1.ge _ hx; omega
  exact ⟨_, ⟨ep, gr, ts, me, la⟩, per, y, F, rfl, ⟨b, l, c, rfl, HE.out.2.2.2.1.agree (Agree.row nF _), HX.out.2.1⟩, HX.out.2.2.2.1, (HE.out.2.2.2.2.1.agree (Agree.row nF _)).mono (by omega), below_setRow HE.out.2.1 (Nat.le_refl _) _⟩
end Go.Proofs.Ytgkbhhlkaifnoaa
