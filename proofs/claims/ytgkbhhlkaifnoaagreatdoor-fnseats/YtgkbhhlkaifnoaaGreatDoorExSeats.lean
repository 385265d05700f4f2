/- For every byte slice (no condition): laws.FnSeats returns true, and its argument reads afterwards as it did: who was given credit never has more than its share outstanding; nothing is taken twice, nor beyond it; the library's tables, and the one variable that errors.As reads, start as the program's text lays them (the card ties them). -/
import Derived.Test.YtgkbhhlkaifnoaaGreatDoorCards
import Derived.Test.YtgkbhhlkaifnoaaGreatDoorTie
import Derived.Test.YtgkbhhlkaifnoaaGreatDoorLawBase
import Derived.Test.YtgkbhhlkaifnoaaGreatDoorB3
import Derived.Test.YtgkbhhlkaifnoaaGreatDoorSkLaw
import Derived.Test.YtgkbhhlkaifnoaaGreatDoorB4
import Derived.ProofKit
import Derived.OpenShut
import Derived.ShutString
import Derived.Below
import Derived.LaidSub
import Derived.LaidHandle
import Derived.Deep.DeepHandedRow
import Derived.Deep.DeepCutAuto
namespace Go.Proofs.YtgkbhhlkaifnoaaGreatDoor.fnSeats
open Go.ChangeShapes Go.WideShapes Go.ChangeAt Go.RowKit
set_option linter.unusedVariables false
theorem own : ownKnob Tryz.prog.godebug = none := by kernel_rfl
theorem gTab : Tryz.prog.globalNamed "internal/strconv.uint64pow10" = some 2 := by kernel_rfl
theorem gTabType : (Tryz.prog.globals[2]?).map (·.type) = some 191 := by kernel_rfl
theorem cellsA : Tryz.prog.cellsOf 191 = 20 := by kernel_rfl
theorem cellsE : Tryz.prog.cellsOf 182 = 1 := by kernel_rfl
/-- What the row's list gives: the table's cells hold its twenty numbers. -/
theorem table {W : World} (h : laidMetH Tryz.prog Rows.fnSeatsRow.laid W) : Lib.TabIs Tryz.prog W "internal/strconv.uint64pow10" .u64 Lib.pow10Tab := by
  have h3 := laidMetH.filter (fun x => x.1 == "internal/strconv.uint64pow10") h
  have e : Rows.fnSeatsRow.laid.filter (fun x => x.1 == "internal/strconv.uint64pow10") = [("internal/strconv.uint64pow10", Rows.laid_internal_strconv_uint64pow10)] := by kernel_rfl
  rw [e] at h3
  exact Lib.tabIs_of_head (rest := []) gTab gTabType Tryz.underlying191 Tryz.underlying182 cellsE cellsA h3

theorem laid0 : laidOutB Tryz.prog = true := by kernel_rfl
theorem eT : Tryz.prog.globalNamed "errors.errorType" = some 0 := by kernel_rfl
theorem rT : (Tryz.prog.cutTypes.find? (·.1 == "internal/reflectlite.rtype")).map (·.2) = some 147 := by kernel_rfl
set_option maxRecDepth 100000 in
theorem oneRow : ((List.range 224).filter fun t => Tryz.prog.rowNamed t [101, 114, 114, 111, 114]) = [88] := by kernel_rfl
theorem typesSize : Tryz.prog.types.size = 224 := by kernel_rfl
set_option maxRecDepth 100000 in
/-- What the row's list gives: the variable's one cell. -/
theorem handle {W : World} (h : laidMetH Tryz.prog Rows.fnSeatsRow.laid W) : ErrAt W := by
  have h3 := laidMetH.filter (fun x => x.1 == "errors.errorType") h
  have e : Rows.fnSeatsRow.laid.filter (fun x => x.1 == "errors.errorType") = [("errors.errorType", Rows.laid_errors_errorType)] := by kernel_rfl
  rw [e] at h3
  have h' : laidMet Tryz.prog [] W ∧ handlesMet Tryz.prog [("errors.errorType", Rows.laid_errors_errorType)] W := h3
  obtain ⟨name, u, ty, e1, e2, e3, e4, e5⟩ := h'.2 _ (List.mem_singleton.2 rfl)
  have en : name = [101, 114, 114, 111, 114] := (Option.some.inj e1).symm
  subst en
  obtain rfl := Option.some.inj (rT.symm.trans e2)
  have hm : ty ∈ (List.range 224).filter fun t => Tryz.prog.rowNamed t [101, 114, 114, 111, 114] := List.mem_filter.2 ⟨List.mem_range.2 (by rw [← typesSize]; exact e3), e4⟩
  rw [oneRow] at hm
  obtain rfl := List.mem_singleton.1 hm
  have hh : typeHandle Tryz.prog 88 = .pointer (some ⟨5, 88, none⟩) := by kernel_rfl
  rw [hh] at e5
  simpa [ErrAt] using World.var?_cell eT e5 0
/-- A seat in a variable. -/
structure VarQ (g : Nat) (x : Se) (b : Option Addr) (l c : Nat) (F : List Nat) (m : Nat) (W : World) : Prop where
  blk : Blk W g #[.int .i64 x.epoch, .int .i64 x.granted, .slice b l c, .int .i64 x.merged, .int .i64 x.last] 45
  rp : RdP W b l x.taken F
  cp : Capd b l c
  len : x.taken.length ≤ m
theorem VarQ.below {g : Nat} {x : Se} {b : Option Addr} {l c : Nat} {F : List Nat} {m : Nat} {W W' : World} (h : VarQ g x b l c F m W) (k : Below W.heap.size W W') : VarQ g x b l c F m W' := ⟨h.blk.below k, h.rp.below k, h.cp, h.len⟩
theorem VarQ.rd {g : Nat} {x : Se} {b : Option Addr} {l c : Nat} {F : List Nat} {m : Nat} {W : World} (h : VarQ g x b l c F m W) : RdSe W (.agg #[.int .i64 x.epoch, .int .i64 x.granted, .slice b l c, .int .i64 x.merged, .int .i64 x.last]) x F := ⟨b, l, c, rfl, h.rp, h.cp⟩
theorem VarQ.l {g : Nat} {x : Se} {b : Option Addr} {l c : Nat} {F : List Nat} {m : Nat} {W : World} (h : VarQ g x b l c F m W) : l ≤ m := by rw [← h.rp.length]; exact h.len
theorem fit_in64 {ps : Sp} (h : ps.fit) : ps.in64 := fun p hp => h p hp
def Fit2 (p : Int × Int) : Prop := Fit64 p.1 ∧ Fit64 p.2
theorem put_fitI : ∀ {ps : Sp} {x : Int × Int} {d : Bool}, (∀ p ∈ ps, Fit2 p) → Fit2 x → ∀ p ∈ put ps x d, Fit2 p
  | [], x, d, _, hx, p, hp => by
    cases d <;> simp [put] at hp
    subst hp; exact hx
  | q :: ps, x, d, h, hx, p, hp => by
    have hq := h q (by simp)
    have hr : ∀ p ∈ ps, Fit2 p := fun p hp => h p (by simp [hp])
    rw [put] at hp
    split at hp
    · rcases List.mem_cons.1 hp with rfl | hp
      · exact hq
      · exact put_fitI hr hx p hp
    · split at hp
      · rcases List.mem_append.1 hp with hp | hp
        · cases d <;> simp at hp
          subst hp; exact hx
        · rcases List.mem_cons.1 hp with rfl | hp
          · exact hq
          · exact put_fitI hr hx p hp
      · exact put_fitI hr (by unfold Fit2 Fit64 at hq hx ⊢; simp only; omega) p hp
theorem put_fit {ps : Sp} {x : Int × Int} (h : ps.fit) (hx : InB x) : (put ps x false).fit := fun p hp =>
  put_fitI (d := false) (fun p hp => h p hp) (show Fit2 x from ⟨⟨by have := hx.1.1; omega, by have := hx.1.2; omega⟩, ⟨by have := hx.2.1; omega, by have := hx.2.2; omega⟩⟩) p hp
theorem Se.reclaim_taken (x : Se) (per : Int) : (x.reclaim per).taken = x.taken := by unfold Se.reclaim; split <;> rfl
theorem Se.data_cases (x : Se) (per ep sq : Int) : (x.data per ep sq).1.taken = x.taken ∨ (x.data per ep sq).2 = 0 := by
  unfold Se.data
  split
  · exact .inl rfl
  split
  · exact .inl rfl
  split
  · exact .inl rfl
  split
  · exact .inl rfl
  · exact .inr rfl
theorem Se.data_zero {s x : Se} {per ep sq : Int} (h : s.data per ep sq = (x, 0)) : s.ok per = true ∧ (1 ≤ sq ∧ sq ≤ 60) ∧ ep = s.epoch ∧ s.taken.has sq = false ∧ sq ≤ s.granted ∧ x = s.took sq := by
  unfold Se.data at h
  split at h
  · exact absurd (Prod.mk.inj h).2 (by omega)
  split at h
  · exact absurd (Prod.mk.inj h).2 (by omega)
  split at h
  · exact absurd (Prod.mk.inj h).2 (by omega)
  split at h
  · exact absurd (Prod.mk.inj h).2 (by omega)
  · rename_i h1 h2 h3 h4
    have q := Decidable.not_not.1 h1
    exact ⟨q.1, q.2, Decidable.not_not.1 h2, by simpa using h3, by omega, (Prod.mk.inj h).1.symm⟩
theorem Sp.under_up {ps : Sp} {m m' : Int} (h : ps.under m = true) (hm : m ≤ m') : ps.under m' = true :=
  Sp.under_all (fun k hk => ⟨(Sp.under_at h hk).1, by have := (Sp.under_at h hk).2; omega⟩)
theorem Sp.under_has {ps : Sp} {m n : Int} (h : ps.under m = true) (hn : ps.has n = true) : 1 ≤ n ∧ n ≤ m := by
  unfold Sp.has at hn
  rw [List.any_eq_true] at hn
  obtain ⟨p, hp, e⟩ := hn
  obtain ⟨k, hk, rfl⟩ := List.getElem_of_mem hp
  have e := of_decide_eq_true e
  have u := Sp.under_at h hk
  unfold Sp.at at u
  rw [List.getElem?_eq_getElem hk] at u
  simp only [Option.getD_some] at u
  omega
theorem Sp.under_of {ps : Sp} {m : Int} (h : ps.ok = true) (hn : ∀ n, ps.has n = true → 1 ≤ n ∧ n ≤ m) : ps.under m = true :=
  Sp.under_all (fun k hk => by
    have p := (Sp.okAt_parts (Sp.ok_at h k hk)).1
    exact ⟨(hn _ (Sp.has_at hk ⟨Int.le_refl _, p.2.1⟩)).1, (hn _ (Sp.has_at hk ⟨p.2.1, Int.le_refl _⟩)).2⟩)
theorem took_right {s : Se} {per sq : Int} (r : s.Right per) (hs : 1 ≤ sq ∧ sq ≤ 60) (hn : s.taken.has sq = false) (hg : sq ≤ s.granted) : (s.took sq).Right per ∧ (s.took sq).taken.has sq = true ∧ (s.took sq).taken.size = s.taken.size + 1 := by
  have e : s.taken.add sq = (put s.taken (sq, sq) false, true) := Sp.add_yes r.taken (by omega) hn
  have a := add_right (a := s.taken) (n := sq) (by rw [e])
  rw [e] at a
  obtain ⟨j1, j2⟩ := put_ok (x := (sq, sq)) (ok_iff.1 r.taken) (by show 0 ≤ sq; omega) (Int.le_refl _) (by show sq ≤ 9999; omega)
  have hok : (put s.taken (sq, sq) false).ok = true := ok_iff.2 j1
  refine ⟨⟨r.per, r.epoch, r.granted, hok, Sp.under_of hok (fun n hq => ?_), ⟨r.merged.1, ?_⟩, r.share, r.last⟩, a.1, a.2.1⟩
  · rcases (j2 n).1 hq with q | q
    · exact Sp.under_has r.under q
    · have q1 : sq ≤ n := q.1
      have q2 : n ≤ sq := q.2
      show 1 ≤ n ∧ n ≤ s.granted
      omega
  · have h1 := r.merged.2
    have h2 : (put s.taken (sq, sq) false).size = s.taken.size + 1 := a.2.1
    show s.merged ≤ (put s.taken (sq, sq) false).size
    omega
theorem grant_right {u : Se} {p : Int} (r : u.Right p) : (u.grant p).Right p ∧ (u.grant p).owed ≤ p ∧ u.granted ≤ (u.grant p).granted := by
  have e : u.grant p = ⟨u.epoch, min 60 (u.merged + p), u.taken, u.merged, u.last⟩ := by unfold Se.grant; rw [if_pos r.ok]
  have h1 := r.per
  have h2 := r.merged
  have h3 := r.share
  have h4 := r.granted
  have hle : u.granted ≤ min 60 (u.merged + p) := by omega
  rw [e]
  refine ⟨⟨r.per, r.epoch, ⟨by show 0 ≤ min 60 (u.merged + p); omega, by show min 60 (u.merged + p) ≤ 60; omega⟩, r.taken, Sp.under_up r.under hle, r.merged, by show min 60 (u.merged + p) ≤ u.merged + p; omega, r.last⟩, ?_, hle⟩
  unfold Se.owed
  show (if (0 ≤ min 60 (u.merged + p) ∧ min 60 (u.merged + p) ≤ 60) ∧ 0 ≤ u.merged ∧ u.merged ≤ 60 then max (min 60 (u.merged + p) - u.merged) 0 else 0) ≤ p
  split <;> omega
theorem Sp.le_top {ps : Sp} (h : ps.ok = true) : ∀ d k, k + d + 1 = ps.length → (ps.at k).2 ≤ (ps.at (ps.length - 1)).2
  | 0, k, hk => by rw [show ps.length - 1 = k by omega]; exact Int.le_refl _
  | d + 1, k, hk => by
    have ih := Sp.le_top h d (k + 1) (by omega)
    have p := Sp.okAt_parts (Sp.ok_at h (k + 1) (by omega))
    have q := p.2 (by omega)
    rw [Nat.add_sub_cancel] at q
    have := p.1
    omega
theorem reclaim_right {u : Se} {p : Int} (r : u.Right p) : (u.reclaim p).Right p ∧ (u.reclaim p).granted ≤ u.granted := by
  by_cases hE : u.epoch = 1000
  · have e : u.reclaim p = u := by unfold Se.reclaim; rw [if_neg (fun q => q.2 hE)]
    rw [e]
    exact ⟨r, Int.le_refl _⟩
  · have e : u.reclaim p = ⟨u.epoch + 1, u.taken.top, u.taken, u.merged, u.last⟩ := by unfold Se.reclaim; rw [if_pos ⟨r.ok, hE⟩]
    have h0 := r.epoch
    have h3 := r.share
    have h4 := r.granted
    have ht : 0 ≤ u.taken.top ∧ u.taken.top ≤ u.granted := by
      unfold Sp.top
      by_cases hl : u.taken.length = 0
      · rw [if_pos hl]; omega
      · rw [if_neg hl]
        have a := Sp.under_at r.under (k := u.taken.length - 1) (by omega)
        have b := (Sp.okAt_parts (Sp.ok_at r.taken (u.taken.length - 1) (by omega))).1
        omega
    rw [e]
    refine ⟨⟨r.per, ⟨by show 0 ≤ u.epoch + 1; omega, by show u.epoch + 1 ≤ 1000; omega⟩, ⟨ht.1, by show u.taken.top ≤ 60; omega⟩, r.taken, Sp.under_all (fun k hk => ⟨(Sp.under_at r.under hk).1, ?_⟩), r.merged, by show u.taken.top ≤ u.merged + p; omega, r.last⟩, ht.2⟩
    have hk' : k < u.taken.length := hk
    show (u.taken.at k).2 ≤ u.taken.top
    unfold Sp.top
    rw [if_neg (by omega)]
    exact Sp.le_top r.taken (u.taken.length - 1 - k) k (by omega)
theorem exec_eqStrS {a : Act} {o : Oper} {x y : Operand} {s : ByteArray} {W : World} (ho : o.op = .binOp .eql 9 x y 9) (hx : a.eval x = .string s) (hy : a.eval y = .string s) : (execOp a.eval o).run Tryz.prog W = .ok (.value (.bool true)) W := by
  unfold execOp
  simp only [ho, hx, hy]
  go_simp
theorem exec_neStrS {a : Act} {o : Oper} {x y : Operand} {s : ByteArray} {W : World} (ho : o.op = .binOp .neq 9 x y 9) (hx : a.eval x = .string s) (hy : a.eval y = .string s) : (execOp a.eval o).run Tryz.prog W = .ok (.value (.bool false)) W := by
  unfold execOp
  simp only [ho, hx, hy]
  go_simp
set_option maxRecDepth 200000 in
set_option maxHeartbeats 16000000 in
theorem walk (a0 : Option Addr) (len0 cap0 : Nat) (zs : List Int) (w : World) (hR : RdB w a0 len0 zs) (ht : TabAt w) (hE : ErrAt w) :
    Calls Tryz.prog 4 #[.slice a0 len0 cap0] w fun e w' => e = .returned (.bool true) ∧ Below w.heap.size w w' := by
  have HTAB : Hid (TabAt w) := ht
  have HER : Hid (ErrAt w) := hE
  clear ht hE
  have HR : Hid (RdB w a0 len0 zs) := hR
  clear hR
  go_enter Tryz.func4, Tryz.ntmps4
  go_wp2_with fail
  refine (big_any a0 len0 cap0 _).mono ?_
  rintro e w1 ⟨rfl, hw1⟩
  have hw1' := hw1.symm
  subst hw1'
  clear hw1
  by_cases hbig : 1048576 < len0
  · have hd : decide ((1048576 : Int) < (len0 : Int)) = true := by simpa using (by omega : (1048576 : Int) < (len0 : Int))
    rw [hd]
    clear hd
    go_wp2
    go_ret
    exact ⟨rfl, Below.refl _ _⟩
  have hd : decide ((1048576 : Int) < (len0 : Int)) = false := by simpa using (by omega : (len0 : Int) ≤ (1048576 : Int))
  have hlen : len0 ≤ 1048576 := by omega
  rw [hd]
  clear hd hbig
  have BEL : Hid (Below w.heap.size w w) := Below.refl _ _
  go_wp2_with fail
  refine (drawSeatData_any a0 len0 cap0 zs _ HR.out hlen).mono ?_
  rintro e w1 ⟨v, s, per, ep, sq, F, rfl, ⟨p1, n1, k1, rfl, rps, cps⟩, ⟨hls, hfs⟩, o1, b1⟩
  have BEL : Hid (Below w.heap.size w w1) := Below.next BEL.out b1
  have HFS : Hid s.taken.fit := hfs
  clear o1 b1 hfs
  have Rs : Hid (RdP w1 p1 n1 s.taken F ∧ Capd p1 n1 k1 ∧ s.taken.length ≤ 8) := ⟨rps, cps, hls⟩
  clear rps cps hls
  go_wp2_with (first | go_skip | (with_reducible refine stopLoad 45 rfl ?_) | (with_reducible refine stopStore 45 rfl ?_))
  refine store_fresh 45 w1.heap.size rfl #[.int .i64 0, .int .i64 0, .slice none 0 0, .int .i64 0, .int .i64 0] #[.int .i64 s.epoch, .int .i64 s.granted, .slice p1 n1 k1, .int .i64 s.merged, .int .i64 s.last] 45 rfl rfl rfl rfl infoSeI rfl (by simp [Value.oneCell']) ?_
  intro w2 hg hb
  have BEL : Hid (Below w.heap.size w w2) := Below.next BEL.out hb
  obtain ⟨gs, hgv⟩ : ∃ g, g = w1.heap.size := ⟨_, rfl⟩
  rw [← hgv] at hg ⊢
  have Vs : Hid (VarQ gs s p1 n1 k1 F 8 w2) := ⟨hg, Rs.out.1.below hb, Rs.out.2.1, Rs.out.2.2⟩
  clear hg hb hgv Rs
  obtain ⟨z, hz⟩ : ∃ z, z = s.data per ep sq := ⟨_, rfl⟩
  have HZ : Hid (s.data per ep sq = z) := hz.symm
  have HTL : Hid (z.1.taken.length ≤ 9 ∧ z.1.taken.fit) := by
    have hl := Vs.out.len
    rw [hz]
    show _ ∧ _
    rcases s.data_taken per ep sq with e | ⟨e, hi⟩
    · rw [e]; exact ⟨by omega, HFS.out⟩
    · rw [e]; exact ⟨by have := put_length s.taken (sq, sq) false; omega, put_fit HFS.out hi⟩
  clear hz
  obtain ⟨x, cd⟩ := z
  go_wp2_with (first | go_skip | (with_reducible refine stopLoad 45 rfl ?_) | (with_reducible refine stopStore 45 rfl ?_))
  refine load_known 45 gs #[.int .i64 s.epoch, .int .i64 s.granted, .slice p1 n1 k1, .int .i64 s.merged, .int .i64 s.last] 45 _ Vs.out.blk rfl rfl rfl Tryz.underlying45 rfl infoSeI ?_
  go_wp2_with fail
  refine (seDataImpl_any _ s per ep sq F _ Vs.out.rd (by have := Vs.out.len; omega) (HER.out.below BEL.out)).mono ?_
  intro e w3 hh
  rw [HZ.out] at hh
  obtain ⟨zv, Fx, rfl, ⟨px, nx, kx, rfl, rpx, cpx⟩, oo, bb⟩ := hh
  have hlx : x.taken.length ≤ 9 := HTL.out.1
  have BEL : Hid (Below w.heap.size w w3) := Below.next BEL.out bb
  have Vs : Hid (VarQ gs s p1 n1 k1 F 8 w3) := Vs.out.below bb
  clear oo bb
  have Rx : Hid (RdP w3 px nx x.taken Fx ∧ Capd px nx kx ∧ x.taken.length ≤ 9) := ⟨rpx, cpx, hlx⟩
  clear rpx cpx hlx
  go_wp2_with (first | go_skip | (with_reducible refine stopLoad 45 rfl ?_) | (with_reducible refine stopStore 45 rfl ?_))
  refine store_fresh 45 w3.heap.size rfl #[.int .i64 0, .int .i64 0, .slice none 0 0, .int .i64 0, .int .i64 0] #[.int .i64 x.epoch, .int .i64 x.granted, .slice px nx kx, .int .i64 x.merged, .int .i64 x.last] 45 rfl rfl rfl rfl infoSeI rfl (by simp [Value.oneCell']) ?_
  intro w4 hg hb
  have BEL : Hid (Below w.heap.size w w4) := Below.next BEL.out hb
  have Vs : Hid (VarQ gs s p1 n1 k1 F 8 w4) := Vs.out.below hb
  obtain ⟨gx, hgv⟩ : ∃ g, g = w3.heap.size := ⟨_, rfl⟩
  rw [← hgv] at hg ⊢
  have Vx : Hid (VarQ gx x px nx kx Fx 9 w4) := ⟨hg, Rx.out.1.below hb, Rx.out.2.1, Rx.out.2.2⟩
  clear hg hb hgv Rx
  go_wp2_with (first | go_skip | (with_reducible refine stopLoad 45 rfl ?_) | (with_reducible refine stopStore 45 rfl ?_))
  refine load_known 45 gs #[.int .i64 s.epoch, .int .i64 s.granted, .slice p1 n1 k1, .int .i64 s.merged, .int .i64 s.last] 45 _ Vs.out.blk rfl rfl rfl Tryz.underlying45 rfl infoSeI ?_
  go_wp2_with fail
  refine (seDataSpec_any _ s per ep sq F _ Vs.out.rd (by have := Vs.out.len; omega)).mono ?_
  intro e w5 hh
  rw [HZ.out] at hh
  obtain ⟨zv, Fy, rfl, ⟨py, ny, ky, rfl, rpy, cpy⟩, oo, bb⟩ := hh
  have hly : x.taken.length ≤ 9 := HTL.out.1
  have BEL : Hid (Below w.heap.size w w5) := Below.next BEL.out bb
  have Vs : Hid (VarQ gs s p1 n1 k1 F 8 w5) := Vs.out.below bb
  have Vx : Hid (VarQ gx x px nx kx Fx 9 w5) := Vx.out.below bb
  clear oo bb
  have Ry : Hid (RdP w5 py ny x.taken Fy ∧ Capd py ny ky ∧ x.taken.length ≤ 9) := ⟨rpy, cpy, hly⟩
  clear rpy cpy hly
  go_wp2_with (first | go_skip | (with_reducible refine stopLoad 45 rfl ?_) | (with_reducible refine stopStore 45 rfl ?_))
  refine store_fresh 45 w5.heap.size rfl #[.int .i64 0, .int .i64 0, .slice none 0 0, .int .i64 0, .int .i64 0] #[.int .i64 x.epoch, .int .i64 x.granted, .slice py ny ky, .int .i64 x.merged, .int .i64 x.last] 45 rfl rfl rfl rfl infoSeI rfl (by simp [Value.oneCell']) ?_
  intro w6 hg hb
  have BEL : Hid (Below w.heap.size w w6) := Below.next BEL.out hb
  have Vs : Hid (VarQ gs s p1 n1 k1 F 8 w6) := Vs.out.below hb
  have Vx : Hid (VarQ gx x px nx kx Fx 9 w6) := Vx.out.below hb
  obtain ⟨gy, hgv⟩ : ∃ g, g = w5.heap.size := ⟨_, rfl⟩
  rw [← hgv] at hg ⊢
  have Vy : Hid (VarQ gy x py ny ky Fy 9 w6) := ⟨hg, Ry.out.1.below hb, Ry.out.2.1, Ry.out.2.2⟩
  clear hg hb hgv Ry
  have hcc : (cd != cd) = false := by simp
  go_wp2_with fail
  refine (drawSeatGrant_any a0 len0 cap0 zs _ (HR.out.below BEL.out) hlen).mono ?_
  rintro e w7 ⟨v, u, p, Fu, rfl, ⟨pu, nu, ku, rfl, rpu, cpu⟩, ⟨hlu, hfu⟩, o1, b1⟩
  have BEL : Hid (Below w.heap.size w w7) := Below.next BEL.out b1
  have Vs : Hid (VarQ gs s p1 n1 k1 F 8 w7) := Vs.out.below b1
  have Vx : Hid (VarQ gx x px nx kx Fx 9 w7) := Vx.out.below b1
  have Vy : Hid (VarQ gy x py ny ky Fy 9 w7) := Vy.out.below b1
  have HFU : Hid u.taken.fit := hfu
  clear o1 b1 hfu
  have Ru : Hid (RdP w7 pu nu u.taken Fu ∧ Capd pu nu ku ∧ u.taken.length ≤ 8) := ⟨rpu, cpu, hlu⟩
  clear rpu cpu hlu
  go_wp2_with (first | go_skip | (with_reducible refine stopLoad 45 rfl ?_) | (with_reducible refine stopStore 45 rfl ?_))
  refine store_fresh 45 w7.heap.size rfl #[.int .i64 0, .int .i64 0, .slice none 0 0, .int .i64 0, .int .i64 0] #[.int .i64 u.epoch, .int .i64 u.granted, .slice pu nu ku, .int .i64 u.merged, .int .i64 u.last] 45 rfl rfl rfl rfl infoSeI rfl (by simp [Value.oneCell']) ?_
  intro w8 hg hb
  have BEL : Hid (Below w.heap.size w w8) := Below.next BEL.out hb
  have Vs : Hid (VarQ gs s p1 n1 k1 F 8 w8) := Vs.out.below hb
  have Vx : Hid (VarQ gx x px nx kx Fx 9 w8) := Vx.out.below hb
  have Vy : Hid (VarQ gy x py ny ky Fy 9 w8) := Vy.out.below hb
  obtain ⟨gu, hgv⟩ : ∃ g, g = w7.heap.size := ⟨_, rfl⟩
  rw [← hgv] at hg ⊢
  have Vu : Hid (VarQ gu u pu nu ku Fu 8 w8) := ⟨hg, Ru.out.1.below hb, Ru.out.2.1, Ru.out.2.2⟩
  clear hg hb hgv Ru
  go_wp2_with (first | go_skip | (with_reducible refine stopLoad 45 rfl ?_) | (with_reducible refine stopStore 45 rfl ?_))
  refine load_known 45 gu #[.int .i64 u.epoch, .int .i64 u.granted, .slice pu nu ku, .int .i64 u.merged, .int .i64 u.last] 45 _ Vu.out.blk rfl rfl rfl Tryz.underlying45 rfl infoSeI ?_
  go_wp2_with fail
  refine (seGrantImpl_any _ u p Fu _ Vu.out.rd (by have := Vu.out.len; omega)).mono ?_
  intro e w9 hh
  obtain ⟨y, hy⟩ : ∃ y, y = u.grant p := ⟨_, rfl⟩
  rw [← hy] at hh
  have Hy : Hid (u.grant p = y) := hy.symm
  have hlg : y.taken.length ≤ 8 := by rw [hy, Se.grant_taken]; exact Vu.out.len
  obtain ⟨zv, Fg, rfl, ⟨pg, ng, kg, rfl, rpg, cpg⟩, oo, bb⟩ := hh
  have BEL : Hid (Below w.heap.size w w9) := Below.next BEL.out bb
  have Vs : Hid (VarQ gs s p1 n1 k1 F 8 w9) := Vs.out.below bb
  have Vx : Hid (VarQ gx x px nx kx Fx 9 w9) := Vx.out.below bb
  have Vy : Hid (VarQ gy x py ny ky Fy 9 w9) := Vy.out.below bb
  have Vu : Hid (VarQ gu u pu nu ku Fu 8 w9) := Vu.out.below bb
  clear oo bb hy
  have Rg : Hid (RdP w9 pg ng y.taken Fg ∧ Capd pg ng kg ∧ y.taken.length ≤ 8) := ⟨rpg, cpg, hlg⟩
  clear rpg cpg hlg
  go_wp2_with (first | go_skip | (with_reducible refine stopLoad 45 rfl ?_) | (with_reducible refine stopStore 45 rfl ?_))
  refine store_fresh 45 w9.heap.size rfl #[.int .i64 0, .int .i64 0, .slice none 0 0, .int .i64 0, .int .i64 0] #[.int .i64 y.epoch, .int .i64 y.granted, .slice pg ng kg, .int .i64 y.merged, .int .i64 y.last] 45 rfl rfl rfl rfl infoSeI rfl (by simp [Value.oneCell']) ?_
  intro w10 hg hb
  have BEL : Hid (Below w.heap.size w w10) := Below.next BEL.out hb
  have Vs : Hid (VarQ gs s p1 n1 k1 F 8 w10) := Vs.out.below hb
  have Vx : Hid (VarQ gx x px nx kx Fx 9 w10) := Vx.out.below hb
  have Vy : Hid (VarQ gy x py ny ky Fy 9 w10) := Vy.out.below hb
  have Vu : Hid (VarQ gu u pu nu ku Fu 8 w10) := Vu.out.below hb
  obtain ⟨gg, hgv⟩ : ∃ g, g = w9.heap.size := ⟨_, rfl⟩
  rw [← hgv] at hg ⊢
  have Vg : Hid (VarQ gg y pg ng kg Fg 8 w10) := ⟨hg, Rg.out.1.below hb, Rg.out.2.1, Rg.out.2.2⟩
  clear hg hb hgv Rg
  go_wp2_with (first | go_skip | (with_reducible refine stopLoad 45 rfl ?_) | (with_reducible refine stopStore 45 rfl ?_))
  refine load_known 45 gu #[.int .i64 u.epoch, .int .i64 u.granted, .slice pu nu ku, .int .i64 u.merged, .int .i64 u.last] 45 _ Vu.out.blk rfl rfl rfl Tryz.underlying45 rfl infoSeI ?_
  go_wp2_with fail
  refine (seReclaimImpl_any _ u p Fu _ Vu.out.rd (by have := Vu.out.len; omega)).mono ?_
  intro e w11 hh
  obtain ⟨q, hq⟩ : ∃ y, y = u.reclaim p := ⟨_, rfl⟩
  rw [← hq] at hh
  have Hq : Hid (u.reclaim p = q) := hq.symm
  have hlr : q.taken.length ≤ 8 := by rw [hq, Se.reclaim_taken]; exact Vu.out.len
  obtain ⟨zv, Fr, rfl, ⟨pr, nr, kr, rfl, rpr, cpr⟩, oo, bb⟩ := hh
  have BEL : Hid (Below w.heap.size w w11) := Below.next BEL.out bb
  have Vs : Hid (VarQ gs s p1 n1 k1 F 8 w11) := Vs.out.below bb
  have Vx : Hid (VarQ gx x px nx kx Fx 9 w11) := Vx.out.below bb
  have Vy : Hid (VarQ gy x py ny ky Fy 9 w11) := Vy.out.below bb
  have Vu : Hid (VarQ gu u pu nu ku Fu 8 w11) := Vu.out.below bb
  have Vg : Hid (VarQ gg y pg ng kg Fg 8 w11) := Vg.out.below bb
  clear oo bb hq
  have Rr : Hid (RdP w11 pr nr q.taken Fr ∧ Capd pr nr kr ∧ q.taken.length ≤ 8) := ⟨rpr, cpr, hlr⟩
  clear rpr cpr hlr
  go_wp2_with (first | go_skip | (with_reducible refine stopLoad 45 rfl ?_) | (with_reducible refine stopStore 45 rfl ?_))
  refine store_fresh 45 w11.heap.size rfl #[.int .i64 0, .int .i64 0, .slice none 0 0, .int .i64 0, .int .i64 0] #[.int .i64 q.epoch, .int .i64 q.granted, .slice pr nr kr, .int .i64 q.merged, .int .i64 q.last] 45 rfl rfl rfl rfl infoSeI rfl (by simp [Value.oneCell']) ?_
  intro w12 hg hb
  have BEL : Hid (Below w.heap.size w w12) := Below.next BEL.out hb
  have Vs : Hid (VarQ gs s p1 n1 k1 F 8 w12) := Vs.out.below hb
  have Vx : Hid (VarQ gx x px nx kx Fx 9 w12) := Vx.out.below hb
  have Vy : Hid (VarQ gy x py ny ky Fy 9 w12) := Vy.out.below hb
  have Vu : Hid (VarQ gu u pu nu ku Fu 8 w12) := Vu.out.below hb
  have Vg : Hid (VarQ gg y pg ng kg Fg 8 w12) := Vg.out.below hb
  obtain ⟨gr, hgv⟩ : ∃ g, g = w11.heap.size := ⟨_, rfl⟩
  rw [← hgv] at hg ⊢
  have Vr : Hid (VarQ gr q pr nr kr Fr 8 w12) := ⟨hg, Rr.out.1.below hb, Rr.out.2.1, Rr.out.2.2⟩
  clear hg hb hgv Rr
  go_wp2_with fail
  obtain ⟨w13, hY⟩ : ∃ Y, Y = w12.drew := ⟨_, rfl⟩
  have bd := (Below.refl w12.heap.size w12).drew
  rw [← hY] at bd
  have BEL : Hid (Below w.heap.size w w13) := Below.next BEL.out bd
  have Vs : Hid (VarQ gs s p1 n1 k1 F 8 w13) := Vs.out.below bd
  have Vx : Hid (VarQ gx x px nx kx Fx 9 w13) := Vx.out.below bd
  have Vy : Hid (VarQ gy x py ny ky Fy 9 w13) := Vy.out.below bd
  have Vu : Hid (VarQ gu u pu nu ku Fu 8 w13) := Vu.out.below bd
  have Vg : Hid (VarQ gg y pg ng kg Fg 8 w13) := Vg.out.below bd
  have Vr : Hid (VarQ gr q pr nr kr Fr 8 w13) := Vr.out.below bd
  clear bd
  refine wp_region_held (S := fun W => Blk W gs #[.int .i64 s.epoch, .int .i64 s.granted, .slice p1 n1 k1, .int .i64 s.merged, .int .i64 s.last] 45 ∧ Blk W gx #[.int .i64 x.epoch, .int .i64 x.granted, .slice px nx kx, .int .i64 x.merged, .int .i64 x.last] 45 ∧ Blk W gu #[.int .i64 u.epoch, .int .i64 u.granted, .slice pu nu ku, .int .i64 u.merged, .int .i64 u.last] 45 ∧ Blk W gg #[.int .i64 y.epoch, .int .i64 y.granted, .slice pg ng kg, .int .i64 y.merged, .int .i64 y.last] 45 ∧ Blk W gr #[.int .i64 q.epoch, .int .i64 q.granted, .slice pr nr kr, .int .i64 q.merged, .int .i64 q.last] 45) (by kernel_rfl) ?_
  change wpAnyH _ _ _ _ _ _ _ _ (World.drew _)
  rw [← hY]
  clear hY
  refine takeH (o := ?o1) 0 (.pointer (some ⟨gg, 1, none⟩)) ?h1 ?r1
  case h1 => simp only [aT, aZ]; rfl
  refine ⟨_, by simp [Act.put]; rfl, by kernel_rfl, by kernel_rfl, by kernel_rfl, fun _ _ _ h => h, (.inl ⟨rfl, fun W _ => by kernel_rfl⟩), ⟨Vs.out.blk, Vx.out.blk, Vu.out.blk, Vg.out.blk, Vr.out.blk⟩, ?_⟩
  refine takeH (o := ?o2) 1 (.int .i64 y.granted) ?h2 ?r2
  case h2 => simp only [aT, aS, aZ]; rfl
  refine ⟨_, by simp [Act.put]; rfl, by kernel_rfl, by kernel_rfl, by kernel_rfl, fun _ _ _ h => h, (.inl ⟨rfl, fun W hW => by have c := hW.2.2.2.1.cell 1; simp only [aT, aS, aZ] at c; go_simp⟩), ⟨Vs.out.blk, Vx.out.blk, Vu.out.blk, Vg.out.blk, Vr.out.blk⟩, ?_⟩
  refine takeH (o := ?o3) 2 (.agg #[.int .i64 u.epoch, .int .i64 u.granted, .slice pu nu ku, .int .i64 u.merged, .int .i64 u.last]) ?h3 ?r3
  case h3 => simp only [aT, aS, aZ]; rfl
  refine ⟨_, by simp [Act.put]; rfl, by kernel_rfl, by kernel_rfl, by kernel_rfl, fun _ _ _ h => h, (yields_whole 45 _ #[.int .i64 u.epoch, .int .i64 u.granted, .slice pu nu ku, .int .i64 u.merged, .int .i64 u.last] 45 _ rfl rfl rfl Tryz.underlying45 rfl infoSeI (fun W hW => hW.2.2.1)), ⟨Vs.out.blk, Vx.out.blk, Vu.out.blk, Vg.out.blk, Vr.out.blk⟩, ?_⟩
  refine takeH (o := ?o4) 3 (.int .i64 p) ?h4 ?r4
  case h4 => simp only [aT, aS, aZ]; rfl
  refine ⟨_, by simp [Act.put]; rfl, by kernel_rfl, by kernel_rfl, by kernel_rfl, fun _ _ _ h => h, (.inl ⟨rfl, fun W _ => by kernel_rfl⟩), ⟨Vs.out.blk, Vx.out.blk, Vu.out.blk, Vg.out.blk, Vr.out.blk⟩, ?_⟩
  refine onlyH (o := ?o5) 4 (by kernel_rfl) ?h5 ?r5
  case h5 => simp only [aT, aS, aZ]; rfl
  intro K hK
  refine op_callS2 18 _ _ _ Tryz.f18 (fun v w' => ∃ b l c, v = .agg #[.int .i64 y.epoch, .int .i64 y.granted, .slice b l c, .int .i64 y.merged, .int .i64 y.last] ∧ Below w13.heap.size w13 w') rfl rfl Tryz.func18 (by kernel_rfl) (by kernel_rfl) ((seGrantSpec_any _ u p Fu w13 Vu.out.rd (by have := Vu.out.len; omega)).mono (by intro e w' hh; rw [Hy.out] at hh; obtain ⟨zv, G, rfl, ⟨b, l, c, rfl, _⟩, _, hb⟩ := hh; exact ⟨_, rfl, b, l, c, rfl, hb⟩)) ?_
  rintro v w14 ⟨bb, ll, cc, rfl, hb⟩
  have BEL : Hid (Below w.heap.size w w14) := Below.next BEL.out hb
  have Vs : Hid (VarQ gs s p1 n1 k1 F 8 w14) := Vs.out.below hb
  have Vx : Hid (VarQ gx x px nx kx Fx 9 w14) := Vx.out.below hb
  have Vy : Hid (VarQ gy x py ny ky Fy 9 w14) := Vy.out.below hb
  have Vu : Hid (VarQ gu u pu nu ku Fu 8 w14) := Vu.out.below hb
  have Vg : Hid (VarQ gg y pg ng kg Fg 8 w14) := Vg.out.below hb
  have Vr : Hid (VarQ gr q pr nr kr Fr 8 w14) := Vr.out.below hb
  clear hb
  refine ⟨_, by simp [Act.put]; rfl, hK _ _ ⟨⟨Vs.out.blk, Vx.out.blk, Vu.out.blk, Vg.out.blk, Vr.out.blk⟩, ?_⟩⟩
  clear hK
  refine takeH (o := ?o6) 5 (.int .i64 y.granted) ?h6 ?r6
  case h6 => simp only [aT, aS, aZ]; rfl
  refine ⟨_, by simp [Act.put]; rfl, by kernel_rfl, by kernel_rfl, by kernel_rfl, fun _ _ _ h => h, (.inl ⟨rfl, fun W _ => by kernel_rfl⟩), ⟨Vs.out.blk, Vx.out.blk, Vu.out.blk, Vg.out.blk, Vr.out.blk⟩, ?_⟩
  refine takeH (o := ?o7) 6 (.bool false) ?h7 ?r7
  case h7 => simp only [aT, aS, aZ]; rfl
  refine ⟨_, by simp [Act.put]; rfl, by kernel_rfl, by kernel_rfl, by kernel_rfl, fun _ _ _ h => h, (.inl ⟨rfl, fun W _ => by go_simp⟩), ⟨Vs.out.blk, Vx.out.blk, Vu.out.blk, Vg.out.blk, Vr.out.blk⟩, ?_⟩
  refine takeH (o := ?o8) 7 (.bool false) ?h8 ?r8
  case h8 => simp only [aT, aS, aZ]; rfl
  refine ⟨_, by simp [Act.put]; rfl, by kernel_rfl, by kernel_rfl, by kernel_rfl, fun _ _ _ h => h, (.inl ⟨rfl, fun W _ => by kernel_rfl⟩), ⟨Vs.out.blk, Vx.out.blk, Vu.out.blk, Vg.out.blk, Vr.out.blk⟩, ?_⟩
  refine takeH (o := ?o9) 8 (.pointer (some ⟨gr, 1, none⟩)) ?h9 ?r9
  case h9 => simp only [aT, aS, aZ]; rfl
  refine ⟨_, by simp [Act.put]; rfl, by kernel_rfl, by kernel_rfl, by kernel_rfl, fun _ _ _ h => h, (.inl ⟨rfl, fun W _ => by kernel_rfl⟩), ⟨Vs.out.blk, Vx.out.blk, Vu.out.blk, Vg.out.blk, Vr.out.blk⟩, ?_⟩
  refine takeH (o := ?o10) 9 (.int .i64 q.granted) ?h10 ?r10
  case h10 => simp only [aT, aS, aZ]; rfl
  refine ⟨_, by simp [Act.put]; rfl, by kernel_rfl, by kernel_rfl, by kernel_rfl, fun _ _ _ h => h, (.inl ⟨rfl, fun W hW => by have c := hW.2.2.2.2.cell 1; simp only [aT, aS, aZ] at c; go_simp⟩), ⟨Vs.out.blk, Vx.out.blk, Vu.out.blk, Vg.out.blk, Vr.out.blk⟩, ?_⟩
  refine takeH (o := ?o11) 10 (.agg #[.int .i64 u.epoch, .int .i64 u.granted, .slice pu nu ku, .int .i64 u.merged, .int .i64 u.last]) ?h11 ?r11
  case h11 => simp only [aT, aS, aZ]; rfl
  refine ⟨_, by simp [Act.put]; rfl, by kernel_rfl, by kernel_rfl, by kernel_rfl, fun _ _ _ h => h, (yields_whole 45 _ #[.int .i64 u.epoch, .int .i64 u.granted, .slice pu nu ku, .int .i64 u.merged, .int .i64 u.last] 45 _ rfl rfl rfl Tryz.underlying45 rfl infoSeI (fun W hW => hW.2.2.1)), ⟨Vs.out.blk, Vx.out.blk, Vu.out.blk, Vg.out.blk, Vr.out.blk⟩, ?_⟩
  refine takeH (o := ?o12) 11 (.int .i64 p) ?h12 ?r12
  case h12 => simp only [aT, aS, aZ]; rfl
  refine ⟨_, by simp [Act.put]; rfl, by kernel_rfl, by kernel_rfl, by kernel_rfl, fun _ _ _ h => h, (.inl ⟨rfl, fun W _ => by kernel_rfl⟩), ⟨Vs.out.blk, Vx.out.blk, Vu.out.blk, Vg.out.blk, Vr.out.blk⟩, ?_⟩
  refine onlyH (o := ?o13) 12 (by kernel_rfl) ?h13 ?r13
  case h13 => simp only [aT, aS, aZ]; rfl
  intro K hK
  refine op_callS2 19 _ _ _ Tryz.f19 (fun v w' => ∃ b l c, v = .agg #[.int .i64 q.epoch, .int .i64 q.granted, .slice b l c, .int .i64 q.merged, .int .i64 q.last] ∧ Below w14.heap.size w14 w') rfl rfl Tryz.func19 (by kernel_rfl) (by kernel_rfl) ((seReclaimSpec_any _ u p Fu w14 Vu.out.rd (by have := Vu.out.len; omega)).mono (by intro e w' hh; rw [Hq.out] at hh; obtain ⟨zv, G, rfl, ⟨b, l, c, rfl, _⟩, _, hb⟩ := hh; exact ⟨_, rfl, b, l, c, rfl, hb⟩)) ?_
  rintro v w15 ⟨bb, ll, cc, rfl, hb⟩
  have BEL : Hid (Below w.heap.size w w15) := Below.next BEL.out hb
  have Vs : Hid (VarQ gs s p1 n1 k1 F 8 w15) := Vs.out.below hb
  have Vx : Hid (VarQ gx x px nx kx Fx 9 w15) := Vx.out.below hb
  have Vy : Hid (VarQ gy x py ny ky Fy 9 w15) := Vy.out.below hb
  have Vu : Hid (VarQ gu u pu nu ku Fu 8 w15) := Vu.out.below hb
  have Vg : Hid (VarQ gg y pg ng kg Fg 8 w15) := Vg.out.below hb
  have Vr : Hid (VarQ gr q pr nr kr Fr 8 w15) := Vr.out.below hb
  clear hb
  refine ⟨_, by simp [Act.put]; rfl, hK _ _ ⟨⟨Vs.out.blk, Vx.out.blk, Vu.out.blk, Vg.out.blk, Vr.out.blk⟩, ?_⟩⟩
  clear hK
  refine takeH (o := ?o14) 13 (.int .i64 q.granted) ?h14 ?r14
  case h14 => simp only [aT, aS, aZ]; rfl
  refine ⟨_, by simp [Act.put]; rfl, by kernel_rfl, by kernel_rfl, by kernel_rfl, fun _ _ _ h => h, (.inl ⟨rfl, fun W _ => by kernel_rfl⟩), ⟨Vs.out.blk, Vx.out.blk, Vu.out.blk, Vg.out.blk, Vr.out.blk⟩, ?_⟩
  refine takeH (o := ?o15) 14 (.bool false) ?h15 ?r15
  case h15 => simp only [aT, aS, aZ]; rfl
  refine ⟨_, by simp [Act.put]; rfl, by kernel_rfl, by kernel_rfl, by kernel_rfl, fun _ _ _ h => h, (.inl ⟨rfl, fun W _ => by go_simp⟩), ⟨Vs.out.blk, Vx.out.blk, Vu.out.blk, Vg.out.blk, Vr.out.blk⟩, ?_⟩
  refine takeH (o := ?o16) 15 (.bool false) ?h16 ?r16
  case h16 => simp only [aT, aS, aZ]; rfl
  refine ⟨_, by simp [Act.put]; rfl, by kernel_rfl, by kernel_rfl, by kernel_rfl, fun _ _ _ h => h, (.inl ⟨rfl, fun W _ => by kernel_rfl⟩), ⟨Vs.out.blk, Vx.out.blk, Vu.out.blk, Vg.out.blk, Vr.out.blk⟩, ?_⟩
  refine wpAnyH_done (by kernel_rfl) ?_ _
  go_wp2_with fail
  obtain ⟨w16, hY⟩ : ∃ Y, Y = w15.drew := ⟨_, rfl⟩
  have bd := (Below.refl w15.heap.size w15).drew
  rw [← hY] at bd
  have BEL : Hid (Below w.heap.size w w16) := Below.next BEL.out bd
  have Vs : Hid (VarQ gs s p1 n1 k1 F 8 w16) := Vs.out.below bd
  have Vx : Hid (VarQ gx x px nx kx Fx 9 w16) := Vx.out.below bd
  have Vy : Hid (VarQ gy x py ny ky Fy 9 w16) := Vy.out.below bd
  have Vu : Hid (VarQ gu u pu nu ku Fu 8 w16) := Vu.out.below bd
  have Vg : Hid (VarQ gg y pg ng kg Fg 8 w16) := Vg.out.below bd
  have Vr : Hid (VarQ gr q pr nr kr Fr 8 w16) := Vr.out.below bd
  clear bd
  refine wp_region_held (S := fun W => Blk W gs #[.int .i64 s.epoch, .int .i64 s.granted, .slice p1 n1 k1, .int .i64 s.merged, .int .i64 s.last] 45 ∧ Blk W gx #[.int .i64 x.epoch, .int .i64 x.granted, .slice px nx kx, .int .i64 x.merged, .int .i64 x.last] 45 ∧ Blk W gu #[.int .i64 u.epoch, .int .i64 u.granted, .slice pu nu ku, .int .i64 u.merged, .int .i64 u.last] 45 ∧ Blk W gg #[.int .i64 y.epoch, .int .i64 y.granted, .slice pg ng kg, .int .i64 y.merged, .int .i64 y.last] 45 ∧ Blk W gr #[.int .i64 q.epoch, .int .i64 q.granted, .slice pr nr kr, .int .i64 q.merged, .int .i64 q.last] 45) (by kernel_rfl) ?_
  change wpAnyH _ _ _ _ _ _ _ _ (World.drew _)
  rw [← hY]
  clear hY
  refine takeH (o := ?o17) 0 (.agg #[.int .i64 u.epoch, .int .i64 u.granted, .slice pu nu ku, .int .i64 u.merged, .int .i64 u.last]) ?h17 ?r17
  case h17 => simp only [aT, aZ]; rfl
  refine ⟨_, by simp [Act.put]; rfl, by kernel_rfl, by kernel_rfl, by kernel_rfl, fun _ _ _ h => h, (yields_whole 45 _ #[.int .i64 u.epoch, .int .i64 u.granted, .slice pu nu ku, .int .i64 u.merged, .int .i64 u.last] 45 _ rfl rfl rfl Tryz.underlying45 rfl infoSeI (fun W hW => hW.2.2.1)), ⟨Vs.out.blk, Vx.out.blk, Vu.out.blk, Vg.out.blk, Vr.out.blk⟩, ?_⟩
  refine takeH (o := ?o18) 1 (.int .i64 p) ?h18 ?r18
  case h18 => simp only [aT, aS, aZ]; rfl
  refine ⟨_, by simp [Act.put]; rfl, by kernel_rfl, by kernel_rfl, by kernel_rfl, fun _ _ _ h => h, (.inl ⟨rfl, fun W _ => by kernel_rfl⟩), ⟨Vs.out.blk, Vx.out.blk, Vu.out.blk, Vg.out.blk, Vr.out.blk⟩, ?_⟩
  obtain ⟨dk, hdk⟩ : ∃ d, d = u.ok p := ⟨_, rfl⟩
  have HDK : Hid (dk = u.ok p) := hdk
  refine onlyH (o := ?o19) 2 (by kernel_rfl) ?h19 ?r19
  case h19 => simp only [aT, aS, aZ]; rfl
  intro K hK
  refine op_callS2 20 _ _ _ Tryz.f20 (fun v w' => v = .bool dk ∧ Below w16.heap.size w16 w') rfl rfl Tryz.func20 (by kernel_rfl) (by kernel_rfl) ((seOkSpec_any _ u p Fu w16 Vu.out.rd (by have := Vu.out.len; omega)).mono (by rintro e w' ⟨rfl, hb⟩; exact ⟨_, rfl, by rw [hdk], hb⟩)) ?_
  rintro v w17 ⟨rfl, hb⟩
  have BEL : Hid (Below w.heap.size w w17) := Below.next BEL.out hb
  have Vs : Hid (VarQ gs s p1 n1 k1 F 8 w17) := Vs.out.below hb
  have Vx : Hid (VarQ gx x px nx kx Fx 9 w17) := Vx.out.below hb
  have Vy : Hid (VarQ gy x py ny ky Fy 9 w17) := Vy.out.below hb
  have Vu : Hid (VarQ gu u pu nu ku Fu 8 w17) := Vu.out.below hb
  have Vg : Hid (VarQ gg y pg ng kg Fg 8 w17) := Vg.out.below hb
  have Vr : Hid (VarQ gr q pr nr kr Fr 8 w17) := Vr.out.below hb
  clear hb
  refine ⟨_, by simp [Act.put]; rfl, hK _ _ ⟨⟨Vs.out.blk, Vx.out.blk, Vu.out.blk, Vg.out.blk, Vr.out.blk⟩, ?_⟩⟩
  clear hK
  clear hdk
  cases dk
  · refine takeH (o := ?o20) 3 (.bool false) ?h20 ?r20
    case h20 => simp only [aT, aS, aZ]; rfl
    refine ⟨_, by simp [Act.put]; rfl, by kernel_rfl, by kernel_rfl, by kernel_rfl, fun _ _ _ h => h, (.inl ⟨rfl, fun W _ => by kernel_rfl⟩), ⟨Vs.out.blk, Vx.out.blk, Vu.out.blk, Vg.out.blk, Vr.out.blk⟩, ?_⟩
    refine takeH (o := ?o21) 4 (undef) ?h21 ?r21
    case h21 => simp only [aT, aS, aZ]; rfl
    refine ⟨_, by simp [Act.put]; rfl, by kernel_rfl, by kernel_rfl, by kernel_rfl, fun _ _ _ h => h, (.inr ⟨rfl, rfl⟩), ⟨Vs.out.blk, Vx.out.blk, Vu.out.blk, Vg.out.blk, Vr.out.blk⟩, ?_⟩
    refine takeH (o := ?o22) 5 (undef) ?h22 ?r22
    case h22 => simp only [aT, aS, aZ]; rfl
    refine ⟨_, by simp [Act.put]; rfl, by kernel_rfl, by kernel_rfl, by kernel_rfl, fun _ _ _ h => h, (.inr ⟨rfl, rfl⟩), ⟨Vs.out.blk, Vx.out.blk, Vu.out.blk, Vg.out.blk, Vr.out.blk⟩, ?_⟩
    refine takeH (o := ?o23) 6 (undef) ?h23 ?r23
    case h23 => simp only [aT, aS, aZ]; rfl
    refine ⟨_, by simp [Act.put]; rfl, by kernel_rfl, by kernel_rfl, by kernel_rfl, fun _ _ _ h => h, (.inr ⟨rfl, rfl⟩), ⟨Vs.out.blk, Vx.out.blk, Vu.out.blk, Vg.out.blk, Vr.out.blk⟩, ?_⟩
    refine takeH (o := ?o24) 7 (undef) ?h24 ?r24
    case h24 => simp only [aT, aS, aZ]; rfl
    refine ⟨_, by simp [Act.put]; rfl, by kernel_rfl, by kernel_rfl, by kernel_rfl, fun _ _ _ h => h, (.inr ⟨rfl, rfl⟩), ⟨Vs.out.blk, Vx.out.blk, Vu.out.blk, Vg.out.blk, Vr.out.blk⟩, ?_⟩
    refine takeH (o := ?o25) 8 (undef) ?h25 ?r25
    case h25 => simp only [aT, aS, aZ]; rfl
    refine ⟨_, by simp [Act.put]; rfl, by kernel_rfl, by kernel_rfl, by kernel_rfl, fun _ _ _ h => h, (.inr ⟨rfl, rfl⟩), ⟨Vs.out.blk, Vx.out.blk, Vu.out.blk, Vg.out.blk, Vr.out.blk⟩, ?_⟩
    refine takeH (o := ?o26) 9 (undef) ?h26 ?r26
    case h26 => simp only [aT, aS, aZ]; rfl
    refine ⟨_, by simp [Act.put]; rfl, by kernel_rfl, by kernel_rfl, by kernel_rfl, fun _ _ _ h => h, (.inr ⟨rfl, rfl⟩), ⟨Vs.out.blk, Vx.out.blk, Vu.out.blk, Vg.out.blk, Vr.out.blk⟩, ?_⟩
    refine takeH (o := ?o27) 10 (undef) ?h27 ?r27
    case h27 => simp only [aT, aS, aZ]; rfl
    refine ⟨_, by simp [Act.put]; rfl, by kernel_rfl, by kernel_rfl, by kernel_rfl, fun _ _ _ h => h, (.inr ⟨rfl, rfl⟩), ⟨Vs.out.blk, Vx.out.blk, Vu.out.blk, Vg.out.blk, Vr.out.blk⟩, ?_⟩
    refine takeH (o := ?o28) 11 (undef) ?h28 ?r28
    case h28 => simp only [aT, aS, aZ]; rfl
    refine ⟨_, by simp [Act.put]; rfl, by kernel_rfl, by kernel_rfl, by kernel_rfl, fun _ _ _ h => h, (.inr ⟨rfl, rfl⟩), ⟨Vs.out.blk, Vx.out.blk, Vu.out.blk, Vg.out.blk, Vr.out.blk⟩, ?_⟩
    refine takeH (o := ?o29) 12 (undef) ?h29 ?r29
    case h29 => simp only [aT, aS, aZ]; rfl
    refine ⟨_, by simp [Act.put]; rfl, by kernel_rfl, by kernel_rfl, by kernel_rfl, fun _ _ _ h => h, (.inr ⟨rfl, rfl⟩), ⟨Vs.out.blk, Vx.out.blk, Vu.out.blk, Vg.out.blk, Vr.out.blk⟩, ?_⟩
    refine takeH (o := ?o30) 13 (undef) ?h30 ?r30
    case h30 => simp only [aT, aS, aZ]; rfl
    refine ⟨_, by simp [Act.put]; rfl, by kernel_rfl, by kernel_rfl, by kernel_rfl, fun _ _ _ h => h, (.inr ⟨rfl, rfl⟩), ⟨Vs.out.blk, Vx.out.blk, Vu.out.blk, Vg.out.blk, Vr.out.blk⟩, ?_⟩
    refine takeH (o := ?o31) 14 (undef) ?h31 ?r31
    case h31 => simp only [aT, aS, aZ]; rfl
    refine ⟨_, by simp [Act.put]; rfl, by kernel_rfl, by kernel_rfl, by kernel_rfl, fun _ _ _ h => h, (.inr ⟨rfl, rfl⟩), ⟨Vs.out.blk, Vx.out.blk, Vu.out.blk, Vg.out.blk, Vr.out.blk⟩, ?_⟩
    refine takeH (o := ?o32) 15 (undef) ?h32 ?r32
    case h32 => simp only [aT, aS, aZ]; rfl
    refine ⟨_, by simp [Act.put]; rfl, by kernel_rfl, by kernel_rfl, by kernel_rfl, fun _ _ _ h => h, (.inr ⟨rfl, rfl⟩), ⟨Vs.out.blk, Vx.out.blk, Vu.out.blk, Vg.out.blk, Vr.out.blk⟩, ?_⟩
    refine takeH (o := ?o33) 16 (undef) ?h33 ?r33
    case h33 => simp only [aT, aS, aZ]; rfl
    refine ⟨_, by simp [Act.put]; rfl, by kernel_rfl, by kernel_rfl, by kernel_rfl, fun _ _ _ h => h, (.inr ⟨rfl, rfl⟩), ⟨Vs.out.blk, Vx.out.blk, Vu.out.blk, Vg.out.blk, Vr.out.blk⟩, ?_⟩
    refine takeH (o := ?o34) 17 (undef) ?h34 ?r34
    case h34 => simp only [aT, aS, aZ]; rfl
    refine ⟨_, by simp [Act.put]; rfl, by kernel_rfl, by kernel_rfl, by kernel_rfl, fun _ _ _ h => h, (.inr ⟨rfl, rfl⟩), ⟨Vs.out.blk, Vx.out.blk, Vu.out.blk, Vg.out.blk, Vr.out.blk⟩, ?_⟩
    refine takeH (o := ?o35) 18 (undef) ?h35 ?r35
    case h35 => simp only [aT, aS, aZ]; rfl
    refine ⟨_, by simp [Act.put]; rfl, by kernel_rfl, by kernel_rfl, by kernel_rfl, fun _ _ _ h => h, (.inr ⟨rfl, rfl⟩), ⟨Vs.out.blk, Vx.out.blk, Vu.out.blk, Vg.out.blk, Vr.out.blk⟩, ?_⟩
    refine takeH (o := ?o36) 19 (undef) ?h36 ?r36
    case h36 => simp only [aT, aS, aZ]; rfl
    refine ⟨_, by simp [Act.put]; rfl, by kernel_rfl, by kernel_rfl, by kernel_rfl, fun _ _ _ h => h, (.inr ⟨rfl, rfl⟩), ⟨Vs.out.blk, Vx.out.blk, Vu.out.blk, Vg.out.blk, Vr.out.blk⟩, ?_⟩
    refine takeH (o := ?o37) 20 (undef) ?h37 ?r37
    case h37 => simp only [aT, aS, aZ]; rfl
    refine ⟨_, by simp [Act.put]; rfl, by kernel_rfl, by kernel_rfl, by kernel_rfl, fun _ _ _ h => h, (.inr ⟨rfl, rfl⟩), ⟨Vs.out.blk, Vx.out.blk, Vu.out.blk, Vg.out.blk, Vr.out.blk⟩, ?_⟩
    refine takeH (o := ?o38) 21 (undef) ?h38 ?r38
    case h38 => simp only [aT, aS, aZ]; rfl
    refine ⟨_, by simp [Act.put]; rfl, by kernel_rfl, by kernel_rfl, by kernel_rfl, fun _ _ _ h => h, (.inr ⟨rfl, rfl⟩), ⟨Vs.out.blk, Vx.out.blk, Vu.out.blk, Vg.out.blk, Vr.out.blk⟩, ?_⟩
    refine takeH (o := ?o39) 22 (undef) ?h39 ?r39
    case h39 => simp only [aT, aS, aZ]; rfl
    refine ⟨_, by simp [Act.put]; rfl, by kernel_rfl, by kernel_rfl, by kernel_rfl, fun _ _ _ h => h, (.inr ⟨rfl, rfl⟩), ⟨Vs.out.blk, Vx.out.blk, Vu.out.blk, Vg.out.blk, Vr.out.blk⟩, ?_⟩
    refine takeH (o := ?o40) 23 (undef) ?h40 ?r40
    case h40 => simp only [aT, aS, aZ]; rfl
    refine ⟨_, by simp [Act.put]; rfl, by kernel_rfl, by kernel_rfl, by kernel_rfl, fun _ _ _ h => h, (.inr ⟨rfl, rfl⟩), ⟨Vs.out.blk, Vx.out.blk, Vu.out.blk, Vg.out.blk, Vr.out.blk⟩, ?_⟩
    refine takeH (o := ?o41) 24 (undef) ?h41 ?r41
    case h41 => simp only [aT, aS, aZ]; rfl
    refine ⟨_, by simp [Act.put]; rfl, by kernel_rfl, by kernel_rfl, by kernel_rfl, fun _ _ _ h => h, (.inr ⟨rfl, rfl⟩), ⟨Vs.out.blk, Vx.out.blk, Vu.out.blk, Vg.out.blk, Vr.out.blk⟩, ?_⟩
    refine takeH (o := ?o42) 25 (undef) ?h42 ?r42
    case h42 => simp only [aT, aS, aZ]; rfl
    refine ⟨_, by simp [Act.put]; rfl, by kernel_rfl, by kernel_rfl, by kernel_rfl, fun _ _ _ h => h, (.inr ⟨rfl, rfl⟩), ⟨Vs.out.blk, Vx.out.blk, Vu.out.blk, Vg.out.blk, Vr.out.blk⟩, ?_⟩
    refine takeH (o := ?o43) 26 (undef) ?h43 ?r43
    case h43 => simp only [aT, aS, aZ]; rfl
    refine ⟨_, by simp [Act.put]; rfl, by kernel_rfl, by kernel_rfl, by kernel_rfl, fun _ _ _ h => h, (.inr ⟨rfl, rfl⟩), ⟨Vs.out.blk, Vx.out.blk, Vu.out.blk, Vg.out.blk, Vr.out.blk⟩, ?_⟩
    refine takeH (o := ?o44) 27 (undef) ?h44 ?r44
    case h44 => simp only [aT, aS, aZ]; rfl
    refine ⟨_, by simp [Act.put]; rfl, by kernel_rfl, by kernel_rfl, by kernel_rfl, fun _ _ _ h => h, (.inr ⟨rfl, rfl⟩), ⟨Vs.out.blk, Vx.out.blk, Vu.out.blk, Vg.out.blk, Vr.out.blk⟩, ?_⟩
    refine takeH (o := ?o45) 28 (undef) ?h45 ?r45
    case h45 => simp only [aT, aS, aZ]; rfl
    refine ⟨_, by simp [Act.put]; rfl, by kernel_rfl, by kernel_rfl, by kernel_rfl, fun _ _ _ h => h, (.inr ⟨rfl, rfl⟩), ⟨Vs.out.blk, Vx.out.blk, Vu.out.blk, Vg.out.blk, Vr.out.blk⟩, ?_⟩
    refine takeH (o := ?o46) 29 (undef) ?h46 ?r46
    case h46 => simp only [aT, aS, aZ]; rfl
    refine ⟨_, by simp [Act.put]; rfl, by kernel_rfl, by kernel_rfl, by kernel_rfl, fun _ _ _ h => h, (.inr ⟨rfl, rfl⟩), ⟨Vs.out.blk, Vx.out.blk, Vu.out.blk, Vg.out.blk, Vr.out.blk⟩, ?_⟩
    refine takeH (o := ?o47) 30 (undef) ?h47 ?r47
    case h47 => simp only [aT, aS, aZ]; rfl
    refine ⟨_, by simp [Act.put]; rfl, by kernel_rfl, by kernel_rfl, by kernel_rfl, fun _ _ _ h => h, (.inr ⟨rfl, rfl⟩), ⟨Vs.out.blk, Vx.out.blk, Vu.out.blk, Vg.out.blk, Vr.out.blk⟩, ?_⟩
    refine takeH (o := ?o48) 31 (undef) ?h48 ?r48
    case h48 => simp only [aT, aS, aZ]; rfl
    refine ⟨_, by simp [Act.put]; rfl, by kernel_rfl, by kernel_rfl, by kernel_rfl, fun _ _ _ h => h, (.inr ⟨rfl, rfl⟩), ⟨Vs.out.blk, Vx.out.blk, Vu.out.blk, Vg.out.blk, Vr.out.blk⟩, ?_⟩
    refine takeH (o := ?o49) 32 (undef) ?h49 ?r49
    case h49 => simp only [aT, aS, aZ]; rfl
    refine ⟨_, by simp [Act.put]; rfl, by kernel_rfl, by kernel_rfl, by kernel_rfl, fun _ _ _ h => h, (.inr ⟨rfl, rfl⟩), ⟨Vs.out.blk, Vx.out.blk, Vu.out.blk, Vg.out.blk, Vr.out.blk⟩, ?_⟩
    refine takeH (o := ?o50) 33 (undef) ?h50 ?r50
    case h50 => simp only [aT, aS, aZ]; rfl
    refine ⟨_, by simp [Act.put]; rfl, by kernel_rfl, by kernel_rfl, by kernel_rfl, fun _ _ _ h => h, (.inr ⟨rfl, rfl⟩), ⟨Vs.out.blk, Vx.out.blk, Vu.out.blk, Vg.out.blk, Vr.out.blk⟩, ?_⟩
    refine takeH (o := ?o51) 34 (undef) ?h51 ?r51
    case h51 => simp only [aT, aS, aZ]; rfl
    refine ⟨_, by simp [Act.put]; rfl, by kernel_rfl, by kernel_rfl, by kernel_rfl, fun _ _ _ h => h, (.inr ⟨rfl, rfl⟩), ⟨Vs.out.blk, Vx.out.blk, Vu.out.blk, Vg.out.blk, Vr.out.blk⟩, ?_⟩
    refine takeH (o := ?o52) 35 (undef) ?h52 ?r52
    case h52 => simp only [aT, aS, aZ]; rfl
    refine ⟨_, by simp [Act.put]; rfl, by kernel_rfl, by kernel_rfl, by kernel_rfl, fun _ _ _ h => h, (.inr ⟨rfl, rfl⟩), ⟨Vs.out.blk, Vx.out.blk, Vu.out.blk, Vg.out.blk, Vr.out.blk⟩, ?_⟩
    refine takeH (o := ?o53) 36 (undef) ?h53 ?r53
    case h53 => simp only [aT, aS, aZ]; rfl
    refine ⟨_, by simp [Act.put]; rfl, by kernel_rfl, by kernel_rfl, by kernel_rfl, fun _ _ _ h => h, (.inr ⟨rfl, rfl⟩), ⟨Vs.out.blk, Vx.out.blk, Vu.out.blk, Vg.out.blk, Vr.out.blk⟩, ?_⟩
    refine takeH (o := ?o54) 37 (undef) ?h54 ?r54
    case h54 => simp only [aT, aS, aZ]; rfl
    refine ⟨_, by simp [Act.put]; rfl, by kernel_rfl, by kernel_rfl, by kernel_rfl, fun _ _ _ h => h, (.inr ⟨rfl, rfl⟩), ⟨Vs.out.blk, Vx.out.blk, Vu.out.blk, Vg.out.blk, Vr.out.blk⟩, ?_⟩
    refine takeH (o := ?o55) 38 (undef) ?h55 ?r55
    case h55 => simp only [aT, aS, aZ]; rfl
    refine ⟨_, by simp [Act.put]; rfl, by kernel_rfl, by kernel_rfl, by kernel_rfl, fun _ _ _ h => h, (.inr ⟨rfl, rfl⟩), ⟨Vs.out.blk, Vx.out.blk, Vu.out.blk, Vg.out.blk, Vr.out.blk⟩, ?_⟩
    refine takeH (o := ?o56) 39 (undef) ?h56 ?r56
    case h56 => simp only [aT, aS, aZ]; rfl
    refine ⟨_, by simp [Act.put]; rfl, by kernel_rfl, by kernel_rfl, by kernel_rfl, fun _ _ _ h => h, (.inr ⟨rfl, rfl⟩), ⟨Vs.out.blk, Vx.out.blk, Vu.out.blk, Vg.out.blk, Vr.out.blk⟩, ?_⟩
    refine takeH (o := ?o57) 40 (undef) ?h57 ?r57
    case h57 => simp only [aT, aS, aZ]; rfl
    refine ⟨_, by simp [Act.put]; rfl, by kernel_rfl, by kernel_rfl, by kernel_rfl, fun _ _ _ h => h, (.inr ⟨rfl, rfl⟩), ⟨Vs.out.blk, Vx.out.blk, Vu.out.blk, Vg.out.blk, Vr.out.blk⟩, ?_⟩
    refine takeH (o := ?o58) 41 (undef) ?h58 ?r58
    case h58 => simp only [aT, aS, aZ]; rfl
    refine ⟨_, by simp [Act.put]; rfl, by kernel_rfl, by kernel_rfl, by kernel_rfl, fun _ _ _ h => h, (.inr ⟨rfl, rfl⟩), ⟨Vs.out.blk, Vx.out.blk, Vu.out.blk, Vg.out.blk, Vr.out.blk⟩, ?_⟩
    refine takeH (o := ?o59) 42 (undef) ?h59 ?r59
    case h59 => simp only [aT, aS, aZ]; rfl
    refine ⟨_, by simp [Act.put]; rfl, by kernel_rfl, by kernel_rfl, by kernel_rfl, fun _ _ _ h => h, (.inr ⟨rfl, rfl⟩), ⟨Vs.out.blk, Vx.out.blk, Vu.out.blk, Vg.out.blk, Vr.out.blk⟩, ?_⟩
    refine takeH (o := ?o60) 43 (.bool false) ?h60 ?r60
    case h60 => simp only [aT, aS, aZ]; rfl
    refine ⟨_, by simp [Act.put]; rfl, by kernel_rfl, by kernel_rfl, by kernel_rfl, fun _ _ _ h => h, (.inl ⟨rfl, fun W _ => by kernel_rfl⟩), ⟨Vs.out.blk, Vx.out.blk, Vu.out.blk, Vg.out.blk, Vr.out.blk⟩, ?_⟩
    refine wpAnyH_done (by kernel_rfl) ?_ _
    by_cases hcd : cd = 0
    rotate_left
    · have hc1 : (cd != 0) = true := by simpa using hcd
      have HXS : Hid (x.taken = s.taken) := by
        have q := HZ.out
        show x.taken = s.taken
        rcases Se.data_cases s per ep sq with e | e
        · rw [q] at e; exact e
        · rw [q] at e; exact absurd e hcd
      clear hcd
      go_wp2_with fail
      obtain ⟨w18, hY⟩ : ∃ Y, Y = w17.drew := ⟨_, rfl⟩
      have bd := (Below.refl w17.heap.size w17).drew
      rw [← hY] at bd
      have BEL : Hid (Below w.heap.size w w18) := Below.next BEL.out bd
      have Vs : Hid (VarQ gs s p1 n1 k1 F 8 w18) := Vs.out.below bd
      have Vx : Hid (VarQ gx x px nx kx Fx 9 w18) := Vx.out.below bd
      have Vy : Hid (VarQ gy x py ny ky Fy 9 w18) := Vy.out.below bd
      have Vu : Hid (VarQ gu u pu nu ku Fu 8 w18) := Vu.out.below bd
      have Vg : Hid (VarQ gg y pg ng kg Fg 8 w18) := Vg.out.below bd
      have Vr : Hid (VarQ gr q pr nr kr Fr 8 w18) := Vr.out.below bd
      clear bd
      refine wp_region_held (S := fun W => Blk W gs #[.int .i64 s.epoch, .int .i64 s.granted, .slice p1 n1 k1, .int .i64 s.merged, .int .i64 s.last] 45 ∧ Blk W gx #[.int .i64 x.epoch, .int .i64 x.granted, .slice px nx kx, .int .i64 x.merged, .int .i64 x.last] 45 ∧ Blk W gu #[.int .i64 u.epoch, .int .i64 u.granted, .slice pu nu ku, .int .i64 u.merged, .int .i64 u.last] 45 ∧ Blk W gg #[.int .i64 y.epoch, .int .i64 y.granted, .slice pg ng kg, .int .i64 y.merged, .int .i64 y.last] 45 ∧ Blk W gr #[.int .i64 q.epoch, .int .i64 q.granted, .slice pr nr kr, .int .i64 q.merged, .int .i64 q.last] 45) (by kernel_rfl) ?_
      change wpAnyH _ _ _ _ _ _ _ _ (World.drew _)
      rw [← hY]
      clear hY
      refine takeH (o := ?o61) 0 (.pointer (some ⟨gx, 2, none⟩)) ?h61 ?r61
      case h61 => simp only [aT, aZ]; rfl
      refine ⟨_, by simp [Act.put]; rfl, by kernel_rfl, by kernel_rfl, by kernel_rfl, fun _ _ _ h => h, (.inl ⟨rfl, fun W _ => by kernel_rfl⟩), ⟨Vs.out.blk, Vx.out.blk, Vu.out.blk, Vg.out.blk, Vr.out.blk⟩, ?_⟩
      refine takeH (o := ?o62) 1 (.slice px nx kx) ?h62 ?r62
      case h62 => simp only [aT, aS, aZ]; rfl
      refine ⟨_, by simp [Act.put]; rfl, by kernel_rfl, by kernel_rfl, by kernel_rfl, fun _ _ _ h => h, (.inl ⟨rfl, fun W hW => by have c := hW.2.1.cell 2; simp only [aT, aS, aZ] at c; go_simp⟩), ⟨Vs.out.blk, Vx.out.blk, Vu.out.blk, Vg.out.blk, Vr.out.blk⟩, ?_⟩
      refine takeH (o := ?o63) 3 (.pointer (some ⟨gs, 2, none⟩)) ?h63 ?r63
      case h63 => simp only [aT, aS, aZ]; rfl
      refine ⟨_, by simp [Act.put]; rfl, by kernel_rfl, by kernel_rfl, by kernel_rfl, fun _ _ _ h => h, (.inl ⟨rfl, fun W _ => by kernel_rfl⟩), ⟨Vs.out.blk, Vx.out.blk, Vu.out.blk, Vg.out.blk, Vr.out.blk⟩, ?_⟩
      refine takeH (o := ?o64) 4 (.slice p1 n1 k1) ?h64 ?r64
      case h64 => simp only [aT, aS, aZ]; rfl
      refine ⟨_, by simp [Act.put]; rfl, by kernel_rfl, by kernel_rfl, by kernel_rfl, fun _ _ _ h => h, (.inl ⟨rfl, fun W hW => by have c := hW.1.cell 2; simp only [aT, aS, aZ] at c; go_simp⟩), ⟨Vs.out.blk, Vx.out.blk, Vu.out.blk, Vg.out.blk, Vr.out.blk⟩, ?_⟩
      refine onlyH (o := ?o65) 2 (by kernel_rfl) ?h65 ?r65
      case h65 => simp only [aT, aS, aZ]; rfl
      intro K hK
      refine op_call1 9 _ _ Tryz.f9 (fun v w' => v = .string x.taken.text ∧ Below w18.heap.size w18 w') rfl rfl Tryz.func9 (by kernel_rfl) (by kernel_rfl) ((textImplP_any px nx kx x.taken Fx w18 Vx.out.rp (by have := Vx.out.l; omega) (fit_in64 (HTL.out.2)) gTab (tab_below gTab HTAB.out BEL.out)).mono (by rintro e w' ⟨rfl, hb⟩; exact ⟨_, rfl, rfl, hb⟩)) ?_
      rintro v w19 ⟨rfl, hb⟩
      have BEL : Hid (Below w.heap.size w w19) := Below.next BEL.out hb
      have Vs : Hid (VarQ gs s p1 n1 k1 F 8 w19) := Vs.out.below hb
      have Vx : Hid (VarQ gx x px nx kx Fx 9 w19) := Vx.out.below hb
      have Vy : Hid (VarQ gy x py ny ky Fy 9 w19) := Vy.out.below hb
      have Vu : Hid (VarQ gu u pu nu ku Fu 8 w19) := Vu.out.below hb
      have Vg : Hid (VarQ gg y pg ng kg Fg 8 w19) := Vg.out.below hb
      have Vr : Hid (VarQ gr q pr nr kr Fr 8 w19) := Vr.out.below hb
      clear hb
      refine ⟨_, by simp [Act.put]; rfl, hK _ _ ⟨⟨Vs.out.blk, Vx.out.blk, Vu.out.blk, Vg.out.blk, Vr.out.blk⟩, ?_⟩⟩
      clear hK
      refine onlyH (o := ?o66) 5 (by kernel_rfl) ?h66 ?r66
      case h66 => simp only [aT, aS, aZ]; rfl
      intro K hK
      refine op_call1 9 _ _ Tryz.f9 (fun v w' => v = .string x.taken.text ∧ Below w19.heap.size w19 w') rfl rfl Tryz.func9 (by kernel_rfl) (by kernel_rfl) ((textImplP_any p1 n1 k1 s.taken F w19 Vs.out.rp (by have := Vs.out.l; omega) (fit_in64 (HFS.out)) gTab (tab_below gTab HTAB.out BEL.out)).mono (by rintro e w' ⟨rfl, hb⟩; exact ⟨_, rfl, by rw [HXS.out], hb⟩)) ?_
      rintro v w20 ⟨rfl, hb⟩
      have BEL : Hid (Below w.heap.size w w20) := Below.next BEL.out hb
      have Vs : Hid (VarQ gs s p1 n1 k1 F 8 w20) := Vs.out.below hb
      have Vx : Hid (VarQ gx x px nx kx Fx 9 w20) := Vx.out.below hb
      have Vy : Hid (VarQ gy x py ny ky Fy 9 w20) := Vy.out.below hb
      have Vu : Hid (VarQ gu u pu nu ku Fu 8 w20) := Vu.out.below hb
      have Vg : Hid (VarQ gg y pg ng kg Fg 8 w20) := Vg.out.below hb
      have Vr : Hid (VarQ gr q pr nr kr Fr 8 w20) := Vr.out.below hb
      clear hb
      refine ⟨_, by simp [Act.put]; rfl, hK _ _ ⟨⟨Vs.out.blk, Vx.out.blk, Vu.out.blk, Vg.out.blk, Vr.out.blk⟩, ?_⟩⟩
      clear hK
      refine takeH (o := ?o67) 6 (.bool true) ?h67 ?r67
      case h67 => simp only [aT, aS, aZ]; rfl
      refine ⟨_, by simp [Act.put]; rfl, by kernel_rfl, by kernel_rfl, by kernel_rfl, fun _ _ _ h => h, (.inl ⟨rfl, fun W _ => exec_eqStrS rfl rfl rfl⟩), ⟨Vs.out.blk, Vx.out.blk, Vu.out.blk, Vg.out.blk, Vr.out.blk⟩, ?_⟩
      refine takeH (o := ?o68) 7 (.bool true) ?h68 ?r68
      case h68 => simp only [aT, aS, aZ]; rfl
      refine ⟨_, by simp [Act.put]; rfl, by kernel_rfl, by kernel_rfl, by kernel_rfl, fun _ _ _ h => h, (.inl ⟨rfl, fun W _ => by kernel_rfl⟩), ⟨Vs.out.blk, Vx.out.blk, Vu.out.blk, Vg.out.blk, Vr.out.blk⟩, ?_⟩
      refine wpAnyH_done (by kernel_rfl) ?_ _
      go_wp2
      go_ret
      exact ⟨rfl, BEL.out⟩
    subst hcd
    have HN : Hid (s.ok per = true ∧ (1 ≤ sq ∧ sq ≤ 60) ∧ ep = s.epoch ∧ s.taken.has sq = false ∧ sq ≤ s.granted ∧ x = s.took sq) := Se.data_zero HZ.out
    have HTW : Hid (x.Right per ∧ x.taken.has sq = true ∧ x.taken.size = s.taken.size + 1) := by
      have e := HN.out.2.2.2.2.2
      have h := took_right (Se.right HN.out.1) HN.out.2.1 HN.out.2.2.2.1 HN.out.2.2.2.2.1
      rw [e]
      exact h
    go_wp2_with (first | go_skip | (with_reducible refine stopLoad 45 rfl ?_) | (with_reducible refine stopStore 45 rfl ?_))
    refine load_known 45 gx #[.int .i64 x.epoch, .int .i64 x.granted, .slice px nx kx, .int .i64 x.merged, .int .i64 x.last] 45 _ Vx.out.blk rfl rfl rfl Tryz.underlying45 rfl infoSeI ?_
    obtain ⟨z2, hz2⟩ : ∃ z, z = x.data per ep sq := ⟨_, rfl⟩
    have HZ2 : Hid (x.data per ep sq = z2 ∧ z2.2 = 1) := ⟨hz2.symm, by rw [hz2, Se.data_twice ⟨HTW.out.1.ok, HN.out.2.1⟩ (by have e := HN.out.2.2.2.2.2; rw [e]; exact HN.out.2.2.1) HTW.out.2.1]⟩
    clear hz2
    obtain ⟨x2, c2⟩ := z2
    go_wp2_with fail
    refine (seDataImpl_any _ x per ep sq Fx _ Vx.out.rd (by have := Vx.out.len; omega) (HER.out.below BEL.out)).mono ?_
    intro e w21 hh
    rw [HZ2.out.1] at hh
    obtain ⟨zv, F2, rfl, ⟨p2, n2, k2, rfl, rp2, cp2⟩, oo, bb⟩ := hh
    have h21 : c2 = 1 := HZ2.out.2
    subst h21
    have BEL : Hid (Below w.heap.size w w21) := Below.next BEL.out bb
    have Vs : Hid (VarQ gs s p1 n1 k1 F 8 w21) := Vs.out.below bb
    have Vx : Hid (VarQ gx x px nx kx Fx 9 w21) := Vx.out.below bb
    have Vy : Hid (VarQ gy x py ny ky Fy 9 w21) := Vy.out.below bb
    have Vu : Hid (VarQ gu u pu nu ku Fu 8 w21) := Vu.out.below bb
    have Vg : Hid (VarQ gg y pg ng kg Fg 8 w21) := Vg.out.below bb
    have Vr : Hid (VarQ gr q pr nr kr Fr 8 w21) := Vr.out.below bb
    clear oo bb rp2 cp2
    go_wp2_with (first | go_skip | (with_reducible refine stopLoad 45 rfl ?_) | (with_reducible refine stopStore 45 rfl ?_))
    refine store_fresh 45 w21.heap.size rfl #[.int .i64 0, .int .i64 0, .slice none 0 0, .int .i64 0, .int .i64 0] #[.int .i64 x2.epoch, .int .i64 x2.granted, .slice p2 n2 k2, .int .i64 x2.merged, .int .i64 x2.last] 45 rfl rfl rfl rfl infoSeI rfl (by simp [Value.oneCell']) ?_
    intro w22 hg hb
    have BEL : Hid (Below w.heap.size w w22) := Below.next BEL.out hb
    have Vs : Hid (VarQ gs s p1 n1 k1 F 8 w22) := Vs.out.below hb
    have Vx : Hid (VarQ gx x px nx kx Fx 9 w22) := Vx.out.below hb
    have Vy : Hid (VarQ gy x py ny ky Fy 9 w22) := Vy.out.below hb
    have Vu : Hid (VarQ gu u pu nu ku Fu 8 w22) := Vu.out.below hb
    have Vg : Hid (VarQ gg y pg ng kg Fg 8 w22) := Vg.out.below hb
    have Vr : Hid (VarQ gr q pr nr kr Fr 8 w22) := Vr.out.below hb
    clear hg hb
    go_wp2_with fail
    obtain ⟨w23, hY⟩ : ∃ Y, Y = w22.drew := ⟨_, rfl⟩
    have bd := (Below.refl w22.heap.size w22).drew
    rw [← hY] at bd
    have BEL : Hid (Below w.heap.size w w23) := Below.next BEL.out bd
    have Vs : Hid (VarQ gs s p1 n1 k1 F 8 w23) := Vs.out.below bd
    have Vx : Hid (VarQ gx x px nx kx Fx 9 w23) := Vx.out.below bd
    have Vy : Hid (VarQ gy x py ny ky Fy 9 w23) := Vy.out.below bd
    have Vu : Hid (VarQ gu u pu nu ku Fu 8 w23) := Vu.out.below bd
    have Vg : Hid (VarQ gg y pg ng kg Fg 8 w23) := Vg.out.below bd
    have Vr : Hid (VarQ gr q pr nr kr Fr 8 w23) := Vr.out.below bd
    clear bd
    refine wp_region_held (S := fun W => Blk W gs #[.int .i64 s.epoch, .int .i64 s.granted, .slice p1 n1 k1, .int .i64 s.merged, .int .i64 s.last] 45 ∧ Blk W gx #[.int .i64 x.epoch, .int .i64 x.granted, .slice px nx kx, .int .i64 x.merged, .int .i64 x.last] 45 ∧ Blk W gu #[.int .i64 u.epoch, .int .i64 u.granted, .slice pu nu ku, .int .i64 u.merged, .int .i64 u.last] 45 ∧ Blk W gg #[.int .i64 y.epoch, .int .i64 y.granted, .slice pg ng kg, .int .i64 y.merged, .int .i64 y.last] 45 ∧ Blk W gr #[.int .i64 q.epoch, .int .i64 q.granted, .slice pr nr kr, .int .i64 q.merged, .int .i64 q.last] 45) (by kernel_rfl) ?_
    change wpAnyH _ _ _ _ _ _ _ _ (World.drew _)
    rw [← hY]
    clear hY
    refine takeH (o := ?o69) 0 (.agg #[.int .i64 x.epoch, .int .i64 x.granted, .slice px nx kx, .int .i64 x.merged, .int .i64 x.last]) ?h69 ?r69
    case h69 => simp only [aT, aZ]; rfl
    refine ⟨_, by simp [Act.put]; rfl, by kernel_rfl, by kernel_rfl, by kernel_rfl, fun _ _ _ h => h, (yields_whole 45 _ #[.int .i64 x.epoch, .int .i64 x.granted, .slice px nx kx, .int .i64 x.merged, .int .i64 x.last] 45 _ rfl rfl rfl Tryz.underlying45 rfl infoSeI (fun W hW => hW.2.1)), ⟨Vs.out.blk, Vx.out.blk, Vu.out.blk, Vg.out.blk, Vr.out.blk⟩, ?_⟩
    refine takeH (o := ?o70) 1 (.int .i64 per) ?h70 ?r70
    case h70 => simp only [aT, aS, aZ]; rfl
    refine ⟨_, by simp [Act.put]; rfl, by kernel_rfl, by kernel_rfl, by kernel_rfl, fun _ _ _ h => h, (.inl ⟨rfl, fun W _ => by kernel_rfl⟩), ⟨Vs.out.blk, Vx.out.blk, Vu.out.blk, Vg.out.blk, Vr.out.blk⟩, ?_⟩
    refine onlyH (o := ?o71) 2 (by kernel_rfl) ?h71 ?r71
    case h71 => simp only [aT, aS, aZ]; rfl
    intro K hK
    refine op_callS2 21 _ _ _ Tryz.f21 (fun v w' => v = .bool true ∧ Below w23.heap.size w23 w') rfl rfl Tryz.func21 (by kernel_rfl) (by kernel_rfl) ((seOkImpl_any _ x per Fx w23 Vx.out.rd (by have := Vx.out.len; omega)).mono (by rintro e w' ⟨rfl, hb⟩; exact ⟨_, rfl, by rw [HTW.out.1.ok], hb⟩)) ?_
    rintro v w24 ⟨rfl, hb⟩
    have BEL : Hid (Below w.heap.size w w24) := Below.next BEL.out hb
    have Vs : Hid (VarQ gs s p1 n1 k1 F 8 w24) := Vs.out.below hb
    have Vx : Hid (VarQ gx x px nx kx Fx 9 w24) := Vx.out.below hb
    have Vy : Hid (VarQ gy x py ny ky Fy 9 w24) := Vy.out.below hb
    have Vu : Hid (VarQ gu u pu nu ku Fu 8 w24) := Vu.out.below hb
    have Vg : Hid (VarQ gg y pg ng kg Fg 8 w24) := Vg.out.below hb
    have Vr : Hid (VarQ gr q pr nr kr Fr 8 w24) := Vr.out.below hb
    clear hb
    refine ⟨_, by simp [Act.put]; rfl, hK _ _ ⟨⟨Vs.out.blk, Vx.out.blk, Vu.out.blk, Vg.out.blk, Vr.out.blk⟩, ?_⟩⟩
    clear hK
    refine takeH (o := ?o72) 3 (.bool true) ?h72 ?r72
    case h72 => simp only [aT, aS, aZ]; rfl
    refine ⟨_, by simp [Act.put]; rfl, by kernel_rfl, by kernel_rfl, by kernel_rfl, fun _ _ _ h => h, (.inl ⟨rfl, fun W _ => by kernel_rfl⟩), ⟨Vs.out.blk, Vx.out.blk, Vu.out.blk, Vg.out.blk, Vr.out.blk⟩, ?_⟩
    refine takeH (o := ?o73) 4 (.int .i64 1) ?h73 ?r73
    case h73 => simp only [aT, aS, aZ]; rfl
    refine ⟨_, by simp [Act.put]; rfl, by kernel_rfl, by kernel_rfl, by kernel_rfl, fun _ _ _ h => h, (.inl ⟨rfl, fun W _ => by kernel_rfl⟩), ⟨Vs.out.blk, Vx.out.blk, Vu.out.blk, Vg.out.blk, Vr.out.blk⟩, ?_⟩
    refine takeH (o := ?o74) 5 (.bool true) ?h74 ?r74
    case h74 => simp only [aT, aS, aZ]; rfl
    refine ⟨_, by simp [Act.put]; rfl, by kernel_rfl, by kernel_rfl, by kernel_rfl, fun _ _ _ h => h, (.inl ⟨rfl, fun W _ => by go_simp⟩), ⟨Vs.out.blk, Vx.out.blk, Vu.out.blk, Vg.out.blk, Vr.out.blk⟩, ?_⟩
    refine takeH (o := ?o75) 6 (.bool true) ?h75 ?r75
    case h75 => simp only [aT, aS, aZ]; rfl
    refine ⟨_, by simp [Act.put]; rfl, by kernel_rfl, by kernel_rfl, by kernel_rfl, fun _ _ _ h => h, (.inl ⟨rfl, fun W _ => by kernel_rfl⟩), ⟨Vs.out.blk, Vx.out.blk, Vu.out.blk, Vg.out.blk, Vr.out.blk⟩, ?_⟩
    refine takeH (o := ?o76) 7 (.bool true) ?h76 ?r76
    case h76 => simp only [aT, aS, aZ]; rfl
    refine ⟨_, by simp [Act.put]; rfl, by kernel_rfl, by kernel_rfl, by kernel_rfl, fun _ _ _ h => h, (.inl ⟨rfl, fun W _ => by kernel_rfl⟩), ⟨Vs.out.blk, Vx.out.blk, Vu.out.blk, Vg.out.blk, Vr.out.blk⟩, ?_⟩
    refine takeH (o := ?o77) 8 (.pointer (some ⟨gx, 2, none⟩)) ?h77 ?r77
    case h77 => simp only [aT, aS, aZ]; rfl
    refine ⟨_, by simp [Act.put]; rfl, by kernel_rfl, by kernel_rfl, by kernel_rfl, fun _ _ _ h => h, (.inl ⟨rfl, fun W _ => by kernel_rfl⟩), ⟨Vs.out.blk, Vx.out.blk, Vu.out.blk, Vg.out.blk, Vr.out.blk⟩, ?_⟩
    refine takeH (o := ?o78) 9 (.slice px nx kx) ?h78 ?r78
    case h78 => simp only [aT, aS, aZ]; rfl
    refine ⟨_, by simp [Act.put]; rfl, by kernel_rfl, by kernel_rfl, by kernel_rfl, fun _ _ _ h => h, (.inl ⟨rfl, fun W hW => by have c := hW.2.1.cell 2; simp only [aT, aS, aZ] at c; go_simp⟩), ⟨Vs.out.blk, Vx.out.blk, Vu.out.blk, Vg.out.blk, Vr.out.blk⟩, ?_⟩
    refine takeH (o := ?o79) 11 (.pointer (some ⟨gs, 2, none⟩)) ?h79 ?r79
    case h79 => simp only [aT, aS, aZ]; rfl
    refine ⟨_, by simp [Act.put]; rfl, by kernel_rfl, by kernel_rfl, by kernel_rfl, fun _ _ _ h => h, (.inl ⟨rfl, fun W _ => by kernel_rfl⟩), ⟨Vs.out.blk, Vx.out.blk, Vu.out.blk, Vg.out.blk, Vr.out.blk⟩, ?_⟩
    refine takeH (o := ?o80) 12 (.slice p1 n1 k1) ?h80 ?r80
    case h80 => simp only [aT, aS, aZ]; rfl
    refine ⟨_, by simp [Act.put]; rfl, by kernel_rfl, by kernel_rfl, by kernel_rfl, fun _ _ _ h => h, (.inl ⟨rfl, fun W hW => by have c := hW.1.cell 2; simp only [aT, aS, aZ] at c; go_simp⟩), ⟨Vs.out.blk, Vx.out.blk, Vu.out.blk, Vg.out.blk, Vr.out.blk⟩, ?_⟩
    obtain ⟨sx, hsx⟩ : ∃ n, n = x.taken.size := ⟨_, rfl⟩
    obtain ⟨ss, hss⟩ : ∃ n, n = s.taken.size := ⟨_, rfl⟩
    have HSX : Hid (sx = x.taken.size ∧ ss = s.taken.size) := ⟨hsx, hss⟩
    have HSS : Hid (sx = ss + 1 ∧ 0 ≤ ss ∧ ss ≤ 100000) := by
      have h1 := HTW.out.2.2
      have h2 := Sp.size_range s.taken
      have h3 := Vs.out.len
      rw [hsx, hss]
      exact ⟨h1, h2.1, by omega⟩
    clear hsx hss
    refine onlyH (o := ?o81) 10 (by kernel_rfl) ?h81 ?r81
    case h81 => simp only [aT, aS, aZ]; rfl
    intro K hK
    refine op_call1 23 _ _ Tryz.f23 (fun v w' => v = .int .i64 sx ∧ Below w24.heap.size w24 w') rfl rfl Tryz.func23 (by kernel_rfl) (by kernel_rfl) ((sizeImpl_any px nx kx x.taken Fx w24 Vx.out.rp (by have := Vx.out.l; omega)).mono (by rintro e w' ⟨rfl, hb⟩; exact ⟨_, rfl, by rw [HSX.out.1], hb⟩)) ?_
    rintro v w25 ⟨rfl, hb⟩
    have BEL : Hid (Below w.heap.size w w25) := Below.next BEL.out hb
    have Vs : Hid (VarQ gs s p1 n1 k1 F 8 w25) := Vs.out.below hb
    have Vx : Hid (VarQ gx x px nx kx Fx 9 w25) := Vx.out.below hb
    have Vy : Hid (VarQ gy x py ny ky Fy 9 w25) := Vy.out.below hb
    have Vu : Hid (VarQ gu u pu nu ku Fu 8 w25) := Vu.out.below hb
    have Vg : Hid (VarQ gg y pg ng kg Fg 8 w25) := Vg.out.below hb
    have Vr : Hid (VarQ gr q pr nr kr Fr 8 w25) := Vr.out.below hb
    clear hb
    refine ⟨_, by simp [Act.put]; rfl, hK _ _ ⟨⟨Vs.out.blk, Vx.out.blk, Vu.out.blk, Vg.out.blk, Vr.out.blk⟩, ?_⟩⟩
    clear hK
    refine onlyH (o := ?o82) 13 (by kernel_rfl) ?h82 ?r82
    case h82 => simp only [aT, aS, aZ]; rfl
    intro K hK
    refine op_call1 23 _ _ Tryz.f23 (fun v w' => v = .int .i64 ss ∧ Below w25.heap.size w25 w') rfl rfl Tryz.func23 (by kernel_rfl) (by kernel_rfl) ((sizeImpl_any p1 n1 k1 s.taken F w25 Vs.out.rp (by have := Vs.out.l; omega)).mono (by rintro e w' ⟨rfl, hb⟩; exact ⟨_, rfl, by rw [HSX.out.2], hb⟩)) ?_
    rintro v w26 ⟨rfl, hb⟩
    have BEL : Hid (Below w.heap.size w w26) := Below.next BEL.out hb
    have Vs : Hid (VarQ gs s p1 n1 k1 F 8 w26) := Vs.out.below hb
    have Vx : Hid (VarQ gx x px nx kx Fx 9 w26) := Vx.out.below hb
    have Vy : Hid (VarQ gy x py ny ky Fy 9 w26) := Vy.out.below hb
    have Vu : Hid (VarQ gu u pu nu ku Fu 8 w26) := Vu.out.below hb
    have Vg : Hid (VarQ gg y pg ng kg Fg 8 w26) := Vg.out.below hb
    have Vr : Hid (VarQ gr q pr nr kr Fr 8 w26) := Vr.out.below hb
    clear hb
    refine ⟨_, by simp [Act.put]; rfl, hK _ _ ⟨⟨Vs.out.blk, Vx.out.blk, Vu.out.blk, Vg.out.blk, Vr.out.blk⟩, ?_⟩⟩
    clear hK
    have hs1 := HSS.out.2
    have hwz : IntKind.i64.wrap (ss + 1) = ss + 1 := wrapSe (by omega)
    refine takeH (o := ?o83) 14 (.int .i64 (ss + 1)) ?h83 ?r83
    case h83 => simp only [aT, aS, aZ]; rfl
    refine ⟨_, by simp [Act.put]; rfl, by kernel_rfl, by kernel_rfl, by kernel_rfl, fun _ _ _ h => h, (.inl ⟨rfl, fun W _ => by first | (go_simp; done) | (go_simp; exact hwz)⟩), ⟨Vs.out.blk, Vx.out.blk, Vu.out.blk, Vg.out.blk, Vr.out.blk⟩, ?_⟩
    clear hwz hs1
    obtain ⟨d15, hd15⟩ : ∃ d, d = (sx == ss + 1) := ⟨_, rfl⟩
    refine takeH (o := ?o84) 15 (.bool d15) ?h84 ?r84
    case h84 => simp only [aT, aS, aZ]; rfl
    refine ⟨_, by simp [Act.put]; rfl, by kernel_rfl, by kernel_rfl, by kernel_rfl, fun _ _ _ h => h, (.inl ⟨rfl, fun W _ => by rw [hd15]; go_simp⟩), ⟨Vs.out.blk, Vx.out.blk, Vu.out.blk, Vg.out.blk, Vr.out.blk⟩, ?_⟩
    obtain rfl : d15 = true := by rw [hd15, HSS.out.1]; simp
    clear hd15
    refine takeH (o := ?o85) 16 (.bool true) ?h85 ?r85
    case h85 => simp only [aT, aS, aZ]; rfl
    refine ⟨_, by simp [Act.put]; rfl, by kernel_rfl, by kernel_rfl, by kernel_rfl, fun _ _ _ h => h, (.inl ⟨rfl, fun W _ => by kernel_rfl⟩), ⟨Vs.out.blk, Vx.out.blk, Vu.out.blk, Vg.out.blk, Vr.out.blk⟩, ?_⟩
    refine takeH (o := ?o86) 17 (.bool true) ?h86 ?r86
    case h86 => simp only [aT, aS, aZ]; rfl
    refine ⟨_, by simp [Act.put]; rfl, by kernel_rfl, by kernel_rfl, by kernel_rfl, fun _ _ _ h => h, (.inl ⟨rfl, fun W _ => by kernel_rfl⟩), ⟨Vs.out.blk, Vx.out.blk, Vu.out.blk, Vg.out.blk, Vr.out.blk⟩, ?_⟩
    refine takeH (o := ?o87) 18 (.int .i64 sq) ?h87 ?r87
    case h87 => simp only [aT, aS, aZ]; rfl
    refine ⟨_, by simp [Act.put]; rfl, by kernel_rfl, by kernel_rfl, by kernel_rfl, fun _ _ _ h => h, (.inl ⟨rfl, fun W _ => by kernel_rfl⟩), ⟨Vs.out.blk, Vx.out.blk, Vu.out.blk, Vg.out.blk, Vr.out.blk⟩, ?_⟩
    refine takeH (o := ?o88) 19 (.pointer (some ⟨gs, 1, none⟩)) ?h88 ?r88
    case h88 => simp only [aT, aS, aZ]; rfl
    refine ⟨_, by simp [Act.put]; rfl, by kernel_rfl, by kernel_rfl, by kernel_rfl, fun _ _ _ h => h, (.inl ⟨rfl, fun W _ => by kernel_rfl⟩), ⟨Vs.out.blk, Vx.out.blk, Vu.out.blk, Vg.out.blk, Vr.out.blk⟩, ?_⟩
    refine takeH (o := ?o89) 20 (.int .i64 s.granted) ?h89 ?r89
    case h89 => simp only [aT, aS, aZ]; rfl
    refine ⟨_, by simp [Act.put]; rfl, by kernel_rfl, by kernel_rfl, by kernel_rfl, fun _ _ _ h => h, (.inl ⟨rfl, fun W hW => by have c := hW.1.cell 1; simp only [aT, aS, aZ] at c; go_simp⟩), ⟨Vs.out.blk, Vx.out.blk, Vu.out.blk, Vg.out.blk, Vr.out.blk⟩, ?_⟩
    obtain ⟨d21, hd21⟩ : ∃ d, d = decide (sq ≤ s.granted) := ⟨_, rfl⟩
    refine takeH (o := ?o90) 21 (.bool d21) ?h90 ?r90
    case h90 => simp only [aT, aS, aZ]; rfl
    refine ⟨_, by simp [Act.put]; rfl, by kernel_rfl, by kernel_rfl, by kernel_rfl, fun _ _ _ h => h, (.inl ⟨rfl, fun W _ => by rw [hd21]; go_simp⟩), ⟨Vs.out.blk, Vx.out.blk, Vu.out.blk, Vg.out.blk, Vr.out.blk⟩, ?_⟩
    obtain rfl : d21 = true := by rw [hd21]; exact decide_eq_true HN.out.2.2.2.2.1
    clear hd21
    refine takeH (o := ?o91) 22 (.bool true) ?h91 ?r91
    case h91 => simp only [aT, aS, aZ]; rfl
    refine ⟨_, by simp [Act.put]; rfl, by kernel_rfl, by kernel_rfl, by kernel_rfl, fun _ _ _ h => h, (.inl ⟨rfl, fun W _ => by kernel_rfl⟩), ⟨Vs.out.blk, Vx.out.blk, Vu.out.blk, Vg.out.blk, Vr.out.blk⟩, ?_⟩
    refine takeH (o := ?o92) 23 (.bool true) ?h92 ?r92
    case h92 => simp only [aT, aS, aZ]; rfl
    refine ⟨_, by simp [Act.put]; rfl, by kernel_rfl, by kernel_rfl, by kernel_rfl, fun _ _ _ h => h, (.inl ⟨rfl, fun W _ => by kernel_rfl⟩), ⟨Vs.out.blk, Vx.out.blk, Vu.out.blk, Vg.out.blk, Vr.out.blk⟩, ?_⟩
    refine takeH (o := ?o93) 24 (.int .i64 ep) ?h93 ?r93
    case h93 => simp only [aT, aS, aZ]; rfl
    refine ⟨_, by simp [Act.put]; rfl, by kernel_rfl, by kernel_rfl, by kernel_rfl, fun _ _ _ h => h, (.inl ⟨rfl, fun W _ => by kernel_rfl⟩), ⟨Vs.out.blk, Vx.out.blk, Vu.out.blk, Vg.out.blk, Vr.out.blk⟩, ?_⟩
    refine takeH (o := ?o94) 25 (.pointer (some ⟨gs, 0, none⟩)) ?h94 ?r94
    case h94 => simp only [aT, aS, aZ]; rfl
    refine ⟨_, by simp [Act.put]; rfl, by kernel_rfl, by kernel_rfl, by kernel_rfl, fun _ _ _ h => h, (.inl ⟨rfl, fun W _ => by kernel_rfl⟩), ⟨Vs.out.blk, Vx.out.blk, Vu.out.blk, Vg.out.blk, Vr.out.blk⟩, ?_⟩
    refine takeH (o := ?o95) 26 (.int .i64 s.epoch) ?h95 ?r95
    case h95 => simp only [aT, aS, aZ]; rfl
    refine ⟨_, by simp [Act.put]; rfl, by kernel_rfl, by kernel_rfl, by kernel_rfl, fun _ _ _ h => h, (.inl ⟨rfl, fun W hW => by have c := hW.1.cell 0; simp only [aT, aZ] at c; go_simp⟩), ⟨Vs.out.blk, Vx.out.blk, Vu.out.blk, Vg.out.blk, Vr.out.blk⟩, ?_⟩
    obtain ⟨d27, hd27⟩ : ∃ d, d = (ep == s.epoch) := ⟨_, rfl⟩
    refine takeH (o := ?o96) 27 (.bool d27) ?h96 ?r96
    case h96 => simp only [aT, aS, aZ]; rfl
    refine ⟨_, by simp [Act.put]; rfl, by kernel_rfl, by kernel_rfl, by kernel_rfl, fun _ _ _ h => h, (.inl ⟨rfl, fun W _ => by rw [hd27]; go_simp⟩), ⟨Vs.out.blk, Vx.out.blk, Vu.out.blk, Vg.out.blk, Vr.out.blk⟩, ?_⟩
    obtain rfl : d27 = true := by rw [hd27, HN.out.2.2.1]; simp
    clear hd27
    refine takeH (o := ?o97) 28 (.bool true) ?h97 ?r97
    case h97 => simp only [aT, aS, aZ]; rfl
    refine ⟨_, by simp [Act.put]; rfl, by kernel_rfl, by kernel_rfl, by kernel_rfl, fun _ _ _ h => h, (.inl ⟨rfl, fun W _ => by kernel_rfl⟩), ⟨Vs.out.blk, Vx.out.blk, Vu.out.blk, Vg.out.blk, Vr.out.blk⟩, ?_⟩
    refine takeH (o := ?o98) 29 (.bool true) ?h98 ?r98
    case h98 => simp only [aT, aS, aZ]; rfl
    refine ⟨_, by simp [Act.put]; rfl, by kernel_rfl, by kernel_rfl, by kernel_rfl, fun _ _ _ h => h, (.inl ⟨rfl, fun W _ => by kernel_rfl⟩), ⟨Vs.out.blk, Vx.out.blk, Vu.out.blk, Vg.out.blk, Vr.out.blk⟩, ?_⟩
    refine wpAnyH_done (by kernel_rfl) ?_ _
    go_wp2
    go_ret
    exact ⟨rfl, BEL.out⟩
  · have HRU : Hid (u.Right p) := Se.right HDK.out.symm
    have HGR := grant_right HRU.out
    rw [Hy.out] at HGR
    have HGR : Hid (y.Right p ∧ y.owed ≤ p ∧ u.granted ≤ y.granted) := HGR
    have HRC0 := reclaim_right HRU.out
    rw [Hq.out] at HRC0
    have HRC : Hid (q.Right p ∧ q.granted ≤ u.granted) := HRC0
    clear HRC0
    have HQT : Hid (q.taken = u.taken) := by have e := Hq.out; show _ = _; rw [← e]; exact Se.reclaim_taken u p
    refine takeH (o := ?o99) 3 (.bool true) ?h99 ?r99
    case h99 => simp only [aT, aS, aZ]; rfl
    refine ⟨_, by simp [Act.put]; rfl, by kernel_rfl, by kernel_rfl, by kernel_rfl, fun _ _ _ h => h, (.inl ⟨rfl, fun W _ => by kernel_rfl⟩), ⟨Vs.out.blk, Vx.out.blk, Vu.out.blk, Vg.out.blk, Vr.out.blk⟩, ?_⟩
    refine takeH (o := ?o100) 4 (.agg #[.int .i64 y.epoch, .int .i64 y.granted, .slice pg ng kg, .int .i64 y.merged, .int .i64 y.last]) ?h100 ?r100
    case h100 => simp only [aT, aS, aZ]; rfl
    refine ⟨_, by simp [Act.put]; rfl, by kernel_rfl, by kernel_rfl, by kernel_rfl, fun _ _ _ h => h, (yields_whole 45 _ #[.int .i64 y.epoch, .int .i64 y.granted, .slice pg ng kg, .int .i64 y.merged, .int .i64 y.last] 45 _ rfl rfl rfl Tryz.underlying45 rfl infoSeI (fun W hW => hW.2.2.2.1)), ⟨Vs.out.blk, Vx.out.blk, Vu.out.blk, Vg.out.blk, Vr.out.blk⟩, ?_⟩
    refine takeH (o := ?o101) 5 (.int .i64 p) ?h101 ?r101
    case h101 => simp only [aT, aS, aZ]; rfl
    refine ⟨_, by simp [Act.put]; rfl, by kernel_rfl, by kernel_rfl, by kernel_rfl, fun _ _ _ h => h, (.inl ⟨rfl, fun W _ => by kernel_rfl⟩), ⟨Vs.out.blk, Vx.out.blk, Vu.out.blk, Vg.out.blk, Vr.out.blk⟩, ?_⟩
    refine onlyH (o := ?o102) 6 (by kernel_rfl) ?h102 ?r102
    case h102 => simp only [aT, aS, aZ]; rfl
    intro K hK
    refine op_callS2 21 _ _ _ Tryz.f21 (fun v w' => v = .bool true ∧ Below w17.heap.size w17 w') rfl rfl Tryz.func21 (by kernel_rfl) (by kernel_rfl) ((seOkImpl_any _ y p Fg w17 Vg.out.rd (by have := Vg.out.len; omega)).mono (by rintro e w' ⟨rfl, hb⟩; exact ⟨_, rfl, by rw [HGR.out.1.ok], hb⟩)) ?_
    rintro v w27 ⟨rfl, hb⟩
    have BEL : Hid (Below w.heap.size w w27) := Below.next BEL.out hb
    have Vs : Hid (VarQ gs s p1 n1 k1 F 8 w27) := Vs.out.below hb
    have Vx : Hid (VarQ gx x px nx kx Fx 9 w27) := Vx.out.below hb
    have Vy : Hid (VarQ gy x py ny ky Fy 9 w27) := Vy.out.below hb
    have Vu : Hid (VarQ gu u pu nu ku Fu 8 w27) := Vu.out.below hb
    have Vg : Hid (VarQ gg y pg ng kg Fg 8 w27) := Vg.out.below hb
    have Vr : Hid (VarQ gr q pr nr kr Fr 8 w27) := Vr.out.below hb
    clear hb
    refine ⟨_, by simp [Act.put]; rfl, hK _ _ ⟨⟨Vs.out.blk, Vx.out.blk, Vu.out.blk, Vg.out.blk, Vr.out.blk⟩, ?_⟩⟩
    clear hK
    refine takeH (o := ?o103) 7 (.bool false) ?h103 ?r103
    case h103 => simp only [aT, aS, aZ]; rfl
    refine ⟨_, by simp [Act.put]; rfl, by kernel_rfl, by kernel_rfl, by kernel_rfl, fun _ _ _ h => h, (.inl ⟨rfl, fun W _ => by go_simp⟩), ⟨Vs.out.blk, Vx.out.blk, Vu.out.blk, Vg.out.blk, Vr.out.blk⟩, ?_⟩
    refine takeH (o := ?o104) 8 (.bool false) ?h104 ?r104
    case h104 => simp only [aT, aS, aZ]; rfl
    refine ⟨_, by simp [Act.put]; rfl, by kernel_rfl, by kernel_rfl, by kernel_rfl, fun _ _ _ h => h, (.inl ⟨rfl, fun W _ => by kernel_rfl⟩), ⟨Vs.out.blk, Vx.out.blk, Vu.out.blk, Vg.out.blk, Vr.out.blk⟩, ?_⟩
    refine takeH (o := ?o105) 9 (.agg #[.int .i64 y.epoch, .int .i64 y.granted, .slice pg ng kg, .int .i64 y.merged, .int .i64 y.last]) ?h105 ?r105
    case h105 => simp only [aT, aS, aZ]; rfl
    refine ⟨_, by simp [Act.put]; rfl, by kernel_rfl, by kernel_rfl, by kernel_rfl, fun _ _ _ h => h, (yields_whole 45 _ #[.int .i64 y.epoch, .int .i64 y.granted, .slice pg ng kg, .int .i64 y.merged, .int .i64 y.last] 45 _ rfl rfl rfl Tryz.underlying45 rfl infoSeI (fun W hW => hW.2.2.2.1)), ⟨Vs.out.blk, Vx.out.blk, Vu.out.blk, Vg.out.blk, Vr.out.blk⟩, ?_⟩
    refine takeH (o := ?o106) 11 (.int .i64 p) ?h106 ?r106
    case h106 => simp only [aT, aS, aZ]; rfl
    refine ⟨_, by simp [Act.put]; rfl, by kernel_rfl, by kernel_rfl, by kernel_rfl, fun _ _ _ h => h, (.inl ⟨rfl, fun W _ => by kernel_rfl⟩), ⟨Vs.out.blk, Vx.out.blk, Vu.out.blk, Vg.out.blk, Vr.out.blk⟩, ?_⟩
    obtain ⟨ow, how⟩ : ∃ n, n = y.owed := ⟨_, rfl⟩
    have HOW : Hid (ow ≤ p) := by have h := HGR.out.2.1; show ow ≤ p; rw [how]; exact h
    refine onlyH (o := ?o107) 10 (by kernel_rfl) ?h107 ?r107
    case h107 => simp only [aT, aS, aZ]; rfl
    intro K hK
    refine op_call1 22 _ _ Tryz.f22 (fun v w' => v = .int .i64 ow ∧ Below w27.heap.size w27 w') rfl rfl Tryz.func22 (by kernel_rfl) (by kernel_rfl) ((owedImpl_any _ y Fg w27 Vg.out.rd (by have := Vg.out.len; omega)).mono (by rintro e w' ⟨rfl, hb⟩; exact ⟨_, rfl, by rw [how], hb⟩)) ?_
    rintro v w28 ⟨rfl, hb⟩
    have BEL : Hid (Below w.heap.size w w28) := Below.next BEL.out hb
    have Vs : Hid (VarQ gs s p1 n1 k1 F 8 w28) := Vs.out.below hb
    have Vx : Hid (VarQ gx x px nx kx Fx 9 w28) := Vx.out.below hb
    have Vy : Hid (VarQ gy x py ny ky Fy 9 w28) := Vy.out.below hb
    have Vu : Hid (VarQ gu u pu nu ku Fu 8 w28) := Vu.out.below hb
    have Vg : Hid (VarQ gg y pg ng kg Fg 8 w28) := Vg.out.below hb
    have Vr : Hid (VarQ gr q pr nr kr Fr 8 w28) := Vr.out.below hb
    clear hb
    refine ⟨_, by simp [Act.put]; rfl, hK _ _ ⟨⟨Vs.out.blk, Vx.out.blk, Vu.out.blk, Vg.out.blk, Vr.out.blk⟩, ?_⟩⟩
    clear hK
    clear how
    obtain ⟨d12, hd12⟩ : ∃ d, d = decide (p < ow) := ⟨_, rfl⟩
    refine takeH (o := ?o108) 12 (.bool d12) ?h108 ?r108
    case h108 => simp only [aT, aS, aZ]; rfl
    refine ⟨_, by simp [Act.put]; rfl, by kernel_rfl, by kernel_rfl, by kernel_rfl, fun _ _ _ h => h, (.inl ⟨rfl, fun W _ => by rw [hd12]; go_simp⟩), ⟨Vs.out.blk, Vx.out.blk, Vu.out.blk, Vg.out.blk, Vr.out.blk⟩, ?_⟩
    obtain rfl : d12 = false := by rw [hd12]; exact decide_eq_false (by have := HOW.out; omega)
    clear hd12
    refine takeH (o := ?o109) 13 (.bool false) ?h109 ?r109
    case h109 => simp only [aT, aS, aZ]; rfl
    refine ⟨_, by simp [Act.put]; rfl, by kernel_rfl, by kernel_rfl, by kernel_rfl, fun _ _ _ h => h, (.inl ⟨rfl, fun W _ => by kernel_rfl⟩), ⟨Vs.out.blk, Vx.out.blk, Vu.out.blk, Vg.out.blk, Vr.out.blk⟩, ?_⟩
    refine takeH (o := ?o110) 14 (.bool false) ?h110 ?r110
    case h110 => simp only [aT, aS, aZ]; rfl
    refine ⟨_, by simp [Act.put]; rfl, by kernel_rfl, by kernel_rfl, by kernel_rfl, fun _ _ _ h => h, (.inl ⟨rfl, fun W _ => by kernel_rfl⟩), ⟨Vs.out.blk, Vx.out.blk, Vu.out.blk, Vg.out.blk, Vr.out.blk⟩, ?_⟩
    refine takeH (o := ?o111) 15 (.pointer (some ⟨gg, 1, none⟩)) ?h111 ?r111
    case h111 => simp only [aT, aS, aZ]; rfl
    refine ⟨_, by simp [Act.put]; rfl, by kernel_rfl, by kernel_rfl, by kernel_rfl, fun _ _ _ h => h, (.inl ⟨rfl, fun W _ => by kernel_rfl⟩), ⟨Vs.out.blk, Vx.out.blk, Vu.out.blk, Vg.out.blk, Vr.out.blk⟩, ?_⟩
    refine takeH (o := ?o112) 16 (.int .i64 y.granted) ?h112 ?r112
    case h112 => simp only [aT, aS, aZ]; rfl
    refine ⟨_, by simp [Act.put]; rfl, by kernel_rfl, by kernel_rfl, by kernel_rfl, fun _ _ _ h => h, (.inl ⟨rfl, fun W hW => by have c := hW.2.2.2.1.cell 1; simp only [aT, aS, aZ] at c; go_simp⟩), ⟨Vs.out.blk, Vx.out.blk, Vu.out.blk, Vg.out.blk, Vr.out.blk⟩, ?_⟩
    refine takeH (o := ?o113) 17 (.pointer (some ⟨gu, 1, none⟩)) ?h113 ?r113
    case h113 => simp only [aT, aS, aZ]; rfl
    refine ⟨_, by simp [Act.put]; rfl, by kernel_rfl, by kernel_rfl, by kernel_rfl, fun _ _ _ h => h, (.inl ⟨rfl, fun W _ => by kernel_rfl⟩), ⟨Vs.out.blk, Vx.out.blk, Vu.out.blk, Vg.out.blk, Vr.out.blk⟩, ?_⟩
    refine takeH (o := ?o114) 18 (.int .i64 u.granted) ?h114 ?r114
    case h114 => simp only [aT, aS, aZ]; rfl
    refine ⟨_, by simp [Act.put]; rfl, by kernel_rfl, by kernel_rfl, by kernel_rfl, fun _ _ _ h => h, (.inl ⟨rfl, fun W hW => by have c := hW.2.2.1.cell 1; simp only [aT, aS, aZ] at c; go_simp⟩), ⟨Vs.out.blk, Vx.out.blk, Vu.out.blk, Vg.out.blk, Vr.out.blk⟩, ?_⟩
    obtain ⟨d19, hd19⟩ : ∃ d, d = decide (y.granted < u.granted) := ⟨_, rfl⟩
    refine takeH (o := ?o115) 19 (.bool d19) ?h115 ?r115
    case h115 => simp only [aT, aS, aZ]; rfl
    refine ⟨_, by simp [Act.put]; rfl, by kernel_rfl, by kernel_rfl, by kernel_rfl, fun _ _ _ h => h, (.inl ⟨rfl, fun W _ => by rw [hd19]; go_simp⟩), ⟨Vs.out.blk, Vx.out.blk, Vu.out.blk, Vg.out.blk, Vr.out.blk⟩, ?_⟩
    obtain rfl : d19 = false := by rw [hd19]; exact decide_eq_false (by have := HGR.out.2.2; omega)
    clear hd19
    refine takeH (o := ?o116) 20 (.bool false) ?h116 ?r116
    case h116 => simp only [aT, aS, aZ]; rfl
    refine ⟨_, by simp [Act.put]; rfl, by kernel_rfl, by kernel_rfl, by kernel_rfl, fun _ _ _ h => h, (.inl ⟨rfl, fun W _ => by kernel_rfl⟩), ⟨Vs.out.blk, Vx.out.blk, Vu.out.blk, Vg.out.blk, Vr.out.blk⟩, ?_⟩
    refine takeH (o := ?o117) 21 (.bool false) ?h117 ?r117
    case h117 => simp only [aT, aS, aZ]; rfl
    refine ⟨_, by simp [Act.put]; rfl, by kernel_rfl, by kernel_rfl, by kernel_rfl, fun _ _ _ h => h, (.inl ⟨rfl, fun W _ => by kernel_rfl⟩), ⟨Vs.out.blk, Vx.out.blk, Vu.out.blk, Vg.out.blk, Vr.out.blk⟩, ?_⟩
    refine takeH (o := ?o118) 22 (.agg #[.int .i64 q.epoch, .int .i64 q.granted, .slice pr nr kr, .int .i64 q.merged, .int .i64 q.last]) ?h118 ?r118
    case h118 => simp only [aT, aS, aZ]; rfl
    refine ⟨_, by simp [Act.put]; rfl, by kernel_rfl, by kernel_rfl, by kernel_rfl, fun _ _ _ h => h, (yields_whole 45 _ #[.int .i64 q.epoch, .int .i64 q.granted, .slice pr nr kr, .int .i64 q.merged, .int .i64 q.last] 45 _ rfl rfl rfl Tryz.underlying45 rfl infoSeI (fun W hW => hW.2.2.2.2)), ⟨Vs.out.blk, Vx.out.blk, Vu.out.blk, Vg.out.blk, Vr.out.blk⟩, ?_⟩
    refine takeH (o := ?o119) 23 (.int .i64 p) ?h119 ?r119
    case h119 => simp only [aT, aS, aZ]; rfl
    refine ⟨_, by simp [Act.put]; rfl, by kernel_rfl, by kernel_rfl, by kernel_rfl, fun _ _ _ h => h, (.inl ⟨rfl, fun W _ => by kernel_rfl⟩), ⟨Vs.out.blk, Vx.out.blk, Vu.out.blk, Vg.out.blk, Vr.out.blk⟩, ?_⟩
    refine onlyH (o := ?o120) 24 (by kernel_rfl) ?h120 ?r120
    case h120 => simp only [aT, aS, aZ]; rfl
    intro K hK
    refine op_callS2 21 _ _ _ Tryz.f21 (fun v w' => v = .bool true ∧ Below w28.heap.size w28 w') rfl rfl Tryz.func21 (by kernel_rfl) (by kernel_rfl) ((seOkImpl_any _ q p Fr w28 Vr.out.rd (by have := Vr.out.len; omega)).mono (by rintro e w' ⟨rfl, hb⟩; exact ⟨_, rfl, by rw [HRC.out.1.ok], hb⟩)) ?_
    rintro v w29 ⟨rfl, hb⟩
    have BEL : Hid (Below w.heap.size w w29) := Below.next BEL.out hb
    have Vs : Hid (VarQ gs s p1 n1 k1 F 8 w29) := Vs.out.below hb
    have Vx : Hid (VarQ gx x px nx kx Fx 9 w29) := Vx.out.below hb
    have Vy : Hid (VarQ gy x py ny ky Fy 9 w29) := Vy.out.below hb
    have Vu : Hid (VarQ gu u pu nu ku Fu 8 w29) := Vu.out.below hb
    have Vg : Hid (VarQ gg y pg ng kg Fg 8 w29) := Vg.out.below hb
    have Vr : Hid (VarQ gr q pr nr kr Fr 8 w29) := Vr.out.below hb
    clear hb
    refine ⟨_, by simp [Act.put]; rfl, hK _ _ ⟨⟨Vs.out.blk, Vx.out.blk, Vu.out.blk, Vg.out.blk, Vr.out.blk⟩, ?_⟩⟩
    clear hK
    refine takeH (o := ?o121) 25 (.bool false) ?h121 ?r121
    case h121 => simp only [aT, aS, aZ]; rfl
    refine ⟨_, by simp [Act.put]; rfl, by kernel_rfl, by kernel_rfl, by kernel_rfl, fun _ _ _ h => h, (.inl ⟨rfl, fun W _ => by go_simp⟩), ⟨Vs.out.blk, Vx.out.blk, Vu.out.blk, Vg.out.blk, Vr.out.blk⟩, ?_⟩
    refine takeH (o := ?o122) 26 (.bool false) ?h122 ?r122
    case h122 => simp only [aT, aS, aZ]; rfl
    refine ⟨_, by simp [Act.put]; rfl, by kernel_rfl, by kernel_rfl, by kernel_rfl, fun _ _ _ h => h, (.inl ⟨rfl, fun W _ => by kernel_rfl⟩), ⟨Vs.out.blk, Vx.out.blk, Vu.out.blk, Vg.out.blk, Vr.out.blk⟩, ?_⟩
    refine takeH (o := ?o123) 27 (.bool false) ?h123 ?r123
    case h123 => simp only [aT, aS, aZ]; rfl
    refine ⟨_, by simp [Act.put]; rfl, by kernel_rfl, by kernel_rfl, by kernel_rfl, fun _ _ _ h => h, (.inl ⟨rfl, fun W _ => by kernel_rfl⟩), ⟨Vs.out.blk, Vx.out.blk, Vu.out.blk, Vg.out.blk, Vr.out.blk⟩, ?_⟩
    refine takeH (o := ?o124) 28 (.pointer (some ⟨gr, 1, none⟩)) ?h124 ?r124
    case h124 => simp only [aT, aS, aZ]; rfl
    refine ⟨_, by simp [Act.put]; rfl, by kernel_rfl, by kernel_rfl, by kernel_rfl, fun _ _ _ h => h, (.inl ⟨rfl, fun W _ => by kernel_rfl⟩), ⟨Vs.out.blk, Vx.out.blk, Vu.out.blk, Vg.out.blk, Vr.out.blk⟩, ?_⟩
    refine takeH (o := ?o125) 29 (.int .i64 q.granted) ?h125 ?r125
    case h125 => simp only [aT, aS, aZ]; rfl
    refine ⟨_, by simp [Act.put]; rfl, by kernel_rfl, by kernel_rfl, by kernel_rfl, fun _ _ _ h => h, (.inl ⟨rfl, fun W hW => by have c := hW.2.2.2.2.cell 1; simp only [aT, aS, aZ] at c; go_simp⟩), ⟨Vs.out.blk, Vx.out.blk, Vu.out.blk, Vg.out.blk, Vr.out.blk⟩, ?_⟩
    refine takeH (o := ?o126) 30 (.pointer (some ⟨gu, 1, none⟩)) ?h126 ?r126
    case h126 => simp only [aT, aS, aZ]; rfl
    refine ⟨_, by simp [Act.put]; rfl, by kernel_rfl, by kernel_rfl, by kernel_rfl, fun _ _ _ h => h, (.inl ⟨rfl, fun W _ => by kernel_rfl⟩), ⟨Vs.out.blk, Vx.out.blk, Vu.out.blk, Vg.out.blk, Vr.out.blk⟩, ?_⟩
    refine takeH (o := ?o127) 31 (.int .i64 u.granted) ?h127 ?r127
    case h127 => simp only [aT, aS, aZ]; rfl
    refine ⟨_, by simp [Act.put]; rfl, by kernel_rfl, by kernel_rfl, by kernel_rfl, fun _ _ _ h => h, (.inl ⟨rfl, fun W hW => by have c := hW.2.2.1.cell 1; simp only [aT, aS, aZ] at c; go_simp⟩), ⟨Vs.out.blk, Vx.out.blk, Vu.out.blk, Vg.out.blk, Vr.out.blk⟩, ?_⟩
    obtain ⟨d32, hd32⟩ : ∃ d, d = decide (u.granted < q.granted) := ⟨_, rfl⟩
    refine takeH (o := ?o128) 32 (.bool d32) ?h128 ?r128
    case h128 => simp only [aT, aS, aZ]; rfl
    refine ⟨_, by simp [Act.put]; rfl, by kernel_rfl, by kernel_rfl, by kernel_rfl, fun _ _ _ h => h, (.inl ⟨rfl, fun W _ => by rw [hd32]; go_simp⟩), ⟨Vs.out.blk, Vx.out.blk, Vu.out.blk, Vg.out.blk, Vr.out.blk⟩, ?_⟩
    obtain rfl : d32 = false := by rw [hd32]; exact decide_eq_false (by have := HRC.out.2; omega)
    clear hd32
    refine takeH (o := ?o129) 33 (.bool false) ?h129 ?r129
    case h129 => simp only [aT, aS, aZ]; rfl
    refine ⟨_, by simp [Act.put]; rfl, by kernel_rfl, by kernel_rfl, by kernel_rfl, fun _ _ _ h => h, (.inl ⟨rfl, fun W _ => by kernel_rfl⟩), ⟨Vs.out.blk, Vx.out.blk, Vu.out.blk, Vg.out.blk, Vr.out.blk⟩, ?_⟩
    refine takeH (o := ?o130) 34 (.bool false) ?h130 ?r130
    case h130 => simp only [aT, aS, aZ]; rfl
    refine ⟨_, by simp [Act.put]; rfl, by kernel_rfl, by kernel_rfl, by kernel_rfl, fun _ _ _ h => h, (.inl ⟨rfl, fun W _ => by kernel_rfl⟩), ⟨Vs.out.blk, Vx.out.blk, Vu.out.blk, Vg.out.blk, Vr.out.blk⟩, ?_⟩
    refine takeH (o := ?o131) 35 (.pointer (some ⟨gr, 2, none⟩)) ?h131 ?r131
    case h131 => simp only [aT, aS, aZ]; rfl
    refine ⟨_, by simp [Act.put]; rfl, by kernel_rfl, by kernel_rfl, by kernel_rfl, fun _ _ _ h => h, (.inl ⟨rfl, fun W _ => by kernel_rfl⟩), ⟨Vs.out.blk, Vx.out.blk, Vu.out.blk, Vg.out.blk, Vr.out.blk⟩, ?_⟩
    refine takeH (o := ?o132) 36 (.slice pr nr kr) ?h132 ?r132
    case h132 => simp only [aT, aS, aZ]; rfl
    refine ⟨_, by simp [Act.put]; rfl, by kernel_rfl, by kernel_rfl, by kernel_rfl, fun _ _ _ h => h, (.inl ⟨rfl, fun W hW => by have c := hW.2.2.2.2.cell 2; simp only [aT, aS, aZ] at c; go_simp⟩), ⟨Vs.out.blk, Vx.out.blk, Vu.out.blk, Vg.out.blk, Vr.out.blk⟩, ?_⟩
    refine takeH (o := ?o133) 38 (.pointer (some ⟨gu, 2, none⟩)) ?h133 ?r133
    case h133 => simp only [aT, aS, aZ]; rfl
    refine ⟨_, by simp [Act.put]; rfl, by kernel_rfl, by kernel_rfl, by kernel_rfl, fun _ _ _ h => h, (.inl ⟨rfl, fun W _ => by kernel_rfl⟩), ⟨Vs.out.blk, Vx.out.blk, Vu.out.blk, Vg.out.blk, Vr.out.blk⟩, ?_⟩
    refine takeH (o := ?o134) 39 (.slice pu nu ku) ?h134 ?r134
    case h134 => simp only [aT, aS, aZ]; rfl
    refine ⟨_, by simp [Act.put]; rfl, by kernel_rfl, by kernel_rfl, by kernel_rfl, fun _ _ _ h => h, (.inl ⟨rfl, fun W hW => by have c := hW.2.2.1.cell 2; simp only [aT, aS, aZ] at c; go_simp⟩), ⟨Vs.out.blk, Vx.out.blk, Vu.out.blk, Vg.out.blk, Vr.out.blk⟩, ?_⟩
    refine onlyH (o := ?o135) 37 (by kernel_rfl) ?h135 ?r135
    case h135 => simp only [aT, aS, aZ]; rfl
    intro K hK
    refine op_call1 9 _ _ Tryz.f9 (fun v w' => v = .string u.taken.text ∧ Below w29.heap.size w29 w') rfl rfl Tryz.func9 (by kernel_rfl) (by kernel_rfl) ((textImplP_any pr nr kr q.taken Fr w29 Vr.out.rp (by have := Vr.out.l; omega) (fit_in64 (by rw [HQT.out]; exact HFU.out)) gTab (tab_below gTab HTAB.out BEL.out)).mono (by rintro e w' ⟨rfl, hb⟩; exact ⟨_, rfl, by rw [HQT.out], hb⟩)) ?_
    rintro v w30 ⟨rfl, hb⟩
    have BEL : Hid (Below w.heap.size w w30) := Below.next BEL.out hb
    have Vs : Hid (VarQ gs s p1 n1 k1 F 8 w30) := Vs.out.below hb
    have Vx : Hid (VarQ gx x px nx kx Fx 9 w30) := Vx.out.below hb
    have Vy : Hid (VarQ gy x py ny ky Fy 9 w30) := Vy.out.below hb
    have Vu : Hid (VarQ gu u pu nu ku Fu 8 w30) := Vu.out.below hb
    have Vg : Hid (VarQ gg y pg ng kg Fg 8 w30) := Vg.out.below hb
    have Vr : Hid (VarQ gr q pr nr kr Fr 8 w30) := Vr.out.below hb
    clear hb
    refine ⟨_, by simp [Act.put]; rfl, hK _ _ ⟨⟨Vs.out.blk, Vx.out.blk, Vu.out.blk, Vg.out.blk, Vr.out.blk⟩, ?_⟩⟩
    clear hK
    refine onlyH (o := ?o136) 40 (by kernel_rfl) ?h136 ?r136
    case h136 => simp only [aT, aS, aZ]; rfl
    intro K hK
    refine op_call1 9 _ _ Tryz.f9 (fun v w' => v = .string u.taken.text ∧ Below w30.heap.size w30 w') rfl rfl Tryz.func9 (by kernel_rfl) (by kernel_rfl) ((textImplP_any pu nu ku u.taken Fu w30 Vu.out.rp (by have := Vu.out.l; omega) (fit_in64 HFU.out) gTab (tab_below gTab HTAB.out BEL.out)).mono (by rintro e w' ⟨rfl, hb⟩; exact ⟨_, rfl, rfl, hb⟩)) ?_
    rintro v w31 ⟨rfl, hb⟩
    have BEL : Hid (Below w.heap.size w w31) := Below.next BEL.out hb
    have Vs : Hid (VarQ gs s p1 n1 k1 F 8 w31) := Vs.out.below hb
    have Vx : Hid (VarQ gx x px nx kx Fx 9 w31) := Vx.out.below hb
    have Vy : Hid (VarQ gy x py ny ky Fy 9 w31) := Vy.out.below hb
    have Vu : Hid (VarQ gu u pu nu ku Fu 8 w31) := Vu.out.below hb
    have Vg : Hid (VarQ gg y pg ng kg Fg 8 w31) := Vg.out.below hb
    have Vr : Hid (VarQ gr q pr nr kr Fr 8 w31) := Vr.out.below hb
    clear hb
    refine ⟨_, by simp [Act.put]; rfl, hK _ _ ⟨⟨Vs.out.blk, Vx.out.blk, Vu.out.blk, Vg.out.blk, Vr.out.blk⟩, ?_⟩⟩
    clear hK
    refine takeH (o := ?o137) 41 (.bool false) ?h137 ?r137
    case h137 => simp only [aT, aS, aZ]; rfl
    refine ⟨_, by simp [Act.put]; rfl, by kernel_rfl, by kernel_rfl, by kernel_rfl, fun _ _ _ h => h, (.inl ⟨rfl, fun W _ => exec_neStrS rfl rfl rfl⟩), ⟨Vs.out.blk, Vx.out.blk, Vu.out.blk, Vg.out.blk, Vr.out.blk⟩, ?_⟩
    refine takeH (o := ?o138) 42 (.bool false) ?h138 ?r138
    case h138 => simp only [aT, aS, aZ]; rfl
    refine ⟨_, by simp [Act.put]; rfl, by kernel_rfl, by kernel_rfl, by kernel_rfl, fun _ _ _ h => h, (.inl ⟨rfl, fun W _ => by kernel_rfl⟩), ⟨Vs.out.blk, Vx.out.blk, Vu.out.blk, Vg.out.blk, Vr.out.blk⟩, ?_⟩
    refine takeH (o := ?o139) 43 (.bool false) ?h139 ?r139
    case h139 => simp only [aT, aS, aZ]; rfl
    refine ⟨_, by simp [Act.put]; rfl, by kernel_rfl, by kernel_rfl, by kernel_rfl, fun _ _ _ h => h, (.inl ⟨rfl, fun W _ => by kernel_rfl⟩), ⟨Vs.out.blk, Vx.out.blk, Vu.out.blk, Vg.out.blk, Vr.out.blk⟩, ?_⟩
    refine wpAnyH_done (by kernel_rfl) ?_ _
    by_cases hcd : cd = 0
    rotate_left
    · have hc1 : (cd != 0) = true := by simpa using hcd
      have HXS : Hid (x.taken = s.taken) := by
        have q := HZ.out
        show x.taken = s.taken
        rcases Se.data_cases s per ep sq with e | e
        · rw [q] at e; exact e
        · rw [q] at e; exact absurd e hcd
      clear hcd
      go_wp2_with fail
      obtain ⟨w32, hY⟩ : ∃ Y, Y = w31.drew := ⟨_, rfl⟩
      have bd := (Below.refl w31.heap.size w31).drew
      rw [← hY] at bd
      have BEL : Hid (Below w.heap.size w w32) := Below.next BEL.out bd
      have Vs : Hid (VarQ gs s p1 n1 k1 F 8 w32) := Vs.out.below bd
      have Vx : Hid (VarQ gx x px nx kx Fx 9 w32) := Vx.out.below bd
      have Vy : Hid (VarQ gy x py ny ky Fy 9 w32) := Vy.out.below bd
      have Vu : Hid (VarQ gu u pu nu ku Fu 8 w32) := Vu.out.below bd
      have Vg : Hid (VarQ gg y pg ng kg Fg 8 w32) := Vg.out.below bd
      have Vr : Hid (VarQ gr q pr nr kr Fr 8 w32) := Vr.out.below bd
      clear bd
      refine wp_region_held (S := fun W => Blk W gs #[.int .i64 s.epoch, .int .i64 s.granted, .slice p1 n1 k1, .int .i64 s.merged, .int .i64 s.last] 45 ∧ Blk W gx #[.int .i64 x.epoch, .int .i64 x.granted, .slice px nx kx, .int .i64 x.merged, .int .i64 x.last] 45 ∧ Blk W gu #[.int .i64 u.epoch, .int .i64 u.granted, .slice pu nu ku, .int .i64 u.merged, .int .i64 u.last] 45 ∧ Blk W gg #[.int .i64 y.epoch, .int .i64 y.granted, .slice pg ng kg, .int .i64 y.merged, .int .i64 y.last] 45 ∧ Blk W gr #[.int .i64 q.epoch, .int .i64 q.granted, .slice pr nr kr, .int .i64 q.merged, .int .i64 q.last] 45) (by kernel_rfl) ?_
      change wpAnyH _ _ _ _ _ _ _ _ (World.drew _)
      rw [← hY]
      clear hY
      refine takeH (o := ?o140) 0 (.pointer (some ⟨gx, 2, none⟩)) ?h140 ?r140
      case h140 => simp only [aT, aZ]; rfl
      refine ⟨_, by simp [Act.put]; rfl, by kernel_rfl, by kernel_rfl, by kernel_rfl, fun _ _ _ h => h, (.inl ⟨rfl, fun W _ => by kernel_rfl⟩), ⟨Vs.out.blk, Vx.out.blk, Vu.out.blk, Vg.out.blk, Vr.out.blk⟩, ?_⟩
      refine takeH (o := ?o141) 1 (.slice px nx kx) ?h141 ?r141
      case h141 => simp only [aT, aS, aZ]; rfl
      refine ⟨_, by simp [Act.put]; rfl, by kernel_rfl, by kernel_rfl, by kernel_rfl, fun _ _ _ h => h, (.inl ⟨rfl, fun W hW => by have c := hW.2.1.cell 2; simp only [aT, aS, aZ] at c; go_simp⟩), ⟨Vs.out.blk, Vx.out.blk, Vu.out.blk, Vg.out.blk, Vr.out.blk⟩, ?_⟩
      refine takeH (o := ?o142) 3 (.pointer (some ⟨gs, 2, none⟩)) ?h142 ?r142
      case h142 => simp only [aT, aS, aZ]; rfl
      refine ⟨_, by simp [Act.put]; rfl, by kernel_rfl, by kernel_rfl, by kernel_rfl, fun _ _ _ h => h, (.inl ⟨rfl, fun W _ => by kernel_rfl⟩), ⟨Vs.out.blk, Vx.out.blk, Vu.out.blk, Vg.out.blk, Vr.out.blk⟩, ?_⟩
      refine takeH (o := ?o143) 4 (.slice p1 n1 k1) ?h143 ?r143
      case h143 => simp only [aT, aS, aZ]; rfl
      refine ⟨_, by simp [Act.put]; rfl, by kernel_rfl, by kernel_rfl, by kernel_rfl, fun _ _ _ h => h, (.inl ⟨rfl, fun W hW => by have c := hW.1.cell 2; simp only [aT, aS, aZ] at c; go_simp⟩), ⟨Vs.out.blk, Vx.out.blk, Vu.out.blk, Vg.out.blk, Vr.out.blk⟩, ?_⟩
      refine onlyH (o := ?o144) 2 (by kernel_rfl) ?h144 ?r144
      case h144 => simp only [aT, aS, aZ]; rfl
      intro K hK
      refine op_call1 9 _ _ Tryz.f9 (fun v w' => v = .string x.taken.text ∧ Below w32.heap.size w32 w') rfl rfl Tryz.func9 (by kernel_rfl) (by kernel_rfl) ((textImplP_any px nx kx x.taken Fx w32 Vx.out.rp (by have := Vx.out.l; omega) (fit_in64 (HTL.out.2)) gTab (tab_below gTab HTAB.out BEL.out)).mono (by rintro e w' ⟨rfl, hb⟩; exact ⟨_, rfl, rfl, hb⟩)) ?_
      rintro v w33 ⟨rfl, hb⟩
      have BEL : Hid (Below w.heap.size w w33) := Below.next BEL.out hb
      have Vs : Hid (VarQ gs s p1 n1 k1 F 8 w33) := Vs.out.below hb
      have Vx : Hid (VarQ gx x px nx kx Fx 9 w33) := Vx.out.below hb
      have Vy : Hid (VarQ gy x py ny ky Fy 9 w33) := Vy.out.below hb
      have Vu : Hid (VarQ gu u pu nu ku Fu 8 w33) := Vu.out.below hb
      have Vg : Hid (VarQ gg y pg ng kg Fg 8 w33) := Vg.out.below hb
      have Vr : Hid (VarQ gr q pr nr kr Fr 8 w33) := Vr.out.below hb
      clear hb
      refine ⟨_, by simp [Act.put]; rfl, hK _ _ ⟨⟨Vs.out.blk, Vx.out.blk, Vu.out.blk, Vg.out.blk, Vr.out.blk⟩, ?_⟩⟩
      clear hK
      refine onlyH (o := ?o145) 5 (by kernel_rfl) ?h145 ?r145
      case h145 => simp only [aT, aS, aZ]; rfl
      intro K hK
      refine op_call1 9 _ _ Tryz.f9 (fun v w' => v = .string x.taken.text ∧ Below w33.heap.size w33 w') rfl rfl Tryz.func9 (by kernel_rfl) (by kernel_rfl) ((textImplP_any p1 n1 k1 s.taken F w33 Vs.out.rp (by have := Vs.out.l; omega) (fit_in64 (HFS.out)) gTab (tab_below gTab HTAB.out BEL.out)).mono (by rintro e w' ⟨rfl, hb⟩; exact ⟨_, rfl, by rw [HXS.out], hb⟩)) ?_
      rintro v w34 ⟨rfl, hb⟩
      have BEL : Hid (Below w.heap.size w w34) := Below.next BEL.out hb
      have Vs : Hid (VarQ gs s p1 n1 k1 F 8 w34) := Vs.out.below hb
      have Vx : Hid (VarQ gx x px nx kx Fx 9 w34) := Vx.out.below hb
      have Vy : Hid (VarQ gy x py ny ky Fy 9 w34) := Vy.out.below hb
      have Vu : Hid (VarQ gu u pu nu ku Fu 8 w34) := Vu.out.below hb
      have Vg : Hid (VarQ gg y pg ng kg Fg 8 w34) := Vg.out.below hb
      have Vr : Hid (VarQ gr q pr nr kr Fr 8 w34) := Vr.out.below hb
      clear hb
      refine ⟨_, by simp [Act.put]; rfl, hK _ _ ⟨⟨Vs.out.blk, Vx.out.blk, Vu.out.blk, Vg.out.blk, Vr.out.blk⟩, ?_⟩⟩
      clear hK
      refine takeH (o := ?o146) 6 (.bool true) ?h146 ?r146
      case h146 => simp only [aT, aS, aZ]; rfl
      refine ⟨_, by simp [Act.put]; rfl, by kernel_rfl, by kernel_rfl, by kernel_rfl, fun _ _ _ h => h, (.inl ⟨rfl, fun W _ => exec_eqStrS rfl rfl rfl⟩), ⟨Vs.out.blk, Vx.out.blk, Vu.out.blk, Vg.out.blk, Vr.out.blk⟩, ?_⟩
      refine takeH (o := ?o147) 7 (.bool true) ?h147 ?r147
      case h147 => simp only [aT, aS, aZ]; rfl
      refine ⟨_, by simp [Act.put]; rfl, by kernel_rfl, by kernel_rfl, by kernel_rfl, fun _ _ _ h => h, (.inl ⟨rfl, fun W _ => by kernel_rfl⟩), ⟨Vs.out.blk, Vx.out.blk, Vu.out.blk, Vg.out.blk, Vr.out.blk⟩, ?_⟩
      refine wpAnyH_done (by kernel_rfl) ?_ _
      go_wp2
      go_ret
      exact ⟨rfl, BEL.out⟩
    subst hcd
    have HN : Hid (s.ok per = true ∧ (1 ≤ sq ∧ sq ≤ 60) ∧ ep = s.epoch ∧ s.taken.has sq = false ∧ sq ≤ s.granted ∧ x = s.took sq) := Se.data_zero HZ.out
    have HTW : Hid (x.Right per ∧ x.taken.has sq = true ∧ x.taken.size = s.taken.size + 1) := by
      have e := HN.out.2.2.2.2.2
      have h := took_right (Se.right HN.out.1) HN.out.2.1 HN.out.2.2.2.1 HN.out.2.2.2.2.1
      rw [e]
      exact h
    go_wp2_with (first | go_skip | (with_reducible refine stopLoad 45 rfl ?_) | (with_reducible refine stopStore 45 rfl ?_))
    refine load_known 45 gx #[.int .i64 x.epoch, .int .i64 x.granted, .slice px nx kx, .int .i64 x.merged, .int .i64 x.last] 45 _ Vx.out.blk rfl rfl rfl Tryz.underlying45 rfl infoSeI ?_
    obtain ⟨z2, hz2⟩ : ∃ z, z = x.data per ep sq := ⟨_, rfl⟩
    have HZ2 : Hid (x.data per ep sq = z2 ∧ z2.2 = 1) := ⟨hz2.symm, by rw [hz2, Se.data_twice ⟨HTW.out.1.ok, HN.out.2.1⟩ (by have e := HN.out.2.2.2.2.2; rw [e]; exact HN.out.2.2.1) HTW.out.2.1]⟩
    clear hz2
    obtain ⟨x2, c2⟩ := z2
    go_wp2_with fail
    refine (seDataImpl_any _ x per ep sq Fx _ Vx.out.rd (by have := Vx.out.len; omega) (HER.out.below BEL.out)).mono ?_
    intro e w35 hh
    rw [HZ2.out.1] at hh
    obtain ⟨zv, F2, rfl, ⟨p2, n2, k2, rfl, rp2, cp2⟩, oo, bb⟩ := hh
    have h21 : c2 = 1 := HZ2.out.2
    subst h21
    have BEL : Hid (Below w.heap.size w w35) := Below.next BEL.out bb
    have Vs : Hid (VarQ gs s p1 n1 k1 F 8 w35) := Vs.out.below bb
    have Vx : Hid (VarQ gx x px nx kx Fx 9 w35) := Vx.out.below bb
    have Vy : Hid (VarQ gy x py ny ky Fy 9 w35) := Vy.out.below bb
    have Vu : Hid (VarQ gu u pu nu ku Fu 8 w35) := Vu.out.below bb
    have Vg : Hid (VarQ gg y pg ng kg Fg 8 w35) := Vg.out.below bb
    have Vr : Hid (VarQ gr q pr nr kr Fr 8 w35) := Vr.out.below bb
    clear oo bb rp2 cp2
    go_wp2_with (first | go_skip | (with_reducible refine stopLoad 45 rfl ?_) | (with_reducible refine stopStore 45 rfl ?_))
    refine store_fresh 45 w35.heap.size rfl #[.int .i64 0, .int .i64 0, .slice none 0 0, .int .i64 0, .int .i64 0] #[.int .i64 x2.epoch, .int .i64 x2.granted, .slice p2 n2 k2, .int .i64 x2.merged, .int .i64 x2.last] 45 rfl rfl rfl rfl infoSeI rfl (by simp [Value.oneCell']) ?_
    intro w36 hg hb
    have BEL : Hid (Below w.heap.size w w36) := Below.next BEL.out hb
    have Vs : Hid (VarQ gs s p1 n1 k1 F 8 w36) := Vs.out.below hb
    have Vx : Hid (VarQ gx x px nx kx Fx 9 w36) := Vx.out.below hb
    have Vy : Hid (VarQ gy x py ny ky Fy 9 w36) := Vy.out.below hb
    have Vu : Hid (VarQ gu u pu nu ku Fu 8 w36) := Vu.out.below hb
    have Vg : Hid (VarQ gg y pg ng kg Fg 8 w36) := Vg.out.below hb
    have Vr : Hid (VarQ gr q pr nr kr Fr 8 w36) := Vr.out.below hb
    clear hg hb
    go_wp2_with fail
    obtain ⟨w37, hY⟩ : ∃ Y, Y = w36.drew := ⟨_, rfl⟩
    have bd := (Below.refl w36.heap.size w36).drew
    rw [← hY] at bd
    have BEL : Hid (Below w.heap.size w w37) := Below.next BEL.out bd
    have Vs : Hid (VarQ gs s p1 n1 k1 F 8 w37) := Vs.out.below bd
    have Vx : Hid (VarQ gx x px nx kx Fx 9 w37) := Vx.out.below bd
    have Vy : Hid (VarQ gy x py ny ky Fy 9 w37) := Vy.out.below bd
    have Vu : Hid (VarQ gu u pu nu ku Fu 8 w37) := Vu.out.below bd
    have Vg : Hid (VarQ gg y pg ng kg Fg 8 w37) := Vg.out.below bd
    have Vr : Hid (VarQ gr q pr nr kr Fr 8 w37) := Vr.out.below bd
    clear bd
    refine wp_region_held (S := fun W => Blk W gs #[.int .i64 s.epoch, .int .i64 s.granted, .slice p1 n1 k1, .int .i64 s.merged, .int .i64 s.last] 45 ∧ Blk W gx #[.int .i64 x.epoch, .int .i64 x.granted, .slice px nx kx, .int .i64 x.merged, .int .i64 x.last] 45 ∧ Blk W gu #[.int .i64 u.epoch, .int .i64 u.granted, .slice pu nu ku, .int .i64 u.merged, .int .i64 u.last] 45 ∧ Blk W gg #[.int .i64 y.epoch, .int .i64 y.granted, .slice pg ng kg, .int .i64 y.merged, .int .i64 y.last] 45 ∧ Blk W gr #[.int .i64 q.epoch, .int .i64 q.granted, .slice pr nr kr, .int .i64 q.merged, .int .i64 q.last] 45) (by kernel_rfl) ?_
    change wpAnyH _ _ _ _ _ _ _ _ (World.drew _)
    rw [← hY]
    clear hY
    refine takeH (o := ?o148) 0 (.agg #[.int .i64 x.epoch, .int .i64 x.granted, .slice px nx kx, .int .i64 x.merged, .int .i64 x.last]) ?h148 ?r148
    case h148 => simp only [aT, aZ]; rfl
    refine ⟨_, by simp [Act.put]; rfl, by kernel_rfl, by kernel_rfl, by kernel_rfl, fun _ _ _ h => h, (yields_whole 45 _ #[.int .i64 x.epoch, .int .i64 x.granted, .slice px nx kx, .int .i64 x.merged, .int .i64 x.last] 45 _ rfl rfl rfl Tryz.underlying45 rfl infoSeI (fun W hW => hW.2.1)), ⟨Vs.out.blk, Vx.out.blk, Vu.out.blk, Vg.out.blk, Vr.out.blk⟩, ?_⟩
    refine takeH (o := ?o149) 1 (.int .i64 per) ?h149 ?r149
    case h149 => simp only [aT, aS, aZ]; rfl
    refine ⟨_, by simp [Act.put]; rfl, by kernel_rfl, by kernel_rfl, by kernel_rfl, fun _ _ _ h => h, (.inl ⟨rfl, fun W _ => by kernel_rfl⟩), ⟨Vs.out.blk, Vx.out.blk, Vu.out.blk, Vg.out.blk, Vr.out.blk⟩, ?_⟩
    refine onlyH (o := ?o150) 2 (by kernel_rfl) ?h150 ?r150
    case h150 => simp only [aT, aS, aZ]; rfl
    intro K hK
    refine op_callS2 21 _ _ _ Tryz.f21 (fun v w' => v = .bool true ∧ Below w37.heap.size w37 w') rfl rfl Tryz.func21 (by kernel_rfl) (by kernel_rfl) ((seOkImpl_any _ x per Fx w37 Vx.out.rd (by have := Vx.out.len; omega)).mono (by rintro e w' ⟨rfl, hb⟩; exact ⟨_, rfl, by rw [HTW.out.1.ok], hb⟩)) ?_
    rintro v w38 ⟨rfl, hb⟩
    have BEL : Hid (Below w.heap.size w w38) := Below.next BEL.out hb
    have Vs : Hid (VarQ gs s p1 n1 k1 F 8 w38) := Vs.out.below hb
    have Vx : Hid (VarQ gx x px nx kx Fx 9 w38) := Vx.out.below hb
    have Vy : Hid (VarQ gy x py ny ky Fy 9 w38) := Vy.out.below hb
    have Vu : Hid (VarQ gu u pu nu ku Fu 8 w38) := Vu.out.below hb
    have Vg : Hid (VarQ gg y pg ng kg Fg 8 w38) := Vg.out.below hb
    have Vr : Hid (VarQ gr q pr nr kr Fr 8 w38) := Vr.out.below hb
    clear hb
    refine ⟨_, by simp [Act.put]; rfl, hK _ _ ⟨⟨Vs.out.blk, Vx.out.blk, Vu.out.blk, Vg.out.blk, Vr.out.blk⟩, ?_⟩⟩
    clear hK
    refine takeH (o := ?o151) 3 (.bool true) ?h151 ?r151
    case h151 => simp only [aT, aS, aZ]; rfl
    refine ⟨_, by simp [Act.put]; rfl, by kernel_rfl, by kernel_rfl, by kernel_rfl, fun _ _ _ h => h, (.inl ⟨rfl, fun W _ => by kernel_rfl⟩), ⟨Vs.out.blk, Vx.out.blk, Vu.out.blk, Vg.out.blk, Vr.out.blk⟩, ?_⟩
    refine takeH (o := ?o152) 4 (.int .i64 1) ?h152 ?r152
    case h152 => simp only [aT, aS, aZ]; rfl
    refine ⟨_, by simp [Act.put]; rfl, by kernel_rfl, by kernel_rfl, by kernel_rfl, fun _ _ _ h => h, (.inl ⟨rfl, fun W _ => by kernel_rfl⟩), ⟨Vs.out.blk, Vx.out.blk, Vu.out.blk, Vg.out.blk, Vr.out.blk⟩, ?_⟩
    refine takeH (o := ?o153) 5 (.bool true) ?h153 ?r153
    case h153 => simp only [aT, aS, aZ]; rfl
    refine ⟨_, by simp [Act.put]; rfl, by kernel_rfl, by kernel_rfl, by kernel_rfl, fun _ _ _ h => h, (.inl ⟨rfl, fun W _ => by go_simp⟩), ⟨Vs.out.blk, Vx.out.blk, Vu.out.blk, Vg.out.blk, Vr.out.blk⟩, ?_⟩
    refine takeH (o := ?o154) 6 (.bool true) ?h154 ?r154
    case h154 => simp only [aT, aS, aZ]; rfl
    refine ⟨_, by simp [Act.put]; rfl, by kernel_rfl, by kernel_rfl, by kernel_rfl, fun _ _ _ h => h, (.inl ⟨rfl, fun W _ => by kernel_rfl⟩), ⟨Vs.out.blk, Vx.out.blk, Vu.out.blk, Vg.out.blk, Vr.out.blk⟩, ?_⟩
    refine takeH (o := ?o155) 7 (.bool true) ?h155 ?r155
    case h155 => simp only [aT, aS, aZ]; rfl
    refine ⟨_, by simp [Act.put]; rfl, by kernel_rfl, by kernel_rfl, by kernel_rfl, fun _ _ _ h => h, (.inl ⟨rfl, fun W _ => by kernel_rfl⟩), ⟨Vs.out.blk, Vx.out.blk, Vu.out.blk, Vg.out.blk, Vr.out.blk⟩, ?_⟩
    refine takeH (o := ?o156) 8 (.pointer (some ⟨gx, 2, none⟩)) ?h156 ?r156
    case h156 => simp only [aT, aS, aZ]; rfl
    refine ⟨_, by simp [Act.put]; rfl, by kernel_rfl, by kernel_rfl, by kernel_rfl, fun _ _ _ h => h, (.inl ⟨rfl, fun W _ => by kernel_rfl⟩), ⟨Vs.out.blk, Vx.out.blk, Vu.out.blk, Vg.out.blk, Vr.out.blk⟩, ?_⟩
    refine takeH (o := ?o157) 9 (.slice px nx kx) ?h157 ?r157
    case h157 => simp only [aT, aS, aZ]; rfl
    refine ⟨_, by simp [Act.put]; rfl, by kernel_rfl, by kernel_rfl, by kernel_rfl, fun _ _ _ h => h, (.inl ⟨rfl, fun W hW => by have c := hW.2.1.cell 2; simp only [aT, aS, aZ] at c; go_simp⟩), ⟨Vs.out.blk, Vx.out.blk, Vu.out.blk, Vg.out.blk, Vr.out.blk⟩, ?_⟩
    refine takeH (o := ?o158) 11 (.pointer (some ⟨gs, 2, none⟩)) ?h158 ?r158
    case h158 => simp only [aT, aS, aZ]; rfl
    refine ⟨_, by simp [Act.put]; rfl, by kernel_rfl, by kernel_rfl, by kernel_rfl, fun _ _ _ h => h, (.inl ⟨rfl, fun W _ => by kernel_rfl⟩), ⟨Vs.out.blk, Vx.out.blk, Vu.out.blk, Vg.out.blk, Vr.out.blk⟩, ?_⟩
    refine takeH (o := ?o159) 12 (.slice p1 n1 k1) ?h159 ?r159
    case h159 => simp only [aT, aS, aZ]; rfl
    refine ⟨_, by simp [Act.put]; rfl, by kernel_rfl, by kernel_rfl, by kernel_rfl, fun _ _ _ h => h, (.inl ⟨rfl, fun W hW => by have c := hW.1.cell 2; simp only [aT, aS, aZ] at c; go_simp⟩), ⟨Vs.out.blk, Vx.out.blk, Vu.out.blk, Vg.out.blk, Vr.out.blk⟩, ?_⟩
    obtain ⟨sx, hsx⟩ : ∃ n, n = x.taken.size := ⟨_, rfl⟩
    obtain ⟨ss, hss⟩ : ∃ n, n = s.taken.size := ⟨_, rfl⟩
    have HSX : Hid (sx = x.taken.size ∧ ss = s.taken.size) := ⟨hsx, hss⟩
    have HSS : Hid (sx = ss + 1 ∧ 0 ≤ ss ∧ ss ≤ 100000) := by
      have h1 := HTW.out.2.2
      have h2 := Sp.size_range s.taken
      have h3 := Vs.out.len
      rw [hsx, hss]
      exact ⟨h1, h2.1, by omega⟩
    clear hsx hss
    refine onlyH (o := ?o160) 10 (by kernel_rfl) ?h160 ?r160
    case h160 => simp only [aT, aS, aZ]; rfl
    intro K hK
    refine op_call1 23 _ _ Tryz.f23 (fun v w' => v = .int .i64 sx ∧ Below w38.heap.size w38 w') rfl rfl Tryz.func23 (by kernel_rfl) (by kernel_rfl) ((sizeImpl_any px nx kx x.taken Fx w38 Vx.out.rp (by have := Vx.out.l; omega)).mono (by rintro e w' ⟨rfl, hb⟩; exact ⟨_, rfl, by rw [HSX.out.1], hb⟩)) ?_
    rintro v w39 ⟨rfl, hb⟩
    have BEL : Hid (Below w.heap.size w w39) := Below.next BEL.out hb
    have Vs : Hid (VarQ gs s p1 n1 k1 F 8 w39) := Vs.out.below hb
    have Vx : Hid (VarQ gx x px nx kx Fx 9 w39) := Vx.out.below hb
    have Vy : Hid (VarQ gy x py ny ky Fy 9 w39) := Vy.out.below hb
    have Vu : Hid (VarQ gu u pu nu ku Fu 8 w39) := Vu.out.below hb
    have Vg : Hid (VarQ gg y pg ng kg Fg 8 w39) := Vg.out.below hb
    have Vr : Hid (VarQ gr q pr nr kr Fr 8 w39) := Vr.out.below hb
    clear hb
    refine ⟨_, by simp [Act.put]; rfl, hK _ _ ⟨⟨Vs.out.blk, Vx.out.blk, Vu.out.blk, Vg.out.blk, Vr.out.blk⟩, ?_⟩⟩
    clear hK
    refine onlyH (o := ?o161) 13 (by kernel_rfl) ?h161 ?r161
    case h161 => simp only [aT, aS, aZ]; rfl
    intro K hK
    refine op_call1 23 _ _ Tryz.f23 (fun v w' => v = .int .i64 ss ∧ Below w39.heap.size w39 w') rfl rfl Tryz.func23 (by kernel_rfl) (by kernel_rfl) ((sizeImpl_any p1 n1 k1 s.taken F w39 Vs.out.rp (by have := Vs.out.l; omega)).mono (by rintro e w' ⟨rfl, hb⟩; exact ⟨_, rfl, by rw [HSX.out.2], hb⟩)) ?_
    rintro v w40 ⟨rfl, hb⟩
    have BEL : Hid (Below w.heap.size w w40) := Below.next BEL.out hb
    have Vs : Hid (VarQ gs s p1 n1 k1 F 8 w40) := Vs.out.below hb
    have Vx : Hid (VarQ gx x px nx kx Fx 9 w40) := Vx.out.below hb
    have Vy : Hid (VarQ gy x py ny ky Fy 9 w40) := Vy.out.below hb
    have Vu : Hid (VarQ gu u pu nu ku Fu 8 w40) := Vu.out.below hb
    have Vg : Hid (VarQ gg y pg ng kg Fg 8 w40) := Vg.out.below hb
    have Vr : Hid (VarQ gr q pr nr kr Fr 8 w40) := Vr.out.below hb
    clear hb
    refine ⟨_, by simp [Act.put]; rfl, hK _ _ ⟨⟨Vs.out.blk, Vx.out.blk, Vu.out.blk, Vg.out.blk, Vr.out.blk⟩, ?_⟩⟩
    clear hK
    have hs1 := HSS.out.2
    have hwz : IntKind.i64.wrap (ss + 1) = ss + 1 := wrapSe (by omega)
    refine takeH (o := ?o162) 14 (.int .i64 (ss + 1)) ?h162 ?r162
    case h162 => simp only [aT, aS, aZ]; rfl
    refine ⟨_, by simp [Act.put]; rfl, by kernel_rfl, by kernel_rfl, by kernel_rfl, fun _ _ _ h => h, (.inl ⟨rfl, fun W _ => by first | (go_simp; done) | (go_simp; exact hwz)⟩), ⟨Vs.out.blk, Vx.out.blk, Vu.out.blk, Vg.out.blk, Vr.out.blk⟩, ?_⟩
    clear hwz hs1
    obtain ⟨d15, hd15⟩ : ∃ d, d = (sx == ss + 1) := ⟨_, rfl⟩
    refine takeH (o := ?o163) 15 (.bool d15) ?h163 ?r163
    case h163 => simp only [aT, aS, aZ]; rfl
    refine ⟨_, by simp [Act.put]; rfl, by kernel_rfl, by kernel_rfl, by kernel_rfl, fun _ _ _ h => h, (.inl ⟨rfl, fun W _ => by rw [hd15]; go_simp⟩), ⟨Vs.out.blk, Vx.out.blk, Vu.out.blk, Vg.out.blk, Vr.out.blk⟩, ?_⟩
    obtain rfl : d15 = true := by rw [hd15, HSS.out.1]; simp
    clear hd15
    refine takeH (o := ?o164) 16 (.bool true) ?h164 ?r164
    case h164 => simp only [aT, aS, aZ]; rfl
    refine ⟨_, by simp [Act.put]; rfl, by kernel_rfl, by kernel_rfl, by kernel_rfl, fun _ _ _ h => h, (.inl ⟨rfl, fun W _ => by kernel_rfl⟩), ⟨Vs.out.blk, Vx.out.blk, Vu.out.blk, Vg.out.blk, Vr.out.blk⟩, ?_⟩
    refine takeH (o := ?o165) 17 (.bool true) ?h165 ?r165
    case h165 => simp only [aT, aS, aZ]; rfl
    refine ⟨_, by simp [Act.put]; rfl, by kernel_rfl, by kernel_rfl, by kernel_rfl, fun _ _ _ h => h, (.inl ⟨rfl, fun W _ => by kernel_rfl⟩), ⟨Vs.out.blk, Vx.out.blk, Vu.out.blk, Vg.out.blk, Vr.out.blk⟩, ?_⟩
    refine takeH (o := ?o166) 18 (.int .i64 sq) ?h166 ?r166
    case h166 => simp only [aT, aS, aZ]; rfl
    refine ⟨_, by simp [Act.put]; rfl, by kernel_rfl, by kernel_rfl, by kernel_rfl, fun _ _ _ h => h, (.inl ⟨rfl, fun W _ => by kernel_rfl⟩), ⟨Vs.out.blk, Vx.out.blk, Vu.out.blk, Vg.out.blk, Vr.out.blk⟩, ?_⟩
    refine takeH (o := ?o167) 19 (.pointer (some ⟨gs, 1, none⟩)) ?h167 ?r167
    case h167 => simp only [aT, aS, aZ]; rfl
    refine ⟨_, by simp [Act.put]; rfl, by kernel_rfl, by kernel_rfl, by kernel_rfl, fun _ _ _ h => h, (.inl ⟨rfl, fun W _ => by kernel_rfl⟩), ⟨Vs.out.blk, Vx.out.blk, Vu.out.blk, Vg.out.blk, Vr.out.blk⟩, ?_⟩
    refine takeH (o := ?o168) 20 (.int .i64 s.granted) ?h168 ?r168
    case h168 => simp only [aT, aS, aZ]; rfl
    refine ⟨_, by simp [Act.put]; rfl, by kernel_rfl, by kernel_rfl, by kernel_rfl, fun _ _ _ h => h, (.inl ⟨rfl, fun W hW => by have c := hW.1.cell 1; simp only [aT, aS, aZ] at c; go_simp⟩), ⟨Vs.out.blk, Vx.out.blk, Vu.out.blk, Vg.out.blk, Vr.out.blk⟩, ?_⟩
    obtain ⟨d21, hd21⟩ : ∃ d, d = decide (sq ≤ s.granted) := ⟨_, rfl⟩
    refine takeH (o := ?o169) 21 (.bool d21) ?h169 ?r169
    case h169 => simp only [aT, aS, aZ]; rfl
    refine ⟨_, by simp [Act.put]; rfl, by kernel_rfl, by kernel_rfl, by kernel_rfl, fun _ _ _ h => h, (.inl ⟨rfl, fun W _ => by rw [hd21]; go_simp⟩), ⟨Vs.out.blk, Vx.out.blk, Vu.out.blk, Vg.out.blk, Vr.out.blk⟩, ?_⟩
    obtain rfl : d21 = true := by rw [hd21]; exact decide_eq_true HN.out.2.2.2.2.1
    clear hd21
    refine takeH (o := ?o170) 22 (.bool true) ?h170 ?r170
    case h170 => simp only [aT, aS, aZ]; rfl
    refine ⟨_, by simp [Act.put]; rfl, by kernel_rfl, by kernel_rfl, by kernel_rfl, fun _ _ _ h => h, (.inl ⟨rfl, fun W _ => by kernel_rfl⟩), ⟨Vs.out.blk, Vx.out.blk, Vu.out.blk, Vg.out.blk, Vr.out.blk⟩, ?_⟩
    refine takeH (o := ?o171) 23 (.bool true) ?h171 ?r171
    case h171 => simp only [aT, aS, aZ]; rfl
    refine ⟨_, by simp [Act.put]; rfl, by kernel_rfl, by kernel_rfl, by kernel_rfl, fun _ _ _ h => h, (.inl ⟨rfl, fun W _ => by kernel_rfl⟩), ⟨Vs.out.blk, Vx.out.blk, Vu.out.blk, Vg.out.blk, Vr.out.blk⟩, ?_⟩
    refine takeH (o := ?o172) 24 (.int .i64 ep) ?h172 ?r172
    case h172 => simp only [aT, aS, aZ]; rfl
    refine ⟨_, by simp [Act.put]; rfl, by kernel_rfl, by kernel_rfl, by kernel_rfl, fun _ _ _ h => h, (.inl ⟨rfl, fun W _ => by kernel_rfl⟩), ⟨Vs.out.blk, Vx.out.blk, Vu.out.blk, Vg.out.blk, Vr.out.blk⟩, ?_⟩
    refine takeH (o := ?o173) 25 (.pointer (some ⟨gs, 0, none⟩)) ?h173 ?r173
    case h173 => simp only [aT, aS, aZ]; rfl
    refine ⟨_, by simp [Act.put]; rfl, by kernel_rfl, by kernel_rfl, by kernel_rfl, fun _ _ _ h => h, (.inl ⟨rfl, fun W _ => by kernel_rfl⟩), ⟨Vs.out.blk, Vx.out.blk, Vu.out.blk, Vg.out.blk, Vr.out.blk⟩, ?_⟩
    refine takeH (o := ?o174) 26 (.int .i64 s.epoch) ?h174 ?r174
    case h174 => simp only [aT, aS, aZ]; rfl
    refine ⟨_, by simp [Act.put]; rfl, by kernel_rfl, by kernel_rfl, by kernel_rfl, fun _ _ _ h => h, (.inl ⟨rfl, fun W hW => by have c := hW.1.cell 0; simp only [aT, aZ] at c; go_simp⟩), ⟨Vs.out.blk, Vx.out.blk, Vu.out.blk, Vg.out.blk, Vr.out.blk⟩, ?_⟩
    obtain ⟨d27, hd27⟩ : ∃ d, d = (ep == s.epoch) := ⟨_, rfl⟩
    refine takeH (o := ?o175) 27 (.bool d27) ?h175 ?r175
    case h175 => simp only [aT, aS, aZ]; rfl
    refine ⟨_, by simp [Act.put]; rfl, by kernel_rfl, by kernel_rfl, by kernel_rfl, fun _ _ _ h => h, (.inl ⟨rfl, fun W _ => by rw [hd27]; go_simp⟩), ⟨Vs.out.blk, Vx.out.blk, Vu.out.blk, Vg.out.blk, Vr.out.blk⟩, ?_⟩
    obtain rfl : d27 = true := by rw [hd27, HN.out.2.2.1]; simp
    clear hd27
    refine takeH (o := ?o176) 28 (.bool true) ?h176 ?r176
    case h176 => simp only [aT, aS, aZ]; rfl
    refine ⟨_, by simp [Act.put]; rfl, by kernel_rfl, by kernel_rfl, by kernel_rfl, fun _ _ _ h => h, (.inl ⟨rfl, fun W _ => by kernel_rfl⟩), ⟨Vs.out.blk, Vx.out.blk, Vu.out.blk, Vg.out.blk, Vr.out.blk⟩, ?_⟩
    refine takeH (o := ?o177) 29 (.bool true) ?h177 ?r177
    case h177 => simp only [aT, aS, aZ]; rfl
    refine ⟨_, by simp [Act.put]; rfl, by kernel_rfl, by kernel_rfl, by kernel_rfl, fun _ _ _ h => h, (.inl ⟨rfl, fun W _ => by kernel_rfl⟩), ⟨Vs.out.blk, Vx.out.blk, Vu.out.blk, Vg.out.blk, Vr.out.blk⟩, ?_⟩
    refine wpAnyH_done (by kernel_rfl) ?_ _
    go_wp2
    go_ret
    exact ⟨rfl, BEL.out⟩
set_option maxRecDepth 100000
theorem contract (H : Type) (enc : TypeId × Value → H) (W : World) (base : Nat) (args : Array Value) (ds gs : List (DataW H)) (before : List MemPlace)
    (hval0 : ∀ (j : Nat) t v, Tryz.f4.params[j]? = some t → args[j]? = some v → Value.okWide Tryz.prog W .any base t v)
    (hW : DataW.Whole enc Tryz.prog Tryz.f4.params.toList Rows.fnSeatsSpec.vars false W args.toList ds gs before) (hL : laidMetH Tryz.prog Rows.fnSeatsRow.laid W) :
    Calls Tryz.prog 4 args W fun e W' => ∃ v, e = .returned v ∧ Rows.fnSeatsSpec.post enc Tryz.prog Tryz.f4 false true false false W args v W' := by
  have hval := hval0
  have hW' := hW
  obtain ⟨p, q, hA0, hV, rfl, hfz, hnd⟩ := hW
  have hA : DataW.TrodAll enc Tryz.prog W 0 (fun _ => true) true Tryz.f4.params.toList args.toList ds p := hA0
  rw [Tryz.params4] at hA hval
  obtain ⟨v0, vs0, d0, ds0, p0, q0, hargs, rfl, rfl, h0, r0⟩ := trodAll_cons hA
  obtain ⟨rfl, rfl, rfl⟩ := trodAll_nil r0
  obtain rfl : args = #[v0] := by cases args; simp_all
  obtain ⟨rfl, rfl⟩ := trodVars_none hV
  obtain ⟨a0, len0, cap0, rfl⟩ := okWide_slice Tryz.underlying22 (hval 0 22 v0 rfl rfl)
  have k0 := h0
  have lt0 : ∀ x ∈ p0, x.block < W.heap.size := by obtain ⟨m, hm⟩ := k0; exact DataW.trod_lt m _ _ _ hm
  obtain ⟨z0, w0⟩ : ∃ zs, RdB W a0 len0 zs := by
    obtain ⟨fuel, hf⟩ := h0
    rcases open_ints Tryz.underlying22 Tryz.underlying5 (by kernel_rfl) hf with ⟨hcs, _⟩ | ⟨x, l, c, zs, hcs, _, hl, hm, hz, _, hcell, hwz⟩
    · simp [Value.cells] at hcs
      obtain ⟨rfl, rfl, rfl⟩ := hcs
      exact ⟨_, (rdOf (zs := []) (cap := 0) (.inl ⟨rfl, rfl, rfl, rfl⟩)).1⟩
    · simp [Value.cells] at hcs
      obtain ⟨rfl, rfl, rfl⟩ := hcs
      exact ⟨_, (rdOf (zs := zs) (cap := cap0) (.inr ⟨_, rfl, hl, hm, by simpa using hz, hcell, hwz⟩)).1⟩
  clear hA0 hval0
  refine (walk a0 len0 cap0 z0 W w0 (table hL) (handle hL)).mono fun e W' ⟨he, bel⟩ => ?_
  subst he
  exact ⟨_, rfl, _, _, _, [], _, [], hW', trodAll_mk1 (shut_bool Tryz.underlying4 _), (trodAll_cons_mk (Below.trod laid0 (by kernel_rfl) (of_decide_eq_true (by kernel_rfl)) k0 bel lt0) trodAll_mk0), rfl, bel.frame _, fun h => by cases h⟩
/-- The cells that a table's datum stands for. -/
def cellsOfData : DataW Unit → Array Value
  | .agg l => (l.map fun d => match d with | .lit (.int k n) => Value.int k n | _ => undef).toArray
  | _ => #[]
def setBlock (cs : Array Value) : Obj → Obj
  | .cells _ t frozen => .cells cs t frozen
  | o => o
/-- A world for the witness: the settled one, each table holding what its initialiser lays. -/
noncomputable def laidWorld (os : Os) : World :=
  { World.holding Tryz.prog os ⟨#[], #[], []⟩ with heap := ((((World.holding Tryz.prog os ⟨#[], #[], []⟩).heap.modify 2 (setBlock (cellsOfData Rows.laid_internal_strconv_uint64pow10))).modify 3 (setBlock (cellsOfData Rows.laid_math_bits_deBruijn32tab))).modify 4 (setBlock (cellsOfData Rows.laid_math_bits_deBruijn64tab))).modify 0 (setBlock #[.iface 147 (.agg #[.pointer (some ⟨5, 88, none⟩)])]) }
theorem gDb32 : Tryz.prog.globalNamed "math/bits.deBruijn32tab" = some 3 := by kernel_rfl
theorem gDb64 : Tryz.prog.globalNamed "math/bits.deBruijn64tab" = some 4 := by kernel_rfl
theorem laid_met0 (os : Os) : laidMet Tryz.prog (Rows.fnSeatsRow.laid.filter fun x => x.2.handleName?.isNone) ((laidWorld os).forCall (fun _ _ => 0) ⟨#[], #[.slice none 0 0], []⟩).memory :=
  laidMet_of_run' 8 (by kernel_rfl) (by kernel_rfl)
theorem laid_met (os : Os) : laidMetH Tryz.prog Rows.fnSeatsRow.laid ((laidWorld os).forCall (fun _ _ => 0) ⟨#[], #[.slice none 0 0], []⟩).memory :=
  laidMetH_of_parts (laid_met0 os) (by kernel_rfl)
theorem reads (os : Os) {H : Type} (enc : TypeId × Value → H) : ∃ places, DataW.whole enc Tryz.prog ((laidWorld os).forCall (fun _ _ => 0) ⟨#[], #[.slice none 0 0], []⟩).memory Tryz.f4.params.toList Rows.fnSeatsSpec.vars false #[Value.slice none 0 0].toList 8 = some ([.nil], [], places) :=
  ⟨[], by kernel_rfl⟩

set_option maxRecDepth 100000 in
theorem lifted (os : Os) (started : os.Started) (H : Type) (enc : TypeId × Value → H) (F : Stop.Interp) :
    ReturnsInHanded {} Tryz.checked os 4 .any ((OpenSpec.ofChange Rows.fnSeatsSpec).preRow enc Tryz.prog Tryz.f4 Rows.fnSeatsRow.domain false Rows.fnSeatsRow.laid) (((OpenSpec.ofChange Rows.fnSeatsSpec).at F).post enc Tryz.prog Tryz.f4 false true false false) := by
  obtain ⟨places, hx⟩ := reads os enc
  refine returnsInHanded_of_row (C := Tryz.checked) (s := OpenSpec.ofChange Rows.fnSeatsSpec) own started (by kernel_rfl) Tryz.func4
    (witness_row_at (enc := enc) (C := Tryz.checked) false (laidWorld os) #[.slice none 0 0] rfl (by kernel_rfl) (by kernel_rfl) (by kernel_rfl)
      (OpenSpec.preRow_of_cond 8 hx (by kernel_rfl) (fun k hk => by cases hk) (by kernel_rfl) (laid_met os))) ?_
  intro W base args ds gs before hval hW _ _ _ hL _ _
  exact contract H enc W base args ds gs before hval hW hL

theorem said : Rows.FnSeatsSaid :=
  OpenClaim.holds_of_cond 4 Tryz.f4 rfl rfl rfl rfl rfl rfl rfl ⟨rfl, rfl, rfl, rfl, rfl⟩ rfl rfl rfl rfl rfl (by kernel_rfl) Tryz.func4 (by kernel_rfl)
    (of_decide_eq_true (by kernel_rfl)) (by unfold Func.isWrapper; first | (rw [if_pos (by decide +kernel)]; kernel_rfl) | (rw [if_neg (by decide +kernel)]; exact ⟨rfl, rfl⟩))
    (fun os started H enc _ F => by rw [OpenClaim.pre_eq_preRow]; exact lifted os started H enc F)

theorem plain (f : FuncId) (fn : Func) (hf : Tryz.pinned.checked.prog.funcNamed "loop.example/g00491/laws.FnSeats" = some f) (hfn : Tryz.pinned.checked.prog.funcs[f]? = some fn) :
    true = Tryz.pinned.checked.prog.looks [] ∧ ∀ (j : Nat) t, fn.params[j]? = some t → Tryz.pinned.checked.prog.wantsStandIn t = false := by
  obtain rfl : f = 4 := Option.some.inj ((show Tryz.prog.funcNamed "loop.example/g00491/laws.FnSeats" = some 4 by kernel_rfl).symm.trans hf) |>.symm
  obtain rfl : fn = Tryz.f4 := (Option.some.inj (Tryz.func4.symm.trans hfn)).symm
  refine ⟨by kernel_rfl, fun j t ht => ?_⟩
  rw [Tryz.params4] at ht
  obtain rfl : t = 22 := by simpa using Array.mem_of_getElem? ht
  exact (show Tryz.prog.wantsStandIn 22 = false by kernel_rfl)

theorem proved : Rows.FnSeatsCardSaid :=
  Claim7.holds_tied_plain_at .later [] _ _ _ _ said (fun _ h => by cases h) (by kernel_rfl) (fun _ h => by cases h) fnSeats_row_tie rfl ⟨rfl, rfl⟩ (by kernel_rfl) rfl plain (by kernel_rfl)
#print axioms proved
end Go.Proofs.YtgkbhhlkaifnoaaGreatDoor.fnSeats
