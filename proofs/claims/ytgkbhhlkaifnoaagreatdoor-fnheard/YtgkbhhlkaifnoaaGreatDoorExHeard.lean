/- For every byte slice (no condition): laws.FnHeard returns true, and its argument reads afterwards as it did: what an agent does with a frame is the model's; hearing it again changes nothing; the library's tables start as the program's text lays them (the card ties them). -/
import Derived.Test.YtgkbhhlkaifnoaaGreatDoorCards
import Derived.Test.YtgkbhhlkaifnoaaGreatDoorTie
import Derived.Test.YtgkbhhlkaifnoaaGreatDoorLawBase
import Derived.Test.YtgkbhhlkaifnoaaGreatDoorB5
import Derived.Test.YtgkbhhlkaifnoaaGreatDoorB3
import Derived.Test.YtgkbhhlkaifnoaaGreatDoorB6
import Derived.ProofKit
import Derived.OpenShut
import Derived.ShutString
import Derived.Below
import Derived.LaidSub
import Derived.LaidHandle
import Derived.Deep.DeepHandedRow
import Derived.Deep.DeepCutAuto
namespace Go.Proofs.YtgkbhhlkaifnoaaGreatDoor.fnHeard
open Go.ChangeShapes Go.WideShapes Go.ChangeAt Go.RowKit
set_option linter.unusedVariables false
theorem own : ownKnob Tryz.prog.godebug = none := by kernel_rfl
theorem gTab : Tryz.prog.globalNamed "internal/strconv.uint64pow10" = some 2 := by kernel_rfl
theorem gTabType : (Tryz.prog.globals[2]?).map (·.type) = some 191 := by kernel_rfl
theorem cellsA : Tryz.prog.cellsOf 191 = 20 := by kernel_rfl
theorem cellsE : Tryz.prog.cellsOf 182 = 1 := by kernel_rfl
/-- What the row's list gives: the table's cells hold its twenty numbers. -/
theorem table {W : World} (h : laidMetH Tryz.prog Rows.fnHeardRow.laid W) : Lib.TabIs Tryz.prog W "internal/strconv.uint64pow10" .u64 Lib.pow10Tab := by
  have h3 := laidMetH.filter (fun x => x.1 == "internal/strconv.uint64pow10") h
  have e : Rows.fnHeardRow.laid.filter (fun x => x.1 == "internal/strconv.uint64pow10") = [("internal/strconv.uint64pow10", Rows.laid_internal_strconv_uint64pow10)] := by kernel_rfl
  rw [e] at h3
  exact Lib.tabIs_of_head (rest := []) gTab gTabType Tryz.underlying191 Tryz.underlying182 cellsE cellsA h3

theorem laid0 : laidOutB Tryz.prog = true := by kernel_rfl
/-- An agent in a variable. -/
structure VarA (g : Nat) (x : Ag) (b1 : Option Addr) (n1 c1 : Nat) (b2 : Option Addr) (n2 c2 : Nat) (F G : List Nat) (W : World) : Prop where
  blk : Blk W g #[.int .i64 x.id, .int .i64 x.epoch, .bool x.live, .int .i64 x.granted, .slice b1 n1 c1, .slice b2 n2 c2, .int .i64 x.next] 27
  rl : RdL itK W b1 n1 x.sealed F
  rp : RdP W b2 n2 x.taken G
  k1 : Capd b1 n1 c1
  k2 : Capd b2 n2 c2
section
variable {g : Nat} {x : Ag} {b1 : Option Addr} {n1 c1 : Nat} {b2 : Option Addr} {n2 c2 : Nat} {F G : List Nat} {W W' : World}
theorem VarA.below (h : VarA g x b1 n1 c1 b2 n2 c2 F G W) (k : Below W.heap.size W W') : VarA g x b1 n1 c1 b2 n2 c2 F G W' := ⟨h.blk.below k, h.rl.agree (.below k h.rl.lt), h.rp.below k, h.k1, h.k2⟩
theorem VarA.rd (h : VarA g x b1 n1 c1 b2 n2 c2 F G W) : RdAg W (.agg #[.int .i64 x.id, .int .i64 x.epoch, .bool x.live, .int .i64 x.granted, .slice b1 n1 c1, .slice b2 n2 c2, .int .i64 x.next]) x F G := ⟨b1, n1, c1, b2, n2, c2, rfl, h.rl, h.rp, h.k1, h.k2⟩
end
theorem infoAgL : (Tryz.prog.info? 27).map (·.size) = some 7 := by kernel_rfl
theorem infoFrL : (Tryz.prog.info? 35).map (·.size) = some 16 := by kernel_rfl
theorem fit_in64 {ps : Sp} (h : ps.fit) : ps.in64 := fun p hp => h p hp
theorem Ag.hear_sealed (x : Ag) (f : Fr) : (x.hear f).1.sealed = x.sealed := by
  unfold Ag.hear
  split
  · rfl
  split
  · rfl
  split <;> rfl
theorem Ag.hear_len (x : Ag) (f : Fr) : (x.hear f).1.taken.length ≤ x.taken.length + f.taken.length := by
  have h := joinTo_length (ps := x.taken) (qs := f.taken) f.taken.length (Nat.le_refl _)
  unfold Ag.hear
  split
  · show x.taken.length ≤ _; omega
  split
  · show x.taken.length ≤ _; omega
  split
  · exact h
  · exact h
theorem Ag.hear_not {x z : Ag} {f : Fr} {c : Int} (h : x.hear f = (z, c)) (hc : ¬ c = 0) : z = x := by
  unfold Ag.hear at h
  split at h
  · exact (Prod.mk.inj h).1.symm
  split at h
  · exact (Prod.mk.inj h).1.symm
  split at h
  · exact absurd (Prod.mk.inj h).2.symm hc
  · exact absurd (Prod.mk.inj h).2.symm hc
theorem hears_parts {x : Ag} {f : Fr} (h : x.hears f = true) : x.ok = true ∧ f.ok = true ∧ 2 ≤ f.kind ∧ f.agent = x.id ∧ f.taken.ok = true ∧ f.taken.under x.sealed.length = true := by
  unfold Ag.hears at h
  simp only [Bool.and_eq_true, decide_eq_true_eq] at h
  exact ⟨h.1.1.1.1, h.1.1.1.2, h.1.1.2, h.1.2, h.2.1, h.2.2⟩
theorem under_has {ps : Sp} {m n : Int} (h : ps.under m = true) (hn : ps.has n = true) : 1 ≤ n ∧ n ≤ m := by
  unfold Sp.has at hn
  rw [List.any_eq_true] at hn
  obtain ⟨p, hp, e⟩ := hn
  obtain ⟨k, hk, rfl⟩ := List.getElem_of_mem hp
  have e := of_decide_eq_true e
  unfold Sp.under at h
  rw [List.all_eq_true] at h
  have u := of_decide_eq_true (h k (List.mem_range.2 hk))
  unfold Sp.at at u
  rw [List.getElem?_eq_getElem hk] at u
  simp only [Option.getD_some] at u
  omega
theorem under_of {ps : Sp} {m : Int} (h : ps.ok = true) (hn : ∀ n, ps.has n = true → 1 ≤ n ∧ n ≤ m) : ps.under m = true :=
  Sp.under_all (fun k hk => by
    have p := (Sp.okAt_parts (Sp.ok_at h k hk)).1
    exact ⟨(hn _ (Sp.has_at hk ⟨Int.le_refl _, p.2.1⟩)).1, (hn _ (Sp.has_at hk ⟨p.2.1, Int.le_refl _⟩)).2⟩)
theorem under_join {ps qs : Sp} {m : Int} (h1 : ps.ok = true) (h2 : qs.ok = true) (u1 : ps.under m = true) (u2 : qs.under m = true) : (joinTo ps qs qs.length).ok = true ∧ (joinTo ps qs qs.length).under m = true := by
  obtain ⟨j1, j2⟩ := join_ok (ok_iff.1 h1) (ok_iff.1 h2)
  have hk : (joinTo ps qs qs.length).ok = true := ok_iff.2 j1
  exact ⟨hk, under_of hk (fun n hn => (( j2 n).1 hn).elim (fun q => under_has u1 q) (fun q => under_has u2 q))⟩
/-- What an agent is that heard. -/
structure Heard (x : Ag) (f : Fr) (z : Ag) : Prop where
  ok : z.ok = true
  epoch : x.epoch ≤ z.epoch
  join : z.taken = x.taken.join f.taken
  inb : ∀ p ∈ z.taken, InB p
  last : z.epoch > x.epoch ∨ f.kind = 3 ∨ x.granted ≤ z.granted
theorem Ag.hear_zero {x z : Ag} {f : Fr} (h : x.hear f = (z, 0)) : Heard x f z ∧ (z.hear f).2 = 0 ∧ (z.hear f).1.granted = z.granted ∧ (z.hear f).1.live = z.live ∧ (z.hear f).1.epoch = z.epoch := by
  unfold Ag.hear at h
  split at h
  · exact absurd (Prod.mk.inj h).2 (by omega)
  rename_i hh
  have hp := hears_parts (by simpa using hh)
  obtain ⟨xo, fo, fk, fa, fto, ftu⟩ := hp
  split at h
  · exact absurd (Prod.mk.inj h).2 (by omega)
  rename_i he
  have fr := Fr.ok_right fo
  have xp := xo
  rw [Ag.ok_prog] at xp
  simp only [Bool.and_eq_true, decide_eq_true_eq] at xp
  obtain ⟨⟨⟨⟨⟨x1, x2⟩, x3⟩, x4⟩, x5⟩, x6, x7, x8⟩ := xp
  obtain ⟨jo, ju⟩ := under_join x7 fto x8 ftu
  have jj : x.taken.join f.taken = joinTo x.taken f.taken f.taken.length := Sp.join_yes x7 fto
  have f1 := fr.kind; have f2 := fr.epoch; have f3 := fr.granted
  split at h
  · rename_i hk
    have hz := (Prod.mk.inj h).1
    subst hz
    have zo : (Ag.mk x.id x.epoch true (max x.granted f.granted) x.sealed (joinTo x.taken f.taken f.taken.length) x.next).ok = true := by
      rw [Ag.ok_prog]
      show (decide (0 ≤ x.id ∧ x.id ≤ 2) && decide (0 ≤ x.epoch ∧ x.epoch ≤ 1000) && decide (0 ≤ max x.granted f.granted ∧ max x.granted f.granted ≤ 60) && decide (0 ≤ x.next ∧ x.next ≤ 60) && (true || decide (max x.granted f.granted ≤ 0)) && (itsOk x.sealed && ((joinTo x.taken f.taken f.taken.length).ok && (joinTo x.taken f.taken f.taken.length).under x.sealed.length))) = true
      rw [decide_eq_true x1, decide_eq_true x2, decide_eq_true x4, x6, jo, ju, decide_eq_true (show 0 ≤ max x.granted f.granted ∧ max x.granted f.granted ≤ 60 by omega)]
      rfl
    have zh : (Ag.mk x.id x.epoch true (max x.granted f.granted) x.sealed (joinTo x.taken f.taken f.taken.length) x.next).hears f = true := by
      unfold Ag.hears
      rw [zo, fo, decide_eq_true fk, decide_eq_true (show f.agent = x.id from fa), fto]
      exact ftu
    refine ⟨⟨zo, Int.le_refl _, jj.symm, inb_ok jo, .inr (.inr (by show x.granted ≤ max x.granted f.granted; omega))⟩, ?_⟩
    unfold Ag.hear
    rw [if_neg (by rw [zh]; simp), if_neg (show ¬ f.epoch < x.epoch from he), if_pos (show f.kind = 2 ∧ f.epoch = x.epoch from hk)]
    exact ⟨rfl, by show max (max x.granted f.granted) f.granted = max x.granted f.granted; omega, rfl, rfl⟩
  · rename_i hk
    have hz := (Prod.mk.inj h).1
    subst hz
    have hge : x.epoch ≤ f.epoch := by omega
    have zo : (Ag.mk x.id f.epoch (decide (f.kind = 2)) (if f.kind = 2 then f.granted else 0) x.sealed (joinTo x.taken f.taken f.taken.length) x.next).ok = true := by
      rw [Ag.ok_prog]
      show (decide (0 ≤ x.id ∧ x.id ≤ 2) && decide (0 ≤ f.epoch ∧ f.epoch ≤ 1000) && decide (0 ≤ (if f.kind = 2 then f.granted else 0) ∧ (if f.kind = 2 then f.granted else 0) ≤ 60) && decide (0 ≤ x.next ∧ x.next ≤ 60) && (decide (f.kind = 2) || decide ((if f.kind = 2 then f.granted else 0) ≤ 0)) && (itsOk x.sealed && ((joinTo x.taken f.taken f.taken.length).ok && (joinTo x.taken f.taken f.taken.length).under x.sealed.length))) = true
      rw [decide_eq_true x1, decide_eq_true f2, decide_eq_true x4, x6, jo, ju, decide_eq_true (show 0 ≤ (if f.kind = 2 then f.granted else 0) ∧ (if f.kind = 2 then f.granted else 0) ≤ 60 by split <;> omega)]
      by_cases h2 : f.kind = 2
      · rw [decide_eq_true h2]; rfl
      · rw [if_neg h2, decide_eq_false h2]; rfl
    have zh : (Ag.mk x.id f.epoch (decide (f.kind = 2)) (if f.kind = 2 then f.granted else 0) x.sealed (joinTo x.taken f.taken f.taken.length) x.next).hears f = true := by
      unfold Ag.hears
      rw [zo, fo, decide_eq_true fk, decide_eq_true (show f.agent = x.id from fa), fto]
      exact ftu
    refine ⟨⟨zo, hge, jj.symm, inb_ok jo, ?_⟩, ?_⟩
    · by_cases h2 : f.kind = 2
      · exact .inl (by show f.epoch > x.epoch; have := fun e => hk ⟨h2, e⟩; omega)
      · exact .inr (.inl (by omega))
    unfold Ag.hear
    rw [if_neg (by rw [zh]; simp), if_neg (show ¬ f.epoch < f.epoch by omega)]
    by_cases h2 : f.kind = 2
    · rw [if_pos (show f.kind = 2 ∧ f.epoch = f.epoch from ⟨h2, rfl⟩)]
      exact ⟨rfl, by show max (if f.kind = 2 then f.granted else 0) f.granted = (if f.kind = 2 then f.granted else 0); rw [if_pos h2]; omega, by show true = decide (f.kind = 2); rw [decide_eq_true h2], rfl⟩
    · rw [if_neg (show ¬ (f.kind = 2 ∧ f.epoch = f.epoch) from fun q => h2 q.1)]
      exact ⟨rfl, rfl, rfl, rfl⟩
theorem exec_eqStrS {a : Act} {o : Oper} {x y : Operand} {s : ByteArray} {W : World} (ho : o.op = .binOp .eql 9 x y 9) (hx : a.eval x = .string s) (hy : a.eval y = .string s) : (execOp a.eval o).run Tryz.prog W = .ok (.value (.bool true)) W := by
  unfold execOp
  simp only [ho, hx, hy]
  go_simp
set_option maxRecDepth 200000 in
set_option maxHeartbeats 16000000 in
theorem walk (a0 : Option Addr) (len0 cap0 : Nat) (zs : List Int) (w : World) (hR : RdB w a0 len0 zs) (ht : TabAt w) :
    Calls Tryz.prog 3 #[.slice a0 len0 cap0] w fun e w' => e = .returned (.bool true) ∧ Below w.heap.size w w' := by
  have HTAB : Hid (TabAt w) := ht
  clear ht
  have HR : Hid (RdB w a0 len0 zs) := hR
  clear hR
  go_enter Tryz.func3, Tryz.ntmps3
  go_wp2_with fail
  refine (big_any a0 len0 cap0 _).mono ?_
  rintro e w1 ⟨rfl, hw1⟩
  have hw1' := hw1.symm
  subst hw1'
  clear hw1
  by_cases hbig : 1048576 < len0
  · have hd : decide ((1048576 : Int) < (len0 : Int)) = true := by simpa using (by omega : (1048576 : Int) < (len0 : Int))
    rw [hd]
    clear hd
    go_wp2
    go_ret
    exact ⟨rfl, Below.refl _ _⟩
  have hd : decide ((1048576 : Int) < (len0 : Int)) = false := by simpa using (by omega : (len0 : Int) ≤ (1048576 : Int))
  have hlen : len0 ≤ 1048576 := by omega
  rw [hd]
  clear hd hbig
  have BEL : Hid (Below w.heap.size w w) := Below.refl _ _
  go_wp2_with fail
  refine (drawAgentHear_any a0 len0 cap0 zs _ HR.out hlen).mono ?_
  rintro e w1 ⟨va, vf, a, f, F, G, F', G', rfl, ra, rf, hsa, hsf, b1⟩
  obtain ⟨a1, n1, c1, a2, n2, c2, rfl, rla, rpa, kaa, kba⟩ := ra
  obtain ⟨bt, lt, ct, p1, m1, e1, p2, m2, e2, p3, m3, e3, rfl, kP, kI, kc⟩ := rf
  have BEL : Hid (Below w.heap.size w w1) := Below.next BEL.out b1
  have HSA : Hid ((∀ y ∈ a.sealed, y.sk.fits) ∧ a.sealed.length ≤ 7 ∧ a.taken.length ≤ 8 ∧ a.taken.fit) := ⟨fun y hy => full_fitsG (hsa.1 y hy), hsa.2⟩
  have HSF : Hid (f.item.sk.wide ∧ f.taken.length ≤ 20) := hsf
  have HRA : Hid (RdL itK w1 a1 n1 a.sealed F ∧ RdP w1 a2 n2 a.taken G ∧ Capd a1 n1 c1 ∧ Capd a2 n2 c2) := ⟨rla, rpa, kaa, kba⟩
  have HRF : Hid (RdFr w1 (.agg #[.int .i64 f.kind, .int .i64 f.agent, .int .i64 f.epoch, .int .i64 f.granted, .slice bt lt ct, .int .i64 f.item.seq, .int .i64 f.item.cls, .int .i64 f.item.key, .int .i64 f.item.window, .int .i64 f.item.sk.count, .int .i64 f.item.sk.sum, .int .i64 f.item.sk.min, .int .i64 f.item.sk.max, .slice p1 m1 e1, .slice p2 m2 e2, .slice p3 m3 e3]) f F' G' ∧ RdP w1 bt lt f.taken F') := ⟨⟨bt, lt, ct, p1, m1, e1, p2, m2, e2, p3, m3, e3, rfl, kP, kI, kc⟩, kP⟩
  clear rla rpa kaa kba kP kI kc hsa hsf b1
  have HB : Hid (Blk ((w1.alloc (.cells #[.int .i64 0, .int .i64 0, .bool false, .int .i64 0, .slice none 0 0, .slice none 0 0, .int .i64 0] 27)).alloc (.cells #[.int .i64 0, .int .i64 0, .int .i64 0, .int .i64 0, .slice none 0 0, .int .i64 0, .int .i64 0, .int .i64 0, .int .i64 0, .int .i64 0, .int .i64 0, .int .i64 0, .int .i64 0, .slice none 0 0, .slice none 0 0, .slice none 0 0] 35)) w1.heap.size #[.int .i64 0, .int .i64 0, .bool false, .int .i64 0, .slice none 0 0, .slice none 0 0, .int .i64 0] 27 ∧ Blk ((w1.alloc (.cells #[.int .i64 0, .int .i64 0, .bool false, .int .i64 0, .slice none 0 0, .slice none 0 0, .int .i64 0] 27)).alloc (.cells #[.int .i64 0, .int .i64 0, .int .i64 0, .int .i64 0, .slice none 0 0, .int .i64 0, .int .i64 0, .int .i64 0, .int .i64 0, .int .i64 0, .int .i64 0, .int .i64 0, .int .i64 0, .slice none 0 0, .slice none 0 0, .slice none 0 0] 35)) (w1.heap.size + 1) #[.int .i64 0, .int .i64 0, .int .i64 0, .int .i64 0, .slice none 0 0, .int .i64 0, .int .i64 0, .int .i64 0, .int .i64 0, .int .i64 0, .int .i64 0, .int .i64 0, .int .i64 0, .slice none 0 0, .slice none 0 0, .slice none 0 0] 35 ∧ Below w1.heap.size w1 ((w1.alloc (.cells #[.int .i64 0, .int .i64 0, .bool false, .int .i64 0, .slice none 0 0, .slice none 0 0, .int .i64 0] 27)).alloc (.cells #[.int .i64 0, .int .i64 0, .int .i64 0, .int .i64 0, .slice none 0 0, .int .i64 0, .int .i64 0, .int .i64 0, .int .i64 0, .int .i64 0, .int .i64 0, .int .i64 0, .int .i64 0, .slice none 0 0, .slice none 0 0, .slice none 0 0] 35))) := ⟨(Blk.made _ _ _).alloc _, Blk.made_eq (by simp), Below.allocW _ (Below.allocW _ (Below.refl _ _) (Nat.le_refl _)) (Nat.le_refl _)⟩
  go_wp2_with (first | go_skip | (with_reducible refine stopLoad 27 rfl ?_) | (with_reducible refine stopStore 27 rfl ?_) | (with_reducible refine stopLoad 35 rfl ?_) | (with_reducible refine stopStore 35 rfl ?_))
  refine store_known 27 w1.heap.size _ #[.int .i64 a.id, .int .i64 a.epoch, .bool a.live, .int .i64 a.granted, .slice a1 n1 c1, .slice a2 n2 c2, .int .i64 a.next] 27 HB.out.1 rfl rfl rfl rfl infoAgL rfl (by simp [Value.oneCell']) ?_
  go_wp2_with (first | go_skip | (with_reducible refine stopLoad 27 rfl ?_) | (with_reducible refine stopStore 27 rfl ?_) | (with_reducible refine stopLoad 35 rfl ?_) | (with_reducible refine stopStore 35 rfl ?_))
  refine store_known 35 (w1.heap.size + 1) _ #[.int .i64 f.kind, .int .i64 f.agent, .int .i64 f.epoch, .int .i64 f.granted, .slice bt lt ct, .int .i64 f.item.seq, .int .i64 f.item.cls, .int .i64 f.item.key, .int .i64 f.item.window, .int .i64 f.item.sk.count, .int .i64 f.item.sk.sum, .int .i64 f.item.sk.min, .int .i64 f.item.sk.max, .slice p1 m1 e1, .slice p2 m2 e2, .slice p3 m3 e3] 35 (HB.out.2.1.setRowOther (by omega)) rfl rfl rfl rfl infoFrL rfl (by simp [Value.oneCell']) ?_
  have hb : Below w1.heap.size w1 ((((w1.alloc (.cells #[.int .i64 0, .int .i64 0, .bool false, .int .i64 0, .slice none 0 0, .slice none 0 0, .int .i64 0] 27)).alloc (.cells #[.int .i64 0, .int .i64 0, .int .i64 0, .int .i64 0, .slice none 0 0, .int .i64 0, .int .i64 0, .int .i64 0, .int .i64 0, .int .i64 0, .int .i64 0, .int .i64 0, .int .i64 0, .slice none 0 0, .slice none 0 0, .slice none 0 0] 35)).setRow w1.heap.size #[.int .i64 a.id, .int .i64 a.epoch, .bool a.live, .int .i64 a.granted, .slice a1 n1 c1, .slice a2 n2 c2, .int .i64 a.next]).setRow (w1.heap.size + 1) #[.int .i64 f.kind, .int .i64 f.agent, .int .i64 f.epoch, .int .i64 f.granted, .slice bt lt ct, .int .i64 f.item.seq, .int .i64 f.item.cls, .int .i64 f.item.key, .int .i64 f.item.window, .int .i64 f.item.sk.count, .int .i64 f.item.sk.sum, .int .i64 f.item.sk.min, .int .i64 f.item.sk.max, .slice p1 m1 e1, .slice p2 m2 e2, .slice p3 m3 e3]) := below_setRow (below_setRow HB.out.2.2 (Nat.le_refl _) _) (by omega) _
  have v1 : Blk ((((w1.alloc (.cells #[.int .i64 0, .int .i64 0, .bool false, .int .i64 0, .slice none 0 0, .slice none 0 0, .int .i64 0] 27)).alloc (.cells #[.int .i64 0, .int .i64 0, .int .i64 0, .int .i64 0, .slice none 0 0, .int .i64 0, .int .i64 0, .int .i64 0, .int .i64 0, .int .i64 0, .int .i64 0, .int .i64 0, .int .i64 0, .slice none 0 0, .slice none 0 0, .slice none 0 0] 35)).setRow w1.heap.size #[.int .i64 a.id, .int .i64 a.epoch, .bool a.live, .int .i64 a.granted, .slice a1 n1 c1, .slice a2 n2 c2, .int .i64 a.next]).setRow (w1.heap.size + 1) #[.int .i64 f.kind, .int .i64 f.agent, .int .i64 f.epoch, .int .i64 f.granted, .slice bt lt ct, .int .i64 f.item.seq, .int .i64 f.item.cls, .int .i64 f.item.key, .int .i64 f.item.window, .int .i64 f.item.sk.count, .int .i64 f.item.sk.sum, .int .i64 f.item.sk.min, .int .i64 f.item.sk.max, .slice p1 m1 e1, .slice p2 m2 e2, .slice p3 m3 e3]) w1.heap.size #[.int .i64 a.id, .int .i64 a.epoch, .bool a.live, .int .i64 a.granted, .slice a1 n1 c1, .slice a2 n2 c2, .int .i64 a.next] 27 := HB.out.1.setRow.setRowOther (by omega)
  have v2 : Blk ((((w1.alloc (.cells #[.int .i64 0, .int .i64 0, .bool false, .int .i64 0, .slice none 0 0, .slice none 0 0, .int .i64 0] 27)).alloc (.cells #[.int .i64 0, .int .i64 0, .int .i64 0, .int .i64 0, .slice none 0 0, .int .i64 0, .int .i64 0, .int .i64 0, .int .i64 0, .int .i64 0, .int .i64 0, .int .i64 0, .int .i64 0, .slice none 0 0, .slice none 0 0, .slice none 0 0] 35)).setRow w1.heap.size #[.int .i64 a.id, .int .i64 a.epoch, .bool a.live, .int .i64 a.granted, .slice a1 n1 c1, .slice a2 n2 c2, .int .i64 a.next]).setRow (w1.heap.size + 1) #[.int .i64 f.kind, .int .i64 f.agent, .int .i64 f.epoch, .int .i64 f.granted, .slice bt lt ct, .int .i64 f.item.seq, .int .i64 f.item.cls, .int .i64 f.item.key, .int .i64 f.item.window, .int .i64 f.item.sk.count, .int .i64 f.item.sk.sum, .int .i64 f.item.sk.min, .int .i64 f.item.sk.max, .slice p1 m1 e1, .slice p2 m2 e2, .slice p3 m3 e3]) (w1.heap.size + 1) #[.int .i64 f.kind, .int .i64 f.agent, .int .i64 f.epoch, .int .i64 f.granted, .slice bt lt ct, .int .i64 f.item.seq, .int .i64 f.item.cls, .int .i64 f.item.key, .int .i64 f.item.window, .int .i64 f.item.sk.count, .int .i64 f.item.sk.sum, .int .i64 f.item.sk.min, .int .i64 f.item.sk.max, .slice p1 m1 e1, .slice p2 m2 e2, .slice p3 m3 e3] 35 := (HB.out.2.1.setRowOther (by omega)).setRow
  obtain ⟨w2, hW2⟩ : ∃ Z, Z = ((((w1.alloc (.cells #[.int .i64 0, .int .i64 0, .bool false, .int .i64 0, .slice none 0 0, .slice none 0 0, .int .i64 0] 27)).alloc (.cells #[.int .i64 0, .int .i64 0, .int .i64 0, .int .i64 0, .slice none 0 0, .int .i64 0, .int .i64 0, .int .i64 0, .int .i64 0, .int .i64 0, .int .i64 0, .int .i64 0, .int .i64 0, .slice none 0 0, .slice none 0 0, .slice none 0 0] 35)).setRow w1.heap.size #[.int .i64 a.id, .int .i64 a.epoch, .bool a.live, .int .i64 a.granted, .slice a1 n1 c1, .slice a2 n2 c2, .int .i64 a.next]).setRow (w1.heap.size + 1) #[.int .i64 f.kind, .int .i64 f.agent, .int .i64 f.epoch, .int .i64 f.granted, .slice bt lt ct, .int .i64 f.item.seq, .int .i64 f.item.cls, .int .i64 f.item.key, .int .i64 f.item.window, .int .i64 f.item.sk.count, .int .i64 f.item.sk.sum, .int .i64 f.item.sk.min, .int .i64 f.item.sk.max, .slice p1 m1 e1, .slice p2 m2 e2, .slice p3 m3 e3]) := ⟨_, rfl⟩
  rw [← hW2] at hb v1 v2 ⊢
  obtain ⟨ga, hga⟩ : ∃ g, g = w1.heap.size := ⟨_, rfl⟩
  obtain ⟨gf, hgf⟩ : ∃ g, g = w1.heap.size + 1 := ⟨_, rfl⟩
  rw [← hgf] at v2 ⊢
  rw [← hga] at v1 ⊢
  have BEL : Hid (Below w.heap.size w w2) := Below.next BEL.out hb
  have Va : Hid (VarA ga a a1 n1 c1 a2 n2 c2 F G w2) := ⟨v1, HRA.out.1.agree (.below hb HRA.out.1.lt), HRA.out.2.1.below hb, HRA.out.2.2.1, HRA.out.2.2.2⟩
  have Vf : Hid (Blk w2 gf #[.int .i64 f.kind, .int .i64 f.agent, .int .i64 f.epoch, .int .i64 f.granted, .slice bt lt ct, .int .i64 f.item.seq, .int .i64 f.item.cls, .int .i64 f.item.key, .int .i64 f.item.window, .int .i64 f.item.sk.count, .int .i64 f.item.sk.sum, .int .i64 f.item.sk.min, .int .i64 f.item.sk.max, .slice p1 m1 e1, .slice p2 m2 e2, .slice p3 m3 e3] 35 ∧ RdFr w2 (.agg #[.int .i64 f.kind, .int .i64 f.agent, .int .i64 f.epoch, .int .i64 f.granted, .slice bt lt ct, .int .i64 f.item.seq, .int .i64 f.item.cls, .int .i64 f.item.key, .int .i64 f.item.window, .int .i64 f.item.sk.count, .int .i64 f.item.sk.sum, .int .i64 f.item.sk.min, .int .i64 f.item.sk.max, .slice p1 m1 e1, .slice p2 m2 e2, .slice p3 m3 e3]) f F' G' ∧ RdP w2 bt lt f.taken F') := ⟨v2, HRF.out.1.below hb, HRF.out.2.below hb⟩
  clear hb v1 v2 hW2 hga hgf HB HRA HRF
  obtain ⟨z, hz⟩ : ∃ z, z = a.hear f := ⟨_, rfl⟩
  have HZ : Hid (a.hear f = z) := hz.symm
  have HSX : Hid ((∀ y ∈ z.1.sealed, y.sk.fits) ∧ z.1.sealed.length ≤ 7 ∧ z.1.taken.length ≤ 28) := by
    have h1 := Ag.hear_len a f
    have h2 := HSA.out; have h3 := HSF.out
    rw [hz]
    show _ ∧ _
    rw [Ag.hear_sealed]
    exact ⟨h2.1, h2.2.1, by omega⟩
  clear hz
  obtain ⟨x, cd⟩ := z
  have HSX : Hid ((∀ y ∈ x.sealed, y.sk.fits) ∧ x.sealed.length ≤ 7 ∧ x.taken.length ≤ 28) := HSX
  have HSA3 : Hid ((∀ y ∈ a.sealed, y.sk.fits) ∧ a.sealed.length ≤ 7 ∧ a.taken.length ≤ 8) := ⟨HSA.out.1, HSA.out.2.1, HSA.out.2.2.1⟩
  go_wp2_with (first | go_skip | (with_reducible refine stopLoad 27 rfl ?_) | (with_reducible refine stopStore 27 rfl ?_) | (with_reducible refine stopLoad 35 rfl ?_) | (with_reducible refine stopStore 35 rfl ?_))
  refine load_known 27 ga #[.int .i64 a.id, .int .i64 a.epoch, .bool a.live, .int .i64 a.granted, .slice a1 n1 c1, .slice a2 n2 c2, .int .i64 a.next] 27 _ Va.out.blk rfl rfl rfl Tryz.underlying27 rfl infoAgL ?_
  go_wp2_with (first | go_skip | (with_reducible refine stopLoad 27 rfl ?_) | (with_reducible refine stopStore 27 rfl ?_) | (with_reducible refine stopLoad 35 rfl ?_) | (with_reducible refine stopStore 35 rfl ?_))
  refine load_known 35 gf #[.int .i64 f.kind, .int .i64 f.agent, .int .i64 f.epoch, .int .i64 f.granted, .slice bt lt ct, .int .i64 f.item.seq, .int .i64 f.item.cls, .int .i64 f.item.key, .int .i64 f.item.window, .int .i64 f.item.sk.count, .int .i64 f.item.sk.sum, .int .i64 f.item.sk.min, .int .i64 f.item.sk.max, .slice p1 m1 e1, .slice p2 m2 e2, .slice p3 m3 e3] 35 _ Vf.out.1 rfl rfl rfl Tryz.underlying35 rfl infoFrL ?_
  go_wp2_with fail
  refine (hearImpl_any _ _ a f F G F' G' _ Va.out.rd Vf.out.2.1 HSA3.out.1 (by have := HSA3.out.2.1; omega) (by have := HSA3.out.2.2; omega) HSF.out.1 (by have := HSF.out.2; omega)).mono ?_
  intro e w4 hh
  rw [HZ.out] at hh
  obtain ⟨zv, Fx, Gx, cc, rfl, ⟨x1, n3, c3, x2, n4, c4, rfl, rlx, rpx, kax, kbx⟩, hcc, _, _, _, bb⟩ := hh
  obtain rfl : cd = cc := hcc.symm
  have BEL : Hid (Below w.heap.size w w4) := Below.next BEL.out bb
  have Va : Hid (VarA ga a a1 n1 c1 a2 n2 c2 F G w4) := Va.out.below bb
  have Vf : Hid (Blk w4 gf #[.int .i64 f.kind, .int .i64 f.agent, .int .i64 f.epoch, .int .i64 f.granted, .slice bt lt ct, .int .i64 f.item.seq, .int .i64 f.item.cls, .int .i64 f.item.key, .int .i64 f.item.window, .int .i64 f.item.sk.count, .int .i64 f.item.sk.sum, .int .i64 f.item.sk.min, .int .i64 f.item.sk.max, .slice p1 m1 e1, .slice p2 m2 e2, .slice p3 m3 e3] 35 ∧ RdFr w4 (.agg #[.int .i64 f.kind, .int .i64 f.agent, .int .i64 f.epoch, .int .i64 f.granted, .slice bt lt ct, .int .i64 f.item.seq, .int .i64 f.item.cls, .int .i64 f.item.key, .int .i64 f.item.window, .int .i64 f.item.sk.count, .int .i64 f.item.sk.sum, .int .i64 f.item.sk.min, .int .i64 f.item.sk.max, .slice p1 m1 e1, .slice p2 m2 e2, .slice p3 m3 e3]) f F' G' ∧ RdP w4 bt lt f.taken F') := ⟨Vf.out.1.below bb, Vf.out.2.1.below bb, Vf.out.2.2.below bb⟩
  clear bb
  have Rx : Hid (RdL itK w4 x1 n3 x.sealed Fx ∧ RdP w4 x2 n4 x.taken Gx ∧ Capd x1 n3 c3 ∧ Capd x2 n4 c4) := ⟨rlx, rpx, kax, kbx⟩
  clear rlx rpx kax kbx
  go_wp2_with (first | go_skip | (with_reducible refine stopLoad 27 rfl ?_) | (with_reducible refine stopStore 27 rfl ?_) | (with_reducible refine stopLoad 35 rfl ?_) | (with_reducible refine stopStore 35 rfl ?_))
  refine store_fresh 27 w4.heap.size rfl #[.int .i64 0, .int .i64 0, .bool false, .int .i64 0, .slice none 0 0, .slice none 0 0, .int .i64 0] #[.int .i64 x.id, .int .i64 x.epoch, .bool x.live, .int .i64 x.granted, .slice x1 n3 c3, .slice x2 n4 c4, .int .i64 x.next] 27 rfl rfl rfl rfl infoAgL rfl (by simp [Value.oneCell']) ?_
  intro w5 hg hb
  have BEL : Hid (Below w.heap.size w w5) := Below.next BEL.out hb
  have Va : Hid (VarA ga a a1 n1 c1 a2 n2 c2 F G w5) := Va.out.below hb
  have Vf : Hid (Blk w5 gf #[.int .i64 f.kind, .int .i64 f.agent, .int .i64 f.epoch, .int .i64 f.granted, .slice bt lt ct, .int .i64 f.item.seq, .int .i64 f.item.cls, .int .i64 f.item.key, .int .i64 f.item.window, .int .i64 f.item.sk.count, .int .i64 f.item.sk.sum, .int .i64 f.item.sk.min, .int .i64 f.item.sk.max, .slice p1 m1 e1, .slice p2 m2 e2, .slice p3 m3 e3] 35 ∧ RdFr w5 (.agg #[.int .i64 f.kind, .int .i64 f.agent, .int .i64 f.epoch, .int .i64 f.granted, .slice bt lt ct, .int .i64 f.item.seq, .int .i64 f.item.cls, .int .i64 f.item.key, .int .i64 f.item.window, .int .i64 f.item.sk.count, .int .i64 f.item.sk.sum, .int .i64 f.item.sk.min, .int .i64 f.item.sk.max, .slice p1 m1 e1, .slice p2 m2 e2, .slice p3 m3 e3]) f F' G' ∧ RdP w5 bt lt f.taken F') := ⟨Vf.out.1.below hb, Vf.out.2.1.below hb, Vf.out.2.2.below hb⟩
  obtain ⟨gx, hgv⟩ : ∃ g, g = w4.heap.size := ⟨_, rfl⟩
  rw [← hgv] at hg ⊢
  have Vx : Hid (VarA gx x x1 n3 c3 x2 n4 c4 Fx Gx w5) := ⟨hg, Rx.out.1.agree (.below hb Rx.out.1.lt), Rx.out.2.1.below hb, Rx.out.2.2.1, Rx.out.2.2.2⟩
  clear hg hb hgv Rx
  go_wp2_with (first | go_skip | (with_reducible refine stopLoad 27 rfl ?_) | (with_reducible refine stopStore 27 rfl ?_) | (with_reducible refine stopLoad 35 rfl ?_) | (with_reducible refine stopStore 35 rfl ?_))
  refine load_known 27 ga #[.int .i64 a.id, .int .i64 a.epoch, .bool a.live, .int .i64 a.granted, .slice a1 n1 c1, .slice a2 n2 c2, .int .i64 a.next] 27 _ Va.out.blk rfl rfl rfl Tryz.underlying27 rfl infoAgL ?_
  go_wp2_with (first | go_skip | (with_reducible refine stopLoad 27 rfl ?_) | (with_reducible refine stopStore 27 rfl ?_) | (with_reducible refine stopLoad 35 rfl ?_) | (with_reducible refine stopStore 35 rfl ?_))
  refine load_known 35 gf #[.int .i64 f.kind, .int .i64 f.agent, .int .i64 f.epoch, .int .i64 f.granted, .slice bt lt ct, .int .i64 f.item.seq, .int .i64 f.item.cls, .int .i64 f.item.key, .int .i64 f.item.window, .int .i64 f.item.sk.count, .int .i64 f.item.sk.sum, .int .i64 f.item.sk.min, .int .i64 f.item.sk.max, .slice p1 m1 e1, .slice p2 m2 e2, .slice p3 m3 e3] 35 _ Vf.out.1 rfl rfl rfl Tryz.underlying35 rfl infoFrL ?_
  go_wp2_with fail
  refine (agentHear_any _ _ a f F G F' G' _ Va.out.rd Vf.out.2.1 HSA3.out.1 (by have := HSA3.out.2.1; omega) (by have := HSA3.out.2.2; omega) HSF.out.1 (by have := HSF.out.2; omega)).mono ?_
  intro e w6 hh
  rw [HZ.out] at hh
  obtain ⟨zv, Fy, Gy, cc, rfl, ⟨y1, n5, c5, y2, n6, c6, rfl, rly, rpy, kay, kby⟩, hcc, _, _, _, bb⟩ := hh
  obtain rfl : cd = cc := hcc.symm
  have BEL : Hid (Below w.heap.size w w6) := Below.next BEL.out bb
  have Va : Hid (VarA ga a a1 n1 c1 a2 n2 c2 F G w6) := Va.out.below bb
  have Vf : Hid (Blk w6 gf #[.int .i64 f.kind, .int .i64 f.agent, .int .i64 f.epoch, .int .i64 f.granted, .slice bt lt ct, .int .i64 f.item.seq, .int .i64 f.item.cls, .int .i64 f.item.key, .int .i64 f.item.window, .int .i64 f.item.sk.count, .int .i64 f.item.sk.sum, .int .i64 f.item.sk.min, .int .i64 f.item.sk.max, .slice p1 m1 e1, .slice p2 m2 e2, .slice p3 m3 e3] 35 ∧ RdFr w6 (.agg #[.int .i64 f.kind, .int .i64 f.agent, .int .i64 f.epoch, .int .i64 f.granted, .slice bt lt ct, .int .i64 f.item.seq, .int .i64 f.item.cls, .int .i64 f.item.key, .int .i64 f.item.window, .int .i64 f.item.sk.count, .int .i64 f.item.sk.sum, .int .i64 f.item.sk.min, .int .i64 f.item.sk.max, .slice p1 m1 e1, .slice p2 m2 e2, .slice p3 m3 e3]) f F' G' ∧ RdP w6 bt lt f.taken F') := ⟨Vf.out.1.below bb, Vf.out.2.1.below bb, Vf.out.2.2.below bb⟩
  have Vx : Hid (VarA gx x x1 n3 c3 x2 n4 c4 Fx Gx w6) := Vx.out.below bb
  clear bb
  have Ry : Hid (RdL itK w6 y1 n5 x.sealed Fy ∧ RdP w6 y2 n6 x.taken Gy ∧ Capd y1 n5 c5 ∧ Capd y2 n6 c6) := ⟨rly, rpy, kay, kby⟩
  clear rly rpy kay kby
  go_wp2_with (first | go_skip | (with_reducible refine stopLoad 27 rfl ?_) | (with_reducible refine stopStore 27 rfl ?_) | (with_reducible refine stopLoad 35 rfl ?_) | (with_reducible refine stopStore 35 rfl ?_))
  refine store_fresh 27 w6.heap.size rfl #[.int .i64 0, .int .i64 0, .bool false, .int .i64 0, .slice none 0 0, .slice none 0 0, .int .i64 0] #[.int .i64 x.id, .int .i64 x.epoch, .bool x.live, .int .i64 x.granted, .slice y1 n5 c5, .slice y2 n6 c6, .int .i64 x.next] 27 rfl rfl rfl rfl infoAgL rfl (by simp [Value.oneCell']) ?_
  intro w7 hg hb
  have BEL : Hid (Below w.heap.size w w7) := Below.next BEL.out hb
  have Va : Hid (VarA ga a a1 n1 c1 a2 n2 c2 F G w7) := Va.out.below hb
  have Vf : Hid (Blk w7 gf #[.int .i64 f.kind, .int .i64 f.agent, .int .i64 f.epoch, .int .i64 f.granted, .slice bt lt ct, .int .i64 f.item.seq, .int .i64 f.item.cls, .int .i64 f.item.key, .int .i64 f.item.window, .int .i64 f.item.sk.count, .int .i64 f.item.sk.sum, .int .i64 f.item.sk.min, .int .i64 f.item.sk.max, .slice p1 m1 e1, .slice p2 m2 e2, .slice p3 m3 e3] 35 ∧ RdFr w7 (.agg #[.int .i64 f.kind, .int .i64 f.agent, .int .i64 f.epoch, .int .i64 f.granted, .slice bt lt ct, .int .i64 f.item.seq, .int .i64 f.item.cls, .int .i64 f.item.key, .int .i64 f.item.window, .int .i64 f.item.sk.count, .int .i64 f.item.sk.sum, .int .i64 f.item.sk.min, .int .i64 f.item.sk.max, .slice p1 m1 e1, .slice p2 m2 e2, .slice p3 m3 e3]) f F' G' ∧ RdP w7 bt lt f.taken F') := ⟨Vf.out.1.below hb, Vf.out.2.1.below hb, Vf.out.2.2.below hb⟩
  have Vx : Hid (VarA gx x x1 n3 c3 x2 n4 c4 Fx Gx w7) := Vx.out.below hb
  obtain ⟨gy, hgv⟩ : ∃ g, g = w6.heap.size := ⟨_, rfl⟩
  rw [← hgv] at hg ⊢
  have Vy : Hid (VarA gy x y1 n5 c5 y2 n6 c6 Fy Gy w7) := ⟨hg, Ry.out.1.agree (.below hb Ry.out.1.lt), Ry.out.2.1.below hb, Ry.out.2.2.1, Ry.out.2.2.2⟩
  clear hg hb hgv Ry
  have hcn : (cd != cd) = false := by simp
  obtain ⟨z2, hz2⟩ : ∃ z, z = x.hear f := ⟨_, rfl⟩
  have HZ2 : Hid (x.hear f = z2) := hz2.symm
  clear hz2
  obtain ⟨u, ce⟩ := z2
  go_wp2_with (first | go_skip | (with_reducible refine stopLoad 27 rfl ?_) | (with_reducible refine stopStore 27 rfl ?_) | (with_reducible refine stopLoad 35 rfl ?_) | (with_reducible refine stopStore 35 rfl ?_))
  refine load_known 27 gx #[.int .i64 x.id, .int .i64 x.epoch, .bool x.live, .int .i64 x.granted, .slice x1 n3 c3, .slice x2 n4 c4, .int .i64 x.next] 27 _ Vx.out.blk rfl rfl rfl Tryz.underlying27 rfl infoAgL ?_
  go_wp2_with (first | go_skip | (with_reducible refine stopLoad 27 rfl ?_) | (with_reducible refine stopStore 27 rfl ?_) | (with_reducible refine stopLoad 35 rfl ?_) | (with_reducible refine stopStore 35 rfl ?_))
  refine load_known 35 gf #[.int .i64 f.kind, .int .i64 f.agent, .int .i64 f.epoch, .int .i64 f.granted, .slice bt lt ct, .int .i64 f.item.seq, .int .i64 f.item.cls, .int .i64 f.item.key, .int .i64 f.item.window, .int .i64 f.item.sk.count, .int .i64 f.item.sk.sum, .int .i64 f.item.sk.min, .int .i64 f.item.sk.max, .slice p1 m1 e1, .slice p2 m2 e2, .slice p3 m3 e3] 35 _ Vf.out.1 rfl rfl rfl Tryz.underlying35 rfl infoFrL ?_
  go_wp2_with fail
  refine (hearImpl_any _ _ x f Fx Gx F' G' _ Vx.out.rd Vf.out.2.1 HSX.out.1 (by have := HSX.out.2.1; omega) (by have := HSX.out.2.2; omega) HSF.out.1 (by have := HSF.out.2; omega)).mono ?_
  intro e w8 hh
  rw [HZ2.out] at hh
  obtain ⟨zv, Fu, Gu, cc, rfl, ⟨u1, n7, c7, u2, n8, c8, rfl, rlu, rpu, kau, kbu⟩, hcc, _, _, _, bb⟩ := hh
  obtain rfl : ce = cc := hcc.symm
  have BEL : Hid (Below w.heap.size w w8) := Below.next BEL.out bb
  have Va : Hid (VarA ga a a1 n1 c1 a2 n2 c2 F G w8) := Va.out.below bb
  have Vf : Hid (Blk w8 gf #[.int .i64 f.kind, .int .i64 f.agent, .int .i64 f.epoch, .int .i64 f.granted, .slice bt lt ct, .int .i64 f.item.seq, .int .i64 f.item.cls, .int .i64 f.item.key, .int .i64 f.item.window, .int .i64 f.item.sk.count, .int .i64 f.item.sk.sum, .int .i64 f.item.sk.min, .int .i64 f.item.sk.max, .slice p1 m1 e1, .slice p2 m2 e2, .slice p3 m3 e3] 35 ∧ RdFr w8 (.agg #[.int .i64 f.kind, .int .i64 f.agent, .int .i64 f.epoch, .int .i64 f.granted, .slice bt lt ct, .int .i64 f.item.seq, .int .i64 f.item.cls, .int .i64 f.item.key, .int .i64 f.item.window, .int .i64 f.item.sk.count, .int .i64 f.item.sk.sum, .int .i64 f.item.sk.min, .int .i64 f.item.sk.max, .slice p1 m1 e1, .slice p2 m2 e2, .slice p3 m3 e3]) f F' G' ∧ RdP w8 bt lt f.taken F') := ⟨Vf.out.1.below bb, Vf.out.2.1.below bb, Vf.out.2.2.below bb⟩
  have Vx : Hid (VarA gx x x1 n3 c3 x2 n4 c4 Fx Gx w8) := Vx.out.below bb
  have Vy : Hid (VarA gy x y1 n5 c5 y2 n6 c6 Fy Gy w8) := Vy.out.below bb
  clear bb
  have Ru : Hid (RdL itK w8 u1 n7 u.sealed Fu ∧ RdP w8 u2 n8 u.taken Gu ∧ Capd u1 n7 c7 ∧ Capd u2 n8 c8) := ⟨rlu, rpu, kau, kbu⟩
  clear rlu rpu kau kbu
  go_wp2_with (first | go_skip | (with_reducible refine stopLoad 27 rfl ?_) | (with_reducible refine stopStore 27 rfl ?_) | (with_reducible refine stopLoad 35 rfl ?_) | (with_reducible refine stopStore 35 rfl ?_))
  refine store_fresh 27 w8.heap.size rfl #[.int .i64 0, .int .i64 0, .bool false, .int .i64 0, .slice none 0 0, .slice none 0 0, .int .i64 0] #[.int .i64 u.id, .int .i64 u.epoch, .bool u.live, .int .i64 u.granted, .slice u1 n7 c7, .slice u2 n8 c8, .int .i64 u.next] 27 rfl rfl rfl rfl infoAgL rfl (by simp [Value.oneCell']) ?_
  intro w9 hg hb
  have BEL : Hid (Below w.heap.size w w9) := Below.next BEL.out hb
  have Va : Hid (VarA ga a a1 n1 c1 a2 n2 c2 F G w9) := Va.out.below hb
  have Vf : Hid (Blk w9 gf #[.int .i64 f.kind, .int .i64 f.agent, .int .i64 f.epoch, .int .i64 f.granted, .slice bt lt ct, .int .i64 f.item.seq, .int .i64 f.item.cls, .int .i64 f.item.key, .int .i64 f.item.window, .int .i64 f.item.sk.count, .int .i64 f.item.sk.sum, .int .i64 f.item.sk.min, .int .i64 f.item.sk.max, .slice p1 m1 e1, .slice p2 m2 e2, .slice p3 m3 e3] 35 ∧ RdFr w9 (.agg #[.int .i64 f.kind, .int .i64 f.agent, .int .i64 f.epoch, .int .i64 f.granted, .slice bt lt ct, .int .i64 f.item.seq, .int .i64 f.item.cls, .int .i64 f.item.key, .int .i64 f.item.window, .int .i64 f.item.sk.count, .int .i64 f.item.sk.sum, .int .i64 f.item.sk.min, .int .i64 f.item.sk.max, .slice p1 m1 e1, .slice p2 m2 e2, .slice p3 m3 e3]) f F' G' ∧ RdP w9 bt lt f.taken F') := ⟨Vf.out.1.below hb, Vf.out.2.1.below hb, Vf.out.2.2.below hb⟩
  have Vx : Hid (VarA gx x x1 n3 c3 x2 n4 c4 Fx Gx w9) := Vx.out.below hb
  have Vy : Hid (VarA gy x y1 n5 c5 y2 n6 c6 Fy Gy w9) := Vy.out.below hb
  obtain ⟨gu, hgv⟩ : ∃ g, g = w8.heap.size := ⟨_, rfl⟩
  rw [← hgv] at hg ⊢
  have Vu : Hid (VarA gu u u1 n7 c7 u2 n8 c8 Fu Gu w9) := ⟨hg, Ru.out.1.agree (.below hb Ru.out.1.lt), Ru.out.2.1.below hb, Ru.out.2.2.1, Ru.out.2.2.2⟩
  clear hg hb hgv Ru
  clear hcn
  by_cases hcd : cd = 0
  rotate_left
  · obtain rfl : x = a := Ag.hear_not HZ.out hcd
    obtain ⟨rfl, rfl⟩ : x = u ∧ cd = ce := Prod.mk.inj (HZ.out.symm.trans HZ2.out)
    have hc1 : (cd != 0) = true := by simpa using hcd
    clear hcd
    go_wp2_with fail
    obtain ⟨w10, hY⟩ : ∃ Y, Y = w9.drew := ⟨_, rfl⟩
    have bd := (Below.refl w9.heap.size w9).drew
    rw [← hY] at bd
    have BEL : Hid (Below w.heap.size w w10) := Below.next BEL.out bd
    have Va : Hid (VarA ga x a1 n1 c1 a2 n2 c2 F G w10) := Va.out.below bd
    have Vf : Hid (Blk w10 gf #[.int .i64 f.kind, .int .i64 f.agent, .int .i64 f.epoch, .int .i64 f.granted, .slice bt lt ct, .int .i64 f.item.seq, .int .i64 f.item.cls, .int .i64 f.item.key, .int .i64 f.item.window, .int .i64 f.item.sk.count, .int .i64 f.item.sk.sum, .int .i64 f.item.sk.min, .int .i64 f.item.sk.max, .slice p1 m1 e1, .slice p2 m2 e2, .slice p3 m3 e3] 35 ∧ RdFr w10 (.agg #[.int .i64 f.kind, .int .i64 f.agent, .int .i64 f.epoch, .int .i64 f.granted, .slice bt lt ct, .int .i64 f.item.seq, .int .i64 f.item.cls, .int .i64 f.item.key, .int .i64 f.item.window, .int .i64 f.item.sk.count, .int .i64 f.item.sk.sum, .int .i64 f.item.sk.min, .int .i64 f.item.sk.max, .slice p1 m1 e1, .slice p2 m2 e2, .slice p3 m3 e3]) f F' G' ∧ RdP w10 bt lt f.taken F') := ⟨Vf.out.1.below bd, Vf.out.2.1.below bd, Vf.out.2.2.below bd⟩
    have Vx : Hid (VarA gx x x1 n3 c3 x2 n4 c4 Fx Gx w10) := Vx.out.below bd
    have Vy : Hid (VarA gy x y1 n5 c5 y2 n6 c6 Fy Gy w10) := Vy.out.below bd
    have Vu : Hid (VarA gu x u1 n7 c7 u2 n8 c8 Fu Gu w10) := Vu.out.below bd
    clear bd
    refine wp_region_held (S := fun W => Blk W ga #[.int .i64 x.id, .int .i64 x.epoch, .bool x.live, .int .i64 x.granted, .slice a1 n1 c1, .slice a2 n2 c2, .int .i64 x.next] 27 ∧ Blk W gx #[.int .i64 x.id, .int .i64 x.epoch, .bool x.live, .int .i64 x.granted, .slice x1 n3 c3, .slice x2 n4 c4, .int .i64 x.next] 27) (by kernel_rfl) ?_
    change wpAnyH _ _ _ _ _ _ _ _ (World.drew _)
    rw [← hY]
    clear hY
    refine takeH (o := ?o178) 0 (.int .i64 cd) ?h178 ?r178
    case h178 => simp only [aT, aZ]; rfl
    refine ⟨_, by simp [Act.put]; rfl, by kernel_rfl, by kernel_rfl, by kernel_rfl, fun _ _ _ h => h, (.inl ⟨rfl, fun W _ => by kernel_rfl⟩), ⟨Va.out.blk, Vx.out.blk⟩, ?_⟩
    refine takeH (o := ?o179) 1 (.int .i64 cd) ?h179 ?r179
    case h179 => simp only [aT, aS, aZ]; rfl
    refine ⟨_, by simp [Act.put]; rfl, by kernel_rfl, by kernel_rfl, by kernel_rfl, fun _ _ _ h => h, (.inl ⟨rfl, fun W _ => by kernel_rfl⟩), ⟨Va.out.blk, Vx.out.blk⟩, ?_⟩
    refine takeH (o := ?o180) 2 (.bool true) ?h180 ?r180
    case h180 => simp only [aT, aS, aZ]; rfl
    refine ⟨_, by simp [Act.put]; rfl, by kernel_rfl, by kernel_rfl, by kernel_rfl, fun _ _ _ h => h, (.inl ⟨rfl, fun W _ => by go_simp⟩), ⟨Va.out.blk, Vx.out.blk⟩, ?_⟩
    refine takeH (o := ?o181) 3 (.bool true) ?h181 ?r181
    case h181 => simp only [aT, aS, aZ]; rfl
    refine ⟨_, by simp [Act.put]; rfl, by kernel_rfl, by kernel_rfl, by kernel_rfl, fun _ _ _ h => h, (.inl ⟨rfl, fun W _ => by kernel_rfl⟩), ⟨Va.out.blk, Vx.out.blk⟩, ?_⟩
    refine takeH (o := ?o182) 4 (.pointer (some ⟨gx, 1, none⟩)) ?h182 ?r182
    case h182 => simp only [aT, aS, aZ]; rfl
    refine ⟨_, by simp [Act.put]; rfl, by kernel_rfl, by kernel_rfl, by kernel_rfl, fun _ _ _ h => h, (.inl ⟨rfl, fun W _ => by kernel_rfl⟩), ⟨Va.out.blk, Vx.out.blk⟩, ?_⟩
    refine takeH (o := ?o183) 5 (.int .i64 x.epoch) ?h183 ?r183
    case h183 => simp only [aT, aS, aZ]; rfl
    refine ⟨_, by simp [Act.put]; rfl, by kernel_rfl, by kernel_rfl, by kernel_rfl, fun _ _ _ h => h, (.inl ⟨rfl, fun W hW => by have c := hW.2.cell 1; simp only [aT, aS, aZ] at c; go_simp⟩), ⟨Va.out.blk, Vx.out.blk⟩, ?_⟩
    refine takeH (o := ?o184) 6 (.pointer (some ⟨ga, 1, none⟩)) ?h184 ?r184
    case h184 => simp only [aT, aS, aZ]; rfl
    refine ⟨_, by simp [Act.put]; rfl, by kernel_rfl, by kernel_rfl, by kernel_rfl, fun _ _ _ h => h, (.inl ⟨rfl, fun W _ => by kernel_rfl⟩), ⟨Va.out.blk, Vx.out.blk⟩, ?_⟩
    refine takeH (o := ?o185) 7 (.int .i64 x.epoch) ?h185 ?r185
    case h185 => simp only [aT, aS, aZ]; rfl
    refine ⟨_, by simp [Act.put]; rfl, by kernel_rfl, by kernel_rfl, by kernel_rfl, fun _ _ _ h => h, (.inl ⟨rfl, fun W hW => by have c := hW.1.cell 1; simp only [aT, aS, aZ] at c; go_simp⟩), ⟨Va.out.blk, Vx.out.blk⟩, ?_⟩
    refine takeH (o := ?o186) 8 (.bool true) ?h186 ?r186
    case h186 => simp only [aT, aS, aZ]; rfl
    refine ⟨_, by simp [Act.put]; rfl, by kernel_rfl, by kernel_rfl, by kernel_rfl, fun _ _ _ h => h, (.inl ⟨rfl, fun W _ => by go_simp⟩), ⟨Va.out.blk, Vx.out.blk⟩, ?_⟩
    refine takeH (o := ?o187) 9 (.bool true) ?h187 ?r187
    case h187 => simp only [aT, aS, aZ]; rfl
    refine ⟨_, by simp [Act.put]; rfl, by kernel_rfl, by kernel_rfl, by kernel_rfl, fun _ _ _ h => h, (.inl ⟨rfl, fun W _ => by kernel_rfl⟩), ⟨Va.out.blk, Vx.out.blk⟩, ?_⟩
    refine takeH (o := ?o188) 10 (.bool true) ?h188 ?r188
    case h188 => simp only [aT, aS, aZ]; rfl
    refine ⟨_, by simp [Act.put]; rfl, by kernel_rfl, by kernel_rfl, by kernel_rfl, fun _ _ _ h => h, (.inl ⟨rfl, fun W _ => by kernel_rfl⟩), ⟨Va.out.blk, Vx.out.blk⟩, ?_⟩
    refine takeH (o := ?o189) 11 (.pointer (some ⟨gx, 3, none⟩)) ?h189 ?r189
    case h189 => simp only [aT, aS, aZ]; rfl
    refine ⟨_, by simp [Act.put]; rfl, by kernel_rfl, by kernel_rfl, by kernel_rfl, fun _ _ _ h => h, (.inl ⟨rfl, fun W _ => by kernel_rfl⟩), ⟨Va.out.blk, Vx.out.blk⟩, ?_⟩
    refine takeH (o := ?o190) 12 (.int .i64 x.granted) ?h190 ?r190
    case h190 => simp only [aT, aS, aZ]; rfl
    refine ⟨_, by simp [Act.put]; rfl, by kernel_rfl, by kernel_rfl, by kernel_rfl, fun _ _ _ h => h, (.inl ⟨rfl, fun W hW => by have c := hW.2.cell 3; simp only [aT, aS, aZ] at c; go_simp⟩), ⟨Va.out.blk, Vx.out.blk⟩, ?_⟩
    refine takeH (o := ?o191) 13 (.pointer (some ⟨ga, 3, none⟩)) ?h191 ?r191
    case h191 => simp only [aT, aS, aZ]; rfl
    refine ⟨_, by simp [Act.put]; rfl, by kernel_rfl, by kernel_rfl, by kernel_rfl, fun _ _ _ h => h, (.inl ⟨rfl, fun W _ => by kernel_rfl⟩), ⟨Va.out.blk, Vx.out.blk⟩, ?_⟩
    refine takeH (o := ?o192) 14 (.int .i64 x.granted) ?h192 ?r192
    case h192 => simp only [aT, aS, aZ]; rfl
    refine ⟨_, by simp [Act.put]; rfl, by kernel_rfl, by kernel_rfl, by kernel_rfl, fun _ _ _ h => h, (.inl ⟨rfl, fun W hW => by have c := hW.1.cell 3; simp only [aT, aS, aZ] at c; go_simp⟩), ⟨Va.out.blk, Vx.out.blk⟩, ?_⟩
    refine takeH (o := ?o193) 15 (.bool true) ?h193 ?r193
    case h193 => simp only [aT, aS, aZ]; rfl
    refine ⟨_, by simp [Act.put]; rfl, by kernel_rfl, by kernel_rfl, by kernel_rfl, fun _ _ _ h => h, (.inl ⟨rfl, fun W _ => by go_simp⟩), ⟨Va.out.blk, Vx.out.blk⟩, ?_⟩
    refine takeH (o := ?o194) 16 (.bool true) ?h194 ?r194
    case h194 => simp only [aT, aS, aZ]; rfl
    refine ⟨_, by simp [Act.put]; rfl, by kernel_rfl, by kernel_rfl, by kernel_rfl, fun _ _ _ h => h, (.inl ⟨rfl, fun W _ => by kernel_rfl⟩), ⟨Va.out.blk, Vx.out.blk⟩, ?_⟩
    refine takeH (o := ?o195) 17 (.bool true) ?h195 ?r195
    case h195 => simp only [aT, aS, aZ]; rfl
    refine ⟨_, by simp [Act.put]; rfl, by kernel_rfl, by kernel_rfl, by kernel_rfl, fun _ _ _ h => h, (.inl ⟨rfl, fun W _ => by kernel_rfl⟩), ⟨Va.out.blk, Vx.out.blk⟩, ?_⟩
    refine takeH (o := ?o196) 18 (.pointer (some ⟨gx, 2, none⟩)) ?h196 ?r196
    case h196 => simp only [aT, aS, aZ]; rfl
    refine ⟨_, by simp [Act.put]; rfl, by kernel_rfl, by kernel_rfl, by kernel_rfl, fun _ _ _ h => h, (.inl ⟨rfl, fun W _ => by kernel_rfl⟩), ⟨Va.out.blk, Vx.out.blk⟩, ?_⟩
    refine takeH (o := ?o197) 19 (.bool x.live) ?h197 ?r197
    case h197 => simp only [aT, aS, aZ]; rfl
    refine ⟨_, by simp [Act.put]; rfl, by kernel_rfl, by kernel_rfl, by kernel_rfl, fun _ _ _ h => h, (.inl ⟨rfl, fun W hW => by have c := hW.2.cell 2; simp only [aT, aS, aZ] at c; go_simp⟩), ⟨Va.out.blk, Vx.out.blk⟩, ?_⟩
    refine takeH (o := ?o198) 20 (.pointer (some ⟨ga, 2, none⟩)) ?h198 ?r198
    case h198 => simp only [aT, aS, aZ]; rfl
    refine ⟨_, by simp [Act.put]; rfl, by kernel_rfl, by kernel_rfl, by kernel_rfl, fun _ _ _ h => h, (.inl ⟨rfl, fun W _ => by kernel_rfl⟩), ⟨Va.out.blk, Vx.out.blk⟩, ?_⟩
    refine takeH (o := ?o199) 21 (.bool x.live) ?h199 ?r199
    case h199 => simp only [aT, aS, aZ]; rfl
    refine ⟨_, by simp [Act.put]; rfl, by kernel_rfl, by kernel_rfl, by kernel_rfl, fun _ _ _ h => h, (.inl ⟨rfl, fun W hW => by have c := hW.1.cell 2; simp only [aT, aS, aZ] at c; go_simp⟩), ⟨Va.out.blk, Vx.out.blk⟩, ?_⟩
    refine takeH (o := ?o200) 22 (.bool true) ?h200 ?r200
    case h200 => simp only [aT, aS, aZ]; rfl
    refine ⟨_, by simp [Act.put]; rfl, by kernel_rfl, by kernel_rfl, by kernel_rfl, fun _ _ _ h => h, (.inl ⟨rfl, fun W _ => by go_simp⟩), ⟨Va.out.blk, Vx.out.blk⟩, ?_⟩
    refine takeH (o := ?o201) 23 (.bool true) ?h201 ?r201
    case h201 => simp only [aT, aS, aZ]; rfl
    refine ⟨_, by simp [Act.put]; rfl, by kernel_rfl, by kernel_rfl, by kernel_rfl, fun _ _ _ h => h, (.inl ⟨rfl, fun W _ => by kernel_rfl⟩), ⟨Va.out.blk, Vx.out.blk⟩, ?_⟩
    refine takeH (o := ?o202) 24 (.bool true) ?h202 ?r202
    case h202 => simp only [aT, aS, aZ]; rfl
    refine ⟨_, by simp [Act.put]; rfl, by kernel_rfl, by kernel_rfl, by kernel_rfl, fun _ _ _ h => h, (.inl ⟨rfl, fun W _ => by kernel_rfl⟩), ⟨Va.out.blk, Vx.out.blk⟩, ?_⟩
    refine takeH (o := ?o203) 25 (.pointer (some ⟨gx, 5, none⟩)) ?h203 ?r203
    case h203 => simp only [aT, aS, aZ]; rfl
    refine ⟨_, by simp [Act.put]; rfl, by kernel_rfl, by kernel_rfl, by kernel_rfl, fun _ _ _ h => h, (.inl ⟨rfl, fun W _ => by kernel_rfl⟩), ⟨Va.out.blk, Vx.out.blk⟩, ?_⟩
    refine takeH (o := ?o204) 26 (.slice x2 n4 c4) ?h204 ?r204
    case h204 => simp only [aT, aS, aZ]; rfl
    refine ⟨_, by simp [Act.put]; rfl, by kernel_rfl, by kernel_rfl, by kernel_rfl, fun _ _ _ h => h, (.inl ⟨rfl, fun W hW => by have c := hW.2.cell 5; simp only [aT, aS, aZ] at c; go_simp⟩), ⟨Va.out.blk, Vx.out.blk⟩, ?_⟩
    refine takeH (o := ?o205) 28 (.pointer (some ⟨ga, 5, none⟩)) ?h205 ?r205
    case h205 => simp only [aT, aS, aZ]; rfl
    refine ⟨_, by simp [Act.put]; rfl, by kernel_rfl, by kernel_rfl, by kernel_rfl, fun _ _ _ h => h, (.inl ⟨rfl, fun W _ => by kernel_rfl⟩), ⟨Va.out.blk, Vx.out.blk⟩, ?_⟩
    refine takeH (o := ?o206) 29 (.slice a2 n2 c2) ?h206 ?r206
    case h206 => simp only [aT, aS, aZ]; rfl
    refine ⟨_, by simp [Act.put]; rfl, by kernel_rfl, by kernel_rfl, by kernel_rfl, fun _ _ _ h => h, (.inl ⟨rfl, fun W hW => by have c := hW.1.cell 5; simp only [aT, aS, aZ] at c; go_simp⟩), ⟨Va.out.blk, Vx.out.blk⟩, ?_⟩
    refine onlyH (o := ?o207) 27 (by kernel_rfl) ?h207 ?r207
    case h207 => simp only [aT, aS, aZ]; rfl
    intro K hK
    refine op_call1 9 _ _ Tryz.f9 (fun v w' => v = .string x.taken.text ∧ Below w10.heap.size w10 w') rfl rfl Tryz.func9 (by kernel_rfl) (by kernel_rfl) ((textImplP_any x2 n4 c4 x.taken Gx w10 Vx.out.rp (by have h1 := Vx.out.rp.length; have h2 := HSX.out.2.2; omega) (fit_in64 HSA.out.2.2.2) gTab (tab_below gTab HTAB.out BEL.out)).mono (by rintro e w' ⟨rfl, hb⟩; exact ⟨_, rfl, rfl, hb⟩)) ?_
    rintro v w11 ⟨rfl, hb⟩
    have BEL : Hid (Below w.heap.size w w11) := Below.next BEL.out hb
    have Va : Hid (VarA ga x a1 n1 c1 a2 n2 c2 F G w11) := Va.out.below hb
    have Vf : Hid (Blk w11 gf #[.int .i64 f.kind, .int .i64 f.agent, .int .i64 f.epoch, .int .i64 f.granted, .slice bt lt ct, .int .i64 f.item.seq, .int .i64 f.item.cls, .int .i64 f.item.key, .int .i64 f.item.window, .int .i64 f.item.sk.count, .int .i64 f.item.sk.sum, .int .i64 f.item.sk.min, .int .i64 f.item.sk.max, .slice p1 m1 e1, .slice p2 m2 e2, .slice p3 m3 e3] 35 ∧ RdFr w11 (.agg #[.int .i64 f.kind, .int .i64 f.agent, .int .i64 f.epoch, .int .i64 f.granted, .slice bt lt ct, .int .i64 f.item.seq, .int .i64 f.item.cls, .int .i64 f.item.key, .int .i64 f.item.window, .int .i64 f.item.sk.count, .int .i64 f.item.sk.sum, .int .i64 f.item.sk.min, .int .i64 f.item.sk.max, .slice p1 m1 e1, .slice p2 m2 e2, .slice p3 m3 e3]) f F' G' ∧ RdP w11 bt lt f.taken F') := ⟨Vf.out.1.below hb, Vf.out.2.1.below hb, Vf.out.2.2.below hb⟩
    have Vx : Hid (VarA gx x x1 n3 c3 x2 n4 c4 Fx Gx w11) := Vx.out.below hb
    have Vy : Hid (VarA gy x y1 n5 c5 y2 n6 c6 Fy Gy w11) := Vy.out.below hb
    have Vu : Hid (VarA gu x u1 n7 c7 u2 n8 c8 Fu Gu w11) := Vu.out.below hb
    clear hb
    refine ⟨_, by simp [Act.put]; rfl, hK _ _ ⟨⟨Va.out.blk, Vx.out.blk⟩, ?_⟩⟩
    clear hK
    refine onlyH (o := ?o208) 30 (by kernel_rfl) ?h208 ?r208
    case h208 => simp only [aT, aS, aZ]; rfl
    intro K hK
    refine op_call1 9 _ _ Tryz.f9 (fun v w' => v = .string x.taken.text ∧ Below w11.heap.size w11 w') rfl rfl Tryz.func9 (by kernel_rfl) (by kernel_rfl) ((textImplP_any a2 n2 c2 x.taken G w11 Va.out.rp (by have h1 := Va.out.rp.length; have h2 := HSX.out.2.2; omega) (fit_in64 HSA.out.2.2.2) gTab (tab_below gTab HTAB.out BEL.out)).mono (by rintro e w' ⟨rfl, hb⟩; exact ⟨_, rfl, rfl, hb⟩)) ?_
    rintro v w12 ⟨rfl, hb⟩
    have BEL : Hid (Below w.heap.size w w12) := Below.next BEL.out hb
    have Va : Hid (VarA ga x a1 n1 c1 a2 n2 c2 F G w12) := Va.out.below hb
    have Vf : Hid (Blk w12 gf #[.int .i64 f.kind, .int .i64 f.agent, .int .i64 f.epoch, .int .i64 f.granted, .slice bt lt ct, .int .i64 f.item.seq, .int .i64 f.item.cls, .int .i64 f.item.key, .int .i64 f.item.window, .int .i64 f.item.sk.count, .int .i64 f.item.sk.sum, .int .i64 f.item.sk.min, .int .i64 f.item.sk.max, .slice p1 m1 e1, .slice p2 m2 e2, .slice p3 m3 e3] 35 ∧ RdFr w12 (.agg #[.int .i64 f.kind, .int .i64 f.agent, .int .i64 f.epoch, .int .i64 f.granted, .slice bt lt ct, .int .i64 f.item.seq, .int .i64 f.item.cls, .int .i64 f.item.key, .int .i64 f.item.window, .int .i64 f.item.sk.count, .int .i64 f.item.sk.sum, .int .i64 f.item.sk.min, .int .i64 f.item.sk.max, .slice p1 m1 e1, .slice p2 m2 e2, .slice p3 m3 e3]) f F' G' ∧ RdP w12 bt lt f.taken F') := ⟨Vf.out.1.below hb, Vf.out.2.1.below hb, Vf.out.2.2.below hb⟩
    have Vx : Hid (VarA gx x x1 n3 c3 x2 n4 c4 Fx Gx w12) := Vx.out.below hb
    have Vy : Hid (VarA gy x y1 n5 c5 y2 n6 c6 Fy Gy w12) := Vy.out.below hb
    have Vu : Hid (VarA gu x u1 n7 c7 u2 n8 c8 Fu Gu w12) := Vu.out.below hb
    clear hb
    refine ⟨_, by simp [Act.put]; rfl, hK _ _ ⟨⟨Va.out.blk, Vx.out.blk⟩, ?_⟩⟩
    clear hK
    refine takeH (o := ?o209) 31 (.bool true) ?h209 ?r209
    case h209 => simp only [aT, aS, aZ]; rfl
    refine ⟨_, by simp [Act.put]; rfl, by kernel_rfl, by kernel_rfl, by kernel_rfl, fun _ _ _ h => h, (.inl ⟨rfl, fun W _ => exec_eqStrS rfl rfl rfl⟩), ⟨Va.out.blk, Vx.out.blk⟩, ?_⟩
    refine takeH (o := ?o210) 32 (.bool true) ?h210 ?r210
    case h210 => simp only [aT, aS, aZ]; rfl
    refine ⟨_, by simp [Act.put]; rfl, by kernel_rfl, by kernel_rfl, by kernel_rfl, fun _ _ _ h => h, (.inl ⟨rfl, fun W _ => by kernel_rfl⟩), ⟨Va.out.blk, Vx.out.blk⟩, ?_⟩
    refine takeH (o := ?o211) 33 (.bool true) ?h211 ?r211
    case h211 => simp only [aT, aS, aZ]; rfl
    refine ⟨_, by simp [Act.put]; rfl, by kernel_rfl, by kernel_rfl, by kernel_rfl, fun _ _ _ h => h, (.inl ⟨rfl, fun W _ => by kernel_rfl⟩), ⟨Va.out.blk, Vx.out.blk⟩, ?_⟩
    refine wpAnyH_done (by kernel_rfl) ?_ _
    go_wp2
    go_ret
    exact ⟨rfl, BEL.out⟩
  subst hcd
  have HW0 := Ag.hear_zero HZ.out
  rw [HZ2.out] at HW0
  obtain ⟨HH0, hc0, hg0, hl0, he0⟩ := HW0
  have HH : Hid (Heard a f x) := HH0
  obtain rfl : ce = 0 := hc0
  have HU : Hid (u.granted = x.granted ∧ u.live = x.live ∧ u.epoch = x.epoch) := ⟨hg0, hl0, he0⟩
  clear HH0 hg0 hl0 he0
  have ca5 := Va.out.blk.cell 5
  simp only [aT, aS, aZ] at ca5
  have cf4 := Vf.out.1.cell 4
  simp only [aT, aS, aZ] at cf4
  go_wp2_with fail
  refine (joinImpl_any a2 bt n2 lt c2 ct a.taken f.taken G F' _ Va.out.rp Vf.out.2.2 (by have h1 := Va.out.rp.length; have h2 := Vf.out.2.2.length; have h3 := HSA.out.2.2.1; have h4 := HSF.out.2; omega) Va.out.k2.2).mono ?_
  rintro e w13 ⟨bj, lj, cj, Fj, rfl, rj, _, bb, _⟩
  rw [← HH.out.join] at rj
  have BEL : Hid (Below w.heap.size w w13) := Below.next BEL.out bb
  have Va : Hid (VarA ga a a1 n1 c1 a2 n2 c2 F G w13) := Va.out.below bb
  have Vf : Hid (Blk w13 gf #[.int .i64 f.kind, .int .i64 f.agent, .int .i64 f.epoch, .int .i64 f.granted, .slice bt lt ct, .int .i64 f.item.seq, .int .i64 f.item.cls, .int .i64 f.item.key, .int .i64 f.item.window, .int .i64 f.item.sk.count, .int .i64 f.item.sk.sum, .int .i64 f.item.sk.min, .int .i64 f.item.sk.max, .slice p1 m1 e1, .slice p2 m2 e2, .slice p3 m3 e3] 35 ∧ RdFr w13 (.agg #[.int .i64 f.kind, .int .i64 f.agent, .int .i64 f.epoch, .int .i64 f.granted, .slice bt lt ct, .int .i64 f.item.seq, .int .i64 f.item.cls, .int .i64 f.item.key, .int .i64 f.item.window, .int .i64 f.item.sk.count, .int .i64 f.item.sk.sum, .int .i64 f.item.sk.min, .int .i64 f.item.sk.max, .slice p1 m1 e1, .slice p2 m2 e2, .slice p3 m3 e3]) f F' G' ∧ RdP w13 bt lt f.taken F') := ⟨Vf.out.1.below bb, Vf.out.2.1.below bb, Vf.out.2.2.below bb⟩
  have Vx : Hid (VarA gx x x1 n3 c3 x2 n4 c4 Fx Gx w13) := Vx.out.below bb
  have Vy : Hid (VarA gy x y1 n5 c5 y2 n6 c6 Fy Gy w13) := Vy.out.below bb
  have Vu : Hid (VarA gu u u1 n7 c7 u2 n8 c8 Fu Gu w13) := Vu.out.below bb
  clear bb ca5 cf4
  have RJ : Hid (RdP w13 bj lj x.taken Fj) := rj
  clear rj
  go_wp2_with (first | go_skip | (with_reducible refine stopLoad 27 rfl ?_) | (with_reducible refine stopStore 27 rfl ?_) | (with_reducible refine stopLoad 35 rfl ?_) | (with_reducible refine stopStore 35 rfl ?_))
  refine load_knownw8 27 gx #[.int .i64 x.id, .int .i64 x.epoch, .bool x.live, .int .i64 x.granted, .slice x1 n3 c3, .slice x2 n4 c4, .int .i64 x.next] 27 _ Vx.out.blk rfl rfl rfl Tryz.underlying27 rfl infoAgL ?_
  go_wp2_with fail
  refine (agentOkImpl_any _ x Fx Gx _ Vx.out.rd (fun y hy => (HSX.out.1 y hy).wide) (by have h := HSX.out.2.1; omega) (by have h := HSX.out.2.2; omega)).mono ?_
  rintro e w14 ⟨rfl, bb⟩
  rw [HH.out.ok]
  have BEL : Hid (Below w.heap.size w w14) := Below.next BEL.out bb
  have Va : Hid (VarA ga a a1 n1 c1 a2 n2 c2 F G w14) := Va.out.below bb
  have Vf : Hid (Blk w14 gf #[.int .i64 f.kind, .int .i64 f.agent, .int .i64 f.epoch, .int .i64 f.granted, .slice bt lt ct, .int .i64 f.item.seq, .int .i64 f.item.cls, .int .i64 f.item.key, .int .i64 f.item.window, .int .i64 f.item.sk.count, .int .i64 f.item.sk.sum, .int .i64 f.item.sk.min, .int .i64 f.item.sk.max, .slice p1 m1 e1, .slice p2 m2 e2, .slice p3 m3 e3] 35 ∧ RdFr w14 (.agg #[.int .i64 f.kind, .int .i64 f.agent, .int .i64 f.epoch, .int .i64 f.granted, .slice bt lt ct, .int .i64 f.item.seq, .int .i64 f.item.cls, .int .i64 f.item.key, .int .i64 f.item.window, .int .i64 f.item.sk.count, .int .i64 f.item.sk.sum, .int .i64 f.item.sk.min, .int .i64 f.item.sk.max, .slice p1 m1 e1, .slice p2 m2 e2, .slice p3 m3 e3]) f F' G' ∧ RdP w14 bt lt f.taken F') := ⟨Vf.out.1.below bb, Vf.out.2.1.below bb, Vf.out.2.2.below bb⟩
  have Vx : Hid (VarA gx x x1 n3 c3 x2 n4 c4 Fx Gx w14) := Vx.out.below bb
  have Vy : Hid (VarA gy x y1 n5 c5 y2 n6 c6 Fy Gy w14) := Vy.out.below bb
  have Vu : Hid (VarA gu u u1 n7 c7 u2 n8 c8 Fu Gu w14) := Vu.out.below bb
  have RJ : Hid (RdP w14 bj lj x.taken Fj) := RJ.out.below bb
  clear bb
  have hge : decide (x.epoch ≥ a.epoch) = true := decide_eq_true HH.out.epoch
  have hge2 : decide (a.epoch ≤ x.epoch) = true := decide_eq_true HH.out.epoch
  have cx1 := Vx.out.blk.cell 1
  simp only [aT, aS, aZ] at cx1
  have ca1 := Va.out.blk.cell 1
  simp only [aT, aS, aZ] at ca1
  have cx5 := Vx.out.blk.cell 5
  simp only [aT, aS, aZ] at cx5
  go_wp2_with fail
  refine (textImplP_any x2 n4 c4 x.taken Gx _ Vx.out.rp (by have h1 := Vx.out.rp.length; have h2 := HSX.out.2.2; omega) (fit_in64 (fit_of_inb HH.out.inb)) gTab (tab_below gTab HTAB.out BEL.out)).mono ?_
  rintro e w15 ⟨rfl, bb⟩
  have BEL : Hid (Below w.heap.size w w15) := Below.next BEL.out bb
  have Va : Hid (VarA ga a a1 n1 c1 a2 n2 c2 F G w15) := Va.out.below bb
  have Vf : Hid (Blk w15 gf #[.int .i64 f.kind, .int .i64 f.agent, .int .i64 f.epoch, .int .i64 f.granted, .slice bt lt ct, .int .i64 f.item.seq, .int .i64 f.item.cls, .int .i64 f.item.key, .int .i64 f.item.window, .int .i64 f.item.sk.count, .int .i64 f.item.sk.sum, .int .i64 f.item.sk.min, .int .i64 f.item.sk.max, .slice p1 m1 e1, .slice p2 m2 e2, .slice p3 m3 e3] 35 ∧ RdFr w15 (.agg #[.int .i64 f.kind, .int .i64 f.agent, .int .i64 f.epoch, .int .i64 f.granted, .slice bt lt ct, .int .i64 f.item.seq, .int .i64 f.item.cls, .int .i64 f.item.key, .int .i64 f.item.window, .int .i64 f.item.sk.count, .int .i64 f.item.sk.sum, .int .i64 f.item.sk.min, .int .i64 f.item.sk.max, .slice p1 m1 e1, .slice p2 m2 e2, .slice p3 m3 e3]) f F' G' ∧ RdP w15 bt lt f.taken F') := ⟨Vf.out.1.below bb, Vf.out.2.1.below bb, Vf.out.2.2.below bb⟩
  have Vx : Hid (VarA gx x x1 n3 c3 x2 n4 c4 Fx Gx w15) := Vx.out.below bb
  have Vy : Hid (VarA gy x y1 n5 c5 y2 n6 c6 Fy Gy w15) := Vy.out.below bb
  have Vu : Hid (VarA gu u u1 n7 c7 u2 n8 c8 Fu Gu w15) := Vu.out.below bb
  have RJ : Hid (RdP w15 bj lj x.taken Fj) := RJ.out.below bb
  clear bb cx1 ca1 cx5 hge hge2
  go_wp2_with fail
  refine (textImplP_any bj lj cj x.taken Fj _ RJ.out (by have h1 := RJ.out.length; have h2 := HSX.out.2.2; omega) (fit_in64 (fit_of_inb HH.out.inb)) gTab (tab_below gTab HTAB.out BEL.out)).mono ?_
  rintro e w16 ⟨rfl, bb⟩
  have BEL : Hid (Below w.heap.size w w16) := Below.next BEL.out bb
  have Va : Hid (VarA ga a a1 n1 c1 a2 n2 c2 F G w16) := Va.out.below bb
  have Vf : Hid (Blk w16 gf #[.int .i64 f.kind, .int .i64 f.agent, .int .i64 f.epoch, .int .i64 f.granted, .slice bt lt ct, .int .i64 f.item.seq, .int .i64 f.item.cls, .int .i64 f.item.key, .int .i64 f.item.window, .int .i64 f.item.sk.count, .int .i64 f.item.sk.sum, .int .i64 f.item.sk.min, .int .i64 f.item.sk.max, .slice p1 m1 e1, .slice p2 m2 e2, .slice p3 m3 e3] 35 ∧ RdFr w16 (.agg #[.int .i64 f.kind, .int .i64 f.agent, .int .i64 f.epoch, .int .i64 f.granted, .slice bt lt ct, .int .i64 f.item.seq, .int .i64 f.item.cls, .int .i64 f.item.key, .int .i64 f.item.window, .int .i64 f.item.sk.count, .int .i64 f.item.sk.sum, .int .i64 f.item.sk.min, .int .i64 f.item.sk.max, .slice p1 m1 e1, .slice p2 m2 e2, .slice p3 m3 e3]) f F' G' ∧ RdP w16 bt lt f.taken F') := ⟨Vf.out.1.below bb, Vf.out.2.1.below bb, Vf.out.2.2.below bb⟩
  have Vx : Hid (VarA gx x x1 n3 c3 x2 n4 c4 Fx Gx w16) := Vx.out.below bb
  have Vy : Hid (VarA gy x y1 n5 c5 y2 n6 c6 Fy Gy w16) := Vy.out.below bb
  have Vu : Hid (VarA gu u u1 n7 c7 u2 n8 c8 Fu Gu w16) := Vu.out.below bb
  have RJ : Hid (RdP w16 bj lj x.taken Fj) := RJ.out.below bb
  clear bb
  have cu3 := Vu.out.blk.cell 3
  simp only [aT, aS, aZ] at cu3
  have cx3 := Vx.out.blk.cell 3
  simp only [aT, aS, aZ] at cx3
  have cu2 := Vu.out.blk.cell 2
  simp only [aT, aS, aZ] at cu2
  have cx2 := Vx.out.blk.cell 2
  simp only [aT, aS, aZ] at cx2
  have cu1 := Vu.out.blk.cell 1
  simp only [aT, aS, aZ] at cu1
  have cx1 := Vx.out.blk.cell 1
  simp only [aT, aS, aZ] at cx1
  have ca1 := Va.out.blk.cell 1
  simp only [aT, aS, aZ] at ca1
  have cf0 := Vf.out.1.cell 0
  simp only [aT, aZ] at cf0
  have ca3 := Va.out.blk.cell 3
  simp only [aT, aS, aZ] at ca3
  rw [HU.out.1] at cu3
  rw [HU.out.2.1] at cu2
  rw [HU.out.2.2] at cu1
  by_cases hgt : x.epoch > a.epoch
  · have hd1 : decide (x.epoch > a.epoch) = true := decide_eq_true hgt
    have hd2 : decide (a.epoch < x.epoch) = true := decide_eq_true hgt
    clear hgt
    go_wp2
    go_ret
    exact ⟨rfl, BEL.out⟩
  have hd1 : decide (x.epoch > a.epoch) = false := decide_eq_false hgt
  have hd2 : decide (a.epoch < x.epoch) = false := decide_eq_false hgt
  by_cases hk3 : f.kind = 3
  · have hd3 : (f.kind == 3) = true := by simpa using hk3
    clear hgt hk3
    go_wp2
    go_ret
    exact ⟨rfl, BEL.out⟩
  have hd3 : (f.kind == 3) = false := by simpa using hk3
  have hgr : a.granted ≤ x.granted := (HH.out.last.resolve_left hgt).resolve_left hk3
  have hd4 : decide (x.granted ≥ a.granted) = true := decide_eq_true hgr
  have hd5 : decide (a.granted ≤ x.granted) = true := decide_eq_true hgr
  clear hgt hk3 hgr
  go_wp2
  go_ret
  exact ⟨rfl, BEL.out⟩
set_option maxRecDepth 100000
theorem contract (H : Type) (enc : TypeId × Value → H) (W : World) (base : Nat) (args : Array Value) (ds gs : List (DataW H)) (before : List MemPlace)
    (hval0 : ∀ (j : Nat) t v, Tryz.f3.params[j]? = some t → args[j]? = some v → Value.okWide Tryz.prog W .any base t v)
    (hW : DataW.Whole enc Tryz.prog Tryz.f3.params.toList Rows.fnHeardSpec.vars false W args.toList ds gs before) (hL : laidMetH Tryz.prog Rows.fnHeardRow.laid W) :
    Calls Tryz.prog 3 args W fun e W' => ∃ v, e = .returned v ∧ Rows.fnHeardSpec.post enc Tryz.prog Tryz.f3 false true false false W args v W' := by
  have hval := hval0
  have hW' := hW
  obtain ⟨p, q, hA0, hV, rfl, hfz, hnd⟩ := hW
  have hA : DataW.TrodAll enc Tryz.prog W 0 (fun _ => true) true Tryz.f3.params.toList args.toList ds p := hA0
  rw [Tryz.params3] at hA hval
  obtain ⟨v0, vs0, d0, ds0, p0, q0, hargs, rfl, rfl, h0, r0⟩ := trodAll_cons hA
  obtain ⟨rfl, rfl, rfl⟩ := trodAll_nil r0
  obtain rfl : args = #[v0] := by cases args; simp_all
  obtain ⟨rfl, rfl⟩ := trodVars_none hV
  obtain ⟨a0, len0, cap0, rfl⟩ := okWide_slice Tryz.underlying22 (hval 0 22 v0 rfl rfl)
  have k0 := h0
  have lt0 : ∀ x ∈ p0, x.block < W.heap.size := by obtain ⟨m, hm⟩ := k0; exact DataW.trod_lt m _ _ _ hm
  obtain ⟨z0, w0⟩ : ∃ zs, RdB W a0 len0 zs := by
    obtain ⟨fuel, hf⟩ := h0
    rcases open_ints Tryz.underlying22 Tryz.underlying5 (by kernel_rfl) hf with ⟨hcs, _⟩ | ⟨x, l, c, zs, hcs, _, hl, hm, hz, _, hcell, hwz⟩
    · simp [Value.cells] at hcs
      obtain ⟨rfl, rfl, rfl⟩ := hcs
      exact ⟨_, (rdOf (zs := []) (cap := 0) (.inl ⟨rfl, rfl, rfl, rfl⟩)).1⟩
    · simp [Value.cells] at hcs
      obtain ⟨rfl, rfl, rfl⟩ := hcs
      exact ⟨_, (rdOf (zs := zs) (cap := cap0) (.inr ⟨_, rfl, hl, hm, by simpa using hz, hcell, hwz⟩)).1⟩
  clear hA0 hval0
  refine (walk a0 len0 cap0 z0 W w0 (table hL)).mono fun e W' ⟨he, bel⟩ => ?_
  subst he
  exact ⟨_, rfl, _, _, _, [], _, [], hW', trodAll_mk1 (shut_bool Tryz.underlying4 _), (trodAll_cons_mk (Below.trod laid0 (by kernel_rfl) (of_decide_eq_true (by kernel_rfl)) k0 bel lt0) trodAll_mk0), rfl, bel.frame _, fun h => by cases h⟩
/-- The cells that a table's datum stands for. -/
def cellsOfData : DataW Unit → Array Value
  | .agg l => (l.map fun d => match d with | .lit (.int k n) => Value.int k n | _ => undef).toArray
  | _ => #[]
def setBlock (cs : Array Value) : Obj → Obj
  | .cells _ t frozen => .cells cs t frozen
  | o => o
/-- A world for the witness: the settled one, each table holding what its initialiser lays. -/
noncomputable def laidWorld (os : Os) : World :=
  { World.holding Tryz.prog os ⟨#[], #[], []⟩ with heap := (((World.holding Tryz.prog os ⟨#[], #[], []⟩).heap.modify 2 (setBlock (cellsOfData Rows.laid_internal_strconv_uint64pow10))).modify 3 (setBlock (cellsOfData Rows.laid_math_bits_deBruijn32tab))).modify 4 (setBlock (cellsOfData Rows.laid_math_bits_deBruijn64tab)) }
theorem gDb32 : Tryz.prog.globalNamed "math/bits.deBruijn32tab" = some 3 := by kernel_rfl
theorem gDb64 : Tryz.prog.globalNamed "math/bits.deBruijn64tab" = some 4 := by kernel_rfl
theorem laid_met (os : Os) : laidMet Tryz.prog Rows.fnHeardRow.laid ((laidWorld os).forCall (fun _ _ => 0) ⟨#[], #[.slice none 0 0], []⟩).memory :=
  laidMet_of_run' 8 (by kernel_rfl) (by kernel_rfl)
theorem reads (os : Os) {H : Type} (enc : TypeId × Value → H) : ∃ places, DataW.whole enc Tryz.prog ((laidWorld os).forCall (fun _ _ => 0) ⟨#[], #[.slice none 0 0], []⟩).memory Tryz.f3.params.toList Rows.fnHeardSpec.vars false #[Value.slice none 0 0].toList 8 = some ([.nil], [], places) :=
  ⟨[], by kernel_rfl⟩

set_option maxRecDepth 100000 in
theorem lifted (os : Os) (started : os.Started) (H : Type) (enc : TypeId × Value → H) (F : Stop.Interp) :
    ReturnsInHanded {} Tryz.checked os 3 .any ((OpenSpec.ofChange Rows.fnHeardSpec).preRow enc Tryz.prog Tryz.f3 Rows.fnHeardRow.domain false Rows.fnHeardRow.laid) (((OpenSpec.ofChange Rows.fnHeardSpec).at F).post enc Tryz.prog Tryz.f3 false true false false) := by
  obtain ⟨places, hx⟩ := reads os enc
  refine returnsInHanded_of_row (C := Tryz.checked) (s := OpenSpec.ofChange Rows.fnHeardSpec) own started (by kernel_rfl) Tryz.func3
    (witness_row_at (enc := enc) (C := Tryz.checked) false (laidWorld os) #[.slice none 0 0] rfl (by kernel_rfl) (by kernel_rfl) (by kernel_rfl)
      (OpenSpec.preRow_of_cond 8 hx (by kernel_rfl) (fun k hk => by cases hk) (by kernel_rfl) (laid_met os))) ?_
  intro W base args ds gs before hval hW _ _ _ hL _ _
  exact contract H enc W base args ds gs before hval hW hL

theorem said : Rows.FnHeardSaid :=
  OpenClaim.holds_of_cond 3 Tryz.f3 rfl rfl rfl rfl rfl rfl rfl ⟨rfl, rfl, rfl, rfl, rfl⟩ rfl rfl rfl rfl rfl (by kernel_rfl) Tryz.func3 (by kernel_rfl)
    (of_decide_eq_true (by kernel_rfl)) (by unfold Func.isWrapper; first | (rw [if_pos (by decide +kernel)]; kernel_rfl) | (rw [if_neg (by decide +kernel)]; exact ⟨rfl, rfl⟩))
    (fun os started H enc _ F => by rw [OpenClaim.pre_eq_preRow]; exact lifted os started H enc F)

theorem plain (f : FuncId) (fn : Func) (hf : Tryz.pinned.checked.prog.funcNamed "loop.example/g00491/laws.FnHeard" = some f) (hfn : Tryz.pinned.checked.prog.funcs[f]? = some fn) :
    true = Tryz.pinned.checked.prog.looks [] ∧ ∀ (j : Nat) t, fn.params[j]? = some t → Tryz.pinned.checked.prog.wantsStandIn t = false := by
  obtain rfl : f = 3 := Option.some.inj ((show Tryz.prog.funcNamed "loop.example/g00491/laws.FnHeard" = some 3 by kernel_rfl).symm.trans hf) |>.symm
  obtain rfl : fn = Tryz.f3 := (Option.some.inj (Tryz.func3.symm.trans hfn)).symm
  refine ⟨by kernel_rfl, fun j t ht => ?_⟩
  rw [Tryz.params3] at ht
  obtain rfl : t = 22 := by simpa using Array.mem_of_getElem? ht
  exact (show Tryz.prog.wantsStandIn 22 = false by kernel_rfl)

theorem proved : Rows.FnHeardCardSaid :=
  Claim7.holds_tied_plain_at .later [] _ _ _ _ said (fun _ h => by cases h) (by kernel_rfl) (fun _ h => by cases h) fnHeard_row_tie rfl ⟨rfl, rfl⟩ (by kernel_rfl) rfl plain (by kernel_rfl)
#print axioms proved
end Go.Proofs.YtgkbhhlkaifnoaaGreatDoor.fnHeard
