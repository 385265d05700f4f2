/- Several texts of mine, laid together. No statement of the seat is proved here. -/
import Derived.Test.YtjndcfamfminkabB3
import Derived.Laws.BytesArg
import Derived.Test.YtjndcfamfminkabItHelp2
import Derived.Test.YtjndcfamfminkabFrData
import Derived.Test.YtjndcfamfminkabItModel
import Derived.Lib.SlBytesConst
/- The walk through the program's frameOfNumbers. No statement of the seat is proved here. -/
namespace Go.Proofs.Ytjndcfamfminkab
open Go.RowKit
def NewFrR (w : World) (R : Fr → Bool → Prop) (e : Ending) (w' : World) : Prop := ∃ v f d F G, e = .returned (.tuple #[v, .bool d]) ∧ RdFr w' v f F G ∧ Own w.heap.size w' F ∧ Own w.heap.size w' G ∧ (∀ b ∈ F, b ∉ G) ∧ Below w.heap.size w w' ∧ R f d
theorem rdFr_zero (w : World) : RdFr w (.agg #[.int .i64 0, .int .i64 0, .int .i64 0, .int .i64 0, .slice none 0 0, .int .i64 0, .int .i64 0, .int .i64 0, .int .i64 0, .int .i64 0, .int .i64 0, .int .i64 0, .int .i64 0, .slice none 0 0, .slice none 0 0, .slice none 0 0]) Fr.zero [] [] := ⟨none, 0, 0, none, 0, 0, none, 0, 0, none, 0, 0, rfl, RdP.nil, rdIt_zero w, fun _ => rfl, Nat.le_refl _⟩
theorem frN_no {l : List Int} (h : ∀ g : Fr, g.ok = true → l ≠ g.numbers) : FrN l Fr.zero false := (if_neg (by simp)).mpr ⟨rfl, h⟩
theorem numbers_drop (g : Fr) : g.numbers.drop 4 = (g.taken.length : Int) :: (flat g.taken ++ (if g.kind = 1 then [g.item.seq, g.item.cls, g.item.key, g.item.window] ++ g.item.sk.nums else [])) := by
  unfold Fr.numbers; rfl
theorem frN_short {l : List Int} (h : l.length < 4) : FrN l Fr.zero false := frN_no (fun g _ e => by
  have := congrArg List.length e
  unfold Fr.numbers at this
  rw [List.length_append, List.length_append] at this
  simp only [List.length_cons, List.length_nil] at this
  omega)
theorem frN_spans {l : List Int} {ps : Sp} {rest : List Int} (h : SpansIs (l.drop 4) ps rest false) : FrN l Fr.zero false := frN_no (fun g _ e => by
  unfold SpansIs at h
  rw [if_neg (by simp)] at h
  exact h.2.2 g.taken _ (by rw [e]; exact numbers_drop g))
/-- A frame that has these numbers has these spans, and the rest is its item's. -/
theorem spans_eq {l : List Int} {ps : Sp} {rest : List Int} {g : Fr} (h : SpansIs (l.drop 4) ps rest true) (e : l = g.numbers) : ps = g.taken ∧ rest = (if g.kind = 1 then [g.item.seq, g.item.cls, g.item.key, g.item.window] ++ g.item.sk.nums else []) := by
  unfold SpansIs at h
  rw [if_pos rfl, e, numbers_drop] at h
  simp only [List.cons.injEq] at h
  have hl : (flat g.taken).length = (flat ps).length := by rw [flat_length, flat_length]; omega
  obtain ⟨h1, h2⟩ := List.append_inj h.2 hl
  exact ⟨(flat_inj h1).symm, h2.symm⟩
theorem frN_item {l : List Int} {ps : Sp} {rest : List Int} {x : It} (h : SpansIs (l.drop 4) ps rest true) (k : ItemIs (l.getD 0 0) rest x false) : FrN l Fr.zero false := frN_no (fun g hg e => by
  have s := (spans_eq h e).2
  have k0 : l.getD 0 0 = g.kind := by rw [e]; rfl
  rw [k0] at k
  unfold ItemIs at k
  rw [if_neg (by simp)] at k
  by_cases q : g.kind = 1
  · rw [if_pos q] at s
    have i := (Fr.ok_right hg).item
    rw [if_pos q] at i
    exact k.1 q g.item (It.ok_nums i).2.2.2.2 s
  · rw [if_neg q] at s
    exact k.2 q s)
theorem frN_fin {l : List Int} {ps : Sp} {rest : List Int} {x : It} (h4 : 4 ≤ l.length) (h : SpansIs (l.drop 4) ps rest true) (k : ItemIs (l.getD 0 0) rest x true) : (({ kind := l.getD 0 0, agent := l.getD 1 0, epoch := l.getD 2 0, granted := l.getD 3 0, taken := ps, item := x } : Fr).ok = true → FrN l ⟨l.getD 0 0, l.getD 1 0, l.getD 2 0, l.getD 3 0, ps, x⟩ true) ∧ (({ kind := l.getD 0 0, agent := l.getD 1 0, epoch := l.getD 2 0, granted := l.getD 3 0, taken := ps, item := x } : Fr).ok = false → FrN l Fr.zero false) := by
  have hs := h
  unfold SpansIs at hs
  rw [if_pos rfl] at hs
  have kk := k
  unfold ItemIs at kk
  rw [if_pos rfl] at kk
  refine ⟨fun ok => (if_pos rfl).mpr ⟨ok, ?_⟩, fun ok => frN_no (fun g hg e => ?_)⟩
  · conv => lhs; rw [split4 h4, hs]
    unfold Fr.numbers
    by_cases q : l.getD 0 0 = 1
    · rw [if_pos q] at kk
      simp only [if_pos q]
      rw [kk.1]
      simp
    · rw [if_neg q] at kk
      simp only [if_neg q]
      rw [kk.1]
      simp
  · have s := spans_eq h e
    have k0 : l.getD 0 0 = g.kind := by rw [e]; rfl
    have k1 : l.getD 1 0 = g.agent := by rw [e]; rfl
    have k2 : l.getD 2 0 = g.epoch := by rw [e]; rfl
    have k3 : l.getD 3 0 = g.granted := by rw [e]; rfl
    have i := (Fr.ok_right hg).item
    have ei : x = g.item := by
      rw [k0] at kk
      by_cases q : g.kind = 1
      · rw [if_pos q] at kk i
        have s2 := s.2
        rw [if_pos q, kk.1] at s2
        simp only [List.cons_append, List.nil_append, List.cons.injEq] at s2
        exact It.eq_of s2.1 s2.2.1 s2.2.2.1 s2.2.2.2.1 (Sk.nums_inj (Sk.ok_lens kk.2).1 (Sk.ok_lens (It.ok_nums i).2.2.2.2).1 s2.2.2.2.2)
      · rw [if_neg q] at kk i
        exact kk.2.trans i.symm
    have : (⟨l.getD 0 0, l.getD 1 0, l.getD 2 0, l.getD 3 0, ps, x⟩ : Fr) = g := Fr.eq_of k0 k1 k2 k3 s.1 ei
    rw [this, hg] at ok
    cases ok
def NumItHeld (b off : Nat) (x0 x1 x2 x3 : Int) (g : Nat) (ds : Array Value) (W : World) : Prop := NumHeld b off x0 x1 x2 x3 W ∧ Blk W g ds 40
set_option maxRecDepth 200000 in
set_option maxHeartbeats 4000000 in
theorem frameOfNumbers_any (a : Option Addr) (len cap : Nat) (l : List Int) (F : List Nat) (w : World) (h : RdI w a len l F) (hlen : len ≤ 1048576) (hcap : len ≤ cap) (hn : ∀ x ∈ l, InN x) :
    Calls Try.prog 79 #[.slice a len cap] w fun e w' => NewFrR w (FrN l) e w' := by
  have HL : Hid (l.length = len) := h.length
  have HN : Hid (∀ x ∈ l.drop 4, InN x) := fun x hx => hn x (List.mem_of_mem_drop hx)
  have HT : Hid (Blk (w.alloc (.cells #[.int .i64 0, .int .i64 0, .int .i64 0, .int .i64 0, .slice none 0 0, .int .i64 0, .int .i64 0, .int .i64 0, .int .i64 0, .int .i64 0, .int .i64 0, .int .i64 0, .int .i64 0, .slice none 0 0, .slice none 0 0, .slice none 0 0] 51)) w.heap.size #[.int .i64 0, .int .i64 0, .int .i64 0, .int .i64 0, .slice none 0 0, .int .i64 0, .int .i64 0, .int .i64 0, .int .i64 0, .int .i64 0, .int .i64 0, .int .i64 0, .int .i64 0, .slice none 0 0, .slice none 0 0, .slice none 0 0] 51 ∧ Below w.heap.size w (w.alloc (.cells #[.int .i64 0, .int .i64 0, .int .i64 0, .int .i64 0, .slice none 0 0, .int .i64 0, .int .i64 0, .int .i64 0, .int .i64 0, .int .i64 0, .int .i64 0, .int .i64 0, .int .i64 0, .slice none 0 0, .slice none 0 0, .slice none 0 0] 51))) := ⟨Blk.made _ _ _, (Below.refl _ _).alloc (Nat.le_refl _) _⟩
  by_cases h4 : len < 4
  · have h4b : decide ((len : Int) < 4) = true := dec_true (by omega)
    have HV : Hid (FrN l Fr.zero false) := frN_short (by rw [HL.out]; exact h4)
    clear h
    go_enter Try.func79, Try.ntmps79
    go_wp2_with (first | go_skip | (with_reducible refine stopStore 51 rfl ?_))
    refine store_known 51 w.heap.size _ #[.int .i64 0, .int .i64 0, .int .i64 0, .int .i64 0, .slice none 0 0, .int .i64 0, .int .i64 0, .int .i64 0, .int .i64 0, .int .i64 0, .int .i64 0, .int .i64 0, .int .i64 0, .slice none 0 0, .slice none 0 0, .slice none 0 0] 51 HT.out.1 rfl rfl rfl rfl infoFrF7 rfl (by simp [Value.oneCell']) ?_
    go_wp2
    refine bodyPost_ret (results_row_tmp Try.results79 _ _ w.heap.size _ _ _ _ rfl HT.out.1.setRow Try.underlying51 rfl infoFrF7) rfl ?_
    exact ⟨_, Fr.zero, false, [], [], rfl, rdFr_zero _, Own.nil, Own.nil, by simp, below_setRow HT.out.2 (Nat.le_refl _) _, HV.out⟩
  have h4b : decide ((len : Int) < 4) = false := dec_false (by omega)
  have h4i : (4 : Int) ≤ (len : Int) := by omega
  obtain ⟨b, off, rfl⟩ := h.addr (by omega)
  have HR : Hid (RdI w (some ⟨b, off, none⟩) len l F) := h
  obtain ⟨x0, hx0⟩ : ∃ x, x = l.getD 0 0 := ⟨_, rfl⟩
  obtain ⟨x1, hx1⟩ : ∃ x, x = l.getD 1 0 := ⟨_, rfl⟩
  obtain ⟨x2, hx2⟩ : ∃ x, x = l.getD 2 0 := ⟨_, rfl⟩
  obtain ⟨x3, hx3⟩ : ∃ x, x = l.getD 3 0 := ⟨_, rfl⟩
  have HX : Hid (x0 = l.getD 0 0 ∧ x1 = l.getD 1 0 ∧ x2 = l.getD 2 0 ∧ x3 = l.getD 3 0) := ⟨hx0, hx1, hx2, hx3⟩
  have HKN : Hid (∀ W, Below w.heap.size w W → NumHeld b off x0 x1 x2 x3 W) := fun W hb => by rw [hx0, hx1, hx2, hx3]; exact (HR.out.below hb).numHeld (by omega)
  by_cases hc4 : cap = 4
  · obtain ⟨G, hG⟩ := (h.below HT.out.2).rest (cap := cap) 4 (by omega) hcap
    rw [if_pos hc4] at hG
    have HG : Hid (RdI (w.alloc (.cells #[.int .i64 0, .int .i64 0, .int .i64 0, .int .i64 0, .slice none 0 0, .int .i64 0, .int .i64 0, .int .i64 0, .int .i64 0, .int .i64 0, .int .i64 0, .int .i64 0, .int .i64 0, .slice none 0 0, .slice none 0 0, .slice none 0 0] 51)) (some ⟨b, off, none⟩) (len - 4) (l.drop 4) G) := hG
    clear h hx0 hx1 hx2 hx3 hG hn
    go_enter Try.func79, Try.ntmps79
    go_wp2_with fail
    refine (spansOfNumbers_any _ (len - 4) _ (l.drop 4) G _ HG.out (by omega) (by omega) HN.out).mono ?_
    rintro e w1 ⟨b1, m1, k1, ar, lr, cr, ps, rest, d1, F1, G1, rfl, rp, cpd, op, rr, hlr, hcr, hSp, bs⟩
    have HS1 : Hid (RdP w1 b1 m1 ps F1 ∧ Capd b1 m1 k1 ∧ Own (w.heap.size + 1) w1 F1 ∧ RdI w1 ar lr rest G1 ∧ SpansIs (l.drop 4) ps rest d1) := ⟨rp, cpd, by simpa using op, rr, hSp⟩
    have HT1 : Hid (Blk w1 w.heap.size #[.int .i64 0, .int .i64 0, .int .i64 0, .int .i64 0, .slice none 0 0, .int .i64 0, .int .i64 0, .int .i64 0, .int .i64 0, .int .i64 0, .int .i64 0, .int .i64 0, .int .i64 0, .slice none 0 0, .slice none 0 0, .slice none 0 0] 51 ∧ Below w.heap.size w w1) := ⟨HT.out.1.below bs, Below.next HT.out.2 bs⟩
    have hm1 : m1 ≤ 1048576 := by
      have q := hSp
      unfold SpansIs at q
      cases d1 <;> simp only [if_true, Bool.false_eq_true, if_false] at q
      · rw [← rp.length, q.1]; simp
      · have := congrArg List.length q
        rw [List.length_cons, List.length_append, flat_length, List.length_drop, HL.out, rp.length] at this
        omega
    have cc := (HKN.out _ HT1.out.2).1
    clear rp cpd op rr hSp bs HT HG
    go_wp2_with fail
    refine (itemOfNumbers_any ar lr cr x0 rest G1 _ HS1.out.2.2.2.1 (by omega) hcr).mono ?_
    rintro e w2 ⟨v2, x, d2, X, rfl, rx, ox, bx, hwx, hIt⟩
    obtain ⟨a1, n1, c1, a2, n2, c2, a3, n3, c3, rfl⟩ := rx.cells11
    have HS2 : Hid (RdIt w2 (.agg #[.int .i64 x.seq, .int .i64 x.cls, .int .i64 x.key, .int .i64 x.window, .int .i64 x.sk.count, .int .i64 x.sk.sum, .int .i64 x.sk.min, .int .i64 x.sk.max, .slice a1 n1 c1, .slice a2 n2 c2, .slice a3 n3 c3]) x X ∧ Own w1.heap.size w2 X ∧ x.sk.wide ∧ ItemIs x0 rest x d2) := ⟨rx, ox, hwx, hIt⟩
    have HP2 : Hid (RdP w2 b1 m1 ps F1 ∧ Capd b1 m1 k1 ∧ Own (w.heap.size + 1) w2 F1 ∧ SpansIs (l.drop 4) ps rest d1 ∧ ∀ b ∈ F1, b < w1.heap.size) := ⟨HS1.out.1.below bx, HS1.out.2.1, HS1.out.2.2.1.below HS1.out.1.lt bx, HS1.out.2.2.2.2, HS1.out.1.lt⟩
    have HT2 : Hid (Blk w2 w.heap.size #[.int .i64 0, .int .i64 0, .int .i64 0, .int .i64 0, .slice none 0 0, .int .i64 0, .int .i64 0, .int .i64 0, .int .i64 0, .int .i64 0, .int .i64 0, .int .i64 0, .int .i64 0, .slice none 0 0, .slice none 0 0, .slice none 0 0] 51 ∧ Below w.heap.size w w2) := ⟨HT1.out.1.below bx, Below.next HT1.out.2 bx⟩
    have lt1 : w.heap.size < w1.heap.size := HT1.out.1.lt
    clear rx ox bx hwx hIt HS1 HT1 cc
    go_wp2_with (first | go_skip | (with_reducible refine stopStore 40 rfl ?_))
    refine store_fresh 40 w2.heap.size rfl #[.int .i64 0, .int .i64 0, .int .i64 0, .int .i64 0, .int .i64 0, .int .i64 0, .int .i64 0, .int .i64 0, .slice none 0 0, .slice none 0 0, .slice none 0 0] #[.int .i64 x.seq, .int .i64 x.cls, .int .i64 x.key, .int .i64 x.window, .int .i64 x.sk.count, .int .i64 x.sk.sum, .int .i64 x.sk.min, .int .i64 x.sk.max, .slice a1 n1 c1, .slice a2 n2 c2, .slice a3 n3 c3] 40 rfl rfl rfl rfl infoItA7 rfl (one11 ..) ?_
    intro W3 hg3 hb3
    have HW3 : Hid (NumItHeld b off x0 x1 x2 x3 w2.heap.size #[.int .i64 x.seq, .int .i64 x.cls, .int .i64 x.key, .int .i64 x.window, .int .i64 x.sk.count, .int .i64 x.sk.sum, .int .i64 x.sk.min, .int .i64 x.sk.max, .slice a1 n1 c1, .slice a2 n2 c2, .slice a3 n3 c3] W3.drew ∧ Below w.heap.size w W3.drew ∧ Blk W3.drew w.heap.size #[.int .i64 0, .int .i64 0, .int .i64 0, .int .i64 0, .slice none 0 0, .int .i64 0, .int .i64 0, .int .i64 0, .int .i64 0, .int .i64 0, .int .i64 0, .int .i64 0, .int .i64 0, .slice none 0 0, .slice none 0 0, .slice none 0 0] 51 ∧ RdIt W3.drew (.agg #[.int .i64 x.seq, .int .i64 x.cls, .int .i64 x.key, .int .i64 x.window, .int .i64 x.sk.count, .int .i64 x.sk.sum, .int .i64 x.sk.min, .int .i64 x.sk.max, .slice a1 n1 c1, .slice a2 n2 c2, .slice a3 n3 c3]) x X ∧ Own w1.heap.size W3.drew X ∧ RdP W3.drew b1 m1 ps F1 ∧ Own (w.heap.size + 1) W3.drew F1) := by
      have bb := (Below.next HT2.out.2 hb3).drew
      exact ⟨⟨HKN.out _ bb, hg3.drew⟩, bb, (HT2.out.1.below hb3).drew, (HS2.out.1.below hb3).below (Below.refl _ _).drew, (HS2.out.2.1.below HS2.out.1.lt hb3).agree (fun _ _ => rfl), (HP2.out.1.below hb3).below (Below.refl _ _).drew, (HP2.out.2.2.1.below HP2.out.1.lt hb3).agree (fun _ _ => rfl)⟩
    clear hg3 hb3 HT2
    go_wp2
    refine wp_region_held (S := NumItHeld b off x0 x1 x2 x3 w2.heap.size #[.int .i64 x.seq, .int .i64 x.cls, .int .i64 x.key, .int .i64 x.window, .int .i64 x.sk.count, .int .i64 x.sk.sum, .int .i64 x.sk.min, .int .i64 x.sk.max, .slice a1 n1 c1, .slice a2 n2 c2, .slice a3 n3 c3]) (by kernel_rfl) ?_
    change wpAnyH _ _ _ _ _ _ _ _ (World.drew _)
    refine takeH (o := ?oa1) 0 (.slice (some ⟨b, off, none⟩) len cap) ?ha1 ?ra1
    case ha1 => simp only [aT, aZ]; rfl
    refine ⟨_, by simp [Act.put]; rfl, by kernel_rfl, by kernel_rfl, by kernel_rfl, fun _ _ _ h => h, (.inl ⟨rfl, fun W _ => by go_simp⟩), HW3.out.1, ?_⟩
    refine takeH (o := ?oa2) 1 (.pointer (some ⟨b, off, none⟩)) ?ha2 ?ra2
    case ha2 => simp only [aT, aS, aZ]; rfl
    refine ⟨_, by simp [Act.put]; rfl, by kernel_rfl, by kernel_rfl, by kernel_rfl, fun _ _ _ h => h, (.inl ⟨rfl, fun W _ => by (have q0 : (0 : Int) < (len : Int) := by omega); first | (go_simp; done) | (go_simp; intro h; omega)⟩), HW3.out.1, ?_⟩
    refine takeH (o := ?oa3) 2 (.int .i64 x0) ?ha3 ?ra3
    case ha3 => simp only [aT, aS, aZ]; rfl
    refine ⟨_, by simp [Act.put]; rfl, by kernel_rfl, by kernel_rfl, by kernel_rfl, fun _ _ _ h => h, (.inl ⟨rfl, fun W hW => by have c := hW.1.1; go_simp⟩), HW3.out.1, ?_⟩
    refine takeH (o := ?oa4) 3 (.slice (some ⟨b, off, none⟩) len cap) ?ha4 ?ra4
    case ha4 => simp only [aT, aS, aZ]; rfl
    refine ⟨_, by simp [Act.put]; rfl, by kernel_rfl, by kernel_rfl, by kernel_rfl, fun _ _ _ h => h, (.inl ⟨rfl, fun W _ => by go_simp⟩), HW3.out.1, ?_⟩
    refine takeH (o := ?oa5) 4 (.pointer (some ⟨b, off + 1, none⟩)) ?ha5 ?ra5
    case ha5 => simp only [aT, aS, aZ]; rfl
    refine ⟨_, by simp [Act.put]; rfl, by kernel_rfl, by kernel_rfl, by kernel_rfl, fun _ _ _ h => h, (.inl ⟨rfl, fun W _ => by (have q1 : (1 : Int) < (len : Int) := by omega); first | (go_simp; done) | (go_simp; intro h; omega)⟩), HW3.out.1, ?_⟩
    refine takeH (o := ?oa6) 5 (.int .i64 x1) ?ha6 ?ra6
    case ha6 => simp only [aT, aS, aZ]; rfl
    refine ⟨_, by simp [Act.put]; rfl, by kernel_rfl, by kernel_rfl, by kernel_rfl, fun _ _ _ h => h, (.inl ⟨rfl, fun W hW => by have c := hW.1.2.1; go_simp⟩), HW3.out.1, ?_⟩
    refine takeH (o := ?oa7) 6 (.slice (some ⟨b, off, none⟩) len cap) ?ha7 ?ra7
    case ha7 => simp only [aT, aS, aZ]; rfl
    refine ⟨_, by simp [Act.put]; rfl, by kernel_rfl, by kernel_rfl, by kernel_rfl, fun _ _ _ h => h, (.inl ⟨rfl, fun W _ => by go_simp⟩), HW3.out.1, ?_⟩
    refine takeH (o := ?oa8) 7 (.pointer (some ⟨b, off + 2, none⟩)) ?ha8 ?ra8
    case ha8 => simp only [aT, aS, aZ]; rfl
    refine ⟨_, by simp [Act.put]; rfl, by kernel_rfl, by kernel_rfl, by kernel_rfl, fun _ _ _ h => h, (.inl ⟨rfl, fun W _ => by (have q2 : (2 : Int) < (len : Int) := by omega); first | (go_simp; done) | (go_simp; intro h; omega)⟩), HW3.out.1, ?_⟩
    refine takeH (o := ?oa9) 8 (.int .i64 x2) ?ha9 ?ra9
    case ha9 => simp only [aT, aS, aZ]; rfl
    refine ⟨_, by simp [Act.put]; rfl, by kernel_rfl, by kernel_rfl, by kernel_rfl, fun _ _ _ h => h, (.inl ⟨rfl, fun W hW => by have c := hW.1.2.2.1; go_simp⟩), HW3.out.1, ?_⟩
    refine takeH (o := ?oa10) 9 (.slice (some ⟨b, off, none⟩) len cap) ?ha10 ?ra10
    case ha10 => simp only [aT, aS, aZ]; rfl
    refine ⟨_, by simp [Act.put]; rfl, by kernel_rfl, by kernel_rfl, by kernel_rfl, fun _ _ _ h => h, (.inl ⟨rfl, fun W _ => by go_simp⟩), HW3.out.1, ?_⟩
    refine takeH (o := ?oa11) 10 (.pointer (some ⟨b, off + 3, none⟩)) ?ha11 ?ra11
    case ha11 => simp only [aT, aS, aZ]; rfl
    refine ⟨_, by simp [Act.put]; rfl, by kernel_rfl, by kernel_rfl, by kernel_rfl, fun _ _ _ h => h, (.inl ⟨rfl, fun W _ => by (have q3 : (3 : Int) < (len : Int) := by omega); first | (go_simp; done) | (go_simp; intro h; omega)⟩), HW3.out.1, ?_⟩
    refine takeH (o := ?oa12) 11 (.int .i64 x3) ?ha12 ?ra12
    case ha12 => simp only [aT, aS, aZ]; rfl
    refine ⟨_, by simp [Act.put]; rfl, by kernel_rfl, by kernel_rfl, by kernel_rfl, fun _ _ _ h => h, (.inl ⟨rfl, fun W hW => by have c := hW.1.2.2.2; go_simp⟩), HW3.out.1, ?_⟩
    refine takeH (o := ?oa13) 12 (.slice b1 m1 k1) ?ha13 ?ra13
    case ha13 => simp only [aT, aS, aZ]; rfl
    refine ⟨_, by simp [Act.put]; rfl, by kernel_rfl, by kernel_rfl, by kernel_rfl, fun _ _ _ h => h, (.inl ⟨rfl, fun W _ => by go_simp⟩), HW3.out.1, ?_⟩
    refine takeH (o := ?oa14) 13 (.agg #[.int .i64 x.seq, .int .i64 x.cls, .int .i64 x.key, .int .i64 x.window, .int .i64 x.sk.count, .int .i64 x.sk.sum, .int .i64 x.sk.min, .int .i64 x.sk.max, .slice a1 n1 c1, .slice a2 n2 c2, .slice a3 n3 c3]) ?ha14 ?ra14
    case ha14 => simp only [aT, aS, aZ]; rfl
    refine ⟨_, by simp [Act.put]; rfl, by kernel_rfl, by kernel_rfl, by kernel_rfl, fun _ _ _ h => h, (yields_whole 40 w2.heap.size #[.int .i64 x.seq, .int .i64 x.cls, .int .i64 x.key, .int .i64 x.window, .int .i64 x.sk.count, .int .i64 x.sk.sum, .int .i64 x.sk.min, .int .i64 x.sk.max, .slice a1 n1 c1, .slice a2 n2 c2, .slice a3 n3 c3] 40 _ rfl rfl rfl Try.underlying40 rfl infoItA7 (fun W hW => hW.2)), HW3.out.1, ?_⟩
    refine takeH (o := ?oa15) 14 (.agg #[.int .i64 x0, .int .i64 x1, .int .i64 x2, .int .i64 x3, .slice b1 m1 k1, .int .i64 x.seq, .int .i64 x.cls, .int .i64 x.key, .int .i64 x.window, .int .i64 x.sk.count, .int .i64 x.sk.sum, .int .i64 x.sk.min, .int .i64 x.sk.max, .slice a1 n1 c1, .slice a2 n2 c2, .slice a3 n3 c3]) ?ha15 ?ra15
    case ha15 => simp only [aT, aS, aZ]; rfl
    refine ⟨_, by simp [Act.put]; rfl, by kernel_rfl, by kernel_rfl, by kernel_rfl, fun _ _ _ h => h, (.inl ⟨rfl, fun W _ => by go_simp⟩), HW3.out.1, ?_⟩
    refine onlyH (o := ?oa16) 15 (by kernel_rfl) ?ha16 ?ra16
    case ha16 => simp only [aT, aS, aZ]; rfl
    intro K hK
    have bA : Below W3.drew.heap.size W3.drew (W3.drew.alloc (.cells #[.int .i64 0, .int .i64 0, .int .i64 0, .int .i64 0, .slice none 0 0, .int .i64 0, .int .i64 0, .int .i64 0, .int .i64 0, .int .i64 0, .int .i64 0, .int .i64 0, .int .i64 0, .slice none 0 0, .slice none 0 0, .slice none 0 0] 51)) := (Below.refl _ _).alloc (Nat.le_refl _) _
    have HA : Hid (Below w.heap.size w (W3.drew.alloc (.cells #[.int .i64 0, .int .i64 0, .int .i64 0, .int .i64 0, .slice none 0 0, .int .i64 0, .int .i64 0, .int .i64 0, .int .i64 0, .int .i64 0, .int .i64 0, .int .i64 0, .int .i64 0, .slice none 0 0, .slice none 0 0, .slice none 0 0] 51)) ∧ Blk (W3.drew.alloc (.cells #[.int .i64 0, .int .i64 0, .int .i64 0, .int .i64 0, .slice none 0 0, .int .i64 0, .int .i64 0, .int .i64 0, .int .i64 0, .int .i64 0, .int .i64 0, .int .i64 0, .int .i64 0, .slice none 0 0, .slice none 0 0, .slice none 0 0] 51)) W3.heap.size #[.int .i64 0, .int .i64 0, .int .i64 0, .int .i64 0, .slice none 0 0, .int .i64 0, .int .i64 0, .int .i64 0, .int .i64 0, .int .i64 0, .int .i64 0, .int .i64 0, .int .i64 0, .slice none 0 0, .slice none 0 0, .slice none 0 0] 51) := ⟨Below.next HW3.out.2.1 bA, Blk.made W3.drew _ _⟩
    refine op_turn (.pointer (some ⟨W3.heap.size, 0, none⟩)) (W3.drew.alloc (.cells #[.int .i64 0, .int .i64 0, .int .i64 0, .int .i64 0, .slice none 0 0, .int .i64 0, .int .i64 0, .int .i64 0, .int .i64 0, .int .i64 0, .int .i64 0, .int .i64 0, .int .i64 0, .slice none 0 0, .slice none 0 0, .slice none 0 0] 51)) rfl (by go_simp) ⟨_, by simp [Act.put]; rfl, hK _ _ ⟨⟨HKN.out _ HA.out.1, HW3.out.1.2.below bA⟩, ?_⟩⟩
    clear hK
    refine onlyH (o := ?oa17) 16 (by kernel_rfl) ?ha17 ?ra17
    case ha17 => simp only [aT, aS, aZ]; rfl
    intro K hK
    have l3 : w.heap.size < W3.heap.size := HW3.out.2.2.1.lt
    have l32 : w2.heap.size < W3.heap.size := HW3.out.1.2.lt
    have nX : W3.heap.size ∉ X := fun hx => by have q : _ < W3.heap.size := HW3.out.2.2.2.1.lt _ hx; omega
    have nF : W3.heap.size ∉ F1 := fun hx => by have q : _ < W3.heap.size := HW3.out.2.2.2.2.2.1.lt _ hx; omega
    have HQ : Hid (Below w.heap.size w ((W3.drew.alloc (.cells #[.int .i64 0, .int .i64 0, .int .i64 0, .int .i64 0, .slice none 0 0, .int .i64 0, .int .i64 0, .int .i64 0, .int .i64 0, .int .i64 0, .int .i64 0, .int .i64 0, .int .i64 0, .slice none 0 0, .slice none 0 0, .slice none 0 0] 51)).setRow W3.heap.size #[.int .i64 x0, .int .i64 x1, .int .i64 x2, .int .i64 x3, .slice b1 m1 k1, .int .i64 x.seq, .int .i64 x.cls, .int .i64 x.key, .int .i64 x.window, .int .i64 x.sk.count, .int .i64 x.sk.sum, .int .i64 x.sk.min, .int .i64 x.sk.max, .slice a1 n1 c1, .slice a2 n2 c2, .slice a3 n3 c3]) ∧ Blk ((W3.drew.alloc (.cells #[.int .i64 0, .int .i64 0, .int .i64 0, .int .i64 0, .slice none 0 0, .int .i64 0, .int .i64 0, .int .i64 0, .int .i64 0, .int .i64 0, .int .i64 0, .int .i64 0, .int .i64 0, .slice none 0 0, .slice none 0 0, .slice none 0 0] 51)).setRow W3.heap.size #[.int .i64 x0, .int .i64 x1, .int .i64 x2, .int .i64 x3, .slice b1 m1 k1, .int .i64 x.seq, .int .i64 x.cls, .int .i64 x.key, .int .i64 x.window, .int .i64 x.sk.count, .int .i64 x.sk.sum, .int .i64 x.sk.min, .int .i64 x.sk.max, .slice a1 n1 c1, .slice a2 n2 c2, .slice a3 n3 c3]) w.heap.size #[.int .i64 0, .int .i64 0, .int .i64 0, .int .i64 0, .slice none 0 0, .int .i64 0, .int .i64 0, .int .i64 0, .int .i64 0, .int .i64 0, .int .i64 0, .int .i64 0, .int .i64 0, .slice none 0 0, .slice none 0 0, .slice none 0 0] 51 ∧ Blk ((W3.drew.alloc (.cells #[.int .i64 0, .int .i64 0, .int .i64 0, .int .i64 0, .slice none 0 0, .int .i64 0, .int .i64 0, .int .i64 0, .int .i64 0, .int .i64 0, .int .i64 0, .int .i64 0, .int .i64 0, .slice none 0 0, .slice none 0 0, .slice none 0 0] 51)).setRow W3.heap.size #[.int .i64 x0, .int .i64 x1, .int .i64 x2, .int .i64 x3, .slice b1 m1 k1, .int .i64 x.seq, .int .i64 x.cls, .int .i64 x.key, .int .i64 x.window, .int .i64 x.sk.count, .int .i64 x.sk.sum, .int .i64 x.sk.min, .int .i64 x.sk.max, .slice a1 n1 c1, .slice a2 n2 c2, .slice a3 n3 c3]) W3.heap.size #[.int .i64 x0, .int .i64 x1, .int .i64 x2, .int .i64 x3, .slice b1 m1 k1, .int .i64 x.seq, .int .i64 x.cls, .int .i64 x.key, .int .i64 x.window, .int .i64 x.sk.count, .int .i64 x.sk.sum, .int .i64 x.sk.min, .int .i64 x.sk.max, .slice a1 n1 c1, .slice a2 n2 c2, .slice a3 n3 c3] 51 ∧ RdIt ((W3.drew.alloc (.cells #[.int .i64 0, .int .i64 0, .int .i64 0, .int .i64 0, .slice none 0 0, .int .i64 0, .int .i64 0, .int .i64 0, .int .i64 0, .int .i64 0, .int .i64 0, .int .i64 0, .int .i64 0, .slice none 0 0, .slice none 0 0, .slice none 0 0] 51)).setRow W3.heap.size #[.int .i64 x0, .int .i64 x1, .int .i64 x2, .int .i64 x3, .slice b1 m1 k1, .int .i64 x.seq, .int .i64 x.cls, .int .i64 x.key, .int .i64 x.window, .int .i64 x.sk.count, .int .i64 x.sk.sum, .int .i64 x.sk.min, .int .i64 x.sk.max, .slice a1 n1 c1, .slice a2 n2 c2, .slice a3 n3 c3]) (.agg #[.int .i64 x.seq, .int .i64 x.cls, .int .i64 x.key, .int .i64 x.window, .int .i64 x.sk.count, .int .i64 x.sk.sum, .int .i64 x.sk.min, .int .i64 x.sk.max, .slice a1 n1 c1, .slice a2 n2 c2, .slice a3 n3 c3]) x X ∧ Own w1.heap.size ((W3.drew.alloc (.cells #[.int .i64 0, .int .i64 0, .int .i64 0, .int .i64 0, .slice none 0 0, .int .i64 0, .int .i64 0, .int .i64 0, .int .i64 0, .int .i64 0, .int .i64 0, .int .i64 0, .int .i64 0, .slice none 0 0, .slice none 0 0, .slice none 0 0] 51)).setRow W3.heap.size #[.int .i64 x0, .int .i64 x1, .int .i64 x2, .int .i64 x3, .slice b1 m1 k1, .int .i64 x.seq, .int .i64 x.cls, .int .i64 x.key, .int .i64 x.window, .int .i64 x.sk.count, .int .i64 x.sk.sum, .int .i64 x.sk.min, .int .i64 x.sk.max, .slice a1 n1 c1, .slice a2 n2 c2, .slice a3 n3 c3]) X ∧ RdP ((W3.drew.alloc (.cells #[.int .i64 0, .int .i64 0, .int .i64 0, .int .i64 0, .slice none 0 0, .int .i64 0, .int .i64 0, .int .i64 0, .int .i64 0, .int .i64 0, .int .i64 0, .int .i64 0, .int .i64 0, .slice none 0 0, .slice none 0 0, .slice none 0 0] 51)).setRow W3.heap.size #[.int .i64 x0, .int .i64 x1, .int .i64 x2, .int .i64 x3, .slice b1 m1 k1, .int .i64 x.seq, .int .i64 x.cls, .int .i64 x.key, .int .i64 x.window, .int .i64 x.sk.count, .int .i64 x.sk.sum, .int .i64 x.sk.min, .int .i64 x.sk.max, .slice a1 n1 c1, .slice a2 n2 c2, .slice a3 n3 c3]) b1 m1 ps F1 ∧ Own (w.heap.size + 1) ((W3.drew.alloc (.cells #[.int .i64 0, .int .i64 0, .int .i64 0, .int .i64 0, .slice none 0 0, .int .i64 0, .int .i64 0, .int .i64 0, .int .i64 0, .int .i64 0, .int .i64 0, .int .i64 0, .int .i64 0, .slice none 0 0, .slice none 0 0, .slice none 0 0] 51)).setRow W3.heap.size #[.int .i64 x0, .int .i64 x1, .int .i64 x2, .int .i64 x3, .slice b1 m1 k1, .int .i64 x.seq, .int .i64 x.cls, .int .i64 x.key, .int .i64 x.window, .int .i64 x.sk.count, .int .i64 x.sk.sum, .int .i64 x.sk.min, .int .i64 x.sk.max, .slice a1 n1 c1, .slice a2 n2 c2, .slice a3 n3 c3]) F1) := by
      refine ⟨below_setRow HA.out.1 (by omega) _, (HW3.out.2.2.1.below bA).setRowOther (by omega), HA.out.2.setRow, (HW3.out.2.2.2.1.below bA).agree (Agree.row nX _), (HW3.out.2.2.2.2.1.below HW3.out.2.2.2.1.lt bA).agree (Agree.row nX _), (HW3.out.2.2.2.2.2.1.below bA).agree (Agree.row nF _), (HW3.out.2.2.2.2.2.2.below HW3.out.2.2.2.2.2.1.lt bA).agree (Agree.row nF _)⟩
    have HQS : Hid (NumItHeld b off x0 x1 x2 x3 w2.heap.size #[.int .i64 x.seq, .int .i64 x.cls, .int .i64 x.key, .int .i64 x.window, .int .i64 x.sk.count, .int .i64 x.sk.sum, .int .i64 x.sk.min, .int .i64 x.sk.max, .slice a1 n1 c1, .slice a2 n2 c2, .slice a3 n3 c3] ((W3.drew.alloc (.cells #[.int .i64 0, .int .i64 0, .int .i64 0, .int .i64 0, .slice none 0 0, .int .i64 0, .int .i64 0, .int .i64 0, .int .i64 0, .int .i64 0, .int .i64 0, .int .i64 0, .int .i64 0, .slice none 0 0, .slice none 0 0, .slice none 0 0] 51)).setRow W3.heap.size #[.int .i64 x0, .int .i64 x1, .int .i64 x2, .int .i64 x3, .slice b1 m1 k1, .int .i64 x.seq, .int .i64 x.cls, .int .i64 x.key, .int .i64 x.window, .int .i64 x.sk.count, .int .i64 x.sk.sum, .int .i64 x.sk.min, .int .i64 x.sk.max, .slice a1 n1 c1, .slice a2 n2 c2, .slice a3 n3 c3])) := ⟨HKN.out _ HQ.out.1, (HW3.out.1.2.below bA).setRowOther (by omega)⟩
    refine op_store 51 W3.heap.size #[.int .i64 0, .int .i64 0, .int .i64 0, .int .i64 0, .slice none 0 0, .int .i64 0, .int .i64 0, .int .i64 0, .int .i64 0, .int .i64 0, .int .i64 0, .int .i64 0, .int .i64 0, .slice none 0 0, .slice none 0 0, .slice none 0 0] #[.int .i64 x0, .int .i64 x1, .int .i64 x2, .int .i64 x3, .slice b1 m1 k1, .int .i64 x.seq, .int .i64 x.cls, .int .i64 x.key, .int .i64 x.window, .int .i64 x.sk.count, .int .i64 x.sk.sum, .int .i64 x.sk.min, .int .i64 x.sk.max, .slice a1 n1 c1, .slice a2 n2 c2, .slice a3 n3 c3] 51 rfl rfl rfl rfl HA.out.2 infoFrF7 rfl (by simp [Value.oneCell']) ⟨_, by simp [Act.put]; rfl, hK _ _ ⟨HQS.out, ?_⟩⟩
    clear hK bA HA HW3 nX nF HQS
    refine wpAnyH_done (by kernel_rfl) ?_ _
    obtain ⟨W5, hW5⟩ : ∃ W, W = (W3.drew.alloc (.cells #[.int .i64 0, .int .i64 0, .int .i64 0, .int .i64 0, .slice none 0 0, .int .i64 0, .int .i64 0, .int .i64 0, .int .i64 0, .int .i64 0, .int .i64 0, .int .i64 0, .int .i64 0, .slice none 0 0, .slice none 0 0, .slice none 0 0] 51)).setRow W3.heap.size #[.int .i64 x0, .int .i64 x1, .int .i64 x2, .int .i64 x3, .slice b1 m1 k1, .int .i64 x.seq, .int .i64 x.cls, .int .i64 x.key, .int .i64 x.window, .int .i64 x.sk.count, .int .i64 x.sk.sum, .int .i64 x.sk.min, .int .i64 x.sk.max, .slice a1 n1 c1, .slice a2 n2 c2, .slice a3 n3 c3] := ⟨_, rfl⟩
    rw [← hW5] at HQ ⊢
    clear hW5
    cases d1
    · have HV : Hid (FrN l Fr.zero false) := frN_spans HP2.out.2.2.2.1
      go_wp2_with (first | go_skip | (with_reducible refine stopStore 51 rfl ?_))
      refine store_known 51 w.heap.size _ #[.int .i64 0, .int .i64 0, .int .i64 0, .int .i64 0, .slice none 0 0, .int .i64 0, .int .i64 0, .int .i64 0, .int .i64 0, .int .i64 0, .int .i64 0, .int .i64 0, .int .i64 0, .slice none 0 0, .slice none 0 0, .slice none 0 0] 51 HQ.out.2.1 rfl rfl rfl rfl infoFrF7 rfl (by simp [Value.oneCell']) ?_
      go_wp2
      refine bodyPost_ret (results_row_tmp Try.results79 _ _ w.heap.size _ _ _ _ rfl HQ.out.2.1.setRow Try.underlying51 rfl infoFrF7) rfl ?_
      exact ⟨_, Fr.zero, false, [], [], rfl, rdFr_zero _, Own.nil, Own.nil, by simp, below_setRow HQ.out.1 (Nat.le_refl _) _, HV.out⟩
    cases d2
    · have HV : Hid (FrN l Fr.zero false) := frN_item HP2.out.2.2.2.1 (by rw [← HX.out.1]; exact HS2.out.2.2.2)
      go_wp2_with (first | go_skip | (with_reducible refine stopStore 51 rfl ?_))
      refine store_known 51 w.heap.size _ #[.int .i64 0, .int .i64 0, .int .i64 0, .int .i64 0, .slice none 0 0, .int .i64 0, .int .i64 0, .int .i64 0, .int .i64 0, .int .i64 0, .int .i64 0, .int .i64 0, .int .i64 0, .slice none 0 0, .slice none 0 0, .slice none 0 0] 51 HQ.out.2.1 rfl rfl rfl rfl infoFrF7 rfl (by simp [Value.oneCell']) ?_
      go_wp2
      refine bodyPost_ret (results_row_tmp Try.results79 _ _ w.heap.size _ _ _ _ rfl HQ.out.2.1.setRow Try.underlying51 rfl infoFrF7) rfl ?_
      exact ⟨_, Fr.zero, false, [], [], rfl, rdFr_zero _, Own.nil, Own.nil, by simp, below_setRow HQ.out.1 (Nat.le_refl _) _, HV.out⟩
    have HFin : Hid (((⟨x0, x1, x2, x3, ps, x⟩ : Fr).ok = true → FrN l ⟨x0, x1, x2, x3, ps, x⟩ true) ∧ ((⟨x0, x1, x2, x3, ps, x⟩ : Fr).ok = false → FrN l Fr.zero false)) := by
      have q := frN_fin (l := l) (by rw [HL.out]; omega) HP2.out.2.2.2.1 (by rw [← HX.out.1]; exact HS2.out.2.2.2)
      rw [← HX.out.1, ← HX.out.2.1, ← HX.out.2.2.1, ← HX.out.2.2.2] at q
      exact q
    obtain ⟨f, hf⟩ : ∃ f : Fr, f = ⟨x0, x1, x2, x3, ps, x⟩ := ⟨_, rfl⟩
    have HRF : Hid (RdFr W5 (.agg #[.int .i64 x0, .int .i64 x1, .int .i64 x2, .int .i64 x3, .slice b1 m1 k1, .int .i64 x.seq, .int .i64 x.cls, .int .i64 x.key, .int .i64 x.window, .int .i64 x.sk.count, .int .i64 x.sk.sum, .int .i64 x.sk.min, .int .i64 x.sk.max, .slice a1 n1 c1, .slice a2 n2 c2, .slice a3 n3 c3]) f F1 X ∧ f.item.sk.wide ∧ f.taken.length ≤ 2097152) := by
      rw [hf]
      exact ⟨⟨b1, m1, k1, a1, n1, c1, a2, n2, c2, a3, n3, c3, rfl, HQ.out.2.2.2.2.2.1, HQ.out.2.2.2.1, HP2.out.2.1⟩, HS2.out.2.2.1, by show ps.length ≤ _; rw [HP2.out.1.length]; omega⟩
    rw [← hf] at HFin
    clear hf
    go_wp2_with (first | go_skip | (with_reducible refine stopLoad 51 rfl ?_))
    refine load_cutw 51 W3.heap.size 0 16 _ #[.int .i64 x0, .int .i64 x1, .int .i64 x2, .int .i64 x3, .slice b1 m1 k1, .int .i64 x.seq, .int .i64 x.cls, .int .i64 x.key, .int .i64 x.window, .int .i64 x.sk.count, .int .i64 x.sk.sum, .int .i64 x.sk.min, .int .i64 x.sk.max, .slice a1 n1 c1, .slice a2 n2 c2, .slice a3 n3 c3] 51 _ HQ.out.2.2.1 rfl rfl rfl Try.underlying51 rfl infoFrF7 (by simp) rfl ?_
    go_wp2_with fail
    refine (frameOkImpl_any _ f F1 X _ HRF.out.1 HRF.out.2.1 HRF.out.2.2).mono ?_
    rintro e W6 ⟨rfl, hb6⟩
    have HQ6 : Hid (Below w.heap.size w W6 ∧ Blk W6 w.heap.size #[.int .i64 0, .int .i64 0, .int .i64 0, .int .i64 0, .slice none 0 0, .int .i64 0, .int .i64 0, .int .i64 0, .int .i64 0, .int .i64 0, .int .i64 0, .int .i64 0, .int .i64 0, .slice none 0 0, .slice none 0 0, .slice none 0 0] 51 ∧ Blk W6 W3.heap.size #[.int .i64 x0, .int .i64 x1, .int .i64 x2, .int .i64 x3, .slice b1 m1 k1, .int .i64 x.seq, .int .i64 x.cls, .int .i64 x.key, .int .i64 x.window, .int .i64 x.sk.count, .int .i64 x.sk.sum, .int .i64 x.sk.min, .int .i64 x.sk.max, .slice a1 n1 c1, .slice a2 n2 c2, .slice a3 n3 c3] 51 ∧ RdFr W6 (.agg #[.int .i64 x0, .int .i64 x1, .int .i64 x2, .int .i64 x3, .slice b1 m1 k1, .int .i64 x.seq, .int .i64 x.cls, .int .i64 x.key, .int .i64 x.window, .int .i64 x.sk.count, .int .i64 x.sk.sum, .int .i64 x.sk.min, .int .i64 x.sk.max, .slice a1 n1 c1, .slice a2 n2 c2, .slice a3 n3 c3]) f F1 X ∧ Own w1.heap.size W6 X ∧ Own (w.heap.size + 1) W6 F1) := ⟨Below.next HQ.out.1 hb6, HQ.out.2.1.below hb6, HQ.out.2.2.1.below hb6, HRF.out.1.below hb6, HQ.out.2.2.2.2.1.below HQ.out.2.2.2.1.lt hb6, HQ.out.2.2.2.2.2.2.below HQ.out.2.2.2.2.2.1.lt hb6⟩
    clear hb6 HQ HRF
    obtain ⟨d, hd⟩ : ∃ d, d = f.ok := ⟨_, rfl⟩
    rw [← hd] at HFin ⊢
    clear hd
    cases d
    · have HV : Hid (FrN l Fr.zero false) := HFin.out.2 rfl
      go_wp2_with (first | go_skip | (with_reducible refine stopStore 51 rfl ?_))
      refine store_known 51 w.heap.size _ #[.int .i64 0, .int .i64 0, .int .i64 0, .int .i64 0, .slice none 0 0, .int .i64 0, .int .i64 0, .int .i64 0, .int .i64 0, .int .i64 0, .int .i64 0, .int .i64 0, .int .i64 0, .slice none 0 0, .slice none 0 0, .slice none 0 0] 51 HQ6.out.2.1 rfl rfl rfl rfl infoFrF7 rfl (by simp [Value.oneCell']) ?_
      go_wp2
      refine bodyPost_ret (results_row_tmp Try.results79 _ _ w.heap.size _ _ _ _ rfl HQ6.out.2.1.setRow Try.underlying51 rfl infoFrF7) rfl ?_
      exact ⟨_, Fr.zero, false, [], [], rfl, rdFr_zero _, Own.nil, Own.nil, by simp, below_setRow HQ6.out.1 (Nat.le_refl _) _, HV.out⟩
    have HV : Hid (FrN l f true) := HFin.out.1 rfl
    go_wp2_with (first | go_skip | (with_reducible refine stopLoad 51 rfl ?_))
    refine load_known 51 W3.heap.size #[.int .i64 x0, .int .i64 x1, .int .i64 x2, .int .i64 x3, .slice b1 m1 k1, .int .i64 x.seq, .int .i64 x.cls, .int .i64 x.key, .int .i64 x.window, .int .i64 x.sk.count, .int .i64 x.sk.sum, .int .i64 x.sk.min, .int .i64 x.sk.max, .slice a1 n1 c1, .slice a2 n2 c2, .slice a3 n3 c3] 51 _ HQ6.out.2.2.1 rfl rfl rfl Try.underlying51 rfl infoFrF7 ?_
    go_wp2_with (first | go_skip | (with_reducible refine stopStore 51 rfl ?_))
    refine store_known 51 w.heap.size _ #[.int .i64 x0, .int .i64 x1, .int .i64 x2, .int .i64 x3, .slice b1 m1 k1, .int .i64 x.seq, .int .i64 x.cls, .int .i64 x.key, .int .i64 x.window, .int .i64 x.sk.count, .int .i64 x.sk.sum, .int .i64 x.sk.min, .int .i64 x.sk.max, .slice a1 n1 c1, .slice a2 n2 c2, .slice a3 n3 c3] 51 HQ6.out.2.1 rfl rfl rfl rfl infoFrF7 rfl (by simp [Value.oneCell']) ?_
    have nX : w.heap.size ∉ X := fun hx => by have := HQ6.out.2.2.2.2.1.ge _ hx; omega
    have nF : w.heap.size ∉ F1 := fun hx => by have := HQ6.out.2.2.2.2.2.ge _ hx; omega
    have HE : Hid (RdFr (W6.setRow w.heap.size #[.int .i64 x0, .int .i64 x1, .int .i64 x2, .int .i64 x3, .slice b1 m1 k1, .int .i64 x.seq, .int .i64 x.cls, .int .i64 x.key, .int .i64 x.window, .int .i64 x.sk.count, .int .i64 x.sk.sum, .int .i64 x.sk.min, .int .i64 x.sk.max, .slice a1 n1 c1, .slice a2 n2 c2, .slice a3 n3 c3]) (.agg #[.int .i64 x0, .int .i64 x1, .int .i64 x2, .int .i64 x3, .slice b1 m1 k1, .int .i64 x.seq, .int .i64 x.cls, .int .i64 x.key, .int .i64 x.window, .int .i64 x.sk.count, .int .i64 x.sk.sum, .int .i64 x.sk.min, .int .i64 x.sk.max, .slice a1 n1 c1, .slice a2 n2 c2, .slice a3 n3 c3]) f F1 X ∧ Own w.heap.size (W6.setRow w.heap.size #[.int .i64 x0, .int .i64 x1, .int .i64 x2, .int .i64 x3, .slice b1 m1 k1, .int .i64 x.seq, .int .i64 x.cls, .int .i64 x.key, .int .i64 x.window, .int .i64 x.sk.count, .int .i64 x.sk.sum, .int .i64 x.sk.min, .int .i64 x.sk.max, .slice a1 n1 c1, .slice a2 n2 c2, .slice a3 n3 c3]) F1 ∧ Own w.heap.size (W6.setRow w.heap.size #[.int .i64 x0, .int .i64 x1, .int .i64 x2, .int .i64 x3, .slice b1 m1 k1, .int .i64 x.seq, .int .i64 x.cls, .int .i64 x.key, .int .i64 x.window, .int .i64 x.sk.count, .int .i64 x.sk.sum, .int .i64 x.sk.min, .int .i64 x.sk.max, .slice a1 n1 c1, .slice a2 n2 c2, .slice a3 n3 c3]) X ∧ (∀ b ∈ F1, b ∉ X) ∧ Below w.heap.size w (W6.setRow w.heap.size #[.int .i64 x0, .int .i64 x1, .int .i64 x2, .int .i64 x3, .slice b1 m1 k1, .int .i64 x.seq, .int .i64 x.cls, .int .i64 x.key, .int .i64 x.window, .int .i64 x.sk.count, .int .i64 x.sk.sum, .int .i64 x.sk.min, .int .i64 x.sk.max, .slice a1 n1 c1, .slice a2 n2 c2, .slice a3 n3 c3]) ∧ Blk (W6.setRow w.heap.size #[.int .i64 x0, .int .i64 x1, .int .i64 x2, .int .i64 x3, .slice b1 m1 k1, .int .i64 x.seq, .int .i64 x.cls, .int .i64 x.key, .int .i64 x.window, .int .i64 x.sk.count, .int .i64 x.sk.sum, .int .i64 x.sk.min, .int .i64 x.sk.max, .slice a1 n1 c1, .slice a2 n2 c2, .slice a3 n3 c3]) w.heap.size #[.int .i64 x0, .int .i64 x1, .int .i64 x2, .int .i64 x3, .slice b1 m1 k1, .int .i64 x.seq, .int .i64 x.cls, .int .i64 x.key, .int .i64 x.window, .int .i64 x.sk.count, .int .i64 x.sk.sum, .int .i64 x.sk.min, .int .i64 x.sk.max, .slice a1 n1 c1, .slice a2 n2 c2, .slice a3 n3 c3] 51) := ⟨HQ6.out.2.2.2.1.agree (Agree.row nF _) (Agree.row nX _), (HQ6.out.2.2.2.2.2.agree (Agree.row nF _)).mono (by omega), (HQ6.out.2.2.2.2.1.agree (Agree.row nX _)).mono (by omega), fun b hb hx => by have := HP2.out.2.2.2.2 b hb; have := HQ6.out.2.2.2.2.1.ge b hx; omega, below_setRow HQ6.out.1 (Nat.le_refl _) _, HQ6.out.2.1.setRow⟩
    clear HQ6 nX nF
    go_wp2
    refine bodyPost_ret (results_row_tmp Try.results79 _ _ w.heap.size _ _ _ _ rfl HE.out.2.2.2.2.2 Try.underlying51 rfl infoFrF7) rfl ?_
    exact ⟨_, f, true, F1, X, rfl, HE.out.1, HE.out.2.1, HE.out.2.2.1, HE.out.2.2.2.1, HE.out.2.2.2.2.1, HV.out⟩
  · obtain ⟨G, hG⟩ := (h.below HT.out.2).rest (cap := cap) 4 (by omega) hcap
    rw [if_neg hc4] at hG
    have HG : Hid (RdI (w.alloc (.cells #[.int .i64 0, .int .i64 0, .int .i64 0, .int .i64 0, .slice none 0 0, .int .i64 0, .int .i64 0, .int .i64 0, .int .i64 0, .int .i64 0, .int .i64 0, .int .i64 0, .int .i64 0, .slice none 0 0, .slice none 0 0, .slice none 0 0] 51)) (some ⟨b, off + 4, none⟩) (len - 4) (l.drop 4) G) := hG
    clear h hx0 hx1 hx2 hx3 hG hn
    go_enter Try.func79, Try.ntmps79
    go_wp2_with fail
    refine (spansOfNumbers_any _ (len - 4) _ (l.drop 4) G _ HG.out (by omega) (by omega) HN.out).mono ?_
    rintro e w1 ⟨b1, m1, k1, ar, lr, cr, ps, rest, d1, F1, G1, rfl, rp, cpd, op, rr, hlr, hcr, hSp, bs⟩
    have HS1 : Hid (RdP w1 b1 m1 ps F1 ∧ Capd b1 m1 k1 ∧ Own (w.heap.size + 1) w1 F1 ∧ RdI w1 ar lr rest G1 ∧ SpansIs (l.drop 4) ps rest d1) := ⟨rp, cpd, by simpa using op, rr, hSp⟩
    have HT1 : Hid (Blk w1 w.heap.size #[.int .i64 0, .int .i64 0, .int .i64 0, .int .i64 0, .slice none 0 0, .int .i64 0, .int .i64 0, .int .i64 0, .int .i64 0, .int .i64 0, .int .i64 0, .int .i64 0, .int .i64 0, .slice none 0 0, .slice none 0 0, .slice none 0 0] 51 ∧ Below w.heap.size w w1) := ⟨HT.out.1.below bs, Below.next HT.out.2 bs⟩
    have hm1 : m1 ≤ 1048576 := by
      have q := hSp
      unfold SpansIs at q
      cases d1 <;> simp only [if_true, Bool.false_eq_true, if_false] at q
      · rw [← rp.length, q.1]; simp
      · have := congrArg List.length q
        rw [List.length_cons, List.length_append, flat_length, List.length_drop, HL.out, rp.length] at this
        omega
    have cc := (HKN.out _ HT1.out.2).1
    clear rp cpd op rr hSp bs HT HG
    go_wp2_with fail
    refine (itemOfNumbers_any ar lr cr x0 rest G1 _ HS1.out.2.2.2.1 (by omega) hcr).mono ?_
    rintro e w2 ⟨v2, x, d2, X, rfl, rx, ox, bx, hwx, hIt⟩
    obtain ⟨a1, n1, c1, a2, n2, c2, a3, n3, c3, rfl⟩ := rx.cells11
    have HS2 : Hid (RdIt w2 (.agg #[.int .i64 x.seq, .int .i64 x.cls, .int .i64 x.key, .int .i64 x.window, .int .i64 x.sk.count, .int .i64 x.sk.sum, .int .i64 x.sk.min, .int .i64 x.sk.max, .slice a1 n1 c1, .slice a2 n2 c2, .slice a3 n3 c3]) x X ∧ Own w1.heap.size w2 X ∧ x.sk.wide ∧ ItemIs x0 rest x d2) := ⟨rx, ox, hwx, hIt⟩
    have HP2 : Hid (RdP w2 b1 m1 ps F1 ∧ Capd b1 m1 k1 ∧ Own (w.heap.size + 1) w2 F1 ∧ SpansIs (l.drop 4) ps rest d1 ∧ ∀ b ∈ F1, b < w1.heap.size) := ⟨HS1.out.1.below bx, HS1.out.2.1, HS1.out.2.2.1.below HS1.out.1.lt bx, HS1.out.2.2.2.2, HS1.out.1.lt⟩
    have HT2 : Hid (Blk w2 w.heap.size #[.int .i64 0, .int .i64 0, .int .i64 0, .int .i64 0, .slice none 0 0, .int .i64 0, .int .i64 0, .int .i64 0, .int .i64 0, .int .i64 0, .int .i64 0, .int .i64 0, .int .i64 0, .slice none 0 0, .slice none 0 0, .slice none 0 0] 51 ∧ Below w.heap.size w w2) := ⟨HT1.out.1.below bx, Below.next HT1.out.2 bx⟩
    have lt1 : w.heap.size < w1.heap.size := HT1.out.1.lt
    clear rx ox bx hwx hIt HS1 HT1 cc
    go_wp2_with (first | go_skip | (with_reducible refine stopStore 40 rfl ?_))
    refine store_fresh 40 w2.heap.size rfl #[.int .i64 0, .int .i64 0, .int .i64 0, .int .i64 0, .int .i64 0, .int .i64 0, .int .i64 0, .int .i64 0, .slice none 0 0, .slice none 0 0, .slice none 0 0] #[.int .i64 x.seq, .int .i64 x.cls, .int .i64 x.key, .int .i64 x.window, .int .i64 x.sk.count, .int .i64 x.sk.sum, .int .i64 x.sk.min, .int .i64 x.sk.max, .slice a1 n1 c1, .slice a2 n2 c2, .slice a3 n3 c3] 40 rfl rfl rfl rfl infoItA7 rfl (one11 ..) ?_
    intro W3 hg3 hb3
    have HW3 : Hid (NumItHeld b off x0 x1 x2 x3 w2.heap.size #[.int .i64 x.seq, .int .i64 x.cls, .int .i64 x.key, .int .i64 x.window, .int .i64 x.sk.count, .int .i64 x.sk.sum, .int .i64 x.sk.min, .int .i64 x.sk.max, .slice a1 n1 c1, .slice a2 n2 c2, .slice a3 n3 c3] W3.drew ∧ Below w.heap.size w W3.drew ∧ Blk W3.drew w.heap.size #[.int .i64 0, .int .i64 0, .int .i64 0, .int .i64 0, .slice none 0 0, .int .i64 0, .int .i64 0, .int .i64 0, .int .i64 0, .int .i64 0, .int .i64 0, .int .i64 0, .int .i64 0, .slice none 0 0, .slice none 0 0, .slice none 0 0] 51 ∧ RdIt W3.drew (.agg #[.int .i64 x.seq, .int .i64 x.cls, .int .i64 x.key, .int .i64 x.window, .int .i64 x.sk.count, .int .i64 x.sk.sum, .int .i64 x.sk.min, .int .i64 x.sk.max, .slice a1 n1 c1, .slice a2 n2 c2, .slice a3 n3 c3]) x X ∧ Own w1.heap.size W3.drew X ∧ RdP W3.drew b1 m1 ps F1 ∧ Own (w.heap.size + 1) W3.drew F1) := by
      have bb := (Below.next HT2.out.2 hb3).drew
      exact ⟨⟨HKN.out _ bb, hg3.drew⟩, bb, (HT2.out.1.below hb3).drew, (HS2.out.1.below hb3).below (Below.refl _ _).drew, (HS2.out.2.1.below HS2.out.1.lt hb3).agree (fun _ _ => rfl), (HP2.out.1.below hb3).below (Below.refl _ _).drew, (HP2.out.2.2.1.below HP2.out.1.lt hb3).agree (fun _ _ => rfl)⟩
    clear hg3 hb3 HT2
    go_wp2
    refine wp_region_held (S := NumItHeld b off x0 x1 x2 x3 w2.heap.size #[.int .i64 x.seq, .int .i64 x.cls, .int .i64 x.key, .int .i64 x.window, .int .i64 x.sk.count, .int .i64 x.sk.sum, .int .i64 x.sk.min, .int .i64 x.sk.max, .slice a1 n1 c1, .slice a2 n2 c2, .slice a3 n3 c3]) (by kernel_rfl) ?_
    change wpAnyH _ _ _ _ _ _ _ _ (World.drew _)
    refine takeH (o := ?ob1) 0 (.slice (some ⟨b, off, none⟩) len cap) ?hb1 ?rb1
    case hb1 => simp only [aT, aZ]; rfl
    refine ⟨_, by simp [Act.put]; rfl, by kernel_rfl, by kernel_rfl, by kernel_rfl, fun _ _ _ h => h, (.inl ⟨rfl, fun W _ => by go_simp⟩), HW3.out.1, ?_⟩
    refine takeH (o := ?ob2) 1 (.pointer (some ⟨b, off, none⟩)) ?hb2 ?rb2
    case hb2 => simp only [aT, aS, aZ]; rfl
    refine ⟨_, by simp [Act.put]; rfl, by kernel_rfl, by kernel_rfl, by kernel_rfl, fun _ _ _ h => h, (.inl ⟨rfl, fun W _ => by (have q0 : (0 : Int) < (len : Int) := by omega); first | (go_simp; done) | (go_simp; intro h; omega)⟩), HW3.out.1, ?_⟩
    refine takeH (o := ?ob3) 2 (.int .i64 x0) ?hb3 ?rb3
    case hb3 => simp only [aT, aS, aZ]; rfl
    refine ⟨_, by simp [Act.put]; rfl, by kernel_rfl, by kernel_rfl, by kernel_rfl, fun _ _ _ h => h, (.inl ⟨rfl, fun W hW => by have c := hW.1.1; go_simp⟩), HW3.out.1, ?_⟩
    refine takeH (o := ?ob4) 3 (.slice (some ⟨b, off, none⟩) len cap) ?hb4 ?rb4
    case hb4 => simp only [aT, aS, aZ]; rfl
    refine ⟨_, by simp [Act.put]; rfl, by kernel_rfl, by kernel_rfl, by kernel_rfl, fun _ _ _ h => h, (.inl ⟨rfl, fun W _ => by go_simp⟩), HW3.out.1, ?_⟩
    refine takeH (o := ?ob5) 4 (.pointer (some ⟨b, off + 1, none⟩)) ?hb5 ?rb5
    case hb5 => simp only [aT, aS, aZ]; rfl
    refine ⟨_, by simp [Act.put]; rfl, by kernel_rfl, by kernel_rfl, by kernel_rfl, fun _ _ _ h => h, (.inl ⟨rfl, fun W _ => by (have q1 : (1 : Int) < (len : Int) := by omega); first | (go_simp; done) | (go_simp; intro h; omega)⟩), HW3.out.1, ?_⟩
    refine takeH (o := ?ob6) 5 (.int .i64 x1) ?hb6 ?rb6
    case hb6 => simp only [aT, aS, aZ]; rfl
    refine ⟨_, by simp [Act.put]; rfl, by kernel_rfl, by kernel_rfl, by kernel_rfl, fun _ _ _ h => h, (.inl ⟨rfl, fun W hW => by have c := hW.1.2.1; go_simp⟩), HW3.out.1, ?_⟩
    refine takeH (o := ?ob7) 6 (.slice (some ⟨b, off, none⟩) len cap) ?hb7 ?rb7
    case hb7 => simp only [aT, aS, aZ]; rfl
    refine ⟨_, by simp [Act.put]; rfl, by kernel_rfl, by kernel_rfl, by kernel_rfl, fun _ _ _ h => h, (.inl ⟨rfl, fun W _ => by go_simp⟩), HW3.out.1, ?_⟩
    refine takeH (o := ?ob8) 7 (.pointer (some ⟨b, off + 2, none⟩)) ?hb8 ?rb8
    case hb8 => simp only [aT, aS, aZ]; rfl
    refine ⟨_, by simp [Act.put]; rfl, by kernel_rfl, by kernel_rfl, by kernel_rfl, fun _ _ _ h => h, (.inl ⟨rfl, fun W _ => by (have q2 : (2 : Int) < (len : Int) := by omega); first | (go_simp; done) | (go_simp; intro h; omega)⟩), HW3.out.1, ?_⟩
    refine takeH (o := ?ob9) 8 (.int .i64 x2) ?hb9 ?rb9
    case hb9 => simp only [aT, aS, aZ]; rfl
    refine ⟨_, by simp [Act.put]; rfl, by kernel_rfl, by kernel_rfl, by kernel_rfl, fun _ _ _ h => h, (.inl ⟨rfl, fun W hW => by have c := hW.1.2.2.1; go_simp⟩), HW3.out.1, ?_⟩
    refine takeH (o := ?ob10) 9 (.slice (some ⟨b, off, none⟩) len cap) ?hb10 ?rb10
    case hb10 => simp only [aT, aS, aZ]; rfl
    refine ⟨_, by simp [Act.put]; rfl, by kernel_rfl, by kernel_rfl, by kernel_rfl, fun _ _ _ h => h, (.inl ⟨rfl, fun W _ => by go_simp⟩), HW3.out.1, ?_⟩
    refine takeH (o := ?ob11) 10 (.pointer (some ⟨b, off + 3, none⟩)) ?hb11 ?rb11
    case hb11 => simp only [aT, aS, aZ]; rfl
    refine ⟨_, by simp [Act.put]; rfl, by kernel_rfl, by kernel_rfl, by kernel_rfl, fun _ _ _ h => h, (.inl ⟨rfl, fun W _ => by (have q3 : (3 : Int) < (len : Int) := by omega); first | (go_simp; done) | (go_simp; intro h; omega)⟩), HW3.out.1, ?_⟩
    refine takeH (o := ?ob12) 11 (.int .i64 x3) ?hb12 ?rb12
    case hb12 => simp only [aT, aS, aZ]; rfl
    refine ⟨_, by simp [Act.put]; rfl, by kernel_rfl, by kernel_rfl, by kernel_rfl, fun _ _ _ h => h, (.inl ⟨rfl, fun W hW => by have c := hW.1.2.2.2; go_simp⟩), HW3.out.1, ?_⟩
    refine takeH (o := ?ob13) 12 (.slice b1 m1 k1) ?hb13 ?rb13
    case hb13 => simp only [aT, aS, aZ]; rfl
    refine ⟨_, by simp [Act.put]; rfl, by kernel_rfl, by kernel_rfl, by kernel_rfl, fun _ _ _ h => h, (.inl ⟨rfl, fun W _ => by go_simp⟩), HW3.out.1, ?_⟩
    refine takeH (o := ?ob14) 13 (.agg #[.int .i64 x.seq, .int .i64 x.cls, .int .i64 x.key, .int .i64 x.window, .int .i64 x.sk.count, .int .i64 x.sk.sum, .int .i64 x.sk.min, .int .i64 x.sk.max, .slice a1 n1 c1, .slice a2 n2 c2, .slice a3 n3 c3]) ?hb14 ?rb14
    case hb14 => simp only [aT, aS, aZ]; rfl
    refine ⟨_, by simp [Act.put]; rfl, by kernel_rfl, by kernel_rfl, by kernel_rfl, fun _ _ _ h => h, (yields_whole 40 w2.heap.size #[.int .i64 x.seq, .int .i64 x.cls, .int .i64 x.key, .int .i64 x.window, .int .i64 x.sk.count, .int .i64 x.sk.sum, .int .i64 x.sk.min, .int .i64 x.sk.max, .slice a1 n1 c1, .slice a2 n2 c2, .slice a3 n3 c3] 40 _ rfl rfl rfl Try.underlying40 rfl infoItA7 (fun W hW => hW.2)), HW3.out.1, ?_⟩
    refine takeH (o := ?ob15) 14 (.agg #[.int .i64 x0, .int .i64 x1, .int .i64 x2, .int .i64 x3, .slice b1 m1 k1, .int .i64 x.seq, .int .i64 x.cls, .int .i64 x.key, .int .i64 x.window, .int .i64 x.sk.count, .int .i64 x.sk.sum, .int .i64 x.sk.min, .int .i64 x.sk.max, .slice a1 n1 c1, .slice a2 n2 c2, .slice a3 n3 c3]) ?hb15 ?rb15
    case hb15 => simp only [aT, aS, aZ]; rfl
    refine ⟨_, by simp [Act.put]; rfl, by kernel_rfl, by kernel_rfl, by kernel_rfl, fun _ _ _ h => h, (.inl ⟨rfl, fun W _ => by go_simp⟩), HW3.out.1, ?_⟩
    refine onlyH (o := ?ob16) 15 (by kernel_rfl) ?hb16 ?rb16
    case hb16 => simp only [aT, aS, aZ]; rfl
    intro K hK
    have bA : Below W3.drew.heap.size W3.drew (W3.drew.alloc (.cells #[.int .i64 0, .int .i64 0, .int .i64 0, .int .i64 0, .slice none 0 0, .int .i64 0, .int .i64 0, .int .i64 0, .int .i64 0, .int .i64 0, .int .i64 0, .int .i64 0, .int .i64 0, .slice none 0 0, .slice none 0 0, .slice none 0 0] 51)) := (Below.refl _ _).alloc (Nat.le_refl _) _
    have HA : Hid (Below w.heap.size w (W3.drew.alloc (.cells #[.int .i64 0, .int .i64 0, .int .i64 0, .int .i64 0, .slice none 0 0, .int .i64 0, .int .i64 0, .int .i64 0, .int .i64 0, .int .i64 0, .int .i64 0, .int .i64 0, .int .i64 0, .slice none 0 0, .slice none 0 0, .slice none 0 0] 51)) ∧ Blk (W3.drew.alloc (.cells #[.int .i64 0, .int .i64 0, .int .i64 0, .int .i64 0, .slice none 0 0, .int .i64 0, .int .i64 0, .int .i64 0, .int .i64 0, .int .i64 0, .int .i64 0, .int .i64 0, .int .i64 0, .slice none 0 0, .slice none 0 0, .slice none 0 0] 51)) W3.heap.size #[.int .i64 0, .int .i64 0, .int .i64 0, .int .i64 0, .slice none 0 0, .int .i64 0, .int .i64 0, .int .i64 0, .int .i64 0, .int .i64 0, .int .i64 0, .int .i64 0, .int .i64 0, .slice none 0 0, .slice none 0 0, .slice none 0 0] 51) := ⟨Below.next HW3.out.2.1 bA, Blk.made W3.drew _ _⟩
    refine op_turn (.pointer (some ⟨W3.heap.size, 0, none⟩)) (W3.drew.alloc (.cells #[.int .i64 0, .int .i64 0, .int .i64 0, .int .i64 0, .slice none 0 0, .int .i64 0, .int .i64 0, .int .i64 0, .int .i64 0, .int .i64 0, .int .i64 0, .int .i64 0, .int .i64 0, .slice none 0 0, .slice none 0 0, .slice none 0 0] 51)) rfl (by go_simp) ⟨_, by simp [Act.put]; rfl, hK _ _ ⟨⟨HKN.out _ HA.out.1, HW3.out.1.2.below bA⟩, ?_⟩⟩
    clear hK
    refine onlyH (o := ?ob17) 16 (by kernel_rfl) ?hb17 ?rb17
    case hb17 => simp only [aT, aS, aZ]; rfl
    intro K hK
    have l3 : w.heap.size < W3.heap.size := HW3.out.2.2.1.lt
    have l32 : w2.heap.size < W3.heap.size := HW3.out.1.2.lt
    have nX : W3.heap.size ∉ X := fun hx => by have q : _ < W3.heap.size := HW3.out.2.2.2.1.lt _ hx; omega
    have nF : W3.heap.size ∉ F1 := fun hx => by have q : _ < W3.heap.size := HW3.out.2.2.2.2.2.1.lt _ hx; omega
    have HQ : Hid (Below w.heap.size w ((W3.drew.alloc (.cells #[.int .i64 0, .int .i64 0, .int .i64 0, .int .i64 0, .slice none 0 0, .int .i64 0, .int .i64 0, .int .i64 0, .int .i64 0, .int .i64 0, .int .i64 0, .int .i64 0, .int .i64 0, .slice none 0 0, .slice none 0 0, .slice none 0 0] 51)).setRow W3.heap.size #[.int .i64 x0, .int .i64 x1, .int .i64 x2, .int .i64 x3, .slice b1 m1 k1, .int .i64 x.seq, .int .i64 x.cls, .int .i64 x.key, .int .i64 x.window, .int .i64 x.sk.count, .int .i64 x.sk.sum, .int .i64 x.sk.min, .int .i64 x.sk.max, .slice a1 n1 c1, .slice a2 n2 c2, .slice a3 n3 c3]) ∧ Blk ((W3.drew.alloc (.cells #[.int .i64 0, .int .i64 0, .int .i64 0, .int .i64 0, .slice none 0 0, .int .i64 0, .int .i64 0, .int .i64 0, .int .i64 0, .int .i64 0, .int .i64 0, .int .i64 0, .int .i64 0, .slice none 0 0, .slice none 0 0, .slice none 0 0] 51)).setRow W3.heap.size #[.int .i64 x0, .int .i64 x1, .int .i64 x2, .int .i64 x3, .slice b1 m1 k1, .int .i64 x.seq, .int .i64 x.cls, .int .i64 x.key, .int .i64 x.window, .int .i64 x.sk.count, .int .i64 x.sk.sum, .int .i64 x.sk.min, .int .i64 x.sk.max, .slice a1 n1 c1, .slice a2 n2 c2, .slice a3 n3 c3]) w.heap.size #[.int .i64 0, .int .i64 0, .int .i64 0, .int .i64 0, .slice none 0 0, .int .i64 0, .int .i64 0, .int .i64 0, .int .i64 0, .int .i64 0, .int .i64 0, .int .i64 0, .int .i64 0, .slice none 0 0, .slice none 0 0, .slice none 0 0] 51 ∧ Blk ((W3.drew.alloc (.cells #[.int .i64 0, .int .i64 0, .int .i64 0, .int .i64 0, .slice none 0 0, .int .i64 0, .int .i64 0, .int .i64 0, .int .i64 0, .int .i64 0, .int .i64 0, .int .i64 0, .int .i64 0, .slice none 0 0, .slice none 0 0, .slice none 0 0] 51)).setRow W3.heap.size #[.int .i64 x0, .int .i64 x1, .int .i64 x2, .int .i64 x3, .slice b1 m1 k1, .int .i64 x.seq, .int .i64 x.cls, .int .i64 x.key, .int .i64 x.window, .int .i64 x.sk.count, .int .i64 x.sk.sum, .int .i64 x.sk.min, .int .i64 x.sk.max, .slice a1 n1 c1, .slice a2 n2 c2, .slice a3 n3 c3]) W3.heap.size #[.int .i64 x0, .int .i64 x1, .int .i64 x2, .int .i64 x3, .slice b1 m1 k1, .int .i64 x.seq, .int .i64 x.cls, .int .i64 x.key, .int .i64 x.window, .int .i64 x.sk.count, .int .i64 x.sk.sum, .int .i64 x.sk.min, .int .i64 x.sk.max, .slice a1 n1 c1, .slice a2 n2 c2, .slice a3 n3 c3] 51 ∧ RdIt ((W3.drew.alloc (.cells #[.int .i64 0, .int .i64 0, .int .i64 0, .int .i64 0, .slice none 0 0, .int .i64 0, .int .i64 0, .int .i64 0, .int .i64 0, .int .i64 0, .int .i64 0, .int .i64 0, .int .i64 0, .slice none 0 0, .slice none 0 0, .slice none 0 0] 51)).setRow W3.heap.size #[.int .i64 x0, .int .i64 x1, .int .i64 x2, .int .i64 x3, .slice b1 m1 k1, .int .i64 x.seq, .int .i64 x.cls, .int .i64 x.key, .int .i64 x.window, .int .i64 x.sk.count, .int .i64 x.sk.sum, .int .i64 x.sk.min, .int .i64 x.sk.max, .slice a1 n1 c1, .slice a2 n2 c2, .slice a3 n3 c3]) (.agg #[.int .i64 x.seq, .int .i64 x.cls, .int .i64 x.key, .int .i64 x.window, .int .i64 x.sk.count, .int .i64 x.sk.sum, .int .i64 x.sk.min, .int .i64 x.sk.max, .slice a1 n1 c1, .slice a2 n2 c2, .slice a3 n3 c3]) x X ∧ Own w1.heap.size ((W3.drew.alloc (.cells #[.int .i64 0, .int .i64 0, .int .i64 0, .int .i64 0, .slice none 0 0, .int .i64 0, .int .i64 0, .int .i64 0, .int .i64 0, .int .i64 0, .int .i64 0, .int .i64 0, .int .i64 0, .slice none 0 0, .slice none 0 0, .slice none 0 0] 51)).setRow W3.heap.size #[.int .i64 x0, .int .i64 x1, .int .i64 x2, .int .i64 x3, .slice b1 m1 k1, .int .i64 x.seq, .int .i64 x.cls, .int .i64 x.key, .int .i64 x.window, .int .i64 x.sk.count, .int .i64 x.sk.sum, .int .i64 x.sk.min, .int .i64 x.sk.max, .slice a1 n1 c1, .slice a2 n2 c2, .slice a3 n3 c3]) X ∧ RdP ((W3.drew.alloc (.cells #[.int .i64 0, .int .i64 0, .int .i64 0, .int .i64 0, .slice none 0 0, .int .i64 0, .int .i64 0, .int .i64 0, .int .i64 0, .int .i64 0, .int .i64 0, .int .i64 0, .int .i64 0, .slice none 0 0, .slice none 0 0, .slice none 0 0] 51)).setRow W3.heap.size #[.int .i64 x0, .int .i64 x1, .int .i64 x2, .int .i64 x3, .slice b1 m1 k1, .int .i64 x.seq, .int .i64 x.cls, .int .i64 x.key, .int .i64 x.window, .int .i64 x.sk.count, .int .i64 x.sk.sum, .int .i64 x.sk.min, .int .i64 x.sk.max, .slice a1 n1 c1, .slice a2 n2 c2, .slice a3 n3 c3]) b1 m1 ps F1 ∧ Own (w.heap.size + 1) ((W3.drew.alloc (.cells #[.int .i64 0, .int .i64 0, .int .i64 0, .int .i64 0, .slice none 0 0, .int .i64 0, .int .i64 0, .int .i64 0, .int .i64 0, .int .i64 0, .int .i64 0, .int .i64 0, .int .i64 0, .slice none 0 0, .slice none 0 0, .slice none 0 0] 51)).setRow W3.heap.size #[.int .i64 x0, .int .i64 x1, .int .i64 x2, .int .i64 x3, .slice b1 m1 k1, .int .i64 x.seq, .int .i64 x.cls, .int .i64 x.key, .int .i64 x.window, .int .i64 x.sk.count, .int .i64 x.sk.sum, .int .i64 x.sk.min, .int .i64 x.sk.max, .slice a1 n1 c1, .slice a2 n2 c2, .slice a3 n3 c3]) F1) := by
      refine ⟨below_setRow HA.out.1 (by omega) _, (HW3.out.2.2.1.below bA).setRowOther (by omega), HA.out.2.setRow, (HW3.out.2.2.2.1.below bA).agree (Agree.row nX _), (HW3.out.2.2.2.2.1.below HW3.out.2.2.2.1.lt bA).agree (Agree.row nX _), (HW3.out.2.2.2.2.2.1.below bA).agree (Agree.row nF _), (HW3.out.2.2.2.2.2.2.below HW3.out.2.2.2.2.2.1.lt bA).agree (Agree.row nF _)⟩
    have HQS : Hid (NumItHeld b off x0 x1 x2 x3 w2.heap.size #[.int .i64 x.seq, .int .i64 x.cls, .int .i64 x.key, .int .i64 x.window, .int .i64 x.sk.count, .int .i64 x.sk.sum, .int .i64 x.sk.min, .int .i64 x.sk.max, .slice a1 n1 c1, .slice a2 n2 c2, .slice a3 n3 c3] ((W3.drew.alloc (.cells #[.int .i64 0, .int .i64 0, .int .i64 0, .int .i64 0, .slice none 0 0, .int .i64 0, .int .i64 0, .int .i64 0, .int .i64 0, .int .i64 0, .int .i64 0, .int .i64 0, .int .i64 0, .slice none 0 0, .slice none 0 0, .slice none 0 0] 51)).setRow W3.heap.size #[.int .i64 x0, .int .i64 x1, .int .i64 x2, .int .i64 x3, .slice b1 m1 k1, .int .i64 x.seq, .int .i64 x.cls, .int .i64 x.key, .int .i64 x.window, .int .i64 x.sk.count, .int .i64 x.sk.sum, .int .i64 x.sk.min, .int .i64 x.sk.max, .slice a1 n1 c1, .slice a2 n2 c2, .slice a3 n3 c3])) := ⟨HKN.out _ HQ.out.1, (HW3.out.1.2.below bA).setRowOther (by omega)⟩
    refine op_store 51 W3.heap.size #[.int .i64 0, .int .i64 0, .int .i64 0, .int .i64 0, .slice none 0 0, .int .i64 0, .int .i64 0, .int .i64 0, .int .i64 0, .int .i64 0, .int .i64 0, .int .i64 0, .int .i64 0, .slice none 0 0, .slice none 0 0, .slice none 0 0] #[.int .i64 x0, .int .i64 x1, .int .i64 x2, .int .i64 x3, .slice b1 m1 k1, .int .i64 x.seq, .int .i64 x.cls, .int .i64 x.key, .int .i64 x.window, .int .i64 x.sk.count, .int .i64 x.sk.sum, .int .i64 x.sk.min, .int .i64 x.sk.max, .slice a1 n1 c1, .slice a2 n2 c2, .slice a3 n3 c3] 51 rfl rfl rfl rfl HA.out.2 infoFrF7 rfl (by simp [Value.oneCell']) ⟨_, by simp [Act.put]; rfl, hK _ _ ⟨HQS.out, ?_⟩⟩
    clear hK bA HA HW3 nX nF HQS
    refine wpAnyH_done (by kernel_rfl) ?_ _
    obtain ⟨W5, hW5⟩ : ∃ W, W = (W3.drew.alloc (.cells #[.int .i64 0, .int .i64 0, .int .i64 0, .int .i64 0, .slice none 0 0, .int .i64 0, .int .i64 0, .int .i64 0, .int .i64 0, .int .i64 0, .int .i64 0, .int .i64 0, .int .i64 0, .slice none 0 0, .slice none 0 0, .slice none 0 0] 51)).setRow W3.heap.size #[.int .i64 x0, .int .i64 x1, .int .i64 x2, .int .i64 x3, .slice b1 m1 k1, .int .i64 x.seq, .int .i64 x.cls, .int .i64 x.key, .int .i64 x.window, .int .i64 x.sk.count, .int .i64 x.sk.sum, .int .i64 x.sk.min, .int .i64 x.sk.max, .slice a1 n1 c1, .slice a2 n2 c2, .slice a3 n3 c3] := ⟨_, rfl⟩
    rw [← hW5] at HQ ⊢
    clear hW5
    cases d1
    · have HV : Hid (FrN l Fr.zero false) := frN_spans HP2.out.2.2.2.1
      go_wp2_with (first | go_skip | (with_reducible refine stopStore 51 rfl ?_))
      refine store_known 51 w.heap.size _ #[.int .i64 0, .int .i64 0, .int .i64 0, .int .i64 0, .slice none 0 0, .int .i64 0, .int .i64 0, .int .i64 0, .int .i64 0, .int .i64 0, .int .i64 0, .int .i64 0, .int .i64 0, .slice none 0 0, .slice none 0 0, .slice none 0 0] 51 HQ.out.2.1 rfl rfl rfl rfl infoFrF7 rfl (by simp [Value.oneCell']) ?_
      go_wp2
      refine bodyPost_ret (results_row_tmp Try.results79 _ _ w.heap.size _ _ _ _ rfl HQ.out.2.1.setRow Try.underlying51 rfl infoFrF7) rfl ?_
      exact ⟨_, Fr.zero, false, [], [], rfl, rdFr_zero _, Own.nil, Own.nil, by simp, below_setRow HQ.out.1 (Nat.le_refl _) _, HV.out⟩
    cases d2
    · have HV : Hid (FrN l Fr.zero false) := frN_item HP2.out.2.2.2.1 (by rw [← HX.out.1]; exact HS2.out.2.2.2)
      go_wp2_with (first | go_skip | (with_reducible refine stopStore 51 rfl ?_))
      refine store_known 51 w.heap.size _ #[.int .i64 0, .int .i64 0, .int .i64 0, .int .i64 0, .slice none 0 0, .int .i64 0, .int .i64 0, .int .i64 0, .int .i64 0, .int .i64 0, .int .i64 0, .int .i64 0, .int .i64 0, .slice none 0 0, .slice none 0 0, .slice none 0 0] 51 HQ.out.2.1 rfl rfl rfl rfl infoFrF7 rfl (by simp [Value.oneCell']) ?_
      go_wp2
      refine bodyPost_ret (results_row_tmp Try.results79 _ _ w.heap.size _ _ _ _ rfl HQ.out.2.1.setRow Try.underlying51 rfl infoFrF7) rfl ?_
      exact ⟨_, Fr.zero, false, [], [], rfl, rdFr_zero _, Own.nil, Own.nil, by simp, below_setRow HQ.out.1 (Nat.le_refl _) _, HV.out⟩
    have HFin : Hid (((⟨x0, x1, x2, x3, ps, x⟩ : Fr).ok = true → FrN l ⟨x0, x1, x2, x3, ps, x⟩ true) ∧ ((⟨x0, x1, x2, x3, ps, x⟩ : Fr).ok = false → FrN l Fr.zero false)) := by
      have q := frN_fin (l := l) (by rw [HL.out]; omega) HP2.out.2.2.2.1 (by rw [← HX.out.1]; exact HS2.out.2.2.2)
      rw [← HX.out.1, ← HX.out.2.1, ← HX.out.2.2.1, ← HX.out.2.2.2] at q
      exact q
    obtain ⟨f, hf⟩ : ∃ f : Fr, f = ⟨x0, x1, x2, x3, ps, x⟩ := ⟨_, rfl⟩
    have HRF : Hid (RdFr W5 (.agg #[.int .i64 x0, .int .i64 x1, .int .i64 x2, .int .i64 x3, .slice b1 m1 k1, .int .i64 x.seq, .int .i64 x.cls, .int .i64 x.key, .int .i64 x.window, .int .i64 x.sk.count, .int .i64 x.sk.sum, .int .i64 x.sk.min, .int .i64 x.sk.max, .slice a1 n1 c1, .slice a2 n2 c2, .slice a3 n3 c3]) f F1 X ∧ f.item.sk.wide ∧ f.taken.length ≤ 2097152) := by
      rw [hf]
      exact ⟨⟨b1, m1, k1, a1, n1, c1, a2, n2, c2, a3, n3, c3, rfl, HQ.out.2.2.2.2.2.1, HQ.out.2.2.2.1, HP2.out.2.1⟩, HS2.out.2.2.1, by show ps.length ≤ _; rw [HP2.out.1.length]; omega⟩
    rw [← hf] at HFin
    clear hf
    go_wp2_with (first | go_skip | (with_reducible refine stopLoad 51 rfl ?_))
    refine load_cutw 51 W3.heap.size 0 16 _ #[.int .i64 x0, .int .i64 x1, .int .i64 x2, .int .i64 x3, .slice b1 m1 k1, .int .i64 x.seq, .int .i64 x.cls, .int .i64 x.key, .int .i64 x.window, .int .i64 x.sk.count, .int .i64 x.sk.sum, .int .i64 x.sk.min, .int .i64 x.sk.max, .slice a1 n1 c1, .slice a2 n2 c2, .slice a3 n3 c3] 51 _ HQ.out.2.2.1 rfl rfl rfl Try.underlying51 rfl infoFrF7 (by simp) rfl ?_
    go_wp2_with fail
    refine (frameOkImpl_any _ f F1 X _ HRF.out.1 HRF.out.2.1 HRF.out.2.2).mono ?_
    rintro e W6 ⟨rfl, hb6⟩
    have HQ6 : Hid (Below w.heap.size w W6 ∧ Blk W6 w.heap.size #[.int .i64 0, .int .i64 0, .int .i64 0, .int .i64 0, .slice none 0 0, .int .i64 0, .int .i64 0, .int .i64 0, .int .i64 0, .int .i64 0, .int .i64 0, .int .i64 0, .int .i64 0, .slice none 0 0, .slice none 0 0, .slice none 0 0] 51 ∧ Blk W6 W3.heap.size #[.int .i64 x0, .int .i64 x1, .int .i64 x2, .int .i64 x3, .slice b1 m1 k1, .int .i64 x.seq, .int .i64 x.cls, .int .i64 x.key, .int .i64 x.window, .int .i64 x.sk.count, .int .i64 x.sk.sum, .int .i64 x.sk.min, .int .i64 x.sk.max, .slice a1 n1 c1, .slice a2 n2 c2, .slice a3 n3 c3] 51 ∧ RdFr W6 (.agg #[.int .i64 x0, .int .i64 x1, .int .i64 x2, .int .i64 x3, .slice b1 m1 k1, .int .i64 x.seq, .int .i64 x.cls, .int .i64 x.key, .int .i64 x.window, .int .i64 x.sk.count, .int .i64 x.sk.sum, .int .i64 x.sk.min, .int .i64 x.sk.max, .slice a1 n1 c1, .slice a2 n2 c2, .slice a3 n3 c3]) f F1 X ∧ Own w1.heap.size W6 X ∧ Own (w.heap.size + 1) W6 F1) := ⟨Below.next HQ.out.1 hb6, HQ.out.2.1.below hb6, HQ.out.2.2.1.below hb6, HRF.out.1.below hb6, HQ.out.2.2.2.2.1.below HQ.out.2.2.2.1.lt hb6, HQ.out.2.2.2.2.2.2.below HQ.out.2.2.2.2.2.1.lt hb6⟩
    clear hb6 HQ HRF
    obtain ⟨d, hd⟩ : ∃ d, d = f.ok := ⟨_, rfl⟩
    rw [← hd] at HFin ⊢
    clear hd
    cases d
    · have HV : Hid (FrN l Fr.zero false) := HFin.out.2 rfl
      go_wp2_with (first | go_skip | (with_reducible refine stopStore 51 rfl ?_))
      refine store_known 51 w.heap.size _ #[.int .i64 0, .int .i64 0, .int .i64 0, .int .i64 0, .slice none 0 0, .int .i64 0, .int .i64 0, .int .i64 0, .int .i64 0, .int .i64 0, .int .i64 0, .int .i64 0, .int .i64 0, .slice none 0 0, .slice none 0 0, .slice none 0 0] 51 HQ6.out.2.1 rfl rfl rfl rfl infoFrF7 rfl (by simp [Value.oneCell']) ?_
      go_wp2
      refine bodyPost_ret (results_row_tmp Try.results79 _ _ w.heap.size _ _ _ _ rfl HQ6.out.2.1.setRow Try.underlying51 rfl infoFrF7) rfl ?_
      exact ⟨_, Fr.zero, false, [], [], rfl, rdFr_zero _, Own.nil, Own.nil, by simp, below_setRow HQ6.out.1 (Nat.le_refl _) _, HV.out⟩
    have HV : Hid (FrN l f true) := HFin.out.1 rfl
    go_wp2_with (first | go_skip | (with_reducible refine stopLoad 51 rfl ?_))
    refine load_known 51 W3.heap.size #[.int .i64 x0, .int .i64 x1, .int .i64 x2, .int .i64 x3, .slice b1 m1 k1, .int .i64 x.seq, .int .i64 x.cls, .int .i64 x.key, .int .i64 x.window, .int .i64 x.sk.count, .int .i64 x.sk.sum, .int .i64 x.sk.min, .int .i64 x.sk.max, .slice a1 n1 c1, .slice a2 n2 c2, .slice a3 n3 c3] 51 _ HQ6.out.2.2.1 rfl rfl rfl Try.underlying51 rfl infoFrF7 ?_
    go_wp2_with (first | go_skip | (with_reducible refine stopStore 51 rfl ?_))
    refine store_known 51 w.heap.size _ #[.int .i64 x0, .int .i64 x1, .int .i64 x2, .int .i64 x3, .slice b1 m1 k1, .int .i64 x.seq, .int .i64 x.cls, .int .i64 x.key, .int .i64 x.window, .int .i64 x.sk.count, .int .i64 x.sk.sum, .int .i64 x.sk.min, .int .i64 x.sk.max, .slice a1 n1 c1, .slice a2 n2 c2, .slice a3 n3 c3] 51 HQ6.out.2.1 rfl rfl rfl rfl infoFrF7 rfl (by simp [Value.oneCell']) ?_
    have nX : w.heap.size ∉ X := fun hx => by have := HQ6.out.2.2.2.2.1.ge _ hx; omega
    have nF : w.heap.size ∉ F1 := fun hx => by have := HQ6.out.2.2.2.2.2.ge _ hx; omega
    have HE : Hid (RdFr (W6.setRow w.heap.size #[.int .i64 x0, .int .i64 x1, .int .i64 x2, .int .i64 x3, .slice b1 m1 k1, .int .i64 x.seq, .int .i64 x.cls, .int .i64 x.key, .int .i64 x.window, .int .i64 x.sk.count, .int .i64 x.sk.sum, .int .i64 x.sk.min, .int .i64 x.sk.max, .slice a1 n1 c1, .slice a2 n2 c2, .slice a3 n3 c3]) (.agg #[.int .i64 x0, .int .i64 x1, .int .i64 x2, .int .i64 x3, .slice b1 m1 k1, .int .i64 x.seq, .int .i64 x.cls, .int .i64 x.key, .int .i64 x.window, .int .i64 x.sk.count, .int .i64 x.sk.sum, .int .i64 x.sk.min, .int .i64 x.sk.max, .slice a1 n1 c1, .slice a2 n2 c2, .slice a3 n3 c3]) f F1 X ∧ Own w.heap.size (W6.setRow w.heap.size #[.int .i64 x0, .int .i64 x1, .int .i64 x2, .int .i64 x3, .slice b1 m1 k1, .int .i64 x.seq, .int .i64 x.cls, .int .i64 x.key, .int .i64 x.window, .int .i64 x.sk.count, .int .i64 x.sk.sum, .int .i64 x.sk.min, .int .i64 x.sk.max, .slice a1 n1 c1, .slice a2 n2 c2, .slice a3 n3 c3]) F1 ∧ Own w.heap.size (W6.setRow w.heap.size #[.int .i64 x0, .int .i64 x1, .int .i64 x2, .int .i64 x3, .slice b1 m1 k1, .int .i64 x.seq, .int .i64 x.cls, .int .i64 x.key, .int .i64 x.window, .int .i64 x.sk.count, .int .i64 x.sk.sum, .int .i64 x.sk.min, .int .i64 x.sk.max, .slice a1 n1 c1, .slice a2 n2 c2, .slice a3 n3 c3]) X ∧ (∀ b ∈ F1, b ∉ X) ∧ Below w.heap.size w (W6.setRow w.heap.size #[.int .i64 x0, .int .i64 x1, .int .i64 x2, .int .i64 x3, .slice b1 m1 k1, .int .i64 x.seq, .int .i64 x.cls, .int .i64 x.key, .int .i64 x.window, .int .i64 x.sk.count, .int .i64 x.sk.sum, .int .i64 x.sk.min, .int .i64 x.sk.max, .slice a1 n1 c1, .slice a2 n2 c2, .slice a3 n3 c3]) ∧ Blk (W6.setRow w.heap.size #[.int .i64 x0, .int .i64 x1, .int .i64 x2, .int .i64 x3, .slice b1 m1 k1, .int .i64 x.seq, .int .i64 x.cls, .int .i64 x.key, .int .i64 x.window, .int .i64 x.sk.count, .int .i64 x.sk.sum, .int .i64 x.sk.min, .int .i64 x.sk.max, .slice a1 n1 c1, .slice a2 n2 c2, .slice a3 n3 c3]) w.heap.size #[.int .i64 x0, .int .i64 x1, .int .i64 x2, .int .i64 x3, .slice b1 m1 k1, .int .i64 x.seq, .int .i64 x.cls, .int .i64 x.key, .int .i64 x.window, .int .i64 x.sk.count, .int .i64 x.sk.sum, .int .i64 x.sk.min, .int .i64 x.sk.max, .slice a1 n1 c1, .slice a2 n2 c2, .slice a3 n3 c3] 51) := ⟨HQ6.out.2.2.2.1.agree (Agree.row nF _) (Agree.row nX _), (HQ6.out.2.2.2.2.2.agree (Agree.row nF _)).mono (by omega), (HQ6.out.2.2.2.2.1.agree (Agree.row nX _)).mono (by omega), fun b hb hx => by have := HP2.out.2.2.2.2 b hb; have := HQ6.out.2.2.2.2.1.ge b hx; omega, below_setRow HQ6.out.1 (Nat.le_refl _) _, HQ6.out.2.1.setRow⟩
    clear HQ6 nX nF
    go_wp2
    refine bodyPost_ret (results_row_tmp Try.results79 _ _ w.heap.size _ _ _ _ rfl HE.out.2.2.2.2.2 Try.underlying51 rfl infoFrF7) rfl ?_
    exact ⟨_, f, true, F1, X, rfl, HE.out.1, HE.out.2.1, HE.out.2.2.1, HE.out.2.2.2.1, HE.out.2.2.2.2.1, HV.out⟩
end Go.Proofs.Ytjndcfamfminkab
/- The walks through bytes.Equal, bytes.HasPrefix, bytes.CutPrefix and the program's wholeBody. No statement of the seat is proved here. -/
namespace Go.Proofs.Ytjndcfamfminkab
open Go.RowKit
theorem strOf_inj : ∀ {xs ys : List Int}, (∀ x ∈ xs, 0 ≤ x ∧ x ≤ 255) → (∀ x ∈ ys, 0 ≤ x ∧ x ≤ 255) → strOfNums xs = strOfNums ys → xs = ys := by
  intro xs ys hx hy h
  have e : xs.map (fun n => UInt8.ofNat n.toNat) = ys.map (fun n => UInt8.ofNat n.toNat) := by
    have := congrArg (fun s : ByteArray => s.data.toList) h
    simpa [strOfNums] using this
  have back : ∀ {l : List Int}, (∀ x ∈ l, 0 ≤ x ∧ x ≤ 255) → (l.map (fun n => UInt8.ofNat n.toNat)).map (fun b => (b.toNat : Int)) = l := by
    intro l hl
    rw [List.map_map]
    conv => rhs; rw [← List.map_id l]
    apply List.map_congr_left
    intro n hn
    have := hl n hn
    simp only [Function.comp, id]
    rw [UInt8.toNat_ofNat_of_lt' (show n.toNat < 256 by omega)]
    omega
  rw [← back hx, ← back hy, e]
theorem bytes_list {s t : ByteArray} : s.toList = t.toList ↔ s = t := by
  refine ⟨fun h => ?_, fun h => by rw [h]⟩
  rw [ByteArray.toList_eq, ByteArray.toList_eq] at h
  exact ByteArray.ext (Array.ext' h)
theorem strOf_dec {xs ys : List Int} (hx : ∀ x ∈ xs, 0 ≤ x ∧ x ≤ 255) (hy : ∀ x ∈ ys, 0 ≤ x ∧ x ≤ 255) : decide (strOfNums xs = strOfNums ys) = decide (xs = ys) := by
  by_cases h : xs = ys
  · rw [h]; simp
  · rw [dec_false h, dec_false (fun e => h (strOf_inj hx hy e))]
theorem conv_any {w : World} {a : Option Addr} {len cap : Nat} {zs : List Int} (h : RdB w a len zs) : (convert 22 9 (.slice a len cap)).run Try.prog w = .ok (.string (strOfNums zs)) w := by
  rcases h.cells with h0 | ⟨b, off, rfl, hc⟩
  · subst h0
    have hz : zs = [] := List.eq_nil_of_length_eq_zero h.length
    subst hz
    cases a with
    | none =>
      rw [run_convert_bytes_nil w 22 5 Try.underlying22 Try.underlying5 0 cap 9 Try.underlying9]
      rfl
    | some ad =>
      have hl : (loadCells ad 0).run Try.prog w = .ok (([] : List Int).map (Value.int .u8)).toArray w := by
        have := run_loadCells_list (P := Try.prog) w ad [] (fun j v hj => by simp at hj)
        simpa using this
      rw [run_convert_bytes_string w 22 9 5 _ 0 cap Try.underlying22 Try.underlying5 Try.underlying9, run_bytesToString w _ 0 cap [] hl, foldl_push_bytes]
      rfl
  · exact run_convert_bytes_arg w 22 5 Try.underlying22 Try.underlying5 b off len cap zs h.length hc 9 Try.underlying9
/-- The front of a reading, and what stands behind it. -/
theorem RdB.take {w : World} {a : Option Addr} {len : Nat} {zs : List Int} (h : RdB w a len zs) {m : Nat} (hm : m ≤ len) : RdB w a m (zs.take m) := by
  refine ⟨by have := h.length; rw [List.length_take]; omega, fun n hn => h.range n (List.mem_of_mem_take hn), ?_⟩
  by_cases h0 : m = 0
  · exact .inl h0
  · rcases h.cells with q | ⟨b, off, rfl, hc⟩
    · omega
    · refine .inr ⟨b, off, rfl, fun i hi => ?_⟩
      rw [hc i (by omega)]
      simp [hi]
theorem RdB.drop {w : World} {b off len : Nat} {zs : List Int} (h : RdB w (some ⟨b, off, none⟩) len zs) {m : Nat} (hm : m ≤ len) : RdB w (some ⟨b, off + m, none⟩) (len - m) (zs.drop m) := by
  refine ⟨by have := h.length; rw [List.length_drop]; omega, fun n hn => h.range n (List.mem_of_mem_drop hn), ?_⟩
  rcases h.cells with q | ⟨b', off', e, hc⟩
  · exact .inl (by omega)
  · cases e
    refine .inr ⟨b, off + m, rfl, fun i hi => ?_⟩
    rw [Nat.add_assoc, hc (m + i) (by omega)]
    simp
theorem RdB.addr {w : World} {a : Option Addr} {len : Nat} {zs : List Int} (h : RdB w a len zs) (hp : 0 < len) : ∃ b off, a = some ⟨b, off, none⟩ := by
  rcases h.cells with q | ⟨b, off, e, _⟩
  · omega
  · exact ⟨b, off, e⟩
theorem RdB.zero {w : World} {a : Option Addr} : RdB w a 0 [] := ⟨rfl, by simp, .inl rfl⟩
set_option maxRecDepth 200000 in
set_option maxHeartbeats 1000000 in
theorem bytesEqual_any (a b : Option Addr) (la lb ca cb : Nat) (xs ys : List Int) (w : World) (ha : RdB w a la xs) (hb : RdB w b lb ys) :
    Calls Try.prog 120 #[.slice a la ca, .slice b lb cb] w fun e w' => e = .returned (.bool (decide (xs = ys))) ∧ w' = w := by
  have k1 := conv_any ha (cap := ca)
  have k2 := conv_any hb (cap := cb)
  have HD : Hid (decide (strOfNums xs = strOfNums ys) = decide (xs = ys)) := strOf_dec ha.range hb.range
  obtain ⟨s, hs⟩ : ∃ s, s = strOfNums xs := ⟨_, rfl⟩
  obtain ⟨t, ht⟩ : ∃ s, s = strOfNums ys := ⟨_, rfl⟩
  rw [← hs] at k1 HD
  rw [← ht] at k2 HD
  rw [← HD.out]
  clear ha hb hs ht HD
  go_enter Try.func120, Try.ntmps120
  go_wp2
  go_ret
  refine ⟨ret_bool ?_, rfl⟩
  rw [Bool.eq_iff_iff, beq_iff_eq, decide_eq_true_eq]
  exact bytes_list
theorem pre_len {zs ys : List Int} {len m : Nat} (hz : zs.length = len) (hy : ys.length = m) (h : ¬ m ≤ len) : decide (zs.take m = ys) = false := dec_false (fun e => by
  have := congrArg List.length e
  rw [List.length_take] at this
  omega)
set_option maxRecDepth 200000 in
set_option maxHeartbeats 1000000 in
theorem hasPrefix_any (a b : Option Addr) (la lb ca cb : Nat) (xs ys : List Int) (w : World) (ha : RdB w a la xs) (hb : RdB w b lb ys) (hca : la ≤ ca) :
    Calls Try.prog 121 #[.slice a la ca, .slice b lb cb] w fun e w' => e = .returned (.bool (decide (xs.take lb = ys))) ∧ w' = w := by
  have HR : Hid (RdB w a la xs ∧ RdB w b lb ys) := ⟨ha, hb⟩
  by_cases hl : lb ≤ la
  rotate_left
  · have hd : decide ((lb : Int) ≤ (la : Int)) = false := dec_false (by omega)
    have hd2 : decide (lb ≤ la) = false := dec_false hl
    have hd3 : ¬ (lb : Int) ≤ (la : Int) := by omega
    have HV : Hid (decide (xs.take lb = ys) = false) := pre_len ha.length hb.length hl
    clear ha hb hl
    go_enter Try.func121, Try.ntmps121
    go_wp2
    go_ret
    exact ⟨ret_bool HV.out.symm, rfl⟩
  have hd : decide ((lb : Int) ≤ (la : Int)) = true := dec_true (by omega)
  have hd2 : decide (lb ≤ la) = true := dec_true hl
  have hcap : (lb : Int) ≤ (ca : Int) := by omega
  clear ha hb
  go_enter Try.func121, Try.ntmps121
  go_wp2_with fail
  refine (bytesEqual_any a b lb lb _ cb (xs.take lb) ys _ (HR.out.1.take hl) HR.out.2).mono ?_
  rintro e w1 ⟨rfl, hw1⟩
  have hw1' := hw1.symm
  subst hw1'
  clear hw1
  obtain ⟨d, hdd⟩ : ∃ d, d = decide (xs.take lb = ys) := ⟨_, rfl⟩
  rw [← hdd]
  have HD : Hid (d = decide (xs.take lb = ys)) := hdd
  clear hdd
  go_wp2
  go_ret
  exact ⟨ret_bool HD.out, rfl⟩
set_option maxRecDepth 200000 in
set_option maxHeartbeats 1000000 in
theorem cutPrefix_any (a b : Option Addr) (la ca cb : Nat) (xs ys : List Int) (w : World) (ha : RdB w a la xs) (hb : RdB w b 2 ys) (hca : la ≤ ca) :
    Calls Try.prog 77 #[.slice a la ca, .slice b 2 cb] w fun e w' => (∃ a' l' c', e = .returned (.tuple #[.slice a' l' c', .bool (decide (xs.take 2 = ys))]) ∧ (decide (xs.take 2 = ys) = true → RdB w a' l' (xs.drop 2) ∧ l' ≤ la ∧ l' ≤ c' ∧ (a' = none → c' = 0))) ∧ w' = w := by
  have HR : Hid (RdB w a la xs ∧ RdB w b 2 ys) := ⟨ha, hb⟩
  have HL : Hid (xs.length = la ∧ ys.length = 2) := ⟨ha.length, hb.length⟩
  clear ha hb
  go_enter Try.func77, Try.ntmps77
  go_wp2_with fail
  refine (hasPrefix_any a b la 2 ca cb xs ys _ HR.out.1 HR.out.2 hca).mono ?_
  rintro e w1 ⟨rfl, hw1⟩
  have hw1' := hw1.symm
  subst hw1'
  clear hw1
  obtain ⟨d, hd⟩ : ∃ d, d = decide (xs.take 2 = ys) := ⟨_, rfl⟩
  rw [← hd]
  have HD : Hid (d = decide (xs.take 2 = ys)) := hd
  clear hd
  cases d
  · go_wp2
    go_ret2
    rw [← HD.out]
    exact ⟨⟨_, _, _, rfl, fun h => by cases h⟩, rfl⟩
  have hl2 : 2 ≤ la := by
    have e : xs.take 2 = ys := of_decide_eq_true HD.out.symm
    have := congrArg List.length e
    have := HL.out
    rw [List.length_take] at *
    omega
  obtain ⟨g, off, rfl⟩ := HR.out.1.addr (by omega)
  have h2a : (2 : Int) ≤ (la : Int) := by omega
  have HRR : Hid (RdB w (some ⟨g, off + 2, none⟩) (la - 2) (xs.drop 2)) := HR.out.1.drop hl2
  go_wp2
  all_goals
    go_ret2
    rw [← HD.out]
    refine ⟨⟨_, _, _, rfl, fun _ => ?_⟩, rfl⟩
    first
    | exact ⟨HRR.out, by omega, by omega, by intro h; cases h⟩
    | (have e0 : la - 2 = 0 := by omega
       have hz := HRR.out
       rw [e0] at hz ⊢
       have ez : xs.drop 2 = [] := List.eq_nil_of_length_eq_zero hz.length
       rw [ez]
       exact ⟨RdB.zero, by omega, by omega, by intro h; cases h⟩)
/-- What stands ahead of the check sum, and whether that is right. -/
def BodyIs (zs body : List Int) (d : Bool) : Prop := if d = true then zs = body ++ sumOf body else ∀ g : List Int, zs ≠ g ++ sumOf g
def NewBody (w : World) (len : Nat) (zs : List Int) (e : Ending) (w' : World) : Prop := (∃ a' l' c' body d, e = .returned (.tuple #[.slice a' l' c', .bool d]) ∧ RdB w' a' l' body ∧ l' ≤ len ∧ l' ≤ c' ∧ (a' = none → c' = 0) ∧ BodyIs zs body d) ∧ Below w.heap.size w w'
theorem body_short {zs : List Int} (h : zs.length < 4) : BodyIs zs [] false := (if_neg (by simp)).mpr (fun g e => by
  have := congrArg List.length e
  rw [List.length_append, sumOf_len] at this
  omega)
theorem body_is {zs : List Int} {len : Nat} (hl : zs.length = len) (h4 : 4 ≤ len) : BodyIs zs (zs.take (len - 4)) (decide (zs.drop (len - 4) = sumOf (zs.take (len - 4)))) := by
  unfold BodyIs
  by_cases q : zs.drop (len - 4) = sumOf (zs.take (len - 4))
  · rw [dec_true q, if_pos rfl, ← q, List.take_append_drop]
  · rw [dec_false q, if_neg (by simp)]
    intro g e
    have hg : g.length = len - 4 := by
      have := congrArg List.length e
      rw [List.length_append, sumOf_len] at this
      omega
    refine q ?_
    rw [e, List.drop_left' hg, List.take_left' hg]
set_option maxRecDepth 100000 in
set_option maxHeartbeats 4000000 in
theorem wholeBody_any (a : Option Addr) (len cap : Nat) (zs : List Int) (w : World) (h : RdB w a len zs) (hlen : len ≤ 1048576) (hcap : len ≤ cap) (ha : a = none → cap = 0) :
    Calls Try.prog 76 #[.slice a len cap] w fun e w' => NewBody w len zs e w' := by
  have HR : Hid (RdB w a len zs) := h
  have HL : Hid (zs.length = len) := h.length
  by_cases h4 : len < 4
  · have hd : decide ((len : Int) - 4 < 0) = true := dec_true (by omega)
    have HV : Hid (BodyIs zs [] false) := body_short (by rw [HL.out]; exact h4)
    clear h
    go_enter Try.func76, Try.ntmps76
    go_wp2
    go_ret2
    exact ⟨⟨none, 0, 0, [], false, rfl, RdB.nil, by omega, by omega, fun _ => rfl, HV.out⟩, Below.refl _ _⟩
  have hd : decide ((len : Int) - 4 < 0) = false := dec_false (by omega)
  obtain ⟨b, off, rfl⟩ := h.addr (by omega)
  obtain ⟨k, hk⟩ : ∃ k, len = k + 4 := ⟨len - 4, by omega⟩
  subst hk
  have HV : Hid (BodyIs zs (zs.take k) (decide (zs.drop k = sumOf (zs.take k)))) := by
    have := body_is HL.out (by omega)
    show BodyIs _ _ _
    simpa using this
  have HT : Hid (RdB w (some ⟨b, off, none⟩) k (zs.take k) ∧ RdB w (some ⟨b, off + k, none⟩) 4 (zs.drop k)) := ⟨h.take (by omega), by have := h.drop (m := k) (by omega); rw [Nat.add_sub_cancel_left] at this; exact this⟩
  have e4 : ((k + 4 : Nat) : Int) - 4 = (k : Int) := by omega
  have hkc : (k : Int) ≤ (cap : Int) := by omega
  have hkn : ¬ cap = k := by omega
  clear h ha
  go_enter Try.func76, Try.ntmps76
  go_wp2
  rw [e4] at *
  refine wp_region_held (S := fun _ => True) (by kernel_rfl) ?_
  change wpAnyH _ _ _ _ _ _ _ _ (World.drew _)
  refine takeH (o := ?o1) 0 (.slice (some ⟨b, off, none⟩) (k + 4) cap) ?h1 ?r1
  case h1 => simp only [aT, aZ]; rfl
  refine ⟨_, by simp [Act.put]; rfl, by kernel_rfl, by kernel_rfl, by kernel_rfl, fun _ _ _ h => h, (.inl ⟨rfl, fun W _ => by go_simp⟩), trivial, ?_⟩
  refine takeH (o := ?o2) 1 (.int .i64 (k : Int)) ?h2 ?r2
  case h2 => simp only [aT, aS, aZ]; rfl
  refine ⟨_, by simp [Act.put]; rfl, by kernel_rfl, by kernel_rfl, by kernel_rfl, fun _ _ _ h => h, (.inl ⟨rfl, fun W _ => by go_simp⟩), trivial, ?_⟩
  refine takeH (o := ?o3) 2 (.slice (some ⟨b, off, none⟩) k cap) ?h3 ?r3
  case h3 => simp only [aT, aS, aZ]; rfl
  refine ⟨_, by simp [Act.put]; rfl, by kernel_rfl, by kernel_rfl, by kernel_rfl, fun _ _ _ h => h, (.inl ⟨rfl, fun W _ => by go_simp⟩), trivial, ?_⟩
  refine takeH (o := ?o4) 3 (.slice (some ⟨b, off, none⟩) (k + 4) cap) ?h4 ?r4
  case h4 => simp only [aT, aS, aZ]; rfl
  refine ⟨_, by simp [Act.put]; rfl, by kernel_rfl, by kernel_rfl, by kernel_rfl, fun _ _ _ h => h, (.inl ⟨rfl, fun W _ => by go_simp⟩), trivial, ?_⟩
  refine takeH (o := ?o5) 4 (.int .i64 (k : Int)) ?h5 ?r5
  case h5 => simp only [aT, aS, aZ]; rfl
  refine ⟨_, by simp [Act.put]; rfl, by kernel_rfl, by kernel_rfl, by kernel_rfl, fun _ _ _ h => h, (.inl ⟨rfl, fun W _ => by go_simp⟩), trivial, ?_⟩
  refine takeH (o := ?o6) 5 (.slice (some ⟨b, off + k, none⟩) 4 (cap - k)) ?h6 ?r6
  case h6 => simp only [aT, aS, aZ]; rfl
  refine ⟨_, by simp [Act.put]; rfl, by kernel_rfl, by kernel_rfl, by kernel_rfl, fun _ _ _ h => h, (.inl ⟨rfl, fun W _ => by go_simp; intro h; omega⟩), trivial, ?_⟩
  refine takeH (o := ?o7) 6 (.slice (some ⟨b, off, none⟩) (k + 4) cap) ?h7 ?r7
  case h7 => simp only [aT, aS, aZ]; rfl
  refine ⟨_, by simp [Act.put]; rfl, by kernel_rfl, by kernel_rfl, by kernel_rfl, fun _ _ _ h => h, (.inl ⟨rfl, fun W _ => by go_simp⟩), trivial, ?_⟩
  refine takeH (o := ?o8) 7 (.int .i64 (k : Int)) ?h8 ?r8
  case h8 => simp only [aT, aS, aZ]; rfl
  refine ⟨_, by simp [Act.put]; rfl, by kernel_rfl, by kernel_rfl, by kernel_rfl, fun _ _ _ h => h, (.inl ⟨rfl, fun W _ => by go_simp⟩), trivial, ?_⟩
  refine takeH (o := ?o9) 8 (.slice (some ⟨b, off, none⟩) k cap) ?h9 ?r9
  case h9 => simp only [aT, aS, aZ]; rfl
  refine ⟨_, by simp [Act.put]; rfl, by kernel_rfl, by kernel_rfl, by kernel_rfl, fun _ _ _ h => h, (.inl ⟨rfl, fun W _ => by go_simp⟩), trivial, ?_⟩
  refine onlyH (o := ?o10) 9 (by kernel_rfl) ?h10 ?r10
  case h10 => simp only [aT, aS, aZ]; rfl
  intro K hK
  refine op_call1 73 _ _ Try.f73 (fun v w' => v = .slice (some ⟨w.drew.heap.size, 0, none⟩) 4 4 ∧ w' = w.drew.alloc (.cells ((sumOf (zs.take k)).map (Value.int .u8)).toArray 5)) rfl rfl Try.func73 (by kernel_rfl) (by kernel_rfl) ((crcBytes_any (some ⟨b, off, none⟩) k cap (zs.take k) w.drew (HT.out.1.below (Below.refl _ _).drew) (by omega)).mono (by rintro e w' ⟨rfl, h1⟩; exact ⟨_, rfl, rfl, h1⟩)) ?_
  rintro v W1 ⟨rfl, hW1⟩
  have b1 : Below w.heap.size w W1 := by rw [hW1]; exact (Below.refl _ _).drew.alloc (Nat.le_refl _) _
  have r1 : RdB W1 (some ⟨w.heap.size, 0, none⟩) 4 (sumOf (zs.take k)) := by
    rw [hW1]
    refine ⟨sumOf_len _, sumOf_range _ HT.out.1.range, .inr ⟨w.heap.size, 0, rfl, fun i hi => ?_⟩⟩
    rw [Nat.zero_add, show w.heap.size = w.drew.heap.size from rfl, (Blk.made w.drew _ _).cell i]
    have hi' : i < (sumOf (zs.take k)).length := by rw [sumOf_len]; exact hi
    simp [List.getElem?_eq_getElem hi']
  have HW : Hid (Below w.heap.size w W1 ∧ RdB W1 (some ⟨w.heap.size, 0, none⟩) 4 (sumOf (zs.take k)) ∧ RdB W1 (some ⟨b, off + k, none⟩) 4 (zs.drop k) ∧ RdB W1 (some ⟨b, off, none⟩) k (zs.take k)) := ⟨b1, r1, HT.out.2.below b1, HT.out.1.below b1⟩
  clear hW1 b1 r1
  refine ⟨_, by simp [Act.put]; rfl, hK _ _ ⟨trivial, ?_⟩⟩
  clear hK
  refine onlyH (o := ?o11) 10 (by kernel_rfl) ?h11 ?r11
  case h11 => simp only [aT, aS, aZ]; rfl
  intro K hK
  refine op_call2 120 _ _ _ Try.f120 (fun w' => w' = W1) (.bool (decide (zs.drop k = sumOf (zs.take k)))) rfl rfl Try.func120 (by kernel_rfl) (by kernel_rfl) (bytesEqual_any (some ⟨b, off + k, none⟩) (some ⟨w.heap.size, 0, none⟩) 4 4 (cap - k) 4 (zs.drop k) (sumOf (zs.take k)) W1 HW.out.2.2.1 HW.out.2.1) ⟨_, by simp [Act.put]; rfl, ?_⟩
  intro W2 hW2
  rw [hW2]
  refine hK _ _ ⟨trivial, ?_⟩
  clear hK hW2 W2
  refine onlyH (o := ?o12) 11 (by kernel_rfl) ?h12 ?r12
  case h12 => simp only [aT, aS, aZ]; rfl
  intro K hK
  refine op_value (.slice (some ⟨b, off, none⟩) k cap) rfl (by go_simp) ⟨_, by simp [Act.put]; rfl, hK _ _ ⟨trivial, ?_⟩⟩
  clear hK
  refine onlyH (o := ?o13) 12 (by kernel_rfl) ?h13 ?r13
  case h13 => simp only [aT, aS, aZ]; rfl
  intro K hK
  refine op_value (.bool (decide (zs.drop k = sumOf (zs.take k)))) rfl (by go_simp) ⟨_, by simp [Act.put]; rfl, hK _ _ ⟨trivial, ?_⟩⟩
  clear hK
  refine wpAnyH_done (by kernel_rfl) ?_ _
  go_wp2
  go_ret2
  exact ⟨⟨_, k, cap, zs.take k, _, rfl, HW.out.2.2.2, by omega, by omega, (by intro h; cases h), HV.out⟩, HW.out.1⟩
end Go.Proofs.Ytjndcfamfminkab
/- Items and entries that came in. No statement of the seat is proved here. -/
namespace Go.Proofs.Ytjndcfamfminkab
open Go.RowKit Go.WideShapes Go.ChangeShapes Go.ChangeAt Go.Deep
end Go.Proofs.Ytjndcfamfminkab
/- The walks through the helpers of the laws over frames. No statement of the seat is proved here. -/
namespace Go.Proofs.Ytjndcfamfminkab
open Go.RowKit
end Go.Proofs.Ytjndcfamfminkab
/- Frames that came in. No statement of the seat is proved here. -/
namespace Go.Proofs.Ytjndcfamfminkab
open Go.RowKit Go.WideShapes Go.ChangeShapes Go.ChangeAt Go.Deep
end Go.Proofs.Ytjndcfamfminkab
/- What the laws over items and entries share. No statement of the seat is proved here. -/
namespace Go.Proofs.Ytjndcfamfminkab
open Go.RowKit Go.WideShapes Go.ChangeShapes Go.ChangeAt
theorem RdIt.cells {w : World} {v : Value} {x : It} {F : List Nat} (h : RdIt w v x F) : ∃ cs : Array Value, v = .agg cs ∧ cs.size = 11 ∧ cs.all (·.oneCell') = true := by
  obtain ⟨a1, n1, c1, a2, n2, c2, a3, n3, c3, rfl, _⟩ := h
  exact ⟨_, rfl, rfl, by simp [Value.oneCell']⟩
/-- An entry's value that can be read; F: its blocks. -/
def RdE (w : World) (v : Value) (x : En) (F : List Nat) : Prop := ∃ F1 F2, F = F1 ++ F2 ∧ RdEn w v x F1 F2
theorem RdE.agree {w w' : World} {v : Value} {x : En} {F : List Nat} (h : RdE w v x F) (ha : Agree w w' F) : RdE w' v x F := by
  obtain ⟨F1, F2, rfl, h⟩ := h
  exact ⟨F1, F2, rfl, h.agree (fun b hb => ha b (List.mem_append_left _ hb)) (fun b hb => ha b (List.mem_append_right _ hb))⟩
theorem RdE.lt {w : World} {v : Value} {x : En} {F : List Nat} (h : RdE w v x F) : ∀ b ∈ F, b < w.heap.size := by
  obtain ⟨F1, F2, rfl, h⟩ := h
  exact fun b hb => (List.mem_append.1 hb).elim (h.lt1 b) (h.lt2 b)
theorem RdE.below {w w' : World} {v : Value} {x : En} {F : List Nat} (h : RdE w v x F) (hb : Below w.heap.size w w') : RdE w' v x F := h.agree (.below hb h.lt)
theorem RdE.cells {w : World} {v : Value} {x : En} {F : List Nat} (h : RdE w v x F) : ∃ cs : Array Value, v = .agg cs ∧ cs.size = 10 ∧ cs.all (·.oneCell') = true := by
  obtain ⟨F1, F2, rfl, b, l, c, a1, n1, c1, a2, n2, c2, a3, n3, c3, rfl, _⟩ := h
  exact ⟨_, rfl, rfl, by simp [Value.oneCell']⟩
def It.vast (x : It) : Prop := x.sk.vast
def It.fits (x : It) : Prop := x.sk.fits
def It.wide (x : It) : Prop := x.sk.wide
theorem It.fits.wide {x : It} (h : x.fits) : x.wide := Sk.fits.wide h
def En.vast (x : En) : Prop := x.sk.vast ∧ x.ids.length ≤ 9223372036854775807
def En.fits (x : En) : Prop := x.sk.fits ∧ x.ids.length ≤ 1048576
def En.wide (x : En) : Prop := x.sk.wide ∧ x.ids.length ≤ 1048576
theorem En.fits.wide {x : En} (h : x.fits) : x.wide := ⟨h.1.wide, h.2⟩
theorem It.fits_of {x : It} {r left : Int} (h : r = left - x.sk.size) (h0 : 0 ≤ r) (hl : left ≤ 1048576) : x.fits := Sk.fits_of (by omega)
set_option maxRecDepth 200000 in
theorem En.fits_of {x : En} {r left : Int} (h : r = left - x.ids.length - x.sk.size ∧ (x.ids.length : Int) ≤ left ∧ x.sk.size ≤ left) (_h0 : 0 ≤ r) (hl : left ≤ 1048576) : x.fits := ⟨Sk.fits_of (by omega), by omega⟩
set_option maxRecDepth 200000 in
theorem entryOkE_any (v : Value) (x : En) (F : List Nat) (w : World) (h : RdE w v x F) (hw : x.wide) :
    Calls Try.prog 46 #[v] w fun e w' => e = .returned (.bool x.ok) ∧ Below w.heap.size w w' := by
  obtain ⟨F1, F2, rfl, h⟩ := h
  exact entryOkSpec_any v x F1 F2 w h hw.1 (by have := hw.2; omega)
end Go.Proofs.Ytjndcfamfminkab
/- What the laws over frames share. No statement of the seat is proved here. -/
namespace Go.Proofs.Ytjndcfamfminkab
open Go.RowKit Go.WideShapes Go.ChangeShapes Go.ChangeAt
/-- A frame's value that can be read; F: its blocks. -/
def RdF (w : World) (v : Value) (x : Fr) (F : List Nat) : Prop := ∃ F1 F2, F = F1 ++ F2 ∧ RdFr w v x F1 F2
theorem RdF.agree {w w' : World} {v : Value} {x : Fr} {F : List Nat} (h : RdF w v x F) (ha : Agree w w' F) : RdF w' v x F := by
  obtain ⟨F1, F2, rfl, h⟩ := h
  exact ⟨F1, F2, rfl, h.agree (fun b hb => ha b (List.mem_append_left _ hb)) (fun b hb => ha b (List.mem_append_right _ hb))⟩
theorem RdF.lt {w : World} {v : Value} {x : Fr} {F : List Nat} (h : RdF w v x F) : ∀ b ∈ F, b < w.heap.size := by
  obtain ⟨F1, F2, rfl, h⟩ := h
  exact fun b hb => (List.mem_append.1 hb).elim (h.lt1 b) (h.lt2 b)
theorem RdF.below {w w' : World} {v : Value} {x : Fr} {F : List Nat} (h : RdF w v x F) (hb : Below w.heap.size w w') : RdF w' v x F := h.agree (.below hb h.lt)
theorem RdF.cells {w : World} {v : Value} {x : Fr} {F : List Nat} (h : RdF w v x F) : ∃ cs : Array Value, v = .agg cs ∧ cs.size = 16 ∧ cs.all (·.oneCell') = true := by
  obtain ⟨F1, F2, rfl, b, l, c, a1, n1, c1, a2, n2, c2, a3, n3, c3, rfl, _⟩ := h
  exact ⟨_, rfl, rfl, by simp [Value.oneCell']⟩
def Fr.vast (x : Fr) : Prop := x.item.sk.vast ∧ x.taken.length ≤ 9223372036854775807
def Fr.fits (x : Fr) : Prop := x.item.sk.fits ∧ x.taken.length ≤ 1048576
def Fr.wide (x : Fr) : Prop := x.item.sk.wide ∧ x.taken.length ≤ 1048576
theorem Fr.fits.wide {x : Fr} (h : x.fits) : x.wide := ⟨h.1.wide, h.2⟩
theorem Fr.fits_of {x : Fr} {r left : Int} (h : r = left - x.taken.length - x.item.sk.size ∧ (x.taken.length : Int) ≤ left ∧ x.item.sk.size ≤ left) (_h0 : 0 ≤ r) (hl : left ≤ 1048576) : x.fits := ⟨Sk.fits_of (by omega), by omega⟩
end Go.Proofs.Ytjndcfamfminkab
/- The walk through the program's FrameOf. No statement of the seat is proved here. -/
namespace Go.Proofs.Ytjndcfamfminkab
open Go.RowKit
theorem frIs_noBody {zs body : List Int} (h : BodyIs zs body false) : FrIs zs Fr.zero false := frIs_ne (fun g hg e => by
  unfold BodyIs at h
  rw [if_neg (by simp)] at h
  exact h g.body (e.trans (Fr.bytes_ok hg)))
theorem take2_eq {body : List Int} (h : body.take 2 = [87, 82]) : body = [87, 82] ++ body.drop 2 := by
  conv => lhs; rw [← List.take_append_drop 2 body, h]
theorem take2_ne {body : List Int} (h : ¬ body.take 2 = [87, 82]) : ∀ r, body ≠ [87, 82] ++ r := fun r e => h (by rw [e]; rfl)
set_option maxRecDepth 200000 in
set_option maxHeartbeats 4000000 in
theorem frameOfImpl_any (a : Option Addr) (len cap : Nat) (zs : List Int) (w : World) (h : RdB w a len zs) (hlen : len ≤ 1048576) (hcap : len ≤ cap) (ha : a = none → cap = 0) :
    Calls Try.prog 28 #[.slice a len cap] w fun e w' => NewFrR w (FrIs zs) e w' := by
  have HR : Hid (RdB w a len zs ∧ len ≤ cap ∧ (a = none → cap = 0)) := ⟨h, hcap, ha⟩
  have HT : Hid (Blk (w.alloc (.cells #[.int .i64 0, .int .i64 0, .int .i64 0, .int .i64 0, .slice none 0 0, .int .i64 0, .int .i64 0, .int .i64 0, .int .i64 0, .int .i64 0, .int .i64 0, .int .i64 0, .int .i64 0, .slice none 0 0, .slice none 0 0, .slice none 0 0] 51)) w.heap.size #[.int .i64 0, .int .i64 0, .int .i64 0, .int .i64 0, .slice none 0 0, .int .i64 0, .int .i64 0, .int .i64 0, .int .i64 0, .int .i64 0, .int .i64 0, .int .i64 0, .int .i64 0, .slice none 0 0, .slice none 0 0, .slice none 0 0] 51 ∧ Below w.heap.size w (w.alloc (.cells #[.int .i64 0, .int .i64 0, .int .i64 0, .int .i64 0, .slice none 0 0, .int .i64 0, .int .i64 0, .int .i64 0, .int .i64 0, .int .i64 0, .int .i64 0, .int .i64 0, .int .i64 0, .slice none 0 0, .slice none 0 0, .slice none 0 0] 51))) := ⟨Blk.made _ _ _, (Below.refl _ _).alloc (Nat.le_refl _) _⟩
  clear h hcap ha
  go_enter Try.func28, Try.ntmps28
  go_wp2_with fail
  refine (wholeBody_any a len cap zs _ (HR.out.1.below HT.out.2) hlen HR.out.2.1 HR.out.2.2).mono ?_
  rintro e w1 ⟨⟨a1, l1, c1, body, d, rfl, rb, hl1, hc1, ha1, hB⟩, bw1⟩
  have HT1 : Hid (Blk w1 w.heap.size #[.int .i64 0, .int .i64 0, .int .i64 0, .int .i64 0, .slice none 0 0, .int .i64 0, .int .i64 0, .int .i64 0, .int .i64 0, .int .i64 0, .int .i64 0, .int .i64 0, .int .i64 0, .slice none 0 0, .slice none 0 0, .slice none 0 0] 51 ∧ Below w.heap.size w w1 ∧ RdB w1 a1 l1 body ∧ BodyIs zs body d ∧ (a1 = none → c1 = 0)) := ⟨HT.out.1.below bw1, Below.next HT.out.2 bw1, rb, hB, ha1⟩
  clear bw1 rb hB ha1 HT
  have kc : (convert 22 22 (.slice (some ⟨w1.heap.size, 0, none⟩) 2 2)).run Try.prog (w1.alloc (.cells #[.int .u8 87, .int .u8 82] 5)) = .ok (.slice (some ⟨w1.heap.size, 0, none⟩) 2 2) (w1.alloc (.cells #[.int .u8 87, .int .u8 82] 5 (2, 3))) := Lib.run_convert_bytes_const (P := Try.prog) w1 22 5 #[.int .u8 87, .int .u8 82] 2 2 Try.underlying22 Try.underlying5
  have bW : Below w1.heap.size w1 (w1.alloc (.cells #[.int .u8 87, .int .u8 82] 5 (2, 3))) := (Below.refl _ _).alloc (Nat.le_refl _) _
  have HT2 : Hid (Blk (w1.alloc (.cells #[.int .u8 87, .int .u8 82] 5 (2, 3))) w.heap.size #[.int .i64 0, .int .i64 0, .int .i64 0, .int .i64 0, .slice none 0 0, .int .i64 0, .int .i64 0, .int .i64 0, .int .i64 0, .int .i64 0, .int .i64 0, .int .i64 0, .int .i64 0, .slice none 0 0, .slice none 0 0, .slice none 0 0] 51 ∧ Below w.heap.size w (w1.alloc (.cells #[.int .u8 87, .int .u8 82] 5 (2, 3))) ∧ RdB (w1.alloc (.cells #[.int .u8 87, .int .u8 82] 5 (2, 3))) a1 l1 body ∧ RdB (w1.alloc (.cells #[.int .u8 87, .int .u8 82] 5 (2, 3))) (some ⟨w1.heap.size, 0, none⟩) 2 [87, 82]) := by
    refine ⟨HT1.out.1.below bW, Below.next HT1.out.2.1 bW, HT1.out.2.2.1.below bW, rfl, (by intro n hn; simp at hn; omega), .inr ⟨w1.heap.size, 0, rfl, fun i hi => ?_⟩⟩
    have hk : (w1.alloc (.cells #[.int .u8 87, .int .u8 82] 5 (2, 3))).heap[w1.heap.size]? = some (.cells #[.int .u8 87, .int .u8 82] 5 (2, 3)) := heap_alloc_new _ _
    match i, hi with
    | 0, _ => simp only [World.cell?, hk]; rfl
    | 1, _ => simp only [World.cell?, hk]; rfl
  clear bW
  go_wp2_with fail
  obtain ⟨W2, hW2⟩ : ∃ W, W = w1.alloc (.cells #[.int .u8 87, .int .u8 82] 5 (2, 3)) := ⟨_, rfl⟩
  rw [← hW2] at HT2 ⊢
  clear kc hW2
  refine (cutPrefix_any a1 (some ⟨w1.heap.size, 0, none⟩) l1 c1 2 body [87, 82] _ HT2.out.2.2.1 HT2.out.2.2.2 hc1).mono ?_
  rintro e w3 ⟨⟨a2, l2, c2, rfl, hcut⟩, hw3⟩
  have hw3' := hw3.symm
  subst hw3'
  clear hw3
  obtain ⟨d2, hd2⟩ : ∃ d, d = decide (body.take 2 = [87, 82]) := ⟨_, rfl⟩
  rw [← hd2] at hcut ⊢
  have HCUT : Hid (d2 = true → RdB W2 a2 l2 (body.drop 2) ∧ l2 ≤ l1 ∧ l2 ≤ c2 ∧ (a2 = none → c2 = 0)) := hcut
  have HD2 : Hid (d2 = decide (body.take 2 = [87, 82])) := hd2
  clear hcut hd2
  cases d
  · have HV : Hid (FrIs zs Fr.zero false) := frIs_noBody HT1.out.2.2.2.1
    go_wp2_with (first | go_skip | (with_reducible refine stopStore 51 rfl ?_))
    refine store_known 51 w.heap.size _ #[.int .i64 0, .int .i64 0, .int .i64 0, .int .i64 0, .slice none 0 0, .int .i64 0, .int .i64 0, .int .i64 0, .int .i64 0, .int .i64 0, .int .i64 0, .int .i64 0, .int .i64 0, .slice none 0 0, .slice none 0 0, .slice none 0 0] 51 HT2.out.1 rfl rfl rfl rfl infoFrF7 rfl (by simp [Value.oneCell']) ?_
    go_wp2
    refine bodyPost_ret (results_row_tmp Try.results28 _ _ w.heap.size _ _ _ _ rfl HT2.out.1.setRow Try.underlying51 rfl infoFrF7) rfl ?_
    exact ⟨_, Fr.zero, false, [], [], rfl, rdFr_zero _, Own.nil, Own.nil, by simp, below_setRow HT2.out.2.1 (Nat.le_refl _) _, HV.out⟩
  have HBd : Hid (zs = body ++ sumOf body) := by
    have q := HT1.out.2.2.2.1
    unfold BodyIs at q
    rw [if_pos rfl] at q
    exact q
  cases d2
  · have HV : Hid (FrIs zs Fr.zero false) := by
      show FrIs _ _ _
      rw [HBd.out]
      exact frIs_noSign (take2_ne (of_decide_eq_false HD2.out.symm))
    go_wp2_with (first | go_skip | (with_reducible refine stopStore 51 rfl ?_))
    refine store_known 51 w.heap.size _ #[.int .i64 0, .int .i64 0, .int .i64 0, .int .i64 0, .slice none 0 0, .int .i64 0, .int .i64 0, .int .i64 0, .int .i64 0, .int .i64 0, .int .i64 0, .int .i64 0, .int .i64 0, .slice none 0 0, .slice none 0 0, .slice none 0 0] 51 HT2.out.1 rfl rfl rfl rfl infoFrF7 rfl (by simp [Value.oneCell']) ?_
    go_wp2
    refine bodyPost_ret (results_row_tmp Try.results28 _ _ w.heap.size _ _ _ _ rfl HT2.out.1.setRow Try.underlying51 rfl infoFrF7) rfl ?_
    exact ⟨_, Fr.zero, false, [], [], rfl, rdFr_zero _, Own.nil, Own.nil, by simp, below_setRow HT2.out.2.1 (Nat.le_refl _) _, HV.out⟩
  have HSg : Hid (body = [87, 82] ++ body.drop 2) := take2_eq (of_decide_eq_true HD2.out.symm)
  have HCT : Hid (RdB W2 a2 l2 (body.drop 2) ∧ l2 ≤ l1 ∧ l2 ≤ c2 ∧ (a2 = none → c2 = 0)) := HCUT.out rfl
  have hl2 : l2 ≤ 1048576 := by have := HCT.out.2.1; omega
  clear HCUT
  go_wp2_with fail
  refine (numbersOfBytes_any a2 l2 c2 (body.drop 2) _ HCT.out.1 hl2 HCT.out.2.2.1 HCT.out.2.2.2).mono ?_
  rintro e w4 ⟨⟨v, l, d3, rfl, hown, hAll⟩, hb4⟩
  obtain ⟨a4, c4, X4, rfl, hr4, hc4⟩ := rdI_own_cap hown
  have hll : l.length ≤ 1048576 := by have := (allIs_len hAll).1; have := HCT.out.1.length; omega
  have HT4 : Hid (Blk w4 w.heap.size #[.int .i64 0, .int .i64 0, .int .i64 0, .int .i64 0, .slice none 0 0, .int .i64 0, .int .i64 0, .int .i64 0, .int .i64 0, .int .i64 0, .int .i64 0, .int .i64 0, .int .i64 0, .slice none 0 0, .slice none 0 0, .slice none 0 0] 51 ∧ Below w.heap.size w w4 ∧ RdI w4 a4 l.length l X4 ∧ l.length ≤ c4 ∧ AllIs (body.drop 2) l d3) := ⟨HT2.out.1.below hb4, Below.next HT2.out.2.1 hb4, hr4, hc4, hAll⟩
  clear hown hAll hb4 hr4 hc4 HT2 HT1 HCT
  cases d3
  · have HV : Hid (FrIs zs Fr.zero false) := by
      show FrIs _ _ _
      rw [HBd.out]
      refine frIs_noNums HSg.out ?_
      have q := HT4.out.2.2.2.2
      unfold AllIs at q
      rw [if_neg (by simp)] at q
      exact q.2
    go_wp2_with (first | go_skip | (with_reducible refine stopStore 51 rfl ?_))
    refine store_known 51 w.heap.size _ #[.int .i64 0, .int .i64 0, .int .i64 0, .int .i64 0, .slice none 0 0, .int .i64 0, .int .i64 0, .int .i64 0, .int .i64 0, .int .i64 0, .int .i64 0, .int .i64 0, .int .i64 0, .slice none 0 0, .slice none 0 0, .slice none 0 0] 51 HT4.out.1 rfl rfl rfl rfl infoFrF7 rfl (by simp [Value.oneCell']) ?_
    go_wp2
    refine bodyPost_ret (results_row_tmp Try.results28 _ _ w.heap.size _ _ _ _ rfl HT4.out.1.setRow Try.underlying51 rfl infoFrF7) rfl ?_
    exact ⟨_, Fr.zero, false, [], [], rfl, rdFr_zero _, Own.nil, Own.nil, by simp, below_setRow HT4.out.2.1 (Nat.le_refl _) _, HV.out⟩
  have HAl : Hid (body.drop 2 = putAll l ∧ ∀ x ∈ l, InN x) := by
    have q := HT4.out.2.2.2.2
    unfold AllIs at q
    rw [if_pos rfl] at q
    exact q
  obtain ⟨n4, hn4⟩ : ∃ n, n = l.length := ⟨_, rfl⟩
  rw [← hn4] at HT4 hll ⊢
  clear hn4
  go_wp2_with fail
  refine (frameOfNumbers_any a4 n4 c4 l X4 _ HT4.out.2.2.1 hll HT4.out.2.2.2.1 HAl.out.2).mono ?_
  rintro e w5 ⟨v5, f, d4, F, G, rfl, rf, oF, oG, ap, b5, hN⟩
  obtain ⟨ds, rfl, hd16, hdone⟩ := (show RdF w5 v5 f (F ++ G) from ⟨F, G, rfl, rf⟩).cells
  have HW5 : Hid (RdFr w5 (.agg ds) f F G ∧ Own w4.heap.size w5 F ∧ Own w4.heap.size w5 G ∧ (∀ b ∈ F, b ∉ G) ∧ Below w.heap.size w w5 ∧ Blk w5 w.heap.size #[.int .i64 0, .int .i64 0, .int .i64 0, .int .i64 0, .slice none 0 0, .int .i64 0, .int .i64 0, .int .i64 0, .int .i64 0, .int .i64 0, .int .i64 0, .int .i64 0, .int .i64 0, .slice none 0 0, .slice none 0 0, .slice none 0 0] 51 ∧ ds.size = 16 ∧ ds.all (·.oneCell') = true) := ⟨rf, oF, oG, ap, Below.next HT4.out.2.1 b5, HT4.out.1.below b5, hd16, hdone⟩
  have HV : Hid (FrIs zs f d4) := by
    show FrIs _ _ _
    rw [HBd.out]
    exact frIs_of HAl.out.2 hN (by rw [← HAl.out.1]; exact HSg.out)
  have lt4 : w.heap.size < w4.heap.size := HT4.out.1.lt
  have hds : (Try.prog.info? 51).map (·.size) = some ds.size := by rw [hd16]; exact infoFrF7
  clear rf oF oG ap b5 hN hd16 hdone HT4
  go_wp2_with (first | go_skip | (with_reducible refine stopStore 51 rfl ?_))
  refine store_known 51 w.heap.size _ ds 51 HW5.out.2.2.2.2.2.1 rfl rfl rfl rfl hds (by rw [HW5.out.2.2.2.2.2.2.1]; rfl) HW5.out.2.2.2.2.2.2.2 ?_
  have nF : w.heap.size ∉ F := fun hx => by have := HW5.out.2.1.ge _ hx; omega
  have nG : w.heap.size ∉ G := fun hx => by have := HW5.out.2.2.1.ge _ hx; omega
  have HE : Hid (RdFr (w5.setRow w.heap.size ds) (.agg ds) f F G ∧ Own w.heap.size (w5.setRow w.heap.size ds) F ∧ Own w.heap.size (w5.setRow w.heap.size ds) G ∧ (∀ b ∈ F, b ∉ G) ∧ Below w.heap.size w (w5.setRow w.heap.size ds) ∧ Blk (w5.setRow w.heap.size ds) w.heap.size ds 51) := ⟨HW5.out.1.agree (Agree.row nF _) (Agree.row nG _), (HW5.out.2.1.agree (Agree.row nF _)).mono (by omega), (HW5.out.2.2.1.agree (Agree.row nG _)).mono (by omega), HW5.out.2.2.2.1, below_setRow HW5.out.2.2.2.2.1 (Nat.le_refl _) _, HW5.out.2.2.2.2.2.1.setRow⟩
  clear HW5 nF nG
  go_wp2
  refine bodyPost_ret (results_row_tmp Try.results28 _ _ w.heap.size _ _ _ _ rfl HE.out.2.2.2.2.2 Try.underlying51 rfl hds) rfl ?_
  exact ⟨_, f, d4, F, G, rfl, HE.out.1, HE.out.2.1, HE.out.2.2.1, HE.out.2.2.2.1, HE.out.2.2.2.2.1, HV.out⟩
end Go.Proofs.Ytjndcfamfminkab
