/- For every byte slice (no condition): laws.FnSpoilt returns true, and its argument reads afterwards as it did: a frame's bytes with one byte that is another one are not read. -/
import Derived.Test.YtjndcfamfminkabLawBase
import Derived.Test.YtjndcfamfminkabAt0
import Derived.Test.YtjndcfamfminkabCrcTurn
import Derived.Test.YtjndcfamfminkabB2
import Derived.Test.YtjndcfamfminkabB3
import Derived.Test.YtjndcfamfminkabB4
import Derived.Test.YtjndcfamfminkabRows
import Derived.WalkKit
import Derived.ProofKit
import Derived.OpenShut
import Derived.ShutString
import Derived.ChangeOld
import Derived.Below
namespace Go.Proofs.Ytjndcfamfminkab.fnSpoilt
open Go.ChangeShapes Go.WideShapes Go.ChangeAt Go.RowKit
open Go.ChangeMaps (open_string shut_string)
set_option linter.unusedVariables false

theorem own : ownKnob Try.prog.godebug = none := by kernel_rfl
theorem laidOut : laidOutB Try.prog = true := by kernel_rfl

/-- WHAT THE WALK IS TOLD OF A SLICE OF INTEGERS THAT CAME IN: it is nil; or it leads to a row of 'cap' cells, the numbers 'zs' (the first 'len' are its elements, the rest its spare room), each fitting its kind. -/
def IsRow (k : IntKind) (w : World) (a : Option Addr) (len cap : Nat) (zs : List Int) : Prop :=
  (a = none ∧ len = 0 ∧ cap = 0 ∧ zs = []) ∨
  ∃ x, a = some x ∧ len ≤ cap ∧ cap ≤ maxLen ∧ zs.length = cap ∧ (∀ i, i < zs.length → w.cell? (x.add i) = some (.int k (zs.getD i 0))) ∧ ∀ n ∈ zs, (Lit.int k n).wf = true

theorem sum_inj {xs ys : List Int} (hx : ∀ x ∈ xs, 0 ≤ x ∧ x ≤ 255) (hy : ∀ x ∈ ys, 0 ≤ x ∧ x ≤ 255) (e : sumOf xs = sumOf ys) : crcOf xs = crcOf ys := by
  have a := crcOf_range xs hx
  have b := crcOf_range ys hy
  unfold sumOf at e
  simp only [List.cons.injEq] at e
  omega
theorem spoilt {f g : Fr} {d : Bool} (hok : f.ok = true) {i : Nat} {c : Int} (hi : i < f.bytes.length) (hc : 0 ≤ c ∧ c ≤ 255) (hne : ¬ f.bytes[i]?.getD 0 = c) (h : FrIs (f.bytes.set i c) g d) : d = false ∧ g = Fr.zero := by
  unfold FrIs at h
  cases d
  · rw [if_neg (by simp)] at h
    exact ⟨rfl, h.1⟩
  · rw [if_pos rfl] at h
    exfalso
    obtain ⟨gk, e⟩ := h
    rw [Fr.bytes_ok hok, Fr.bytes_ok gk] at e
    rw [Fr.bytes_ok hok] at hi hne
    have rf := f.body_range
    have rg := g.body_range
    generalize f.body = B at *
    generalize g.body = D at *
    by_cases q : i < B.length
    · rw [List.set_append_left _ _ q] at e
      obtain ⟨e1, e2⟩ := app4_inj (sumOf_len _) (sumOf_len _) e
      rw [List.getElem?_append_left q] at hne
      have := sum_inj rf rg e2
      rw [← e1] at this
      exact crc_set B rf i q c hc hne this.symm
    · rw [List.set_append_right _ _ (by omega)] at e
      obtain ⟨e1, e2⟩ := app4_inj (by rw [List.length_set]; exact sumOf_len _) (sumOf_len _) e
      rw [← e1] at e2
      rw [List.getElem?_append_right (by omega)] at hne
      have hj : i - B.length < (sumOf B).length := by rw [List.length_append] at hi; omega
      apply hne
      rw [← e2, List.getElem?_set_self hj]
      rfl
theorem turned {v t : Int} (hv : 0 ≤ v ∧ v ≤ 255) (ht : 0 ≤ t ∧ t < 255) : ¬ v = (v + (1 + t)) % 256 ∧ 0 ≤ (v + (1 + t)) % 256 ∧ (v + (1 + t)) % 256 ≤ 255 := by omega
theorem zero_cells {w : World} {v : Value} {F G : List Nat} (h : RdFr w v Fr.zero F G) : ∃ cs : Array Value, v = .agg cs ∧ cs.size = 16 ∧ cs.all (·.oneCell') = true ∧ cs[0]? = some (.int .i64 0) ∧ cs[1]? = some (.int .i64 0) := by
  obtain ⟨b, l, c, a1, n1, c1, a2, n2, c2, a3, n3, c3, rfl, _⟩ := h
  exact ⟨_, rfl, rfl, by simp [Value.oneCell'], rfl, rfl⟩
theorem RdB.setAt {w : World} {g len : Nat} {zs : List Int} (h : RdB w (some ⟨g, 0, none⟩) len zs) (j : Nat) (hj : j < len) (c : Int) (hc : 0 ≤ c ∧ c ≤ 255) : RdB (w.setCell ⟨g, j, none⟩ (.int .u8 c)) (some ⟨g, 0, none⟩) len (zs.set j c) := by
  have hl := h.length
  refine ⟨by simp [hl], fun n hn => ?_, ?_⟩
  · rcases List.mem_or_eq_of_mem_set hn with q | q
    · exact h.range n q
    · rw [q]; exact hc
  · rcases h.cells with h0 | ⟨b, off, e, hh⟩
    · omega
    · cases e
      refine .inr ⟨g, 0, rfl, fun i hi => ?_⟩
      have hci := hh i hi
      rw [Nat.zero_add] at hci ⊢
      by_cases hij : i = j
      · subst hij
        rw [World.cell?_setCell_same _ _ _ hci]
        simp [show i < zs.length by omega]
      · rw [World.cell?_setCell_other _ _ _ _ (by intro e; simp only [Addr.mk.injEq] at e; omega), hci]
        simp [Ne.symm hij]
theorem bytes_min10 {x : Fr} (h : x.ok = true) : 11 ≤ x.bytes.length := by
  rw [Fr.bytes_ok h, Fr.body_numbers (Fr.ok_right h), List.length_append, List.length_append, sumOf_len]
  have p := putAll_ge (Fr.right_numbers (Fr.ok_right h))
  have q : 5 ≤ x.numbers.length := by unfold Fr.numbers; rw [List.length_append, List.length_append]; simp only [List.length_cons, List.length_nil]; omega
  simp only [List.length_cons, List.length_nil]
  omega

set_option maxHeartbeats 8000000 in
set_option maxRecDepth 200000 in
theorem walk (a0 : Option Addr) (len0 cap0 : Nat) (z0 : List Int) (w : World) (w0 : IsRow .u8 w a0 len0 cap0 z0) :
    Calls Try.prog 5 #[.slice a0 len0 cap0] w fun e w' => e = .returned (.bool true) ∧ Below w.heap.size w w' := by
  have hR0 := rdOf w0
  have hR := hR0.1
  generalize z0.take len0 = zs at hR
  clear w0 hR0
  have HR : Hid (RdB w a0 len0 zs) := hR
  have HZR : Hid (∀ n ∈ zs, 0 ≤ n ∧ n ≤ 255) := hR.range
  clear hR
  go_enter Try.func5, Try.ntmps5
  go_wp2_with fail
  refine (big_any a0 len0 cap0 _).mono ?_
  rintro e w1 ⟨rfl, hw1⟩
  have hw1' := hw1.symm
  subst hw1'
  clear hw1
  by_cases hbig : 1048576 < len0
  · have hd : decide ((1048576 : Int) < (len0 : Int)) = true := dec_true (by omega)
    rw [hd]
    clear hd
    go_wp2
    go_ret
    exact ⟨rfl, Below.refl _ _⟩
  have hd : decide ((1048576 : Int) < (len0 : Int)) = false := dec_false (by omega)
  have hlen : len0 ≤ 1048576 := by omega
  rw [hd]
  clear hd hbig
  go_wp2_with fail
  refine (drawFrameBytes_any a0 len0 cap0 zs _ HR.out hlen).mono ?_
  rintro e w1 ⟨v1, f, F, G, rfl, rf, wf, mf, b1⟩
  obtain ⟨cs, rfl, hc16, hone⟩ : ∃ cs : Array Value, v1 = .agg cs ∧ cs.size = 16 ∧ cs.all (·.oneCell') = true := by
    obtain ⟨b, l, c, a1, n1, c1, a2, n2, c2, a3, n3, c3, rfl, _⟩ := rf
    exact ⟨_, rfl, rfl, by simp [Value.oneCell']⟩
  have hcs : (Try.prog.info? 51).map (·.size) = some cs.size := by rw [hc16]; exact infoFrD7
  have HW : Hid (f.item.sk.wide ∧ f.taken.length ≤ 20) := ⟨wf, mf⟩
  have HF1 : Hid (RdFr w1 (.agg cs) f F G ∧ Below w.heap.size w w1) := ⟨rf, b1⟩
  clear rf wf mf b1
  go_wp2_with (first | go_skip | (with_reducible refine stopLoad 51 rfl ?_) | (with_reducible refine stopStore 51 rfl ?_))
  refine store_fresh 51 w1.heap.size rfl #[.int .i64 0, .int .i64 0, .int .i64 0, .int .i64 0, .slice none 0 0, .int .i64 0, .int .i64 0, .int .i64 0, .int .i64 0, .int .i64 0, .int .i64 0, .int .i64 0, .int .i64 0, .slice none 0 0, .slice none 0 0, .slice none 0 0] cs 51 rfl rfl rfl rfl hcs (by rw [hc16]; rfl) hone ?_
  intro w2 hg2 hb2
  have HF2 : Hid (RdFr w2 (.agg cs) f F G ∧ Below w.heap.size w w2 ∧ Blk w2 w1.heap.size cs 51) := ⟨HF1.out.1.below hb2, Below.next HF1.out.2 hb2, hg2⟩
  clear hg2 hb2 HF1
  go_wp2_with (first | go_skip | (with_reducible refine stopLoad 51 rfl ?_) | (with_reducible refine stopStore 51 rfl ?_))
  refine load_known 51 w1.heap.size cs 51 _ HF2.out.2.2 rfl rfl rfl Try.underlying51 rfl hcs ?_
  go_wp2_with fail
  refine (frameBytesImpl_any _ f F G _ HF2.out.1 HW.out.1 (by have := HW.out.2; omega)).mono ?_
  rintro e w3 ⟨vb, rfl, ob, b3⟩
  have HF3 : Hid (RdFr w3 (.agg cs) f F G ∧ Below w.heap.size w w3 ∧ Blk w3 w1.heap.size cs 51) := ⟨HF2.out.1.below b3, Below.next HF2.out.2.1 b3, HF2.out.2.2.below b3⟩
  have HB3 : Hid (w3.ownsRow w2.heap.size 5 1 vb f.bytes.length (f.bytes.map (Value.int .u8))) := ob
  have LB : Hid (w.heap.size ≤ w2.heap.size) := HF2.out.2.1.size
  clear ob b3 HF2
  go_wp2_with (first | go_skip | (with_reducible refine stopLoad 51 rfl ?_) | (with_reducible refine stopStore 51 rfl ?_))
  refine load_known 51 w1.heap.size cs 51 _ HF3.out.2.2 rfl rfl rfl Try.underlying51 rfl hcs ?_
  go_wp2_with fail
  refine (frameOkSpec_any _ f F G _ HF3.out.1 HW.out.1 (by have := HW.out.2; omega)).mono ?_
  rintro e w4 ⟨rfl, b4⟩
  have HB4 : Hid (w4.ownsRow w2.heap.size 5 1 vb f.bytes.length (f.bytes.map (Value.int .u8)) ∧ Below w.heap.size w w4) := ⟨ownsRow_below HB3.out b4, Below.next HF3.out.2.1 b4⟩
  clear b4 HB3 HF3
  obtain ⟨d, hd⟩ : ∃ d, d = f.ok := ⟨_, rfl⟩
  rw [← hd]
  cases d
  · have e0 : f.bytes = [] := by unfold Fr.bytes; rw [← hd]; rfl
    rw [e0] at HB4
    have hv : ∃ ab cb, vb = .slice ab 0 cb := by
      rcases HB4.out.1.2 with ⟨q, _⟩ | ⟨g, cap, cur, q, _⟩
      · exact ⟨_, _, q⟩
      · exact ⟨_, _, q⟩
    obtain ⟨ab, cb, rfl⟩ := hv
    clear hd e0
    go_wp2
    go_ret
    exact ⟨rfl, HB4.out.2⟩
  have HOK : Hid (f.ok = true) := hd.symm
  have hmin := bytes_min10 hd.symm
  have hmax := Fr.bytes_len f
  obtain ⟨N, hN⟩ : ∃ N, N = f.bytes.length := ⟨_, rfl⟩
  have HNL : Hid (f.bytes.length = N) := hN.symm
  rw [← hN] at hmin hmax HB4
  obtain ⟨gb, cb, rfl, _⟩ := own_shape7 HB4.out.1 (by omega)
  have h10 : decide ((N : Int) < 10) = false := dec_false (by omega)
  clear hd hN
  obtain ⟨i0, hi, hz0, hz1, hz2⟩ := info_parts Try.info5
  go_wp2
  clear h10
  go_loopw [5] (fun i wr => ∃ k : Nat, k ≤ 5 ∧ i = .int .i64 k ∧ Hid (wr.ownsRow w2.heap.size 5 1 (.slice (some ⟨gb, 0, none⟩) N cb) N (f.bytes.map (Value.int .u8)) ∧ Below w.heap.size w wr)) (fun i _ => 5 - (intOf i).toNat)
  case atStart => exact ⟨0, by omega, rfl, HB4⟩
  case round =>
    clear HB4
    obtain ⟨k, hk, rfl, HB⟩ := hrel
    by_cases hlt : k < 5
    rotate_left
    · obtain rfl : k = 5 := by omega
      go_wp2
      go_ret
      exact ⟨rfl, HB.out.2⟩
    have hI : (k : Int) < 5 := by omega
    have bE : Below wr.heap.size wr (wr.alloc (.cells #[] 5)) := (Below.refl _ _).alloc (Nat.le_refl _) _
    have HBE : Hid ((wr.alloc (.cells #[] 5)).ownsRow w2.heap.size 5 1 (.slice (some ⟨gb, 0, none⟩) N cb) N (f.bytes.map (Value.int .u8)) ∧ Below w.heap.size w (wr.alloc (.cells #[] 5))) := ⟨ownsRow_below HB.out.1 bE, Below.next HB.out.2 bE⟩
    clear bE HB
    go_wp2_with (with_reducible refine stopAppend rfl ?_)
    refine Stop.intro (wpList_append_grows _ rfl _ _ 22 rfl 5 i0 (.int .u8 0) 1 1 Try.underlying22 hi hz0 hz1 hz2 rfl (by decide) (some ⟨wr.heap.size, 0, none⟩) 0 0 [] rfl (by intro h; cases h) (by simp) (fun _ _ j u hj => by simp at hj) ⟨gb, 0, none⟩ N cb (f.bytes.map (Value.int .u8)) rfl (by simp [HNL.out]) (own_news HBE.out.1) (u8_one _) (by omega) (by unfold maxLen; omega) (by omega) ?_)
    intro v5 w5 hown hgrow
    have b5 : Below (wr.alloc (.cells #[] 5)).heap.size (wr.alloc (.cells #[] 5)) w5 := (Below.refl _ _).grown hgrow (Nat.le_refl _) (fun g e => by cases e)
    have hown' : w5.ownsRow (wr.alloc (.cells #[] 5)).heap.size 5 1 v5 N (f.bytes.map (Value.int .u8)) := by simpa using hown
    obtain ⟨gx, cx, rfl, _⟩ := own_shape7 hown' (by omega)
    have HX5 : Hid (w5.ownsRow (wr.alloc (.cells #[] 5)).heap.size 5 1 (.slice (some ⟨gx, 0, none⟩) N cx) N (f.bytes.map (Value.int .u8)) ∧ w5.ownsRow w2.heap.size 5 1 (.slice (some ⟨gb, 0, none⟩) N cb) N (f.bytes.map (Value.int .u8)) ∧ Below w.heap.size w w5 ∧ w.heap.size ≤ gx ∧ gb ≠ gx) := ⟨hown', ownsRow_below HBE.out.1 b5, Below.next HBE.out.2 b5, by have := (hown'.lt gx rfl).1; have := HBE.out.2.size; omega, by have := (hown'.lt gx rfl).1; have := (HBE.out.1.lt gb rfl).2; omega⟩
    clear hown hown' hgrow b5 HBE
    go_wp2_with fail
    refine (at0_any a0 len0 cap0 zs k _ (HR.out.below HX5.out.2.2.1) hlen (by omega)).mono ?_
    rintro e wq ⟨rfl, hwq⟩
    have hwq' := hwq.symm
    subst hwq'
    clear hwq
    have hp := at0F_range zs len0 k HZR.out
    generalize at0F zs len0 k = p at hp ⊢
    go_wp2_with fail
    have e6 : (k : Int) + 6 = ((k + 6 : Nat) : Int) := by omega
    rw [e6]
    refine (at0_any a0 len0 cap0 zs (k + 6) _ (HR.out.below HX5.out.2.2.1) hlen (by omega)).mono ?_
    rintro e wq ⟨rfl, hwq⟩
    have hwq' := hwq.symm
    subst hwq'
    clear hwq e6
    have hr := at0F_range zs len0 (k + 6) HZR.out
    generalize at0F zs len0 (k + 6) = r at hr ⊢
    obtain ⟨j, hj, hjN⟩ : ∃ j : Nat, (p * 256 + r).tmod (N : Int) = (j : Int) ∧ j < N := by
      rw [Int.tmod_eq_emod_of_nonneg (by omega)]
      have h0 := Int.emod_nonneg (p * 256 + r) (show (N : Int) ≠ 0 by omega)
      have h1 := Int.emod_lt_of_pos (p * 256 + r) (show (0 : Int) < N by omega)
      exact ⟨((p * 256 + r) % (N : Int)).toNat, by omega, by omega⟩
    have hN0 : ((N : Int) == 0) = false := by simpa using (by omega : ¬ (N : Int) = 0)
    go_wp2
    clear hN0 hj hp hr
    obtain ⟨vv, hvv⟩ : ∃ v, v = f.bytes[j]?.getD 0 := ⟨_, rfl⟩
    have hjl : j < f.bytes.length := by rw [HNL.out]; exact hjN
    have hvr : 0 ≤ vv ∧ vv ≤ 255 := by rw [hvv]; exact getD_range f.bytes_range j
    have HVV : Hid (vv = f.bytes[j]?.getD 0) := hvv
    have cj : w5.drew.cell? ⟨gx, j, none⟩ = some (.int .u8 vv) := by
      show w5.cell? _ = _
      rw [HX5.out.1.cellAt j (by omega), hvv]
      simp [List.getElem?_eq_getElem hjl]
    have fj : w5.drew.frozen? ⟨gx, j, none⟩ = false := HX5.out.1.frozenAt j
    have hjI : (j : Int) < (N : Int) := by omega
    have ht := at0F_range zs len0 (k + 12) HZR.out
    obtain ⟨t, htt⟩ : ∃ t, t = at0F zs len0 (k + 12) := ⟨_, rfl⟩
    rw [← htt] at ht
    have HTT : Hid (t = at0F zs len0 (k + 12)) := htt
    obtain ⟨t2, ht2⟩ : ∃ t2, t2 = t % 255 := ⟨_, rfl⟩
    have ht2a : 0 ≤ t2 := by omega
    have ht2b : t2 < 255 := by omega
    have htm : t.tmod 255 = t2 := by rw [Int.tmod_eq_emod_of_nonneg ht.1, ht2]
    clear hvv htt ht2
    refine wp_region_held (S := fun _ => True) (by kernel_rfl) ?_
    change wpAnyH _ _ _ _ _ _ _ _ (World.drew _)
    refine takeH (o := ?o1) 0 (.slice (some ⟨gx, 0, none⟩) N cx) ?h1 ?r1
    case h1 => simp only [aT, aZ]; rfl
    refine ⟨_, by simp [Act.put]; rfl, by kernel_rfl, by kernel_rfl, by kernel_rfl, fun _ _ _ h => h, (.inl ⟨rfl, fun W _ => by go_simp⟩), trivial, ?_⟩
    refine takeH (o := ?o2) 1 (.int .i64 (j : Int)) ?h2 ?r2
    case h2 => simp only [aT, aS, aZ]; rfl
    refine ⟨_, by simp [Act.put]; rfl, by kernel_rfl, by kernel_rfl, by kernel_rfl, fun _ _ _ h => h, (.inl ⟨rfl, fun W _ => by go_simp⟩), trivial, ?_⟩
    refine takeH (o := ?o3) 2 (.slice (some ⟨gx, 0, none⟩) N cx) ?h3 ?r3
    case h3 => simp only [aT, aS, aZ]; rfl
    refine ⟨_, by simp [Act.put]; rfl, by kernel_rfl, by kernel_rfl, by kernel_rfl, fun _ _ _ h => h, (.inl ⟨rfl, fun W _ => by go_simp⟩), trivial, ?_⟩
    refine takeH (o := ?o4) 3 (.int .i64 (j : Int)) ?h4 ?r4
    case h4 => simp only [aT, aS, aZ]; rfl
    refine ⟨_, by simp [Act.put]; rfl, by kernel_rfl, by kernel_rfl, by kernel_rfl, fun _ _ _ h => h, (.inl ⟨rfl, fun W _ => by go_simp⟩), trivial, ?_⟩
    refine takeH (o := ?o5) 4 (.pointer (some ⟨gx, j, none⟩)) ?h5 ?r5
    case h5 => simp only [aT, aS, aZ]; rfl
    refine ⟨_, by simp [Act.put]; rfl, by kernel_rfl, by kernel_rfl, by kernel_rfl, fun _ _ _ h => h, (.inl ⟨rfl, fun W _ => by first | (go_simp; done) | (go_simp; intro h; omega)⟩), trivial, ?_⟩
    refine takeH (o := ?o6) 6 (.slice a0 len0 cap0) ?h6 ?r6
    case h6 => simp only [aT, aS, aZ]; rfl
    refine ⟨_, by simp [Act.put]; rfl, by kernel_rfl, by kernel_rfl, by kernel_rfl, fun _ _ _ h => h, (.inl ⟨rfl, fun W _ => by go_simp⟩), trivial, ?_⟩
    refine takeH (o := ?o7) 7 (.int .i64 (k : Int)) ?h7 ?r7
    case h7 => simp only [aT, aS, aZ]; rfl
    refine ⟨_, by simp [Act.put]; rfl, by kernel_rfl, by kernel_rfl, by kernel_rfl, fun _ _ _ h => h, (.inl ⟨rfl, fun W _ => by go_simp⟩), trivial, ?_⟩
    refine takeH (o := ?o8) 8 (.int .i64 ((k + 12 : Nat) : Int)) ?h8 ?r8
    case h8 => simp only [aT, aS, aZ]; rfl
    refine ⟨_, by simp [Act.put]; rfl, by kernel_rfl, by kernel_rfl, by kernel_rfl, fun _ _ _ h => h, (.inl ⟨rfl, fun W _ => by first | (go_simp; done) | (go_simp; rfl) | (go_simp; (rw [wrapD (by omega) (by omega)]; rfl)) | (go_simp; (rw [wrapD (by omega) (by omega)]; omega)) | (go_simp; omega) | (go_simp; (simp [IntKind.wrap, IntKind.bits, IntKind.signed]; omega))⟩), trivial, ?_⟩
    refine twoH (o := ?o9) (o' := ?p9) 5 9 (by kernel_rfl) ?h9 ?g9 ?r9 ?s9
    case h9 => simp only [aT, aS, aZ]; rfl
    case g9 => simp only [aT, aS, aZ]; rfl
    case r9 =>
      intro K hK
      refine op_value (.int .u8 vv) rfl (by go_simp) ⟨_, by simp [Act.put]; rfl, hK _ _ ⟨trivial, ?_⟩⟩
      clear hK
      refine onlyH (o := ?o10) 9 (by kernel_rfl) ?h10 ?r10
      case h10 => simp only [aT, aS, aZ]; rfl
      intro K hK
      refine op_call2 27 _ _ _ Try.f27 (fun w' => w' = w5.drew) (.int .i64 t) rfl rfl Try.func27 (by kernel_rfl) (by kernel_rfl) (by have q := at0_any a0 len0 cap0 zs (k + 12) w5.drew ((HR.out.below HX5.out.2.2.1).below (Below.refl _ _).drew) hlen (by omega); rw [← HTT.out] at q; exact q) ⟨_, by simp [Act.put]; rfl, ?_⟩
      intro W9 hW9
      rw [hW9]
      refine hK _ _ ⟨trivial, ?_⟩
      clear hK hW9 W9
      refine takeH (o := ?o11) 10 (.int .i64 t2) ?h11 ?r11
      case h11 => simp only [aT, aS, aZ]; rfl
      refine ⟨_, by simp [Act.put]; rfl, by kernel_rfl, by kernel_rfl, by kernel_rfl, fun _ _ _ h => h, (.inl ⟨rfl, fun W _ => by first | (go_simp; done) | (go_simp; exact htm)⟩), trivial, ?_⟩
      refine takeH (o := ?o12) 11 (.int .i64 (1 + t2)) ?h12 ?r12
      case h12 => simp only [aT, aS, aZ]; rfl
      refine ⟨_, by simp [Act.put]; rfl, by kernel_rfl, by kernel_rfl, by kernel_rfl, fun _ _ _ h => h, (.inl ⟨rfl, fun W _ => by first | (go_simp; done) | (go_simp; exact wrapD (by omega) (by omega))⟩), trivial, ?_⟩
      refine takeH (o := ?o13) 12 (.int .u8 (1 + t2)) ?h13 ?r13
      case h13 => simp only [aT, aS, aZ]; rfl
      refine ⟨_, by simp [Act.put]; rfl, by kernel_rfl, by kernel_rfl, by kernel_rfl, fun _ _ _ h => h, (.inl ⟨rfl, fun W _ => by first | (go_simp; done) | (go_simp; simp [IntKind.wrap, IntKind.bits, IntKind.signed]; done) | (go_simp; omega) | (go_simp; (simp [IntKind.wrap, IntKind.bits, IntKind.signed]; omega))⟩), trivial, ?_⟩
      refine takeH (o := ?o14) 13 (.int .u8 ((vv + (1 + t2)) % 256)) ?h14 ?r14
      case h14 => simp only [aT, aS, aZ]; rfl
      refine ⟨_, by simp [Act.put]; rfl, by kernel_rfl, by kernel_rfl, by kernel_rfl, fun _ _ _ h => h, (.inl ⟨rfl, fun W _ => by first | (go_simp; done) | (go_simp; simp [IntKind.wrap, IntKind.bits, IntKind.signed]; done) | (go_simp; omega) | (go_simp; (simp [IntKind.wrap, IntKind.bits, IntKind.signed]; omega))⟩), trivial, ?_⟩
      refine takeH (o := ?o15) 14 (.pointer (some ⟨gx, j, none⟩)) ?h15 ?r15
      case h15 => simp only [aT, aS, aZ]; rfl
      refine ⟨_, by simp [Act.put]; rfl, by kernel_rfl, by kernel_rfl, by kernel_rfl, fun _ _ _ h => h, (.inl ⟨rfl, fun W _ => by first | (go_simp; done) | (go_simp; intro h; omega)⟩), trivial, ?_⟩
      refine onlyH (o := ?o16) 15 (by kernel_rfl) ?h16 ?r16
      case h16 => simp only [aT, aS, aZ]; rfl
      intro K hK
      refine op_skip (w5.drew.setCell ⟨gx, j, none⟩ (.int .u8 ((vv + (1 + t2)) % 256))) rfl (by go_simp) ⟨_, by simp [Act.put]; rfl, hK _ _ ⟨trivial, ?_⟩⟩
      clear hK
      refine wpAnyH_done (by kernel_rfl) ?_ _
      have tn := turned hvr ⟨ht2a, ht2b⟩
      obtain ⟨c, hcc⟩ : ∃ c, c = (vv + (1 + t2)) % 256 := ⟨_, rfl⟩
      rw [← hcc] at tn ⊢
      have hcapx : N ≤ cx := by
        rcases HX5.out.1.2 with ⟨q, _⟩ | ⟨g', cap', cur', q, _, _, q2, _⟩
        · cases q
        · cases q; exact q2
      have HW6 : Hid (RdB (w5.drew.setCell ⟨gx, j, none⟩ (.int .u8 c)) (some ⟨gx, 0, none⟩) N (f.bytes.set j c) ∧ (w5.drew.setCell ⟨gx, j, none⟩ (.int .u8 c)).ownsRow w2.heap.size 5 1 (.slice (some ⟨gb, 0, none⟩) N cb) N (f.bytes.map (Value.int .u8)) ∧ Below w.heap.size w (w5.drew.setCell ⟨gx, j, none⟩ (.int .u8 c)) ∧ ∀ g d, FrIs (f.bytes.set j c) g d → d = false ∧ g = Fr.zero) := by
        have r5 : RdB w5.drew (some ⟨gx, 0, none⟩) N f.bytes := (RdB.of_own HX5.out.1 f.bytes_range).below (Below.refl _ _).drew
        refine ⟨RdB.setAt r5 j hjN c tn.2, ?_, HX5.out.2.2.1.drew.setCell (by show w.heap.size ≤ gx; exact HX5.out.2.2.2.1) _, fun g d q => spoilt HOK.out hjl tn.2 (by rw [← HVV.out]; exact tn.1) q⟩
        exact ownsRow_setCell_other (w := w5.drew) HX5.out.2.1 (by intro q; simp [Value.ownBlock] at q; exact HX5.out.2.2.2.2 q) _
      obtain ⟨W6, hW6⟩ : ∃ W, W = w5.drew.setCell ⟨gx, j, none⟩ (.int .u8 c) := ⟨_, rfl⟩
      rw [← hW6] at HW6 ⊢
      clear hW6 HX5 cj fj tn hcc hvr htm ht2a ht2b hjI hjl ht
      go_wp2_with fail
      refine (frameOfImpl_any (some ⟨gx, 0, none⟩) N cx (f.bytes.set j c) _ HW6.out.1 (by omega) hcapx (by intro h; cases h)).mono ?_
      rintro e w7 ⟨v7, g, d7, F7, G7, rfl, rf7, _, _, _, b7, hIs⟩
      obtain ⟨ed, eg⟩ := HW6.out.2.2.2 g d7 hIs
      subst ed
      subst eg
      obtain ⟨c7, rfl, s7, o7, q0, q1⟩ := zero_cells rf7
      have h7s : (Try.prog.info? 51).map (·.size) = some c7.size := by rw [s7]; exact infoFrD7
      have HB7 : Hid (w7.ownsRow w2.heap.size 5 1 (.slice (some ⟨gb, 0, none⟩) N cb) N (f.bytes.map (Value.int .u8)) ∧ Below w.heap.size w w7) := ⟨ownsRow_below HW6.out.2.1 b7, Below.next HW6.out.2.2.1 b7⟩
      clear rf7 b7 hIs HW6
      go_wp2_with (first | go_skip | (with_reducible refine stopLoad 51 rfl ?_) | (with_reducible refine stopStore 51 rfl ?_))
      refine store_fresh 51 w7.heap.size rfl #[.int .i64 0, .int .i64 0, .int .i64 0, .int .i64 0, .slice none 0 0, .int .i64 0, .int .i64 0, .int .i64 0, .int .i64 0, .int .i64 0, .int .i64 0, .int .i64 0, .int .i64 0, .slice none 0 0, .slice none 0 0, .slice none 0 0] c7 51 rfl rfl rfl rfl h7s (by rw [s7]; rfl) o7 ?_
      intro w8 hg8 hb8
      have HB8 : Hid (w8.ownsRow w2.heap.size 5 1 (.slice (some ⟨gb, 0, none⟩) N cb) N (f.bytes.map (Value.int .u8)) ∧ Below w.heap.size w w8) := ⟨ownsRow_below HB7.out.1 hb8, Below.next HB7.out.2 hb8⟩
      have k0 : w8.cell? ⟨w7.heap.size, 0, none⟩ = some (.int .i64 0) := (hg8.cell 0).trans q0
      have k1 : w8.cell? ⟨w7.heap.size, 1, none⟩ = some (.int .i64 0) := (hg8.cell 1).trans q1
      clear hg8 hb8 HB7
      go_wp2
      go_roundw
      case rel => exact ⟨k + 1, by omega, by go_num, HB8⟩
      case measure => simp [intOf]; omega
    case s9 =>
      intro K hK
      refine op_call2 27 _ _ _ Try.f27 (fun w' => w' = w5.drew) (.int .i64 t) rfl rfl Try.func27 (by kernel_rfl) (by kernel_rfl) (by have q := at0_any a0 len0 cap0 zs (k + 12) w5.drew ((HR.out.below HX5.out.2.2.1).below (Below.refl _ _).drew) hlen (by omega); rw [← HTT.out] at q; exact q) ⟨_, by simp [Act.put]; rfl, ?_⟩
      intro W9 hW9
      rw [hW9]
      refine hK _ _ ⟨trivial, ?_⟩
      clear hK hW9 W9
      refine takeH (o := ?o17) 10 (.int .i64 t2) ?h17 ?r17
      case h17 => simp only [aT, aS, aZ]; rfl
      refine ⟨_, by simp [Act.put]; rfl, by kernel_rfl, by kernel_rfl, by kernel_rfl, fun _ _ _ h => h, (.inl ⟨rfl, fun W _ => by first | (go_simp; done) | (go_simp; exact htm)⟩), trivial, ?_⟩
      refine takeH (o := ?o18) 11 (.int .i64 (1 + t2)) ?h18 ?r18
      case h18 => simp only [aT, aS, aZ]; rfl
      refine ⟨_, by simp [Act.put]; rfl, by kernel_rfl, by kernel_rfl, by kernel_rfl, fun _ _ _ h => h, (.inl ⟨rfl, fun W _ => by first | (go_simp; done) | (go_simp; exact wrapD (by omega) (by omega))⟩), trivial, ?_⟩
      refine takeH (o := ?o19) 12 (.int .u8 (1 + t2)) ?h19 ?r19
      case h19 => simp only [aT, aS, aZ]; rfl
      refine ⟨_, by simp [Act.put]; rfl, by kernel_rfl, by kernel_rfl, by kernel_rfl, fun _ _ _ h => h, (.inl ⟨rfl, fun W _ => by first | (go_simp; done) | (go_simp; simp [IntKind.wrap, IntKind.bits, IntKind.signed]; done) | (go_simp; omega) | (go_simp; (simp [IntKind.wrap, IntKind.bits, IntKind.signed]; omega))⟩), trivial, ?_⟩
      refine onlyH (o := ?o20) 5 (by kernel_rfl) ?h20 ?r20
      case h20 => simp only [aT, aS, aZ]; rfl
      intro K hK
      refine op_value (.int .u8 vv) rfl (by go_simp) ⟨_, by simp [Act.put]; rfl, hK _ _ ⟨trivial, ?_⟩⟩
      clear hK
      refine takeH (o := ?o21) 13 (.int .u8 ((vv + (1 + t2)) % 256)) ?h21 ?r21
      case h21 => simp only [aT, aS, aZ]; rfl
      refine ⟨_, by simp [Act.put]; rfl, by kernel_rfl, by kernel_rfl, by kernel_rfl, fun _ _ _ h => h, (.inl ⟨rfl, fun W _ => by first | (go_simp; done) | (go_simp; simp [IntKind.wrap, IntKind.bits, IntKind.signed]; done) | (go_simp; omega) | (go_simp; (simp [IntKind.wrap, IntKind.bits, IntKind.signed]; omega))⟩), trivial, ?_⟩
      refine takeH (o := ?o22) 14 (.pointer (some ⟨gx, j, none⟩)) ?h22 ?r22
      case h22 => simp only [aT, aS, aZ]; rfl
      refine ⟨_, by simp [Act.put]; rfl, by kernel_rfl, by kernel_rfl, by kernel_rfl, fun _ _ _ h => h, (.inl ⟨rfl, fun W _ => by first | (go_simp; done) | (go_simp; intro h; omega)⟩), trivial, ?_⟩
      refine onlyH (o := ?o23) 15 (by kernel_rfl) ?h23 ?r23
      case h23 => simp only [aT, aS, aZ]; rfl
      intro K hK
      refine op_skip (w5.drew.setCell ⟨gx, j, none⟩ (.int .u8 ((vv + (1 + t2)) % 256))) rfl (by go_simp) ⟨_, by simp [Act.put]; rfl, hK _ _ ⟨trivial, ?_⟩⟩
      clear hK
      refine wpAnyH_done (by kernel_rfl) ?_ _
      have tn := turned hvr ⟨ht2a, ht2b⟩
      obtain ⟨c, hcc⟩ : ∃ c, c = (vv + (1 + t2)) % 256 := ⟨_, rfl⟩
      rw [← hcc] at tn ⊢
      have hcapx : N ≤ cx := by
        rcases HX5.out.1.2 with ⟨q, _⟩ | ⟨g', cap', cur', q, _, _, q2, _⟩
        · cases q
        · cases q; exact q2
      have HW6 : Hid (RdB (w5.drew.setCell ⟨gx, j, none⟩ (.int .u8 c)) (some ⟨gx, 0, none⟩) N (f.bytes.set j c) ∧ (w5.drew.setCell ⟨gx, j, none⟩ (.int .u8 c)).ownsRow w2.heap.size 5 1 (.slice (some ⟨gb, 0, none⟩) N cb) N (f.bytes.map (Value.int .u8)) ∧ Below w.heap.size w (w5.drew.setCell ⟨gx, j, none⟩ (.int .u8 c)) ∧ ∀ g d, FrIs (f.bytes.set j c) g d → d = false ∧ g = Fr.zero) := by
        have r5 : RdB w5.drew (some ⟨gx, 0, none⟩) N f.bytes := (RdB.of_own HX5.out.1 f.bytes_range).below (Below.refl _ _).drew
        refine ⟨RdB.setAt r5 j hjN c tn.2, ?_, HX5.out.2.2.1.drew.setCell (by show w.heap.size ≤ gx; exact HX5.out.2.2.2.1) _, fun g d q => spoilt HOK.out hjl tn.2 (by rw [← HVV.out]; exact tn.1) q⟩
        exact ownsRow_setCell_other (w := w5.drew) HX5.out.2.1 (by intro q; simp [Value.ownBlock] at q; exact HX5.out.2.2.2.2 q) _
      obtain ⟨W6, hW6⟩ : ∃ W, W = w5.drew.setCell ⟨gx, j, none⟩ (.int .u8 c) := ⟨_, rfl⟩
      rw [← hW6] at HW6 ⊢
      clear hW6 HX5 cj fj tn hcc hvr htm ht2a ht2b hjI hjl ht
      go_wp2_with fail
      refine (frameOfImpl_any (some ⟨gx, 0, none⟩) N cx (f.bytes.set j c) _ HW6.out.1 (by omega) hcapx (by intro h; cases h)).mono ?_
      rintro e w7 ⟨v7, g, d7, F7, G7, rfl, rf7, _, _, _, b7, hIs⟩
      obtain ⟨ed, eg⟩ := HW6.out.2.2.2 g d7 hIs
      subst ed
      subst eg
      obtain ⟨c7, rfl, s7, o7, q0, q1⟩ := zero_cells rf7
      have h7s : (Try.prog.info? 51).map (·.size) = some c7.size := by rw [s7]; exact infoFrD7
      have HB7 : Hid (w7.ownsRow w2.heap.size 5 1 (.slice (some ⟨gb, 0, none⟩) N cb) N (f.bytes.map (Value.int .u8)) ∧ Below w.heap.size w w7) := ⟨ownsRow_below HW6.out.2.1 b7, Below.next HW6.out.2.2.1 b7⟩
      clear rf7 b7 hIs HW6
      go_wp2_with (first | go_skip | (with_reducible refine stopLoad 51 rfl ?_) | (with_reducible refine stopStore 51 rfl ?_))
      refine store_fresh 51 w7.heap.size rfl #[.int .i64 0, .int .i64 0, .int .i64 0, .int .i64 0, .slice none 0 0, .int .i64 0, .int .i64 0, .int .i64 0, .int .i64 0, .int .i64 0, .int .i64 0, .int .i64 0, .int .i64 0, .slice none 0 0, .slice none 0 0, .slice none 0 0] c7 51 rfl rfl rfl rfl h7s (by rw [s7]; rfl) o7 ?_
      intro w8 hg8 hb8
      have HB8 : Hid (w8.ownsRow w2.heap.size 5 1 (.slice (some ⟨gb, 0, none⟩) N cb) N (f.bytes.map (Value.int .u8)) ∧ Below w.heap.size w w8) := ⟨ownsRow_below HB7.out.1 hb8, Below.next HB7.out.2 hb8⟩
      have k0 : w8.cell? ⟨w7.heap.size, 0, none⟩ = some (.int .i64 0) := (hg8.cell 0).trans q0
      have k1 : w8.cell? ⟨w7.heap.size, 1, none⟩ = some (.int .i64 0) := (hg8.cell 1).trans q1
      clear hg8 hb8 HB7
      go_wp2
      go_roundw
      case rel => exact ⟨k + 1, by omega, by go_num, HB8⟩
      case measure => simp [intOf]; omega

set_option maxRecDepth 100000 in
theorem lifted (os : Os) (started : os.Started) (H : Type) (enc : TypeId × Value → H) :
    ReturnsInHanded {} Try.checked os 5 .any (Rows.fnSpoiltSpec.pre6 enc Try.prog Try.f5 Rows.fnSpoiltRow.domain false) (Rows.fnSpoiltSpec.post enc Try.prog Try.f5 false true false false) := by
  refine returnsInHanded_of_change (C := Try.checked) own started (by kernel_rfl) Try.func5
    (ChangeSpec.witness6 (enc := enc) (C := Try.checked) false ⟨#[], #[.slice none 0 0], []⟩ 8 (by kernel_rfl) (by kernel_rfl) (by kernel_rfl) (by kernel_rfl)) ?_
  intro W base args ds gs before hval0 hW hcnd _
  have hval : ∀ (j : Nat) t v, Try.f5.params[j]? = some t → args[j]? = some v → Value.okWide Try.prog W .any base t v := hval0
  have hW' := hW
  obtain ⟨p, q, hA0, hV, rfl, hfz, hnd⟩ := hW
  have hA : DataW.TrodAll enc Try.prog W 0 (fun _ => true) true Try.f5.params.toList args.toList ds p := hA0
  rw [Try.params5] at hA hval
  obtain ⟨v0, vs0, d0, ds0, p0, q0, hargs, rfl, rfl, h0, r0⟩ := trodAll_cons hA
  obtain ⟨rfl, rfl, rfl⟩ := trodAll_nil r0
  obtain rfl : args = #[v0] := by cases args; simp_all
  obtain ⟨rfl, rfl⟩ := trodVars_none hV
  obtain ⟨a0, len0, cap0, rfl⟩ := okWide_slice Try.underlying22 (hval 0 22 v0 rfl rfl)
  have k0 := h0
  have lt0 : ∀ x ∈ p0, x.block < W.heap.size := by obtain ⟨m, hm⟩ := k0; exact DataW.trod_lt m _ _ _ hm
  obtain ⟨z0, w0⟩ : ∃ zs, IsRow .u8 W a0 len0 cap0 zs := by
    obtain ⟨fuel, hf⟩ := h0
    rcases open_ints Try.underlying22 Try.underlying5 (by kernel_rfl) hf with ⟨hcs, _⟩ | ⟨x, l, c, zs, hcs, _, hl, hm, hz, _, hcell, hwz⟩
    · simp [Value.cells] at hcs
      obtain ⟨rfl, rfl, rfl⟩ := hcs
      exact ⟨[], .inl ⟨rfl, rfl, rfl, rfl⟩⟩
    · simp [Value.cells] at hcs
      obtain ⟨rfl, rfl, rfl⟩ := hcs
      exact ⟨zs, .inr ⟨_, rfl, hl, hm, by simpa using hz, hcell, hwz⟩⟩
  clear hA0 hval0
  refine (walk a0 len0 cap0 z0 W w0).mono fun e W' ⟨he, bel⟩ => ?_
  subst he
  exact ⟨_, rfl, _, _, _, [], _, [], hW', trodAll_mk1 (shut_bool Try.underlying4 _), (trodAll_cons_mk (Below.trod laidOut (by kernel_rfl) (of_decide_eq_true (by kernel_rfl)) k0 bel lt0) trodAll_mk0), rfl, bel.frame _, fun h => by cases h⟩

theorem over : Rows.fnSpoiltRow.holds Try.pinned (OpenSpec.ofChange Rows.fnSpoiltSpec) :=
  OpenClaim.holds_of_wide 5 Try.f5 rfl rfl rfl rfl rfl rfl rfl ⟨rfl, rfl, rfl, rfl, rfl⟩ rfl rfl rfl rfl rfl (by kernel_rfl) Try.func5 (by kernel_rfl)
    (of_decide_eq_true (by kernel_rfl)) (by unfold Func.isWrapper; first | (rw [if_pos (by decide +kernel)]; kernel_rfl) | (rw [if_neg (by decide +kernel)]; exact ⟨rfl, rfl⟩))
    (fun os started H enc _ => lifted os started H enc)

theorem proved : Rows.FnSpoiltSaid := over
#print axioms proved
end Go.Proofs.Ytjndcfamfminkab.fnSpoilt
