/- Several texts of mine, laid together. No statement of the seat is proved here. -/
import Derived.Test.YtjnamoppcklomaaGreatB3
import Derived.Shelf.SlGeneric
import Derived.Shelf.SlSortCmp.WholeK
import Derived.Shelf.SlSortCmp.NoneTotal
import Derived.Ground.SlsfProg
import Derived.Shelf.Small.Bits
import Derived.Shelf.Small.Wraps
import Derived.Shelf.Strconv.Itoa0
import Derived.Test.YtjnamoppcklomaaGreatProg
import Derived.Test.YtjnamoppcklomaaGreatWhole
import Derived.OrdersHeld
import Derived.Test.YtjnamoppcklomaaGreatLst
import Derived.Test.YtjnamoppcklomaaGreatB1
import Derived.Test.YtjnamoppcklomaaGreatB2
import Derived.Test.YtjnamoppcklomaaGreatItLaw
/- The model's l10Into. No statement of the seat is proved here. -/
namespace Go.Proofs.YtjnamoppcklomaaGreat
open Go.RowKit
/-- Where the first greater one stands, as far as it was looked from the end. -/
def atFrom (M : List En) (e : En) (k : Nat) : Nat := k + (M.drop k).findIdx fun x => placeLt e x
theorem atFrom_end {M : List En} {e : En} : atFrom M e M.length = M.length := by unfold atFrom; rw [List.drop_of_length_le (Nat.le_refl _)]; rfl
theorem atFrom_zero {M : List En} {e : En} : atFrom M e 0 = insAt M e := by unfold atFrom insAt; rw [List.drop_zero, Nat.zero_add]
theorem atFrom_step {M : List En} {e y : En} {k : Nat} (hy : M[k]? = some y) : atFrom M e k = if placeLt e y = true then k else atFrom M e (k + 1) := by
  obtain ⟨hk, hy⟩ := List.getElem?_eq_some_iff.1 hy
  unfold atFrom
  rw [List.drop_eq_getElem_cons hk, hy, List.findIdx_cons]
  cases placeLt e y
  · show k + ((M.drop (k + 1)).findIdx _ + 1) = k + 1 + _; omega
  · rfl
theorem atFrom_le {M : List En} {e : En} {k : Nat} (hk : k ≤ M.length) : atFrom M e k ≤ M.length := by
  unfold atFrom
  have := List.findIdx_le_length (xs := M.drop k) (p := fun x => placeLt e x)
  rw [List.length_drop] at this
  omega
set_option maxRecDepth 200000 in
set_option maxHeartbeats 16000000 in
theorem l10Into_any (M : List En) (lo n kc : Nat) (a : Option Addr) (vs : List Value) (GG : List Nat) (u : Value) (e : En) (G : List Nat) (w : World) (h : GrowL enK 33 M lo n (.slice a n kc) vs GG w) (hn : M.length = n) (ha : Asc M) (k : RdE w u e G) (hM : ∀ y ∈ M, y.ok = true ∧ y.ids.length ≤ 1048576) (he : e.ok = true) (hf : e.fits) (hn24 : n ≤ 1048576) :
    Calls Tryz.prog 47 #[.slice a n kc, u] w fun r w' => ∃ q kc' vs' GG', r = .returned (.slice q (insL M e).length kc') ∧ GrowL enK 33 (insL M e) lo (insL M e).length (.slice q (insL M e).length kc') vs' GG' w' ∧ Below lo w w' := by
  obtain ⟨j0, hj, hy0, hy1, hy2⟩ := info_parts infoEnG
  obtain ⟨es, rfl, hes, hes1⟩ := RdE.cells k
  have HH : Hid (RdE w (.agg es) e G ∧ e.ok = true ∧ e.fits ∧ e.ids.length ≤ 1048576 ∧ (∀ y ∈ M, y.ok = true ∧ y.ids.length ≤ 1048576) ∧ Asc M ∧ M.length = n ∧ lo ≤ w.heap.size) := ⟨k, he, hf, hf.2, hM, ha, hn, h.lw⟩
  obtain ⟨G1, G2, _, p0, l0, c0, _, _, _, _, _, _, _, _, _, ev, _⟩ := k
  have HE : Hid (es.size = 10 ∧ es.all (·.oneCell') = true ∧ es[0]? = some (.int .i64 e.key) ∧ es[1]? = some (.int .i64 e.window)) := by
    injection ev with ev
    exact ⟨hes, hes1, by rw [ev]; rfl, by rw [ev]; rfl⟩
  have HL : Hid (∀ b, (Value.slice a n kc).ownBlock = some b → b < w.heap.size) := h.lts.2.1
  have bl : Below w.heap.size w (w.alloc (.cells es 33)) := Below.allocW _ (Below.refl _ _) (Nat.le_refl _)
  have HG : Hid (GrowL enK 33 M lo n (.slice a n kc) vs GG (w.alloc (.cells es 33)) ∧ Blk (w.alloc (.cells es 33)) w.heap.size es 33 ∧ Below w.heap.size w (w.alloc (.cells es 33))) := ⟨h.below bl, Blk.made _ _ _, bl⟩
  clear h hn ha hM he hf hes hes1 ev bl
  go_enter Tryz.func47, Tryz.ntmps47
  go_wp2
  go_loopw [5, 6] (fun c i wr => ∃ k : Nat, k ≤ n ∧ c = .int .i64 (atFrom M e k) ∧ i = .int .i64 ((k : Int) - 1) ∧ Hid (∀ z ∈ M.drop k, samePlace z e = false) ∧ Hid (GrowL enK 33 M lo n (.slice a n kc) vs GG wr ∧ Blk wr w.heap.size es 33 ∧ Below w.heap.size w wr)) (fun _ i _ => (intOf i + 1).toNat)
  case atStart => exact ⟨n, Nat.le_refl _, by rw [← HH.out.2.2.2.2.2.2.1, atFrom_end], by go_num, (show ∀ z ∈ M.drop n, _ by rw [← HH.out.2.2.2.2.2.2.1, List.drop_of_length_le (Nat.le_refl _)]; simp), HG⟩
  case round =>
    clear HG
    obtain ⟨k, hk, rfl, rfl, HT, HG⟩ := hrel
    rcases k with _ | k
    · rw [atFrom_zero]
      have HNO : Hid (hitAt M e = none) := hitAt_none (by have := HT.out; rw [List.drop_zero] at this; exact this)
      obtain ⟨c, hc⟩ : ∃ c, c = insAt M e := ⟨_, rfl⟩
      rw [← hc]
      have hcn : c ≤ n := by rw [hc, ← atFrom_zero, ← HH.out.2.2.2.2.2.2.1]; exact atFrom_le (Nat.zero_le _)
      have HV : Hid (insL M e = M.take c ++ e :: M.drop c) := by rw [hc]; exact insL_none HNO.out
      clear hc HT
      have hI : ¬ (0 : Int) ≤ ((0 : Nat) : Int) - 1 := by omega
      have hrow := HG.out.1.row.2
      have hl9 : vs.length = n * 10 := HG.out.1.row.1
      have HONE : Hid (∀ u ∈ vs, u.oneCell' = true) := by
        have rd := HG.out.1.rd
        exact rdC_one rd
      have HVS : Hid ((vs.take (c * 10)).length = c * 10 ∧ (∀ u ∈ vs.take (c * 10), u.oneCell' = true) ∧ vs.length = n * 10) := ⟨by rw [List.length_take]; omega, fun u hu => HONE.out u (List.mem_of_mem_take hu), hl9⟩
      have HLA : Hid ((M.take c).length = c) := by show _ = _; rw [List.length_take, HH.out.2.2.2.2.2.2.1]; omega
      have HLB : Hid ((M.take c ++ [e]).length = c + 1) := by show _ = _; rw [List.length_append, HLA.out]; rfl
      have HLC : Hid ((M.drop c).length = n - c) := by show _ = _; rw [List.length_drop, HH.out.2.2.2.2.2.2.1]
      clear hl9
      rcases hrow with ⟨h0, h1⟩ | ⟨g, cap, cur, h1, h2, h3, h4, h5, h6, h7⟩
      · injection h0 with e1 e2 e3
        subst e1 e2 e3
        obtain rfl : c = 0 := by omega
        clear h1
        have HCA : Hid (0 < 0 → ∃ b off, (none : Option Addr) = some ⟨b, off, none⟩ ∧ ∀ j, j < (vs.take (0 * 10)).length → (wr.alloc (.cells #[] 33)).cell? ⟨b, off + j, none⟩ = (vs.take (0 * 10))[j]?) := fun h9 => absurd h9 (by omega)
        go_wp2_with (with_reducible refine stopAppend rfl ?_)
        refine Stop.intro (wpList_chunk rfl _ _ 24 rfl lo 33 j0 (.agg #[.int .i64 0, .int .i64 0, .slice none 0 0, .int .i64 0, .int .i64 0, .int .i64 0, .int .i64 0, .slice none 0 0, .slice none 0 0, .slice none 0 0]) 10 144 Tryz.underlying24 hj hy0 hy1 hy2 rfl (by decide) (.slice (some ⟨wr.heap.size, 0, none⟩) 0 0) (0) ([]) rfl (World.ownsRow_made wr #[] 0 HG.out.1.lw (Nat.zero_le _) (by simp)) (none) (0) (0) (vs.take (0 * 10)) rfl HVS.out.1 HCA.out HVS.out.2.1 (by unfold maxLen; omega) (by omega) (by have := HG.out.1.lw; simp; omega) ?_)
        intro v1 w1 hown1 hgrow1 hat1
        obtain ⟨F1, F2, _, f1, f2, f3, f4, f5, f6, f7⟩ := HG.out.1.first HH.out.2.2.2.2.2.2.1 hcn hown1 hgrow1 hat1
        have H1 : Hid (GrowL enK 33 (M.take 0) lo 0 v1 (vs.take (0 * 10)) F1 w1 ∧ RdC enK w1 (M.drop 0) (vs.drop (0 * 10)) F2 ∧ Own lo w1 F2 ∧ (∀ b ∈ F1, b ∉ F2) ∧ (∀ b ∈ F2, b < wr.heap.size) ∧ (∀ b, v1.ownBlock = some b → wr.heap.size ≤ b) ∧ Below wr.heap.size wr w1 ∧ Below w.heap.size w w1 ∧ Blk w1 w.heap.size es 33) := ⟨f1, f2, f3, f4, f5, f6, f7, Below.next HG.out.2.2 f7, HG.out.2.1.below f7⟩
        clear hown1 hgrow1 hat1 f1 f2 f3 f4 f5 f6 f7
        go_wp2_with (first | go_skip | (with_reducible refine stopLoad 33 rfl ?_))
        refine load_any 33 w.heap.size es 33 _ H1.out.2.2.2.2.2.2.2.2 rfl rfl rfl Tryz.underlying33 rfl (enSize HE.out.1) ?_
        go_wp2_with fail
        refine (l6Copy_en (.agg es) e G w1 (HH.out.1.below H1.out.2.2.2.2.2.2.2.1) HH.out.2.2.1).mono ?_
        rintro r w2 ⟨vr, Fr, rfl, rr, ro, rb⟩
        have rr9 := rr
        obtain ⟨_, _, _, p9, l9, k9, q1, m1, r1, q2, m2, r2, q3, m3, r3, rfl, _⟩ := rr9
        have hd11 : (#[.int .i64 e.key, .int .i64 e.window, .slice p9 l9 k9, .int .i64 e.sk.count, .int .i64 e.sk.sum, .int .i64 e.sk.min, .int .i64 e.sk.max, .slice q1 m1 r1, .slice q2 m2 r2, .slice q3 m3 r3] : Array Value).size = 10 := rfl
        have hd1 : (#[.int .i64 e.key, .int .i64 e.window, .slice p9 l9 k9, .int .i64 e.sk.count, .int .i64 e.sk.sum, .int .i64 e.sk.min, .int .i64 e.sk.max, .slice q1 m1 r1, .slice q2 m2 r2, .slice q3 m3 r3] : Array Value).all (·.oneCell') = true := by simp [Value.oneCell']
        have H2 : Hid (RdE w2 (.agg #[.int .i64 e.key, .int .i64 e.window, .slice p9 l9 k9, .int .i64 e.sk.count, .int .i64 e.sk.sum, .int .i64 e.sk.min, .int .i64 e.sk.max, .slice q1 m1 r1, .slice q2 m2 r2, .slice q3 m3 r3]) e Fr ∧ Own w1.heap.size w2 Fr ∧ Below w1.heap.size w1 w2 ∧ (#[.int .i64 e.key, .int .i64 e.window, .slice p9 l9 k9, .int .i64 e.sk.count, .int .i64 e.sk.sum, .int .i64 e.sk.min, .int .i64 e.sk.max, .slice q1 m1 r1, .slice q2 m2 r2, .slice q3 m3 r3] : Array Value).size = 10 ∧ (#[.int .i64 e.key, .int .i64 e.window, .slice p9 l9 k9, .int .i64 e.sk.count, .int .i64 e.sk.sum, .int .i64 e.sk.min, .int .i64 e.sk.max, .slice q1 m1 r1, .slice q2 m2 r2, .slice q3 m3 r3] : Array Value).all (·.oneCell') = true) := ⟨rr, ro, rb, hd11, hd1⟩
        clear rr ro rb hd11 hd1
        go_wp2_with (first | go_skip | (with_reducible refine stopAppend rfl ?_))
        have bl2 : Below w1.heap.size w1 (w2.alloc (.cells #[.int .i64 e.key, .int .i64 e.window, .slice p9 l9 k9, .int .i64 e.sk.count, .int .i64 e.sk.sum, .int .i64 e.sk.min, .int .i64 e.sk.max, .slice q1 m1 r1, .slice q2 m2 r2, .slice q3 m3 r3] 33)) := (H2.out.2.2.1).trans ((Below.allocW _ (Below.refl _ _) (Nat.le_refl _)).mono H2.out.2.2.1.size)
        have bl3 : Below w2.heap.size w2 (w2.alloc (.cells #[.int .i64 e.key, .int .i64 e.window, .slice p9 l9 k9, .int .i64 e.sk.count, .int .i64 e.sk.sum, .int .i64 e.sk.min, .int .i64 e.sk.max, .slice q1 m1 r1, .slice q2 m2 r2, .slice q3 m3 r3] 33)) := Below.allocW _ (Below.refl _ _) (Nat.le_refl _)
        have HL2 : Hid (GrowL enK 33 (M.take 0) lo 0 v1 (vs.take (0 * 10)) F1 (w2.alloc (.cells #[.int .i64 e.key, .int .i64 e.window, .slice p9 l9 k9, .int .i64 e.sk.count, .int .i64 e.sk.sum, .int .i64 e.sk.min, .int .i64 e.sk.max, .slice q1 m1 r1, .slice q2 m2 r2, .slice q3 m3 r3] 33)) ∧ RdE (w2.alloc (.cells #[.int .i64 e.key, .int .i64 e.window, .slice p9 l9 k9, .int .i64 e.sk.count, .int .i64 e.sk.sum, .int .i64 e.sk.min, .int .i64 e.sk.max, .slice q1 m1 r1, .slice q2 m2 r2, .slice q3 m3 r3] 33)) (.agg #[.int .i64 e.key, .int .i64 e.window, .slice p9 l9 k9, .int .i64 e.sk.count, .int .i64 e.sk.sum, .int .i64 e.sk.min, .int .i64 e.sk.max, .slice q1 m1 r1, .slice q2 m2 r2, .slice q3 m3 r3]) e Fr ∧ Own w1.heap.size (w2.alloc (.cells #[.int .i64 e.key, .int .i64 e.window, .slice p9 l9 k9, .int .i64 e.sk.count, .int .i64 e.sk.sum, .int .i64 e.sk.min, .int .i64 e.sk.max, .slice q1 m1 r1, .slice q2 m2 r2, .slice q3 m3 r3] 33)) Fr ∧ Below w1.heap.size w1 (w2.alloc (.cells #[.int .i64 e.key, .int .i64 e.window, .slice p9 l9 k9, .int .i64 e.sk.count, .int .i64 e.sk.sum, .int .i64 e.sk.min, .int .i64 e.sk.max, .slice q1 m1 r1, .slice q2 m2 r2, .slice q3 m3 r3] 33))) := ⟨H1.out.1.below bl2, H2.out.1.below bl3, H2.out.2.1.below H2.out.1.lt bl3, bl2⟩
        clear bl2 bl3
        refine Stop.intro (wpList_chunk rfl _ _ 24 rfl lo 33 j0 (.agg #[.int .i64 0, .int .i64 0, .slice none 0 0, .int .i64 0, .int .i64 0, .int .i64 0, .int .i64 0, .slice none 0 0, .slice none 0 0, .slice none 0 0]) 10 144 Tryz.underlying24 hj hy0 hy1 hy2 rfl (by decide) (v1) (0) (vs.take (0 * 10)) rfl HL2.out.1.row (some ⟨w2.heap.size, 0, none⟩) (1) (1) ((#[.int .i64 e.key, .int .i64 e.window, .slice p9 l9 k9, .int .i64 e.sk.count, .int .i64 e.sk.sum, .int .i64 e.sk.min, .int .i64 e.sk.max, .slice q1 m1 r1, .slice q2 m2 r2, .slice q3 m3 r3] : Array Value).toList) rfl (by rw [Array.length_toList, H2.out.2.2.2.1]) (fun _ => ⟨w2.heap.size, 0, rfl, fun j hj => by rw [Nat.zero_add, (Blk.made w2 #[.int .i64 e.key, .int .i64 e.window, .slice p9 l9 k9, .int .i64 e.sk.count, .int .i64 e.sk.sum, .int .i64 e.sk.min, .int .i64 e.sk.max, .slice q1 m1 r1, .slice q2 m2 r2, .slice q3 m3 r3] 33).cell j, ← Array.getElem?_toList]⟩) (fun u hu => (Array.all_eq_true_iff_forall_mem.1 H2.out.2.2.2.2) u (by simpa using hu)) (by unfold maxLen; omega) (by omega) HL2.out.1.lw ?_)
        intro v2 w3 hown2 hgrow2 hat2
        have HX9 : Hid (RdC enK (w2.alloc (.cells #[.int .i64 e.key, .int .i64 e.window, .slice p9 l9 k9, .int .i64 e.sk.count, .int .i64 e.sk.sum, .int .i64 e.sk.min, .int .i64 e.sk.max, .slice q1 m1 r1, .slice q2 m2 r2, .slice q3 m3 r3] 33)) [e] (#[.int .i64 e.key, .int .i64 e.window, .slice p9 l9 k9, .int .i64 e.sk.count, .int .i64 e.sk.sum, .int .i64 e.sk.min, .int .i64 e.sk.max, .slice q1 m1 r1, .slice q2 m2 r2, .slice q3 m3 r3] : Array Value).toList Fr) := ⟨#[.int .i64 e.key, .int .i64 e.window, .slice p9 l9 k9, .int .i64 e.sk.count, .int .i64 e.sk.sum, .int .i64 e.sk.min, .int .i64 e.sk.max, .slice q1 m1 r1, .slice q2 m2 r2, .slice q3 m3 r3], [], Fr, [], (List.append_nil _).symm, H2.out.2.2.2.1, HL2.out.2.1, ⟨rfl, rfl⟩, (List.append_nil _).symm⟩
        have hw1 : wr.heap.size ≤ w1.heap.size := H1.out.2.2.2.2.2.2.1.size
        obtain ⟨s1, s2, s3, s4, s5⟩ := H1.out.1.second (x := e) HLA.out H1.out.2.1 H1.out.2.2.1 H1.out.2.2.2.2.1 H1.out.2.2.2.2.2.1 HL2.out.2.2.2 HX9.out HL2.out.2.2.1 hown2 hgrow2 hat2 hw1
        have bl4 : Below wr.heap.size wr w3 := (H1.out.2.2.2.2.2.2.1.trans (HL2.out.2.2.2.mono hw1)).grown hgrow2 (Nat.le_trans hw1 HL2.out.2.2.2.size) H1.out.2.2.2.2.2.1
        have H3 : Hid (GrowL enK 33 (M.take 0 ++ [e]) lo (0 + 1) v2 (vs.take (0 * 10) ++ (#[.int .i64 e.key, .int .i64 e.window, .slice p9 l9 k9, .int .i64 e.sk.count, .int .i64 e.sk.sum, .int .i64 e.sk.min, .int .i64 e.sk.max, .slice q1 m1 r1, .slice q2 m2 r2, .slice q3 m3 r3] : Array Value).toList) (F1 ++ Fr) w3 ∧ RdC enK w3 (M.drop 0) (vs.drop (0 * 10)) F2 ∧ Own lo w3 F2 ∧ (∀ b ∈ F1 ++ Fr, b ∉ F2) ∧ (∀ b, v2.ownBlock = some b → wr.heap.size ≤ b) ∧ Below wr.heap.size wr w3) := ⟨s1, s2, s3, fun b hb => (List.mem_append.1 hb).elim (H1.out.2.2.2.1 b) (s4 b), s5, bl4⟩
        clear hown2 hgrow2 hat2 s1 s2 s3 s4 s5 bl4 hw1
        have HCB : Hid (0 < (0 - 0) → ∃ b off, (none : Option Addr) = some ⟨b, off, none⟩ ∧ ∀ j, j < (vs.drop (0 * 10)).length → w3.cell? ⟨b, off + j, none⟩ = (vs.drop (0 * 10))[j]?) := fun h9 => absurd h9 (by omega)
        go_wp2_with (first | go_skip | (with_reducible refine stopAppend rfl ?_))
        refine Stop.intro (wpList_chunk rfl _ _ 24 rfl lo 33 j0 (.agg #[.int .i64 0, .int .i64 0, .slice none 0 0, .int .i64 0, .int .i64 0, .int .i64 0, .int .i64 0, .slice none 0 0, .slice none 0 0, .slice none 0 0]) 10 144 Tryz.underlying24 hj hy0 hy1 hy2 rfl (by decide) (v2) (0 + 1) (vs.take (0 * 10) ++ (#[.int .i64 e.key, .int .i64 e.window, .slice p9 l9 k9, .int .i64 e.sk.count, .int .i64 e.sk.sum, .int .i64 e.sk.min, .int .i64 e.sk.max, .slice q1 m1 r1, .slice q2 m2 r2, .slice q3 m3 r3] : Array Value).toList) rfl H3.out.1.row (none) ((0 - 0)) (0) (vs.drop (0 * 10)) rfl (by rw [List.length_drop, HVS.out.2.2]; first | done | omega) HCB.out (fun u hu => HONE.out u (List.mem_of_mem_drop hu)) (by unfold maxLen; omega) (by omega) H3.out.1.lw ?_)
        intro v3 w4 hown3 hgrow3 hat3
        have G4 := H3.out.1.third (m := (0 - 0)) HLB.out (by rw [HLC.out]; first | done | omega) H3.out.2.1 H3.out.2.2.1 H3.out.2.2.2.1 H1.out.2.2.2.2.1 H3.out.2.2.2.2.1 hown3 hgrow3 hat3
        have bl5 : Below wr.heap.size wr w4 := H3.out.2.2.2.2.2.grown hgrow3 H3.out.2.2.2.2.2.size H3.out.2.2.2.2.1
        obtain ⟨q8, k8, e9⟩ : ∃ q8 k8, v3 = .slice q8 (0 + 1 + (0 - 0)) k8 := by
          rcases hown3.2 with ⟨h1, h2⟩ | ⟨g9, cap9, _, h1, _⟩
          · exact ⟨none, 0, by rw [h1, h2]⟩
          · exact ⟨_, _, h1⟩
        subst e9
        have HF : Hid (GrowL enK 33 (insL M e) lo (0 + 1 + (0 - 0)) (.slice q8 (0 + 1 + (0 - 0)) k8) (vs.take (0 * 10) ++ (#[.int .i64 e.key, .int .i64 e.window, .slice p9 l9 k9, .int .i64 e.sk.count, .int .i64 e.sk.sum, .int .i64 e.sk.min, .int .i64 e.sk.max, .slice q1 m1 r1, .slice q2 m2 r2, .slice q3 m3 r3] : Array Value).toList ++ vs.drop (0 * 10)) (F1 ++ Fr ++ F2) w4 ∧ (insL M e).length = 0 + 1 + (0 - 0) ∧ Below lo w w4) := ⟨by rw [HV.out]; rw [List.append_assoc] at G4; exact G4, by rw [HV.out, List.length_append, List.length_cons, HLA.out, HLC.out]; first | done | omega, (Below.next HG.out.2.2 bl5).mono HH.out.2.2.2.2.2.2.2⟩
        clear hown3 hgrow3 hat3 G4 bl5
        go_wp2
        go_ret
        have ex9 : Value.slice q8 (0 + 1 + (0 - 0)) k8 = Value.slice q8 (insL M e).length k8 := by rw [HF.out.2.1]
        have ey9 : GrowL enK 33 (insL M e) lo (insL M e).length (.slice q8 (insL M e).length k8) (vs.take (0 * 10) ++ (#[.int .i64 e.key, .int .i64 e.window, .slice p9 l9 k9, .int .i64 e.sk.count, .int .i64 e.sk.sum, .int .i64 e.sk.min, .int .i64 e.sk.max, .slice q1 m1 r1, .slice q2 m2 r2, .slice q3 m3 r3] : Array Value).toList ++ vs.drop (0 * 10)) (F1 ++ Fr ++ F2) w4 := by rw [HF.out.2.1]; exact HF.out.1
        first | exact ⟨q8, k8, _, _, by rw [HF.out.2.1]; rfl, ey9, HF.out.2.2⟩ | exact ⟨q8, k8, by rw [HF.out.2.1]; rfl, ⟨_, _, ey9⟩, HF.out.2.2⟩ | exact ⟨q8, k8, ex9, ⟨_, _, ey9⟩, HF.out.2.2⟩
      · injection h1 with e1 e2 e3
        subst e1 e3
        replace h7 : cur.toList.take (n * 10) = vs := h7
        have HCL : Hid ((∀ j, j < vs.length → wr.cell? ⟨g, j, none⟩ = vs[j]?) ∧ g < wr.heap.size) := ⟨fun j hj => by
          have hb : Blk wr g cur 33 := h3
          have hj2 : j < n * 10 := by rw [← HVS.out.2.2]; exact hj
          rw [hb.cell j, ← h7, List.getElem?_take_of_lt hj2, Array.getElem?_toList], Blk.lt h3⟩
        have hck : (c : Int) ≤ (kc : Int) := by omega
        have hcn2 : (c : Int) ≤ (n : Int) := by omega
        clear h2 h3 h5 h6 h7
        have HCA : Hid (0 < c → ∃ b off, (some ⟨g, 0, none⟩ : Option Addr) = some ⟨b, off, none⟩ ∧ ∀ j, j < (vs.take (c * 10)).length → (wr.alloc (.cells #[] 33)).cell? ⟨b, off + j, none⟩ = (vs.take (c * 10))[j]?) := fun _ => ⟨g, 0, rfl, fun j hj => by rw [Nat.zero_add]; exact (((Below.allocW (o := .cells #[] 33) (Below.refl wr.heap.size wr) (Nat.le_refl _)).cell (p := ⟨g, j, none⟩) HCL.out.2).trans (HCL.out.1 _ (by rw [List.length_take] at hj; omega))).trans (by rw [List.getElem?_take_of_lt (by rw [HVS.out.1] at hj; exact hj)])⟩
        by_cases hkc : kc = c
        · obtain rfl : c = kc := hkc.symm
          obtain rfl : c = n := by omega
          go_wp2_with (with_reducible refine stopAppend rfl ?_)
          refine Stop.intro (wpList_chunk rfl _ _ 24 rfl lo 33 j0 (.agg #[.int .i64 0, .int .i64 0, .slice none 0 0, .int .i64 0, .int .i64 0, .int .i64 0, .int .i64 0, .slice none 0 0, .slice none 0 0, .slice none 0 0]) 10 144 Tryz.underlying24 hj hy0 hy1 hy2 rfl (by decide) (.slice (some ⟨wr.heap.size, 0, none⟩) 0 0) (0) ([]) rfl (World.ownsRow_made wr #[] 0 HG.out.1.lw (Nat.zero_le _) (by simp)) (some ⟨g, 0, none⟩) (c) (c) (vs.take (c * 10)) rfl HVS.out.1 HCA.out HVS.out.2.1 (by unfold maxLen; omega) (by omega) (by have := HG.out.1.lw; simp; omega) ?_)
          intro v1 w1 hown1 hgrow1 hat1
          obtain ⟨F1, F2, _, f1, f2, f3, f4, f5, f6, f7⟩ := HG.out.1.first HH.out.2.2.2.2.2.2.1 hcn hown1 hgrow1 hat1
          have H1 : Hid (GrowL enK 33 (M.take c) lo c v1 (vs.take (c * 10)) F1 w1 ∧ RdC enK w1 (M.drop c) (vs.drop (c * 10)) F2 ∧ Own lo w1 F2 ∧ (∀ b ∈ F1, b ∉ F2) ∧ (∀ b ∈ F2, b < wr.heap.size) ∧ (∀ b, v1.ownBlock = some b → wr.heap.size ≤ b) ∧ Below wr.heap.size wr w1 ∧ Below w.heap.size w w1 ∧ Blk w1 w.heap.size es 33) := ⟨f1, f2, f3, f4, f5, f6, f7, Below.next HG.out.2.2 f7, HG.out.2.1.below f7⟩
          clear hown1 hgrow1 hat1 f1 f2 f3 f4 f5 f6 f7
          go_wp2_with (first | go_skip | (with_reducible refine stopLoad 33 rfl ?_))
          refine load_any 33 w.heap.size es 33 _ H1.out.2.2.2.2.2.2.2.2 rfl rfl rfl Tryz.underlying33 rfl (enSize HE.out.1) ?_
          go_wp2_with fail
          refine (l6Copy_en (.agg es) e G w1 (HH.out.1.below H1.out.2.2.2.2.2.2.2.1) HH.out.2.2.1).mono ?_
          rintro r w2 ⟨vr, Fr, rfl, rr, ro, rb⟩
          have rr9 := rr
          obtain ⟨_, _, _, p9, l9, k9, q1, m1, r1, q2, m2, r2, q3, m3, r3, rfl, _⟩ := rr9
          have hd11 : (#[.int .i64 e.key, .int .i64 e.window, .slice p9 l9 k9, .int .i64 e.sk.count, .int .i64 e.sk.sum, .int .i64 e.sk.min, .int .i64 e.sk.max, .slice q1 m1 r1, .slice q2 m2 r2, .slice q3 m3 r3] : Array Value).size = 10 := rfl
          have hd1 : (#[.int .i64 e.key, .int .i64 e.window, .slice p9 l9 k9, .int .i64 e.sk.count, .int .i64 e.sk.sum, .int .i64 e.sk.min, .int .i64 e.sk.max, .slice q1 m1 r1, .slice q2 m2 r2, .slice q3 m3 r3] : Array Value).all (·.oneCell') = true := by simp [Value.oneCell']
          have H2 : Hid (RdE w2 (.agg #[.int .i64 e.key, .int .i64 e.window, .slice p9 l9 k9, .int .i64 e.sk.count, .int .i64 e.sk.sum, .int .i64 e.sk.min, .int .i64 e.sk.max, .slice q1 m1 r1, .slice q2 m2 r2, .slice q3 m3 r3]) e Fr ∧ Own w1.heap.size w2 Fr ∧ Below w1.heap.size w1 w2 ∧ (#[.int .i64 e.key, .int .i64 e.window, .slice p9 l9 k9, .int .i64 e.sk.count, .int .i64 e.sk.sum, .int .i64 e.sk.min, .int .i64 e.sk.max, .slice q1 m1 r1, .slice q2 m2 r2, .slice q3 m3 r3] : Array Value).size = 10 ∧ (#[.int .i64 e.key, .int .i64 e.window, .slice p9 l9 k9, .int .i64 e.sk.count, .int .i64 e.sk.sum, .int .i64 e.sk.min, .int .i64 e.sk.max, .slice q1 m1 r1, .slice q2 m2 r2, .slice q3 m3 r3] : Array Value).all (·.oneCell') = true) := ⟨rr, ro, rb, hd11, hd1⟩
          clear rr ro rb hd11 hd1
          go_wp2_with (first | go_skip | (with_reducible refine stopAppend rfl ?_))
          have bl2 : Below w1.heap.size w1 (w2.alloc (.cells #[.int .i64 e.key, .int .i64 e.window, .slice p9 l9 k9, .int .i64 e.sk.count, .int .i64 e.sk.sum, .int .i64 e.sk.min, .int .i64 e.sk.max, .slice q1 m1 r1, .slice q2 m2 r2, .slice q3 m3 r3] 33)) := (H2.out.2.2.1).trans ((Below.allocW _ (Below.refl _ _) (Nat.le_refl _)).mono H2.out.2.2.1.size)
          have bl3 : Below w2.heap.size w2 (w2.alloc (.cells #[.int .i64 e.key, .int .i64 e.window, .slice p9 l9 k9, .int .i64 e.sk.count, .int .i64 e.sk.sum, .int .i64 e.sk.min, .int .i64 e.sk.max, .slice q1 m1 r1, .slice q2 m2 r2, .slice q3 m3 r3] 33)) := Below.allocW _ (Below.refl _ _) (Nat.le_refl _)
          have HL2 : Hid (GrowL enK 33 (M.take c) lo c v1 (vs.take (c * 10)) F1 (w2.alloc (.cells #[.int .i64 e.key, .int .i64 e.window, .slice p9 l9 k9, .int .i64 e.sk.count, .int .i64 e.sk.sum, .int .i64 e.sk.min, .int .i64 e.sk.max, .slice q1 m1 r1, .slice q2 m2 r2, .slice q3 m3 r3] 33)) ∧ RdE (w2.alloc (.cells #[.int .i64 e.key, .int .i64 e.window, .slice p9 l9 k9, .int .i64 e.sk.count, .int .i64 e.sk.sum, .int .i64 e.sk.min, .int .i64 e.sk.max, .slice q1 m1 r1, .slice q2 m2 r2, .slice q3 m3 r3] 33)) (.agg #[.int .i64 e.key, .int .i64 e.window, .slice p9 l9 k9, .int .i64 e.sk.count, .int .i64 e.sk.sum, .int .i64 e.sk.min, .int .i64 e.sk.max, .slice q1 m1 r1, .slice q2 m2 r2, .slice q3 m3 r3]) e Fr ∧ Own w1.heap.size (w2.alloc (.cells #[.int .i64 e.key, .int .i64 e.window, .slice p9 l9 k9, .int .i64 e.sk.count, .int .i64 e.sk.sum, .int .i64 e.sk.min, .int .i64 e.sk.max, .slice q1 m1 r1, .slice q2 m2 r2, .slice q3 m3 r3] 33)) Fr ∧ Below w1.heap.size w1 (w2.alloc (.cells #[.int .i64 e.key, .int .i64 e.window, .slice p9 l9 k9, .int .i64 e.sk.count, .int .i64 e.sk.sum, .int .i64 e.sk.min, .int .i64 e.sk.max, .slice q1 m1 r1, .slice q2 m2 r2, .slice q3 m3 r3] 33))) := ⟨H1.out.1.below bl2, H2.out.1.below bl3, H2.out.2.1.below H2.out.1.lt bl3, bl2⟩
          clear bl2 bl3
          refine Stop.intro (wpList_chunk rfl _ _ 24 rfl lo 33 j0 (.agg #[.int .i64 0, .int .i64 0, .slice none 0 0, .int .i64 0, .int .i64 0, .int .i64 0, .int .i64 0, .slice none 0 0, .slice none 0 0, .slice none 0 0]) 10 144 Tryz.underlying24 hj hy0 hy1 hy2 rfl (by decide) (v1) (c) (vs.take (c * 10)) rfl HL2.out.1.row (some ⟨w2.heap.size, 0, none⟩) (1) (1) ((#[.int .i64 e.key, .int .i64 e.window, .slice p9 l9 k9, .int .i64 e.sk.count, .int .i64 e.sk.sum, .int .i64 e.sk.min, .int .i64 e.sk.max, .slice q1 m1 r1, .slice q2 m2 r2, .slice q3 m3 r3] : Array Value).toList) rfl (by rw [Array.length_toList, H2.out.2.2.2.1]) (fun _ => ⟨w2.heap.size, 0, rfl, fun j hj => by rw [Nat.zero_add, (Blk.made w2 #[.int .i64 e.key, .int .i64 e.window, .slice p9 l9 k9, .int .i64 e.sk.count, .int .i64 e.sk.sum, .int .i64 e.sk.min, .int .i64 e.sk.max, .slice q1 m1 r1, .slice q2 m2 r2, .slice q3 m3 r3] 33).cell j, ← Array.getElem?_toList]⟩) (fun u hu => (Array.all_eq_true_iff_forall_mem.1 H2.out.2.2.2.2) u (by simpa using hu)) (by unfold maxLen; omega) (by omega) HL2.out.1.lw ?_)
          intro v2 w3 hown2 hgrow2 hat2
          have HX9 : Hid (RdC enK (w2.alloc (.cells #[.int .i64 e.key, .int .i64 e.window, .slice p9 l9 k9, .int .i64 e.sk.count, .int .i64 e.sk.sum, .int .i64 e.sk.min, .int .i64 e.sk.max, .slice q1 m1 r1, .slice q2 m2 r2, .slice q3 m3 r3] 33)) [e] (#[.int .i64 e.key, .int .i64 e.window, .slice p9 l9 k9, .int .i64 e.sk.count, .int .i64 e.sk.sum, .int .i64 e.sk.min, .int .i64 e.sk.max, .slice q1 m1 r1, .slice q2 m2 r2, .slice q3 m3 r3] : Array Value).toList Fr) := ⟨#[.int .i64 e.key, .int .i64 e.window, .slice p9 l9 k9, .int .i64 e.sk.count, .int .i64 e.sk.sum, .int .i64 e.sk.min, .int .i64 e.sk.max, .slice q1 m1 r1, .slice q2 m2 r2, .slice q3 m3 r3], [], Fr, [], (List.append_nil _).symm, H2.out.2.2.2.1, HL2.out.2.1, ⟨rfl, rfl⟩, (List.append_nil _).symm⟩
          have hw1 : wr.heap.size ≤ w1.heap.size := H1.out.2.2.2.2.2.2.1.size
          obtain ⟨s1, s2, s3, s4, s5⟩ := H1.out.1.second (x := e) HLA.out H1.out.2.1 H1.out.2.2.1 H1.out.2.2.2.2.1 H1.out.2.2.2.2.2.1 HL2.out.2.2.2 HX9.out HL2.out.2.2.1 hown2 hgrow2 hat2 hw1
          have bl4 : Below wr.heap.size wr w3 := (H1.out.2.2.2.2.2.2.1.trans (HL2.out.2.2.2.mono hw1)).grown hgrow2 (Nat.le_trans hw1 HL2.out.2.2.2.size) H1.out.2.2.2.2.2.1
          have H3 : Hid (GrowL enK 33 (M.take c ++ [e]) lo (c + 1) v2 (vs.take (c * 10) ++ (#[.int .i64 e.key, .int .i64 e.window, .slice p9 l9 k9, .int .i64 e.sk.count, .int .i64 e.sk.sum, .int .i64 e.sk.min, .int .i64 e.sk.max, .slice q1 m1 r1, .slice q2 m2 r2, .slice q3 m3 r3] : Array Value).toList) (F1 ++ Fr) w3 ∧ RdC enK w3 (M.drop c) (vs.drop (c * 10)) F2 ∧ Own lo w3 F2 ∧ (∀ b ∈ F1 ++ Fr, b ∉ F2) ∧ (∀ b, v2.ownBlock = some b → wr.heap.size ≤ b) ∧ Below wr.heap.size wr w3) := ⟨s1, s2, s3, fun b hb => (List.mem_append.1 hb).elim (H1.out.2.2.2.1 b) (s4 b), s5, bl4⟩
          clear hown2 hgrow2 hat2 s1 s2 s3 s4 s5 bl4 hw1
          have HCB : Hid (0 < 0 → ∃ b off, (some ⟨g, 0, none⟩ : Option Addr) = some ⟨b, off, none⟩ ∧ ∀ j, j < (vs.drop (c * 10)).length → w3.cell? ⟨b, off + j, none⟩ = (vs.drop (c * 10))[j]?) := fun h9 => absurd h9 (by omega)
          go_wp2_with (first | go_skip | (with_reducible refine stopAppend rfl ?_))
          refine Stop.intro (wpList_chunk rfl _ _ 24 rfl lo 33 j0 (.agg #[.int .i64 0, .int .i64 0, .slice none 0 0, .int .i64 0, .int .i64 0, .int .i64 0, .int .i64 0, .slice none 0 0, .slice none 0 0, .slice none 0 0]) 10 144 Tryz.underlying24 hj hy0 hy1 hy2 rfl (by decide) (v2) (c + 1) (vs.take (c * 10) ++ (#[.int .i64 e.key, .int .i64 e.window, .slice p9 l9 k9, .int .i64 e.sk.count, .int .i64 e.sk.sum, .int .i64 e.sk.min, .int .i64 e.sk.max, .slice q1 m1 r1, .slice q2 m2 r2, .slice q3 m3 r3] : Array Value).toList) rfl H3.out.1.row (some ⟨g, 0, none⟩) (0) (0) (vs.drop (c * 10)) rfl (by rw [List.length_drop, HVS.out.2.2]; first | done | omega) HCB.out (fun u hu => HONE.out u (List.mem_of_mem_drop hu)) (by unfold maxLen; omega) (by omega) H3.out.1.lw ?_)
          intro v3 w4 hown3 hgrow3 hat3
          have G4 := H3.out.1.third (m := 0) HLB.out (by rw [HLC.out]; first | done | omega) H3.out.2.1 H3.out.2.2.1 H3.out.2.2.2.1 H1.out.2.2.2.2.1 H3.out.2.2.2.2.1 hown3 hgrow3 hat3
          have bl5 : Below wr.heap.size wr w4 := H3.out.2.2.2.2.2.grown hgrow3 H3.out.2.2.2.2.2.size H3.out.2.2.2.2.1
          obtain ⟨q8, k8, e9⟩ : ∃ q8 k8, v3 = .slice q8 (c + 1 + 0) k8 := by
            rcases hown3.2 with ⟨h1, h2⟩ | ⟨g9, cap9, _, h1, _⟩
            · exact ⟨none, 0, by rw [h1, h2]⟩
            · exact ⟨_, _, h1⟩
          subst e9
          have HF : Hid (GrowL enK 33 (insL M e) lo (c + 1 + 0) (.slice q8 (c + 1 + 0) k8) (vs.take (c * 10) ++ (#[.int .i64 e.key, .int .i64 e.window, .slice p9 l9 k9, .int .i64 e.sk.count, .int .i64 e.sk.sum, .int .i64 e.sk.min, .int .i64 e.sk.max, .slice q1 m1 r1, .slice q2 m2 r2, .slice q3 m3 r3] : Array Value).toList ++ vs.drop (c * 10)) (F1 ++ Fr ++ F2) w4 ∧ (insL M e).length = c + 1 + 0 ∧ Below lo w w4) := ⟨by rw [HV.out]; rw [List.append_assoc] at G4; exact G4, by rw [HV.out, List.length_append, List.length_cons, HLA.out, HLC.out]; first | done | omega, (Below.next HG.out.2.2 bl5).mono HH.out.2.2.2.2.2.2.2⟩
          clear hown3 hgrow3 hat3 G4 bl5
          go_wp2
          go_ret
          have ex9 : Value.slice q8 (c + 1 + 0) k8 = Value.slice q8 (insL M e).length k8 := by rw [HF.out.2.1]
          have ey9 : GrowL enK 33 (insL M e) lo (insL M e).length (.slice q8 (insL M e).length k8) (vs.take (c * 10) ++ (#[.int .i64 e.key, .int .i64 e.window, .slice p9 l9 k9, .int .i64 e.sk.count, .int .i64 e.sk.sum, .int .i64 e.sk.min, .int .i64 e.sk.max, .slice q1 m1 r1, .slice q2 m2 r2, .slice q3 m3 r3] : Array Value).toList ++ vs.drop (c * 10)) (F1 ++ Fr ++ F2) w4 := by rw [HF.out.2.1]; exact HF.out.1
          first | exact ⟨q8, k8, _, _, by rw [HF.out.2.1]; rfl, ey9, HF.out.2.2⟩ | exact ⟨q8, k8, by rw [HF.out.2.1]; rfl, ⟨_, _, ey9⟩, HF.out.2.2⟩ | exact ⟨q8, k8, ex9, ⟨_, _, ey9⟩, HF.out.2.2⟩
        · have hkc2 : ¬ kc - c = 0 := by omega
          go_wp2_with (with_reducible refine stopAppend rfl ?_)
          refine Stop.intro (wpList_chunk rfl _ _ 24 rfl lo 33 j0 (.agg #[.int .i64 0, .int .i64 0, .slice none 0 0, .int .i64 0, .int .i64 0, .int .i64 0, .int .i64 0, .slice none 0 0, .slice none 0 0, .slice none 0 0]) 10 144 Tryz.underlying24 hj hy0 hy1 hy2 rfl (by decide) (.slice (some ⟨wr.heap.size, 0, none⟩) 0 0) (0) ([]) rfl (World.ownsRow_made wr #[] 0 HG.out.1.lw (Nat.zero_le _) (by simp)) (some ⟨g, 0, none⟩) (c) (kc) (vs.take (c * 10)) rfl HVS.out.1 HCA.out HVS.out.2.1 (by unfold maxLen; omega) (by omega) (by have := HG.out.1.lw; simp; omega) ?_)
          intro v1 w1 hown1 hgrow1 hat1
          obtain ⟨F1, F2, _, f1, f2, f3, f4, f5, f6, f7⟩ := HG.out.1.first HH.out.2.2.2.2.2.2.1 hcn hown1 hgrow1 hat1
          have H1 : Hid (GrowL enK 33 (M.take c) lo c v1 (vs.take (c * 10)) F1 w1 ∧ RdC enK w1 (M.drop c) (vs.drop (c * 10)) F2 ∧ Own lo w1 F2 ∧ (∀ b ∈ F1, b ∉ F2) ∧ (∀ b ∈ F2, b < wr.heap.size) ∧ (∀ b, v1.ownBlock = some b → wr.heap.size ≤ b) ∧ Below wr.heap.size wr w1 ∧ Below w.heap.size w w1 ∧ Blk w1 w.heap.size es 33) := ⟨f1, f2, f3, f4, f5, f6, f7, Below.next HG.out.2.2 f7, HG.out.2.1.below f7⟩
          clear hown1 hgrow1 hat1 f1 f2 f3 f4 f5 f6 f7
          go_wp2_with (first | go_skip | (with_reducible refine stopLoad 33 rfl ?_))
          refine load_any 33 w.heap.size es 33 _ H1.out.2.2.2.2.2.2.2.2 rfl rfl rfl Tryz.underlying33 rfl (enSize HE.out.1) ?_
          go_wp2_with fail
          refine (l6Copy_en (.agg es) e G w1 (HH.out.1.below H1.out.2.2.2.2.2.2.2.1) HH.out.2.2.1).mono ?_
          rintro r w2 ⟨vr, Fr, rfl, rr, ro, rb⟩
          have rr9 := rr
          obtain ⟨_, _, _, p9, l9, k9, q1, m1, r1, q2, m2, r2, q3, m3, r3, rfl, _⟩ := rr9
          have hd11 : (#[.int .i64 e.key, .int .i64 e.window, .slice p9 l9 k9, .int .i64 e.sk.count, .int .i64 e.sk.sum, .int .i64 e.sk.min, .int .i64 e.sk.max, .slice q1 m1 r1, .slice q2 m2 r2, .slice q3 m3 r3] : Array Value).size = 10 := rfl
          have hd1 : (#[.int .i64 e.key, .int .i64 e.window, .slice p9 l9 k9, .int .i64 e.sk.count, .int .i64 e.sk.sum, .int .i64 e.sk.min, .int .i64 e.sk.max, .slice q1 m1 r1, .slice q2 m2 r2, .slice q3 m3 r3] : Array Value).all (·.oneCell') = true := by simp [Value.oneCell']
          have H2 : Hid (RdE w2 (.agg #[.int .i64 e.key, .int .i64 e.window, .slice p9 l9 k9, .int .i64 e.sk.count, .int .i64 e.sk.sum, .int .i64 e.sk.min, .int .i64 e.sk.max, .slice q1 m1 r1, .slice q2 m2 r2, .slice q3 m3 r3]) e Fr ∧ Own w1.heap.size w2 Fr ∧ Below w1.heap.size w1 w2 ∧ (#[.int .i64 e.key, .int .i64 e.window, .slice p9 l9 k9, .int .i64 e.sk.count, .int .i64 e.sk.sum, .int .i64 e.sk.min, .int .i64 e.sk.max, .slice q1 m1 r1, .slice q2 m2 r2, .slice q3 m3 r3] : Array Value).size = 10 ∧ (#[.int .i64 e.key, .int .i64 e.window, .slice p9 l9 k9, .int .i64 e.sk.count, .int .i64 e.sk.sum, .int .i64 e.sk.min, .int .i64 e.sk.max, .slice q1 m1 r1, .slice q2 m2 r2, .slice q3 m3 r3] : Array Value).all (·.oneCell') = true) := ⟨rr, ro, rb, hd11, hd1⟩
          clear rr ro rb hd11 hd1
          go_wp2_with (first | go_skip | (with_reducible refine stopAppend rfl ?_))
          have bl2 : Below w1.heap.size w1 (w2.alloc (.cells #[.int .i64 e.key, .int .i64 e.window, .slice p9 l9 k9, .int .i64 e.sk.count, .int .i64 e.sk.sum, .int .i64 e.sk.min, .int .i64 e.sk.max, .slice q1 m1 r1, .slice q2 m2 r2, .slice q3 m3 r3] 33)) := (H2.out.2.2.1).trans ((Below.allocW _ (Below.refl _ _) (Nat.le_refl _)).mono H2.out.2.2.1.size)
          have bl3 : Below w2.heap.size w2 (w2.alloc (.cells #[.int .i64 e.key, .int .i64 e.window, .slice p9 l9 k9, .int .i64 e.sk.count, .int .i64 e.sk.sum, .int .i64 e.sk.min, .int .i64 e.sk.max, .slice q1 m1 r1, .slice q2 m2 r2, .slice q3 m3 r3] 33)) := Below.allocW _ (Below.refl _ _) (Nat.le_refl _)
          have HL2 : Hid (GrowL enK 33 (M.take c) lo c v1 (vs.take (c * 10)) F1 (w2.alloc (.cells #[.int .i64 e.key, .int .i64 e.window, .slice p9 l9 k9, .int .i64 e.sk.count, .int .i64 e.sk.sum, .int .i64 e.sk.min, .int .i64 e.sk.max, .slice q1 m1 r1, .slice q2 m2 r2, .slice q3 m3 r3] 33)) ∧ RdE (w2.alloc (.cells #[.int .i64 e.key, .int .i64 e.window, .slice p9 l9 k9, .int .i64 e.sk.count, .int .i64 e.sk.sum, .int .i64 e.sk.min, .int .i64 e.sk.max, .slice q1 m1 r1, .slice q2 m2 r2, .slice q3 m3 r3] 33)) (.agg #[.int .i64 e.key, .int .i64 e.window, .slice p9 l9 k9, .int .i64 e.sk.count, .int .i64 e.sk.sum, .int .i64 e.sk.min, .int .i64 e.sk.max, .slice q1 m1 r1, .slice q2 m2 r2, .slice q3 m3 r3]) e Fr ∧ Own w1.heap.size (w2.alloc (.cells #[.int .i64 e.key, .int .i64 e.window, .slice p9 l9 k9, .int .i64 e.sk.count, .int .i64 e.sk.sum, .int .i64 e.sk.min, .int .i64 e.sk.max, .slice q1 m1 r1, .slice q2 m2 r2, .slice q3 m3 r3] 33)) Fr ∧ Below w1.heap.size w1 (w2.alloc (.cells #[.int .i64 e.key, .int .i64 e.window, .slice p9 l9 k9, .int .i64 e.sk.count, .int .i64 e.sk.sum, .int .i64 e.sk.min, .int .i64 e.sk.max, .slice q1 m1 r1, .slice q2 m2 r2, .slice q3 m3 r3] 33))) := ⟨H1.out.1.below bl2, H2.out.1.below bl3, H2.out.2.1.below H2.out.1.lt bl3, bl2⟩
          clear bl2 bl3
          refine Stop.intro (wpList_chunk rfl _ _ 24 rfl lo 33 j0 (.agg #[.int .i64 0, .int .i64 0, .slice none 0 0, .int .i64 0, .int .i64 0, .int .i64 0, .int .i64 0, .slice none 0 0, .slice none 0 0, .slice none 0 0]) 10 144 Tryz.underlying24 hj hy0 hy1 hy2 rfl (by decide) (v1) (c) (vs.take (c * 10)) rfl HL2.out.1.row (some ⟨w2.heap.size, 0, none⟩) (1) (1) ((#[.int .i64 e.key, .int .i64 e.window, .slice p9 l9 k9, .int .i64 e.sk.count, .int .i64 e.sk.sum, .int .i64 e.sk.min, .int .i64 e.sk.max, .slice q1 m1 r1, .slice q2 m2 r2, .slice q3 m3 r3] : Array Value).toList) rfl (by rw [Array.length_toList, H2.out.2.2.2.1]) (fun _ => ⟨w2.heap.size, 0, rfl, fun j hj => by rw [Nat.zero_add, (Blk.made w2 #[.int .i64 e.key, .int .i64 e.window, .slice p9 l9 k9, .int .i64 e.sk.count, .int .i64 e.sk.sum, .int .i64 e.sk.min, .int .i64 e.sk.max, .slice q1 m1 r1, .slice q2 m2 r2, .slice q3 m3 r3] 33).cell j, ← Array.getElem?_toList]⟩) (fun u hu => (Array.all_eq_true_iff_forall_mem.1 H2.out.2.2.2.2) u (by simpa using hu)) (by unfold maxLen; omega) (by omega) HL2.out.1.lw ?_)
          intro v2 w3 hown2 hgrow2 hat2
          have HX9 : Hid (RdC enK (w2.alloc (.cells #[.int .i64 e.key, .int .i64 e.window, .slice p9 l9 k9, .int .i64 e.sk.count, .int .i64 e.sk.sum, .int .i64 e.sk.min, .int .i64 e.sk.max, .slice q1 m1 r1, .slice q2 m2 r2, .slice q3 m3 r3] 33)) [e] (#[.int .i64 e.key, .int .i64 e.window, .slice p9 l9 k9, .int .i64 e.sk.count, .int .i64 e.sk.sum, .int .i64 e.sk.min, .int .i64 e.sk.max, .slice q1 m1 r1, .slice q2 m2 r2, .slice q3 m3 r3] : Array Value).toList Fr) := ⟨#[.int .i64 e.key, .int .i64 e.window, .slice p9 l9 k9, .int .i64 e.sk.count, .int .i64 e.sk.sum, .int .i64 e.sk.min, .int .i64 e.sk.max, .slice q1 m1 r1, .slice q2 m2 r2, .slice q3 m3 r3], [], Fr, [], (List.append_nil _).symm, H2.out.2.2.2.1, HL2.out.2.1, ⟨rfl, rfl⟩, (List.append_nil _).symm⟩
          have hw1 : wr.heap.size ≤ w1.heap.size := H1.out.2.2.2.2.2.2.1.size
          obtain ⟨s1, s2, s3, s4, s5⟩ := H1.out.1.second (x := e) HLA.out H1.out.2.1 H1.out.2.2.1 H1.out.2.2.2.2.1 H1.out.2.2.2.2.2.1 HL2.out.2.2.2 HX9.out HL2.out.2.2.1 hown2 hgrow2 hat2 hw1
          have bl4 : Below wr.heap.size wr w3 := (H1.out.2.2.2.2.2.2.1.trans (HL2.out.2.2.2.mono hw1)).grown hgrow2 (Nat.le_trans hw1 HL2.out.2.2.2.size) H1.out.2.2.2.2.2.1
          have H3 : Hid (GrowL enK 33 (M.take c ++ [e]) lo (c + 1) v2 (vs.take (c * 10) ++ (#[.int .i64 e.key, .int .i64 e.window, .slice p9 l9 k9, .int .i64 e.sk.count, .int .i64 e.sk.sum, .int .i64 e.sk.min, .int .i64 e.sk.max, .slice q1 m1 r1, .slice q2 m2 r2, .slice q3 m3 r3] : Array Value).toList) (F1 ++ Fr) w3 ∧ RdC enK w3 (M.drop c) (vs.drop (c * 10)) F2 ∧ Own lo w3 F2 ∧ (∀ b ∈ F1 ++ Fr, b ∉ F2) ∧ (∀ b, v2.ownBlock = some b → wr.heap.size ≤ b) ∧ Below wr.heap.size wr w3) := ⟨s1, s2, s3, fun b hb => (List.mem_append.1 hb).elim (H1.out.2.2.2.1 b) (s4 b), s5, bl4⟩
          clear hown2 hgrow2 hat2 s1 s2 s3 s4 s5 bl4 hw1
          have HCB : Hid (0 < (n - c) → ∃ b off, (some ⟨g, c * 10, none⟩ : Option Addr) = some ⟨b, off, none⟩ ∧ ∀ j, j < (vs.drop (c * 10)).length → w3.cell? ⟨b, off + j, none⟩ = (vs.drop (c * 10))[j]?) := fun _ => ⟨g, c * 10, rfl, fun j hj => ((H3.out.2.2.2.2.2.cell (p := ⟨g, c * 10 + j, none⟩) HCL.out.2).trans (HCL.out.1 _ (by rw [List.length_drop] at hj; omega))).trans (by rw [List.getElem?_drop])⟩
          go_wp2_with (first | go_skip | (with_reducible refine stopAppend rfl ?_))
          refine Stop.intro (wpList_chunk rfl _ _ 24 rfl lo 33 j0 (.agg #[.int .i64 0, .int .i64 0, .slice none 0 0, .int .i64 0, .int .i64 0, .int .i64 0, .int .i64 0, .slice none 0 0, .slice none 0 0, .slice none 0 0]) 10 144 Tryz.underlying24 hj hy0 hy1 hy2 rfl (by decide) (v2) (c + 1) (vs.take (c * 10) ++ (#[.int .i64 e.key, .int .i64 e.window, .slice p9 l9 k9, .int .i64 e.sk.count, .int .i64 e.sk.sum, .int .i64 e.sk.min, .int .i64 e.sk.max, .slice q1 m1 r1, .slice q2 m2 r2, .slice q3 m3 r3] : Array Value).toList) rfl H3.out.1.row (some ⟨g, c * 10, none⟩) ((n - c)) ((kc - c)) (vs.drop (c * 10)) rfl (by rw [List.length_drop, HVS.out.2.2]; first | done | omega) HCB.out (fun u hu => HONE.out u (List.mem_of_mem_drop hu)) (by unfold maxLen; omega) (by omega) H3.out.1.lw ?_)
          intro v3 w4 hown3 hgrow3 hat3
          have G4 := H3.out.1.third (m := (n - c)) HLB.out (by rw [HLC.out]; first | done | omega) H3.out.2.1 H3.out.2.2.1 H3.out.2.2.2.1 H1.out.2.2.2.2.1 H3.out.2.2.2.2.1 hown3 hgrow3 hat3
          have bl5 : Below wr.heap.size wr w4 := H3.out.2.2.2.2.2.grown hgrow3 H3.out.2.2.2.2.2.size H3.out.2.2.2.2.1
          obtain ⟨q8, k8, e9⟩ : ∃ q8 k8, v3 = .slice q8 (c + 1 + (n - c)) k8 := by
            rcases hown3.2 with ⟨h1, h2⟩ | ⟨g9, cap9, _, h1, _⟩
            · exact ⟨none, 0, by rw [h1, h2]⟩
            · exact ⟨_, _, h1⟩
          subst e9
          have HF : Hid (GrowL enK 33 (insL M e) lo (c + 1 + (n - c)) (.slice q8 (c + 1 + (n - c)) k8) (vs.take (c * 10) ++ (#[.int .i64 e.key, .int .i64 e.window, .slice p9 l9 k9, .int .i64 e.sk.count, .int .i64 e.sk.sum, .int .i64 e.sk.min, .int .i64 e.sk.max, .slice q1 m1 r1, .slice q2 m2 r2, .slice q3 m3 r3] : Array Value).toList ++ vs.drop (c * 10)) (F1 ++ Fr ++ F2) w4 ∧ (insL M e).length = c + 1 + (n - c) ∧ Below lo w w4) := ⟨by rw [HV.out]; rw [List.append_assoc] at G4; exact G4, by rw [HV.out, List.length_append, List.length_cons, HLA.out, HLC.out]; first | done | omega, (Below.next HG.out.2.2 bl5).mono HH.out.2.2.2.2.2.2.2⟩
          clear hown3 hgrow3 hat3 G4 bl5
          go_wp2
          go_ret
          have ex9 : Value.slice q8 (c + 1 + (n - c)) k8 = Value.slice q8 (insL M e).length k8 := by rw [HF.out.2.1]
          have ey9 : GrowL enK 33 (insL M e) lo (insL M e).length (.slice q8 (insL M e).length k8) (vs.take (c * 10) ++ (#[.int .i64 e.key, .int .i64 e.window, .slice p9 l9 k9, .int .i64 e.sk.count, .int .i64 e.sk.sum, .int .i64 e.sk.min, .int .i64 e.sk.max, .slice q1 m1 r1, .slice q2 m2 r2, .slice q3 m3 r3] : Array Value).toList ++ vs.drop (c * 10)) (F1 ++ Fr ++ F2) w4 := by rw [HF.out.2.1]; exact HF.out.1
          first | exact ⟨q8, k8, _, _, by rw [HF.out.2.1]; rfl, ey9, HF.out.2.2⟩ | exact ⟨q8, k8, by rw [HF.out.2.1]; rfl, ⟨_, _, ey9⟩, HF.out.2.2⟩ | exact ⟨q8, k8, ex9, ⟨_, _, ey9⟩, HF.out.2.2⟩
    · obtain ⟨c, hc⟩ : ∃ c, c = atFrom M e (k + 1) := ⟨_, rfl⟩
      rw [← hc]
      have HA : Hid (c = atFrom M e (k + 1)) := hc
      clear hc
      rw [show ((k + 1 : Nat) : Int) - 1 = (k : Int) by omega]
      have hlt : k < n := hk
      have hI : (0 : Int) ≤ (k : Int) := by omega
      have hI2 : (k : Int) < (n : Int) := by omega
      obtain ⟨g, rfl⟩ : ∃ g, a = (some ⟨g, 0, none⟩) := by
        rcases HG.out.1.row.2 with ⟨h0, h1⟩ | ⟨g, _, _, h1, _⟩
        · omega
        · injection h1 with e1; exact ⟨g, e1⟩
      obtain ⟨q1, c9, F9, e9, rL, _, _⟩ := HG.out.1.done HH.out.2.2.2.2.2.2.1
      injection e9 with e9 _ e9c
      subst e9 e9c
      obtain ⟨b, off, y, cs, Fi, hq, hbw, hy, hcs, hcc, hr⟩ := ens_at rL hlt
      injection hq with hq
      injection hq with hq1 hq2
      subst hq1 hq2
      simp only [Nat.zero_add] at hcc
      clear rL
      have HY : Hid (M[k]? = some y ∧ cs.size = 10 ∧ RdE wr (.agg cs) y Fi ∧ (∀ j, j < 10 → wr.cell? ⟨g, k * 10 + j, none⟩ = cs[j]?) ∧ cs[0]? = some (.int .i64 y.key) ∧ cs[1]? = some (.int .i64 y.window) ∧ g < wr.heap.size) := by
        obtain ⟨_, _, _, _, _, _, _, _, _, _, _, _, _, _, _, ev, _⟩ := id hr
        injection ev with ev
        exact ⟨hy, hcs, hr, hcc, by rw [ev]; rfl, by rw [ev]; rfl, hbw⟩
      clear hbw hy hcs hcc hr
      go_wp2_with fail
      have HGd : Hid (GrowL enK 33 M lo n (.slice (some ⟨g, 0, none⟩) n kc) vs GG wr.drew ∧ Blk wr.drew w.heap.size es 33 ∧ Below w.heap.size w wr.drew) := ⟨HG.out.1.below (Below.refl _ _).drew, HG.out.2.1.below (Below.refl _ _).drew, Below.next HG.out.2.2 (Below.refl _ _).drew⟩
      have HYd : Hid (RdE wr.drew (.agg cs) y Fi ∧ ∀ j, j < 10 → wr.drew.cell? ⟨g, k * 10 + j, none⟩ = cs[j]?) := ⟨HY.out.2.2.1.below (Below.refl _ _).drew, HY.out.2.2.2.1⟩
      obtain ⟨Y0, hY0⟩ : ∃ Y, Y = wr.drew := ⟨_, rfl⟩
      rw [← hY0] at HGd HYd
      clear HG
      have c0 : Y0.cell? ⟨g, k * 10, none⟩ = some (.int .i64 y.key) := (HYd.out.2 0 (by decide)).trans HY.out.2.2.2.2.1
      have c1 : Y0.cell? ⟨g, k * 10 + 1, none⟩ = some (.int .i64 y.window) := (HYd.out.2 1 (by decide)).trans HY.out.2.2.2.2.2.1
      have e0 : Y0.cell? ⟨w.heap.size, 0, none⟩ = some (.int .i64 e.key) := (HGd.out.2.1.cell 0).trans HE.out.2.2.1
      have e1 : Y0.cell? ⟨w.heap.size, 1, none⟩ = some (.int .i64 e.window) := (HGd.out.2.1.cell 1).trans HE.out.2.2.2
      obtain ⟨d1, hd1⟩ : ∃ d, d = (y.key == e.key) := ⟨_, rfl⟩
      obtain ⟨d2, hd2⟩ : ∃ d, d = (y.window == e.window) := ⟨_, rfl⟩
      cases d1
      · have hk1 : (y.key == e.key) = false := hd1.symm
        clear hd1 hd2
        refine wp_region_held (S := fun W => W = Y0) (by kernel_rfl) ?_
        change wpAnyH _ _ _ _ _ _ _ _ (World.drew _)
        rw [← hY0]
        clear hY0
        refine takeH (o := ?o1) 0 (.slice (some ⟨g, 0, none⟩) n kc) ?h1 ?r1
        case h1 => simp only [aT, aZ]; rfl
        refine ⟨_, by simp [Act.put]; rfl, by kernel_rfl, by kernel_rfl, by kernel_rfl, fun _ _ _ h => h, (.inl ⟨rfl, fun W _ => by kernel_rfl⟩), rfl, ?_⟩
        refine takeH (o := ?o2) 1 (.int .i64 k) ?h2 ?r2
        case h2 => simp only [aT, aS, aZ]; rfl
        refine ⟨_, by simp [Act.put]; rfl, by kernel_rfl, by kernel_rfl, by kernel_rfl, fun _ _ _ h => h, (.inl ⟨rfl, fun W _ => by kernel_rfl⟩), rfl, ?_⟩
        refine takeH (o := ?o3) 2 (.pointer (some ⟨g, k * 10, none⟩)) ?h3 ?r3
        case h3 => simp only [aT, aS, aZ]; rfl
        refine ⟨_, by simp [Act.put]; rfl, by kernel_rfl, by kernel_rfl, by kernel_rfl, fun _ _ _ h => h, (.inl ⟨rfl, fun W _ => by go_simp; first | done | (intro h; omega) | (rw [if_pos (by omega)]; rfl)⟩), rfl, ?_⟩
        refine takeH (o := ?o4) 3 (.pointer (some ⟨g, k * 10, none⟩)) ?h4 ?r4
        case h4 => simp only [aT, aS, aZ]; rfl
        refine ⟨_, by simp [Act.put]; rfl, by kernel_rfl, by kernel_rfl, by kernel_rfl, fun _ _ _ h => h, (.inl ⟨rfl, fun W _ => by kernel_rfl⟩), rfl, ?_⟩
        refine takeH (o := ?o5) 4 (.int .i64 y.key) ?h5 ?r5
        case h5 => simp only [aT, aS, aZ]; rfl
        refine ⟨_, by simp [Act.put]; rfl, by kernel_rfl, by kernel_rfl, by kernel_rfl, fun _ _ _ h => h, (.inl ⟨rfl, fun W hW => by rw [hW]; go_simp⟩), rfl, ?_⟩
        refine takeH (o := ?o6) 5 (.pointer (some ⟨w.heap.size, 0, none⟩)) ?h6 ?r6
        case h6 => simp only [aT, aS, aZ]; rfl
        refine ⟨_, by simp [Act.put]; rfl, by kernel_rfl, by kernel_rfl, by kernel_rfl, fun _ _ _ h => h, (.inl ⟨rfl, fun W _ => by kernel_rfl⟩), rfl, ?_⟩
        refine takeH (o := ?o7) 6 (.int .i64 e.key) ?h7 ?r7
        case h7 => simp only [aT, aS, aZ]; rfl
        refine ⟨_, by simp [Act.put]; rfl, by kernel_rfl, by kernel_rfl, by kernel_rfl, fun _ _ _ h => h, (.inl ⟨rfl, fun W hW => by rw [hW]; go_simp⟩), rfl, ?_⟩
        refine takeH (o := ?o8) 7 (.bool false) ?h8 ?r8
        case h8 => simp only [aT, aS, aZ]; rfl
        refine ⟨_, by simp [Act.put]; rfl, by kernel_rfl, by kernel_rfl, by kernel_rfl, fun _ _ _ h => h, (.inl ⟨rfl, fun W _ => by go_simp⟩), rfl, ?_⟩
        refine takeH (o := ?o9) 8 (.bool false) ?h9 ?r9
        case h9 => simp only [aT, aS, aZ]; rfl
        refine ⟨_, by simp [Act.put]; rfl, by kernel_rfl, by kernel_rfl, by kernel_rfl, fun _ _ _ h => h, (.inl ⟨rfl, fun W _ => by kernel_rfl⟩), rfl, ?_⟩
        refine takeH (o := ?o10) 9 (undef) ?h10 ?r10
        case h10 => simp only [aT, aS, aZ]; rfl
        refine ⟨_, by simp [Act.put]; rfl, by kernel_rfl, by kernel_rfl, by kernel_rfl, fun _ _ _ h => h, (.inr ⟨rfl, rfl⟩), rfl, ?_⟩
        refine takeH (o := ?o11) 10 (undef) ?h11 ?r11
        case h11 => simp only [aT, aS, aZ]; rfl
        refine ⟨_, by simp [Act.put]; rfl, by kernel_rfl, by kernel_rfl, by kernel_rfl, fun _ _ _ h => h, (.inr ⟨rfl, rfl⟩), rfl, ?_⟩
        refine takeH (o := ?o12) 11 (undef) ?h12 ?r12
        case h12 => simp only [aT, aS, aZ]; rfl
        refine ⟨_, by simp [Act.put]; rfl, by kernel_rfl, by kernel_rfl, by kernel_rfl, fun _ _ _ h => h, (.inr ⟨rfl, rfl⟩), rfl, ?_⟩
        refine takeH (o := ?o13) 12 (undef) ?h13 ?r13
        case h13 => simp only [aT, aS, aZ]; rfl
        refine ⟨_, by simp [Act.put]; rfl, by kernel_rfl, by kernel_rfl, by kernel_rfl, fun _ _ _ h => h, (.inr ⟨rfl, rfl⟩), rfl, ?_⟩
        refine takeH (o := ?o14) 13 (undef) ?h14 ?r14
        case h14 => simp only [aT, aS, aZ]; rfl
        refine ⟨_, by simp [Act.put]; rfl, by kernel_rfl, by kernel_rfl, by kernel_rfl, fun _ _ _ h => h, (.inr ⟨rfl, rfl⟩), rfl, ?_⟩
        refine takeH (o := ?o15) 14 (undef) ?h15 ?r15
        case h15 => simp only [aT, aS, aZ]; rfl
        refine ⟨_, by simp [Act.put]; rfl, by kernel_rfl, by kernel_rfl, by kernel_rfl, fun _ _ _ h => h, (.inr ⟨rfl, rfl⟩), rfl, ?_⟩
        refine takeH (o := ?o16) 15 (undef) ?h16 ?r16
        case h16 => simp only [aT, aS, aZ]; rfl
        refine ⟨_, by simp [Act.put]; rfl, by kernel_rfl, by kernel_rfl, by kernel_rfl, fun _ _ _ h => h, (.inr ⟨rfl, rfl⟩), rfl, ?_⟩
        refine takeH (o := ?o17) 16 (undef) ?h17 ?r17
        case h17 => simp only [aT, aS, aZ]; rfl
        refine ⟨_, by simp [Act.put]; rfl, by kernel_rfl, by kernel_rfl, by kernel_rfl, fun _ _ _ h => h, (.inr ⟨rfl, rfl⟩), rfl, ?_⟩
        refine takeH (o := ?o18) 17 (.bool false) ?h18 ?r18
        case h18 => simp only [aT, aS, aZ]; rfl
        refine ⟨_, by simp [Act.put]; rfl, by kernel_rfl, by kernel_rfl, by kernel_rfl, fun _ _ _ h => h, (.inl ⟨rfl, fun W _ => by kernel_rfl⟩), rfl, ?_⟩
        refine wpAnyH_done (by kernel_rfl) ?_ _
        clear c0 c1 e0 e1
        go_wp2_with fail
        have HGe : Hid (GrowL enK 33 M lo n (.slice (some ⟨g, 0, none⟩) n kc) vs GG Y0.drew ∧ Blk Y0.drew w.heap.size es 33 ∧ Below w.heap.size w Y0.drew) := ⟨HGd.out.1.below (Below.refl _ _).drew, HGd.out.2.1.below (Below.refl _ _).drew, Below.next HGd.out.2.2 (Below.refl _ _).drew⟩
        have HYe : Hid (RdE Y0.drew (.agg cs) y Fi ∧ ∀ j, j < 10 → Y0.drew.cell? ⟨g, k * 10 + j, none⟩ = cs[j]?) := ⟨HYd.out.1.below (Below.refl _ _).drew, HYd.out.2⟩
        obtain ⟨Y1, hY1⟩ : ∃ Y, Y = Y0.drew := ⟨_, rfl⟩
        rw [← hY1] at HGe HYe
        clear HGd HYd
        have c0 : Y1.cell? ⟨g, k * 10, none⟩ = some (.int .i64 y.key) := (HYe.out.2 0 (by decide)).trans HY.out.2.2.2.2.1
        have c1 : Y1.cell? ⟨g, k * 10 + 1, none⟩ = some (.int .i64 y.window) := (HYe.out.2 1 (by decide)).trans HY.out.2.2.2.2.2.1
        have e0 : Y1.cell? ⟨w.heap.size, 0, none⟩ = some (.int .i64 e.key) := (HGe.out.2.1.cell 0).trans HE.out.2.2.1
        have e1 : Y1.cell? ⟨w.heap.size, 1, none⟩ = some (.int .i64 e.window) := (HGe.out.2.1.cell 1).trans HE.out.2.2.2
        by_cases g1 : e.key < y.key
        · have g1b : decide (y.key > e.key) = true := by simpa using g1
          refine wp_region_held (S := fun W => W = Y1) (by kernel_rfl) ?_
          change wpAnyH _ _ _ _ _ _ _ _ (World.drew _)
          rw [← hY1]
          clear hY1
          refine takeH (o := ?o19) 0 (.slice (some ⟨g, 0, none⟩) n kc) ?h19 ?r19
          case h19 => simp only [aT, aZ]; rfl
          refine ⟨_, by simp [Act.put]; rfl, by kernel_rfl, by kernel_rfl, by kernel_rfl, fun _ _ _ h => h, (.inl ⟨rfl, fun W _ => by kernel_rfl⟩), rfl, ?_⟩
          refine takeH (o := ?o20) 1 (.int .i64 k) ?h20 ?r20
          case h20 => simp only [aT, aS, aZ]; rfl
          refine ⟨_, by simp [Act.put]; rfl, by kernel_rfl, by kernel_rfl, by kernel_rfl, fun _ _ _ h => h, (.inl ⟨rfl, fun W _ => by kernel_rfl⟩), rfl, ?_⟩
          refine takeH (o := ?o21) 2 (.pointer (some ⟨g, k * 10, none⟩)) ?h21 ?r21
          case h21 => simp only [aT, aS, aZ]; rfl
          refine ⟨_, by simp [Act.put]; rfl, by kernel_rfl, by kernel_rfl, by kernel_rfl, fun _ _ _ h => h, (.inl ⟨rfl, fun W _ => by go_simp; first | done | (intro h; omega) | (rw [if_pos (by omega)]; rfl)⟩), rfl, ?_⟩
          refine takeH (o := ?o22) 3 (.pointer (some ⟨g, k * 10, none⟩)) ?h22 ?r22
          case h22 => simp only [aT, aS, aZ]; rfl
          refine ⟨_, by simp [Act.put]; rfl, by kernel_rfl, by kernel_rfl, by kernel_rfl, fun _ _ _ h => h, (.inl ⟨rfl, fun W _ => by kernel_rfl⟩), rfl, ?_⟩
          refine takeH (o := ?o23) 4 (.int .i64 y.key) ?h23 ?r23
          case h23 => simp only [aT, aS, aZ]; rfl
          refine ⟨_, by simp [Act.put]; rfl, by kernel_rfl, by kernel_rfl, by kernel_rfl, fun _ _ _ h => h, (.inl ⟨rfl, fun W hW => by rw [hW]; go_simp⟩), rfl, ?_⟩
          refine takeH (o := ?o24) 5 (.pointer (some ⟨w.heap.size, 0, none⟩)) ?h24 ?r24
          case h24 => simp only [aT, aS, aZ]; rfl
          refine ⟨_, by simp [Act.put]; rfl, by kernel_rfl, by kernel_rfl, by kernel_rfl, fun _ _ _ h => h, (.inl ⟨rfl, fun W _ => by kernel_rfl⟩), rfl, ?_⟩
          refine takeH (o := ?o25) 6 (.int .i64 e.key) ?h25 ?r25
          case h25 => simp only [aT, aS, aZ]; rfl
          refine ⟨_, by simp [Act.put]; rfl, by kernel_rfl, by kernel_rfl, by kernel_rfl, fun _ _ _ h => h, (.inl ⟨rfl, fun W hW => by rw [hW]; go_simp⟩), rfl, ?_⟩
          refine takeH (o := ?o26) 7 (.bool true) ?h26 ?r26
          case h26 => simp only [aT, aS, aZ]; rfl
          refine ⟨_, by simp [Act.put]; rfl, by kernel_rfl, by kernel_rfl, by kernel_rfl, fun _ _ _ h => h, (.inl ⟨rfl, fun W _ => by go_simp⟩), rfl, ?_⟩
          refine takeH (o := ?o27) 8 (.bool true) ?h27 ?r27
          case h27 => simp only [aT, aS, aZ]; rfl
          refine ⟨_, by simp [Act.put]; rfl, by kernel_rfl, by kernel_rfl, by kernel_rfl, fun _ _ _ h => h, (.inl ⟨rfl, fun W _ => by kernel_rfl⟩), rfl, ?_⟩
          refine takeH (o := ?o28) 9 (undef) ?h28 ?r28
          case h28 => simp only [aT, aS, aZ]; rfl
          refine ⟨_, by simp [Act.put]; rfl, by kernel_rfl, by kernel_rfl, by kernel_rfl, fun _ _ _ h => h, (.inr ⟨rfl, rfl⟩), rfl, ?_⟩
          refine takeH (o := ?o29) 10 (undef) ?h29 ?r29
          case h29 => simp only [aT, aS, aZ]; rfl
          refine ⟨_, by simp [Act.put]; rfl, by kernel_rfl, by kernel_rfl, by kernel_rfl, fun _ _ _ h => h, (.inr ⟨rfl, rfl⟩), rfl, ?_⟩
          refine takeH (o := ?o30) 11 (undef) ?h30 ?r30
          case h30 => simp only [aT, aS, aZ]; rfl
          refine ⟨_, by simp [Act.put]; rfl, by kernel_rfl, by kernel_rfl, by kernel_rfl, fun _ _ _ h => h, (.inr ⟨rfl, rfl⟩), rfl, ?_⟩
          refine takeH (o := ?o31) 12 (undef) ?h31 ?r31
          case h31 => simp only [aT, aS, aZ]; rfl
          refine ⟨_, by simp [Act.put]; rfl, by kernel_rfl, by kernel_rfl, by kernel_rfl, fun _ _ _ h => h, (.inr ⟨rfl, rfl⟩), rfl, ?_⟩
          refine takeH (o := ?o32) 13 (undef) ?h32 ?r32
          case h32 => simp only [aT, aS, aZ]; rfl
          refine ⟨_, by simp [Act.put]; rfl, by kernel_rfl, by kernel_rfl, by kernel_rfl, fun _ _ _ h => h, (.inr ⟨rfl, rfl⟩), rfl, ?_⟩
          refine takeH (o := ?o33) 14 (undef) ?h33 ?r33
          case h33 => simp only [aT, aS, aZ]; rfl
          refine ⟨_, by simp [Act.put]; rfl, by kernel_rfl, by kernel_rfl, by kernel_rfl, fun _ _ _ h => h, (.inr ⟨rfl, rfl⟩), rfl, ?_⟩
          refine takeH (o := ?o34) 15 (undef) ?h34 ?r34
          case h34 => simp only [aT, aS, aZ]; rfl
          refine ⟨_, by simp [Act.put]; rfl, by kernel_rfl, by kernel_rfl, by kernel_rfl, fun _ _ _ h => h, (.inr ⟨rfl, rfl⟩), rfl, ?_⟩
          refine takeH (o := ?o35) 16 (undef) ?h35 ?r35
          case h35 => simp only [aT, aS, aZ]; rfl
          refine ⟨_, by simp [Act.put]; rfl, by kernel_rfl, by kernel_rfl, by kernel_rfl, fun _ _ _ h => h, (.inr ⟨rfl, rfl⟩), rfl, ?_⟩
          refine takeH (o := ?o36) 17 (undef) ?h36 ?r36
          case h36 => simp only [aT, aS, aZ]; rfl
          refine ⟨_, by simp [Act.put]; rfl, by kernel_rfl, by kernel_rfl, by kernel_rfl, fun _ _ _ h => h, (.inr ⟨rfl, rfl⟩), rfl, ?_⟩
          refine takeH (o := ?o37) 18 (undef) ?h37 ?r37
          case h37 => simp only [aT, aS, aZ]; rfl
          refine ⟨_, by simp [Act.put]; rfl, by kernel_rfl, by kernel_rfl, by kernel_rfl, fun _ _ _ h => h, (.inr ⟨rfl, rfl⟩), rfl, ?_⟩
          refine takeH (o := ?o38) 19 (undef) ?h38 ?r38
          case h38 => simp only [aT, aS, aZ]; rfl
          refine ⟨_, by simp [Act.put]; rfl, by kernel_rfl, by kernel_rfl, by kernel_rfl, fun _ _ _ h => h, (.inr ⟨rfl, rfl⟩), rfl, ?_⟩
          refine takeH (o := ?o39) 20 (undef) ?h39 ?r39
          case h39 => simp only [aT, aS, aZ]; rfl
          refine ⟨_, by simp [Act.put]; rfl, by kernel_rfl, by kernel_rfl, by kernel_rfl, fun _ _ _ h => h, (.inr ⟨rfl, rfl⟩), rfl, ?_⟩
          refine takeH (o := ?o40) 21 (undef) ?h40 ?r40
          case h40 => simp only [aT, aS, aZ]; rfl
          refine ⟨_, by simp [Act.put]; rfl, by kernel_rfl, by kernel_rfl, by kernel_rfl, fun _ _ _ h => h, (.inr ⟨rfl, rfl⟩), rfl, ?_⟩
          refine takeH (o := ?o41) 22 (undef) ?h41 ?r41
          case h41 => simp only [aT, aS, aZ]; rfl
          refine ⟨_, by simp [Act.put]; rfl, by kernel_rfl, by kernel_rfl, by kernel_rfl, fun _ _ _ h => h, (.inr ⟨rfl, rfl⟩), rfl, ?_⟩
          refine takeH (o := ?o42) 23 (undef) ?h42 ?r42
          case h42 => simp only [aT, aS, aZ]; rfl
          refine ⟨_, by simp [Act.put]; rfl, by kernel_rfl, by kernel_rfl, by kernel_rfl, fun _ _ _ h => h, (.inr ⟨rfl, rfl⟩), rfl, ?_⟩
          refine takeH (o := ?o43) 24 (undef) ?h43 ?r43
          case h43 => simp only [aT, aS, aZ]; rfl
          refine ⟨_, by simp [Act.put]; rfl, by kernel_rfl, by kernel_rfl, by kernel_rfl, fun _ _ _ h => h, (.inr ⟨rfl, rfl⟩), rfl, ?_⟩
          refine takeH (o := ?o44) 25 (undef) ?h44 ?r44
          case h44 => simp only [aT, aS, aZ]; rfl
          refine ⟨_, by simp [Act.put]; rfl, by kernel_rfl, by kernel_rfl, by kernel_rfl, fun _ _ _ h => h, (.inr ⟨rfl, rfl⟩), rfl, ?_⟩
          refine takeH (o := ?o45) 26 (undef) ?h45 ?r45
          case h45 => simp only [aT, aS, aZ]; rfl
          refine ⟨_, by simp [Act.put]; rfl, by kernel_rfl, by kernel_rfl, by kernel_rfl, fun _ _ _ h => h, (.inr ⟨rfl, rfl⟩), rfl, ?_⟩
          refine takeH (o := ?o46) 27 (.bool true) ?h46 ?r46
          case h46 => simp only [aT, aS, aZ]; rfl
          refine ⟨_, by simp [Act.put]; rfl, by kernel_rfl, by kernel_rfl, by kernel_rfl, fun _ _ _ h => h, (.inl ⟨rfl, fun W _ => by kernel_rfl⟩), rfl, ?_⟩
          refine wpAnyH_done (by kernel_rfl) ?_ _
          clear c0 c1 e0 e1
          clear g1b
          have HT2 : Hid (∀ z ∈ M.drop k, samePlace z e = false) := by
            show ∀ z ∈ M.drop k, _
            obtain ⟨hk9, hy9⟩ := List.getElem?_eq_some_iff.1 HY.out.1
            rw [List.drop_eq_getElem_cons hk9, hy9]
            intro z hz
            rcases List.mem_cons.1 hz with rfl | hz
            · show (_ && _) = false
              rw [hk1]; rfl
            · exact HT.out z hz
          have hp : placeLt e y = true := by rw [placeLt_iff]; exact .inl g1
          have HA2 : Hid (atFrom M e k = k) := by show _ = _; rw [atFrom_step HY.out.1, hp]; rfl
          clear hp
          go_wp2
          go_roundw
          case rel => exact ⟨k, by omega, by rw [HA2.out], by go_num, HT2, HGe⟩
          case measure => simp [intOf] <;> omega
        · have g1b : decide (y.key > e.key) = false := by simpa using g1
          refine wp_region_held (S := fun W => W = Y1) (by kernel_rfl) ?_
          change wpAnyH _ _ _ _ _ _ _ _ (World.drew _)
          rw [← hY1]
          clear hY1
          refine takeH (o := ?o47) 0 (.slice (some ⟨g, 0, none⟩) n kc) ?h47 ?r47
          case h47 => simp only [aT, aZ]; rfl
          refine ⟨_, by simp [Act.put]; rfl, by kernel_rfl, by kernel_rfl, by kernel_rfl, fun _ _ _ h => h, (.inl ⟨rfl, fun W _ => by kernel_rfl⟩), rfl, ?_⟩
          refine takeH (o := ?o48) 1 (.int .i64 k) ?h48 ?r48
          case h48 => simp only [aT, aS, aZ]; rfl
          refine ⟨_, by simp [Act.put]; rfl, by kernel_rfl, by kernel_rfl, by kernel_rfl, fun _ _ _ h => h, (.inl ⟨rfl, fun W _ => by kernel_rfl⟩), rfl, ?_⟩
          refine takeH (o := ?o49) 2 (.pointer (some ⟨g, k * 10, none⟩)) ?h49 ?r49
          case h49 => simp only [aT, aS, aZ]; rfl
          refine ⟨_, by simp [Act.put]; rfl, by kernel_rfl, by kernel_rfl, by kernel_rfl, fun _ _ _ h => h, (.inl ⟨rfl, fun W _ => by go_simp; first | done | (intro h; omega) | (rw [if_pos (by omega)]; rfl)⟩), rfl, ?_⟩
          refine takeH (o := ?o50) 3 (.pointer (some ⟨g, k * 10, none⟩)) ?h50 ?r50
          case h50 => simp only [aT, aS, aZ]; rfl
          refine ⟨_, by simp [Act.put]; rfl, by kernel_rfl, by kernel_rfl, by kernel_rfl, fun _ _ _ h => h, (.inl ⟨rfl, fun W _ => by kernel_rfl⟩), rfl, ?_⟩
          refine takeH (o := ?o51) 4 (.int .i64 y.key) ?h51 ?r51
          case h51 => simp only [aT, aS, aZ]; rfl
          refine ⟨_, by simp [Act.put]; rfl, by kernel_rfl, by kernel_rfl, by kernel_rfl, fun _ _ _ h => h, (.inl ⟨rfl, fun W hW => by rw [hW]; go_simp⟩), rfl, ?_⟩
          refine takeH (o := ?o52) 5 (.pointer (some ⟨w.heap.size, 0, none⟩)) ?h52 ?r52
          case h52 => simp only [aT, aS, aZ]; rfl
          refine ⟨_, by simp [Act.put]; rfl, by kernel_rfl, by kernel_rfl, by kernel_rfl, fun _ _ _ h => h, (.inl ⟨rfl, fun W _ => by kernel_rfl⟩), rfl, ?_⟩
          refine takeH (o := ?o53) 6 (.int .i64 e.key) ?h53 ?r53
          case h53 => simp only [aT, aS, aZ]; rfl
          refine ⟨_, by simp [Act.put]; rfl, by kernel_rfl, by kernel_rfl, by kernel_rfl, fun _ _ _ h => h, (.inl ⟨rfl, fun W hW => by rw [hW]; go_simp⟩), rfl, ?_⟩
          refine takeH (o := ?o54) 7 (.bool false) ?h54 ?r54
          case h54 => simp only [aT, aS, aZ]; rfl
          refine ⟨_, by simp [Act.put]; rfl, by kernel_rfl, by kernel_rfl, by kernel_rfl, fun _ _ _ h => h, (.inl ⟨rfl, fun W _ => by go_simp⟩), rfl, ?_⟩
          refine takeH (o := ?o55) 8 (.bool false) ?h55 ?r55
          case h55 => simp only [aT, aS, aZ]; rfl
          refine ⟨_, by simp [Act.put]; rfl, by kernel_rfl, by kernel_rfl, by kernel_rfl, fun _ _ _ h => h, (.inl ⟨rfl, fun W _ => by kernel_rfl⟩), rfl, ?_⟩
          refine takeH (o := ?o56) 9 (.slice (some ⟨g, 0, none⟩) n kc) ?h56 ?r56
          case h56 => simp only [aT, aS, aZ]; rfl
          refine ⟨_, by simp [Act.put]; rfl, by kernel_rfl, by kernel_rfl, by kernel_rfl, fun _ _ _ h => h, (.inl ⟨rfl, fun W _ => by kernel_rfl⟩), rfl, ?_⟩
          refine takeH (o := ?o57) 10 (.int .i64 k) ?h57 ?r57
          case h57 => simp only [aT, aS, aZ]; rfl
          refine ⟨_, by simp [Act.put]; rfl, by kernel_rfl, by kernel_rfl, by kernel_rfl, fun _ _ _ h => h, (.inl ⟨rfl, fun W _ => by kernel_rfl⟩), rfl, ?_⟩
          refine takeH (o := ?o58) 11 (.pointer (some ⟨g, k * 10, none⟩)) ?h58 ?r58
          case h58 => simp only [aT, aS, aZ]; rfl
          refine ⟨_, by simp [Act.put]; rfl, by kernel_rfl, by kernel_rfl, by kernel_rfl, fun _ _ _ h => h, (.inl ⟨rfl, fun W _ => by go_simp; first | done | (intro h; omega) | (rw [if_pos (by omega)]; rfl)⟩), rfl, ?_⟩
          refine takeH (o := ?o59) 12 (.pointer (some ⟨g, k * 10, none⟩)) ?h59 ?r59
          case h59 => simp only [aT, aS, aZ]; rfl
          refine ⟨_, by simp [Act.put]; rfl, by kernel_rfl, by kernel_rfl, by kernel_rfl, fun _ _ _ h => h, (.inl ⟨rfl, fun W _ => by kernel_rfl⟩), rfl, ?_⟩
          refine takeH (o := ?o60) 13 (.int .i64 y.key) ?h60 ?r60
          case h60 => simp only [aT, aS, aZ]; rfl
          refine ⟨_, by simp [Act.put]; rfl, by kernel_rfl, by kernel_rfl, by kernel_rfl, fun _ _ _ h => h, (.inl ⟨rfl, fun W hW => by rw [hW]; go_simp⟩), rfl, ?_⟩
          refine takeH (o := ?o61) 14 (.pointer (some ⟨w.heap.size, 0, none⟩)) ?h61 ?r61
          case h61 => simp only [aT, aS, aZ]; rfl
          refine ⟨_, by simp [Act.put]; rfl, by kernel_rfl, by kernel_rfl, by kernel_rfl, fun _ _ _ h => h, (.inl ⟨rfl, fun W _ => by kernel_rfl⟩), rfl, ?_⟩
          refine takeH (o := ?o62) 15 (.int .i64 e.key) ?h62 ?r62
          case h62 => simp only [aT, aS, aZ]; rfl
          refine ⟨_, by simp [Act.put]; rfl, by kernel_rfl, by kernel_rfl, by kernel_rfl, fun _ _ _ h => h, (.inl ⟨rfl, fun W hW => by rw [hW]; go_simp⟩), rfl, ?_⟩
          refine takeH (o := ?o63) 16 (.bool false) ?h63 ?r63
          case h63 => simp only [aT, aS, aZ]; rfl
          refine ⟨_, by simp [Act.put]; rfl, by kernel_rfl, by kernel_rfl, by kernel_rfl, fun _ _ _ h => h, (.inl ⟨rfl, fun W _ => by go_simp⟩), rfl, ?_⟩
          refine takeH (o := ?o64) 17 (.bool false) ?h64 ?r64
          case h64 => simp only [aT, aS, aZ]; rfl
          refine ⟨_, by simp [Act.put]; rfl, by kernel_rfl, by kernel_rfl, by kernel_rfl, fun _ _ _ h => h, (.inl ⟨rfl, fun W _ => by kernel_rfl⟩), rfl, ?_⟩
          refine takeH (o := ?o65) 18 (undef) ?h65 ?r65
          case h65 => simp only [aT, aS, aZ]; rfl
          refine ⟨_, by simp [Act.put]; rfl, by kernel_rfl, by kernel_rfl, by kernel_rfl, fun _ _ _ h => h, (.inr ⟨rfl, rfl⟩), rfl, ?_⟩
          refine takeH (o := ?o66) 19 (undef) ?h66 ?r66
          case h66 => simp only [aT, aS, aZ]; rfl
          refine ⟨_, by simp [Act.put]; rfl, by kernel_rfl, by kernel_rfl, by kernel_rfl, fun _ _ _ h => h, (.inr ⟨rfl, rfl⟩), rfl, ?_⟩
          refine takeH (o := ?o67) 20 (undef) ?h67 ?r67
          case h67 => simp only [aT, aS, aZ]; rfl
          refine ⟨_, by simp [Act.put]; rfl, by kernel_rfl, by kernel_rfl, by kernel_rfl, fun _ _ _ h => h, (.inr ⟨rfl, rfl⟩), rfl, ?_⟩
          refine takeH (o := ?o68) 21 (undef) ?h68 ?r68
          case h68 => simp only [aT, aS, aZ]; rfl
          refine ⟨_, by simp [Act.put]; rfl, by kernel_rfl, by kernel_rfl, by kernel_rfl, fun _ _ _ h => h, (.inr ⟨rfl, rfl⟩), rfl, ?_⟩
          refine takeH (o := ?o69) 22 (undef) ?h69 ?r69
          case h69 => simp only [aT, aS, aZ]; rfl
          refine ⟨_, by simp [Act.put]; rfl, by kernel_rfl, by kernel_rfl, by kernel_rfl, fun _ _ _ h => h, (.inr ⟨rfl, rfl⟩), rfl, ?_⟩
          refine takeH (o := ?o70) 23 (undef) ?h70 ?r70
          case h70 => simp only [aT, aS, aZ]; rfl
          refine ⟨_, by simp [Act.put]; rfl, by kernel_rfl, by kernel_rfl, by kernel_rfl, fun _ _ _ h => h, (.inr ⟨rfl, rfl⟩), rfl, ?_⟩
          refine takeH (o := ?o71) 24 (undef) ?h71 ?r71
          case h71 => simp only [aT, aS, aZ]; rfl
          refine ⟨_, by simp [Act.put]; rfl, by kernel_rfl, by kernel_rfl, by kernel_rfl, fun _ _ _ h => h, (.inr ⟨rfl, rfl⟩), rfl, ?_⟩
          refine takeH (o := ?o72) 25 (undef) ?h72 ?r72
          case h72 => simp only [aT, aS, aZ]; rfl
          refine ⟨_, by simp [Act.put]; rfl, by kernel_rfl, by kernel_rfl, by kernel_rfl, fun _ _ _ h => h, (.inr ⟨rfl, rfl⟩), rfl, ?_⟩
          refine takeH (o := ?o73) 26 (.bool false) ?h73 ?r73
          case h73 => simp only [aT, aS, aZ]; rfl
          refine ⟨_, by simp [Act.put]; rfl, by kernel_rfl, by kernel_rfl, by kernel_rfl, fun _ _ _ h => h, (.inl ⟨rfl, fun W _ => by kernel_rfl⟩), rfl, ?_⟩
          refine takeH (o := ?o74) 27 (.bool false) ?h74 ?r74
          case h74 => simp only [aT, aS, aZ]; rfl
          refine ⟨_, by simp [Act.put]; rfl, by kernel_rfl, by kernel_rfl, by kernel_rfl, fun _ _ _ h => h, (.inl ⟨rfl, fun W _ => by kernel_rfl⟩), rfl, ?_⟩
          refine wpAnyH_done (by kernel_rfl) ?_ _
          clear c0 c1 e0 e1
          clear g1b
          have HT2 : Hid (∀ z ∈ M.drop k, samePlace z e = false) := by
            show ∀ z ∈ M.drop k, _
            obtain ⟨hk9, hy9⟩ := List.getElem?_eq_some_iff.1 HY.out.1
            rw [List.drop_eq_getElem_cons hk9, hy9]
            intro z hz
            rcases List.mem_cons.1 hz with rfl | hz
            · show (_ && _) = false
              rw [hk1]; rfl
            · exact HT.out z hz
          have hp : placeLt e y = false := by cases h9 : placeLt e y; rfl; rw [placeLt_iff] at h9; have h8 : ¬ y.key = e.key := (by simpa using hk1); omega
          have HA2 : Hid (atFrom M e k = c) := by show _ = _; rw [atFrom_step HY.out.1, hp]; exact HA.out.symm
          clear hp
          go_wp2
          go_roundw
          case rel => exact ⟨k, by omega, by rw [HA2.out], by go_num, HT2, HGe⟩
          case measure => simp [intOf] <;> omega
      · have hk1 : (y.key == e.key) = true := hd1.symm
        clear hd1
        cases d2
        · have hk2 : (y.window == e.window) = false := hd2.symm
          clear hd2
          refine wp_region_held (S := fun W => W = Y0) (by kernel_rfl) ?_
          change wpAnyH _ _ _ _ _ _ _ _ (World.drew _)
          rw [← hY0]
          clear hY0
          refine takeH (o := ?o75) 0 (.slice (some ⟨g, 0, none⟩) n kc) ?h75 ?r75
          case h75 => simp only [aT, aZ]; rfl
          refine ⟨_, by simp [Act.put]; rfl, by kernel_rfl, by kernel_rfl, by kernel_rfl, fun _ _ _ h => h, (.inl ⟨rfl, fun W _ => by kernel_rfl⟩), rfl, ?_⟩
          refine takeH (o := ?o76) 1 (.int .i64 k) ?h76 ?r76
          case h76 => simp only [aT, aS, aZ]; rfl
          refine ⟨_, by simp [Act.put]; rfl, by kernel_rfl, by kernel_rfl, by kernel_rfl, fun _ _ _ h => h, (.inl ⟨rfl, fun W _ => by kernel_rfl⟩), rfl, ?_⟩
          refine takeH (o := ?o77) 2 (.pointer (some ⟨g, k * 10, none⟩)) ?h77 ?r77
          case h77 => simp only [aT, aS, aZ]; rfl
          refine ⟨_, by simp [Act.put]; rfl, by kernel_rfl, by kernel_rfl, by kernel_rfl, fun _ _ _ h => h, (.inl ⟨rfl, fun W _ => by go_simp; first | done | (intro h; omega) | (rw [if_pos (by omega)]; rfl)⟩), rfl, ?_⟩
          refine takeH (o := ?o78) 3 (.pointer (some ⟨g, k * 10, none⟩)) ?h78 ?r78
          case h78 => simp only [aT, aS, aZ]; rfl
          refine ⟨_, by simp [Act.put]; rfl, by kernel_rfl, by kernel_rfl, by kernel_rfl, fun _ _ _ h => h, (.inl ⟨rfl, fun W _ => by kernel_rfl⟩), rfl, ?_⟩
          refine takeH (o := ?o79) 4 (.int .i64 y.key) ?h79 ?r79
          case h79 => simp only [aT, aS, aZ]; rfl
          refine ⟨_, by simp [Act.put]; rfl, by kernel_rfl, by kernel_rfl, by kernel_rfl, fun _ _ _ h => h, (.inl ⟨rfl, fun W hW => by rw [hW]; go_simp⟩), rfl, ?_⟩
          refine takeH (o := ?o80) 5 (.pointer (some ⟨w.heap.size, 0, none⟩)) ?h80 ?r80
          case h80 => simp only [aT, aS, aZ]; rfl
          refine ⟨_, by simp [Act.put]; rfl, by kernel_rfl, by kernel_rfl, by kernel_rfl, fun _ _ _ h => h, (.inl ⟨rfl, fun W _ => by kernel_rfl⟩), rfl, ?_⟩
          refine takeH (o := ?o81) 6 (.int .i64 e.key) ?h81 ?r81
          case h81 => simp only [aT, aS, aZ]; rfl
          refine ⟨_, by simp [Act.put]; rfl, by kernel_rfl, by kernel_rfl, by kernel_rfl, fun _ _ _ h => h, (.inl ⟨rfl, fun W hW => by rw [hW]; go_simp⟩), rfl, ?_⟩
          refine takeH (o := ?o82) 7 (.bool true) ?h82 ?r82
          case h82 => simp only [aT, aS, aZ]; rfl
          refine ⟨_, by simp [Act.put]; rfl, by kernel_rfl, by kernel_rfl, by kernel_rfl, fun _ _ _ h => h, (.inl ⟨rfl, fun W _ => by go_simp⟩), rfl, ?_⟩
          refine takeH (o := ?o83) 8 (.bool true) ?h83 ?r83
          case h83 => simp only [aT, aS, aZ]; rfl
          refine ⟨_, by simp [Act.put]; rfl, by kernel_rfl, by kernel_rfl, by kernel_rfl, fun _ _ _ h => h, (.inl ⟨rfl, fun W _ => by kernel_rfl⟩), rfl, ?_⟩
          refine takeH (o := ?o84) 9 (.slice (some ⟨g, 0, none⟩) n kc) ?h84 ?r84
          case h84 => simp only [aT, aS, aZ]; rfl
          refine ⟨_, by simp [Act.put]; rfl, by kernel_rfl, by kernel_rfl, by kernel_rfl, fun _ _ _ h => h, (.inl ⟨rfl, fun W _ => by kernel_rfl⟩), rfl, ?_⟩
          refine takeH (o := ?o85) 10 (.int .i64 k) ?h85 ?r85
          case h85 => simp only [aT, aS, aZ]; rfl
          refine ⟨_, by simp [Act.put]; rfl, by kernel_rfl, by kernel_rfl, by kernel_rfl, fun _ _ _ h => h, (.inl ⟨rfl, fun W _ => by kernel_rfl⟩), rfl, ?_⟩
          refine takeH (o := ?o86) 11 (.pointer (some ⟨g, k * 10, none⟩)) ?h86 ?r86
          case h86 => simp only [aT, aS, aZ]; rfl
          refine ⟨_, by simp [Act.put]; rfl, by kernel_rfl, by kernel_rfl, by kernel_rfl, fun _ _ _ h => h, (.inl ⟨rfl, fun W _ => by go_simp; first | done | (intro h; omega) | (rw [if_pos (by omega)]; rfl)⟩), rfl, ?_⟩
          refine takeH (o := ?o87) 12 (.pointer (some ⟨g, k * 10 + 1, none⟩)) ?h87 ?r87
          case h87 => simp only [aT, aS, aZ]; rfl
          refine ⟨_, by simp [Act.put]; rfl, by kernel_rfl, by kernel_rfl, by kernel_rfl, fun _ _ _ h => h, (.inl ⟨rfl, fun W _ => by kernel_rfl⟩), rfl, ?_⟩
          refine takeH (o := ?o88) 13 (.int .i64 y.window) ?h88 ?r88
          case h88 => simp only [aT, aS, aZ]; rfl
          refine ⟨_, by simp [Act.put]; rfl, by kernel_rfl, by kernel_rfl, by kernel_rfl, fun _ _ _ h => h, (.inl ⟨rfl, fun W hW => by rw [hW]; go_simp⟩), rfl, ?_⟩
          refine takeH (o := ?o89) 14 (.pointer (some ⟨w.heap.size, 1, none⟩)) ?h89 ?r89
          case h89 => simp only [aT, aS, aZ]; rfl
          refine ⟨_, by simp [Act.put]; rfl, by kernel_rfl, by kernel_rfl, by kernel_rfl, fun _ _ _ h => h, (.inl ⟨rfl, fun W _ => by kernel_rfl⟩), rfl, ?_⟩
          refine takeH (o := ?o90) 15 (.int .i64 e.window) ?h90 ?r90
          case h90 => simp only [aT, aS, aZ]; rfl
          refine ⟨_, by simp [Act.put]; rfl, by kernel_rfl, by kernel_rfl, by kernel_rfl, fun _ _ _ h => h, (.inl ⟨rfl, fun W hW => by rw [hW]; go_simp⟩), rfl, ?_⟩
          refine takeH (o := ?o91) 16 (.bool false) ?h91 ?r91
          case h91 => simp only [aT, aS, aZ]; rfl
          refine ⟨_, by simp [Act.put]; rfl, by kernel_rfl, by kernel_rfl, by kernel_rfl, fun _ _ _ h => h, (.inl ⟨rfl, fun W _ => by go_simp⟩), rfl, ?_⟩
          refine takeH (o := ?o92) 17 (.bool false) ?h92 ?r92
          case h92 => simp only [aT, aS, aZ]; rfl
          refine ⟨_, by simp [Act.put]; rfl, by kernel_rfl, by kernel_rfl, by kernel_rfl, fun _ _ _ h => h, (.inl ⟨rfl, fun W _ => by kernel_rfl⟩), rfl, ?_⟩
          refine wpAnyH_done (by kernel_rfl) ?_ _
          clear c0 c1 e0 e1
          go_wp2_with fail
          have HGe : Hid (GrowL enK 33 M lo n (.slice (some ⟨g, 0, none⟩) n kc) vs GG Y0.drew ∧ Blk Y0.drew w.heap.size es 33 ∧ Below w.heap.size w Y0.drew) := ⟨HGd.out.1.below (Below.refl _ _).drew, HGd.out.2.1.below (Below.refl _ _).drew, Below.next HGd.out.2.2 (Below.refl _ _).drew⟩
          have HYe : Hid (RdE Y0.drew (.agg cs) y Fi ∧ ∀ j, j < 10 → Y0.drew.cell? ⟨g, k * 10 + j, none⟩ = cs[j]?) := ⟨HYd.out.1.below (Below.refl _ _).drew, HYd.out.2⟩
          obtain ⟨Y1, hY1⟩ : ∃ Y, Y = Y0.drew := ⟨_, rfl⟩
          rw [← hY1] at HGe HYe
          clear HGd HYd
          have c0 : Y1.cell? ⟨g, k * 10, none⟩ = some (.int .i64 y.key) := (HYe.out.2 0 (by decide)).trans HY.out.2.2.2.2.1
          have c1 : Y1.cell? ⟨g, k * 10 + 1, none⟩ = some (.int .i64 y.window) := (HYe.out.2 1 (by decide)).trans HY.out.2.2.2.2.2.1
          have e0 : Y1.cell? ⟨w.heap.size, 0, none⟩ = some (.int .i64 e.key) := (HGe.out.2.1.cell 0).trans HE.out.2.2.1
          have e1 : Y1.cell? ⟨w.heap.size, 1, none⟩ = some (.int .i64 e.window) := (HGe.out.2.1.cell 1).trans HE.out.2.2.2
          have h8 : y.key = e.key := by simpa using hk1
          have g1 : ¬ e.key < y.key := by omega
          have g1b : decide (y.key > e.key) = false := by simpa using g1
          clear h8
          by_cases g2 : e.window < y.window
          · have g2b : decide (y.window > e.window) = true := by simpa using g2
            refine wp_region_held (S := fun W => W = Y1) (by kernel_rfl) ?_
            change wpAnyH _ _ _ _ _ _ _ _ (World.drew _)
            rw [← hY1]
            clear hY1
            refine takeH (o := ?o93) 0 (.slice (some ⟨g, 0, none⟩) n kc) ?h93 ?r93
            case h93 => simp only [aT, aZ]; rfl
            refine ⟨_, by simp [Act.put]; rfl, by kernel_rfl, by kernel_rfl, by kernel_rfl, fun _ _ _ h => h, (.inl ⟨rfl, fun W _ => by kernel_rfl⟩), rfl, ?_⟩
            refine takeH (o := ?o94) 1 (.int .i64 k) ?h94 ?r94
            case h94 => simp only [aT, aS, aZ]; rfl
            refine ⟨_, by simp [Act.put]; rfl, by kernel_rfl, by kernel_rfl, by kernel_rfl, fun _ _ _ h => h, (.inl ⟨rfl, fun W _ => by kernel_rfl⟩), rfl, ?_⟩
            refine takeH (o := ?o95) 2 (.pointer (some ⟨g, k * 10, none⟩)) ?h95 ?r95
            case h95 => simp only [aT, aS, aZ]; rfl
            refine ⟨_, by simp [Act.put]; rfl, by kernel_rfl, by kernel_rfl, by kernel_rfl, fun _ _ _ h => h, (.inl ⟨rfl, fun W _ => by go_simp; first | done | (intro h; omega) | (rw [if_pos (by omega)]; rfl)⟩), rfl, ?_⟩
            refine takeH (o := ?o96) 3 (.pointer (some ⟨g, k * 10, none⟩)) ?h96 ?r96
            case h96 => simp only [aT, aS, aZ]; rfl
            refine ⟨_, by simp [Act.put]; rfl, by kernel_rfl, by kernel_rfl, by kernel_rfl, fun _ _ _ h => h, (.inl ⟨rfl, fun W _ => by kernel_rfl⟩), rfl, ?_⟩
            refine takeH (o := ?o97) 4 (.int .i64 y.key) ?h97 ?r97
            case h97 => simp only [aT, aS, aZ]; rfl
            refine ⟨_, by simp [Act.put]; rfl, by kernel_rfl, by kernel_rfl, by kernel_rfl, fun _ _ _ h => h, (.inl ⟨rfl, fun W hW => by rw [hW]; go_simp⟩), rfl, ?_⟩
            refine takeH (o := ?o98) 5 (.pointer (some ⟨w.heap.size, 0, none⟩)) ?h98 ?r98
            case h98 => simp only [aT, aS, aZ]; rfl
            refine ⟨_, by simp [Act.put]; rfl, by kernel_rfl, by kernel_rfl, by kernel_rfl, fun _ _ _ h => h, (.inl ⟨rfl, fun W _ => by kernel_rfl⟩), rfl, ?_⟩
            refine takeH (o := ?o99) 6 (.int .i64 e.key) ?h99 ?r99
            case h99 => simp only [aT, aS, aZ]; rfl
            refine ⟨_, by simp [Act.put]; rfl, by kernel_rfl, by kernel_rfl, by kernel_rfl, fun _ _ _ h => h, (.inl ⟨rfl, fun W hW => by rw [hW]; go_simp⟩), rfl, ?_⟩
            refine takeH (o := ?o100) 7 (.bool false) ?h100 ?r100
            case h100 => simp only [aT, aS, aZ]; rfl
            refine ⟨_, by simp [Act.put]; rfl, by kernel_rfl, by kernel_rfl, by kernel_rfl, fun _ _ _ h => h, (.inl ⟨rfl, fun W _ => by go_simp⟩), rfl, ?_⟩
            refine takeH (o := ?o101) 8 (.bool false) ?h101 ?r101
            case h101 => simp only [aT, aS, aZ]; rfl
            refine ⟨_, by simp [Act.put]; rfl, by kernel_rfl, by kernel_rfl, by kernel_rfl, fun _ _ _ h => h, (.inl ⟨rfl, fun W _ => by kernel_rfl⟩), rfl, ?_⟩
            refine takeH (o := ?o102) 9 (.slice (some ⟨g, 0, none⟩) n kc) ?h102 ?r102
            case h102 => simp only [aT, aS, aZ]; rfl
            refine ⟨_, by simp [Act.put]; rfl, by kernel_rfl, by kernel_rfl, by kernel_rfl, fun _ _ _ h => h, (.inl ⟨rfl, fun W _ => by kernel_rfl⟩), rfl, ?_⟩
            refine takeH (o := ?o103) 10 (.int .i64 k) ?h103 ?r103
            case h103 => simp only [aT, aS, aZ]; rfl
            refine ⟨_, by simp [Act.put]; rfl, by kernel_rfl, by kernel_rfl, by kernel_rfl, fun _ _ _ h => h, (.inl ⟨rfl, fun W _ => by kernel_rfl⟩), rfl, ?_⟩
            refine takeH (o := ?o104) 11 (.pointer (some ⟨g, k * 10, none⟩)) ?h104 ?r104
            case h104 => simp only [aT, aS, aZ]; rfl
            refine ⟨_, by simp [Act.put]; rfl, by kernel_rfl, by kernel_rfl, by kernel_rfl, fun _ _ _ h => h, (.inl ⟨rfl, fun W _ => by go_simp; first | done | (intro h; omega) | (rw [if_pos (by omega)]; rfl)⟩), rfl, ?_⟩
            refine takeH (o := ?o105) 12 (.pointer (some ⟨g, k * 10, none⟩)) ?h105 ?r105
            case h105 => simp only [aT, aS, aZ]; rfl
            refine ⟨_, by simp [Act.put]; rfl, by kernel_rfl, by kernel_rfl, by kernel_rfl, fun _ _ _ h => h, (.inl ⟨rfl, fun W _ => by kernel_rfl⟩), rfl, ?_⟩
            refine takeH (o := ?o106) 13 (.int .i64 y.key) ?h106 ?r106
            case h106 => simp only [aT, aS, aZ]; rfl
            refine ⟨_, by simp [Act.put]; rfl, by kernel_rfl, by kernel_rfl, by kernel_rfl, fun _ _ _ h => h, (.inl ⟨rfl, fun W hW => by rw [hW]; go_simp⟩), rfl, ?_⟩
            refine takeH (o := ?o107) 14 (.pointer (some ⟨w.heap.size, 0, none⟩)) ?h107 ?r107
            case h107 => simp only [aT, aS, aZ]; rfl
            refine ⟨_, by simp [Act.put]; rfl, by kernel_rfl, by kernel_rfl, by kernel_rfl, fun _ _ _ h => h, (.inl ⟨rfl, fun W _ => by kernel_rfl⟩), rfl, ?_⟩
            refine takeH (o := ?o108) 15 (.int .i64 e.key) ?h108 ?r108
            case h108 => simp only [aT, aS, aZ]; rfl
            refine ⟨_, by simp [Act.put]; rfl, by kernel_rfl, by kernel_rfl, by kernel_rfl, fun _ _ _ h => h, (.inl ⟨rfl, fun W hW => by rw [hW]; go_simp⟩), rfl, ?_⟩
            refine takeH (o := ?o109) 16 (.bool true) ?h109 ?r109
            case h109 => simp only [aT, aS, aZ]; rfl
            refine ⟨_, by simp [Act.put]; rfl, by kernel_rfl, by kernel_rfl, by kernel_rfl, fun _ _ _ h => h, (.inl ⟨rfl, fun W _ => by go_simp⟩), rfl, ?_⟩
            refine takeH (o := ?o110) 17 (.bool true) ?h110 ?r110
            case h110 => simp only [aT, aS, aZ]; rfl
            refine ⟨_, by simp [Act.put]; rfl, by kernel_rfl, by kernel_rfl, by kernel_rfl, fun _ _ _ h => h, (.inl ⟨rfl, fun W _ => by kernel_rfl⟩), rfl, ?_⟩
            refine takeH (o := ?o111) 18 (.slice (some ⟨g, 0, none⟩) n kc) ?h111 ?r111
            case h111 => simp only [aT, aS, aZ]; rfl
            refine ⟨_, by simp [Act.put]; rfl, by kernel_rfl, by kernel_rfl, by kernel_rfl, fun _ _ _ h => h, (.inl ⟨rfl, fun W _ => by kernel_rfl⟩), rfl, ?_⟩
            refine takeH (o := ?o112) 19 (.int .i64 k) ?h112 ?r112
            case h112 => simp only [aT, aS, aZ]; rfl
            refine ⟨_, by simp [Act.put]; rfl, by kernel_rfl, by kernel_rfl, by kernel_rfl, fun _ _ _ h => h, (.inl ⟨rfl, fun W _ => by kernel_rfl⟩), rfl, ?_⟩
            refine takeH (o := ?o113) 20 (.pointer (some ⟨g, k * 10, none⟩)) ?h113 ?r113
            case h113 => simp only [aT, aS, aZ]; rfl
            refine ⟨_, by simp [Act.put]; rfl, by kernel_rfl, by kernel_rfl, by kernel_rfl, fun _ _ _ h => h, (.inl ⟨rfl, fun W _ => by go_simp; first | done | (intro h; omega) | (rw [if_pos (by omega)]; rfl)⟩), rfl, ?_⟩
            refine takeH (o := ?o114) 21 (.pointer (some ⟨g, k * 10 + 1, none⟩)) ?h114 ?r114
            case h114 => simp only [aT, aS, aZ]; rfl
            refine ⟨_, by simp [Act.put]; rfl, by kernel_rfl, by kernel_rfl, by kernel_rfl, fun _ _ _ h => h, (.inl ⟨rfl, fun W _ => by kernel_rfl⟩), rfl, ?_⟩
            refine takeH (o := ?o115) 22 (.int .i64 y.window) ?h115 ?r115
            case h115 => simp only [aT, aS, aZ]; rfl
            refine ⟨_, by simp [Act.put]; rfl, by kernel_rfl, by kernel_rfl, by kernel_rfl, fun _ _ _ h => h, (.inl ⟨rfl, fun W hW => by rw [hW]; go_simp⟩), rfl, ?_⟩
            refine takeH (o := ?o116) 23 (.pointer (some ⟨w.heap.size, 1, none⟩)) ?h116 ?r116
            case h116 => simp only [aT, aS, aZ]; rfl
            refine ⟨_, by simp [Act.put]; rfl, by kernel_rfl, by kernel_rfl, by kernel_rfl, fun _ _ _ h => h, (.inl ⟨rfl, fun W _ => by kernel_rfl⟩), rfl, ?_⟩
            refine takeH (o := ?o117) 24 (.int .i64 e.window) ?h117 ?r117
            case h117 => simp only [aT, aS, aZ]; rfl
            refine ⟨_, by simp [Act.put]; rfl, by kernel_rfl, by kernel_rfl, by kernel_rfl, fun _ _ _ h => h, (.inl ⟨rfl, fun W hW => by rw [hW]; go_simp⟩), rfl, ?_⟩
            refine takeH (o := ?o118) 25 (.bool true) ?h118 ?r118
            case h118 => simp only [aT, aS, aZ]; rfl
            refine ⟨_, by simp [Act.put]; rfl, by kernel_rfl, by kernel_rfl, by kernel_rfl, fun _ _ _ h => h, (.inl ⟨rfl, fun W _ => by go_simp⟩), rfl, ?_⟩
            refine takeH (o := ?o119) 26 (.bool true) ?h119 ?r119
            case h119 => simp only [aT, aS, aZ]; rfl
            refine ⟨_, by simp [Act.put]; rfl, by kernel_rfl, by kernel_rfl, by kernel_rfl, fun _ _ _ h => h, (.inl ⟨rfl, fun W _ => by kernel_rfl⟩), rfl, ?_⟩
            refine takeH (o := ?o120) 27 (.bool true) ?h120 ?r120
            case h120 => simp only [aT, aS, aZ]; rfl
            refine ⟨_, by simp [Act.put]; rfl, by kernel_rfl, by kernel_rfl, by kernel_rfl, fun _ _ _ h => h, (.inl ⟨rfl, fun W _ => by kernel_rfl⟩), rfl, ?_⟩
            refine wpAnyH_done (by kernel_rfl) ?_ _
            clear c0 c1 e0 e1
            clear g1b g2b
            have HT2 : Hid (∀ z ∈ M.drop k, samePlace z e = false) := by
              show ∀ z ∈ M.drop k, _
              obtain ⟨hk9, hy9⟩ := List.getElem?_eq_some_iff.1 HY.out.1
              rw [List.drop_eq_getElem_cons hk9, hy9]
              intro z hz
              rcases List.mem_cons.1 hz with rfl | hz
              · show (_ && _) = false
                rw [hk1, hk2]; rfl
              · exact HT.out z hz
            have hp : placeLt e y = true := by rw [placeLt_iff]; have h8 : y.key = e.key := (by simpa using hk1); exact .inr ⟨h8.symm, g2⟩
            have HA2 : Hid (atFrom M e k = k) := by show _ = _; rw [atFrom_step HY.out.1, hp]; rfl
            clear hp
            go_wp2
            go_roundw
            case rel => exact ⟨k, by omega, by rw [HA2.out], by go_num, HT2, HGe⟩
            case measure => simp [intOf] <;> omega
          · have g2b : decide (y.window > e.window) = false := by simpa using g2
            refine wp_region_held (S := fun W => W = Y1) (by kernel_rfl) ?_
            change wpAnyH _ _ _ _ _ _ _ _ (World.drew _)
            rw [← hY1]
            clear hY1
            refine takeH (o := ?o121) 0 (.slice (some ⟨g, 0, none⟩) n kc) ?h121 ?r121
            case h121 => simp only [aT, aZ]; rfl
            refine ⟨_, by simp [Act.put]; rfl, by kernel_rfl, by kernel_rfl, by kernel_rfl, fun _ _ _ h => h, (.inl ⟨rfl, fun W _ => by kernel_rfl⟩), rfl, ?_⟩
            refine takeH (o := ?o122) 1 (.int .i64 k) ?h122 ?r122
            case h122 => simp only [aT, aS, aZ]; rfl
            refine ⟨_, by simp [Act.put]; rfl, by kernel_rfl, by kernel_rfl, by kernel_rfl, fun _ _ _ h => h, (.inl ⟨rfl, fun W _ => by kernel_rfl⟩), rfl, ?_⟩
            refine takeH (o := ?o123) 2 (.pointer (some ⟨g, k * 10, none⟩)) ?h123 ?r123
            case h123 => simp only [aT, aS, aZ]; rfl
            refine ⟨_, by simp [Act.put]; rfl, by kernel_rfl, by kernel_rfl, by kernel_rfl, fun _ _ _ h => h, (.inl ⟨rfl, fun W _ => by go_simp; first | done | (intro h; omega) | (rw [if_pos (by omega)]; rfl)⟩), rfl, ?_⟩
            refine takeH (o := ?o124) 3 (.pointer (some ⟨g, k * 10, none⟩)) ?h124 ?r124
            case h124 => simp only [aT, aS, aZ]; rfl
            refine ⟨_, by simp [Act.put]; rfl, by kernel_rfl, by kernel_rfl, by kernel_rfl, fun _ _ _ h => h, (.inl ⟨rfl, fun W _ => by kernel_rfl⟩), rfl, ?_⟩
            refine takeH (o := ?o125) 4 (.int .i64 y.key) ?h125 ?r125
            case h125 => simp only [aT, aS, aZ]; rfl
            refine ⟨_, by simp [Act.put]; rfl, by kernel_rfl, by kernel_rfl, by kernel_rfl, fun _ _ _ h => h, (.inl ⟨rfl, fun W hW => by rw [hW]; go_simp⟩), rfl, ?_⟩
            refine takeH (o := ?o126) 5 (.pointer (some ⟨w.heap.size, 0, none⟩)) ?h126 ?r126
            case h126 => simp only [aT, aS, aZ]; rfl
            refine ⟨_, by simp [Act.put]; rfl, by kernel_rfl, by kernel_rfl, by kernel_rfl, fun _ _ _ h => h, (.inl ⟨rfl, fun W _ => by kernel_rfl⟩), rfl, ?_⟩
            refine takeH (o := ?o127) 6 (.int .i64 e.key) ?h127 ?r127
            case h127 => simp only [aT, aS, aZ]; rfl
            refine ⟨_, by simp [Act.put]; rfl, by kernel_rfl, by kernel_rfl, by kernel_rfl, fun _ _ _ h => h, (.inl ⟨rfl, fun W hW => by rw [hW]; go_simp⟩), rfl, ?_⟩
            refine takeH (o := ?o128) 7 (.bool false) ?h128 ?r128
            case h128 => simp only [aT, aS, aZ]; rfl
            refine ⟨_, by simp [Act.put]; rfl, by kernel_rfl, by kernel_rfl, by kernel_rfl, fun _ _ _ h => h, (.inl ⟨rfl, fun W _ => by go_simp⟩), rfl, ?_⟩
            refine takeH (o := ?o129) 8 (.bool false) ?h129 ?r129
            case h129 => simp only [aT, aS, aZ]; rfl
            refine ⟨_, by simp [Act.put]; rfl, by kernel_rfl, by kernel_rfl, by kernel_rfl, fun _ _ _ h => h, (.inl ⟨rfl, fun W _ => by kernel_rfl⟩), rfl, ?_⟩
            refine takeH (o := ?o130) 9 (.slice (some ⟨g, 0, none⟩) n kc) ?h130 ?r130
            case h130 => simp only [aT, aS, aZ]; rfl
            refine ⟨_, by simp [Act.put]; rfl, by kernel_rfl, by kernel_rfl, by kernel_rfl, fun _ _ _ h => h, (.inl ⟨rfl, fun W _ => by kernel_rfl⟩), rfl, ?_⟩
            refine takeH (o := ?o131) 10 (.int .i64 k) ?h131 ?r131
            case h131 => simp only [aT, aS, aZ]; rfl
            refine ⟨_, by simp [Act.put]; rfl, by kernel_rfl, by kernel_rfl, by kernel_rfl, fun _ _ _ h => h, (.inl ⟨rfl, fun W _ => by kernel_rfl⟩), rfl, ?_⟩
            refine takeH (o := ?o132) 11 (.pointer (some ⟨g, k * 10, none⟩)) ?h132 ?r132
            case h132 => simp only [aT, aS, aZ]; rfl
            refine ⟨_, by simp [Act.put]; rfl, by kernel_rfl, by kernel_rfl, by kernel_rfl, fun _ _ _ h => h, (.inl ⟨rfl, fun W _ => by go_simp; first | done | (intro h; omega) | (rw [if_pos (by omega)]; rfl)⟩), rfl, ?_⟩
            refine takeH (o := ?o133) 12 (.pointer (some ⟨g, k * 10, none⟩)) ?h133 ?r133
            case h133 => simp only [aT, aS, aZ]; rfl
            refine ⟨_, by simp [Act.put]; rfl, by kernel_rfl, by kernel_rfl, by kernel_rfl, fun _ _ _ h => h, (.inl ⟨rfl, fun W _ => by kernel_rfl⟩), rfl, ?_⟩
            refine takeH (o := ?o134) 13 (.int .i64 y.key) ?h134 ?r134
            case h134 => simp only [aT, aS, aZ]; rfl
            refine ⟨_, by simp [Act.put]; rfl, by kernel_rfl, by kernel_rfl, by kernel_rfl, fun _ _ _ h => h, (.inl ⟨rfl, fun W hW => by rw [hW]; go_simp⟩), rfl, ?_⟩
            refine takeH (o := ?o135) 14 (.pointer (some ⟨w.heap.size, 0, none⟩)) ?h135 ?r135
            case h135 => simp only [aT, aS, aZ]; rfl
            refine ⟨_, by simp [Act.put]; rfl, by kernel_rfl, by kernel_rfl, by kernel_rfl, fun _ _ _ h => h, (.inl ⟨rfl, fun W _ => by kernel_rfl⟩), rfl, ?_⟩
            refine takeH (o := ?o136) 15 (.int .i64 e.key) ?h136 ?r136
            case h136 => simp only [aT, aS, aZ]; rfl
            refine ⟨_, by simp [Act.put]; rfl, by kernel_rfl, by kernel_rfl, by kernel_rfl, fun _ _ _ h => h, (.inl ⟨rfl, fun W hW => by rw [hW]; go_simp⟩), rfl, ?_⟩
            refine takeH (o := ?o137) 16 (.bool true) ?h137 ?r137
            case h137 => simp only [aT, aS, aZ]; rfl
            refine ⟨_, by simp [Act.put]; rfl, by kernel_rfl, by kernel_rfl, by kernel_rfl, fun _ _ _ h => h, (.inl ⟨rfl, fun W _ => by go_simp⟩), rfl, ?_⟩
            refine takeH (o := ?o138) 17 (.bool true) ?h138 ?r138
            case h138 => simp only [aT, aS, aZ]; rfl
            refine ⟨_, by simp [Act.put]; rfl, by kernel_rfl, by kernel_rfl, by kernel_rfl, fun _ _ _ h => h, (.inl ⟨rfl, fun W _ => by kernel_rfl⟩), rfl, ?_⟩
            refine takeH (o := ?o139) 18 (.slice (some ⟨g, 0, none⟩) n kc) ?h139 ?r139
            case h139 => simp only [aT, aS, aZ]; rfl
            refine ⟨_, by simp [Act.put]; rfl, by kernel_rfl, by kernel_rfl, by kernel_rfl, fun _ _ _ h => h, (.inl ⟨rfl, fun W _ => by kernel_rfl⟩), rfl, ?_⟩
            refine takeH (o := ?o140) 19 (.int .i64 k) ?h140 ?r140
            case h140 => simp only [aT, aS, aZ]; rfl
            refine ⟨_, by simp [Act.put]; rfl, by kernel_rfl, by kernel_rfl, by kernel_rfl, fun _ _ _ h => h, (.inl ⟨rfl, fun W _ => by kernel_rfl⟩), rfl, ?_⟩
            refine takeH (o := ?o141) 20 (.pointer (some ⟨g, k * 10, none⟩)) ?h141 ?r141
            case h141 => simp only [aT, aS, aZ]; rfl
            refine ⟨_, by simp [Act.put]; rfl, by kernel_rfl, by kernel_rfl, by kernel_rfl, fun _ _ _ h => h, (.inl ⟨rfl, fun W _ => by go_simp; first | done | (intro h; omega) | (rw [if_pos (by omega)]; rfl)⟩), rfl, ?_⟩
            refine takeH (o := ?o142) 21 (.pointer (some ⟨g, k * 10 + 1, none⟩)) ?h142 ?r142
            case h142 => simp only [aT, aS, aZ]; rfl
            refine ⟨_, by simp [Act.put]; rfl, by kernel_rfl, by kernel_rfl, by kernel_rfl, fun _ _ _ h => h, (.inl ⟨rfl, fun W _ => by kernel_rfl⟩), rfl, ?_⟩
            refine takeH (o := ?o143) 22 (.int .i64 y.window) ?h143 ?r143
            case h143 => simp only [aT, aS, aZ]; rfl
            refine ⟨_, by simp [Act.put]; rfl, by kernel_rfl, by kernel_rfl, by kernel_rfl, fun _ _ _ h => h, (.inl ⟨rfl, fun W hW => by rw [hW]; go_simp⟩), rfl, ?_⟩
            refine takeH (o := ?o144) 23 (.pointer (some ⟨w.heap.size, 1, none⟩)) ?h144 ?r144
            case h144 => simp only [aT, aS, aZ]; rfl
            refine ⟨_, by simp [Act.put]; rfl, by kernel_rfl, by kernel_rfl, by kernel_rfl, fun _ _ _ h => h, (.inl ⟨rfl, fun W _ => by kernel_rfl⟩), rfl, ?_⟩
            refine takeH (o := ?o145) 24 (.int .i64 e.window) ?h145 ?r145
            case h145 => simp only [aT, aS, aZ]; rfl
            refine ⟨_, by simp [Act.put]; rfl, by kernel_rfl, by kernel_rfl, by kernel_rfl, fun _ _ _ h => h, (.inl ⟨rfl, fun W hW => by rw [hW]; go_simp⟩), rfl, ?_⟩
            refine takeH (o := ?o146) 25 (.bool false) ?h146 ?r146
            case h146 => simp only [aT, aS, aZ]; rfl
            refine ⟨_, by simp [Act.put]; rfl, by kernel_rfl, by kernel_rfl, by kernel_rfl, fun _ _ _ h => h, (.inl ⟨rfl, fun W _ => by go_simp⟩), rfl, ?_⟩
            refine takeH (o := ?o147) 26 (.bool false) ?h147 ?r147
            case h147 => simp only [aT, aS, aZ]; rfl
            refine ⟨_, by simp [Act.put]; rfl, by kernel_rfl, by kernel_rfl, by kernel_rfl, fun _ _ _ h => h, (.inl ⟨rfl, fun W _ => by kernel_rfl⟩), rfl, ?_⟩
            refine takeH (o := ?o148) 27 (.bool false) ?h148 ?r148
            case h148 => simp only [aT, aS, aZ]; rfl
            refine ⟨_, by simp [Act.put]; rfl, by kernel_rfl, by kernel_rfl, by kernel_rfl, fun _ _ _ h => h, (.inl ⟨rfl, fun W _ => by kernel_rfl⟩), rfl, ?_⟩
            refine wpAnyH_done (by kernel_rfl) ?_ _
            clear c0 c1 e0 e1
            clear g1b g2b
            have HT2 : Hid (∀ z ∈ M.drop k, samePlace z e = false) := by
              show ∀ z ∈ M.drop k, _
              obtain ⟨hk9, hy9⟩ := List.getElem?_eq_some_iff.1 HY.out.1
              rw [List.drop_eq_getElem_cons hk9, hy9]
              intro z hz
              rcases List.mem_cons.1 hz with rfl | hz
              · show (_ && _) = false
                rw [hk1, hk2]; rfl
              · exact HT.out z hz
            have hp : placeLt e y = false := by cases h9 : placeLt e y; rfl; rw [placeLt_iff] at h9; omega
            have HA2 : Hid (atFrom M e k = c) := by show _ = _; rw [atFrom_step HY.out.1, hp]; exact HA.out.symm
            clear hp
            go_wp2
            go_roundw
            case rel => exact ⟨k, by omega, by rw [HA2.out], by go_num, HT2, HGe⟩
            case measure => simp [intOf] <;> omega
        · have hk2 : (y.window == e.window) = true := hd2.symm
          clear hd2
          refine wp_region_held (S := fun W => W = Y0) (by kernel_rfl) ?_
          change wpAnyH _ _ _ _ _ _ _ _ (World.drew _)
          rw [← hY0]
          clear hY0
          refine takeH (o := ?o149) 0 (.slice (some ⟨g, 0, none⟩) n kc) ?h149 ?r149
          case h149 => simp only [aT, aZ]; rfl
          refine ⟨_, by simp [Act.put]; rfl, by kernel_rfl, by kernel_rfl, by kernel_rfl, fun _ _ _ h => h, (.inl ⟨rfl, fun W _ => by kernel_rfl⟩), rfl, ?_⟩
          refine takeH (o := ?o150) 1 (.int .i64 k) ?h150 ?r150
          case h150 => simp only [aT, aS, aZ]; rfl
          refine ⟨_, by simp [Act.put]; rfl, by kernel_rfl, by kernel_rfl, by kernel_rfl, fun _ _ _ h => h, (.inl ⟨rfl, fun W _ => by kernel_rfl⟩), rfl, ?_⟩
          refine takeH (o := ?o151) 2 (.pointer (some ⟨g, k * 10, none⟩)) ?h151 ?r151
          case h151 => simp only [aT, aS, aZ]; rfl
          refine ⟨_, by simp [Act.put]; rfl, by kernel_rfl, by kernel_rfl, by kernel_rfl, fun _ _ _ h => h, (.inl ⟨rfl, fun W _ => by go_simp; first | done | (intro h; omega) | (rw [if_pos (by omega)]; rfl)⟩), rfl, ?_⟩
          refine takeH (o := ?o152) 3 (.pointer (some ⟨g, k * 10, none⟩)) ?h152 ?r152
          case h152 => simp only [aT, aS, aZ]; rfl
          refine ⟨_, by simp [Act.put]; rfl, by kernel_rfl, by kernel_rfl, by kernel_rfl, fun _ _ _ h => h, (.inl ⟨rfl, fun W _ => by kernel_rfl⟩), rfl, ?_⟩
          refine takeH (o := ?o153) 4 (.int .i64 y.key) ?h153 ?r153
          case h153 => simp only [aT, aS, aZ]; rfl
          refine ⟨_, by simp [Act.put]; rfl, by kernel_rfl, by kernel_rfl, by kernel_rfl, fun _ _ _ h => h, (.inl ⟨rfl, fun W hW => by rw [hW]; go_simp⟩), rfl, ?_⟩
          refine takeH (o := ?o154) 5 (.pointer (some ⟨w.heap.size, 0, none⟩)) ?h154 ?r154
          case h154 => simp only [aT, aS, aZ]; rfl
          refine ⟨_, by simp [Act.put]; rfl, by kernel_rfl, by kernel_rfl, by kernel_rfl, fun _ _ _ h => h, (.inl ⟨rfl, fun W _ => by kernel_rfl⟩), rfl, ?_⟩
          refine takeH (o := ?o155) 6 (.int .i64 e.key) ?h155 ?r155
          case h155 => simp only [aT, aS, aZ]; rfl
          refine ⟨_, by simp [Act.put]; rfl, by kernel_rfl, by kernel_rfl, by kernel_rfl, fun _ _ _ h => h, (.inl ⟨rfl, fun W hW => by rw [hW]; go_simp⟩), rfl, ?_⟩
          refine takeH (o := ?o156) 7 (.bool true) ?h156 ?r156
          case h156 => simp only [aT, aS, aZ]; rfl
          refine ⟨_, by simp [Act.put]; rfl, by kernel_rfl, by kernel_rfl, by kernel_rfl, fun _ _ _ h => h, (.inl ⟨rfl, fun W _ => by go_simp⟩), rfl, ?_⟩
          refine takeH (o := ?o157) 8 (.bool true) ?h157 ?r157
          case h157 => simp only [aT, aS, aZ]; rfl
          refine ⟨_, by simp [Act.put]; rfl, by kernel_rfl, by kernel_rfl, by kernel_rfl, fun _ _ _ h => h, (.inl ⟨rfl, fun W _ => by kernel_rfl⟩), rfl, ?_⟩
          refine takeH (o := ?o158) 9 (.slice (some ⟨g, 0, none⟩) n kc) ?h158 ?r158
          case h158 => simp only [aT, aS, aZ]; rfl
          refine ⟨_, by simp [Act.put]; rfl, by kernel_rfl, by kernel_rfl, by kernel_rfl, fun _ _ _ h => h, (.inl ⟨rfl, fun W _ => by kernel_rfl⟩), rfl, ?_⟩
          refine takeH (o := ?o159) 10 (.int .i64 k) ?h159 ?r159
          case h159 => simp only [aT, aS, aZ]; rfl
          refine ⟨_, by simp [Act.put]; rfl, by kernel_rfl, by kernel_rfl, by kernel_rfl, fun _ _ _ h => h, (.inl ⟨rfl, fun W _ => by kernel_rfl⟩), rfl, ?_⟩
          refine takeH (o := ?o160) 11 (.pointer (some ⟨g, k * 10, none⟩)) ?h160 ?r160
          case h160 => simp only [aT, aS, aZ]; rfl
          refine ⟨_, by simp [Act.put]; rfl, by kernel_rfl, by kernel_rfl, by kernel_rfl, fun _ _ _ h => h, (.inl ⟨rfl, fun W _ => by go_simp; first | done | (intro h; omega) | (rw [if_pos (by omega)]; rfl)⟩), rfl, ?_⟩
          refine takeH (o := ?o161) 12 (.pointer (some ⟨g, k * 10 + 1, none⟩)) ?h161 ?r161
          case h161 => simp only [aT, aS, aZ]; rfl
          refine ⟨_, by simp [Act.put]; rfl, by kernel_rfl, by kernel_rfl, by kernel_rfl, fun _ _ _ h => h, (.inl ⟨rfl, fun W _ => by kernel_rfl⟩), rfl, ?_⟩
          refine takeH (o := ?o162) 13 (.int .i64 y.window) ?h162 ?r162
          case h162 => simp only [aT, aS, aZ]; rfl
          refine ⟨_, by simp [Act.put]; rfl, by kernel_rfl, by kernel_rfl, by kernel_rfl, fun _ _ _ h => h, (.inl ⟨rfl, fun W hW => by rw [hW]; go_simp⟩), rfl, ?_⟩
          refine takeH (o := ?o163) 14 (.pointer (some ⟨w.heap.size, 1, none⟩)) ?h163 ?r163
          case h163 => simp only [aT, aS, aZ]; rfl
          refine ⟨_, by simp [Act.put]; rfl, by kernel_rfl, by kernel_rfl, by kernel_rfl, fun _ _ _ h => h, (.inl ⟨rfl, fun W _ => by kernel_rfl⟩), rfl, ?_⟩
          refine takeH (o := ?o164) 15 (.int .i64 e.window) ?h164 ?r164
          case h164 => simp only [aT, aS, aZ]; rfl
          refine ⟨_, by simp [Act.put]; rfl, by kernel_rfl, by kernel_rfl, by kernel_rfl, fun _ _ _ h => h, (.inl ⟨rfl, fun W hW => by rw [hW]; go_simp⟩), rfl, ?_⟩
          refine takeH (o := ?o165) 16 (.bool true) ?h165 ?r165
          case h165 => simp only [aT, aS, aZ]; rfl
          refine ⟨_, by simp [Act.put]; rfl, by kernel_rfl, by kernel_rfl, by kernel_rfl, fun _ _ _ h => h, (.inl ⟨rfl, fun W _ => by go_simp⟩), rfl, ?_⟩
          refine takeH (o := ?o166) 17 (.bool true) ?h166 ?r166
          case h166 => simp only [aT, aS, aZ]; rfl
          refine ⟨_, by simp [Act.put]; rfl, by kernel_rfl, by kernel_rfl, by kernel_rfl, fun _ _ _ h => h, (.inl ⟨rfl, fun W _ => by kernel_rfl⟩), rfl, ?_⟩
          refine wpAnyH_done (by kernel_rfl) ?_ _
          clear c0 c1 e0 e1
          have hpl : samePlace y e = true := by show (_ && _) = true; rw [hk1, hk2]; rfl
          have HV : Hid (insL M e = M.set k (y.add e)) := by
            obtain ⟨j, hj9⟩ : ∃ j, hitAt M e = some j := by
              cases h9 : hitAt M e
              · have := hitAt_no h9 y (List.mem_of_getElem? HY.out.1); rw [hpl] at this; cases this
              · exact ⟨_, rfl⟩
            obtain ⟨y9, hy9, hs9, _⟩ := hitAt_lt hj9
            have e9 : j = k := by
              obtain ⟨hjl, hjy⟩ := List.getElem?_eq_some_iff.1 hy9
              obtain ⟨hkl, hky⟩ := List.getElem?_eq_some_iff.1 HY.out.1
              have hd := List.pairwise_iff_getElem.1 HH.out.2.2.2.2.2.1.dist
              rw [samePlace_iff] at hs9 hpl
              rcases Nat.lt_trichotomy j k with q | q | q
              · have := hd j k hjl hkl q; rw [hjy, hky, samePlace_iff.2 ⟨by omega, by omega⟩] at this; cases this
              · exact q
              · have := hd k j hkl hjl q; rw [hjy, hky, samePlace_iff.2 ⟨by omega, by omega⟩] at this; cases this
            subst e9
            exact insL_hit hj9 HY.out.1
          have HK : Hid (y.ok = true ∧ e.ok = true ∧ y.ids.length + e.ids.length ≤ 2097152) := by
            have h1 := HH.out.2.2.2.2.1 y (List.mem_of_getElem? HY.out.1)
            have h2 := HH.out.2.2.2.1
            exact ⟨h1.1, HH.out.2.1, by omega⟩
          clear hpl hk1 hk2
          go_wp2_with fail
          have HGe : Hid (GrowL enK 33 M lo n (.slice (some ⟨g, 0, none⟩) n kc) vs GG Y0.drew ∧ Blk Y0.drew w.heap.size es 33 ∧ Below w.heap.size w Y0.drew) := ⟨HGd.out.1.below (Below.refl _ _).drew, HGd.out.2.1.below (Below.refl _ _).drew, Below.next HGd.out.2.2 (Below.refl _ _).drew⟩
          have HYe : Hid (RdE Y0.drew (.agg cs) y Fi ∧ ∀ j, j < 10 → Y0.drew.cell? ⟨g, k * 10 + j, none⟩ = cs[j]?) := ⟨HYd.out.1.below (Below.refl _ _).drew, HYd.out.2⟩
          obtain ⟨Y1, hY1⟩ : ∃ Y, Y = Y0.drew := ⟨_, rfl⟩
          rw [← hY1] at HGe HYe
          clear HGd HYd
          refine wp_region_held (S := fun W => Blk W w.heap.size es 33 ∧ lo ≤ W.heap.size) (by kernel_rfl) ?_
          change wpAnyH _ _ _ _ _ _ _ _ (World.drew _)
          rw [← hY1]
          clear hY1
          refine takeH (o := ?o167) 0 (.slice (some ⟨g, 0, none⟩) n kc) ?h167 ?r167
          case h167 => simp only [aT, aZ]; rfl
          refine ⟨_, by simp [Act.put]; rfl, by kernel_rfl, by kernel_rfl, by kernel_rfl, fun _ _ _ h => h, (.inl ⟨rfl, fun W _ => by kernel_rfl⟩), ⟨HGe.out.2.1, HGe.out.1.lw⟩, ?_⟩
          refine takeH (o := ?o168) 1 (.int .i64 k) ?h168 ?r168
          case h168 => simp only [aT, aS, aZ]; rfl
          refine ⟨_, by simp [Act.put]; rfl, by kernel_rfl, by kernel_rfl, by kernel_rfl, fun _ _ _ h => h, (.inl ⟨rfl, fun W _ => by kernel_rfl⟩), ⟨HGe.out.2.1, HGe.out.1.lw⟩, ?_⟩
          refine takeH (o := ?o169) 2 (.slice (some ⟨g, 0, none⟩) n kc) ?h169 ?r169
          case h169 => simp only [aT, aS, aZ]; rfl
          refine ⟨_, by simp [Act.put]; rfl, by kernel_rfl, by kernel_rfl, by kernel_rfl, fun _ _ _ h => h, (.inl ⟨rfl, fun W _ => by kernel_rfl⟩), ⟨HGe.out.2.1, HGe.out.1.lw⟩, ?_⟩
          refine takeH (o := ?o170) 3 (.int .i64 k) ?h170 ?r170
          case h170 => simp only [aT, aS, aZ]; rfl
          refine ⟨_, by simp [Act.put]; rfl, by kernel_rfl, by kernel_rfl, by kernel_rfl, fun _ _ _ h => h, (.inl ⟨rfl, fun W _ => by kernel_rfl⟩), ⟨HGe.out.2.1, HGe.out.1.lw⟩, ?_⟩
          refine takeH (o := ?o171) 4 (.pointer (some ⟨g, k * 10, none⟩)) ?h171 ?r171
          case h171 => simp only [aT, aS, aZ]; rfl
          refine ⟨_, by simp [Act.put]; rfl, by kernel_rfl, by kernel_rfl, by kernel_rfl, fun _ _ _ h => h, (.inl ⟨rfl, fun W _ => by go_simp; first | done | (intro h; omega) | (rw [if_pos (by omega)]; rfl)⟩), ⟨HGe.out.2.1, HGe.out.1.lw⟩, ?_⟩
          refine takeH (o := ?o172) 6 (.agg es) ?h172 ?r172
          case h172 => simp only [aT, aS, aZ]; rfl
          refine ⟨_, by simp [Act.put]; rfl, by kernel_rfl, by kernel_rfl, by kernel_rfl, fun _ _ _ h => h, (yields_at 33 w.heap.size 0 10 es _ rfl rfl rfl Tryz.underlying33 rfl infoEnG2 HE.out.1 (fun W hW j _ => by rw [Nat.zero_add]; exact hW.1.cell j)), ⟨HGe.out.2.1, HGe.out.1.lw⟩, ?_⟩
          refine onlyH (o := ?o173) 5 (by kernel_rfl) ?h173 ?r173
          case h173 => simp only [aT, aS, aZ]; rfl
          intro K hK
          refine op_loadAt 33 g (k * 10) 10 cs _ rfl rfl rfl Tryz.underlying33 rfl infoEnG2 HY.out.2.1 HYe.out.2 ⟨_, by simp [Act.put]; rfl, hK _ _ ⟨⟨HGe.out.2.1, HGe.out.1.lw⟩, ?_⟩⟩
          clear hK
          refine onlyH (o := ?o174) 7 (by kernel_rfl) ?h174 ?r174
          case h174 => simp only [aT, aS, aZ]; rfl
          intro K hK
          refine op_call2' 34 _ _ _ Tryz.f34 (fun v w' => ∃ F, RdE w' v (y.add e) F ∧ Own Y1.heap.size w' F ∧ Below Y1.heap.size Y1 w') rfl rfl Tryz.func34 (by kernel_rfl) (by kernel_rfl) ((addSpecE_any (.agg cs) (.agg es) y e Fi G Y1 HYe.out.1 (HH.out.1.below HGe.out.2.2) HK.out.1 HK.out.2.1 HK.out.2.2).mono (by rintro e w' ⟨v, F, rfl, k1, k2, k3⟩; exact ⟨_, rfl, F, k1, k2, k3⟩)) ?_
          rintro vr Y2 ⟨Fr, rr, ro, rb⟩
          obtain ⟨ds, rfl, hd11, hd1⟩ := enK.cells (w := Y2) rr
          replace hd11 : ds.size = 10 := hd11
          have hgY : g < Y1.heap.size := HGe.out.1.lts.2.1 g rfl
          obtain ⟨hge, cur, hcur, hfit, vs', H', hG, _⟩ := (HGe.out.1.below rb).put (L := Y1.heap.size) HH.out.2.2.2.2.2.2.1 hlt rr hd11 ro HGe.out.1.lw HGe.out.1.lts.1 hgY
          have hne : g ≠ w.heap.size := fun e9 => by have := HL.out g rfl; omega
          have HC : Hid (Blk Y2 g cur 33 ∧ k * 10 + ds.size ≤ cur.size ∧ ds.size = 10 ∧ ds.all (·.oneCell') = true ∧ g ≠ w.heap.size) := ⟨hcur, by omega, hd11, hd1, hne⟩
          have HB2 : Hid (Blk Y2 w.heap.size es 33 ∧ lo ≤ Y2.heap.size ∧ Below lo w Y2) := ⟨HGe.out.2.1.below rb, Nat.le_trans HGe.out.1.lw rb.size, (Below.next HGe.out.2.2 rb).mono HH.out.2.2.2.2.2.2.2⟩
          refine ⟨_, by simp [Act.put]; rfl, hK _ _ ⟨⟨HB2.out.1, HB2.out.2.1⟩, ?_⟩⟩
          clear hK rr ro rb hd1 hcur hne
          refine takeH (o := ?o175) 8 (.pointer (some ⟨g, k * 10, none⟩)) ?h175 ?r175
          case h175 => simp only [aT, aS, aZ]; rfl
          refine ⟨_, by simp [Act.put]; rfl, by kernel_rfl, by kernel_rfl, by kernel_rfl, fun _ _ _ h => h, (.inl ⟨rfl, fun W _ => by go_simp; first | done | (intro h; omega) | (rw [if_pos (by omega)]; rfl)⟩), ⟨HB2.out.1, HB2.out.2.1⟩, ?_⟩
          refine onlyH (o := ?o176) 9 (by kernel_rfl) ?h176 ?r176
          case h176 => simp only [aT, aS, aZ]; rfl
          intro K hK
          obtain ⟨cut, hcut⟩ : ∃ c, c = cutIn cur (k * 10) ds := ⟨_, rfl⟩
          rw [← hcut] at hG
          have HF : Hid (GrowL enK 33 (M.set k (y.add e)) lo n (.slice (some ⟨g, 0, none⟩) n kc) vs' H' (Y2.setRow g cut) ∧ Below lo w (Y2.setRow g cut)) := ⟨hG, below_setRow HB2.out.2.2 hge _⟩
          have HB3 : Hid (Blk (Y2.setRow g cut) w.heap.size es 33 ∧ lo ≤ (Y2.setRow g cut).heap.size) := ⟨HB2.out.1.setRowOther (fun e9 => HC.out.2.2.2.2 e9.symm), hG.lw⟩
          clear hG hge hfit hd11 hgY
          refine op_storePart 33 g (k * 10) cur ds cut 33 HC.out.1 rfl rfl rfl rfl (by rw [HC.out.2.2.1]; exact infoEnG2) HC.out.2.1 HC.out.2.2.2.1 hcut.symm ⟨_, by simp [Act.put]; rfl, hK _ _ ⟨⟨HB3.out.1, HB3.out.2⟩, ?_⟩⟩
          clear hK
          refine wpAnyH_done (by kernel_rfl) ?_ _
          obtain ⟨YZ, hYZ⟩ : ∃ Z, Z = Y2.setRow g cut := ⟨_, rfl⟩
          rw [← hYZ] at HF ⊢
          clear hYZ hcut HC HB2 HB3
          go_wp2
          go_ret
          have hl9 : (insL M e).length = n := by rw [HV.out, List.length_set]; exact HH.out.2.2.2.2.2.2.1
          exact ⟨some ⟨g, 0, none⟩, kc, vs', H', by rw [hl9]; rfl, by rw [hl9, HV.out]; exact HF.out.1, HF.out.2⟩
end Go.Proofs.YtjnamoppcklomaaGreat
/- The model's RowSum. No statement of the seat is proved here. -/
namespace Go.Proofs.YtjnamoppcklomaaGreat
open Go.RowKit
/-- A list of entries that a call has made, with the room behind it. -/
def NewEs (w : World) (xs : List En) (e : Ending) (w' : World) : Prop := ∃ (q : Option Addr) (k lo : Nat) (vs : List Value) (GG : List Nat), e = .returned (.slice q xs.length k) ∧ GrowL enK 33 xs lo xs.length (.slice q xs.length k) vs GG w' ∧ w.heap.size ≤ lo ∧ Below w.heap.size w w'
set_option maxRecDepth 200000 in
set_option maxHeartbeats 4000000 in
theorem rowSumSpec_any (v : Value) (x : Rw) (F : List Nat) (w : World) (h : RdRw w v x F) (hw : x.fits) :
    Calls Tryz.prog 17 #[v] w fun e w' => NewEs w x.sums e w' := by
  have HH : Hid (RdRw w v x F ∧ x.fits) := ⟨h, hw⟩
  obtain ⟨a, n, c, rfl, hL, hcp⟩ := h
  have HL : Hid (RdL enK w a n x.list F ∧ x.list.length = n ∧ x.fits) := ⟨hL, hL.length, hw⟩
  have hn : n ≤ 1048576 := by rw [← hL.length]; exact hw.len
  have bb : Below w.heap.size w ((w.alloc (.cells #[.slice a n c] 26)).alloc (.cells #[] 33)) := Below.allocW _ (Below.allocW _ (Below.refl _ _) (Nat.le_refl _)) (by simp)
  have g0 : GrowL enK 33 [] (w.heap.size + 1) 0 (.slice (some ⟨w.heap.size + 1, 0, none⟩) 0 0) [] [] ((w.alloc (.cells #[.slice a n c] 26)).alloc (.cells #[] 33)) := by
    have hs : (w.alloc (.cells #[.slice a n c] 26)).heap.size = w.heap.size + 1 := by simp
    have := World.ownsRow_made (base := w.heap.size + 1) (e := 33) (size := enK.n) (w.alloc (.cells #[.slice a n c] 26)) #[] 0 (by omega) (Nat.zero_le _) (by simp)
    rw [hs] at this
    exact ⟨this, by rw [List.take_zero]; exact RdC.nil, Own.nil, (fun b _ hx => by cases hx), by simp⟩
  have HB : Hid (Below w.heap.size w ((w.alloc (.cells #[.slice a n c] 26)).alloc (.cells #[] 33)) ∧ Blk ((w.alloc (.cells #[.slice a n c] 26)).alloc (.cells #[] 33)) w.heap.size #[.slice a n c] 26 ∧ GrowL enK 33 [] (w.heap.size + 1) 0 (.slice (some ⟨w.heap.size + 1, 0, none⟩) 0 0) [] [] ((w.alloc (.cells #[.slice a n c] 26)).alloc (.cells #[] 33))) := ⟨bb, (Blk.made _ _ _).alloc _, g0⟩
  clear hL hw hcp bb g0
  go_enter Tryz.func17, Tryz.ntmps17
  go_wp2_with (first | go_skip | (with_reducible refine stopLoad 26 rfl ?_))
  refine load_any 26 w.heap.size #[.slice a n c] 26 _ HB.out.2.1 rfl rfl rfl Tryz.underlying26 rfl (rwSize rfl) ?_
  go_wp2_with fail
  refine (rowOkSpec_any _ x F _ (HH.out.1.below HB.out.1) HH.out.2.wide).mono ?_
  rintro e w2 ⟨rfl, hb⟩
  have HW : Hid (Below w.heap.size w w2 ∧ Blk w2 w.heap.size #[.slice a n c] 26 ∧ GrowL enK 33 [] (w.heap.size + 1) 0 (.slice (some ⟨w.heap.size + 1, 0, none⟩) 0 0) [] [] w2) := ⟨Below.next HB.out.1 hb, HB.out.2.1.below hb, HB.out.2.2.below hb⟩
  obtain ⟨d, hd⟩ : ∃ d, d = x.ok := ⟨_, rfl⟩
  rw [← hd]
  have HD : Hid (d = x.ok) := hd
  clear hd hb HB HH
  cases d
  · have HV : Hid (x.sums = []) := by show _ = _; unfold Rw.sums; rw [← HD.out]; rfl
    go_wp2
    go_ret
    exact ⟨_, 0, w.heap.size + 1, [], [], by rw [HV.out]; rfl, by rw [HV.out]; exact HW.out.2.2, by omega, HW.out.1⟩
  go_wp2
  go_loopw [3, 4] (fun s i wr => ∃ (k m : Nat) (q : Option Addr) (kc : Nat) (vs : List Value) (GG : List Nat), k ≤ n ∧ i = .int .i64 k ∧ s = .slice q m kc ∧ Hid (m = (sumM [] (x.list.take k)).length ∧ Below w.heap.size w wr ∧ Blk wr w.heap.size #[.slice a n c] 26 ∧ GrowL enK 33 (sumM [] (x.list.take k)) (w.heap.size + 1) m (.slice q m kc) vs GG wr)) (fun _ i _ => n - (intOf i).toNat)
  case atStart => exact ⟨0, 0, some ⟨w.heap.size + 1, 0, none⟩, 0, [], [], by omega, rfl, rfl, rfl, HW.out.1, HW.out.2.1, HW.out.2.2⟩
  case round =>
    clear HW
    obtain ⟨k, m, q, kc, vs, GG, hk, rfl, rfl, HW⟩ := hrel
    have c0 := HW.out.2.2.1.cell 0
    simp only [aT, aZ] at c0
    by_cases hlt : k < n
    · have hI : (k : Int) < (n : Int) := by omega
      obtain ⟨b, off, y, cs, Fi, rfl, hbw, hy, hcs, hcc, hr⟩ := ens_at HL.out.1 hlt
      have HY : Hid (x.list[k]? = some y ∧ cs.size = 10 ∧ RdE wr (.agg cs) y Fi ∧ (∀ j, j < 10 → wr.cell? ⟨b, off + k * 10 + j, none⟩ = cs[j]?) ∧ y.ok = true ∧ y.fits) := ⟨hy, hcs, hr.below HW.out.2.1, fun j hj => (HW.out.2.1.cell (p := ⟨b, off + k * 10 + j, none⟩) hbw).trans (hcc j hj), (good_pair.1 (rw_ok_iff.1 HD.out.symm).2).1 y (List.mem_of_getElem? hy), HL.out.2.2.each y (List.mem_of_getElem? hy)⟩
      have HS : Hid (_ ∧ _) := sums_at HD.out.symm HL.out.2.2 k
      clear hbw hy hcs hcc hr
      go_wp2_with (first | go_skip | (with_reducible refine stopLoad 33 rfl ?_))
      refine load_at 33 b (off + k * 10) 10 cs _ HY.out.2.2.2.1 HY.out.2.1 rfl rfl rfl Tryz.underlying33 rfl infoEnG2 ?_
      go_wp2_with fail
      refine (l10Into_any (sumM [] (x.list.take k)) (w.heap.size + 1) m kc q vs GG (.agg cs) y Fi _ HW.out.2.2.2 HW.out.1.symm HS.out.1 HY.out.2.2.1 (fun z hz => ⟨(HS.out.2.1 z hz).1, (HS.out.2.1 z hz).2.2⟩) HY.out.2.2.2.2.1 HY.out.2.2.2.2.2 (by rw [HW.out.1]; have := HS.out.2.2.1; omega)).mono ?_
      rintro e w4 ⟨q', kc', vs', GG', rfl, hg, hb⟩
      have hsz := hb.size
      rw [← sumM_succ HY.out.1] at hg ⊢
      have HW4 : Hid ((sumM [] (x.list.take (k + 1))).length = (sumM [] (x.list.take (k + 1))).length ∧ Below w.heap.size w w4 ∧ Blk w4 w.heap.size #[.slice (some ⟨b, off, none⟩) n c] 26 ∧ GrowL enK 33 (sumM [] (x.list.take (k + 1))) (w.heap.size + 1) (sumM [] (x.list.take (k + 1))).length (.slice q' (sumM [] (x.list.take (k + 1))).length kc') vs' GG' w4) := ⟨rfl, HW.out.2.1.trans (hb.mono (by omega)), HW.out.2.2.1.agree (hb.block _ (by omega)), hg⟩
      obtain ⟨m', hm'⟩ : ∃ m', m' = (sumM [] (x.list.take (k + 1))).length := ⟨_, rfl⟩
      rw [← hm'] at HW4 ⊢
      have HM : Hid (m' = (sumM [] (x.list.take (k + 1))).length) := hm'
      clear hg hb hsz hm' c0
      go_wp2
      go_roundw
      case rel => exact ⟨k + 1, m', q', kc', vs', GG', by omega, by go_num, rfl, HM.out, HW4.out.2⟩
      case measure => simp [intOf]; omega
    · obtain rfl : k = n := by omega
      have hI : ¬ (k : Int) < (k : Int) := by omega
      have HV : Hid (x.sums = sumM [] (x.list.take k)) := by show _ = _; unfold Rw.sums; rw [if_pos HD.out.symm, List.take_of_length_le (by rw [HL.out.2.1]; exact Nat.le_refl _)]
      go_wp2
      go_ret
      exact ⟨q, kc, w.heap.size + 1, vs, GG, by rw [HV.out, ← HW.out.1]; rfl, by rw [HV.out, ← HW.out.1]; exact HW.out.2.2.2, by omega, HW.out.2.1⟩
end Go.Proofs.YtjnamoppcklomaaGreat
/- The library's proved contracts, laid at this program by the kit's own command; no statement of the seat is proved here. -/
namespace Go.Proofs
open Go.Shelf
def Tryz.lays122_ren : Go.Shelf.Ren := ⟨fun | 122 => 81 | 215 => 126 | n => n, fun | 3 => 3 | 4 => 4 | n => n, fun | n => n⟩
theorem Tryz.lays122 : Go.Proofs.Lays.n122 Tryz.prog Tryz.lays122_ren := {
  mixed := by kernel_rfl
  f122 := Tryz.func81.trans (congrArg some (by kernel_rfl))
  f215 := Tryz.func126.trans (congrArg some (by kernel_rfl))
  t3 := Tryz.underlying3
  a3 := Tryz.isAgg3
  z3 := Tryz.sizeOf3
  v3 := Tryz.zeroValue3
  t4 := Tryz.underlying4
  a4 := Tryz.isAgg4
  z4 := Tryz.sizeOf4
  v4 := Tryz.zeroValue4 }
open Go.RowKit in
theorem Tryz.cmp_Compare_int (x y : Int) (w : World) :
    Calls Tryz.prog 81 #[.int .i64 x, .int .i64 y] w fun e w' => e = .returned (.int .i64 (Lib.compareInt x y)) ∧ w' = w := Any.cmp_Compare_int Tryz.lays122 x y w
def Tryz.sortL_ren : Go.Shelf.Ren := ⟨fun | 6 => 37 | 15 => 79 | 14 => 78 | 28 => 124 | 29 => 125 | 20 => 116 | 21 => 117 | 22 => 118 | 23 => 119 | 24 => 120 | 25 => 121 | 26 => 122 | 27 => 123 | 46 => 151 | 47 => 152 | 48 => 153 | 49 => 154 | 50 => 155 | 57 => 169 | n => n, fun | 22 => 24 | 24 => 33 | 25 => 68 | 3 => 3 | 39 => 111 | 0 => 0 | 53 => 154 | 55 => 156 | 4 => 4 | 46 => 147 | 45 => 146 | 50 => 151 | 5 => 5 | 9 => 9 | 66 => 175 | 70 => 179 | 76 => 189 | 77 => 173 | n => n, fun | n => n⟩
theorem Tryz.sortL : Go.Proofs.SlLaysF0.n6 Tryz.prog Tryz.sortL_ren := {
  mixed := by kernel_rfl
  f6 := ⟨Tryz.f37.name, by decide, Tryz.func37.trans (congrArg some (by kernel_rfl))⟩
  f14 := ⟨Tryz.f78.name, by decide, Tryz.func78.trans (congrArg some (by kernel_rfl))⟩
  f15 := Tryz.func79.trans (congrArg some (by kernel_rfl))
  f20 := ⟨Tryz.f116.name, by decide, Tryz.func116.trans (congrArg some (by kernel_rfl))⟩
  f21 := ⟨Tryz.f117.name, by decide, Tryz.func117.trans (congrArg some (by kernel_rfl))⟩
  f22 := ⟨Tryz.f118.name, by decide, Tryz.func118.trans (congrArg some (by kernel_rfl))⟩
  f23 := ⟨Tryz.f119.name, by decide, Tryz.func119.trans (congrArg some (by kernel_rfl))⟩
  f24 := ⟨Tryz.f120.name, by decide, Tryz.func120.trans (congrArg some (by kernel_rfl))⟩
  f25 := ⟨Tryz.f121.name, by decide, Tryz.func121.trans (congrArg some (by kernel_rfl))⟩
  f26 := ⟨Tryz.f122.name, by decide, Tryz.func122.trans (congrArg some (by kernel_rfl))⟩
  f27 := ⟨Tryz.f123.name, by decide, Tryz.func123.trans (congrArg some (by kernel_rfl))⟩
  f28 := Tryz.func124.trans (congrArg some (by kernel_rfl))
  f29 := Tryz.func125.trans (congrArg some (by kernel_rfl))
  f46 := ⟨Tryz.f151.name, by decide, Tryz.func151.trans (congrArg some (by kernel_rfl))⟩
  f47 := Tryz.func152.trans (congrArg some (by kernel_rfl))
  f48 := Tryz.func153.trans (congrArg some (by kernel_rfl))
  f49 := ⟨Tryz.f154.name, by decide, Tryz.func154.trans (congrArg some (by kernel_rfl))⟩
  f50 := ⟨Tryz.f155.name, by decide, Tryz.func155.trans (congrArg some (by kernel_rfl))⟩
  f57 := ⟨Tryz.f169.name, by decide, Tryz.func169.trans (congrArg some (by kernel_rfl))⟩
  t0 := Tryz.underlying0
  a0 := Tryz.isAgg0
  z0 := Tryz.sizeOf0
  v0 := Tryz.zeroValue0
  t3 := Tryz.underlying3
  a3 := Tryz.isAgg3
  z3 := Tryz.sizeOf3
  v3 := Tryz.zeroValue3
  t4 := Tryz.underlying4
  a4 := Tryz.isAgg4
  z4 := Tryz.sizeOf4
  v4 := Tryz.zeroValue4
  t5 := Tryz.underlying5
  a5 := Tryz.isAgg5
  z5 := Tryz.sizeOf5
  v5 := Tryz.zeroValue5
  t9 := Tryz.underlying9
  a9 := Tryz.isAgg9
  z9 := Tryz.sizeOf9
  v9 := Tryz.zeroValue9
  t22 := Tryz.underlying24
  a22 := Tryz.isAgg24
  z22 := Tryz.sizeOf24
  v22 := Tryz.zeroValue24
  t25 := Tryz.underlying68
  a25 := Tryz.isAgg68
  z25 := Tryz.sizeOf68
  v25 := Tryz.zeroValue68
  t39 := Tryz.underlying111
  a39 := Tryz.isAgg111
  z39 := Tryz.sizeOf111
  v39 := Tryz.zeroValue111
  t45 := Tryz.underlying146
  a45 := Tryz.isAgg146
  z45 := Tryz.sizeOf146
  v45 := Tryz.zeroValue146
  t46 := Tryz.underlying147
  a46 := Tryz.isAgg147
  z46 := Tryz.sizeOf147
  v46 := Tryz.zeroValue147
  t50 := Tryz.underlying151
  a50 := Tryz.isAgg151
  z50 := Tryz.sizeOf151
  v50 := Tryz.zeroValue151
  t53 := Tryz.underlying154
  a53 := Tryz.isAgg154
  z53 := Tryz.sizeOf154
  v53 := Tryz.zeroValue154
  t55 := Tryz.underlying156
  a55 := Tryz.isAgg156
  z55 := Tryz.sizeOf156
  v55 := Tryz.zeroValue156
  t66 := Tryz.underlying175
  a66 := Tryz.isAgg175
  z66 := Tryz.sizeOf175
  v66 := Tryz.zeroValue175
  t70 := Tryz.underlying179
  a70 := Tryz.isAgg179
  z70 := Tryz.sizeOf179
  v70 := Tryz.zeroValue179
  t76 := Tryz.underlying189
  a76 := Tryz.isAgg189
  z76 := Tryz.sizeOf189
  v76 := Tryz.zeroValue189
  t77 := Tryz.underlying173
  a77 := Tryz.isAgg173
  z77 := Tryz.sizeOf173
  v77 := Tryz.zeroValue173 }
end Go.Proofs
/- cmp.Or over two numbers, the program's byPlace, and what slices.SortFunc asks of it. No statement of the seat is proved here. -/
namespace Go.Proofs.YtjnamoppcklomaaGreat
open Go.RowKit Go.Shelf Go.Sort
theorem grow3 (w : World) (a b c : Obj) : (((w.alloc a).alloc b).drew).alloc c = grow (w.drewN 1) #[a, b, c] := by
  rw [alloc_eq_grow, alloc_eq_grow, alloc_eq_grow]
  have e : ∀ (W : World) (os : Array Obj), (grow W os).drew = grow (W.drewN 1) os := fun _ _ => rfl
  rw [grow_grow, e, grow_grow]
  rfl
def orTwo (x y : Int) : Int := if x = 0 then y else x
set_option maxRecDepth 200000 in
set_option maxHeartbeats 1000000 in
theorem cmpOr_any (L : Nat) (x y : Int) (w : World) (h : Blk w L #[.int .i64 x, .int .i64 y] 3) :
    Calls Tryz.prog 80 #[.slice (some ⟨L, 0, none⟩) 2 2] w fun e w' => e = .returned (.int .i64 (orTwo x y)) ∧ w' = w := by
  have c0 := h.cell 0
  have c1 := h.cell 1
  simp only [aT, aS, aZ] at c0 c1
  clear h
  by_cases hx : x = 0
  · by_cases hy : y = 0
    · have hx' : (x != 0) = false := by simp [hx]
      have hy' : (y != 0) = false := by simp [hy]
      have HV : Hid (orTwo x y = 0) := by show _ = _; unfold orTwo; rw [if_pos hx, hy]
      clear hx hy
      go_enter Tryz.func80, Tryz.ntmps80
      go_wp2
      refine wp_loop_rounds 3 ?_
      rw [rounds_succ]
      go_wp2
      rw [rounds_succ]
      go_wp2
      rw [rounds_succ]
      go_wp2
      go_ret
      exact ⟨by rw [HV.out]; rfl, rfl⟩
    · have hx' : (x != 0) = false := by simp [hx]
      have hy' : (y != 0) = true := by simpa using hy
      have HV : Hid (orTwo x y = y) := by show _ = _; unfold orTwo; rw [if_pos hx]
      clear hx hy
      go_enter Tryz.func80, Tryz.ntmps80
      go_wp2
      refine wp_loop_rounds 2 ?_
      rw [rounds_succ]
      go_wp2
      rw [rounds_succ]
      go_wp2
      go_ret
      exact ⟨by rw [HV.out]; rfl, rfl⟩
  · have hx' : (x != 0) = true := by simpa using hx
    have HV : Hid (orTwo x y = x) := by show _ = _; unfold orTwo; rw [if_neg hx]
    clear hx
    go_enter Tryz.func80, Tryz.ntmps80
    go_wp2
    refine wp_loop_rounds 1 ?_
    rw [rounds_succ]
    go_wp2
    go_ret
    exact ⟨by rw [HV.out]; rfl, rfl⟩
/-- How two places lie. -/
def cmpP (k1 w1 k2 w2 : Int) : Int := orTwo (Lib.compareInt k1 k2) (Lib.compareInt w1 w2)
theorem cmpP_lt {k1 w1 k2 w2 : Int} : decide (cmpP k1 w1 k2 w2 < 0) = (decide (k1 < k2) || (decide (k1 = k2) && decide (w1 < w2))) := by
  unfold cmpP orTwo Lib.compareInt
  by_cases a : k1 < k2
  · simp [a]
  · by_cases b : k2 < k1
    · have : ¬ k1 = k2 := by omega
      simp [a, b, this]
    · have e : k1 = k2 := by omega
      by_cases c : w1 < w2
      · simp [c, e]
      · by_cases d : w2 < w1 <;> simp [c, d, e]
set_option maxRecDepth 200000 in
theorem cmp_any (x y : Int) (w : World) : Calls Tryz.prog 81 #[.int .i64 x, .int .i64 y] w fun e w' => e = .returned (.int .i64 (Lib.compareInt x y)) ∧ w' = w := Tryz.cmp_Compare_int x y w
set_option maxRecDepth 200000 in
set_option maxHeartbeats 4000000 in
theorem byPlace_any (xs ys : Array Value) (k1 w1 k2 w2 : Int) (w : World) (x0 : xs[0]? = some (.int .i64 k1)) (x1 : xs[1]? = some (.int .i64 w1)) (y0 : ys[0]? = some (.int .i64 k2)) (y1 : ys[1]? = some (.int .i64 w2)) :
    Calls Tryz.prog 38 #[.agg xs, .agg ys] w fun e w' => e = .returned (.int .i64 (cmpP k1 w1 k2 w2)) ∧ ∃ q os', w' = grow (w.drewN q) os' := by
  have HT : Hid (Blk ((w.alloc (.cells xs 33)).alloc (.cells ys 33)) w.heap.size xs 33 ∧ Blk ((w.alloc (.cells xs 33)).alloc (.cells ys 33)) (w.heap.size + 1) ys 33) := ⟨(Blk.made _ _ _).alloc _, Blk.made_eq (by simp)⟩
  have HC : Hid (xs[0]? = some (.int .i64 k1) ∧ xs[1]? = some (.int .i64 w1) ∧ ys[0]? = some (.int .i64 k2) ∧ ys[1]? = some (.int .i64 w2)) := ⟨x0, x1, y0, y1⟩
  clear x0 x1 y0 y1
  go_enter Tryz.func38, Tryz.ntmps38
  go_wp2_with fail
  obtain ⟨W0, hW0⟩ : ∃ W, W = ((w.alloc (.cells xs 33)).alloc (.cells ys 33)) := ⟨_, rfl⟩
  have HW0 : Hid (W0 = ((w.alloc (.cells xs 33)).alloc (.cells ys 33))) := hW0
  rw [← hW0] at HT ⊢
  clear hW0
  refine wp_region_held (S := fun W => W.cell? ⟨w.heap.size, 0, none⟩ = some (.int .i64 k1) ∧ W.cell? ⟨w.heap.size + 1, 0, none⟩ = some (.int .i64 k2) ∧ W.cell? ⟨w.heap.size, 1, none⟩ = some (.int .i64 w1) ∧ W.cell? ⟨w.heap.size + 1, 1, none⟩ = some (.int .i64 w2)) (by kernel_rfl) ?_
  change wpAnyH _ _ _ _ _ _ _ _ (World.drew _)
  have HS : Hid (W0.drew.cell? ⟨w.heap.size, 0, none⟩ = some (.int .i64 k1) ∧ W0.drew.cell? ⟨w.heap.size + 1, 0, none⟩ = some (.int .i64 k2) ∧ W0.drew.cell? ⟨w.heap.size, 1, none⟩ = some (.int .i64 w1) ∧ W0.drew.cell? ⟨w.heap.size + 1, 1, none⟩ = some (.int .i64 w2)) := ⟨(HT.out.1.drew.cell 0).trans HC.out.1, (HT.out.2.drew.cell 0).trans HC.out.2.2.1, (HT.out.1.drew.cell 1).trans HC.out.2.1, (HT.out.2.drew.cell 1).trans HC.out.2.2.2⟩
  obtain ⟨Y0, hY0⟩ : ∃ Y, Y = W0.drew := ⟨_, rfl⟩
  have HY0 : Hid (Y0 = W0.drew) := hY0
  rw [← hY0] at HS ⊢
  clear hY0
  refine takeH (o := ?o1) 0 (.pointer (some ⟨w.heap.size, 0, none⟩)) ?h1 ?r1
  case h1 => simp only [aT, aZ]; rfl
  refine ⟨_, by simp [Act.put]; rfl, by kernel_rfl, by kernel_rfl, by kernel_rfl, fun _ _ _ h => h, (.inl ⟨rfl, fun W _ => by go_simp⟩), HS.out, ?_⟩
  refine takeH (o := ?o2) 1 (.int .i64 k1) ?h2 ?r2
  case h2 => simp only [aT, aS, aZ]; rfl
  refine ⟨_, by simp [Act.put]; rfl, by kernel_rfl, by kernel_rfl, by kernel_rfl, fun _ _ _ h => h, (.inl ⟨rfl, fun W hW => by have c := hW.1; go_simp⟩), HS.out, ?_⟩
  refine takeH (o := ?o3) 2 (.pointer (some ⟨w.heap.size + 1, 0, none⟩)) ?h3 ?r3
  case h3 => simp only [aT, aS, aZ]; rfl
  refine ⟨_, by simp [Act.put]; rfl, by kernel_rfl, by kernel_rfl, by kernel_rfl, fun _ _ _ h => h, (.inl ⟨rfl, fun W _ => by go_simp⟩), HS.out, ?_⟩
  refine takeH (o := ?o4) 3 (.int .i64 k2) ?h4 ?r4
  case h4 => simp only [aT, aS, aZ]; rfl
  refine ⟨_, by simp [Act.put]; rfl, by kernel_rfl, by kernel_rfl, by kernel_rfl, fun _ _ _ h => h, (.inl ⟨rfl, fun W hW => by have c := hW.2.1; go_simp⟩), HS.out, ?_⟩
  refine takeH (o := ?o5) 5 (.pointer (some ⟨w.heap.size, 1, none⟩)) ?h5 ?r5
  case h5 => simp only [aT, aS, aZ]; rfl
  refine ⟨_, by simp [Act.put]; rfl, by kernel_rfl, by kernel_rfl, by kernel_rfl, fun _ _ _ h => h, (.inl ⟨rfl, fun W _ => by go_simp⟩), HS.out, ?_⟩
  refine takeH (o := ?o6) 6 (.int .i64 w1) ?h6 ?r6
  case h6 => simp only [aT, aS, aZ]; rfl
  refine ⟨_, by simp [Act.put]; rfl, by kernel_rfl, by kernel_rfl, by kernel_rfl, fun _ _ _ h => h, (.inl ⟨rfl, fun W hW => by have c := hW.2.2.1; go_simp⟩), HS.out, ?_⟩
  refine takeH (o := ?o7) 7 (.pointer (some ⟨w.heap.size + 1, 1, none⟩)) ?h7 ?r7
  case h7 => simp only [aT, aS, aZ]; rfl
  refine ⟨_, by simp [Act.put]; rfl, by kernel_rfl, by kernel_rfl, by kernel_rfl, fun _ _ _ h => h, (.inl ⟨rfl, fun W _ => by go_simp⟩), HS.out, ?_⟩
  refine takeH (o := ?o8) 8 (.int .i64 w2) ?h8 ?r8
  case h8 => simp only [aT, aS, aZ]; rfl
  refine ⟨_, by simp [Act.put]; rfl, by kernel_rfl, by kernel_rfl, by kernel_rfl, fun _ _ _ h => h, (.inl ⟨rfl, fun W hW => by have c := hW.2.2.2; go_simp⟩), HS.out, ?_⟩
  refine onlyH (o := ?o9) 4 (by kernel_rfl) ?h9 ?r9
  case h9 => simp only [aT, aS, aZ]; rfl
  intro K hK
  refine op_call2 81 _ _ _ Tryz.f81 (fun w' => w' = Y0) (.int .i64 (Lib.compareInt k1 k2)) rfl rfl Tryz.func81 (by kernel_rfl) (by kernel_rfl) (cmp_any k1 k2 Y0) ⟨_, by simp [Act.put]; rfl, ?_⟩
  intro w' hw'
  have hw2' := hw'.symm
  subst hw2'
  clear hw'
  refine hK _ _ ⟨HS.out, ?_⟩
  clear hK
  obtain ⟨p, hp⟩ : ∃ p, p = Lib.compareInt k1 k2 := ⟨_, rfl⟩
  rw [← hp]
  have HP : Hid (p = Lib.compareInt k1 k2) := hp
  clear hp
  refine onlyH (o := ?o10) 9 (by kernel_rfl) ?h10 ?r10
  case h10 => simp only [aT, aS, aZ]; rfl
  intro K hK
  refine op_call2 81 _ _ _ Tryz.f81 (fun w' => w' = Y0) (.int .i64 (Lib.compareInt w1 w2)) rfl rfl Tryz.func81 (by kernel_rfl) (by kernel_rfl) (cmp_any w1 w2 Y0) ⟨_, by simp [Act.put]; rfl, ?_⟩
  intro w' hw'
  have hw2' := hw'.symm
  subst hw2'
  clear hw'
  refine hK _ _ ⟨HS.out, ?_⟩
  clear hK
  obtain ⟨u, hu⟩ : ∃ u, u = Lib.compareInt w1 w2 := ⟨_, rfl⟩
  rw [← hu]
  have HU : Hid (u = Lib.compareInt w1 w2) := hu
  clear hu
  refine onlyH (o := ?o11) 10 (by kernel_rfl) ?h11 ?r11
  case h11 => simp only [aT, aS, aZ]; rfl
  intro K hK
  have HSA : Hid ((Y0.alloc (.cells #[.int .i64 p, .int .i64 u] 3)).cell? ⟨w.heap.size, 0, none⟩ = some (.int .i64 k1) ∧ (Y0.alloc (.cells #[.int .i64 p, .int .i64 u] 3)).cell? ⟨w.heap.size + 1, 0, none⟩ = some (.int .i64 k2) ∧ (Y0.alloc (.cells #[.int .i64 p, .int .i64 u] 3)).cell? ⟨w.heap.size, 1, none⟩ = some (.int .i64 w1) ∧ (Y0.alloc (.cells #[.int .i64 p, .int .i64 u] 3)).cell? ⟨w.heap.size + 1, 1, none⟩ = some (.int .i64 w2)) := by
    have b : Below Y0.heap.size Y0 (Y0.alloc (.cells #[.int .i64 p, .int .i64 u] 3)) := (Below.refl _ _).alloc (Nat.le_refl _) _
    have l0 := World.block_lt_of_cell? _ _ HS.out.1
    have l1 := World.block_lt_of_cell? _ _ HS.out.2.1
    exact ⟨(b.cell (p := ⟨w.heap.size, 0, none⟩) l0).trans HS.out.1, (b.cell (p := ⟨w.heap.size + 1, 0, none⟩) l1).trans HS.out.2.1, (b.cell (p := ⟨w.heap.size, 1, none⟩) l0).trans HS.out.2.2.1, (b.cell (p := ⟨w.heap.size + 1, 1, none⟩) l1).trans HS.out.2.2.2⟩
  refine op_turn (.slice (some ⟨Y0.heap.size, 0, none⟩) 2 2) (Y0.alloc (.cells #[.int .i64 p, .int .i64 u] 3)) rfl (by go_simp) ⟨_, by simp [Act.put]; rfl, hK _ _ ⟨HSA.out, ?_⟩⟩
  clear hK
  refine onlyH (o := ?o12) 11 (by kernel_rfl) ?h12 ?r12
  case h12 => simp only [aT, aS, aZ]; rfl
  intro K hK
  refine op_call1 80 _ _ Tryz.f80 (fun v w' => v = .int .i64 (orTwo p u) ∧ w' = (Y0.alloc (.cells #[.int .i64 p, .int .i64 u] 3))) rfl rfl Tryz.func80 (by kernel_rfl) (by kernel_rfl) ((cmpOr_any Y0.heap.size p u _ (Blk.made _ _ _)).mono (by rintro e w' ⟨rfl, rfl⟩; exact ⟨_, rfl, rfl, rfl⟩)) ?_
  rintro _ _ ⟨rfl, rfl⟩
  refine ⟨_, by simp [Act.put]; rfl, hK _ _ ⟨HSA.out, ?_⟩⟩
  clear hK
  refine takeH (o := ?o13) 12 (.int .i64 (orTwo p u)) ?h13 ?r13
  case h13 => simp only [aT, aS, aZ]; rfl
  refine ⟨_, by simp [Act.put]; rfl, by kernel_rfl, by kernel_rfl, by kernel_rfl, fun _ _ _ h => h, (.inl ⟨rfl, fun W _ => by kernel_rfl⟩), HSA.out, ?_⟩
  refine wpAnyH_done (by kernel_rfl) ?_ _
  go_wp2
  go_ret
  refine ⟨ret_int (by rw [HP.out, HU.out]; rfl), 1, #[.cells xs 33, .cells ys 33, .cells #[.int .i64 p, .int .i64 u] 3], ?_⟩
  rw [HY0.out, HW0.out]
  exact grow3 w _ _ _
/-- The cells of an entry. -/
structure EnC where
  cs : Array Value
  size : cs.size = 10
  one : cs.all (·.oneCell') = true
  k : Int
  w : Int
  k0 : cs[0]? = some (.int .i64 k)
  w1 : cs[1]? = some (.int .i64 w)
instance : Inhabited EnC := ⟨⟨#[.int .i64 0, .int .i64 0, .slice none 0 0, .int .i64 0, .int .i64 0, .int .i64 0, .int .i64 0, .slice none 0 0, .slice none 0 0, .slice none 0 0], rfl, by simp [Value.oneCell'], 0, 0, rfl, rfl⟩⟩
def EnC.enc (x : EnC) : List Value := x.cs.toList
def EnC.cf (x y : EnC) : Int := cmpP x.k x.w y.k y.w
theorem EnC.lt (x y : EnC) : ltOf EnC.cf x y = (decide (x.k < y.k) || (decide (x.k = y.k) && decide (x.w < y.w))) := cmpP_lt
theorem EnC.swo : SWO (ltOf EnC.cf) where
  irrefl x := by rw [EnC.lt]; simp
  trans x y z h1 h2 := by rw [EnC.lt] at *; simp at *; omega
  ntrans x y z h1 h2 := by rw [EnC.lt] at *; simp at *; omega
theorem byPlace_lays (blk off size : Nat) (w : World) : CmpLays Tryz.prog 38 #[] EnC.enc 10 EnC.cf blk off size w := fun _ _ _ _ x y => by
  have h := byPlace_any x.cs y.cs x.k x.w y.k y.w
  have e : (#[.agg x.enc.toArray, .agg y.enc.toArray] : Array Value) ++ #[] = #[.agg x.cs, .agg y.cs] := by simp [EnC.enc]
  rw [e]
  exact h _ x.k0 x.w1 y.k0 y.w1
set_option maxRecDepth 200000 in
/-- slices.SortFunc at entries, by byPlace. -/
theorem sort_any (blk off cap : Nat) (d : Array EnC) (w : World) (hH : HoldsK EnC.enc 10 w blk off d) (hblk : blk < w.heap.size) (hsz : d.size ≤ 1000) :
    Calls Tryz.prog 37 #[.slice (some ⟨blk, off, none⟩) d.size cap, .func (.func 38) #[] #[]] w fun e w' => e = .returned (.tuple #[]) ∧ ∃ d' n os, PermIn 0 d.size d d' ∧ SortedIn (ltOf EnC.cf) 0 d.size d' ∧ w' = sortWorldK EnC.enc 10 w blk off n d' os := by
  have eg : ∀ args w, (callFunc 38 args).run Tryz.prog w = .ok (.enter 38 args) w := enters_of Tryz.func38 (by kernel_rfl) rfl
  exact AnyQ.slices_SortFunc Tryz.sortL 10 Tryz.isAgg33 Tryz.sizeOf33 EnC.enc (fun x => by show x.cs.toList.length = 10; rw [Array.length_toList]; exact x.size) (fun x v hv => by have := x.one; rw [Array.all_eq_true'] at this; exact this v (by simpa [EnC.enc] using hv)) EnC.cf EnC.swo 38 #[] blk off cap d w eg (byPlace_lays blk off d.size w) hH hblk (by omega)
set_option maxRecDepth 200000 in
theorem sort_none (p : Option Addr) (cap : Nat) (fv : Value) (w : World) :
    Calls Tryz.prog 37 #[.slice p 0 cap, fv] w fun e w' => e = .returned (.tuple #[]) ∧ w' = w := AnyF.slices_SortFunc_none { Tryz.sortL with } p cap fv w
end Go.Proofs.YtjnamoppcklomaaGreat
/- A list of structs whose cells are put into another order: the elements and their blocks go along. No statement of the seat is proved here. -/
namespace Go.Proofs.YtjnamoppcklomaaGreat
open Go.RowKit
/-- What is a permutation of a mapped list is the map of a permutation. -/
theorem perm_lift {α β : Type} (f : α → β) : ∀ {bs cs : List β}, bs.Perm cs → ∀ (zs : List α), zs.map f = bs → ∃ zs2 : List α, zs2.map f = cs ∧ zs.Perm zs2 := by
  intro bs cs h
  induction h with
  | nil => intro zs e; exact ⟨zs, e, List.Perm.refl _⟩
  | cons x _ ih =>
    intro zs e
    cases zs with
    | nil => simp at e
    | cons a zs =>
      rw [List.map_cons] at e
      injection e with e1 e2
      obtain ⟨zs2, q1, q2⟩ := ih zs e2
      exact ⟨a :: zs2, by rw [List.map_cons, e1, q1], q2.cons a⟩
  | swap x y l =>
    intro zs e
    cases zs with
    | nil => simp at e
    | cons a zs =>
      cases zs with
      | nil => simp at e
      | cons b zs =>
        simp only [List.map_cons] at e
        injection e with e1 e2
        injection e2 with e2 e3
        exact ⟨b :: a :: zs, by simp only [List.map_cons, e1, e2, e3], List.Perm.swap b a zs⟩
  | trans _ _ ih1 ih2 =>
    intro zs e
    obtain ⟨zz1, q1, q2⟩ := ih1 zs e
    obtain ⟨zz2, r1, r2⟩ := ih2 zz1 q1
    exact ⟨zz2, r1, q2.trans r2⟩
section
variable {α : Type} {K : ElK α} {w : World}
end
end Go.Proofs.YtjnamoppcklomaaGreat
/- A list of entries in a new row, sorted by place. No statement of the seat is proved here. -/
namespace Go.Proofs.YtjnamoppcklomaaGreat
open Go.RowKit Go.Shelf Go.Sort
/-- An entry, its cells, its blocks. -/
structure EnT where
  x : En
  e : EnC
  G : List Nat
def EnTs (w : World) (T : List EnT) : Prop := ∀ t ∈ T, RdE w (.agg t.e.cs) t.x t.G ∧ t.e.k = t.x.key ∧ t.e.w = t.x.window
theorem enT_open {w : World} : ∀ {xs : List En} {vs : List Value} {F : List Nat}, RdC enK w xs vs F → (∀ u ∈ vs, u.oneCell' = true) → ∃ T : List EnT, EnTs w T ∧ T.map (·.x) = xs ∧ (T.map (fun t => t.e.enc)).flatten = vs ∧ (T.map (·.G)).flatten = F
  | [], vs, F, h, _ => by
    obtain ⟨rfl, rfl⟩ := h
    exact ⟨[], (fun t ht => by cases ht), rfl, rfl, rfl⟩
  | x :: xs, vs, F, h, h1 => by
    obtain ⟨cs, vs', F1, F2, rfl, h2, h3, h4, rfl⟩ := h
    obtain ⟨T, q1, q2, q3, q4⟩ := enT_open h4 (fun u hu => h1 u (List.mem_append_right _ hu))
    have h3' : RdE w (.agg cs) x F1 := h3
    have c01 : cs[0]? = some (.int .i64 x.key) ∧ cs[1]? = some (.int .i64 x.window) := by
      obtain ⟨G1, G2, rfl, b, l, c, a1, n1, c1, a2, n2, c2, a3, n3, c3, hv, _⟩ := h3'
      injection hv with hv
      subst hv
      exact ⟨rfl, rfl⟩
    refine ⟨⟨x, ⟨cs, h2, by rw [Array.all_eq_true']; exact fun u hu => h1 u (List.mem_append_left _ (by simpa using hu)), x.key, x.window, c01.1, c01.2⟩, F1⟩ :: T, fun t ht => ?_, by simp [q2], by rw [List.map_cons, List.flatten_cons, q3]; rfl, by simp [q4]⟩
    rcases List.mem_cons.1 ht with rfl | ht
    · exact ⟨h3, rfl, rfl⟩
    · exact q1 t ht
theorem enT_shut {w : World} : ∀ {T : List EnT}, EnTs w T → RdC enK w (T.map (·.x)) (T.map (fun t => t.e.enc)).flatten (T.map (·.G)).flatten
  | [], _ => ⟨rfl, rfl⟩
  | t :: _, h => ⟨t.e.cs, _, t.G, _, rfl, t.e.size, (h t List.mem_cons_self).1, enT_shut (fun s hs => h s (List.mem_cons_of_mem _ hs)), rfl⟩
theorem flat_get : ∀ (es : List EnC) (j : Nat), j < es.length * 10 → ((es.map EnC.enc).flatten)[j]? = some ((es[j / 10]!).enc[j % 10]!)
  | [], j, h => by simp at h
  | e :: es, j, h => by
    have he : e.enc.length = 10 := by unfold EnC.enc; rw [Array.length_toList]; exact e.size
    rw [List.map_cons, List.flatten_cons]
    by_cases h10 : j < 10
    · rw [List.getElem?_append_left (by omega)]
      have a : j / 10 = 0 := by omega
      have b : j % 10 = j := by omega
      rw [a, b]
      show _ = some (e.enc[j]!)
      rw [List.getElem?_eq_getElem (by omega), List.getElem!_eq_getElem?_getD, List.getElem?_eq_getElem (by omega)]; rfl
    · rw [List.getElem?_append_right (by omega), he]
      have := flat_get es (j - 10) (by simp at h; omega)
      rw [this]
      have a : j / 10 = (j - 10) / 10 + 1 := by omega
      have b : j % 10 = (j - 10) % 10 := by omega
      rw [a, b]
      rfl
theorem holds_of {w : World} {g : Nat} {es : List EnC} {vs : List Value} (hv : (es.map EnC.enc).flatten = vs) (hc : ∀ j, j < es.length * 10 → w.cell? ⟨g, j, none⟩ = vs[j]?) (hf : ∀ j, w.frozen? ⟨g, j, none⟩ = false) : HoldsK EnC.enc 10 w g 0 es.toArray := by
  intro j hj
  rw [size_flatK] at hj
  have hj' : j < es.length * 10 := by simpa using hj
  rw [get_flatK _ _ _ _ hj, Nat.zero_add]
  refine ⟨?_, hf j⟩
  rw [hc j hj', ← hv, flat_get es j hj']
  simp
theorem enCells_of {w : World} {g : Nat} {d : Array EnC} (h : HoldsK EnC.enc 10 w g 0 d) : ∀ j, j < d.size * 10 → w.cell? ⟨g, j, none⟩ = ((d.toList.map EnC.enc).flatten)[j]? := by
  intro j hj
  have := (h j (by rw [size_flatK]; exact hj)).1
  rw [get_flatK _ _ _ _ hj, Nat.zero_add] at this
  rw [this, flat_get d.toList j (by simpa using hj)]
  have e : d[j / 10]! = d.toList[j / 10]! := by
    rw [getElem!_def, List.getElem!_eq_getElem?_getD, Array.getElem?_toList]
    cases d[j / 10]? <;> rfl
  rw [e]; rfl
theorem sort_grown {w : World} {g n : Nat} {d : Array EnC} {os : Array Obj} : w.grownBy (sortWorldK EnC.enc 10 w g 0 n d os) (some g) := by
  unfold sortWorldK putRowK
  refine ⟨rfl, rfl, rfl, by simp, fun k hk hne => ?_⟩
  rw [heap_grow_old _ _ (by simpa using hk)]
  have : g ≠ k := fun e => hne (by rw [e])
  simp [putRow, mapBlock, Sort.ahead, Array.getElem?_modify, this]
set_option maxRecDepth 200000 in
/-- The sums that were pushed, sorted: the model's, wherever their blocks lie. -/
theorem sorted_any (w w1 : World) (P M : List En) (v : Value) (H : List Nat) (h : Shal w P v H w1) (hp : 0 < P.length) (hl : P.length ≤ 1000) (hperm : P.Perm M) (ha : Asc M) (hH : ∀ g cap, v = .slice (some ⟨g, 0, none⟩) P.length cap → g ∉ H) :
    Calls Tryz.prog 37 #[v, .func (.func 38) #[] #[]] w1 fun e w2 => e = .returned (.tuple #[]) ∧ (∃ F, RdRw w2 (.agg #[v]) ⟨M⟩ F) ∧ Below w.heap.size w w2 ∧ ∀ Q, Q < w1.heap.size → (∀ g n c, v = .slice (some ⟨g, 0, none⟩) n c → Q ≠ g) → Agree w1 w2 [Q] := by
  obtain ⟨g, cap, rfl, hcap, _, hge, hgl, hfr⟩ := h.row hp
  have hgH := hH g cap rfl
  obtain ⟨vs, ho, hr, h1, hb⟩ := h
  obtain ⟨T, q1, q2, q3, q4⟩ := enT_open hr h1
  have hTl : T.length = P.length := by rw [← q2]; simp
  obtain ⟨es, hes⟩ : ∃ es, es = T.map (·.e) := ⟨_, rfl⟩
  have hel : es.length = P.length := by rw [hes]; simpa using hTl
  have hv : (es.map EnC.enc).flatten = vs := by rw [← q3, hes, List.map_map]; rfl
  have hh : HoldsK EnC.enc 10 w1 g 0 es.toArray := holds_of hv (fun j hj => ho.cellAt j (by omega)) (fun j => ho.frozenAt j)
  have hs := sort_any g 0 cap es.toArray w1 hh hgl (by simp; omega)
  have hsz : es.toArray.size = P.length := by simpa using hel
  rw [hsz] at hs
  refine hs.mono ?_
  rintro e w2 ⟨rfl, d', n, os, ⟨p1, p2, p3⟩, so, rfl⟩
  refine ⟨rfl, ?_⟩
  have hds : d'.size = P.length := by rw [p1, hsz]
  have pp : es.Perm d'.toList := by
    have e1 : (es.toArray.extract 0 P.length).toList = es := by rw [Array.extract_eq_self_of_le (by omega)] <;> simp
    have e2 : (d'.extract 0 P.length).toList = d'.toList := by rw [Array.extract_eq_self_of_le (by omega)]
    rw [e1, e2] at p3
    exact p3.symm
  obtain ⟨T', t1, t2⟩ := perm_lift (fun t : EnT => t.e) pp T hes.symm
  have hT' : EnTs w1 T' := fun t ht => q1 t (t2.mem_iff.2 ht)
  have hasc : Asc (T'.map (·.x)) := by
    have hd : Dist (T'.map (·.x)) := ha.dist.perm (hperm.symm.trans (by rw [← q2]; exact t2.map _))
    refine List.pairwise_iff_getElem.2 fun i j hi hj hij => ?_
    have hd2 := List.pairwise_iff_getElem.1 hd i j hi hj hij
    have hi' : i < T'.length := by simpa using hi
    have hj' : j < T'.length := by simpa using hj
    have hTd : T'.length = P.length := by rw [← t2.length_eq]; exact hTl
    have sj := so i j (Nat.zero_le _) hij (by omega)
    have gi : d'[i]! = T'[i].e := by
      have : d'.toList[i]? = some T'[i].e := by rw [← t1, List.getElem?_map, List.getElem?_eq_getElem hi']; rfl
      rw [getElem!_def, ← Array.getElem?_toList, this]
    have gj : d'[j]! = T'[j].e := by
      have : d'.toList[j]? = some T'[j].e := by rw [← t1, List.getElem?_map, List.getElem?_eq_getElem hj']; rfl
      rw [getElem!_def, ← Array.getElem?_toList, this]
    rw [gi, gj, EnC.lt] at sj
    obtain ⟨_, k1, k2⟩ := hT' T'[i] (List.getElem_mem _)
    obtain ⟨_, k3, k4⟩ := hT' T'[j] (List.getElem_mem _)
    simp only [List.getElem_map] at hd2 ⊢
    refine placeLt_total hd2 ?_
    unfold placeLt
    rw [← k1, ← k2, ← k3, ← k4]
    rw [← sj]
    by_cases q : T'[j].e.k = T'[i].e.k <;> simp [q]
  have hM : T'.map (·.x) = M := asc_unique hasc ha ((t2.map _).symm.trans (by rw [q2]; exact hperm))
  have gr : w1.grownBy (sortWorldK EnC.enc 10 w1 g 0 n d' os) (some g) := sort_grown
  have rdc := enT_shut hT'
  have hF' : ∀ b ∈ (T'.map (·.G)).flatten, b ∈ H := fun b hb => by
    rw [← q4]; exact ((t2.map _).flatten).mem_iff.2 hb
  have ag : Agree w1 (sortWorldK EnC.enc 10 w1 g 0 n d' os) (T'.map (·.G)).flatten := fun b hb => gr.block b (rdc.lt b hb) (fun e => by simp at e; subst e; exact hgH (hF' _ hb))
  have rd2 := rdc.agree ag
  rw [hM] at rd2
  have hml : M.length = P.length := hperm.length_eq.symm
  have hcells := enCells_of (SWK.holds (dk := d') ⟨n, os, rfl⟩ hgl hh (by rw [hds, hsz]))
  refine ⟨⟨g :: (T'.map (·.G)).flatten, ⟨some ⟨g, 0, none⟩, P.length, cap, rfl, ⟨hml, .inr ⟨g, 0, _, hp, rfl, rfl, rdEls_of 0 rd2 (fun i hi => ?_)⟩⟩, ⟨fun e => (by cases e), hcap⟩⟩⟩, ⟨gr.os.trans hb.os, gr.tape.trans hb.tape, gr.output.trans hb.output, Nat.le_trans hb.size gr.size, fun b hb' => (gr.block b (by have := hb.size; omega) (fun e => by simp at e; omega)).trans (hb.block b hb')⟩, fun Q hq hn b hb' => by
    rw [List.mem_singleton] at hb'
    subst hb'
    exact gr.block _ hq (fun e => by simp at e; exact hn g _ _ rfl e)⟩
  have hfl : (T'.map (fun t => t.e.enc)).flatten = (d'.toList.map EnC.enc).flatten := by rw [← t1, List.map_map]; rfl
  have hlen : ((d'.toList.map EnC.enc).flatten).length = d'.size * 10 := by
    have : ∀ L : List EnC, ((L.map EnC.enc).flatten).length = L.length * 10 := by
      intro L
      induction L with
      | nil => rfl
      | cons a L ih => rw [List.map_cons, List.flatten_cons, List.length_append, ih]; unfold EnC.enc; rw [Array.length_toList, a.size, List.length_cons]; omega
    rw [this]; simp
  rw [hfl] at hi ⊢
  rw [Nat.zero_add]
  exact hcells i (by rw [← hlen]; exact hi)
end Go.Proofs.YtjnamoppcklomaaGreat
/- The program's each of copiedEntry, copiedRow. No statement of the seat is proved here. -/
namespace Go.Proofs.YtjnamoppcklomaaGreat
open Go.RowKit
theorem infoQI : (Tryz.prog.info? 60).map (·.size) = some 1 := by kernel_rfl
set_option maxRecDepth 200000 in
set_option maxHeartbeats 8000000 in
theorem each_grow (v : Value) (x : Rw) (F0 : List Nat) (w : World) (h : RdRw w v x F0) (hf : ∀ y ∈ x.list, y.fits) (hlen : x.list.length ≤ 2097152) :
    Calls Tryz.prog 39 #[v, .func (.func 40) #[] #[]] w fun e w' => NewRwG w x.list e w' := by
  obtain ⟨j0, hj, hy0, hy1, hy2⟩ := info_parts infoEnG
  obtain ⟨a, n, c, rfl, hL, hcp⟩ := h
  have hn1 : n ≤ 2097152 := by rw [← hL.length]; exact hlen
  have HL : Hid (RdL enK w a n x.list F0 ∧ (∀ y ∈ x.list, y.fits) ∧ x.list.length = n) := ⟨hL, hf, hL.length⟩
  clear hL hf hcp hlen
  have HT0 : Hid (_ ∧ _ ∧ _) := two_made w #[.slice a n c] #[.slice none 0 0] 60 60
  go_enter Tryz.func39, Tryz.ntmps39
  go_wp2
  go_loopw [5, 11] (fun q i wr => ∃ (k : Nat) (v : Value) (vs : List Value) (GG : List Nat), k ≤ n ∧ i = .int .i64 k ∧ v = q ∧ Hid (CpRw w #[.slice a n c] 60 x.list (w.heap.size + 2) k v vs GG wr)) (fun _ i _ => n - (intOf i).toNat)
  case atStart => exact ⟨0, .slice none 0 0, [], [], by omega, rfl, rfl, ⟨HT0.out.1, HT0.out.2.1, HT0.out.2.2, GrowL.start (by simp), Nat.le_refl _⟩⟩
  case round =>
    clear HT0
    obtain ⟨k, v, vs, GG, hk, rfl, rfl, CSS⟩ := hrel
    by_cases hlt : k < n
    · have hI : (k : Int) < (n : Int) := by omega
      obtain ⟨b, off, y, cs, Fi, rfl, hbw, hy, hcs, hcc, hr⟩ := ens_at HL.out.1 hlt
      have HY : Hid (x.list[k]? = some y ∧ y.fits ∧ cs.size = 10 ∧ RdE w (.agg cs) y Fi ∧ cs.all (·.oneCell') = true) := ⟨hy, HL.out.2.1 y (List.mem_of_getElem? hy), hcs, hr, by
        obtain ⟨cs', e, _, h1⟩ := RdE.cells hr
        injection e with e
        rw [e]
        exact h1⟩
      have HC : Hid (∀ j, j < 10 → wr.cell? ⟨b, off + k * 10 + j, none⟩ = cs[j]?) := fun j hj => by
        have q : wr.cell? ⟨b, off + k * 10 + j, none⟩ = w.cell? ⟨b, off + k * 10 + j, none⟩ := CSS.out.bel.cell (p := ⟨b, off + k * 10 + j, none⟩) hbw
        exact q.trans (hcc j hj)
      clear hbw hcs hcc hr hy
      go_wp2_with (first | go_skip | (with_reducible refine stopLoad 33 rfl ?_))
      refine load_at 33 b (off + k * 10) 10 cs _ HC.out HY.out.2.2.1 rfl rfl rfl Tryz.underlying33 rfl infoEnG2 ?_
      go_wp2_with (first | go_skip | (with_reducible refine stopStore 33 rfl ?_))
      refine store_fresh 33 wr.heap.size rfl #[.int .i64 0, .int .i64 0, .slice none 0 0, .int .i64 0, .int .i64 0, .int .i64 0, .int .i64 0, .slice none 0 0, .slice none 0 0, .slice none 0 0] cs 33 rfl rfl rfl rfl (by rw [HY.out.2.2.1]; exact infoEnG2) (by rw [HY.out.2.2.1]; rfl) HY.out.2.2.2.2 ?_
      intro w2 hg2 hb2
      have CS2 : Hid (CpRw w #[.slice (some ⟨b, off, none⟩) n c] 60 x.list (w.heap.size + 2) k v vs GG w2 ∧ Blk w2 wr.heap.size cs 33) := ⟨CSS.out.below hb2, hg2⟩
      obtain ⟨X, hX⟩ : ∃ X, X = wr.heap.size := ⟨_, rfl⟩
      rw [← hX] at CS2 ⊢
      clear hg2 hb2 CSS HC hX
      go_wp2_with (first | go_skip | (with_reducible refine stopLoad 33 rfl ?_))
      refine load_known 33 X cs 33 _ CS2.out.2 rfl rfl rfl Tryz.underlying33 rfl (by rw [HY.out.2.2.1]; exact infoEnG2) ?_
      go_wp2_with fail
      refine (copiedEntry_any _ y Fi _ (HY.out.2.2.2.1.below CS2.out.1.bel) HY.out.2.1).mono ?_
      rintro e w3 ⟨v3, F3, rfl, r3, o3, hb3⟩
      have r3' := r3
      obtain ⟨H1, H2, _, b0, l0, c0, b1, m1, d1, b2, m2, d2, b3, m3, d3, rfl, _⟩ := r3
      have CS3 : Hid (CpRw w #[.slice (some ⟨b, off, none⟩) n c] 60 x.list (w.heap.size + 2) k v vs GG w3) := CS2.out.1.below hb3
      have HK : Hid (RdE w3 (.agg #[.int .i64 y.key, .int .i64 y.window, .slice b0 l0 c0, .int .i64 y.sk.count, .int .i64 y.sk.sum, .int .i64 y.sk.min, .int .i64 y.sk.max, .slice b1 m1 d1, .slice b2 m2 d2, .slice b3 m3 d3]) y F3 ∧ Own w2.heap.size w3 F3 ∧ (∀ b ∈ GG, b < w2.heap.size) ∧ (∀ b, v.ownBlock = some b → b < w2.heap.size) ∧ w.heap.size + 2 ≤ w2.heap.size) := ⟨r3', o3, CS2.out.1.grow.lts⟩
      clear r3' o3 hb3 CS2
      go_wp2_with (with_reducible refine stopAppend rfl ?_)
      obtain ⟨W6, hW6⟩ : ∃ W, W = w3.alloc (.cells #[.int .i64 y.key, .int .i64 y.window, .slice b0 l0 c0, .int .i64 y.sk.count, .int .i64 y.sk.sum, .int .i64 y.sk.min, .int .i64 y.sk.max, .slice b1 m1 d1, .slice b2 m2 d2, .slice b3 m3 d3] 33) := ⟨_, rfl⟩
      have hbn : Below w3.heap.size w3 W6 := by rw [hW6]; exact (Below.refl _ _).alloc (Nat.le_refl _) _
      have HCN : Hid (∀ (j : Nat) (u : Value), [.int .i64 y.key, .int .i64 y.window, .slice b0 l0 c0, .int .i64 y.sk.count, .int .i64 y.sk.sum, .int .i64 y.sk.min, .int .i64 y.sk.max, .slice b1 m1 d1, .slice b2 m2 d2, .slice b3 m3 d3][j]? = some u → W6.cell? ((⟨w3.heap.size, 0, none⟩ : Addr).add j) = some u) := by rw [hW6]; exact news_lit w3 #[.int .i64 y.key, .int .i64 y.window, .slice b0 l0 c0, .int .i64 y.sk.count, .int .i64 y.sk.sum, .int .i64 y.sk.min, .int .i64 y.sk.max, .slice b1 m1 d1, .slice b2 m2 d2, .slice b3 m3 d3] 33
      have CS6 : Hid (CpRw w #[.slice (some ⟨b, off, none⟩) n c] 60 x.list (w.heap.size + 2) k v vs GG W6) := CS3.out.below hbn
      have HK6 : Hid (RdE W6 (.agg #[.int .i64 y.key, .int .i64 y.window, .slice b0 l0 c0, .int .i64 y.sk.count, .int .i64 y.sk.sum, .int .i64 y.sk.min, .int .i64 y.sk.max, .slice b1 m1 d1, .slice b2 m2 d2, .slice b3 m3 d3]) y F3 ∧ Own w2.heap.size W6 F3) := ⟨HK.out.1.below hbn, HK.out.2.1.below HK.out.1.lt hbn⟩
      rw [← hW6]
      clear hW6 hbn CS3
      refine Stop.intro (wpList_append_lies _ rfl _ _ 24 rfl (w.heap.size + 2) 33 j0 (.agg #[.int .i64 0, .int .i64 0, .slice none 0 0, .int .i64 0, .int .i64 0, .int .i64 0, .int .i64 0, .slice none 0 0, .slice none 0 0, .slice none 0 0]) 10 144 Tryz.underlying24 hj hy0 hy1 hy2 rfl (by decide) v k vs rfl CS6.out.grow.row ⟨w3.heap.size, 0, none⟩ 1 1 [.int .i64 y.key, .int .i64 y.window, .slice b0 l0 c0, .int .i64 y.sk.count, .int .i64 y.sk.sum, .int .i64 y.sk.min, .int .i64 y.sk.max, .slice b1 m1 d1, .slice b2 m2 d2, .slice b3 m3 d3] rfl rfl HCN.out (by simp [Value.oneCell']) (by omega) (by unfold maxLen; omega) (by omega) CS6.out.grow.lw _ rfl ?_)
      intro g4 cp4 W7 hown hgrow hat hlt7
      have CS7 : Hid (CpRw w #[.slice (some ⟨b, off, none⟩) n c] 60 x.list (w.heap.size + 2) (k + 1) (.slice (some ⟨g4, 0, none⟩) (k + 1) cp4) (vs ++ [.int .i64 y.key, .int .i64 y.window, .slice b0 l0 c0, .int .i64 y.sk.count, .int .i64 y.sk.sum, .int .i64 y.sk.min, .int .i64 y.sk.max, .slice b1 m1 d1, .slice b2 m2 d2, .slice b3 m3 d3]) (GG ++ F3) W7) := CS6.out.step hgrow (CS6.out.grow.step HY.out.1 HK6.out.1 rfl HK6.out.2 HK.out.2.2.1 HK.out.2.2.2.1 HK.out.2.2.2.2 hown hgrow hat)
      clear hown hgrow hat hlt7 CS6 HK6 HK HCN
      go_wp2
      go_roundw
      case rel => exact ⟨k + 1, _, _, _, by omega, by go_num, rfl, CS7⟩
      case measure => simp [intOf]; omega
    · obtain rfl : k = n := by omega
      obtain ⟨q1, d1, F1, rfl, rL, oL, hcp⟩ := CSS.out.grow.done HL.out.2.2
      have HE : Hid (Blk wr (w.heap.size + 1) #[.slice none 0 0] 60 ∧ RdL enK wr q1 k x.list F1 ∧ Own (w.heap.size + 2) wr F1 ∧ Capd q1 k d1 ∧ Below w.heap.size w wr ∧ GrowL enK 33 x.list (w.heap.size + 2) k (.slice q1 k d1) vs GG wr) := ⟨CSS.out.res, rL, oL, hcp, CSS.out.bel, CSS.out.grow⟩
      clear rL oL hcp CSS
      have hI : ¬ (k : Int) < (k : Int) := by omega
      go_wp2_with (first | go_skip | (with_reducible refine stopStore 60 rfl ?_))
      refine store_known 60 (w.heap.size + 1) _ #[.slice q1 k d1] 60 HE.out.1 rfl rfl rfl rfl infoQI rfl (by simp [Value.oneCell']) ?_
      go_wp2
      refine bodyPost_ret (results_cell_row Tryz.results39 _ _ (w.heap.size + 1) _ _ (0, 0) _ rfl HE.out.1.setRow Tryz.underlying60 rfl infoQI) rfl ?_
      have nr : w.heap.size + 1 ∉ F1 := fun hx => by have := HE.out.2.2.1.ge _ hx; omega
      have hk' := HL.out.2.2
      subst hk'
      exact ⟨q1, d1, F1, w.heap.size + 2, vs, GG, rfl, HE.out.2.1.agree (Agree.row nr _), HE.out.2.2.2.1, (HE.out.2.2.1.agree (Agree.row nr _)).mono (by omega), below_setRow HE.out.2.2.2.2.1 (by omega) _, HE.out.2.2.2.2.2.setRow (by omega), by omega⟩
end Go.Proofs.YtjnamoppcklomaaGreat
/- The walks through the program's SetApart. No statement of the seat is proved here. -/
namespace Go.Proofs.YtjnamoppcklomaaGreat
open Go.RowKit
def slLen : Value → Nat
  | .slice _ n _ => n
  | _ => 0
/-- One of the two sets: where it lies. -/
structure ARd (w : World) (a : Option Addr) (l c : Nat) (xs : Sp) : Prop where
  rd : ∃ F, RdP w a l xs F
  cap : l ≤ c
  ok : okFrom 0 xs
theorem ARd.length {w : World} {a : Option Addr} {l c : Nat} {xs : Sp} (h : ARd w a l c xs) : xs.length = l := by
  obtain ⟨F, h⟩ := h.rd
  exact h.length
theorem okFrom_drop1 {xs : Sp} (h : okFrom 0 xs) (k : Nat) : okFrom 0 (xs.drop k) := by
  have h' := h
  rw [← List.take_append_drop k xs, okFrom_append] at h'
  have e : 0 ≤ endOf 0 (xs.take k) := by
    have : ∀ (ys : Sp) (l : Int), 0 ≤ l → okFrom l ys → 0 ≤ endOf l ys := by
      intro ys
      induction ys with
      | nil => intro l h _; exact h
      | cons p ys ih => intro l hl h; exact ih _ (by have := h.1; omega) h.2
    exact this _ _ (Int.le_refl _) h'.1
  exact okFrom_mono h'.2 e
theorem ARd.cells {w : World} {a : Option Addr} {l c : Nat} {xs : Sp} (h : ARd w a l c xs) (hl : 0 < l) : ∃ b off, a = some ⟨b, off, none⟩ ∧ w.cell? ⟨b, off, none⟩ = some (.int .i64 (xs.at 0).1) ∧ w.cell? ⟨b, off + 1, none⟩ = some (.int .i64 (xs.at 0).2) := by
  obtain ⟨F, h⟩ := h.rd
  rcases cells_of h with h0 | ⟨b, off, e, _, hc⟩
  · omega
  · have := hc 0 hl
    exact ⟨b, off, e, by simpa using this.1, by simpa using this.2⟩
theorem ARd.last {w : World} {a : Option Addr} {l : Nat} {xs : Sp} (h : ARd w a l 1 xs) (hl : 0 < l) : ARd w a (l - 1) 0 (xs.drop 1) := by
  have e := h.length
  have c := h.cap
  refine ⟨⟨[], ?_⟩, by omega, okFrom_drop1 h.ok 1⟩
  rw [List.drop_eq_nil_of_le (by omega), show l - 1 = 0 by omega]
  exact RdP.nil
theorem ARd.step {w : World} {b off : Nat} {l c : Nat} {xs : Sp} (h : ARd w (some ⟨b, off, none⟩) l c xs) (hl : 0 < l) : ARd w (some ⟨b, off + 2, none⟩) (l - 1) (c - 1) (xs.drop 1) := by
  have e := h.length
  have c := h.cap
  obtain ⟨F, hr⟩ := h.rd
  by_cases h1 : l = 1
  · refine ⟨⟨[], ?_⟩, by omega, okFrom_drop1 h.ok 1⟩
    rw [List.drop_eq_nil_of_le (by omega), show l - 1 = 0 by omega]
    exact RdP.nil
  · exact ⟨⟨F, by simpa using hr.drop (k := 1) (by omega)⟩, by omega, okFrom_drop1 h.ok 1⟩
theorem head_drop {xs : Sp} (h : 0 < xs.length) : xs = xs.at 0 :: xs.drop 1 := by simpa using drop_at (ps := xs) (k := 0) h
theorem meet_false {as' bs : Sp} (_ : okFrom 0 as') (hb : okFrom 0 bs) (la : 0 < as'.length) (lb : 0 < bs.length) (h1 : (as'.at 0).1 ≤ (bs.at 0).1) (h2 : (bs.at 0).1 ≤ (as'.at 0).2) : noMeet as' bs = false := by
  rw [head_drop la, head_drop lb]
  exact noMeet_hit h1 h2 (okFrom_at hb lb).2.1
theorem meet_step {as' bs : Sp} (hb : okFrom 0 bs) (la : 0 < as'.length) (lb : 0 < bs.length) (h2 : (as'.at 0).2 < (bs.at 0).1) : noMeet (as'.drop 1) bs = noMeet as' bs := by
  have e := head_drop lb
  have hb' := hb
  rw [e] at hb'
  conv => rhs; rw [head_drop la, e]
  rw [noMeet_drop hb' h2, ← e]
set_option maxRecDepth 200000 in
set_option maxHeartbeats 8000000 in
theorem noneInBoth_any (a b : Option Addr) (la lb ca cb : Nat) (ps qs : Sp) (w : World) (h : ARd w a la ca ps) (k : ARd w b lb cb qs) (hlen : la + lb ≤ 4194304) :
    Calls Tryz.prog 131 #[.slice a la ca, .slice b lb cb] w fun e w' => e = .returned (.bool (noMeet ps qs)) ∧ QuietTo w w' := by
  have HP0 : Hid (ARd w a la ca ps ∧ ARd w b lb cb qs) := ⟨h, k⟩
  clear h k
  go_enter Tryz.func131, Tryz.ntmps131
  go_wp2
  go_loopw [0, 1] (fun av bv wr => ∃ (as' bs : Sp) (aa bb : Option Addr) (l1 c1 l2 c2 : Nat), av = .slice aa l1 c1 ∧ bv = .slice bb l2 c2 ∧ l1 + l2 ≤ 4194304 ∧ Hid (ARd w aa l1 c1 as' ∧ ARd w bb l2 c2 bs) ∧ Hid (noMeet as' bs = noMeet ps qs) ∧ Hid (QuietTo w wr)) (fun av bv _ => slLen av + slLen bv)
  case atStart => exact ⟨ps, qs, a, b, la, ca, lb, cb, rfl, rfl, hlen, HP0, rfl, QuietTo.refl _⟩
  case round =>
    clear HP0
    obtain ⟨xs, ys, aa, bb, l1, c1, l2, c2, rfl, rfl, hl12, HP, HN, HQ⟩ := hrel
    by_cases h1 : l1 = 0
    · subst h1
      have HV : Hid (noMeet ps qs = true) := by
        have := HN.out
        rw [List.eq_nil_of_length_eq_zero HP.out.1.length, noMeet_nil] at this
        exact this.symm
      go_wp2
      go_ret
      rw [HV.out]
      exact ⟨rfl, HQ.out⟩
    have g1 : decide ((0 : Int) < (l1 : Int)) = true := decT (by omega)
    by_cases h2 : l2 = 0
    · subst h2
      have HV : Hid (noMeet ps qs = true) := by
        have := HN.out
        rw [List.eq_nil_of_length_eq_zero HP.out.2.length, noMeet_comm, noMeet_nil] at this
        exact this.symm
      go_wp2
      go_ret
      rw [HV.out]
      exact ⟨rfl, HQ.out⟩
    have g2 : decide ((0 : Int) < (l2 : Int)) = true := decT (by omega)
    have i1 : (0 : Int) < (l1 : Int) := by omega
    have i2 : (0 : Int) < (l2 : Int) := by omega
    have i3 : (1 : Int) ≤ (l1 : Int) := by omega
    have i4 : (1 : Int) ≤ (l2 : Int) := by omega
    obtain ⟨b1, o1, rfl, e1, e2⟩ := HP.out.1.cells (by omega)
    obtain ⟨b2, o2, rfl, e3, e4⟩ := HP.out.2.cells (by omega)
    obtain ⟨x, hx⟩ : ∃ x, x = (xs.at 0).1 := ⟨_, rfl⟩
    obtain ⟨y, hy⟩ : ∃ x, x = (xs.at 0).2 := ⟨_, rfl⟩
    obtain ⟨x', hx'⟩ : ∃ x, x = (ys.at 0).1 := ⟨_, rfl⟩
    obtain ⟨y', hy'⟩ : ∃ x, x = (ys.at 0).2 := ⟨_, rfl⟩
    rw [← hx] at e1
    rw [← hy] at e2
    rw [← hx'] at e3
    rw [← hy'] at e4
    have d1 : wr.cell? ⟨b1, o1, none⟩ = some (.int .i64 x) := (HQ.out.cell _).trans e1
    have d2 : wr.cell? ⟨b1, o1 + 1, none⟩ = some (.int .i64 y) := (HQ.out.cell _).trans e2
    have d3 : wr.cell? ⟨b2, o2, none⟩ = some (.int .i64 x') := (HQ.out.cell _).trans e3
    have d4 : wr.cell? ⟨b2, o2 + 1, none⟩ = some (.int .i64 y') := (HQ.out.cell _).trans e4
    have HX : Hid ((x = (xs.at 0).1 ∧ y = (xs.at 0).2) ∧ x' = (ys.at 0).1 ∧ y' = (ys.at 0).2) := ⟨⟨hx, hy⟩, hx', hy'⟩
    have HLN : Hid (0 < xs.length ∧ 0 < ys.length) := by rw [HP.out.1.length, HP.out.2.length]; exact ⟨by omega, by omega⟩
    clear hx hy hx' hy' e1 e2 e3 e4
    by_cases c : x' < x
    · have cd : decide (x' < x) = true := decT c
      by_cases m : x ≤ y'
      · have md : decide (x ≤ y') = true := decT m
        have HV : Hid (noMeet ps qs = false) := by
          show _ = _
          rw [← HN.out, noMeet_comm]
          exact meet_false HP.out.2.ok HP.out.1.ok HLN.out.2 HLN.out.1 (by rw [← HX.out.1.1, ← HX.out.2.1]; omega) (by rw [← HX.out.1.1, ← HX.out.2.2]; exact m)
        go_wp2
        go_quiet (fail)
        obtain ⟨wq, hwq⟩ : ∃ W, W = wr.drewN nq := ⟨_, rfl⟩
        have q1 : wq.cell? ⟨b1, o1, none⟩ = some (.int .i64 x) := by rw [hwq]; exact d1
        have q2 : wq.cell? ⟨b2, o2 + 1, none⟩ = some (.int .i64 y') := by rw [hwq]; exact d4
        have HQ2 : Hid (QuietTo w wq) := by rw [hwq]; exact HQ.out.drewN _
        rw [← hwq]
        clear hwq d1 d2 d3 d4
        go_wp2
        go_quiet (fail)
        go_wp2
        go_ret
        rw [HV.out]
        exact ⟨rfl, HQ2.out.drewN _⟩
      · have md : decide (x ≤ y') = false := decF m
        have HN2 : Hid (noMeet (ys.drop 1) xs = noMeet ps qs) := by
          show _ = _
          rw [meet_step HP.out.1.ok HLN.out.2 HLN.out.1 (by rw [← HX.out.1.1, ← HX.out.2.2]; omega), noMeet_comm]
          exact HN.out
        by_cases hc1 : c2 = 1
        · subst hc1
          have HA2 : Hid (ARd w (some ⟨b2, o2, none⟩) (l2 - 1) 0 (ys.drop 1) ∧ ARd w (some ⟨b1, o1, none⟩) l1 c1 xs) := ⟨HP.out.2.last (by omega), HP.out.1⟩
          go_wp2
          go_quiet (fail)
          obtain ⟨wq, hwq⟩ : ∃ W, W = wr.drewN nq := ⟨_, rfl⟩
          have q1 : wq.cell? ⟨b1, o1, none⟩ = some (.int .i64 x) := by rw [hwq]; exact d1
          have q2 : wq.cell? ⟨b2, o2 + 1, none⟩ = some (.int .i64 y') := by rw [hwq]; exact d4
          have HQ2 : Hid (QuietTo w wq) := by rw [hwq]; exact HQ.out.drewN _
          rw [← hwq]
          clear hwq d1 d2 d3 d4
          go_wp2
          go_quiet (fail)
          go_wp2
          go_roundw
          case rel => exact ⟨ys.drop 1, xs, _, _, _, _, _, _, rfl, rfl, by omega, HA2, HN2, HQ2.out.drewN _⟩
          case measure => simp [slLen]; omega
        · have HA2 : Hid (ARd w (some ⟨b2, o2 + 2, none⟩) (l2 - 1) (c2 - 1) (ys.drop 1) ∧ ARd w (some ⟨b1, o1, none⟩) l1 c1 xs) := ⟨HP.out.2.step (by omega), HP.out.1⟩
          go_wp2
          go_quiet (fail)
          obtain ⟨wq, hwq⟩ : ∃ W, W = wr.drewN nq := ⟨_, rfl⟩
          have q1 : wq.cell? ⟨b1, o1, none⟩ = some (.int .i64 x) := by rw [hwq]; exact d1
          have q2 : wq.cell? ⟨b2, o2 + 1, none⟩ = some (.int .i64 y') := by rw [hwq]; exact d4
          have HQ2 : Hid (QuietTo w wq) := by rw [hwq]; exact HQ.out.drewN _
          rw [← hwq]
          clear hwq d1 d2 d3 d4
          go_wp2
          go_quiet (fail)
          go_wp2
          go_roundw
          case rel => exact ⟨ys.drop 1, xs, _, _, _, _, _, _, rfl, rfl, by omega, HA2, HN2, HQ2.out.drewN _⟩
          case measure => simp [slLen]; omega
    · have cd : decide (x' < x) = false := decF c
      by_cases m : x' ≤ y
      · have md : decide (x' ≤ y) = true := decT m
        have HV : Hid (noMeet ps qs = false) := by
          show _ = _
          rw [← HN.out]
          exact meet_false HP.out.1.ok HP.out.2.ok HLN.out.1 HLN.out.2 (by rw [← HX.out.1.1, ← HX.out.2.1]; omega) (by rw [← HX.out.1.2, ← HX.out.2.1]; exact m)
        go_wp2
        go_quiet (fail)
        obtain ⟨wq, hwq⟩ : ∃ W, W = wr.drewN nq := ⟨_, rfl⟩
        have q1 : wq.cell? ⟨b2, o2, none⟩ = some (.int .i64 x') := by rw [hwq]; exact d3
        have q2 : wq.cell? ⟨b1, o1 + 1, none⟩ = some (.int .i64 y) := by rw [hwq]; exact d2
        have HQ2 : Hid (QuietTo w wq) := by rw [hwq]; exact HQ.out.drewN _
        rw [← hwq]
        clear hwq d1 d2 d3 d4
        go_wp2
        go_quiet (fail)
        go_wp2
        go_ret
        rw [HV.out]
        exact ⟨rfl, HQ2.out.drewN _⟩
      · have md : decide (x' ≤ y) = false := decF m
        have HN2 : Hid (noMeet (xs.drop 1) ys = noMeet ps qs) := by
          show _ = _
          rw [meet_step HP.out.2.ok HLN.out.1 HLN.out.2 (by rw [← HX.out.1.2, ← HX.out.2.1]; omega)]
          exact HN.out
        by_cases hc1 : c1 = 1
        · subst hc1
          have HA2 : Hid (ARd w (some ⟨b1, o1, none⟩) (l1 - 1) 0 (xs.drop 1) ∧ ARd w (some ⟨b2, o2, none⟩) l2 c2 ys) := ⟨HP.out.1.last (by omega), HP.out.2⟩
          go_wp2
          go_quiet (fail)
          obtain ⟨wq, hwq⟩ : ∃ W, W = wr.drewN nq := ⟨_, rfl⟩
          have q1 : wq.cell? ⟨b2, o2, none⟩ = some (.int .i64 x') := by rw [hwq]; exact d3
          have q2 : wq.cell? ⟨b1, o1 + 1, none⟩ = some (.int .i64 y) := by rw [hwq]; exact d2
          have HQ2 : Hid (QuietTo w wq) := by rw [hwq]; exact HQ.out.drewN _
          rw [← hwq]
          clear hwq d1 d2 d3 d4
          go_wp2
          go_quiet (fail)
          go_wp2
          go_roundw
          case rel => exact ⟨xs.drop 1, ys, _, _, _, _, _, _, rfl, rfl, by omega, HA2, HN2, HQ2.out.drewN _⟩
          case measure => simp [slLen]; omega
        · have HA2 : Hid (ARd w (some ⟨b1, o1 + 2, none⟩) (l1 - 1) (c1 - 1) (xs.drop 1) ∧ ARd w (some ⟨b2, o2, none⟩) l2 c2 ys) := ⟨HP.out.1.step (by omega), HP.out.2⟩
          go_wp2
          go_quiet (fail)
          obtain ⟨wq, hwq⟩ : ∃ W, W = wr.drewN nq := ⟨_, rfl⟩
          have q1 : wq.cell? ⟨b2, o2, none⟩ = some (.int .i64 x') := by rw [hwq]; exact d3
          have q2 : wq.cell? ⟨b1, o1 + 1, none⟩ = some (.int .i64 y) := by rw [hwq]; exact d2
          have HQ2 : Hid (QuietTo w wq) := by rw [hwq]; exact HQ.out.drewN _
          rw [← hwq]
          clear hwq d1 d2 d3 d4
          go_wp2
          go_quiet (fail)
          go_wp2
          go_roundw
          case rel => exact ⟨xs.drop 1, ys, _, _, _, _, _, _, rfl, rfl, by omega, HA2, HN2, HQ2.out.drewN _⟩
          case measure => simp [slLen]; omega
set_option maxRecDepth 200000 in
set_option maxHeartbeats 4000000 in
theorem apartImpl_any (a b : Option Addr) (la lb ca cb : Nat) (ps qs : Sp) (F G : List Nat) (w : World) (h : RdP w a la ps F) (k : RdP w b lb qs G) (hla : la ≤ 2097152) (hlb : lb ≤ 2097152) (hca : la ≤ ca) (hcb : lb ≤ cb) :
    Calls Tryz.prog 89 #[.slice a la ca, .slice b lb cb] w fun e w' => e = .returned (.bool (ps.apart qs)) ∧ Below w.heap.size w w' := by
  have HR : Hid (RdP w a la ps F ∧ RdP w b lb qs G) := ⟨h, k⟩
  clear h k
  go_enter Tryz.func89, Tryz.ntmps89
  go_wp2_with fail
  refine (setOkImpl_any a la ca ps F _ HR.out.1 hla).mono ?_
  rintro e w1 ⟨rfl, hb⟩
  have HB0 : Hid (Below w.heap.size w w1) := hb
  clear hb
  obtain ⟨d, hd⟩ : ∃ d, d = ps.ok := ⟨_, rfl⟩
  rw [← hd]
  have HD : Hid (d = ps.ok) := hd
  clear hd
  cases d
  · go_wp2
    go_ret
    rw [Sp.apart_not (by rw [← HD.out]; rfl)]
    exact ⟨rfl, HB0.out⟩
  go_wp2_with fail
  refine (setOkImpl_any b lb cb qs G _ (HR.out.2.below HB0.out) hlb).mono ?_
  rintro e w2 ⟨rfl, hb⟩
  have HB1 : Hid (Below w.heap.size w w2) := Below.next HB0.out hb
  clear hb HB0
  obtain ⟨d, hd⟩ : ∃ d, d = qs.ok := ⟨_, rfl⟩
  rw [← hd]
  have HE : Hid (d = qs.ok) := hd
  clear hd
  cases d
  · go_wp2
    go_ret
    rw [Sp.apart_not (by rw [← HD.out, ← HE.out]; rfl)]
    exact ⟨rfl, HB1.out⟩
  have HV : Hid (ps.apart qs = noMeet ps qs) := by
    show _ = _
    rw [apart_eq, ← HD.out, ← HE.out]
    rfl
  go_wp2_with fail
  refine (noneInBoth_any a b la lb ca cb ps qs _ ⟨⟨F, HR.out.1.below HB1.out⟩, hca, ok_iff.1 HD.out.symm⟩ ⟨⟨G, HR.out.2.below HB1.out⟩, hcb, ok_iff.1 HE.out.symm⟩ (by omega)).mono ?_
  rintro e w3 ⟨rfl, hq⟩
  have HB2 : Hid (Below w.heap.size w w3) := Below.next HB1.out (quiet_below hq)
  clear hq
  go_wp2
  go_ret
  rw [HV.out]
  exact ⟨rfl, HB2.out⟩
end Go.Proofs.YtjnamoppcklomaaGreat
/- The walks through the program's SetAdd and SetJoin. No statement of the seat is proved here. -/
namespace Go.Proofs.YtjnamoppcklomaaGreat
open Go.RowKit
theorem inb_ok {ps : Sp} (h : ps.ok = true) : ∀ p ∈ ps, InB p := inb_iff.1 (ok_inb h)
set_option maxRecDepth 200000 in
set_option maxHeartbeats 4000000 in
theorem joinImpl_any (a b : Option Addr) (la lb ca cb : Nat) (ps qs : Sp) (F G : List Nat) (w : World) (h : RdP w a la ps F) (k : RdP w b lb qs G) (hlen : la + lb ≤ 2097152) (hca : la ≤ ca) :
    Calls Tryz.prog 90 #[.slice a la ca, .slice b lb cb] w fun e w' => NewP2 w (ps.join qs) (ps.ok && qs.ok) e w' := by
  have HR : Hid (RdP w a la ps F ∧ RdP w b lb qs G) := ⟨h, k⟩
  clear h k
  go_enter Tryz.func90, Tryz.ntmps90
  go_wp2_with fail
  refine (setOkImpl_any a la ca ps F _ HR.out.1 (by omega)).mono ?_
  rintro e w1 ⟨rfl, hb⟩
  have HB0 : Hid (Below w.heap.size w w1) := hb
  clear hb
  obtain ⟨d, hd⟩ : ∃ d, d = ps.ok := ⟨_, rfl⟩
  rw [← hd]
  have HD : Hid (d = ps.ok) := hd
  clear hd
  cases d
  · have HV : Hid (ps.join qs = [] ∧ (ps.ok && qs.ok) = false) := ⟨Sp.join_not (by rw [← HD.out]; rfl), by rw [← HD.out]; rfl⟩
    go_wp2
    go_ret2
    rw [HV.out.1, HV.out.2]
    exact ⟨_, 0, 0, [], rfl, RdP.nil, Own.nil, HB0.out, fun _ => rfl, Nat.le_refl _⟩
  go_wp2_with fail
  refine (setOkImpl_any b lb cb qs G _ (HR.out.2.below HB0.out) (by omega)).mono ?_
  rintro e w2 ⟨rfl, hb⟩
  have HB1 : Hid (Below w.heap.size w w2) := Below.next HB0.out hb
  clear hb HB0
  obtain ⟨d, hd⟩ : ∃ d, d = qs.ok := ⟨_, rfl⟩
  rw [← hd]
  have HE : Hid (d = qs.ok) := hd
  clear hd
  cases d
  · have HV : Hid (ps.join qs = [] ∧ (ps.ok && qs.ok) = false) := ⟨Sp.join_not (by rw [← HD.out, ← HE.out]; rfl), by rw [← HD.out, ← HE.out]; rfl⟩
    go_wp2
    go_ret2
    rw [HV.out.1, HV.out.2]
    exact ⟨_, 0, 0, [], rfl, RdP.nil, Own.nil, HB1.out, fun _ => rfl, Nat.le_refl _⟩
  have HV : Hid (both ps qs [] = ps.join qs ∧ (ps.ok && qs.ok) = true) := ⟨both_join HD.out.symm HE.out.symm, by rw [← HD.out, ← HE.out]; rfl⟩
  go_wp2_with fail
  refine (spansOfBoth_any a b la lb ca cb ps qs F G _ (HR.out.1.below HB1.out) (HR.out.2.below HB1.out) (by omega) hca (inb_ok HD.out.symm) (inb_ok HE.out.symm)).mono ?_
  rintro e w3 ⟨a', l', c', F', rfl, g1, g2, g3, g4⟩
  have HN : Hid (RdP w3 a' l' (ps.join qs) F' ∧ Own w.heap.size w3 F' ∧ Below w.heap.size w w3 ∧ Capd a' l' c') := ⟨by rw [← HV.out.1]; exact g1, g2.mono HB1.out.size, Below.next HB1.out g3, g4⟩
  clear g1 g2 g3 g4
  go_wp2
  go_ret2
  rw [HV.out.2]
  exact ⟨a', l', c', F', rfl, HN.out⟩
end Go.Proofs.YtjnamoppcklomaaGreat
/- What the laws over entries take of the program and the model. No statement of the seat is proved here. -/
namespace Go.Proofs.YtjnamoppcklomaaGreat
open Go.RowKit
set_option maxRecDepth 200000 in
theorem entryOkImpl_any (v : Value) (x : En) (F : List Nat) (w : World) (h : RdE w v x F) (hw : x.wide) :
    Calls Tryz.prog 88 #[v] w fun e w' => e = .returned (.bool x.ok) ∧ Below w.heap.size w w' := by
  obtain ⟨F1, F2, rfl, h⟩ := h
  exact entryOkImpl_en v x F1 F2 w h hw.1 (by have := hw.2; omega)
end Go.Proofs.YtjnamoppcklomaaGreat
/- The program's okIds, RowOk, RowIds. No statement of the seat is proved here. -/
namespace Go.Proofs.YtjnamoppcklomaaGreat
open Go.RowKit
/-- A set and whether it is right, in memory of the call's own. -/
def NewPd (w : World) (ps : Sp) (d : Bool) (e : Ending) (w' : World) : Prop := ∃ a len cap F, e = .returned (.tuple #[.slice a len cap, .bool d]) ∧ RdP w' a len ps F ∧ Own w.heap.size w' F ∧ Below w.heap.size w w' ∧ Capd a len cap
set_option maxRecDepth 200000 in
set_option maxHeartbeats 8000000 in
theorem okIds_gen (v : Value) (x : Rw) (F : List Nat) (w : World) (h : RdRw w v x F) (hlen : x.list.length ≤ 2097152) (hw : ∀ y ∈ x.list, y.wide) (hsz : ensSize x.list ≤ 1048576) :
    Calls Tryz.prog 44 #[v] w fun e w' => NewPd w x.ids x.ok e w' := by
  obtain ⟨a, n, c, rfl, hL, hcp⟩ := h
  have HL : Hid (RdL enK w a n x.list F ∧ x.list.length = n ∧ (∀ y ∈ x.list, y.wide) ∧ ensSize x.list ≤ 1048576) := ⟨hL, hL.length, hw, hsz⟩
  have hn : n ≤ 2097152 := by rw [← hL.length]; exact hlen
  have HB : Hid (Below w.heap.size w (w.alloc (.cells #[.slice a n c] 26)) ∧ Blk (w.alloc (.cells #[.slice a n c] 26)) w.heap.size #[.slice a n c] 26) := ⟨Below.allocW _ (Below.refl _ _) (Nat.le_refl _), Blk.made _ _ _⟩
  clear hL hw hcp hlen hsz
  by_cases hbig : 24 < n
  · have hI : (24 : Int) < (n : Int) := by omega
    have HV : Hid (x.ok = false) := Rw.ok_long (by rw [HL.out.2.1]; exact hbig)
    go_enter Tryz.func44, Tryz.ntmps44
    go_wp2
    go_ret2
    rw [HV.out]
    exact ⟨none, 0, 0, [], rfl, by unfold Rw.ids; rw [HV.out]; exact RdP.nil, Own.nil, HB.out.1, fun _ => rfl, Nat.le_refl _⟩
  have hI24 : ¬ (24 : Int) < (n : Int) := by omega
  go_enter Tryz.func44, Tryz.ntmps44
  go_wp2
  go_loopw [4, 14] (fun s i wr => ∃ (k : Nat) (p : Option Addr) (l g : Nat) (G : List Nat), k ≤ n ∧ i = .int .i64 k ∧ s = .slice p l g ∧ l ≤ 1048576 ∧ Hid (fineTo x.list k = true) ∧ Hid (Below w.heap.size w wr ∧ RdP wr p l (idsTo x.list k) G ∧ Own w.heap.size wr G ∧ Capd p l g)) (fun _ i _ => n - (intOf i).toNat)
  case atStart => exact ⟨0, none, 0, 0, [], by omega, rfl, rfl, by omega, rfl, HB.out.1, by rw [idsTo_zero]; exact RdP.nil, Own.nil, fun _ => rfl, Nat.le_refl _⟩
  case round =>
    clear HB
    obtain ⟨k, p, l, g, G, hk, rfl, rfl, hl, HT, HW⟩ := hrel
    by_cases hlt : k < n
    · have hI : (k : Int) < (n : Int) := by omega
      obtain ⟨b, off, y, q, m, g', cs, Fi, G', rfl, hbw, hy, hs, hcc, hr, h0, h1, h2, hp, hcp⟩ := ens_in HL.out.1 hlt
      have HX : Hid (x.list[k]? = some y ∧ cs.size = 10 ∧ RdE w (.agg cs) y Fi ∧ y.wide) := ⟨hy, hs, hr, wide_at HL.out.2.2.1 hy⟩
      have HCC : Hid ((∀ W, Below w.heap.size w W → ∀ j, j < 10 → W.cell? ⟨b, off + k * 10 + j, none⟩ = cs[j]?) ∧ cs[2]? = some (.slice q m g') ∧ RdP w q m y.ids G' ∧ Capd q m g') := ⟨hcc, h2, hp, hcp⟩
      have hm : m ≤ 1048576 := by rw [← hp.length]; exact (wide_at HL.out.2.2.1 hy).2
      have hone := (RdE.cells hr)
      obtain ⟨cs', ecs, _, hone⟩ := hone
      injection ecs with ecs
      subst ecs
      have HONE : Hid (cs.all (·.oneCell') = true) := hone
      clear hy hs hcc hr h0 h1 h2 hp hcp hone
      go_wp2_with (first | go_skip | (with_reducible refine stopLoad 33 rfl ?_))
      refine load_at 33 b (off + k * 10) 10 cs _ (HCC.out.1 _ HW.out.1) HX.out.2.1 rfl rfl rfl Tryz.underlying33 rfl infoEnS2 ?_
      go_wp2_with (first | go_skip | (with_reducible refine stopStore 33 rfl ?_))
      refine store_fresh 33 wr.heap.size rfl #[.int .i64 0, .int .i64 0, .slice none 0 0, .int .i64 0, .int .i64 0, .int .i64 0, .int .i64 0, .slice none 0 0, .slice none 0 0, .slice none 0 0] cs 33 rfl rfl rfl rfl (enSize HX.out.2.1) HX.out.2.1.symm HONE.out ?_
      intro w1 hg hb1
      have HW1 : Hid (Below w.heap.size w w1 ∧ RdP w1 p l (idsTo x.list k) G ∧ Own w.heap.size w1 G ∧ Capd p l g ∧ Blk w1 wr.heap.size cs 33 ∧ w.heap.size ≤ wr.heap.size) := ⟨Below.next HW.out.1 hb1, HW.out.2.1.below hb1, HW.out.2.2.1.below HW.out.2.1.lt hb1, HW.out.2.2.2, hg, HW.out.1.size⟩
      clear hg hb1 HW
      go_wp2_with (first | go_skip | (with_reducible refine stopLoad 33 rfl ?_))
      refine load_any 33 wr.heap.size cs 33 _ HW1.out.2.2.2.2.1 rfl rfl rfl Tryz.underlying33 rfl (enSize HX.out.2.1) ?_
      go_wp2_with fail
      refine (entryOkImpl_any _ y Fi _ (HX.out.2.2.1.below HW1.out.1) HX.out.2.2.2).mono ?_
      rintro e w2 ⟨rfl, hb2⟩
      have HW2 : Hid (Below w.heap.size w w2 ∧ RdP w2 p l (idsTo x.list k) G ∧ Own w.heap.size w2 G ∧ Capd p l g ∧ Blk w2 wr.heap.size cs 33 ∧ w.heap.size ≤ wr.heap.size) := ⟨Below.next HW1.out.1 hb2, HW1.out.2.1.below hb2, HW1.out.2.2.1.below HW1.out.2.1.lt hb2, HW1.out.2.2.2.1, HW1.out.2.2.2.2.1.below hb2, HW1.out.2.2.2.2.2⟩
      obtain ⟨d, hd⟩ : ∃ d, d = y.ok := ⟨_, rfl⟩
      rw [← hd]
      have HD : Hid (d = y.ok) := hd
      clear hd hb2 HW1
      have c2 : w2.cell? ⟨wr.heap.size, 2, none⟩ = some (.slice q m g') := (HW2.out.2.2.2.2.1.cell 2).trans HCC.out.2.1
      cases d
      · have HV : Hid (x.ok = false) := Rw.ok_not (i := k + 1) (by rw [HL.out.2.1]; omega) (by rw [fineTo_succ HX.out.1, ← HD.out]; simp)
        go_wp2
        go_ret2
        rw [HV.out]
        exact ⟨none, 0, 0, [], rfl, by unfold Rw.ids; rw [HV.out]; exact RdP.nil, Own.nil, HW2.out.1, fun _ => rfl, Nat.le_refl _⟩
      go_wp2_with fail
      refine (apartImpl_any p q l m g g' (idsTo x.list k) y.ids G G' _ HW2.out.2.1 (HCC.out.2.2.1.below HW2.out.1) (by omega) (by omega) HW2.out.2.2.2.1.2 HCC.out.2.2.2.2).mono ?_
      rintro e w3 ⟨rfl, hb3⟩
      have HW3 : Hid (Below w.heap.size w w3 ∧ RdP w3 p l (idsTo x.list k) G ∧ Own w.heap.size w3 G ∧ Capd p l g ∧ Blk w3 wr.heap.size cs 33 ∧ w.heap.size ≤ wr.heap.size) := ⟨Below.next HW2.out.1 hb3, HW2.out.2.1.below hb3, HW2.out.2.2.1.below HW2.out.2.1.lt hb3, HW2.out.2.2.2.1, HW2.out.2.2.2.2.1.below hb3, HW2.out.2.2.2.2.2⟩
      obtain ⟨d, hd⟩ : ∃ d, d = (idsTo x.list k).apart y.ids := ⟨_, rfl⟩
      rw [← hd]
      have HD2 : Hid (d = (x.list.take k).all fun z => y.ids.apart z.ids) := by
        show _ = _
        rw [hd]
        exact idsTo_apart (by rw [HL.out.2.1]; omega) HT.out HD.out.symm
      have c3 : w3.cell? ⟨wr.heap.size, 2, none⟩ = some (.slice q m g') := (HW3.out.2.2.2.2.1.cell 2).trans HCC.out.2.1
      clear hd hb3 HW2 c2
      cases d
      · have HV : Hid (x.ok = false) := Rw.ok_not (i := k + 1) (by rw [HL.out.2.1]; omega) (by rw [fineTo_succ HX.out.1, ← HD2.out]; simp)
        go_wp2
        go_ret2
        rw [HV.out]
        exact ⟨none, 0, 0, [], rfl, by unfold Rw.ids; rw [HV.out]; exact RdP.nil, Own.nil, HW3.out.1, fun _ => rfl, Nat.le_refl _⟩
      go_wp2_with fail
      refine (joinImpl_any p q l m g g' (idsTo x.list k) y.ids G G' _ HW3.out.2.1 (HCC.out.2.2.1.below HW3.out.1) (by omega) HW3.out.2.2.2.1.2).mono ?_
      rintro e w4 ⟨p4, l4, g4, G4, rfl, r4, o4, hb4, hc4⟩
      have HT2 : Hid (fineTo x.list (k + 1) = true) := by show _ = _; rw [fineTo_succ HX.out.1, HT.out, ← HD.out, ← HD2.out]; rfl
      have HW4 : Hid (Below w.heap.size w w4 ∧ RdP w4 p4 l4 (idsTo x.list (k + 1)) G4 ∧ Own w.heap.size w4 G4 ∧ Capd p4 l4 g4) := ⟨Below.next HW3.out.1 hb4, by rw [idsTo_succ HX.out.1]; exact r4, o4.mono HW3.out.1.size, hc4⟩
      have hl4 : l4 ≤ 1048576 := by rw [← HW4.out.2.1.length]; exact idsTo_lenS HL.out.2.2.2 (by rw [HL.out.2.1]; omega) HT2.out
      clear r4 o4 hb4 hc4 c3
      go_wp2
      go_roundw
      case rel => exact ⟨k + 1, p4, l4, g4, G4, by omega, by go_num, rfl, hl4, HT2, HW4⟩
      case measure => simp [intOf]; omega
    · obtain rfl : k = n := by omega
      have HV : Hid (x.ok = true) := Rw.ok_yes (by rw [HL.out.2.1]; omega) (by rw [HL.out.2.1]; exact HT.out)
      have hI : ¬ (k : Int) < (k : Int) := by omega
      go_wp2
      go_ret2
      rw [HV.out]
      exact ⟨p, l, g, G, rfl, by unfold Rw.ids; rw [if_pos HV.out, HL.out.2.1]; exact HW.out.2.1, HW.out.2.2.1, HW.out.1, HW.out.2.2.2⟩
set_option maxRecDepth 200000 in
theorem okIds_any (v : Value) (x : Rw) (F : List Nat) (w : World) (h : RdRw w v x F) (hw : x.fits) :
    Calls Tryz.prog 44 #[v] w fun e w' => NewPd w x.ids x.ok e w' := okIds_gen v x F w h (by have := hw.len; omega) hw.wide.1 (by have := hw; unfold Rw.fits Rw.size at this; omega)
set_option maxRecDepth 200000 in
set_option maxHeartbeats 1000000 in
theorem rowOkImpl_any (v : Value) (x : Rw) (F : List Nat) (w : World) (h : RdRw w v x F) (hw : x.fits) :
    Calls Tryz.prog 13 #[v] w fun e w' => e = .returned (.bool x.ok) ∧ Below w.heap.size w w' := by
  have HH : Hid (RdRw w v x F ∧ x.fits) := ⟨h, hw⟩
  obtain ⟨a, n, c, rfl, _, _⟩ := h
  have HB : Hid (Below w.heap.size w (w.alloc (.cells #[.slice a n c] 26)) ∧ Blk (w.alloc (.cells #[.slice a n c] 26)) w.heap.size #[.slice a n c] 26) := ⟨Below.allocW _ (Below.refl _ _) (Nat.le_refl _), Blk.made _ _ _⟩
  clear hw
  go_enter Tryz.func13, Tryz.ntmps13
  go_wp2_with (first | go_skip | (with_reducible refine stopLoad 26 rfl ?_))
  refine load_any 26 w.heap.size #[.slice a n c] 26 _ HB.out.2 rfl rfl rfl Tryz.underlying26 rfl (rwSize rfl) ?_
  go_wp2_with fail
  refine (okIds_any _ x F _ (HH.out.1.below HB.out.1) HH.out.2).mono ?_
  rintro e w2 ⟨p, l, g, G, rfl, hr, ho, hb, hc⟩
  have HR : Hid (RdP w2 p l x.ids G ∧ Own w.heap.size w2 G ∧ Below w.heap.size w w2 ∧ Capd p l g) := ⟨hr, ho.mono HB.out.1.size, Below.next HB.out.1 hb, hc⟩
  clear hr ho hb hc HB HH
  go_wp2
  go_ret
  exact ⟨rfl, HR.out.2.2.1⟩
end Go.Proofs.YtjnamoppcklomaaGreat
/- The walks through the program's adding up of two entries. No statement of the seat is proved here. -/
namespace Go.Proofs.YtjnamoppcklomaaGreat
open Go.RowKit
set_option maxRecDepth 200000 in
set_option maxHeartbeats 4000000 in
theorem holdEntry_any (k p : Int) (a : Option Addr) (l c : Nat) (ps : Sp) (ys : List Int) (F : List Nat) (w : World) (h : RdP w a l ps F) (hl : l ≤ 2097152) (hy : ys.length = 28) :
    Calls Tryz.prog 105 #[.agg (hc k p a l c ys)] w fun e w' => NewEn w ⟨k, p, ps, skOf ys⟩ e w' := by
  have HP : Hid (RdP w a l ps F ∧ ys.length = 28) := ⟨h, hy⟩
  have HT : Hid (_ ∧ _ ∧ _) := two_made w (hc k p a l c ys) #[.int .i64 0, .int .i64 0, .slice none 0 0, .int .i64 0, .int .i64 0, .int .i64 0, .int .i64 0, .slice none 0 0, .slice none 0 0, .slice none 0 0] 135 33
  clear h hy
  go_enter Tryz.func105, Tryz.ntmps105
  go_wp2
  obtain ⟨W0, hW0⟩ : ∃ W0, W0 = (w.alloc (.cells (hc k p a l c ys) 135)).alloc (.cells #[.int .i64 0, .int .i64 0, .slice none 0 0, .int .i64 0, .int .i64 0, .int .i64 0, .int .i64 0, .slice none 0 0, .slice none 0 0, .slice none 0 0] 33) := ⟨_, rfl⟩
  rw [← hW0] at HT ⊢
  clear hW0
  have HS : Hid (HoldS w.heap.size k p a l c ys W0.drew) := holdS HT.out.1.drew
  have sz0 : w.heap.size + 1 < W0.drew.heap.size := HT.out.2.1.drew.lt
  refine wp_region_held (S := HoldS w.heap.size k p a l c ys) (by kernel_rfl) ?_
  change wpAnyH _ _ _ _ _ _ _ _ (World.drew _)
  refine takeH (o := ?o1) 0 (.pointer (some ⟨w.heap.size, 0, none⟩)) ?h1 ?r1
  case h1 => simp only [aT, aZ]; rfl
  refine ⟨_, by simp [Act.put]; rfl, by kernel_rfl, by kernel_rfl, by kernel_rfl, fun _ _ _ h => h, (.inl ⟨rfl, fun W _ => by go_simp⟩), HS.out, ?_⟩
  refine takeH (o := ?o2) 1 (.pointer (some ⟨w.heap.size, 0, none⟩)) ?h2 ?r2
  case h2 => simp only [aT, aS, aZ]; rfl
  refine ⟨_, by simp [Act.put]; rfl, by kernel_rfl, by kernel_rfl, by kernel_rfl, fun _ _ _ h => h, (.inl ⟨rfl, fun W _ => by go_simp⟩), HS.out, ?_⟩
  refine takeH (o := ?o3) 2 (.int .i64 k) ?h3 ?r3
  case h3 => simp only [aT, aS, aZ]; rfl
  refine ⟨_, by simp [Act.put]; rfl, by kernel_rfl, by kernel_rfl, by kernel_rfl, fun _ _ _ h => h, (.inl ⟨rfl, fun W hW => by have c := hW.2.1; go_simp⟩), HS.out, ?_⟩
  refine takeH (o := ?o4) 3 (.pointer (some ⟨w.heap.size, 0, none⟩)) ?h4 ?r4
  case h4 => simp only [aT, aS, aZ]; rfl
  refine ⟨_, by simp [Act.put]; rfl, by kernel_rfl, by kernel_rfl, by kernel_rfl, fun _ _ _ h => h, (.inl ⟨rfl, fun W _ => by go_simp⟩), HS.out, ?_⟩
  refine takeH (o := ?o5) 4 (.pointer (some ⟨w.heap.size, 1, none⟩)) ?h5 ?r5
  case h5 => simp only [aT, aS, aZ]; rfl
  refine ⟨_, by simp [Act.put]; rfl, by kernel_rfl, by kernel_rfl, by kernel_rfl, fun _ _ _ h => h, (.inl ⟨rfl, fun W _ => by go_simp⟩), HS.out, ?_⟩
  refine takeH (o := ?o6) 5 (.int .i64 p) ?h6 ?r6
  case h6 => simp only [aT, aS, aZ]; rfl
  refine ⟨_, by simp [Act.put]; rfl, by kernel_rfl, by kernel_rfl, by kernel_rfl, fun _ _ _ h => h, (.inl ⟨rfl, fun W hW => by have c := hW.2.2.1; go_simp⟩), HS.out, ?_⟩
  refine takeH (o := ?o7) 6 (.pointer (some ⟨w.heap.size, 2, none⟩)) ?h7 ?r7
  case h7 => simp only [aT, aS, aZ]; rfl
  refine ⟨_, by simp [Act.put]; rfl, by kernel_rfl, by kernel_rfl, by kernel_rfl, fun _ _ _ h => h, (.inl ⟨rfl, fun W _ => by go_simp⟩), HS.out, ?_⟩
  refine takeH (o := ?o8) 7 (.slice a l c) ?h8 ?r8
  case h8 => simp only [aT, aS, aZ]; rfl
  refine ⟨_, by simp [Act.put]; rfl, by kernel_rfl, by kernel_rfl, by kernel_rfl, fun _ _ _ h => h, (.inl ⟨rfl, fun W hW => by have c := hW.2.2.2; go_simp⟩), HS.out, ?_⟩
  refine takeH (o := ?o9) 9 (.pointer (some ⟨w.heap.size, 3, none⟩)) ?h9 ?r9
  case h9 => simp only [aT, aS, aZ]; rfl
  refine ⟨_, by simp [Act.put]; rfl, by kernel_rfl, by kernel_rfl, by kernel_rfl, fun _ _ _ h => h, (.inl ⟨rfl, fun W _ => by go_simp⟩), HS.out, ?_⟩
  refine takeH (o := ?o10) 10 (.agg (tc ys)) ?h10 ?r10
  case h10 => simp only [aT, aS, aZ]; rfl
  refine ⟨_, by simp [Act.put]; rfl, by kernel_rfl, by kernel_rfl, by kernel_rfl, fun _ _ _ h => h, (yields_cut 118 w.heap.size 3 28 _ (tc ys) 135 _ rfl rfl rfl Tryz.underlying118 rfl infoTally (by rw [hc_size HP.out.2]; omega) (cutOf_hc HP.out.2) (fun W hW => hW.1)), HS.out, ?_⟩
  refine onlyH (o := ?o11) 8 (by kernel_rfl) ?h11 ?r11
  case h11 => simp only [aT, aS, aZ]; rfl
  intro K hK
  refine op_call1 82 _ _ Tryz.f82 (fun v w' => ∃ a len cap F, v = .slice a len cap ∧ RdP w' a len ps F ∧ Own W0.drew.heap.size w' F ∧ Below W0.drew.heap.size W0.drew w' ∧ Capd a len cap) rfl rfl Tryz.func82 (by kernel_rfl) (by kernel_rfl) ((copiedSpans_any a l c ps F W0.drew (HP.out.1.below HT.out.2.2.drew) hl).mono (by rintro e w' ⟨a, len, cap, F, rfl, h1, h2, h3, h4⟩; exact ⟨_, rfl, a, len, cap, F, rfl, h1, h2, h3, h4⟩)) ?_
  rintro _ w1 ⟨aj, lj, cj, Fj, rfl, rj, oj, bz, hcj⟩
  refine ⟨_, by simp [Act.put]; rfl, hK _ _ ⟨HS.out.below bz, ?_⟩⟩
  have HJ : Hid (RdP w1 aj lj ps Fj ∧ Own (w.heap.size + 2) w1 Fj ∧ Capd aj lj cj) := ⟨rj, oj.mono (by omega), hcj⟩
  have HS1 : Hid (HoldS w.heap.size k p a l c ys w1) := HS.out.below bz
  have HZ1 : Hid (Blk w1 (w.heap.size + 1) #[.int .i64 0, .int .i64 0, .slice none 0 0, .int .i64 0, .int .i64 0, .int .i64 0, .int .i64 0, .slice none 0 0, .slice none 0 0, .slice none 0 0] 33 ∧ Below w.heap.size w w1) := ⟨HT.out.2.1.drew.below bz, Below.next HT.out.2.2.drew bz⟩
  clear hK bz rj oj HS hcj
  refine onlyH (o := ?o12) 11 (by kernel_rfl) ?h12 ?r12
  case h12 => simp only [aT, aS, aZ]; rfl
  intro K hK
  refine op_call1 148 _ _ Tryz.f148 (fun v w' => ∃ X, RdSk w' v (skOf ys) X ∧ Own w1.heap.size w' X ∧ Below w1.heap.size w1 w') rfl rfl Tryz.func148 (by kernel_rfl) (by kernel_rfl) ((sketch_any ys w1 HP.out.2).mono (by rintro e w' ⟨v, X, rfl, h1, h2, h3⟩; exact ⟨_, rfl, X, h1, h2, h3⟩)) ?_
  rintro vm w2 ⟨X, rm, om, bz⟩
  obtain ⟨e1, r1, f1, e2, r2, f2, e3, r3, f3, rfl⟩ := rm.cells7
  refine ⟨_, by simp [Act.put]; rfl, hK _ _ ⟨HS1.out.below bz, ?_⟩⟩
  obtain ⟨M, hM⟩ : ∃ M, M = skOf ys := ⟨_, rfl⟩
  rw [← hM] at rm ⊢
  have HM : Hid (M = skOf ys) := hM
  have HS2 : Hid (HoldS w.heap.size k p a l c ys w2) := HS1.out.below bz
  have HZ2 : Hid (Blk w2 (w.heap.size + 1) #[.int .i64 0, .int .i64 0, .slice none 0 0, .int .i64 0, .int .i64 0, .int .i64 0, .int .i64 0, .slice none 0 0, .slice none 0 0, .slice none 0 0] 33 ∧ Below w.heap.size w w2) := ⟨HZ1.out.1.below bz, Below.next HZ1.out.2 bz⟩
  have HJ2 : Hid (RdP w2 aj lj ps Fj ∧ Own (w.heap.size + 2) w2 Fj ∧ RdSk w2 (.agg #[.int .i64 M.count, .int .i64 M.sum, .int .i64 M.min, .int .i64 M.max, .slice e1 r1 f1, .slice e2 r2 f2, .slice e3 r3 f3]) M X ∧ Own (w.heap.size + 2) w2 X ∧ ∀ b ∈ Fj, b ∉ X) := ⟨HJ.out.1.below bz, HJ.out.2.1.below HJ.out.1.lt bz, rm, om.mono HZ1.out.1.lt, fun b hb hx => by have := HJ.out.1.lt b hb; have := om.ge b hx; omega⟩
  clear hK bz rm om HS1 HZ1 hM
  refine takeH (o := ?o13) 12 (.agg #[.int .i64 k, .int .i64 p, .slice aj lj cj, .int .i64 M.count, .int .i64 M.sum, .int .i64 M.min, .int .i64 M.max, .slice e1 r1 f1, .slice e2 r2 f2, .slice e3 r3 f3]) ?h13 ?r13
  case h13 => simp only [aT, aS, aZ]; rfl
  refine ⟨_, by simp [Act.put]; rfl, by kernel_rfl, by kernel_rfl, by kernel_rfl, fun _ _ _ h => h, (.inl ⟨rfl, fun W _ => by go_simp⟩), HS2.out, ?_⟩
  refine onlyH (o := ?o14) 13 (by kernel_rfl) ?h14 ?r14
  case h14 => simp only [aT, aS, aZ]; rfl
  intro K hK
  refine op_store 33 (w.heap.size + 1) #[.int .i64 0, .int .i64 0, .slice none 0 0, .int .i64 0, .int .i64 0, .int .i64 0, .int .i64 0, .slice none 0 0, .slice none 0 0, .slice none 0 0] #[.int .i64 k, .int .i64 p, .slice aj lj cj, .int .i64 M.count, .int .i64 M.sum, .int .i64 M.min, .int .i64 M.max, .slice e1 r1 f1, .slice e2 r2 f2, .slice e3 r3 f3] 33 rfl rfl rfl rfl HZ2.out.1 (by kernel_rfl) rfl (by simp [Value.oneCell']) ⟨_, by simp [Act.put]; rfl, hK _ _ ⟨HS2.out.setRow (by omega), ?_⟩⟩
  clear hK
  refine wpAnyH_done (by kernel_rfl) ?_ _
  have nf : w.heap.size + 1 ∉ Fj := fun hx => by have := HJ2.out.2.1.ge _ hx; omega
  have nx : w.heap.size + 1 ∉ X := fun hx => by have := HJ2.out.2.2.2.1.ge _ hx; omega
  obtain ⟨E, hE⟩ : ∃ E : Array Value, E = #[.int .i64 k, .int .i64 p, .slice aj lj cj, .int .i64 M.count, .int .i64 M.sum, .int .i64 M.min, .int .i64 M.max, .slice e1 r1 f1, .slice e2 r2 f2, .slice e3 r3 f3] := ⟨_, rfl⟩
  rw [← hE]
  obtain ⟨w3, hw3⟩ : ∃ W, W = w2.setRow (w.heap.size + 1) E := ⟨_, rfl⟩
  have HF : Hid (Blk w3 (w.heap.size + 1) E 33 ∧ RdP w3 aj lj ps Fj ∧ Own w.heap.size w3 Fj ∧ RdSk w3 (.agg #[.int .i64 M.count, .int .i64 M.sum, .int .i64 M.min, .int .i64 M.max, .slice e1 r1 f1, .slice e2 r2 f2, .slice e3 r3 f3]) M X ∧ Own w.heap.size w3 X ∧ (∀ b ∈ Fj, b ∉ X) ∧ Below w.heap.size w w3) := by
    rw [hw3]
    exact ⟨HZ2.out.1.setRow, HJ2.out.1.agree (Agree.row nf E), (HJ2.out.2.1.agree (Agree.row nf E)).mono (by omega), HJ2.out.2.2.1.agree (Agree.row nx E), (HJ2.out.2.2.2.1.agree (Agree.row nx E)).mono (by omega), HJ2.out.2.2.2.2, below_setRow HZ2.out.2 (by omega) _⟩
  have HE : Hid (E = #[.int .i64 k, .int .i64 p, .slice aj lj cj, .int .i64 M.count, .int .i64 M.sum, .int .i64 M.min, .int .i64 M.max, .slice e1 r1 f1, .slice e2 r2 f2, .slice e3 r3 f3] ∧ E.size = 10) := ⟨hE, by rw [hE]; rfl⟩
  rw [← hw3]
  clear hE hw3 HJ2 HZ2 HS2 nf nx
  go_wp2
  refine bodyPost_ret (results_cell_row Tryz.results105 _ _ (w.heap.size + 1) _ _ (0, 0) _ rfl HF.out.1 Tryz.underlying33 rfl (by rw [HE.out.2]; exact infoEnA)) rfl ?_
  have hM := HM.out
  subst hM
  exact ⟨_, Fj, X, rfl, ⟨aj, lj, cj, e1, r1, f1, e2, r2, f2, e3, r3, f3, by rw [HE.out.1], HF.out.2.1, HF.out.2.2.2.1, HJ.out.2.2⟩, HF.out.2.2.1, HF.out.2.2.2.2.1, HF.out.2.2.2.2.2.1, HF.out.2.2.2.2.2.2⟩
set_option maxRecDepth 200000 in
set_option maxHeartbeats 8000000 in
theorem entryAddImpl_any (v u : Value) (x y : En) (F F' G G' : List Nat) (w : World) (h : RdEn w v x F F') (k : RdEn w u y G G') (hx : x.sk.wide) (hy : y.sk.wide) (hlen : x.ids.length + y.ids.length ≤ 2097152) :
    Calls Tryz.prog 67 #[v, u] w fun e w' => NewEn2 w (x.addR y) (x.addOk y) e w' := by
  have HX : Hid (RdEn w v x F F' ∧ RdEn w u y G G' ∧ x.sk.wide ∧ y.sk.wide ∧ x.ids.length + y.ids.length ≤ 2097152) := ⟨h, k, hx, hy, hlen⟩
  obtain ⟨p, l, g, a1, n1, nc1, a2, n2, nc2, a3, n3, nc3, rfl, px, _, cx⟩ := h
  obtain ⟨q, k, j, b1, m1, mc1, b2, m2, mc2, b3, m3, mc3, rfl, py, _, cy⟩ := k
  have HT := three_madeE w #[.int .i64 x.key, .int .i64 x.window, .slice p l g, .int .i64 x.sk.count, .int .i64 x.sk.sum, .int .i64 x.sk.min, .int .i64 x.sk.max, .slice a1 n1 nc1, .slice a2 n2 nc2, .slice a3 n3 nc3] #[.int .i64 y.key, .int .i64 y.window, .slice q k j, .int .i64 y.sk.count, .int .i64 y.sk.sum, .int .i64 y.sk.min, .int .i64 y.sk.max, .slice b1 m1 mc1, .slice b2 m2 mc2, .slice b3 m3 mc3] #[.int .i64 0, .int .i64 0, .slice none 0 0, .int .i64 0, .int .i64 0, .int .i64 0, .int .i64 0, .slice none 0 0, .slice none 0 0, .slice none 0 0] 33
  have HTT : Hid (_ ∧ _ ∧ _ ∧ _) := HT
  clear px py hx hy hlen HT cx cy
  go_enter Tryz.func67, Tryz.ntmps67
  go_wp2_with (first | go_skip | (with_reducible refine stopLoad 33 rfl ?_) | (with_reducible refine stopStore 135 rfl ?_) | (with_reducible refine stopLoad 98 rfl ?_) | (with_reducible refine stopStore 33 rfl ?_))
  refine load_any 33 w.heap.size _ 33 _ HTT.out.1 rfl rfl rfl Tryz.underlying33 rfl (by kernel_rfl) ?_
  go_wp2_with fail
  refine (okHolding_any _ x F F' _ (HX.out.1.below HTT.out.2.2.2) HX.out.2.2.1 (by have := HX.out.2.2.2.2; omega)).mono ?_
  rintro e w1 ⟨kx, wx, ax, lx, cx, ys, rfl, hy, hok, hb1⟩
  have HY : Hid (ys.length = 28 ∧ (x.ok = true → kx = x.key ∧ wx = x.window ∧ ys = x.sk.tl ∧ RdP w1 ax lx x.ids F ∧ Capd ax lx cx)) := ⟨hy, fun e => by obtain ⟨h1, h2, h3, h4, h5⟩ := hok e; exact ⟨h1, h2, h3, h4.below hb1, h5⟩⟩
  have HB1 : Hid (Blk w1 (w.heap.size + 1) #[.int .i64 y.key, .int .i64 y.window, .slice q k j, .int .i64 y.sk.count, .int .i64 y.sk.sum, .int .i64 y.sk.min, .int .i64 y.sk.max, .slice b1 m1 mc1, .slice b2 m2 mc2, .slice b3 m3 mc3] 33 ∧ Blk w1 (w.heap.size + 1 + 1) #[.int .i64 0, .int .i64 0, .slice none 0 0, .int .i64 0, .int .i64 0, .int .i64 0, .int .i64 0, .slice none 0 0, .slice none 0 0, .slice none 0 0] 33 ∧ Below w.heap.size w w1) := ⟨HTT.out.2.1.below hb1, HTT.out.2.2.1.below hb1, Below.next HTT.out.2.2.2 hb1⟩
  have LZ1 : Hid (w.heap.size + 1 + 1 < w1.heap.size) := HB1.out.2.1.lt
  clear hy hok hb1 HTT
  obtain ⟨d1, hd1⟩ : ∃ d, d = x.ok := ⟨_, rfl⟩
  rw [← hd1]
  have HD1 : Hid (d1 = x.ok) := hd1
  clear hd1
  go_wp2_with (first | go_skip | (with_reducible refine stopLoad 33 rfl ?_) | (with_reducible refine stopStore 135 rfl ?_) | (with_reducible refine stopLoad 98 rfl ?_) | (with_reducible refine stopStore 33 rfl ?_))
  refine store_fresh 135 w1.heap.size rfl (hc 0 0 none 0 0 (List.replicate 28 0)) (hc kx wx ax lx cx ys) 135 rfl rfl rfl rfl (holdSize (hc_size HY.out.1)) (by rw [hc_size HY.out.1]; rfl) (hc_one ..) ?_
  intro W2 hg2 hb2
  have HG2 : Hid (HoldS w1.heap.size kx wx ax lx cx ys W2 ∧ Below w1.heap.size w1 W2) := ⟨holdS hg2, hb2⟩
  have HB2 : Hid (Blk W2 (w.heap.size + 1) #[.int .i64 y.key, .int .i64 y.window, .slice q k j, .int .i64 y.sk.count, .int .i64 y.sk.sum, .int .i64 y.sk.min, .int .i64 y.sk.max, .slice b1 m1 mc1, .slice b2 m2 mc2, .slice b3 m3 mc3] 33 ∧ Blk W2 (w.heap.size + 1 + 1) #[.int .i64 0, .int .i64 0, .slice none 0 0, .int .i64 0, .int .i64 0, .int .i64 0, .int .i64 0, .slice none 0 0, .slice none 0 0, .slice none 0 0] 33 ∧ Below w.heap.size w W2) := ⟨HB1.out.1.below hb2, HB1.out.2.1.below hb2, Below.next HB1.out.2.2 hb2⟩
  clear hg2 hb2 HB1
  go_wp2_with (first | go_skip | (with_reducible refine stopLoad 33 rfl ?_) | (with_reducible refine stopStore 135 rfl ?_) | (with_reducible refine stopLoad 98 rfl ?_) | (with_reducible refine stopStore 33 rfl ?_))
  refine load_any 33 (w.heap.size + 1) _ 33 _ HB2.out.1 rfl rfl rfl Tryz.underlying33 rfl (by kernel_rfl) ?_
  go_wp2_with fail
  refine (okHolding_any _ y G G' _ (HX.out.2.1.below HB2.out.2.2) HX.out.2.2.2.1 (by have := HX.out.2.2.2.2; omega)).mono ?_
  rintro e w3 ⟨ky, wy, ay, ly, cy, zs, rfl, hy, hok, hb3⟩
  have HY' : Hid (zs.length = 28 ∧ (y.ok = true → ky = y.key ∧ wy = y.window ∧ zs = y.sk.tl ∧ RdP w3 ay ly y.ids G ∧ Capd ay ly cy)) := ⟨hy, fun e => by obtain ⟨h1, h2, h3, h4, h5⟩ := hok e; exact ⟨h1, h2, h3, h4.below hb3, h5⟩⟩
  have HB3 : Hid (Blk w3 (w.heap.size + 1 + 1) #[.int .i64 0, .int .i64 0, .slice none 0 0, .int .i64 0, .int .i64 0, .int .i64 0, .int .i64 0, .slice none 0 0, .slice none 0 0, .slice none 0 0] 33 ∧ Below w.heap.size w w3 ∧ HoldS w1.heap.size kx wx ax lx cx ys w3 ∧ Below w1.heap.size w1 w3) := ⟨HB2.out.2.1.below hb3, Below.next HB2.out.2.2 hb3, HG2.out.1.below hb3, Below.next HG2.out.2 hb3⟩
  clear hy hok hb3 HB2 HG2
  obtain ⟨d2, hd2⟩ : ∃ d, d = y.ok := ⟨_, rfl⟩
  rw [← hd2]
  have HD2 : Hid (d2 = y.ok) := hd2
  clear hd2
  go_wp2_with (first | go_skip | (with_reducible refine stopLoad 33 rfl ?_) | (with_reducible refine stopStore 135 rfl ?_) | (with_reducible refine stopLoad 98 rfl ?_) | (with_reducible refine stopStore 33 rfl ?_))
  refine store_fresh 135 w3.heap.size rfl (hc 0 0 none 0 0 (List.replicate 28 0)) (hc ky wy ay ly cy zs) 135 rfl rfl rfl rfl (holdSize (hc_size HY'.out.1)) (by rw [hc_size HY'.out.1]; rfl) (hc_one ..) ?_
  intro W4 hg4 hb4
  have HS4 : Hid (HoldS w1.heap.size kx wx ax lx cx ys W4 ∧ HoldS w3.heap.size ky wy ay ly cy zs W4) := ⟨HB3.out.2.2.1.below hb4, holdS hg4⟩
  have HZ : Hid (Blk W4 (w.heap.size + 1 + 1) #[.int .i64 0, .int .i64 0, .slice none 0 0, .int .i64 0, .int .i64 0, .int .i64 0, .int .i64 0, .slice none 0 0, .slice none 0 0, .slice none 0 0] 33 ∧ Below w.heap.size w W4) := ⟨HB3.out.1.below hb4, Below.next HB3.out.2.1 hb4⟩
  have HL4 : Hid (Below w1.heap.size w1 W4 ∧ Below w3.heap.size w3 W4) := ⟨Below.next HB3.out.2.2.2 hb4, hb4⟩
  have LZ : Hid (w.heap.size + 1 + 1 < w1.heap.size ∧ w1.heap.size < w3.heap.size) := ⟨LZ1.out, HB3.out.2.2.1.1.lt⟩
  clear hg4 hb4 HB3
  cases d1
  · have HV : Hid (x.addOk y = false) := by show _ = _; unfold En.addOk; rw [← HD1.out]; rfl
    go_wp2_with (first | go_skip | (with_reducible refine stopLoad 33 rfl ?_) | (with_reducible refine stopStore 135 rfl ?_) | (with_reducible refine stopLoad 98 rfl ?_) | (with_reducible refine stopStore 33 rfl ?_))
    refine store_known 33 (w.heap.size + 1 + 1) _ #[.int .i64 0, .int .i64 0, .slice none 0 0, .int .i64 0, .int .i64 0, .int .i64 0, .int .i64 0, .slice none 0 0, .slice none 0 0, .slice none 0 0] 33 HZ.out.1 rfl rfl rfl rfl (by kernel_rfl) rfl (by kernel_rfl) ?_
    go_wp2
    refine bodyPost_ret (results_row_tmp Tryz.results67 _ _ (w.heap.size + 1 + 1) _ _ _ _ rfl HZ.out.1.setRow Tryz.underlying33 rfl (by kernel_rfl)) rfl ?_
    rw [HV.out, En.addR_not HV.out]
    exact ⟨_, [], [], rfl, rdEn_zero _, Own.nil, Own.nil, by simp, below_setRow HZ.out.2 (by omega) _⟩
  cases d2
  · have HV : Hid (x.addOk y = false) := by show _ = _; unfold En.addOk; rw [← HD1.out, ← HD2.out]; rfl
    go_wp2_with (first | go_skip | (with_reducible refine stopLoad 33 rfl ?_) | (with_reducible refine stopStore 135 rfl ?_) | (with_reducible refine stopLoad 98 rfl ?_) | (with_reducible refine stopStore 33 rfl ?_))
    refine store_known 33 (w.heap.size + 1 + 1) _ #[.int .i64 0, .int .i64 0, .slice none 0 0, .int .i64 0, .int .i64 0, .int .i64 0, .int .i64 0, .slice none 0 0, .slice none 0 0, .slice none 0 0] 33 HZ.out.1 rfl rfl rfl rfl (by kernel_rfl) rfl (by kernel_rfl) ?_
    go_wp2
    refine bodyPost_ret (results_row_tmp Tryz.results67 _ _ (w.heap.size + 1 + 1) _ _ _ _ rfl HZ.out.1.setRow Tryz.underlying33 rfl (by kernel_rfl)) rfl ?_
    rw [HV.out, En.addR_not HV.out]
    exact ⟨_, [], [], rfl, rdEn_zero _, Own.nil, Own.nil, by simp, below_setRow HZ.out.2 (by omega) _⟩
  obtain ⟨ek, ew, ey, hpx, hcx⟩ := HY.out.2 HD1.out.symm
  obtain ⟨fk, fw, fz, hpy, hcy⟩ := HY'.out.2 HD2.out.symm
  subst ek ew fk fw
  have HP : Hid (RdP W4 ax lx x.ids F ∧ RdP W4 ay ly y.ids G ∧ Capd ax lx cx ∧ Capd ay ly cy ∧ lx + ly ≤ 2097152) := ⟨hpx.below HL4.out.1, hpy.below HL4.out.2, hcx, hcy, by rw [← hpx.length, ← hpy.length]; exact HX.out.2.2.2.2⟩
  have HE : Hid (ys = x.sk.tl ∧ zs = y.sk.tl) := ⟨ey, fz⟩
  clear ey fz hpx hpy hcx hcy
  have q1 : ∀ W, HoldS w1.heap.size x.key x.window ax lx cx ys W → W.cell? ⟨w1.heap.size, 2, none⟩ = some (.slice ax lx cx) := fun W h => h.2.2.2
  go_wp2_with (first | go_skip | (with_reducible refine stopLoad 33 rfl ?_) | (with_reducible refine stopStore 135 rfl ?_) | (with_reducible refine stopLoad 98 rfl ?_) | (with_reducible refine stopStore 33 rfl ?_))
  refine load_cutw 98 w1.heap.size 0 2 _ #[.int .i64 x.key, .int .i64 x.window] 135 _ HS4.out.1.1 rfl rfl rfl Tryz.underlying98 rfl infoPlace (by rw [hc_size HY.out.1]; omega) (cutOf_place ..) ?_
  go_wp2_with (first | go_skip | (with_reducible refine stopLoad 33 rfl ?_) | (with_reducible refine stopStore 135 rfl ?_) | (with_reducible refine stopLoad 98 rfl ?_) | (with_reducible refine stopStore 33 rfl ?_))
  refine load_cutw 98 w3.heap.size 0 2 _ #[.int .i64 y.key, .int .i64 y.window] 135 _ HS4.out.2.1 rfl rfl rfl Tryz.underlying98 rfl infoPlace (by rw [hc_size HY'.out.1]; omega) (cutOf_place ..) ?_
  clear q1
  by_cases c1 : x.key = y.key
  rotate_left
  · have HV : Hid (x.addOk y = false) := by show _ = _; unfold En.addOk; rw [dec_false c1]; simp
    have z1 : (x.key == y.key) = false := by simpa using c1
    clear c1
    go_wp2_with (first | go_skip | (with_reducible refine stopLoad 33 rfl ?_) | (with_reducible refine stopStore 135 rfl ?_) | (with_reducible refine stopLoad 98 rfl ?_) | (with_reducible refine stopStore 33 rfl ?_))
    refine store_known 33 (w.heap.size + 1 + 1) _ #[.int .i64 0, .int .i64 0, .slice none 0 0, .int .i64 0, .int .i64 0, .int .i64 0, .int .i64 0, .slice none 0 0, .slice none 0 0, .slice none 0 0] 33 HZ.out.1 rfl rfl rfl rfl (by kernel_rfl) rfl (by kernel_rfl) ?_
    go_wp2
    refine bodyPost_ret (results_row_tmp Tryz.results67 _ _ (w.heap.size + 1 + 1) _ _ _ _ rfl HZ.out.1.setRow Tryz.underlying33 rfl (by kernel_rfl)) rfl ?_
    rw [HV.out, En.addR_not HV.out]
    exact ⟨_, [], [], rfl, rdEn_zero _, Own.nil, Own.nil, by simp, below_setRow HZ.out.2 (by omega) _⟩
  by_cases c2 : x.window = y.window
  rotate_left
  · have HV : Hid (x.addOk y = false) := by show _ = _; unfold En.addOk; rw [dec_false c2]; simp
    have z1 : (x.key == y.key) = true := by simpa using c1
    have z2 : (x.window == y.window) = false := by simpa using c2
    clear c1 c2
    go_wp2_with (first | go_skip | (with_reducible refine stopLoad 33 rfl ?_) | (with_reducible refine stopStore 135 rfl ?_) | (with_reducible refine stopLoad 98 rfl ?_) | (with_reducible refine stopStore 33 rfl ?_))
    refine store_known 33 (w.heap.size + 1 + 1) _ #[.int .i64 0, .int .i64 0, .slice none 0 0, .int .i64 0, .int .i64 0, .int .i64 0, .int .i64 0, .slice none 0 0, .slice none 0 0, .slice none 0 0] 33 HZ.out.1 rfl rfl rfl rfl (by kernel_rfl) rfl (by kernel_rfl) ?_
    go_wp2
    refine bodyPost_ret (results_row_tmp Tryz.results67 _ _ (w.heap.size + 1 + 1) _ _ _ _ rfl HZ.out.1.setRow Tryz.underlying33 rfl (by kernel_rfl)) rfl ?_
    rw [HV.out, En.addR_not HV.out]
    exact ⟨_, [], [], rfl, rdEn_zero _, Own.nil, Own.nil, by simp, below_setRow HZ.out.2 (by omega) _⟩
  have z1 : (x.key == y.key) = true := by simpa using c1
  have z2 : (x.window == y.window) = true := by simpa using c2
  have HC : Hid (x.addOk y = x.ids.apart y.ids) := by show _ = _; unfold En.addOk; rw [← HD1.out, ← HD2.out, dec_true c1, dec_true c2]; rfl
  clear c1 c2
  have k1 := HS4.out.1.2.2.2
  have k2 := HS4.out.2.2.2.2
  go_wp2_with fail
  refine (apartImpl_any ax ay lx ly cx cy x.ids y.ids F G _ HP.out.1 HP.out.2.1 (by have := HP.out.2.2.2.2; omega) (by have := HP.out.2.2.2.2; omega) HP.out.2.2.1.2 HP.out.2.2.2.1.2).mono ?_
  rintro e w5 ⟨rfl, hb5⟩
  have HZ5 : Hid (Blk w5 (w.heap.size + 1 + 1) #[.int .i64 0, .int .i64 0, .slice none 0 0, .int .i64 0, .int .i64 0, .int .i64 0, .int .i64 0, .slice none 0 0, .slice none 0 0, .slice none 0 0] 33 ∧ Below w.heap.size w w5) := ⟨HZ.out.1.below hb5, Below.next HZ.out.2 hb5⟩
  have HS5 : Hid (HoldS w1.heap.size x.key x.window ax lx cx ys w5 ∧ HoldS w3.heap.size y.key y.window ay ly cy zs w5) := ⟨HS4.out.1.below hb5, HS4.out.2.below hb5⟩
  have HP5 : Hid (RdP w5 ax lx x.ids F ∧ RdP w5 ay ly y.ids G) := ⟨HP.out.1.below hb5, HP.out.2.1.below hb5⟩
  clear hb5 HS4 HZ HL4 k1 k2 z1 z2
  obtain ⟨d3, hd3⟩ : ∃ d, d = x.ids.apart y.ids := ⟨_, rfl⟩
  rw [← hd3] at HC ⊢
  clear hd3
  have HZ := HZ5
  cases d3
  · have HV : Hid (x.addOk y = false) := HC
    go_wp2_with (first | go_skip | (with_reducible refine stopLoad 33 rfl ?_) | (with_reducible refine stopStore 135 rfl ?_) | (with_reducible refine stopLoad 98 rfl ?_) | (with_reducible refine stopStore 33 rfl ?_))
    refine store_known 33 (w.heap.size + 1 + 1) _ #[.int .i64 0, .int .i64 0, .slice none 0 0, .int .i64 0, .int .i64 0, .int .i64 0, .int .i64 0, .slice none 0 0, .slice none 0 0, .slice none 0 0] 33 HZ.out.1 rfl rfl rfl rfl (by kernel_rfl) rfl (by kernel_rfl) ?_
    go_wp2
    refine bodyPost_ret (results_row_tmp Tryz.results67 _ _ (w.heap.size + 1 + 1) _ _ _ _ rfl HZ.out.1.setRow Tryz.underlying33 rfl (by kernel_rfl)) rfl ?_
    rw [HV.out, En.addR_not HV.out]
    exact ⟨_, [], [], rfl, rdEn_zero _, Own.nil, Own.nil, by simp, below_setRow HZ.out.2 (by omega) _⟩
  have k1 := HS5.out.1.2.2.2
  have k2 := HS5.out.2.2.2.2
  go_wp2_with fail
  refine (joinImpl_any ax ay lx ly cx cy x.ids y.ids F G _ HP5.out.1 HP5.out.2 HP.out.2.2.2.2 HP.out.2.2.1.2).mono ?_
  rintro e w6 ⟨aj, lj, cj, Fj, rfl, rj, oj, bj, hcj⟩
  have HJ : Hid (RdP w6 aj lj (x.ids.join y.ids) Fj ∧ lj ≤ 2097152) := ⟨rj, by rw [← rj.length]; have := join_length x.ids y.ids; have := HX.out.2.2.2.2; omega⟩
  have HZ6 : Hid (Blk w6 (w.heap.size + 1 + 1) #[.int .i64 0, .int .i64 0, .slice none 0 0, .int .i64 0, .int .i64 0, .int .i64 0, .int .i64 0, .slice none 0 0, .slice none 0 0, .slice none 0 0] 33 ∧ Below w.heap.size w w6) := ⟨HZ.out.1.below bj, Below.next HZ.out.2 bj⟩
  have HS6 : Hid (HoldS w1.heap.size x.key x.window ax lx cx ys w6 ∧ HoldS w3.heap.size y.key y.window ay ly cy zs w6) := ⟨HS5.out.1.below bj, HS5.out.2.below bj⟩
  clear rj oj bj hcj HS5 HZ5 HP5 HZ k1 k2
  obtain ⟨dj, hdj⟩ : ∃ d, d = (x.ids.ok && y.ids.ok) := ⟨_, rfl⟩
  rw [← hdj]
  clear hdj
  go_wp2
  have HS : Hid (HoldS w1.heap.size x.key x.window ax lx cx ys w6.drew ∧ HoldS w3.heap.size y.key y.window ay ly cy zs w6.drew) := ⟨holdS HS6.out.1.1.drew, holdS HS6.out.2.1.drew⟩
  have HZ : Hid (Blk w6.drew (w.heap.size + 1 + 1) #[.int .i64 0, .int .i64 0, .slice none 0 0, .int .i64 0, .int .i64 0, .int .i64 0, .int .i64 0, .slice none 0 0, .slice none 0 0, .slice none 0 0] 33 ∧ Below w.heap.size w w6.drew) := ⟨HZ6.out.1.drew, HZ6.out.2.drew⟩
  have HJ : Hid (RdP w6.drew aj lj (x.ids.join y.ids) Fj ∧ lj ≤ 2097152) := ⟨HJ.out.1.below (Below.refl _ _).drew, HJ.out.2⟩
  obtain ⟨W7, hW7⟩ : ∃ W, W = w6.drew := ⟨_, rfl⟩
  have HSS : ∀ W W', (HoldS w1.heap.size x.key x.window ax lx cx ys W ∧ HoldS w3.heap.size y.key y.window ay ly cy zs W) → Below W.heap.size W W' → (HoldS w1.heap.size x.key x.window ax lx cx ys W' ∧ HoldS w3.heap.size y.key y.window ay ly cy zs W') := fun W W' h b => ⟨h.1.below b, h.2.below b⟩
  refine wp_region_held (S := fun W => HoldS w1.heap.size x.key x.window ax lx cx ys W ∧ HoldS w3.heap.size y.key y.window ay ly cy zs W) (by kernel_rfl) ?_
  change wpAnyH _ _ _ _ _ _ _ _ (World.drew _)
  rw [← hW7] at HS HZ HJ ⊢
  clear hW7 HS6 HZ6
  refine takeH (o := ?o1) 0 (.pointer (some ⟨w1.heap.size, 0, none⟩)) ?h1 ?r1
  case h1 => simp only [aT, aZ]; rfl
  refine ⟨_, by simp [Act.put]; rfl, by kernel_rfl, by kernel_rfl, by kernel_rfl, fun _ _ _ h => h, (.inl ⟨rfl, fun W _ => by go_simp⟩), HS.out, ?_⟩
  refine takeH (o := ?o2) 1 (.agg #[.int .i64 x.key, .int .i64 x.window]) ?h2 ?r2
  case h2 => simp only [aT, aS, aZ]; rfl
  refine ⟨_, by simp [Act.put]; rfl, by kernel_rfl, by kernel_rfl, by kernel_rfl, fun _ _ _ h => h, (yields_cut 98 w1.heap.size 0 2 _ #[.int .i64 x.key, .int .i64 x.window] 135 _ rfl rfl rfl Tryz.underlying98 rfl infoPlace (by rw [hc_size HY.out.1]; omega) (cutOf_place ..) (fun W hW => hW.1.1)), HS.out, ?_⟩
  refine takeH (o := ?o3) 2 (.slice aj lj cj) ?h3 ?r3
  case h3 => simp only [aT, aS, aZ]; rfl
  refine ⟨_, by simp [Act.put]; rfl, by kernel_rfl, by kernel_rfl, by kernel_rfl, fun _ _ _ h => h, (.inl ⟨rfl, fun W _ => by go_simp⟩), HS.out, ?_⟩
  refine takeH (o := ?o4) 3 (.pointer (some ⟨w1.heap.size, 3, none⟩)) ?h4 ?r4
  case h4 => simp only [aT, aS, aZ]; rfl
  refine ⟨_, by simp [Act.put]; rfl, by kernel_rfl, by kernel_rfl, by kernel_rfl, fun _ _ _ h => h, (.inl ⟨rfl, fun W _ => by go_simp⟩), HS.out, ?_⟩
  refine takeH (o := ?o5) 4 (.agg (tc ys)) ?h5 ?r5
  case h5 => simp only [aT, aS, aZ]; rfl
  refine ⟨_, by simp [Act.put]; rfl, by kernel_rfl, by kernel_rfl, by kernel_rfl, fun _ _ _ h => h, (yields_cut 118 w1.heap.size 3 28 _ (tc ys) 135 _ rfl rfl rfl Tryz.underlying118 rfl infoTally (by rw [hc_size HY.out.1]; omega) (cutOf_hc HY.out.1) (fun W hW => hW.1.1)), HS.out, ?_⟩
  refine takeH (o := ?o6) 5 (.pointer (some ⟨w3.heap.size, 3, none⟩)) ?h6 ?r6
  case h6 => simp only [aT, aS, aZ]; rfl
  refine ⟨_, by simp [Act.put]; rfl, by kernel_rfl, by kernel_rfl, by kernel_rfl, fun _ _ _ h => h, (.inl ⟨rfl, fun W _ => by go_simp⟩), HS.out, ?_⟩
  refine takeH (o := ?o7) 6 (.agg (tc zs)) ?h7 ?r7
  case h7 => simp only [aT, aS, aZ]; rfl
  refine ⟨_, by simp [Act.put]; rfl, by kernel_rfl, by kernel_rfl, by kernel_rfl, fun _ _ _ h => h, (yields_cut 118 w3.heap.size 3 28 _ (tc zs) 135 _ rfl rfl rfl Tryz.underlying118 rfl infoTally (by rw [hc_size HY'.out.1]; omega) (cutOf_hc HY'.out.1) (fun W hW => hW.2.1)), HS.out, ?_⟩
  refine onlyH (o := ?o8) 7 (by kernel_rfl) ?h8 ?r8
  case h8 => simp only [aT, aS, aZ]; rfl
  intro K hK
  refine op_call2' 104 _ _ _ Tryz.f104 (fun v w' => v = .agg (tc (plusL ys zs 28)) ∧ Below W7.heap.size W7 w') rfl rfl Tryz.func104 (by kernel_rfl) (by kernel_rfl) ((plus_any ys zs W7 HY.out.1 HY'.out.1).mono (by rintro e w' ⟨rfl, h1⟩; exact ⟨_, rfl, rfl, h1⟩)) ?_
  rintro _ W8 ⟨rfl, bz⟩
  refine ⟨_, by simp [Act.put]; rfl, hK _ _ ⟨HSS _ _ HS.out bz, ?_⟩⟩
  have HS8 : Hid (HoldS w1.heap.size x.key x.window ax lx cx ys W8 ∧ HoldS w3.heap.size y.key y.window ay ly cy zs W8) := HSS _ _ HS.out bz
  have HZ8 : Hid (Blk W8 (w.heap.size + 1 + 1) #[.int .i64 0, .int .i64 0, .slice none 0 0, .int .i64 0, .int .i64 0, .int .i64 0, .int .i64 0, .slice none 0 0, .slice none 0 0, .slice none 0 0] 33 ∧ Below w.heap.size w W8) := ⟨HZ.out.1.below bz, Below.next HZ.out.2 bz⟩
  have HJ8 : Hid (RdP W8 aj lj (x.ids.join y.ids) Fj ∧ lj ≤ 2097152) := ⟨HJ.out.1.below bz, HJ.out.2⟩
  clear hK bz HS HZ HJ
  refine takeH (o := ?o9) 8 (.agg (hc x.key x.window aj lj cj (plusL ys zs 28))) ?h9 ?r9
  case h9 => simp only [aT, aS, aZ]; rfl
  refine ⟨_, by simp [Act.put]; rfl, by kernel_rfl, by kernel_rfl, by kernel_rfl, fun _ _ _ h => h, (.inl ⟨rfl, fun W _ => by unfold execOp; simp only [List.map_toArray, List.map_cons, List.map_nil]; exact value_ok (build_hold _ _ _ _ _ _ _ (plusL_length _ _ _))⟩), HS8.out, ?_⟩
  refine onlyH (o := ?o10) 9 (by kernel_rfl) ?h10 ?r10
  case h10 => simp only [aT, aS, aZ]; rfl
  intro K hK
  refine op_call1 105 _ _ Tryz.f105 (fun v w' => ∃ X Y, RdEn w' v ⟨x.key, x.window, x.ids.join y.ids, skOf (plusL ys zs 28)⟩ X Y ∧ Own W8.heap.size w' X ∧ Own W8.heap.size w' Y ∧ (∀ b ∈ X, b ∉ Y) ∧ Below W8.heap.size W8 w') rfl rfl Tryz.func105 (by kernel_rfl) (by kernel_rfl) ((holdEntry_any x.key x.window aj lj cj (x.ids.join y.ids) (plusL ys zs 28) Fj W8 HJ8.out.1 HJ8.out.2 (plusL_length _ _ _)).mono (by rintro e w' ⟨v, X, Y, rfl, h1, h2, h3, h4, h5⟩; exact ⟨_, rfl, X, Y, h1, h2, h3, h4, h5⟩)) ?_
  rintro vm W9 ⟨X, Y, rm, oX, oY, hXY, bz⟩
  have hT : (⟨x.key, x.window, x.ids.join y.ids, skOf (plusL ys zs 28)⟩ : En) = x.addR y := by
    rw [En.addR_yes (HC.out), HE.out.1, HE.out.2]
    unfold En.add
    rw [merge_tl (En.ok_sk HD1.out.symm) (En.ok_sk HD2.out.symm), Sp.join_yes (En.ok_ids HD1.out.symm).1 (En.ok_ids HD2.out.symm).1]
  rw [hT] at rm
  obtain ⟨E, rfl, hE10, hE1⟩ := (show RdE W9 vm (x.addR y) (X ++ Y) from ⟨X, Y, rfl, rm⟩).cells
  refine ⟨_, by simp [Act.put]; rfl, hK _ _ ⟨HSS _ _ HS8.out bz, ?_⟩⟩
  have HS9 : Hid (HoldS w1.heap.size x.key x.window ax lx cx ys W9 ∧ HoldS w3.heap.size y.key y.window ay ly cy zs W9) := HSS _ _ HS8.out bz
  have HZ9 : Hid (Blk W9 (w.heap.size + 1 + 1) #[.int .i64 0, .int .i64 0, .slice none 0 0, .int .i64 0, .int .i64 0, .int .i64 0, .int .i64 0, .slice none 0 0, .slice none 0 0, .slice none 0 0] 33 ∧ Below w.heap.size w W9) := ⟨HZ8.out.1.below bz, Below.next HZ8.out.2 bz⟩
  have HR9 : Hid (RdEn W9 (.agg E) (x.addR y) X Y ∧ Own (w.heap.size + 3) W9 X ∧ Own (w.heap.size + 3) W9 Y ∧ (∀ b ∈ X, b ∉ Y) ∧ E.size = 10 ∧ E.all (·.oneCell') = true) := ⟨rm, oX.mono HZ8.out.1.lt, oY.mono HZ8.out.1.lt, hXY, hE10, hE1⟩
  clear hK bz rm oX oY hXY hT hE10 hE1 HS8 HZ8 HJ8
  refine onlyH (o := ?o11) 10 (by kernel_rfl) ?h11 ?r11
  case h11 => simp only [aT, aS, aZ]; rfl
  intro K hK
  refine op_store 33 (w.heap.size + 1 + 1) #[.int .i64 0, .int .i64 0, .slice none 0 0, .int .i64 0, .int .i64 0, .int .i64 0, .int .i64 0, .slice none 0 0, .slice none 0 0, .slice none 0 0] E 33 rfl rfl rfl rfl HZ9.out.1 (enSizeA HR9.out.2.2.2.2.1) HR9.out.2.2.2.2.1.symm HR9.out.2.2.2.2.2 ⟨_, by simp [Act.put]; rfl, hK _ _ ⟨⟨HS9.out.1.setRow (by have := LZ.out; omega), HS9.out.2.setRow (by have := LZ.out; omega)⟩, ?_⟩⟩
  clear hK
  have HSF : Hid (HoldS w1.heap.size x.key x.window ax lx cx ys (W9.setRow (w.heap.size + 1 + 1) E) ∧ HoldS w3.heap.size y.key y.window ay ly cy zs (W9.setRow (w.heap.size + 1 + 1) E)) := ⟨HS9.out.1.setRow (by have := LZ.out; omega), HS9.out.2.setRow (by have := LZ.out; omega)⟩
  refine takeH (o := ?o12) 11 (.bool true) ?h12 ?r12
  case h12 => simp only [aT, aS, aZ]; rfl
  refine ⟨_, by simp [Act.put]; rfl, by kernel_rfl, by kernel_rfl, by kernel_rfl, fun _ _ _ h => h, (.inl ⟨rfl, fun W _ => by go_simp⟩), HSF.out, ?_⟩
  refine wpAnyH_done (by kernel_rfl) ?_ _
  go_wp2
  refine bodyPost_ret (results_row_tmp Tryz.results67 _ _ (w.heap.size + 1 + 1) _ _ _ _ rfl HZ9.out.1.setRow Tryz.underlying33 rfl (enSizeA HR9.out.2.2.2.2.1)) rfl ?_
  have nX : w.heap.size + 1 + 1 ∉ X := fun hx => by have := HR9.out.2.1.ge _ hx; omega
  have nY : w.heap.size + 1 + 1 ∉ Y := fun hx => by have := HR9.out.2.2.1.ge _ hx; omega
  exact ⟨_, X, Y, by rw [HC.out]; rfl, HR9.out.1.agree (Agree.row nX E) (Agree.row nY E), (HR9.out.2.1.agree (Agree.row nX E)).mono (by omega), (HR9.out.2.2.1.agree (Agree.row nY E)).mono (by omega), HR9.out.2.2.2.1, below_setRow HZ9.out.2 (by omega) _⟩
end Go.Proofs.YtjnamoppcklomaaGreat
