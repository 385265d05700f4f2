/- Several texts of mine, laid together. No statement of the seat is proved here. -/
import Derived.Test.YtfbfklgjccbplabGreatB4
import Derived.Test.YtfbfklgjccbplabGreatB2
import Derived.Lib.SlBytesConst
import Derived.ArgAppend
import Derived.Test.YtfbfklgjccbplabGreatItModel
import Derived.Test.YtfbfklgjccbplabGreatB3
import Derived.Test.YtfbfklgjccbplabGreatTallyB
import Derived.Test.YtfbfklgjccbplabGreatFrModel
/- The walks through the program's numbersOfFrame and FrameBytes. No statement of the seat is proved here. -/
namespace Go.Proofs.YtfbfklgjccbplabGreat
open Go.RowKit
theorem Fr.numbers_len {x : Fr} (h : x.Right) : x.numbers.length ≤ 1000 := by
  have m := h.many
  have i := h.item
  unfold Fr.numbers
  rw [List.length_append, List.length_append, flat_length]
  by_cases q : x.kind = 1
  · rw [if_pos q] at i ⊢
    rw [List.length_append, Sk.nums_len (Sk.ok_lens (It.ok_nums i).2.2.2.2).1]
    simp only [List.length_cons, List.length_nil]
    omega
  · rw [if_neg q]
    simp only [List.length_cons, List.length_nil]
    omega
def Fr.numsTo (x : Fr) (k : Nat) : List Int := [x.kind, x.agent, x.epoch, x.granted, (x.taken.length : Int)] ++ flat (x.taken.take k)
theorem frNums_succ {x : Fr} {k : Nat} (hk : k < x.taken.length) : x.numsTo (k + 1) = x.numsTo k ++ [(x.taken.at k).1, (x.taken.at k).2] := by
  unfold Fr.numsTo
  rw [show x.taken.take (k + 1) = x.taken.take k ++ [x.taken.at k] from by rw [List.take_add_one, List.getElem?_eq_getElem hk]; simp [Sp.at, List.getElem?_eq_getElem hk], flat_append]
  simp [flat]
theorem frNums_len (x : Fr) {k : Nat} (hk : k ≤ x.taken.length) : (x.numsTo k).length = 5 + 2 * k := by
  unfold Fr.numsTo
  rw [List.length_append, flat_length, List.length_take]
  simp only [List.length_cons, List.length_nil]
  omega
theorem NumSt.lit {w W : World} {cs : Array Value} {t : TypeId} {v : Value} {xs : List Int} (h : NumSt w cs t v xs W) (o : Obj) : NumSt w cs t v xs (W.alloc o) := h.below ((Below.refl _ _).alloc (Nat.le_refl _) _)
set_option maxRecDepth 200000 in
set_option maxHeartbeats 8000000 in
theorem numbersOfFrame_any (v : Value) (x : Fr) (F G : List Nat) (w : World) (h : RdFr w v x F G) (hx : x.Right) (hw : x.item.sk.wide) :
    Calls Tryz.prog 23 #[v] w fun e w' => ∃ u, e = .returned u ∧ w'.ownsRow w.heap.size 3 1 u x.numbers.length (x.numbers.map (Value.int .i64)) ∧ Below w.heap.size w w' := by
  obtain ⟨i0, hi, hz0, hz1, hz2⟩ := info_parts infoInt
  obtain ⟨b, l, c, a1, n1, c1, a2, n2, c2, a3, n3, c3, rfl, hp, hr, _⟩ := h
  have HX : Hid (x.Right ∧ x.item.sk.wide ∧ RdIt w (.agg #[.int .i64 x.item.seq, .int .i64 x.item.cls, .int .i64 x.item.key, .int .i64 x.item.window, .int .i64 x.item.sk.count, .int .i64 x.item.sk.sum, .int .i64 x.item.sk.min, .int .i64 x.item.sk.max, .slice a1 n1 c1, .slice a2 n2 c2, .slice a3 n3 c3]) x.item G) := ⟨hx, hw, hr⟩
  have HP : Hid (RdP w b l x.taken F ∧ x.taken.length = l) := ⟨hp, hp.length⟩
  have hl : l ≤ 30 := by rw [← hp.length]; exact hx.many
  have HS0 : Hid (NumSt w #[.int .i64 x.kind, .int .i64 x.agent, .int .i64 x.epoch, .int .i64 x.granted, .slice b l c, .int .i64 x.item.seq, .int .i64 x.item.cls, .int .i64 x.item.key, .int .i64 x.item.window, .int .i64 x.item.sk.count, .int .i64 x.item.sk.sum, .int .i64 x.item.sk.min, .int .i64 x.item.sk.max, .slice a1 n1 c1, .slice a2 n2 c2, .slice a3 n3 c3] 32 (.slice (some ⟨w.heap.size + 1, 0, none⟩) 5 5) [x.kind, x.agent, x.epoch, x.granted, (l : Int)] ((w.alloc (.cells #[.int .i64 x.kind, .int .i64 x.agent, .int .i64 x.epoch, .int .i64 x.granted, .slice b l c, .int .i64 x.item.seq, .int .i64 x.item.cls, .int .i64 x.item.key, .int .i64 x.item.window, .int .i64 x.item.sk.count, .int .i64 x.item.sk.sum, .int .i64 x.item.sk.min, .int .i64 x.item.sk.max, .slice a1 n1 c1, .slice a2 n2 c2, .slice a3 n3 c3] 32)).alloc (.cells #[.int .i64 x.kind, .int .i64 x.agent, .int .i64 x.epoch, .int .i64 x.granted, .int .i64 (l : Int)] 3))) := by
    have m := two_made w #[.int .i64 x.kind, .int .i64 x.agent, .int .i64 x.epoch, .int .i64 x.granted, .slice b l c, .int .i64 x.item.seq, .int .i64 x.item.cls, .int .i64 x.item.key, .int .i64 x.item.window, .int .i64 x.item.sk.count, .int .i64 x.item.sk.sum, .int .i64 x.item.sk.min, .int .i64 x.item.sk.max, .slice a1 n1 c1, .slice a2 n2 c2, .slice a3 n3 c3] #[.int .i64 x.kind, .int .i64 x.agent, .int .i64 x.epoch, .int .i64 x.granted, .int .i64 (l : Int)] 32 3
    have o := World.ownsRow_lit (base := w.heap.size + 1) (e := 3) (size := 1) (w.alloc (.cells #[.int .i64 x.kind, .int .i64 x.agent, .int .i64 x.epoch, .int .i64 x.granted, .slice b l c, .int .i64 x.item.seq, .int .i64 x.item.cls, .int .i64 x.item.key, .int .i64 x.item.window, .int .i64 x.item.sk.count, .int .i64 x.item.sk.sum, .int .i64 x.item.sk.min, .int .i64 x.item.sk.max, .slice a1 n1 c1, .slice a2 n2 c2, .slice a3 n3 c3] 32)) #[.int .i64 x.kind, .int .i64 x.agent, .int .i64 x.epoch, .int .i64 x.granted, .int .i64 (l : Int)] 5 (by simp) (by unfold maxLen; omega) rfl
    have e : (w.alloc (.cells #[.int .i64 x.kind, .int .i64 x.agent, .int .i64 x.epoch, .int .i64 x.granted, .slice b l c, .int .i64 x.item.seq, .int .i64 x.item.cls, .int .i64 x.item.key, .int .i64 x.item.window, .int .i64 x.item.sk.count, .int .i64 x.item.sk.sum, .int .i64 x.item.sk.min, .int .i64 x.item.sk.max, .slice a1 n1 c1, .slice a2 n2 c2, .slice a3 n3 c3] 32)).heap.size = w.heap.size + 1 := by simp
    rw [e] at o
    exact ⟨m.1, o, m.2.2⟩
  clear hp hr hx hw
  go_enter Tryz.func23, Tryz.ntmps23
  go_wp2
  go_loopw [3, 21] (fun v i wr => ∃ (k : Nat), k ≤ l ∧ i = .int .i64 k ∧ Hid (NumSt w #[.int .i64 x.kind, .int .i64 x.agent, .int .i64 x.epoch, .int .i64 x.granted, .slice b l c, .int .i64 x.item.seq, .int .i64 x.item.cls, .int .i64 x.item.key, .int .i64 x.item.window, .int .i64 x.item.sk.count, .int .i64 x.item.sk.sum, .int .i64 x.item.sk.min, .int .i64 x.item.sk.max, .slice a1 n1 c1, .slice a2 n2 c2, .slice a3 n3 c3] 32 v (x.numsTo k) wr)) (fun _ i _ => l - (intOf i).toNat)
  case atStart =>
    refine ⟨0, by omega, rfl, ?_⟩
    have e : x.numsTo 0 = [x.kind, x.agent, x.epoch, x.granted, (l : Int)] := by unfold Fr.numsTo; rw [HP.out.2]; simp [flat]
    rw [e]
    exact HS0
  case round =>
    clear HS0
    obtain ⟨k, hk, rfl, HQ⟩ := hrel
    have k0 := HQ.out.box.cell 0
    simp only [List.getElem?_toArray, List.getElem?_cons_zero] at k0
    by_cases hlt : k < l
    · rcases cells_of (HP.out.1.below HQ.out.bel) with h0 | ⟨p, off, rfl, hbw, hc⟩
      · omega
      have d := hc k hlt
      have d1 := d.1
      have d2 := d.2
      obtain ⟨y, hy⟩ : ∃ y, y = (x.taken.at k).1 := ⟨_, rfl⟩
      obtain ⟨z, hz⟩ : ∃ y, y = (x.taken.at k).2 := ⟨_, rfl⟩
      rw [← hy] at d1
      rw [← hz] at d2
      have HY : Hid (x.numsTo (k + 1) = x.numsTo k ++ [y, z]) := by
        show _ = _
        rw [frNums_succ (by rw [HP.out.2]; exact hlt), hy, hz]
      have hln := frNums_len x (k := k) (by rw [HP.out.2]; omega)
      have hI : (k : Int) < (l : Int) := by omega
      have HQ2 : Hid (NumSt w #[.int .i64 x.kind, .int .i64 x.agent, .int .i64 x.epoch, .int .i64 x.granted, .slice (some ⟨p, off, none⟩) l c, .int .i64 x.item.seq, .int .i64 x.item.cls, .int .i64 x.item.key, .int .i64 x.item.window, .int .i64 x.item.sk.count, .int .i64 x.item.sk.sum, .int .i64 x.item.sk.min, .int .i64 x.item.sk.max, .slice a1 n1 c1, .slice a2 n2 c2, .slice a3 n3 c3] 32 u3 (x.numsTo k) ((wr.alloc (.cells #[.int .i64 y, .int .i64 z] 61)).alloc (.cells #[.int .i64 y, .int .i64 z] 3)) ∧ ∀ j u, ([y, z].map (Value.int .i64))[j]? = some u → ((wr.alloc (.cells #[.int .i64 y, .int .i64 z] 61)).alloc (.cells #[.int .i64 y, .int .i64 z] 3)).cell? ((⟨wr.heap.size + 1, 0, none⟩ : Addr).add j) = some u) := by
        refine ⟨(HQ.out.lit _).lit _, fun j u hj => ?_⟩
        have e : (wr.alloc (.cells #[.int .i64 y, .int .i64 z] 61)).heap.size = wr.heap.size + 1 := by simp
        have bl := Blk.made (wr.alloc (.cells #[.int .i64 y, .int .i64 z] 61)) #[.int .i64 y, .int .i64 z] 3
        rw [e] at bl
        rw [show (⟨wr.heap.size + 1, 0, none⟩ : Addr).add j = ⟨wr.heap.size + 1, j, none⟩ from by cases j <;> simp [Addr.add], bl.cell j]
        simpa using hj
      clear hc d hy hz HQ k0
      go_wp2_with (with_reducible refine stopAppend rfl ?_)
      refine Stop.intro (wpList_append_own _ rfl _ _ 25 rfl (w.heap.size + 1) 3 i0 (.int .i64 0) 1 8 Tryz.underlying25 hi hz0 hz1 hz2 rfl (by decide) _ _ _ rfl HQ2.out.1.own ⟨wr.heap.size + 1, 0, none⟩ 2 2 ([y, z].map (Value.int .i64)) rfl (by simp) HQ2.out.2 (ints_one _) (by unfold maxLen; omega) (by omega) HQ2.out.1.size ?_)
      intro v3 w3 hown hgrow _
      have HS3 : Hid (NumSt w #[.int .i64 x.kind, .int .i64 x.agent, .int .i64 x.epoch, .int .i64 x.granted, .slice (some ⟨p, off, none⟩) l c, .int .i64 x.item.seq, .int .i64 x.item.cls, .int .i64 x.item.key, .int .i64 x.item.window, .int .i64 x.item.sk.count, .int .i64 x.item.sk.sum, .int .i64 x.item.sk.min, .int .i64 x.item.sk.max, .slice a1 n1 c1, .slice a2 n2 c2, .slice a3 n3 c3] 32 v3 (x.numsTo (k + 1)) w3) := by
        show NumSt _ _ _ _ _ _
        rw [HY.out]
        exact HQ2.out.1.app rfl hown hgrow
      clear hown hgrow d1 d2 hln HQ2
      go_wp2
      go_roundw
      case rel => exact ⟨k + 1, by omega, by go_num, HS3⟩
      case measure => simp [intOf]; omega
    · obtain rfl : k = l := by omega
      have hln := frNums_len x (k := k) (by rw [HP.out.2]; omega)
      by_cases h1 : x.kind = 1
      · have e1 : (x.kind == 1) = true := by simpa using h1
        have HV : Hid (x.numbers = x.numsTo k ++ ([x.item.seq, x.item.cls, x.item.key, x.item.window] ++ x.item.sk.nums) ∧ x.item.sk.ok = true ∧ ([x.item.seq, x.item.cls, x.item.key, x.item.window] ++ x.item.sk.nums).length = 32) := by
          have i := HX.out.1.item
          rw [if_pos h1] at i
          have o := (It.ok_nums i).2.2.2.2
          refine ⟨?_, o, by rw [List.length_append, Sk.nums_len (Sk.ok_lens o).1]; rfl⟩
          unfold Fr.numbers Fr.numsTo
          rw [if_pos h1, List.take_of_length_le (by rw [HP.out.2]; omega)]
        clear h1
        go_wp2_with (first | go_skip | (with_reducible refine stopLoad 30 rfl ?_))
        refine load_cut 30 w.heap.size 5 11 _ #[.int .i64 x.item.seq, .int .i64 x.item.cls, .int .i64 x.item.key, .int .i64 x.item.window, .int .i64 x.item.sk.count, .int .i64 x.item.sk.sum, .int .i64 x.item.sk.min, .int .i64 x.item.sk.max, .slice a1 n1 c1, .slice a2 n2 c2, .slice a3 n3 c3] 32 _ HQ.out.box rfl rfl rfl Tryz.underlying30 rfl infoItA7 (by simp) rfl ?_
        go_wp2_with fail
        refine (numbersOfItem_any _ x.item G _ (HX.out.2.2.below HQ.out.bel) HV.out.2.1 HX.out.2.1).mono ?_
        rintro e w4 ⟨u4, rfl, hown4, hb4⟩
        obtain ⟨gu, cu, rfl, _⟩ := own_shape7 hown4 (by omega)
        have HE : Hid (∀ j u, (([x.item.seq, x.item.cls, x.item.key, x.item.window] ++ x.item.sk.nums).map (Value.int .i64))[j]? = some u → w4.cell? ((⟨gu, 0, none⟩ : Addr).add j) = some u) := own_news hown4
        have HQ4 : Hid (NumSt w #[.int .i64 x.kind, .int .i64 x.agent, .int .i64 x.epoch, .int .i64 x.granted, .slice b k c, .int .i64 x.item.seq, .int .i64 x.item.cls, .int .i64 x.item.key, .int .i64 x.item.window, .int .i64 x.item.sk.count, .int .i64 x.item.sk.sum, .int .i64 x.item.sk.min, .int .i64 x.item.sk.max, .slice a1 n1 c1, .slice a2 n2 c2, .slice a3 n3 c3] 32 u3 (x.numsTo k) w4) := HQ.out.below hb4
        clear hown4 hb4 HQ k0
        go_wp2_with (with_reducible refine stopAppend rfl ?_)
        refine Stop.intro (wpList_append_own _ rfl _ _ 25 rfl (w.heap.size + 1) 3 i0 (.int .i64 0) 1 8 Tryz.underlying25 hi hz0 hz1 hz2 rfl (by decide) _ _ _ rfl HQ4.out.own ⟨gu, 0, none⟩ 32 cu (([x.item.seq, x.item.cls, x.item.key, x.item.window] ++ x.item.sk.nums).map (Value.int .i64)) rfl (by rw [List.length_map, HV.out.2.2]) HE.out (ints_one _) (by unfold maxLen; omega) (by omega) HQ4.out.size ?_)
        intro v5 w5 hown hgrow _
        have HS5 : Hid (NumSt w #[.int .i64 x.kind, .int .i64 x.agent, .int .i64 x.epoch, .int .i64 x.granted, .slice b k c, .int .i64 x.item.seq, .int .i64 x.item.cls, .int .i64 x.item.key, .int .i64 x.item.window, .int .i64 x.item.sk.count, .int .i64 x.item.sk.sum, .int .i64 x.item.sk.min, .int .i64 x.item.sk.max, .slice a1 n1 c1, .slice a2 n2 c2, .slice a3 n3 c3] 32 v5 x.numbers w5) := by
          show NumSt _ _ _ _ _ _
          rw [HV.out.1]
          exact HQ4.out.app HV.out.2.2 hown hgrow
        clear hown hgrow HQ4 HE
        go_wp2
        go_ret
        exact ⟨_, rfl, own_mono7 HS5.out.own (by omega), HS5.out.bel⟩
      · have e1 : (x.kind == 1) = false := by simpa using h1
        have HV : Hid (x.numbers = x.numsTo k) := by
          show _ = _
          unfold Fr.numbers Fr.numsTo
          rw [if_neg h1, List.take_of_length_le (by rw [HP.out.2]; omega), List.append_nil]
        clear h1
        rw [← HV.out] at HQ
        go_wp2
        go_ret
        exact ⟨_, rfl, own_mono7 HQ.out.own (by omega), HQ.out.bel⟩
set_option maxRecDepth 200000 in
set_option maxHeartbeats 8000000 in
theorem frameBytesImpl_any (v : Value) (x : Fr) (F G : List Nat) (w : World) (h : RdFr w v x F G) (hw : x.item.sk.wide) (hl : x.taken.length ≤ 2097152) :
    Calls Tryz.prog 6 #[v] w fun e w' => ∃ u, e = .returned u ∧ w'.ownsRow w.heap.size 5 1 u x.bytes.length (x.bytes.map (Value.int .u8)) ∧ Below w.heap.size w w' := by
  obtain ⟨i0, hi, hz0, hz1, hz2⟩ := info_parts Tryz.info5
  obtain ⟨cs, rfl, hc⟩ : ∃ cs, v = .agg cs ∧ cs.size = 16 := by
    obtain ⟨b, l, c, a1, n1, c1, a2, n2, c2, a3, n3, c3, rfl, _⟩ := h
    exact ⟨_, rfl, rfl⟩
  have HH : Hid (RdFr w (.agg cs) x F G ∧ x.item.sk.wide ∧ x.taken.length ≤ 2097152) := ⟨h, hw, hl⟩
  have HT : Hid (Blk (w.alloc (.cells cs 32)) w.heap.size cs 32 ∧ Below w.heap.size w (w.alloc (.cells cs 32))) := ⟨Blk.made _ _ _, (Below.refl _ _).alloc (Nat.le_refl _) _⟩
  have hsz : (Tryz.prog.info? 32).map (·.size) = some cs.size := by rw [hc]; exact infoFrF7
  clear h hw hl
  go_enter Tryz.func6, Tryz.ntmps6
  go_wp2_with (first | go_skip | (with_reducible refine stopLoad 32 rfl ?_))
  refine load_known 32 w.heap.size cs 32 _ HT.out.1 rfl rfl rfl Tryz.underlying32 rfl hsz ?_
  go_wp2_with fail
  refine (frameOkImpl_any _ x F G _ (HH.out.1.below HT.out.2) HH.out.2.1 HH.out.2.2).mono ?_
  rintro e w1 ⟨rfl, hb1⟩
  have HT1 : Hid (Blk w1 w.heap.size cs 32 ∧ Below w.heap.size w w1) := ⟨HT.out.1.below hb1, Below.next HT.out.2 hb1⟩
  obtain ⟨d, hd⟩ : ∃ d, d = x.ok := ⟨_, rfl⟩
  rw [← hd]
  have HD : Hid (d = x.ok) := hd
  clear hb1 HT hd
  cases d
  · have HV : Hid (x.bytes = []) := by show _ = _; unfold Fr.bytes; rw [← HD.out]; rfl
    go_wp2
    go_ret
    rw [HV.out]
    exact ⟨_, rfl, World.ownsRow_nil _ _ _ _, HT1.out.2⟩
  have HRt : Hid (x.Right) := Fr.ok_right HD.out.symm
  have HV : Hid (x.bytes = x.body ++ sumOf x.body ∧ x.body = [87, 82] ++ putAll x.numbers ∧ (∀ y ∈ x.numbers, InN y)) := ⟨Fr.bytes_ok HD.out.symm, Fr.body_numbers HRt.out, Fr.right_numbers HRt.out⟩
  have hlen := Fr.body_len HRt.out
  have hnl : x.numbers.length ≤ 1000 := Fr.numbers_len HRt.out
  have hnp : 0 < (putAll x.numbers).length := by
    have e : x.numbers = x.kind :: x.numbers.tail := by unfold Fr.numbers; rfl
    have k := HRt.out.kind
    rw [e]
    exact putAll_pos ⟨by omega, by omega⟩
  have kc : (convert 22 22 (.slice (some ⟨w1.heap.size, 0, none⟩) 2 2)).run Tryz.prog (w1.alloc (.cells #[.int .u8 87, .int .u8 82] 5)) = .ok (.slice (some ⟨w1.heap.size, 0, none⟩) 2 2) (w1.alloc (.cells #[.int .u8 87, .int .u8 82] 5 (2, 3))) := Lib.run_convert_bytes_const (P := Tryz.prog) w1 22 5 #[.int .u8 87, .int .u8 82] 2 2 Tryz.underlying22 Tryz.underlying5
  have bW : Below w1.heap.size w1 (w1.alloc (.cells #[.int .u8 87, .int .u8 82] 5 (2, 3))) := (Below.refl _ _).alloc (Nat.le_refl _) _
  have HT2 : Hid (Blk (w1.alloc (.cells #[.int .u8 87, .int .u8 82] 5 (2, 3))) w.heap.size cs 32 ∧ Below w.heap.size w (w1.alloc (.cells #[.int .u8 87, .int .u8 82] 5 (2, 3))) ∧ ∀ j, (w1.alloc (.cells #[.int .u8 87, .int .u8 82] 5 (2, 3))).cell? ⟨w1.heap.size, j, none⟩ = #[Value.int .u8 87, .int .u8 82][j]?) := by
    refine ⟨HT1.out.1.below bW, Below.next HT1.out.2 bW, fun j => ?_⟩
    have hk : (w1.alloc (.cells #[.int .u8 87, .int .u8 82] 5 (2, 3))).heap[w1.heap.size]? = some (.cells #[.int .u8 87, .int .u8 82] 5 (2, 3)) := heap_alloc_new _ _
    simp only [World.cell?, hk]
    rfl
  clear bW
  go_wp2_with (first | go_skip | (with_reducible refine stopLoad 32 rfl ?_))
  obtain ⟨W2, hW2⟩ : ∃ W, W = w1.alloc (.cells #[.int .u8 87, .int .u8 82] 5 (2, 3)) := ⟨_, rfl⟩
  have hs2 : w1.heap.size < W2.heap.size := by rw [hW2]; simp
  rw [← hW2] at HT2 ⊢
  clear kc hW2
  refine load_known 32 w.heap.size cs 32 _ HT2.out.1 rfl rfl rfl Tryz.underlying32 rfl hsz ?_
  go_wp2_with fail
  refine (numbersOfFrame_any _ x F G _ (HH.out.1.below HT2.out.2.1) HRt.out HH.out.2.1).mono ?_
  rintro e w3 ⟨u, rfl, hown, hb3⟩
  obtain ⟨a, cap, X, rfl, hr, _⟩ := rdI_of_own hown
  have HR3 : Hid (RdI w3 a x.numbers.length x.numbers X ∧ Below w.heap.size w w3 ∧ ∀ j, w3.cell? ⟨w1.heap.size, j, none⟩ = #[Value.int .u8 87, .int .u8 82][j]?) := ⟨hr, Below.next HT2.out.2.1 hb3, fun j => by rw [hb3.cell (p := ⟨w1.heap.size, j, none⟩) hs2]; exact HT2.out.2.2 j⟩
  have hs3 : w1.heap.size < w3.heap.size := Nat.lt_of_lt_of_le hs2 hb3.size
  clear hown hb3 hr HT2 hs2
  generalize x.numbers = NN at HV hnl hnp HR3
  go_wp2_with fail
  refine (bytesOfNumbers_any a NN.length cap NN X _ HR3.out.1 HV.out.2.2 (by omega)).mono ?_
  rintro e w4 ⟨u4, rfl, hown4, hb4⟩
  obtain ⟨g4, c4, hv4, _⟩ := own_shape7 hown4 hnp
  have hv4' := hv4.symm
  subst hv4'
  have HE : Hid (∀ j u, ((putAll NN).map (Value.int .u8))[j]? = some u → w4.cell? ((⟨g4, 0, none⟩ : Addr).add j) = some u) := own_news hown4
  have HS4 : Hid (Below w.heap.size w w4 ∧ ∀ b, (some ⟨w1.heap.size, 0, none⟩ : Option Addr) = some b → ∀ j u, [Value.int .u8 87, .int .u8 82][j]? = some u → w4.cell? (b.add j) = some u) := by
    refine ⟨Below.next HR3.out.2.1 hb4, fun b hb j u hj => ?_⟩
    cases hb
    rw [show (⟨w1.heap.size, 0, none⟩ : Addr).add j = ⟨w1.heap.size, j, none⟩ from by cases j <;> simp [Addr.add], hb4.cell (p := ⟨w1.heap.size, j, none⟩) hs3, HR3.out.2.2 j]
    simpa using hj
  have hq : (putAll NN).length ≤ 5000 := by have := putAll_len NN; omega
  clear hown4 hb4 hv4 HR3
  go_wp2_with (with_reducible refine stopAppend rfl ?_)
  refine Stop.intro (wpList_append_grows _ rfl _ _ 22 rfl 5 i0 (.int .u8 0) 1 1 Tryz.underlying22 hi hz0 hz1 hz2 rfl (by decide) (some ⟨w1.heap.size, 0, none⟩) 2 2 [.int .u8 87, .int .u8 82] rfl (by intro h; cases h) rfl HS4.out.2 ⟨g4, 0, none⟩ (putAll NN).length c4 ((putAll NN).map (Value.int .u8)) rfl (by simp) HE.out (u8_one _) (by omega) (by unfold maxLen; omega) (by omega) ?_)
  intro v5 w5 hown5 hgrow5
  have hB5 : w5.ownsRow w.heap.size 5 1 v5 x.body.length (x.body.map (Value.int .u8)) := by
    rw [HV.out.2.1, List.length_append, List.map_append]
    exact own_mono7 hown5 HS4.out.1.size
  have hb5 : Below w.heap.size w w5 := Below.next HS4.out.1 ((Below.refl _ _).grown hgrow5 (Nat.le_refl _) (fun g e => by cases e))
  have HRG : Hid (∀ y ∈ x.body, 0 ≤ y ∧ y ≤ 255) := x.body_range
  have HVB : Hid (x.bytes = x.body ++ sumOf x.body) := HV.out.1
  clear hown5 hgrow5 HV HE HS4 hnp hnl hq
  generalize x.body = B at hB5 hlen HVB HRG
  obtain ⟨a5, cap5, rfl, hr5⟩ := rd_own hB5 HRG.out
  have HB5 : Hid (w5.ownsRow w.heap.size 5 1 (.slice a5 B.length cap5) B.length (B.map (Value.int .u8)) ∧ RdB w5 a5 B.length B ∧ Below w.heap.size w w5) := ⟨hB5, hr5, hb5⟩
  clear hB5 hr5 hb5
  go_wp2_with fail
  refine (crcBytes_any a5 B.length cap5 B _ HB5.out.2.1 (by omega)).mono ?_
  rintro e w6 ⟨rfl, hw6⟩
  have HC6 : Hid (∀ j u, ((sumOf B).map (Value.int .u8))[j]? = some u → w6.cell? ((⟨w5.heap.size, 0, none⟩ : Addr).add j) = some u) := by
    intro j u hj
    rw [show (⟨w5.heap.size, 0, none⟩ : Addr).add j = ⟨w5.heap.size, j, none⟩ from by cases j <;> simp [Addr.add], hw6, (Blk.made w5 _ _).cell j]
    simpa using hj
  have b6 : Below w5.heap.size w5 w6 := by rw [hw6]; exact (Below.refl _ _).alloc (Nat.le_refl _) _
  have HB6 : Hid (w6.ownsRow w.heap.size 5 1 (.slice a5 B.length cap5) B.length (B.map (Value.int .u8)) ∧ Below w.heap.size w w6) := ⟨ownsRow_below HB5.out.1 b6, Below.next HB5.out.2.2 b6⟩
  clear hw6 b6 HB5
  go_wp2_with (with_reducible refine stopAppend rfl ?_)
  refine Stop.intro (wpList_append_own _ rfl _ _ 22 rfl w.heap.size 5 i0 (.int .u8 0) 1 1 Tryz.underlying22 hi hz0 hz1 hz2 rfl (by decide) _ _ _ rfl HB6.out.1 ⟨w5.heap.size, 0, none⟩ 4 4 ((sumOf B).map (Value.int .u8)) rfl (by simp [sumOf_len]) HC6.out (u8_one _) (by unfold maxLen; omega) (by omega) HB6.out.2.size ?_)
  intro v7 w7 hown hgrow _
  have h7 : w7.ownsRow w.heap.size 5 1 v7 x.bytes.length (x.bytes.map (Value.int .u8)) := by
    rw [HVB.out, List.length_append, List.map_append, sumOf_len]
    exact hown
  have HB7 : Hid (w7.ownsRow w.heap.size 5 1 v7 x.bytes.length (x.bytes.map (Value.int .u8)) ∧ Below w.heap.size w w7) := ⟨h7, HB6.out.2.grown hgrow HB6.out.2.size (fun g hg => (HB6.out.1.lt g hg).1)⟩
  clear hown hgrow h7 HB6 HC6
  go_wp2
  go_ret
  exact ⟨_, rfl, HB7.out⟩
end Go.Proofs.YtfbfklgjccbplabGreat
/- The walk through EntrySame. No statement of the seat is proved here. -/
namespace Go.Proofs.YtfbfklgjccbplabGreat
open Go.RowKit
set_option maxRecDepth 200000 in
set_option maxHeartbeats 2000000 in
theorem l5Same_any (a b : Option Addr) (la lb ca cb : Nat) (xs ys : Sp) (F G : List Nat) (w : World) (ha : RdP w a la xs F) (hb : RdP w b lb ys G) (hla : la ≤ 140737488355328) (hlb : lb ≤ 140737488355328) :
    Calls Tryz.prog 34 #[.slice a la ca, .slice b lb cb] w fun e w' => e = .returned (.bool (decide (xs = ys))) ∧ QuietTo w w' := by
  have Hx : Hid (xs.length = la) := ha.length
  have Hy : Hid (ys.length = lb) := hb.length
  by_cases hl : la = lb
  · subst hl
    have hbne : ((la : Int) != (la : Int)) = false := by simp
    have HCA : Hid (la = 0 ∨ ∃ b1 o1, a = some ⟨b1, o1, none⟩ ∧ b1 < w.heap.size ∧ SpCells w b1 o1 la xs) := cells_of ha
    have HCB : Hid (la = 0 ∨ ∃ b1 o1, b = some ⟨b1, o1, none⟩ ∧ b1 < w.heap.size ∧ SpCells w b1 o1 la ys) := cells_of hb
    clear ha hb
    go_enter Tryz.func34, Tryz.ntmps34
    go_wp2
    go_loopw [5] (fun i wr => ∃ k : Nat, k ≤ la ∧ i = .int .i64 k ∧ Hid (xs.take k = ys.take k) ∧ Hid (QuietTo w wr)) (fun i _ => la - (intOf i).toNat)
    case atStart => exact ⟨0, by omega, rfl, rfl, QuietTo.refl _⟩
    case round =>
      obtain ⟨k, hk, rfl, HT, HQ⟩ := hrel
      by_cases hlt : k < la
      · rcases HCA.out with h0 | ⟨b1, o1, rfl, hbw1, hc1⟩
        · omega
        rcases HCB.out with h0 | ⟨b2, o2, rfl, hbw2, hc2⟩
        · omega
        obtain ⟨x, hx⟩ : ∃ x, x = (xs.at k).1 := ⟨_, rfl⟩
        obtain ⟨y, hy⟩ : ∃ x, x = (xs.at k).2 := ⟨_, rfl⟩
        obtain ⟨x', hx'⟩ : ∃ x, x = (ys.at k).1 := ⟨_, rfl⟩
        obtain ⟨y', hy'⟩ : ∃ x, x = (ys.at k).2 := ⟨_, rfl⟩
        have e1 := hc1 k hlt
        have e2 := hc2 k hlt
        rw [← hx, ← hy] at e1
        rw [← hx', ← hy'] at e2
        have d1 : wr.cell? ⟨b1, o1 + k * 2, none⟩ = some (.int .i64 x) := (HQ.out.cell _).trans e1.1
        have d2 : wr.cell? ⟨b1, o1 + k * 2 + 1, none⟩ = some (.int .i64 y) := (HQ.out.cell _).trans e1.2
        have d3 : wr.cell? ⟨b2, o2 + k * 2, none⟩ = some (.int .i64 x') := (HQ.out.cell _).trans e2.1
        have d4 : wr.cell? ⟨b2, o2 + k * 2 + 1, none⟩ = some (.int .i64 y') := (HQ.out.cell _).trans e2.2
        have HE : Hid ((x = x' ∧ y = y') ↔ xs[k]?.getD (0, 0) = ys[k]?.getD (0, 0)) := by rw [hx, hy, hx', hy']; exact Prod.ext_iff.symm
        have hI : (k : Int) < (la : Int) := by omega
        clear e1 e2 hx hy hx' hy' hc1 hc2
        by_cases c : x = x' ∧ y = y'
        · have e1 : (x == x') = true := by simp [c.1]
          have e2 : (y == y') = true := by simp [c.2]
          have HT2 : Hid (xs.take (k + 1) = ys.take (k + 1)) := eqP_step (by rw [Hx.out, Hy.out]) (by rw [Hx.out]; exact hlt) HT.out (HE.out.1 c)
          clear c
          go_wp2
          go_quiet (fail)
          go_wp2
          go_roundw
          case rel => exact ⟨k + 1, by omega, by go_num, HT2, HQ.out.drewN _⟩
          case measure => simp [intOf]; omega
        have HV : Hid (decide (xs = ys) = false) := neP_of_at (fun e => c (HE.out.2 e))
        by_cases c1 : x = x'
        · have e1 : (x == x') = true := by simp [c1]
          have e2 : (y == y') = false := by simpa using (fun e => c ⟨c1, e⟩)
          clear c c1
          go_wp2
          go_quiet (fail)
          go_wp2
          go_ret
          exact ⟨ret_bool HV.out.symm, HQ.out.drewN _⟩
        · have e1 : (x == x') = false := by simpa using c1
          clear c c1
          go_wp2
          go_quiet (fail)
          go_wp2
          go_ret
          exact ⟨ret_bool HV.out.symm, HQ.out.drewN _⟩
      · obtain rfl : k = la := by omega
        go_wp2
        go_ret
        exact ⟨ret_bool (eqP_end Hx.out Hy.out HT.out).symm, HQ.out⟩
  · have hbne : ((la : Int) != (lb : Int)) = true := by simp; omega
    have e : decide (xs = ys) = false := by
      rw [decide_eq_false_iff_not]; intro e; subst e; exact hl (Hx.out.symm.trans Hy.out)
    clear ha hb
    go_enter Tryz.func34, Tryz.ntmps34
    go_wp2
    go_ret
    exact ⟨ret_bool e.symm, QuietTo.refl _⟩
end Go.Proofs.YtfbfklgjccbplabGreat
/- The walks through the model's l7Item and FrameSame. No statement of the seat is proved here. -/
namespace Go.Proofs.YtfbfklgjccbplabGreat
open Go.RowKit
set_option maxRecDepth 200000 in
set_option maxHeartbeats 4000000 in
theorem l7Item_any (v u : Value) (x y : It) (F G : List Nat) (w : World) (h : RdIt w v x F) (k : RdIt w u y G) (hx : x.sk.wide) (hy : y.sk.wide) :
    Calls Tryz.prog 35 #[v, u] w fun e w' => e = .returned (.bool (decide (x = y))) ∧ Below w.heap.size w w' := by
  obtain ⟨a1, n1, nc1, a2, n2, nc2, a3, n3, nc3, rfl, sx⟩ := h
  obtain ⟨b1, m1, mc1, b2, m2, mc2, b3, m3, mc3, rfl, sy⟩ := k
  have HX : Hid (RdSk w (.agg #[.int .i64 x.sk.count, .int .i64 x.sk.sum, .int .i64 x.sk.min, .int .i64 x.sk.max, .slice a1 n1 nc1, .slice a2 n2 nc2, .slice a3 n3 nc3]) x.sk F ∧ RdSk w (.agg #[.int .i64 y.sk.count, .int .i64 y.sk.sum, .int .i64 y.sk.min, .int .i64 y.sk.max, .slice b1 m1 mc1, .slice b2 m2 mc2, .slice b3 m3 mc3]) y.sk G ∧ x.sk.wide ∧ y.sk.wide) := ⟨sx, sy, hx, hy⟩
  have HT : Hid (_ ∧ _ ∧ _) := two_made w #[.int .i64 x.seq, .int .i64 x.cls, .int .i64 x.key, .int .i64 x.window, .int .i64 x.sk.count, .int .i64 x.sk.sum, .int .i64 x.sk.min, .int .i64 x.sk.max, .slice a1 n1 nc1, .slice a2 n2 nc2, .slice a3 n3 nc3] #[.int .i64 y.seq, .int .i64 y.cls, .int .i64 y.key, .int .i64 y.window, .int .i64 y.sk.count, .int .i64 y.sk.sum, .int .i64 y.sk.min, .int .i64 y.sk.max, .slice b1 m1 mc1, .slice b2 m2 mc2, .slice b3 m3 mc3] 30 30
  obtain ⟨d, hd⟩ : ∃ d, d = decide (x = y) := ⟨_, rfl⟩
  rw [← hd]
  have HD : Hid (d = decide (x = y)) := hd
  clear sx sy hx hy hd
  have k0 := HT.out.1.cell 0
  have j0 := HT.out.2.1.cell 0
  have k1 := HT.out.1.cell 1
  have j1 := HT.out.2.1.cell 1
  have k2 := HT.out.1.cell 2
  have j2 := HT.out.2.1.cell 2
  have k3 := HT.out.1.cell 3
  have j3 := HT.out.2.1.cell 3
  simp only [List.getElem?_toArray, List.getElem?_cons_succ, List.getElem?_cons_zero] at k0 j0 k1 j1 k2 j2 k3 j3
  by_cases c1 : x.seq = y.seq
  rotate_left
  · have HV : Hid (d = false) := by show d = _; rw [HD.out]; exact dec_false (fun e => c1 (by rw [e]))
    have z1 : (x.seq == y.seq) = false := by simpa using c1
    clear c1
    go_enter Tryz.func35, Tryz.ntmps35
    go_wp2
    go_ret
    exact ⟨ret_bool HV.out.symm, HT.out.2.2⟩
  have z1 : (x.seq == y.seq) = true := by simpa using c1
  by_cases c2 : x.cls = y.cls
  rotate_left
  · have HV : Hid (d = false) := by show d = _; rw [HD.out]; exact dec_false (fun e => c2 (by rw [e]))
    have z2 : (x.cls == y.cls) = false := by simpa using c2
    clear c1 c2
    go_enter Tryz.func35, Tryz.ntmps35
    go_wp2
    go_ret
    exact ⟨ret_bool HV.out.symm, HT.out.2.2⟩
  have z2 : (x.cls == y.cls) = true := by simpa using c2
  by_cases c3 : x.key = y.key
  rotate_left
  · have HV : Hid (d = false) := by show d = _; rw [HD.out]; exact dec_false (fun e => c3 (by rw [e]))
    have z3 : (x.key == y.key) = false := by simpa using c3
    clear c1 c2 c3
    go_enter Tryz.func35, Tryz.ntmps35
    go_wp2
    go_ret
    exact ⟨ret_bool HV.out.symm, HT.out.2.2⟩
  have z3 : (x.key == y.key) = true := by simpa using c3
  by_cases c4 : x.window = y.window
  rotate_left
  · have HV : Hid (d = false) := by show d = _; rw [HD.out]; exact dec_false (fun e => c4 (by rw [e]))
    have z4 : (x.window == y.window) = false := by simpa using c4
    clear c1 c2 c3 c4
    go_enter Tryz.func35, Tryz.ntmps35
    go_wp2
    go_ret
    exact ⟨ret_bool HV.out.symm, HT.out.2.2⟩
  have z4 : (x.window == y.window) = true := by simpa using c4
  have HC : Hid (x.seq = y.seq ∧ x.cls = y.cls ∧ x.key = y.key ∧ x.window = y.window) := ⟨c1, c2, c3, c4⟩
  clear c1 c2 c3 c4
  go_enter Tryz.func35, Tryz.ntmps35
  go_wp2_with (first | go_skip | (with_reducible refine stopLoad 28 rfl ?_))
  refine load_cutw 28 w.heap.size 4 7 _ #[.int .i64 x.sk.count, .int .i64 x.sk.sum, .int .i64 x.sk.min, .int .i64 x.sk.max, .slice a1 n1 nc1, .slice a2 n2 nc2, .slice a3 n3 nc3] 30 _ HT.out.1 rfl rfl rfl Tryz.underlying28 rfl infoSkI (by simp) rfl ?_
  go_wp2_with (first | go_skip | (with_reducible refine stopLoad 28 rfl ?_))
  refine load_cutw 28 (w.heap.size + 1) 4 7 _ #[.int .i64 y.sk.count, .int .i64 y.sk.sum, .int .i64 y.sk.min, .int .i64 y.sk.max, .slice b1 m1 mc1, .slice b2 m2 mc2, .slice b3 m3 mc3] 30 _ HT.out.2.1 rfl rfl rfl Tryz.underlying28 rfl infoSkI (by simp) rfl ?_
  go_wp2_with fail
  refine (sameSpec_any _ _ x.sk y.sk F G _ (HX.out.1.below HT.out.2.2) (HX.out.2.1.below HT.out.2.2) HX.out.2.2.1 HX.out.2.2.2).mono ?_
  rintro e w2 ⟨rfl, b2⟩
  have HB2 : Hid (Below w.heap.size w w2) := Below.next HT.out.2.2 b2
  clear b2
  obtain ⟨d2, hd2⟩ : ∃ d, d = decide (x.sk = y.sk) := ⟨_, rfl⟩
  rw [← hd2]
  have HV : Hid (d2 = d) := by
    show _ = _
    rw [hd2, HD.out]
    by_cases e : x.sk = y.sk
    · rw [dec_true e, dec_true (It.eq_of HC.out.1 HC.out.2.1 HC.out.2.2.1 HC.out.2.2.2 e)]
    · rw [dec_false e, dec_false (fun q => e (by rw [q]))]
  clear hd2
  go_wp2
  go_ret
  exact ⟨ret_bool HV.out, HB2.out⟩
set_option maxRecDepth 200000 in
set_option maxHeartbeats 4000000 in
theorem frameSameSpec_any (v u : Value) (x y : Fr) (F F' G G' : List Nat) (w : World) (h : RdFr w v x F F') (k : RdFr w u y G G') (hx : x.item.sk.wide) (hy : y.item.sk.wide) (hlx : x.taken.length ≤ 2097152) (hly : y.taken.length ≤ 2097152) :
    Calls Tryz.prog 9 #[v, u] w fun e w' => e = .returned (.bool (decide (x = y))) ∧ Below w.heap.size w w' := by
  obtain ⟨p, l, g, a1, n1, nc1, a2, n2, nc2, a3, n3, nc3, rfl, px, sx, _⟩ := h
  obtain ⟨q, k, j, b1, m1, mc1, b2, m2, mc2, b3, m3, mc3, rfl, py, sy, _⟩ := k
  have HX : Hid (RdIt w (.agg #[.int .i64 x.item.seq, .int .i64 x.item.cls, .int .i64 x.item.key, .int .i64 x.item.window, .int .i64 x.item.sk.count, .int .i64 x.item.sk.sum, .int .i64 x.item.sk.min, .int .i64 x.item.sk.max, .slice a1 n1 nc1, .slice a2 n2 nc2, .slice a3 n3 nc3]) x.item F' ∧ RdIt w (.agg #[.int .i64 y.item.seq, .int .i64 y.item.cls, .int .i64 y.item.key, .int .i64 y.item.window, .int .i64 y.item.sk.count, .int .i64 y.item.sk.sum, .int .i64 y.item.sk.min, .int .i64 y.item.sk.max, .slice b1 m1 mc1, .slice b2 m2 mc2, .slice b3 m3 mc3]) y.item G' ∧ x.item.sk.wide ∧ y.item.sk.wide) := ⟨sx, sy, hx, hy⟩
  have HP : Hid (RdP w p l x.taken F ∧ RdP w q k y.taken G ∧ l ≤ 2097152 ∧ k ≤ 2097152) := ⟨px, py, by rw [← px.length]; exact hlx, by rw [← py.length]; exact hly⟩
  have HT : Hid (_ ∧ _ ∧ _) := two_made w #[.int .i64 x.kind, .int .i64 x.agent, .int .i64 x.epoch, .int .i64 x.granted, .slice p l g, .int .i64 x.item.seq, .int .i64 x.item.cls, .int .i64 x.item.key, .int .i64 x.item.window, .int .i64 x.item.sk.count, .int .i64 x.item.sk.sum, .int .i64 x.item.sk.min, .int .i64 x.item.sk.max, .slice a1 n1 nc1, .slice a2 n2 nc2, .slice a3 n3 nc3] #[.int .i64 y.kind, .int .i64 y.agent, .int .i64 y.epoch, .int .i64 y.granted, .slice q k j, .int .i64 y.item.seq, .int .i64 y.item.cls, .int .i64 y.item.key, .int .i64 y.item.window, .int .i64 y.item.sk.count, .int .i64 y.item.sk.sum, .int .i64 y.item.sk.min, .int .i64 y.item.sk.max, .slice b1 m1 mc1, .slice b2 m2 mc2, .slice b3 m3 mc3] 32 32
  obtain ⟨d, hd⟩ : ∃ d, d = decide (x = y) := ⟨_, rfl⟩
  rw [← hd]
  have HD : Hid (d = decide (x = y)) := hd
  clear px py sx sy hx hy hlx hly hd
  have k0 := HT.out.1.cell 0
  have j0 := HT.out.2.1.cell 0
  have k1 := HT.out.1.cell 1
  have j1 := HT.out.2.1.cell 1
  have k2 := HT.out.1.cell 2
  have j2 := HT.out.2.1.cell 2
  have k3 := HT.out.1.cell 3
  have j3 := HT.out.2.1.cell 3
  have k4 := HT.out.1.cell 4
  have j4 := HT.out.2.1.cell 4
  simp only [List.getElem?_toArray, List.getElem?_cons_succ, List.getElem?_cons_zero] at k0 j0 k1 j1 k2 j2 k3 j3 k4 j4
  by_cases c1 : x.kind = y.kind
  rotate_left
  · have HV : Hid (d = false) := by show d = _; rw [HD.out]; exact dec_false (fun e => c1 (by rw [e]))
    have z1 : (x.kind == y.kind) = false := by simpa using c1
    clear c1
    go_enter Tryz.func9, Tryz.ntmps9
    go_wp2
    go_ret
    exact ⟨ret_bool HV.out.symm, HT.out.2.2⟩
  have z1 : (x.kind == y.kind) = true := by simpa using c1
  by_cases c2 : x.agent = y.agent
  rotate_left
  · have HV : Hid (d = false) := by show d = _; rw [HD.out]; exact dec_false (fun e => c2 (by rw [e]))
    have z2 : (x.agent == y.agent) = false := by simpa using c2
    clear c1 c2
    go_enter Tryz.func9, Tryz.ntmps9
    go_wp2
    go_ret
    exact ⟨ret_bool HV.out.symm, HT.out.2.2⟩
  have z2 : (x.agent == y.agent) = true := by simpa using c2
  by_cases c3 : x.epoch = y.epoch
  rotate_left
  · have HV : Hid (d = false) := by show d = _; rw [HD.out]; exact dec_false (fun e => c3 (by rw [e]))
    have z3 : (x.epoch == y.epoch) = false := by simpa using c3
    clear c1 c2 c3
    go_enter Tryz.func9, Tryz.ntmps9
    go_wp2
    go_ret
    exact ⟨ret_bool HV.out.symm, HT.out.2.2⟩
  have z3 : (x.epoch == y.epoch) = true := by simpa using c3
  by_cases c4 : x.granted = y.granted
  rotate_left
  · have HV : Hid (d = false) := by show d = _; rw [HD.out]; exact dec_false (fun e => c4 (by rw [e]))
    have z4 : (x.granted == y.granted) = false := by simpa using c4
    clear c1 c2 c3 c4
    go_enter Tryz.func9, Tryz.ntmps9
    go_wp2
    go_ret
    exact ⟨ret_bool HV.out.symm, HT.out.2.2⟩
  have z4 : (x.granted == y.granted) = true := by simpa using c4
  have HC : Hid (x.kind = y.kind ∧ x.agent = y.agent ∧ x.epoch = y.epoch ∧ x.granted = y.granted) := ⟨c1, c2, c3, c4⟩
  clear c1 c2 c3 c4
  go_enter Tryz.func9, Tryz.ntmps9
  go_wp2_with fail
  refine (l5Same_any p q l k g j x.taken y.taken F G _ (HP.out.1.below HT.out.2.2) (HP.out.2.1.below HT.out.2.2) (by have := HP.out.2.2; omega) (by have := HP.out.2.2; omega)).mono ?_
  rintro e w1 ⟨rfl, hq⟩
  have HB1 : Hid (Blk w1 w.heap.size #[.int .i64 x.kind, .int .i64 x.agent, .int .i64 x.epoch, .int .i64 x.granted, .slice p l g, .int .i64 x.item.seq, .int .i64 x.item.cls, .int .i64 x.item.key, .int .i64 x.item.window, .int .i64 x.item.sk.count, .int .i64 x.item.sk.sum, .int .i64 x.item.sk.min, .int .i64 x.item.sk.max, .slice a1 n1 nc1, .slice a2 n2 nc2, .slice a3 n3 nc3] 32 ∧ Blk w1 (w.heap.size + 1) #[.int .i64 y.kind, .int .i64 y.agent, .int .i64 y.epoch, .int .i64 y.granted, .slice q k j, .int .i64 y.item.seq, .int .i64 y.item.cls, .int .i64 y.item.key, .int .i64 y.item.window, .int .i64 y.item.sk.count, .int .i64 y.item.sk.sum, .int .i64 y.item.sk.min, .int .i64 y.item.sk.max, .slice b1 m1 mc1, .slice b2 m2 mc2, .slice b3 m3 mc3] 32 ∧ Below w.heap.size w w1) := ⟨HT.out.1.below (quiet_below hq), HT.out.2.1.below (quiet_below hq), Below.next HT.out.2.2 (quiet_below hq)⟩
  clear hq HT k0 k1 k2 k3 k4 j0 j1 j2 j3 j4 z1 z2 z3 z4
  by_cases c5 : x.taken = y.taken
  rotate_left
  · rw [dec_false c5]
    have HV : Hid (d = false) := by show d = _; rw [HD.out]; exact dec_false (fun e => c5 (by rw [e]))
    clear c5
    go_wp2
    go_ret
    exact ⟨ret_bool HV.out.symm, HB1.out.2.2⟩
  rw [dec_true c5]
  have HC5 : Hid (x.taken = y.taken) := c5
  clear c5
  go_wp2_with (first | go_skip | (with_reducible refine stopLoad 30 rfl ?_))
  refine load_cutw 30 w.heap.size 5 11 _ #[.int .i64 x.item.seq, .int .i64 x.item.cls, .int .i64 x.item.key, .int .i64 x.item.window, .int .i64 x.item.sk.count, .int .i64 x.item.sk.sum, .int .i64 x.item.sk.min, .int .i64 x.item.sk.max, .slice a1 n1 nc1, .slice a2 n2 nc2, .slice a3 n3 nc3] 32 _ HB1.out.1 rfl rfl rfl Tryz.underlying30 rfl infoItA7 (by simp) rfl ?_
  go_wp2_with (first | go_skip | (with_reducible refine stopLoad 30 rfl ?_))
  refine load_cutw 30 (w.heap.size + 1) 5 11 _ #[.int .i64 y.item.seq, .int .i64 y.item.cls, .int .i64 y.item.key, .int .i64 y.item.window, .int .i64 y.item.sk.count, .int .i64 y.item.sk.sum, .int .i64 y.item.sk.min, .int .i64 y.item.sk.max, .slice b1 m1 mc1, .slice b2 m2 mc2, .slice b3 m3 mc3] 32 _ HB1.out.2.1 rfl rfl rfl Tryz.underlying30 rfl infoItA7 (by simp) rfl ?_
  go_wp2_with fail
  refine (l7Item_any _ _ x.item y.item F' G' _ (HX.out.1.below HB1.out.2.2) (HX.out.2.1.below HB1.out.2.2) HX.out.2.2.1 HX.out.2.2.2).mono ?_
  rintro e w2 ⟨rfl, b2⟩
  have HB2 : Hid (Below w.heap.size w w2) := Below.next HB1.out.2.2 b2
  clear b2
  obtain ⟨d2, hd2⟩ : ∃ d, d = decide (x.item = y.item) := ⟨_, rfl⟩
  rw [← hd2]
  have HV : Hid (d2 = d) := by
    show _ = _
    rw [hd2, HD.out]
    by_cases e : x.item = y.item
    · rw [dec_true e, dec_true (Fr.eq_of HC.out.1 HC.out.2.1 HC.out.2.2.1 HC.out.2.2.2 HC5.out e)]
    · rw [dec_false e, dec_false (fun q => e (by rw [q]))]
  clear hd2
  go_wp2
  go_ret
  exact ⟨ret_bool HV.out, HB2.out⟩
end Go.Proofs.YtfbfklgjccbplabGreat
