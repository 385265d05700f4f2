/- The walks through the helpers of the laws that mark slices of numbers (and slices of such) and look whether the marks still stand. No statement of the seat is proved here. -/
import Derived.Test.YtjnamoppcklomaaGreatIntRows
import Derived.Test.YtjnamoppcklomaaGreatMarkMath
import Derived.Test.YtjnamoppcklomaaGreatBlocks
namespace Go.Proofs.YtjnamoppcklomaaGreat
open Go.RowKit

set_option maxRecDepth 200000 in
set_option maxHeartbeats 400000 in
theorem markIntS_any (B : Nat) (a : Option Addr) (len cap : Nat) (zs : List Int) (F : List Nat) (k : Int) (w : World) (h : RdI w a len zs F) (ho : Own B w F) (hk0 : 0 ≤ k) (hk1 : k + len ≤ 1000000000000) :
    Calls Tryz.prog 51 #[.slice a len cap, .int .i64 k] w fun e w' => e = .returned (.int .i64 (k + len)) ∧ MarkedI B w a len k F w' := by
  have HL : Hid (zs.length = len) := h.length
  rcases h.cells with ⟨h0, hF⟩ | ⟨b, off, hp, rfl, hF, hc⟩
  · subst h0 hF
    clear h
    go_enter Tryz.func51, Tryz.ntmps51
    go_wp2
    refine wp_loop_rounds 1 ?_
    rw [rounds_succ]
    go_wp2
    go_ret
    exact ⟨ret_int (by simp), ⟨⟨rfl, .inl ⟨rfl, rfl⟩⟩, ho, Only.refl _ _⟩⟩
  · subst hF
    have HM : Hid (MarkingI B w (some ⟨b, off, none⟩) len k zs 0 [b] w) := ⟨by simpa [markedI, marksI] using h, ho, Only.refl _ _⟩
    clear h ho hc
    go_enter Tryz.func51, Tryz.ntmps51
    go_wp2
    go_loopw [1, 5] (fun q i wr => ∃ j : Nat, j ≤ len ∧ i = .int .i64 j ∧ q = .int .i64 (k + j) ∧ Hid (MarkingI B w (some ⟨b, off, none⟩) len k zs j [b] wr)) (fun _ i _ => len - (intOf i).toNat)
    case atStart => exact ⟨0, by omega, rfl, by go_num, HM⟩
    case round =>
      obtain ⟨j, hj, rfl, rfl, HMj⟩ := hrel
      by_cases hlt : j < len
      · have hcell : ∃ v, wr.cell? ⟨b, off + j, none⟩ = some v := by
          rcases HMj.out.rd.cells with ⟨h0, _⟩ | ⟨b', off', _, he, _, hc⟩
          · omega
          · obtain ⟨rfl, rfl⟩ : b = b' ∧ off = off' := by simpa using he
            exact ⟨_, hc j hlt⟩
        obtain ⟨v0, hcg⟩ := hcell
        have hcf := HMj.out.own.free b (by simp) (off + j)
        have R : Hid (MarkingI B w (some ⟨b, off, none⟩) len k zs (j + 1) [b] (wr.setCell ⟨b, off + j, none⟩ (.int .i64 (k + j)))) := HMj.out.step HL.out hlt
        clear HMj
        go_wp2
        go_roundw
        case rel => exact ⟨j + 1, by omega, by go_num, by go_num, R⟩
        case measure => simp [intOf]; omega
      · obtain rfl : j = len := by omega
        go_wp2
        go_ret
        exact ⟨rfl, by have := HMj.out.rd; rw [markedI_end k j zs HL.out] at this; exact this, HMj.out.own, HMj.out.only⟩
set_option maxRecDepth 200000 in
set_option maxHeartbeats 400000 in
theorem heldIntS_any (a : Option Addr) (len cap : Nat) (F : List Nat) (k : Int) (w : World) (h : RdI w a len (marksI k len) F) (hk0 : 0 ≤ k) (hk1 : k + len ≤ 1000000000000) :
    Calls Tryz.prog 54 #[.slice a len cap, .int .i64 k] w fun e w' => e = .returned (.int .i64 (k + len)) ∧ Below w.heap.size w w' := by
  rcases h.cells with ⟨h0, hF⟩ | ⟨b, off, hp, rfl, hF, hc⟩
  · subst h0
    clear h
    go_enter Tryz.func54, Tryz.ntmps54
    go_wp2
    refine wp_loop_rounds 1 ?_
    rw [rounds_succ]
    go_wp2
    go_ret
    exact ⟨ret_int (by simp), Below.refl _ _⟩
  · have HC : Hid (∀ i, i < len → w.cell? ⟨b, off + i, none⟩ = some (.int .i64 (k + i))) := fun i hi => by rw [hc i hi, marksI_getD k len i hi]
    clear h hc
    go_enter Tryz.func54, Tryz.ntmps54
    go_wp2
    go_loopw [1, 5] (fun q i wr => ∃ j : Nat, j ≤ len ∧ i = .int .i64 j ∧ q = .int .i64 (k + j) ∧ Below w.heap.size w wr) (fun _ i _ => len - (intOf i).toNat)
    case atStart => exact ⟨0, by omega, rfl, by go_num, Below.refl _ _⟩
    case round =>
      obtain ⟨j, hj, rfl, rfl, hbel⟩ := hrel
      by_cases hlt : j < len
      · have hcj := HC.out j hlt
        have hcw : wr.cell? ⟨b, off + j, none⟩ = some (.int .i64 (k + j)) := (hbel.cell (World.block_lt_of_cell? _ _ hcj)).trans hcj
        have hne : ((k + (j : Int)) != (k + (j : Int))) = false := by simp
        clear hcj
        go_wp2
        try go_region
        all_goals (try go_wp2)
        all_goals
          go_roundw
          case rel => exact ⟨j + 1, by omega, by go_num, by go_num, by repeat (first | exact hbel | apply Below.drew)⟩
          case measure => simp [intOf]; omega
      · obtain rfl : j = len := by omega
        go_wp2
        go_ret
        exact ⟨rfl, hbel⟩
/-! ### rows of rows -/
theorem rdM_append {w : World} : ∀ {cs ds : List Cl} {b off : Nat} {F : List Nat}, RdM w (cs ++ ds) b off F ↔ ∃ F1 F2, RdM w cs b off F1 ∧ RdM w ds b (off + cs.length) F2 ∧ F = F1 ++ F2
  | [], ds, b, off, F => by
    constructor
    · intro h; exact ⟨[], F, by simp [RdM], by simpa using h, rfl⟩
    · rintro ⟨F1, F2, h1, h2, rfl⟩; rw [RdM] at h1; subst h1; simpa using h2
  | c :: cs, ds, b, off, F => by
    rw [List.cons_append, RdM]
    constructor
    · rintro ⟨v, F1, F2, hc, h1, h2, rfl⟩
      obtain ⟨G1, G2, k1, k2, rfl⟩ := rdM_append.1 h2
      refine ⟨F1 ++ G1, G2, ?_, ?_, by simp⟩
      · rw [RdM]; exact ⟨v, F1, G1, hc, h1, k1, rfl⟩
      · rw [List.length_cons, show off + (cs.length + 1) = off + 1 + cs.length by omega]; exact k2
    · rintro ⟨F1, F2, h1, h2, rfl⟩
      rw [RdM] at h1
      obtain ⟨v, G1, G2, hc, k1, k2, rfl⟩ := h1
      refine ⟨v, G1, G2 ++ F2, hc, k1, rdM_append.2 ⟨G2, F2, k2, ?_, rfl⟩, by simp⟩
      rw [List.length_cons, show off + (cs.length + 1) = off + 1 + cs.length by omega] at h2; exact h2
def marksII : Int → List (List Int) → List (List Int)
  | _, [] => []
  | k, z :: zs => marksI k z.length :: marksII (k + z.length) zs
theorem marksII_length (k : Int) (zs : List (List Int)) : (marksII k zs).length = zs.length := by
  induction zs generalizing k with
  | nil => rfl
  | cons z zs ih => simp [marksII, ih]
theorem marksII_append (k : Int) (xs ys : List (List Int)) : marksII k (xs ++ ys) = marksII k xs ++ marksII (k + sumLen xs) ys := by
  induction xs generalizing k with
  | nil => simp [marksII, sumLen]
  | cons x xs ih =>
    rw [List.cons_append, marksII, marksII, ih]
    simp [sumLen, Int.add_assoc]
theorem marksII_snoc (k : Int) (zs : List (List Int)) (j : Nat) (h : j < zs.length) : marksII k (zs.take (j + 1)) = marksII k (zs.take j) ++ [marksI (k + sumLen (zs.take j)) (zs.getD j []).length] := by
  rw [take_snoc zs [] j h, marksII_append]; rfl
theorem marksII_getD (k : Int) (zs : List (List Int)) (j : Nat) (h : j < zs.length) : (marksII k zs).getD j [] = marksI (k + sumLen (zs.take j)) (zs.getD j []).length := by
  have e : zs = zs.take j ++ (zs.getD j [] :: zs.drop (j + 1)) := by
    rw [List.getD_eq_getElem?_getD, List.getElem?_eq_getElem h]; simp
  conv => lhs; rw [e, marksII_append]
  rw [List.getD_eq_getElem?_getD, List.getElem?_append_right (by rw [marksII_length]; simp; omega), marksII_length, marksII]
  have : j - (zs.take j).length = 0 := by simp; omega
  rw [this]; simp
structure MarkedII (B : Nat) (w : World) (a : Option Addr) (len : Nat) (k : Int) (zss : List (List Int)) (F : List Nat) (w' : World) : Prop where
  rd : RdII w' a len (marksII k zss) F
  own : Own B w' F
  only : Only F w w'
structure MarkingII (B : Nat) (w : World) (b off : Nat) (k : Int) (zss : List (List Int)) (j : Nat) (F : List Nat) (w' : World) : Prop where
  rd : RdM w' ((marksII k (zss.take j) ++ zss.drop j).map ints) b off F
  own : Own B w' (b :: F)
  only : Only (b :: F) w w'
  lt : b < w'.heap.size
theorem MarkingII.row {B : Nat} {w wr : World} {b off : Nat} {k : Int} {zss : List (List Int)} {j : Nat} {F : List Nat} (h : MarkingII B w b off k zss j F wr) (hj : j < zss.length) :
    ∃ a n cap G, wr.cell? ⟨b, off + j, none⟩ = some (.slice a n cap) ∧ n = (zss.getD j []).length ∧ RdI wr a n (zss.getD j []) G ∧ Own B wr G ∧
      ∀ w2, MarkedI B wr a n (k + sumLen (zss.take j)) G w2 → MarkingII B w b off k zss (j + 1) F w2 := by
  have hd : zss.drop j = zss.getD j [] :: zss.drop (j + 1) := by
    rw [List.getD_eq_getElem?_getD, List.getElem?_eq_getElem hj]; simp
  have rd := h.rd
  rw [hd, List.map_append, List.map_cons] at rd
  obtain ⟨F1, F2, m1, m2, rfl⟩ := rdM_append.1 rd
  rw [RdM] at m2
  obtain ⟨v, G, F3, hc, hv, m3, rfl⟩ := m2
  obtain ⟨a, n, cap, rfl, hr⟩ := rd_ints.1 hv
  have hlen : (List.map ints (marksII k (zss.take j))).length = j := by simp [marksII_length]; omega
  rw [hlen] at hc m3
  have hb : b ∉ F1 ++ (G ++ F3) := (List.nodup_cons.1 h.own.nodup).1
  have nd := (List.nodup_cons.1 h.own.nodup).2
  have nd1 := List.nodup_append.1 nd
  have nd2 := List.nodup_append.1 nd1.2.1
  have hoG : Own B wr G := ⟨nd2.1, fun x hx => h.own.free x (by simp [hx]), fun x hx => h.own.ge x (by simp [hx])⟩
  refine ⟨a, n, cap, G, hc, hr.length.symm, hr, hoG, fun w2 hm => ?_⟩
  have lt1 := m1.lt
  have lt3 := m3.lt
  have ag1 : Agree wr w2 F1 := hm.only.agree lt1 (fun x hx hg => nd1.2.2 x hx x (by simp [hg]) rfl)
  have ag3 : Agree wr w2 F3 := hm.only.agree lt3 (fun x hx hg => nd2.2.2 x hg x hx rfl)
  have agb : w2.heap[b]? = wr.heap[b]? := hm.only.block b h.lt (fun hx => hb (by simp [hx]))
  refine ⟨?_, ⟨h.own.nodup, fun x hx o => ?_, h.own.ge⟩, h.only.trans (hm.only.mono (fun x hx => by simp [hx])), Nat.lt_of_lt_of_le h.lt hm.only.size⟩
  · rw [marksII_snoc k zss j hj, List.append_assoc, List.map_append, List.singleton_append, List.map_cons]
    refine rdM_append.2 ⟨F1, G ++ F3, m1.agree agb ag1, ?_, rfl⟩
    rw [RdM, hlen]
    refine ⟨.slice a n cap, G, F3, (World.cell?_of_block (w := wr) (a := ⟨b, off + j, none⟩) agb).trans hc, ?_, m3.agree agb ag3, rfl⟩
    rw [← hr.length] at hm
    refine rd_ints.2 ⟨a, n, cap, rfl, ?_⟩
    have := hm.rd
    rwa [hr.length] at this ⊢
  · rcases List.mem_cons.1 hx with rfl | hx
    · exact (World.frozen?_of_block (w := wr) (a := ⟨x, o, none⟩) agb).trans (h.own.free x (by simp) o)
    · rcases List.mem_append.1 hx with hx | hx
      · exact (World.frozen?_of_block (w := wr) (a := ⟨x, o, none⟩) (ag1 x hx)).trans (h.own.free x (by simp [hx]) o)
      · rcases List.mem_append.1 hx with hx | hx
        · exact hm.own.free x hx o
        · exact (World.frozen?_of_block (w := wr) (a := ⟨x, o, none⟩) (ag3 x hx)).trans (h.own.free x (by simp [hx]) o)
set_option maxRecDepth 200000 in
set_option maxHeartbeats 1000000 in
theorem markIntSS_any (B : Nat) (a : Option Addr) (len cap : Nat) (zss : List (List Int)) (F : List Nat) (k : Int) (w : World) (h : RdII w a len zss F) (ho : Own B w F) (hk0 : 0 ≤ k) (hk1 : k + sumLen zss ≤ 1000000000000) (hlen : len ≤ 140737488355328) :
    Calls Tryz.prog 52 #[.slice a len cap, .int .i64 k] w fun e w' => e = .returned (.int .i64 (k + sumLen zss)) ∧ MarkedII B w a len k zss F w' := by
  have HL : Hid (zss.length = len) := h.length
  have HK1 : Hid (k + sumLen zss ≤ 1000000000000) := hk1
  clear hk1
  rcases h.cells with ⟨h0, hF⟩ | ⟨b, off, F', hp, rfl, hF, hm⟩
  · subst h0 hF
    have hz : zss = [] := List.eq_nil_of_length_eq_zero h.length
    subst hz
    clear h
    go_enter Tryz.func52, Tryz.ntmps52
    go_wp2
    refine wp_loop_rounds 1 ?_
    rw [rounds_succ]
    go_wp2
    go_ret
    exact ⟨ret_int (by simp [sumLen]), ⟨⟨rfl, .inl ⟨rfl, rfl⟩⟩, ho, Only.refl _ _⟩⟩
  · subst hF
    have HM : Hid (MarkingII B w b off k zss 0 F' w) := ⟨by simpa [marksII] using hm, ho, Only.refl _ _, h.lt b (by simp)⟩
    clear h ho hm
    go_enter Tryz.func52, Tryz.ntmps52
    go_wp2
    go_loopw [1, 5] (fun q i wr => ∃ (j : Nat) (y : Int), j ≤ len ∧ 0 ≤ y ∧ y ≤ 1000000000000 ∧ i = .int .i64 j ∧ q = .int .i64 y ∧ Hid (y = k + sumLen (zss.take j)) ∧ Hid (MarkingII B w b off k zss j F' wr)) (fun _ i _ => len - (intOf i).toNat)
    case atStart => exact ⟨0, k, by omega, hk0, by have := HK1.out; have := sumLen_nonneg zss; omega, rfl, rfl, show k = _ by simp [sumLen], HM⟩
    case round =>
      obtain ⟨j, y, hj, hy0, hy1, rfl, rfl, HY, HMj⟩ := hrel
      by_cases hlt : j < len
      · obtain ⟨a1, n1, c1, G, hc1, hn1, hr1, ho1, hstep⟩ := HMj.out.row (by rw [HL.out]; exact hlt)
        have hsn := sumLen_snoc zss j (by rw [HL.out]; exact hlt)
        have hle := sumLen_le zss (j + 1)
        have HS : Hid (y + n1 = k + sumLen (zss.take (j + 1)) ∧ y + n1 ≤ 1000000000000) := by
          have h1 := HY.out; have h2 := HK1.out
          exact ⟨by omega, by omega⟩
        have HR : Hid (RdI wr a1 n1 (zss.getD j []) G ∧ Own B wr G) := ⟨hr1, ho1⟩
        have HSt : Hid (∀ w2, MarkedI B wr a1 n1 y G w2 → MarkingII B w b off k zss (j + 1) F' w2) := by rw [HY.out]; exact hstep
        clear hsn hle hr1 ho1 hstep hn1
        go_wp2_with fail
        refine (markIntS_any B a1 n1 c1 (zss.getD j []) G y _ HR.out.1 HR.out.2 hy0 HS.out.2).mono ?_
        rintro e w2 ⟨rfl, hm2⟩
        have HM2 : Hid (MarkingII B w b off k zss (j + 1) F' w2) := HSt.out w2 hm2
        clear hm2 HSt HR HMj hc1
        go_wp2
        go_roundw
        case rel => exact ⟨j + 1, y + n1, by omega, by omega, HS.out.2, by go_num, rfl, HS.out.1, HM2⟩
        case measure => simp [intOf]; omega
      · obtain rfl : j = len := by omega
        have hy := HY.out
        have hm2 := HMj.out
        have hrd := hm2.rd
        rw [List.take_of_length_le (Nat.le_of_eq HL.out)] at hy
        rw [List.take_of_length_le (Nat.le_of_eq HL.out), List.drop_of_length_le (Nat.le_of_eq HL.out), List.append_nil] at hrd
        have HE : Hid (y = k + sumLen zss ∧ RdM wr ((marksII k zss).map ints) b off F') := ⟨hy, hrd⟩
        clear hy hm2 hrd
        go_wp2
        go_ret
        exact ⟨ret_int HE.out.1, ⟨⟨by rw [marksII_length]; exact HL.out, .inr ⟨b, off, F', hp, rfl, rfl, HE.out.2⟩⟩, HMj.out.own, HMj.out.only⟩⟩
set_option maxRecDepth 200000 in
set_option maxHeartbeats 1000000 in
theorem heldIntSS_any (a : Option Addr) (len cap : Nat) (zss : List (List Int)) (F : List Nat) (k : Int) (w : World) (h : RdII w a len (marksII k zss) F) (hk0 : 0 ≤ k) (hk1 : k + sumLen zss ≤ 1000000000000) (hlen : len ≤ 140737488355328) :
    Calls Tryz.prog 55 #[.slice a len cap, .int .i64 k] w fun e w' => e = .returned (.int .i64 (k + sumLen zss)) ∧ Below w.heap.size w w' := by
  have HL : Hid (zss.length = len) := by have := h.length; rw [marksII_length] at this; exact this
  have HK1 : Hid (k + sumLen zss ≤ 1000000000000) := hk1
  clear hk1
  rcases h.cells with ⟨h0, hF⟩ | ⟨b, off, F', hp, rfl, hF, hm⟩
  · subst h0
    have hz : zss = [] := List.eq_nil_of_length_eq_zero HL.out
    subst hz
    clear h
    go_enter Tryz.func55, Tryz.ntmps55
    go_wp2
    refine wp_loop_rounds 1 ?_
    rw [rounds_succ]
    go_wp2
    go_ret
    exact ⟨ret_int (by simp [sumLen]), Below.refl _ _⟩
  · have HM : Hid (RdM w ((marksII k zss).map ints) b off F') := hm
    clear h hm
    go_enter Tryz.func55, Tryz.ntmps55
    go_wp2
    go_loopw [1, 5] (fun q i wr => ∃ (j : Nat) (y : Int), j ≤ len ∧ 0 ≤ y ∧ y ≤ 1000000000000 ∧ i = .int .i64 j ∧ q = .int .i64 y ∧ Hid (y = k + sumLen (zss.take j)) ∧ Below w.heap.size w wr) (fun _ i _ => len - (intOf i).toNat)
    case atStart => exact ⟨0, k, by omega, hk0, by have := HK1.out; have := sumLen_nonneg zss; omega, rfl, rfl, show k = _ by simp [sumLen], Below.refl _ _⟩
    case round =>
      obtain ⟨j, y, hj, hy0, hy1, rfl, rfl, HY, hbel⟩ := hrel
      by_cases hlt : j < len
      · obtain ⟨a1, n1, c1, G, hc1, hr1, _⟩ := RdII.row HM.out (by rw [marksII_length]; exact HL.out) j hlt
        rw [marksII_getD k zss j (by rw [HL.out]; exact hlt)] at hr1
        have hn1 : (zss.getD j []).length = n1 := by have := hr1.length; rw [marksI_length] at this; exact this
        rw [hn1, ← HY.out] at hr1
        have hblt : b < w.heap.size := World.block_lt_of_cell? _ _ hc1
        have hcw : wr.cell? ⟨b, off + j, none⟩ = some (.slice a1 n1 c1) := (hbel.cell (by exact hblt)).trans hc1
        have hsn := sumLen_snoc zss j (by rw [HL.out]; exact hlt)
        have hle := sumLen_le zss (j + 1)
        have HS : Hid (y + n1 = k + sumLen (zss.take (j + 1)) ∧ y + n1 ≤ 1000000000000) := by
          have h1 := HY.out; have h2 := HK1.out
          exact ⟨by omega, by omega⟩
        have HR : Hid (RdI wr a1 n1 (marksI y n1) G) := hr1.below hbel
        clear hsn hle hr1 hn1 hc1
        go_wp2_with fail
        refine (heldIntS_any a1 n1 c1 G y _ HR.out hy0 HS.out.2).mono ?_
        rintro e w2 ⟨rfl, hb2⟩
        have HB2 : Below w.heap.size w w2 := hbel.trans (hb2.mono hbel.size)
        have hnn : 0 ≤ y + (n1 : Int) := by omega
        clear hb2 hbel HR hcw
        go_wp2
        go_roundw
        case rel => exact ⟨j + 1, y + n1, by omega, hnn, HS.out.2, by go_num, rfl, HS.out.1, HB2⟩
        case measure => simp [intOf]; omega
      · obtain rfl : j = len := by omega
        have hy := HY.out
        rw [List.take_of_length_le (Nat.le_of_eq HL.out)] at hy
        have HE : Hid (y = k + sumLen zss) := hy
        clear hy
        go_wp2
        go_ret
        exact ⟨ret_int HE.out, hbel⟩
end Go.Proofs.YtjnamoppcklomaaGreat
