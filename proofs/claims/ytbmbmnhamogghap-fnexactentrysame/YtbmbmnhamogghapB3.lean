/- Several texts of mine, laid together. No statement of the seat is proved here. -/
import Derived.Test.YtbmbmnhamogghapB1
import Derived.Test.YtbmbmnhamogghapB2
import Derived.Deep.WholeRow
import Derived.Laws.CopyOwn
import Derived.Laws.ResultCell
import Derived.OrdersHeld
import Derived.RegionTactic
/- The walks through the helpers of the laws that mark slices of numbers (and slices of such) and look whether the marks still stand. No statement of the seat is proved here. -/
namespace Go.Proofs.Ytbmbmnhamogghap
open Go.RowKit

set_option maxRecDepth 200000 in
set_option maxHeartbeats 400000 in
theorem markIntS_any (B : Nat) (a : Option Addr) (len cap : Nat) (zs : List Int) (F : List Nat) (k : Int) (w : World) (h : RdI w a len zs F) (ho : Own B w F) (hk0 : 0 ≤ k) (hk1 : k + len ≤ 1000000000000) :
    Calls Try.prog 85 #[.slice a len cap, .int .i64 k] w fun e w' => e = .returned (.int .i64 (k + len)) ∧ MarkedI B w a len k F w' := by
  have HL : Hid (zs.length = len) := h.length
  rcases h.cells with ⟨h0, hF⟩ | ⟨b, off, hp, rfl, hF, hc⟩
  · subst h0 hF
    clear h
    go_enter Try.func85, Try.ntmps85
    go_wp2
    refine wp_loop_rounds 1 ?_
    rw [rounds_succ]
    go_wp2
    go_ret
    exact ⟨ret_int (by simp), ⟨⟨rfl, .inl ⟨rfl, rfl⟩⟩, ho, Only.refl _ _⟩⟩
  · subst hF
    have HM : Hid (MarkingI B w (some ⟨b, off, none⟩) len k zs 0 [b] w) := ⟨by simpa [markedI, marksI] using h, ho, Only.refl _ _⟩
    clear h ho hc
    go_enter Try.func85, Try.ntmps85
    go_wp2
    go_loopw [1, 5] (fun q i wr => ∃ j : Nat, j ≤ len ∧ i = .int .i64 j ∧ q = .int .i64 (k + j) ∧ Hid (MarkingI B w (some ⟨b, off, none⟩) len k zs j [b] wr)) (fun _ i _ => len - (intOf i).toNat)
    case atStart => exact ⟨0, by omega, rfl, by go_num, HM⟩
    case round =>
      obtain ⟨j, hj, rfl, rfl, HMj⟩ := hrel
      by_cases hlt : j < len
      · have hcell : ∃ v, wr.cell? ⟨b, off + j, none⟩ = some v := by
          rcases HMj.out.rd.cells with ⟨h0, _⟩ | ⟨b', off', _, he, _, hc⟩
          · omega
          · obtain ⟨rfl, rfl⟩ : b = b' ∧ off = off' := by simpa using he
            exact ⟨_, hc j hlt⟩
        obtain ⟨v0, hcg⟩ := hcell
        have hcf := HMj.out.own.free b (by simp) (off + j)
        have R : Hid (MarkingI B w (some ⟨b, off, none⟩) len k zs (j + 1) [b] (wr.setCell ⟨b, off + j, none⟩ (.int .i64 (k + j)))) := HMj.out.step HL.out hlt
        clear HMj
        go_wp2
        go_roundw
        case rel => exact ⟨j + 1, by omega, by go_num, by go_num, R⟩
        case measure => simp [intOf]; omega
      · obtain rfl : j = len := by omega
        go_wp2
        go_ret
        exact ⟨rfl, by have := HMj.out.rd; rw [markedI_end k j zs HL.out] at this; exact this, HMj.out.own, HMj.out.only⟩
set_option maxRecDepth 200000 in
set_option maxHeartbeats 400000 in
theorem heldIntS_any (a : Option Addr) (len cap : Nat) (F : List Nat) (k : Int) (w : World) (h : RdI w a len (marksI k len) F) (hk0 : 0 ≤ k) (hk1 : k + len ≤ 1000000000000) :
    Calls Try.prog 87 #[.slice a len cap, .int .i64 k] w fun e w' => e = .returned (.int .i64 (k + len)) ∧ Below w.heap.size w w' := by
  rcases h.cells with ⟨h0, hF⟩ | ⟨b, off, hp, rfl, hF, hc⟩
  · subst h0
    clear h
    go_enter Try.func87, Try.ntmps87
    go_wp2
    refine wp_loop_rounds 1 ?_
    rw [rounds_succ]
    go_wp2
    go_ret
    exact ⟨ret_int (by simp), Below.refl _ _⟩
  · have HC : Hid (∀ i, i < len → w.cell? ⟨b, off + i, none⟩ = some (.int .i64 (k + i))) := fun i hi => by rw [hc i hi, marksI_getD k len i hi]
    clear h hc
    go_enter Try.func87, Try.ntmps87
    go_wp2
    go_loopw [1, 5] (fun q i wr => ∃ j : Nat, j ≤ len ∧ i = .int .i64 j ∧ q = .int .i64 (k + j) ∧ Below w.heap.size w wr) (fun _ i _ => len - (intOf i).toNat)
    case atStart => exact ⟨0, by omega, rfl, by go_num, Below.refl _ _⟩
    case round =>
      obtain ⟨j, hj, rfl, rfl, hbel⟩ := hrel
      by_cases hlt : j < len
      · have hcj := HC.out j hlt
        have hcw : wr.cell? ⟨b, off + j, none⟩ = some (.int .i64 (k + j)) := (hbel.cell (World.block_lt_of_cell? _ _ hcj)).trans hcj
        have hne : ((k + (j : Int)) != (k + (j : Int))) = false := by simp
        clear hcj
        go_wp2
        try go_region
        all_goals (try go_wp2)
        all_goals
          go_roundw
          case rel => exact ⟨j + 1, by omega, by go_num, by go_num, by repeat (first | exact hbel | apply Below.drew)⟩
          case measure => simp [intOf]; omega
      · obtain rfl : j = len := by omega
        go_wp2
        go_ret
        exact ⟨rfl, hbel⟩
/-! ### rows of rows -/
theorem rdM_append {w : World} : ∀ {cs ds : List Cl} {b off : Nat} {F : List Nat}, RdM w (cs ++ ds) b off F ↔ ∃ F1 F2, RdM w cs b off F1 ∧ RdM w ds b (off + cs.length) F2 ∧ F = F1 ++ F2
  | [], ds, b, off, F => by
    constructor
    · intro h; exact ⟨[], F, by simp [RdM], by simpa using h, rfl⟩
    · rintro ⟨F1, F2, h1, h2, rfl⟩; rw [RdM] at h1; subst h1; simpa using h2
  | c :: cs, ds, b, off, F => by
    rw [List.cons_append, RdM]
    constructor
    · rintro ⟨v, F1, F2, hc, h1, h2, rfl⟩
      obtain ⟨G1, G2, k1, k2, rfl⟩ := rdM_append.1 h2
      refine ⟨F1 ++ G1, G2, ?_, ?_, by simp⟩
      · rw [RdM]; exact ⟨v, F1, G1, hc, h1, k1, rfl⟩
      · rw [List.length_cons, show off + (cs.length + 1) = off + 1 + cs.length by omega]; exact k2
    · rintro ⟨F1, F2, h1, h2, rfl⟩
      rw [RdM] at h1
      obtain ⟨v, G1, G2, hc, k1, k2, rfl⟩ := h1
      refine ⟨v, G1, G2 ++ F2, hc, k1, rdM_append.2 ⟨G2, F2, k2, ?_, rfl⟩, by simp⟩
      rw [List.length_cons, show off + (cs.length + 1) = off + 1 + cs.length by omega] at h2; exact h2
def marksII : Int → List (List Int) → List (List Int)
  | _, [] => []
  | k, z :: zs => marksI k z.length :: marksII (k + z.length) zs
theorem marksII_length (k : Int) (zs : List (List Int)) : (marksII k zs).length = zs.length := by
  induction zs generalizing k with
  | nil => rfl
  | cons z zs ih => simp [marksII, ih]
theorem marksII_append (k : Int) (xs ys : List (List Int)) : marksII k (xs ++ ys) = marksII k xs ++ marksII (k + sumLen xs) ys := by
  induction xs generalizing k with
  | nil => simp [marksII, sumLen]
  | cons x xs ih =>
    rw [List.cons_append, marksII, marksII, ih]
    simp [sumLen, Int.add_assoc]
theorem marksII_snoc (k : Int) (zs : List (List Int)) (j : Nat) (h : j < zs.length) : marksII k (zs.take (j + 1)) = marksII k (zs.take j) ++ [marksI (k + sumLen (zs.take j)) (zs.getD j []).length] := by
  rw [take_snoc zs [] j h, marksII_append]; rfl
theorem marksII_getD (k : Int) (zs : List (List Int)) (j : Nat) (h : j < zs.length) : (marksII k zs).getD j [] = marksI (k + sumLen (zs.take j)) (zs.getD j []).length := by
  have e : zs = zs.take j ++ (zs.getD j [] :: zs.drop (j + 1)) := by
    rw [List.getD_eq_getElem?_getD, List.getElem?_eq_getElem h]; simp
  conv => lhs; rw [e, marksII_append]
  rw [List.getD_eq_getElem?_getD, List.getElem?_append_right (by rw [marksII_length]; simp; omega), marksII_length, marksII]
  have : j - (zs.take j).length = 0 := by simp; omega
  rw [this]; simp
structure MarkedII (B : Nat) (w : World) (a : Option Addr) (len : Nat) (k : Int) (zss : List (List Int)) (F : List Nat) (w' : World) : Prop where
  rd : RdII w' a len (marksII k zss) F
  own : Own B w' F
  only : Only F w w'
structure MarkingII (B : Nat) (w : World) (b off : Nat) (k : Int) (zss : List (List Int)) (j : Nat) (F : List Nat) (w' : World) : Prop where
  rd : RdM w' ((marksII k (zss.take j) ++ zss.drop j).map ints) b off F
  own : Own B w' (b :: F)
  only : Only (b :: F) w w'
  lt : b < w'.heap.size
theorem MarkingII.row {B : Nat} {w wr : World} {b off : Nat} {k : Int} {zss : List (List Int)} {j : Nat} {F : List Nat} (h : MarkingII B w b off k zss j F wr) (hj : j < zss.length) :
    ∃ a n cap G, wr.cell? ⟨b, off + j, none⟩ = some (.slice a n cap) ∧ n = (zss.getD j []).length ∧ RdI wr a n (zss.getD j []) G ∧ Own B wr G ∧
      ∀ w2, MarkedI B wr a n (k + sumLen (zss.take j)) G w2 → MarkingII B w b off k zss (j + 1) F w2 := by
  have hd : zss.drop j = zss.getD j [] :: zss.drop (j + 1) := by
    rw [List.getD_eq_getElem?_getD, List.getElem?_eq_getElem hj]; simp
  have rd := h.rd
  rw [hd, List.map_append, List.map_cons] at rd
  obtain ⟨F1, F2, m1, m2, rfl⟩ := rdM_append.1 rd
  rw [RdM] at m2
  obtain ⟨v, G, F3, hc, hv, m3, rfl⟩ := m2
  obtain ⟨a, n, cap, rfl, hr⟩ := rd_ints.1 hv
  have hlen : (List.map ints (marksII k (zss.take j))).length = j := by simp [marksII_length]; omega
  rw [hlen] at hc m3
  have hb : b ∉ F1 ++ (G ++ F3) := (List.nodup_cons.1 h.own.nodup).1
  have nd := (List.nodup_cons.1 h.own.nodup).2
  have nd1 := List.nodup_append.1 nd
  have nd2 := List.nodup_append.1 nd1.2.1
  have hoG : Own B wr G := ⟨nd2.1, fun x hx => h.own.free x (by simp [hx]), fun x hx => h.own.ge x (by simp [hx])⟩
  refine ⟨a, n, cap, G, hc, hr.length.symm, hr, hoG, fun w2 hm => ?_⟩
  have lt1 := m1.lt
  have lt3 := m3.lt
  have ag1 : Agree wr w2 F1 := hm.only.agree lt1 (fun x hx hg => nd1.2.2 x hx x (by simp [hg]) rfl)
  have ag3 : Agree wr w2 F3 := hm.only.agree lt3 (fun x hx hg => nd2.2.2 x hg x hx rfl)
  have agb : w2.heap[b]? = wr.heap[b]? := hm.only.block b h.lt (fun hx => hb (by simp [hx]))
  refine ⟨?_, ⟨h.own.nodup, fun x hx o => ?_, h.own.ge⟩, h.only.trans (hm.only.mono (fun x hx => by simp [hx])), Nat.lt_of_lt_of_le h.lt hm.only.size⟩
  · rw [marksII_snoc k zss j hj, List.append_assoc, List.map_append, List.singleton_append, List.map_cons]
    refine rdM_append.2 ⟨F1, G ++ F3, m1.agree agb ag1, ?_, rfl⟩
    rw [RdM, hlen]
    refine ⟨.slice a n cap, G, F3, (World.cell?_of_block (w := wr) (a := ⟨b, off + j, none⟩) agb).trans hc, ?_, m3.agree agb ag3, rfl⟩
    rw [← hr.length] at hm
    refine rd_ints.2 ⟨a, n, cap, rfl, ?_⟩
    have := hm.rd
    rwa [hr.length] at this ⊢
  · rcases List.mem_cons.1 hx with rfl | hx
    · exact (World.frozen?_of_block (w := wr) (a := ⟨x, o, none⟩) agb).trans (h.own.free x (by simp) o)
    · rcases List.mem_append.1 hx with hx | hx
      · exact (World.frozen?_of_block (w := wr) (a := ⟨x, o, none⟩) (ag1 x hx)).trans (h.own.free x (by simp [hx]) o)
      · rcases List.mem_append.1 hx with hx | hx
        · exact hm.own.free x hx o
        · exact (World.frozen?_of_block (w := wr) (a := ⟨x, o, none⟩) (ag3 x hx)).trans (h.own.free x (by simp [hx]) o)
set_option maxRecDepth 200000 in
set_option maxHeartbeats 1000000 in
theorem markIntSS_any (B : Nat) (a : Option Addr) (len cap : Nat) (zss : List (List Int)) (F : List Nat) (k : Int) (w : World) (h : RdII w a len zss F) (ho : Own B w F) (hk0 : 0 ≤ k) (hk1 : k + sumLen zss ≤ 1000000000000) (hlen : len ≤ 140737488355328) :
    Calls Try.prog 86 #[.slice a len cap, .int .i64 k] w fun e w' => e = .returned (.int .i64 (k + sumLen zss)) ∧ MarkedII B w a len k zss F w' := by
  have HL : Hid (zss.length = len) := h.length
  have HK1 : Hid (k + sumLen zss ≤ 1000000000000) := hk1
  clear hk1
  rcases h.cells with ⟨h0, hF⟩ | ⟨b, off, F', hp, rfl, hF, hm⟩
  · subst h0 hF
    have hz : zss = [] := List.eq_nil_of_length_eq_zero h.length
    subst hz
    clear h
    go_enter Try.func86, Try.ntmps86
    go_wp2
    refine wp_loop_rounds 1 ?_
    rw [rounds_succ]
    go_wp2
    go_ret
    exact ⟨ret_int (by simp [sumLen]), ⟨⟨rfl, .inl ⟨rfl, rfl⟩⟩, ho, Only.refl _ _⟩⟩
  · subst hF
    have HM : Hid (MarkingII B w b off k zss 0 F' w) := ⟨by simpa [marksII] using hm, ho, Only.refl _ _, h.lt b (by simp)⟩
    clear h ho hm
    go_enter Try.func86, Try.ntmps86
    go_wp2
    go_loopw [1, 5] (fun q i wr => ∃ (j : Nat) (y : Int), j ≤ len ∧ 0 ≤ y ∧ y ≤ 1000000000000 ∧ i = .int .i64 j ∧ q = .int .i64 y ∧ Hid (y = k + sumLen (zss.take j)) ∧ Hid (MarkingII B w b off k zss j F' wr)) (fun _ i _ => len - (intOf i).toNat)
    case atStart => exact ⟨0, k, by omega, hk0, by have := HK1.out; have := sumLen_nonneg zss; omega, rfl, rfl, show k = _ by simp [sumLen], HM⟩
    case round =>
      obtain ⟨j, y, hj, hy0, hy1, rfl, rfl, HY, HMj⟩ := hrel
      by_cases hlt : j < len
      · obtain ⟨a1, n1, c1, G, hc1, hn1, hr1, ho1, hstep⟩ := HMj.out.row (by rw [HL.out]; exact hlt)
        have hsn := sumLen_snoc zss j (by rw [HL.out]; exact hlt)
        have hle := sumLen_le zss (j + 1)
        have HS : Hid (y + n1 = k + sumLen (zss.take (j + 1)) ∧ y + n1 ≤ 1000000000000) := by
          have h1 := HY.out; have h2 := HK1.out
          exact ⟨by omega, by omega⟩
        have HR : Hid (RdI wr a1 n1 (zss.getD j []) G ∧ Own B wr G) := ⟨hr1, ho1⟩
        have HSt : Hid (∀ w2, MarkedI B wr a1 n1 y G w2 → MarkingII B w b off k zss (j + 1) F' w2) := by rw [HY.out]; exact hstep
        clear hsn hle hr1 ho1 hstep hn1
        go_wp2_with fail
        refine (markIntS_any B a1 n1 c1 (zss.getD j []) G y _ HR.out.1 HR.out.2 hy0 HS.out.2).mono ?_
        rintro e w2 ⟨rfl, hm2⟩
        have HM2 : Hid (MarkingII B w b off k zss (j + 1) F' w2) := HSt.out w2 hm2
        clear hm2 HSt HR HMj hc1
        go_wp2
        go_roundw
        case rel => exact ⟨j + 1, y + n1, by omega, by omega, HS.out.2, by go_num, rfl, HS.out.1, HM2⟩
        case measure => simp [intOf]; omega
      · obtain rfl : j = len := by omega
        have hy := HY.out
        have hm2 := HMj.out
        have hrd := hm2.rd
        rw [List.take_of_length_le (Nat.le_of_eq HL.out)] at hy
        rw [List.take_of_length_le (Nat.le_of_eq HL.out), List.drop_of_length_le (Nat.le_of_eq HL.out), List.append_nil] at hrd
        have HE : Hid (y = k + sumLen zss ∧ RdM wr ((marksII k zss).map ints) b off F') := ⟨hy, hrd⟩
        clear hy hm2 hrd
        go_wp2
        go_ret
        exact ⟨ret_int HE.out.1, ⟨⟨by rw [marksII_length]; exact HL.out, .inr ⟨b, off, F', hp, rfl, rfl, HE.out.2⟩⟩, HMj.out.own, HMj.out.only⟩⟩
set_option maxRecDepth 200000 in
set_option maxHeartbeats 1000000 in
theorem heldIntSS_any (a : Option Addr) (len cap : Nat) (zss : List (List Int)) (F : List Nat) (k : Int) (w : World) (h : RdII w a len (marksII k zss) F) (hk0 : 0 ≤ k) (hk1 : k + sumLen zss ≤ 1000000000000) (hlen : len ≤ 140737488355328) :
    Calls Try.prog 88 #[.slice a len cap, .int .i64 k] w fun e w' => e = .returned (.int .i64 (k + sumLen zss)) ∧ Below w.heap.size w w' := by
  have HL : Hid (zss.length = len) := by have := h.length; rw [marksII_length] at this; exact this
  have HK1 : Hid (k + sumLen zss ≤ 1000000000000) := hk1
  clear hk1
  rcases h.cells with ⟨h0, hF⟩ | ⟨b, off, F', hp, rfl, hF, hm⟩
  · subst h0
    have hz : zss = [] := List.eq_nil_of_length_eq_zero HL.out
    subst hz
    clear h
    go_enter Try.func88, Try.ntmps88
    go_wp2
    refine wp_loop_rounds 1 ?_
    rw [rounds_succ]
    go_wp2
    go_ret
    exact ⟨ret_int (by simp [sumLen]), Below.refl _ _⟩
  · have HM : Hid (RdM w ((marksII k zss).map ints) b off F') := hm
    clear h hm
    go_enter Try.func88, Try.ntmps88
    go_wp2
    go_loopw [1, 5] (fun q i wr => ∃ (j : Nat) (y : Int), j ≤ len ∧ 0 ≤ y ∧ y ≤ 1000000000000 ∧ i = .int .i64 j ∧ q = .int .i64 y ∧ Hid (y = k + sumLen (zss.take j)) ∧ Below w.heap.size w wr) (fun _ i _ => len - (intOf i).toNat)
    case atStart => exact ⟨0, k, by omega, hk0, by have := HK1.out; have := sumLen_nonneg zss; omega, rfl, rfl, show k = _ by simp [sumLen], Below.refl _ _⟩
    case round =>
      obtain ⟨j, y, hj, hy0, hy1, rfl, rfl, HY, hbel⟩ := hrel
      by_cases hlt : j < len
      · obtain ⟨a1, n1, c1, G, hc1, hr1, _⟩ := RdII.row HM.out (by rw [marksII_length]; exact HL.out) j hlt
        rw [marksII_getD k zss j (by rw [HL.out]; exact hlt)] at hr1
        have hn1 : (zss.getD j []).length = n1 := by have := hr1.length; rw [marksI_length] at this; exact this
        rw [hn1, ← HY.out] at hr1
        have hblt : b < w.heap.size := World.block_lt_of_cell? _ _ hc1
        have hcw : wr.cell? ⟨b, off + j, none⟩ = some (.slice a1 n1 c1) := (hbel.cell (by exact hblt)).trans hc1
        have hsn := sumLen_snoc zss j (by rw [HL.out]; exact hlt)
        have hle := sumLen_le zss (j + 1)
        have HS : Hid (y + n1 = k + sumLen (zss.take (j + 1)) ∧ y + n1 ≤ 1000000000000) := by
          have h1 := HY.out; have h2 := HK1.out
          exact ⟨by omega, by omega⟩
        have HR : Hid (RdI wr a1 n1 (marksI y n1) G) := hr1.below hbel
        clear hsn hle hr1 hn1 hc1
        go_wp2_with fail
        refine (heldIntS_any a1 n1 c1 G y _ HR.out hy0 HS.out.2).mono ?_
        rintro e w2 ⟨rfl, hb2⟩
        have HB2 : Below w.heap.size w w2 := hbel.trans (hb2.mono hbel.size)
        have hnn : 0 ≤ y + (n1 : Int) := by omega
        clear hb2 hbel HR hcw
        go_wp2
        go_roundw
        case rel => exact ⟨j + 1, y + n1, by omega, hnn, HS.out.2, by go_num, rfl, HS.out.1, HB2⟩
        case measure => simp [intOf]; omega
      · obtain rfl : j = len := by omega
        have hy := HY.out
        rw [List.take_of_length_le (Nat.le_of_eq HL.out)] at hy
        have HE : Hid (y = k + sumLen zss) := hy
        clear hy
        go_wp2
        go_ret
        exact ⟨ret_int HE.out, hbel⟩
end Go.Proofs.Ytbmbmnhamogghap
/- The walks through the helpers of the laws that mark a summary and look whether the marks still stand. No statement of the seat is proved here. -/
namespace Go.Proofs.Ytbmbmnhamogghap
open Go.RowKit

/-- How many numbers its lists have. -/
def Sk.many (s : Sk) : Int := s.hist.length + s.regs.length + sumLen s.rows
def Sk.marked (k : Int) (s : Sk) : Sk := { s with hist := marksI k s.hist.length, regs := marksI (k + s.hist.length) s.regs.length, rows := marksII (k + s.hist.length + s.regs.length) s.rows }
structure MarkedSk (B : Nat) (w : World) (v : Value) (k : Int) (s : Sk) (F : List Nat) (w' : World) : Prop where
  rd : RdSk w' v (s.marked k) F
  own : Own B w' F
  only : Only F w w'
theorem Only.blk {F : List Nat} {w w' : World} {g : Nat} {cs : Array Value} {t : TypeId} (h : Only F w w') (hb : Blk w g cs t) (hg : g ∉ F) : Blk w' g cs t := hb.agree (h.block g hb.lt hg)
theorem Own.only {B : Nat} {w w' : World} {F G : List Nat} (h : Own B w F) (ho : Only G w w') (hlt : ∀ b ∈ F, b < w.heap.size) (hd : ∀ b ∈ F, b ∉ G) : Own B w' F := h.agree (ho.agree hlt hd)
/-- Three lists of a summary in the midst of a marking. -/
structure MkSk (B : Nat) (w : World) (A : Array Value) (t : TypeId) (a1 : Option Addr) (n1 : Nat) (z1 : List Int) (F1 : List Nat) (a2 : Option Addr) (n2 : Nat) (z2 : List Int) (F2 : List Nat) (a3 : Option Addr) (n3 : Nat) (z3 : List (List Int)) (F3 : List Nat) (W : World) : Prop where
  r1 : RdI W a1 n1 z1 F1
  r2 : RdI W a2 n2 z2 F2
  r3 : RdII W a3 n3 z3 F3
  o1 : Own B W F1
  o2 : Own B W F2
  o3 : Own B W F3
  d12 : ∀ b ∈ F1, b ∉ F2
  d13 : ∀ b ∈ F1, b ∉ F3
  d23 : ∀ b ∈ F2, b ∉ F3
  lt : ∀ b ∈ F1 ++ (F2 ++ F3), b < w.heap.size
  box : Blk W w.heap.size A t
  only : Only (F1 ++ (F2 ++ F3)) w W
section
variable {B : Nat} {w W W' : World} {A : Array Value} {t : TypeId} {a1 a2 a3 : Option Addr} {n1 n2 n3 : Nat} {z1 z2 : List Int} {z3 : List (List Int)} {F1 F2 F3 : List Nat} {k : Int}
theorem MkSk.one (h : MkSk B w A t a1 n1 z1 F1 a2 n2 z2 F2 a3 n3 z3 F3 W) (m : MarkedI B W a1 n1 k F1 W') : MkSk B w A t a1 n1 (marksI k n1) F1 a2 n2 z2 F2 a3 n3 z3 F3 W' := by
  have g2 := m.only.agree h.r2.lt (fun b hb hx => h.d12 b hx hb)
  have g3 := m.only.agree h.r3.lt (fun b hb hx => h.d13 b hx hb)
  exact ⟨m.rd, h.r2.agree g2, h.r3.agree g3, m.own, h.o2.agree g2, h.o3.agree g3, h.d12, h.d13, h.d23, h.lt,
    m.only.blk h.box (fun hx => by have := h.lt _ (List.mem_append_left _ hx); omega), h.only.trans (m.only.mono (fun x hx => List.mem_append_left _ hx))⟩
theorem MkSk.two (h : MkSk B w A t a1 n1 z1 F1 a2 n2 z2 F2 a3 n3 z3 F3 W) (m : MarkedI B W a2 n2 k F2 W') : MkSk B w A t a1 n1 z1 F1 a2 n2 (marksI k n2) F2 a3 n3 z3 F3 W' := by
  have g1 := m.only.agree h.r1.lt (fun b hb hx => h.d12 b hb hx)
  have g3 := m.only.agree h.r3.lt (fun b hb hx => h.d23 b hx hb)
  exact ⟨h.r1.agree g1, m.rd, h.r3.agree g3, h.o1.agree g1, m.own, h.o3.agree g3, h.d12, h.d13, h.d23, h.lt,
    m.only.blk h.box (fun hx => by have := h.lt _ (List.mem_append_right _ (List.mem_append_left _ hx)); omega), h.only.trans (m.only.mono (fun x hx => List.mem_append_right _ (List.mem_append_left _ hx)))⟩
theorem MkSk.three (h : MkSk B w A t a1 n1 z1 F1 a2 n2 z2 F2 a3 n3 z3 F3 W) (m : MarkedII B W a3 n3 k z3 F3 W') : MkSk B w A t a1 n1 z1 F1 a2 n2 z2 F2 a3 n3 (marksII k z3) F3 W' := by
  have g1 := m.only.agree h.r1.lt (fun b hb hx => h.d13 b hb hx)
  have g2 := m.only.agree h.r2.lt (fun b hb hx => h.d23 b hb hx)
  exact ⟨h.r1.agree g1, h.r2.agree g2, m.rd, h.o1.agree g1, h.o2.agree g2, m.own, h.d12, h.d13, h.d23, h.lt,
    m.only.blk h.box (fun hx => by have := h.lt _ (List.mem_append_right _ (List.mem_append_right _ hx)); omega), h.only.trans (m.only.mono (fun x hx => List.mem_append_right _ (List.mem_append_right _ hx)))⟩
theorem MkSk.own (h : MkSk B w A t a1 n1 z1 F1 a2 n2 z2 F2 a3 n3 z3 F3 W) : Own B W (F1 ++ (F2 ++ F3)) :=
  h.o1.app (h.o2.app h.o3 h.d23) (fun b hb hx => (List.mem_append.1 hx).elim (h.d12 b hb) (h.d13 b hb))
end
theorem MkSk.made (B : Nat) (w : World) (A : Array Value) (t : TypeId) {a1 a2 a3 : Option Addr} {n1 n2 n3 : Nat} {z1 z2 : List Int} {z3 : List (List Int)} {F1 F2 F3 : List Nat} (h1 : RdI w a1 n1 z1 F1) (h2 : RdI w a2 n2 z2 F2) (h3 : RdII w a3 n3 z3 F3) (ho : Own B w (F1 ++ (F2 ++ F3))) :
    MkSk B w A t a1 n1 z1 F1 a2 n2 z2 F2 a3 n3 z3 F3 (w.alloc (.cells A t)) := by
  have bw := (Below.refl w.heap.size w).alloc (Nat.le_refl _) (.cells A t)
  have lt : ∀ b ∈ F1 ++ (F2 ++ F3), b < w.heap.size := fun b hb => (List.mem_append.1 hb).elim (h1.lt b) (fun hb => (List.mem_append.1 hb).elim (h2.lt b) (h3.lt b))
  have ho' := ho.below lt bw
  have d1 := ho.apart
  exact ⟨h1.below bw, h2.below bw, h3.below bw, ho'.left, ho'.right.left, ho'.right.right, fun b hb hx => d1 b hb (List.mem_append_left _ hx), fun b hb hx => d1 b hb (List.mem_append_right _ hx), ho.right.apart, lt, Blk.made w A t, Only.of_below bw⟩
set_option maxRecDepth 200000 in
set_option maxHeartbeats 1000000 in
theorem markSketch_any (B : Nat) (v : Value) (s : Sk) (F : List Nat) (k : Int) (w : World) (h : RdSk w v s F) (ho : Own B w F) (hw : s.wide) (hk0 : 0 ≤ k) (hk1 : k + s.many ≤ 1000000000000) :
    Calls Try.prog 50 #[v, .int .i64 k] w fun e w' => e = .returned (.int .i64 (k + s.many)) ∧ MarkedSk B w v k s F w' := by
  obtain ⟨a1, n1, c1, a2, n2, c2, a3, n3, c3, F1, F2, F3, rfl, h1, h2, h3, rfl⟩ := h
  have HS0 : Hid (0 ≤ sumLen s.rows) := sumLen_nonneg s.rows
  have e1 := h1.length
  have e2 := h2.length
  have HM : Hid (s.many = n1 + n2 + sumLen s.rows ∧ s.many + k ≤ 1000000000000 ∧ 0 ≤ k) := ⟨by unfold Sk.many; omega, by omega, hk0⟩
  have HE : Hid (s.hist.length = n1 ∧ s.regs.length = n2) := ⟨e1, e2⟩
  have hn3 : n3 ≤ 140737488355328 := by rw [← h3.length]; exact hw.rows
  have M0 := MkSk.made B w #[.int .i64 s.count, .int .i64 s.sum, .int .i64 s.min, .int .i64 s.max, .slice a1 n1 c1, .slice a2 n2 c2, .slice a3 n3 c3] 32 h1 h2 h3 ho
  have HM0 : Hid (MkSk B w _ _ a1 n1 s.hist F1 a2 n2 s.regs F2 a3 n3 s.rows F3 _) := M0
  clear h1 h2 h3 ho hw hk1 M0 e1 e2
  go_enter Try.func50, Try.ntmps50
  go_wp2_with fail
  refine (markIntS_any B a1 n1 c1 s.hist F1 k _ HM0.out.r1 HM0.out.o1 hk0 (by have := HM.out; have := HS0.out; omega)).mono ?_
  rintro e w1 ⟨rfl, m1⟩
  have M1 := HM0.out.one m1
  have HM1 : Hid (MkSk B w _ _ a1 n1 (marksI k n1) F1 a2 n2 s.regs F2 a3 n3 s.rows F3 w1) := M1
  have x5 := M1.box.cell 5
  simp only [List.getElem?_toArray, List.getElem?_cons_succ, List.getElem?_cons_zero] at x5
  obtain ⟨y1, hy1⟩ : ∃ y, y = k + (n1 : Int) := ⟨_, rfl⟩
  rw [← hy1]
  have HY1 : Hid (y1 = k + (n1 : Int)) := hy1
  have y10 : 0 ≤ y1 := by omega
  clear M1 m1 HM0 hy1
  go_wp2_with fail
  refine (markIntS_any B a2 n2 c2 s.regs F2 y1 _ HM1.out.r2 HM1.out.o2 y10 (by have := HM.out; have := HS0.out; have := HY1.out; omega)).mono ?_
  rintro e w2 ⟨rfl, m2⟩
  have M2 := HM1.out.two m2
  have HM2 : Hid (MkSk B w _ _ a1 n1 (marksI k n1) F1 a2 n2 (marksI y1 n2) F2 a3 n3 s.rows F3 w2) := M2
  have x6 := M2.box.cell 6
  simp only [List.getElem?_toArray, List.getElem?_cons_succ, List.getElem?_cons_zero] at x6
  obtain ⟨y2, hy2⟩ : ∃ y, y = y1 + (n2 : Int) := ⟨_, rfl⟩
  rw [← hy2]
  have HY2 : Hid (y2 = y1 + (n2 : Int)) := hy2
  have y20 : 0 ≤ y2 := by omega
  clear M2 m2 HM1 hy2 x5
  go_wp2_with fail
  refine (markIntSS_any B a3 n3 c3 s.rows F3 y2 _ HM2.out.r3 HM2.out.o3 y20 (by have := HM.out; have := HS0.out; have := HY1.out; have := HY2.out; omega) hn3).mono ?_
  rintro e w3 ⟨rfl, m3⟩
  have HM3 : Hid (MkSk B w _ _ a1 n1 (marksI k n1) F1 a2 n2 (marksI y1 n2) F2 a3 n3 (marksII y2 s.rows) F3 w3) := HM2.out.three m3
  clear m3 HM2 x6
  go_wp2
  go_ret
  refine ⟨ret_int (by have := HM.out; have := HY1.out; have := HY2.out; omega), ⟨⟨a1, n1, c1, a2, n2, c2, a3, n3, c3, F1, F2, F3, rfl, ?_, ?_, ?_, rfl⟩, HM3.out.own, HM3.out.only⟩⟩
  · show RdI w3 a1 n1 (marksI k s.hist.length) F1
    rw [HE.out.1]; exact HM3.out.r1
  · show RdI w3 a2 n2 (marksI (k + s.hist.length) s.regs.length) F2
    rw [HE.out.1, HE.out.2, ← HY1.out]; exact HM3.out.r2
  · show RdII w3 a3 n3 (marksII (k + s.hist.length + s.regs.length) s.rows) F3
    rw [HE.out.1, HE.out.2, ← HY1.out, ← HY2.out]; exact HM3.out.r3
set_option maxRecDepth 200000 in
set_option maxHeartbeats 1000000 in
theorem heldSketch_any (v : Value) (s : Sk) (F : List Nat) (k : Int) (w : World) (h : RdSk w v (s.marked k) F) (hw : s.wide) (hk0 : 0 ≤ k) (hk1 : k + s.many ≤ 1000000000000) :
    Calls Try.prog 53 #[v, .int .i64 k] w fun e w' => e = .returned (.int .i64 (k + s.many)) ∧ Below w.heap.size w w' := by
  obtain ⟨a1, n1, c1, a2, n2, c2, a3, n3, c3, F1, F2, F3, rfl, h1, h2, h3, rfl⟩ := h
  have HS0 : Hid (0 ≤ sumLen s.rows) := sumLen_nonneg s.rows
  have h1' : RdI w a1 n1 (marksI k s.hist.length) F1 := h1
  have h2' : RdI w a2 n2 (marksI (k + s.hist.length) s.regs.length) F2 := h2
  have h3' : RdII w a3 n3 (marksII (k + s.hist.length + s.regs.length) s.rows) F3 := h3
  have e1 : s.hist.length = n1 := by have := h1'.length; rw [marksI_length] at this; exact this
  have e2 : s.regs.length = n2 := by have := h2'.length; rw [marksI_length] at this; exact this
  have hn3 : n3 ≤ 140737488355328 := by have := h3'.length; rw [marksII_length] at this; rw [← this]; exact hw.rows
  rw [e1] at h1' h2' h3'
  rw [e2] at h2' h3'
  have HM : Hid (s.many = n1 + n2 + sumLen s.rows ∧ s.many + k ≤ 1000000000000 ∧ 0 ≤ k) := ⟨by unfold Sk.many; omega, by omega, hk0⟩
  obtain ⟨cs, hcs⟩ : ∃ cs : Array Value, cs = #[.int .i64 s.count, .int .i64 s.sum, .int .i64 s.min, .int .i64 s.max, .slice a1 n1 c1, .slice a2 n2 c2, .slice a3 n3 c3] := ⟨_, rfl⟩
  have bw := (Below.refl w.heap.size w).alloc (Nat.le_refl _) (.cells #[.int .i64 s.count, .int .i64 s.sum, .int .i64 s.min, .int .i64 s.max, .slice a1 n1 c1, .slice a2 n2 c2, .slice a3 n3 c3] 32)
  have H1 : Hid (RdI w a1 n1 (marksI k n1) F1) := h1'
  have H2 : Hid (RdI w a2 n2 (marksI (k + n1) n2) F2) := h2'
  have H3 : Hid (RdII w a3 n3 (marksII (k + n1 + n2) s.rows) F3) := h3'
  have HB0 : Hid (Below w.heap.size w (w.alloc _) ∧ Blk (w.alloc _) w.heap.size _ _) := ⟨bw, Blk.made w #[.int .i64 s.count, .int .i64 s.sum, .int .i64 s.min, .int .i64 s.max, .slice a1 n1 c1, .slice a2 n2 c2, .slice a3 n3 c3] 32⟩
  clear h1 h2 h3 h1' h2' h3' hw hk1 e1 e2 bw hcs cs
  go_enter Try.func53, Try.ntmps53
  go_wp2_with fail
  refine (heldIntS_any a1 n1 c1 F1 k _ (H1.out.below HB0.out.1) hk0 (by have := HM.out; have := HS0.out; omega)).mono ?_
  rintro e w1 ⟨rfl, hb1⟩
  have bk1 := HB0.out.2.below hb1
  have HB1 : Hid (Below w.heap.size w w1 ∧ Blk w1 w.heap.size _ _) := ⟨HB0.out.1.trans (hb1.mono HB0.out.1.size), bk1⟩
  have x5 := bk1.cell 5
  simp only [List.getElem?_toArray, List.getElem?_cons_succ, List.getElem?_cons_zero] at x5
  obtain ⟨y1, hy1⟩ : ∃ y, y = k + (n1 : Int) := ⟨_, rfl⟩
  rw [← hy1] at H2 H3 ⊢
  have HY1 : Hid (y1 = k + (n1 : Int)) := hy1
  have y10 : 0 ≤ y1 := by omega
  clear hb1 bk1 HB0 hy1 H1
  go_wp2_with fail
  refine (heldIntS_any a2 n2 c2 F2 y1 _ (H2.out.below HB1.out.1) y10 (by have := HM.out; have := HS0.out; have := HY1.out; omega)).mono ?_
  rintro e w2 ⟨rfl, hb2⟩
  have bk2 := HB1.out.2.below hb2
  have HB2 : Hid (Below w.heap.size w w2 ∧ Blk w2 w.heap.size _ _) := ⟨HB1.out.1.trans (hb2.mono HB1.out.1.size), bk2⟩
  have x6 := bk2.cell 6
  simp only [List.getElem?_toArray, List.getElem?_cons_succ, List.getElem?_cons_zero] at x6
  obtain ⟨y2, hy2⟩ : ∃ y, y = y1 + (n2 : Int) := ⟨_, rfl⟩
  rw [← hy2] at H3 ⊢
  have HY2 : Hid (y2 = y1 + (n2 : Int)) := hy2
  have y20 : 0 ≤ y2 := by omega
  clear hb2 bk2 HB1 hy2 H2 x5
  go_wp2_with fail
  refine (heldIntSS_any a3 n3 c3 s.rows F3 y2 _ (H3.out.below HB2.out.1) y20 (by have := HM.out; have := HS0.out; have := HY1.out; have := HY2.out; omega) hn3).mono ?_
  rintro e w3 ⟨rfl, hb3⟩
  have HB3 : Hid (Below w.heap.size w w3) := HB2.out.1.trans (hb3.mono HB2.out.1.size)
  obtain ⟨y3, hy3⟩ : ∃ y, y = y2 + sumLen s.rows := ⟨_, rfl⟩
  rw [← hy3]
  have HY3 : Hid (y3 = y2 + sumLen s.rows) := hy3
  have y30 : 0 ≤ y3 := by have := HS0.out; omega
  clear hb3 HB2 hy3 H3 x6
  go_wp2
  go_ret
  exact ⟨ret_int (by have := HM.out; have := HY1.out; have := HY2.out; have := HY3.out; omega), HB3.out⟩
end Go.Proofs.Ytbmbmnhamogghap
/- Whole structs of numbers, out of and into memory, at one step each. No statement of the seat is proved here. -/
namespace Go.Proofs.Ytbmbmnhamogghap
open Go.RowKit
theorem results_row_tmp {P : Program} {fn : Func} {p u : Tmp} {ty : TypeId} (h : fn.results = #[.cell p ty, .tmp u]) (tmps : Array Value) (w : World) (g : Nat) (t : TypeId) (cs : Array Value) (fr : Nat × Nat) (d : TypeDesc)
    (hp : tmps.getD p undef = .pointer (some ⟨g, 0, none⟩)) (hg : w.heap[g]? = some (.cells cs t fr))
    (hu : P.underlying ty = some d) (hd : (match d with | .struct _ | .array _ _ => true | _ => false) = true) (hi : (P.info? ty).map (·.size) = some cs.size) :
    (results fn tmps).run P w = .ok (.tuple #[.agg cs, tmps.getD u undef]) w := by
  rw [results_cell_tmp h, hp]
  simp [asAddr, run_loadVar_row w g t ty cs fr d hg hu hd hi, Result.andThen]
/-- The walk stands still here. -/
def Stop (p : Prop) : Prop := p
section
variable {P : Program} {ops : Array Oper} {Q : Exit → Act → World → Prop} {rest : List Oper} {a : Act} {w : World} {x y : Operand} {o : Oper}
theorem stopStore (ty : TypeId) (_ho : o.op = .store ty x y) (h : Stop (wpList P ops Q (o :: rest) a w)) : wpList P ops Q (o :: rest) a w := h
theorem stopLoad (ty : TypeId) (_ho : o.op = .load ty x) (h : Stop (wpList P ops Q (o :: rest) a w)) : wpList P ops Q (o :: rest) a w := h
theorem stopCopy {ts : Array TypeId} (_ho : o.op = .call { callee := .builtin .copy, args := #[x, y], argTypes := ts }) (h : Stop (wpList P ops Q (o :: rest) a w)) : wpList P ops Q (o :: rest) a w := h
theorem Stop.intro {p : Prop} (h : p) : Stop p := h
theorem Blk.setRow {g : Nat} {cs ds : Array Value} {t : TypeId} (h : Blk w g cs t) : Blk (w.setRow g ds) g ds t := setRow_heap w g cs ds t _ h
theorem Blk.setRowOther {g k : Nat} {cs ds : Array Value} {t : TypeId} (h : Blk w g cs t) (hne : g ≠ k) : Blk (w.setRow k ds) g cs t := h.agree (setRow_other w k g ds hne)
/-- A whole struct into the block that was made last. -/
theorem store_fresh {w0 : World} (ty : TypeId) (g : Nat) (hsz : w0.heap.size = g) (old cells : Array Value) (t : TypeId) (hgd : o.guard = none) (ho : o.op = .store ty x y) (hx : a.eval x = .pointer (some ⟨g, 0, none⟩)) (hy : a.eval y = .agg cells)
    (hi : (P.info? ty).map (·.size) = some cells.size) (hold : old.size = cells.size) (h1 : cells.all (·.oneCell') = true)
    (h : ∀ W, Blk W g cells t → Below w0.heap.size w0 W → wpList P ops Q rest (a.put o.dst undef) W) : Stop (wpList P ops Q (o :: rest) a (w0.alloc (.cells old t))) := by
  subst hsz
  refine wpList_store_row hgd ty x y ho w0.heap.size cells hx hy t old (heap_alloc_last w0 _) hi hold h1 ?_
  rw [World.setRow_alloc_new]
  exact h _ (Blk.made w0 cells t) ((Below.refl _ _).alloc (Nat.le_refl _) _)
/-- A whole struct into a block that is known. -/
theorem store_known (ty : TypeId) (g : Nat) (old cells : Array Value) (t : TypeId) (hg : Blk w g old t) (hgd : o.guard = none) (ho : o.op = .store ty x y) (hx : a.eval x = .pointer (some ⟨g, 0, none⟩)) (hy : a.eval y = .agg cells)
    (hi : (P.info? ty).map (·.size) = some cells.size) (hold : old.size = cells.size) (h1 : cells.all (·.oneCell') = true)
    (h : wpList P ops Q rest (a.put o.dst undef) (w.setRow g cells)) : Stop (wpList P ops Q (o :: rest) a w) :=
  wpList_store_row hgd ty x y ho g cells hx hy t old hg hi hold h1 h
/-- A whole struct out of a block that is known. -/
theorem load_known (ty : TypeId) (g : Nat) (cells : Array Value) (t : TypeId) (d : TypeDesc) (hg : Blk w g cells t) (hgd : o.guard = none) (ho : o.op = .load ty x) (hx : a.eval x = .pointer (some ⟨g, 0, none⟩))
    (hu : P.underlying ty = some d) (hd : (match d with | .struct _ | .array _ _ => true | _ => false) = true) (hi : (P.info? ty).map (·.size) = some cells.size)
    (h : wpList P ops Q rest (a.put o.dst (.agg cells)) w) : Stop (wpList P ops Q (o :: rest) a w) :=
  wpList_load_row hgd ty x ho g hx t cells (0, 0) d hg hu hd hi h
/-! ### single operations of a region that draws its order -/
variable {S : World → Prop} {i : Nat} {K : Act → World → Prop}
/-- A whole struct that nobody in the region writes. -/
theorem yields_whole (ty : TypeId) (g : Nat) (cells : Array Value) (t : TypeId) (d : TypeDesc) (hw : Region.wanted o (yielded ops a.tmps) = true) (ho : o.op = .load ty x) (hx : a.eval x = .pointer (some ⟨g, 0, none⟩)) (hu : P.underlying ty = some d) (hd : (match d with | .struct _ | .array _ _ => true | _ => false) = true)
    (hi : (P.info? ty).map (·.size) = some cells.size) (hS : ∀ W, S W → Blk W g cells t) : YieldsIf P ops S o (.agg cells) a :=
  .inl ⟨hw, fun W hW => by
    unfold execOp
    simp only [ho, hx, Instr.loadAt, Instr.sureAddr, Sem.run_bind, Sem.run_pure, Result.andThen_ok, run_loadVar_row W g t ty cells (0, 0) d (hS W hW) hu hd hi]⟩
theorem takeH {md : Region.Mode} {fuel : Nat} {listed : Array Bool} (i : Nat) (v : Value) (hi : ops[i]? = some o)
    (H : ∃ a', a.put o.dst v = a' ∧ Region.noSelect ops = true ∧ Region.free md ops listed i = true ∧ (Region.ready md ops listed).contains i = true ∧
      (∀ c a w, Q (.panic c) (a.put o.dst v) w → Q (.panic c) a w) ∧ YieldsIf P ops S o v a ∧ S w ∧ wpAnyH P md ops Q S fuel (listed.setIfInBounds i true) a' w) : wpAnyH P md ops Q S (fuel + 1) listed a w := by
  obtain ⟨_, rfl, hs, hf, hr, hQ, hy, hS, h⟩ := H
  exact wpAnyH_take hi hs hf hr hQ hy hS h
/-- What is to be shown of the one operation that may come up. -/
theorem onlyH {md : Region.Mode} {fuel : Nat} {listed : Array Bool} (i : Nat) (hr : Region.ready md ops listed = [i]) (hi : ops[i]? = some o)
    (H : ∀ K : Act → World → Prop, (∀ a' w', S w' ∧ wpAnyH P md ops Q S fuel (listed.setIfInBounds i true) a' w' → K a' w') → if Region.wanted o (yielded ops a.tmps) = true then Oper.wp P o a w K Q else K (a.put o.dst undef) w) : wpAnyH P md ops Q S (fuel + 1) listed a w := by
  refine wpAnyH_all hr (by simp) ?_
  intro j hj
  obtain rfl : j = i := by simpa using hj
  exact wpOp_step hi H
theorem twoH {md : Region.Mode} {fuel : Nat} {listed : Array Bool} {o' : Oper} (i j : Nat) (hr : Region.ready md ops listed = [i, j]) (hi : ops[i]? = some o) (hj : ops[j]? = some o')
    (H : ∀ K : Act → World → Prop, (∀ a' w', S w' ∧ wpAnyH P md ops Q S fuel (listed.setIfInBounds i true) a' w' → K a' w') → if Region.wanted o (yielded ops a.tmps) = true then Oper.wp P o a w K Q else K (a.put o.dst undef) w)
    (H' : ∀ K : Act → World → Prop, (∀ a' w', S w' ∧ wpAnyH P md ops Q S fuel (listed.setIfInBounds j true) a' w' → K a' w') → if Region.wanted o' (yielded ops a.tmps) = true then Oper.wp P o' a w K Q else K (a.put o'.dst undef) w) : wpAnyH P md ops Q S (fuel + 1) listed a w := by
  refine wpAnyH_all hr (by simp) ?_
  intro k hk
  rcases (by simpa using hk : k = i ∨ k = j) with rfl | rfl
  · exact wpOp_step hi H
  · exact wpOp_step hj H'
theorem op_store (ty : TypeId) (g : Nat) (old cells : Array Value) (t : TypeId) (hw : Region.wanted o (yielded ops a.tmps) = true) (ho : o.op = .store ty x y) (hx : a.eval x = .pointer (some ⟨g, 0, none⟩)) (hy : a.eval y = .agg cells)
    (hg : Blk w g old t) (hs : (P.info? ty).map (·.size) = some cells.size) (hold : old.size = cells.size) (h1 : cells.all (·.oneCell') = true)
    (h : ∃ a', a.put o.dst undef = a' ∧ K a' (w.setRow g cells)) : if Region.wanted o (yielded ops a.tmps) = true then Oper.wp P o a w K Q else K (a.put o.dst undef) w := by
  obtain ⟨_, rfl, h⟩ := h
  rw [if_pos hw]
  exact wp_store_row ty x y ho g cells hx hy t old hg hs hold h1 h
theorem op_value (v : Value) (hw : Region.wanted o (yielded ops a.tmps) = true) (hr : (execOp a.eval o).run P w = .ok (.value v) w) (h : ∃ a', a.put o.dst v = a' ∧ K a' w) : if Region.wanted o (yielded ops a.tmps) = true then Oper.wp P o a w K Q else K (a.put o.dst undef) w := by
  obtain ⟨_, rfl, h⟩ := h
  rw [if_pos hw]
  unfold Oper.wp
  rw [hr]
  exact h
theorem op_call2 (f : FuncId) (x y : Operand) (ts : Array TypeId) (fn : Func) (R : World → Prop) (v : Value) (hw : Region.wanted o (yielded ops a.tmps) = true) (ho : o.op = Op.call { callee := Callee.value (Operand.func f), args := #[x, y], argTypes := ts })
    (hfn : P.funcs[f]? = some fn) (hnm : (fn.name == "runtime.NumGoroutine") = false) (hbd : fn.body.isNone = false) (hc : Calls P f #[a.eval x, a.eval y] w fun e w' => e = .returned v ∧ R w') (h : ∃ a', a.put o.dst v = a' ∧ ∀ w', R w' → K a' w') : if Region.wanted o (yielded ops a.tmps) = true then Oper.wp P o a w K Q else K (a.put o.dst undef) w := by
  obtain ⟨_, rfl, h⟩ := h
  rw [if_pos hw]
  have hnm' : ¬ fn.name = "runtime.NumGoroutine" := by simpa using hnm
  have hbd' : ¬ fn.body = none := by intro e; rw [e] at hbd; cases hbd
  unfold Oper.wp
  simp only [execOp, ho, resolve, invoke, Oper.upon, go_sem]
  simp [callFunc, hfn, hnm', hbd', go_sem]
  simp [Act.eval, go_sem] at hc
  refine Calls.mono hc ?_
  rintro e w1 ⟨rfl, hR⟩
  exact h w1 hR
theorem op_call1 (f : FuncId) (x : Operand) (ts : Array TypeId) (fn : Func) (R : Value → World → Prop) (hw : Region.wanted o (yielded ops a.tmps) = true) (ho : o.op = Op.call { callee := Callee.value (Operand.func f), args := #[x], argTypes := ts })
    (hfn : P.funcs[f]? = some fn) (hnm : (fn.name == "runtime.NumGoroutine") = false) (hbd : fn.body.isNone = false) (hc : Calls P f #[a.eval x] w fun e w' => ∃ v, e = .returned v ∧ R v w') (h : ∀ v w', R v w' → ∃ a', a.put o.dst v = a' ∧ K a' w') : if Region.wanted o (yielded ops a.tmps) = true then Oper.wp P o a w K Q else K (a.put o.dst undef) w := by
  rw [if_pos hw]
  have hnm' : ¬ fn.name = "runtime.NumGoroutine" := by simpa using hnm
  have hbd' : ¬ fn.body = none := by intro e; rw [e] at hbd; cases hbd
  unfold Oper.wp
  simp only [execOp, ho, resolve, invoke, Oper.upon, go_sem]
  simp [callFunc, hfn, hnm', hbd', go_sem]
  simp [Act.eval, go_sem] at hc
  refine Calls.mono hc ?_
  rintro e w1 ⟨v, rfl, hR⟩
  obtain ⟨_, rfl, hk⟩ := h v w1 hR
  exact hk
/-- An operation that yields its value and may turn the world. -/
theorem op_turn (v : Value) (w' : World) (hw : Region.wanted o (yielded ops a.tmps) = true) (hr : (execOp a.eval o).run P w = .ok (.value v) w') (h : ∃ a', a.put o.dst v = a' ∧ K a' w') : if Region.wanted o (yielded ops a.tmps) = true then Oper.wp P o a w K Q else K (a.put o.dst undef) w := by
  obtain ⟨_, rfl, h⟩ := h
  rw [if_pos hw]
  unfold Oper.wp
  rw [hr]
  exact h
/-- A store. -/
theorem op_skip (w' : World) (hw : Region.wanted o (yielded ops a.tmps) = true) (hr : (execOp a.eval o).run P w = .ok .skip w') (h : ∃ a', a.put o.dst undef = a' ∧ K a' w') : if Region.wanted o (yielded ops a.tmps) = true then Oper.wp P o a w K Q else K (a.put o.dst undef) w := by
  obtain ⟨_, rfl, h⟩ := h
  rw [if_pos hw]
  unfold Oper.wp
  rw [hr]
  exact h
end
end Go.Proofs.Ytbmbmnhamogghap
/- What the laws over a summary share. No statement of the seat is proved here. -/
namespace Go.Proofs.Ytbmbmnhamogghap
open Go.RowKit
theorem RdSk.cells {w : World} {v : Value} {s : Sk} {F : List Nat} (h : RdSk w v s F) : ∃ cs : Array Value, v = .agg cs ∧ cs.size = 7 ∧ cs.all (·.oneCell') = true := by
  obtain ⟨a1, n1, c1, a2, n2, c2, a3, n3, c3, F1, F2, F3, rfl, _⟩ := h
  exact ⟨_, rfl, rfl, by kernel_rfl⟩
theorem infoSk : (Try.prog.info? 32).map (·.size) = some 7 := by kernel_rfl
theorem skSize {cs : Array Value} (h : cs.size = 7) : (Try.prog.info? 32).map (·.size) = some cs.size := by rw [h]; exact infoSk
theorem infoLSk : (Try.prog.info? 26).map (·.size) = some 7 := by kernel_rfl
theorem lskSize {cs : Array Value} (h : cs.size = 7) : (Try.prog.info? 26).map (·.size) = some cs.size := by rw [h]; exact infoLSk
/-- The argument's box and the copy lie there. -/
def SkTwo (g : Nat) (cs : Array Value) (k : Nat) (ds : Array Value) (W : World) : Prop := Blk W g cs 26 ∧ Blk W k ds 32
/-- The boxes of two arguments lie there. -/
def SkBoxes (g : Nat) (cs ds : Array Value) (W : World) : Prop := Blk W g cs 26 ∧ Blk W (g + 1) ds 26
theorem SkBoxes.below {g : Nat} {cs ds : Array Value} {W W' : World} (h : SkBoxes g cs ds W) (b : Below W.heap.size W W') : SkBoxes g cs ds W' := ⟨h.1.below b, h.2.below b⟩
theorem SkBoxes.setRow {g k : Nat} {cs ds es : Array Value} {W : World} (h : SkBoxes g cs ds W) (hk : g + 1 < k) : SkBoxes g cs ds (W.setRow k es) := ⟨h.1.setRowOther (by omega), h.2.setRowOther (by omega)⟩
theorem laidOut : laidOutB Try.prog = true := by kernel_rfl
section
variable {P : Program} {ops : Array Oper} {Q : Exit → Act → World → Prop} {rest : List Oper} {a : Act} {w : World} {x y : Operand} {o : Oper} {K : Act → World → Prop}
/-- A whole struct out of a block that is known, guarded or not. -/
theorem load_any (ty : TypeId) (g : Nat) (cells : Array Value) (t : TypeId) (d : TypeDesc) (hg : Blk w g cells t) (hw : Region.wanted o (yielded ops a.tmps) = true) (ho : o.op = .load ty x) (hx : a.eval x = .pointer (some ⟨g, 0, none⟩))
    (hu : P.underlying ty = some d) (hd : (match d with | .struct _ | .array _ _ => true | _ => false) = true) (hi : (P.info? ty).map (·.size) = some cells.size)
    (h : wpList P ops Q rest (a.put o.dst (.agg cells)) w) : Stop (wpList P ops Q (o :: rest) a w) :=
  wpList_step fun K hK => by rw [if_pos hw]; exact wp_load_row ty x ho g hx t cells (0, 0) d hg hu hd hi (hK _ _ h)
theorem op_call2' (f : FuncId) (x y : Operand) (ts : Array TypeId) (fn : Func) (R : Value → World → Prop) (hw : Region.wanted o (yielded ops a.tmps) = true) (ho : o.op = Op.call { callee := Callee.value (Operand.func f), args := #[x, y], argTypes := ts })
    (hfn : P.funcs[f]? = some fn) (hnm : (fn.name == "runtime.NumGoroutine") = false) (hbd : fn.body.isNone = false) (hc : Calls P f #[a.eval x, a.eval y] w fun e w' => ∃ v, e = .returned v ∧ R v w') (h : ∀ v w', R v w' → ∃ a', a.put o.dst v = a' ∧ K a' w') : if Region.wanted o (yielded ops a.tmps) = true then Oper.wp P o a w K Q else K (a.put o.dst undef) w := by
  rw [if_pos hw]
  have hnm' : ¬ fn.name = "runtime.NumGoroutine" := by simpa using hnm
  have hbd' : ¬ fn.body = none := by intro e; rw [e] at hbd; cases hbd
  unfold Oper.wp
  simp only [execOp, ho, resolve, invoke, Oper.upon, go_sem]
  simp [callFunc, hfn, hnm', hbd', go_sem]
  simp [Act.eval, go_sem] at hc
  refine Calls.mono hc ?_
  rintro e w1 ⟨v, rfl, hR⟩
  obtain ⟨_, rfl, hk⟩ := h v w1 hR
  exact hk
end
theorem many_fits {s : Sk} (h : s.size ≤ 1048576) : 0 ≤ s.many ∧ s.many ≤ 1048576 := by
  have h0 := sumLen_nonneg s.rows
  unfold Sk.size at h
  unfold Sk.many
  omega
/-- A summary in a variable of the call's own: its struct lies in block g, its lists in memory between lo and hi. -/
structure Var (W : World) (lo hi g : Nat) (cs : Array Value) (s : Sk) (F : List Nat) : Prop where
  blk : Blk W g cs 32
  rd : RdSk W (.agg cs) s F
  sz : cs.size = 7
  own : Own lo W F
  lt : ∀ b ∈ F, b < hi
  ge : lo ≤ g
  glt : g < hi
  apart : g ∉ F
theorem Var.below {W W' : World} {lo hi g : Nat} {cs : Array Value} {s : Sk} {F : List Nat} (h : Var W lo hi g cs s F) (b : Below W.heap.size W W') : Var W' lo hi g cs s F :=
  ⟨h.blk.below b, h.rd.below b, h.sz, h.own.below h.rd.lt b, h.lt, h.ge, h.glt, h.apart⟩
theorem Var.fresh {w0 w1 W : World} {cs : Array Value} {s : Sk} {F : List Nat} (r : RdSk w1 (.agg cs) s F) (o : Own w0.heap.size w1 F) (b : Below w0.heap.size w0 w1) (sz : cs.size = 7) (k : Blk W w1.heap.size cs 32) (b2 : Below w1.heap.size w1 W) : Var W w0.heap.size W.heap.size w1.heap.size cs s F :=
  ⟨k, r.below b2, sz, o.below r.lt b2, fun x hx => by have := r.lt x hx; have := b2.size; omega, b.size, k.lt, fun hx => by have := r.lt _ hx; omega⟩
theorem Var.only {W W' : World} {lo hi g lo' hi' g' : Nat} {cs ds : Array Value} {s t : Sk} {F G : List Nat} (h : Var W lo hi g cs s F) (k : Var W lo' hi' g' ds t G) (o : Only G W W') (hd : hi ≤ lo' ∨ hi' ≤ lo) : Var W' lo hi g cs s F := by
  have d : ∀ b ∈ F, b ∉ G := fun b hb hg => by have := h.lt b hb; have := h.own.ge b hb; have := k.lt b hg; have := k.own.ge b hg; omega
  have e : g ∉ G := fun hg => by have := h.ge; have := h.glt; have := k.lt g hg; have := k.own.ge g hg; omega
  exact ⟨h.blk.agree (o.block g h.blk.lt e), h.rd.agree (o.agree h.rd.lt d), h.sz, h.own.agree (o.agree h.rd.lt d), h.lt, h.ge, h.glt, h.apart⟩
theorem Var.keep {W W' : World} {lo' hi' g' : Nat} {ds : Array Value} {t : Sk} {G : List Nat} {b : Nat} {cs : Array Value} {ty : TypeId} (k : Var W lo' hi' g' ds t G) (o : Only G W W') (h : Blk W b cs ty) (hb : b < lo') : Blk W' b cs ty :=
  h.agree (o.block b h.lt (fun hg => by have := k.own.ge b hg; omega))
theorem Var.bel {w W W' : World} {lo' hi' g' : Nat} {ds : Array Value} {t : Sk} {G : List Nat} (k : Var W lo' hi' g' ds t G) (o : Only G W W') (h : Below w.heap.size w W) (hb : w.heap.size ≤ lo') : Below w.heap.size w W' :=
  o.below h h.size (fun b hg => by have := k.own.ge b hg; omega)
theorem var_stored {W : World} {lo g : Nat} {old rr : Array Value} {s : Sk} {X : List Nat} (k : Blk W g old 32) (r : RdSk W (.agg rr) s X) (sz : rr.size = 7) (o : Own lo W X) (lt : ∀ b ∈ X, b < W.heap.size) (ge : lo ≤ g) (ap : g ∉ X) : Var (W.setRow g rr) lo (W.setRow g rr).heap.size g rr s X := by
  have ag : Agree W (W.setRow g rr) X := fun b hb => setRow_other W _ b _ (fun e => ap (e ▸ hb))
  have hs : (W.setRow g rr).heap.size = W.heap.size := by simp
  exact ⟨k.setRow, r.agree ag, sz, o.agree ag, by rw [hs]; exact lt, ge, by rw [hs]; exact k.lt, ap⟩
theorem Var.mark {W W' : World} {lo hi g : Nat} {cs : Array Value} {s : Sk} {F : List Nat} {k : Int} (h : Var W lo hi g cs s F) (m : MarkedSk lo W (.agg cs) k s F W') : Var W' lo hi g cs (s.marked k) F :=
  ⟨h.blk.agree (m.only.block g h.blk.lt h.apart), m.rd, h.sz, m.own, h.lt, h.ge, h.glt, h.apart⟩
end Go.Proofs.Ytbmbmnhamogghap
