/- The walks through the model's SetJoin. No statement of the seat is proved here. -/
import Derived.Test.YtjnamoppcklomaaGreatSpJoin
namespace Go.Proofs.YtjnamoppcklomaaGreat
open Go.RowKit
theorem Sp.at_mem {ps : Sp} {k : Nat} (hk : k < ps.length) : ps.at k ∈ ps := by
  unfold Sp.at
  rw [List.getElem?_eq_getElem hk]
  exact List.getElem_mem hk
theorem inb_iff {ps : Sp} : (∀ k, k < ps.length → InB (ps.at k)) ↔ ∀ p ∈ ps, InB p := by
  constructor
  · intro h p hp
    obtain ⟨k, hk, rfl⟩ := List.getElem_of_mem hp
    have := h k hk
    unfold Sp.at at this
    rw [List.getElem?_eq_getElem hk] at this
    exact this
  · exact fun h k hk => h _ (Sp.at_mem hk)
theorem put_inb : ∀ {ps : Sp} {x : Int × Int} {d : Bool}, (∀ p ∈ ps, InB p) → InB x → ∀ p ∈ put ps x d, InB p
  | [], x, d, _, hx, p, hp => by
    cases d <;> simp [put] at hp
    subst hp; exact hx
  | q :: ps, x, d, h, hx, p, hp => by
    have hq := h q (by simp)
    have hr : ∀ p ∈ ps, InB p := fun p hp => h p (by simp [hp])
    rw [put] at hp
    split at hp
    · rcases List.mem_cons.1 hp with rfl | hp
      · exact hq
      · exact put_inb hr hx p hp
    · split at hp
      · rcases List.mem_append.1 hp with hp | hp
        · cases d <;> simp at hp
          subst hp; exact hx
        · rcases List.mem_cons.1 hp with rfl | hp
          · exact hq
          · exact put_inb hr hx p hp
      · exact put_inb hr (by unfold InB at hq hx ⊢; simp only; omega) p hp
def joinTo (ps qs : Sp) (k : Nat) : Sp := (qs.take k).foldl (fun o q => put o q false) ps
theorem joinTo_zero (ps qs : Sp) : joinTo ps qs 0 = ps := by simp [joinTo]
theorem joinTo_succ {ps qs : Sp} {k : Nat} (hk : k < qs.length) : joinTo ps qs (k + 1) = put (joinTo ps qs k) (qs.at k) false := by
  unfold joinTo
  rw [takeP_succ qs k hk, List.foldl_append]
  rfl
theorem joinTo_inb {ps qs : Sp} (h1 : ∀ p ∈ ps, InB p) (h2 : ∀ p ∈ qs, InB p) : ∀ k, k ≤ qs.length → ∀ p ∈ joinTo ps qs k, InB p
  | 0, _ => by rw [joinTo_zero]; exact h1
  | k + 1, hk => by
    rw [joinTo_succ (by omega)]
    exact put_inb (joinTo_inb h1 h2 k (by omega)) (h2 _ (Sp.at_mem (by omega)))
theorem joinTo_length {ps qs : Sp} : ∀ k, k ≤ qs.length → (joinTo ps qs k).length ≤ ps.length + k
  | 0, _ => by rw [joinTo_zero]; omega
  | k + 1, hk => by
    rw [joinTo_succ (by omega)]
    have := put_length (joinTo ps qs k) (qs.at k) false
    have := joinTo_length (ps := ps) (qs := qs) k (by omega)
    omega
def Sp.join (ps qs : Sp) : Sp := if (ps.ok && qs.ok) = true then joinTo ps qs qs.length else []
theorem Sp.join_not {ps qs : Sp} (h : (ps.ok && qs.ok) = false) : ps.join qs = [] := by unfold Sp.join; rw [h]; rfl
theorem Sp.join_yes {ps qs : Sp} (h1 : ps.ok = true) (h2 : qs.ok = true) : ps.join qs = joinTo ps qs qs.length := by unfold Sp.join; rw [h1, h2]; rfl
set_option maxRecDepth 200000 in
set_option maxHeartbeats 2000000 in
theorem l5Join_any (a b : Option Addr) (la lb ca cb : Nat) (ps qs : Sp) (F G : List Nat) (w : World) (h : RdP w a la ps F) (k : RdP w b lb qs G) (hlen : la + lb ≤ 2097152) (hn : a = none → ca = 0) (h1 : ∀ p ∈ ps, InB p) (h2 : ∀ p ∈ qs, InB p) :
    Calls Tryz.prog 73 #[.slice a la ca, .slice b lb cb] w fun e w' => NewP w (joinTo ps qs qs.length) e w' := by
  have HL : Hid (ps.length = la ∧ qs.length = lb) := ⟨h.length, k.length⟩
  have HR : Hid (RdP w a la ps F ∧ RdP w b lb qs G) := ⟨h, k⟩
  have HI : Hid ((∀ p ∈ ps, InB p) ∧ (∀ p ∈ qs, InB p) ∧ (a = none → ca = 0)) := ⟨h1, h2, hn⟩
  clear h k h1 h2 hn
  go_enter Tryz.func73, Tryz.ntmps73
  go_wp2_with fail
  refine (l5Copy_any a la ca ps F _ HR.out.1 (by omega) HI.out.2.2).mono ?_
  rintro e w1 ⟨a', l', c', F', rfl, g1, g2, g3, g4⟩
  have HE : Hid (RdP w1 a' l' (joinTo ps qs 0) F' ∧ Own w.heap.size w1 F' ∧ Below w.heap.size w w1 ∧ Capd a' l' c') := ⟨by rw [joinTo_zero]; exact g1, g2, g3, g4⟩
  have HCB : Hid (lb = 0 ∨ ∃ b1 o1, b = some ⟨b1, o1, none⟩ ∧ b1 < w.heap.size ∧ SpCells w b1 o1 lb qs) := by
    rcases HR.out.2.cells with ⟨h0, _⟩ | ⟨b1, o1, hp, e, _, hc⟩
    · exact .inl h0
    · exact .inr ⟨b1, o1, e, World.block_lt_of_cell? _ _ (hc 0 hp).1, hc⟩
  clear g1 g2 g3 g4 HR
  go_wp2
  go_loopw [5, 6] (fun v i wr => ∃ (k : Nat) (a' : Option Addr) (l' c' : Nat) (F' : List Nat), k ≤ lb ∧ i = .int .i64 k ∧ v = .slice a' l' c' ∧ Hid (RdP wr a' l' (joinTo ps qs k) F' ∧ Own w.heap.size wr F' ∧ Below w.heap.size w wr ∧ Capd a' l' c')) (fun _ i _ => lb - (intOf i).toNat)
  case atStart => exact ⟨0, a', l', c', F', by omega, rfl, rfl, HE⟩
  case round =>
    clear HE
    obtain ⟨k, a', l', c', F', hk, rfl, rfl, HE⟩ := hrel
    by_cases hlt : k < lb
    · have hcb := HCB.out
      rcases hcb with h0 | ⟨b1, o1, rfl, hbw, hc⟩
      · omega
      obtain ⟨x, hx⟩ : ∃ x, x = (qs.at k).1 := ⟨_, rfl⟩
      obtain ⟨y, hy⟩ : ∃ x, x = (qs.at k).2 := ⟨_, rfl⟩
      have e := hc k hlt
      have HXY : Hid (qs.at k = (x, y)) := by rw [hx, hy]; rfl
      rw [HXY.out] at e
      have d1 : wr.cell? ⟨b1, o1 + k * 2, none⟩ = some (.int .i64 x) := (HE.out.2.2.1.cell (by exact hbw)).trans e.1
      have d2 : wr.cell? ⟨b1, o1 + k * 2 + 1, none⟩ = some (.int .i64 y) := (HE.out.2.2.1.cell (by exact hbw)).trans e.2
      have hql : k < qs.length := by rw [HL.out.2]; exact hlt
      clear e hx hy hc
      go_wp2_with fail
      refine (l5Put_any a' l' c' (joinTo ps qs k) (x, y) F' _ HE.out.1 (by have := joinTo_length (ps := ps) (qs := qs) k (by omega); rw [HE.out.1.length, HL.out.1] at this; omega) (fun j hj => inb_iff.2 (joinTo_inb HI.out.1 HI.out.2.1 k (by omega)) j (by rw [HE.out.1.length]; exact hj)) (by rw [← HXY.out]; exact HI.out.2.1 _ (Sp.at_mem hql))).mono ?_
      rintro e w2 ⟨a2, l2, c2, F2, rfl, g1, g2, g3, g4⟩
      have HE2 : Hid (RdP w2 a2 l2 (joinTo ps qs (k + 1)) F2 ∧ Own w.heap.size w2 F2 ∧ Below w.heap.size w w2 ∧ Capd a2 l2 c2) := ⟨by rw [joinTo_succ hql, HXY.out]; exact g1, g2.mono HE.out.2.2.1.size, Below.next HE.out.2.2.1 g3, g4⟩
      clear g1 g2 g3 g4 HE
      go_wp2
      go_roundw
      case rel => exact ⟨k + 1, a2, l2, c2, F2, by omega, by go_num, rfl, HE2⟩
      case measure => simp [intOf]; omega
    · obtain rfl : k = lb := by omega
      go_wp2
      go_ret
      refine ⟨a', l', c', F', rfl, ?_, HE.out.2⟩
      rw [HL.out.2]
      exact HE.out.1
end Go.Proofs.YtjnamoppcklomaaGreat
