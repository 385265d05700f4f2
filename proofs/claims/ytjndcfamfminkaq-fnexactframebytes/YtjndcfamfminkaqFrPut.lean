/- The walks through the model's l7Put, l7Nums and SketchBytes. No statement of the seat is proved here. -/
import Derived.Test.YtjndcfamfminkaqFrModel
import Derived.Test.YtjndcfamfminkaqPutNum
import Derived.Test.YtjndcfamfminkaqSkCopy
namespace Go.Proofs.Ytjndcfamfminkaq
open Go.RowKit
def putAll (zs : List Int) : List Int := (zs.map encOf).flatten
def InN (n : Int) : Prop := 0 ≤ n ∧ n ≤ 2147483647
theorem putAll_take (zs : List Int) (k : Nat) (hk : k < zs.length) : putAll (zs.take (k + 1)) = putAll (zs.take k) ++ encOf (zs.getD k 0) := by
  unfold putAll
  rw [take_snoc zs 0 k hk, List.map_append, List.flatten_append]
  simp
theorem putAll_app (xs ys : List Int) : putAll (xs ++ ys) = putAll xs ++ putAll ys := by simp [putAll]
theorem putAll_len (zs : List Int) : (putAll zs).length ≤ 5 * zs.length := by
  induction zs with
  | nil => simp [putAll]
  | cons a l ih =>
    have h := encOf_len a
    have e : putAll (a :: l) = encOf a ++ putAll l := by simp [putAll]
    rw [e, List.length_append, List.length_cons]
    omega
theorem putAll_range (zs : List Int) : ∀ x ∈ putAll zs, 0 ≤ x ∧ x ≤ 255 := by
  intro x hx
  unfold putAll at hx
  rw [List.mem_flatten] at hx
  obtain ⟨l, hl, hx⟩ := hx
  rw [List.mem_map] at hl
  obtain ⟨n, _, rfl⟩ := hl
  exact encOf_range n x hx
theorem encOf_pos {n : Int} (h : InN n) : 0 < (encOf n).length := by
  unfold encOf
  rw [if_pos (show 0 ≤ n ∧ n ≤ 2147483647 from h)]
  by_cases q : n.toNat < 128
  · rw [encN_small _ q]; simp
  · rw [encN_big _ q]; simp
theorem own_shape7 {w : World} {base e n : Nat} {v : Value} {xs : List Value} (h : w.ownsRow base e 1 v n xs) (hn : 0 < n) : ∃ g cap, v = .slice (some ⟨g, 0, none⟩) n cap ∧ n ≤ cap := by
  rcases h.2 with ⟨_, h0⟩ | ⟨g, cap, cur, h1, _, _, h2, _⟩
  · omega
  · exact ⟨g, cap, h1, h2⟩
theorem own_news {w : World} {B e g n cap : Nat} {xs : List Value} (h : w.ownsRow B e 1 (.slice (some ⟨g, 0, none⟩) n cap) n xs) : ∀ j u, xs[j]? = some u → w.cell? ((⟨g, 0, none⟩ : Addr).add j) = some u := h.cells rfl
theorem u8_one (zs : List Int) : ∀ u ∈ zs.map (Value.int .u8), u.oneCell' = true := by
  intro u hu
  rw [List.mem_map] at hu
  obtain ⟨n, _, rfl⟩ := hu
  rfl
set_option maxRecDepth 100000 in
set_option maxHeartbeats 4000000 in
theorem l7Put_any (a : Option Addr) (len cap : Nat) (zs : List Int) (F : List Nat) (w : World) (h : RdI w a len zs F) (hr : ∀ z ∈ zs, InN z) (hlen : len ≤ 1048576) :
    Calls Try.prog 41 #[.slice a len cap] w fun e w' => ∃ v, e = .returned v ∧ w'.ownsRow w.heap.size 5 1 v (putAll zs).length ((putAll zs).map (Value.int .u8)) ∧ Below w.heap.size w w' := by
  obtain ⟨i0, hi, hz0, hz1, hz2⟩ := info_parts Try.info5
  have HL : Hid (zs.length = len ∧ RdI w a len zs F ∧ ∀ z ∈ zs, InN z) := ⟨h.length, h, hr⟩
  clear h hr
  go_enter Try.func41, Try.ntmps41
  go_wp2
  go_loopw [3, 4] (fun v i wr => ∃ (k : Nat), k ≤ len ∧ i = .int .i64 k ∧ Hid (wr.ownsRow w.heap.size 5 1 v (putAll (zs.take k)).length ((putAll (zs.take k)).map (Value.int .u8))) ∧ Hid (Below w.heap.size w wr)) (fun _ i _ => len - (intOf i).toNat)
  case atStart => exact ⟨0, by omega, rfl, own_empty w _, (Below.refl _ _).alloc (Nat.le_refl _) _⟩
  case round =>
    obtain ⟨k, hk, rfl, HO, HB⟩ := hrel
    by_cases hlt : k < len
    · rcases (HL.out.2.1.below HB.out).cells with ⟨h0, _⟩ | ⟨b, off, _, rfl, _, hc⟩
      · omega
      have hkl : k < zs.length := by rw [HL.out.1]; exact hlt
      obtain ⟨y, hy⟩ : ∃ y, y = zs.getD k 0 := ⟨_, rfl⟩
      have d := hc k hlt
      rw [← hy] at d
      have HY : Hid (y = zs.getD k 0 ∧ k < zs.length) := ⟨hy, hkl⟩
      have HN : Hid (InN y) := HL.out.2.2 y (by rw [hy, List.getD_eq_getElem?_getD, List.getElem?_eq_getElem hkl]; exact List.getElem_mem hkl)
      have hI : (k : Int) < (len : Int) := by omega
      clear hc hy
      go_wp2_with fail
      refine (putSpec_any y _ (by have := HN.out.1; omega) (by have := HN.out.2; omega)).mono ?_
      rintro e w1 ⟨v1, rfl, hown1, hb1⟩
      obtain ⟨g1, cap1, hv1, _⟩ := own_shape7 hown1 (encOf_pos HN.out)
      have hv1' := hv1.symm
      subst hv1'
      have H1 : Hid (w1.ownsRow w.heap.size 5 1 u3 (putAll (zs.take k)).length ((putAll (zs.take k)).map (Value.int .u8)) ∧ Below w.heap.size w w1) := ⟨ownsRow_below HO.out hb1, Below.next HB.out hb1⟩
      have HE : Hid (∀ j u, ((encOf y).map (Value.int .u8))[j]? = some u → w1.cell? ((⟨g1, 0, none⟩ : Addr).add j) = some u) := own_news hown1
      have hl1 := putAll_len (zs.take k)
      have hl2 := encOf_len y
      have hl3 : (zs.take k).length ≤ k := by rw [List.length_take]; omega
      clear hown1 hb1 hv1 d HB HO
      go_wp2_with (first | go_skip | (with_reducible refine stopAppend rfl ?_))
      refine Stop.intro (wpList_append_own _ rfl _ _ 27 rfl w.heap.size 5 i0 (.int .u8 0) 1 1 Try.underlying27 hi hz0 hz1 hz2 rfl (by decide) _ _ _ rfl H1.out.1 ⟨g1, 0, none⟩ (encOf y).length cap1 ((encOf y).map (Value.int .u8)) rfl (by simp) HE.out (u8_one _) (by unfold maxLen; omega) (by omega) H1.out.2.size ?_)
      intro v2 w2 hown hgrow _
      have HO3 : Hid (w2.ownsRow w.heap.size 5 1 v2 (putAll (zs.take (k + 1))).length ((putAll (zs.take (k + 1))).map (Value.int .u8))) := by
        rw [putAll_take zs k HY.out.2, ← HY.out.1, List.length_append, List.map_append]
        exact hown
      have HB3 : Hid (Below w.heap.size w w2) := H1.out.2.grown hgrow H1.out.2.size (fun g hg => (H1.out.1.lt g hg).1)
      clear hown hgrow H1 HE hl1 hl2 hl3
      go_wp2
      go_roundw
      case rel => exact ⟨k + 1, by omega, by go_num, HO3, HB3⟩
      case measure => simp [intOf]; omega
    · obtain rfl : k = len := by omega
      have HV : Hid (zs.take k = zs) := List.take_of_length_le (by rw [HL.out.1]; omega)
      rw [HV.out] at HO
      go_wp2
      go_ret
      exact ⟨_, rfl, HO.out, HB.out⟩
end Go.Proofs.Ytjndcfamfminkaq
