/- The walk through the model's SketchBytes. No statement of the seat is proved here. -/
import Derived.Test.YtjndcfamfminkaqFrNums
namespace Go.Proofs.Ytjndcfamfminkaq
open Go.RowKit
def Sk.bytes (s : Sk) : List Int := if s.ok = true then putAll s.nums else []
set_option maxRecDepth 100000 in
set_option maxHeartbeats 4000000 in
theorem sketchBytesSpec_any (v : Value) (s : Sk) (F : List Nat) (w : World) (h : RdSk w v s F) (hw : s.wide) :
    Calls Try.prog 10 #[v] w fun e w' => ∃ u, e = .returned u ∧ w'.ownsRow w.heap.size 5 1 u s.bytes.length (s.bytes.map (Value.int .u8)) ∧ Below w.heap.size w w' := by
  obtain ⟨cs, rfl, hc7⟩ : ∃ cs, v = .agg cs ∧ cs.size = 7 := by
    obtain ⟨a1, n1, c1, a2, n2, c2, a3, n3, c3, F1, F2, F3, rfl, _⟩ := h
    exact ⟨_, rfl, rfl⟩
  have HH : Hid (RdSk w (.agg cs) s F ∧ s.wide) := ⟨h, hw⟩
  have HT : Hid (Blk (w.alloc (.cells cs 29)) w.heap.size cs 29 ∧ Below w.heap.size w (w.alloc (.cells cs 29))) := ⟨Blk.made _ _ _, (Below.refl _ _).alloc (Nat.le_refl _) _⟩
  have hsz : (Try.prog.info? 29).map (·.size) = some cs.size := by rw [hc7]; exact infoSkI
  clear h hw
  go_enter Try.func10, Try.ntmps10
  go_wp2_with (first | go_skip | (with_reducible refine stopLoad 29 rfl ?_))
  refine load_known 29 w.heap.size cs 29 _ HT.out.1 rfl rfl rfl Try.underlying29 rfl hsz ?_
  go_wp2_with fail
  refine (okSpec_any _ s F _ (HH.out.1.below HT.out.2) HH.out.2).mono ?_
  rintro e w1 ⟨rfl, hb1⟩
  have HT1 : Hid (Blk w1 w.heap.size cs 29 ∧ Below w.heap.size w w1) := ⟨HT.out.1.below hb1, Below.next HT.out.2 hb1⟩
  obtain ⟨d, hd⟩ : ∃ d, d = s.ok := ⟨_, rfl⟩
  rw [← hd]
  have HD : Hid (d = s.ok) := hd
  clear hb1 HT hd
  cases d
  · have HV : Hid (s.bytes = []) := by show _ = _; unfold Sk.bytes; rw [← HD.out]; rfl
    have HE : Hid ((w1.alloc (.cells #[] 5)).ownsRow w1.heap.size 5 1 (.slice (some ⟨w1.heap.size, 0, none⟩) 0 0) 0 []) := own_empty w1 _
    go_wp2
    go_ret
    rw [HV.out]
    exact ⟨_, rfl, own_mono7 HE.out HT1.out.2.size, Below.next HT1.out.2 ((Below.refl _ _).alloc (Nat.le_refl _) _)⟩
  have HL : Hid (s.lens7 ∧ (∀ x ∈ s.nums, InN x) ∧ s.bytes = putAll s.nums) := ⟨(Sk.ok_lens HD.out.symm).1, (Sk.ok_lens HD.out.symm).2, by unfold Sk.bytes; rw [← HD.out]; rfl⟩
  go_wp2_with (first | go_skip | (with_reducible refine stopLoad 29 rfl ?_))
  refine load_known 29 w.heap.size cs 29 _ HT1.out.1 rfl rfl rfl Try.underlying29 rfl hsz ?_
  go_wp2_with fail
  refine (l7Nums_any _ s F _ (HH.out.1.below HT1.out.2) HL.out.1).mono ?_
  rintro e w2 ⟨u, rfl, hown, hb2⟩
  obtain ⟨a, cap, G, rfl, hr, _⟩ := rdI_of_own hown
  have HR2 : Hid (RdI w2 a s.nums.length s.nums G ∧ Below w.heap.size w w2) := ⟨hr, Below.next HT1.out.2 hb2⟩
  have hn : s.nums.length = 28 := by
    have e : s.numsTo 2 = s.nums := by
      unfold Sk.numsTo Sk.nums
      rw [List.take_of_length_le (by rw [HL.out.1.rows]; omega)]
    rw [← e, numsTo_len HL.out.1 (by omega)]
  clear hown hb2 hr
  rw [hn] at HR2 ⊢
  have HP : Hid ((∀ x ∈ s.nums, InN x) ∧ s.bytes = putAll s.nums) := HL.out.2
  clear HL hn
  generalize s.nums = N at HR2 HP
  go_wp2_with fail
  refine (l7Put_any a 28 cap N G _ HR2.out.1 HP.out.1 (by omega)).mono ?_
  rintro e w3 ⟨u3, rfl, hown, hb3⟩
  have h3 : w3.ownsRow w.heap.size 5 1 u3 s.bytes.length (s.bytes.map (Value.int .u8)) := by
    rw [HP.out.2]
    exact own_mono7 hown HR2.out.2.size
  have HR3 : Hid (w3.ownsRow w.heap.size 5 1 u3 s.bytes.length (s.bytes.map (Value.int .u8)) ∧ Below w.heap.size w w3) := ⟨h3, Below.next HR2.out.2 hb3⟩
  clear hown hb3 h3
  go_wp2
  go_ret
  exact ⟨_, rfl, HR3.out⟩
end Go.Proofs.Ytjndcfamfminkaq
