/- The walks through the helpers by which the laws draw their inputs: a cursor over the code's bytes. No statement of the seat is proved here. -/
import Derived.Test.YtjnamoppcklomaaGreatBase
import Derived.Laws.BitsAllLaws
import Derived.Deep.QuietTactic
import Derived.BigQuiet
set_option maxRecDepth 200000
set_option maxHeartbeats 16000000
namespace Go.Proofs.YtjnamoppcklomaaGreat
open Go.RowKit
structure Cur (w : World) (g : Nat) (a : Option Addr) (len cap : Nat) (zs : List Int) (i h : Int) : Prop where
 c0 : w.cell? ⟨g, 0, none⟩ = some (.slice a len cap)
 c1 : w.cell? ⟨g, 1, none⟩ = some (.int .i64 i)
 c2 : w.cell? ⟨g, 2, none⟩ = some (.int .i64 h)
 f1 : w.frozen? ⟨g, 1, none⟩ = false
 f2 : w.frozen? ⟨g, 2, none⟩ = false
 i0 : 0 ≤ i
 i1 : i ≤ len
 rd : RdB w a len zs
 ap : ∀ x, a = some x → 0 < len → x.block ≠ g
theorem and255 (z : Int) : 0 ≤ bits .and .i64 z 255 ∧ bits .and .i64 z 255 ≤ 255 := by
 have e : ((BitVec.ofInt 64 z) &&& (BitVec.ofInt 64 255)).toNat ≤ 255 := by
  rw [BitVec.toNat_and]
  exact Nat.le_trans Nat.and_le_right (by decide)
 have h : bits .and .i64 z 255 = IntKind.i64.wrap (((BitVec.ofInt 64 z) &&& (BitVec.ofInt 64 255)).toNat : Int) := rfl
 rw [h]
 generalize ((BitVec.ofInt 64 z) &&& (BitVec.ofInt 64 255)).toNat = c at e
 simp [IntKind.wrap, IntKind.bits, IntKind.signed]
 omega
theorem grown_set (w : World) (g j : Nat) (v : Value) : w.grownBy (w.setCell ⟨g, j, none⟩ v) (some g) :=
 ⟨rfl, rfl, rfl, by simp, fun k _ hk => Below.heap_setCell w ⟨g, j, none⟩ v k (fun e => hk (by simp [e]))⟩
theorem grown_tr {a b c : World} {row : Option Nat} (h : a.grownBy b row) (k : b.grownBy c row) : a.grownBy c row :=
 ⟨k.os.trans h.os, k.tape.trans h.tape, k.output.trans h.output, Nat.le_trans h.size k.size, fun j hj hr => (k.block j (Nat.lt_of_lt_of_le hj h.size) hr).trans (h.block j hj hr)⟩
theorem grown_drewN {w w' : World} {row : Option Nat} (n : Nat) (h : w.grownBy w' row) : w.grownBy (w'.drewN n) row := ⟨h.os, h.tape, h.output, h.size, h.block⟩
theorem Cur.drewN {w : World} {g : Nat} {a : Option Addr} {len cap : Nat} {zs : List Int} {i h : Int} (C : Cur w g a len cap zs i h) (n : Nat) : Cur (w.drewN n) g a len cap zs i h :=
 ⟨C.c0, C.c1, C.c2, C.f1, C.f2, C.i0, C.i1, ⟨C.rd.length, C.rd.range, C.rd.cells⟩, C.ap⟩
theorem RdB.set {w : World} {g j : Nat} {a : Option Addr} {len : Nat} {zs : List Int} (h : RdB w a len zs) (ap : ∀ x, a = some x → 0 < len → x.block ≠ g) (v : Value) : RdB (w.setCell ⟨g, j, none⟩ v) a len zs := by
 refine ⟨h.length, h.range, ?_⟩
 rcases h.cells with h0 | ⟨b, off, ha, hc⟩
 ·
  exact .inl h0
 ·
  refine .inr ⟨b, off, ha, fun i hi => ?_⟩
  have hne : b ≠ g := ap _ ha (by omega)
  rw [World.cell?_setCell_other _ _ _ _ (by intro e; simp only [Addr.mk.injEq] at e; exact hne e.1.symm)]
  exact hc i hi
theorem Cur.seth {w : World} {g : Nat} {a : Option Addr} {len cap : Nat} {zs : List Int} {i h : Int} (C : Cur w g a len cap zs i h) (H : Int) : Cur (w.setCell ⟨g, 2, none⟩ (.int .i64 H)) g a len cap zs i H := by
 refine ⟨?_, ?_, ?_, ?_, ?_, C.i0, C.i1, C.rd.set C.ap _, C.ap⟩
 ·
  rw [World.cell?_setCell_other _ _ _ _ (by simp)]; exact C.c0
 ·
  rw [World.cell?_setCell_other _ _ _ _ (by simp)]; exact C.c1
 ·
  exact World.cell?_setCell_same _ _ _ C.c2
 ·
  exact (World.frozen?_setCell _ _ _ _).trans C.f1
 ·
  exact (World.frozen?_setCell _ _ _ _).trans C.f2
theorem Cur.seti {w : World} {g : Nat} {a : Option Addr} {len cap : Nat} {zs : List Int} {i h : Int} (C : Cur w g a len cap zs i h) (j : Int) (h0 : 0 ≤ j) (h1 : j ≤ len) : Cur (w.setCell ⟨g, 1, none⟩ (.int .i64 j)) g a len cap zs j h := by
 refine ⟨?_, ?_, ?_, ?_, ?_, h0, h1, C.rd.set C.ap _, C.ap⟩
 ·
  rw [World.cell?_setCell_other _ _ _ _ (by simp)]; exact C.c0
 ·
  exact World.cell?_setCell_same _ _ _ C.c1
 ·
  rw [World.cell?_setCell_other _ _ _ _ (by simp)]; exact C.c2
 ·
  exact (World.frozen?_setCell _ _ _ _).trans C.f1
 ·
  exact (World.frozen?_setCell _ _ _ _).trans C.f2
theorem l1Byte_any (g : Nat) (a : Option Addr) (len cap : Nat) (zs : List Int) (i h : Int) (w : World) (C : Cur w g a len cap zs i h) (hlen : len ≤ 1048576) :
 Calls Tryz.prog 95 #[.pointer (some ⟨g, 0, none⟩)] w fun e w' => ∃ x i' h', e = .returned (.int .i64 x) ∧ 0 ≤ x ∧ x ≤ 255 ∧ Cur w' g a len cap zs i' h' ∧ w.grownBy w' (some g) := by
 have HC : Hid (Cur w g a len cap zs i h) := C
 obtain ⟨c0, c1, c2, f1, f2, i0, i1, rd, ap⟩ := C
 obtain ⟨k, rfl⟩ := Int.eq_ofNat_of_zero_le i0
 have hk : k ≤ len := by omega
 have Hrd : Hid (RdB w a len zs) := rd
 have Hap : Hid (∀ x, a = some x → 0 < len → x.block ≠ g) := ap
 clear ap i0 i1
 by_cases hlt : k < len
 ·
  obtain ⟨b, off, rfl, hc⟩ : ∃ b off, a = some ⟨b, off, none⟩ ∧ ∀ i, i < len → w.cell? ⟨b, off + i, none⟩ = some (.int .u8 (zs.getD i 0)) := by
   rcases rd.cells with h0 | h0
   ·
    omega
   ·
    exact h0
  have hne : ¬ b = g := Hap.out _ rfl (by omega)
  have hck := hc k hlt
  have hb := getD_range rd.range k
  clear rd hc
  go_enter Tryz.func95, Tryz.ntmps95
  go_wp2
  generalize wrap64 (wrap64 (h * 6364136223846793005) + 1442695040888963407) = H
  go_quiet (fail)
  go_wp2
  generalize bits BinOp.and IntKind.i64 (bits BinOp.xor IntKind.i64 (H / 8589934592) (H / 35184372088832)) 255 = x
  go_quiet (fail)
  go_wp2
  go_quiet (fail)
  go_wp2
  go_ret
  exact ⟨_, (k : Int) + 1, H, rfl, (and255 _).1, (and255 _).2, ((HC.out.seth H).drewN _).seti _ (by omega) (by omega), grown_tr (grown_drewN _ (grown_set _ _ _ _)) (grown_set _ _ _ _)⟩
 ·
  have hge : decide ((k : Int) < (len : Int)) = false := by simp; omega
  clear rd
  go_enter Tryz.func95, Tryz.ntmps95
  go_wp2
  generalize wrap64 (wrap64 (h * 6364136223846793005) + 1442695040888963407) = H
  go_quiet (fail)
  go_wp2
  have hx := and255 (bits BinOp.xor IntKind.i64 (H / 8589934592) (H / 35184372088832))
  generalize bits BinOp.and IntKind.i64 (bits BinOp.xor IntKind.i64 (H / 8589934592) (H / 35184372088832)) 255 = x at hx
  go_quiet (fail)
  go_wp2
  go_ret
  exact ⟨x, k, H, rfl, hx.1, hx.2, ((HC.out.seth H).drewN _).drewN _, grown_drewN _ (grown_drewN _ (grown_set _ _ _ _))⟩
theorem l1Below_any (g : Nat) (a : Option Addr) (len cap : Nat) (zs : List Int) (i h : Int) (n : Int) (w : World) (C : Cur w g a len cap zs i h) (hlen : len ≤ 1048576) (hn : 0 < n) (hn' : n ≤ 2147483647) :
 Calls Tryz.prog 57 #[.pointer (some ⟨g, 0, none⟩), .int .i64 n] w fun e w' => ∃ x i' h', e = .returned (.int .i64 x) ∧ 0 ≤ x ∧ x < n ∧ Cur w' g a len cap zs i' h' ∧ w.grownBy w' (some g) := by
 have HC : Hid (Cur w g a len cap zs i h) := C
 have hd : decide (n ≤ 0) = false := by simp; omega
 clear C
 by_cases hs : n ≤ 256
 ·
  go_enter Tryz.func57, Tryz.ntmps57
  go_wp2_with fail
  refine (l1Byte_any g a len cap zs i h _ HC.out hlen).mono ?_
  rintro e w1 ⟨x, i', h', rfl, hx0, hx1, C1, g1⟩
  have HC1 : Hid (Cur w1 g a len cap zs i' h') := C1
  clear C1
  go_wp2
  go_ret
  exact ⟨x % n, i', h', rfl, Int.emod_nonneg _ (by omega), Int.emod_lt_of_pos _ (by omega), HC1.out, g1⟩
 ·
  have hd2 : decide (n ≤ 256) = false := by simp; omega
  go_enter Tryz.func57, Tryz.ntmps57
  go_wp2_with fail
  refine (l1Byte_any g a len cap zs i h _ HC.out hlen).mono ?_
  rintro e w1 ⟨x1, i1, h1, rfl, hx10, hx11, C1, g1⟩
  go_wp2_with fail
  refine (l1Byte_any g a len cap zs i1 h1 _ C1 hlen).mono ?_
  rintro e w2 ⟨x2, i2, h2, rfl, hx20, hx21, C2, g2⟩
  have g2 := grown_tr g1 g2
  clear C1 g1
  go_wp2_with fail
  refine (l1Byte_any g a len cap zs i2 h2 _ C2 hlen).mono ?_
  rintro e w3 ⟨x3, i3, h3, rfl, hx30, hx31, C3, g3⟩
  have g3 := grown_tr g2 g3
  clear C2 g2
  go_wp2_with fail
  refine (l1Byte_any g a len cap zs i3 h3 _ C3 hlen).mono ?_
  rintro e w4 ⟨x4, i4, h4, rfl, hx40, hx41, C4, g4⟩
  have g4 := grown_tr g3 g4
  have HC4 : Hid (Cur w4 g a len cap zs i4 h4) := C4
  clear C3 g3 C4
  go_wp2
  go_ret
  exact ⟨_, i4, h4, rfl, Int.emod_nonneg _ (by omega), Int.emod_lt_of_pos _ (by omega), HC4.out, g4⟩
theorem cur_new (w : World) (a : Option Addr) (len cap : Nat) (zs : List Int) (H : Int) (T : TypeId) (hR : RdB w a len zs) : Cur (w.alloc (.cells #[.slice a len cap, .int .i64 0, .int .i64 H] T)) w.heap.size a len cap zs 0 H := by
 refine ⟨by simp [go_sem], by simp [go_sem], by simp [go_sem], by simp [go_sem], by simp [go_sem], by omega, by omega, hR.below ((Below.refl _ _).alloc (Nat.le_refl _) _), fun x hx hl => ?_⟩
 rcases hR.cells with h0 | ⟨b, off, ha, hc⟩
 ·
  omega
 ·
  rw [hx] at ha
  cases ha
  have := World.block_lt_of_cell? _ _ (hc 0 hl)
  simp at this
  exact fun e => by simp at e; omega
theorem Cur.below {w w' : World} {g : Nat} {a : Option Addr} {len cap : Nat} {zs : List Int} {i h : Int} (C : Cur w g a len cap zs i h) (hb : Below w.heap.size w w') : Cur w' g a len cap zs i h := by
 have hg : g < w.heap.size := World.block_lt_of_cell? _ _ C.c0
 exact ⟨(hb.cell (p := ⟨g, 0, none⟩) hg).trans C.c0, (hb.cell (p := ⟨g, 1, none⟩) hg).trans C.c1, (hb.cell (p := ⟨g, 2, none⟩) hg).trans C.c2, (hb.frozen (p := ⟨g, 1, none⟩) hg).trans C.f1, (hb.frozen (p := ⟨g, 2, none⟩) hg).trans C.f2, C.i0, C.i1, C.rd.below hb, C.ap⟩
theorem Cur.alloc {w : World} {g : Nat} {a : Option Addr} {len cap : Nat} {zs : List Int} {i h : Int} (C : Cur w g a len cap zs i h) (o : Obj) : Cur (w.alloc o) g a len cap zs i h :=
 C.below ((Below.refl _ _).alloc (Nat.le_refl _) _)
theorem l1New_any (a : Option Addr) (len cap : Nat) (zs : List Int) (w : World) (hR : RdB w a len zs) (hlen : len ≤ 1048576) :
 Calls Tryz.prog 24 #[.slice a len cap] w fun e w' => e = .returned (.pointer (some ⟨w.heap.size, 0, none⟩)) ∧ (∃ h, Cur w' w.heap.size a len cap zs 0 h) ∧ Below w.heap.size w w' := by
 have HR : Hid (RdB w a len zs) := hR
 rcases hR.cells with h0 | ⟨b, off, rfl, hc⟩
 ·
  subst h0
  clear hR
  go_enter Tryz.func24, Tryz.ntmps24
  go_wp2
  refine wp_loop_rounds 1 ?_
  rw [rounds_succ]
  go_wp2
  go_ret
  exact ⟨rfl, ⟨_, cur_new _ _ _ _ _ _ _ HR.out⟩, (Below.refl _ _).alloc (Nat.le_refl _) _⟩
 ·
  clear hR
  go_enter Tryz.func24, Tryz.ntmps24
  go_wp2
  go_loop [3, 4] (fun s i => ∃ (q H : Int), 0 ≤ q ∧ q ≤ len ∧ i = .int .i64 q ∧ s = .int .i64 H) (fun _ i => len - (intOf i).toNat)
  case atStart => exact ⟨0, _, by omega, by omega, rfl, rfl⟩
  case round =>
   obtain ⟨q, H, hq0, hq, rfl, rfl⟩ := hrel
   by_cases hlt : q < (len : Int)
   ·
    have hck := hc q.toNat (by omega)
    by_cases h4 : q < 4000
    ·
     go_wp2
     go_round
     case rel => exact ⟨q + 1, _, by omega, by omega, by go_num, rfl⟩
     case measure => simp [intOf]; omega
    ·
     have h4' : decide (q < 4000) = false := by simpa using h4
     go_wp2
     go_ret
     exact ⟨rfl, ⟨_, cur_new _ _ _ _ _ _ _ HR.out⟩, (Below.refl _ _).alloc (Nat.le_refl _) _⟩
   ·
    have hge : decide (q < (len : Int)) = false := by simpa using hlt
    go_wp2
    go_ret
    exact ⟨rfl, ⟨_, cur_new _ _ _ _ _ _ _ HR.out⟩, (Below.refl _ _).alloc (Nat.le_refl _) _⟩
end Go.Proofs.YtjnamoppcklomaaGreat
