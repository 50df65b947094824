/- image.add: a number behind bytes. -/
import Derived.Test.YtalfelkblbbmpaaDoorIa
namespace Go.Proofs.YtalfelkblbbmpaaDoor
open Go.RowKit
namespace Ix
open Nx

/-- where the row lies then: where it lay, or in a block that is new -/
def AtNew (w : World) (v v' : Value) : Prop := v'.ownBlock = v.ownBlock ∨ ∃ g, v'.ownBlock = some g ∧ w.heap.size ≤ g
theorem grown_trans {w w1 w2 : World} {v v1 : Value} (h : w.grownBy w1 v.ownBlock) (ha : AtNew w v v1) (k : w1.grownBy w2 v1.ownBlock) : w.grownBy w2 v.ownBlock :=
  ⟨k.os.trans h.os, k.tape.trans h.tape, k.output.trans h.output, Nat.le_trans h.size k.size, fun b hb hne => by
    rw [k.block b (Nat.lt_of_lt_of_le hb h.size) (fun e => by
      rcases ha with ha | ⟨g, hg, hs⟩
      · exact hne (e.trans ha)
      · rw [hg] at e
        injection e with e
        omega)]
    exact h.block b hb hne⟩
theorem at_trans {w w1 : World} {v v1 v2 : Value} (ha : AtNew w v v1) (hb : AtNew w1 v1 v2) (hs : w.heap.size ≤ w1.heap.size) : AtNew w v v2 := by
  rcases hb with hb | ⟨g, hg, hgs⟩
  · rcases ha with ha | ⟨g, hg, hgs⟩
    · exact .inl (hb.trans ha)
    · exact .inr ⟨g, hb.trans hg, hgs⟩
  · exact .inr ⟨g, hg, by omega⟩
theorem grown_alloc {w w1 : World} {v : Value} (o : Obj) (h : (w.alloc o).grownBy w1 v.ownBlock) : w.grownBy w1 v.ownBlock :=
  ⟨h.os, h.tape, h.output, by have := h.size; simp at this; omega, fun b hb hne => by rw [h.block b (by simp; omega) hne]; exact Below.heap_alloc w o b hb⟩
theorem cell_new1 (w : World) (x : Value) (t : TypeId) : (w.alloc (.cells #[x] t)).cell? ((⟨w.heap.size, 0, none⟩ : Addr).add 0) = some x := by
  exact World.cell?_alloc_mark w #[x] t (0, 0) 0
theorem bys_alloc {w : World} {B : Nat} {v : Value} {l : List UInt8} (h : Bys w B v l) (o : Obj) : Bys (w.alloc o) B v l :=
  h.kept (fun g hg => Below.heap_alloc w o g (h.lt g hg).2) (by simp)
/-- bytes that grew -/
structure BG (w w' : World) (B : Nat) (v v' : Value) (l : List UInt8) : Prop where
  own : w'.ownsRow B 5 1 v' l.length (bc l)
  grown : w.grownBy w' v.ownBlock
  at_ : AtNew w v v'
/-- or are as they were -/
def BG0 (w w' : World) (B : Nat) (v v' : Value) (l : List UInt8) : Prop := Bys w' B v' l ∧ w.grownBy w' v.ownBlock ∧ AtNew w v v'
theorem BG0.step {w w1 w2 : World} {B : Nat} {v v1 v2 : Value} {l l2 : List UInt8} (h : BG0 w w1 B v v1 l) (o : Obj) (hown : w2.ownsRow B 5 1 v2 l2.length (bc l2)) (hg : (w1.alloc o).grownBy w2 v1.ownBlock) (ha : v2.ownBlock = v1.ownBlock ∨ v2.ownBlock = some (w1.alloc o).heap.size) : BG w w2 B v v2 l2 := by
  refine ⟨hown, grown_trans h.2.1 h.2.2 (grown_alloc o hg), ?_⟩
  refine at_trans h.2.2 (ha.imp id fun e => ⟨_, e, by simp⟩) h.2.1.size
theorem BG.zero {w w' : World} {B : Nat} {v v' : Value} {l : List UInt8} (h : BG w w' B v v' l) : BG0 w w' B v v' l := ⟨.inl h.own, h.grown, h.at_⟩

set_option maxHeartbeats 1000000 in
set_option maxRecDepth 20000 in
theorem addB_any (B : Nat) (v : Value) (l : List UInt8) (z : Int) (w : World) (h : Bys w B v l) (hB : B ≤ w.heap.size) (hl : l.length ≤ 1000000000) (h1 : -9223372036854775808 ≤ z) (h2 : z ≤ 9223372036854775807) :
    Calls Tryd.prog 21 #[v, .int .i64 z] w fun e w' => ∃ v', e = .returned v' ∧ BG w w' B v v' (l ++ P8 z) := by
  have hw := woven_any z w h1 h2
  have hlt := wv_lt h1 h2
  have hten := P8_ten h1 h2
  obtain ⟨u0, hu0⟩ : ∃ u0, Hid (u0 = wv z) := ⟨_, rfl⟩
  rw [← hu0.out] at hw hlt
  have H : Hid (Bys w B v l ∧ (P8 z).length ≤ 10) := ⟨h, hten⟩
  obtain ⟨ao, cap, rfl⟩ := h.shape
  clear h hten h1 h2
  go_enter Tryd.func21, Tryd.ntmps21
  go_wp2_with (go_at_call 41; refine hw.mono ?_; rintro e w' ⟨rfl, hw'⟩; obtain rfl := hw'.symm; clear hw)
  go_loopw [0, 5] (fun a b wr => ∃ (m : List UInt8) (u : Nat), b = .int .u64 u ∧ u < 18446744073709551616 ∧ Hid (BG0 w wr B (.slice ao l.length cap) a m ∧ l ++ P8 z = m ++ pb u)) (fun _ b _ => (intOf b).toNat)
  case atStart => exact ⟨l, u0, rfl, hlt, ⟨H.out.1, World.grownBy.refl _ _, .inl rfl⟩, by rw [hu0.out]; rfl⟩
  case round =>
    obtain ⟨m, u, rfl, hu, X⟩ := hrel
    obtain ⟨ao1, cap1, rfl⟩ := X.out.1.1.shape
    have hm : m.length ≤ l.length + 10 := by
      have e := congrArg List.length X.out.2
      have := pb_pos u
      have := H.out.2
      simp only [List.length_append] at e
      omega
    have hBr : B ≤ wr.heap.size := Nat.le_trans hB X.out.1.2.1.size
    by_cases h128 : u < 128
    · obtain ⟨b, hb⟩ : ∃ b : UInt8, Hid (b = UInt8.ofNat u) := ⟨_, rfl⟩
      have hc3 : Hid ((u : Int) = (b.toNat : Int)) := by
        have : (u : Int) = (b.toNat : Int) := by rw [hb.out]; simp; omega
        exact this
      go_wp2_with (at_builtin; (refine wpList_app1 rfl (.tmp 18) (.tmp 21) rfl B rfl (bys_alloc X.out.1.1 _) ⟨wr.heap.size, 0, none⟩ 1 b rfl (by rw [← hc3.out]; exact cell_new1 _ _ _) (by omega) (by simp; omega) ?_); intro v' w2 hown' hgrow hat)
      go_ret
      refine ⟨v', rfl, ?_⟩
      have := X.out.1.step _ hown' hgrow hat
      rw [X.out.2, pb_one h128, ← hb.out]
      exact this
    · obtain ⟨b, hb⟩ : ∃ b : UInt8, Hid (b = UInt8.ofNat (u % 128 + 128)) := ⟨_, rfl⟩
      have hc : bits .or .u8 ((u : Int) % 256) 128 = (b.toNat : Int) := by
        have e : (u : Int) % 256 = ((u % 256 : Nat) : Int) := by omega
        rw [e, or128, hb.out, UInt8.toNat_ofNat_of_lt' (by show _ < 256; omega)]
      go_wp2_with (at_builtin; refine wpList_app1 rfl (.tmp 10) (.tmp 14) rfl B rfl (bys_alloc X.out.1.1 _) ⟨wr.heap.size, 0, none⟩ 1 b rfl (cell_new1 _ _ _) (by omega) (by simp; omega) ?_; intro v' w2 hown' hgrow hat)
      go_roundw
      case rel => 
        refine ⟨m ++ [b], u / 128, by go_num, by omega, (X.out.1.step _ hown' hgrow hat).zero, ?_⟩
        rw [X.out.2, pb_more h128, ← hb.out]
        simp
      case measure => simp [intOf]; omega
end Ix
end Go.Proofs.YtalfelkblbbmpaaDoor
