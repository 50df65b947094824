/- image: places as numbers; what of a step is told. -/
import Derived.Test.YtalfelkblbbmpaaDoorIc
import Derived.Test.YtalfelkblbbmpaaDoorNt6
import Derived.BigRegion
namespace Go.Proofs.YtalfelkblbbmpaaDoor
open Go.RowKit
namespace Ix
open Nx

theorem jx23 (ad : Option Addr) (b off n cap k : Nat) (hk : k < n) (ha : 0 < n → ad = some ⟨b, off, none⟩) (w : World) : (Instr.indexAt 23 (.slice ad n cap) (.int .i64 (k : Int))).run Tryd.prog w = .ok (.pointer (some ⟨b, off + k, none⟩)) w := by
  obtain rfl := ha (by omega)
  rw [run_indexAt_slice _ _ _ _ _ _ _ (by kernel_rfl), if_pos ⟨by omega, by omega⟩]
  have e : (sizeOf (Tryd.prog.elem 23)).run Tryd.prog w = .ok 1 w := by kernel_rfl
  rw [e]
  simp [Result.andThen, Addr.add]
theorem jx22g (g n k : Nat) (hk : k < n) (w : World) : (Instr.indexAt 22 (.slice (some ⟨g, 0, none⟩) n n) (.int .i64 (k : Int))).run Tryd.prog w = .ok (.pointer (some ⟨g, k, none⟩)) w := by
  have := jx22 (some ⟨g, 0, none⟩) g 0 n n k hk (fun _ => rfl) w
  rwa [Nat.zero_add] at this
theorem fill_step (zs : List Int) (k : Nat) (hk : k < zs.length) : (zs.take k ++ List.replicate (zs.length - k) 0).set k (zs.getD k 0) = zs.take (k + 1) ++ List.replicate (zs.length - (k + 1)) 0 := by
  have e : zs.length - k = (zs.length - (k + 1)) + 1 := by omega
  have hl : (zs.take k).length = k := by simp; omega
  rw [e, List.replicate_succ, List.set_append_right _ _ (by omega), hl, Nat.sub_self, List.set_cons_zero, List.take_add_one, List.getD_eq_getElem?_getD, List.getElem?_eq_getElem hk, List.append_assoc]
  rfl

set_option maxHeartbeats 1000000 in
theorem wide_any {A : Nat → Prop} (v : Value) (zs : List Int) (w : World) (h : Ints A w v zs) (hn : zs.length ≤ 100000) :
    Calls Tryd.prog 23 #[v] w fun e w' => ∃ v', e = .returned v' ∧ Ints (fun b => b = w.heap.size) w' v' zs ∧ Below w.heap.size w w' ∧ w.heap.size < w'.heap.size := by
  obtain ⟨ad, b, off, cap, rfl, ha, hc⟩ := h
  obtain ⟨i0, hi, hz0, hz1, hz2⟩ := info_parts Tryd.infoI64
  have hib : i0.bytes * zs.length ≤ 281474976710656 := by rw [hz2]; omega
  have HA : Hid ((0 < zs.length → ad = some ⟨b, off, none⟩ ∧ A b) ∧ ∀ k, k < zs.length → w.cell? ⟨b, off + k, none⟩ = some (.int .i64 (zs.getD k 0))) := ⟨ha, hc⟩
  clear ha hc
  go_enter Tryd.func23, Tryd.ntmps23
  go_wp2_with (at_make; refine wpList_make_full _ rfl _ _ 22 rfl w.heap.size 2 i0 (.int .i64 0) 1 Tryd.underlying22 hi hz0 hz1 _ _ _ _ zs.length rfl rfl rfl rfl hib (by unfold maxLen; omega) (Nat.le_refl _) ?_; intro w1 hown1 hgrow1)
  have hown : Own w1 (.slice (some ⟨w.heap.size, 0, none⟩) zs.length zs.length) (List.replicate zs.length 0) w.heap.size := own_made (by rw [← made0]; exact hown1) (by simp)
  have hlt1 : w.heap.size < w1.heap.size := by
    rcases hown1.2 with ⟨h0, _⟩ | ⟨g', cap', cur, e1, hB, hg', _⟩
    · exact absurd h0 (by simp)
    · have := lt_of_block hg'
      simp at e1; omega
  have HF1 : Hid (Below w.heap.size w w1) := ⟨hgrow1.os, hgrow1.tape, hgrow1.output, hgrow1.size, fun k hk => hgrow1.block k hk (by simp)⟩
  have HZ : Hid (0 < zs.length → ∃ rest T, w1.heap[w.heap.size]? = some (.cells rest T (0, 0))) := fun hp => by
    obtain ⟨_, _, _, h1⟩ := hown
    obtain ⟨_, rest, T, hb⟩ := h1 (by simpa using hp)
    exact ⟨_, T, hb⟩
  clear hown1 hgrow1 hib hi hz0 hz1 hz2
  go_loopw [11] (fun i wr => ∃ k : Nat, k ≤ zs.length ∧ i = .int .i64 k ∧ Hid (Own wr (.slice (some ⟨w.heap.size, 0, none⟩) zs.length zs.length) (zs.take k ++ List.replicate (zs.length - k) 0) w.heap.size ∧ Below w.heap.size w wr ∧ w.heap.size < wr.heap.size)) (fun i _ => zs.length - (intOf i).toNat)
  case atStart => exact ⟨0, Nat.zero_le _, rfl, by simpa using hown, HF1.out, hlt1⟩
  case round =>
    clear hown HF1 hlt1 HZ
    obtain ⟨k, hk, rfl, X⟩ := hrel
    by_cases hlt : k < zs.length
    · have hix := jx23 ad b off zs.length cap k hlt (fun h => (HA.out.1 h).1)
      have hix2 := jx22g w.heap.size zs.length k hlt
      obtain ⟨x, hx⟩ : ∃ x, Hid (x = zs.getD k 0) := ⟨_, rfl⟩
      have hcx : wr.cell? ⟨b, off + k, none⟩ = some (.int .i64 x) := by
        have := HA.out.2 k hlt
        rw [cell_of_block (X.out.2.1.block b (lt_of_cell this)), hx.out]; exact this
      have hll : (zs.take k ++ List.replicate (zs.length - k) (0 : Int)).length = zs.length := by simp; omega
      obtain ⟨y, hcy⟩ : ∃ y, wr.cell? ⟨w.heap.size, k, none⟩ = some y := ⟨_, X.out.1.cell k (by omega)⟩
      have hfy : wr.frozen? ⟨w.heap.size, k, none⟩ = false := by
        obtain ⟨_, _, _, h1⟩ := X.out.1
        obtain ⟨_, rest, T, hb⟩ := h1 (by omega)
        exact frozen_cells hb k
      go_wp2_with fail
      go_roundw
      case rel =>
        refine ⟨k + 1, by omega, by go_num, ?_, ?_, ?_⟩
        · obtain ⟨ad', cap', e1, h1⟩ := X.out.1
          obtain ⟨e2, rest, T, hb⟩ := h1 (by omega)
          refine ⟨some ⟨w.heap.size, 0, none⟩, zs.length, by simp; omega, fun _ => ⟨rfl, rest, T, ?_⟩⟩
          rw [set_cells hb, List.set_append_left _ _ (by simp; omega), ← fill_step zs k hlt, List.map_set, hx.out]
        · exact X.out.2.1.trans ⟨rfl, rfl, rfl, by simp [World.setCell], fun k' hk' => Below.heap_setCell _ _ _ _ (by simp; omega)⟩
        · simpa [World.setCell] using X.out.2.2
      case measure => simp [intOf]; omega
    · obtain rfl : k = zs.length := by omega
      go_wp2_with fail
      go_ret
      refine ⟨_, rfl, ?_, X.out.2.1, X.out.2.2⟩
      have := X.out.1
      rw [List.take_length, Nat.sub_self, List.replicate_zero, List.append_nil] at this
      exact this.ints fun _ => rfl
end Ix
end Go.Proofs.YtalfelkblbbmpaaDoor
