/- What net's forget does: all places are 0 but those that are kept. -/
import Derived.Test.YtanlfmhlohcmgaaNt2
namespace Go.Proofs.Ytanlfmhlohcmgaa
open Go.RowKit
namespace Nx

theorem ix23 (ad : Option Addr) (b off n cap k : Nat) (hk : k < n) (ha : 0 < n → ad = some ⟨b, off, none⟩) (w : World) : (Instr.indexAt 23 (.slice ad n cap) (.int .i64 (k : Int))).run Try.prog w = .ok (.pointer (some ⟨b, off + k, none⟩)) w := by
  obtain rfl := ha (by omega)
  rw [run_indexAt_slice _ _ _ _ _ _ _ (by kernel_rfl), if_pos ⟨by omega, by omega⟩]
  have e : (sizeOf (Try.prog.elem 23)).run Try.prog w = .ok 1 w := by kernel_rfl
  rw [e]
  simp [Result.andThen, Addr.add]

theorem own_of_row {w : World} {B e n : Nat} {v : Value} {V : List Int} (h : w.ownsRow B e 1 v n (V.map (Value.int .i64))) : ∃ g, Own w v V g ∧ B ≤ g ∧ (0 < n → g < w.heap.size) ∧ V.length = n := by
  obtain ⟨hl, h2⟩ := h
  have hl' : V.length = n := by simpa using hl
  rcases h2 with ⟨rfl, rfl⟩ | ⟨g, cap, cur, rfl, hB, hg, hn, hc, hs, ht⟩
  · exact ⟨B, ⟨none, 0, by rw [hl'], fun hp => by omega⟩, Nat.le_refl _, fun h => by omega, hl'⟩
  · refine ⟨g, ⟨some ⟨g, 0, none⟩, cap, by rw [hl'], fun _ => ⟨rfl, cur.toList.drop n, e, ?_⟩⟩, hB, fun _ => lt_of_block hg, hl'⟩
    rw [hg, ← ht, Nat.mul_one, List.take_append_drop]

theorem own_made {w : World} {B e g n cap : Nat} {V : List Int} (h : w.ownsRow B e 1 (.slice (some ⟨g, 0, none⟩) n cap) n (V.map (Value.int .i64))) (hn : V.length = n) : Own w (.slice (some ⟨g, 0, none⟩) n cap) V g := by
  obtain ⟨hl, h2⟩ := h
  rcases h2 with ⟨h0, _⟩ | ⟨g', cap', cur, e1, hB, hg, _, hc, hs, ht⟩
  · exact absurd h0 (by simp)
  · obtain ⟨rfl, rfl⟩ : g = g' ∧ cap = cap' := by simpa using e1
    refine ⟨some ⟨g, 0, none⟩, cap, by rw [hn], fun _ => ⟨rfl, cur.toList.drop n, e, ?_⟩⟩
    rw [hg, ← ht, Nat.mul_one, List.take_append_drop]

theorem Try.infoI64 : (Try.prog.info? 2).map (fun i => (i.zero, i.size, i.bytes)) = some (some (.int .i64 0), 1, 8) := by kernel_rfl

theorem made0 (n : Nat) : (madeCells (Value.cells (.int .i64 0)) (n * 1)).toList = (List.replicate n (0 : Int)).map (Value.int .i64) := by
  apply List.ext_getElem
  · simp [madeCells]
  · intro k h1 h2
    simp [madeCells, Value.cells, Nat.mod_one]

/-- a machine's cells -/
def mCells (P : Int) (vF vI vO vK vN vC vp : Value) : Array Value := #[.int .i64 P, vF, vI, vO, vK, vN, vC, vp]

theorem cell_row {w : World} {g : Nat} {l : Array Value} {T : TypeId} {f : Nat × Nat} (h : w.heap[g]? = some (.cells l T f)) (k : Nat) : w.cell? ⟨g, k, none⟩ = l[k]? := by
  simp only [World.cell?, h]
  simp

set_option maxHeartbeats 1000000 in
theorem forget_any {A : Nat → Prop} (P : Int) (vF vI vO vK vN vC vp : Value) (keeps V : List Int) (bm g : Nat) (w : World)
    (hm : w.heap[bm]? = some (.cells (mCells P vF vI vO vK vN vC vp) 50 (0, 0))) (hK : Ints A w vK keeps) (hp : Own w vp V g) (hg : 0 < V.length → g < w.heap.size)
    (hV : V.length ≤ 100000) (hk0 : keeps.length ≤ 100000) :
    Calls Try.prog 21 #[.pointer (some ⟨bm, 0, none⟩)] w fun e w' => e = .returned (.tuple #[]) ∧ ∃ vp',
      w'.heap[bm]? = some (.cells (mCells P vF vI vO vK vN vC vp') 50 (0, 0)) ∧ Own w' vp' (keepK keeps V keeps.length) w.heap.size ∧ Fr w.heap.size [bm] w w' ∧ w.heap.size < w'.heap.size := by
  have hbl := lt_of_block hm
  obtain ⟨adK, bK, offK, capK, rfl, hK1, hK2⟩ := hK
  obtain ⟨adp, capp, rfl, hp1⟩ := id hp
  obtain ⟨i0, hi, hz0, hz1, hz2⟩ := info_parts Try.infoI64
  have c4 : w.cell? ⟨bm, 4, none⟩ = some (.slice adK keeps.length capK) := by rw [cell_row hm]; rfl
  have c7 : w.cell? ⟨bm, 7, none⟩ = some (.slice adp V.length capp) := by rw [cell_row hm]; rfl
  have hib : i0.bytes * V.length ≤ 281474976710656 := by rw [hz2]; omega
  have H1 : Hid (0 < keeps.length → adK = some ⟨bK, offK, none⟩ ∧ A bK) := hK1
  have H2 : Hid (∀ k, k < keeps.length → w.cell? ⟨bK, offK + k, none⟩ = some (.int .i64 (keeps.getD k 0))) := hK2
  have H3 : Hid (w.heap[bm]? = some (.cells (mCells P vF vI vO (.slice adK keeps.length capK) vN vC (.slice adp V.length capp)) 50 (0, 0))) := hm
  have H4 : Hid (Own w (.slice adp V.length capp) V g) := hp
  clear hK1 hK2 hm hp hp1
  go_enter Try.func21, Try.ntmps21
  go_wp2_with (at_make; refine wpList_make_full _ rfl _ _ 22 rfl w.heap.size 2 i0 (.int .i64 0) 1 Try.underlying22 hi hz0 hz1 _ _ _ _ V.length rfl rfl rfl rfl hib (by unfold maxLen; omega) (Nat.le_refl _) ?_; intro w1 hown1 hgrow1; have d4 : w1.cell? ⟨bm, 4, none⟩ = some (.slice adK keeps.length capK) := (cell_of_block (hgrow1.block bm hbl (by simp)) 4).trans c4)
  have hown : Own w1 (.slice (some ⟨w.heap.size, 0, none⟩) V.length V.length) (List.replicate V.length 0) w.heap.size := own_made (by rw [← made0]; exact hown1) (by simp)
  have hlt1 : w.heap.size < w1.heap.size := by
    rcases hown1.2 with ⟨h0, _⟩ | ⟨g', cap', cur, e1, hB, hg', _⟩
    · exact absurd h0 (by simp)
    · have := lt_of_block hg'
      simp at e1; omega
  have HF1 : Hid (Fr w.heap.size [] w w1) := ⟨hgrow1.os, hgrow1.tape, hgrow1.output, hgrow1.size, fun k hk _ => hgrow1.block k hk (by simp)⟩
  clear hown1 hgrow1 c4 c7 hib hi hz0 hz1 hz2
  go_loopw [17] (fun i wr => ∃ k : Nat, k ≤ keeps.length ∧ i = .int .i64 k ∧ Own wr (.slice (some ⟨w.heap.size, 0, none⟩) V.length V.length) (keepK keeps V k) w.heap.size ∧ Fr w.heap.size [] w wr ∧ w.heap.size < wr.heap.size) (fun i _ => keeps.length - (intOf i).toNat)
  case atStart => exact ⟨0, Nat.zero_le _, rfl, hown, HF1.out, hlt1⟩
  case round =>
    clear hown HF1 hlt1 d4
    obtain ⟨k, hk, rfl, hown, hF, hlt1⟩ := hrel
    have HF : Hid (Fr w.heap.size [] w wr) := hF
    clear hF
    have hb := HF.out.block bm hbl (by simp)
    have c7 : wr.cell? ⟨bm, 7, none⟩ = some (.slice adp V.length capp) := by rw [cell_of_block hb, cell_row H3.out]; rfl
    by_cases hlt : k < keeps.length
    · have hix := ix23 adK bK offK keeps.length capK k hlt (fun h => (H1.out h).1)
      obtain ⟨x, hx⟩ : ∃ x, x = keeps.getD k 0 := ⟨_, rfl⟩
      have cx : wr.cell? ⟨bK, offK + k, none⟩ = some (.int .i64 x) := by
        have := H2.out k hlt
        rw [cell_of_block (HF.out.block bK (lt_of_cell this) (by simp)), hx]; exact this
      have hpr : Own wr (.slice adp V.length capp) V g := by
        by_cases hp : 0 < V.length
        · exact H4.out.keep (HF.out.block g (hg hp) (by simp))
        · exact ⟨adp, capp, rfl, fun h => absurd h hp⟩
      have hat := at_any (A := fun _ => True) (.slice adp V.length capp) V x wr (hpr.ints fun _ => trivial)
      have hput := put_any (.slice (some ⟨w.heap.size, 0, none⟩) V.length V.length) (keepK keeps V k) w.heap.size x (get V x) wr hown
      have HX : Hid (x = keeps.getD k 0) := hx
      clear hx hpr hown hb
      go_wp2_with (first | (go_at_call 18; refine hat.mono ?_; rintro e w' ⟨rfl, rfl⟩) | (go_at_call 19; refine hput.mono ?_; rintro e w2 ⟨rfl, hown2, hF2⟩))
      go_roundw
      case rel => exact ⟨k + 1, by omega, by go_num, by rw [keepK, ← HX.out]; exact hown2, HF.out.trans (hF2.mono (Nat.le_of_lt hlt1) (fun y hy hl => by simp at hy; omega)), Nat.lt_of_lt_of_le hlt1 hF2.size⟩
      case measure => simp [intOf]; omega
    · obtain rfl : k = keeps.length := by omega
      have f7 : wr.frozen? ⟨bm, 7, none⟩ = false := frozen_cells (hb.trans H3.out) 7
      have HB : Hid (wr.heap[bm]? = w.heap[bm]?) := hb
      clear hb
      go_wp2
      go_end0
      refine ⟨rfl, .slice (some ⟨w.heap.size, 0, none⟩) V.length V.length, ?_, ?_, ?_, ?_⟩
      · have := set_cells (l := (mCells P vF vI vO (.slice adK keeps.length capK) vN vC (.slice adp V.length capp)).toList) (T := 50) (f := (0, 0)) (HB.out.trans H3.out) 7 (.slice (some ⟨w.heap.size, 0, none⟩) V.length V.length)
        exact this
      · exact hown.keep (Below.heap_setCell _ _ _ _ (by simp; omega))
      · exact (HF.out.mono (Nat.le_refl _) (fun y hy _ => by simp at hy)).setCell (.inr (by simp)) _
      · simpa [World.setCell] using hlt1
end Nx
end Go.Proofs.Ytanlfmhlohcmgaa
