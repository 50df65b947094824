/- What the laws' coded answers: code that counts. -/
import Derived.Test.YtanlfmhlohcmgaaNtC
import Derived.Test.YtanlfmhlohcmgaaNk
namespace Go.Proofs.Ytanlfmhlohcmgaa
open Go.RowKit
namespace Nx

theorem frBelow {S B : Nat} {X : List Nat} {w w' : World} (h : Fr S X w w') (hB : B ≤ S) (hX : ∀ x ∈ X, B ≤ x) : Below B w w' :=
  ⟨h.os, h.tape, h.output, h.size, fun k hk => h.block k (by omega) (fun hm => by have := hX k hm; omega)⟩

theorem nilInts (A : Nat → Prop) (w : World) : Ints A w (.slice none 0 0) [] := ⟨none, 0, 0, 0, rfl, fun h => by simp at h, fun k hk => by simp at hk⟩

/-- one number told -/
theorem tell_one (B : Nat) (n : Nt) (V : List Int) (x : Int) (V' : List Int) (bm g : Nat) (w : World) (hM : IsM B w bm g n V) (hf : Few n V) (h1 : tells n V [] = [x]) (h2 : after n V [] = V') :
    Calls Try.prog 14 #[.pointer (some ⟨bm, 0, none⟩), .slice none 0 0] w fun e w' => ∃ b off cap, e = .returned (.slice (some ⟨b, off, none⟩) 1 cap) ∧ w'.cell? ⟨b, off, none⟩ = some (.int .i64 x) ∧ Hid (∃ g', IsM B w' bm g' n V' ∧ Fr w.heap.size [bm, g] w w' ∧ w.heap.size ≤ b ∧ b < g') := by
  refine (tick_any B n V [] bm g (.slice none 0 0) w hM (nilInts _ w) hf).mono fun e w' ⟨v, g', he, hM', hi, hF, _⟩ => ?_
  rw [h1] at hi
  rw [h2] at hM'
  obtain ⟨ad, b, off, cap, rfl, p1, p2⟩ := hi
  obtain ⟨rfl, hb1, hb2⟩ := p1 (by simp)
  exact ⟨b, off, cap, he, by simpa using p2 0 (by simp), g', hM', hF, hb1, hb2⟩

def n0 : Nt := ⟨2, [5, 0], [], [0], [0], [2], [⟨1, 1, 0, 0, 0⟩, ⟨6, 0, 0, 1, 0⟩]⟩
theorem n0_fine : (check n0).1 = 0 := by decide +kernel
theorem n0_one : tells n0 [5, 0] [] = [7] := by decide +kernel
theorem n0_after : after n0 [5, 0] [] = [7, 0] := by decide +kernel
theorem n0_two : tells n0 [7, 0] [] = [9] := by decide +kernel
theorem n0_small : Small n0 := ⟨by decide, by decide, by decide, by decide⟩
theorem n0_few (V : List Int) (h : V.length = 2) : Few n0 V := ⟨by omega, by decide, by decide, by decide, by decide⟩

def w0 (w : World) : World := ((((((w.alloc (.cells #[.int .i64 5, .int .i64 0] 2)).alloc (.cells #[.int .i64 0] 3)).alloc (.cells #[.int .i64 0] 3)).alloc (.cells #[.int .i64 2] 2)).alloc
  (.cells #[.int .i64 1, .int .i64 1, .int .i64 0, .int .i64 0, .int .i64 0, .int .i64 6, .int .i64 0, .int .i64 0, .int .i64 1, .int .i64 0] 37)).alloc
  (.cells #[.int .i64 2, .slice (some ⟨w.heap.size, 0, none⟩) 2 2, .slice none 0 0, .slice (some ⟨w.heap.size + 1, 0, none⟩) 1 1, .slice (some ⟨w.heap.size + 1 + 1, 0, none⟩) 1 1, .slice (some ⟨w.heap.size + 1 + 1 + 1, 0, none⟩) 1 1, .slice (some ⟨w.heap.size + 1 + 1 + 1 + 1, 0, none⟩) 2 2] 26))

theorem w0_size (w : World) : (w0 w).heap.size = w.heap.size + 6 := by simp [w0]
theorem w0_b0 (w : World) : (w0 w).heap[w.heap.size]? = some (.cells #[.int .i64 5, .int .i64 0] 2 (0, 0)) := by
  unfold w0
  rw [Below.heap_alloc _ _ _ (by first | (simp; done) | (simp; omega)), Below.heap_alloc _ _ _ (by first | (simp; done) | (simp; omega)), Below.heap_alloc _ _ _ (by first | (simp; done) | (simp; omega)), Below.heap_alloc _ _ _ (by first | (simp; done) | (simp; omega)), Below.heap_alloc _ _ _ (by first | (simp; done) | (simp; omega))]
  exact heap_alloc_new w _
theorem w0_b1 (w : World) : (w0 w).heap[w.heap.size + 1]? = some (.cells #[.int .i64 0] 3 (0, 0)) := by
  unfold w0
  rw [Below.heap_alloc _ _ _ (by simp), Below.heap_alloc _ _ _ (by simp), Below.heap_alloc _ _ _ (by simp), Below.heap_alloc _ _ _ (by simp)]
  have := heap_alloc_new (w.alloc (.cells #[.int .i64 5, .int .i64 0] 2)) (.cells #[.int .i64 0] 3)
  rw [show (w.alloc (.cells #[.int .i64 5, .int .i64 0] 2)).heap.size = w.heap.size + 1 by simp] at this
  exact this
theorem w0_b2 (w : World) : (w0 w).heap[w.heap.size + 1 + 1]? = some (.cells #[.int .i64 0] 3 (0, 0)) := by
  unfold w0
  rw [Below.heap_alloc _ _ _ (by simp), Below.heap_alloc _ _ _ (by simp), Below.heap_alloc _ _ _ (by simp)]
  have := heap_alloc_new ((w.alloc (.cells #[.int .i64 5, .int .i64 0] 2)).alloc (.cells #[.int .i64 0] 3)) (.cells #[.int .i64 0] 3)
  rw [show ((w.alloc (.cells #[.int .i64 5, .int .i64 0] 2)).alloc (.cells #[.int .i64 0] 3)).heap.size = w.heap.size + 1 + 1 by simp] at this
  exact this
theorem w0_b3 (w : World) : (w0 w).heap[w.heap.size + 1 + 1 + 1]? = some (.cells #[.int .i64 2] 2 (0, 0)) := by
  unfold w0
  rw [Below.heap_alloc _ _ _ (by simp), Below.heap_alloc _ _ _ (by simp)]
  have := heap_alloc_new (((w.alloc (.cells #[.int .i64 5, .int .i64 0] 2)).alloc (.cells #[.int .i64 0] 3)).alloc (.cells #[.int .i64 0] 3)) (.cells #[.int .i64 2] 2)
  rw [show (((w.alloc (.cells #[.int .i64 5, .int .i64 0] 2)).alloc (.cells #[.int .i64 0] 3)).alloc (.cells #[.int .i64 0] 3)).heap.size = w.heap.size + 1 + 1 + 1 by simp] at this
  exact this
theorem w0_b4 (w : World) : (w0 w).heap[w.heap.size + 1 + 1 + 1 + 1]? = some (.cells #[.int .i64 1, .int .i64 1, .int .i64 0, .int .i64 0, .int .i64 0, .int .i64 6, .int .i64 0, .int .i64 0, .int .i64 1, .int .i64 0] 37 (0, 0)) := by
  unfold w0
  rw [Below.heap_alloc _ _ _ (by simp)]
  have := heap_alloc_new ((((w.alloc (.cells #[.int .i64 5, .int .i64 0] 2)).alloc (.cells #[.int .i64 0] 3)).alloc (.cells #[.int .i64 0] 3)).alloc (.cells #[.int .i64 2] 2)) (.cells #[.int .i64 1, .int .i64 1, .int .i64 0, .int .i64 0, .int .i64 0, .int .i64 6, .int .i64 0, .int .i64 0, .int .i64 1, .int .i64 0] 37)
  rw [show ((((w.alloc (.cells #[.int .i64 5, .int .i64 0] 2)).alloc (.cells #[.int .i64 0] 3)).alloc (.cells #[.int .i64 0] 3)).alloc (.cells #[.int .i64 2] 2)).heap.size = w.heap.size + 1 + 1 + 1 + 1 by simp] at this
  exact this
theorem w0_net (w : World) : NetV (w0 w).heap.size (w0 w) n0 (.slice (some ⟨w.heap.size, 0, none⟩) 2 2) (.slice none 0 0) (.slice (some ⟨w.heap.size + 1, 0, none⟩) 1 1) (.slice (some ⟨w.heap.size + 1 + 1, 0, none⟩) 1 1) (.slice (some ⟨w.heap.size + 1 + 1 + 1, 0, none⟩) 1 1) (.slice (some ⟨w.heap.size + 1 + 1 + 1 + 1, 0, none⟩) 2 2) := by
  have hs := w0_size w
  refine ⟨⟨_, w.heap.size, 0, 2, rfl, fun _ => ⟨rfl, by omega⟩, fun k hk => ?_⟩, nilInts _ _, ⟨_, w.heap.size + 1, 0, 1, rfl, fun _ => ⟨rfl, by omega⟩, fun k hk => ?_⟩, ⟨_, w.heap.size + 1 + 1, 0, 1, rfl, fun _ => ⟨rfl, by omega⟩, fun k hk => ?_⟩, ⟨_, w.heap.size + 1 + 1 + 1, 0, 1, rfl, fun _ => ⟨rfl, by omega⟩, fun k hk => ?_⟩, ⟨_, w.heap.size + 1 + 1 + 1 + 1, 0, 2, rfl, fun _ => ⟨rfl, by omega⟩, fun k hk => ?_⟩⟩
  · match k, hk with
    | 0, _ => exact cell_row (w0_b0 w) 0
    | 1, _ => exact cell_row (w0_b0 w) 1
  · match k, hk with
    | 0, _ => exact cell_row (w0_b1 w) 0
  · match k, hk with
    | 0, _ => exact cell_row (w0_b2 w) 0
  · match k, hk with
    | 0, _ => exact cell_row (w0_b3 w) 0
  · match k, hk with
    | 0, _ => exact ⟨cell_row (w0_b4 w) 0, cell_row (w0_b4 w) 1, cell_row (w0_b4 w) 2, cell_row (w0_b4 w) 3, cell_row (w0_b4 w) 4⟩
    | 1, _ => exact ⟨cell_row (w0_b4 w) 5, cell_row (w0_b4 w) 6, cell_row (w0_b4 w) 7, cell_row (w0_b4 w) 8, cell_row (w0_b4 w) 9⟩
theorem w0_below (w : World) : Below w.heap.size w (w0 w) := by
  unfold w0
  exact ((((((Below.refl _ _).alloc (Nat.le_refl _) _).alloc (by simp) _).alloc (by simp; omega) _).alloc (by simp; omega) _).alloc (by simp; omega) _).alloc (by simp; omega) _

set_option maxRecDepth 100000 in
set_option maxHeartbeats 1000000 in
theorem coded_any (w : World) : Calls Try.prog 6 #[] w fun e w' => e = .returned (.bool true) ∧ Below w.heap.size w w' := by
  have hnew : Calls Try.prog 13 _ (w0 w) fun e w1 => ∃ bm, e = .returned (.tuple #[.pointer (some ⟨bm, 0, none⟩), .nilIface]) ∧ Hid (∃ g, IsM (w0 w).heap.size w1 bm g n0 [5, 0] ∧ Below w.heap.size w w1) :=
    (new_fine (w0 w).heap.size n0 (w0 w) _ _ _ _ _ _ (w0_net w) (Nat.le_refl _) n0_small (by decide) n0_fine).mono fun e w' ⟨bm, g, he, hM, _, _, _, hb⟩ => ⟨bm, he, g, hM, ball (w0_below w) hb⟩
  have hs := w0_size w
  have HS : Hid ((w0 w).heap.size = w.heap.size + 6) := hs
  clear hs
  unfold w0 at hnew
  go_enter Try.func6, Try.ntmps6
  go_wp2_with (first
    | (go_at_call 13; refine hnew.mono ?_; rintro e w1 ⟨bm, rfl, X⟩
       obtain ⟨g, X⟩ : ∃ g, Hid (IsM (w0 w).heap.size w1 bm g n0 [5, 0] ∧ Below w.heap.size w w1) := X.out
       have htick := tell_one (w0 w).heap.size n0 [5, 0] 7 [7, 0] bm g w1 X.out.1 (n0_few _ rfl) n0_one n0_after
       clear hnew
       have T1 : Hid True := trivial)
    | (go_at_call 14; clear T1; refine htick.mono ?_; rintro e w2 ⟨b2, off2, cap2, rfl, c2, Y⟩
       obtain ⟨g2, Y⟩ : ∃ g2, Hid (IsM (w0 w).heap.size w2 bm g2 n0 [7, 0] ∧ Fr w1.heap.size [bm, g] w1 w2 ∧ w1.heap.size ≤ b2 ∧ b2 < g2) := Y.out
       have htick2 := tell_one (w0 w).heap.size n0 [7, 0] 9 _ bm g2 w2 Y.out.1 (n0_few _ rfl) n0_two rfl
       clear htick
       have T2 : Hid True := trivial)
    | (go_at_call 14; clear T2; refine htick2.mono ?_; rintro e w3 ⟨b3, off3, cap3, rfl, c3, Z⟩
       have d2 : w3.cell? ⟨b2, off2, none⟩ = some (.int .i64 7) := (by (obtain ⟨g3, _, hF, _⟩ := Z.out; rw [cell_of_block (hF.block b2 (lt_of_cell c2) (by have := Y.out.2.2; have := Y.out.1.hb; obtain ⟨_, _, _, _, _, _, _, hrow, _⟩ := X.out.1.row; have := lt_of_block hrow; simp; omega))]; exact c2))
       clear htick2))
  go_ret
  refine ⟨rfl, ?_⟩
  obtain ⟨g3, _, hF3, _⟩ := Z.out
  have hs := HS.out
  have b1 := X.out.1.hb; have b2 := X.out.1.hg; have b3 := Y.out.1.hg
  exact (X.out.2.trans (frBelow Y.out.2.1 X.out.2.size (fun x hx => by simp at hx; omega))).trans (frBelow hF3 (Nat.le_trans X.out.2.size Y.out.2.1.size) (fun x hx => by simp at hx; omega))
end Nx
end Go.Proofs.Ytanlfmhlohcmgaa
