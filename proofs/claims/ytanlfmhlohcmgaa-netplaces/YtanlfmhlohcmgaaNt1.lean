/- What net's at, put and the closure that asks places answer. -/
import Derived.Test.YtanlfmhlohcmgaaNv
namespace Go.Proofs.Ytanlfmhlohcmgaa
open Go.RowKit
namespace Nx

theorem at_out (ad : Option Addr) (n cap : Nat) (i : Int) (w : World) (h : i < 0 ∨ (n : Int) ≤ i) :
    Calls Try.prog 18 #[.slice ad n cap, .int .i64 i] w fun e w' => e = .returned (.int .i64 0) ∧ w' = w := by
  by_cases h0 : i < 0
  · go_enter Try.func18, Try.ntmps18
    go_wp2
    go_ret
    exact ⟨rfl, rfl⟩
  · have h1 : (n : Int) ≤ i := by omega
    clear h
    go_enter Try.func18, Try.ntmps18
    go_wp2
    go_ret
    exact ⟨rfl, rfl⟩

theorem at_in (b off n cap : Nat) (i x : Int) (w : World) (h0 : 0 ≤ i) (h1 : i < n) (hc : w.cell? ⟨b, off + i.toNat, none⟩ = some (.int .i64 x)) :
    Calls Try.prog 18 #[.slice (some ⟨b, off, none⟩) n cap, .int .i64 i] w fun e w' => e = .returned (.int .i64 x) ∧ w' = w := by
  go_enter Try.func18, Try.ntmps18
  go_wp2
  go_ret
  exact ⟨rfl, rfl⟩

theorem at_any {A : Nat → Prop} (v : Value) (zs : List Int) (i : Int) (w : World) (h : Ints A w v zs) :
    Calls Try.prog 18 #[v, .int .i64 i] w fun e w' => e = .returned (.int .i64 (get zs i)) ∧ w' = w := by
  obtain ⟨ad, b, off, cap, rfl, h1, h2⟩ := h
  by_cases hi : i < 0 ∨ (zs.length : Int) ≤ i
  · have e : get zs i = 0 := by rcases hi with hi | hi; exact get_low _ _ hi; exact get_high _ _ hi
    rw [e]; exact at_out ad zs.length cap i w hi
  · obtain ⟨rfl, _⟩ := h1 (by omega)
    rw [get_in _ _ (by omega)]
    exact at_in b off zs.length cap i _ w (by omega) (by omega) (h2 i.toNat (by omega))

theorem put_out' (ad : Option Addr) (n cap : Nat) (i x : Int) (w : World) (h : i < 0 ∨ (n : Int) ≤ i) :
    Calls Try.prog 19 #[.slice ad n cap, .int .i64 i, .int .i64 x] w fun e w' => e = .returned (.tuple #[]) ∧ w' = w := by
  by_cases h0 : i < 0
  · go_enter Try.func19, Try.ntmps19
    go_wp2
    go_end0
    exact ⟨rfl, rfl⟩
  · have h1 : (n : Int) ≤ i := by omega
    have h2 : 0 ≤ i := by omega
    clear h
    go_enter Try.func19, Try.ntmps19
    go_wp2
    go_end0
    exact ⟨rfl, rfl⟩

theorem put_in' (b off n cap : Nat) (i x y : Int) (w : World) (h0 : 0 ≤ i) (h1 : i < n) (hc : w.cell? ⟨b, off + i.toNat, none⟩ = some (.int .i64 y)) (hf : w.frozen? ⟨b, off + i.toNat, none⟩ = false) :
    Calls Try.prog 19 #[.slice (some ⟨b, off, none⟩) n cap, .int .i64 i, .int .i64 x] w fun e w' => e = .returned (.tuple #[]) ∧ w' = w.setCell ⟨b, off + i.toNat, none⟩ (.int .i64 x) := by
  go_enter Try.func19, Try.ntmps19
  go_wp2
  go_end0
  exact ⟨rfl, rfl⟩

theorem set_cells {w : World} {g : Nat} {l : List Value} {T : TypeId} {f : Nat × Nat} (h : w.heap[g]? = some (.cells l.toArray T f)) (k : Nat) (x : Value) : (w.setCell ⟨g, k, none⟩ x).heap[g]? = some (.cells (l.set k x).toArray T f) := by
  have hl := lt_of_block h
  have e : w.heap[g] = .cells l.toArray T f := by rw [Array.getElem?_eq_getElem hl] at h; exact Option.some.inj h
  simp only [World.setCell]
  rw [Array.getElem?_eq_getElem (by simpa using hl), Array.getElem_modify]
  simp [e]

theorem frozen_cells {w : World} {g : Nat} {l : Array Value} {T : TypeId} (h : w.heap[g]? = some (.cells l T (0, 0))) (k : Nat) : w.frozen? ⟨g, k, none⟩ = false := by
  simp [World.frozen?, h]

theorem put_any (v : Value) (V : List Int) (g : Nat) (i x : Int) (w : World) (h : Own w v V g) :
    Calls Try.prog 19 #[v, .int .i64 i, .int .i64 x] w fun e w' => e = .returned (.tuple #[]) ∧ Own w' v (put V i x) g ∧ Fr w.heap.size [g] w w' := by
  have hcell := h.cell
  have h' := h
  obtain ⟨ad, cap, rfl, h1⟩ := h
  by_cases hi : i < 0 ∨ (V.length : Int) ≤ i
  · rw [put_out _ _ _ hi]
    exact (put_out' ad V.length cap i x w hi).mono fun e w' ⟨he, hw⟩ => ⟨he, by rw [hw]; exact h', by rw [hw]; exact Fr.refl _ _ _⟩
  · obtain ⟨rfl, rest, T, hb⟩ := h1 (by omega)
    have hk : i.toNat < V.length := by omega
    refine (put_in' g 0 V.length cap i x _ w (by omega) (by omega) (by rw [Nat.zero_add]; exact hcell i.toNat hk) (frozen_cells hb _)).mono fun e w' ⟨he, hw⟩ => ⟨he, ?_, ?_⟩
    · rw [hw, Nat.zero_add]
      refine ⟨some ⟨g, 0, none⟩, cap, by rw [put_len], fun _ => ⟨rfl, rest, T, ?_⟩⟩
      rw [set_cells hb, put_in _ _ _ (by omega)]
      rw [List.set_append_left _ _ (by simpa using hk), List.map_set]
    · rw [hw, Nat.zero_add]
      exact (Fr.refl _ _ _).setCell (.inr (by simp)) _

/-- the closure that asks a place: bound to a pointer to the machine's pointer -/
theorem ask_any (q bm : Nat) (vp : Value) (V : List Int) (g : Nat) (i : Int) (w : World) (hq : w.cell? ⟨q, 0, none⟩ = some (.pointer (some ⟨bm, 0, none⟩))) (hm : w.cell? ⟨bm, 7, none⟩ = some vp) (h : Own w vp V g) :
    Calls Try.prog 17 #[.int .i64 i, .pointer (some ⟨q, 0, none⟩)] w fun e w' => e = .returned (.int .i64 (get V i)) ∧ w' = w := by
  have ha := at_any (A := fun _ => True) vp V i w (h.ints fun _ => trivial)
  obtain ⟨ad, cap, rfl, h1⟩ := h
  clear h1
  go_enter Try.func17, Try.ntmps17
  go_wp2_with (go_at_call 18; refine ha.mono ?_; rintro e w' ⟨rfl, rfl⟩)
  go_ret
  exact ⟨rfl, rfl⟩

end Nx
end Go.Proofs.Ytanlfmhlohcmgaa
