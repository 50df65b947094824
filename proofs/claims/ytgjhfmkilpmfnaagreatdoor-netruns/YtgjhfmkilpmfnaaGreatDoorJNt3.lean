/- What net's at, put and the closure that asks places answer. -/
import Derived.Test.YtgjhfmkilpmfnaaGreatDoorJEs2
import Derived.Test.YtgjhfmkilpmfnaaGreatDoorRows
import Derived.WalkKit
import Derived.WalkSpells
import Derived.WalkLawsBesides
import Derived.Laws.EntriesVeiled
import Derived.Lib.QuietBelow
import Derived.Deep.QuietTactic
namespace Go.Proofs.YtgjhfmkilpmfnaaGreatDoor
open Go.RowKit
namespace Nx

theorem at_out (ad : Option Addr) (n cap : Nat) (i : Int) (w : World) (h : i < 0 ∨ (n : Int) ≤ i) :
    Calls Tryz.prog 21 #[.slice ad n cap, .int .i64 i] w fun e w' => e = .returned (.int .i64 0) ∧ w' = w := by
  by_cases h0 : i < 0
  · go_enter Tryz.func21, Tryz.ntmps21
    go_wp2
    go_ret
    exact ⟨rfl, rfl⟩
  · have h1 : (n : Int) ≤ i := by omega
    clear h
    go_enter Tryz.func21, Tryz.ntmps21
    go_wp2
    go_ret
    exact ⟨rfl, rfl⟩

theorem at_in (b off n cap : Nat) (i x : Int) (w : World) (h0 : 0 ≤ i) (h1 : i < n) (hc : w.cell? ⟨b, off + i.toNat, none⟩ = some (.int .i64 x)) :
    Calls Tryz.prog 21 #[.slice (some ⟨b, off, none⟩) n cap, .int .i64 i] w fun e w' => e = .returned (.int .i64 x) ∧ w' = w := by
  go_enter Tryz.func21, Tryz.ntmps21
  go_wp2
  go_ret
  exact ⟨rfl, rfl⟩

theorem at_any {A : Nat → Prop} (v : Value) (zs : List Int) (i : Int) (w : World) (h : Ints A w v zs) :
    Calls Tryz.prog 21 #[v, .int .i64 i] w fun e w' => e = .returned (.int .i64 (get zs i)) ∧ w' = w := by
  obtain ⟨ad, b, off, cap, rfl, h1, h2⟩ := h
  by_cases hi : i < 0 ∨ (zs.length : Int) ≤ i
  · have e : get zs i = 0 := by rcases hi with hi | hi; exact get_low _ _ hi; exact get_high _ _ hi
    rw [e]; exact at_out ad zs.length cap i w hi
  · obtain ⟨rfl, _⟩ := h1 (by omega)
    rw [get_in _ _ (by omega)]
    exact at_in b off zs.length cap i _ w (by omega) (by omega) (h2 i.toNat (by omega))

theorem put_out' (ad : Option Addr) (n cap : Nat) (i x : Int) (w : World) (h : i < 0 ∨ (n : Int) ≤ i) :
    Calls Tryz.prog 22 #[.slice ad n cap, .int .i64 i, .int .i64 x] w fun e w' => e = .returned (.tuple #[]) ∧ w' = w := by
  by_cases h0 : i < 0
  · go_enter Tryz.func22, Tryz.ntmps22
    go_wp2
    go_end0
    exact ⟨rfl, rfl⟩
  · have h1 : (n : Int) ≤ i := by omega
    have h2 : 0 ≤ i := by omega
    clear h
    go_enter Tryz.func22, Tryz.ntmps22
    go_wp2
    go_end0
    exact ⟨rfl, rfl⟩

theorem put_in' (b off n cap : Nat) (i x y : Int) (w : World) (h0 : 0 ≤ i) (h1 : i < n) (hc : w.cell? ⟨b, off + i.toNat, none⟩ = some (.int .i64 y)) (hf : w.frozen? ⟨b, off + i.toNat, none⟩ = false) :
    Calls Tryz.prog 22 #[.slice (some ⟨b, off, none⟩) n cap, .int .i64 i, .int .i64 x] w fun e w' => e = .returned (.tuple #[]) ∧ w' = w.setCell ⟨b, off + i.toNat, none⟩ (.int .i64 x) := by
  go_enter Tryz.func22, Tryz.ntmps22
  go_wp2
  go_end0
  exact ⟨rfl, rfl⟩

theorem set_cells {w : World} {g : Nat} {l : List Value} {T : TypeId} {f : Nat × Nat} (h : w.heap[g]? = some (.cells l.toArray T f)) (k : Nat) (x : Value) : (w.setCell ⟨g, k, none⟩ x).heap[g]? = some (.cells (l.set k x).toArray T f) := by
  have hl := lt_of_block h
  have e : w.heap[g] = .cells l.toArray T f := by rw [Array.getElem?_eq_getElem hl] at h; exact Option.some.inj h
  simp only [World.setCell]
  rw [Array.getElem?_eq_getElem (by simpa using hl), Array.getElem_modify]
  simp [e]

theorem frozen_cells {w : World} {g : Nat} {l : Array Value} {T : TypeId} (h : w.heap[g]? = some (.cells l T (0, 0))) (k : Nat) : w.frozen? ⟨g, k, none⟩ = false := by
  simp [World.frozen?, h]

theorem put_any (v : Value) (V : List Int) (g : Nat) (i x : Int) (w : World) (h : Own w v V g) :
    Calls Tryz.prog 22 #[v, .int .i64 i, .int .i64 x] w fun e w' => e = .returned (.tuple #[]) ∧ Own w' v (put V i x) g ∧ Fr w.heap.size [g] w w' := by
  have hcell := h.cell
  have h' := h
  obtain ⟨ad, cap, rfl, h1⟩ := h
  by_cases hi : i < 0 ∨ (V.length : Int) ≤ i
  · rw [put_out _ _ _ hi]
    exact (put_out' ad V.length cap i x w hi).mono fun e w' ⟨he, hw⟩ => ⟨he, by rw [hw]; exact h', by rw [hw]; exact Fr.refl _ _ _⟩
  · obtain ⟨rfl, rest, T, hb⟩ := h1 (by omega)
    have hk : i.toNat < V.length := by omega
    refine (put_in' g 0 V.length cap i x _ w (by omega) (by omega) (by rw [Nat.zero_add]; exact hcell i.toNat hk) (frozen_cells hb _)).mono fun e w' ⟨he, hw⟩ => ⟨he, ?_, ?_⟩
    · rw [hw, Nat.zero_add]
      refine ⟨some ⟨g, 0, none⟩, cap, by rw [put_len], fun _ => ⟨rfl, rest, T, ?_⟩⟩
      rw [set_cells hb, put_in _ _ _ (by omega)]
      rw [List.set_append_left _ _ (by simpa using hk), List.map_set]
    · rw [hw, Nat.zero_add]
      exact (Fr.refl _ _ _).setCell (.inr (by simp)) _

/-- the closure that asks a place: bound to a pointer to the machine's pointer -/
theorem ask_any (q bm : Nat) (vp : Value) (V : List Int) (g : Nat) (i : Int) (w : World) (hq : w.cell? ⟨q, 0, none⟩ = some (.pointer (some ⟨bm, 0, none⟩))) (hm : w.cell? ⟨bm, 7, none⟩ = some vp) (h : Own w vp V g) :
    Calls Tryz.prog 20 #[.int .i64 i, .pointer (some ⟨q, 0, none⟩)] w fun e w' => e = .returned (.int .i64 (get V i)) ∧ w' = w := by
  have ha := at_any (A := fun _ => True) vp V i w (h.ints fun _ => trivial)
  obtain ⟨ad, cap, rfl, h1⟩ := h
  clear h1
  go_enter Tryz.func20, Tryz.ntmps20
  go_wp2_with (go_at_call 21; refine ha.mono ?_; rintro e w' ⟨rfl, rfl⟩)
  go_ret
  exact ⟨rfl, rfl⟩

end Nx
end Go.Proofs.YtgjhfmkilpmfnaaGreatDoor
/-
  What each small function of the program's package value, and of the document's own answer, returns: every function of one, two or three numbers, but for the array's.
-/
namespace Go.Proofs.YtgjhfmkilpmfnaaGreatDoor
open Go.RowKit

theorem truth_any (b : Bool) (w : World) :
    Calls Tryz.prog 41 #[.bool b] w fun e w' => e = .returned (.int .i64 (yes b)) ∧ w' = w := by
  cases b
  all_goals
    go_enter Tryz.func41, Tryz.ntmps41
    go_wp2
    go_ret
    exact ⟨rfl, rfl⟩

theorem add_any (a b : Int) (w : World) :
    Calls Tryz.prog 42 #[.int .i64 a, .int .i64 b] w fun e w' => e = .returned (.int .i64 (wrap64 (a + b))) ∧ w' = w := by
  go_enter Tryz.func42, Tryz.ntmps42
  go_wp2
  go_ret
  exact ⟨rfl, rfl⟩

theorem sub_any (a b : Int) (w : World) :
    Calls Tryz.prog 43 #[.int .i64 a, .int .i64 b] w fun e w' => e = .returned (.int .i64 (wrap64 (a - b))) ∧ w' = w := by
  go_enter Tryz.func43, Tryz.ntmps43
  go_wp2
  go_ret
  exact ⟨rfl, rfl⟩

theorem mul_any (a b : Int) (w : World) :
    Calls Tryz.prog 44 #[.int .i64 a, .int .i64 b] w fun e w' => e = .returned (.int .i64 (wrap64 (a * b))) ∧ w' = w := by
  go_enter Tryz.func44, Tryz.ntmps44
  go_wp2
  go_ret
  exact ⟨rfl, rfl⟩

theorem quotient_any (a b : Int) (w : World) :
    Calls Tryz.prog 45 #[.int .i64 a, .int .i64 b] w fun e w' => e = .returned (.int .i64 (vDiv a b)) ∧ w' = w := by
  by_cases h : b = 0
  · subst h
    go_enter Tryz.func45, Tryz.ntmps45
    go_wp2
    go_ret
    exact ⟨rfl, rfl⟩
  · have e : vDiv a b = wrap64 (a.tdiv b) := if_neg h
    have E : Hid (vDiv a b = wrap64 (a.tdiv b)) := e
    clear e
    have hb : (b == 0) = false := by simpa using h
    go_enter Tryz.func45, Tryz.ntmps45
    go_wp2
    go_ret
    exact ⟨by rw [E.out]; rfl, rfl⟩

theorem rest_any (a b : Int) (w : World) :
    Calls Tryz.prog 46 #[.int .i64 a, .int .i64 b] w fun e w' => e = .returned (.int .i64 (vMod a b)) ∧ w' = w := by
  by_cases h : b = 0
  · subst h
    go_enter Tryz.func46, Tryz.ntmps46
    go_wp2
    go_ret
    exact ⟨rfl, rfl⟩
  · have E : Hid (vMod a b = a.tmod b) := if_neg h
    have hb : (b == 0) = false := by simpa using h
    go_enter Tryz.func46, Tryz.ntmps46
    go_wp2
    go_ret
    exact ⟨by rw [E.out]; rfl, rfl⟩

set_option maxHeartbeats 400000 in
theorem eq_any (a b : Int) (w : World) :
    Calls Tryz.prog 47 #[.int .i64 a, .int .i64 b] w fun e w' => e = .returned (.int .i64 (yes (a == b))) ∧ w' = w := by
  go_enter Tryz.func47, Tryz.ntmps47
  go_wp2_with (go_at_call 41; refine (truth_any _ _).mono ?_; rintro e w' ⟨rfl, rfl⟩)
  go_ret
  exact ⟨rfl, rfl⟩

theorem ne_any (a b : Int) (w : World) :
    Calls Tryz.prog 48 #[.int .i64 a, .int .i64 b] w fun e w' => e = .returned (.int .i64 (yes (a != b))) ∧ w' = w := by
  go_enter Tryz.func48, Tryz.ntmps48
  go_wp2_with (go_at_call 41; refine (truth_any _ _).mono ?_; rintro e w' ⟨rfl, rfl⟩)
  go_ret
  exact ⟨rfl, rfl⟩

theorem lt_any (a b : Int) (w : World) :
    Calls Tryz.prog 49 #[.int .i64 a, .int .i64 b] w fun e w' => e = .returned (.int .i64 (yes (decide (a < b)))) ∧ w' = w := by
  go_enter Tryz.func49, Tryz.ntmps49
  go_wp2_with (go_at_call 41; refine (truth_any _ _).mono ?_; rintro e w' ⟨rfl, rfl⟩)
  go_ret
  exact ⟨rfl, rfl⟩

theorem le_any (a b : Int) (w : World) :
    Calls Tryz.prog 50 #[.int .i64 a, .int .i64 b] w fun e w' => e = .returned (.int .i64 (yes (decide (a ≤ b)))) ∧ w' = w := by
  go_enter Tryz.func50, Tryz.ntmps50
  go_wp2_with (go_at_call 41; refine (truth_any _ _).mono ?_; rintro e w' ⟨rfl, rfl⟩)
  go_ret
  exact ⟨rfl, rfl⟩

theorem and_any (a b : Int) (w : World) :
    Calls Tryz.prog 51 #[.int .i64 a, .int .i64 b] w fun e w' => e = .returned (.int .i64 (yes (a != 0 && b != 0))) ∧ w' = w := by
  by_cases h : a = 0
  · subst h
    go_enter Tryz.func51, Tryz.ntmps51
    go_wp2_with (go_at_call 41; refine (truth_any _ _).mono ?_; rintro e w' ⟨rfl, rfl⟩)
    go_ret
    exact ⟨rfl, rfl⟩
  · have ha : (a != 0) = true := by simpa using h
    go_enter Tryz.func51, Tryz.ntmps51
    go_wp2_with (go_at_call 41; refine (truth_any _ _).mono ?_; rintro e w' ⟨rfl, rfl⟩)
    go_ret
    exact ⟨by rw [ha]; rfl, rfl⟩

theorem or_any (a b : Int) (w : World) :
    Calls Tryz.prog 52 #[.int .i64 a, .int .i64 b] w fun e w' => e = .returned (.int .i64 (yes (a != 0 || b != 0))) ∧ w' = w := by
  by_cases h : a = 0
  · subst h
    go_enter Tryz.func52, Tryz.ntmps52
    go_wp2_with (go_at_call 41; refine (truth_any _ _).mono ?_; rintro e w' ⟨rfl, rfl⟩)
    go_ret
    exact ⟨rfl, rfl⟩
  · have ha : (a != 0) = true := by simpa using h
    go_enter Tryz.func52, Tryz.ntmps52
    go_wp2_with (go_at_call 41; refine (truth_any _ _).mono ?_; rintro e w' ⟨rfl, rfl⟩)
    go_ret
    exact ⟨by rw [ha]; rfl, rfl⟩

theorem one_any (c a : Int) (w : World) :
    Calls Tryz.prog 32 #[.int .i64 c, .int .i64 a] w fun e w' => e = .returned (.int .i64 (vOne c a)) ∧ w' = w := by
  by_cases h4 : c = 4
  · subst h4
    go_enter Tryz.func32, Tryz.ntmps32
    go_wp2
    go_ret
    exact ⟨rfl, rfl⟩
  · by_cases h5 : c = 5
    · subst h5
      go_enter Tryz.func32, Tryz.ntmps32
      go_wp2_with (go_at_call 41; refine (truth_any _ _).mono ?_; rintro e w' ⟨rfl, rfl⟩)
      go_ret
      exact ⟨rfl, rfl⟩
    · have E : Hid (vOne c a = 0) := by unfold Hid vOne; rw [if_neg h4, if_neg h5]
      have b4 : (c == 4) = false := by simpa using h4
      have b5 : (c == 5) = false := by simpa using h5
      go_enter Tryz.func32, Tryz.ntmps32
      go_wp2
      go_ret
      exact ⟨by rw [E.out]; rfl, rfl⟩

theorem pick_any (a b c : Int) (w : World) :
    Calls Tryz.prog 33 #[.int .i64 a, .int .i64 b, .int .i64 c] w fun e w' => e = .returned (.int .i64 (vPick a b c)) ∧ w' = w := by
  by_cases h : a = 0
  · subst h
    go_enter Tryz.func33, Tryz.ntmps33
    go_wp2
    go_ret
    exact ⟨rfl, rfl⟩
  · have E : Hid (vPick a b c = b) := by unfold Hid vPick; rw [if_neg h]
    have b4 : (a != 0) = true := by simpa using h
    go_enter Tryz.func33, Tryz.ntmps33
    go_wp2
    go_ret
    exact ⟨by rw [E.out]; rfl, rfl⟩

end Go.Proofs.YtgjhfmkilpmfnaaGreatDoor
/-
  What the program's Two returns: the array of what is asked of two numbers is laid anew in each call, a code is looked up in it, and what lies there is called.
-/
namespace Go.Proofs.YtgjhfmkilpmfnaaGreatDoor
open Go.RowKit

theorem setRow_alloc (w : World) (a b : Array Value) (t : TypeId) : (w.alloc (.cells a t)).setRow w.heap.size b = w.alloc (.cells b t) := by
  unfold World.setRow World.alloc
  congr 1
  apply Array.ext
  · simp
  · intro k h1 h2
    simp only [Array.getElem_modify, Array.getElem_push]
    split
    · rename_i hk; subst hk; simp
    · rename_i hk; have : k < w.heap.size := by simp at h2; omega
      simp [this]

def asked : Array Value := #[.nilFunc, .nilFunc, .nilFunc, .nilFunc, .nilFunc, .nilFunc, .func (.func 42) #[] #[], .func (.func 43) #[] #[], .func (.func 44) #[] #[], .func (.func 45) #[] #[], .func (.func 46) #[] #[], .func (.func 47) #[] #[], .func (.func 48) #[] #[], .func (.func 49) #[] #[], .func (.func 50) #[] #[], .func (.func 51) #[] #[], .func (.func 52) #[] #[]]

theorem asked_one : (asked.all fun x => x.oneCell') = true := by kernel_rfl
theorem asked_info : (Tryz.prog.info? 86).map (·.size) = some asked.size := by kernel_rfl
theorem asked_cell (w : World) (j : Nat) (v : Value) (h : asked[j]? = some v) : (w.alloc (.cells asked 86)).cell? ⟨w.heap.size, j, none⟩ = some v := by
  have e := (MapKept.heap_alloc w (.cells asked 86)).1
  simp only [World.cell?, e]
  exact h

theorem neq_nil (k : Nat) (w : World) : (binOp BinOp.eql 85 (.func (.func k) #[] #[]) .nilFunc).run Tryz.prog w = .ok (.bool false) w := by kernel_rfl
theorem eq_nil (w : World) : (binOp BinOp.eql 85 .nilFunc .nilFunc).run Tryz.prog w = .ok (.bool true) w := by kernel_rfl


set_option maxHeartbeats 4000000 in
theorem two_func (c : Int) (k : Nat) (a b r : Int) (w : World) (h0 : 0 ≤ c) (h1 : c < 17) (hk : asked[c.toNat]? = some (.func (.func k) #[] #[]))
    (hkk : k = 42 ∨ k = 43 ∨ k = 44 ∨ k = 45 ∨ k = 46 ∨ k = 47 ∨ k = 48 ∨ k = 49 ∨ k = 50 ∨ k = 51 ∨ k = 52)
    (hcall : ∀ w, Calls Tryz.prog k #[.int .i64 a, .int .i64 b] w fun e w' => e = .returned (.int .i64 r) ∧ w' = w) :
    Calls Tryz.prog 34 #[.int .i64 c, .int .i64 a, .int .i64 b] w fun e w' => e = .returned (.int .i64 r) ∧ w' = w.alloc (.cells asked 86) := by
  have q0 := neq_nil
  have hc := asked_cell w c.toNat _ hk
  clear hk
  rcases hkk with rfl | rfl | rfl | rfl | rfl | rfl | rfl | rfl | rfl | rfl | rfl
  all_goals
    go_enter Tryz.func34, Tryz.ntmps34
    go_wp2_with (first | (refine wpList_store_row rfl 86 _ _ rfl w.heap.size asked rfl rfl 86 _ (MapKept.heap_alloc w _).1 asked_info rfl asked_one ?_; rw [setRow_alloc]) | (refine (hcall _).mono ?_; rintro e w' ⟨rfl, rfl⟩))
    go_ret
    exact ⟨rfl, rfl⟩

set_option maxHeartbeats 400000 in
theorem two_nil (c : Int) (a b : Int) (w : World) (h0 : 0 ≤ c) (h1 : c < 17) (hk : asked[c.toNat]? = some .nilFunc) :
    Calls Tryz.prog 34 #[.int .i64 c, .int .i64 a, .int .i64 b] w fun e w' => e = .returned (.int .i64 0) ∧ w' = w.alloc (.cells asked 86) := by
  have q1 := eq_nil
  have hc := asked_cell w c.toNat _ hk
  clear hk
  go_enter Tryz.func34, Tryz.ntmps34
  go_wp2_with (refine wpList_store_row rfl 86 _ _ rfl w.heap.size asked rfl rfl 86 _ (MapKept.heap_alloc w _).1 asked_info rfl asked_one ?_; rw [setRow_alloc])
  go_ret
  exact ⟨rfl, rfl⟩

set_option maxHeartbeats 400000 in
theorem two_low (c : Int) (a b : Int) (w : World) (h0 : c < 0) :
    Calls Tryz.prog 34 #[.int .i64 c, .int .i64 a, .int .i64 b] w fun e w' => e = .returned (.int .i64 0) ∧ w' = w.alloc (.cells asked 86) := by
  go_enter Tryz.func34, Tryz.ntmps34
  go_wp2_with (refine wpList_store_row rfl 86 _ _ rfl w.heap.size asked rfl rfl 86 _ (MapKept.heap_alloc w _).1 asked_info rfl asked_one ?_; rw [setRow_alloc])
  go_ret
  exact ⟨rfl, rfl⟩

set_option maxHeartbeats 400000 in
theorem two_high (c : Int) (a b : Int) (w : World) (h0 : 17 ≤ c) :
    Calls Tryz.prog 34 #[.int .i64 c, .int .i64 a, .int .i64 b] w fun e w' => e = .returned (.int .i64 0) ∧ w' = w.alloc (.cells asked 86) := by
  go_enter Tryz.func34, Tryz.ntmps34
  go_wp2_with (refine wpList_store_row rfl 86 _ _ rfl w.heap.size asked rfl rfl 86 _ (MapKept.heap_alloc w _).1 asked_info rfl asked_one ?_; rw [setRow_alloc])
  go_ret
  exact ⟨rfl, rfl⟩
end Go.Proofs.YtgjhfmkilpmfnaaGreatDoor
/-
  What the program's Two returns, of any code.
-/
namespace Go.Proofs.YtgjhfmkilpmfnaaGreatDoor
open Go.RowKit

theorem vTwo_none {c : Int} (h : ∀ k : Int, 6 ≤ k → k ≤ 16 → c ≠ k) (a b : Int) : vTwo c a b = 0 := by
  unfold vTwo
  rw [if_neg (h 6 (by omega) (by omega)), if_neg (h 7 (by omega) (by omega)), if_neg (h 8 (by omega) (by omega)), if_neg (h 9 (by omega) (by omega)), if_neg (h 10 (by omega) (by omega)), if_neg (h 11 (by omega) (by omega)), if_neg (h 12 (by omega) (by omega)), if_neg (h 13 (by omega) (by omega)), if_neg (h 14 (by omega) (by omega)), if_neg (h 15 (by omega) (by omega)), if_neg (h 16 (by omega) (by omega))]

theorem asked_nil (c : Int) (h0 : 0 ≤ c) (h1 : c < 6) : asked[c.toNat]? = some .nilFunc := by
  have h : c = 0 ∨ c = 1 ∨ c = 2 ∨ c = 3 ∨ c = 4 ∨ c = 5 := by omega
  rcases h with rfl | rfl | rfl | rfl | rfl | rfl <;> rfl

theorem two_any (c a b : Int) (w : World) :
    Calls Tryz.prog 34 #[.int .i64 c, .int .i64 a, .int .i64 b] w fun e w' => e = .returned (.int .i64 (vTwo c a b)) ∧ w' = w.alloc (.cells asked 86) := by
  by_cases h0 : c < 0
  · rw [vTwo_none (fun k hk _ => by omega)]
    exact two_low c a b w h0
  by_cases h1 : 17 ≤ c
  · rw [vTwo_none (fun k _ hk => by omega)]
    exact two_high c a b w h1
  by_cases h2 : c < 6
  · rw [vTwo_none (fun k hk _ => by omega)]
    exact two_nil c a b w (by omega) (by omega) (asked_nil c (by omega) h2)
  have h : c = 6 ∨ c = 7 ∨ c = 8 ∨ c = 9 ∨ c = 10 ∨ c = 11 ∨ c = 12 ∨ c = 13 ∨ c = 14 ∨ c = 15 ∨ c = 16 := by omega
  clear h0 h1 h2
  rcases h with rfl | rfl | rfl | rfl | rfl | rfl | rfl | rfl | rfl | rfl | rfl
  · exact two_func 6 42 a b _ w (by omega) (by omega) rfl (by omega) (add_any a b)
  · exact two_func 7 43 a b _ w (by omega) (by omega) rfl (by omega) (sub_any a b)
  · exact two_func 8 44 a b _ w (by omega) (by omega) rfl (by omega) (mul_any a b)
  · exact two_func 9 45 a b _ w (by omega) (by omega) rfl (by omega) (quotient_any a b)
  · exact two_func 10 46 a b _ w (by omega) (by omega) rfl (by omega) (rest_any a b)
  · exact two_func 11 47 a b _ w (by omega) (by omega) rfl (by omega) (eq_any a b)
  · exact two_func 12 48 a b _ w (by omega) (by omega) rfl (by omega) (ne_any a b)
  · exact two_func 13 49 a b _ w (by omega) (by omega) rfl (by omega) (lt_any a b)
  · exact two_func 14 50 a b _ w (by omega) (by omega) rfl (by omega) (le_any a b)
  · exact two_func 15 51 a b _ w (by omega) (by omega) rfl (by omega) (and_any a b)
  · exact two_func 16 52 a b _ w (by omega) (by omega) rfl (by omega) (or_any a b)

end Go.Proofs.YtgjhfmkilpmfnaaGreatDoor
/- What net's made answers: what a step makes of numbers, and of places. -/
namespace Go.Proofs.YtgjhfmkilpmfnaaGreatDoor
open Go.RowKit Go.Sort
namespace Nx

theorem ball {w w' w'' : World} (h : Below w.heap.size w w') (k : Below w'.heap.size w' w'') : Below w.heap.size w w'' := h.trans (k.mono h.size)
theorem cell_below {w w' : World} (h : Below w.heap.size w w') {b o : Nat} {v : Value} (hc : w.cell? ⟨b, o, none⟩ = some v) : w'.cell? ⟨b, o, none⟩ = some v := by
  rw [cell_of_block (h.block b (lt_of_cell hc))]; exact hc
theorem grown_one (w : World) (o : Obj) : Below w.heap.size w (w.alloc o) := (Below.refl _ _).alloc (Nat.le_refl _) _

/-- what there is of a machine that a step asks: the closure's pointer, the machine's places, the numbers -/
structure MV (A : Nat → Prop) (w : World) (q bm g : Nat) (vp vN : Value) (V nums : List Int) : Prop where
  q : w.cell? ⟨q, 0, none⟩ = some (.pointer (some ⟨bm, 0, none⟩))
  p : w.cell? ⟨bm, 7, none⟩ = some vp
  own : Own w vp V g
  gl : 0 < V.length → g < w.heap.size
  nums : Ints A w vN nums
theorem MV.below {A : Nat → Prop} {w w' : World} {q bm g : Nat} {vp vN : Value} {V nums : List Int} (h : MV A w q bm g vp vN V nums) (hb : Below w.heap.size w w') : MV A w' q bm g vp vN V nums := by
  refine ⟨?_, ?_, ?_, fun hp => Nat.lt_of_lt_of_le (h.gl hp) hb.size, ?_⟩
  · rw [cell_of_block (hb.block q (lt_of_cell h.q))]; exact h.q
  · rw [cell_of_block (hb.block bm (lt_of_cell h.p))]; exact h.p
  · by_cases hp : 0 < V.length
    · exact h.own.keep (hb.block g (h.gl hp))
    · obtain ⟨ad, cap, rfl, _⟩ := h.own
      exact ⟨ad, cap, rfl, fun hp' => absurd hp' hp⟩
  · exact h.nums.carry fun b ha hl => ⟨ha, hb.block b hl⟩
theorem MV.ask {A : Nat → Prop} {w : World} {q bm g : Nat} {vp vN : Value} {V nums : List Int} (h : MV A w q bm g vp vN V nums) (i : Int) :
    Calls Tryz.prog 20 #[.int .i64 i, .pointer (some ⟨q, 0, none⟩)] w fun e w' => e = .returned (.int .i64 (get V i)) ∧ w' = w :=
  ask_any q bm vp V g i w h.q h.p h.own

def stepV (s : Sp) : Value := .agg #[.int .i64 s.code, .int .i64 s.dst, .int .i64 s.a, .int .i64 s.b, .int .i64 s.c]
def askV (q : Nat) : Value := .func (.func 20) #[] #[.pointer (some ⟨q, 0, none⟩)]

section
variable {A : Nat → Prop} (w : World) (q bm g : Nat) (vp vN : Value) (V nums : List Int) (s : Sp)

set_option maxHeartbeats 400000 in
theorem made_num (h : MV A w q bm g vp vN V nums) (hc : s.code = 1) :
    Calls Tryz.prog 23 #[.agg #[.int .i64 s.code, .int .i64 s.dst, .int .i64 s.a, .int .i64 s.b, .int .i64 s.c], vN, .func (.func 20) #[] #[.pointer (some ⟨q, 0, none⟩)]] w fun e w' => e = .returned (.int .i64 (get nums s.a)) ∧ Below w.heap.size w w' := by
  have ha := fun o => at_any vN nums s.a (w.alloc o) (h.below (grown_one w o)).nums
  clear h
  obtain ⟨code, dst, a, b, c⟩ := s
  subst hc
  go_enter Tryz.func23, Tryz.ntmps23
  go_wp2_with (go_at_call 21; refine (ha _).mono ?_; rintro e w' ⟨rfl, rfl⟩)
  go_ret
  exact ⟨rfl, grown_one w _⟩

set_option maxHeartbeats 400000 in
theorem made_var (h : MV A w q bm g vp vN V nums) (hc : s.code = 2) :
    Calls Tryz.prog 23 #[.agg #[.int .i64 s.code, .int .i64 s.dst, .int .i64 s.a, .int .i64 s.b, .int .i64 s.c], vN, .func (.func 20) #[] #[.pointer (some ⟨q, 0, none⟩)]] w fun e w' => e = .returned (.int .i64 (get V s.a)) ∧ Below w.heap.size w w' := by
  have ha := fun o => (h.below (grown_one w o)).ask s.a
  clear h
  obtain ⟨code, dst, a, b, c⟩ := s
  subst hc
  go_enter Tryz.func23, Tryz.ntmps23
  go_wp2_with (go_at_call 20; refine (ha _).mono ?_; rintro e w' ⟨rfl, rfl⟩)
  go_ret
  exact ⟨rfl, grown_one w _⟩

theorem one_q (c a : Int) (w : World) (d : Nat) (os : Array Obj) :
    Calls Tryz.prog 32 #[.int .i64 c, .int .i64 a] (grow (redrawn w d) os) fun e w'' => e = .returned (.int .i64 (vOne c a)) ∧ ∃ p : Regrown, w'' = grow (redrawn w p.d) p.os :=
  Calls.regrown_of ((one_any c a _).mono fun _ _ ⟨he, hw⟩ => ⟨he, by rw [hw]; exact Below.refl _ _⟩)
theorem pick_q (a b c : Int) (w : World) (d : Nat) (os : Array Obj) :
    Calls Tryz.prog 33 #[.int .i64 a, .int .i64 b, .int .i64 c] (grow (redrawn w d) os) fun e w'' => e = .returned (.int .i64 (vPick a b c)) ∧ ∃ p : Regrown, w'' = grow (redrawn w p.d) p.os :=
  Calls.regrown_of ((pick_any a b c _).mono fun _ _ ⟨he, hw⟩ => ⟨he, by rw [hw]; exact Below.refl _ _⟩)
theorem two_q (c a b : Int) (w : World) (d : Nat) (os : Array Obj) :
    Calls Tryz.prog 34 #[.int .i64 c, .int .i64 a, .int .i64 b] (grow (redrawn w d) os) fun e w'' => e = .returned (.int .i64 (vTwo c a b)) ∧ ∃ p : Regrown, w'' = grow (redrawn w p.d) p.os :=
  Calls.regrown_of ((two_any c a b _).mono fun _ _ ⟨he, hw⟩ => ⟨he, by rw [hw]; exact grown_one _ _⟩)

set_option maxHeartbeats 400000 in
theorem made_one (h : MV A w q bm g vp vN V nums) (hc : s.code = 4 ∨ s.code = 5) :
    Calls Tryz.prog 23 #[.agg #[.int .i64 s.code, .int .i64 s.dst, .int .i64 s.a, .int .i64 s.b, .int .i64 s.c], vN, .func (.func 20) #[] #[.pointer (some ⟨q, 0, none⟩)]] w fun e w' => e = .returned (.int .i64 (vOne s.code (get V s.a))) ∧ Below w.heap.size w w' := by
  have hask := fun o d os i => Calls.regrown_of (((h.below (ball (grown_one w o) (below_regrown (w.alloc o) d os))).ask i).mono fun _ _ ⟨he, hw⟩ => ⟨he, by rw [hw]; exact Below.refl _ _⟩)
  have hone := one_q
  clear h
  obtain ⟨code, dst, a, b, c⟩ := s
  simp only at hc
  have cq0 := fun d os => cell_regrown (show (w.alloc (.cells #[.int .i64 code, .int .i64 dst, .int .i64 a, .int .i64 b, .int .i64 c] 50)).cell? ⟨w.heap.size, 0, none⟩ = some (.int .i64 code) by simp) d os
  have cq2 := fun d os => cell_regrown (show (w.alloc (.cells #[.int .i64 code, .int .i64 dst, .int .i64 a, .int .i64 b, .int .i64 c] 50)).cell? ⟨w.heap.size, 2, none⟩ = some (.int .i64 a) by simp) d os
  rcases hc with rfl | rfl
  all_goals
    go_enter Tryz.func23, Tryz.ntmps23
    go_wp2_with fail
    refine wp_region_quiet_below (by kernel_rfl) (by kernel_rfl) ?_
    repeat (quiet_step (first | exact hask _ _ _ _ | exact hone _ _ _ _ _))
    refine wpQuiet_nil ?_
    intro _ hw'
    obtain ⟨⟨dq, osq⟩, hw''⟩ := hw'
    subst hw''
    go_wp2_with fail
    go_ret
    exact ⟨rfl, ball (grown_one w _) (below_regrown _ dq osq)⟩

set_option maxHeartbeats 400000 in
theorem made_pick (h : MV A w q bm g vp vN V nums) (hc : s.code = 17) :
    Calls Tryz.prog 23 #[.agg #[.int .i64 s.code, .int .i64 s.dst, .int .i64 s.a, .int .i64 s.b, .int .i64 s.c], vN, .func (.func 20) #[] #[.pointer (some ⟨q, 0, none⟩)]] w fun e w' => e = .returned (.int .i64 (vPick (get V s.a) (get V s.b) (get V s.c))) ∧ Below w.heap.size w w' := by
  have hask := fun o d os i => Calls.regrown_of (((h.below (ball (grown_one w o) (below_regrown (w.alloc o) d os))).ask i).mono fun _ _ ⟨he, hw⟩ => ⟨he, by rw [hw]; exact Below.refl _ _⟩)
  have hone := pick_q
  clear h
  obtain ⟨code, dst, a, b, c⟩ := s
  simp only at hc
  subst hc
  have cq2 := fun d os => cell_regrown (show (w.alloc (.cells #[.int .i64 17, .int .i64 dst, .int .i64 a, .int .i64 b, .int .i64 c] 50)).cell? ⟨w.heap.size, 2, none⟩ = some (.int .i64 a) by simp) d os
  have cq3 := fun d os => cell_regrown (show (w.alloc (.cells #[.int .i64 17, .int .i64 dst, .int .i64 a, .int .i64 b, .int .i64 c] 50)).cell? ⟨w.heap.size, 3, none⟩ = some (.int .i64 b) by simp) d os
  have cq4 := fun d os => cell_regrown (show (w.alloc (.cells #[.int .i64 17, .int .i64 dst, .int .i64 a, .int .i64 b, .int .i64 c] 50)).cell? ⟨w.heap.size, 4, none⟩ = some (.int .i64 c) by simp) d os
  go_enter Tryz.func23, Tryz.ntmps23
  go_wp2_with fail
  refine wp_region_quiet_below (by kernel_rfl) (by kernel_rfl) ?_
  repeat (quiet_step (first | exact hask _ _ _ _ | exact hone _ _ _ _ _ _))
  refine wpQuiet_nil ?_
  intro _ hw'
  obtain ⟨⟨dq, osq⟩, hw''⟩ := hw'
  subst hw''
  go_wp2_with fail
  go_ret
  exact ⟨rfl, ball (grown_one w _) (below_regrown _ dq osq)⟩

set_option maxHeartbeats 400000 in
theorem made_two (h : MV A w q bm g vp vN V nums) (h1 : s.code ≠ 1) (h2 : s.code ≠ 2) (h4 : s.code ≠ 4) (h5 : s.code ≠ 5) (h17 : s.code ≠ 17) :
    Calls Tryz.prog 23 #[.agg #[.int .i64 s.code, .int .i64 s.dst, .int .i64 s.a, .int .i64 s.b, .int .i64 s.c], vN, .func (.func 20) #[] #[.pointer (some ⟨q, 0, none⟩)]] w fun e w' => e = .returned (.int .i64 (vTwo s.code (get V s.a) (get V s.b))) ∧ Below w.heap.size w w' := by
  have hask := fun o d os i => Calls.regrown_of (((h.below (ball (grown_one w o) (below_regrown (w.alloc o) d os))).ask i).mono fun _ _ ⟨he, hw⟩ => ⟨he, by rw [hw]; exact Below.refl _ _⟩)
  have hone := two_q
  clear h
  obtain ⟨code, dst, a, b, c⟩ := s
  have t1 : (code == 1) = false := by simpa using h1
  have t2 : (code == 2) = false := by simpa using h2
  have t4 : (code == 4) = false := by simpa using h4
  have t5 : (code == 5) = false := by simpa using h5
  have t17 : (code == 17) = false := by simpa using h17
  clear h1 h2 h4 h5 h17
  have cq0 := fun d os => cell_regrown (show (w.alloc (.cells #[.int .i64 code, .int .i64 dst, .int .i64 a, .int .i64 b, .int .i64 c] 50)).cell? ⟨w.heap.size, 0, none⟩ = some (.int .i64 code) by simp) d os
  have cq2 := fun d os => cell_regrown (show (w.alloc (.cells #[.int .i64 code, .int .i64 dst, .int .i64 a, .int .i64 b, .int .i64 c] 50)).cell? ⟨w.heap.size, 2, none⟩ = some (.int .i64 a) by simp) d os
  have cq3 := fun d os => cell_regrown (show (w.alloc (.cells #[.int .i64 code, .int .i64 dst, .int .i64 a, .int .i64 b, .int .i64 c] 50)).cell? ⟨w.heap.size, 3, none⟩ = some (.int .i64 b) by simp) d os
  go_enter Tryz.func23, Tryz.ntmps23
  go_wp2_with fail
  refine wp_region_quiet_below (by kernel_rfl) (by kernel_rfl) ?_
  repeat (quiet_step (first | exact hask _ _ _ _ | exact hone _ _ _ _ _ _))
  refine wpQuiet_nil ?_
  intro _ hw'
  obtain ⟨⟨dq, osq⟩, hw''⟩ := hw'
  subst hw''
  go_wp2_with fail
  go_ret
  exact ⟨rfl, ball (grown_one w _) (below_regrown _ dq osq)⟩

theorem made_any (h : MV A w q bm g vp vN V nums) :
    Calls Tryz.prog 23 #[.agg #[.int .i64 s.code, .int .i64 s.dst, .int .i64 s.a, .int .i64 s.b, .int .i64 s.c], vN, .func (.func 20) #[] #[.pointer (some ⟨q, 0, none⟩)]] w fun e w' => e = .returned (.int .i64 (made nums V s)) ∧ Below w.heap.size w w' := by
  unfold made
  by_cases h1 : s.code = 1
  · rw [if_pos h1]; exact made_num w q bm g vp vN V nums s h h1
  rw [if_neg h1]
  by_cases h2 : s.code = 2
  · rw [if_pos h2]; exact made_var w q bm g vp vN V nums s h h2
  rw [if_neg h2]
  by_cases h4 : s.code = 4 ∨ s.code = 5
  · rw [if_pos h4]; exact made_one w q bm g vp vN V nums s h h4
  rw [if_neg h4]
  by_cases h17 : s.code = 17
  · rw [if_pos h17]; exact made_pick w q bm g vp vN V nums s h h17
  rw [if_neg h17]
  exact made_two w q bm g vp vN V nums s h h1 h2 (fun e => h4 (.inl e)) (fun e => h4 (.inr e)) h17
end

end Nx
end Go.Proofs.YtgjhfmkilpmfnaaGreatDoor
/- What net's forget does: all places are 0 but those that are kept. -/
namespace Go.Proofs.YtgjhfmkilpmfnaaGreatDoor
open Go.RowKit
namespace Nx

theorem ix23 (ad : Option Addr) (b off n cap k : Nat) (hk : k < n) (ha : 0 < n → ad = some ⟨b, off, none⟩) (w : World) : (Instr.indexAt 23 (.slice ad n cap) (.int .i64 (k : Int))).run Tryz.prog w = .ok (.pointer (some ⟨b, off + k, none⟩)) w := by
  obtain rfl := ha (by omega)
  rw [run_indexAt_slice _ _ _ _ _ _ _ (by kernel_rfl), if_pos ⟨by omega, by omega⟩]
  have e : (sizeOf (Tryz.prog.elem 23)).run Tryz.prog w = .ok 1 w := by kernel_rfl
  rw [e]
  simp [Result.andThen, Addr.add]

theorem own_of_row {w : World} {B e n : Nat} {v : Value} {V : List Int} (h : w.ownsRow B e 1 v n (V.map (Value.int .i64))) : ∃ g, Own w v V g ∧ B ≤ g ∧ (0 < n → g < w.heap.size) ∧ V.length = n := by
  obtain ⟨hl, h2⟩ := h
  have hl' : V.length = n := by simpa using hl
  rcases h2 with ⟨rfl, rfl⟩ | ⟨g, cap, cur, rfl, hB, hg, hn, hc, hs, ht⟩
  · exact ⟨B, ⟨none, 0, by rw [hl'], fun hp => by omega⟩, Nat.le_refl _, fun h => by omega, hl'⟩
  · refine ⟨g, ⟨some ⟨g, 0, none⟩, cap, by rw [hl'], fun _ => ⟨rfl, cur.toList.drop n, e, ?_⟩⟩, hB, fun _ => lt_of_block hg, hl'⟩
    rw [hg, ← ht, Nat.mul_one, List.take_append_drop]

theorem own_made {w : World} {B e g n cap : Nat} {V : List Int} (h : w.ownsRow B e 1 (.slice (some ⟨g, 0, none⟩) n cap) n (V.map (Value.int .i64))) (hn : V.length = n) : Own w (.slice (some ⟨g, 0, none⟩) n cap) V g := by
  obtain ⟨hl, h2⟩ := h
  rcases h2 with ⟨h0, _⟩ | ⟨g', cap', cur, e1, hB, hg, _, hc, hs, ht⟩
  · exact absurd h0 (by simp)
  · obtain ⟨rfl, rfl⟩ : g = g' ∧ cap = cap' := by simpa using e1
    refine ⟨some ⟨g, 0, none⟩, cap, by rw [hn], fun _ => ⟨rfl, cur.toList.drop n, e, ?_⟩⟩
    rw [hg, ← ht, Nat.mul_one, List.take_append_drop]

theorem Tryz.infoI64 : (Tryz.prog.info? 2).map (fun i => (i.zero, i.size, i.bytes)) = some (some (.int .i64 0), 1, 8) := by kernel_rfl

theorem made0 (n : Nat) : (madeCells (Value.cells (.int .i64 0)) (n * 1)).toList = (List.replicate n (0 : Int)).map (Value.int .i64) := by
  apply List.ext_getElem
  · simp [madeCells]
  · intro k h1 h2
    simp [madeCells, Value.cells, Nat.mod_one]

/-- a machine's cells -/
def mCells (P : Int) (vF vI vO vK vN vC vp : Value) : Array Value := #[.int .i64 P, vF, vI, vO, vK, vN, vC, vp]

theorem cell_row {w : World} {g : Nat} {l : Array Value} {T : TypeId} {f : Nat × Nat} (h : w.heap[g]? = some (.cells l T f)) (k : Nat) : w.cell? ⟨g, k, none⟩ = l[k]? := by
  simp only [World.cell?, h]
  simp

set_option maxHeartbeats 1000000 in
theorem forget_any {A : Nat → Prop} (P : Int) (vF vI vO vK vN vC vp : Value) (keeps V : List Int) (bm g : Nat) (w : World)
    (hm : w.heap[bm]? = some (.cells (mCells P vF vI vO vK vN vC vp) 54 (0, 0))) (hK : Ints A w vK keeps) (hp : Own w vp V g) (hg : 0 < V.length → g < w.heap.size)
    (hV : V.length ≤ 100000) (hk0 : keeps.length ≤ 100000) :
    Calls Tryz.prog 24 #[.pointer (some ⟨bm, 0, none⟩)] w fun e w' => e = .returned (.tuple #[]) ∧ ∃ vp',
      w'.heap[bm]? = some (.cells (mCells P vF vI vO vK vN vC vp') 54 (0, 0)) ∧ Own w' vp' (keepK keeps V keeps.length) w.heap.size ∧ Fr w.heap.size [bm] w w' ∧ w.heap.size < w'.heap.size := by
  have hbl := lt_of_block hm
  obtain ⟨adK, bK, offK, capK, rfl, hK1, hK2⟩ := hK
  obtain ⟨adp, capp, rfl, hp1⟩ := id hp
  obtain ⟨i0, hi, hz0, hz1, hz2⟩ := info_parts Tryz.infoI64
  have c4 : w.cell? ⟨bm, 4, none⟩ = some (.slice adK keeps.length capK) := by rw [cell_row hm]; rfl
  have c7 : w.cell? ⟨bm, 7, none⟩ = some (.slice adp V.length capp) := by rw [cell_row hm]; rfl
  have hib : i0.bytes * V.length ≤ 281474976710656 := by rw [hz2]; omega
  have H1 : Hid (0 < keeps.length → adK = some ⟨bK, offK, none⟩ ∧ A bK) := hK1
  have H2 : Hid (∀ k, k < keeps.length → w.cell? ⟨bK, offK + k, none⟩ = some (.int .i64 (keeps.getD k 0))) := hK2
  have H3 : Hid (w.heap[bm]? = some (.cells (mCells P vF vI vO (.slice adK keeps.length capK) vN vC (.slice adp V.length capp)) 54 (0, 0))) := hm
  have H4 : Hid (Own w (.slice adp V.length capp) V g) := hp
  clear hK1 hK2 hm hp hp1
  go_enter Tryz.func24, Tryz.ntmps24
  go_wp2_with (at_make; refine wpList_make_full _ rfl _ _ 22 rfl w.heap.size 2 i0 (.int .i64 0) 1 Tryz.underlying22 hi hz0 hz1 _ _ _ _ V.length rfl rfl rfl rfl hib (by unfold maxLen; omega) (Nat.le_refl _) ?_; intro w1 hown1 hgrow1; have d4 : w1.cell? ⟨bm, 4, none⟩ = some (.slice adK keeps.length capK) := (cell_of_block (hgrow1.block bm hbl (by simp)) 4).trans c4)
  have hown : Own w1 (.slice (some ⟨w.heap.size, 0, none⟩) V.length V.length) (List.replicate V.length 0) w.heap.size := own_made (by rw [← made0]; exact hown1) (by simp)
  have hlt1 : w.heap.size < w1.heap.size := by
    rcases hown1.2 with ⟨h0, _⟩ | ⟨g', cap', cur, e1, hB, hg', _⟩
    · exact absurd h0 (by simp)
    · have := lt_of_block hg'
      simp at e1; omega
  have HF1 : Hid (Fr w.heap.size [] w w1) := ⟨hgrow1.os, hgrow1.tape, hgrow1.output, hgrow1.size, fun k hk _ => hgrow1.block k hk (by simp)⟩
  clear hown1 hgrow1 c4 c7 hib hi hz0 hz1 hz2
  go_loopw [17] (fun i wr => ∃ k : Nat, k ≤ keeps.length ∧ i = .int .i64 k ∧ Own wr (.slice (some ⟨w.heap.size, 0, none⟩) V.length V.length) (keepK keeps V k) w.heap.size ∧ Fr w.heap.size [] w wr ∧ w.heap.size < wr.heap.size) (fun i _ => keeps.length - (intOf i).toNat)
  case atStart => exact ⟨0, Nat.zero_le _, rfl, hown, HF1.out, hlt1⟩
  case round =>
    clear hown HF1 hlt1 d4
    obtain ⟨k, hk, rfl, hown, hF, hlt1⟩ := hrel
    have HF : Hid (Fr w.heap.size [] w wr) := hF
    clear hF
    have hb := HF.out.block bm hbl (by simp)
    have c7 : wr.cell? ⟨bm, 7, none⟩ = some (.slice adp V.length capp) := by rw [cell_of_block hb, cell_row H3.out]; rfl
    by_cases hlt : k < keeps.length
    · have hix := ix23 adK bK offK keeps.length capK k hlt (fun h => (H1.out h).1)
      obtain ⟨x, hx⟩ : ∃ x, x = keeps.getD k 0 := ⟨_, rfl⟩
      have cx : wr.cell? ⟨bK, offK + k, none⟩ = some (.int .i64 x) := by
        have := H2.out k hlt
        rw [cell_of_block (HF.out.block bK (lt_of_cell this) (by simp)), hx]; exact this
      have hpr : Own wr (.slice adp V.length capp) V g := by
        by_cases hp : 0 < V.length
        · exact H4.out.keep (HF.out.block g (hg hp) (by simp))
        · exact ⟨adp, capp, rfl, fun h => absurd h hp⟩
      have hat := at_any (A := fun _ => True) (.slice adp V.length capp) V x wr (hpr.ints fun _ => trivial)
      have hput := put_any (.slice (some ⟨w.heap.size, 0, none⟩) V.length V.length) (keepK keeps V k) w.heap.size x (get V x) wr hown
      have HX : Hid (x = keeps.getD k 0) := hx
      clear hx hpr hown hb
      go_wp2_with (first | (go_at_call 21; refine hat.mono ?_; rintro e w' ⟨rfl, rfl⟩) | (go_at_call 22; refine hput.mono ?_; rintro e w2 ⟨rfl, hown2, hF2⟩))
      go_roundw
      case rel => exact ⟨k + 1, by omega, by go_num, by rw [keepK, ← HX.out]; exact hown2, HF.out.trans (hF2.mono (Nat.le_of_lt hlt1) (fun y hy hl => by simp at hy; omega)), Nat.lt_of_lt_of_le hlt1 hF2.size⟩
      case measure => simp [intOf]; omega
    · obtain rfl : k = keeps.length := by omega
      have f7 : wr.frozen? ⟨bm, 7, none⟩ = false := frozen_cells (hb.trans H3.out) 7
      have HB : Hid (wr.heap[bm]? = w.heap[bm]?) := hb
      clear hb
      go_wp2
      go_end0
      refine ⟨rfl, .slice (some ⟨w.heap.size, 0, none⟩) V.length V.length, ?_, ?_, ?_, ?_⟩
      · have := set_cells (l := (mCells P vF vI vO (.slice adK keeps.length capK) vN vC (.slice adp V.length capp)).toList) (T := 54) (f := (0, 0)) (HB.out.trans H3.out) 7 (.slice (some ⟨w.heap.size, 0, none⟩) V.length V.length)
        exact this
      · exact hown.keep (Below.heap_setCell _ _ _ _ (by simp; omega))
      · exact (HF.out.mono (Nat.le_refl _) (fun y hy _ => by simp at hy)).setCell (.inr (by simp)) _
      · simpa [World.setCell] using hlt1
end Nx
end Go.Proofs.YtgjhfmkilpmfnaaGreatDoor
