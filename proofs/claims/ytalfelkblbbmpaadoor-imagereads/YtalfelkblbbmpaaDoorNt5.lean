/- What slices.Clone, net's isTwice, all and Asks answer. -/
import Derived.Test.YtalfelkblbbmpaaDoorNt4
import Derived.Test.YtalfelkblbbmpaaDoorNm2
import Derived.Test.YtalfelkblbbmpaaDoorNsh
import Derived.Lib.OwnBridge
import Derived.Sort.OwnSortedInts
namespace Go.Proofs.YtalfelkblbbmpaaDoor
open Go.RowKit Go.Sort
namespace Nx

theorem eq_nil_s (n c : Nat) (w : World) : (binOp BinOp.eql 22 (.slice none n c) (.slice none 0 0)).run Tryd.prog w = .ok (.bool true) w := by kernel_rfl
theorem neq_nil_s (a : Addr) (n c : Nat) (w : World) : (binOp BinOp.eql 22 (.slice (some a) n c) (.slice none 0 0)).run Tryd.prog w = .ok (.bool false) w := by kernel_rfl

/-- slices.Clone at ints, as the shelf tells it -/
theorem cloneI {A : Nat → Prop} (v : Value) (zs : List Int) (w : World) (h : Ints A w v zs) (hbig : zs.length ≤ 100000) (hp : 0 < zs.length) :
    Calls Tryd.prog 59 #[v] w fun e w' => ∃ v', e = .returned v' ∧ w'.ownsRow w.heap.size 3 1 v' zs.length (zs.map (Value.int .i64)) ∧ v' ≠ .slice none 0 0 ∧ Below w.heap.size w w' := by
  obtain ⟨ad, b, off, cap, rfl, h1, h2⟩ := h
  obtain ⟨rfl, _⟩ := h1 hp
  have := Tryd.slices_Clone_int b off zs.length cap zs w (Nat.le_refl _) (by omega) h2
  rw [List.take_length] at this
  exact this

theorem twice_none (ad : Option Addr) (c : Nat) (w : World) : Calls Tryd.prog 53 #[.slice ad 0 c] w fun e w' => e = .returned (.bool false) ∧ Below w.heap.size w w' := by
  have hcl : Calls Tryd.prog 59 #[.slice ad 0 c] w fun e w' => ∃ p cc, e = .returned (.slice p 0 cc) ∧ Below w.heap.size w w' := by
    cases ad with
    | none => exact (Tryd.slices_Clone_int_nil 0 c w).mono fun e w' ⟨he, hw⟩ => ⟨_, _, he, by rw [hw]; exact Below.refl _ _⟩
    | some a =>
      refine (Tryd.slices_Clone_int_zero a c w).mono fun e w' ⟨v', he, ho, _, hb⟩ => ?_
      rcases ho.2 with ⟨rfl, _⟩ | ⟨g, cap, cur, rfl, _⟩
      · exact ⟨_, _, he, hb⟩
      · exact ⟨_, _, he, hb⟩
  have hs := fun p cc w1 => Tryd.slices_Sort_int_none p cc w1
  have hk := fun p cc w1 => Tryd.slices_Compact_int_empty p cc w1
  go_enter Tryd.func53, Tryd.ntmps53
  go_wp2_with (first | (go_at_call 59; refine hcl.mono ?_; rintro e w1 ⟨p, cc, rfl, hb⟩) | (go_at_call 60; refine (hs _ _ _).mono ?_; rintro e w2 ⟨rfl, hw2⟩; obtain rfl := hw2.symm) | (go_at_call 61; refine (hk _ _ _).mono ?_; rintro e w3 ⟨rfl, hw3⟩; obtain rfl := hw3.symm))
  go_ret
  exact ⟨rfl, hb⟩

theorem sortI (g n cap : Nat) (zs ss : List Int) (w : World) (hH : Holds (Value.int .i64) w g 0 zs.toArray) (hgl : g < w.heap.size) (hn : zs.length = n) (hb : n ≤ 100000) (hs : ss = zs.mergeSort fun x y => decide (x ≤ y)) :
    Calls Tryd.prog 60 #[.slice (some ⟨g, 0, none⟩) n cap] w fun e w2 => e = .returned (.tuple #[]) ∧ Hid (Holds (Value.int .i64) w2 g 0 ss.toArray ∧ w.grownBy w2 (some g)) := by
  subst hs hn
  refine (Tryd.slices_Sort_int g 0 cap zs w hH hgl (by omega)).mono fun e w2 ⟨he, nn, os, hw2⟩ => ⟨he, ?_, ?_⟩
  · rw [hw2]
    exact holds_grow (Value.int .i64) _ os g 0 _ (by simpa [putRow, mapBlock, Sort.ahead] using hgl) (holds_putRow (Value.int .i64) _ g 0 _ _ (holds_ahead (Value.int .i64) w nn g 0 _ hH) (by simp))
  · rw [hw2]; exact grownBy_sortedI _

theorem compI (g n cap cl : Nat) (ss : List Int) (w : World) (hH : Holds (Value.int .i64) w g 0 ss.toArray) (hn : ss.length = n) (hb : n ≤ 100000) (hcap : n ≤ cap) (hcl : cl = (Lib.compact ss).length) :
    Calls Tryd.prog 61 #[.slice (some ⟨g, 0, none⟩) n cap] w fun e w3 => e = .returned (.slice (some ⟨g, 0, none⟩) cl cap) ∧ Hid (∀ B w0, Below B w0 w → B ≤ g → Below B w0 w3) := by
  subst hcl hn
  refine (Tryd.slices_Compact_int g 0 cap ss w hH (by omega) hcap).mono fun e w3 ⟨he, q, hw3⟩ => ⟨he, fun B w0 h1 h2 => ?_⟩
  rw [hw3]; exact Lib.below_putRow h1 h2

set_option maxHeartbeats 1000000 in
theorem twice_some {A : Nat → Prop} (v : Value) (zs : List Int) (w : World) (h : Ints A w v zs) (hbig : zs.length ≤ 100000) (hp : 0 < zs.length) :
    Calls Tryd.prog 53 #[v] w fun e w' => e = .returned (.bool (decide (¬ zs.Nodup))) ∧ Below w.heap.size w w' := by
  have hcl := cloneI v zs w h hbig hp
  obtain ⟨ad, b, off, capv, rfl, -, -⟩ := h
  obtain ⟨ss, hss⟩ : ∃ ss, ss = zs.mergeSort fun x y => decide (x ≤ y) := ⟨_, rfl⟩
  obtain ⟨cl, hcl0⟩ : ∃ cl, cl = (Lib.compact ss).length := ⟨_, rfl⟩
  have HD : Hid (decide (cl < zs.length) = decide (¬ zs.Nodup)) := by
    unfold Hid
    have := dup_iff zs
    rw [← hss, ← hcl0] at this
    by_cases hn : zs.Nodup
    · rw [decide_eq_false (fun h => this.1 h hn), decide_eq_false (by simpa using hn)]
    · have := this.2 hn
      rw [decide_eq_true this, decide_eq_true hn]
  obtain ⟨n, hn⟩ : ∃ n, n = zs.length := ⟨_, rfl⟩
  have HL : Hid (ss.length = n) := by unfold Hid; rw [hss, List.length_mergeSort]; exact hn.symm
  rw [← hn] at hcl HD ⊢
  have HN : Hid (zs.length = n) := hn.symm
  have hb0 : n ≤ 100000 := by omega
  have HSS : Hid (ss = zs.mergeSort fun x y => decide (x ≤ y)) := hss
  have HCL : Hid (cl = (Lib.compact ss).length) := hcl0
  have HCLONE : Hid (Calls Tryd.prog 59 #[.slice ad n capv] w fun e w' => ∃ g cap, e = .returned (.slice (some ⟨g, 0, none⟩) n cap) ∧ Hid (Holds (Value.int .i64) w' g 0 zs.toArray ∧ w.heap.size ≤ g ∧ g < w'.heap.size ∧ n ≤ cap ∧ Below w.heap.size w w')) := by
    refine hcl.mono fun e w1 ⟨v1, he, hown, hnn, hbel⟩ => ?_
    obtain ⟨g, cap, rfl, hbg, hgl, hncap, hcm, hlen, hH⟩ := Lib.holds_of_ownsRow hown hnn
    exact ⟨g, cap, he, hH, hbg, hgl, hncap, hbel⟩
  clear hn hp hbig hss hcl0 hcl
  have hcl := HCLONE.out
  clear HCLONE
  go_enter Tryd.func53, Tryd.ntmps53
  go_wp2_with (first
    | (go_at_call 59; refine hcl.mono ?_; rintro e w1 ⟨g, cap, rfl, X⟩
       have hsort := sortI g n cap zs ss w1 X.out.1 X.out.2.2.1 HN.out hb0 HSS.out
       clear hcl)
    | (go_at_call 60; refine hsort.mono ?_; rintro e w2 ⟨rfl, Y⟩
       have hcomp := compI g n cap cl ss w2 Y.out.1 HL.out hb0 X.out.2.2.2.1 HCL.out
       clear hsort)
    | (go_at_call 61; refine hcomp.mono ?_; rintro e w3 ⟨rfl, Z⟩))
  go_ret
  refine ⟨by rw [← HD.out]; rfl, ?_⟩
  exact Z.out _ _ (X.out.2.2.2.2.grown Y.out.2 X.out.2.2.2.2.size (fun j hj => by cases hj; exact X.out.2.1)) X.out.2.1

theorem twice_any {A : Nat → Prop} (v : Value) (zs : List Int) (w : World) (h : Ints A w v zs) (hbig : zs.length ≤ 100000) :
    Calls Tryd.prog 53 #[v] w fun e w' => e = .returned (.bool (decide (¬ zs.Nodup))) ∧ Below w.heap.size w w' := by
  by_cases hp : 0 < zs.length
  · exact twice_some v zs w h hbig hp
  · obtain rfl : zs = [] := List.length_eq_zero_iff.1 (by omega)
    obtain ⟨ad, b, off, cap, rfl, -, -⟩ := h
    have e : decide (¬ ([] : List Int).Nodup) = false := by simp
    rw [e]
    exact twice_none ad cap w
end Nx
end Go.Proofs.YtalfelkblbbmpaaDoor
