/- What net's step answers: what is wrong with one step. -/
import Derived.Test.YtalfelkblbbmpaaDoorNt6
namespace Go.Proofs.YtalfelkblbbmpaaDoor
open Go.RowKit
namespace Nx

theorem asksK (code dst a b c : Int) (w : World) (k : Nat) (hk : (asks ⟨code, dst, a, b, c⟩).length = k) :
    Calls Tryd.prog 42 #[.agg #[.int .i64 code, .int .i64 dst, .int .i64 a, .int .i64 b, .int .i64 c]] w fun e w' => ∃ ad cap, e = .returned (.slice ad k cap) ∧ Hid (Ints (fun b => w.heap.size ≤ b) w' (.slice ad k cap) (asks ⟨code, dst, a, b, c⟩)) ∧ Hid (Below w.heap.size w w') := by
  subst hk
  refine (asks_any code dst a b c w).mono fun e w' ⟨v, he, hi, hb⟩ => ?_
  obtain ⟨ad, b', off, cap, rfl, h1, h2⟩ := hi
  exact ⟨ad, cap, he, ⟨ad, b', off, cap, rfl, h1, h2⟩, hb⟩

section
variable (code dst a b c P : Int) (nums bn : Nat) (w : World)

/-- the step as it lies in memory behind the box, and what tells places -/
def Boxed (w1 : World) (q bn : Nat) (code dst a b c P : Int) : Prop :=
  w1.cell? ⟨q, 0, none⟩ = some (.int .i64 code) ∧ w1.cell? ⟨q, 1, none⟩ = some (.int .i64 dst) ∧ w1.cell? ⟨q, 2, none⟩ = some (.int .i64 a) ∧ w1.cell? ⟨q, 3, none⟩ = some (.int .i64 b) ∧ w1.cell? ⟨q, 4, none⟩ = some (.int .i64 c) ∧ w1.cell? ⟨bn, 0, none⟩ = some (.int .i64 P)
theorem Boxed.below {w1 w2 : World} {q bn : Nat} {code dst a b c P : Int} (h : Boxed w1 q bn code dst a b c P) (hb : Below w1.heap.size w1 w2) : Boxed w2 q bn code dst a b c P :=
  ⟨cell_below hb h.1, cell_below hb h.2.1, cell_below hb h.2.2.1, cell_below hb h.2.2.2.1, cell_below hb h.2.2.2.2.1, cell_below hb h.2.2.2.2.2⟩
theorem Boxed.start (hc : w.cell? ⟨bn, 0, none⟩ = some (.int .i64 P)) : Boxed (w.alloc (.cells #[.int .i64 code, .int .i64 dst, .int .i64 a, .int .i64 b, .int .i64 c] 55)) w.heap.size bn code dst a b c P :=
  ⟨by simp, by simp, by simp, by simp, by simp, cell_below (grown_one w _) hc⟩

set_option maxHeartbeats 400000 in
theorem step_form (h : code < 1 ∨ 17 < code ∨ code = 3) :
    Calls Tryd.prog 40 #[.agg #[.int .i64 code, .int .i64 dst, .int .i64 a, .int .i64 b, .int .i64 c], .int .i64 nums, .func (.func 38) #[] #[.pointer (some ⟨bn, 0, none⟩)]] w fun e w' => e = .returned (.int .i64 3) ∧ Below w.heap.size w w' := by
  have hb0 := fun o => grown_one w o
  by_cases h1 : code < 1
  · go_enter Tryd.func40, Tryd.ntmps40
    go_wp2
    go_ret
    exact ⟨rfl, hb0 _⟩
  · by_cases h2 : 17 < code
    · have h3 : 1 ≤ code := by omega
      go_enter Tryd.func40, Tryd.ntmps40
      go_wp2
      go_ret
      exact ⟨rfl, hb0 _⟩
    · obtain rfl : code = 3 := by omega
      go_enter Tryd.func40, Tryd.ntmps40
      go_wp2
      go_ret
      exact ⟨rfl, hb0 _⟩

set_option maxHeartbeats 1000000 in
theorem step_dst (hc : w.cell? ⟨bn, 0, none⟩ = some (.int .i64 P)) (h1 : 1 ≤ code) (h2 : code ≤ 17) (h3 : code ≠ 3) (hd : isPl P dst = false) :
    Calls Tryd.prog 40 #[.agg #[.int .i64 code, .int .i64 dst, .int .i64 a, .int .i64 b, .int .i64 c], .int .i64 nums, .func (.func 38) #[] #[.pointer (some ⟨bn, 0, none⟩)]] w fun e w' => e = .returned (.int .i64 2) ∧ Below w.heap.size w w' := by
  have t3 : (code == 3) = false := by simpa using h3
  have HB : Hid (∀ w1, Below (w.alloc (.cells #[.int .i64 code, .int .i64 dst, .int .i64 a, .int .i64 b, .int .i64 c] 55)).heap.size (w.alloc (.cells #[.int .i64 code, .int .i64 dst, .int .i64 a, .int .i64 b, .int .i64 c] 55)) w1 → w1.cell? ⟨w.heap.size, 1, none⟩ = some (.int .i64 dst) ∧ (Calls Tryd.prog 38 #[.int .i64 dst, .pointer (some ⟨bn, 0, none⟩)] w1 fun e w' => e = .returned (.bool false) ∧ w' = w1) ∧ Hid (Below w.heap.size w w1)) := fun w1 hb => by
    have hx := (Boxed.start code dst a b c P bn w hc).below hb
    have := isPl_any dst P bn w1 hx.2.2.2.2.2
    rw [hd] at this
    exact ⟨hx.2.1, this, ball (grown_one w _) hb⟩
  have hask := asks_any code dst a b c (w.alloc (.cells #[.int .i64 code, .int .i64 dst, .int .i64 a, .int .i64 b, .int .i64 c] 55))
  clear hc hd h3
  go_enter Tryd.func40, Tryd.ntmps40
  go_wp2_with (first | (go_at_call 42; refine hask.mono ?_; rintro e w1 ⟨v, rfl, hI, hb1⟩; obtain ⟨d1, hpl, HB1⟩ := HB.out w1 hb1; clear hI hb1 hask) | (go_at_call 38; refine hpl.mono ?_; rintro e w2 ⟨rfl, hw⟩; obtain rfl := hw.symm))
  go_ret
  exact ⟨rfl, HB1.out⟩

set_option maxHeartbeats 1000000 in
theorem step_asks (hc : w.cell? ⟨bn, 0, none⟩ = some (.int .i64 P)) (h1 : 1 ≤ code) (h2 : code ≤ 17) (h3 : code ≠ 3) (hd : isPl P dst = true) (ha : (asks ⟨code, dst, a, b, c⟩).all (isPl P) = false) :
    Calls Tryd.prog 40 #[.agg #[.int .i64 code, .int .i64 dst, .int .i64 a, .int .i64 b, .int .i64 c], .int .i64 nums, .func (.func 38) #[] #[.pointer (some ⟨bn, 0, none⟩)]] w fun e w' => e = .returned (.int .i64 2) ∧ Below w.heap.size w w' := by
  have t3 : (code == 3) = false := by simpa using h3
  have hl : (asks ⟨code, dst, a, b, c⟩).length ≤ 100000 := by unfold asks; split <;> (try split) <;> (try split) <;> simp
  have HB : Hid (∀ w1 v, Ints (fun y => (w.alloc (.cells #[.int .i64 code, .int .i64 dst, .int .i64 a, .int .i64 b, .int .i64 c] 55)).heap.size ≤ y) w1 v (asks ⟨code, dst, a, b, c⟩) → Below (w.alloc (.cells #[.int .i64 code, .int .i64 dst, .int .i64 a, .int .i64 b, .int .i64 c] 55)).heap.size (w.alloc (.cells #[.int .i64 code, .int .i64 dst, .int .i64 a, .int .i64 b, .int .i64 c] 55)) w1 → w1.cell? ⟨w.heap.size, 1, none⟩ = some (.int .i64 dst) ∧ (Calls Tryd.prog 38 #[.int .i64 dst, .pointer (some ⟨bn, 0, none⟩)] w1 fun e w' => e = .returned (.bool true) ∧ w' = w1) ∧
      (Calls Tryd.prog 52 #[v, .func (.func 38) #[] #[.pointer (some ⟨bn, 0, none⟩)]] w1 fun e w' => e = .returned (.bool false) ∧ Below w.heap.size w w')) := fun w1 v hi hb => by
    have hx := (Boxed.start code dst a b c P bn w hc).below hb
    have := isPl_any dst P bn w1 hx.2.2.2.2.2
    rw [hd] at this
    have h5 := all_any v _ P bn w1 hi hl hx.2.2.2.2.2
    rw [ha] at h5
    exact ⟨hx.2.1, this, h5.mono fun e w' ⟨he, hb'⟩ => ⟨he, ball (ball (grown_one w _) hb) hb'⟩⟩
  have hask := asks_any code dst a b c (w.alloc (.cells #[.int .i64 code, .int .i64 dst, .int .i64 a, .int .i64 b, .int .i64 c] 55))
  clear hc hd h3 ha hl
  go_enter Tryd.func40, Tryd.ntmps40
  go_wp2_with (first | (go_at_call 42; refine hask.mono ?_; rintro e w1 ⟨v, rfl, hI, hb1⟩; obtain ⟨d1, hpl, hall⟩ := HB.out w1 v hI hb1; clear hI hb1 hask) | (go_at_call 38; refine hpl.mono ?_; rintro e w2 ⟨rfl, hw⟩; obtain rfl := hw.symm) | (go_at_call 52; refine hall.mono ?_; rintro e w2 ⟨rfl, hb2⟩))
  go_ret
  exact ⟨rfl, hb2⟩

/-- what a step's tail asks of memory, once all that it asks is places -/
theorem tail_calls (k : Nat) (hc : w.cell? ⟨bn, 0, none⟩ = some (.int .i64 P)) (hd : isPl P dst = true) (ha : (asks ⟨code, dst, a, b, c⟩).all (isPl P) = true) (hk : (asks ⟨code, dst, a, b, c⟩).length = k) (hk0 : k ≤ 3) :
    (Calls Tryd.prog 42 #[.agg #[.int .i64 code, .int .i64 dst, .int .i64 a, .int .i64 b, .int .i64 c]] (w.alloc (.cells #[.int .i64 code, .int .i64 dst, .int .i64 a, .int .i64 b, .int .i64 c] 55)) fun e w1 => ∃ ad cap, e = .returned (.slice ad k cap) ∧ w1.cell? ⟨w.heap.size, 1, none⟩ = some (.int .i64 dst) ∧ (Calls Tryd.prog 38 #[.int .i64 dst, .pointer (some ⟨bn, 0, none⟩)] w1 fun e w' => e = .returned (.bool true) ∧ w' = w1) ∧
      (Calls Tryd.prog 52 #[.slice ad k cap, .func (.func 38) #[] #[.pointer (some ⟨bn, 0, none⟩)]] w1 fun e w' => e = .returned (.bool true) ∧ Hid (Boxed w' w.heap.size bn code dst a b c P) ∧ Hid (Below w.heap.size w w'))) := by
  refine (asksK code dst a b c _ k hk).mono fun e w1 ⟨ad, cap, he, hi, hb⟩ => ⟨ad, cap, he, ?_⟩
  have hx := (Boxed.start code dst a b c P bn w hc).below hb.out
  have := isPl_any dst P bn w1 hx.2.2.2.2.2
  rw [hd] at this
  have h5 := all_any _ _ P bn w1 hi.out (by omega) hx.2.2.2.2.2
  rw [ha] at h5
  exact ⟨hx.2.1, this, h5.mono fun e w' ⟨he, hb'⟩ => ⟨he, hx.below hb', ball (ball (grown_one w _) hb.out) hb'⟩⟩
end
end Nx
end Go.Proofs.YtalfelkblbbmpaaDoor
