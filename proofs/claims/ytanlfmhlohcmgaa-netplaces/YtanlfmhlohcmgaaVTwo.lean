/-
  What the program's Two returns: the array of what is asked of two numbers is laid anew in each call, a code is looked up in it, and what lies there is called.
-/
import Derived.Test.YtanlfmhlohcmgaaRows
import Derived.Test.YtanlfmhlohcmgaaVPlain
import Derived.WalkKit
import Derived.WalkSpells
import Derived.WalkLawsBesides
import Derived.Laws.EntriesVeiled
namespace Go.Proofs.Ytanlfmhlohcmgaa
open Go.RowKit

theorem setRow_alloc (w : World) (a b : Array Value) (t : TypeId) : (w.alloc (.cells a t)).setRow w.heap.size b = w.alloc (.cells b t) := by
  unfold World.setRow World.alloc
  congr 1
  apply Array.ext
  · simp
  · intro k h1 h2
    simp only [Array.getElem_modify, Array.getElem_push]
    split
    · rename_i hk; subst hk; simp
    · rename_i hk; have : k < w.heap.size := by simp at h2; omega
      simp [this]

def asked : Array Value := #[.nilFunc, .nilFunc, .nilFunc, .nilFunc, .nilFunc, .nilFunc, .func (.func 31) #[] #[], .func (.func 32) #[] #[], .func (.func 33) #[] #[], .func (.func 34) #[] #[], .func (.func 35) #[] #[], .func (.func 36) #[] #[], .func (.func 37) #[] #[], .func (.func 38) #[] #[], .func (.func 39) #[] #[], .func (.func 40) #[] #[], .func (.func 41) #[] #[]]

theorem asked_one : (asked.all fun x => x.oneCell') = true := by kernel_rfl
theorem asked_info : (Try.prog.info? 71).map (·.size) = some asked.size := by kernel_rfl
theorem asked_cell (w : World) (j : Nat) (v : Value) (h : asked[j]? = some v) : (w.alloc (.cells asked 71)).cell? ⟨w.heap.size, j, none⟩ = some v := by
  have e := (MapKept.heap_alloc w (.cells asked 71)).1
  simp only [World.cell?, e]
  exact h

theorem neq_nil (k : Nat) (w : World) : (binOp BinOp.eql 70 (.func (.func k) #[] #[]) .nilFunc).run Try.prog w = .ok (.bool false) w := by kernel_rfl
theorem eq_nil (w : World) : (binOp BinOp.eql 70 .nilFunc .nilFunc).run Try.prog w = .ok (.bool true) w := by kernel_rfl


set_option maxHeartbeats 4000000 in
theorem two_func (c : Int) (k : Nat) (a b r : Int) (w : World) (h0 : 0 ≤ c) (h1 : c < 17) (hk : asked[c.toNat]? = some (.func (.func k) #[] #[]))
    (hkk : k = 31 ∨ k = 32 ∨ k = 33 ∨ k = 34 ∨ k = 35 ∨ k = 36 ∨ k = 37 ∨ k = 38 ∨ k = 39 ∨ k = 40 ∨ k = 41)
    (hcall : ∀ w, Calls Try.prog k #[.int .i64 a, .int .i64 b] w fun e w' => e = .returned (.int .i64 r) ∧ w' = w) :
    Calls Try.prog 27 #[.int .i64 c, .int .i64 a, .int .i64 b] w fun e w' => e = .returned (.int .i64 r) ∧ w' = w.alloc (.cells asked 71) := by
  have q0 := neq_nil
  have hc := asked_cell w c.toNat _ hk
  clear hk
  rcases hkk with rfl | rfl | rfl | rfl | rfl | rfl | rfl | rfl | rfl | rfl | rfl
  all_goals
    go_enter Try.func27, Try.ntmps27
    go_wp2_with (first | (refine wpList_store_row rfl 71 _ _ rfl w.heap.size asked rfl rfl 71 _ (MapKept.heap_alloc w _).1 asked_info rfl asked_one ?_; rw [setRow_alloc]) | (refine (hcall _).mono ?_; rintro e w' ⟨rfl, rfl⟩))
    go_ret
    exact ⟨rfl, rfl⟩

set_option maxHeartbeats 400000 in
theorem two_nil (c : Int) (a b : Int) (w : World) (h0 : 0 ≤ c) (h1 : c < 17) (hk : asked[c.toNat]? = some .nilFunc) :
    Calls Try.prog 27 #[.int .i64 c, .int .i64 a, .int .i64 b] w fun e w' => e = .returned (.int .i64 0) ∧ w' = w.alloc (.cells asked 71) := by
  have q1 := eq_nil
  have hc := asked_cell w c.toNat _ hk
  clear hk
  go_enter Try.func27, Try.ntmps27
  go_wp2_with (refine wpList_store_row rfl 71 _ _ rfl w.heap.size asked rfl rfl 71 _ (MapKept.heap_alloc w _).1 asked_info rfl asked_one ?_; rw [setRow_alloc])
  go_ret
  exact ⟨rfl, rfl⟩

set_option maxHeartbeats 400000 in
theorem two_low (c : Int) (a b : Int) (w : World) (h0 : c < 0) :
    Calls Try.prog 27 #[.int .i64 c, .int .i64 a, .int .i64 b] w fun e w' => e = .returned (.int .i64 0) ∧ w' = w.alloc (.cells asked 71) := by
  go_enter Try.func27, Try.ntmps27
  go_wp2_with (refine wpList_store_row rfl 71 _ _ rfl w.heap.size asked rfl rfl 71 _ (MapKept.heap_alloc w _).1 asked_info rfl asked_one ?_; rw [setRow_alloc])
  go_ret
  exact ⟨rfl, rfl⟩

set_option maxHeartbeats 400000 in
theorem two_high (c : Int) (a b : Int) (w : World) (h0 : 17 ≤ c) :
    Calls Try.prog 27 #[.int .i64 c, .int .i64 a, .int .i64 b] w fun e w' => e = .returned (.int .i64 0) ∧ w' = w.alloc (.cells asked 71) := by
  go_enter Try.func27, Try.ntmps27
  go_wp2_with (refine wpList_store_row rfl 71 _ _ rfl w.heap.size asked rfl rfl 71 _ (MapKept.heap_alloc w _).1 asked_info rfl asked_one ?_; rw [setRow_alloc])
  go_ret
  exact ⟨rfl, rfl⟩
end Go.Proofs.Ytanlfmhlohcmgaa
