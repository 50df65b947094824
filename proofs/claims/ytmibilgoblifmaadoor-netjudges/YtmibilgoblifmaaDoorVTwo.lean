/-
  What the program's Two returns: the array of what is asked of two numbers is laid anew in each call, a code is looked up in it, and what lies there is called.
-/
import Derived.Test.YtmibilgoblifmaaDoorRows
import Derived.Test.YtmibilgoblifmaaDoorVPlain
import Derived.WalkKit
import Derived.WalkSpells
import Derived.WalkLawsBesides
import Derived.Laws.EntriesVeiled
namespace Go.Proofs.YtmibilgoblifmaaDoor
open Go.RowKit

theorem setRow_alloc (w : World) (a b : Array Value) (t : TypeId) : (w.alloc (.cells a t)).setRow w.heap.size b = w.alloc (.cells b t) := by
  unfold World.setRow World.alloc
  congr 1
  apply Array.ext
  · simp
  · intro k h1 h2
    simp only [Array.getElem_modify, Array.getElem_push]
    split
    · rename_i hk; subst hk; simp
    · rename_i hk; have : k < w.heap.size := by simp at h2; omega
      simp [this]

def asked : Array Value := #[.nilFunc, .nilFunc, .nilFunc, .nilFunc, .nilFunc, .nilFunc, .func (.func 50) #[] #[], .func (.func 51) #[] #[], .func (.func 52) #[] #[], .func (.func 53) #[] #[], .func (.func 54) #[] #[], .func (.func 55) #[] #[], .func (.func 56) #[] #[], .func (.func 57) #[] #[], .func (.func 58) #[] #[], .func (.func 59) #[] #[], .func (.func 60) #[] #[]]

theorem asked_one : (asked.all fun x => x.oneCell') = true := by kernel_rfl
theorem asked_info : (Tryd.prog.info? 104).map (·.size) = some asked.size := by kernel_rfl
theorem asked_cell (w : World) (j : Nat) (v : Value) (h : asked[j]? = some v) : (w.alloc (.cells asked 104)).cell? ⟨w.heap.size, j, none⟩ = some v := by
  have e := (MapKept.heap_alloc w (.cells asked 104)).1
  simp only [World.cell?, e]
  exact h

theorem neq_nil (k : Nat) (w : World) : (binOp BinOp.eql 103 (.func (.func k) #[] #[]) .nilFunc).run Tryd.prog w = .ok (.bool false) w := by kernel_rfl
theorem eq_nil (w : World) : (binOp BinOp.eql 103 .nilFunc .nilFunc).run Tryd.prog w = .ok (.bool true) w := by kernel_rfl


set_option maxHeartbeats 4000000 in
theorem two_func (c : Int) (k : Nat) (a b r : Int) (w : World) (h0 : 0 ≤ c) (h1 : c < 17) (hk : asked[c.toNat]? = some (.func (.func k) #[] #[]))
    (hkk : k = 50 ∨ k = 51 ∨ k = 52 ∨ k = 53 ∨ k = 54 ∨ k = 55 ∨ k = 56 ∨ k = 57 ∨ k = 58 ∨ k = 59 ∨ k = 60)
    (hcall : ∀ w, Calls Tryd.prog k #[.int .i64 a, .int .i64 b] w fun e w' => e = .returned (.int .i64 r) ∧ w' = w) :
    Calls Tryd.prog 40 #[.int .i64 c, .int .i64 a, .int .i64 b] w fun e w' => e = .returned (.int .i64 r) ∧ w' = w.alloc (.cells asked 104) := by
  have q0 := neq_nil
  have hc := asked_cell w c.toNat _ hk
  clear hk
  rcases hkk with rfl | rfl | rfl | rfl | rfl | rfl | rfl | rfl | rfl | rfl | rfl
  all_goals
    go_enter Tryd.func40, Tryd.ntmps40
    go_wp2_with (first | (refine wpList_store_row rfl 104 _ _ rfl w.heap.size asked rfl rfl 104 _ (MapKept.heap_alloc w _).1 asked_info rfl asked_one ?_; rw [setRow_alloc]) | (refine (hcall _).mono ?_; rintro e w' ⟨rfl, rfl⟩))
    go_ret
    exact ⟨rfl, rfl⟩

set_option maxHeartbeats 400000 in
theorem two_nil (c : Int) (a b : Int) (w : World) (h0 : 0 ≤ c) (h1 : c < 17) (hk : asked[c.toNat]? = some .nilFunc) :
    Calls Tryd.prog 40 #[.int .i64 c, .int .i64 a, .int .i64 b] w fun e w' => e = .returned (.int .i64 0) ∧ w' = w.alloc (.cells asked 104) := by
  have q1 := eq_nil
  have hc := asked_cell w c.toNat _ hk
  clear hk
  go_enter Tryd.func40, Tryd.ntmps40
  go_wp2_with (refine wpList_store_row rfl 104 _ _ rfl w.heap.size asked rfl rfl 104 _ (MapKept.heap_alloc w _).1 asked_info rfl asked_one ?_; rw [setRow_alloc])
  go_ret
  exact ⟨rfl, rfl⟩

set_option maxHeartbeats 400000 in
theorem two_low (c : Int) (a b : Int) (w : World) (h0 : c < 0) :
    Calls Tryd.prog 40 #[.int .i64 c, .int .i64 a, .int .i64 b] w fun e w' => e = .returned (.int .i64 0) ∧ w' = w.alloc (.cells asked 104) := by
  go_enter Tryd.func40, Tryd.ntmps40
  go_wp2_with (refine wpList_store_row rfl 104 _ _ rfl w.heap.size asked rfl rfl 104 _ (MapKept.heap_alloc w _).1 asked_info rfl asked_one ?_; rw [setRow_alloc])
  go_ret
  exact ⟨rfl, rfl⟩

set_option maxHeartbeats 400000 in
theorem two_high (c : Int) (a b : Int) (w : World) (h0 : 17 ≤ c) :
    Calls Tryd.prog 40 #[.int .i64 c, .int .i64 a, .int .i64 b] w fun e w' => e = .returned (.int .i64 0) ∧ w' = w.alloc (.cells asked 104) := by
  go_enter Tryd.func40, Tryd.ntmps40
  go_wp2_with (refine wpList_store_row rfl 104 _ _ rfl w.heap.size asked rfl rfl 104 _ (MapKept.heap_alloc w _).1 asked_info rfl asked_one ?_; rw [setRow_alloc])
  go_ret
  exact ⟨rfl, rfl⟩
end Go.Proofs.YtmibilgoblifmaaDoor
