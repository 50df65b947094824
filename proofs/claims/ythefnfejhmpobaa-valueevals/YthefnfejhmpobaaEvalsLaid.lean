/-
  ValueEvals' memory: the two maps' variables, what asks them, and the expressions that are built by hand, as they lie when they are asked.
-/
import Derived.Test.YthefnfejhmpobaaEvalsMaps
namespace Go.Proofs.Ythefnfejhmpobaa
open Go.RowKit Go.Sort Go.Maps

set_option linter.unusedVariables false

theorem new_cell (w : World) (cs : Array Value) (t : TypeId) (j : Nat) (v : Value) (h : cs[j]? = some v) : (w.alloc (.cells cs t)).cell? ⟨w.heap.size, j, none⟩ = some v := by
  have e := (MapKept.heap_alloc w (.cells cs t)).1
  simp only [World.cell?, e]; exact h

theorem size_up (w : World) (o : Obj) : (w.alloc o).heap.size = w.heap.size + 1 := by simp

def lay0 (u : World) (m1 m2 : Nat) (n cc oo : Int) : World := u.alloc (.cells #[.map (some m1)] 27)
def lay1 (u : World) (m1 m2 : Nat) (n cc oo : Int) : World := (lay0 u m1 m2 n cc oo).alloc (.cells #[.map (some m2)] 27)
def lay2 (u : World) (m1 m2 : Nat) (n cc oo : Int) : World := (lay1 u m1 m2 n cc oo).alloc (.cells #[Value.func (.func 12) #[] #[.pointer (some ⟨u.heap.size, 0, none⟩)], Value.func (.func 13) #[] #[.pointer (some ⟨u.heap.size + 1, 0, none⟩)]] 30)
def lay3 (u : World) (m1 m2 : Nat) (n cc oo : Int) : World := (lay2 u m1 m2 n cc oo).alloc (.cells #[.int .i64 2, .int .i64 0, .string ⟨#[97]⟩, .pointer none, .pointer none] 33)
def lay4 (u : World) (m1 m2 : Nat) (n cc oo : Int) : World := (lay3 u m1 m2 n cc oo).alloc (.cells #[.int .i64 3, .int .i64 0, .string ⟨#[98]⟩, .pointer none, .pointer none] 33)
def lay5 (u : World) (m1 m2 : Nat) (n cc oo : Int) : World := (lay4 u m1 m2 n cc oo).alloc (.cells #[.int .i64 1, .int .i64 n, .string ⟨#[]⟩, .pointer none, .pointer none] 33)
def lay6 (u : World) (m1 m2 : Nat) (n cc oo : Int) : World := (lay5 u m1 m2 n cc oo).alloc (.cells #[.int .i64 cc, .int .i64 0, .string ⟨#[]⟩, .pointer (some ⟨u.heap.size + 1 + 1 + 1, 0, none⟩), .pointer (some ⟨u.heap.size + 1 + 1 + 1 + 1, 0, none⟩)] 33)
def lay7 (u : World) (m1 m2 : Nat) (n cc oo : Int) : World := (lay6 u m1 m2 n cc oo).alloc (.cells #[.int .i64 oo, .int .i64 0, .string ⟨#[]⟩, .pointer (some ⟨u.heap.size + 1 + 1 + 1 + 1 + 1 + 1, 0, none⟩), .pointer none] 33)
def lay8 (u : World) (m1 m2 : Nat) (n cc oo : Int) : World := (lay7 u m1 m2 n cc oo).alloc (.cells #[.int .i64 cc, .int .i64 0, .string ⟨#[]⟩, .pointer (some ⟨u.heap.size + 1 + 1 + 1 + 1 + 1 + 1 + 1, 0, none⟩), .pointer (some ⟨u.heap.size + 1 + 1 + 1 + 1 + 1, 0, none⟩)] 33)
def lay9 (u : World) (m1 m2 : Nat) (n cc oo : Int) : World := (lay8 u m1 m2 n cc oo).alloc (.cells #[.int .i64 oo, .int .i64 0, .string ⟨#[]⟩, .pointer (some ⟨u.heap.size + 1 + 1 + 1 + 1 + 1 + 1 + 1 + 1, 0, none⟩), .pointer none] 33)

theorem lay0_size (u : World) (m1 m2 : Nat) (n cc oo : Int) : (lay0 u m1 m2 n cc oo).heap.size = u.heap.size + 1 := size_up u _
theorem lay1_size (u : World) (m1 m2 : Nat) (n cc oo : Int) : (lay1 u m1 m2 n cc oo).heap.size = u.heap.size + 1 + 1 := (size_up (lay0 u m1 m2 n cc oo) _).trans (congrArg (· + 1) (lay0_size u m1 m2 n cc oo))
theorem lay2_size (u : World) (m1 m2 : Nat) (n cc oo : Int) : (lay2 u m1 m2 n cc oo).heap.size = u.heap.size + 1 + 1 + 1 := (size_up (lay1 u m1 m2 n cc oo) _).trans (congrArg (· + 1) (lay1_size u m1 m2 n cc oo))
theorem lay3_size (u : World) (m1 m2 : Nat) (n cc oo : Int) : (lay3 u m1 m2 n cc oo).heap.size = u.heap.size + 1 + 1 + 1 + 1 := (size_up (lay2 u m1 m2 n cc oo) _).trans (congrArg (· + 1) (lay2_size u m1 m2 n cc oo))
theorem lay4_size (u : World) (m1 m2 : Nat) (n cc oo : Int) : (lay4 u m1 m2 n cc oo).heap.size = u.heap.size + 1 + 1 + 1 + 1 + 1 := (size_up (lay3 u m1 m2 n cc oo) _).trans (congrArg (· + 1) (lay3_size u m1 m2 n cc oo))
theorem lay5_size (u : World) (m1 m2 : Nat) (n cc oo : Int) : (lay5 u m1 m2 n cc oo).heap.size = u.heap.size + 1 + 1 + 1 + 1 + 1 + 1 := (size_up (lay4 u m1 m2 n cc oo) _).trans (congrArg (· + 1) (lay4_size u m1 m2 n cc oo))
theorem lay6_size (u : World) (m1 m2 : Nat) (n cc oo : Int) : (lay6 u m1 m2 n cc oo).heap.size = u.heap.size + 1 + 1 + 1 + 1 + 1 + 1 + 1 := (size_up (lay5 u m1 m2 n cc oo) _).trans (congrArg (· + 1) (lay5_size u m1 m2 n cc oo))
theorem lay7_size (u : World) (m1 m2 : Nat) (n cc oo : Int) : (lay7 u m1 m2 n cc oo).heap.size = u.heap.size + 1 + 1 + 1 + 1 + 1 + 1 + 1 + 1 := (size_up (lay6 u m1 m2 n cc oo) _).trans (congrArg (· + 1) (lay6_size u m1 m2 n cc oo))
theorem lay8_size (u : World) (m1 m2 : Nat) (n cc oo : Int) : (lay8 u m1 m2 n cc oo).heap.size = u.heap.size + 1 + 1 + 1 + 1 + 1 + 1 + 1 + 1 + 1 := (size_up (lay7 u m1 m2 n cc oo) _).trans (congrArg (· + 1) (lay7_size u m1 m2 n cc oo))
theorem lay9_size (u : World) (m1 m2 : Nat) (n cc oo : Int) : (lay9 u m1 m2 n cc oo).heap.size = u.heap.size + 1 + 1 + 1 + 1 + 1 + 1 + 1 + 1 + 1 + 1 := (size_up (lay8 u m1 m2 n cc oo) _).trans (congrArg (· + 1) (lay8_size u m1 m2 n cc oo))

theorem to9_9 (u : World) (m1 m2 : Nat) (n cc oo : Int) : Below (lay9 u m1 m2 n cc oo).heap.size (lay9 u m1 m2 n cc oo) (lay9 u m1 m2 n cc oo) := Below.refl _ _
theorem to9_8 (u : World) (m1 m2 : Nat) (n cc oo : Int) : Below (lay8 u m1 m2 n cc oo).heap.size (lay8 u m1 m2 n cc oo) (lay9 u m1 m2 n cc oo) := Below.all (grown_one _ _) (to9_9 u m1 m2 n cc oo)
theorem to9_7 (u : World) (m1 m2 : Nat) (n cc oo : Int) : Below (lay7 u m1 m2 n cc oo).heap.size (lay7 u m1 m2 n cc oo) (lay9 u m1 m2 n cc oo) := Below.all (grown_one _ _) (to9_8 u m1 m2 n cc oo)
theorem to9_6 (u : World) (m1 m2 : Nat) (n cc oo : Int) : Below (lay6 u m1 m2 n cc oo).heap.size (lay6 u m1 m2 n cc oo) (lay9 u m1 m2 n cc oo) := Below.all (grown_one _ _) (to9_7 u m1 m2 n cc oo)
theorem to9_5 (u : World) (m1 m2 : Nat) (n cc oo : Int) : Below (lay5 u m1 m2 n cc oo).heap.size (lay5 u m1 m2 n cc oo) (lay9 u m1 m2 n cc oo) := Below.all (grown_one _ _) (to9_6 u m1 m2 n cc oo)
theorem to9_4 (u : World) (m1 m2 : Nat) (n cc oo : Int) : Below (lay4 u m1 m2 n cc oo).heap.size (lay4 u m1 m2 n cc oo) (lay9 u m1 m2 n cc oo) := Below.all (grown_one _ _) (to9_5 u m1 m2 n cc oo)
theorem to9_3 (u : World) (m1 m2 : Nat) (n cc oo : Int) : Below (lay3 u m1 m2 n cc oo).heap.size (lay3 u m1 m2 n cc oo) (lay9 u m1 m2 n cc oo) := Below.all (grown_one _ _) (to9_4 u m1 m2 n cc oo)
theorem to9_2 (u : World) (m1 m2 : Nat) (n cc oo : Int) : Below (lay2 u m1 m2 n cc oo).heap.size (lay2 u m1 m2 n cc oo) (lay9 u m1 m2 n cc oo) := Below.all (grown_one _ _) (to9_3 u m1 m2 n cc oo)
theorem to9_1 (u : World) (m1 m2 : Nat) (n cc oo : Int) : Below (lay1 u m1 m2 n cc oo).heap.size (lay1 u m1 m2 n cc oo) (lay9 u m1 m2 n cc oo) := Below.all (grown_one _ _) (to9_2 u m1 m2 n cc oo)
theorem to9_0 (u : World) (m1 m2 : Nat) (n cc oo : Int) : Below (lay0 u m1 m2 n cc oo).heap.size (lay0 u m1 m2 n cc oo) (lay9 u m1 m2 n cc oo) := Below.all (grown_one _ _) (to9_1 u m1 m2 n cc oo)
theorem to9_u (u : World) (m1 m2 : Nat) (n cc oo : Int) : Below u.heap.size u (lay9 u m1 m2 n cc oo) := Below.all (grown_one _ _) (to9_0 u m1 m2 n cc oo)

theorem cell0_0 (u : World) (m1 m2 : Nat) (n cc oo : Int) : (lay9 u m1 m2 n cc oo).cell? ⟨u.heap.size, 0, none⟩ = some (.map (some m1)) := cell_below (to9_0 u m1 m2 n cc oo) (new_cell u _ _ 0 _ rfl)
theorem cell1_0 (u : World) (m1 m2 : Nat) (n cc oo : Int) : (lay9 u m1 m2 n cc oo).cell? ⟨u.heap.size + 1, 0, none⟩ = some (.map (some m2)) := by
  have h := cell_below (to9_1 u m1 m2 n cc oo) (new_cell (lay0 u m1 m2 n cc oo) _ _ 0 _ rfl)
  rw [lay0_size] at h
  exact h
theorem cell2_0 (u : World) (m1 m2 : Nat) (n cc oo : Int) : (lay9 u m1 m2 n cc oo).cell? ⟨u.heap.size + 1 + 1, 0, none⟩ = some (Value.func (.func 12) #[] #[.pointer (some ⟨u.heap.size, 0, none⟩)]) := by
  have h := cell_below (to9_2 u m1 m2 n cc oo) (new_cell (lay1 u m1 m2 n cc oo) _ _ 0 _ rfl)
  rw [lay1_size] at h
  exact h
theorem cell2_1 (u : World) (m1 m2 : Nat) (n cc oo : Int) : (lay9 u m1 m2 n cc oo).cell? ⟨u.heap.size + 1 + 1, 1, none⟩ = some (Value.func (.func 13) #[] #[.pointer (some ⟨u.heap.size + 1, 0, none⟩)]) := by
  have h := cell_below (to9_2 u m1 m2 n cc oo) (new_cell (lay1 u m1 m2 n cc oo) _ _ 1 _ rfl)
  rw [lay1_size] at h
  exact h
theorem cell3_0 (u : World) (m1 m2 : Nat) (n cc oo : Int) : (lay9 u m1 m2 n cc oo).cell? ⟨u.heap.size + 1 + 1 + 1, 0, none⟩ = some (.int .i64 2) := by
  have h := cell_below (to9_3 u m1 m2 n cc oo) (new_cell (lay2 u m1 m2 n cc oo) _ _ 0 _ rfl)
  rw [lay2_size] at h
  exact h
theorem cell3_2 (u : World) (m1 m2 : Nat) (n cc oo : Int) : (lay9 u m1 m2 n cc oo).cell? ⟨u.heap.size + 1 + 1 + 1, 2, none⟩ = some (.string ⟨#[97]⟩) := by
  have h := cell_below (to9_3 u m1 m2 n cc oo) (new_cell (lay2 u m1 m2 n cc oo) _ _ 2 _ rfl)
  rw [lay2_size] at h
  exact h
theorem cell4_0 (u : World) (m1 m2 : Nat) (n cc oo : Int) : (lay9 u m1 m2 n cc oo).cell? ⟨u.heap.size + 1 + 1 + 1 + 1, 0, none⟩ = some (.int .i64 3) := by
  have h := cell_below (to9_4 u m1 m2 n cc oo) (new_cell (lay3 u m1 m2 n cc oo) _ _ 0 _ rfl)
  rw [lay3_size] at h
  exact h
theorem cell4_2 (u : World) (m1 m2 : Nat) (n cc oo : Int) : (lay9 u m1 m2 n cc oo).cell? ⟨u.heap.size + 1 + 1 + 1 + 1, 2, none⟩ = some (.string ⟨#[98]⟩) := by
  have h := cell_below (to9_4 u m1 m2 n cc oo) (new_cell (lay3 u m1 m2 n cc oo) _ _ 2 _ rfl)
  rw [lay3_size] at h
  exact h
theorem cell5_0 (u : World) (m1 m2 : Nat) (n cc oo : Int) : (lay9 u m1 m2 n cc oo).cell? ⟨u.heap.size + 1 + 1 + 1 + 1 + 1, 0, none⟩ = some (.int .i64 1) := by
  have h := cell_below (to9_5 u m1 m2 n cc oo) (new_cell (lay4 u m1 m2 n cc oo) _ _ 0 _ rfl)
  rw [lay4_size] at h
  exact h
theorem cell5_1 (u : World) (m1 m2 : Nat) (n cc oo : Int) : (lay9 u m1 m2 n cc oo).cell? ⟨u.heap.size + 1 + 1 + 1 + 1 + 1, 1, none⟩ = some (.int .i64 n) := by
  have h := cell_below (to9_5 u m1 m2 n cc oo) (new_cell (lay4 u m1 m2 n cc oo) _ _ 1 _ rfl)
  rw [lay4_size] at h
  exact h
theorem cell6_0 (u : World) (m1 m2 : Nat) (n cc oo : Int) : (lay9 u m1 m2 n cc oo).cell? ⟨u.heap.size + 1 + 1 + 1 + 1 + 1 + 1, 0, none⟩ = some (.int .i64 cc) := by
  have h := cell_below (to9_6 u m1 m2 n cc oo) (new_cell (lay5 u m1 m2 n cc oo) _ _ 0 _ rfl)
  rw [lay5_size] at h
  exact h
theorem cell6_3 (u : World) (m1 m2 : Nat) (n cc oo : Int) : (lay9 u m1 m2 n cc oo).cell? ⟨u.heap.size + 1 + 1 + 1 + 1 + 1 + 1, 3, none⟩ = some (.pointer (some ⟨u.heap.size + 1 + 1 + 1, 0, none⟩)) := by
  have h := cell_below (to9_6 u m1 m2 n cc oo) (new_cell (lay5 u m1 m2 n cc oo) _ _ 3 _ rfl)
  rw [lay5_size] at h
  exact h
theorem cell6_4 (u : World) (m1 m2 : Nat) (n cc oo : Int) : (lay9 u m1 m2 n cc oo).cell? ⟨u.heap.size + 1 + 1 + 1 + 1 + 1 + 1, 4, none⟩ = some (.pointer (some ⟨u.heap.size + 1 + 1 + 1 + 1, 0, none⟩)) := by
  have h := cell_below (to9_6 u m1 m2 n cc oo) (new_cell (lay5 u m1 m2 n cc oo) _ _ 4 _ rfl)
  rw [lay5_size] at h
  exact h
theorem cell7_0 (u : World) (m1 m2 : Nat) (n cc oo : Int) : (lay9 u m1 m2 n cc oo).cell? ⟨u.heap.size + 1 + 1 + 1 + 1 + 1 + 1 + 1, 0, none⟩ = some (.int .i64 oo) := by
  have h := cell_below (to9_7 u m1 m2 n cc oo) (new_cell (lay6 u m1 m2 n cc oo) _ _ 0 _ rfl)
  rw [lay6_size] at h
  exact h
theorem cell7_3 (u : World) (m1 m2 : Nat) (n cc oo : Int) : (lay9 u m1 m2 n cc oo).cell? ⟨u.heap.size + 1 + 1 + 1 + 1 + 1 + 1 + 1, 3, none⟩ = some (.pointer (some ⟨u.heap.size + 1 + 1 + 1 + 1 + 1 + 1, 0, none⟩)) := by
  have h := cell_below (to9_7 u m1 m2 n cc oo) (new_cell (lay6 u m1 m2 n cc oo) _ _ 3 _ rfl)
  rw [lay6_size] at h
  exact h
theorem cell8_0 (u : World) (m1 m2 : Nat) (n cc oo : Int) : (lay9 u m1 m2 n cc oo).cell? ⟨u.heap.size + 1 + 1 + 1 + 1 + 1 + 1 + 1 + 1, 0, none⟩ = some (.int .i64 cc) := by
  have h := cell_below (to9_8 u m1 m2 n cc oo) (new_cell (lay7 u m1 m2 n cc oo) _ _ 0 _ rfl)
  rw [lay7_size] at h
  exact h
theorem cell8_3 (u : World) (m1 m2 : Nat) (n cc oo : Int) : (lay9 u m1 m2 n cc oo).cell? ⟨u.heap.size + 1 + 1 + 1 + 1 + 1 + 1 + 1 + 1, 3, none⟩ = some (.pointer (some ⟨u.heap.size + 1 + 1 + 1 + 1 + 1 + 1 + 1, 0, none⟩)) := by
  have h := cell_below (to9_8 u m1 m2 n cc oo) (new_cell (lay7 u m1 m2 n cc oo) _ _ 3 _ rfl)
  rw [lay7_size] at h
  exact h
theorem cell8_4 (u : World) (m1 m2 : Nat) (n cc oo : Int) : (lay9 u m1 m2 n cc oo).cell? ⟨u.heap.size + 1 + 1 + 1 + 1 + 1 + 1 + 1 + 1, 4, none⟩ = some (.pointer (some ⟨u.heap.size + 1 + 1 + 1 + 1 + 1, 0, none⟩)) := by
  have h := cell_below (to9_8 u m1 m2 n cc oo) (new_cell (lay7 u m1 m2 n cc oo) _ _ 4 _ rfl)
  rw [lay7_size] at h
  exact h
theorem cell9_0 (u : World) (m1 m2 : Nat) (n cc oo : Int) : (lay9 u m1 m2 n cc oo).cell? ⟨u.heap.size + 1 + 1 + 1 + 1 + 1 + 1 + 1 + 1 + 1, 0, none⟩ = some (.int .i64 oo) := by
  have h := cell_below (to9_9 u m1 m2 n cc oo) (new_cell (lay8 u m1 m2 n cc oo) _ _ 0 _ rfl)
  rw [lay8_size] at h
  exact h
theorem cell9_3 (u : World) (m1 m2 : Nat) (n cc oo : Int) : (lay9 u m1 m2 n cc oo).cell? ⟨u.heap.size + 1 + 1 + 1 + 1 + 1 + 1 + 1 + 1 + 1, 3, none⟩ = some (.pointer (some ⟨u.heap.size + 1 + 1 + 1 + 1 + 1 + 1 + 1 + 1, 0, none⟩)) := by
  have h := cell_below (to9_9 u m1 m2 n cc oo) (new_cell (lay8 u m1 m2 n cc oo) _ _ 3 _ rfl)
  rw [lay8_size] at h
  exact h

/-- What the first expression comes to. -/
def exE (n cc oo x y : Int) : Int := vTwo cc (vOne oo (vTwo cc x y)) n

theorem evals_e (u : World) (m1 m2 : Nat) (n cc oo : Int) (x y : Int) (hc : 6 ≤ cc) (ho : oo = 4 ∨ oo = 5) (h1 : Tells u m1 ⟨#[97]⟩ x) (h2 : Tells u m2 ⟨#[98]⟩ y) : Evals u.heap.size (u.heap.size + 1) (u.heap.size + 1 + 1 + 1 + 1 + 1 + 1 + 1 + 1) (exE n cc oo x y) (lay9 u m1 m2 n cc oo) :=
  evals_two (cell8_0 u m1 m2 n cc oo) hc (cell8_3 u m1 m2 n cc oo) (cell8_4 u m1 m2 n cc oo)
    (evals_one (cell7_0 u m1 m2 n cc oo) ho (cell7_3 u m1 m2 n cc oo) (evals_two (cell6_0 u m1 m2 n cc oo) hc (cell6_3 u m1 m2 n cc oo) (cell6_4 u m1 m2 n cc oo) (evals_var (cell3_0 u m1 m2 n cc oo) (cell3_2 u m1 m2 n cc oo) (cell0_0 u m1 m2 n cc oo) (h1.below (to9_u u m1 m2 n cc oo))) (evals_pre (cell4_0 u m1 m2 n cc oo) (cell4_2 u m1 m2 n cc oo) (cell1_0 u m1 m2 n cc oo) (h2.below (to9_u u m1 m2 n cc oo)))))
    (evals_num (cell5_0 u m1 m2 n cc oo) (cell5_1 u m1 m2 n cc oo))

theorem evals_f (u : World) (m1 m2 : Nat) (n cc oo : Int) (x y : Int) (hc : 6 ≤ cc) (ho : oo = 4 ∨ oo = 5) (h1 : Tells u m1 ⟨#[97]⟩ x) (h2 : Tells u m2 ⟨#[98]⟩ y) : Evals u.heap.size (u.heap.size + 1) (u.heap.size + 1 + 1 + 1 + 1 + 1 + 1 + 1 + 1 + 1) (vOne oo (exE n cc oo x y)) (lay9 u m1 m2 n cc oo) :=
  evals_one (cell9_0 u m1 m2 n cc oo) ho (cell9_3 u m1 m2 n cc oo) (evals_e u m1 m2 n cc oo x y hc ho h1 h2)

theorem refEvals_e (u : World) (m1 m2 : Nat) (n cc oo : Int) (x y : Int) (hc : 6 ≤ cc) (ho : oo = 4 ∨ oo = 5) (h1 : Tells u m1 ⟨#[97]⟩ x) (h2 : Tells u m2 ⟨#[98]⟩ y) (hn : -9223372036854775808 ≤ n ∧ n ≤ 9223372036854775807) (hx : -9223372036854775808 ≤ x ∧ x ≤ 9223372036854775807) (hy : -9223372036854775808 ≤ y ∧ y ≤ 9223372036854775807) : RefEvals m1 m2 (u.heap.size + 1 + 1 + 1 + 1 + 1 + 1 + 1 + 1) (exE n cc oo x y) (lay9 u m1 m2 n cc oo) :=
  refEvals_two (cell8_0 u m1 m2 n cc oo) hc (cell8_3 u m1 m2 n cc oo) (cell8_4 u m1 m2 n cc oo)
    (refEvals_one (cell7_0 u m1 m2 n cc oo) ho (cell7_3 u m1 m2 n cc oo) (refEvals_two (cell6_0 u m1 m2 n cc oo) hc (cell6_3 u m1 m2 n cc oo) (cell6_4 u m1 m2 n cc oo) (refEvals_var (cell3_0 u m1 m2 n cc oo) (cell3_2 u m1 m2 n cc oo) (h1.below (to9_u u m1 m2 n cc oo))) (refEvals_pre (cell4_0 u m1 m2 n cc oo) (cell4_2 u m1 m2 n cc oo) (h2.below (to9_u u m1 m2 n cc oo))) hx hy))
    (refEvals_num (cell5_0 u m1 m2 n cc oo) (cell5_1 u m1 m2 n cc oo)) (vOne_bd _ _) hn

theorem refEvals_f (u : World) (m1 m2 : Nat) (n cc oo : Int) (x y : Int) (hc : 6 ≤ cc) (ho : oo = 4 ∨ oo = 5) (h1 : Tells u m1 ⟨#[97]⟩ x) (h2 : Tells u m2 ⟨#[98]⟩ y) (hn : -9223372036854775808 ≤ n ∧ n ≤ 9223372036854775807) (hx : -9223372036854775808 ≤ x ∧ x ≤ 9223372036854775807) (hy : -9223372036854775808 ≤ y ∧ y ≤ 9223372036854775807) : RefEvals m1 m2 (u.heap.size + 1 + 1 + 1 + 1 + 1 + 1 + 1 + 1 + 1) (vOne oo (exE n cc oo x y)) (lay9 u m1 m2 n cc oo) :=
  refEvals_one (cell9_0 u m1 m2 n cc oo) ho (cell9_3 u m1 m2 n cc oo) (refEvals_e u m1 m2 n cc oo x y hc ho h1 h2 hn hx hy)

theorem code_fits (a : Int) : 6 ≤ wrap64 (6 + wrap64 ((IntKind.u64.wrap a).tmod 11)) := by
  have h := wrap_u64_nonneg a
  rw [Int.tmod_eq_emod_of_nonneg h]
  generalize IntKind.u64.wrap a = z at h ⊢
  unfold wrap64; omega

theorem op_fits (a : Int) : wrap64 (4 + wrap64 ((IntKind.u64.wrap a).tmod 2)) = 4 ∨ wrap64 (4 + wrap64 ((IntKind.u64.wrap a).tmod 2)) = 5 := by
  have h := wrap_u64_nonneg a
  rw [Int.tmod_eq_emod_of_nonneg h]
  generalize IntKind.u64.wrap a = z at h ⊢
  unfold wrap64; omega

end Go.Proofs.Ythefnfejhmpobaa
