/- chapter 14: how numbers are printed. -/
import Derived.Test.YtlaimlfacheolaaGreatDoorTrI
import Derived.Lib.ItoaLen
namespace Go.Proofs.YtlaimlfacheolaaGreatDoor
open Go.RowKit
namespace Tq
open Nx (Ints lt_of_block)
def rowK (l : List Int) : By := (l.flatMap fun n => 32 :: Lib.itoa n).drop 1
def rowT (l : List Int) : By := rowK l ++ [10]
def printT (rows : List (List Int)) : By := rows.flatMap rowT
abbrev I64 (n : Int) : Prop := -9223372036854775808 ≤ n ∧ n ≤ 9223372036854775807
theorem row_first {l : List Int} (h : 0 < l.length) : rowK (l.take 1) = Lib.itoa (l.getD 0 0) := by
  cases l with
  | nil => simp at h
  | cons x t => simp [rowK]
theorem row_more {l : List Int} {j : Nat} (h : j < l.length) (h0 : 0 < j) : rowK (l.take (j + 1)) = rowK (l.take j) ++ (32 :: Lib.itoa (l.getD j 0)) := by
  unfold rowK
  rw [List.take_succ_eq_append_getElem h, List.flatMap_append, List.drop_append_of_le_length]
  · congr 1
    rw [List.flatMap_singleton, List.getD_eq_getElem?_getD, List.getElem?_eq_getElem h]; rfl
  · cases l with
    | nil => simp at h
    | cons x t =>
      obtain ⟨m, rfl⟩ : ∃ m, j = m + 1 := ⟨j - 1, by omega⟩
      simp
theorem print_more {rows : List (List Int)} {k : Nat} (h : k < rows.length) : printT (rows.take (k + 1)) = printT (rows.take k) ++ (rowK (rows.getD k []) ++ [10]) := by
  unfold printT
  rw [List.take_succ_eq_append_getElem h, List.flatMap_append, List.flatMap_singleton, List.getD_eq_getElem?_getD, List.getElem?_eq_getElem h]; rfl
theorem row_len {l : List Int} (h : ∀ j, I64 (l.getD j 0)) : ∀ j, j ≤ l.length → ((l.take j).flatMap fun n => 32 :: Lib.itoa n).length ≤ 22 * j
  | 0, _ => by simp
  | j + 1, hj => by
    have ih := row_len h j (by omega)
    have hn := h j
    have := Lib.itoa_length_le (l.getD j 0) hn.1 hn.2
    rw [List.take_succ_eq_append_getElem (by omega), List.flatMap_append, List.flatMap_singleton, List.length_append, List.length_cons]
    have e : l[j] = l.getD j 0 := by rw [List.getD_eq_getElem?_getD, List.getElem?_eq_getElem (by omega)]; rfl
    rw [e]; omega
theorem rowK_len {l : List Int} (h : ∀ j, I64 (l.getD j 0)) {j : Nat} (hj : j ≤ l.length) : (rowK (l.take j)).length ≤ 22 * j := by
  have := row_len h j hj
  unfold rowK
  rw [List.length_drop]; omega
theorem print_len {rows : List (List Int)} {m : Nat} (h : ∀ k j, I64 ((rows.getD k []).getD j 0)) (hm : ∀ k, k < rows.length → (rows.getD k []).length ≤ m) : ∀ k, k ≤ rows.length → (printT (rows.take k)).length ≤ (22 * m + 1) * k
  | 0, _ => by simp [printT]
  | k + 1, hk => by
    have ih := print_len h hm k (by omega)
    have h1 := rowK_len (h k) (Nat.le_refl (rows.getD k []).length)
    rw [List.take_length] at h1
    have h2 := hm k (by omega)
    rw [print_more (by omega), List.length_append, List.length_append, List.length_singleton, Nat.mul_succ]
    omega
/-- rows of numbers that came in -/
def RowsI (w : World) (v : Value) (rows : List (List Int)) : Prop :=
  ∃ ad b off cap, v = .slice ad rows.length cap ∧ (0 < rows.length → ad = some ⟨b, off, none⟩) ∧ ∀ k, k < rows.length → ∃ u, w.cell? ⟨b, off + k, none⟩ = some u ∧ Ints (fun b => b < w.heap.size) w u (rows.getD k [])
theorem RowsI.below {w w' : World} {v : Value} {rows : List (List Int)} (h : RowsI w v rows) (hb : Below w.heap.size w w') : RowsI w' v rows := by
  obtain ⟨ad, b, off, cap, rfl, h1, h2⟩ := h
  refine ⟨ad, b, off, cap, rfl, h1, fun k hk => ?_⟩
  obtain ⟨u, hu, hi⟩ := h2 k hk
  exact ⟨u, ck_cell hb hu, hi.carry fun b hA hl => ⟨Nat.lt_of_lt_of_le hl hb.size, hb.block b hl⟩⟩
theorem st_app (a b : By) : st a ++ st b = st (a ++ b) := by
  have : (st a ++ st b).data = (st (a ++ b)).data := by simp [st]
  cases h : st a ++ st b
  rw [h] at this
  cases this
  rfl
end Tq
end Go.Proofs.YtlaimlfacheolaaGreatDoor
