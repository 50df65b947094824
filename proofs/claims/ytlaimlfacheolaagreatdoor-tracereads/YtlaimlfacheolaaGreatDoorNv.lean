/- How code and what it runs on lie in memory. -/
import Derived.Test.YtlaimlfacheolaaGreatDoorRows
import Derived.Test.YtlaimlfacheolaaGreatDoorNm
import Derived.WalkKit
import Derived.WalkSpells
import Derived.WalkLawsBesides
import Derived.Below
namespace Go.Proofs.YtlaimlfacheolaaGreatDoor
open Go.RowKit
namespace Nx

/-- all old blocks below B but those of X are as they were -/
structure Fr (B : Nat) (X : List Nat) (w w' : World) : Prop where
  os : w'.os = w.os
  tape : w'.tape = w.tape
  output : w'.output = w.output
  size : w.heap.size ≤ w'.heap.size
  block : ∀ k, k < B → k ∉ X → w'.heap[k]? = w.heap[k]?
theorem Fr.refl (B : Nat) (X : List Nat) (w : World) : Fr B X w w := ⟨rfl, rfl, rfl, Nat.le_refl _, fun _ _ _ => rfl⟩
theorem Fr.trans {B : Nat} {X : List Nat} {a b c : World} (h : Fr B X a b) (k : Fr B X b c) : Fr B X a c :=
  ⟨k.os.trans h.os, k.tape.trans h.tape, k.output.trans h.output, Nat.le_trans h.size k.size, fun i hi hx => (k.block i hi hx).trans (h.block i hi hx)⟩
theorem Fr.mono {B B' : Nat} {X X' : List Nat} {w w' : World} (h : Fr B X w w') (hB : B' ≤ B) (hX : ∀ x ∈ X, x < B' → x ∈ X') : Fr B' X' w w' :=
  ⟨h.os, h.tape, h.output, h.size, fun k hk hx => h.block k (by omega) (fun hm => hx (hX k hm hk))⟩
theorem Fr.of_below {B : Nat} {w w' : World} (h : Below B w w') (X : List Nat) : Fr B X w w' := ⟨h.os, h.tape, h.output, h.size, fun k hk _ => h.block k hk⟩
theorem Fr.below {B : Nat} {w w' : World} (h : Fr B [] w w') : Below B w w' := ⟨h.os, h.tape, h.output, h.size, fun k hk => h.block k hk (by simp)⟩
theorem Fr.alloc {B : Nat} {X : List Nat} {a w : World} (h : Fr B X a w) (hB : B ≤ w.heap.size) (o : Obj) : Fr B X a (w.alloc o) :=
  h.trans ⟨rfl, rfl, rfl, by simp, fun k hk _ => Below.heap_alloc _ _ _ (by omega)⟩
theorem Fr.setCell {B : Nat} {X : List Nat} {a w : World} (h : Fr B X a w) {p : Addr} (hp : B ≤ p.block ∨ p.block ∈ X) (u : Value) : Fr B X a (w.setCell p u) :=
  h.trans ⟨rfl, rfl, rfl, by simp [World.setCell], fun k hk hx => Below.heap_setCell _ _ _ _ (fun e => by rcases hp with hp | hp; omega; exact hx (e ▸ hp))⟩
theorem Fr.drew {B : Nat} {X : List Nat} {a w : World} (h : Fr B X a w) : Fr B X a w.drew := ⟨h.os, h.tape, h.output, h.size, h.block⟩

theorem lt_of_block {w : World} {b : Nat} {o : Obj} (h : w.heap[b]? = some o) : b < w.heap.size := (Array.getElem?_eq_some_iff.1 h).1
theorem cell_of_block {w w' : World} {b : Nat} (h : w'.heap[b]? = w.heap[b]?) (o : Nat) : w'.cell? ⟨b, o, none⟩ = w.cell? ⟨b, o, none⟩ := by
  simp only [World.cell?, h]
theorem lt_of_cell {w : World} {b o : Nat} {v : Value} (h : w.cell? ⟨b, o, none⟩ = some v) : b < w.heap.size := by
  rcases Nat.lt_or_ge b w.heap.size with hl | hl
  · exact hl
  · simp [World.cell?, Array.getElem?_eq_none hl] at h

/-- what lies in blocks of those lies there still, in blocks of these -/
def Keep (A A' : Nat → Prop) (w w' : World) : Prop := ∀ b, A b → b < w.heap.size → A' b ∧ w'.heap[b]? = w.heap[b]?

/-- a slice of numbers, in a block of those -/
def Ints (A : Nat → Prop) (w : World) (v : Value) (zs : List Int) : Prop :=
  ∃ ad b off cap, v = .slice ad zs.length cap ∧ (0 < zs.length → ad = some ⟨b, off, none⟩ ∧ A b) ∧ ∀ k, k < zs.length → w.cell? ⟨b, off + k, none⟩ = some (.int .i64 (zs.getD k 0))
theorem Ints.carry {A A' : Nat → Prop} {w w' : World} {v : Value} {zs : List Int} (h : Ints A w v zs) (k : Keep A A' w w') : Ints A' w' v zs := by
  obtain ⟨ad, b, off, cap, rfl, h1, h2⟩ := h
  refine ⟨ad, b, off, cap, rfl, fun hp => ?_, fun j hj => ?_⟩
  · obtain ⟨e, ha⟩ := h1 hp
    exact ⟨e, (k b ha (lt_of_cell (h2 0 hp))).1⟩
  · obtain ⟨e, ha⟩ := h1 (by omega)
    rw [cell_of_block (k b ha (lt_of_cell (h2 j hj))).2]; exact h2 j hj

/-- a slice of steps, in a block of those -/
def Steps (A : Nat → Prop) (w : World) (v : Value) (l : List Sp) : Prop :=
  ∃ ad b off cap, v = .slice ad l.length cap ∧ (0 < l.length → ad = some ⟨b, off, none⟩ ∧ A b) ∧
    ∀ k, k < l.length → w.cell? ⟨b, off + k * 5, none⟩ = some (.int .i64 (l.getD k sp0).code) ∧ w.cell? ⟨b, off + k * 5 + 1, none⟩ = some (.int .i64 (l.getD k sp0).dst) ∧
      w.cell? ⟨b, off + k * 5 + 2, none⟩ = some (.int .i64 (l.getD k sp0).a) ∧ w.cell? ⟨b, off + k * 5 + 3, none⟩ = some (.int .i64 (l.getD k sp0).b) ∧ w.cell? ⟨b, off + k * 5 + 4, none⟩ = some (.int .i64 (l.getD k sp0).c)
theorem Steps.carry {A A' : Nat → Prop} {w w' : World} {v : Value} {l : List Sp} (h : Steps A w v l) (k : Keep A A' w w') : Steps A' w' v l := by
  obtain ⟨ad, b, off, cap, rfl, h1, h2⟩ := h
  refine ⟨ad, b, off, cap, rfl, fun hp => ?_, fun j hj => ?_⟩
  · obtain ⟨e, ha⟩ := h1 hp
    exact ⟨e, (k b ha (lt_of_cell (h2 0 hp).1)).1⟩
  · obtain ⟨e, ha⟩ := h1 (by omega)
    have hb := (k b ha (lt_of_cell (h2 j hj).1)).2
    rw [cell_of_block hb, cell_of_block hb, cell_of_block hb, cell_of_block hb, cell_of_block hb]; exact h2 j hj

/-- a slice of numbers that is written into: it lies at the head of block g -/
def Own (w : World) (v : Value) (V : List Int) (g : Nat) : Prop :=
  ∃ ad cap, v = .slice ad V.length cap ∧ (0 < V.length → ad = some ⟨g, 0, none⟩ ∧ ∃ rest T, w.heap[g]? = some (.cells (V.map (Value.int .i64) ++ rest).toArray T (0, 0)))
theorem Own.keep {w w' : World} {v : Value} {V : List Int} {g : Nat} (h : Own w v V g) (hg : w'.heap[g]? = w.heap[g]?) : Own w' v V g := by
  obtain ⟨ad, cap, rfl, h1⟩ := h
  exact ⟨ad, cap, rfl, fun hp => by obtain ⟨e, rest, T, hb⟩ := h1 hp; exact ⟨e, rest, T, by rw [hg]; exact hb⟩⟩
theorem cell_of_cells {w : World} {g : Nat} {l : List Value} {T : TypeId} {f : Nat × Nat} (h : w.heap[g]? = some (.cells l.toArray T f)) (k : Nat) : w.cell? ⟨g, k, none⟩ = l[k]? := by
  simp only [World.cell?, h]
  simp
theorem Own.cell {w : World} {v : Value} {V : List Int} {g : Nat} (h : Own w v V g) (k : Nat) (hk : k < V.length) : w.cell? ⟨g, k, none⟩ = some (.int .i64 (V.getD k 0)) := by
  obtain ⟨ad, cap, rfl, h1⟩ := h
  obtain ⟨e, rest, T, hb⟩ := h1 (by omega)
  rw [cell_of_cells hb, List.getElem?_append_left (by simpa using hk), List.getElem?_map, List.getD_eq_getElem?_getD, List.getElem?_eq_getElem hk]; rfl
theorem Own.ints {w : World} {v : Value} {V : List Int} {g : Nat} (h : Own w v V g) {A : Nat → Prop} (ha : 0 < V.length → A g) : Ints A w v V := by
  have hc := h.cell
  obtain ⟨ad, cap, rfl, h1⟩ := h
  exact ⟨ad, g, 0, cap, rfl, fun hp => ⟨(h1 hp).1, ha hp⟩, fun k hk => by rw [Nat.zero_add]; exact hc k hk⟩

end Nx
end Go.Proofs.YtlaimlfacheolaaGreatDoor
