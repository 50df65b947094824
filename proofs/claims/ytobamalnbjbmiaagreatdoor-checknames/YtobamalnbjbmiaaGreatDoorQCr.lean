/- How what a text draws lies in memory. -/
import Derived.Test.YtobamalnbjbmiaaGreatDoorQDraw
import Derived.Below
import Derived.Laws.OwnMore
import Derived.Deep.Draws
import Derived.Test.YtobamalnbjbmiaaGreatDoorProg
import Derived.WalkKit
import Derived.WalkSpells
import Derived.WalkLawsBesides
import Derived.Laws.EntriesVeiled
namespace Go.Proofs.YtobamalnbjbmiaaGreatDoor
open Go.RowKit Go.Deep Px

def sv (s : Str) : Value := .string ⟨s.toArray⟩

/-- what lies in blocks of those, lies there still, in blocks of these -/
def Keep (A A' : Nat → Prop) (w w' : World) : Prop := ∀ b, A b → b < w.heap.size → A' b ∧ w'.heap[b]? = w.heap[b]?
theorem Keep.trans {A A' A'' : Nat → Prop} {w w' w'' : World} (h : Keep A A' w w') (k : Keep A' A'' w' w'') (hs : w.heap.size ≤ w'.heap.size) : Keep A A'' w w'' := fun b ha hb =>
  ⟨(k b (h b ha hb).1 (by omega)).1, (k b (h b ha hb).1 (by omega)).2.trans (h b ha hb).2⟩
theorem lt_of_block {w : World} {b : Nat} {o : Obj} (h : w.heap[b]? = some o) : b < w.heap.size := (Array.getElem?_eq_some_iff.1 h).1

/-- a row of one's own, in a block of those -/
def Row (A : Nat → Prop) (w : World) (e size : Nat) (v : Value) (n : Nat) (xs : List Value) : Prop := w.ownsRow 0 e size v n xs ∧ ∀ g, v.ownBlock = some g → A g
theorem own_keep {A A' : Nat → Prop} {w w' : World} {B e size n : Nat} {v : Value} {xs : List Value} (h : w.ownsRow B e size v n xs) (ha : ∀ g, v.ownBlock = some g → A g) (k : Keep A A' w w') : w'.ownsRow B e size v n xs := by
  refine ⟨h.1, ?_⟩
  rcases h.2 with hn | ⟨g, cap, cur, rfl, hb, hgg, rest⟩
  · exact .inl hn
  · exact .inr ⟨g, cap, cur, rfl, hb, by rw [(k g (ha g rfl) (lt_of_block hgg)).2]; exact hgg, rest⟩
theorem Row.carry {A A' : Nat → Prop} {w w' : World} {e size n : Nat} {v : Value} {xs : List Value} (h : Row A w e size v n xs) (k : Keep A A' w w') : Row A' w' e size v n xs :=
  ⟨own_keep h.1 h.2 k, fun g hg => (k g (h.2 g hg) (h.1.lt g hg).2).1⟩
theorem own_base0 {w : World} {B e size n : Nat} {v : Value} {xs : List Value} (h : w.ownsRow B e size v n xs) : w.ownsRow 0 e size v n xs := by
  refine ⟨h.1, ?_⟩
  rcases h.2 with hn | ⟨g, cap, cur, rfl, _, rest⟩
  · exact .inl hn
  · exact .inr ⟨g, cap, cur, rfl, Nat.zero_le _, rest⟩

/-- records one behind the other -/
def Rows {α : Type} (R : α → List Value → Prop) : List α → List Value → Prop
  | [], xs => xs = []
  | a :: r, xs => ∃ c ys, xs = c ++ ys ∧ R a c ∧ Rows R r ys
theorem Rows.append {α : Type} {R : α → List Value → Prop} : ∀ {l m : List α} {xs ys : List Value}, Rows R l xs → Rows R m ys → Rows R (l ++ m) (xs ++ ys) := by
  intro l
  induction l with
  | nil => intro m xs ys h k; obtain rfl : xs = [] := h; exact k
  | cons a r ih =>
    intro m xs ys h k
    obtain ⟨c, zs, rfl, hc, hr⟩ := h
    exact ⟨c, zs ++ ys, by rw [List.append_assoc], hc, ih hr k⟩
theorem Rows.one {α : Type} {R : α → List Value → Prop} {a : α} {c : List Value} (h : R a c) : Rows R [a] c := ⟨c, [], by simp, h, rfl⟩
theorem Rows.map {α : Type} {R R' : α → List Value → Prop} (hR : ∀ a c, R a c → R' a c) : ∀ {l : List α} {xs : List Value}, Rows R l xs → Rows R' l xs := by
  intro l
  induction l with
  | nil => intro xs h; exact h
  | cons a r ih => intro xs h; obtain ⟨c, ys, rfl, hc, hr⟩ := h; exact ⟨c, ys, rfl, hR _ _ hc, ih hr⟩
theorem Rows.get {α : Type} {R : α → List Value → Prop} {k : Nat} (hk : ∀ a c, R a c → c.length = k) : ∀ {l : List α} {xs : List Value}, Rows R l xs → ∀ (i : Nat) (a : α), l[i]? = some a → ∃ c, R a c ∧ ∀ (j : Nat) (u : Value), c[j]? = some u → xs[i * k + j]? = some u := by
  intro l
  induction l with
  | nil => intro xs _ i a h; simp at h
  | cons x r ih =>
    intro xs h i a hi
    obtain ⟨c, ys, rfl, hc, hr⟩ := h
    have hl := hk _ _ hc
    cases i with
    | zero =>
      obtain rfl : x = a := by simpa using hi
      refine ⟨c, hc, fun j u hj => ?_⟩
      have hlt := (List.getElem?_eq_some_iff.1 hj).1
      rw [Nat.zero_mul, Nat.zero_add, List.getElem?_append_left hlt]; exact hj
    | succ i =>
      obtain ⟨d, hd, hg⟩ := ih hr i a (by simpa using hi)
      refine ⟨d, hd, fun j u hj => ?_⟩
      have e : (i + 1) * k + j = c.length + (i * k + j) := by rw [Nat.add_mul, hl]; omega
      rw [e, List.getElem?_append_right (by omega), Nat.add_sub_cancel_left]; exact hg j u hj

def IsE (A : Nat → Prop) (w : World) : E → Value → Prop
  | .nil, v => v = .pointer none
  | .node _ _ a l r, v => ∃ g lv rv, v = .pointer (some ⟨g, 0, none⟩) ∧ A g ∧ w.heap[g]? = some (.cells #[.int .i64 a.code, .int .i64 a.num, sv a.name, lv, rv] 61 (0, 0)) ∧ IsE A w l lv ∧ IsE A w r rv
theorem IsE.carry {A A' : Nat → Prop} {w w' : World} (k : Keep A A' w w') : ∀ {e : E} {v : Value}, IsE A w e v → IsE A' w' e v := by
  intro e
  induction e with
  | nil => intro v h; exact h
  | node b o a l r ihl ihr =>
    intro v h
    obtain ⟨g, lv, rv, rfl, ha, hg, hl, hr⟩ := h
    obtain ⟨ha', hg'⟩ := k g ha (lt_of_block hg)
    exact ⟨g, lv, rv, rfl, ha', by rw [hg']; exact hg, ihl hl, ihr hr⟩

def SetC (A : Nat → Prop) (w : World) (a : Asg) (c : List Value) : Prop := ∃ p, c = [sv a.name, p] ∧ IsE A w a.e p
def IsSets (A : Nat → Prop) (w : World) (l : List Asg) (v : Value) : Prop := ∃ xs, Row A w 174 2 v l.length xs ∧ Rows (SetC A w) l xs
def WayC (A : Nat → Prop) (w : World) (a : Wy) (c : List Value) : Prop :=
  ∃ p q, c = [.int .i64 a.kind, .bool a.now, p, .int .i64 a.times, q, sv a.to, .bool a.back] ∧ IsE A w a.cond p ∧ IsSets A w a.sets q
def IsWays (A : Nat → Prop) (w : World) (l : List Wy) (v : Value) : Prop := ∃ xs, Row A w 93 7 v l.length xs ∧ Rows (WayC A w) l xs
def RegC {ρ : Type} (IsReg : List ρ → Value → Prop) (r : List ρ) (c : List Value) : Prop := ∃ u, c = [u] ∧ IsReg r u
def IsRegs {ρ : Type} (A : Nat → Prop) (w : World) (IsReg : List ρ → Value → Prop) (l : List (List ρ)) (v : Value) : Prop := ∃ xs, Row A w 66 1 v l.length xs ∧ Rows (RegC IsReg) l xs
def StC {ρ : Type} (A : Nat → Prop) (w : World) (IsReg : List ρ → Value → Prop) (s : StF ρ) (c : List Value) : Prop :=
  ∃ e d l p y r, c = [sv s.name, .bool s.first, .bool s.last, e, d, l, p, y, r] ∧ IsSets A w s.enter e ∧ IsSets A w s.during d ∧ IsSets A w s.leave l ∧ IsE A w s.rests p ∧ IsWays A w s.ways y ∧ IsRegs A w IsReg s.regions r
def IsStates (A : Nat → Prop) (w : World) : (k : Nat) → List (St k) → Value → Prop
  | 0 => fun l v => l = [] ∧ v = .slice none 0 0
  | k + 1 => fun l v => ∃ xs, Row A w 65 9 v l.length xs ∧ Rows (StC A w (IsStates A w k)) l xs
def DeclC (a : Decl) (c : List Value) : Prop := c = [.int .i64 a.kind, sv a.name, .int .i64 a.first]
def IsVars (A : Nat → Prop) (w : World) (l : List Decl) (v : Value) : Prop := ∃ xs, Row A w 53 3 v l.length xs ∧ Rows DeclC l xs

section
variable {A A' : Nat → Prop} {w w' : World}
theorem SetC.carry (k : Keep A A' w w') (a : Asg) (c : List Value) (h : SetC A w a c) : SetC A' w' a c := by
  obtain ⟨p, rfl, hp⟩ := h; exact ⟨p, rfl, hp.carry k⟩
theorem IsSets.carry (k : Keep A A' w w') {l : List Asg} {v : Value} (h : IsSets A w l v) : IsSets A' w' l v := by
  obtain ⟨xs, hr, hs⟩ := h; exact ⟨xs, hr.carry k, hs.map (SetC.carry k)⟩
theorem WayC.carry (k : Keep A A' w w') (a : Wy) (c : List Value) (h : WayC A w a c) : WayC A' w' a c := by
  obtain ⟨p, q, rfl, hp, hq⟩ := h; exact ⟨p, q, rfl, hp.carry k, hq.carry k⟩
theorem IsWays.carry (k : Keep A A' w w') {l : List Wy} {v : Value} (h : IsWays A w l v) : IsWays A' w' l v := by
  obtain ⟨xs, hr, hs⟩ := h; exact ⟨xs, hr.carry k, hs.map (WayC.carry k)⟩
theorem IsRegs.carry {ρ : Type} {I I' : List ρ → Value → Prop} (k : Keep A A' w w') (hI : ∀ l v, I l v → I' l v) {l : List (List ρ)} {v : Value} (h : IsRegs A w I l v) : IsRegs A' w' I' l v := by
  obtain ⟨xs, hr, hs⟩ := h; exact ⟨xs, hr.carry k, hs.map (fun a c ⟨u, hc, hu⟩ => ⟨u, hc, hI _ _ hu⟩)⟩
theorem StC.carry {ρ : Type} {I I' : List ρ → Value → Prop} (k : Keep A A' w w') (hI : ∀ l v, I l v → I' l v) (s : StF ρ) (c : List Value) (h : StC A w I s c) : StC A' w' I' s c := by
  obtain ⟨e, d, l, p, y, r, rfl, h1, h2, h3, h4, h5, h6⟩ := h
  exact ⟨e, d, l, p, y, r, rfl, h1.carry k, h2.carry k, h3.carry k, h4.carry k, h5.carry k, h6.carry k hI⟩
theorem IsStates.carry (k : Keep A A' w w') : ∀ (n : Nat) (l : List (St n)) (v : Value), IsStates A w n l v → IsStates A' w' n l v := by
  intro n
  induction n with
  | zero => intro l v h; exact h
  | succ n ih => intro l v h; obtain ⟨xs, hr, hs⟩ := h; exact ⟨xs, hr.carry k, hs.map (StC.carry k ih)⟩
theorem IsVars.carry (k : Keep A A' w w') {l : List Decl} {v : Value} (h : IsVars A w l v) : IsVars A' w' l v := by
  obtain ⟨xs, hr, hs⟩ := h; exact ⟨xs, hr.carry k, hs⟩
end

/-- all old blocks below B but those of X are as they were -/
structure Fr (B : Nat) (X : List Nat) (w w' : World) : Prop where
  os : w'.os = w.os
  tape : w'.tape = w.tape
  output : w'.output = w.output
  size : w.heap.size ≤ w'.heap.size
  block : ∀ k, k < B → k ∉ X → w'.heap[k]? = w.heap[k]?
theorem Fr.refl (B : Nat) (X : List Nat) (w : World) : Fr B X w w := ⟨rfl, rfl, rfl, Nat.le_refl _, fun _ _ _ => rfl⟩
theorem Fr.trans {B : Nat} {X : List Nat} {a b c : World} (h : Fr B X a b) (k : Fr B X b c) : Fr B X a c :=
  ⟨k.os.trans h.os, k.tape.trans h.tape, k.output.trans h.output, Nat.le_trans h.size k.size, fun i hi hx => (k.block i hi hx).trans (h.block i hi hx)⟩
theorem Fr.mono {B B' : Nat} {X X' : List Nat} {w w' : World} (h : Fr B X w w') (hB : B' ≤ B) (hX : ∀ x ∈ X, x < B' → x ∈ X') : Fr B' X' w w' :=
  ⟨h.os, h.tape, h.output, h.size, fun k hk hx => h.block k (by omega) (fun hm => hx (hX k hm hk))⟩
theorem Fr.of_below {B : Nat} {w w' : World} (h : Below B w w') (X : List Nat) : Fr B X w w' := ⟨h.os, h.tape, h.output, h.size, fun k hk _ => h.block k hk⟩
theorem Fr.below {B : Nat} {w w' : World} (h : Fr B [] w w') : Below B w w' := ⟨h.os, h.tape, h.output, h.size, fun k hk => h.block k hk (by simp)⟩
theorem Fr.alloc {B : Nat} {X : List Nat} {a w : World} (h : Fr B X a w) (hB : B ≤ w.heap.size) (o : Obj) : Fr B X a (w.alloc o) :=
  h.trans ⟨rfl, rfl, rfl, by simp, fun k hk _ => Below.heap_alloc _ _ _ (by omega)⟩
theorem Fr.setCell {B : Nat} {X : List Nat} {a w : World} (h : Fr B X a w) {p : Addr} (hp : B ≤ p.block ∨ p.block ∈ X) (u : Value) : Fr B X a (w.setCell p u) :=
  h.trans ⟨rfl, rfl, rfl, by simp [World.setCell], fun k hk hx => Below.heap_setCell _ _ _ _ (fun e => by rcases hp with hp | hp; omega; exact hx (e ▸ hp))⟩
theorem Fr.drew {B : Nat} {X : List Nat} {a w : World} (h : Fr B X a w) : Fr B X a w.drew := ⟨h.os, h.tape, h.output, h.size, h.block⟩
theorem Fr.drewN {B : Nat} {X : List Nat} {a w : World} (h : Fr B X a w) (n : Nat) : Fr B X a (w.drewN n) := h.trans ⟨rfl, rfl, rfl, Nat.le_refl _, fun _ _ _ => rfl⟩
theorem Fr.grown {B : Nat} {X : List Nat} {a w w' : World} {row : Option Nat} (h : Fr B X a w) (hg : w.grownBy w' row) (hB : B ≤ w.heap.size) (hr : ∀ k, row = some k → B ≤ k ∨ k ∈ X) : Fr B X a w' :=
  h.trans ⟨hg.os, hg.tape, hg.output, hg.size, fun k hk hx => hg.block k (by omega) (fun e => by rcases hr k e.symm with h | h; omega; exact hx h)⟩
theorem Fr.cell {B : Nat} {X : List Nat} {w w' : World} (h : Fr B X w w') {p : Addr} (hp : p.block < B) (hx : p.block ∉ X) : w'.cell? p = w.cell? p := World.cell?_of_block (w := w) (h.block p.block hp hx)
/-- what lies above x, outside X, stays -/
theorem Fr.keep {X : List Nat} {w w' : World} {A : Nat → Prop} (h : Fr w.heap.size X w w') (hA : ∀ b, A b → b ∉ X) : Keep A A w w' := fun b ha hb => ⟨ha, h.block b hb (hA b ha)⟩
end Go.Proofs.YtobamalnbjbmiaaGreatDoor
/- What lies in memory row by row, opened: an address is a letter, whether there is one or none; what an index tells. -/
namespace Go.Proofs.YtobamalnbjbmiaaGreatDoor
open Go.RowKit Px

theorem cell_row {w : World} {g T : Nat} {cs : Array Value} (h : w.heap[g]? = some (.cells cs T (0, 0))) (j : Nat) {u : Value} (hj : cs[j]? = some u) : w.cell? ⟨g, j, none⟩ = some u := by
  simp [World.cell?, h, hj]
theorem ck_new (w : World) (o : Obj) : (w.alloc o).heap[w.heap.size]? = some o := heap_alloc_new w o
theorem ck_old {w : World} {b : Nat} {o o' : Obj} (h : w.heap[b]? = some o) : (w.alloc o').heap[b]? = some o := by
  rw [Below.heap_alloc _ _ _ (lt_of_block h)]; exact h
theorem ck_grown (w : World) (o : Obj) : Below w.heap.size w (w.alloc o) := (Below.refl _ _).alloc (Nat.le_refl _) _
theorem ck_all {w w' w'' : World} (h : Below w.heap.size w w') (k : Below w'.heap.size w' w'') : Below w.heap.size w w'' := h.trans (k.mono h.size)
theorem ck_cell {w w' : World} (h : Below w.heap.size w w') {a : Addr} {v : Value} (hc : w.cell? a = some v) : w'.cell? a = some v := by
  rw [h.cell (World.block_lt_of_cell? w a hc)]; exact hc
theorem ck_block {w w' : World} (h : Below w.heap.size w w') {b : Nat} {o : Obj} (hb : w.heap[b]? = some o) : w'.heap[b]? = some o := by
  rw [h.block b (lt_of_block hb)]; exact hb

/-- a row of records: its address, and each record's cells -/
theorem Row.open {α : Type} {R : α → List Value → Prop} {A : Nat → Prop} {w : World} {e k : Nat} {v : Value} {l : List α} {xs : List Value} (hk : ∀ a c, R a c → c.length = k) (hr : Row A w e k v l.length xs) (hs : Rows R l xs) :
    ∃ ad g cap, v = .slice ad l.length cap ∧ l.length ≤ maxLen ∧ (0 < l.length → ad = some ⟨g, 0, none⟩ ∧ A g ∧ g < w.heap.size) ∧ ∀ (i : Nat) (a : α), l[i]? = some a → ∃ c, R a c ∧ ∀ (j : Nat) (u : Value), c[j]? = some u → w.cell? ⟨g, i * k + j, none⟩ = some u := by
  have hc := fun g hg => World.ownsRow.cells hr.1 (g := g) hg
  have hl := fun g hg => World.ownsRow.lt hr.1 g hg
  have hA := hr.2
  rcases hr.1.2 with ⟨rfl, h0⟩ | ⟨g, cap, cur, rfl, _, _, h2, h3, _⟩
  · have : l = [] := List.length_eq_zero_iff.1 h0
    subst this
    exact ⟨none, 0, 0, rfl, Nat.zero_le _, fun h => absurd h (by simp), fun i a h => absurd h (by simp)⟩
  · refine ⟨_, g, cap, rfl, by omega, fun _ => ⟨rfl, hA g rfl, (hl g rfl).2⟩, fun i a hi => ?_⟩
    obtain ⟨c, hc', hx⟩ := Rows.get hk hs i a hi
    refine ⟨c, hc', fun j u hj => ?_⟩
    have h1 := hc g rfl _ u (hx j u hj)
    have ad : (⟨g, 0, none⟩ : Addr).add (i * k + j) = ⟨g, i * k + j, none⟩ := by unfold Addr.add; split <;> simp_all
    rw [ad] at h1
    exact h1

theorem ixV (ad : Option Addr) (g n cap k : Nat) (hk : k < n) (ha : 0 < n → ad = some ⟨g, 0, none⟩) (w : World) : (Instr.indexAt 23 (.slice ad n cap) (.int .i64 (k : Int))).run Tryz.prog w = .ok (.pointer (some ⟨g, k * 3, none⟩)) w := by
  obtain rfl := ha (by omega)
  rw [run_indexAt_slice _ _ _ _ _ _ _ (by kernel_rfl), if_pos ⟨by omega, by omega⟩]
  have e : (sizeOf (Tryz.prog.elem 23)).run Tryz.prog w = .ok 3 w := by kernel_rfl
  rw [e]
  simp [Result.andThen, Addr.add]
  try (intro h; exact h.symm)
theorem ixT (ad : Option Addr) (g n cap k : Nat) (hk : k < n) (ha : 0 < n → ad = some ⟨g, 0, none⟩) (w : World) : (Instr.indexAt 66 (.slice ad n cap) (.int .i64 (k : Int))).run Tryz.prog w = .ok (.pointer (some ⟨g, k * 9, none⟩)) w := by
  obtain rfl := ha (by omega)
  rw [run_indexAt_slice _ _ _ _ _ _ _ (by kernel_rfl), if_pos ⟨by omega, by omega⟩]
  have e : (sizeOf (Tryz.prog.elem 66)).run Tryz.prog w = .ok 9 w := by kernel_rfl
  rw [e]
  simp [Result.andThen, Addr.add]
  try (intro h; exact h.symm)
theorem ixS (ad : Option Addr) (g n cap k : Nat) (hk : k < n) (ha : 0 < n → ad = some ⟨g, 0, none⟩) (w : World) : (Instr.indexAt 62 (.slice ad n cap) (.int .i64 (k : Int))).run Tryz.prog w = .ok (.pointer (some ⟨g, k * 2, none⟩)) w := by
  obtain rfl := ha (by omega)
  rw [run_indexAt_slice _ _ _ _ _ _ _ (by kernel_rfl), if_pos ⟨by omega, by omega⟩]
  have e : (sizeOf (Tryz.prog.elem 62)).run Tryz.prog w = .ok 2 w := by kernel_rfl
  rw [e]
  simp [Result.andThen, Addr.add]
  try (intro h; exact h.symm)
theorem ixW (ad : Option Addr) (g n cap k : Nat) (hk : k < n) (ha : 0 < n → ad = some ⟨g, 0, none⟩) (w : World) : (Instr.indexAt 63 (.slice ad n cap) (.int .i64 (k : Int))).run Tryz.prog w = .ok (.pointer (some ⟨g, k * 7, none⟩)) w := by
  obtain rfl := ha (by omega)
  rw [run_indexAt_slice _ _ _ _ _ _ _ (by kernel_rfl), if_pos ⟨by omega, by omega⟩]
  have e : (sizeOf (Tryz.prog.elem 63)).run Tryz.prog w = .ok 7 w := by kernel_rfl
  rw [e]
  simp [Result.andThen, Addr.add]
  try (intro h; exact h.symm)
theorem ixR (ad : Option Addr) (g n cap k : Nat) (hk : k < n) (ha : 0 < n → ad = some ⟨g, 0, none⟩) (w : World) : (Instr.indexAt 24 (.slice ad n cap) (.int .i64 (k : Int))).run Tryz.prog w = .ok (.pointer (some ⟨g, k, none⟩)) w := by
  obtain rfl := ha (by omega)
  rw [run_indexAt_slice _ _ _ _ _ _ _ (by kernel_rfl), if_pos ⟨by omega, by omega⟩]
  have e : (sizeOf (Tryz.prog.elem 24)).run Tryz.prog w = .ok 1 w := by kernel_rfl
  rw [e]
  simp [Result.andThen, Addr.add]
  try (intro h; exact h.symm)
theorem ixI (ad : Option Addr) (g n cap k : Nat) (hk : k < n) (ha : 0 < n → ad = some ⟨g, 0, none⟩) (w : World) : (Instr.indexAt 186 (.slice ad n cap) (.int .i64 (k : Int))).run Tryz.prog w = .ok (.pointer (some ⟨g, k, none⟩)) w := by
  obtain rfl := ha (by omega)
  rw [run_indexAt_slice _ _ _ _ _ _ _ (by kernel_rfl), if_pos ⟨by omega, by omega⟩]
  have e : (sizeOf (Tryz.prog.elem 186)).run Tryz.prog w = .ok 1 w := by kernel_rfl
  rw [e]
  simp [Result.andThen, Addr.add]
  try (intro h; exact h.symm)
end Go.Proofs.YtobamalnbjbmiaaGreatDoor
