/- Rows that grow beside each other, and what lies in them. -/
import Derived.Test.YtobamalnbjbmiaaGreatDoorQPway
namespace Go.Proofs.YtobamalnbjbmiaaGreatDoor
open Go.RowKit Px

/-- a row that grows: its records' type, their size, how many, the slice, the cells; what is said of them -/
structure Slot where
  t : Nat
  sz : Nat
  n : Nat
  v : Value
  xs : List Value
  P : (Nat → Prop) → World → Prop
def Nots (B : Nat) (ss : List Slot) (b : Nat) : Prop := B ≤ b ∧ ∀ s ∈ ss, s.v.ownBlock ≠ some b
structure Good (B : Nat) (w : World) (ss : List Slot) : Prop where
  own : ∀ s ∈ ss, w.ownsRow B s.t s.sz s.v s.n s.xs
  apart : ss.Pairwise (fun a b => ∀ g, a.v.ownBlock = some g → b.v.ownBlock ≠ some g)
  has : ∀ s ∈ ss, s.P (Nots B ss) w
def Carries (ss : List Slot) : Prop := ∀ s ∈ ss, ∀ (A A' : Nat → Prop) (w w' : World), Keep A A' w w' → s.P A w → s.P A' w'
theorem keepNots {B : Nat} {ss : List Slot} {X : List Nat} {w w' : World} (hX : ∀ x ∈ X, x < B) (hf : Fr w.heap.size X w w') : Keep (Nots B ss) (Nots B ss) w w' := hf.keep (fun b hb hm => by have := hX b hm; have := hb.1; omega)
theorem Good.carry {B : Nat} {ss : List Slot} {X : List Nat} {w w' : World} (h : Good B w ss) (hc : Carries ss) (hX : ∀ x ∈ X, x < B) (hf : Fr w.heap.size X w w') : Good B w' ss :=
  ⟨fun s hs => ownX (h.own s hs) hX hf, h.apart, fun s hs => hc s hs _ _ _ _ (keepNots hX hf) (h.has s hs)⟩
section
variable {B : Nat} {w w2 : World} {l1 l2 : List Slot} {s s' : Slot}
/-- what lay in the rows lies there, behind a growth of one of them -/
theorem keepGrow (hg : w.grownBy w2 s.v.ownBlock) (hat : s'.v.ownBlock = s.v.ownBlock ∨ s'.v.ownBlock = some w.heap.size) : Keep (Nots B (l1 ++ s :: l2)) (Nots B (l1 ++ s' :: l2)) w w2 := fun b hb hlt => by
  refine ⟨⟨hb.1, fun x hx => ?_⟩, hg.block b hlt (fun e => hb.2 s (by simp) e.symm)⟩
  simp only [List.mem_append, List.mem_cons] at hx
  rcases hx with hx | rfl | hx
  · exact hb.2 x (by simp [hx])
  · rcases hat with e | e
    · rw [e]; exact hb.2 s (by simp)
    · rw [e]; intro e2; injection e2 with e2; omega
  · exact hb.2 x (by simp [hx])
/-- what is new lies in no row -/
theorem keepNew {n : Nat} (h : Good B w (l1 ++ s :: l2)) (hn : ∀ x ∈ l1 ++ s :: l2, ∀ g, x.v.ownBlock = some g → g < n) (hB : B ≤ n) (hg : w.grownBy w2 s.v.ownBlock) (hat : s'.v.ownBlock = s.v.ownBlock ∨ s'.v.ownBlock = some w.heap.size) : Keep (Ge n) (Nots B (l1 ++ s' :: l2)) w w2 := fun b hb hlt => by
  have _ := h.own
  refine keepGrow hg hat b ⟨Nat.le_trans hB hb, fun x hx e => ?_⟩ hlt
  have := hn x hx b e
  simp [Ge] at hb; omega
theorem Good.grow (h : Good B w (l1 ++ s :: l2)) (hc : Carries (l1 ++ s :: l2)) (hg : w.grownBy w2 s.v.ownBlock) (hat : s'.v.ownBlock = s.v.ownBlock ∨ s'.v.ownBlock = some w.heap.size)
    (hown : w2.ownsRow B s'.t s'.sz s'.v s'.n s'.xs) (hP : s'.P (Nots B (l1 ++ s' :: l2)) w2) : Good B w2 (l1 ++ s' :: l2) := by
  have hap := List.pairwise_append.1 h.apart
  have hap2 := List.pairwise_cons.1 hap.2.1
  have hlt : ∀ x ∈ l1 ++ s :: l2, ∀ g, x.v.ownBlock = some g → g < w.heap.size := fun x hx g hg => ((h.own x hx).lt g hg).2
  have hdis : ∀ x, x ∈ l1 ∨ x ∈ l2 → ∀ g, x.v.ownBlock = some g → s.v.ownBlock ≠ some g := by
    rintro x (hx | hx) g hxg
    · exact hap.2.2 x hx s (by simp) g hxg
    · intro e; exact hap2.1 x hx g e hxg
  have hdis' : ∀ x, x ∈ l1 ∨ x ∈ l2 → ∀ g, x.v.ownBlock = some g → s'.v.ownBlock ≠ some g := by
    intro x hx g hxg
    rcases hat with e | e
    · rw [e]; exact hdis x hx g hxg
    · rw [e]; intro e2; injection e2 with e2
      have := hlt x (by rcases hx with hx | hx <;> simp [hx]) g hxg
      omega
  have kept : ∀ x, x ∈ l1 ∨ x ∈ l2 → w2.ownsRow B x.t x.sz x.v x.n x.xs := fun x hx =>
    (h.own x (by rcases hx with hx | hx <;> simp [hx])).kept hg (by
      cases hv : x.v.ownBlock with
      | none => exact .inl rfl
      | some g => exact .inr (fun e => hdis x hx g hv e.symm))
  refine ⟨fun x hx => ?_, ?_, fun x hx => ?_⟩
  · simp only [List.mem_append, List.mem_cons] at hx
    rcases hx with hx | rfl | hx
    · exact kept x (.inl hx)
    · exact hown
    · exact kept x (.inr hx)
  · refine List.pairwise_append.2 ⟨hap.1, List.pairwise_cons.2 ⟨fun x hx g hg1 hg2 => hdis' x (.inr hx) g hg2 hg1, hap2.2⟩, fun x hx y hy g hg1 => ?_⟩
    rcases List.mem_cons.1 hy with rfl | hy
    · exact hdis' x (.inl hx) g hg1
    · exact hap.2.2 x hx y (by simp [hy]) g hg1
  · simp only [List.mem_append, List.mem_cons] at hx
    rcases hx with hx | rfl | hx
    · exact hc x (by simp [hx]) _ _ _ _ (keepGrow hg hat) (h.has x (by simp [hx]))
    · exact hP
    · exact hc x (by simp [hx]) _ _ _ _ (keepGrow hg hat) (h.has x (by simp [hx]))
/-- nothing grows, something is said anew -/
theorem Good.swap (h : Good B w (l1 ++ s :: l2)) (hv : s'.v = s.v) (hown : w.ownsRow B s'.t s'.sz s'.v s'.n s'.xs) (hP : s'.P (Nots B (l1 ++ s' :: l2)) w) (hc : Carries (l1 ++ s :: l2)) : Good B w (l1 ++ s' :: l2) :=
  h.grow hc ⟨rfl, rfl, rfl, Nat.le_refl _, fun _ _ _ => rfl⟩ (.inl (by rw [hv])) hown hP
end
theorem Good.block {B : Nat} {w : World} {ss : List Slot} (h : Good B w ss) : ∀ x ∈ ss, ∀ g, x.v.ownBlock = some g → B ≤ g ∧ g < w.heap.size := fun x hx g hg => (h.own x hx).lt g hg

/-- the slots of a state -/
def sSet (l : List Asg) (v : Value) (xs : List Value) : Slot := ⟨174, 2, l.length, v, xs, fun A w => Rows (SetC A w) l xs⟩
def sWay (l : List Wy) (v : Value) (xs : List Value) : Slot := ⟨93, 7, l.length, v, xs, fun A w => Rows (WayC A w) l xs⟩
def sReg (k : Nat) (l : List (List (St k))) (v : Value) (xs : List Value) : Slot := ⟨66, 1, l.length, v, xs, fun A w => Rows (RegC (IsStates A w k)) l xs⟩
def sExp (e : E) (p : Value) : Slot := ⟨61, 1, 0, .slice none 0 0, [], fun A w => IsE A w e p⟩
def sDecl (l : List Decl) (v : Value) (xs : List Value) : Slot := ⟨53, 3, l.length, v, xs, fun _ _ => Rows DeclC l xs⟩
def sSt (k : Nat) (l : List (StF (St k))) (v : Value) (xs : List Value) : Slot := ⟨65, 9, l.length, v, xs, fun A w => Rows (StC A w (IsStates A w k)) l xs⟩
section
variable {A A' : Nat → Prop} {w w' : World}
theorem cSet (k : Keep A A' w w') (l : List Asg) (v : Value) (xs : List Value) : (sSet l v xs).P A w → (sSet l v xs).P A' w' := fun h => h.map (SetC.carry k)
theorem cWay (k : Keep A A' w w') (l : List Wy) (v : Value) (xs : List Value) : (sWay l v xs).P A w → (sWay l v xs).P A' w' := fun h => h.map (WayC.carry k)
theorem cReg (k : Keep A A' w w') (n : Nat) (l : List (List (St n))) (v : Value) (xs : List Value) : (sReg n l v xs).P A w → (sReg n l v xs).P A' w' := fun h => h.map (fun _ _ ⟨u, hc, hu⟩ => ⟨u, hc, IsStates.carry k n _ _ hu⟩)
theorem cExp (k : Keep A A' w w') (e : E) (p : Value) : (sExp e p).P A w → (sExp e p).P A' w' := fun h => h.carry k
theorem cSt (k : Keep A A' w w') (n : Nat) (l : List (StF (St n))) (v : Value) (xs : List Value) : (sSt n l v xs).P A w → (sSt n l v xs).P A' w' := fun h => h.map (StC.carry k (IsStates.carry k n))
end
def stSlots (k : Nat) (s : StF (St k)) (e d l p y r : Value) (xe xd xl xy xr : List Value) : List Slot := [sSet s.enter e xe, sSet s.during d xd, sSet s.leave l xl, sExp s.rests p, sWay s.ways y xy, sReg k s.regions r xr]
theorem stCarries (k : Nat) (s : StF (St k)) (e d l p y r : Value) (xe xd xl xy xr : List Value) : Carries (stSlots k s e d l p y r xe xd xl xy xr) := by
  intro x hx A A' w w' kp
  simp only [stSlots, List.mem_cons, List.not_mem_nil, or_false] at hx
  rcases hx with rfl | rfl | rfl | rfl | rfl | rfl
  · exact cSet kp _ _ _
  · exact cSet kp _ _ _
  · exact cSet kp _ _ _
  · exact cExp kp _ _
  · exact cWay kp _ _ _
  · exact cReg kp _ _ _ _
abbrev stA (s : Str) (fi la : Bool) (e d l p y r : Value) : Array Value := #[sv s, .bool fi, .bool la, e, d, l, p, y, r]
/-- a state that is being read: where it lies -/
structure SU (k B sb : Nat) (w : World) (s : StF (St k)) (e d l p y r : Value) (xe xd xl xy xr : List Value) : Prop where
  at_ : w.heap[sb]? = some (.cells (stA s.name s.first s.last e d l p y r) 65 (0, 0))
  good : Good B w (stSlots k s e d l p y r xe xd xl xy xr)
/-- a state that has been read -/
theorem SU.done {k B sb : Nat} {w : World} {s : StF (St k)} {e d l p y r : Value} {xe xd xl xy xr : List Value} (h : SU k B sb w s e d l p y r xe xd xl xy xr) : StC (Ge B) w (IsStates (Ge B) w k) s (stA s.name s.first s.last e d l p y r).toList := by
  have kp : Keep (Nots B (stSlots k s e d l p y r xe xd xl xy xr)) (Ge B) w w := fun b hb _ => ⟨hb.1, rfl⟩
  have o := h.good.own
  have hs := h.good.has
  have ow : ∀ x ∈ stSlots k s e d l p y r xe xd xl xy xr, Row (Ge B) w x.t x.sz x.v x.n x.xs := fun x hx => ⟨own_base0 (o x hx), fun g hg => ((o x hx).lt g hg).1⟩
  refine ⟨e, d, l, p, y, r, rfl, ⟨xe, ow (sSet s.enter e xe) (by simp [stSlots]), cSet kp _ _ _ (hs (sSet s.enter e xe) (by simp [stSlots]))⟩, ⟨xd, ow (sSet s.during d xd) (by simp [stSlots]), cSet kp _ _ _ (hs (sSet s.during d xd) (by simp [stSlots]))⟩, ⟨xl, ow (sSet s.leave l xl) (by simp [stSlots]), cSet kp _ _ _ (hs (sSet s.leave l xl) (by simp [stSlots]))⟩, cExp kp _ _ (hs (sExp s.rests p) (by simp [stSlots])), ⟨xy, ow (sWay s.ways y xy) (by simp [stSlots]), cWay kp _ _ _ (hs (sWay s.ways y xy) (by simp [stSlots]))⟩, ⟨xr, ow (sReg k s.regions r xr) (by simp [stSlots]), cReg kp _ _ _ _ (hs (sReg k s.regions r xr) (by simp [stSlots]))⟩⟩
theorem SU.carry {k B sb : Nat} {X : List Nat} {w w' : World} {s : StF (St k)} {e d l p y r : Value} {xe xd xl xy xr : List Value} (h : SU k B sb w s e d l p y r xe xd xl xy xr) (hX : ∀ x ∈ X, x < B) (hs : sb ∉ X) (hf : Fr w.heap.size X w w') : SU k B sb w' s e d l p y r xe xd xl xy xr :=
  ⟨by rw [hf.block sb (lt_of_block h.at_) hs]; exact h.at_, h.good.carry (stCarries _ _ _ _ _ _ _ _ _ _ _ _ _) hX hf⟩
end Go.Proofs.YtobamalnbjbmiaaGreatDoor
/- A state that is being read grows. -/
namespace Go.Proofs.YtobamalnbjbmiaaGreatDoor
open Go.RowKit Px

theorem one_two {a b n : Nat} : ∀ x ∈ [a], x < n → x ∈ [a, b] := fun _ hx _ => List.mem_cons.2 (.inl (List.mem_singleton.1 hx))
theorem SU.lts {k B sb : Nat} {w : World} {s : StF (St k)} {e d l p y r : Value} {xe xd xl xy xr : List Value} (h : SU k B sb w s e d l p y r xe xd xl xy xr) : ∀ x ∈ stSlots k s e d l p y r xe xd xl xy xr, ∀ g, x.v.ownBlock = some g → g < w.heap.size := fun x hx g hg => (h.good.block x hx g hg).2

theorem SU.grow_enter {k B sb n : Nat} {w4 w5 : World} {s : StF (St k)} {e d l p y r v' : Value} {xe xd xl xy xr cs : List Value} {m : List Asg} (h : SU k B sb w4 s e d l p y r xe xd xl xy xr) (hsb : sb < B) (hB : B ≤ n) (hn : ∀ x ∈ stSlots k s e d l p y r xe xd xl xy xr, ∀ g, x.v.ownBlock = some g → g < n)
    (ha : Rows (SetC (Ge n) w4) m cs) (hown : w5.ownsRow B 174 2 v' ((s.enter ++ m).length) (xe ++ cs)) (hg : w4.grownBy w5 e.ownBlock) (hat : v'.ownBlock = e.ownBlock ∨ v'.ownBlock = some w4.heap.size) :
    SU k B sb (w5.setCell ⟨sb, 3, none⟩ v') { s with enter := s.enter ++ m } v' d l p y r (xe ++ cs) xd xl xy xr := by
  have hgd : Good B w4 ([] ++ (sSet s.enter e xe) :: [sSet s.during d xd, sSet s.leave l xl, sExp s.rests p, sWay s.ways y xy, sReg k s.regions r xr]) := h.good
  have hc : Carries ([] ++ (sSet s.enter e xe) :: [sSet s.during d xd, sSet s.leave l xl, sExp s.rests p, sWay s.ways y xy, sReg k s.regions r xr]) := stCarries k s e d l p y r xe xd xl xy xr
  have kN := keepNew (s' := sSet (s.enter ++ m) v' (xe ++ cs)) hgd hn hB hg hat
  have hold := cSet (keepGrow (B := B) (l1 := []) (l2 := [sSet s.during d xd, sSet s.leave l xl, sExp s.rests p, sWay s.ways y xy, sReg k s.regions r xr]) (s := sSet s.enter e xe) (s' := sSet (s.enter ++ m) v' (xe ++ cs)) hg hat) _ _ _ (hgd.has (sSet s.enter e xe) (by simp))
  have hnew := hgd.grow (s' := sSet (s.enter ++ m) v' (xe ++ cs)) hc hg hat hown (Rows.append hold (ha.map (SetC.carry kN)))
  have hput := fr_put w5 sb 3 v'
  have hsb4 := lt_of_block h.at_
  refine ⟨?_, Good.carry (X := [sb]) hnew (stCarries k { s with enter := s.enter ++ m } v' d l p y r (xe ++ cs) xd xl xy xr) (by simp; exact hsb) hput⟩
  have hat5 : w5.heap[sb]? = some (.cells (stA s.name s.first s.last e d l p y r) 65 (0, 0)) := by
    rw [hg.block sb hsb4 (fun e1 => by have := ((h.good.own (sSet s.enter e xe) (by simp [stSlots])).lt sb e1.symm).1; omega)]; exact h.at_
  rw [heap_setCell_same w5 sb 3 _ 65 _ hat5]; rfl

theorem SU.grow_during {k B sb n : Nat} {w4 w5 : World} {s : StF (St k)} {e d l p y r v' : Value} {xe xd xl xy xr cs : List Value} {m : List Asg} (h : SU k B sb w4 s e d l p y r xe xd xl xy xr) (hsb : sb < B) (hB : B ≤ n) (hn : ∀ x ∈ stSlots k s e d l p y r xe xd xl xy xr, ∀ g, x.v.ownBlock = some g → g < n)
    (ha : Rows (SetC (Ge n) w4) m cs) (hown : w5.ownsRow B 174 2 v' ((s.during ++ m).length) (xd ++ cs)) (hg : w4.grownBy w5 d.ownBlock) (hat : v'.ownBlock = d.ownBlock ∨ v'.ownBlock = some w4.heap.size) :
    SU k B sb (w5.setCell ⟨sb, 4, none⟩ v') { s with during := s.during ++ m } e v' l p y r xe (xd ++ cs) xl xy xr := by
  have hgd : Good B w4 ([sSet s.enter e xe] ++ (sSet s.during d xd) :: [sSet s.leave l xl, sExp s.rests p, sWay s.ways y xy, sReg k s.regions r xr]) := h.good
  have hc : Carries ([sSet s.enter e xe] ++ (sSet s.during d xd) :: [sSet s.leave l xl, sExp s.rests p, sWay s.ways y xy, sReg k s.regions r xr]) := stCarries k s e d l p y r xe xd xl xy xr
  have kN := keepNew (s' := sSet (s.during ++ m) v' (xd ++ cs)) hgd hn hB hg hat
  have hold := cSet (keepGrow (B := B) (l1 := [sSet s.enter e xe]) (l2 := [sSet s.leave l xl, sExp s.rests p, sWay s.ways y xy, sReg k s.regions r xr]) (s := sSet s.during d xd) (s' := sSet (s.during ++ m) v' (xd ++ cs)) hg hat) _ _ _ (hgd.has (sSet s.during d xd) (by simp))
  have hnew := hgd.grow (s' := sSet (s.during ++ m) v' (xd ++ cs)) hc hg hat hown (Rows.append hold (ha.map (SetC.carry kN)))
  have hput := fr_put w5 sb 4 v'
  have hsb4 := lt_of_block h.at_
  refine ⟨?_, Good.carry (X := [sb]) hnew (stCarries k { s with during := s.during ++ m } e v' l p y r xe (xd ++ cs) xl xy xr) (by simp; exact hsb) hput⟩
  have hat5 : w5.heap[sb]? = some (.cells (stA s.name s.first s.last e d l p y r) 65 (0, 0)) := by
    rw [hg.block sb hsb4 (fun e1 => by have := ((h.good.own (sSet s.during d xd) (by simp [stSlots])).lt sb e1.symm).1; omega)]; exact h.at_
  rw [heap_setCell_same w5 sb 4 _ 65 _ hat5]; rfl

theorem SU.grow_leave {k B sb n : Nat} {w4 w5 : World} {s : StF (St k)} {e d l p y r v' : Value} {xe xd xl xy xr cs : List Value} {m : List Asg} (h : SU k B sb w4 s e d l p y r xe xd xl xy xr) (hsb : sb < B) (hB : B ≤ n) (hn : ∀ x ∈ stSlots k s e d l p y r xe xd xl xy xr, ∀ g, x.v.ownBlock = some g → g < n)
    (ha : Rows (SetC (Ge n) w4) m cs) (hown : w5.ownsRow B 174 2 v' ((s.leave ++ m).length) (xl ++ cs)) (hg : w4.grownBy w5 l.ownBlock) (hat : v'.ownBlock = l.ownBlock ∨ v'.ownBlock = some w4.heap.size) :
    SU k B sb (w5.setCell ⟨sb, 5, none⟩ v') { s with leave := s.leave ++ m } e d v' p y r xe xd (xl ++ cs) xy xr := by
  have hgd : Good B w4 ([sSet s.enter e xe, sSet s.during d xd] ++ (sSet s.leave l xl) :: [sExp s.rests p, sWay s.ways y xy, sReg k s.regions r xr]) := h.good
  have hc : Carries ([sSet s.enter e xe, sSet s.during d xd] ++ (sSet s.leave l xl) :: [sExp s.rests p, sWay s.ways y xy, sReg k s.regions r xr]) := stCarries k s e d l p y r xe xd xl xy xr
  have kN := keepNew (s' := sSet (s.leave ++ m) v' (xl ++ cs)) hgd hn hB hg hat
  have hold := cSet (keepGrow (B := B) (l1 := [sSet s.enter e xe, sSet s.during d xd]) (l2 := [sExp s.rests p, sWay s.ways y xy, sReg k s.regions r xr]) (s := sSet s.leave l xl) (s' := sSet (s.leave ++ m) v' (xl ++ cs)) hg hat) _ _ _ (hgd.has (sSet s.leave l xl) (by simp))
  have hnew := hgd.grow (s' := sSet (s.leave ++ m) v' (xl ++ cs)) hc hg hat hown (Rows.append hold (ha.map (SetC.carry kN)))
  have hput := fr_put w5 sb 5 v'
  have hsb4 := lt_of_block h.at_
  refine ⟨?_, Good.carry (X := [sb]) hnew (stCarries k { s with leave := s.leave ++ m } e d v' p y r xe xd (xl ++ cs) xy xr) (by simp; exact hsb) hput⟩
  have hat5 : w5.heap[sb]? = some (.cells (stA s.name s.first s.last e d l p y r) 65 (0, 0)) := by
    rw [hg.block sb hsb4 (fun e1 => by have := ((h.good.own (sSet s.leave l xl) (by simp [stSlots])).lt sb e1.symm).1; omega)]; exact h.at_
  rw [heap_setCell_same w5 sb 5 _ 65 _ hat5]; rfl

theorem SU.grow_ways {k B sb n : Nat} {w4 w5 : World} {s : StF (St k)} {e d l p y r v' : Value} {xe xd xl xy xr cs : List Value} {a : Wy} (h : SU k B sb w4 s e d l p y r xe xd xl xy xr) (hsb : sb < B) (hB : B ≤ n) (hn : ∀ x ∈ stSlots k s e d l p y r xe xd xl xy xr, ∀ g, x.v.ownBlock = some g → g < n)
    (ha : WayC (Ge n) w4 a cs) (hown : w5.ownsRow B 93 7 v' ((s.ways ++ [a]).length) (xy ++ cs)) (hg : w4.grownBy w5 y.ownBlock) (hat : v'.ownBlock = y.ownBlock ∨ v'.ownBlock = some w4.heap.size) :
    SU k B sb (w5.setCell ⟨sb, 7, none⟩ v') { s with ways := s.ways ++ [a] } e d l p v' r xe xd xl (xy ++ cs) xr := by
  have hgd : Good B w4 ([sSet s.enter e xe, sSet s.during d xd, sSet s.leave l xl, sExp s.rests p] ++ (sWay s.ways y xy) :: [sReg k s.regions r xr]) := h.good
  have hc : Carries ([sSet s.enter e xe, sSet s.during d xd, sSet s.leave l xl, sExp s.rests p] ++ (sWay s.ways y xy) :: [sReg k s.regions r xr]) := stCarries k s e d l p y r xe xd xl xy xr
  have kN := keepNew (s' := sWay (s.ways ++ [a]) v' (xy ++ cs)) hgd hn hB hg hat
  have hold := cWay (keepGrow (B := B) (l1 := [sSet s.enter e xe, sSet s.during d xd, sSet s.leave l xl, sExp s.rests p]) (l2 := [sReg k s.regions r xr]) (s := sWay s.ways y xy) (s' := sWay (s.ways ++ [a]) v' (xy ++ cs)) hg hat) _ _ _ (hgd.has (sWay s.ways y xy) (by simp))
  have hnew := hgd.grow (s' := sWay (s.ways ++ [a]) v' (xy ++ cs)) hc hg hat hown (Rows.append hold (Rows.one (WayC.carry kN _ _ ha)))
  have hput := fr_put w5 sb 7 v'
  have hsb4 := lt_of_block h.at_
  refine ⟨?_, Good.carry (X := [sb]) hnew (stCarries k { s with ways := s.ways ++ [a] } e d l p v' r xe xd xl (xy ++ cs) xr) (by simp; exact hsb) hput⟩
  have hat5 : w5.heap[sb]? = some (.cells (stA s.name s.first s.last e d l p y r) 65 (0, 0)) := by
    rw [hg.block sb hsb4 (fun e1 => by have := ((h.good.own (sWay s.ways y xy) (by simp [stSlots])).lt sb e1.symm).1; omega)]; exact h.at_
  rw [heap_setCell_same w5 sb 7 _ 65 _ hat5]; rfl

theorem SU.grow_regions {k B sb n : Nat} {w4 w5 : World} {s : StF (St k)} {e d l p y r v' : Value} {xe xd xl xy xr cs : List Value} {a : List (St k)} {u : Value} (h : SU k B sb w4 s e d l p y r xe xd xl xy xr) (hsb : sb < B) (hB : B ≤ n) (hn : ∀ x ∈ stSlots k s e d l p y r xe xd xl xy xr, ∀ g, x.v.ownBlock = some g → g < n)
    (ha : cs = [u] ∧ IsStates (Ge n) w4 k a u) (hown : w5.ownsRow B 66 1 v' ((s.regions ++ [a]).length) (xr ++ cs)) (hg : w4.grownBy w5 r.ownBlock) (hat : v'.ownBlock = r.ownBlock ∨ v'.ownBlock = some w4.heap.size) :
    SU k B sb (w5.setCell ⟨sb, 8, none⟩ v') { s with regions := s.regions ++ [a] } e d l p y v' xe xd xl xy (xr ++ cs) := by
  have hgd : Good B w4 ([sSet s.enter e xe, sSet s.during d xd, sSet s.leave l xl, sExp s.rests p, sWay s.ways y xy] ++ (sReg k s.regions r xr) :: []) := h.good
  have hc : Carries ([sSet s.enter e xe, sSet s.during d xd, sSet s.leave l xl, sExp s.rests p, sWay s.ways y xy] ++ (sReg k s.regions r xr) :: []) := stCarries k s e d l p y r xe xd xl xy xr
  have kN := keepNew (s' := sReg k (s.regions ++ [a]) v' (xr ++ cs)) hgd hn hB hg hat
  have ha2 : RegC (IsStates (Nots B ([sSet s.enter e xe, sSet s.during d xd, sSet s.leave l xl, sExp s.rests p, sWay s.ways y xy] ++ (sReg k (s.regions ++ [a]) v' (xr ++ cs)) :: [])) w5 k) a cs := ⟨u, ha.1, IsStates.carry kN k _ _ ha.2⟩
  have hold := cReg (keepGrow (B := B) (l1 := [sSet s.enter e xe, sSet s.during d xd, sSet s.leave l xl, sExp s.rests p, sWay s.ways y xy]) (l2 := []) (s := sReg k s.regions r xr) (s' := sReg k (s.regions ++ [a]) v' (xr ++ cs)) hg hat) _ _ _ _ (hgd.has (sReg k s.regions r xr) (by simp))
  have hnew := hgd.grow (s' := sReg k (s.regions ++ [a]) v' (xr ++ cs)) hc hg hat hown (Rows.append hold (Rows.one ha2))
  have hput := fr_put w5 sb 8 v'
  have hsb4 := lt_of_block h.at_
  refine ⟨?_, Good.carry (X := [sb]) hnew (stCarries k { s with regions := s.regions ++ [a] } e d l p y v' xe xd xl xy (xr ++ cs)) (by simp; exact hsb) hput⟩
  have hat5 : w5.heap[sb]? = some (.cells (stA s.name s.first s.last e d l p y r) 65 (0, 0)) := by
    rw [hg.block sb hsb4 (fun e1 => by have := ((h.good.own (sReg k s.regions r xr) (by simp [stSlots])).lt sb e1.symm).1; omega)]; exact h.at_
  rw [heap_setCell_same w5 sb 8 _ 65 _ hat5]; rfl

theorem SU.grow_rests {k B sb n : Nat} {w : World} {s : StF (St k)} {e d l p y r p' : Value} {xe xd xl xy xr : List Value} {t : E} (h : SU k B sb w s e d l p y r xe xd xl xy xr) (hsb : sb < B) (hB : B ≤ n) (hn : ∀ x ∈ stSlots k s e d l p y r xe xd xl xy xr, ∀ g, x.v.ownBlock = some g → g < n) (ht : IsE (Ge n) w t p') :
    SU k B sb (w.setCell ⟨sb, 6, none⟩ p') { s with rests := t } e d l p' y r xe xd xl xy xr := by
  have hgd : Good B w ([sSet s.enter e xe, sSet s.during d xd, sSet s.leave l xl] ++ sExp s.rests p :: [sWay s.ways y xy, sReg k s.regions r xr]) := h.good
  have hc : Carries ([sSet s.enter e xe, sSet s.during d xd, sSet s.leave l xl] ++ sExp s.rests p :: [sWay s.ways y xy, sReg k s.regions r xr]) := stCarries k s e d l p y r xe xd xl xy xr
  have kN : Keep (Ge n) (Nots B ([sSet s.enter e xe, sSet s.during d xd, sSet s.leave l xl] ++ sExp t p' :: [sWay s.ways y xy, sReg k s.regions r xr])) w w := keepNew hgd hn hB ⟨rfl, rfl, rfl, Nat.le_refl _, fun _ _ _ => rfl⟩ (.inl rfl)
  have hnew := hgd.swap (s' := sExp t p') rfl (World.ownsRow_nil _ _ _ _) (ht.carry kN) hc
  refine ⟨?_, Good.carry (X := [sb]) hnew (stCarries k { s with rests := t } e d l p' y r xe xd xl xy xr) (by simp; exact hsb) (fr_put w sb 6 p')⟩
  rw [heap_setCell_same w sb 6 _ 65 _ h.at_]; rfl
end Go.Proofs.YtobamalnbjbmiaaGreatDoor
