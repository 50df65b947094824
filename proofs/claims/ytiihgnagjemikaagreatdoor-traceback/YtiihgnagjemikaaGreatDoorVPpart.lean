/- A state that is being read grows. -/
import Derived.Test.YtiihgnagjemikaaGreatDoorVGood
import Derived.Deep.RegionLaw
import Derived.Deep.AppendLies
import Derived.Deep.CutRange
namespace Go.Proofs.YtiihgnagjemikaaGreatDoor
open Go.RowKit Px

theorem one_two {a b n : Nat} : ∀ x ∈ [a], x < n → x ∈ [a, b] := fun _ hx _ => List.mem_cons.2 (.inl (List.mem_singleton.1 hx))
theorem SU.lts {k B sb : Nat} {w : World} {s : StF (St k)} {e d l p y r : Value} {xe xd xl xy xr : List Value} (h : SU k B sb w s e d l p y r xe xd xl xy xr) : ∀ x ∈ stSlots k s e d l p y r xe xd xl xy xr, ∀ g, x.v.ownBlock = some g → g < w.heap.size := fun x hx g hg => (h.good.block x hx g hg).2

theorem SU.grow_enter {k B sb n : Nat} {w4 w5 : World} {s : StF (St k)} {e d l p y r v' : Value} {xe xd xl xy xr cs : List Value} {m : List Asg} (h : SU k B sb w4 s e d l p y r xe xd xl xy xr) (hsb : sb < B) (hB : B ≤ n) (hn : ∀ x ∈ stSlots k s e d l p y r xe xd xl xy xr, ∀ g, x.v.ownBlock = some g → g < n)
    (ha : Rows (SetC (Ge n) w4) m cs) (hown : w5.ownsRow B 203 2 v' ((s.enter ++ m).length) (xe ++ cs)) (hg : w4.grownBy w5 e.ownBlock) (hat : v'.ownBlock = e.ownBlock ∨ v'.ownBlock = some w4.heap.size) :
    SU k B sb (w5.setCell ⟨sb, 3, none⟩ v') { s with enter := s.enter ++ m } v' d l p y r (xe ++ cs) xd xl xy xr := by
  have hgd : Good B w4 ([] ++ (sSet s.enter e xe) :: [sSet s.during d xd, sSet s.leave l xl, sExp s.rests p, sWay s.ways y xy, sReg k s.regions r xr]) := h.good
  have hc : Carries ([] ++ (sSet s.enter e xe) :: [sSet s.during d xd, sSet s.leave l xl, sExp s.rests p, sWay s.ways y xy, sReg k s.regions r xr]) := stCarries k s e d l p y r xe xd xl xy xr
  have kN := keepNew (s' := sSet (s.enter ++ m) v' (xe ++ cs)) hgd hn hB hg hat
  have hold := cSet (keepGrow (B := B) (l1 := []) (l2 := [sSet s.during d xd, sSet s.leave l xl, sExp s.rests p, sWay s.ways y xy, sReg k s.regions r xr]) (s := sSet s.enter e xe) (s' := sSet (s.enter ++ m) v' (xe ++ cs)) hg hat) _ _ _ (hgd.has (sSet s.enter e xe) (by simp))
  have hnew := hgd.grow (s' := sSet (s.enter ++ m) v' (xe ++ cs)) hc hg hat hown (Rows.append hold (ha.map (SetC.carry kN)))
  have hput := fr_put w5 sb 3 v'
  have hsb4 := lt_of_block h.at_
  refine ⟨?_, Good.carry (X := [sb]) hnew (stCarries k { s with enter := s.enter ++ m } v' d l p y r (xe ++ cs) xd xl xy xr) (by simp; exact hsb) hput⟩
  have hat5 : w5.heap[sb]? = some (.cells (stA s.name s.first s.last e d l p y r) 169 (0, 0)) := by
    rw [hg.block sb hsb4 (fun e1 => by have := ((h.good.own (sSet s.enter e xe) (by simp [stSlots])).lt sb e1.symm).1; omega)]; exact h.at_
  rw [heap_setCell_same w5 sb 3 _ 169 _ hat5]; rfl

theorem SU.grow_during {k B sb n : Nat} {w4 w5 : World} {s : StF (St k)} {e d l p y r v' : Value} {xe xd xl xy xr cs : List Value} {m : List Asg} (h : SU k B sb w4 s e d l p y r xe xd xl xy xr) (hsb : sb < B) (hB : B ≤ n) (hn : ∀ x ∈ stSlots k s e d l p y r xe xd xl xy xr, ∀ g, x.v.ownBlock = some g → g < n)
    (ha : Rows (SetC (Ge n) w4) m cs) (hown : w5.ownsRow B 203 2 v' ((s.during ++ m).length) (xd ++ cs)) (hg : w4.grownBy w5 d.ownBlock) (hat : v'.ownBlock = d.ownBlock ∨ v'.ownBlock = some w4.heap.size) :
    SU k B sb (w5.setCell ⟨sb, 4, none⟩ v') { s with during := s.during ++ m } e v' l p y r xe (xd ++ cs) xl xy xr := by
  have hgd : Good B w4 ([sSet s.enter e xe] ++ (sSet s.during d xd) :: [sSet s.leave l xl, sExp s.rests p, sWay s.ways y xy, sReg k s.regions r xr]) := h.good
  have hc : Carries ([sSet s.enter e xe] ++ (sSet s.during d xd) :: [sSet s.leave l xl, sExp s.rests p, sWay s.ways y xy, sReg k s.regions r xr]) := stCarries k s e d l p y r xe xd xl xy xr
  have kN := keepNew (s' := sSet (s.during ++ m) v' (xd ++ cs)) hgd hn hB hg hat
  have hold := cSet (keepGrow (B := B) (l1 := [sSet s.enter e xe]) (l2 := [sSet s.leave l xl, sExp s.rests p, sWay s.ways y xy, sReg k s.regions r xr]) (s := sSet s.during d xd) (s' := sSet (s.during ++ m) v' (xd ++ cs)) hg hat) _ _ _ (hgd.has (sSet s.during d xd) (by simp))
  have hnew := hgd.grow (s' := sSet (s.during ++ m) v' (xd ++ cs)) hc hg hat hown (Rows.append hold (ha.map (SetC.carry kN)))
  have hput := fr_put w5 sb 4 v'
  have hsb4 := lt_of_block h.at_
  refine ⟨?_, Good.carry (X := [sb]) hnew (stCarries k { s with during := s.during ++ m } e v' l p y r xe (xd ++ cs) xl xy xr) (by simp; exact hsb) hput⟩
  have hat5 : w5.heap[sb]? = some (.cells (stA s.name s.first s.last e d l p y r) 169 (0, 0)) := by
    rw [hg.block sb hsb4 (fun e1 => by have := ((h.good.own (sSet s.during d xd) (by simp [stSlots])).lt sb e1.symm).1; omega)]; exact h.at_
  rw [heap_setCell_same w5 sb 4 _ 169 _ hat5]; rfl

theorem SU.grow_leave {k B sb n : Nat} {w4 w5 : World} {s : StF (St k)} {e d l p y r v' : Value} {xe xd xl xy xr cs : List Value} {m : List Asg} (h : SU k B sb w4 s e d l p y r xe xd xl xy xr) (hsb : sb < B) (hB : B ≤ n) (hn : ∀ x ∈ stSlots k s e d l p y r xe xd xl xy xr, ∀ g, x.v.ownBlock = some g → g < n)
    (ha : Rows (SetC (Ge n) w4) m cs) (hown : w5.ownsRow B 203 2 v' ((s.leave ++ m).length) (xl ++ cs)) (hg : w4.grownBy w5 l.ownBlock) (hat : v'.ownBlock = l.ownBlock ∨ v'.ownBlock = some w4.heap.size) :
    SU k B sb (w5.setCell ⟨sb, 5, none⟩ v') { s with leave := s.leave ++ m } e d v' p y r xe xd (xl ++ cs) xy xr := by
  have hgd : Good B w4 ([sSet s.enter e xe, sSet s.during d xd] ++ (sSet s.leave l xl) :: [sExp s.rests p, sWay s.ways y xy, sReg k s.regions r xr]) := h.good
  have hc : Carries ([sSet s.enter e xe, sSet s.during d xd] ++ (sSet s.leave l xl) :: [sExp s.rests p, sWay s.ways y xy, sReg k s.regions r xr]) := stCarries k s e d l p y r xe xd xl xy xr
  have kN := keepNew (s' := sSet (s.leave ++ m) v' (xl ++ cs)) hgd hn hB hg hat
  have hold := cSet (keepGrow (B := B) (l1 := [sSet s.enter e xe, sSet s.during d xd]) (l2 := [sExp s.rests p, sWay s.ways y xy, sReg k s.regions r xr]) (s := sSet s.leave l xl) (s' := sSet (s.leave ++ m) v' (xl ++ cs)) hg hat) _ _ _ (hgd.has (sSet s.leave l xl) (by simp))
  have hnew := hgd.grow (s' := sSet (s.leave ++ m) v' (xl ++ cs)) hc hg hat hown (Rows.append hold (ha.map (SetC.carry kN)))
  have hput := fr_put w5 sb 5 v'
  have hsb4 := lt_of_block h.at_
  refine ⟨?_, Good.carry (X := [sb]) hnew (stCarries k { s with leave := s.leave ++ m } e d v' p y r xe xd (xl ++ cs) xy xr) (by simp; exact hsb) hput⟩
  have hat5 : w5.heap[sb]? = some (.cells (stA s.name s.first s.last e d l p y r) 169 (0, 0)) := by
    rw [hg.block sb hsb4 (fun e1 => by have := ((h.good.own (sSet s.leave l xl) (by simp [stSlots])).lt sb e1.symm).1; omega)]; exact h.at_
  rw [heap_setCell_same w5 sb 5 _ 169 _ hat5]; rfl

theorem SU.grow_ways {k B sb n : Nat} {w4 w5 : World} {s : StF (St k)} {e d l p y r v' : Value} {xe xd xl xy xr cs : List Value} {a : Wy} (h : SU k B sb w4 s e d l p y r xe xd xl xy xr) (hsb : sb < B) (hB : B ≤ n) (hn : ∀ x ∈ stSlots k s e d l p y r xe xd xl xy xr, ∀ g, x.v.ownBlock = some g → g < n)
    (ha : WayC (Ge n) w4 a cs) (hown : w5.ownsRow B 180 7 v' ((s.ways ++ [a]).length) (xy ++ cs)) (hg : w4.grownBy w5 y.ownBlock) (hat : v'.ownBlock = y.ownBlock ∨ v'.ownBlock = some w4.heap.size) :
    SU k B sb (w5.setCell ⟨sb, 7, none⟩ v') { s with ways := s.ways ++ [a] } e d l p v' r xe xd xl (xy ++ cs) xr := by
  have hgd : Good B w4 ([sSet s.enter e xe, sSet s.during d xd, sSet s.leave l xl, sExp s.rests p] ++ (sWay s.ways y xy) :: [sReg k s.regions r xr]) := h.good
  have hc : Carries ([sSet s.enter e xe, sSet s.during d xd, sSet s.leave l xl, sExp s.rests p] ++ (sWay s.ways y xy) :: [sReg k s.regions r xr]) := stCarries k s e d l p y r xe xd xl xy xr
  have kN := keepNew (s' := sWay (s.ways ++ [a]) v' (xy ++ cs)) hgd hn hB hg hat
  have hold := cWay (keepGrow (B := B) (l1 := [sSet s.enter e xe, sSet s.during d xd, sSet s.leave l xl, sExp s.rests p]) (l2 := [sReg k s.regions r xr]) (s := sWay s.ways y xy) (s' := sWay (s.ways ++ [a]) v' (xy ++ cs)) hg hat) _ _ _ (hgd.has (sWay s.ways y xy) (by simp))
  have hnew := hgd.grow (s' := sWay (s.ways ++ [a]) v' (xy ++ cs)) hc hg hat hown (Rows.append hold (Rows.one (WayC.carry kN _ _ ha)))
  have hput := fr_put w5 sb 7 v'
  have hsb4 := lt_of_block h.at_
  refine ⟨?_, Good.carry (X := [sb]) hnew (stCarries k { s with ways := s.ways ++ [a] } e d l p v' r xe xd xl (xy ++ cs) xr) (by simp; exact hsb) hput⟩
  have hat5 : w5.heap[sb]? = some (.cells (stA s.name s.first s.last e d l p y r) 169 (0, 0)) := by
    rw [hg.block sb hsb4 (fun e1 => by have := ((h.good.own (sWay s.ways y xy) (by simp [stSlots])).lt sb e1.symm).1; omega)]; exact h.at_
  rw [heap_setCell_same w5 sb 7 _ 169 _ hat5]; rfl

theorem SU.grow_regions {k B sb n : Nat} {w4 w5 : World} {s : StF (St k)} {e d l p y r v' : Value} {xe xd xl xy xr cs : List Value} {a : List (St k)} {u : Value} (h : SU k B sb w4 s e d l p y r xe xd xl xy xr) (hsb : sb < B) (hB : B ≤ n) (hn : ∀ x ∈ stSlots k s e d l p y r xe xd xl xy xr, ∀ g, x.v.ownBlock = some g → g < n)
    (ha : cs = [u] ∧ IsStates (Ge n) w4 k a u) (hown : w5.ownsRow B 133 1 v' ((s.regions ++ [a]).length) (xr ++ cs)) (hg : w4.grownBy w5 r.ownBlock) (hat : v'.ownBlock = r.ownBlock ∨ v'.ownBlock = some w4.heap.size) :
    SU k B sb (w5.setCell ⟨sb, 8, none⟩ v') { s with regions := s.regions ++ [a] } e d l p y v' xe xd xl xy (xr ++ cs) := by
  have hgd : Good B w4 ([sSet s.enter e xe, sSet s.during d xd, sSet s.leave l xl, sExp s.rests p, sWay s.ways y xy] ++ (sReg k s.regions r xr) :: []) := h.good
  have hc : Carries ([sSet s.enter e xe, sSet s.during d xd, sSet s.leave l xl, sExp s.rests p, sWay s.ways y xy] ++ (sReg k s.regions r xr) :: []) := stCarries k s e d l p y r xe xd xl xy xr
  have kN := keepNew (s' := sReg k (s.regions ++ [a]) v' (xr ++ cs)) hgd hn hB hg hat
  have ha2 : RegC (IsStates (Nots B ([sSet s.enter e xe, sSet s.during d xd, sSet s.leave l xl, sExp s.rests p, sWay s.ways y xy] ++ (sReg k (s.regions ++ [a]) v' (xr ++ cs)) :: [])) w5 k) a cs := ⟨u, ha.1, IsStates.carry kN k _ _ ha.2⟩
  have hold := cReg (keepGrow (B := B) (l1 := [sSet s.enter e xe, sSet s.during d xd, sSet s.leave l xl, sExp s.rests p, sWay s.ways y xy]) (l2 := []) (s := sReg k s.regions r xr) (s' := sReg k (s.regions ++ [a]) v' (xr ++ cs)) hg hat) _ _ _ _ (hgd.has (sReg k s.regions r xr) (by simp))
  have hnew := hgd.grow (s' := sReg k (s.regions ++ [a]) v' (xr ++ cs)) hc hg hat hown (Rows.append hold (Rows.one ha2))
  have hput := fr_put w5 sb 8 v'
  have hsb4 := lt_of_block h.at_
  refine ⟨?_, Good.carry (X := [sb]) hnew (stCarries k { s with regions := s.regions ++ [a] } e d l p y v' xe xd xl xy (xr ++ cs)) (by simp; exact hsb) hput⟩
  have hat5 : w5.heap[sb]? = some (.cells (stA s.name s.first s.last e d l p y r) 169 (0, 0)) := by
    rw [hg.block sb hsb4 (fun e1 => by have := ((h.good.own (sReg k s.regions r xr) (by simp [stSlots])).lt sb e1.symm).1; omega)]; exact h.at_
  rw [heap_setCell_same w5 sb 8 _ 169 _ hat5]; rfl

theorem SU.grow_rests {k B sb n : Nat} {w : World} {s : StF (St k)} {e d l p y r p' : Value} {xe xd xl xy xr : List Value} {t : E} (h : SU k B sb w s e d l p y r xe xd xl xy xr) (hsb : sb < B) (hB : B ≤ n) (hn : ∀ x ∈ stSlots k s e d l p y r xe xd xl xy xr, ∀ g, x.v.ownBlock = some g → g < n) (ht : IsE (Ge n) w t p') :
    SU k B sb (w.setCell ⟨sb, 6, none⟩ p') { s with rests := t } e d l p' y r xe xd xl xy xr := by
  have hgd : Good B w ([sSet s.enter e xe, sSet s.during d xd, sSet s.leave l xl] ++ sExp s.rests p :: [sWay s.ways y xy, sReg k s.regions r xr]) := h.good
  have hc : Carries ([sSet s.enter e xe, sSet s.during d xd, sSet s.leave l xl] ++ sExp s.rests p :: [sWay s.ways y xy, sReg k s.regions r xr]) := stCarries k s e d l p y r xe xd xl xy xr
  have kN : Keep (Ge n) (Nots B ([sSet s.enter e xe, sSet s.during d xd, sSet s.leave l xl] ++ sExp t p' :: [sWay s.ways y xy, sReg k s.regions r xr])) w w := keepNew hgd hn hB ⟨rfl, rfl, rfl, Nat.le_refl _, fun _ _ _ => rfl⟩ (.inl rfl)
  have hnew := hgd.swap (s' := sExp t p') rfl (World.ownsRow_nil _ _ _ _) (ht.carry kN) hc
  refine ⟨?_, Good.carry (X := [sb]) hnew (stCarries k { s with rests := t } e d l p' y r xe xd xl xy xr) (by simp; exact hsb) (fr_put w sb 6 p')⟩
  rw [heap_setCell_same w sb 6 _ 169 _ h.at_]; rfl
end Go.Proofs.YtiihgnagjemikaaGreatDoor
/- part: one of a state. -/
namespace Go.Proofs.YtiihgnagjemikaaGreatDoor
open Go.RowKit Px

def ThrownX (B : Nat) (X : List Nat) (w : World) (f : F) (e : Ending) (w' : World) : Prop :=
  ∃ q, e = .panicked [{ v := .iface 45 (.pointer (some ⟨q, 0, none⟩)), recovered := false }] ∧ w'.heap[q]? = some (.cells #[.int .i64 f.1, .int .i64 f.2] 48 (0, 0)) ∧ w.heap.size ≤ q ∧ Fr B X w w'
theorem Thrown.x {C : Ctx} {B : Nat} {X : List Nat} {w w1 w' : World} {f : F} {e : Ending} (h : Thrown C w1 f e w') (hf : Fr B X w w1) (hB : B ≤ w1.heap.size) (hX : C.rb ∈ X) : ThrownX B X w f e w' := by
  obtain ⟨q, h1, h2, h3, h4⟩ := h
  exact ⟨q, h1, h2, Nat.le_trans hf.size h3, hf.trans (h4.mono hB (by simp; intro _; exact hX))⟩
def OutX (B : Nat) (X : List Nat) {α : Type} (ok : α → Value → World → Prop) (w : World) (r : Except F α) (e : Ending) (w' : World) : Prop :=
  match r with
  | .error f => ThrownX B X w f e w'
  | .ok a => ∃ v, e = .returned v ∧ ok a v w' ∧ Fr B X w w'
/-- each list is no longer than the place -/
structure Bd {ρ : Type} (i : Nat) (s : StF ρ) : Prop where
  e : s.enter.length ≤ i
  d : s.during.length ≤ i
  l : s.leave.length ≤ i
  y : s.ways.length ≤ i
  r : s.regions.length ≤ i
def SUx (k B sb : Nat) (w : World) (s : StF (St k)) : Prop := ∃ e d l p y r xe xd xl xy xr, SU k B sb w s e d l p y r xe xd xl xy xr
def PartOk (C : Ctx) (k B sb ins i c : Nat) (s : StF (St k)) (o : Option (StF (St k) × Nat × Nat)) (v : Value) (w' : World) : Prop :=
  match o with
  | none => v = .bool false ∧ PS C w' i c ins 0 ∧ SUx k B sb w' s
  | some (s', c', j) => v = .bool true ∧ i < j ∧ Bd j s' ∧ PS C w' j c' ins 0 ∧ SUx k B sb w' s'
structure Env (C : Ctx) (B sb : Nat) (w : World) : Prop where
  hrb : C.rb < B
  hsb : sb < B
  hne : C.rb < sb
  hB : B ≤ w.heap.size
theorem leadOf_is {C : Ctx} {w : World} {i st ins und : Nat} (h : PS C w i st ins und) (tb : ByteArray) (o : Option Nat) (ho : Hid (leadOf (bs tb) = o)) : Calls Tryz.prog 134 #[.string tb] w fun e w' => e = .returned (leadV o) ∧ w' = w := by
  refine (leadOf_any tb w h.tab).mono ?_
  rintro e w' ⟨rfl, rfl⟩
  exact ⟨by rw [ho.out], rfl⟩
theorem sets_len {L : List Lx.Tok} : ∀ (f : Nat) (l : List Asg) (i : Nat) (l' : List Asg) (j : Nat), sets L f l i = .ok (l', j) → l'.length + i ≤ j + l.length ∧ l.length ≤ l'.length := by
  intro f
  induction f with
  | zero => intro l i l' j h; rw [sets] at h; injection h with h; injection h with h1 h2; subst h1 h2; exact ⟨by omega, Nat.le_refl _⟩
  | succ f ih =>
    intro l i l' j h
    rw [sets] at h
    split at h
    · exact absurd h (by simp)
    · split at h
      · split at h
        · exact absurd h (by simp)
        · rename_i e m he
          have h1 := expr_lt he
          split at h
          · have := ih _ _ _ _ h
            simp at this; omega
          · injection h with h; injection h with h2 h3; subst h2 h3; simp; omega
      · exact absurd h (by simp)
theorem way_lt {L : List Lx.Tok} {kind i j : Nat} {y : Wy} (h : Hid (way L kind i = .ok (y, j))) : i < j := by
  have ho : ∀ k m, m ≤ opt L k m := fun k m => by unfold opt; split <;> omega
  have h := h.out
  rw [way] at h
  split at h
  · exact absurd h (by simp)
  · rename_i n e j1 hc
    have h1 : opt L kImm i ≤ j1 := by
      rw [Px.cond] at hc
      split at hc
      · split at hc
        · split at hc
          · exact absurd hc (by simp)
          · split at hc
            · exact absurd hc (by simp)
            · rename_i he; have := expr_lt he; injection hc with hc; injection hc with _ hc; injection hc with _ hc; omega
        · split at hc
          · exact absurd hc (by simp)
          · rename_i he; have := expr_lt he; injection hc with hc; injection hc with _ hc; injection hc with _ hc; omega
      · injection hc with hc; injection hc with _ hc; injection hc with _ hc; omega
    split at h
    · exact absurd h (by simp)
    · rename_i l m hd
      have h2 : j1 ≤ m := by
        rw [does] at hd
        split at hd
        · have := sets_len _ _ _ _ _ hd; simp at this; omega
        · injection hd with hd; injection hd with _ hd; omega
      have h3 := ho kImm i
      have h4 := ho kHist (m + 2)
      split at h
      · split at h
        · exact absurd h (by simp)
        · split at h
          · injection h with h; injection h with _ h; omega
          · exact absurd h (by simp)
      · exact absurd h (by simp)
theorem Tryz.info180 : (Tryz.prog.info? 180).map (fun i => (i.zero, i.size, i.bytes)) = some (some (.agg #[.int .i64 0, .bool false, .pointer none, .int .i64 0, .slice none 0 0, .string ⟨#[]⟩, .bool false]), 7, 80) := by kernel_rfl
theorem IsSets.shape {A : Nat → Prop} {w : World} {l : List Asg} {v : Value} (h : IsSets A w l v) : ∃ ao n cap, v = .slice ao n cap := by
  obtain ⟨xs, hr, _⟩ := h
  obtain ⟨ao, cap, rfl⟩ := owns_shape hr.1
  exact ⟨ao, _, cap, rfl⟩

theorem Fr.x {rb sb B n : Nat} {w w' : World} (h : Fr n [rb] w w') (hB : B ≤ n) : Fr B [rb, sb] w w' := h.mono hB one_two
theorem Tryz.info133 : (Tryz.prog.info? 133).map (fun i => (i.zero, i.size, i.bytes)) = some (some (.slice none 0 0), 1, 24) := by kernel_rfl
theorem setRows_one {A : Nat → Prop} {w : World} : ∀ (l : List Asg) (xs : List Value), Rows (SetC A w) l xs → ∀ u ∈ xs, u.oneCell' = true := by
  intro l
  induction l with
  | nil => intro xs h u hu; obtain rfl : xs = [] := h; simp at hu
  | cons a r ih =>
    intro xs h u hu
    obtain ⟨c, ys, rfl, ⟨p, rfl, hp⟩, hr⟩ := h
    simp only [List.cons_append, List.nil_append, List.mem_cons] at hu
    rcases hu with rfl | rfl | hu
    · rfl
    · exact hp.oneCell
    · exact ih _ hr u hu
theorem sets_pos {L : List Lx.Tok} (hL : 0 < L.length) {i j : Nat} {l' : List Asg} (h : sets L L.length [] i = .ok (l', j)) : 0 < l'.length := by
  obtain ⟨f, hf⟩ : ∃ f, L.length = f + 1 := ⟨L.length - 1, by omega⟩
  rw [hf, sets] at h
  split at h
  · exact absurd h (by simp)
  · split at h
    · split at h
      · exact absurd h (by simp)
      · split at h
        · have := (sets_len _ _ _ _ _ h).2; simp at this; omega
        · injection h with h; injection h with h1 h2; subst h1; simp
    · exact absurd h (by simp)
theorem SetsAt.some {B : Nat} {w : World} {l : List Asg} {v : Value} {xs : List Value} (h : SetsAt B w l v xs) (hl : 0 < l.length) : ∃ g cap, v = .slice (some ⟨g, 0, none⟩) l.length cap := by
  rcases h.own.2 with ⟨_, h0⟩ | ⟨g, cap, cur, rfl, _⟩
  · omega
  · exact ⟨g, cap, rfl⟩
theorem semi_need {L : List Lx.Tok} {i : Nat} {a : Unit} (h : Hid (need L kSemi i = .ok a)) : semi L i = .ok (i + 1) := if_pos (need_ok h)
theorem semi_bad {L : List Lx.Tok} {i : Nat} {f : F} (h : Hid (need L kSemi i = .error f)) : semi L i = .error f := by rw [(need_bad h).2]; exact if_neg (need_bad h).1

set_option maxRecDepth 100000 in
set_option maxHeartbeats 8000000 in
theorem part_way {C : Ctx} {k B sb ins i c : Nat} {w : World} {s : StF (St k)} {reg : Nat → Nat → Except F (List (St k) × Nat × Nat)} (h : PS C w i c ins 0) (hE : Env C B sb w) (hS : SUx k B sb w s) (hb : Bd i s) (kd : Nat) (hl : leadOf (tx C.L i) = some kd) : Calls Tryz.prog 120 #[.pointer (some ⟨C.rb, 0, none⟩), .pointer (some ⟨sb, 0, none⟩)] w (OutX B [C.rb, sb] (PartOk C k B sb ins i c s) w (Px.part C.L (St k) reg s c i)) := by
  obtain ⟨i0, hi, hz0, hz1, hz2⟩ := info_parts Tryz.info180
  obtain ⟨e, d, l, p, y, r, xe, xd, xl, xy, xr, hS⟩ := hS
  have hl6 := h.wf.len
  have hil := h.lt
  have hbe := hb.e
  have hbd := hb.d
  have hbl := hb.l
  have hby := hb.y
  have hbr := hb.r
  obtain ⟨hErb, hEsb, hEne, hEB⟩ := hE
  have hEne' : sb ∉ [C.rb] := by simp; omega
  have hX : ∀ x ∈ [C.rb], x < B := by simp; omega
  obtain ⟨tb, htb⟩ : ∃ tb : ByteArray, Hid (bs tb = tx C.L i) := ⟨⟨(tx C.L i).toArray⟩, rfl⟩
  have hoy : w.ownsRow B 180 7 y s.ways.length xy := hS.good.own (sWay s.ways y xy) (by simp [stSlots])
  obtain ⟨ao, cap, rfl⟩ := owns_shape hoy
  have hnx := h.wf.next h.lt (by intro e; rw [e, show leadOf [] = none from by decide] at hl; exact absurd hl (by simp))
  have HL : Hid (leadOf (bs tb) = some kd) := by rw [Hid, htb.out]; exact hl
  have HE : ∀ f, Hid (way C.L kd (i + 1) = .error f) → Hid (Px.part C.L (St k) reg s c i = .error f) := fun f hr => by rw [Hid, Px.part, hl]; simp only; rw [hr.out]
  have HO : ∀ y j, Hid (way C.L kd (i + 1) = .ok (y, j)) → Hid (Px.part C.L (St k) reg s c i = .ok (some ({ s with ways := s.ways ++ [y] }, c, j))) := fun y j hr => by rw [Hid, Px.part, hl]; simp only; rw [hr.out]
  clear hl
  go_enter Tryz.func120, Tryz.ntmps120
  go_wp2_with (first
    | (go_at_call 62; refine (text_is h tb htb).mono ?_; rintro e w1 ⟨rfl, hp1, hf1⟩)
    | (go_at_call 134; refine (leadOf_is hp1 tb _ HL).mono ?_; rintro e w2 ⟨rfl, hw2⟩; obtain rfl := hw2.symm; rw [leadV]; obtain ⟨-, c1, -⟩ := hp1.cells; have z1 := hp1.frozen 1))
  obtain ⟨hp2, hf2⟩ := hp1.step hnx
  have hS2 := (hS.carry (X := []) (by simp) (by simp) hf1).carry hX hEne' hf2
  have hF2 := (hf1.wide (X := [C.rb])).up hf2
  clear c1 z1
  generalize (w1.setCell ⟨C.rb, 1, none⟩ (.int .i64 ((i : Int) + 1))) = w2 at hp2 hf2 hS2 hF2 ⊢
  have hB2 := Nat.le_trans hEB hF2.size
  have hdr : Fr w2.heap.size [] w2 w2.drew := (Fr.refl _ _ _).drew
  have hp3 := hp2.same hdr
  obtain ⟨y2, -⟩ := cel hS2.at_ 7 (Value.slice ao s.ways.length cap) rfl
  go_region_law
    (first
      | (refine step_append_lies _ (by rfl) _ _ _ (by rfl) B 180 i0 _ 7 80 Tryz.underlying167 hi hz0 hz1 hz2 rfl (by omega) (Value.slice ao s.ways.length cap) s.ways.length xy (by rfl) (hA4.good.own (sWay s.ways _ xy) (by simp [stSlots]))
            ⟨w4.heap.size, 0, none⟩ 1 1 (wayA a4 (.pointer u4) (.slice ao4 n4 cap4)).toList (by rfl) (by rfl) (World.news_of_block (cs := wayA a4 (.pointer u4) (.slice ao4 n4 cap4)) (t := 180) (fr := (0, 0)) (heap_alloc_new w4 _)) (by intro u hu; simp [wayA] at hu; rcases hu with rfl | rfl | rfl | rfl | rfl | rfl | rfl <;> rfl)
            (by omega) (by unfold maxLen; omega) (by omega) (by simp; omega) (w4.heap.size + 1) (by simp) ?_
         intro gg cap' w5 hown5 hgrow hat hlt5
         have hS5 := SU.grow_ways (a := a4) hA4 hEsb hB2 hS2.lts hWA (by rw [List.length_append]; exact hown5) hgrow (by rcases hat with e1 | e1; exact .inl e1.symm; exact .inr (by rw [e1]; simp [Value.ownBlock]))
         have hF5 : Fr B [C.rb, sb] w w5 := ((((hF2.x hEB).trans ((hdr.wide.up hf4).x hB2)).alloc hB4 _).grown hgrow (by simp; omega) (fun g hg => .inl ((hA4.good.own (sWay s.ways _ xy) (by simp [stSlots])).lt g hg).1))
         have hp5 : PS C w5 j4 c ins 0 := hp4.low hErb (((Fr.refl B [] w4).alloc hB4 _).grown hgrow (by simp; omega) (fun g hg => .inl ((hA4.good.own (sWay s.ways _ xy) (by simp [stSlots])).lt g hg).1))
         have hb5 : w5.heap[sb]? = some (.cells (stA s.name s.first s.last e d l p (Value.slice ao s.ways.length cap) r) 169 (0, 0)) := by
           rw [hgrow.block sb (by simp; omega) (fun e1 => by have := ((hA4.good.own (sWay s.ways (Value.slice ao s.ways.length cap) xy) (by simp [stSlots])).lt sb e1.symm).1; omega)]; exact hA4.at_
         obtain ⟨y5, zy5⟩ := cel hb5 7 (Value.slice ao s.ways.length cap) rfl)
      | (go_simp
         go_at_call 135
         refine (way_any hp3 kd).mono ?_
         rintro e1 w4 h4
         rcases h4.cases with ⟨f, hr4, q, rfl, hq⟩ | ⟨⟨a4, j4⟩, v4, hr4, rfl, ⟨⟨p4, q4, rfl, hu4, hd4⟩, hp4⟩, hf4⟩
         · exact ⟨rfl, by rw [(HE _ hr4).out]; exact Thrown.x ⟨q, rfl, hq⟩ ((hF2.x hEB).drew) hB2 (by simp)⟩
         obtain ⟨u4, rfl⟩ := hu4.ptr
         obtain ⟨ao4, n4, cap4, rfl⟩ := hd4.shape
         have hj4 := way_lt hr4
         have hS4 := hS2.carry hX hEne' (hdr.wide.up hf4)
         obtain ⟨y4, zy4⟩ := cel hS4.at_ 7 (Value.slice ao s.ways.length cap) rfl
         have hl4 := lt_of_block hS4.at_
         have hB4 : B ≤ w4.heap.size := Nat.le_trans hB2 (hdr.wide.up hf4).size
         have hal : Fr w4.heap.size [] w4 (w4.alloc (.cells (wayA a4 (.pointer u4) (.slice ao4 n4 cap4)) 180)) := (Fr.refl _ _ _).alloc (Nat.le_refl _) _
         have hA4 := hS4.carry (X := []) (by simp) (by simp) hal
         have hWA : WayC (Ge w2.heap.size) (w4.alloc (.cells (wayA a4 (.pointer u4) (.slice ao4 n4 cap4)) 180)) a4 (wayA a4 (.pointer u4) (.slice ao4 n4 cap4)).toList := ⟨_, _, rfl, hu4.carry (keepX (X := []) (by simp) hal), hd4.carry (keepX (X := []) (by simp) hal)⟩
         simp only [wayA, sv] at hA4 hWA hal ⊢))
  all_goals
    go_wp2_with fail
    go_ret
    rw [(HO _ _ hr4).out]
    exact ⟨_, rfl, ⟨rfl, by omega, ⟨by (show s.enter.length ≤ j4); omega, by (show s.during.length ≤ j4); omega, by (show s.leave.length ≤ j4); omega, by simp; omega, by (show s.regions.length ≤ j4); omega⟩, hp5.put hEne _ _, ⟨_, _, _, _, _, _, _, _, _, _, _, hS5⟩⟩, hF5.setCell (.inr (by simp)) _⟩
end Go.Proofs.YtiihgnagjemikaaGreatDoor
