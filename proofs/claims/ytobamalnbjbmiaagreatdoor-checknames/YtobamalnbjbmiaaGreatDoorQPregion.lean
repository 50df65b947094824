/- region: the function in it. -/
import Derived.Test.YtobamalnbjbmiaaGreatDoorQPstate2
import Derived.Test.YtobamalnbjbmiaaGreatDoorQRregion
import Derived.Deep.RegionHeld3
import Derived.Deep.DeepCutAuto
namespace Go.Proofs.YtobamalnbjbmiaaGreatDoor
open Go.RowKit Px

abbrev Z38 (fi la : Bool) : Array Value := stA [] fi la (.slice none 0 0) (.slice none 0 0) (.slice none 0 0) (.pointer none) (.slice none 0 0) (.slice none 0 0)
abbrev Z0 : Array Value := #[.string ⟨#[]⟩, .bool false, .bool false, .slice none 0 0, .slice none 0 0, .slice none 0 0, .pointer none, .slice none 0 0, .slice none 0 0]
theorem nine {w : World} {b : Nat} {fi la : Bool} (h : w.heap[b]? = some (.cells (Z38 fi la) 65 (0, 0))) : w.cell? ⟨b, 0, none⟩ = some (sv []) ∧ w.cell? ⟨b, 1, none⟩ = some (.bool fi) ∧ w.cell? ⟨b, 2, none⟩ = some (.bool la) ∧ w.cell? ⟨b, 3, none⟩ = some (.slice none 0 0) ∧ w.cell? ⟨b, 4, none⟩ = some (.slice none 0 0) ∧ w.cell? ⟨b, 5, none⟩ = some (.slice none 0 0) ∧ w.cell? ⟨b, 6, none⟩ = some (.pointer none) ∧ w.cell? ⟨b, 7, none⟩ = some (.slice none 0 0) ∧ w.cell? ⟨b, 8, none⟩ = some (.slice none 0 0) ∧ ∀ o, w.frozen? ⟨b, o, none⟩ = false := by
  refine ⟨?_, ?_, ?_, ?_, ?_, ?_, ?_, ?_, ?_, fun o => by simp [World.frozen?, h]⟩ <;> (rw [cell_of_row _ _ _ _ _ _ h]; rfl)
/-- a new variable of type State that is there, in whichever block -/
def Head (C : Ctx) (w : World) (j c ins : Nat) (b1 b2 : Bool) (s : Value) (wc : World) : Prop :=
  ∃ sb, s = .pointer (some ⟨sb, 0, none⟩) ∧ w.heap.size ≤ sb ∧ wc.heap[sb]? = some (.cells (Z38 b1 b2) 65 (0, 0)) ∧ PS C wc j c ins 0 ∧ Fr w.heap.size [C.rb] w wc
theorem nine_put {w : World} {b : Nat} {fi la : Bool} (h : w.heap[b]? = some (.cells (Z38 false false) 65 (0, 0))) :
    (((((((((w.setCell ⟨b, 0, none⟩ (.string ⟨#[]⟩)).setCell ⟨b, 1, none⟩ (.bool fi)).setCell ⟨b, 2, none⟩ (.bool la)).setCell ⟨b, 3, none⟩ (.slice none 0 0)).setCell ⟨b, 4, none⟩ (.slice none 0 0)).setCell ⟨b, 5, none⟩ (.slice none 0 0)).setCell ⟨b, 6, none⟩ (.pointer none)).setCell ⟨b, 7, none⟩ (.slice none 0 0)).setCell ⟨b, 8, none⟩ (.slice none 0 0)).heap[b]? = some (.cells (Z38 fi la) 65 (0, 0)) := by
  have h0 : (w.setCell ⟨b, 0, none⟩ (.string ⟨#[]⟩)).heap[b]? = some (.cells #[.string ⟨#[]⟩, .bool false, .bool false, .slice none 0 0, .slice none 0 0, .slice none 0 0, .pointer none, .slice none 0 0, .slice none 0 0] 65 (0, 0)) := by rw [heap_setCell_same _ b 0 _ 65 _ h]; rfl
  have h1 : ((w.setCell ⟨b, 0, none⟩ (.string ⟨#[]⟩)).setCell ⟨b, 1, none⟩ (.bool fi)).heap[b]? = some (.cells #[.string ⟨#[]⟩, .bool fi, .bool false, .slice none 0 0, .slice none 0 0, .slice none 0 0, .pointer none, .slice none 0 0, .slice none 0 0] 65 (0, 0)) := by rw [heap_setCell_same _ b 1 _ 65 _ h0]; rfl
  have h2 : (((w.setCell ⟨b, 0, none⟩ (.string ⟨#[]⟩)).setCell ⟨b, 1, none⟩ (.bool fi)).setCell ⟨b, 2, none⟩ (.bool la)).heap[b]? = some (.cells #[.string ⟨#[]⟩, .bool fi, .bool la, .slice none 0 0, .slice none 0 0, .slice none 0 0, .pointer none, .slice none 0 0, .slice none 0 0] 65 (0, 0)) := by rw [heap_setCell_same _ b 2 _ 65 _ h1]; rfl
  have h3 : ((((w.setCell ⟨b, 0, none⟩ (.string ⟨#[]⟩)).setCell ⟨b, 1, none⟩ (.bool fi)).setCell ⟨b, 2, none⟩ (.bool la)).setCell ⟨b, 3, none⟩ (.slice none 0 0)).heap[b]? = some (.cells #[.string ⟨#[]⟩, .bool fi, .bool la, .slice none 0 0, .slice none 0 0, .slice none 0 0, .pointer none, .slice none 0 0, .slice none 0 0] 65 (0, 0)) := by rw [heap_setCell_same _ b 3 _ 65 _ h2]; rfl
  have h4 : (((((w.setCell ⟨b, 0, none⟩ (.string ⟨#[]⟩)).setCell ⟨b, 1, none⟩ (.bool fi)).setCell ⟨b, 2, none⟩ (.bool la)).setCell ⟨b, 3, none⟩ (.slice none 0 0)).setCell ⟨b, 4, none⟩ (.slice none 0 0)).heap[b]? = some (.cells #[.string ⟨#[]⟩, .bool fi, .bool la, .slice none 0 0, .slice none 0 0, .slice none 0 0, .pointer none, .slice none 0 0, .slice none 0 0] 65 (0, 0)) := by rw [heap_setCell_same _ b 4 _ 65 _ h3]; rfl
  have h5 : ((((((w.setCell ⟨b, 0, none⟩ (.string ⟨#[]⟩)).setCell ⟨b, 1, none⟩ (.bool fi)).setCell ⟨b, 2, none⟩ (.bool la)).setCell ⟨b, 3, none⟩ (.slice none 0 0)).setCell ⟨b, 4, none⟩ (.slice none 0 0)).setCell ⟨b, 5, none⟩ (.slice none 0 0)).heap[b]? = some (.cells #[.string ⟨#[]⟩, .bool fi, .bool la, .slice none 0 0, .slice none 0 0, .slice none 0 0, .pointer none, .slice none 0 0, .slice none 0 0] 65 (0, 0)) := by rw [heap_setCell_same _ b 5 _ 65 _ h4]; rfl
  have h6 : (((((((w.setCell ⟨b, 0, none⟩ (.string ⟨#[]⟩)).setCell ⟨b, 1, none⟩ (.bool fi)).setCell ⟨b, 2, none⟩ (.bool la)).setCell ⟨b, 3, none⟩ (.slice none 0 0)).setCell ⟨b, 4, none⟩ (.slice none 0 0)).setCell ⟨b, 5, none⟩ (.slice none 0 0)).setCell ⟨b, 6, none⟩ (.pointer none)).heap[b]? = some (.cells #[.string ⟨#[]⟩, .bool fi, .bool la, .slice none 0 0, .slice none 0 0, .slice none 0 0, .pointer none, .slice none 0 0, .slice none 0 0] 65 (0, 0)) := by rw [heap_setCell_same _ b 6 _ 65 _ h5]; rfl
  have h7 : ((((((((w.setCell ⟨b, 0, none⟩ (.string ⟨#[]⟩)).setCell ⟨b, 1, none⟩ (.bool fi)).setCell ⟨b, 2, none⟩ (.bool la)).setCell ⟨b, 3, none⟩ (.slice none 0 0)).setCell ⟨b, 4, none⟩ (.slice none 0 0)).setCell ⟨b, 5, none⟩ (.slice none 0 0)).setCell ⟨b, 6, none⟩ (.pointer none)).setCell ⟨b, 7, none⟩ (.slice none 0 0)).heap[b]? = some (.cells #[.string ⟨#[]⟩, .bool fi, .bool la, .slice none 0 0, .slice none 0 0, .slice none 0 0, .pointer none, .slice none 0 0, .slice none 0 0] 65 (0, 0)) := by rw [heap_setCell_same _ b 7 _ 65 _ h6]; rfl
  have h8 : (((((((((w.setCell ⟨b, 0, none⟩ (.string ⟨#[]⟩)).setCell ⟨b, 1, none⟩ (.bool fi)).setCell ⟨b, 2, none⟩ (.bool la)).setCell ⟨b, 3, none⟩ (.slice none 0 0)).setCell ⟨b, 4, none⟩ (.slice none 0 0)).setCell ⟨b, 5, none⟩ (.slice none 0 0)).setCell ⟨b, 6, none⟩ (.pointer none)).setCell ⟨b, 7, none⟩ (.slice none 0 0)).setCell ⟨b, 8, none⟩ (.slice none 0 0)).heap[b]? = some (.cells #[.string ⟨#[]⟩, .bool fi, .bool la, .slice none 0 0, .slice none 0 0, .slice none 0 0, .pointer none, .slice none 0 0, .slice none 0 0] 65 (0, 0)) := by rw [heap_setCell_same _ b 8 _ 65 _ h7]; rfl
  exact h8
section
variable {C : Ctx} {w w2 : World} {j c ins : Nat} {b1 b2 : Bool}
theorem head_new (hp : PS C w2 j c ins 0) (hf : Fr w.heap.size [C.rb] w w2) : Head C w j c ins b1 b2 (.pointer (some ⟨w2.heap.size, 0, none⟩)) (w2.alloc (.cells #[.string ⟨#[]⟩, .bool b1, .bool b2, .slice none 0 0, .slice none 0 0, .slice none 0 0, .pointer none, .slice none 0 0, .slice none 0 0] 65)) :=
  ⟨_, rfl, hf.size, heap_alloc_new w2 _, (hp.alloc _).1, hf.up (hp.alloc _).2⟩
theorem head_put (sb : Nat) (hb : w2.heap[sb]? = some (.cells (Z38 false false) 65 (0, 0))) (hsb : w.heap.size ≤ sb) (hC : C.rb < w.heap.size) (hp : PS C w2 j c ins 0) (hf : Fr w.heap.size [C.rb] w w2) :
    Head C w j c ins b1 b2 (.pointer (some ⟨sb, 0, none⟩)) (((((((((w2.setCell ⟨sb, 0, none⟩ (.string ⟨#[]⟩)).setCell ⟨sb, 1, none⟩ (.bool b1)).setCell ⟨sb, 2, none⟩ (.bool b2)).setCell ⟨sb, 3, none⟩ (.slice none 0 0)).setCell ⟨sb, 4, none⟩ (.slice none 0 0)).setCell ⟨sb, 5, none⟩ (.slice none 0 0)).setCell ⟨sb, 6, none⟩ (.pointer none)).setCell ⟨sb, 7, none⟩ (.slice none 0 0)).setCell ⟨sb, 8, none⟩ (.slice none 0 0)) :=
  have hr : C.rb < sb := by omega
  ⟨sb, rfl, hsb, nine_put hb, ((((((((hp.put hr 0 _).put hr 1 _).put hr 2 _).put hr 3 _).put hr 4 _).put hr 5 _).put hr 6 _).put hr 7 _).put hr 8 _, ((((((((hf.setCell (.inl hsb) _).setCell (.inl hsb) _).setCell (.inl hsb) _).setCell (.inl hsb) _).setCell (.inl hsb) _).setCell (.inl hsb) _).setCell (.inl hsb) _).setCell (.inl hsb) _).setCell (.inl hsb) _⟩
end
theorem StAt.carryX {X : List Nat} {k B : Nat} {w w' : World} {l : List (StF (St k))} {v : Value} {xs : List Value} (h : StAt k B w l v xs) (hX : ∀ x ∈ X, x < B) (hf : Fr w.heap.size X w w') : StAt k B w' l v xs := by
  have kp : Keep (GeNot B v) (GeNot B v) w w' := hf.keep (fun b hb hm => by have := hX b hm; have := hb.1; omega)
  exact ⟨ownX h.own hX hf, h.rows.map (StC.carry kp (IsStates.carry kp k))⟩
/-- one state more of a region; none: none stands there -/
def stepS (L : List Lx.Tok) (k : Nat) (l : List (StF (St k))) (c i : Nat) : Except F (Option (List (StF (St k)) × Nat × Nat)) :=
  if tx L i = kInitial ∨ tx L i = kFinal ∨ tx L i = kState then
    match state L (St k) (region L k) (decide (tx L i = kInitial)) (decide (tx L (opt L kInitial i) = kFinal)) c (opt L kFinal (opt L kInitial i)) with
    | .error x => .error x
    | .ok (s, c', j) => .ok (some (l ++ [s], c', j))
  else .ok none
/-- the variables that the function in region holds -/
structure RE (C : Ctx) (B ba vb : Nat) (w : World) (v : Value) : Prop where
  a : w.cell? ⟨ba, 0, none⟩ = some (.pointer (some ⟨C.rb, 0, none⟩))
  v : w.heap[vb]? = some (.cells #[v] 66 (0, 0))
  la : ba < B
  lv : vb < B
  na : C.rb < ba
  nv : C.rb < vb
  nav : ba ≠ vb
  lr : C.rb < B
  hB : B ≤ w.heap.size
theorem RE.low {C : Ctx} {B ba vb : Nat} {w w' : World} {v : Value} (h : RE C B ba vb w v) (hf : Fr B [C.rb] w w') : RE C B ba vb w' v := by
  have h1 := h.na
  have h2 := h.nv
  exact ⟨by rw [hf.cell (p := ⟨ba, 0, none⟩) h.la (by simp; omega)]; exact h.a, by rw [hf.block vb h.lv (by simp; omega)]; exact h.v, h.la, h.lv, h1, h2, h.nav, h.lr, Nat.le_trans h.hB hf.size⟩
theorem RE.carry {C : Ctx} {B ba vb : Nat} {w w' : World} {v : Value} (h : RE C B ba vb w v) (hf : Fr w.heap.size [C.rb] w w') : RE C B ba vb w' v := h.low (hf.mono h.hB (by simp))
theorem RE.put {C : Ctx} {B ba vb : Nat} {w : World} {v : Value} (h : RE C B ba vb w v) (v' : Value) : RE C B ba vb (w.setCell ⟨vb, 0, none⟩ v') v' := by
  have h1 := h.la
  have h3 := h.hB
  have hf := fr_put w vb 0 v'
  refine ⟨?_, ?_, h.la, h.lv, h.na, h.nv, h.nav, h.lr, Nat.le_trans h.hB hf.size⟩
  · rw [hf.cell (p := ⟨ba, 0, none⟩) (by show ba < _; omega) (by simp; exact h.nav)]; exact h.a
  · rw [heap_setCell_same w vb 0 _ _ _ h.v]; rfl
def RegOk (C : Ctx) (k B ba vb ins i c : Nat) (l : List (StF (St k))) : Option (List (StF (St k)) × Nat × Nat) → Value → World → Prop
  | none, v, w' => v = .bool false ∧ PS C w' i c ins 0 ∧ ∃ u xs, RE C B ba vb w' u ∧ StAt k B w' l u xs
  | some (l', c', j), v, w' => v = .bool true ∧ i < j ∧ l'.length ≤ j ∧ PS C w' j c' ins 0 ∧ ∃ u xs, RE C B ba vb w' u ∧ StAt k B w' l' u xs

set_option maxRecDepth 100000 in
set_option maxHeartbeats 16000000 in
theorem region1_any {C : Ctx} {k B ba vb : Nat} {w : World} {i c ins : Nat} {l : List (StF (St k))} {u : Value} {xs : List Value} (h : PS C w i c ins 0) (hE : RE C B ba vb w u) (hS : StAt k B w l u xs) (hl : l.length ≤ i) (hR : Region C k) (hk : ins + k = 6) : Calls Tryz.prog 135 #[.pointer (some ⟨ba, 0, none⟩), .pointer (some ⟨vb, 0, none⟩)] w (OutX B [C.rb, vb] (RegOk C k B ba vb ins i c l) w (stepS C.L k l c i)) := by
  have hx := hE.a
  have hba : ba < w.heap.size := Nat.lt_of_lt_of_le hE.la hE.hB
  have hbr : ba ≠ C.rb := by have := hE.na; omega
  have hl0 := hS.own
  obtain ⟨ao, cap, rfl⟩ := owns_shape hl0
  obtain ⟨i0, hi, hz0, hz1, hz2'⟩ := info_parts Tryz.infoState
  have hC := h.lts.1
  obtain ⟨hpA, hfA⟩ := h.new (.cells Z0 65)
  have hdr : Fr w.heap.size [] w w.drew := (Fr.refl _ _ _).drew
  have hpB := h.same hdr
  obtain ⟨b1, hb1⟩ : ∃ x, Hid (x = decide (tx C.L i = kInitial)) := ⟨_, rfl⟩
  obtain ⟨i1, hi1⟩ : ∃ x, Hid (x = opt C.L kInitial i) := ⟨_, rfl⟩
  obtain ⟨b2, hb2⟩ : ∃ x, Hid (x = decide (tx C.L i1 = kFinal)) := ⟨_, rfl⟩
  obtain ⟨j, hj⟩ : ∃ x, Hid (x = opt C.L kFinal i1) := ⟨_, rfl⟩
  have c1 : ∀ W, PS C W i c ins 0 → Calls Tryz.prog 89 #[.pointer (some ⟨C.rb, 0, none⟩), .string ⟨#[105, 110, 105, 116, 105, 97, 108]⟩] W fun e w' => e = .returned (.bool b1) ∧ PS C w' i1 c ins 0 ∧ Fr W.heap.size [C.rb] W w' := fun W hW => by rw [hb1.out, hi1.out]; exact take_any hW _ kInitial rfl (by decide)
  have c2 : ∀ W, PS C W i1 c ins 0 → Calls Tryz.prog 89 #[.pointer (some ⟨C.rb, 0, none⟩), .string ⟨#[102, 105, 110, 97, 108]⟩] W fun e w' => e = .returned (.bool b2) ∧ PS C w' j c ins 0 ∧ Fr W.heap.size [C.rb] W w' := fun W hW => by rw [hb2.out, hj.out]; exact take_any hW _ kFinal rfl (by decide)
  have hcx : ∀ (W W' : World), W.cell? ⟨ba, 0, none⟩ = some (.pointer (some ⟨C.rb, 0, none⟩)) → ba < W.heap.size → Fr W.heap.size [C.rb] W W' → W'.cell? ⟨ba, 0, none⟩ = some (.pointer (some ⟨C.rb, 0, none⟩)) := fun W W' h1 h2 hf => by rw [hf.cell (p := ⟨ba, 0, none⟩) h2 (by simp; exact hbr)]; exact h1
  have HCX : Hid _ := hcx
  clear hcx
  have hbA : ((w.alloc (.cells Z0 65)).drew).heap[w.heap.size]? = some (.cells (Z38 false false) 65 (0, 0)) := heap_alloc_new w _
  have hxA : ((w.alloc (.cells Z0 65)).drew).cell? ⟨ba, 0, none⟩ = some (.pointer (some ⟨C.rb, 0, none⟩)) := by rw [hfA.cell (p := ⟨ba, 0, none⟩) hba (by simp)]; exact hx
  have hbaA : ba < ((w.alloc (.cells Z0 65)).drew).heap.size := Nat.lt_of_lt_of_le hba hfA.size
  have hxB : w.drew.cell? ⟨ba, 0, none⟩ = some (.pointer (some ⟨C.rb, 0, none⟩)) := hx
  have T1 : Hid True := trivial
  have T2 : Hid True := trivial
  go_enter Tryz.func135, Tryz.ntmps135
  go_upto_region 1 with fail
  go_cut [3] (fun s3 wc => Hid (Head C w j c ins b1 b2 s3 wc))
  case first =>
    go_region_law
      (first
        | (go_simp; go_at_call 89; clear T1; (with_reducible refine (c1 _ hpB).mono ?_); rintro e1 w1 ⟨rfl, hp1, hf1⟩; have hx1 := HCX.out _ _ hxB hba hf1; have hz1 : w.heap.size ≤ w1.heap.size := Nat.le_trans (Nat.le_refl _) hf1.size; obtain ⟨hpx, hfx⟩ := hp1.alloc (.cells Z0 65); have hxx := HCX.out _ _ hx1 (Nat.lt_of_lt_of_le hba hz1) hfx)
        | (go_simp; go_at_call 89; clear T1; (with_reducible refine (c1 _ hpA).mono ?_); rintro e1 w1 ⟨rfl, hp1, hf1⟩; have hbA1 := hf1.stays hbA hC; have hx1 := HCX.out _ _ hxA hbaA hf1; have hz1 : w.heap.size ≤ w1.heap.size := Nat.le_trans hfA.size hf1.size; obtain ⟨hpx, hfx⟩ := hp1.alloc (.cells Z0 65); have hxx := HCX.out _ _ hx1 (Nat.lt_of_lt_of_le hba hz1) hfx)
        | (go_simp; go_at_call 89; clear T2; (with_reducible refine (c2 _ hp1).mono ?_); rintro e1 w2 ⟨rfl, hp2, hf2⟩; try (have hbA2 := hf2.stays hbA1 hC; obtain ⟨n0, n1, n2, n3, n4, n5, n6, n7, n8, nz⟩ := nine hbA2; have nz0 := nz 0; have nz1 := nz 1; have nz2 := nz 2; have nz3 := nz 3; have nz4 := nz 4; have nz5 := nz 5; have nz6 := nz 6; have nz7 := nz 7; have nz8 := nz 8; clear nz))
        | (go_simp; go_at_call 89; clear T2; (with_reducible refine (c2 _ hpx).mono ?_); rintro e1 w2 ⟨rfl, hp2, hf2⟩; have hbB2 : w2.heap[w1.heap.size]? = some (.cells (Z38 false false) 65 (0, 0)) := hf2.stays (heap_alloc_new w1 (.cells Z0 65)) hp1.lts.1; obtain ⟨n0, n1, n2, n3, n4, n5, n6, n7, n8, nz⟩ := nine hbB2; have nz0 := nz 0; have nz1 := nz 1; have nz2 := nz 2; have nz3 := nz 3; have nz4 := nz 4; have nz5 := nz 5; have nz6 := nz 6; have nz7 := nz 7; have nz8 := nz 8; clear nz))
    all_goals
      go_wp2_with fail
      go_meet
      show Head _ _ _ _ _ _ _ _ _
      first
        | (have hq := head_new (b1 := b1) (b2 := b2) hp2 ((hdr.wide.up hf1).up hf2); (with_reducible exact hq))
        | (have hq := head_put (b1 := b1) (b2 := b2) w1.heap.size hbB2 hz1 hC hp2 (((hdr.wide.up hf1).up hfx).up hf2); (with_reducible exact hq))
        | (have hq := head_put (b1 := b1) (b2 := b2) w.heap.size hbA2 (Nat.le_refl _) hC hp2 ((hfA.wide.up hf1).up hf2); (with_reducible exact hq))
  case rest =>
    obtain ⟨sb, rfl, hsb, hbk, hp, hf⟩ := hcut.out
    clear hcut hpA hfA hdr hpB hbA hxA hbaA hxB c1 c2 HCX T1 T2
    have hE1 := hE.carry hf
    have hS1 := hS.carry hE.lr hf
    have hxc := hE1.a
    obtain ⟨-, m1, m2, -⟩ := nine hbk
    obtain ⟨tb, htb⟩ : ∃ tb : ByteArray, Hid (bs tb = tx C.L j) := ⟨⟨(tx C.L j).toArray⟩, rfl⟩
    by_cases hw : tx C.L i = kInitial ∨ tx C.L i = kFinal ∨ tx C.L i = kState
    · have HSP : Hid (stepS C.L k l c i = match state C.L (St k) (region C.L k) b1 b2 c j with
          | .error x => .error x
          | .ok (s, c', j) => .ok (some (l ++ [s], c', j))) := by rw [Hid, stepS, if_pos hw, hb1.out, hb2.out, hj.out, hi1.out]
      have HLE : Hid (i ≤ j) := by
        have := opt_le C.L kInitial i
        have := opt_le C.L kFinal i1
        rw [Hid, hj.out]
        have e := hi1.out
        omega
      have HKS : Hid (b1 = false → b2 = false → tx C.L j = kState) := fun f1 f2 => by
        have n1 : tx C.L i ≠ kInitial := fun e => by rw [hb1.out] at f1; exact absurd e (of_decide_eq_false f1)
        have e2 : i1 = i := by rw [hi1.out, opt, if_neg n1]
        have n2 : tx C.L i ≠ kFinal := fun e => by rw [hb2.out, e2] at f2; exact absurd e (of_decide_eq_false f2)
        have e4 : j = i := by rw [hj.out, e2, opt, if_neg n2]
        rw [e4]
        rcases hw with e | e | e
        · exact absurd e n1
        · exact absurd e n2
        · exact e
      clear hw
      obtain ⟨wq, hwq⟩ : ∃ x, x = wc := ⟨_, rfl⟩
      subst hwq
      go_upto_region 2 with fail
      go_cut [21] (fun s21 wc => Hid (s21 = .bool false ∧ PS C wc j c ins 0 ∧ Fr wq.heap.size [] wq wc))
      case first =>
        cases b1 with
        | true =>
          go_wp2_with fail
          go_meet
          exact ⟨rfl, hp, Fr.refl _ _ _⟩
        | false =>
          cases b2 with
          | true =>
            go_wp2_with fail
            go_meet
            exact ⟨rfl, hp, Fr.refl _ _ _⟩
          | false =>
            have h1' : (tb.toList == [115, 116, 97, 116, 101]) = true := by
              rw [ByteArray.toList_eq]; exact beq_iff_eq.2 (by show bs tb = kState; rw [htb.out]; exact HKS.out rfl rfl)
            go_wp2_with (go_at_call 86; refine (text_is hp tb htb).mono ?_; rintro e w3 ⟨rfl, hp3, hf3⟩)
            go_meet
            exact ⟨rfl, hp3, hf3⟩
      case rest =>
        obtain ⟨rfl, hp2, hf2⟩ := hcut.out
        clear hcut
        have hE2 := hE1.carry hf2.wide
        have hbk2 : wc.heap[sb]? = some (.cells (Z38 b1 b2) 65 (0, 0)) := by rw [hf2.block sb (lt_of_block hbk) (by simp)]; exact hbk
        have hrb : C.rb < sb := by have := hE.lr; have := hE.hB; omega
        have hxd := hE2.a
        have hst := state_any (k := k) hp2 hrb hbk2 hR hk
        have hF2 : Fr w.heap.size [C.rb] w wc := hf.up hf2.wide
        have hz2 := hF2.size
        have hEB := hE.hB
        have hEr := hE.lr
        have hEv := hE.lv
        have HTH : Hid (∀ f e w5, ThrownX wc.heap.size [C.rb, sb] wc f e w5 → ThrownX B [C.rb, vb] w f e w5) := fun f e w5 ⟨q, h1, h2, h3, h4⟩ => ⟨q, h1, h2, Nat.le_trans hz2 h3, (hF2.mono hE.hB (by simp)).trans (h4.mono (by omega) (by intro x hx hlt; simp at hx ⊢; omega))⟩
        have hil : i < C.L.length := h.lt
        have h601 := h.wf.len
        go_wp2_with (first
          | (go_at_call 136; refine hst.mono ?_; rintro e w5 h5; rcases h5.cases with ⟨f, hr5, q, rfl, hq⟩ | ⟨⟨s5, c5, j5⟩, v5, hr5, rfl, ⟨rfl, hp5, e5, d5, l5, p5, y5, r5, xe, xd, xl, xy, xr, hU5⟩, hf5⟩; (· exact ⟨rfl, by rw [HSP.out, hr5.out]; exact HTH.out _ _ _ ⟨q, rfl, hq⟩⟩); have hF5 : Fr w.heap.size [C.rb] w w5 := hF2.trans (hf5.mono hz2 (by intro x hx hlt; simp at hx ⊢; omega)); have hE5 := hE.carry hF5; obtain ⟨v5c, v5z⟩ := cel hE5.v 0 (Value.slice ao l.length cap) rfl; have hd5 := hU5.done; obtain ⟨⟨a1, n1, q1, rfl⟩, ⟨a2, n2, q2, rfl⟩, ⟨a3, n3, q3, rfl⟩, ⟨u4', rfl⟩, ⟨a5, n5, q5, rfl⟩, ⟨a6, n6, q6, rfl⟩⟩ := hd5.shapes; have hz5 := hF5.size; have kst : Keep (Ge (wc.heap.size + 2)) (Ge w.heap.size) w5 w5 := (fun b hb _ => ⟨by simp [Ge] at *; omega, rfl⟩); have hst' := StC.carry kst (IsStates.carry kst k) _ _ hd5)
          | (refine wpList_load_eq rfl 65 (.tmp 3) rfl ⟨sb, 0, none⟩ rfl (.agg (stA s5.name s5.first s5.last (.slice a1 n1 q1) (.slice a2 n2 q2) (.slice a3 n3 q3) (.pointer u4') (.slice a5 n5 q5) (.slice a6 n6 q6))) (load38 rfl hU5.at_) ?_)
          | (at_builtin; refine wpList_append_own_at _ rfl (.tmp 24) (.tmp 26) 66 rfl B 65 i0 _ 9 152 Tryz.underlying66 hi hz0 hz1 hz2' rfl (by decide) _ _ _ rfl ((own_carry hS.own hE.lr hF5).alloc _) ⟨w5.heap.size, 0, none⟩ 1 1 (stA s5.name s5.first s5.last (.slice a1 n1 q1) (.slice a2 n2 q2) (.slice a3 n3 q3) (.pointer u4') (.slice a5 n5 q5) (.slice a6 n6 q6)).toList rfl rfl (World.news_of_block (fr := (0, 0)) (heap_alloc_new w5 _)) (by intro x hx; simp [sv] at hx; rcases hx with rfl | rfl | rfl | rfl | rfl | rfl | rfl | rfl | rfl <;> rfl) (by unfold maxLen; omega) (by omega) (by simp; omega) ?_; intro v6 w6 hown6 hgrow _ hat; obtain ⟨ao6, cap6, rfl⟩ := owns_shape hown6; obtain ⟨hS6, hF6⟩ := states_step (w := w) (wr := w) (s := s5) hE.lr hE.hB hS hF5 (Fr.refl _ _ _) hst' hown6 hgrow hat; have hp6 : PS C w6 j5 c5 ins 0 := hp5.low hE.lr (((Fr.refl _ _ _).alloc (by omega) _).grown hgrow (by simp; omega) (fun g hg => .inl (hS.own.lt g hg).1)); have hE6 := hE.low hF6; obtain ⟨v6c, v6z⟩ := cel hE6.v 0 (Value.slice ao l.length cap) rfl))
        go_ret
        rw [HSP.out, hr5.out]
        have hj5 := state_lt (region_lt k) hr5.out
        have hle := HLE.out
        exact ⟨_, rfl, ⟨rfl, by omega, by simp; omega, hp6.put hE.nv 0 _, _, _, hE6.put _, hS6.carryX (X := [vb]) (by simp; exact hE.lv) (fr_put _ _ _ _)⟩, (hF6.mono (Nat.le_refl _) (by simp)).setCell (.inr (by simp)) _⟩
    · have n1 : tx C.L i ≠ kInitial := fun e => hw (.inl e)
      have n2 : tx C.L i ≠ kFinal := fun e => hw (.inr (.inl e))
      have n3 : tx C.L i ≠ kState := fun e => hw (.inr (.inr e))
      have e1 : b1 = false := by rw [hb1.out]; exact decide_eq_false n1
      have e2 : i1 = i := by rw [hi1.out, opt, if_neg n1]
      have e3 : b2 = false := by rw [hb2.out, e2]; exact decide_eq_false n2
      have e4 : j = i := by rw [hj.out, e2, opt, if_neg n2]
      have HSP : Hid (stepS C.L k l c i = .ok none) := by rw [Hid, stepS, if_neg hw]
      subst e1; subst e3; subst e4
      have h1' : (tb.toList == [115, 116, 97, 116, 101]) = false := by
        rw [ByteArray.toList_eq]; exact beq_eq_false_iff_ne.2 (by show bs tb ≠ kState; rw [htb.out]; exact n3)
      clear hw n1 n2 n3 e2
      go_wp2_with (go_at_call 86; refine (text_is hp tb htb).mono ?_; rintro e w3 ⟨rfl, hp3, hf3⟩)
      go_ret
      rw [HSP.out]
      exact ⟨_, rfl, ⟨rfl, hp3, _, xs, hE1.carry hf3.wide, hS1.carry hE.lr hf3.wide⟩, ((hf.up hf3.wide).mono hE.hB (by simp))⟩
end Go.Proofs.YtobamalnbjbmiaaGreatDoor
