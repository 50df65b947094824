/- region: braced around the function in it, and region whole, by the depths that are left. -/
import Derived.Test.YtobamalnbjbmiaaGreatDoorQPregion
import Derived.StillTailTactics
namespace Go.Proofs.YtobamalnbjbmiaaGreatDoor
open Go.RowKit Px

set_option maxRecDepth 100000 in
set_option maxHeartbeats 2000000 in
theorem braced_region {C : Ctx} {w : World} {i st ins : Nat} {c1 c2 : Value} (h : PS C w i st ins 0) (R : Ending → World → Prop) (Inv : Nat → World → Prop) (Fin : World → Prop) (g0 : Nat)
    (herr : tx C.L i ≠ kOpen → ∀ e w', Thrown C w (3, pl C.L i) e w' → R e w')
    (hstart : tx C.L i = kOpen → ∀ w1, PS C w1 (i + 1) st ins 0 → Fr w.heap.size [C.rb] w w1 → Inv g0 w1)
    (hround : ∀ g w1, Inv g w1 → Calls Tryz.prog 135 #[c1, c2] w1 fun e w2 => (e = .returned (.bool true) ∧ ∃ g', g' < g ∧ Inv g' w2) ∨ (e = .returned (.bool false) ∧ Fin w2) ∨ (∃ ch, e = .panicked ch ∧ R e w2))
    (hfin : ∀ w2, Fin w2 → ∃ j st', PS C w2 j st' ins 0 ∧ (tx C.L j ≠ kShut → ∀ e w3, Thrown C w2 (3, pl C.L j) e w3 → R e w3) ∧ (tx C.L j = kShut → ∀ w3, PS C w3 (j + 1) st' ins 0 → Fr w2.heap.size [C.rb] w2 w3 → R (.returned (.tuple #[])) w3)) :
    Calls Tryz.prog 83 #[.pointer (some ⟨C.rb, 0, none⟩), .func (.func 135) #[] #[c1, c2]] w R := by
  have HE : Hid _ := herr
  have HS : Hid _ := hstart
  have HR : Hid _ := hround
  have HF : Hid _ := hfin
  clear herr hstart hround hfin
  go_enter Tryz.func83, Tryz.ntmps83
  go_wp2_with (go_at_call 81; refine (need_any h ⟨#[123]⟩ kOpen rfl (by decide)).mono ?_; rintro e w1 h1; rcases h1.cases with ⟨f, hr1, q, rfl, hq⟩ | ⟨_, v1, hr1, rfl, ⟨rfl, hp1⟩, hf1⟩; (· exact ⟨rfl, HE.out (need_bad hr1).1 _ _ (by rw [← (need_bad hr1).2]; exact ⟨q, rfl, hq⟩)⟩))
  have hI : Hid (Inv g0 w1) := HS.out (need_ok hr1) w1 hp1 hf1
  go_loopg [] g0 (fun g wr => Hid (Inv g wr))
  case atStart => exact hI
  case round =>
    go_wp2_with fail
    refine (HR.out _ _ hrel.out).mono ?_
    rintro e w2 (⟨rfl, g', hg', hi'⟩ | ⟨rfl, hfn⟩ | ⟨ch, rfl, hR⟩)
    · go_wp2_with fail
      go_roundg g'
      case measure => exact hg'
      case rel => exact hi'
    · obtain ⟨j, st', hp2, hb1, hb2⟩ := HF.out w2 hfn
      have HB1 : Hid _ := hb1
      have HB2 : Hid _ := hb2
      clear hb1 hb2
      go_wp2_with (go_at_call 81; refine (need_any hp2 ⟨#[125]⟩ kShut rfl (by decide)).mono ?_; rintro e w3 h3; rcases h3.cases with ⟨f, hr3, q, rfl, hq⟩ | ⟨_, v3, hr3, rfl, ⟨rfl, hp3⟩, hf3⟩; (· exact ⟨rfl, HB1.out (need_bad hr3).1 _ _ (by rw [← (need_bad hr3).2]; exact ⟨q, rfl, hq⟩)⟩))
      go_end0
      exact HB2.out (need_ok hr3) w3 hp3 hf3
    · exact ⟨rfl, hR⟩
set_option maxRecDepth 100000 in
set_option maxHeartbeats 2000000 in
theorem braced_chart {C : Ctx} {w : World} {i st ins : Nat} {c1 c2 : Value} (h : PS C w i st ins 0) (R : Ending → World → Prop) (Inv : Nat → World → Prop) (Fin : World → Prop) (g0 : Nat)
    (herr : tx C.L i ≠ kOpen → ∀ e w', Thrown C w (3, pl C.L i) e w' → R e w')
    (hstart : tx C.L i = kOpen → ∀ w1, PS C w1 (i + 1) st ins 0 → Fr w.heap.size [C.rb] w w1 → Inv g0 w1)
    (hround : ∀ g w1, Inv g w1 → Calls Tryz.prog 84 #[c1, c2] w1 fun e w2 => (e = .returned (.bool true) ∧ ∃ g', g' < g ∧ Inv g' w2) ∨ (e = .returned (.bool false) ∧ Fin w2) ∨ (∃ ch, e = .panicked ch ∧ R e w2))
    (hfin : ∀ w2, Fin w2 → ∃ j st', PS C w2 j st' ins 0 ∧ (tx C.L j ≠ kShut → ∀ e w3, Thrown C w2 (3, pl C.L j) e w3 → R e w3) ∧ (tx C.L j = kShut → ∀ w3, PS C w3 (j + 1) st' ins 0 → Fr w2.heap.size [C.rb] w2 w3 → R (.returned (.tuple #[])) w3)) :
    Calls Tryz.prog 83 #[.pointer (some ⟨C.rb, 0, none⟩), .func (.func 84) #[] #[c1, c2]] w R := by
  have HE : Hid _ := herr
  have HS : Hid _ := hstart
  have HR : Hid _ := hround
  have HF : Hid _ := hfin
  clear herr hstart hround hfin
  go_enter Tryz.func83, Tryz.ntmps83
  go_wp2_with (go_at_call 81; refine (need_any h ⟨#[123]⟩ kOpen rfl (by decide)).mono ?_; rintro e w1 h1; rcases h1.cases with ⟨f, hr1, q, rfl, hq⟩ | ⟨_, v1, hr1, rfl, ⟨rfl, hp1⟩, hf1⟩; (· exact ⟨rfl, HE.out (need_bad hr1).1 _ _ (by rw [← (need_bad hr1).2]; exact ⟨q, rfl, hq⟩)⟩))
  have hI : Hid (Inv g0 w1) := HS.out (need_ok hr1) w1 hp1 hf1
  go_loopg [] g0 (fun g wr => Hid (Inv g wr))
  case atStart => exact hI
  case round =>
    go_wp2_with fail
    refine (HR.out _ _ hrel.out).mono ?_
    rintro e w2 (⟨rfl, g', hg', hi'⟩ | ⟨rfl, hfn⟩ | ⟨ch, rfl, hR⟩)
    · go_wp2_with fail
      go_roundg g'
      case measure => exact hg'
      case rel => exact hi'
    · obtain ⟨j, st', hp2, hb1, hb2⟩ := HF.out w2 hfn
      have HB1 : Hid _ := hb1
      have HB2 : Hid _ := hb2
      clear hb1 hb2
      go_wp2_with (go_at_call 81; refine (need_any hp2 ⟨#[125]⟩ kShut rfl (by decide)).mono ?_; rintro e w3 h3; rcases h3.cases with ⟨f, hr3, q, rfl, hq⟩ | ⟨_, v3, hr3, rfl, ⟨rfl, hp3⟩, hf3⟩; (· exact ⟨rfl, HB1.out (need_bad hr3).1 _ _ (by rw [← (need_bad hr3).2]; exact ⟨q, rfl, hq⟩)⟩))
      go_end0
      exact HB2.out (need_ok hr3) w3 hp3 hf3
    · exact ⟨rfl, hR⟩

theorem step_err {L : List Lx.Tok} {k g c i : Nat} {l : List (StF (St k))} {f : F} (h : stepS L k l c i = .error f) : states L (St k) (region L k) (g + 1) l c i = .error f := by
  rw [stepS] at h
  by_cases hw : tx L i = kInitial ∨ tx L i = kFinal ∨ tx L i = kState
  · rw [if_pos hw] at h
    rw [states, if_pos hw]
    split at h
    · rename_i hs; injection h with h; subst h; rw [hs]
    · exact absurd h (by simp)
  · rw [if_neg hw] at h; exact absurd h (by simp)
theorem step_some {L : List Lx.Tok} {k g c i c' j : Nat} {l l' : List (StF (St k))} (h : stepS L k l c i = .ok (some (l', c', j))) : states L (St k) (region L k) (g + 1) l c i = states L (St k) (region L k) g l' c' j := by
  rw [stepS] at h
  by_cases hw : tx L i = kInitial ∨ tx L i = kFinal ∨ tx L i = kState
  · rw [if_pos hw] at h
    rw [states, if_pos hw]
    split at h
    · exact absurd h (by simp)
    · rename_i hs
      rw [hs]
      injection h with h; injection h with h; injection h with e1 h; injection h with e2 e3; subst e1; subst e2; subst e3
      rfl
  · rw [if_neg hw] at h; exact absurd h (by simp)
theorem step_none {L : List Lx.Tok} {k g c i : Nat} {l : List (StF (St k))} (h : stepS L k l c i = .ok none) : states L (St k) (region L k) (g + 1) l c i = if tx L i = kShut then .ok (l, c, i + 1) else .error (3, pl L i) := by
  rw [stepS] at h
  by_cases hw : tx L i = kInitial ∨ tx L i = kFinal ∨ tx L i = kState
  · rw [if_pos hw] at h
    split at h
    · exact absurd h (by simp)
    · exact absurd h (by simp)
  · rw [states, if_neg hw]
def RgOk (C : Ctx) (k B ba vb ins : Nat) (x : List (StF (St k)) × Nat × Nat) (v : Value) (w' : World) : Prop := v = .tuple #[] ∧ PS C w' x.2.2 x.2.1 ins 0 ∧ ∃ u xs, RE C B ba vb w' u ∧ StAt k B w' x.1 u xs
theorem brace_region {C : Ctx} {k B ba vb ins i c : Nat} {w : World} {u : Value} {xs : List Value} (h : PS C w i c ins 0) (hE : RE C B ba vb w u) (hS : StAt k B w [] u xs) (hR : Region C k) (hk : ins + k = 6) :
    Calls Tryz.prog 83 #[.pointer (some ⟨C.rb, 0, none⟩), .func (.func 135) #[] #[.pointer (some ⟨ba, 0, none⟩), .pointer (some ⟨vb, 0, none⟩)]] w
      (OutX B [C.rb, vb] (RgOk C k B ba vb ins) w (if tx C.L i = kOpen then states C.L (St k) (region C.L k) C.L.length [] c (i + 1) else .error (3, pl C.L i))) := by
  obtain ⟨RES, hRES⟩ : ∃ RES, RES = (if tx C.L i = kOpen then states C.L (St k) (region C.L k) C.L.length [] c (i + 1) else .error (3, pl C.L i)) := ⟨_, rfl⟩
  rw [← hRES]
  refine braced_region h _ (fun g w1 => ∃ (l : List (StF (St k))) (c1 j : Nat) (u : Value) (xs : List Value), RES = states C.L (St k) (region C.L k) g l c1 j ∧ C.L.length ≤ g + j ∧ l.length ≤ j ∧ PS C w1 j c1 ins 0 ∧ RE C B ba vb w1 u ∧ StAt k B w1 l u xs ∧ Fr B [C.rb, vb] w w1)
    (fun w2 => ∃ (l : List (StF (St k))) (c1 j : Nat) (u : Value) (xs : List Value), RES = (if tx C.L j = kShut then .ok (l, c1, j + 1) else .error (3, pl C.L j)) ∧ PS C w2 j c1 ins 0 ∧ RE C B ba vb w2 u ∧ StAt k B w2 l u xs ∧ Fr B [C.rb, vb] w w2) C.L.length ?_ ?_ ?_ ?_
  · intro hn e w' ht
    rw [hRES, if_neg hn]
    exact ht.x (Fr.refl _ _ _) hE.hB (by simp)
  · intro ho w1 hp1 hf1
    exact ⟨[], c, i + 1, u, xs, by rw [hRES, if_pos ho], by omega, by simp, hp1, hE.carry hf1, hS.carry hE.lr hf1, hf1.x hE.hB⟩
  · rintro g w1 ⟨l, c1, j, u1, xs1, hr1, hg, hlj, hp1, hE1, hS1, hf1⟩
    obtain ⟨g', rfl⟩ : ∃ g', g = g' + 1 := ⟨g - 1, by have := hp1.lt; omega⟩
    refine (region1_any hp1 hE1 hS1 hlj hR hk).mono ?_
    rintro e w2 h2
    rcases h2.cases with ⟨f, hr2, ht⟩ | ⟨o, v, hr2, rfl, hv, hf2⟩
    · refine .inr (.inr ?_)
      obtain ⟨q, rfl, hq⟩ := ht
      refine ⟨_, rfl, ?_⟩
      rw [hr1, step_err hr2.out]
      exact ThrownX.up ⟨q, rfl, hq⟩ hf1
    · cases o with
      | none =>
        obtain ⟨rfl, hp2, u2, xs2, hE2, hS2⟩ := hv
        exact .inr (.inl ⟨rfl, l, c1, j, u2, xs2, by rw [hr1, step_none hr2.out], hp2, hE2, hS2, hf1.trans hf2⟩)
      | some x =>
        obtain ⟨l2, c2, j2⟩ := x
        obtain ⟨rfl, hlt, hl2, hp2, u2, xs2, hE2, hS2⟩ := hv
        exact .inl ⟨rfl, g', by omega, l2, c2, j2, u2, xs2, by rw [hr1, step_some hr2.out], by omega, hl2, hp2, hE2, hS2, hf1.trans hf2⟩
  · rintro w2 ⟨l, c1, j, u1, xs1, hr1, hp1, hE1, hS1, hf1⟩
    refine ⟨j, c1, hp1, fun hn e w3 ht => ?_, fun ho w3 hp3 hf3 => ?_⟩
    · rw [hr1, if_neg hn]
      exact ht.x hf1 (Nat.le_trans hE.hB hf1.size) (by simp)
    · rw [hr1, if_pos ho]
      exact ⟨_, rfl, ⟨rfl, hp3, u1, xs1, hE1.carry hf3, hS1.carry hE.lr hf3⟩, hf1.trans (hf3.x (Nat.le_trans hE.hB hf1.size))⟩

set_option maxRecDepth 100000 in
set_option maxHeartbeats 4000000 in
theorem region_zero {C : Ctx} : Region C 0 := by
  intro w i c ins hk h
  obtain ⟨hp0, hf0⟩ := h.alloc (.cells #[.pointer (some ⟨C.rb, 0, none⟩)] 153)
  have x1 : (w.alloc (.cells #[.pointer (some ⟨C.rb, 0, none⟩)] 153)).cell? ⟨w.heap.size, 0, none⟩ = some (.pointer (some ⟨C.rb, 0, none⟩)) := by simp
  obtain ⟨-, -, -, c3, -⟩ := hp0.cells
  go_enter Tryz.func90, Tryz.ntmps90
  go_wp2_with fail
  generalize (w.alloc (.cells #[.pointer (some ⟨C.rb, 0, none⟩)] 153)) = W0 at hp0 hf0 x1 c3 ⊢
  have hdr := (Fr.refl W0.heap.size [] W0).drew
  have hpd := hp0.same hdr
  go_still_tail 5, (by kernel_rfl)
  go_wp2_with (go_at_call 87; refine (bound_bad hpd ins 6 (by omega)).mono ?_; rintro e w2 ⟨q, rfl, hq⟩; exact ⟨rfl, by (show Thrown C w (4, pl C.L i) _ _); exact Thrown.up (hf0.drew) ⟨q, rfl, hq⟩⟩)

set_option maxRecDepth 100000 in
set_option maxHeartbeats 8000000 in
theorem region_succ {C : Ctx} {k : Nat} (hR : Region C k) : Region C (k + 1) := by
  intro w i c ins hk h
  have hC := h.lts.1
  obtain ⟨hp0, hf0⟩ := h.alloc (.cells #[.pointer (some ⟨C.rb, 0, none⟩)] 153)
  have x1 : (w.alloc (.cells #[.pointer (some ⟨C.rb, 0, none⟩)] 153)).cell? ⟨w.heap.size, 0, none⟩ = some (.pointer (some ⟨C.rb, 0, none⟩)) := by simp
  obtain ⟨-, -, -, c3, -⟩ := hp0.cells
  have hmf : ∀ (fn : Fn) (first cap : Array Value) (w : World), (Instr.makeFunc fn first cap).run Tryz.prog w = .ok (.func fn first cap) w := fun _ _ _ _ => rfl
  have hz0 : (w.alloc (.cells #[.pointer (some ⟨C.rb, 0, none⟩)] 153)).heap.size = w.heap.size + 1 := by simp
  have HSP : Hid (region C.L (k + 1) c i = if tx C.L i = kOpen then states C.L (St k) (region C.L k) C.L.length [] c (i + 1) else .error (3, pl C.L i)) := rfl
  go_enter Tryz.func90, Tryz.ntmps90
  go_wp2_with fail
  generalize (w.alloc (.cells #[.pointer (some ⟨C.rb, 0, none⟩)] 153)) = W0 at hp0 hf0 x1 c3 hz0 ⊢
  have hdr := (Fr.refl W0.heap.size [] W0).drew
  have hpd := hp0.same hdr
  go_still_tail 5, (by kernel_rfl)
  go_wp2_with (go_at_call 87; refine (bound_ok (C := C) ins 6 (by omega)).mono ?_; rintro e w2 ⟨rfl, hw2⟩; have hp2 : PS C w2 i c ins 0 := (by rw [hw2]; exact hpd); have hf2 : Fr W0.heap.size [] W0 w2 := (by rw [hw2]; exact hdr); clear hw2; have y1 : w2.cell? ⟨w.heap.size, 0, none⟩ = some (.pointer (some ⟨C.rb, 0, none⟩)) := (by rw [hf2.cell (p := ⟨w.heap.size, 0, none⟩) (by show w.heap.size < _; omega) (by simp)]; exact x1); obtain ⟨-, -, -, d3, -⟩ := hp2.cells; have z3 := hp2.frozen 3; have hz2 := hf2.size; obtain ⟨hp3, hf3⟩ := hp2.into; obtain ⟨hp4, hf4⟩ := hp3.alloc (.cells #[.slice none 0 0] 66); have hz3 : (w2.setCell ⟨C.rb, 3, none⟩ (.int .i64 ((ins : Int) + 1))).heap.size = w2.heap.size := (by simp [World.setCell]); have hF4 : Fr w.heap.size [C.rb] w ((w2.setCell ⟨C.rb, 3, none⟩ (.int .i64 ((ins : Int) + 1))).alloc (.cells #[.slice none 0 0] 66)) := ((hf0.up hf2.wide).up hf3).up hf4; have y4 : ((w2.setCell ⟨C.rb, 3, none⟩ (.int .i64 ((ins : Int) + 1))).alloc (.cells #[.slice none 0 0] 66)).cell? ⟨w.heap.size, 0, none⟩ = some (.pointer (some ⟨C.rb, 0, none⟩)) := (by rw [hf4.cell (p := ⟨w.heap.size, 0, none⟩) (by show w.heap.size < _; omega) (by simp; omega), hf3.cell (p := ⟨w.heap.size, 0, none⟩) (by show w.heap.size < _; omega) (by simp; omega)]; exact y1); have hb4 : ((w2.setCell ⟨C.rb, 3, none⟩ (.int .i64 ((ins : Int) + 1))).alloc (.cells #[.slice none 0 0] 66)).heap[w2.heap.size]? = some (.cells #[.slice none 0 0] 66 (0, 0)) := (by rw [← hz3]; exact heap_alloc_new _ _); have hE4 : RE C (w2.heap.size + 1) w.heap.size w2.heap.size ((w2.setCell ⟨C.rb, 3, none⟩ (.int .i64 ((ins : Int) + 1))).alloc (.cells #[.slice none 0 0] 66)) (.slice none 0 0) := ⟨y4, hb4, by omega, by omega, hC, by omega, by omega, by omega, lt_of_block hb4⟩; have hS4 : StAt k (w2.heap.size + 1) ((w2.setCell ⟨C.rb, 3, none⟩ (.int .i64 ((ins : Int) + 1))).alloc (.cells #[.slice none 0 0] 66)) [] (.slice none 0 0) [] := ⟨World.ownsRow_nil _ _ _ _, rfl⟩; have hbr := brace_region hp4 hE4 hS4 hR (by omega); have hz4 := hF4.size; have HTH : Hid (∀ f e w5, ThrownX (w2.heap.size + 1) [C.rb, w2.heap.size] ((w2.setCell ⟨C.rb, 3, none⟩ (.int .i64 ((ins : Int) + 1))).alloc (.cells #[.slice none 0 0] 66)) f e w5 → Thrown C w f e w5) := (fun f e w5 ⟨q, h1, h2, h3, h4⟩ => ⟨q, h1, h2, Nat.le_trans hz4 h3, hF4.trans (h4.mono (by omega) (by intro x hx hlt; simp at hx ⊢; omega))⟩))
  go_wp2_with (first
    | (go_at_call 83; refine hbr.mono ?_; rintro e w5 h5; rcases h5.cases with ⟨f, hr5, q, rfl, hq⟩ | ⟨⟨l5, c5, j5⟩, v5, hr5, rfl, ⟨rfl, hp5, u5, xs5, hE5, hS5⟩, hf5⟩; (· exact ⟨rfl, by rw [HSP.out, hr5.out]; exact HTH.out _ _ _ ⟨q, rfl, hq⟩⟩); obtain ⟨ao5, cap5, rfl⟩ := owns_shape hS5.own; have y5 := hE5.a; obtain ⟨-, -, -, e3, -⟩ := hp5.cells; have ez3 := hp5.frozen 3; obtain ⟨v5c, v5z⟩ := cel hE5.v 0 _ rfl; have hne5 : ¬ C.rb = w2.heap.size := (by omega); have hne6 : ¬ w2.heap.size = C.rb := (by omega)))
  go_ret
  rw [HSP.out, hr5.out]
  obtain ⟨hp6, hf6⟩ := hp5.outOf
  have hF5 : Fr w.heap.size [C.rb] w w5 := hF4.trans (hf5.mono (by omega) (by intro x hx hlt; simp at hx ⊢; omega))
  have hl5 := hp5.lts.1
  have kq : Keep (Ge (w2.heap.size + 1)) (Ge w.heap.size) w5 (w5.setCell ⟨C.rb, 3, none⟩ (.int .i64 (ins : Int))) := fun b hb _ => ⟨by simp [Ge] at *; omega, Below.heap_setCell _ _ _ _ (by simp [Ge] at *; omega)⟩
  exact ⟨_, rfl, ⟨IsStates.carry kq (k + 1) _ _ hS5.done, hp6⟩, hF5.up hf6⟩
theorem region_any {C : Ctx} : ∀ k, Region C k := by
  intro k
  induction k with
  | zero => exact region_zero
  | succ k ih => exact region_succ ih
end Go.Proofs.YtobamalnbjbmiaaGreatDoor
