/- region: braced around the function in it, and region whole, by the depths that are left. -/
import Derived.Test.YtanlfmhlohcmgaaGreatDoorJPregion
import Derived.StillTailTactics
namespace Go.Proofs.YtanlfmhlohcmgaaGreatDoor
open Go.RowKit Px

set_option maxRecDepth 100000 in
set_option maxHeartbeats 2000000 in
theorem braced_region {C : Ctx} {w : World} {i st ins : Nat} {c1 c2 : Value} (h : PS C w i st ins 0) (R : Ending → World → Prop) (Inv : Nat → World → Prop) (Fin : World → Prop) (g0 : Nat)
    (herr : tx C.L i ≠ kOpen → ∀ e w', Thrown C w (3, pl C.L i) e w' → R e w')
    (hstart : tx C.L i = kOpen → ∀ w1, PS C w1 (i + 1) st ins 0 → Fr w.heap.size [C.rb] w w1 → Inv g0 w1)
    (hround : ∀ g w1, Inv g w1 → Calls Tryz.prog 87 #[c1, c2] w1 fun e w2 => (e = .returned (.bool true) ∧ ∃ g', g' < g ∧ Inv g' w2) ∨ (e = .returned (.bool false) ∧ Fin w2) ∨ (∃ ch, e = .panicked ch ∧ R e w2))
    (hfin : ∀ w2, Fin w2 → ∃ j st', PS C w2 j st' ins 0 ∧ (tx C.L j ≠ kShut → ∀ e w3, Thrown C w2 (3, pl C.L j) e w3 → R e w3) ∧ (tx C.L j = kShut → ∀ w3, PS C w3 (j + 1) st' ins 0 → Fr w2.heap.size [C.rb] w2 w3 → R (.returned (.tuple #[])) w3)) :
    Calls Tryz.prog 54 #[.pointer (some ⟨C.rb, 0, none⟩), .func (.func 87) #[] #[c1, c2]] w R := by
  have HE : Hid _ := herr
  have HS : Hid _ := hstart
  have HR : Hid _ := hround
  have HF : Hid _ := hfin
  clear herr hstart hround hfin
  go_enter Tryz.func54, Tryz.ntmps54
  go_wp2_with (go_at_call 52; refine (need_any h ⟨#[123]⟩ kOpen rfl (by decide)).mono ?_; rintro e w1 h1; rcases h1.cases with ⟨f, hr1, q, rfl, hq⟩ | ⟨_, v1, hr1, rfl, ⟨rfl, hp1⟩, hf1⟩; (· exact ⟨rfl, HE.out (need_bad hr1).1 _ _ (by rw [← (need_bad hr1).2]; exact ⟨q, rfl, hq⟩)⟩))
  have hI : Hid (Inv g0 w1) := HS.out (need_ok hr1) w1 hp1 hf1
  go_loopg [] g0 (fun g wr => Hid (Inv g wr))
  case atStart => exact hI
  case round =>
    go_wp2_with fail
    refine (HR.out _ _ hrel.out).mono ?_
    rintro e w2 (⟨rfl, g', hg', hi'⟩ | ⟨rfl, hfn⟩ | ⟨ch, rfl, hR⟩)
    · go_wp2_with fail
      go_roundg g'
      case measure => exact hg'
      case rel => exact hi'
    · obtain ⟨j, st', hp2, hb1, hb2⟩ := HF.out w2 hfn
      have HB1 : Hid _ := hb1
      have HB2 : Hid _ := hb2
      clear hb1 hb2
      go_wp2_with (go_at_call 52; refine (need_any hp2 ⟨#[125]⟩ kShut rfl (by decide)).mono ?_; rintro e w3 h3; rcases h3.cases with ⟨f, hr3, q, rfl, hq⟩ | ⟨_, v3, hr3, rfl, ⟨rfl, hp3⟩, hf3⟩; (· exact ⟨rfl, HB1.out (need_bad hr3).1 _ _ (by rw [← (need_bad hr3).2]; exact ⟨q, rfl, hq⟩)⟩))
      go_end0
      exact HB2.out (need_ok hr3) w3 hp3 hf3
    · exact ⟨rfl, hR⟩
set_option maxRecDepth 100000 in
set_option maxHeartbeats 2000000 in
theorem braced_chart {C : Ctx} {w : World} {i st ins : Nat} {c1 c2 : Value} (h : PS C w i st ins 0) (R : Ending → World → Prop) (Inv : Nat → World → Prop) (Fin : World → Prop) (g0 : Nat)
    (herr : tx C.L i ≠ kOpen → ∀ e w', Thrown C w (3, pl C.L i) e w' → R e w')
    (hstart : tx C.L i = kOpen → ∀ w1, PS C w1 (i + 1) st ins 0 → Fr w.heap.size [C.rb] w w1 → Inv g0 w1)
    (hround : ∀ g w1, Inv g w1 → Calls Tryz.prog 55 #[c1, c2] w1 fun e w2 => (e = .returned (.bool true) ∧ ∃ g', g' < g ∧ Inv g' w2) ∨ (e = .returned (.bool false) ∧ Fin w2) ∨ (∃ ch, e = .panicked ch ∧ R e w2))
    (hfin : ∀ w2, Fin w2 → ∃ j st', PS C w2 j st' ins 0 ∧ (tx C.L j ≠ kShut → ∀ e w3, Thrown C w2 (3, pl C.L j) e w3 → R e w3) ∧ (tx C.L j = kShut → ∀ w3, PS C w3 (j + 1) st' ins 0 → Fr w2.heap.size [C.rb] w2 w3 → R (.returned (.tuple #[])) w3)) :
    Calls Tryz.prog 54 #[.pointer (some ⟨C.rb, 0, none⟩), .func (.func 55) #[] #[c1, c2]] w R := by
  have HE : Hid _ := herr
  have HS : Hid _ := hstart
  have HR : Hid _ := hround
  have HF : Hid _ := hfin
  clear herr hstart hround hfin
  go_enter Tryz.func54, Tryz.ntmps54
  go_wp2_with (go_at_call 52; refine (need_any h ⟨#[123]⟩ kOpen rfl (by decide)).mono ?_; rintro e w1 h1; rcases h1.cases with ⟨f, hr1, q, rfl, hq⟩ | ⟨_, v1, hr1, rfl, ⟨rfl, hp1⟩, hf1⟩; (· exact ⟨rfl, HE.out (need_bad hr1).1 _ _ (by rw [← (need_bad hr1).2]; exact ⟨q, rfl, hq⟩)⟩))
  have hI : Hid (Inv g0 w1) := HS.out (need_ok hr1) w1 hp1 hf1
  go_loopg [] g0 (fun g wr => Hid (Inv g wr))
  case atStart => exact hI
  case round =>
    go_wp2_with fail
    refine (HR.out _ _ hrel.out).mono ?_
    rintro e w2 (⟨rfl, g', hg', hi'⟩ | ⟨rfl, hfn⟩ | ⟨ch, rfl, hR⟩)
    · go_wp2_with fail
      go_roundg g'
      case measure => exact hg'
      case rel => exact hi'
    · obtain ⟨j, st', hp2, hb1, hb2⟩ := HF.out w2 hfn
      have HB1 : Hid _ := hb1
      have HB2 : Hid _ := hb2
      clear hb1 hb2
      go_wp2_with (go_at_call 52; refine (need_any hp2 ⟨#[125]⟩ kShut rfl (by decide)).mono ?_; rintro e w3 h3; rcases h3.cases with ⟨f, hr3, q, rfl, hq⟩ | ⟨_, v3, hr3, rfl, ⟨rfl, hp3⟩, hf3⟩; (· exact ⟨rfl, HB1.out (need_bad hr3).1 _ _ (by rw [← (need_bad hr3).2]; exact ⟨q, rfl, hq⟩)⟩))
      go_end0
      exact HB2.out (need_ok hr3) w3 hp3 hf3
    · exact ⟨rfl, hR⟩

theorem step_err {L : List Lx.Tok} {k g c i : Nat} {l : List (StF (St k))} {f : F} (h : stepS L k l c i = .error f) : states L (St k) (region L k) (g + 1) l c i = .error f := by
  rw [stepS] at h
  by_cases hw : tx L i = kInitial ∨ tx L i = kFinal ∨ tx L i = kState
  · rw [if_pos hw] at h
    rw [states, if_pos hw]
    split at h
    · rename_i hs; injection h with h; subst h; rw [hs]
    · exact absurd h (by simp)
  · rw [if_neg hw] at h; exact absurd h (by simp)
theorem step_some {L : List Lx.Tok} {k g c i c' j : Nat} {l l' : List (StF (St k))} (h : stepS L k l c i = .ok (some (l', c', j))) : states L (St k) (region L k) (g + 1) l c i = states L (St k) (region L k) g l' c' j := by
  rw [stepS] at h
  by_cases hw : tx L i = kInitial ∨ tx L i = kFinal ∨ tx L i = kState
  · rw [if_pos hw] at h
    rw [states, if_pos hw]
    split at h
    · exact absurd h (by simp)
    · rename_i hs
      rw [hs]
      injection h with h; injection h with h; injection h with e1 h; injection h with e2 e3; subst e1; subst e2; subst e3
      rfl
  · rw [if_neg hw] at h; exact absurd h (by simp)
theorem step_none {L : List Lx.Tok} {k g c i : Nat} {l : List (StF (St k))} (h : stepS L k l c i = .ok none) : states L (St k) (region L k) (g + 1) l c i = if tx L i = kShut then .ok (l, c, i + 1) else .error (3, pl L i) := by
  rw [stepS] at h
  by_cases hw : tx L i = kInitial ∨ tx L i = kFinal ∨ tx L i = kState
  · rw [if_pos hw] at h
    split at h
    · exact absurd h (by simp)
    · exact absurd h (by simp)
  · rw [states, if_neg hw]
def RgOk (C : Ctx) (k B ba vb ins : Nat) (x : List (StF (St k)) × Nat × Nat) (v : Value) (w' : World) : Prop := v = .tuple #[] ∧ PS C w' x.2.2 x.2.1 ins 0 ∧ ∃ u xs, RE C B ba vb w' u ∧ StAt k B w' x.1 u xs
theorem brace_region {C : Ctx} {k B ba vb ins i c : Nat} {w : World} {u : Value} {xs : List Value} (h : PS C w i c ins 0) (hE : RE C B ba vb w u) (hS : StAt k B w [] u xs) (hR : Region C k) (hk : ins + k = 6) :
    Calls Tryz.prog 54 #[.pointer (some ⟨C.rb, 0, none⟩), .func (.func 87) #[] #[.pointer (some ⟨ba, 0, none⟩), .pointer (some ⟨vb, 0, none⟩)]] w
      (OutX B [C.rb, vb] (RgOk C k B ba vb ins) w (if tx C.L i = kOpen then states C.L (St k) (region C.L k) C.L.length [] c (i + 1) else .error (3, pl C.L i))) := by
  obtain ⟨RES, hRES⟩ : ∃ RES, RES = (if tx C.L i = kOpen then states C.L (St k) (region C.L k) C.L.length [] c (i + 1) else .error (3, pl C.L i)) := ⟨_, rfl⟩
  rw [← hRES]
  refine braced_region h _ (fun g w1 => ∃ (l : List (StF (St k))) (c1 j : Nat) (u : Value) (xs : List Value), RES = states C.L (St k) (region C.L k) g l c1 j ∧ C.L.length ≤ g + j ∧ l.length ≤ j ∧ PS C w1 j c1 ins 0 ∧ RE C B ba vb w1 u ∧ StAt k B w1 l u xs ∧ Fr B [C.rb, vb] w w1)
    (fun w2 => ∃ (l : List (StF (St k))) (c1 j : Nat) (u : Value) (xs : List Value), RES = (if tx C.L j = kShut then .ok (l, c1, j + 1) else .error (3, pl C.L j)) ∧ PS C w2 j c1 ins 0 ∧ RE C B ba vb w2 u ∧ StAt k B w2 l u xs ∧ Fr B [C.rb, vb] w w2) C.L.length ?_ ?_ ?_ ?_
  · intro hn e w' ht
    rw [hRES, if_neg hn]
    exact ht.x (Fr.refl _ _ _) hE.hB (by simp)
  · intro ho w1 hp1 hf1
    exact ⟨[], c, i + 1, u, xs, by rw [hRES, if_pos ho], by omega, by simp, hp1, hE.carry hf1, hS.carry hE.lr hf1, hf1.x hE.hB⟩
  · rintro g w1 ⟨l, c1, j, u1, xs1, hr1, hg, hlj, hp1, hE1, hS1, hf1⟩
    obtain ⟨g', rfl⟩ : ∃ g', g = g' + 1 := ⟨g - 1, by have := hp1.lt; omega⟩
    refine (region1_any hp1 hE1 hS1 hlj hR hk).mono ?_
    rintro e w2 h2
    rcases h2.cases with ⟨f, hr2, ht⟩ | ⟨o, v, hr2, rfl, hv, hf2⟩
    · refine .inr (.inr ?_)
      obtain ⟨q, rfl, hq⟩ := ht
      refine ⟨_, rfl, ?_⟩
      rw [hr1, step_err hr2.out]
      exact ThrownX.up ⟨q, rfl, hq⟩ hf1
    · cases o with
      | none =>
        obtain ⟨rfl, hp2, u2, xs2, hE2, hS2⟩ := hv
        exact .inr (.inl ⟨rfl, l, c1, j, u2, xs2, by rw [hr1, step_none hr2.out], hp2, hE2, hS2, hf1.trans hf2⟩)
      | some x =>
        obtain ⟨l2, c2, j2⟩ := x
        obtain ⟨rfl, hlt, hl2, hp2, u2, xs2, hE2, hS2⟩ := hv
        exact .inl ⟨rfl, g', by omega, l2, c2, j2, u2, xs2, by rw [hr1, step_some hr2.out], by omega, hl2, hp2, hE2, hS2, hf1.trans hf2⟩
  · rintro w2 ⟨l, c1, j, u1, xs1, hr1, hp1, hE1, hS1, hf1⟩
    refine ⟨j, c1, hp1, fun hn e w3 ht => ?_, fun ho w3 hp3 hf3 => ?_⟩
    · rw [hr1, if_neg hn]
      exact ht.x hf1 (Nat.le_trans hE.hB hf1.size) (by simp)
    · rw [hr1, if_pos ho]
      exact ⟨_, rfl, ⟨rfl, hp3, u1, xs1, hE1.carry hf3, hS1.carry hE.lr hf3⟩, hf1.trans (hf3.x (Nat.le_trans hE.hB hf1.size))⟩

set_option maxRecDepth 100000 in
set_option maxHeartbeats 4000000 in
theorem region_zero {C : Ctx} : Region C 0 := by
  intro w i c ins hk h
  obtain ⟨hp0, hf0⟩ := h.alloc (.cells #[.pointer (some ⟨C.rb, 0, none⟩)] 120)
  have x1 : (w.alloc (.cells #[.pointer (some ⟨C.rb, 0, none⟩)] 120)).cell? ⟨w.heap.size, 0, none⟩ = some (.pointer (some ⟨C.rb, 0, none⟩)) := by simp
  obtain ⟨-, -, -, c3, -⟩ := hp0.cells
  go_enter Tryz.func61, Tryz.ntmps61
  go_wp2_with fail
  generalize (w.alloc (.cells #[.pointer (some ⟨C.rb, 0, none⟩)] 120)) = W0 at hp0 hf0 x1 c3 ⊢
  have hdr := (Fr.refl W0.heap.size [] W0).drew
  have hpd := hp0.same hdr
  go_still_tail 5, (by kernel_rfl)
  go_wp2_with (go_at_call 58; refine (bound_bad hpd ins 6 (by omega)).mono ?_; rintro e w2 ⟨q, rfl, hq⟩; exact ⟨rfl, by (show Thrown C w (4, pl C.L i) _ _); exact Thrown.up (hf0.drew) ⟨q, rfl, hq⟩⟩)

set_option maxRecDepth 100000 in
set_option maxHeartbeats 8000000 in
theorem region_succ {C : Ctx} {k : Nat} (hR : Region C k) : Region C (k + 1) := by
  intro w i c ins hk h
  have hC := h.lts.1
  obtain ⟨hp0, hf0⟩ := h.alloc (.cells #[.pointer (some ⟨C.rb, 0, none⟩)] 120)
  have x1 : (w.alloc (.cells #[.pointer (some ⟨C.rb, 0, none⟩)] 120)).cell? ⟨w.heap.size, 0, none⟩ = some (.pointer (some ⟨C.rb, 0, none⟩)) := by simp
  obtain ⟨-, -, -, c3, -⟩ := hp0.cells
  have hmf : ∀ (fn : Fn) (first cap : Array Value) (w : World), (Instr.makeFunc fn first cap).run Tryz.prog w = .ok (.func fn first cap) w := fun _ _ _ _ => rfl
  have hz0 : (w.alloc (.cells #[.pointer (some ⟨C.rb, 0, none⟩)] 120)).heap.size = w.heap.size + 1 := by simp
  have HSP : Hid (region C.L (k + 1) c i = if tx C.L i = kOpen then states C.L (St k) (region C.L k) C.L.length [] c (i + 1) else .error (3, pl C.L i)) := rfl
  go_enter Tryz.func61, Tryz.ntmps61
  go_wp2_with fail
  generalize (w.alloc (.cells #[.pointer (some ⟨C.rb, 0, none⟩)] 120)) = W0 at hp0 hf0 x1 c3 hz0 ⊢
  have hdr := (Fr.refl W0.heap.size [] W0).drew
  have hpd := hp0.same hdr
  go_still_tail 5, (by kernel_rfl)
  go_wp2_with (go_at_call 58; refine (bound_ok (C := C) ins 6 (by omega)).mono ?_; rintro e w2 ⟨rfl, hw2⟩; have hp2 : PS C w2 i c ins 0 := (by rw [hw2]; exact hpd); have hf2 : Fr W0.heap.size [] W0 w2 := (by rw [hw2]; exact hdr); clear hw2; have y1 : w2.cell? ⟨w.heap.size, 0, none⟩ = some (.pointer (some ⟨C.rb, 0, none⟩)) := (by rw [hf2.cell (p := ⟨w.heap.size, 0, none⟩) (by show w.heap.size < _; omega) (by simp)]; exact x1); obtain ⟨-, -, -, d3, -⟩ := hp2.cells; have z3 := hp2.frozen 3; have hz2 := hf2.size; obtain ⟨hp3, hf3⟩ := hp2.into; obtain ⟨hp4, hf4⟩ := hp3.alloc (.cells #[.slice none 0 0] 39); have hz3 : (w2.setCell ⟨C.rb, 3, none⟩ (.int .i64 ((ins : Int) + 1))).heap.size = w2.heap.size := (by simp [World.setCell]); have hF4 : Fr w.heap.size [C.rb] w ((w2.setCell ⟨C.rb, 3, none⟩ (.int .i64 ((ins : Int) + 1))).alloc (.cells #[.slice none 0 0] 39)) := ((hf0.up hf2.wide).up hf3).up hf4; have y4 : ((w2.setCell ⟨C.rb, 3, none⟩ (.int .i64 ((ins : Int) + 1))).alloc (.cells #[.slice none 0 0] 39)).cell? ⟨w.heap.size, 0, none⟩ = some (.pointer (some ⟨C.rb, 0, none⟩)) := (by rw [hf4.cell (p := ⟨w.heap.size, 0, none⟩) (by show w.heap.size < _; omega) (by simp; omega), hf3.cell (p := ⟨w.heap.size, 0, none⟩) (by show w.heap.size < _; omega) (by simp; omega)]; exact y1); have hb4 : ((w2.setCell ⟨C.rb, 3, none⟩ (.int .i64 ((ins : Int) + 1))).alloc (.cells #[.slice none 0 0] 39)).heap[w2.heap.size]? = some (.cells #[.slice none 0 0] 39 (0, 0)) := (by rw [← hz3]; exact heap_alloc_new _ _); have hE4 : RE C (w2.heap.size + 1) w.heap.size w2.heap.size ((w2.setCell ⟨C.rb, 3, none⟩ (.int .i64 ((ins : Int) + 1))).alloc (.cells #[.slice none 0 0] 39)) (.slice none 0 0) := ⟨y4, hb4, by omega, by omega, hC, by omega, by omega, by omega, lt_of_block hb4⟩; have hS4 : StAt k (w2.heap.size + 1) ((w2.setCell ⟨C.rb, 3, none⟩ (.int .i64 ((ins : Int) + 1))).alloc (.cells #[.slice none 0 0] 39)) [] (.slice none 0 0) [] := ⟨World.ownsRow_nil _ _ _ _, rfl⟩; have hbr := brace_region hp4 hE4 hS4 hR (by omega); have hz4 := hF4.size; have HTH : Hid (∀ f e w5, ThrownX (w2.heap.size + 1) [C.rb, w2.heap.size] ((w2.setCell ⟨C.rb, 3, none⟩ (.int .i64 ((ins : Int) + 1))).alloc (.cells #[.slice none 0 0] 39)) f e w5 → Thrown C w f e w5) := (fun f e w5 ⟨q, h1, h2, h3, h4⟩ => ⟨q, h1, h2, Nat.le_trans hz4 h3, hF4.trans (h4.mono (by omega) (by intro x hx hlt; simp at hx ⊢; omega))⟩))
  go_wp2_with (first
    | (go_at_call 54; refine hbr.mono ?_; rintro e w5 h5; rcases h5.cases with ⟨f, hr5, q, rfl, hq⟩ | ⟨⟨l5, c5, j5⟩, v5, hr5, rfl, ⟨rfl, hp5, u5, xs5, hE5, hS5⟩, hf5⟩; (· exact ⟨rfl, by rw [HSP.out, hr5.out]; exact HTH.out _ _ _ ⟨q, rfl, hq⟩⟩); obtain ⟨ao5, cap5, rfl⟩ := owns_shape hS5.own; have y5 := hE5.a; obtain ⟨-, -, -, e3, -⟩ := hp5.cells; have ez3 := hp5.frozen 3; obtain ⟨v5c, v5z⟩ := cel hE5.v 0 _ rfl; have hne5 : ¬ C.rb = w2.heap.size := (by omega); have hne6 : ¬ w2.heap.size = C.rb := (by omega)))
  go_ret
  rw [HSP.out, hr5.out]
  obtain ⟨hp6, hf6⟩ := hp5.outOf
  have hF5 : Fr w.heap.size [C.rb] w w5 := hF4.trans (hf5.mono (by omega) (by intro x hx hlt; simp at hx ⊢; omega))
  have hl5 := hp5.lts.1
  have kq : Keep (Ge (w2.heap.size + 1)) (Ge w.heap.size) w5 (w5.setCell ⟨C.rb, 3, none⟩ (.int .i64 (ins : Int))) := fun b hb _ => ⟨by simp [Ge] at *; omega, Below.heap_setCell _ _ _ _ (by simp [Ge] at *; omega)⟩
  exact ⟨_, rfl, ⟨IsStates.carry kq (k + 1) _ _ hS5.done, hp6⟩, hF5.up hf6⟩
theorem region_any {C : Ctx} : ∀ k, Region C k := by
  intro k
  induction k with
  | zero => exact region_zero
  | succ k ih => exact region_succ ih
end Go.Proofs.YtanlfmhlohcmgaaGreatDoor
/- chart: the function in it. -/
namespace Go.Proofs.YtanlfmhlohcmgaaGreatDoor
open Go.RowKit Px

theorem Tryz.infoDecl : (Tryz.prog.info? 60).map (fun i => (i.zero, i.size, i.bytes)) = some (some (.agg #[.int .i64 0, .string ⟨#[]⟩, .int .i64 0]), 3, 32) := by kernel_rfl
/-- a chart that is being read: where it lies -/
structure CU (B cb : Nat) (w : World) (nm : Str) (vs : List Decl) (rs : List (List (St 6))) (v r : Value) (xv xr : List Value) : Prop where
  at_ : w.heap[cb]? = some (.cells #[sv nm, v, r] 25 (0, 0))
  good : Good B w [sDecl vs v xv, sReg 6 rs r xr]
theorem cuCarries (vs : List Decl) (rs : List (List (St 6))) (v r : Value) (xv xr : List Value) : Carries [sDecl vs v xv, sReg 6 rs r xr] := by
  intro x hx A A' w w' kp
  simp only [List.mem_cons, List.not_mem_nil, or_false] at hx
  rcases hx with rfl | rfl
  · exact fun h => h
  · exact cReg kp _ _ _ _
theorem CU.carry {B cb : Nat} {X : List Nat} {w w' : World} {nm : Str} {vs : List Decl} {rs : List (List (St 6))} {v r : Value} {xv xr : List Value} (h : CU B cb w nm vs rs v r xv xr) (hX : ∀ x ∈ X, x < B) (hs : cb ∉ X) (hf : Fr w.heap.size X w w') : CU B cb w' nm vs rs v r xv xr :=
  ⟨by rw [hf.block cb (lt_of_block h.at_) hs]; exact h.at_, h.good.carry (cuCarries _ _ _ _ _ _) hX hf⟩
theorem CU.lts {B cb : Nat} {w : World} {nm : Str} {vs : List Decl} {rs : List (List (St 6))} {v r : Value} {xv xr : List Value} (h : CU B cb w nm vs rs v r xv xr) : ∀ x ∈ [sDecl vs v xv, sReg 6 rs r xr], ∀ g, x.v.ownBlock = some g → g < w.heap.size := fun x hx g hg => (h.good.block x hx g hg).2
theorem CU.grow_vars {B cb : Nat} {w4 w5 : World} {nm : Str} {vs : List Decl} {rs : List (List (St 6))} {v r v' : Value} {xv xr cs : List Value} {a : Decl} (h : CU B cb w4 nm vs rs v r xv xr) (hcb : cb < B)
    (ha : DeclC a cs) (hown : w5.ownsRow B 60 3 v' ((vs ++ [a]).length) (xv ++ cs)) (hg : w4.grownBy w5 v.ownBlock) (hat : v'.ownBlock = v.ownBlock ∨ v'.ownBlock = some w4.heap.size) :
    CU B cb (w5.setCell ⟨cb, 1, none⟩ v') nm (vs ++ [a]) rs v' r (xv ++ cs) xr := by
  have hgd : Good B w4 ([] ++ sDecl vs v xv :: [sReg 6 rs r xr]) := h.good
  have hc : Carries ([] ++ sDecl vs v xv :: [sReg 6 rs r xr]) := cuCarries vs rs v r xv xr
  have hold : Rows DeclC vs xv := hgd.has (sDecl vs v xv) (by simp)
  have hnew := hgd.grow (s' := sDecl (vs ++ [a]) v' (xv ++ cs)) hc hg hat hown (Rows.append hold (Rows.one ha))
  have hput := fr_put w5 cb 1 v'
  have hcb4 := lt_of_block h.at_
  refine ⟨?_, Good.carry (X := [cb]) hnew (cuCarries (vs ++ [a]) rs v' r (xv ++ cs) xr) (by simp; exact hcb) hput⟩
  have hat5 : w5.heap[cb]? = some (.cells #[sv nm, v, r] 25 (0, 0)) := by
    rw [hg.block cb hcb4 (fun e1 => by have := ((h.good.own (sDecl vs v xv) (by simp)).lt cb e1.symm).1; omega)]; exact h.at_
  rw [heap_setCell_same w5 cb 1 _ 25 _ hat5]; rfl
theorem CU.grow_regions {B cb n : Nat} {w4 w5 : World} {nm : Str} {vs : List Decl} {rs : List (List (St 6))} {v r v' u : Value} {xv xr : List Value} {a : List (St 6)} (h : CU B cb w4 nm vs rs v r xv xr) (hcb : cb < B) (hB : B ≤ n) (hn : ∀ x ∈ [sDecl vs v xv, sReg 6 rs r xr], ∀ g, x.v.ownBlock = some g → g < n)
    (ha : IsStates (Ge n) w4 6 a u) (hown : w5.ownsRow B 39 1 v' ((rs ++ [a]).length) (xr ++ [u])) (hg : w4.grownBy w5 r.ownBlock) (hat : v'.ownBlock = r.ownBlock ∨ v'.ownBlock = some w4.heap.size) :
    CU B cb (w5.setCell ⟨cb, 2, none⟩ v') nm vs (rs ++ [a]) v v' xv (xr ++ [u]) := by
  have hgd : Good B w4 ([sDecl vs v xv] ++ sReg 6 rs r xr :: []) := h.good
  have hc : Carries ([sDecl vs v xv] ++ sReg 6 rs r xr :: []) := cuCarries vs rs v r xv xr
  have kN := keepNew (s' := sReg 6 (rs ++ [a]) v' (xr ++ [u])) hgd hn hB hg hat
  have ha2 : RegC (IsStates (Nots B ([sDecl vs v xv] ++ sReg 6 (rs ++ [a]) v' (xr ++ [u]) :: [])) w5 6) a [u] := ⟨u, rfl, IsStates.carry kN 6 _ _ ha⟩
  have hold := cReg (keepGrow (B := B) (l1 := [sDecl vs v xv]) (l2 := []) (s := sReg 6 rs r xr) (s' := sReg 6 (rs ++ [a]) v' (xr ++ [u])) hg hat) _ _ _ _ (hgd.has (sReg 6 rs r xr) (by simp))
  have hnew := hgd.grow (s' := sReg 6 (rs ++ [a]) v' (xr ++ [u])) hc hg hat hown (Rows.append hold (Rows.one ha2))
  have hput := fr_put w5 cb 2 v'
  have hcb4 := lt_of_block h.at_
  refine ⟨?_, Good.carry (X := [cb]) hnew (cuCarries vs (rs ++ [a]) v v' xv (xr ++ [u])) (by simp; exact hcb) hput⟩
  have hat5 : w5.heap[cb]? = some (.cells #[sv nm, v, r] 25 (0, 0)) := by
    rw [hg.block cb hcb4 (fun e1 => by have := ((h.good.own (sReg 6 rs r xr) (by simp)).lt cb e1.symm).1; omega)]; exact h.at_
  rw [heap_setCell_same w5 cb 2 _ 25 _ hat5]; rfl
/-- one item more of a chart; none: none stands there -/
def stepI (L : List Lx.Tok) (vs : List Decl) (rs : List (List (St 6))) (c i : Nat) : Except F (Option (List Decl × List (List (St 6)) × Nat × Nat)) :=
  if kindOf (tx L i) ≠ 0 then
    if 20 ≤ vs.length then .error (4, pl L (i + 1))
    else match variable_ L (kindOf (tx L i)) (i + 1) with
      | .error x => .error x
      | .ok (v, j) => .ok (some (vs ++ [v], rs, c, j))
  else if tx L i = kRegion then
    match region L 6 c (i + 1) with
    | .error x => .error x
    | .ok (l, c', j) => .ok (some (vs, rs ++ [l], c', j))
  else .ok none
/-- what the function in chart holds -/
structure CE (C : Ctx) (B ba cb : Nat) (w : World) : Prop where
  a : w.cell? ⟨ba, 0, none⟩ = some (.pointer (some ⟨C.rb, 0, none⟩))
  la : ba < B
  lc : cb < B
  na : C.rb < ba
  nc : C.rb < cb
  nac : ba ≠ cb
  lr : C.rb < B
  hB : B ≤ w.heap.size
theorem CE.low {C : Ctx} {B ba cb : Nat} {w w' : World} (h : CE C B ba cb w) (hf : Fr B [C.rb, cb] w w') : CE C B ba cb w' := by
  have h1 := h.na
  have h2 := h.nac
  exact ⟨by rw [hf.cell (p := ⟨ba, 0, none⟩) h.la (by simp; omega)]; exact h.a, h.la, h.lc, h1, h.nc, h2, h.lr, Nat.le_trans h.hB hf.size⟩
def CUx (B cb : Nat) (w : World) (nm : Str) (vs : List Decl) (rs : List (List (St 6))) : Prop := ∃ v r xv xr, CU B cb w nm vs rs v r xv xr
def ItOk (C : Ctx) (B ba cb i c : Nat) (nm : Str) (vs : List Decl) (rs : List (List (St 6))) : Option (List Decl × List (List (St 6)) × Nat × Nat) → Value → World → Prop
  | none, v, w' => v = .bool false ∧ PS C w' i c 0 0 ∧ CE C B ba cb w' ∧ CUx B cb w' nm vs rs
  | some (vs', rs', c', j), v, w' => v = .bool true ∧ i < j ∧ vs'.length ≤ 20 ∧ rs'.length ≤ j ∧ PS C w' j c' 0 0 ∧ CE C B ba cb w' ∧ CUx B cb w' nm vs' rs'
theorem first_le {L : List Lx.Tok} {i j : Nat} {n : Int} (h : first L i = .ok (n, j)) : i ≤ j := by
  rw [first] at h
  split at h
  · split at h
    · split at h
      · exact absurd h (by simp)
      · injection h with h; injection h with _ h; omega
    · split at h
      · exact absurd h (by simp)
      · injection h with h; injection h with _ h; omega
  · injection h with h; injection h with _ h; omega
theorem variable_lt {L : List Lx.Tok} {kind i j : Nat} {v : Decl} (h : variable_ L kind i = .ok (v, j)) : i < j := by
  rw [variable_] at h
  split at h
  · exact absurd h (by simp)
  · split at h
    · exact absurd h (by simp)
    · rename_i hf
      have := first_le hf
      split at h
      · injection h with h; injection h with _ h; omega
      · exact absurd h (by simp)
theorem kindOf_is {C : Ctx} {w : World} {i st ins und : Nat} (h : PS C w i st ins und) (tb : ByteArray) (n : Nat) (ho : Hid (kindOf (bs tb) = n)) : Calls Tryz.prog 56 #[.string tb] w fun e w' => e = .returned (.int .i64 n) ∧ w' = w := by
  refine (kindOf_any tb w h.tab).mono ?_
  rintro e w' ⟨rfl, rfl⟩
  exact ⟨by rw [ho.out], rfl⟩

set_option maxRecDepth 100000 in
set_option maxHeartbeats 8000000 in
theorem chart1_none {C : Ctx} {B ba cb : Nat} {w : World} {i c : Nat} {nm : Str} {vs : List Decl} {rs : List (List (St 6))} (h : PS C w i c 0 0) (hE : CE C B ba cb w) (hU : CUx B cb w nm vs rs) (hv : vs.length ≤ 20) (hr : rs.length ≤ i) (hk : kindOf (tx C.L i) = 0) (hn : tx C.L i ≠ kRegion) : Calls Tryz.prog 55 #[.pointer (some ⟨ba, 0, none⟩), .pointer (some ⟨cb, 0, none⟩)] w (OutX B [C.rb, cb] (ItOk C B ba cb i c nm vs rs) w (stepI C.L vs rs c i)) := by
  have _ := hv
  have _ := hr
  obtain ⟨v, r, xv, xr, hU⟩ := hU
  have hl6 := h.wf.len
  have hil := h.lt
  have hx := hE.a
  have hba : ba < w.heap.size := Nat.lt_of_lt_of_le hE.la hE.hB
  have hEB := hE.hB
  have hErb := hE.lr
  have hEcb := hE.lc
  have hEnc := hE.nc
  have hEna := hE.na
  have hEac := hE.nac
  have hne' : cb ∉ [C.rb] := by simp; omega
  have hX : ∀ x ∈ [C.rb], x < B := by simp; omega
  have HCX : Hid (∀ (W W' : World), W.cell? ⟨ba, 0, none⟩ = some (.pointer (some ⟨C.rb, 0, none⟩)) → ba < W.heap.size → Fr W.heap.size [C.rb] W W' → W'.cell? ⟨ba, 0, none⟩ = some (.pointer (some ⟨C.rb, 0, none⟩))) := fun W W' h1 h2 hf => by rw [hf.cell (p := ⟨ba, 0, none⟩) h2 (by simp; omega)]; exact h1
  obtain ⟨tb, htb⟩ : ∃ tb : ByteArray, Hid (bs tb = tx C.L i) := ⟨⟨(tx C.L i).toArray⟩, rfl⟩
  have hk0 : Hid (kindOf (bs tb) = 0) := by rw [Hid, htb.out]; exact hk
  have HN : Hid (tx C.L i ≠ bs ⟨#[114, 101, 103, 105, 111, 110]⟩) := hn
  have HSP : Hid (stepI C.L vs rs c i = .ok none) := by rw [Hid, stepI, if_neg (by rw [hk]; simp), if_neg hn]
  clear hk hn
  go_enter Tryz.func55, Tryz.ntmps55
  go_wp2_with (first
    | (go_at_call 57; refine (text_is h tb htb).mono ?_; rintro e1 w1 ⟨rfl, hp1, hf1⟩; have hx1 := HCX.out _ _ hx hba hf1.wide; have hz1 := hf1.size)
    | (go_at_call 56; refine (kindOf_is hp1 tb 0 hk0).mono ?_; rintro e1 w2 ⟨rfl, hw2⟩; obtain rfl := hw2.symm)
    | (go_at_call 60; refine (take_no hp1 ⟨#[114, 101, 103, 105, 111, 110]⟩ HN.out).mono ?_; rintro e1 w3 ⟨rfl, hp3, hf3⟩))
  go_ret
  rw [HSP.out]
  have hF : Fr w.heap.size [C.rb] w w3 := (hf1.wide).up hf3.wide
  exact ⟨_, rfl, ⟨rfl, hp3, hE.low (hF.mono hE.hB (by simp)), _, _, _, _, hU.carry hX hne' hF⟩, hF.mono hE.hB (by simp)⟩

set_option maxRecDepth 100000 in
set_option maxHeartbeats 8000000 in
theorem chart1_full {C : Ctx} {B ba cb : Nat} {w : World} {i c : Nat} {nm : Str} {vs : List Decl} {rs : List (List (St 6))} (h : PS C w i c 0 0) (hE : CE C B ba cb w) (hU : CUx B cb w nm vs rs) (hv : vs.length ≤ 20) (hr : rs.length ≤ i) (hk : kindOf (tx C.L i) ≠ 0) (hf20 : 20 ≤ vs.length) : Calls Tryz.prog 55 #[.pointer (some ⟨ba, 0, none⟩), .pointer (some ⟨cb, 0, none⟩)] w (OutX B [C.rb, cb] (ItOk C B ba cb i c nm vs rs) w (stepI C.L vs rs c i)) := by
  have _ := hv
  have _ := hr
  obtain ⟨v, r, xv, xr, hU⟩ := hU
  have hl6 := h.wf.len
  have hil := h.lt
  have hx := hE.a
  have hba : ba < w.heap.size := Nat.lt_of_lt_of_le hE.la hE.hB
  have hEB := hE.hB
  have hErb := hE.lr
  have hEcb := hE.lc
  have hEnc := hE.nc
  have hEna := hE.na
  have hEac := hE.nac
  have hne' : cb ∉ [C.rb] := by simp; omega
  have hX : ∀ x ∈ [C.rb], x < B := by simp; omega
  have HCX : Hid (∀ (W W' : World), W.cell? ⟨ba, 0, none⟩ = some (.pointer (some ⟨C.rb, 0, none⟩)) → ba < W.heap.size → Fr W.heap.size [C.rb] W W' → W'.cell? ⟨ba, 0, none⟩ = some (.pointer (some ⟨C.rb, 0, none⟩))) := fun W W' h1 h2 hf => by rw [hf.cell (p := ⟨ba, 0, none⟩) h2 (by simp; omega)]; exact h1
  obtain ⟨tb, htb⟩ : ∃ tb : ByteArray, Hid (bs tb = tx C.L i) := ⟨⟨(tx C.L i).toArray⟩, rfl⟩
  obtain ⟨kd, hkd⟩ : ∃ x, Hid (kindOf (bs tb) = x) := ⟨_, rfl⟩
  have hk1 : kd ≠ 0 := by rw [← hkd.out, htb.out]; exact hk
  have hk2 : (((kd : Nat) : Int) != 0) = true := by simp; omega
  have hne0 : tx C.L i ≠ [] := fun e => by rw [e] at hk; exact hk (by decide)
  have hnx := h.wf.next h.lt hne0
  have HSP : Hid (stepI C.L vs rs c i = .error (4, pl C.L (i + 1))) := by rw [Hid, stepI, if_pos hk, if_pos hf20]
  have hov : w.ownsRow B 60 3 v vs.length xv := hU.good.own (sDecl vs v xv) (by simp)
  obtain ⟨ao, cap, rfl⟩ := owns_shape hov
  clear hk hne0
  go_enter Tryz.func55, Tryz.ntmps55
  go_wp2_with (first
    | (go_at_call 57; refine (text_is h tb htb).mono ?_; rintro e1 w1 ⟨rfl, hp1, hf1⟩; have hx1 := HCX.out _ _ hx hba hf1.wide; have hz1 := hf1.size)
    | (go_at_call 56; refine (kindOf_is hp1 tb kd hkd).mono ?_; rintro e1 w2 ⟨rfl, hw2⟩; obtain rfl := hw2.symm; obtain ⟨-, d1, -⟩ := hp1.cells; have z1 := hp1.frozen 1; obtain ⟨hp2, hf2⟩ := hp1.step hnx; have hF2 := (hf1.wide (X := [C.rb])).up hf2; have hU2 := hU.carry hX hne' hF2; have hx2 := HCX.out _ _ hx hba hF2; obtain ⟨y2, -⟩ := cel hU2.at_ 1 (Value.slice ao vs.length cap) rfl; have hB2 := hF2.size)
    | (go_at_call 58; refine (bound_bad hp2 vs.length 20 hf20).mono ?_; rintro e1 w3 ⟨q, rfl, hq⟩; exact ⟨rfl, by rw [HSP.out]; exact Thrown.x ⟨q, rfl, hq⟩ (hF2.mono hE.hB (by simp)) (by omega) (by simp)⟩))

set_option maxRecDepth 100000 in
set_option maxHeartbeats 8000000 in
theorem chart1_var {C : Ctx} {B ba cb : Nat} {w : World} {i c : Nat} {nm : Str} {vs : List Decl} {rs : List (List (St 6))} (h : PS C w i c 0 0) (hE : CE C B ba cb w) (hU : CUx B cb w nm vs rs) (hv : vs.length ≤ 20) (hr : rs.length ≤ i) (hk : kindOf (tx C.L i) ≠ 0) (hf20 : ¬ 20 ≤ vs.length) : Calls Tryz.prog 55 #[.pointer (some ⟨ba, 0, none⟩), .pointer (some ⟨cb, 0, none⟩)] w (OutX B [C.rb, cb] (ItOk C B ba cb i c nm vs rs) w (stepI C.L vs rs c i)) := by
  have _ := hv
  have _ := hr
  obtain ⟨v, r, xv, xr, hU⟩ := hU
  have hl6 := h.wf.len
  have hil := h.lt
  have hx := hE.a
  have hba : ba < w.heap.size := Nat.lt_of_lt_of_le hE.la hE.hB
  have hEB := hE.hB
  have hErb := hE.lr
  have hEcb := hE.lc
  have hEnc := hE.nc
  have hEna := hE.na
  have hEac := hE.nac
  have hne' : cb ∉ [C.rb] := by simp; omega
  have hX : ∀ x ∈ [C.rb], x < B := by simp; omega
  have HCX : Hid (∀ (W W' : World), W.cell? ⟨ba, 0, none⟩ = some (.pointer (some ⟨C.rb, 0, none⟩)) → ba < W.heap.size → Fr W.heap.size [C.rb] W W' → W'.cell? ⟨ba, 0, none⟩ = some (.pointer (some ⟨C.rb, 0, none⟩))) := fun W W' h1 h2 hf => by rw [hf.cell (p := ⟨ba, 0, none⟩) h2 (by simp; omega)]; exact h1
  obtain ⟨tb, htb⟩ : ∃ tb : ByteArray, Hid (bs tb = tx C.L i) := ⟨⟨(tx C.L i).toArray⟩, rfl⟩
  obtain ⟨i0, hi, hz0, hz1', hz2⟩ := info_parts Tryz.infoDecl
  obtain ⟨kd, hkd⟩ : ∃ x, Hid (kindOf (bs tb) = x) := ⟨_, rfl⟩
  have hk1 : kd ≠ 0 := by rw [← hkd.out, htb.out]; exact hk
  have hk2 : (((kd : Nat) : Int) != 0) = true := by simp; omega
  have hne0 : tx C.L i ≠ [] := fun e => by rw [e] at hk; exact hk (by decide)
  have hnx := h.wf.next h.lt hne0
  have HKD : Hid (kindOf (tx C.L i) = kd) := by rw [Hid, ← htb.out]; exact hkd.out
  have HSE : ∀ f, Hid (variable_ C.L kd (i + 1) = .error f) → Hid (stepI C.L vs rs c i = .error f) := fun f hr => by rw [Hid, stepI, if_pos hk, if_neg (by omega), HKD.out, hr.out]
  have HSO : ∀ x j, Hid (variable_ C.L kd (i + 1) = .ok (x, j)) → Hid (stepI C.L vs rs c i = .ok (some (vs ++ [x], rs, c, j))) := fun x j hr => by rw [Hid, stepI, if_pos hk, if_neg (by omega), HKD.out, hr.out]
  have hov : w.ownsRow B 60 3 v vs.length xv := hU.good.own (sDecl vs v xv) (by simp)
  obtain ⟨ao, cap, rfl⟩ := owns_shape hov
  clear hk hne0
  go_enter Tryz.func55, Tryz.ntmps55
  go_upto_region 6 with (first
    | (go_at_call 57; refine (text_is h tb htb).mono ?_; rintro e1 w1 ⟨rfl, hp1, hf1⟩; have hx1 := HCX.out _ _ hx hba hf1.wide; have hz1 := hf1.size)
    | (go_at_call 56; refine (kindOf_is hp1 tb kd hkd).mono ?_; rintro e1 w2 ⟨rfl, hw2⟩; obtain rfl := hw2.symm; obtain ⟨-, d1, -⟩ := hp1.cells; have z1 := hp1.frozen 1; obtain ⟨hp2, hf2⟩ := hp1.step hnx; have hF2 := (hf1.wide (X := [C.rb])).up hf2; have hU2 := hU.carry hX hne' hF2; have hx2 := HCX.out _ _ hx hba hF2; obtain ⟨y2, -⟩ := cel hU2.at_ 1 (Value.slice ao vs.length cap) rfl; have hB2 := hF2.size)
    | (go_at_call 58; refine (bound_ok (C := C) vs.length 20 (by omega)).mono ?_; rintro e1 w3 ⟨rfl, hw3⟩; obtain rfl := hw3.symm))
  clear d1 z1
  generalize (w1.setCell ⟨C.rb, 1, none⟩ (.int .i64 ((i : Int) + 1))) = w2 at hp2 hf2 hF2 hU2 hx2 y2 hB2 ⊢
  have hdr : Fr w2.heap.size [] w2 w2.drew := (Fr.refl _ _ _).drew
  have hp3' := hp2.same hdr
  have hB2' : B ≤ w2.heap.size := Nat.le_trans hEB hF2.size
  go_region_law
    (first
      | (refine step_append_lies _ (by rfl) _ _ _ (by rfl) B 60 i0 _ 3 32 Tryz.underlying22 hi hz0 hz1' hz2 rfl (by omega) (Value.slice ao vs.length cap) vs.length xv (by rfl) (hA4.good.own (sDecl vs _ xv) (by simp))
            ⟨w4'.heap.size, 0, none⟩ 1 1 [.int .i64 a4.kind, sv a4.name, .int .i64 a4.first] (by rfl) (by rfl) (World.news_of_block (fr := (0, 0)) (heap_alloc_new w4' _)) (by intro x hx; simp [sv] at hx; rcases hx with rfl | rfl | rfl <;> rfl)
            (by omega) (by unfold maxLen; omega) (by omega) (by simp; omega) (w4'.heap.size + 1) (by simp) ?_
         intro gg cap' w5' hown5 hgrow hat hlt5
         have hgo : ∀ g, (Value.slice ao vs.length cap).ownBlock = some g → B ≤ g := fun g hg => ((hA4.good.own (sDecl vs _ xv) (by simp)).lt g hg).1
         have hU5 := CU.grow_vars (a := a4) hA4 hEcb rfl (by rw [List.length_append]; exact hown5) hgrow (by rcases hat with e1 | e1; exact .inl e1.symm; exact .inr (by rw [e1]; simp [Value.ownBlock]))
         have hF5 : Fr B [C.rb, cb] w w5' := (((hF4.mono hEB (by simp)).alloc hB4 _).grown hgrow (by simp; omega) (fun g hg => .inl (hgo g hg)))
         have hp5' : PS C w5' j4 c 0 0 := hp4'.low hErb (((Fr.refl B [] w4').alloc hB4 _).grown hgrow (by simp; omega) (fun g hg => .inl (hgo g hg)))
         have hb5 : w5'.heap[cb]? = some (.cells #[sv nm, Value.slice ao vs.length cap, r] 25 (0, 0)) := by
           rw [hgrow.block cb (by simp; omega) (fun e1 => by have := hgo _ e1.symm; omega)]; exact hA4.at_
         obtain ⟨y5, zy5⟩ := cel hb5 1 (Value.slice ao vs.length cap) rfl)
      | (go_simp
         go_at_call 59
         refine (variable_any hp3' kd).mono ?_
         rintro e1 w4' h4
         rcases h4.cases with ⟨f, hr4, q, rfl, hq⟩ | ⟨⟨a4, j4⟩, v4, hr4, rfl, ⟨hv4, hp4'⟩, hf4'⟩
         · exact ⟨rfl, by rw [(HSE _ hr4).out]; exact Thrown.x ⟨q, rfl, hq⟩ ((hF2.mono hEB (by simp)).drew) hB2' (by simp)⟩
         subst hv4
         have hU4 := hU2.carry hX hne' (hdr.wide.up hf4')
         have hF4 : Fr w.heap.size [C.rb] w w4' := hF2.up (hdr.wide.up hf4')
         have hx4 := HCX.out _ _ hx hba hF4
         obtain ⟨y4, zy4⟩ := cel hU4.at_ 1 (Value.slice ao vs.length cap) rfl
         have hl4 := lt_of_block hU4.at_
         have hB4 : B ≤ w4'.heap.size := Nat.le_trans hEB hF4.size
         have hj4 := variable_lt hr4.out
         have hal : Fr w4'.heap.size [] w4' (w4'.alloc (.cells #[.int .i64 a4.kind, .string ⟨a4.name.toArray⟩, .int .i64 a4.first] 60)) := (Fr.refl _ _ _).alloc (Nat.le_refl _) _
         have hA4 := hU4.carry (X := []) (by simp) (by simp) hal
         simp only [sv] at hA4 ⊢))
  all_goals
    go_wp2_with fail
    go_ret
    rw [(HSO _ _ hr4).out]
    have hF6 := hF5.setCell (p := ⟨cb, 1, none⟩) (.inr (by simp)) (.slice (some ⟨gg, 0, none⟩) (vs.length + 1) cap')
    exact ⟨_, rfl, ⟨rfl, by omega, by simp; omega, by omega, hp5'.put hEnc _ _, hE.low hF6, _, _, _, _, hU5⟩, hF6⟩

set_option maxRecDepth 100000 in
set_option maxHeartbeats 8000000 in
theorem chart1_reg {C : Ctx} {B ba cb : Nat} {w : World} {i c : Nat} {nm : Str} {vs : List Decl} {rs : List (List (St 6))} (h : PS C w i c 0 0) (hE : CE C B ba cb w) (hU : CUx B cb w nm vs rs) (hv : vs.length ≤ 20) (hr : rs.length ≤ i) (hk : kindOf (tx C.L i) = 0) (hn : tx C.L i = kRegion) : Calls Tryz.prog 55 #[.pointer (some ⟨ba, 0, none⟩), .pointer (some ⟨cb, 0, none⟩)] w (OutX B [C.rb, cb] (ItOk C B ba cb i c nm vs rs) w (stepI C.L vs rs c i)) := by
  have _ := hv
  have _ := hr
  obtain ⟨v, r, xv, xr, hU⟩ := hU
  have hl6 := h.wf.len
  have hil := h.lt
  have hx := hE.a
  have hba : ba < w.heap.size := Nat.lt_of_lt_of_le hE.la hE.hB
  have hEB := hE.hB
  have hErb := hE.lr
  have hEcb := hE.lc
  have hEnc := hE.nc
  have hEna := hE.na
  have hEac := hE.nac
  have hne' : cb ∉ [C.rb] := by simp; omega
  have hX : ∀ x ∈ [C.rb], x < B := by simp; omega
  have HCX : Hid (∀ (W W' : World), W.cell? ⟨ba, 0, none⟩ = some (.pointer (some ⟨C.rb, 0, none⟩)) → ba < W.heap.size → Fr W.heap.size [C.rb] W W' → W'.cell? ⟨ba, 0, none⟩ = some (.pointer (some ⟨C.rb, 0, none⟩))) := fun W W' h1 h2 hf => by rw [hf.cell (p := ⟨ba, 0, none⟩) h2 (by simp; omega)]; exact h1
  obtain ⟨tb, htb⟩ : ∃ tb : ByteArray, Hid (bs tb = tx C.L i) := ⟨⟨(tx C.L i).toArray⟩, rfl⟩
  obtain ⟨i0, hi, hz0, hz1', hz2⟩ := info_parts Tryz.info39
  have hk0 : Hid (kindOf (bs tb) = 0) := by rw [Hid, htb.out]; exact hk
  have HY : Hid (tx C.L i = bs ⟨#[114, 101, 103, 105, 111, 110]⟩) := hn
  have HSE : ∀ f, Hid (region C.L 6 c (i + 1) = .error f) → Hid (stepI C.L vs rs c i = .error f) := fun f hr => by rw [Hid, stepI, if_neg (by rw [hk]; simp), if_pos hn, hr.out]
  have HSO : ∀ x c' j, Hid (region C.L 6 c (i + 1) = .ok (x, c', j)) → Hid (stepI C.L vs rs c i = .ok (some (vs, rs ++ [x], c', j))) := fun x c' j hr => by rw [Hid, stepI, if_neg (by rw [hk]; simp), if_pos hn, hr.out]
  have hor : w.ownsRow B 39 1 r rs.length xr := hU.good.own (sReg 6 rs r xr) (by simp)
  obtain ⟨ao, cap, rfl⟩ := owns_shape hor
  clear hk hn
  go_enter Tryz.func55, Tryz.ntmps55
  go_upto_region 8 with (first
    | (go_at_call 57; refine (text_is h tb htb).mono ?_; rintro e1 w1 ⟨rfl, hp1, hf1⟩; have hx1 := HCX.out _ _ hx hba hf1.wide; have hz1 := hf1.size)
    | (go_at_call 56; refine (kindOf_is hp1 tb 0 hk0).mono ?_; rintro e1 w2 ⟨rfl, hw2⟩; obtain rfl := hw2.symm)
    | (go_at_call 60; refine (take_yes hp1 ⟨#[114, 101, 103, 105, 111, 110]⟩ HY.out (by decide)).mono ?_; rintro e1 w2 ⟨rfl, hp2, hf2⟩; have hF2 := (hf1.wide (X := [C.rb])).up hf2; have hU2 := hU.carry hX hne' hF2; have hx2 := HCX.out _ _ hx hba hF2; obtain ⟨y2, -⟩ := cel hU2.at_ 2 (Value.slice ao rs.length cap) rfl; have hB2 := hF2.size))
  have hdr : Fr w2.heap.size [] w2 w2.drew := (Fr.refl _ _ _).drew
  have hp3' := hp2.same hdr
  have hB2' : B ≤ w2.heap.size := Nat.le_trans hEB hF2.size
  go_region_law
    (first
      | (refine step_append_lies _ (by rfl) _ _ _ (by rfl) B 39 i0 _ 1 24 Tryz.underlying23 hi hz0 hz1' hz2 rfl (by omega) (Value.slice ao rs.length cap) rs.length xr (by rfl) (hA4.good.own (sReg 6 rs _ xr) (by simp))
            ⟨w4'.heap.size, 0, none⟩ 1 1 [.slice ao4 n4 cap4] (by rfl) (by rfl) (cell_one_new w4' _ 39) (by intro u hu; simp at hu; subst hu; rfl)
            (by omega) (by unfold maxLen; omega) (by omega) (by simp; omega) (w4'.heap.size + 1) (by simp) ?_
         intro gg cap' w5' hown5 hgrow hat hlt5
         have hgo : ∀ g, (Value.slice ao rs.length cap).ownBlock = some g → B ≤ g := fun g hg => ((hA4.good.own (sReg 6 rs _ xr) (by simp)).lt g hg).1
         have hU5 := CU.grow_regions (a := a4) (u := .slice ao4 n4 cap4) hA4 hEcb hB2' hU2.lts (IsStates.carry (keepX (X := []) (by simp) hal) 6 _ _ hv4) (by rw [List.length_append]; exact hown5) hgrow (by rcases hat with e1 | e1; exact .inl e1.symm; exact .inr (by rw [e1]; simp [Value.ownBlock]))
         have hF5 : Fr B [C.rb, cb] w w5' := (((hF4.mono hEB (by simp)).alloc hB4 _).grown hgrow (by simp; omega) (fun g hg => .inl (hgo g hg)))
         have hp5' : PS C w5' j4 c4 0 0 := hp4'.low hErb (((Fr.refl B [] w4').alloc hB4 _).grown hgrow (by simp; omega) (fun g hg => .inl (hgo g hg)))
         have hb5 : w5'.heap[cb]? = some (.cells #[sv nm, v, Value.slice ao rs.length cap] 25 (0, 0)) := by
           rw [hgrow.block cb (by simp; omega) (fun e1 => by have := hgo _ e1.symm; omega)]; exact hA4.at_
         obtain ⟨y5, zy5⟩ := cel hb5 2 (Value.slice ao rs.length cap) rfl)
      | (go_simp
         go_at_call 61
         refine (region_any 6 _ (i + 1) c 0 rfl hp3').mono ?_
         rintro e1 w4' h4
         rcases h4.cases with ⟨f, hr4, q, rfl, hq⟩ | ⟨⟨a4, c4, j4⟩, v4, hr4, rfl, ⟨hv4, hp4'⟩, hf4'⟩
         · exact ⟨rfl, by rw [(HSE _ hr4).out]; exact Thrown.x ⟨q, rfl, hq⟩ ((hF2.mono hEB (by simp)).drew) hB2' (by simp)⟩
         obtain ⟨ao4, n4, cap4, rfl⟩ := IsStates.shape hv4
         have hU4 := hU2.carry hX hne' (hdr.wide.up hf4')
         have hF4 : Fr w.heap.size [C.rb] w w4' := hF2.up (hdr.wide.up hf4')
         have hx4 := HCX.out _ _ hx hba hF4
         obtain ⟨y4, zy4⟩ := cel hU4.at_ 2 (Value.slice ao rs.length cap) rfl
         have hl4 := lt_of_block hU4.at_
         have hB4 : B ≤ w4'.heap.size := Nat.le_trans hEB hF4.size
         have hj4 := region_lt _ _ _ _ _ _ hr4.out
         have hal : Fr w4'.heap.size [] w4' (w4'.alloc (.cells #[.slice ao4 n4 cap4] 39)) := (Fr.refl _ _ _).alloc (Nat.le_refl _) _
         have hA4 := hU4.carry (X := []) (by simp) (by simp) hal))
  all_goals
    go_wp2_with fail
    go_ret
    rw [(HSO _ _ _ hr4).out]
    have hF6 := hF5.setCell (p := ⟨cb, 2, none⟩) (.inr (by simp)) (.slice (some ⟨gg, 0, none⟩) (rs.length + 1) cap')
    exact ⟨_, rfl, ⟨rfl, by omega, by omega, by simp; omega, hp5'.put hEnc _ _, hE.low hF6, _, _, _, _, hU5⟩, hF6⟩

theorem chart1_any {C : Ctx} {B ba cb : Nat} {w : World} {i c : Nat} {nm : Str} {vs : List Decl} {rs : List (List (St 6))} (h : PS C w i c 0 0) (hE : CE C B ba cb w) (hU : CUx B cb w nm vs rs) (hv : vs.length ≤ 20) (hr : rs.length ≤ i) : Calls Tryz.prog 55 #[.pointer (some ⟨ba, 0, none⟩), .pointer (some ⟨cb, 0, none⟩)] w (OutX B [C.rb, cb] (ItOk C B ba cb i c nm vs rs) w (stepI C.L vs rs c i)) := by
  by_cases hk : kindOf (tx C.L i) ≠ 0
  · by_cases hf : 20 ≤ vs.length
    · exact chart1_full h hE hU hv hr hk hf
    · exact chart1_var h hE hU hv hr hk hf
  · have hk' : kindOf (tx C.L i) = 0 := by simpa using hk
    by_cases hn : tx C.L i = kRegion
    · exact chart1_reg h hE hU hv hr hk' hn
    · exact chart1_none h hE hU hv hr hk' hn
end Go.Proofs.YtanlfmhlohcmgaaGreatDoor
