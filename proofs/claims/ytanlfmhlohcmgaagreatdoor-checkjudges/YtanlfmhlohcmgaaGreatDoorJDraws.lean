/- draws: what both say of a text. -/
import Derived.Test.YtanlfmhlohcmgaaGreatDoorJRead
import Derived.Test.YtanlfmhlohcmgaaGreatDoorJRparse1
import Derived.Deep.RegionHeld3
namespace Go.Proofs.YtanlfmhlohcmgaaGreatDoor
open Go.RowKit Go.Sort Px

/-- a store of what is there changes nothing -/
theorem setCell_self {w : World} {b i : Nat} {v : Value} (h : w.cell? ⟨b, i, none⟩ = some v) : w.setCell ⟨b, i, none⟩ v = w := by
  obtain ⟨heap, tape, drawn, os, output⟩ := w
  have e : (World.setCell ⟨heap, tape, drawn, os, output⟩ ⟨b, i, none⟩ v).heap = heap := by
    apply Array.ext_getElem?
    intro k
    simp only [World.setCell, Array.getElem?_modify]
    split
    · rename_i hk
      subst hk
      simp only [World.cell?] at h
      split at h
      · rename_i c t fr hc
        rw [hc]
        simp at h
        simp only [Option.map_some, Option.some.injEq, Obj.cells.injEq, and_true]
        apply Array.ext_getElem?
        intro j
        simp only [Option.isSome_none, Bool.false_eq_true, ↓reduceIte]
        rw [Array.getElem?_setIfInBounds]
        split
        · rename_i hj
          subst hj
          rw [if_pos (Array.getElem?_eq_some_iff.1 h).1]; exact h.symm
        · rfl
      · exact absurd h (by simp)
    · rfl
  exact congrArg (fun x => (⟨x, tape, drawn, os, output⟩ : World)) e
/-- the first results are laid -/
theorem draws_open (w : World) : ∃ W, W = (w.alloc (.cells #[.string ⟨#[]⟩, .slice none 0 0, .slice none 0 0] 25)).alloc (.cells #[.int .i64 0, .int .i64 0] 28) ∧ Below w.heap.size w W ∧ W.heap.size = w.heap.size + 2 ∧ W.heap[w.heap.size]? = some (.cells #[.string ⟨#[]⟩, .slice none 0 0, .slice none 0 0] 25 (0, 0)) ∧ W.heap[w.heap.size + 1]? = some (.cells #[.int .i64 0, .int .i64 0] 28 (0, 0)) := by
  refine ⟨_, rfl, ((Below.refl _ w).alloc (Nat.le_refl _) _).alloc (by simp) _, by simp, ?_, ?_⟩
  · rw [heap_alloc_old _ _ (by simp)]; exact heap_alloc_new w _
  · have := heap_alloc_new (w.alloc (.cells #[.string ⟨#[]⟩, .slice none 0 0, .slice none 0 0] 25)) (.cells #[.int .i64 0, .int .i64 0] 28)
    simpa using this
/-- what may change of a world between -/
def Mid (B : Nat) (W W' : World) : Prop := W.heap.size ≤ W'.heap.size ∧ ∀ b, B + 2 ≤ b → b < W.heap.size → W'.heap[b]? = W.heap[b]?
theorem draws_mid {w w1 : World} {B : Nat} {x y a b c e f : Value} (hB : Below B w w1) (hz : B + 2 ≤ w1.heap.size) (h0 : w1.heap[B]? = some (.cells #[.string ⟨#[]⟩, .slice none 0 0, .slice none 0 0] 25 (0, 0))) (h1 : w1.heap[B + 1]? = some (.cells #[x, y] 28 (0, 0))) :
    ∃ W, W = ((w1.setCell ⟨B + 1, 0, none⟩ e).setCell ⟨B + 1, 1, none⟩ f).alloc (.cells #[a, b, c] 25) ∧ Below B w W ∧ W.heap.size = w1.heap.size + 1 ∧ W.heap[B]? = some (.cells #[.string ⟨#[]⟩, .slice none 0 0, .slice none 0 0] 25 (0, 0)) ∧ W.heap[B + 1]? = some (.cells #[e, f] 28 (0, 0)) ∧ W.heap[w1.heap.size]? = some (.cells #[a, b, c] 25 (0, 0)) ∧ Mid B w1 W := by
  have k2 := heap_setCell_same _ (B + 1) 0 _ _ e h1
  have k3 := heap_setCell_same _ (B + 1) 1 _ _ f k2
  have hz2 : ((w1.setCell ⟨B + 1, 0, none⟩ e).setCell ⟨B + 1, 1, none⟩ f).heap.size = w1.heap.size := by simp
  refine ⟨_, rfl, ((hB.setCell (by simp) _).setCell (by simp) _).alloc (by rw [hz2]; omega) _, by simp, ?_, (heap_alloc_old _ _ (by rw [hz2]; omega)).trans k3, ?_, by simp, fun b hb hlt => ?_⟩
  · rw [heap_alloc_old _ _ (by rw [hz2]; omega), heap_setCell_other _ _ _ _ (by simp), heap_setCell_other _ _ _ _ (by simp)]; exact h0
  · have := heap_alloc_new ((w1.setCell ⟨B + 1, 0, none⟩ e).setCell ⟨B + 1, 1, none⟩ f) (.cells #[a, b, c] 25)
    rw [hz2] at this; exact this
  · rw [heap_alloc_old _ _ (by rw [hz2]; omega), heap_setCell_other _ _ _ _ (by simp; omega), heap_setCell_other _ _ _ _ (by simp; omega)]
theorem draws_mid2 {w w1 : World} {B : Nat} {a b c : Value} (hB : Below B w w1) (h0 : w1.heap[B]? = some (.cells #[.string ⟨#[]⟩, .slice none 0 0, .slice none 0 0] 25 (0, 0))) :
    ∃ W, W = ((w1.setCell ⟨B, 0, none⟩ a).setCell ⟨B, 1, none⟩ b).setCell ⟨B, 2, none⟩ c ∧ Below B w W ∧ W.heap.size = w1.heap.size ∧ W.heap[B]? = some (.cells #[a, b, c] 25 (0, 0)) ∧ (∀ k, k ≠ B → W.heap[k]? = w1.heap[k]?) := by
  have k2 := heap_setCell_same _ B 0 _ _ a h0
  have k3 := heap_setCell_same _ B 1 _ _ b k2
  have k4 := heap_setCell_same _ B 2 _ _ c k3
  refine ⟨_, rfl, ((hB.setCell (by simp) _).setCell (by simp) _).setCell (by simp) _, by simp, k4, fun k hk => ?_⟩
  rw [heap_setCell_other _ _ _ _ (by simpa using hk), heap_setCell_other _ _ _ _ (by simpa using hk), heap_setCell_other _ _ _ _ (by simpa using hk)]

theorem resultsD (tmps : Array Value) (W : World) (c e : Nat) (fc fe : Array Value) (ok : Value) (hsz : fc.size = 3) (hse : fe.size = 2) (hp : tmps[2]?.getD undef = .pointer (some ⟨c, 0, none⟩)) (hq : tmps[3]?.getD undef = .pointer (some ⟨e, 0, none⟩)) (ht : tmps[4]?.getD undef = ok) (hc : W.heap[c]? = some (.cells fc 25 (0, 0))) (he : W.heap[e]? = some (.cells fe 28 (0, 0))) :
    (results Tryz.f6 tmps).run Tryz.prog W = .ok (.tuple #[.agg fc, .agg fe, ok]) W := by
  simp [results, Tryz.results6, hp, hq, ht, asAddr, load25 hsz hc, load28 hse he]

set_option maxRecDepth 100000 in
set_option maxHeartbeats 4000000 in
theorem draws_walk (s : ByteArray) (w : World) (hs : s.size ≤ 1500) (ev q : Int) (Q E : World → Value → Prop)
    (hR : ∀ W, Below w.heap.size w W → w.heap.size + 2 ≤ W.heap.size → Calls Tryz.prog 21 #[.string s] W fun e w' => ∃ n a x c b y d, e = .returned (.tuple #[.agg #[.string n, .slice a x c, .slice b y d], .agg #[.int .i64 ev, .int .i64 q]]) ∧ Q w' (.agg #[.string n, .slice a x c, .slice b y d]) ∧ Below W.heap.size W w')
    (hP : ∀ W, Below w.heap.size w W → w.heap.size + 2 ≤ W.heap.size → Calls Tryz.prog 16 #[.string s] W fun e w' => ∃ n a x c b y d err, e = .returned (.tuple #[.agg #[.string n, .slice a x c, .slice b y d], err]) ∧ Q w' (.agg #[.string n, .slice a x c, .slice b y d]) ∧ E w' err ∧ Below W.heap.size W w')
    (hQ : ∀ W W' v, Q W v → Mid w.heap.size W W' → Q W' v)
    (hS : ∀ W v v', Q W v → Q W v' → Alike 22 W v v')
    (hE : ∀ W W' err, E W err → W.heap[w.heap.size]? = some (.cells #[.string ⟨#[]⟩, .slice none 0 0, .slice none 0 0] 25 (0, 0)) → (∀ b, b ≠ w.heap.size → W'.heap[b]? = W.heap[b]?) → E W' err)
    (hI : ∀ W err, E W err → Below w.heap.size w W → Calls Tryz.prog 8 #[err, .agg #[.int .i64 ev, .int .i64 q]] W (Yes W)) (hEd : ∀ W err, E W err → E W.drew err) :
    Calls Tryz.prog 6 #[.string s] w fun e w' => ∃ v, e = .returned (.tuple #[v, .agg #[.int .i64 ev, .int .i64 q], .bool true]) ∧ Q w' v ∧ Below w.heap.size w w' := by
  have hs' : ¬ (1500 : Int) < s.size := by omega
  obtain ⟨W0, hW0, hb0, hz0, c0, e0⟩ := draws_open w
  have HR : Hid _ := hR
  have HP : Hid _ := hP
  have HQ : Hid _ := hQ
  have HS : Hid _ := hS
  have HE : Hid _ := hE
  have HI : Hid _ := hI
  have HD : Hid _ := hEd
  clear hR hP hQ hS hE hI hEd hs
  go_enter Tryz.func6, Tryz.ntmps6
  go_upto_region 1 with fail
  rw [show (w.alloc (.cells #[.string ⟨#[]⟩, .slice none 0 0, .slice none 0 0] 25)).alloc (.cells #[.int .i64 0, .int .i64 0] 28) = W0 from hW0.symm]
  clear hW0
  go_upto_region 4 with (go_at_call 21; refine (HR.out _ hb0 (by omega)).mono ?_; rintro e w1 ⟨n1, a1, x1, c1, b1, y1, d1, rfl, hq1, hb1⟩; have hz1 := hb1.size; have k0 := (hb1.block _ (by omega)).trans c0; have k1 := (hb1.block _ (by omega)).trans e0; have f0 : w1.cell? ⟨w.heap.size + 1, 0, none⟩ = some (.int .i64 0) := (by rw [cell_of_row _ _ _ _ _ _ k1]; rfl); have f1 : w1.cell? ⟨w.heap.size + 1, 1, none⟩ = some (.int .i64 0) := (by rw [cell_of_row _ _ _ _ _ _ k1]; rfl); have fz : ∀ o, w1.frozen? ⟨w.heap.size + 1, o, none⟩ = false := (fun o => by simp [World.frozen?, k1]); have fl : w.heap.size + 1 < w1.heap.size := (by omega))
  obtain ⟨W2, hW2, hB2, hz2, c2, e2, g2, hM2⟩ := draws_mid (a := .string n1) (b := .slice a1 x1 c1) (c := .slice b1 y1 d1) (e := .int .i64 ev) (f := .int .i64 q) (hb0.trans (hb1.mono hb0.size)) (by omega) k0 k1
  rw [show ((w1.setCell ⟨w.heap.size + 1, 0, none⟩ (.int .i64 ev)).setCell ⟨w.heap.size + 1, 1, none⟩ (.int .i64 q)).alloc (.cells #[.string n1, .slice a1 x1 c1, .slice b1 y1 d1] 25) = W2 from hW2.symm]
  have hq2 := HQ.out _ _ _ hq1 hM2
  clear hW2 f0 f1 fz k0 k1 hq1 hM2
  go_upto_region 5 with (go_at_call 16; refine (HP.out _ hB2 (by omega)).mono ?_; rintro e w3 ⟨n2, a2, x2, c2', b2, y2, d2, err, rfl, hq3, hE3, hb3⟩; have hz3 := hb3.size; have k0 := (hb3.block _ (by omega)).trans c2; have f0 : w3.cell? ⟨w.heap.size, 0, none⟩ = some (.string ⟨#[]⟩) := (by rw [cell_of_row _ _ _ _ _ _ k0]; rfl); have f1 : w3.cell? ⟨w.heap.size, 1, none⟩ = some (.slice none 0 0) := (by rw [cell_of_row _ _ _ _ _ _ k0]; rfl); have f2 : w3.cell? ⟨w.heap.size, 2, none⟩ = some (.slice none 0 0) := (by rw [cell_of_row _ _ _ _ _ _ k0]; rfl); have fz : ∀ o, w3.frozen? ⟨w.heap.size, o, none⟩ = false := (fun o => by simp [World.frozen?, k0]))
  obtain ⟨W4, hW4, hB4, hz4, c4, o4⟩ := draws_mid2 (a := .string n2) (b := .slice a2 x2 c2') (c := .slice b2 y2 d2) (hB2.trans (hb3.mono hB2.size)) k0
  rw [show ((w3.setCell ⟨w.heap.size, 0, none⟩ (.string n2)).setCell ⟨w.heap.size, 1, none⟩ (.slice a2 x2 c2')).setCell ⟨w.heap.size, 2, none⟩ (.slice b2 y2 d2) = W4 from hW4.symm]
  have e4 : W4.heap[w.heap.size + 1]? = _ := (o4 _ (by omega)).trans ((hb3.block _ (by omega)).trans e2)
  have g4 : W4.heap[w1.heap.size]? = _ := (o4 _ (by omega)).trans ((hb3.block _ (by omega)).trans g2)
  have hq4 := HQ.out _ W4 _ (HQ.out _ w3 _ hq2 ⟨hb3.size, fun b _ hb => hb3.block b hb⟩) ⟨by omega, fun b hb _ => o4 b (by omega)⟩
  have hq5 := HQ.out _ W4 _ hq3 ⟨by omega, fun b hb _ => o4 b (by omega)⟩
  have hE4 := HE.out _ W4 _ hE3 k0 o4
  have hal := HS.out _ _ _ hq5 hq4
  clear hW4 f0 f1 f2 fz k0 hq2 hq3 hE3
  have u0 : W4.cell? ⟨w.heap.size, 0, none⟩ = some (.string n2) := by rw [cell_of_row _ _ _ _ _ _ c4]; rfl
  have u1 : W4.cell? ⟨w.heap.size, 1, none⟩ = some (.slice a2 x2 c2') := by rw [cell_of_row _ _ _ _ _ _ c4]; rfl
  have u2 : W4.cell? ⟨w.heap.size, 2, none⟩ = some (.slice b2 y2 d2) := by rw [cell_of_row _ _ _ _ _ _ c4]; rfl
  have u3 : W4.cell? ⟨w.heap.size + 1, 0, none⟩ = some (.int .i64 ev) := by rw [cell_of_row _ _ _ _ _ _ e4]; rfl
  have u4 : W4.cell? ⟨w.heap.size + 1, 1, none⟩ = some (.int .i64 q) := by rw [cell_of_row _ _ _ _ _ _ e4]; rfl
  have u5 : W4.cell? ⟨w1.heap.size, 0, none⟩ = some (.string n1) := by rw [cell_of_row _ _ _ _ _ _ g4]; rfl
  have u6 : W4.cell? ⟨w1.heap.size, 1, none⟩ = some (.slice a1 x1 c1) := by rw [cell_of_row _ _ _ _ _ _ g4]; rfl
  have u7 : W4.cell? ⟨w1.heap.size, 2, none⟩ = some (.slice b1 y1 d1) := by rw [cell_of_row _ _ _ _ _ _ g4]; rfl
  have z0 : ∀ o, W4.frozen? ⟨w.heap.size, o, none⟩ = false := fun o => by simp [World.frozen?, c4]
  have z1 : ∀ o, W4.frozen? ⟨w.heap.size + 1, o, none⟩ = false := fun o => by simp [World.frozen?, e4]
  have HS8 : Hid (∀ W, Below W4.heap.size W4 W → (W.cell? ⟨w.heap.size, 0, none⟩ = some (.string n2) ∧ W.cell? ⟨w.heap.size, 1, none⟩ = some (.slice a2 x2 c2') ∧ W.cell? ⟨w.heap.size, 2, none⟩ = some (.slice b2 y2 d2) ∧ W.cell? ⟨w.heap.size + 1, 0, none⟩ = some (.int .i64 ev) ∧ W.cell? ⟨w.heap.size + 1, 1, none⟩ = some (.int .i64 q) ∧ W.cell? ⟨w1.heap.size, 0, none⟩ = some (.string n1) ∧ W.cell? ⟨w1.heap.size, 1, none⟩ = some (.slice a1 x1 c1) ∧ W.cell? ⟨w1.heap.size, 2, none⟩ = some (.slice b1 y1 d1) ∧ (∀ o, W.frozen? ⟨w.heap.size, o, none⟩ = false) ∧ (∀ o, W.frozen? ⟨w.heap.size + 1, o, none⟩ = false))) := fun W hb => ⟨(hb.cell (p := ⟨w.heap.size, 0, none⟩) (show w.heap.size < _ by omega)).trans u0, (hb.cell (p := ⟨w.heap.size, 1, none⟩) (show w.heap.size < _ by omega)).trans u1, (hb.cell (p := ⟨w.heap.size, 2, none⟩) (show w.heap.size < _ by omega)).trans u2, (hb.cell (p := ⟨w.heap.size + 1, 0, none⟩) (show w.heap.size + 1 < _ by omega)).trans u3, (hb.cell (p := ⟨w.heap.size + 1, 1, none⟩) (show w.heap.size + 1 < _ by omega)).trans u4, (hb.cell (p := ⟨w1.heap.size, 0, none⟩) (show w1.heap.size < _ by omega)).trans u5, (hb.cell (p := ⟨w1.heap.size, 1, none⟩) (show w1.heap.size < _ by omega)).trans u6, (hb.cell (p := ⟨w1.heap.size, 2, none⟩) (show w1.heap.size < _ by omega)).trans u7, fun o => by rw [World.frozen?, hb.block _ (show w.heap.size < _ by omega)]; exact z0 o, fun o => by rw [World.frozen?, hb.block _ (show w.heap.size + 1 < _ by omega)]; exact z1 o⟩
  have hS4 := HS8.out W4.drew (Below.refl _ _).drew
  go_region_held3 (fun w' => (w'.cell? ⟨w.heap.size, 0, none⟩ = some (.string n2) ∧ w'.cell? ⟨w.heap.size, 1, none⟩ = some (.slice a2 x2 c2') ∧ w'.cell? ⟨w.heap.size, 2, none⟩ = some (.slice b2 y2 d2) ∧ w'.cell? ⟨w.heap.size + 1, 0, none⟩ = some (.int .i64 ev) ∧ w'.cell? ⟨w.heap.size + 1, 1, none⟩ = some (.int .i64 q) ∧ w'.cell? ⟨w1.heap.size, 0, none⟩ = some (.string n1) ∧ w'.cell? ⟨w1.heap.size, 1, none⟩ = some (.slice a1 x1 c1) ∧ w'.cell? ⟨w1.heap.size, 2, none⟩ = some (.slice b1 y1 d1) ∧ (∀ o, w'.frozen? ⟨w.heap.size, o, none⟩ = false) ∧ (∀ o, w'.frozen? ⟨w.heap.size + 1, o, none⟩ = false)))
    (first | (rw [setCell_self t0, setCell_self t1, setCell_self t2, setCell_self t3, setCell_self t4]; with_reducible exact hS6) | (rw [setCell_self t0, setCell_self t1, setCell_self t2]; with_reducible exact hS6) | with_reducible exact hS6 | with_reducible exact hS5 | with_reducible exact hS4)
    (first
      | (go_at_call 8; refine (HI.out _ err (HD.out _ _ hE4) hB4.drew).mono ?_; rintro e w5 ⟨rfl, hb5⟩; have hS5 : (w5.cell? ⟨w.heap.size, 0, none⟩ = some (.string n2) ∧ w5.cell? ⟨w.heap.size, 1, none⟩ = some (.slice a2 x2 c2') ∧ w5.cell? ⟨w.heap.size, 2, none⟩ = some (.slice b2 y2 d2) ∧ w5.cell? ⟨w.heap.size + 1, 0, none⟩ = some (.int .i64 ev) ∧ w5.cell? ⟨w.heap.size + 1, 1, none⟩ = some (.int .i64 q) ∧ w5.cell? ⟨w1.heap.size, 0, none⟩ = some (.string n1) ∧ w5.cell? ⟨w1.heap.size, 1, none⟩ = some (.slice a1 x1 c1) ∧ w5.cell? ⟨w1.heap.size, 2, none⟩ = some (.slice b1 y1 d1) ∧ (∀ o, w5.frozen? ⟨w.heap.size, o, none⟩ = false) ∧ (∀ o, w5.frozen? ⟨w.heap.size + 1, o, none⟩ = false)) := (HS8.out _ (((Below.refl _ _).drew).trans hb5)))
      | (go_at_call 22; refine (hal _ (((Below.refl _ _).drew).trans hb5)).mono ?_; rintro e w6 ⟨rfl, hb6⟩; have hb46 := (((Below.refl W4.heap.size W4).drew).trans hb5).trans (hb6.mono hb5.size); have hS6 : (w6.cell? ⟨w.heap.size, 0, none⟩ = some (.string n2) ∧ w6.cell? ⟨w.heap.size, 1, none⟩ = some (.slice a2 x2 c2') ∧ w6.cell? ⟨w.heap.size, 2, none⟩ = some (.slice b2 y2 d2) ∧ w6.cell? ⟨w.heap.size + 1, 0, none⟩ = some (.int .i64 ev) ∧ w6.cell? ⟨w.heap.size + 1, 1, none⟩ = some (.int .i64 q) ∧ w6.cell? ⟨w1.heap.size, 0, none⟩ = some (.string n1) ∧ w6.cell? ⟨w1.heap.size, 1, none⟩ = some (.slice a1 x1 c1) ∧ w6.cell? ⟨w1.heap.size, 2, none⟩ = some (.slice b1 y1 d1) ∧ (∀ o, w6.frozen? ⟨w.heap.size, o, none⟩ = false) ∧ (∀ o, w6.frozen? ⟨w.heap.size + 1, o, none⟩ = false)) := HS8.out _ hb46; have t0 := hS6.1; have t1 := hS6.2.1; have t2 := hS6.2.2.1; have t3 := hS6.2.2.2.1; have t4 := hS6.2.2.2.2.1))
  all_goals
    rw [setCell_self t0, setCell_self t1, setCell_self t2, setCell_self t3, setCell_self t4]
    go_wp2_with fail
    refine bodyPost_ret (resultsD _ _ _ _ _ _ _ rfl rfl rfl rfl rfl (hb46.block _ (by omega) |>.trans c4) (hb46.block _ (by omega) |>.trans e4)) rfl ?_
    exact ⟨_, rfl, HQ.out _ _ _ hq5 ⟨hb46.size, fun b _ hb => hb46.block b hb⟩, hB4.trans (hb46.mono hB4.size)⟩
end Go.Proofs.YtanlfmhlohcmgaaGreatDoor
