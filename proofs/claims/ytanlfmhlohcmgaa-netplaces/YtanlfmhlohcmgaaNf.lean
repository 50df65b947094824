/- Two machines of one code, tick by tick. -/
import Derived.Test.YtanlfmhlohcmgaaNc
namespace Go.Proofs.Ytanlfmhlohcmgaa
open Go.RowKit
namespace Nx

/-- two machines side by side, and the box that holds their code -/
structure Two (B q : Nat) (vO : Value) (n : Nt) (w : World) (b1 g1 b2 g2 : Nat) (V1 V2 : List Int) : Prop where
  m1 : IsM B w b1 g1 n V1
  m2 : IsM B w b2 g2 n V2
  a1 : b1 ≠ b2
  a2 : b1 ≠ g2
  a3 : g1 ≠ b2
  a4 : g1 ≠ g2
  cq : w.cell? ⟨q, 3, none⟩ = some vO
  qB : B ≤ q
  q1 : q ≠ b1 ∧ q ≠ g1
  q2 : q ≠ b2 ∧ q ≠ g2

/-- what was told, apart from both machines -/
def Res (w : World) (b1 g1 b2 g2 : Nat) (v : Value) (zs : List Int) : Prop := Ints (fun b => (b ≠ b1 ∧ b ≠ g1) ∧ b ≠ b2 ∧ b ≠ g2) w v zs

theorem IsM.lt {B : Nat} {w : World} {bm g : Nat} {n : Nt} {V : List Int} (h : IsM B w bm g n V) : bm < w.heap.size := by
  obtain ⟨_, _, _, _, _, _, _, hrow, _⟩ := h.row
  exact lt_of_block hrow
theorem IsM.keep {B : Nat} {w w' : World} {bm g : Nat} {n : Nt} {V : List Int} (h : IsM B w bm g n V) (hs : w.heap.size ≤ w'.heap.size) (h1 : w'.heap[bm]? = w.heap[bm]?) (h2 : w'.heap[g]? = w.heap[g]?) (k : ∀ b, b < B → b < w.heap.size → w'.heap[b]? = w.heap[b]?) : IsM B w' bm g n V := by
  obtain ⟨⟨vF, vI, vO, vK, vN, vC, vp, hm, hI, hO, hK, hN, hC, hp⟩, hb, hg, gm, gl⟩ := h
  have kk : Keep (· < B) (· < B) w w' := fun b hb hl => ⟨hb, k b hb hl⟩
  exact ⟨⟨vF, vI, vO, vK, vN, vC, vp, by rw [h1]; exact hm, hI.carry kk, hO.carry kk, hK.carry kk, hN.carry kk, hC.carry kk, hp.keep h2⟩, hb, hg, gm, by omega⟩
theorem IsM.fr {B : Nat} {w w' : World} {bm g : Nat} {n : Nt} {V : List Int} {X : List Nat} (h : IsM B w bm g n V) (hF : Fr w.heap.size X w w') (h1 : bm ∉ X) (h2 : g ∉ X) (h3 : ∀ x ∈ X, B ≤ x) : IsM B w' bm g n V :=
  h.keep hF.size (hF.block bm h.lt h1) (hF.block g h.gl h2) (fun b hb hl => hF.block b hl (fun hm => by have := h3 b hm; omega))

theorem Two.swap {B q : Nat} {vO : Value} {n : Nt} {w : World} {b1 g1 b2 g2 : Nat} {V1 V2 : List Int} (h : Two B q vO n w b1 g1 b2 g2 V1 V2) : Two B q vO n w b2 g2 b1 g1 V2 V1 :=
  ⟨h.m2, h.m1, h.a1.symm, h.a3.symm, h.a2.symm, h.a4.symm, h.cq, h.qB, h.q2, h.q1⟩
theorem Res.swap {w : World} {b1 g1 b2 g2 : Nat} {v : Value} {zs : List Int} (h : Res w b1 g1 b2 g2 v zs) : Res w b2 g2 b1 g1 v zs := by
  obtain ⟨ad, b, off, cap, e, p1, p2⟩ := h
  exact ⟨ad, b, off, cap, e, fun hp => ⟨(p1 hp).1, (p1 hp).2.2, (p1 hp).2.1⟩, p2⟩

theorem Two.below {B q : Nat} {vO : Value} {n : Nt} {w w' : World} {b1 g1 b2 g2 : Nat} {V1 V2 : List Int} (h : Two B q vO n w b1 g1 b2 g2 V1 V2) (hb : Below w.heap.size w w') : Two B q vO n w' b1 g1 b2 g2 V1 V2 :=
  ⟨h.m1.fr (Fr.of_below hb []) (by simp) (by simp) (by simp), h.m2.fr (Fr.of_below hb []) (by simp) (by simp) (by simp), h.a1, h.a2, h.a3, h.a4, cell_below hb h.cq, h.qB, h.q1, h.q2⟩
theorem Res.below {w w' : World} {b1 g1 b2 g2 : Nat} {v : Value} {zs : List Int} (h : Res w b1 g1 b2 g2 v zs) (hb : Below w.heap.size w w') : Res w' b1 g1 b2 g2 v zs :=
  Ints.carry h fun b hx hl => ⟨hx, hb.block b hl⟩

/-- a tick of the first one -/
theorem tick_first (B q : Nat) (vO : Value) (n : Nt) (b1 g1 b2 g2 : Nat) (V1 V2 ins : List Int) (vi : Value) (w : World) (h : Two B q vO n w b1 g1 b2 g2 V1 V2) (hi : Ints (· < B) w vi ins) (hf : Few n V1) (V' zs : List Int) (hV : after n V1 ins = V') (hz : tells n V1 ins = zs) (k : Nat) (hk : zs.length = k) :
    Calls Try.prog 14 #[.pointer (some ⟨b1, 0, none⟩), vi] w fun e w' => ∃ ad cap, e = .returned (.slice ad k cap) ∧ Hid (∃ g', Two B q vO n w' b1 g' b2 g2 V' V2 ∧ Res w' b1 g' b2 g2 (.slice ad k cap) zs ∧ (∀ u ys, Res w b1 g1 b2 g2 u ys → Res w' b1 g' b2 g2 u ys) ∧ Below B w w') := by
  subst hk
  refine (tick_any B n V1 ins b1 g1 vi w h.m1 hi hf).mono fun e w' ⟨v, g', he, hM, hr, hF, hg1, hg2⟩ => ?_
  rw [hV] at hM
  rw [hz] at hr
  obtain ⟨ad, b, off, cap, rfl, p1, p2⟩ := hr
  have l1 := h.m1.lt; have l2 := h.m2.lt; have l3 := h.m2.gl; have l4 := h.m1.gl
  have a1 := h.a1; have a2 := h.a2; have a3 := h.a3; have a4 := h.a4
  have B1 := h.m1.hb; have B2 := h.m1.hg
  have ql := lt_of_cell h.cq
  refine ⟨ad, cap, he, g', ⟨hM, h.m2.fr hF (by simp; omega) (by simp; omega) (by simp; omega), a1, a2, by omega, by omega, ?_, h.qB, ⟨h.q1.1, by omega⟩, h.q2⟩, ⟨ad, b, off, cap, rfl, fun hp => ?_, p2⟩, fun u ys hu => ?_, frBelow hF (by have := h.m1.hb; omega) (by simp; omega)⟩
  · rw [cell_of_block (hF.block q ql (by have := h.q1; simp; omega))]; exact h.cq
  · obtain ⟨e, x1, x2⟩ := p1 hp
    exact ⟨e, ⟨by omega, by omega⟩, by omega, by omega⟩
  · exact Ints.carry hu fun y hy hl => ⟨⟨⟨hy.1.1, by omega⟩, hy.2⟩, hF.block y hl (by have := hy.1; simp; omega)⟩

theorem tick_second (B q : Nat) (vO : Value) (n : Nt) (b1 g1 b2 g2 : Nat) (V1 V2 ins : List Int) (vi : Value) (w : World) (h : Two B q vO n w b1 g1 b2 g2 V1 V2) (hi : Ints (· < B) w vi ins) (hf : Few n V2) (V' zs : List Int) (hV : after n V2 ins = V') (hz : tells n V2 ins = zs) (k : Nat) (hk : zs.length = k) :
    Calls Try.prog 14 #[.pointer (some ⟨b2, 0, none⟩), vi] w fun e w' => ∃ ad cap, e = .returned (.slice ad k cap) ∧ Hid (∃ g', Two B q vO n w' b1 g1 b2 g' V1 V' ∧ Res w' b1 g1 b2 g' (.slice ad k cap) zs ∧ (∀ u ys, Res w b1 g1 b2 g2 u ys → Res w' b1 g1 b2 g' u ys) ∧ Below B w w') := by
  refine (tick_first B q vO n b2 g2 b1 g1 V2 V1 ins vi w h.swap hi hf V' zs hV hz k hk).mono fun e w' ⟨ad, cap, he, X⟩ => ⟨ad, cap, he, ?_⟩
  obtain ⟨g', x1, x2, x3, x4⟩ := X.out
  exact ⟨g', x1.swap, x2.swap, fun u ys hu => (x3 u ys hu.swap).swap, x4⟩

/-! nothing is kept -/
theorem after_none (n : Nt) (V ins : List Int) (h : n.keeps = []) : after n V ins = List.replicate V.length 0 := by
  unfold after; rw [h]; simp [keepK, ran_len]
end Nx
end Go.Proofs.Ytanlfmhlohcmgaa
