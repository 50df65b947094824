/- A row of numbers that grows beside a machine. -/
import Derived.Test.YtanlfmhlohcmgaaNp1
import Derived.Test.YtanlfmhlohcmgaaNf
import Derived.Test.YtanlfmhlohcmgaaNo
import Derived.Deep.AppendLies
import Derived.Deep.AppendSrc
import Derived.RegionTactic
namespace Go.Proofs.Ytanlfmhlohcmgaa
open Go.RowKit
namespace Nx

/-- a row of numbers that the call made itself -/
def RowG (e : TypeId) (B : Nat) (w : World) (v : Value) (zs : List Int) : Prop := w.ownsRow B e 1 v zs.length (zs.map (Value.int .i64))
abbrev RowI := RowG 2
theorem RowG.keep {e : TypeId} {B : Nat} {w w' : World} {v : Value} {zs : List Int} (h : RowG e B w v zs) (hk : ∀ k, v.ownBlock = some k → w'.heap[k]? = w.heap[k]?) : RowG e B w' v zs := by
  obtain ⟨hl, h2⟩ := h
  refine ⟨hl, ?_⟩
  rcases h2 with h2 | ⟨g, cap, cur, rfl, hB, hg, hr⟩
  · exact .inl h2
  · exact .inr ⟨g, cap, cur, rfl, hB, by rw [hk g rfl]; exact hg, hr⟩
theorem RowG.nil (e : TypeId) (B : Nat) (w : World) : RowG e B w (.slice none 0 0) [] := World.ownsRow_nil _ _ _ _
theorem RowG.form {e : TypeId} {B : Nat} {w : World} {v : Value} {zs : List Int} (h : RowG e B w v zs) : ∃ ad cap, v = .slice ad zs.length cap ∧ (∀ k, v.ownBlock = some k → B ≤ k ∧ k < w.heap.size) := by
  obtain ⟨hl, h2⟩ := h
  rcases h2 with ⟨rfl, h0⟩ | ⟨g, cap, cur, rfl, hB, hg, hr⟩
  · exact ⟨none, 0, by rw [h0], fun k hk => by simp [Value.ownBlock] at hk⟩
  · refine ⟨_, cap, rfl, fun k hk => ?_⟩
    have : g = k := by simpa [Value.ownBlock] using hk
    subst this
    exact ⟨hB, lt_of_block hg⟩
theorem RowG.ints {e : TypeId} {B : Nat} {w : World} {v : Value} {zs : List Int} (h : RowG e B w v zs) : Ints (fun b => B ≤ b ∧ b < w.heap.size) w v zs := by
  obtain ⟨g, hg, hB, hl, _⟩ := own_of_row h
  by_cases hp : 0 < zs.length
  · exact hg.ints fun _ => ⟨hB, hl hp⟩
  · obtain ⟨ad, cap, e, _⟩ := hg
    exact ⟨ad, 0, 0, cap, e, fun h => absurd h hp, fun k hk => absurd hk (by omega)⟩

/-- an append whose run is known, at a step of a region that draws its order -/
theorem step_app {P : Program} {w w' : World} {ops : Array Oper} {o : Oper} {a : Act} {K : Act → World → Prop} {Q : Exit → Act → World → Prop} {E : Prop} (hgd : o.guard = none) (s x : Operand) (t : TypeId)
    (ho : o.op = .call { callee := .builtin .append, args := #[s, x], argTypes := #[t, t] }) (vs vx r : Value) (hs : a.eval s = vs) (hx : a.eval x = vx) (hr : (Builtin.append_ #[t, t] o.type #[vs, vx]).run P w = .ok r w') (h : K (a.put o.dst r) w') :
    if Region.wanted o (yielded ops a.tmps) = true then Oper.wp P o a w K Q else E := by
  have hw : Region.wanted o (yielded ops a.tmps) = true := by simp [Region.wanted, hgd]
  rw [if_pos hw]
  unfold Oper.wp execOp
  simp only [ho, resolve, invoke, builtin, Sem.run_bind, Sem.run_pure, Result.andThen_ok, List.map_toArray, List.map_cons, List.map_nil, hs, hx, hr]
  exact h

theorem appG {A : Nat → Prop} (t e : TypeId) (ht : Try.prog.underlying t = some (.slice e)) (hinf : (Try.prog.info? e).map (fun i => (i.zero, i.size, i.bytes)) = some (some (.int .i64 0), 1, 8)) (B : Nat) (w : World) (v x : Value) (zs ys : List Int) (h : RowG e B w v zs) (hx : Ints A w x ys) (hB : B ≤ w.heap.size) (hp : 0 < zs.length ∨ 0 < ys.length) (hl : zs.length + ys.length ≤ 1000000) :
    ∃ g cap w', (Builtin.append_ #[t, t] t #[v, x]).run Try.prog w = .ok (.slice (some ⟨g, 0, none⟩) (zs.length + ys.length) cap) w' ∧
      RowG e B w' (.slice (some ⟨g, 0, none⟩) (zs.length + ys.length) cap) (zs ++ ys) ∧ w.grownBy w' v.ownBlock ∧ (v.ownBlock = some g ∨ g = w.heap.size) ∧ g < w'.heap.size := by
  obtain ⟨i0, hi, hz0, hz1, hz2⟩ := info_parts hinf
  obtain ⟨ad, b, off, c, rfl, p1, p2⟩ := hx
  by_cases h0 : 0 < ys.length
  · obtain ⟨rfl, _⟩ := p1 h0
    obtain ⟨g, cap, w', hr, h2, h3, h4, h5⟩ := run_append_lies (P := Try.prog) w t t B e i0 (.int .i64 0) 1 8 ht hi hz0 hz1 hz2 rfl (by decide) v zs.length _ h ⟨b, off, none⟩ ys.length c (ys.map (Value.int .i64)) (by simp)
      (fun j u hu => by
        rw [add_none]
        rw [List.getElem?_map] at hu
        have hj : j < ys.length := by
          rcases Nat.lt_or_ge j ys.length with hj | hj
          · exact hj
          · rw [List.getElem?_eq_none hj] at hu; simp at hu
        rw [p2 j hj]
        rw [List.getElem?_eq_getElem hj] at hu
        simpa [List.getD_eq_getElem?_getD, hj] using hu)
      (fun u hu => by obtain ⟨_, _, rfl⟩ := List.mem_map.1 hu; rfl) h0 (by unfold maxLen; omega) (by omega) hB _ rfl
    refine ⟨g, cap, w', hr, ?_, h3, h4, h5⟩
    unfold RowG
    rw [List.length_append, List.map_append]; exact h2
  · obtain rfl : ys = [] := List.length_eq_zero_iff.1 (by omega)
    obtain ⟨hl', h2⟩ := id h
    rcases h2 with ⟨_, h0'⟩ | ⟨g, cap, cur, rfl, hB', hg, hn, hc, hs, hcur⟩
    · simp at hp; omega
    · have hsrc : Src Try.prog i0.size t (.slice ad 0 c) 0 [] w := by
        cases ad with
        | none => exact Src.ofNil w ht c
        | some a => exact Src.ofSlice w ht a 0 c [] (by simp) (fun j u hu => by simp at hu) (fun u hu => by simp at hu)
      have hr := run_append_room_src (P := Try.prog) w t t t e i0 ht hi g 0 zs.length cap (.slice ad 0 c) 0 [] hsrc (by omega) (fun j hj => by simp at hj) (fun j hj => by simp at hj)
      refine ⟨g, cap, w, hr, ?_, ⟨rfl, rfl, rfl, Nat.le_refl _, fun _ _ _ => rfl⟩, .inl rfl, lt_of_block hg⟩
      rw [List.append_nil]; exact h

theorem app64 {A : Nat → Prop} (B : Nat) (w : World) (v x : Value) (zs ys : List Int) (h : RowI B w v zs) (hx : Ints A w x ys) (hB : B ≤ w.heap.size) (hp : 0 < zs.length ∨ 0 < ys.length) (hl : zs.length + ys.length ≤ 1000000) :
    ∃ g cap w', (Builtin.append_ #[22, 22] 22 #[v, x]).run Try.prog w = .ok (.slice (some ⟨g, 0, none⟩) (zs.length + ys.length) cap) w' ∧
      RowI B w' (.slice (some ⟨g, 0, none⟩) (zs.length + ys.length) cap) (zs ++ ys) ∧ w.grownBy w' v.ownBlock ∧ (v.ownBlock = some g ∨ g = w.heap.size) ∧ g < w'.heap.size :=
  appG 22 2 Try.underlying22 Try.infoI64 B w v x zs ys h hx hB hp hl

/-- a machine, and beside it a row of numbers that grows -/
structure TO (B : Nat) (n : Nt) (w0 w : World) (bm g : Nat) (V : List Int) (v : Value) (zs : List Int) : Prop where
  m : IsM B w bm g n V
  row : RowI B w v zs
  f1 : v.ownBlock ≠ some bm
  f2 : v.ownBlock ≠ some g
  bl : Below B w0 w
  hB : B ≤ w.heap.size
theorem TO.below {B : Nat} {n : Nt} {w0 w w' : World} {bm g : Nat} {V : List Int} {v : Value} {zs : List Int} (h : TO B n w0 w bm g V v zs) (hb : Below w.heap.size w w') : TO B n w0 w' bm g V v zs := by
  obtain ⟨_, _, _, hk⟩ := h.row.form
  exact ⟨h.m.fr (Fr.of_below hb []) (by simp) (by simp) (by simp), h.row.keep fun k e => hb.block k (hk k e).2, h.f1, h.f2, h.bl.trans (hb.mono h.hB), Nat.le_trans h.hB hb.size⟩
theorem TO.app {A : Nat → Prop} {B : Nat} {n : Nt} {w0 w : World} {bm g : Nat} {V : List Int} {v : Value} {zs : List Int} (h : TO B n w0 w bm g V v zs) (x : Value) (ys : List Int) (hx : Ints A w x ys) (hp : 0 < zs.length ∨ 0 < ys.length) (hl : zs.length + ys.length ≤ 1000000) :
    ∃ g1 cap w', (Builtin.append_ #[22, 22] 22 #[v, x]).run Try.prog w = .ok (.slice (some ⟨g1, 0, none⟩) (zs.length + ys.length) cap) w' ∧
      TO B n w0 w' bm g V (.slice (some ⟨g1, 0, none⟩) (zs.length + ys.length) cap) (zs ++ ys) ∧ w.grownBy w' v.ownBlock := by
  obtain ⟨g1, cap, w', hr, h2, h3, h4, h5⟩ := app64 B w v x zs ys h.row hx h.hB hp hl
  obtain ⟨_, _, _, hk⟩ := h.row.form
  have hF : Fr w.heap.size v.ownBlock.toList w w' := ⟨h3.os, h3.tape, h3.output, h3.size, fun b hb hx => h3.block b hb (fun e => hx (by rw [← e]; simp))⟩
  have hm : ∀ b, b ∈ v.ownBlock.toList → v.ownBlock = some b := fun b hb => by simpa using hb
  have e : ∀ b, (Value.slice (some ⟨g1, 0, none⟩) (zs.length + ys.length) cap).ownBlock = some b ↔ g1 = b := fun b => by simp [Value.ownBlock]
  have l1 := h.m.lt; have l2 := h.m.gl
  refine ⟨g1, cap, w', hr, ⟨h.m.fr hF (fun hb => h.f1 (hm _ hb)) (fun hb => h.f2 (hm _ hb)) (fun b hb => (hk b (hm b hb)).1), h2, fun hb => ?_, fun hb => ?_, ?_, Nat.le_trans h.hB h3.size⟩, h3⟩
  · have := (e bm).1 hb
    rcases h4 with h4 | h4
    · exact h.f1 (this ▸ h4)
    · omega
  · have := (e g).1 hb
    rcases h4 with h4 | h4
    · exact h.f2 (this ▸ h4)
    · omega
  · exact h.bl.trans (frBelow hF h.hB (fun b hb => (hk b (hm b hb)).1))
theorem TO.tick {B : Nat} {n : Nt} {w0 w : World} {bm g : Nat} {V : List Int} {v : Value} {zs : List Int} (h : TO B n w0 w bm g V v zs) (ins : List Int) (vi : Value) (hi : Ints (· < B) w vi ins) (hf : Few n V) :
    Calls Try.prog 14 #[.pointer (some ⟨bm, 0, none⟩), vi] w fun e w' => ∃ vr, e = .returned vr ∧ Hid (∃ g', TO B n w0 w' bm g' (after n V ins) v zs ∧ Ints (fun b => w.heap.size ≤ b ∧ b < g') w' vr (tells n V ins) ∧ Fr w.heap.size [bm, g] w w' ∧ g' < w'.heap.size) := by
  obtain ⟨_, _, _, hk⟩ := h.row.form
  have l1 := h.m.lt; have l2 := h.m.gl; have b1 := h.m.hb; have b2 := h.m.hg
  refine (tick_any B n V ins bm g vi w h.m hi hf).mono fun e w' ⟨vr, g', he, hM, hr, hF, hg1, hg2⟩ => ⟨vr, he, g', ⟨hM, h.row.keep fun k e => hF.block k (hk k e).2 ?_, h.f1, fun e => ?_, ?_, Nat.le_trans h.hB hF.size⟩, hr, hF, hg2⟩
  · intro hm
    rcases List.mem_cons.1 hm with rfl | hm
    · exact h.f1 e
    · rw [List.mem_singleton.1 hm] at e; exact h.f2 e
  · have := (hk g' e).2; omega
  · exact h.bl.trans (frBelow hF h.hB (by simp; omega))
end Nx
end Go.Proofs.Ytanlfmhlohcmgaa
