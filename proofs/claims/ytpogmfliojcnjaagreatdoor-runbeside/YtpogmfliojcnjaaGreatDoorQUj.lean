import Derived.Test.YtpogmfliojcnjaaGreatDoorQUk
import Derived.Test.YtpogmfliojcnjaaGreatDoorQUr
namespace Go.Proofs.YtpogmfliojcnjaaGreatDoor
open Go.RowKit Px
structure RnL where
 bn : Nat
 bw : Nat
 m : Nat
 gR : Nat
 gr : Nat → Nat
 rl : Nat → Nat
structure ChartR (c : Chart) : Prop where
 vl : c.vars.length ≤ 1000000
 vn : ∀ v ∈ c.vars, v.name.length ≤ maxLen
 rl : c.regions.length ≤ maxLen
 st : ∀ L ∈ c.regions, StAll (vnames c.vars) 6 L
structure RnM (A : Nat → Prop) (w : World) (c : Chart) (r : Rn) (rb : Nat) (Q : Nat → Prop) (x : RnL) : Prop where
 hv : ∃ vv adR capR, w.heap[rb]? = some (.cells #[vv, .map (some x.bn), .map (some x.bw), .slice adR c.regions.length capR] 79 (0, 0)) ∧ IsVars A w c.vars vv ∧ (0 < c.regions.length → adR = some ⟨x.gR, 0, none⟩ ∧ Q x.gR ∧ x.rl x.gR = 3)
 mn : MapE w x.bn x.m (vnames c.vars) r.now
 mw : MapE w x.bw x.m (vnames c.vars) r.was
 hm : x.m ≤ 1000000
 q0 : Q rb ∧ x.rl rb = 0
 q1 : Q x.bn ∧ x.rl x.bn = 1
 q2 : Q x.bw ∧ x.rl x.bw = 2
 hA : ∀ b, A b → b < w.heap.size ∧ ¬ Q b
 hQ : ∀ b, Q b → b < w.heap.size
 len : r.ds.length = c.regions.length
 reg : ∀ j L d, c.regions[j]? = some L → r.ds[j]? = some d → w.cell? ⟨x.gR, j, none⟩ = some (.pointer (some ⟨x.gr j, 0, none⟩)) ∧ RegM A 6 w (fun b => Q b ∧ x.rl b = 4 + j) L d (x.gr j)
structure FrQ (Q : Nat → Prop) (w w' : World) : Prop where
 os : w'.os = w.os
 tape : w'.tape = w.tape
 output : w'.output = w.output
 size : w.heap.size ≤ w'.heap.size
 block : ∀ b, b < w.heap.size → ¬ Q b → w'.heap[b]? = w.heap[b]?
theorem FrQ.refl (Q : Nat → Prop) (w : World) : FrQ Q w w := ⟨rfl, rfl, rfl, Nat.le_refl _, fun _ _ _ => rfl⟩
theorem FrQ.trans {Q : Nat → Prop} {w w' w'' : World} (h : FrQ Q w w') (k : FrQ Q w' w'') : FrQ Q w w'' :=
 ⟨k.os.trans h.os, k.tape.trans h.tape, k.output.trans h.output, Nat.le_trans h.size k.size, fun b hb hq => (k.block b (Nat.lt_of_lt_of_le hb h.size) hq).trans (h.block b hb hq)⟩
theorem FrQ.of_below {Q : Nat → Prop} {w w' : World} (h : Below w.heap.size w w') : FrQ Q w w' := ⟨h.os, h.tape, h.output, h.size, fun b hb _ => h.block b hb⟩
theorem FrQ.of_frp {Q P : Nat → Prop} {bn : Nat} {w w' : World} (h : FrP P bn w w') (hP : ∀ b, P b → Q b) (hb : Q bn) : FrQ Q w w' :=
 ⟨h.os, h.tape, h.output, h.size, fun b hl hq => h.block b hl (fun hp => hq (hP b hp)) (fun e => hq (e ▸ hb))⟩
section
variable {A Q : Nat → Prop} {w w' : World} {c : Chart} {r : Rn} {rb : Nat} {x : RnL}
theorem RnM.runV (h : RnM A w c r rb Q x) : RunV w rb x.bn x.bw x.m (vnames c.vars) r.now r.was := by
 obtain ⟨vv, aR, cR, hk, _⟩ := h.hv
 exact ⟨cell_row hk 1 rfl, cell_row hk 2 rfl, h.mn, h.mw, h.hm⟩
theorem RnM.rn (h : RnM A w c r rb Q x) : rb ≠ x.bn := fun e => by have h1 := h.q0.2; have h2 := h.q1.2; rw [← e] at h2; omega
theorem RnM.wn (h : RnM A w c r rb Q x) : x.bw ≠ x.bn := fun e => by have h1 := h.q2.2; have h2 := h.q1.2; rw [← e] at h2; omega
theorem RnM.sep (h : RnM A w c r rb Q x) (j : Nat) : Sep A (fun b => Q b ∧ x.rl b = 4 + j) w rb x.bn x.bw :=
 ⟨fun b hb => ⟨(h.hA b hb).1, fun hq => (h.hA b hb).2 hq.1, fun e => (h.hA b hb).2 (e ▸ h.q1.1)⟩,
  fun b hb => ⟨h.hQ b hb.1, fun e => by have := h.q0.2; rw [← e, hb.2] at this; omega, fun e => by have := h.q1.2; rw [← e, hb.2] at this; omega, fun e => by have := h.q2.2; rw [← e, hb.2] at this; omega⟩, h.rn, h.wn⟩
theorem RnM.apart {Q' : Nat → Prop} (h : RnM A w c r rb Q x) (hf : FrQ Q' w w') (hQ : ∀ b, Q b → ¬ Q' b) (hA : ∀ b, A b → ¬ Q' b) : RnM A w' c r rb Q x := by
 have hq : ∀ b, Q b → w'.heap[b]? = w.heap[b]? := fun b hb => hf.block b (h.hQ b hb) (hQ b hb)
 have ha : ∀ b, A b → b < w.heap.size → w'.heap[b]? = w.heap[b]? := fun b hb hl => hf.block b hl (hA b hb)
 obtain ⟨vv, aR, cR, hk, hvs, hR⟩ := h.hv
 refine ⟨⟨vv, aR, cR, by rw [hq rb h.q0.1]; exact hk, hvs.carry fun b hb hl => ⟨hb, ha b hb hl⟩, hR⟩, h.mn.keep (hq _ h.q1.1), h.mw.keep (hq _ h.q2.1), h.hm, h.q0, h.q1, h.q2, fun b hb => ⟨Nat.lt_of_lt_of_le (h.hA b hb).1 hf.size, (h.hA b hb).2⟩, fun b hb => Nat.lt_of_lt_of_le (h.hQ b hb) hf.size, h.len, fun j L d hL hd => ?_⟩
 obtain ⟨h1, h2⟩ := h.reg j L d hL hd
 have hlt : j < c.regions.length := (List.getElem?_eq_some_iff.1 hL).1
 exact ⟨by rw [World.cell?_of_block (w := w) (a := ⟨x.gR, j, none⟩) (hq _ (hR (by omega)).2.1)]; exact h1, RegM.keep 6 h2 ha fun b hb => hq b hb.1⟩
theorem RnM.below (h : RnM A w c r rb Q x) (hb : Below w.heap.size w w') : RnM A w' c r rb Q x :=
 h.apart (Q' := fun _ => False) (FrQ.of_below hb) (fun _ _ h => h) (fun _ _ h => h)
theorem RnM.region {j : Nat} {L : List (St 6)} {d d' : Rd 6} {now' : Px.Env} (h : RnM A w c r rb Q x) (hL : c.regions[j]? = some L) (hd : r.ds[j]? = some d) (hf : FrP (fun b => Q b ∧ x.rl b = 4 + j) x.bn w w') (hv : RunV w' rb x.bn x.bw x.m (vnames c.vars) now' r.was) (hR : RegM A 6 w' (fun b => Q b ∧ x.rl b = 4 + j) L d' (x.gr j)) :
    RnM A w' c ⟨now', r.was, r.ds.set j d'⟩ rb Q x := by
 have hS := h.sep j
 have hq : ∀ b, Q b → x.rl b ≠ 4 + j → x.rl b ≠ 1 → w'.heap[b]? = w.heap[b]? := fun b hb hr h1 => hf.block b (h.hQ b hb) (fun e => hr e.2) (fun e => h1 (e ▸ h.q1.2))
 have ha : ∀ b, A b → b < w.heap.size → w'.heap[b]? = w.heap[b]? := fun b hb hl => hf.block b hl (fun e => (h.hA b hb).2 e.1) (hS.a b hb).2.2
 obtain ⟨vv, aR, cR, hk, hvs, hRR⟩ := h.hv
 refine ⟨⟨vv, aR, cR, by rw [hq rb h.q0.1 (by rw [h.q0.2]; omega) (by rw [h.q0.2]; omega)]; exact hk, hvs.carry fun b hb hl => ⟨hb, ha b hb hl⟩, hRR⟩, hv.mn, hv.mw, h.hm, h.q0, h.q1, h.q2, fun b hb => ⟨Nat.lt_of_lt_of_le (h.hA b hb).1 hf.size, (h.hA b hb).2⟩, fun b hb => Nat.lt_of_lt_of_le (h.hQ b hb) hf.size, by simpa using h.len, fun j' L' d0 hL' hd' => ?_⟩
 have hlt : j' < c.regions.length := (List.getElem?_eq_some_iff.1 hL').1
 have hgR := hRR (by omega)
 have hcell : ∀ {v : Value}, w.cell? ⟨x.gR, j', none⟩ = some v → w'.cell? ⟨x.gR, j', none⟩ = some v := fun {v} hv' => by
  rw [World.cell?_of_block (w := w) (a := ⟨x.gR, j', none⟩) (hq _ hgR.2.1 (by rw [hgR.2.2]; omega) (by rw [hgR.2.2]; omega))]; exact hv'
 by_cases e : j = j'
 ·subst e
  rw [hL] at hL'
  injection hL' with hL'
  subst hL'
  have hjl : j < r.ds.length := (List.getElem?_eq_some_iff.1 hd).1
  simp [hjl] at hd'
  subst hd'
  exact ⟨hcell (h.reg j L d hL hd).1, hR⟩
 ·rw [List.getElem?_set, if_neg e] at hd'
  obtain ⟨h1, h2⟩ := h.reg j' L' d0 hL' hd'
  exact ⟨hcell h1, RegM.keep 6 h2 ha fun b hb => hq b hb.1 (by rw [hb.2]; omega) (by rw [hb.2]; omega)⟩
theorem RnM.setVars {now' : Px.Env} (h : RnM A w c r rb Q x) (hf : FrP (fun _ => False) x.bn w w') (hv : RunV w' rb x.bn x.bw x.m (vnames c.vars) now' r.was) : RnM A w' c ⟨now', r.was, r.ds⟩ rb Q x := by
 have hq : ∀ b, Q b → x.rl b ≠ 1 → w'.heap[b]? = w.heap[b]? := fun b hb h1 => hf.block b (h.hQ b hb) (fun e => e) (fun e => h1 (e ▸ h.q1.2))
 have ha : ∀ b, A b → b < w.heap.size → w'.heap[b]? = w.heap[b]? := fun b hb hl => hf.block b hl (fun e => e) ((h.sep 0).a b hb).2.2
 obtain ⟨vv, aR, cR, hk, hvs, hRR⟩ := h.hv
 refine ⟨⟨vv, aR, cR, by rw [hq rb h.q0.1 (by rw [h.q0.2]; omega)]; exact hk, hvs.carry fun b hb hl => ⟨hb, ha b hb hl⟩, hRR⟩, hv.mn, hv.mw, h.hm, h.q0, h.q1, h.q2, fun b hb => ⟨Nat.lt_of_lt_of_le (h.hA b hb).1 hf.size, (h.hA b hb).2⟩, fun b hb => Nat.lt_of_lt_of_le (h.hQ b hb) hf.size, h.len, fun j' L' d0 hL' hd' => ?_⟩
 have hlt : j' < c.regions.length := (List.getElem?_eq_some_iff.1 hL').1
 have hgR := hRR (by omega)
 obtain ⟨h1, h2⟩ := h.reg j' L' d0 hL' hd'
 exact ⟨by rw [World.cell?_of_block (w := w) (a := ⟨x.gR, j', none⟩) (hq _ hgR.2.1 (by rw [hgR.2.2]; omega))]; exact h1, RegM.keep 6 h2 ha fun b hb => hq b hb.1 (by rw [hb.2]; omega)⟩
theorem RnM.setWas {was' : Px.Env} (h : RnM A w c r rb Q x) (hg : w.grownBy w' (some x.bw)) (hv : MapE w' x.bw x.m (vnames c.vars) was') : RnM A w' c ⟨r.now, was', r.ds⟩ rb Q x := by
 have hq : ∀ b, Q b → x.rl b ≠ 2 → w'.heap[b]? = w.heap[b]? := fun b hb h1 => hg.block b (h.hQ b hb) (fun e => h1 (by injection e with e; rw [e]; exact h.q2.2))
 have ha : ∀ b, A b → b < w.heap.size → w'.heap[b]? = w.heap[b]? := fun b hb hl => hg.block b hl (fun e => (h.hA b hb).2 (by injection e with e; rw [e]; exact h.q2.1))
 obtain ⟨vv, aR, cR, hk, hvs, hRR⟩ := h.hv
 refine ⟨⟨vv, aR, cR, by rw [hq rb h.q0.1 (by rw [h.q0.2]; omega)]; exact hk, hvs.carry fun b hb hl => ⟨hb, ha b hb hl⟩, hRR⟩, h.mn.keep (hq _ h.q1.1 (by rw [h.q1.2]; omega)), hv, h.hm, h.q0, h.q1, h.q2, fun b hb => ⟨Nat.lt_of_lt_of_le (h.hA b hb).1 hg.size, (h.hA b hb).2⟩, fun b hb => Nat.lt_of_lt_of_le (h.hQ b hb) hg.size, h.len, fun j' L' d0 hL' hd' => ?_⟩
 have hlt : j' < c.regions.length := (List.getElem?_eq_some_iff.1 hL').1
 have hgR := hRR (by omega)
 obtain ⟨h1, h2⟩ := h.reg j' L' d0 hL' hd'
 exact ⟨by rw [World.cell?_of_block (w := w) (a := ⟨x.gR, j', none⟩) (hq _ hgR.2.1 (by rw [hgR.2.2]; omega))]; exact h1, RegM.keep 6 h2 ha fun b hb => hq b hb.1 (by rw [hb.2]; omega)⟩
end
theorem there_ok (A : Nat → Prop) (ns : List Str) : ∀ k, ThereOk A ns k
 | 0 => there_zero
 | k + 1 => there_succ (there_ok A ns k)
section
variable {A Q : Nat → Prop} {w w' : World} {c : Chart} {r : Rn} {rb : Nat} {x : RnL}
set_option maxHeartbeats 1000000 in
theorem There_any (h : RnM A w c r rb Q x) (hc : ChartR c) (hlen : (thereC c r).length ≤ 1000000) :
    Calls Tryz.prog 15 #[.pointer (some ⟨rb, 0, none⟩)] w fun e w' => ∃ a n m, e = .returned (.slice a n m) ∧ Hid (RowS w.heap.size w' (.slice a n m) (thereC c r) ∧ Below w.heap.size w w') := by
 obtain ⟨vv, aR, cR, hk, hvs, hRR⟩ := h.hv
 have hreg : RegsM A (vnames c.vars) 6 w w.heap.size x.gR x.gr c.regions r.ds := ⟨h.len, fun b hb => (h.hA b hb).1, fun j L d hL hd => by
  obtain ⟨h1, h2⟩ := h.reg j L d hL hd
  have hlt : j < c.regions.length := (List.getElem?_eq_some_iff.1 hL).1
  exact ⟨h1, h.hQ _ (hRR (by omega)).2.1, hc.st L (List.mem_of_getElem? hL), _, h2, fun b hb => h.hQ b hb.1⟩⟩
 have hcall := there_ok A (vnames c.vars) 6 (cap := cR) (lv := .slice none 0 0) (zs := []) hreg (World.ownsRow_nil _ _ _ _) (Nat.le_refl _) (fun hp => (hRR hp).1) hc.rl (by rw [List.length_nil, Nat.zero_add]; exact hlen)
 have c3 := cell_row hk 3 (u := .slice aR c.regions.length cR) rfl
 rw [List.nil_append] at hcall
 have e : thereC c r = (List.zipWith (thereK 6) c.regions r.ds).flatten := rfl
 rw [← e] at hcall
 generalize c.regions.length = n at hcall c3
 clear h hc hlen hk hvs hRR hreg e
 go_enter Tryz.func15, Tryz.ntmps15
 go_wp2_with fail
 refine hcall.mono ?_
 rintro e w1 ⟨v, rfl, h1⟩
 obtain ⟨a1, n1, m1, e1⟩ : ∃ a n m, v = .slice a n m := by obtain ⟨a, m, e⟩ := owns_shape h1.out.1; exact ⟨a, _, m, e⟩
 subst e1
 clear hcall
 go_wp2_with fail
 go_ret
 exact ⟨_, _, _, rfl, h1.out⟩
end
end Go.Proofs.YtpogmfliojcnjaaGreatDoor
namespace Go.Proofs.YtpogmfliojcnjaaGreatDoor
open Go.RowKit Px
theorem tickC_cases {c : Chart} {ins : List Int} {r r' : Rn} (h : tickC c ins r = some r') : ∃ p, allI (tickG r.was) c.regions c.regions.length 0 (hearE c.vars ins r.now) r.ds = some p ∧ r' = ⟨p.1, p.1, p.2⟩ := by
 unfold tickC at h
 cases ha : allI (tickG r.was) c.regions c.regions.length 0 (hearE c.vars ins r.now) r.ds with
 | none => rw [ha] at h; exact absurd h (by simp)
 | some p => rw [ha] at h; injection h with h; exact ⟨p, rfl, h.symm⟩
section
variable {A Q : Nat → Prop} {w w' : World} {c : Chart} {r r' : Rn} {rb : Nat} {x : RnL}
set_option maxRecDepth 100000 in
set_option maxHeartbeats 8000000 in
theorem Tick_any {iv : Value} {ins : List Int} (h : RnM A w c r rb Q x) (hc : ChartR c) (hi : INums w iv ins) (h64 : ∀ y ∈ ins, N64 y) (ht : tickC c ins r = some r') :
    Calls Tryz.prog 13 #[.pointer (some ⟨rb, 0, none⟩), iv] w fun e w' => ∃ a n m, e = .returned (.slice a n m) ∧ Hid (RnM A w' c r' rb Q x ∧ Row64 w.heap.size w' (.slice a n m) (outsC c r') ∧ FrQ Q w w') := by
 obtain ⟨p, hall, rfl⟩ := tickC_cases ht
 obtain ⟨vv, aR, cR, hk, hvs, hRR⟩ := h.hv
 have hhear := hear_any (cell_row hk 0 rfl) hvs hc.vn hi h64 h.runV (h.sep 0).chart h.rn h.wn
 obtain ⟨iad, ig, io, ic, hiv, _⟩ := hi
 subst hiv
 obtain ⟨n, hn⟩ : ∃ n, n = c.regions.length := ⟨_, rfl⟩
 have hn6 : (n : Int) ≤ 9223372036854775807 := by have := hc.rl; unfold maxLen at this; omega
 have H : Hid (RnM A w c r rb Q x ∧ ChartR c ∧ n = c.regions.length ∧ allI (tickG r.was) c.regions c.regions.length 0 (hearE c.vars ins r.now) r.ds = some p) := ⟨h, hc, hn, hall⟩
 generalize ins.length = il at hhear
 clear h hc hall hvs hRR hn6 hk h64 ht hn
 have hn6 : (n : Int) ≤ 9223372036854775807 := by have := H.out.2.1.rl; have := H.out.2.2.1; unfold maxLen at *; omega
 go_enter Tryz.func13, Tryz.ntmps13
 go_wp2_with fail
 refine hhear.mono ?_
 rintro e w1 ⟨rfl, h1⟩
 have hR1 := H.out.1.setVars h1.out.2 h1.out.1
 have hf1 : FrQ Q w w1 := FrQ.of_frp h1.out.2 (fun _ h => h.elim) H.out.1.q1.1
 obtain ⟨vv1, aR, cR, hk1, hvs1, hRR1⟩ := hR1.hv
 have c3 := cell_row hk1 3 (u := .slice aR c.regions.length cR) rfl
 rw [← H.out.2.2.1] at c3 hRR1
 have HAR : Hid (0 < n → aR = some ⟨x.gR, 0, none⟩) := fun hp => (hRR1 hp).1
 have H1 : Hid (allI (tickG r.was) c.regions (n - 0) 0 (hearE c.vars ins r.now) r.ds = some p ∧ RnM A w1 c ⟨hearE c.vars ins r.now, r.was, r.ds⟩ rb Q x ∧ FrQ Q w w1) := ⟨by rw [Nat.sub_zero, H.out.2.2.1]; exact H.out.2.2.2, hR1, hf1⟩
 clear hhear h1 hR1 hf1 hk1 hvs1 hRR1
 go_wp2_with fail
 clear c3
 go_loopg [17] n (fun f i wr => ∃ (j : Nat) (nj : Px.Env) (ds : List (Rd 6)), f = n - j ∧ j ≤ n ∧ i = .int .i64 (j : Int) ∧ Hid (allI (tickG r.was) c.regions (n - j) j nj ds = some p ∧ RnM A wr c ⟨nj, r.was, ds⟩ rb Q x ∧ FrQ Q w wr))
 case atStart => exact ⟨0, _, r.ds, by omega, by omega, rfl, H1.out⟩
 case round =>
  obtain ⟨j, nj, ds, rfl, hj, rfl, hr⟩ := hrel
  obtain ⟨hr1, hr2, hr3⟩ := hr.out
  by_cases hlt : j < n
  ·obtain ⟨L, hL⟩ : ∃ L, c.regions[j]? = some L := ⟨c.regions[j]'(by rw [← H.out.2.2.1]; exact hlt), by rw [List.getElem?_eq_getElem]⟩
   rw [show n - j = n - (j + 1) + 1 by omega] at hr1
   obtain ⟨dj, q, hd, hq, hnx⟩ := allI_step hr1 hL
   obtain ⟨cj, hRj⟩ := hr2.reg j L dj hL hd
   have hix := ixG aR x.gR n cR j hlt HAR.out
   have hsa := H.out.2.1.st L (List.mem_of_getElem? hL)
   have hsep := hr2.sep j
   have hrv := hr2.runV
   have HN : Hid (∀ w', RegM A 6 w' (fun b => Q b ∧ x.rl b = 4 + j) L q.2 (x.gr j) ∧ RunV w' rb x.bn x.bw x.m (vnames c.vars) q.1 r.was ∧ FrP (fun b => Q b ∧ x.rl b = 4 + j) x.bn wr w' → allI (tickG r.was) c.regions (n - (j + 1)) (j + 1) q.1 (ds.set j q.2) = some p ∧ RnM A w' c ⟨q.1, r.was, ds.set j q.2⟩ rb Q x ∧ FrQ Q w w') := fun w' ⟨a1, a2, a3⟩ =>
    ⟨hnx, hr2.region hL hd a3 a2 a1, hr3.trans (FrQ.of_frp a3 (fun _ hb => hb.1) H.out.1.q1.1)⟩
   obtain ⟨l, hR⟩ := hRj
   have hcT : wr.cell? ⟨x.gr j, 1, none⟩ = some (pS l.gS (show RdF (Rd 5) from dj).there) := cell_row hR.hg 1 rfl
   unfold tickG at hq
   cases hth : (show RdF (Rd 5) from dj).there with
   | none =>
    rw [if_pos hth] at hq
    rw [hth] at hcT
    obtain ⟨pf, pw, cf, cw, -, hE⟩ := enter_ok A 6 false ⟨l, hR⟩ hsa hsep hrv hq
    have hcall := hE (.inl rfl)
    unfold RegTo at hcall
    have hcN : wr.cell? ⟨x.gr j, 1, none⟩ = some (.pointer none) := hcT
    clear hr hr1 hr2 hr3 hL hd hq hnx hsa hsep hrv hR hcT hth hE cw H1
    go_wp2_with (refine hcall.mono ?_; rintro e w5 ⟨rfl, h5⟩)
    go_roundg (n - (j + 1))
    case measure => omega
    case rel => exact ⟨j + 1, q.1, ds.set j q.2, rfl, by omega, by go_num, HN.out w5 h5.out⟩
   | some i =>
    rw [if_neg (by rw [hth]; simp)] at hq
    rw [hth] at hcT
    have hcall := go_ok A 6 ⟨l, hR⟩ hsa hsep hrv hq
    unfold RegTo at hcall
    have hcN : wr.cell? ⟨x.gr j, 1, none⟩ = some (.pointer (some ⟨l.gS, i * 11, none⟩)) := hcT
    clear hr hr1 hr2 hr3 hL hd hq hnx hsa hsep hrv hR hcT hth H1
    go_wp2_with (refine hcall.mono ?_; rintro e w5 ⟨rfl, h5⟩)
    go_roundg (n - (j + 1))
    case measure => omega
    case rel => exact ⟨j + 1, q.1, ds.set j q.2, rfl, by omega, by go_num, HN.out w5 h5.out⟩
  ·obtain rfl : j = n := by omega
   rw [Nat.sub_self, allI] at hr1
   injection hr1 with hr1
   subst hr1
   have hrd : RnM A wr.drew c ⟨nj, r.was, ds⟩ rb Q x := hr2.below (w' := wr.drew) ((Below.refl _ _).drew)
   have hcp := mcopy_any hrd.mw hrd.mn hrd.wn hrd.hm
   obtain ⟨vv2, aR2, cR2, hk2, hvs2, _⟩ := hrd.hv
   have p1 := cell_row hk2 1 (u := .map (some x.bn)) rfl
   have p2 := cell_row hk2 2 (u := .map (some x.bw)) rfl
   have HG : Hid (RnM A wr.drew c ⟨nj, r.was, ds⟩ rb Q x ∧ FrQ Q w wr.drew) := ⟨hrd, hr3.trans (FrQ.of_below ((Below.refl _ _).drew))⟩
   have HZ : Hid (∀ w5, wr.drew.grownBy w5 (some x.bw) → w5.cell? ⟨rb, 1, none⟩ = some (.map (some x.bn)) ∧ w5.cell? ⟨rb, 2, none⟩ = some (.map (some x.bw))) := fun w5 hg => by
    have hb : w5.heap[rb]? = wr.drew.heap[rb]? := hg.block rb (hrd.hQ rb hrd.q0.1) (fun e => by injection e with e; have h1 := hrd.q0.2; have h2 := hrd.q2.2; rw [← e] at h2; omega)
    exact ⟨by rw [World.cell?_of_block (w := wr.drew) (a := ⟨rb, 1, none⟩) hb]; exact p1, by rw [World.cell?_of_block (w := wr.drew) (a := ⟨rb, 2, none⟩) hb]; exact p2⟩
   clear hr hr2 hr3 hrd hk2 hvs2 H1
   go_upto_region 11 with fail
   go_region_held3 (fun W => W.cell? ⟨rb, 1, none⟩ = some (.map (some x.bn)) ∧ W.cell? ⟨rb, 2, none⟩ = some (.map (some x.bw))) (first | exact HZ5.out | go_keep)
    (first | (go_at_call 39; refine hcp.mono ?_; rintro e w5 ⟨rfl, h5⟩; have HZ5 : Hid (w5.cell? ⟨rb, 1, none⟩ = some (.map (some x.bn)) ∧ w5.cell? ⟨rb, 2, none⟩ = some (.map (some x.bw))) := HZ.out w5 h5.out.2.2))
   all_goals
    have hR5 := HG.out.1.setWas h5.out.2.2 h5.out.1
    have hf5 : FrQ Q w w5 := HG.out.2.trans ⟨h5.out.2.2.os, h5.out.2.2.tape, h5.out.2.2.output, h5.out.2.2.size, fun b hb hq => h5.out.2.2.block b hb (fun e => hq (by injection e with e; rw [e]; exact HG.out.1.q2.1))⟩
    obtain ⟨vv5, aR5, cR5, hk5, hvs5, _⟩ := hR5.hv
    have htell := tellO_any (cell_row hk5 0 rfl) hvs5 H.out.2.1.vn H.out.2.1.vl hR5.runV
    have HR5 : Hid (RnM A w5 c ⟨nj, nj, ds⟩ rb Q x ∧ FrQ Q w w5) := ⟨hR5, hf5⟩
    clear hR5 hf5 hk5 hvs5 h5 p1 p2 hcp
    go_wp2_with fail
    refine htell.mono ?_
    rintro e w6 ⟨v6, rfl, h6⟩
    obtain ⟨a6, n6, m6, e6⟩ : ∃ a n m, v6 = .slice a n m := by obtain ⟨a, m, e⟩ := owns_shape h6.out.1; exact ⟨a, _, m, e⟩
    subst e6
    clear htell
    go_wp2_with fail
    go_ret
    refine ⟨_, _, _, rfl, HR5.out.1.below h6.out.2, ?_, HR5.out.2.trans (FrQ.of_below h6.out.2)⟩
    have h7 := h6.out.1
    obtain ⟨h8, h9⟩ := h7
    refine ⟨h8, ?_⟩
    rcases h9 with h9 | ⟨g, cap, cur, e, hB, rest⟩
    ·exact .inl h9
    ·exact .inr ⟨g, cap, cur, e, Nat.le_trans HR5.out.2.size hB, rest⟩
end
end Go.Proofs.YtpogmfliojcnjaaGreatDoor
namespace Go.Proofs.YtpogmfliojcnjaaGreatDoor
open Go.RowKit Px
section
variable {A : Nat → Prop} {w w' : World}
theorem SMem.mono {σ ρ : Type} {RM RM' : (Nat → Prop) → List σ → ρ → Nat → Prop} {P P' : Nat → Prop} {role : Nat → Role} {ns : List Str} {gS i : Nat} {s : StF σ} {x : SdF ρ} {gW gI : Nat} {gr : Nat → Nat} (h : SMem A w RM P role ns gS i s x gW gI gr) (hP : ∀ b, P b → P' b) (hR : ∀ {P P' : Nat → Prop} {r : List σ} {d : ρ} {g : Nat}, (∀ b, P b → P' b) → RM P r d g → RM' P' r d g) : SMem A w RM' P' role ns gS i s x gW gI gr := by
 obtain ⟨c0, c2, e, d, l, p, ⟨aw, cw, w1, w2⟩, wl, wm, ⟨ai, ci, i1, i2⟩, il, im⟩ := h
 exact ⟨c0, c2, e, d, l, p, ⟨aw, cw, w1, fun hp => ⟨(w2 hp).1, hP _ (w2 hp).2.1, (w2 hp).2.2⟩⟩, wl, wm, ⟨ai, ci, i1, fun hp => ⟨(i2 hp).1, hP _ (i2 hp).2.1, (i2 hp).2.2⟩⟩, il, fun j r d hr hd => ⟨(im j r d hr hd).1, hR (fun b hb => ⟨hP b hb.1, hb.2⟩) (im j r d hr hd).2⟩⟩
theorem RegM.mono : ∀ (k : Nat) {P P' : Nat → Prop} {L : List (St k)} {d : Rd k} {g : Nat}, (∀ b, P b → P' b) → RegM A k w P L d g → RegM A k w P' L d g := by
 intro k
 induction k with
 | zero => intro P P' L d g _ h; exact h.elim
 | succ k ih =>
  intro P P' L d g hP h
  obtain ⟨l, h⟩ := h
  exact ⟨l, ⟨h.hg, h.hf, ⟨hP _ h.pg.1, h.pg.2⟩, ⟨hP _ h.ps.1, h.ps.2⟩, h.len, h.th, h.wa, fun i s x hs hx => (h.st i s x hs hx).mono hP (fun hQ hr => ih hQ hr)⟩⟩
def setL (w : World) (g o : Nat) : List Value → World
 | [] => w
 | v :: r => setL (w.setCell ⟨g, o, none⟩ v) g (o + 1) r
theorem setL_block (g b : Nat) (h : b ≠ g) : ∀ (vs : List Value) (o : Nat) (w : World), (setL w g o vs).heap[b]? = w.heap[b]? := by
 intro vs
 induction vs with
 | nil => intro o w; rfl
 | cons v r ih => intro o w; rw [setL, ih, Below.heap_setCell _ _ _ _ h]
theorem setL_out (g o' : Nat) : ∀ (vs : List Value) (o : Nat) (w : World), (o' < o ∨ o + vs.length ≤ o') → (setL w g o vs).cell? ⟨g, o', none⟩ = w.cell? ⟨g, o', none⟩ := by
 intro vs
 induction vs with
 | nil => intro o w _; rfl
 | cons v r ih =>
  intro o w h
  rw [List.length_cons] at h
  rw [setL, ih _ _ (by omega), sc_off (by omega)]
theorem setL_in (g : Nat) : ∀ (vs : List Value) (o : Nat) (w : World), (∀ j, j < vs.length → (w.cell? ⟨g, o + j, none⟩).isSome = true) → ∀ j v, vs[j]? = some v → (setL w g o vs).cell? ⟨g, o + j, none⟩ = some v := by
 intro vs
 induction vs with
 | nil => intro o w _ j v h; simp at h
 | cons u r ih =>
  intro o w hc j v hj
  cases j with
  | zero =>
   simp at hj
   subst hj
   obtain ⟨x, hx⟩ := Option.isSome_iff_exists.1 (hc 0 (by simp))
   rw [setL, setL_out _ _ _ _ _ (.inl (by omega))]
   exact sc_same hx
  | succ j =>
   rw [setL]
   have := ih (o + 1) (w.setCell ⟨g, o, none⟩ u) (fun i hi => ?_) j v (by simpa using hj)
   ·rw [show o + (j + 1) = o + 1 + j by omega]; exact this
   ·rw [sc_off (by omega), show o + 1 + i = o + (i + 1) by omega]
    exact hc (i + 1) (by simp; omega)
theorem setL_frozen (g : Nat) (a : Addr) : ∀ (vs : List Value) (o : Nat) (w : World), (setL w g o vs).frozen? a = w.frozen? a := by
 intro vs
 induction vs with
 | nil => intro o w; rfl
 | cons v r ih => intro o w; rw [setL, ih, World.frozen?_setCell]
theorem setL_size (g : Nat) : ∀ (vs : List Value) (o : Nat) (w : World), (setL w g o vs).heap.size = w.heap.size ∧ (setL w g o vs).os = w.os ∧ (setL w g o vs).tape = w.tape ∧ (setL w g o vs).output = w.output := by
 intro vs
 induction vs with
 | nil => intro o w; exact ⟨rfl, rfl, rfl, rfl⟩
 | cons v r ih =>
  intro o w
  obtain ⟨h1, h2, h3, h4⟩ := ih (o + 1) (w.setCell ⟨g, o, none⟩ v)
  exact ⟨by rw [setL, h1]; simp [World.setCell], h2, h3, h4⟩
end
def LayR : (k : Nat) → List (St k) → Prop
 | 0 => fun _ => False
 | k + 1 => fun L => firsts (ρ := St k) L = 1 ∧ Dist (snames (ρ := St k) L) ∧ (∀ s ∈ (show List (StF (St k)) from L), ∀ y ∈ s.ways, ∃ t, fnd (snames (ρ := St k) L) y.to = some t) ∧ List.length L ≤ 1000000 ∧ ∀ s ∈ (show List (StF (St k)) from L), s.name.length ≤ maxLen ∧ s.ways.length ≤ 1000000 ∧ s.regions.length ≤ 1000000 ∧ (∀ y ∈ s.ways, y.to.length ≤ maxLen) ∧ ∀ r ∈ s.regions, LayR k r
def LayOk (A : Nat → Prop) (k : Nat) : Prop := ∀ {w : World} {r : List (St k)} {v : Value}, (∀ b, A b → b < w.heap.size) → IsStates A w k r v → LayR k r →
 Calls Tryz.prog 65 #[v] w fun e w' => ∃ g, e = .returned (.pointer (some ⟨g, 0, none⟩)) ∧ Hid (RegM A k w' (fun b => w.heap.size ≤ b ∧ b < w'.heap.size) r (layD k r) g ∧ Below w.heap.size w w')
structure LaidR (A : Nat → Prop) (k : Nat) (w w' : World) (rs : List (List (St k))) (ad : Option Addr) (gI : Nat) (gr rol : Nat → Nat) : Prop where
 had : 0 < rs.length → ad = some ⟨gI, 0, none⟩ ∧ w.heap.size ≤ gI ∧ gI < w'.heap.size ∧ rol gI = 0
 reg : ∀ j r, rs[j]? = some r → w'.cell? ⟨gI, j, none⟩ = some (.pointer (some ⟨gr j, 0, none⟩)) ∧ RegM A k w' (fun b => w.heap.size ≤ b ∧ b < w'.heap.size ∧ rol b = 1 + j) r (layD k r) (gr j)
theorem IsStates.sl {A : Nat → Prop} {w : World} {k : Nat} {l : List (St k)} {v : Value} (h : IsStates A w k l v) : ∃ a n c, v = .slice a n c := by
 cases k with
 | zero => obtain ⟨_, rfl⟩ := h; exact ⟨_, _, _, rfl⟩
 | succ k => obtain ⟨xs, hr, _⟩ := h; obtain ⟨a, c, e⟩ := owns_shape hr.1; exact ⟨a, _, c, e⟩
theorem Tryz.uInfoReg : (Tryz.prog.info? 81).map (fun i => (i.zero, i.size, i.bytes)) = some (some (.pointer none), 1, 8) := by kernel_rfl
def ptrs (gr : Nat → Nat) (n : Nat) : List Value := (List.range n).map fun i => .pointer (some ⟨gr i, 0, none⟩)
theorem ptrs_snoc (gr : Nat → Nat) (n : Nat) : ptrs gr (n + 1) = ptrs gr n ++ [.pointer (some ⟨gr n, 0, none⟩)] := by unfold ptrs; rw [List.range_succ, List.map_append]; rfl
theorem ptrs_same {gr gr' : Nat → Nat} {n : Nat} (h : ∀ i, i < n → gr i = gr' i) : ptrs gr n = ptrs gr' n := by
 unfold ptrs
 apply List.map_congr_left
 intro i hi
 rw [h i (List.mem_range.1 hi)]
section
variable {A : Nat → Prop} {k : Nat}
set_option maxRecDepth 100000 in
set_option maxHeartbeats 8000000 in
theorem layAll_any (ih : LayOk A k) {w : World} {rs : List (List (St k))} {v : Value} (hA : ∀ b, A b → b < w.heap.size) (hI : IsRegs A w (IsStates A w k) rs v) (hR : ∀ r ∈ rs, LayR k r) (hl : rs.length ≤ 1000000) :
    Calls Tryz.prog 35 #[v] w fun e w' => ∃ ad n cap, e = .returned (.slice ad n cap) ∧ Hid (n = rs.length ∧ (∃ gI gr rol, LaidR A k w w' rs ad gI gr rol) ∧ Below w.heap.size w w') := by
 obtain ⟨i0, hi0, hz0, hz1, hz2⟩ := info_parts Tryz.uInfoReg
 obtain ⟨ad, g, cap, rfl, hmx, hg, hcs⟩ := hI.len
 obtain ⟨N, hN⟩ : ∃ N, N = rs.length := ⟨_, rfl⟩
 rw [← hN] at hg hl ⊢
 have HN : Hid (N = rs.length) := hN
 have HA : Hid (∀ b, A b → b < w.heap.size) := hA
 have HG : Hid (0 < N → ad = some ⟨g, 0, none⟩ ∧ g < w.heap.size) := hg
 have HCS : Hid (∀ (i : Nat) (r : List (St k)), rs[i]? = some r → ∃ u, w.cell? ⟨g, i, none⟩ = some u ∧ IsStates A w k r u) := hcs
 have HR : Hid (∀ r ∈ rs, LayR k r) := hR
 have HIH : Hid (LayOk A k) := ih
 clear hI hR hA ih hN hg hcs hmx
 go_enter Tryz.func35, Tryz.ntmps35
 go_wp2_with fail
 go_loopg [3, 8] N (fun f lv i wr => ∃ (j : Nat) (gr rol : Nat → Nat), f = N - j ∧ j ≤ N ∧ i = .int .i64 (j : Int) ∧ Hid (wr.ownsRow w.heap.size 81 1 lv j (ptrs gr j) ∧ (∀ b, lv.ownBlock = some b → rol b = 0) ∧ (∀ i r, i < j → rs[i]? = some r → RegM A k wr (fun b => w.heap.size ≤ b ∧ b < wr.heap.size ∧ rol b = 1 + i) r (layD k r) (gr i)) ∧ Below w.heap.size w wr))
 case atStart => exact ⟨0, fun _ => 0, fun _ => 0, by omega, by omega, rfl, World.ownsRow_nil _ _ _ _, fun b hb => rfl, fun i r hi => absurd hi (by omega), Below.refl _ _⟩
 case round =>
  obtain ⟨j, gr, rol, rfl, hj, rfl, hr⟩ := hrel
  obtain ⟨hr1, hr2, hr3, hr4⟩ := hr.out
  obtain ⟨al, cl, e⟩ := owns_shape hr1
  subst e
  by_cases hlt : j < N
  ·obtain ⟨r, hrj⟩ : ∃ r, rs[j]? = some r := ⟨rs[j]'(by rw [← HN.out]; exact hlt), by rw [List.getElem?_eq_getElem]⟩
   obtain ⟨u, cu, hSt⟩ := HCS.out j r hrj
   obtain ⟨ua, un, uc, rfl⟩ := hSt.sl
   have hix := ixR ad g N cap j hlt (fun hp => (HG.out hp).1)
   have cu := ck_cell hr4 cu
   have hcall := HIH.out (w := wr) (fun b hb => Nat.lt_of_lt_of_le (HA.out b hb) hr4.size) (IsStates.carry (A := A) (A' := A) (fun b hb hlt => ⟨hb, hr4.block b hlt⟩) k r _ hSt) (HR.out r (List.mem_of_getElem? hrj))
   have HG1 : Hid (wr.ownsRow w.heap.size 81 1 (.slice al j cl) j (ptrs gr j) ∧ (∀ b, (Value.slice al j cl).ownBlock = some b → rol b = 0) ∧ (∀ i r, i < j → rs[i]? = some r → RegM A k wr (fun b => w.heap.size ≤ b ∧ b < wr.heap.size ∧ rol b = 1 + i) r (layD k r) (gr i)) ∧ Below w.heap.size w wr ∧ rs[j]? = some r) := ⟨hr1, hr2, hr3, hr4, hrj⟩
   clear hr hr1 hr2 hr3 hr4 hSt hrj
   go_wp2_with fail
   refine hcall.mono ?_
   rintro e w1 ⟨g1, rfl, h1⟩
   have hown : w1.ownsRow w.heap.size 81 1 (.slice al j cl) j (ptrs gr j) := own_keep (A := fun _ => True) (A' := fun _ => True) HG1.out.1 (fun _ _ => trivial) fun b _ hlt => ⟨trivial, h1.out.2.block b hlt⟩
   have hs1 : w.heap.size ≤ w1.heap.size := Nat.le_trans HG1.out.2.2.2.1.size h1.out.2.size
   have HAPP : Hid (∀ v5 w5, w5.ownsRow w.heap.size 81 1 v5 (j + 1) (ptrs gr j ++ [.pointer (some ⟨g1, 0, none⟩)]) → (w1.alloc (.cells #[.pointer (some ⟨g1, 0, none⟩)] 81)).grownBy w5 (Value.slice al j cl).ownBlock → (v5.ownBlock = (Value.slice al j cl).ownBlock ∨ v5.ownBlock = some (w1.alloc (.cells #[.pointer (some ⟨g1, 0, none⟩)] 81)).heap.size) →
       ∃ gr' rol' : Nat → Nat, w5.ownsRow w.heap.size 81 1 v5 (j + 1) (ptrs gr' (j + 1)) ∧ (∀ b, v5.ownBlock = some b → rol' b = 0) ∧ (∀ i r, i < j + 1 → rs[i]? = some r → RegM A k w5 (fun b => w.heap.size ≤ b ∧ b < w5.heap.size ∧ rol' b = 1 + i) r (layD k r) (gr' i)) ∧ Below w.heap.size w w5) := fun v5 w5 hown5 hgrow hat => by
    obtain ⟨q1, q2, q3, q4, q5⟩ := HG1.out
    obtain ⟨p1, p2⟩ := h1.out
    have hsz : (w1.alloc (.cells #[.pointer (some ⟨g1, 0, none⟩)] 81)).heap.size = w1.heap.size + 1 := by simp
    have hob : ∀ b, (Value.slice al j cl).ownBlock = some b → w.heap.size ≤ b ∧ b < wr.heap.size := fun b hb => q1.lt b hb
    have hsw := p2.size
    have hgs := hgrow.size
    rw [hsz] at hgs
    have hbl : ∀ b, b < w1.heap.size → (Value.slice al j cl).ownBlock ≠ some b → w5.heap[b]? = w1.heap[b]? := fun b hb hne => by rw [hgrow.block b (by omega) (fun e => hne e.symm), Below.heap_alloc _ _ _ hb]
    have hb5 : Below w.heap.size w w5 := (((q4.trans (p2.mono q4.size))).alloc hs1 _).grown hgrow (by omega) (fun b hb => (hob b hb).1)
    have hAb : ∀ b, A b → w5.heap[b]? = w1.heap[b]? := fun b hb => hbl b (Nat.lt_of_lt_of_le (HA.out b hb) hs1) (fun e => by have := hob b e; have := HA.out b hb; omega)
    refine ⟨fun i => if i = j then g1 else gr i, fun b => if b < wr.heap.size then rol b else if b < w1.heap.size then 1 + j else 0, ?_, fun b hb => ?_, fun i r' hi hri => ?_, hb5⟩
    ·rw [ptrs_snoc, ptrs_same (gr' := gr) (fun i hi => if_neg (by omega)), if_pos rfl]; exact hown5
    ·show (if b < wr.heap.size then rol b else if b < w1.heap.size then 1 + j else 0) = 0
     rcases hat with e | e
     ·rw [e] at hb
      rw [if_pos (hob b hb).2]
      exact q2 b hb
     ·rw [e] at hb
      injection hb with hb
      rw [if_neg (by omega), if_neg (by omega)]
    ·by_cases hij : i = j
     ·subst hij
      rw [q5] at hri
      injection hri with hri
      subst hri
      show RegM A k w5 _ r (layD k r) (if i = i then g1 else gr i)
      rw [if_pos rfl]
      refine RegM.mono k (fun b hb => ?_) (RegM.keep k p1 (fun b hb _ => hAb b hb) (fun b hb => hbl b hb.2 (fun e => by have := hob b e; omega)))
      have h4 := q4.size
      exact ⟨by omega, by omega, by show (if b < wr.heap.size then rol b else if b < w1.heap.size then 1 + i else 0) = _; rw [if_neg (by omega), if_pos hb.2]⟩
     ·show RegM A k w5 _ r' (layD k r') (if i = j then g1 else gr i)
      rw [if_neg hij]
      have hold := q3 i r' (by omega) hri
      refine RegM.mono k (fun b hb => ?_) (RegM.keep k hold (fun b hb hlt => by rw [hAb b hb, p2.block b hlt]) (fun b hb => by rw [hbl b (by omega) (fun e => by have := q2 b e; omega), p2.block b hb.2.1]))
      exact ⟨hb.1, by omega, by show (if b < wr.heap.size then rol b else if b < w1.heap.size then 1 + j else 0) = _; rw [if_pos hb.2.1]; exact hb.2.2⟩
   clear hcall h1 cu hix
   go_wp2_with (at_builtin; refine wpList_append_own_at _ rfl (.tmp 12) (.tmp 15) 76 rfl w.heap.size 81 i0 (.pointer none) 1 8 Tryz.underlying76 hi0 hz0 hz1 hz2 rfl (by decide) _ _ _ rfl (hown.alloc _) ⟨w1.heap.size, 0, none⟩ 1 1 [.pointer (some ⟨g1, 0, none⟩)] rfl rfl (cell_one_new _ _ _) (by intro u hu; simp at hu; subst hu; rfl) (by unfold maxLen; omega) (by omega) (by simp; omega) ?_; intro v5 w5 hown5 hgrow _ hat)
   go_roundg (N - (j + 1))
   case measure => omega
   case rel =>
    obtain ⟨gr', rol', t1, t2, t3, t4⟩ := HAPP.out v5 w5 hown5 hgrow hat
    exact ⟨j + 1, gr', rol', rfl, by omega, by go_num, t1, t2, t3, t4⟩
  ·obtain rfl : j = N := by omega
   have HF : Hid (j = rs.length ∧ (∃ gI gr rol, LaidR A k w wr rs al gI gr rol) ∧ Below w.heap.size w wr) := by
    refine ⟨HN.out, ?_, hr4⟩
    have hcell := fun g hg => World.ownsRow.cells hr1 (g := g) hg
    have hlt' := fun g hg => hr1.lt g hg
    rcases hr1.2 with ⟨e, h0⟩ | ⟨gI, cap', cur, e, _⟩
    ·refine ⟨0, gr, rol, fun hp => absurd hp (by rw [← HN.out, h0]; omega), fun i r hi => ?_⟩
     have := (List.getElem?_eq_some_iff.1 hi).1
     rw [← HN.out, h0] at this
     omega
    ·injection e with e1 e2 e3
     subst e1
     refine ⟨gI, gr, rol, fun hp => ⟨rfl, (hlt' gI rfl).1, (hlt' gI rfl).2, hr2 gI rfl⟩, fun i r hi => ?_⟩
     have hil : i < j := by rw [HN.out]; exact (List.getElem?_eq_some_iff.1 hi).1
     refine ⟨?_, hr3 i r hil hi⟩
     have := hcell gI rfl i (.pointer (some ⟨gr i, 0, none⟩)) (by unfold ptrs; simp [hil])
     have ad : (⟨gI, 0, none⟩ : Addr).add i = ⟨gI, i, none⟩ := by unfold Addr.add; split <;> simp_all
     rw [ad] at this
     exact this
   clear hr hr1 hr2 hr3 hr4
   go_wp2_with fail
   go_ret
   exact ⟨_, _, _, rfl, rfl, HF.out.2⟩
end
end Go.Proofs.YtpogmfliojcnjaaGreatDoor
