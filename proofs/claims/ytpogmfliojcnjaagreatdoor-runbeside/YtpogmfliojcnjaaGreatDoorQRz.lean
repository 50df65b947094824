import Derived.Test.YtpogmfliojcnjaaGreatDoorQWa
import Derived.Test.YtpogmfliojcnjaaGreatDoorQUr
import Derived.Deep.RegionHeld
namespace Go.Proofs.YtpogmfliojcnjaaGreatDoor
open Go.RowKit Px
namespace Kx
theorem setc_carries : Carries SetC := fun k _ _ h => SetC.carry k _ _ h
set_option maxRecDepth 100000 in
set_option maxHeartbeats 8000000 in
theorem apsets_any {A : Nat → Prop} {w : World} {l : List Asg} {v : Value} (h : IsSets A w l v) (hT : Sh.TS l) (hlen : l.length ≤ 1000000) :
    Calls Tryz.prog 32 #[v] w fun e w' => ∃ a n m, e = .returned (.slice a n m) ∧ Hid (IsSets (fun b => w.heap.size ≤ b) w' (l.map apA) (.slice a n m) ∧ Below w.heap.size w w') := by
 obtain ⟨ad, g, cap, rfl, hmx, hg, hcs⟩ := h.open
 obtain ⟨iS, hiS, hS0, hS1, hS2⟩ := info_parts Tryz.info130
 obtain ⟨N, hn⟩ : ∃ N, N = l.length := ⟨_, rfl⟩
 rw [← hn] at hlen ⊢
 have HN : Hid (N = l.length) := hn
 have HG : Hid (0 < N → ad = some ⟨g, 0, none⟩) := fun hp => (hg (by omega)).1
 have HT : Hid (Sh.TS l) := hT
 have HCS : Hid (∀ i a, l[i]? = some a → ∃ u, w.cell? ⟨g, i * 2, none⟩ = some (sv a.name) ∧ w.cell? ⟨g, i * 2 + 1, none⟩ = some (.pointer u) ∧ IsE A w a.e (.pointer u)) := hcs
 clear h hT hmx hg hcs hn
 go_enter Tryz.func32, Tryz.ntmps32
 go_wp2_with fail
 go_loopg [3, 4] N (fun fu out i wr => ∃ (k : Nat) (xs : List Value), fu = N - k ∧ k ≤ N ∧ i = .int .i64 (k : Int) ∧ Hid (RowAt SetC (fun _ => False) w.heap.size 130 2 wr ((l.take k).map apA) out xs ∧ Below w.heap.size w wr))
 case atStart => exact ⟨0, [], by omega, by omega, rfl, RowAt.nil, Below.refl _ _⟩
 case round =>
  obtain ⟨k, xs, rfl, hk, rfl, hr⟩ := hrel
  obtain ⟨ao, co, e⟩ := hr.out.1.shape HN.out hk
  subst e
  by_cases hlt : k < N
  ·obtain ⟨a, ha⟩ : ∃ a, l[k]? = some a := ⟨l[k]'(by rw [← HN.out]; exact hlt), by rw [List.getElem?_eq_getElem]⟩
   obtain ⟨u, c0, c1, hu⟩ := HCS.out k a ha
   obtain ⟨S, hS⟩ : ∃ S, Value.string S = sv a.name := ⟨_, rfl⟩
   rw [← hS] at c0
   have hTa := HT.out a (List.mem_of_getElem? ha)
   have hSz : S.size ≤ 12 := by have : S.size = a.name.length := by { unfold sv at hS; injection hS with hS; rw [hS]; rfl }; omega
   have hadd : ¬ 9223372036854775807 < 1 + S.size := by omega
   have hix := ixS ad g N cap k hlt HG.out
   have hbd : Below w.heap.size w wr.drew := ck_all hr.out.2 ((Below.refl _ _).drew)
   have hcall := apart_all a.e A wr.drew (.pointer u) hTa.1 (hu.carry fun b hb hlt => ⟨hb, hbd.block b hlt⟩)
   unfold ApOut at hcall
   have HC : Hid (∀ W, Below wr.drew.heap.size wr.drew W → W.cell? ⟨g, k * 2, none⟩ = some (.string S) ∧ W.cell? ⟨g, k * 2 + 1, none⟩ = some (.pointer u)) := fun W hW => ⟨ck_cell (ck_all hbd hW) c0, ck_cell (ck_all hbd hW) c1⟩
   have HCW : Hid (∀ W, Below w.heap.size w W → W.cell? ⟨g, k * 2, none⟩ = some (.string S) ∧ W.cell? ⟨g, k * 2 + 1, none⟩ = some (.pointer u)) := fun W hW => ⟨ck_cell hW c0, ck_cell hW c1⟩
   have HE : Hid (∀ w3 x, (IsE (fun b => wr.drew.heap.size ≤ b) w3 (apE a.e) (.pointer x) ∧ Below wr.drew.heap.size wr.drew w3) → ∃ v' w', (Builtin.append_ #[65, 65] 65 #[.slice ao k co, .slice (some ⟨w3.heap.size, 0, none⟩) 1 1]).run Tryz.prog (w3.alloc (.cells #[.string ((⟨#[113]⟩ : ByteArray) ++ S), .pointer x] 130)) = .ok v' w' ∧ Hid (∃ ys, RowAt SetC (fun _ => False) w.heap.size 130 2 w' ((l.take (k + 1)).map apA) v' ys ∧ Below w.heap.size w w')) := by
    intro w3 x h3
    have hb3 : Below wr.heap.size wr w3 := ck_all ((Below.refl _ _).drew) h3.2
    have hown : w3.ownsRow w.heap.size 130 2 (.slice ao k co) k xs := (hr.out.1.low setc_carries hb3).own' HN.out hk
    obtain ⟨v', w', E1, o1, g1, _, at1⟩ := run_append_own_at (P := Tryz.prog) (w := w3.alloc (.cells #[.string ((⟨#[113]⟩ : ByteArray) ++ S), .pointer x] 130)) w.heap.size 65 65 130 iS _ 2 24 Tryz.underlying65 hiS hS0 hS1 hS2 rfl (by decide) _ _ _ (hown.alloc _) ⟨w3.heap.size, 0, none⟩ 1 1 [.string ((⟨#[113]⟩ : ByteArray) ++ S), .pointer x] rfl (cells_new _ _ _) (by intro u hu; simp at hu; rcases hu with rfl | rfl <;> rfl) (by unfold maxLen; omega) (by omega) (by have := hr.out.2.size; have := hb3.size; simp; omega)
    have hst := hr.out.1.step setc_carries (fun b hb => absurd hb id) hr.out.2.size hb3 (a := apA a) (c := [.string ((⟨#[113]⟩ : ByteArray) ++ S), .pointer x]) ⟨.pointer x, by rw [ap_sv S a.name hS]; rfl, h3.1.carry fun b hb _ => ⟨.inr hb, rfl⟩⟩ (by rw [take_map_len apA HN.out hk]; exact o1) g1 at1
    exact ⟨v', w', E1, _, by rw [take_map_snoc apA ha]; exact hst.1, hr.out.2.trans hst.2⟩
   obtain ⟨c0, c1⟩ := HC.out wr.drew (Below.refl _ _)
   have hk1 : k + 1 ≤ N := hlt
   clear hr ha hu hS hTa hSz hbd
   go_upto_region 5 with fail
   go_region_held3 (fun W => W.cell? ⟨g, k * 2, none⟩ = some (.string S) ∧ W.cell? ⟨g, k * 2 + 1, none⟩ = some (.pointer u)) (first | with_reducible exact HQ5.out | with_reducible exact HQ3.out | go_keep)
    (first
     | (go_at_call 33; refine hcall.mono ?_; rintro e w3 ⟨x, rfl, h3⟩; have HQ3 : Hid (w3.cell? ⟨g, k * 2, none⟩ = some (.string S) ∧ w3.cell? ⟨g, k * 2 + 1, none⟩ = some (.pointer u)) := HC.out w3 h3.out.2; obtain ⟨v', w', E1, h5⟩ := HE.out w3 x h3.out)
     | (refine step_app_u (by rfl) (.tmp 11) (.tmp 25) _ (by rfl) _ _ _ (by rfl) (by rfl) E1 ?_; have HQ5 : Hid (w'.cell? ⟨g, k * 2, none⟩ = some (.string S) ∧ w'.cell? ⟨g, k * 2 + 1, none⟩ = some (.pointer u)) := by { obtain ⟨_, _, h7⟩ := h5.out; exact HCW.out w' h7 }))
   all_goals
    go_wp2_with fail
    go_roundg (N - (k + 1))
    case measure => omega
    case rel =>
     obtain ⟨ys, h6, h7⟩ := h5.out
     exact ⟨k + 1, ys, rfl, by omega, by go_num, h6, h7⟩
  ·obtain rfl : k = N := by omega
   have hd := hr.out.1.done setc_carries
   have hb := hr.out.2
   rw [HN.out, List.take_length] at hd
   have HD : Hid (IsSets (fun b => w.heap.size ≤ b) wr (l.map apA) (.slice ao k co) ∧ Below w.heap.size w wr) := by
    have hd' : IsSets (fun b => False ∨ w.heap.size ≤ b) wr (l.map apA) (.slice ao k co) := ⟨xs, by rw [HN.out]; exact hd.1, by exact hd.2⟩
    exact ⟨hd'.carry fun b hb _ => ⟨by rcases hb with h | h; exact absurd h id; exact h, rfl⟩, hb⟩
   clear hr hd hb
   go_wp2_with fail
   go_ret
   exact ⟨_, _, _, rfl, HD.out⟩
theorem cntIn_take {vs : List Decl} {k : Nat} {v : Decl} (h : vs[k]? = some v) : cntIn (vs.take (k + 1)) = cntIn (vs.take k) + if v.kind = 1 then 1 else 0 := by
 unfold cntIn
 rw [List.take_add_one, h, List.filter_append, List.length_append]
 by_cases hk : v.kind = 1 <;> simp [hk]
theorem cntIn_le (vs : List Decl) : cntIn vs ≤ vs.length := List.length_filter_le _ _
set_option maxRecDepth 100000 in
set_option maxHeartbeats 8000000 in
theorem inputs_any {A : Nat → Prop} {w : World} {c : Chart} {v : Value} (h : IsChart A w c v) (hN : c.vars.length ≤ 1000000) :
    Calls Tryz.prog 12 #[v] w fun e w' => e = .returned (.int .i64 ((cntIn c.vars : Nat) : Int)) ∧ Hid (Below w.heap.size w w') := by
 obtain ⟨a0, n0, m0, a1, n1, m1, rfl, hV, _⟩ := h
 obtain ⟨S, hS⟩ : ∃ S, Value.string S = sv c.name := ⟨_, rfl⟩
 rw [← hS]
 obtain ⟨ad, g, cap, ev, hmx, hg, hcs⟩ := hV.open2
 injection ev with e1 e2 e3
 subst e1
 subst e3
 obtain ⟨X, hX⟩ : ∃ X, X = w.alloc (.cells #[.string S, .slice a0 n0 m0, .slice a1 n1 m1] 28) := ⟨_, rfl⟩
 obtain ⟨cb, hcb⟩ : ∃ cb, cb = w.heap.size := ⟨_, rfl⟩
 have hkx : X.heap[cb]? = some (.cells #[.string S, .slice a0 n0 m0, .slice a1 n1 m1] 28 (0, 0)) := by rw [hX, hcb]; exact ck_new _ _
 have hbx : Below w.heap.size w X := by rw [hX]; exact ck_grown _ _
 have HC : Hid (∀ W, Below X.heap.size X W → W.cell? ⟨cb, 1, none⟩ = some (.slice a0 n0 m0)) := fun W hW => ck_cell hW (cell_row hkx 1 rfl)
 have HB : Hid (Below w.heap.size w X) := hbx
 have HN0 : Hid (n0 = c.vars.length) := e2
 have HG : Hid (0 < n0 → a0 = some ⟨g, 0, none⟩) := fun hp => (hg (by omega)).1
 have HCS : Hid (∀ (i : Nat) (a : Decl), c.vars[i]? = some a → w.cell? ⟨g, i * 3, none⟩ = some (.int .i64 (a.kind : Int))) := fun i a hi => (hcs i a hi).1
 have hn6 : n0 ≤ 1000000 := by omega
 clear hV hg hcs hkx hbx e2 hmx hS hN
 go_enter Tryz.func12, Tryz.ntmps12
 go_upto_region 1 with fail
 rw [← hX, ← hcb]
 clear hX hcb
 go_wp2_with fail
 go_loopg [3, 4] n0 (fun f nv iv wr => ∃ k m : Nat, f = n0 - k ∧ k ≤ n0 ∧ iv = .int .i64 (k : Int) ∧ nv = .int .i64 (m : Int) ∧ Hid (m = cntIn (c.vars.take k) ∧ Below X.heap.size X wr))
 case atStart => exact ⟨0, 0, by omega, by omega, rfl, rfl, rfl, Below.refl _ _⟩
 case round =>
  obtain ⟨k, m, rfl, hk, rfl, rfl, hr⟩ := hrel
  have hm6 : m ≤ 1000000 := by have h1 := hr.out.1; have h2 := cntIn_le (c.vars.take k); rw [List.length_take] at h2; omega
  have d1 := HC.out wr hr.out.2
  by_cases hlt : k < n0
  ·obtain ⟨v, hv⟩ : ∃ v, c.vars[k]? = some v := ⟨c.vars[k]'(by rw [← HN0.out]; exact hlt), by rw [List.getElem?_eq_getElem]⟩
   have hbw : Below w.heap.size w wr := ck_all HB.out hr.out.2
   have c0 := ck_cell hbw (HCS.out k v hv)
   have hix := ixV a0 g n0 m0 k hlt HG.out
   obtain ⟨kd, hkd⟩ : ∃ kd : Int, kd = (v.kind : Int) := ⟨_, rfl⟩
   rw [← hkd] at c0
   by_cases h1 : v.kind = 1
   ·have t1 : (kd == 1) = true := by rw [hkd, h1]; rfl
    have HE : Hid (m + 1 = cntIn (c.vars.take (k + 1)) ∧ Below X.heap.size X wr) := ⟨by rw [cntIn_take hv, if_pos h1, hr.out.1], hr.out.2⟩
    clear hr hv hbw hkd h1
    go_wp2_with fail
    go_roundg (n0 - (k + 1))
    case measure => omega
    case rel => exact ⟨k + 1, m + 1, rfl, by omega, by go_num, by go_num, HE.out⟩
   ·have t1 : (kd == 1) = false := by rw [hkd]; simp; omega
    have HE : Hid (m = cntIn (c.vars.take (k + 1)) ∧ Below X.heap.size X wr) := ⟨by rw [cntIn_take hv, if_neg h1, Nat.add_zero]; exact hr.out.1, hr.out.2⟩
    clear hr hv hbw hkd h1
    go_wp2_with fail
    go_roundg (n0 - (k + 1))
    case measure => omega
    case rel => exact ⟨k + 1, m, rfl, by omega, by go_num, rfl, HE.out⟩
  ·obtain rfl : k = n0 := by omega
   have HE : Hid (m = cntIn c.vars ∧ Below w.heap.size w wr) := by
    have h1 := hr.out.1
    rw [HN0.out, List.take_length] at h1
    exact ⟨h1, ck_all HB.out hr.out.2⟩
   clear hr
   go_wp2_with fail
   go_ret
   exact ⟨by rw [← HE.out.1]; rfl, HE.out.2⟩
end Kx
end Go.Proofs.YtpogmfliojcnjaaGreatDoor
namespace Go.Proofs.YtpogmfliojcnjaaGreatDoor
section
variable {P : Program} {ops : Array Oper} {Q : Exit → Act → World → Prop} {md : Region.Mode} {S : World → Prop} {z : Nat}
def wpAnyZ (P : Program) (md : Region.Mode) (ops : Array Oper) (Q : Exit → Act → World → Prop) (S : World → Prop) (z : Nat) : Nat → Array Bool → Act → World → Prop
 | 0, listed, a, w => Region.ready md ops listed = [] ∧ Q .normal a w
 | fuel + 1, listed, a, w =>
  (Region.ready md ops listed = [] → Q .normal a w) ∧
  ∀ i ∈ Region.ready md ops listed, wpOp P ops Q i (fun a' w' => ((listed.setIfInBounds i true).getD z true = false → S w') ∧ wpAnyZ P md ops Q S z fuel (listed.setIfInBounds i true) a' w') a w
theorem wpAny_of_z : ∀ (fuel : Nat) (listed : Array Bool) (a : Act) (w : World), wpAnyZ P md ops Q S z fuel listed a w → wpAny P md ops Q fuel listed a w
 | 0, _, _, _, h => h
 | fuel + 1, _, _, _, h => ⟨h.1, fun i hi => wpOp_mono (fun a' w' h' => wpAny_of_z fuel _ a' w' h'.2) (h.2 i hi)⟩
theorem getD_keep {l : Array Bool} {i j : Nat} (h : l.getD j true = true) : (l.setIfInBounds i true).getD j true = true := by
 by_cases hij : i = j
 ·subst hij
  rcases Nat.lt_or_ge i l.size with h' | h'
  ·simp [h']
  ·simp [Array.getD]
 ·rw [getD_set_ne true hij]; exact h
theorem wpAnyZ_of_any : ∀ (fuel : Nat) (listed : Array Bool) (a : Act) (w : World), listed.getD z true = true → wpAny P md ops Q fuel listed a w → wpAnyZ P md ops Q S z fuel listed a w
 | 0, _, _, _, _, h => h
 | fuel + 1, l, _, _, hz, h => ⟨h.1, fun i hi => wpOp_mono (fun a' w' h' => ⟨fun hf => by rw [getD_keep hz] at hf; exact absurd hf (by simp), wpAnyZ_of_any fuel _ a' w' (getD_keep hz) h'⟩) (h.2 i hi)⟩
def Region.waits (md : Region.Mode) (ops : Array Oper) (i : Nat) (D : List Nat) : Bool :=
 D.all fun d => match ops[d]? with
  | some o => o.after.any fun e => Region.binds md e && (e.on == i || D.contains e.on)
  | none => false
theorem Region.waits_spec {i : Nat} {D : List Nat} (h : Region.waits md ops i D = true) (d : Nat) (hd : d ∈ D) : ∃ o, ops[d]? = some o ∧ ∃ e ∈ o.after, Region.binds md e = true ∧ (e.on = i ∨ e.on ∈ D) := by
 have := List.all_eq_true.1 h d hd
 revert this
 cases ho : ops[d]? with
 | none => intro h; exact absurd h (by simp)
 | some o =>
  intro h
  simp only at h
  obtain ⟨e, he, hb⟩ := Array.any_eq_true'.1 h
  simp only [Bool.and_eq_true, Bool.or_eq_true, beq_iff_eq, List.contains_iff_mem] at hb
  exact ⟨o, rfl, e, he, hb.1, hb.2⟩
theorem wpAnyZ_first {i : Nat} {oi : Oper} {v : Value} {D : List Nat} (hi : ops[i]? = some oi) (hsel : ∀ (j : Nat) (o : Oper) cs b, ops[j]? = some o → o.op ≠ .select cs b)
    (hQ : ∀ c a w, Q (.panic c) (a.put oi.dst v) w → Q (.panic c) a w) (hzD : z ∈ D) (hiD : i ∉ D) (hdep : Region.waits md ops i D = true) :
    ∀ (fuel : Nat) (listed : Array Bool) (a : Act) (w : World),
     (∀ j oj, ops[j]? = some oj → j ≠ i → listed.getD j true = false → (∀ e ∈ oj.after, Region.binds md e = true → e.on ≠ i) → oi.apart ops oj = true) →
     i ∈ Region.ready md ops listed → (∀ d ∈ D, listed.getD d true = false) → YieldsIf P ops S oi v a → S w →
     wpAnyZ P md ops Q S z fuel (listed.setIfInBounds i true) (a.put oi.dst v) w → wpAnyZ P md ops Q S z (fuel + 1) listed a w := by
 have hlist : ∀ (listed : Array Bool) (k : Nat), listed.getD k true = false → listed.getD k false = true → False := fun listed k h0 h1 => by
  rcases Nat.lt_or_ge k listed.size with h' | h'
  ·simp [h'] at h0 h1; rw [h0] at h1; cases h1
  ·simp [Array.getElem?_eq_none h'] at h1
 intro fuel
 induction fuel with
 | zero =>
  intro listed a w _ hr hD hy hS H
  refine ⟨fun h => (by rw [h] at hr; cases hr), fun j hj => ?_⟩
  by_cases hji : j = i
  ·subst hji; exact hy.wpOp hi hS ⟨fun _ => hS, H⟩
  ·have := ready_mono hj hji
   rw [H.1] at this
   cases this
 | succ fuel ih =>
  intro listed a w hfree hr hD hy hS H
  refine ⟨fun h => (by rw [h] at hr; cases hr), fun j hj => ?_⟩
  by_cases hji : j = i
  ·subst hji; exact hy.wpOp hi hS ⟨fun _ => hS, H⟩
  ·have h1 := H.2 j (ready_mono hj hji)
   obtain ⟨hjun, oj, hoj, hall⟩ := mem_ready.1 hj
   have hnot : ∀ e ∈ oj.after, Region.binds md e = true → e.on ≠ i := fun e he hb heq => by
    have h1 := hall e he hb
    rw [heq] at h1
    exact hlist _ _ (mem_ready.1 hr).1 h1
   have hjD : j ∉ D := fun hjD => by
    obtain ⟨o, ho, e, he, hb, hor⟩ := Region.waits_spec hdep j hjD
    rw [hoj] at ho
    cases ho
    rcases hor with h | h
    ·exact hnot e he hb h
    ·exact hlist _ _ (hD _ h) (hall e he hb)
   have h2 := wpOp_putIf hoj (hfree j oj hoj hji hjun hnot) (fun cs b => hsel i oi cs b hi) (fun cs b => hsel j oj cs b hoj) hQ hy h1
   have hfree' : ∀ k ok, ops[k]? = some ok → k ≠ i → (listed.setIfInBounds j true).getD k true = false →
       (∀ e ∈ ok.after, Region.binds md e = true → e.on ≠ i) → oi.apart ops ok = true := fun k ok hk hki hun hno => by
    refine hfree k ok hk hki ?_ hno
    by_cases hjk : j = k
    ·subst hjk; exact hjun
    ·rw [getD_set_ne true hjk] at hun; exact hun
   have hD' : ∀ d ∈ D, (listed.setIfInBounds j true).getD d true = false := fun d hd => by
    have e : j ≠ d := fun h => hjD (h ▸ hd)
    rw [getD_set_ne true e]; exact hD d hd
   have hz2 : ((listed.setIfInBounds i true).setIfInBounds j true).getD z true = false := by
    have e : j ≠ z := fun h => hjD (h ▸ hzD)
    have e' : i ≠ z := fun h => hiD (h ▸ hzD)
    rw [getD_set_ne true e, getD_set_ne true e']; exact hD z hzD
   refine wpOp_mono (fun a' w' h3 => ⟨fun _ => h3.2.1 hz2, ih (listed.setIfInBounds j true) a' w' hfree' (ready_mono hr (Ne.symm hji)) hD' h3.1 (h3.2.1 hz2) ?_⟩) h2
   rw [Array.setIfInBounds_comm _ _ hji]
   exact h3.2.2
theorem wpAnyZ_take (i : Nat) (D : List Nat) {oi : Oper} {v : Value} {fuel : Nat} {listed : Array Bool} {a : Act} {w : World} (hi : ops[i]? = some oi)
    (hs : Region.noSelect ops = true) (hf : Region.free md ops listed i = true) (hr : (Region.ready md ops listed).contains i = true) (hzD : D.contains z = true) (hiD : D.contains i = false) (hdep : Region.waits md ops i D = true) (hun : (D.all fun d => listed.getD d true == false) = true)
    (hQ : ∀ c a w, Q (.panic c) (a.put oi.dst v) w → Q (.panic c) a w) (hy : YieldsIf P ops S oi v a) (hS : S w)
    (h : wpAnyZ P md ops Q S z fuel (listed.setIfInBounds i true) (a.put oi.dst v) w) : wpAnyZ P md ops Q S z (fuel + 1) listed a w :=
 wpAnyZ_first hi (Region.noSelect_spec hs) hQ (by simpa using hzD) (by simpa using hiD) hdep fuel listed a w (Region.free_spec hi hf) (by simpa using hr) (fun d hd => by simpa using List.all_eq_true.1 hun d hd) hy hS h
theorem wpAnyZ_one (i : Nat) {o : Oper} {fuel : Nat} {listed : Array Bool} {a : Act} {w : World} (hr : Region.ready md ops listed = [i]) (ho : ops[i]? = some o)
    (h : ∀ K' : Act → World → Prop, Shut (∀ a w, S w → wpAnyZ P md ops Q S z fuel (listed.setIfInBounds i true) a w → K' a w) → if Region.wanted o (yielded ops a.tmps) = true then Oper.wp P o a w K' Q else K' (a.put o.dst undef) w) : wpAnyZ P md ops Q S z (fuel + 1) listed a w :=
 ⟨fun h0 => absurd (hr ▸ h0) (by simp), fun j hj => by
  rw [hr] at hj
  obtain rfl := List.mem_singleton.1 hj
  exact wpOp_step ho (fun K' hK => h K' (fun a w hS hW => hK a w ⟨fun _ => hS, hW⟩))⟩
theorem wpAnyZ_z {o : Oper} {fuel : Nat} {listed : Array Bool} {a : Act} {w : World} (hr : Region.ready md ops listed = [z]) (ho : ops[z]? = some o)
    (h : ∀ K' : Act → World → Prop, Shut (∀ a w, wpAny P md ops Q fuel (listed.setIfInBounds z true) a w → K' a w) → if Region.wanted o (yielded ops a.tmps) = true then Oper.wp P o a w K' Q else K' (a.put o.dst undef) w) : wpAnyZ P md ops Q S z (fuel + 1) listed a w :=
 have hz : (listed.setIfInBounds z true).getD z true = true := by
  rcases Nat.lt_or_ge z listed.size with h' | h'
  ·simp [h']
  ·simp [Array.getD, Nat.not_lt.2 h']
 ⟨fun h0 => absurd (hr ▸ h0) (by simp), fun j hj => by
  rw [hr] at hj
  obtain rfl := List.mem_singleton.1 hj
  exact wpOp_step ho (fun K' hK => h K' (fun a w hW => hK a w ⟨fun hf => by rw [hz] at hf; exact absurd hf (by simp), wpAnyZ_of_any _ _ _ _ hz hW⟩))⟩
theorem wpAny_one (i : Nat) {o : Oper} {fuel : Nat} {listed : Array Bool} {a : Act} {w : World} (hr : Region.ready md ops listed = [i]) (ho : ops[i]? = some o)
    (h : ∀ K' : Act → World → Prop, Shut (∀ a w, wpAny P md ops Q fuel (listed.setIfInBounds i true) a w → K' a w) → if Region.wanted o (yielded ops a.tmps) = true then Oper.wp P o a w K' Q else K' (a.put o.dst undef) w) : wpAny P md ops Q (fuel + 1) listed a w :=
 ⟨fun h0 => absurd (hr ▸ h0) (by simp), fun j hj => by
  rw [hr] at hj
  obtain rfl := List.mem_singleton.1 hj
  exact wpOp_step ho (fun K' hK => h K' (fun a w hW => hK a w hW))⟩
theorem wp_region_z (z : Nat) (S : World → Prop) {id : Nat} {a : Act} {w : World} (hm : P.follows .mixedOrders = true)
    (h : wpAnyZ P .any ops Q S z ops.size (Array.replicate ops.size false) a w.drew) : (Code.region id ops true).wp P Q a w :=
 wp_region_any hm (wpAny_of_z _ _ _ _ h)
end
end Go.Proofs.YtpogmfliojcnjaaGreatDoor
