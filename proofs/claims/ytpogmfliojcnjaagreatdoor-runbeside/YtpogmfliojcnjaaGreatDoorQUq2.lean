import Derived.Test.YtpogmfliojcnjaaGreatDoorQUl
namespace Go.Proofs.YtpogmfliojcnjaaGreatDoor
open Go.RowKit Px
def RegTo (A : Nat → Prop) (k : Nat) (P : Nat → Prop) (rb bn bw m : Nat) (ns : List Str) (was : Px.Env) (w : World) (L : List (St k)) (g : Nat) (now' : Px.Env) (d' : Rd k) (e : Ending) (w' : World) : Prop :=
 e = .returned (.tuple #[]) ∧ Hid (RegM A k w' P L d' g ∧ RunV w' rb bn bw m ns now' was ∧ FrP P bn w w')
def LieTo (A P : Nat → Prop) {k : Nat} (rb bn bw m : Nat) (ns : List Str) (was : Px.Env) (w : World) (L : List (StF (St k))) (g : Nat) (l : Lie) (now' : Px.Env) (d' : RdF (Rd k)) (e : Ending) (w' : World) : Prop :=
 e = .returned (.tuple #[]) ∧ Hid (RMem A w' (RegM A k w') P L d' g l ∧ RunV w' rb bn bw m ns now' was ∧ FrP P bn w w')
def LeaveOk (A : Nat → Prop) (k : Nat) : Prop := ∀ {P : Nat → Prop} {w : World} {rb bn bw m : Nat} {ns : List Str} {now was now' : Px.Env} {L : List (St k)} {d d' : Rd k} {g : Nat}, RegM A k w P L d g → StAll ns k L → Sep A P w rb bn bw → RunV w rb bn bw m ns now was → (OpsK k).leave was L now d = some (now', d') →
 Calls Tryz.prog 110 #[.pointer (some ⟨rb, 0, none⟩), .pointer (some ⟨g, 0, none⟩)] w (RegTo A k P rb bn bw m ns was w L g now' d')
theorem allI_step {σ ρ : Type} {f : List σ → Px.Env → ρ → Option (Px.Env × ρ)} {rs : List (List σ)} {fu j : Nat} {n : Px.Env} {ds : List ρ} {p : Px.Env × List ρ} {r : List σ} (h : allI f rs (fu + 1) j n ds = some p) (hr : rs[j]? = some r) :
    ∃ dj q, ds[j]? = some dj ∧ f r n dj = some q ∧ allI f rs fu (j + 1) q.1 (ds.set j q.2) = some p := by
 rw [allI, hr] at h
 cases hd : ds[j]? with
 | none => rw [hd] at h; exact absurd h (by simp)
 | some dj =>
  rw [hd] at h
  simp only at h
  cases hf : f r n dj with
  | none => rw [hf] at h; exact absurd h (by simp)
  | some q => rw [hf] at h; exact ⟨dj, q, rfl, hf, h⟩
section
variable {A P : Nat → Prop} {w w' : World} {k g rb bn bw m : Nat} {ns : List Str} {now was : Px.Env} {L : List (StF (St k))} {d : RdF (Rd k)} {l : Lie}
theorem Sep.chart (h : Sep A P w rb bn bw) : ∀ b, A b → b < w.heap.size ∧ b ≠ bn := fun b hb => ⟨(h.a b hb).1, (h.a b hb).2.2⟩
set_option maxRecDepth 100000 in
set_option maxHeartbeats 8000000 in
theorem leave_succ (ih : LeaveOk A k) {now' : Px.Env} {d' : RdF (Rd k)} (h : RMem A w (RegM A k w) P L d g l) (hst : ∀ s ∈ L, StR ns s ∧ ∀ r ∈ s.regions, StAll ns k r) (hS : Sep A P w rb bn bw) (hv : RunV w rb bn bw m ns now was) (hl : leaveR (OpsK k) was L now d = some (now', d')) :
    Calls Tryz.prog 110 #[.pointer (some ⟨rb, 0, none⟩), .pointer (some ⟨g, 0, none⟩)] w (LieTo A P rb bn bw m ns was w L g l now' d') := by
 have hcT := cell_row h.hg 1 (u := pS l.gS d.there) rfl
 cases ht : d.there with
 | none =>
  rw [ht] at hcT
  rw [leaveR, ht] at hl
  injection hl with hl
  injection hl with h1 h2
  subst h1 h2
  have HF : Hid (RMem A w (RegM A k w) P L d g l ∧ RunV w rb bn bw m ns now was) := ⟨h, hv⟩
  have hc1 : w.cell? ⟨g, 1, none⟩ = some (.pointer none) := hcT
  clear hcT
  clear h hst hS hv ht ih
  go_enter Tryz.func110, Tryz.ntmps110
  go_wp2_with fail
  go_end0
  exact ⟨rfl, HF.out.1, HF.out.2, FrP.refl _ _ _⟩
 | some i =>
  rw [ht] at hcT
  rw [leaveR, ht] at hl
  simp only at hl
  have hil := h.th i ht
  obtain ⟨s, hs⟩ : ∃ s, L[i]? = some s := ⟨_, List.getElem?_eq_getElem hil⟩
  obtain ⟨x, hx⟩ : ∃ x, d.sts[i]? = some x := ⟨_, List.getElem?_eq_getElem (by rw [h.len]; exact hil)⟩
  rw [hs, hx] at hl
  simp only at hl
  cases hall : allI ((OpsK k).leave was) s.regions s.regions.length 0 now x.inside with
  | none => rw [hall] at hl; exact absurd hl (by simp)
  | some p =>
   rw [hall] at hl
   injection hl with hl
   injection hl with h1 h2
   subst h1 h2
   obtain ⟨n, hn⟩ : ∃ n, n = s.regions.length := ⟨_, rfl⟩
   have hsr := (hst s (List.mem_of_getElem? hs)).1
   have hm := h.st i s x hs hx
   obtain ⟨ai, ci, ci10, hai⟩ := hm.iy
   rw [← hn] at ci10 hai
   have hN6 : (n : Int) ≤ 9223372036854775807 := by have := hsr.il; unfold maxLen at this; omega
   obtain ⟨o, ho⟩ : ∃ o, o = i * 11 := ⟨_, rfl⟩
   have hc1 : w.cell? ⟨g, 1, none⟩ = some (.pointer (some ⟨l.gS, o, none⟩)) := by rw [ho]; exact hcT
   clear hcT
   rw [← ho] at ci10
   have HI : Hid (L[i]? = some s ∧ d.sts[i]? = some x ∧ i < L.length ∧ n = s.regions.length ∧ o = i * 11 ∧ i < d.sts.length) := ⟨hs, hx, hil, hn, ho, by rw [h.len]; exact hil⟩
   have HAI : Hid (0 < n → ai = some ⟨l.gI i, 0, none⟩) := fun hp => (hai hp).1
   have HS : Hid (Sep A P w rb bn bw) := hS
   have HST : Hid (∀ s ∈ L, StR ns s ∧ ∀ r ∈ s.regions, StAll ns k r) := hst
   have HIH : Hid (LeaveOk A k) := ih
   have H0 : Hid (allI ((OpsK k).leave was) s.regions (n - 0) 0 now x.inside = some p ∧ RMem A w (RegM A k w) P L (withS d i ⟨x.so, x.inside⟩) g l ∧ RunV w rb bn bw m ns now was ∧ FrP P bn w w) := ⟨by rw [Nat.sub_zero, hn]; exact hall, by rw [withS_self hx]; exact h, hv, FrP.refl _ _ _⟩
   clear h hst hS hv ht ih hs hx hil hn ho hall hai hm hsr
   go_enter Tryz.func110, Tryz.ntmps110
   go_wp2_with fail
   go_loopg [18] n (fun f i' wr => ∃ (j : Nat) (nj : Px.Env) (ins : List (Rd k)), f = n - j ∧ j ≤ n ∧ i' = .int .i64 (j : Int) ∧ Hid (allI ((OpsK k).leave was) s.regions (n - j) j nj ins = some p ∧ RMem A wr (RegM A k wr) P L (withS d i ⟨x.so, ins⟩) g l ∧ RunV wr rb bn bw m ns nj was ∧ FrP P bn w wr))
   case atStart => exact ⟨0, now, x.inside, by omega, by omega, rfl, H0.out⟩
   case round =>
    obtain ⟨j, nj, ins, rfl, hj, rfl, hr⟩ := hrel
    obtain ⟨hr1, hr2, hr3, hr4⟩ := hr.out
    have hm := hr2.st i s ⟨x.so, ins⟩ HI.out.1 (withS_at _ HI.out.2.2.2.2.2)
    by_cases hlt : j < n
    ·obtain ⟨r, hrj⟩ : ∃ r, s.regions[j]? = some r := ⟨s.regions[j]'(by rw [← HI.out.2.2.2.1]; exact hlt), by rw [List.getElem?_eq_getElem]⟩
     rw [show n - j = n - (j + 1) + 1 by omega] at hr1
     obtain ⟨dj, q, hd, hq, hnx⟩ := allI_step hr1 hrj
     obtain ⟨cj, hRj⟩ := hm.im j r dj hrj hd
     have hix := ixG ai (l.gI i) n ci j hlt HAI.out
     have hcall := HIH.out hRj ((HST.out s (List.mem_of_getElem? HI.out.1)).2 r (List.mem_of_getElem? hrj)) ((HS.out.up hr4.size).sub fun b hb => hb.1) hr3 hq
     unfold RegTo at hcall
     have HN : Hid (∀ w', RegM A k w' (fun b => P b ∧ l.role b = Role.inner i j) r q.2 (l.gr i j) ∧ RunV w' rb bn bw m ns q.1 was ∧ FrP (fun b => P b ∧ l.role b = Role.inner i j) bn wr w' → allI ((OpsK k).leave was) s.regions (n - (j + 1)) (j + 1) q.1 (ins.set j q.2) = some p ∧ RMem A w' (RegM A k w') P L (withS d i ⟨x.so, ins.set j q.2⟩) g l ∧ RunV w' rb bn bw m ns q.1 was ∧ FrP P bn w w') := fun w' ⟨a1, a2, a3⟩ => by
      have := hr2.inner (HS.out.up hr4.size) HI.out.1 (withS_at _ HI.out.2.2.2.2.2) hrj hd a3 a1
      rw [withS_withS] at this
      exact ⟨hnx, this, a2, hr4.trans (a3.wide fun b hb => hb.1)⟩
     clear hr hr1 hr2 hr3 hr4 hm hrj hd hq hnx hRj
     go_wp2_with (refine hcall.mono ?_; rintro e w5 ⟨rfl, h5⟩)
     go_roundg (n - (j + 1))
     case measure => omega
     case rel => exact ⟨j + 1, q.1, ins.set j q.2, rfl, by omega, by go_num, HN.out w5 h5.out⟩
    ·obtain rfl : j = n := by omega
     rw [Nat.sub_self, allI] at hr1
     injection hr1 with hr1
     subst hr1
     obtain ⟨vl, c5, hvl⟩ := hm.le
     rw [← HI.out.2.2.2.2.1] at c5
     have hdo := do_any (HST.out s (List.mem_of_getElem? HI.out.1)).1.le hvl hr3 (HS.out.up hr4.size).chart HS.out.rn HS.out.wn
     have HG : Hid (RMem A wr (RegM A k wr) P L (withS d i ⟨x.so, ins⟩) g l ∧ FrP P bn w wr) := ⟨hr2, hr4⟩
     obtain ⟨va, vn, vc, rfl⟩ := hvl.sl'
     clear hr hr2 hr3 hr4 hm hvl
     go_upto_region 7 with fail
     go_wp2_with fail
     refine hdo.mono ?_
     rintro e w2 ⟨rfl, h2⟩
     obtain ⟨hv2, hf2⟩ := h2.out
     have hR2 := HG.out.1.vars (HS.out.up HG.out.2.size) hf2 (fun _ _ h => h) (fun _ _ h => h)
     have k1 := cell_row hR2.hg 1 rfl
     have k2 := cell_row hR2.hg 2 rfl
     have f1 := ck_frozen hR2.hg 1
     have f2 := ck_frozen hR2.hg 2
     obtain ⟨W, hW⟩ : ∃ W, W = (w2.setCell ⟨g, 1, none⟩ (.pointer none)).setCell ⟨g, 2, none⟩ (.pointer (some ⟨l.gS, o, none⟩)) := ⟨_, rfl⟩
     have hkW : W.heap[g]? = some (.cells #[pS l.gS (some l.fi), pS l.gS none, pS l.gS (some i)] 84 (0, 0)) := by
      rw [hW, HI.out.2.2.2.2.1]
      exact ck_set (l := [pS l.gS (some l.fi), pS l.gS none, pS l.gS d.was]) (ck_set (l := [pS l.gS (some l.fi), pS l.gS d.there, pS l.gS d.was]) hR2.hg 1 _) 2 _
     have hko : ∀ b, b ≠ g → W.heap[b]? = w2.heap[b]? := fun b hb => by rw [hW, Below.heap_setCell _ _ _ _ hb, Below.heap_setCell _ _ _ _ hb]
     have hfW : FrP P bn w2 W := by
      rw [hW]
      exact ((FrP.refl _ _ _).setCell (p := ⟨g, 1, none⟩) hR2.pg.1 _).setCell (p := ⟨g, 2, none⟩) hR2.pg.1 _
     have hSw := HS.out.up (Nat.le_trans HG.out.2.size hf2.size)
     have HW : Hid (RMem A W (RegM A k W) P L (⟨none, some i, d.sts.set i ⟨x.so, ins⟩⟩ : RdF (Rd k)) g l ∧ RunV W rb bn bw m ns (doS was s.leave nj) was ∧ FrP P bn w W) := by
      refine ⟨hR2.keepBut (d' := ⟨none, some i, d.sts.set i ⟨x.so, ins⟩⟩) (fun b hb hlt => hko b (fun e => (hSw.a b hb).2.1 (e ▸ hR2.pg.1))) (fun b _ hb => hko b hb) hkW rfl (fun _ h => by cases h) (fun i' h => by injection h with h; rw [← h]; exact HI.out.2.2.1), ?_, (HG.out.2.trans (hf2.wide fun _ h => h.elim)).trans hfW⟩
      exact hv2.fr hfW ⟨fun e => (hSw.p rb e).2.1 rfl, hSw.rn⟩ ⟨fun e => (hSw.p bw e).2.2.2 rfl, hSw.wn⟩ (hv2.mn.keep (hko bn (fun e => (hSw.p g hR2.pg.1).2.2.1 e.symm)))
     rw [hW] at HW
     clear hdo h2 hv2 hf2 hR2 hW hkW hko hfW hSw
     go_wp2_with fail
     go_end0
     exact ⟨rfl, HW.out⟩
end
theorem leave_ok (A : Nat → Prop) : ∀ k, LeaveOk A k
 | 0 => fun h => h.elim
 | k + 1 => fun h hst hS hv hl => by
  obtain ⟨l, h⟩ := h
  exact (leave_succ (leave_ok A k) h hst hS hv hl).mono fun e w' ⟨he, hh⟩ => ⟨he, ⟨l, hh.out.1⟩, hh.out.2⟩
end Go.Proofs.YtpogmfliojcnjaaGreatDoor
namespace Go.Proofs.YtpogmfliojcnjaaGreatDoor
open Go.RowKit Px
section
variable {A : Nat → Prop} {w w' : World} {rb bn bw m : Nat} {ns ls : List Str} {now was : Px.Env}
set_option maxRecDepth 100000 in
set_option maxHeartbeats 8000000 in
theorem open_NS {gS gW o M cap : Nat} {ad : Option Addr} {ys : List Wy} {cs : List Int} {ov : Bool}
    (hF : ∀ (W : World) (g o : Nat) (y : Wy), W.cell? ⟨g, o, none⟩ = some (.int .i64 (y.kind : Int)) → W.cell? ⟨g, o + 1, none⟩ = some (.bool y.now) → Calls Tryz.prog 113 #[.pointer (some ⟨g, o, none⟩)] W fun e w' => e = .returned (.bool (askNS y)) ∧ w' = W)
    (h9 : w.cell? ⟨gS, o + 9, none⟩ = some (.slice ad M cap)) (hM : M = ys.length) (hmx : M ≤ maxLen) (had : 0 < M → ad = some ⟨gW, 0, none⟩) (hW : WaysM A w ls gS gW ys cs) (hNu : ∀ y ∈ ys, NuOk y.cond) (h : RunV w rb bn bw m ns now was)
    (hne : 0 < M → gW ≠ rb ∧ gW ≠ bn ∧ gW ≠ bw ∧ gW ≠ gS ∧ gW < w.heap.size) (hsn : gS ≠ bn) (hrn : rb ≠ bn) (hwn : bw ≠ bn) (hA : ∀ b, A b → b < w.heap.size ∧ b ≠ bn ∧ (0 < M → b ≠ gW))
    (hov : ∀ (bx : Nat) (W : World), FrP (fun b => 0 < M ∧ b = gW) bn w W → W.cell? ⟨bx, 0, none⟩ = some (.pointer (some ⟨gS, o, none⟩)) → Calls Tryz.prog 153 #[.pointer (some ⟨bx, 0, none⟩)] W fun e w' => e = .returned (.bool ov) ∧ w' = W) :
    Calls Tryz.prog 112 #[.pointer (some ⟨rb, 0, none⟩), .pointer (some ⟨gS, o, none⟩), .func (.func 113) #[] #[]] w fun e w' => e = .returned (wP gW (opnW ov now was askNS ys cs).1) ∧ Hid (WaysM A w' ls gS gW ys (opnW ov now was askNS ys cs).2 ∧ FrP (fun b => 0 < M ∧ b = gW) bn w w' ∧ RunV w' rb bn bw m ns now was) := by
 have hmf : ∀ (fn : Fn) (first cap : Array Value) (w : World), (Instr.makeFunc fn first cap).run Tryz.prog w = .ok (.func fn first cap) w := fun _ _ _ _ => rfl
 have hN6 : (M : Int) ≤ 9223372036854775807 := by unfold maxLen at hmx; omega
 obtain ⟨X, hX⟩ : ∃ X, X = w.alloc (.cells #[.pointer (some ⟨gS, o, none⟩)] 82) := ⟨_, rfl⟩
 obtain ⟨bx, hbx⟩ : ∃ bx, bx = w.heap.size := ⟨_, rfl⟩
 have hbX : Below w.heap.size w X := by rw [hX]; exact ck_grown _ _
 have hkX : X.heap[bx]? = some (.cells #[.pointer (some ⟨gS, o, none⟩)] 82 (0, 0)) := by rw [hX, hbx]; exact ck_new _ _
 have HBX : Hid (∀ W, FrP (fun b => 0 < M ∧ b = gW) bn X W → W.cell? ⟨bx, 0, none⟩ = some (.pointer (some ⟨gS, o, none⟩)) ∧ W.cell? ⟨gS, o + 9, none⟩ = some (.slice ad M cap)) := fun W hW => by
  have hbl := h.mn.lt
  refine ⟨hW.cell (cell_row hkX 0 rfl) (fun e => by have := (hne e.1).2.2.2.2; have := e.2; simp only at this; omega) (by show bx ≠ bn; omega), hW.cell (ck_cell hbX h9) (fun e => (hne e.1).2.2.2.1 e.2.symm) hsn⟩
 have HV : Hid (∀ W, FrP (fun b => 0 < M ∧ b = gW) bn X W → W.heap[bn]? = X.heap[bn]? → RunV W rb bn bw m ns now was) := fun W hW hb => by
  have h1 := h.below hbX
  exact h1.fr hW ⟨fun e => (hne e.1).1 e.2.symm, hrn⟩ ⟨fun e => (hne e.1).2.2.1 e.2.symm, hwn⟩ (h1.mn.keep hb)
 have HW0 : Hid (WaysM A X ls gS gW ys cs) := hW.keep (fun b _ hlt => hbX.block b hlt) (fun hp => hbX.block gW (hne (by omega)).2.2.2.2)
 have HA : Hid (∀ b, A b → b < w.heap.size ∧ b ≠ bn ∧ (0 < M → b ≠ gW)) := hA
 have HF : Hid (∀ (W : World) (g o : Nat) (y : Wy), W.cell? ⟨g, o, none⟩ = some (.int .i64 (y.kind : Int)) → W.cell? ⟨g, o + 1, none⟩ = some (.bool y.now) → Calls Tryz.prog 113 #[.pointer (some ⟨g, o, none⟩)] W fun e w' => e = .returned (.bool (askNS y)) ∧ w' = W) := hF
 have HOV : Hid (∀ W, FrP (fun b => 0 < M ∧ b = gW) bn X W → Calls Tryz.prog 153 #[.pointer (some ⟨bx, 0, none⟩)] W fun e w' => e = .returned (.bool ov) ∧ w' = W) := fun W hW => hov bx W ((FrP.of_below hbX).trans hW) (HBX.out W hW).1
 have HNE : Hid (0 < M → gW ≠ rb ∧ gW ≠ bn ∧ gW ≠ bw ∧ gW ≠ gS ∧ gW < w.heap.size) := hne
 have HNU : Hid (∀ y ∈ ys, NuOk y.cond) := hNu
 have HAD : Hid (0 < M → ad = some ⟨gW, 0, none⟩) := had
 have HM : Hid (M = ys.length) := hM
 have HB0 : Hid (Below w.heap.size w X) := hbX
 obtain ⟨x0, x9⟩ := HBX.out X (FrP.refl _ _ _)
 obtain ⟨R, hR⟩ : ∃ R, R = opnW ov now was askNS ys cs := ⟨_, rfl⟩
 have HR : Hid (R = opnI ov now was askNS ys M 0 cs) := by rw [Hid, hR, opnW, hM]
 rw [← hR]
 clear hF hW hNu h hne hsn hrn hwn hA hov hbX hkX hM hmx had h9 hR
 rw [hX] at x0 x9
 rw [hbx] at x0
 go_enter Tryz.func112, Tryz.ntmps112
 go_wp2_with fail
 rw [← hX, ← hbx]
 clear x0 x9 hX hbx
 go_loopg [16] M (fun f i wr => ∃ (k : Nat) (ds : List Int), f = M - k ∧ k ≤ M ∧ i = .int .i64 (k : Int) ∧ Hid (R = opnI ov now was askNS ys (M - k) k ds ∧ WaysM A wr ls gS gW ys ds ∧ FrP (fun b => 0 < M ∧ b = gW) bn X wr ∧ wr.heap[bn]? = X.heap[bn]?))
 case atStart => exact ⟨0, cs, by omega, by omega, rfl, HR.out, HW0.out, FrP.refl _ _ _, rfl⟩
 case round =>
  obtain ⟨k, ds, rfl, hk, rfl, hr⟩ := hrel
  obtain ⟨hr1, hr2, hr3, hr4⟩ := hr.out
  by_cases hlt : k < M
  ·obtain ⟨y, hy⟩ : ∃ y, ys[k]? = some y := ⟨ys[k]'(by rw [← HM.out]; exact hlt), by rw [List.getElem?_eq_getElem]⟩
   obtain ⟨c, hc⟩ : ∃ c, ds[k]? = some c := ⟨ds[k]'(by rw [hr2.1, ← HM.out]; exact hlt), by rw [List.getElem?_eq_getElem]⟩
   have hcd : ds.getD k 0 = c := by rw [List.getD_eq_getElem?_getD, hc]; rfl
   have hwm := hr2.2 k y c hy hc
   have hop := opnI_at (now := now) (was := was) (ov := ov) (ask := askNS) (f := M - (k + 1)) (cs := ds) hy
   rw [show M - (k + 1) + 1 = M - k by omega, hcd, ← hr1] at hop
   obtain ⟨z0, z9⟩ := HBX.out wr hr3
   have hix := ixY ad gW M cap k hlt HAD.out
   obtain ⟨⟨p, q, y0, y1, _⟩, _⟩ := hwm
   have hask := HF.out wr gW (k * 9) y y0 y1
   have hrv := HV.out wr hr3 hr4
   have hio := isOpen_any (bx := bx) (hr2.2 k y c hy hc) (HNU.out y (List.mem_of_getElem? hy)) hrv (fun W hW => HOV.out W (hr3.trans (FrP.of_below hW)))
   have HG : Hid (WaysM A wr ls gS gW ys ds ∧ FrP (fun b => 0 < M ∧ b = gW) bn X wr ∧ wr.heap[bn]? = X.heap[bn]? ∧ RunV wr rb bn bw m ns now was) := ⟨hr2, hr3, hr4, hrv⟩
   obtain ⟨tm, htm⟩ : ∃ tm : Int, tm = (y.times : Int) := ⟨_, rfl⟩
   rw [← htm] at hop hio
   unfold ovV at hio
   unfold OpenTo at hio
   have HNK : Hid (∀ W, Below wr.heap.size wr W → WaysM A W ls gS gW ys ds ∧ FrP (fun b => 0 < M ∧ b = gW) bn X W ∧ W.heap[bn]? = X.heap[bn]?) := fun W hW =>
    ⟨hr2.keep (fun b _ hl => hW.block b hl) (fun _ => hW.block gW (Nat.lt_of_lt_of_le (HNE.out (by omega)).2.2.2.2 (Nat.le_trans HB0.out.size hr3.size))), hr3.trans (FrP.of_below hW), by rw [hW.block bn hrv.mn.lt]; exact hr4⟩
   have HPUT : Hid (∀ W nq, Below wr.heap.size wr W → WaysM A ((W.setCell ⟨gW, k * 9 + 8, none⟩ (.int .i64 (wrap64 (c + 1)))).drewN nq) ls gS gW ys (ds.set k (wrap64 (c + 1))) ∧ FrP (fun b => 0 < M ∧ b = gW) bn X ((W.setCell ⟨gW, k * 9 + 8, none⟩ (.int .i64 (wrap64 (c + 1)))).drewN nq) ∧ ((W.setCell ⟨gW, k * 9 + 8, none⟩ (.int .i64 (wrap64 (c + 1)))).drewN nq).heap[bn]? = X.heap[bn]?) := fun W nq hW => by
    obtain ⟨a1, a2, a3⟩ := HNK.out W hW
    refine ⟨(a1.put (k := k) (c' := wrap64 (c + 1)) (fun b hb => (HA.out b hb).2.2 (by omega))).keep (fun _ _ _ => rfl) (fun _ => rfl), ?_, ?_⟩
    ·exact (a2.setCell (p := ⟨gW, k * 9 + 8, none⟩) ⟨by omega, rfl⟩ _).trans ⟨rfl, rfl, rfl, Nat.le_refl _, fun _ _ _ _ => rfl⟩
    ·show (W.setCell ⟨gW, k * 9 + 8, none⟩ _).heap[bn]? = _
     rw [Below.heap_setCell _ _ _ _ (fun e => (HNE.out (by omega)).2.1 e.symm)]; exact a3
   clear hr hr1 hr2 hr3 hr4 hy hc hcd hrv htm
   cases hak : askNS y with
   | false =>
    rw [hak] at hask hop
    rw [Bool.false_and, if_neg (by simp)] at hop
    have HOP : Hid (R = opnI ov now was askNS ys (M - (k + 1)) (k + 1) ds) := hop
    clear hop hak hio HNK HPUT
    go_wp2_with (refine hask.mono ?_; rintro e w' ⟨rfl, hw'⟩; obtain rfl := hw'.symm)
    go_roundg (M - (k + 1))
    case measure => omega
    case rel => exact ⟨k + 1, ds, rfl, by omega, by go_num, HOP.out, HG.out.1, HG.out.2.1, HG.out.2.2.1⟩
   | true =>
    rw [hak] at hask hop
    rw [Bool.true_and] at hop
    cases hso : isSo ov now was y with
    | false =>
     rw [hso] at hio hop
     rw [if_neg (by simp)] at hop
     have HOP : Hid (R = opnI ov now was askNS ys (M - (k + 1)) (k + 1) ds) := hop
     clear hop hak hso HPUT
     go_wp2_with (first
      | (go_at_call 154; refine hio.mono ?_; rintro e w1 ⟨W, nq, hB, ⟨-, rfl, hw1⟩ | ⟨hn, -⟩⟩; rotate_left; (· exact absurd hn (by simp)); obtain rfl := hw1.symm)
      | (refine hask.mono ?_; rintro e w' ⟨rfl, hw'⟩; obtain rfl := hw'.symm))
     go_roundg (M - (k + 1))
     case measure => omega
     case rel => obtain ⟨a1, a2, a3⟩ := HNK.out W hB.out; exact ⟨k + 1, ds, rfl, by omega, by go_num, HOP.out, a1, a2, a3⟩
    | true =>
     rw [hso] at hio hop
     rw [if_pos rfl] at hop
     by_cases htt : tm ≤ wrap64 (c + 1)
     ·rw [if_pos htt] at hop
      have HOP : Hid (R = (some k, ds.set k (wrap64 (c + 1)))) := hop
      rw [show decide (tm ≤ wrap64 (c + 1)) = true from decide_eq_true htt] at hio
      clear hop hak hso HNK htt
      go_wp2_with (first
       | (go_at_call 154; refine hio.mono ?_; rintro e w1 ⟨W, nq, hB, ⟨hn, -⟩ | ⟨-, rfl, hw1⟩⟩; (· exact absurd hn (by simp)))
       | (refine hask.mono ?_; rintro e w' ⟨rfl, hw'⟩; obtain rfl := hw'.symm))
      go_ret
      obtain ⟨a1, a2, a3⟩ := HPUT.out W nq hB.out
      exact ⟨by rw [HOP.out]; rfl, by rw [HOP.out]; exact a1, (FrP.of_below HB0.out).trans a2, HV.out _ a2 a3⟩
     ·rw [if_neg htt] at hop
      have HOP : Hid (R = opnI ov now was askNS ys (M - (k + 1)) (k + 1) (ds.set k (wrap64 (c + 1)))) := hop
      rw [show decide (tm ≤ wrap64 (c + 1)) = false from decide_eq_false htt] at hio
      clear hop hak hso HNK htt
      go_wp2_with (first
       | (go_at_call 154; refine hio.mono ?_; rintro e w1 ⟨W, nq, hB, ⟨hn, -⟩ | ⟨-, rfl, hw1⟩⟩; (· exact absurd hn (by simp)))
       | (refine hask.mono ?_; rintro e w' ⟨rfl, hw'⟩; obtain rfl := hw'.symm))
      go_roundg (M - (k + 1))
      case measure => omega
      case rel =>
       obtain ⟨a1, a2, a3⟩ := HPUT.out W nq hB.out
       exact ⟨k + 1, _, rfl, by omega, by go_num, HOP.out, a1, a2, a3⟩
  ·obtain rfl : k = M := by omega
   rw [Nat.sub_self, opnI] at hr1
   have HFIN : Hid (R = (none, ds) ∧ WaysM A wr ls gS gW ys ds ∧ FrP (fun b => 0 < k ∧ b = gW) bn w wr ∧ RunV wr rb bn bw m ns now was) := ⟨hr1, hr2, (FrP.of_below HB0.out).trans hr3, HV.out wr hr3 hr4⟩
   clear hr hr1 hr2 hr3 hr4
   go_wp2_with fail
   go_ret
   exact ⟨by rw [HFIN.out.1]; rfl, by rw [HFIN.out.1]; exact HFIN.out.2.1, HFIN.out.2.2⟩
end
end Go.Proofs.YtpogmfliojcnjaaGreatDoor
namespace Go.Proofs.YtpogmfliojcnjaaGreatDoor
open Go.RowKit Px
section
variable {A : Nat → Prop} {w w' : World} {rb bn bw m : Nat} {ns ls : List Str} {now was : Px.Env}
set_option maxRecDepth 100000 in
set_option maxHeartbeats 8000000 in
theorem open_NW {gS gW o M cap : Nat} {ad : Option Addr} {ys : List Wy} {cs : List Int} {ov : Bool}
    (hF : ∀ (W : World) (g o : Nat) (y : Wy), W.cell? ⟨g, o, none⟩ = some (.int .i64 (y.kind : Int)) → W.cell? ⟨g, o + 1, none⟩ = some (.bool y.now) → Calls Tryz.prog 114 #[.pointer (some ⟨g, o, none⟩)] W fun e w' => e = .returned (.bool (askNW y)) ∧ w' = W)
    (h9 : w.cell? ⟨gS, o + 9, none⟩ = some (.slice ad M cap)) (hM : M = ys.length) (hmx : M ≤ maxLen) (had : 0 < M → ad = some ⟨gW, 0, none⟩) (hW : WaysM A w ls gS gW ys cs) (hNu : ∀ y ∈ ys, NuOk y.cond) (h : RunV w rb bn bw m ns now was)
    (hne : 0 < M → gW ≠ rb ∧ gW ≠ bn ∧ gW ≠ bw ∧ gW ≠ gS ∧ gW < w.heap.size) (hsn : gS ≠ bn) (hrn : rb ≠ bn) (hwn : bw ≠ bn) (hA : ∀ b, A b → b < w.heap.size ∧ b ≠ bn ∧ (0 < M → b ≠ gW))
    (hov : ∀ (bx : Nat) (W : World), FrP (fun b => 0 < M ∧ b = gW) bn w W → W.cell? ⟨bx, 0, none⟩ = some (.pointer (some ⟨gS, o, none⟩)) → Calls Tryz.prog 153 #[.pointer (some ⟨bx, 0, none⟩)] W fun e w' => e = .returned (.bool ov) ∧ w' = W) :
    Calls Tryz.prog 112 #[.pointer (some ⟨rb, 0, none⟩), .pointer (some ⟨gS, o, none⟩), .func (.func 114) #[] #[]] w fun e w' => e = .returned (wP gW (opnW ov now was askNW ys cs).1) ∧ Hid (WaysM A w' ls gS gW ys (opnW ov now was askNW ys cs).2 ∧ FrP (fun b => 0 < M ∧ b = gW) bn w w' ∧ RunV w' rb bn bw m ns now was) := by
 have hmf : ∀ (fn : Fn) (first cap : Array Value) (w : World), (Instr.makeFunc fn first cap).run Tryz.prog w = .ok (.func fn first cap) w := fun _ _ _ _ => rfl
 have hN6 : (M : Int) ≤ 9223372036854775807 := by unfold maxLen at hmx; omega
 obtain ⟨X, hX⟩ : ∃ X, X = w.alloc (.cells #[.pointer (some ⟨gS, o, none⟩)] 82) := ⟨_, rfl⟩
 obtain ⟨bx, hbx⟩ : ∃ bx, bx = w.heap.size := ⟨_, rfl⟩
 have hbX : Below w.heap.size w X := by rw [hX]; exact ck_grown _ _
 have hkX : X.heap[bx]? = some (.cells #[.pointer (some ⟨gS, o, none⟩)] 82 (0, 0)) := by rw [hX, hbx]; exact ck_new _ _
 have HBX : Hid (∀ W, FrP (fun b => 0 < M ∧ b = gW) bn X W → W.cell? ⟨bx, 0, none⟩ = some (.pointer (some ⟨gS, o, none⟩)) ∧ W.cell? ⟨gS, o + 9, none⟩ = some (.slice ad M cap)) := fun W hW => by
  have hbl := h.mn.lt
  refine ⟨hW.cell (cell_row hkX 0 rfl) (fun e => by have := (hne e.1).2.2.2.2; have := e.2; simp only at this; omega) (by show bx ≠ bn; omega), hW.cell (ck_cell hbX h9) (fun e => (hne e.1).2.2.2.1 e.2.symm) hsn⟩
 have HV : Hid (∀ W, FrP (fun b => 0 < M ∧ b = gW) bn X W → W.heap[bn]? = X.heap[bn]? → RunV W rb bn bw m ns now was) := fun W hW hb => by
  have h1 := h.below hbX
  exact h1.fr hW ⟨fun e => (hne e.1).1 e.2.symm, hrn⟩ ⟨fun e => (hne e.1).2.2.1 e.2.symm, hwn⟩ (h1.mn.keep hb)
 have HW0 : Hid (WaysM A X ls gS gW ys cs) := hW.keep (fun b _ hlt => hbX.block b hlt) (fun hp => hbX.block gW (hne (by omega)).2.2.2.2)
 have HA : Hid (∀ b, A b → b < w.heap.size ∧ b ≠ bn ∧ (0 < M → b ≠ gW)) := hA
 have HF : Hid (∀ (W : World) (g o : Nat) (y : Wy), W.cell? ⟨g, o, none⟩ = some (.int .i64 (y.kind : Int)) → W.cell? ⟨g, o + 1, none⟩ = some (.bool y.now) → Calls Tryz.prog 114 #[.pointer (some ⟨g, o, none⟩)] W fun e w' => e = .returned (.bool (askNW y)) ∧ w' = W) := hF
 have HOV : Hid (∀ W, FrP (fun b => 0 < M ∧ b = gW) bn X W → Calls Tryz.prog 153 #[.pointer (some ⟨bx, 0, none⟩)] W fun e w' => e = .returned (.bool ov) ∧ w' = W) := fun W hW => hov bx W ((FrP.of_below hbX).trans hW) (HBX.out W hW).1
 have HNE : Hid (0 < M → gW ≠ rb ∧ gW ≠ bn ∧ gW ≠ bw ∧ gW ≠ gS ∧ gW < w.heap.size) := hne
 have HNU : Hid (∀ y ∈ ys, NuOk y.cond) := hNu
 have HAD : Hid (0 < M → ad = some ⟨gW, 0, none⟩) := had
 have HM : Hid (M = ys.length) := hM
 have HB0 : Hid (Below w.heap.size w X) := hbX
 obtain ⟨x0, x9⟩ := HBX.out X (FrP.refl _ _ _)
 obtain ⟨R, hR⟩ : ∃ R, R = opnW ov now was askNW ys cs := ⟨_, rfl⟩
 have HR : Hid (R = opnI ov now was askNW ys M 0 cs) := by rw [Hid, hR, opnW, hM]
 rw [← hR]
 clear hF hW hNu h hne hsn hrn hwn hA hov hbX hkX hM hmx had h9 hR
 rw [hX] at x0 x9
 rw [hbx] at x0
 go_enter Tryz.func112, Tryz.ntmps112
 go_wp2_with fail
 rw [← hX, ← hbx]
 clear x0 x9 hX hbx
 go_loopg [16] M (fun f i wr => ∃ (k : Nat) (ds : List Int), f = M - k ∧ k ≤ M ∧ i = .int .i64 (k : Int) ∧ Hid (R = opnI ov now was askNW ys (M - k) k ds ∧ WaysM A wr ls gS gW ys ds ∧ FrP (fun b => 0 < M ∧ b = gW) bn X wr ∧ wr.heap[bn]? = X.heap[bn]?))
 case atStart => exact ⟨0, cs, by omega, by omega, rfl, HR.out, HW0.out, FrP.refl _ _ _, rfl⟩
 case round =>
  obtain ⟨k, ds, rfl, hk, rfl, hr⟩ := hrel
  obtain ⟨hr1, hr2, hr3, hr4⟩ := hr.out
  by_cases hlt : k < M
  ·obtain ⟨y, hy⟩ : ∃ y, ys[k]? = some y := ⟨ys[k]'(by rw [← HM.out]; exact hlt), by rw [List.getElem?_eq_getElem]⟩
   obtain ⟨c, hc⟩ : ∃ c, ds[k]? = some c := ⟨ds[k]'(by rw [hr2.1, ← HM.out]; exact hlt), by rw [List.getElem?_eq_getElem]⟩
   have hcd : ds.getD k 0 = c := by rw [List.getD_eq_getElem?_getD, hc]; rfl
   have hwm := hr2.2 k y c hy hc
   have hop := opnI_at (now := now) (was := was) (ov := ov) (ask := askNW) (f := M - (k + 1)) (cs := ds) hy
   rw [show M - (k + 1) + 1 = M - k by omega, hcd, ← hr1] at hop
   obtain ⟨z0, z9⟩ := HBX.out wr hr3
   have hix := ixY ad gW M cap k hlt HAD.out
   obtain ⟨⟨p, q, y0, y1, _⟩, _⟩ := hwm
   have hask := HF.out wr gW (k * 9) y y0 y1
   have hrv := HV.out wr hr3 hr4
   have hio := isOpen_any (bx := bx) (hr2.2 k y c hy hc) (HNU.out y (List.mem_of_getElem? hy)) hrv (fun W hW => HOV.out W (hr3.trans (FrP.of_below hW)))
   have HG : Hid (WaysM A wr ls gS gW ys ds ∧ FrP (fun b => 0 < M ∧ b = gW) bn X wr ∧ wr.heap[bn]? = X.heap[bn]? ∧ RunV wr rb bn bw m ns now was) := ⟨hr2, hr3, hr4, hrv⟩
   obtain ⟨tm, htm⟩ : ∃ tm : Int, tm = (y.times : Int) := ⟨_, rfl⟩
   rw [← htm] at hop hio
   unfold ovV at hio
   unfold OpenTo at hio
   have HNK : Hid (∀ W, Below wr.heap.size wr W → WaysM A W ls gS gW ys ds ∧ FrP (fun b => 0 < M ∧ b = gW) bn X W ∧ W.heap[bn]? = X.heap[bn]?) := fun W hW =>
    ⟨hr2.keep (fun b _ hl => hW.block b hl) (fun _ => hW.block gW (Nat.lt_of_lt_of_le (HNE.out (by omega)).2.2.2.2 (Nat.le_trans HB0.out.size hr3.size))), hr3.trans (FrP.of_below hW), by rw [hW.block bn hrv.mn.lt]; exact hr4⟩
   have HPUT : Hid (∀ W nq, Below wr.heap.size wr W → WaysM A ((W.setCell ⟨gW, k * 9 + 8, none⟩ (.int .i64 (wrap64 (c + 1)))).drewN nq) ls gS gW ys (ds.set k (wrap64 (c + 1))) ∧ FrP (fun b => 0 < M ∧ b = gW) bn X ((W.setCell ⟨gW, k * 9 + 8, none⟩ (.int .i64 (wrap64 (c + 1)))).drewN nq) ∧ ((W.setCell ⟨gW, k * 9 + 8, none⟩ (.int .i64 (wrap64 (c + 1)))).drewN nq).heap[bn]? = X.heap[bn]?) := fun W nq hW => by
    obtain ⟨a1, a2, a3⟩ := HNK.out W hW
    refine ⟨(a1.put (k := k) (c' := wrap64 (c + 1)) (fun b hb => (HA.out b hb).2.2 (by omega))).keep (fun _ _ _ => rfl) (fun _ => rfl), ?_, ?_⟩
    ·exact (a2.setCell (p := ⟨gW, k * 9 + 8, none⟩) ⟨by omega, rfl⟩ _).trans ⟨rfl, rfl, rfl, Nat.le_refl _, fun _ _ _ _ => rfl⟩
    ·show (W.setCell ⟨gW, k * 9 + 8, none⟩ _).heap[bn]? = _
     rw [Below.heap_setCell _ _ _ _ (fun e => (HNE.out (by omega)).2.1 e.symm)]; exact a3
   clear hr hr1 hr2 hr3 hr4 hy hc hcd hrv htm
   cases hak : askNW y with
   | false =>
    rw [hak] at hask hop
    rw [Bool.false_and, if_neg (by simp)] at hop
    have HOP : Hid (R = opnI ov now was askNW ys (M - (k + 1)) (k + 1) ds) := hop
    clear hop hak hio HNK HPUT
    go_wp2_with (refine hask.mono ?_; rintro e w' ⟨rfl, hw'⟩; obtain rfl := hw'.symm)
    go_roundg (M - (k + 1))
    case measure => omega
    case rel => exact ⟨k + 1, ds, rfl, by omega, by go_num, HOP.out, HG.out.1, HG.out.2.1, HG.out.2.2.1⟩
   | true =>
    rw [hak] at hask hop
    rw [Bool.true_and] at hop
    cases hso : isSo ov now was y with
    | false =>
     rw [hso] at hio hop
     rw [if_neg (by simp)] at hop
     have HOP : Hid (R = opnI ov now was askNW ys (M - (k + 1)) (k + 1) ds) := hop
     clear hop hak hso HPUT
     go_wp2_with (first
      | (go_at_call 154; refine hio.mono ?_; rintro e w1 ⟨W, nq, hB, ⟨-, rfl, hw1⟩ | ⟨hn, -⟩⟩; rotate_left; (· exact absurd hn (by simp)); obtain rfl := hw1.symm)
      | (refine hask.mono ?_; rintro e w' ⟨rfl, hw'⟩; obtain rfl := hw'.symm))
     go_roundg (M - (k + 1))
     case measure => omega
     case rel => obtain ⟨a1, a2, a3⟩ := HNK.out W hB.out; exact ⟨k + 1, ds, rfl, by omega, by go_num, HOP.out, a1, a2, a3⟩
    | true =>
     rw [hso] at hio hop
     rw [if_pos rfl] at hop
     by_cases htt : tm ≤ wrap64 (c + 1)
     ·rw [if_pos htt] at hop
      have HOP : Hid (R = (some k, ds.set k (wrap64 (c + 1)))) := hop
      rw [show decide (tm ≤ wrap64 (c + 1)) = true from decide_eq_true htt] at hio
      clear hop hak hso HNK htt
      go_wp2_with (first
       | (go_at_call 154; refine hio.mono ?_; rintro e w1 ⟨W, nq, hB, ⟨hn, -⟩ | ⟨-, rfl, hw1⟩⟩; (· exact absurd hn (by simp)))
       | (refine hask.mono ?_; rintro e w' ⟨rfl, hw'⟩; obtain rfl := hw'.symm))
      go_ret
      obtain ⟨a1, a2, a3⟩ := HPUT.out W nq hB.out
      exact ⟨by rw [HOP.out]; rfl, by rw [HOP.out]; exact a1, (FrP.of_below HB0.out).trans a2, HV.out _ a2 a3⟩
     ·rw [if_neg htt] at hop
      have HOP : Hid (R = opnI ov now was askNW ys (M - (k + 1)) (k + 1) (ds.set k (wrap64 (c + 1)))) := hop
      rw [show decide (tm ≤ wrap64 (c + 1)) = false from decide_eq_false htt] at hio
      clear hop hak hso HNK htt
      go_wp2_with (first
       | (go_at_call 154; refine hio.mono ?_; rintro e w1 ⟨W, nq, hB, ⟨hn, -⟩ | ⟨-, rfl, hw1⟩⟩; (· exact absurd hn (by simp)))
       | (refine hask.mono ?_; rintro e w' ⟨rfl, hw'⟩; obtain rfl := hw'.symm))
      go_roundg (M - (k + 1))
      case measure => omega
      case rel =>
       obtain ⟨a1, a2, a3⟩ := HPUT.out W nq hB.out
       exact ⟨k + 1, _, rfl, by omega, by go_num, HOP.out, a1, a2, a3⟩
  ·obtain rfl : k = M := by omega
   rw [Nat.sub_self, opnI] at hr1
   have HFIN : Hid (R = (none, ds) ∧ WaysM A wr ls gS gW ys ds ∧ FrP (fun b => 0 < k ∧ b = gW) bn w wr ∧ RunV wr rb bn bw m ns now was) := ⟨hr1, hr2, (FrP.of_below HB0.out).trans hr3, HV.out wr hr3 hr4⟩
   clear hr hr1 hr2 hr3 hr4
   go_wp2_with fail
   go_ret
   exact ⟨by rw [HFIN.out.1]; rfl, by rw [HFIN.out.1]; exact HFIN.out.2.1, HFIN.out.2.2⟩
end
end Go.Proofs.YtpogmfliojcnjaaGreatDoor
