/- The runner's pass: all of going on but the way that is open then. -/
import Derived.Test.YtiihgnagjemikaaGreatDoorVUy
import Derived.WideKeyEntry
import Derived.Test.YtiihgnagjemikaaGreatDoorProg
import Derived.Test.YtiihgnagjemikaaGreatDoorVMem
import Derived.WalkKit
import Derived.Shelf.LaysM
import Derived.Shelf.Strconv.Clone
import Derived.Shelf.Strings.Prefix
namespace Go.Proofs.YtiihgnagjemikaaGreatDoor
open Go.RowKit Px

def GoOk (A : Nat → Prop) (k : Nat) : Prop := ∀ {P : Nat → Prop} {w : World} {rb bn bw m : Nat} {ns : List Str} {now was now' : Px.Env} {L : List (St k)} {d d' : Rd k} {g : Nat}, RegM A k w P L d g → StAll ns k L → Sep A P w rb bn bw → RunV w rb bn bw m ns now was → (OpsK k).go was L now d = some (now', d') →
  Calls Tryz.prog 40 #[.pointer (some ⟨rb, 0, none⟩), .pointer (some ⟨g, 0, none⟩)] w (RegTo A k P rb bn bw m ns was w L g now' d')
theorem passR_cases {σ ρ : Type} {O : Ops σ ρ} {was : Px.Env} {L : List (StF σ)} {i : Nat} {n : Px.Env} {d : RdF ρ} {s : StF σ} {x : SdF ρ} {wj : Option Nat} {n' : Px.Env} {d' : RdF ρ} (ht : d.there = some i) (hs : L[i]? = some s) (hx : d.sts[i]? = some x) (h : passR O was L n d = some (wj, n', d')) :
    (∃ j, (opnW (overs O s.regions x.inside) n was askS s.ways x.so).1 = some j ∧ wj = some j ∧ n' = n ∧ d' = ⟨some i, d.was, d.sts.set i ⟨(opnW (overs O s.regions x.inside) n was askS s.ways x.so).2, x.inside⟩⟩) ∨
    ((opnW (overs O s.regions x.inside) n was askS s.ways x.so).1 = none ∧ evE n was s.rests ≠ 0 ∧ wj = none ∧ n' = n ∧ d' = ⟨some i, d.was, d.sts.set i ⟨(opnW (overs O s.regions x.inside) n was askS s.ways x.so).2, x.inside⟩⟩) ∨
    ((opnW (overs O s.regions x.inside) n was askS s.ways x.so).1 = none ∧ evE n was s.rests = 0 ∧ ∃ p, allI (O.go was) s.regions s.regions.length 0 (doS was s.during n) x.inside = some p ∧
      wj = (opnW (overs O s.regions p.2) p.1 was askW s.ways (opnW (overs O s.regions x.inside) n was askS s.ways x.so).2).1 ∧ n' = p.1 ∧ d' = ⟨some i, d.was, d.sts.set i ⟨(opnW (overs O s.regions p.2) p.1 was askW s.ways (opnW (overs O s.regions x.inside) n was askS s.ways x.so).2).2, p.2⟩⟩) := by
  rw [passR, ht] at h
  simp only at h
  rw [hs, hx] at h
  simp only at h
  cases ho : (opnW (overs O s.regions x.inside) n was askS s.ways x.so).1 with
  | some j =>
    rw [ho] at h
    simp only [Option.some.injEq, Prod.mk.injEq] at h
    exact .inl ⟨j, rfl, h.1.symm, h.2.1.symm, h.2.2.symm⟩
  | none =>
    rw [ho] at h
    simp only at h
    by_cases he : evE n was s.rests = 0
    · rw [if_neg (by simpa using he)] at h
      cases ha : allI (O.go was) s.regions s.regions.length 0 (doS was s.during n) x.inside with
      | none => rw [ha] at h; exact absurd h (by simp)
      | some p =>
        rw [ha] at h
        simp only [Option.some.injEq, Prod.mk.injEq] at h
        exact .inr (.inr ⟨rfl, he, p, rfl, h.1.symm, h.2.1.symm, h.2.2.symm⟩)
    · rw [if_pos (by simpa using he)] at h
      simp only [Option.some.injEq, Prod.mk.injEq] at h
      exact .inr (.inl ⟨rfl, he, h.1.symm, h.2.1.symm, h.2.2.symm⟩)
section
variable {A P : Nat → Prop} {w w' : World} {k g rb bn bw m : Nat} {ns : List Str} {now was : Px.Env} {L : List (StF (St k))} {d : RdF (Rd k)} {l : Lie}
theorem withS_there {i : Nat} {x : SdF (Rd k)} (ht : d.there = some i) : withS d i x = ⟨some i, d.was, d.sts.set i x⟩ := by unfold withS; rw [ht]
set_option maxRecDepth 100000 in
set_option maxHeartbeats 16000000 in
theorem pass_succ (ih : GoOk A k) {i : Nat} {wj : Option Nat} {now' : Px.Env} {d' : RdF (Rd k)} (h : RMem A w (RegM A k w) P L d g l) (hst : ∀ s ∈ L, StR ns s ∧ ∀ r ∈ s.regions, StAll ns k r) (hS : Sep A P w rb bn bw) (hv : RunV w rb bn bw m ns now was) (ht : d.there = some i) (hl : passR (OpsK k) was L now d = some (wj, now', d')) :
    Calls Tryz.prog 74 #[.pointer (some ⟨rb, 0, none⟩), .pointer (some ⟨g, 0, none⟩)] w (WayTo A P rb bn bw m ns was w L g l i wj now' d') := by
  have hil := h.th i ht
  obtain ⟨s, hs⟩ : ∃ s, L[i]? = some s := ⟨_, List.getElem?_eq_getElem hil⟩
  obtain ⟨x, hx⟩ : ∃ x, d.sts[i]? = some x := ⟨_, List.getElem?_eq_getElem (by rw [h.len]; exact hil)⟩
  have hl := passR_cases ht hs hx hl
  have hop := open_at open_ok3 h (hst s (List.mem_of_getElem? hs)).1 hS hv hs hx
  obtain ⟨oi, hoi⟩ : ∃ oi, oi = i * 11 := ⟨_, rfl⟩
  have hcT := cell_row h.hg 1 (u := pS l.gS d.there) rfl
  have hc1 : w.cell? ⟨g, 1, none⟩ = some (.pointer (some ⟨l.gS, oi, none⟩)) := by rw [hcT, ht, hoi]; rfl
  obtain ⟨n, hn⟩ : ∃ n, n = s.regions.length := ⟨_, rfl⟩
  have hn6 : (n : Int) ≤ 9223372036854775807 := by have := (hst s (List.mem_of_getElem? hs)).1.il; unfold maxLen at this; omega
  have HI : Hid (L[i]? = some s ∧ d.sts[i]? = some x ∧ i < d.sts.length ∧ n = s.regions.length ∧ oi = i * 11 ∧ d.there = some i) := ⟨hs, hx, (List.getElem?_eq_some_iff.1 hx).1, hn, hoi, ht⟩
  have HSR : Hid (StR ns s ∧ ∀ r ∈ s.regions, StAll ns k r) := hst s (List.mem_of_getElem? hs)
  have HS : Hid (Sep A P w rb bn bw) := hS
  have HIH : Hid (GoOk A k) := ih
  rw [← hoi] at hop
  obtain ⟨o1, ho1⟩ : ∃ o1, o1 = opnW (overs (OpsK k) s.regions x.inside) now was askS s.ways x.so := ⟨_, rfl⟩
  rw [← ho1] at hop hl
  clear h hst hS hv ih hs hil hx hcT hn hoi ht ho1
  rcases hl with ⟨j, ho, e1, e2, e3⟩ | ⟨ho, he, e1, e2, e3⟩ | ⟨ho, he, p, hall, e1, e2, e3⟩
  · rw [ho] at hop
    subst e1 e2 e3
    unfold wP at hop
    clear ho
    go_enter Tryz.func74, Tryz.ntmps74
    go_wp2_with (refine hop.mono ?_; rintro e w3 ⟨rfl, h3⟩)
    go_ret
    obtain ⟨a1, a2, a3⟩ := h3.out
    rw [withS_there HI.out.2.2.2.2.2] at a1
    exact ⟨rfl, a1, a2, a3⟩
  · rw [ho] at hop
    subst e1 e2 e3
    unfold wP at hop
    have HE : Hid (evE now' was s.rests ≠ 0) := he
    clear ho he
    go_enter Tryz.func74, Tryz.ntmps74
    go_wp2_with fail
    refine hop.mono ?_
    rintro e w3 ⟨rfl, h3⟩
    clear hop hc1
    obtain ⟨a1, a2, a3⟩ := h3.out
    obtain ⟨pr, c6, hre⟩ := (a1.st i s ⟨o1.2, x.inside⟩ HI.out.1 (withS_at _ HI.out.2.2.1)).re
    rw [← HI.out.2.2.2.2.1] at c6
    have hev := ueval_any HSR.out.1.re hre a2
    unfold EvTo at hev
    obtain ⟨xv, hxv⟩ : ∃ xv, xv = evE now' was s.rests := ⟨_, rfl⟩
    rw [← hxv] at hev
    have hx0 : (xv == 0) = false := by rw [hxv]; simpa using HE.out
    have HG : Hid (RMem A w3 (RegM A k w3) P L (withS d i ⟨o1.2, x.inside⟩) g l ∧ RunV w3 rb bn bw m ns now' was ∧ FrP P bn w w3) := h3.out
    clear h3 a1 a2 a3 hre hxv HE
    go_wp2_with (refine hev.mono ?_; rintro e w4 ⟨rfl, h4⟩)
    go_ret
    obtain ⟨a1, a2, a3⟩ := HG.out
    have a4 := a1.vars (HS.out.up a3.size) (FrP.of_below (P := fun _ => False) h4.out) (fun _ _ h => h) (fun _ _ h => h)
    rw [withS_there HI.out.2.2.2.2.2] at a4
    exact ⟨rfl, a4, a2.below h4.out, a3.trans (FrP.of_below h4.out)⟩
  · rw [ho] at hop
    unfold wP at hop
    have HE : Hid (evE now was s.rests = 0 ∧ allI ((OpsK k).go was) s.regions s.regions.length 0 (doS was s.during now) x.inside = some p ∧ wj = (opnW (overs (OpsK k) s.regions p.2) p.1 was askW s.ways o1.2).1 ∧ now' = p.1 ∧ d' = (⟨some i, d.was, d.sts.set i ⟨(opnW (overs (OpsK k) s.regions p.2) p.1 was askW s.ways o1.2).2, p.2⟩⟩ : RdF (Rd k))) := ⟨he, hall, e1, e2, e3⟩
    clear ho he hall e1 e2 e3
    go_enter Tryz.func74, Tryz.ntmps74
    go_wp2_with fail
    refine hop.mono ?_
    rintro e w3 ⟨rfl, h3⟩
    clear hop hc1
    obtain ⟨a1, a2, a3⟩ := h3.out
    obtain ⟨pr, c6, hre⟩ := (a1.st i s ⟨o1.2, x.inside⟩ HI.out.1 (withS_at _ HI.out.2.2.1)).re
    rw [← HI.out.2.2.2.2.1] at c6
    have hev := ueval_any HSR.out.1.re hre a2
    unfold EvTo at hev
    rw [HE.out.1] at hev
    have HG : Hid (RMem A w3 (RegM A k w3) P L (withS d i ⟨o1.2, x.inside⟩) g l ∧ RunV w3 rb bn bw m ns now was ∧ FrP P bn w w3) := h3.out
    clear h3 a1 a2 a3 hre
    go_wp2_with fail
    refine hev.mono ?_
    rintro e w4 ⟨rfl, h4⟩
    obtain ⟨a1, a2, a3⟩ := HG.out
    have a4 := a1.vars (HS.out.up a3.size) (FrP.of_below (P := fun _ => False) h4.out) (fun _ _ h => h) (fun _ _ h => h)
    have hf4 : FrP P bn w w4 := a3.trans (FrP.of_below h4.out)
    obtain ⟨vd, c4, hvd⟩ := (a4.st i s ⟨o1.2, x.inside⟩ HI.out.1 (withS_at _ HI.out.2.2.1)).du
    rw [← HI.out.2.2.2.2.1] at c4
    have hdo := do_any HSR.out.1.du hvd (a2.below h4.out) (HS.out.up hf4.size).chart HS.out.rn HS.out.wn
    obtain ⟨va, vn, vc, rfl⟩ := hvd.sl'
    have HG4 : Hid (RMem A w4 (RegM A k w4) P L (withS d i ⟨o1.2, x.inside⟩) g l ∧ FrP P bn w w4) := ⟨a4, hf4⟩
    clear hev h4 a1 a2 a3 a4 hf4 hvd HG c6
    go_wp2_with fail
    refine hdo.mono ?_
    rintro e w5 ⟨rfl, h5⟩
    obtain ⟨hv5, hf5⟩ := h5.out
    have hR5 := HG4.out.1.vars (HS.out.up HG4.out.2.size) hf5 (fun _ _ h => h) (fun _ _ h => h)
    have hfw5 : FrP P bn w w5 := HG4.out.2.trans (hf5.wide fun _ h => h.elim)
    obtain ⟨ai, ci, c10, hai⟩ := (hR5.st i s ⟨o1.2, x.inside⟩ HI.out.1 (withS_at _ HI.out.2.2.1)).iy
    rw [← HI.out.2.2.2.1] at c10 hai
    rw [← HI.out.2.2.2.2.1] at c10
    have HAI : Hid (0 < n → ai = some ⟨l.gI i, 0, none⟩) := fun hp => (hai hp).1
    have H3 : Hid (allI ((OpsK k).go was) s.regions (n - 0) 0 (doS was s.during now) x.inside = some p ∧ RMem A w5 (RegM A k w5) P L (withS d i ⟨o1.2, x.inside⟩) g l ∧ RunV w5 rb bn bw m ns (doS was s.during now) was ∧ FrP P bn w w5) := ⟨by rw [Nat.sub_zero, HI.out.2.2.2.1]; exact HE.out.2.1, hR5, hv5, hfw5⟩
    clear hdo h5 hv5 hf5 hR5 hfw5 hai HG4 c4
    go_wp2_with fail
    clear c10
    go_loopg [39] n (fun f i' wr => ∃ (j : Nat) (nj : Px.Env) (ins : List (Rd k)), f = n - j ∧ j ≤ n ∧ i' = .int .i64 (j : Int) ∧ Hid (allI ((OpsK k).go was) s.regions (n - j) j nj ins = some p ∧ RMem A wr (RegM A k wr) P L (withS d i ⟨o1.2, ins⟩) g l ∧ RunV wr rb bn bw m ns nj was ∧ FrP P bn w wr))
    case atStart => exact ⟨0, _, x.inside, by omega, by omega, rfl, H3.out⟩
    case round =>
      obtain ⟨j, nj, ins, rfl, hj, rfl, hr⟩ := hrel
      obtain ⟨hr1, hr2, hr3, hr4⟩ := hr.out
      have hm := hr2.st i s ⟨o1.2, ins⟩ HI.out.1 (withS_at _ HI.out.2.2.1)
      by_cases hlt : j < n
      · obtain ⟨r, hrj⟩ : ∃ r, s.regions[j]? = some r := ⟨s.regions[j]'(by rw [← HI.out.2.2.2.1]; exact hlt), by rw [List.getElem?_eq_getElem]⟩
        rw [show n - j = n - (j + 1) + 1 by omega] at hr1
        obtain ⟨dj, qq, hd, hqq, hnx⟩ := allI_step hr1 hrj
        obtain ⟨cj, hRj⟩ := hm.im j r dj hrj hd
        have hix := ixG ai (l.gI i) n ci j hlt HAI.out
        have hcall := HIH.out hRj (HSR.out.2 r (List.mem_of_getElem? hrj)) ((HS.out.up hr4.size).sub fun b hb => hb.1) hr3 hqq
        unfold RegTo at hcall
        have HN : Hid (∀ w', RegM A k w' (fun b => P b ∧ l.role b = Role.inner i j) r qq.2 (l.gr i j) ∧ RunV w' rb bn bw m ns qq.1 was ∧ FrP (fun b => P b ∧ l.role b = Role.inner i j) bn wr w' → allI ((OpsK k).go was) s.regions (n - (j + 1)) (j + 1) qq.1 (ins.set j qq.2) = some p ∧ RMem A w' (RegM A k w') P L (withS d i ⟨o1.2, ins.set j qq.2⟩) g l ∧ RunV w' rb bn bw m ns qq.1 was ∧ FrP P bn w w') := fun w' ⟨a1, a2, a3⟩ => by
          have := hr2.inner (HS.out.up hr4.size) HI.out.1 (withS_at _ HI.out.2.2.1) hrj hd a3 a1
          rw [withS_withS] at this
          exact ⟨hnx, this, a2, hr4.trans (a3.wide fun b hb => hb.1)⟩
        clear hr hr1 hr2 hr3 hr4 hm hrj hd hqq hnx hRj
        go_wp2_with (refine hcall.mono ?_; rintro e w5 ⟨rfl, h5⟩)
        go_roundg (n - (j + 1))
        case measure => omega
        case rel => exact ⟨j + 1, qq.1, ins.set j qq.2, rfl, by omega, by go_num, HN.out w5 h5.out⟩
      · obtain rfl : j = n := by omega
        rw [Nat.sub_self, allI] at hr1
        injection hr1 with hr1
        subst hr1
        have hop := open_at open_ok4 hr2 HSR.out.1 (HS.out.up hr4.size) hr3 HI.out.1 (withS_at _ HI.out.2.2.1)
        rw [withS_withS, ← HI.out.2.2.2.2.1] at hop
        simp only at hop
        obtain ⟨o2, ho2⟩ : ∃ o2, o2 = opnW (overs (OpsK k) s.regions ins) nj was askW s.ways o1.2 := ⟨_, rfl⟩
        have hE := HE.out.2.2
        simp only at hE
        rw [← ho2] at hop hE
        obtain ⟨rfl, rfl, rfl⟩ := hE
        have HF4 : Hid (FrP P bn w wr) := hr4
        obtain ⟨vo, hvo⟩ : ∃ vo : Option Addr, wP (l.gW i) o2.1 = .pointer vo := by cases o2.1 with | none => exact ⟨_, rfl⟩ | some _ => exact ⟨_, rfl⟩
        rw [hvo] at hop
        have HVO : Hid (wP (l.gW i) o2.1 = .pointer vo) := hvo
        clear hr hr2 hr3 hr4 hm ho2 hvo HE H3
        go_wp2_with (refine hop.mono ?_; rintro e w5 ⟨rfl, h5⟩)
        go_ret
        obtain ⟨a1, a2, a3⟩ := h5.out
        rw [withS_there HI.out.2.2.2.2.2] at a1
        exact ⟨by rw [HVO.out]; rfl, a1, a2, HF4.out.trans a3⟩
end
end Go.Proofs.YtiihgnagjemikaaGreatDoor
/- The runner's follow, enter, goOn, of a region at any depth. -/
namespace Go.Proofs.YtiihgnagjemikaaGreatDoor
open Go.RowKit Px

theorem takeR_cases {σ ρ : Type} {O : Ops σ ρ} {was : Px.Env} {L : List (StF σ)} {i j : Nat} {n : Px.Env} {d : RdF ρ} {r : Option Nat × Px.Env × RdF ρ} (ht : d.there = some i) (h : takeR O was L j n d = some r) :
    ∃ s y p t, L[i]? = some s ∧ s.ways[j]? = some y ∧ leaveR O was L n d = some p ∧ fnd (snames L) y.to = some t ∧ arriveR O was L t y.back (doS was y.sets p.1) p.2 = some r := by
  rw [takeR, ht] at h
  simp only at h
  cases hs : L[i]? with
  | none => rw [hs] at h; exact absurd h (by simp)
  | some s =>
    rw [hs] at h
    simp only at h
    cases hy : s.ways[j]? with
    | none => rw [hy] at h; exact absurd h (by simp)
    | some y =>
      rw [hy] at h
      simp only at h
      cases hp : leaveR O was L n d with
      | none => rw [hp] at h; exact absurd h (by simp)
      | some p =>
        rw [hp] at h
        simp only at h
        cases ht : fnd (snames L) y.to with
        | none => rw [ht] at h; exact absurd h (by simp)
        | some t => rw [ht] at h; exact ⟨s, y, p, t, rfl, hy, rfl, ht, h⟩
theorem arriveR_there {σ ρ : Type} {O : Ops σ ρ} {was : Px.Env} {L : List (StF σ)} {i : Nat} {back : Bool} {n : Px.Env} {d : RdF ρ} {r : Option Nat × Px.Env × RdF ρ} (h : arriveR O was L i back n d = some r) : r.2.2.there = some i := by
  cases hs : L[i]? with
  | none => rw [arriveR, hs] at h; exact absurd h (by simp)
  | some s =>
    cases hx : d.sts[i]? with
    | none => rw [arriveR, hs, hx] at h; exact absurd h (by simp)
    | some x =>
      obtain ⟨wj, n', d'⟩ := r
      rcases arriveR_cases hs hx h with ⟨_, _, _, _, rfl⟩ | ⟨_, _, _, _, _, rfl⟩ <;> rfl
section
variable {A P : Nat → Prop} {w w' : World} {k g rb bn bw m : Nat} {ns : List Str} {now was : Px.Env} {L : List (StF (St k))} {d : RdF (Rd k)} {l : Lie}
theorem RunV.drewN (h : RunV w rb bn bw m ns now was) (n : Nat) : RunV (w.drewN n) rb bn bw m ns now was := ⟨h.hn, h.hw, h.mn.keep rfl, h.mw.keep rfl, h.hm⟩
theorem RMem.drewN (h : RMem A w (RegM A k w) P L d g l) (n : Nat) : RMem A (w.drewN n) (RegM A k (w.drewN n)) P L d g l := h.keep (fun _ _ _ => rfl) (fun _ _ => rfl)
theorem FrP.drewN (h : FrP P bn w w') (n : Nat) : FrP P bn w (w'.drewN n) := ⟨h.os, h.tape, h.output, h.size, h.block⟩
set_option maxRecDepth 100000 in
set_option maxHeartbeats 16000000 in
theorem follow_succ (ihE : EnterOk A k) {i fu : Nat} {wj : Option Nat} {now' : Px.Env} {d' : RdF (Rd k)} (h : RMem A w (RegM A k w) P L d g l) (hst : ∀ s ∈ L, StR ns s ∧ ∀ r ∈ s.regions, StAll ns k r) (hS : Sep A P w rb bn bw) (hv : RunV w rb bn bw m ns now was) (ht : wj ≠ none → d.there = some i) (hl : followR (OpsK k) was L fu wj now d = some (now', d')) :
    Calls Tryz.prog 72 #[.pointer (some ⟨rb, 0, none⟩), .pointer (some ⟨g, 0, none⟩), wP (l.gW i) wj] w (LieTo A P rb bn bw m ns was w L g l now' d') := by
  have HST : Hid (∀ s ∈ L, StR ns s ∧ ∀ r ∈ s.regions, StAll ns k r) := hst
  have HS : Hid (Sep A P w rb bn bw) := hS
  have HIH : Hid (EnterOk A k) := ihE
  have H0 : Hid (followR (OpsK k) was L fu wj now d = some (now', d') ∧ (wj ≠ none → d.there = some i) ∧ RMem A w (RegM A k w) P L d g l ∧ RunV w rb bn bw m ns now was ∧ FrP P bn w w) := ⟨hl, ht, h, hv, FrP.refl _ _ _⟩
  clear h hst hS hv ihE ht hl
  go_enter Tryz.func72, Tryz.ntmps72
  go_wp2_with fail
  go_loopg [2] fu (fun f v wr => ∃ (i : Nat) (wj : Option Nat) (nj : Px.Env) (dj : RdF (Rd k)), v = wP (l.gW i) wj ∧ Hid (followR (OpsK k) was L f wj nj dj = some (now', d') ∧ (wj ≠ none → dj.there = some i) ∧ RMem A wr (RegM A k wr) P L dj g l ∧ RunV wr rb bn bw m ns nj was ∧ FrP P bn w wr))
  case atStart => exact ⟨i, wj, now, d, rfl, H0.out⟩
  case round =>
    obtain ⟨i, wj, nj, dj, rfl, hr⟩ := hrel
    obtain ⟨hr1, hr2, hr3, hr4, hr5⟩ := hr.out
    cases wj with
    | none =>
      have hfin : nj = now' ∧ dj = d' := by
        cases gk <;> (rw [followR] at hr1; injection hr1 with hr1; injection hr1 with e1 e2; exact ⟨e1, e2⟩)
      obtain ⟨rfl, rfl⟩ := hfin
      have HF : Hid (RMem A wr (RegM A k wr) P L dj g l ∧ RunV wr rb bn bw m ns nj was ∧ FrP P bn w wr) := ⟨hr3, hr4, hr5⟩
      clear hr hr1 hr2 hr3 hr4 hr5 H0
      unfold wP
      go_wp2_with fail
      go_end0
      exact ⟨rfl, HF.out⟩
    | some j =>
      cases gk with
      | zero => rw [followR] at hr1; exact absurd hr1 (by simp)
      | succ f =>
        rw [followR] at hr1
        cases htk : takeR (OpsK k) was L j nj dj with
        | none => rw [htk] at hr1; exact absurd hr1 (by simp)
        | some q =>
          rw [htk] at hr1
          simp only at hr1
          have hth := hr2 (by simp)
          obtain ⟨s, y, p, t, hs, hy, hp, hto, ha⟩ := takeR_cases hth htk
          have hlv := leave_succ (leave_ok A k) hr3 HST.out (HS.out.up hr5.size) hr4 hp
          unfold LieTo at hlv
          have HG : Hid (L[i]? = some s ∧ s.ways[j]? = some y ∧ fnd (snames L) y.to = some t ∧ arriveR (OpsK k) was L t y.back (doS was y.sets p.1) p.2 = some q ∧ followR (OpsK k) was L f q.1 q.2.1 q.2.2 = some (now', d') ∧ FrP P bn w wr ∧ i < L.length) := ⟨hs, hy, hto, ha, hr1, hr5, hr3.th i hth⟩
          clear hr hr1 hr2 hr3 hr4 hr5 H0 hs hy hp hto ha htk hth
          unfold wP
          go_upto_region 1 with fail
          go_wp2_with fail
          refine hlv.mono ?_
          rintro e w1 ⟨rfl, h1⟩
          obtain ⟨b1, b2, b3⟩ := h1.out
          have hf1 : FrP P bn w w1 := HG.out.2.2.2.2.2.1.trans b3
          obtain ⟨x1, hx1⟩ : ∃ x1, p.2.sts[i]? = some x1 := ⟨_, List.getElem?_eq_getElem (by rw [b1.len]; exact HG.out.2.2.2.2.2.2)⟩
          have hm1 := b1.st i s x1 HG.out.1 hx1
          obtain ⟨c1, hc1⟩ : ∃ c1, x1.so[j]? = some c1 := ⟨_, List.getElem?_eq_getElem (by rw [hm1.wl]; exact (List.getElem?_eq_some_iff.1 HG.out.2.1).1)⟩
          obtain ⟨⟨pa, qa, -, -, -, -, c4, -, c6, -, hq8⟩, ⟨t', ht', c7⟩, -, -⟩ := hm1.wm j y c1 HG.out.2.1 hc1
          rw [HG.out.2.2.1] at ht'
          injection ht' with ht'
          subst ht'
          have hdo := do_any ((HST.out s (List.mem_of_getElem? HG.out.1)).1.wy y (List.mem_of_getElem? HG.out.2.1)).2 hq8 b2 (HS.out.up hf1.size).chart HS.out.rn HS.out.wn
          obtain ⟨va, vn, vc, rfl⟩ := hq8.sl'
          have hgw : P (l.gW i) := (hm1.wy.elim fun _ ⟨_, _, hh⟩ => (hh (by have := (List.getElem?_eq_some_iff.1 HG.out.2.1).1; omega)).2.1)
          have HC : Hid (∀ W, FrP (fun _ => False) bn w1 W → W.cell? ⟨l.gW i, j * 9 + 6, none⟩ = some (.bool y.back) ∧ W.cell? ⟨l.gW i, j * 9 + 7, none⟩ = some (.pointer (some ⟨l.gS, t * 11, none⟩))) := fun W hW =>
            ⟨hW.cell c6 (fun h => h) ((HS.out.up hf1.size).p _ hgw).2.2.1, hW.cell c7 (fun h => h) ((HS.out.up hf1.size).p _ hgw).2.2.1⟩
          have H1 : Hid (RMem A w1 (RegM A k w1) P L p.2 g l ∧ FrP P bn w w1) := ⟨b1, hf1⟩
          clear hlv h1 b1 b2 b3 hf1 hx1 hm1 hc1 c6 c7 hq8 hgw
          go_wp2_with fail
          refine hdo.mono ?_
          rintro e w2 ⟨rfl, h2⟩
          obtain ⟨hv2, hf2⟩ := h2.out
          obtain ⟨c6, c7⟩ := HC.out w2 hf2
          have hR2 := H1.out.1.vars (HS.out.up H1.out.2.size) hf2 (fun _ _ h => h) (fun _ _ h => h)
          have hfw2 : FrP P bn w w2 := H1.out.2.trans (hf2.wide fun _ h => h.elim)
          have harr : Calls Tryz.prog 73 #[.pointer (some ⟨rb, 0, none⟩), .pointer (some ⟨g, 0, none⟩), .pointer (some ⟨l.gS, t * 11, none⟩), .bool y.back] w2.drew (WayTo A P rb bn bw m ns was w2.drew L g l t q.1 q.2.1 q.2.2) :=
            arrive_succ HIH.out (hR2.keep (w' := w2.drew) (fun _ _ _ => rfl) (fun _ _ => rfl)) HST.out (HS.out.up (w' := w2.drew) hfw2.size) (hv2.below (w' := w2.drew) ((Below.refl _ _).drew)) (by obtain ⟨q1, q2, q3⟩ := q; exact HG.out.2.2.2.1)
          unfold WayTo at harr
          obtain ⟨vo, hvo⟩ : ∃ vo : Option Addr, wP (l.gW t) q.1 = .pointer vo := by cases q.1 with | none => exact ⟨_, rfl⟩ | some _ => exact ⟨_, rfl⟩
          rw [hvo] at harr
          have HVO : Hid (wP (l.gW t) q.1 = .pointer vo) := hvo
          have HF2 : Hid (FrP P bn w w2) := hfw2
          obtain ⟨tt, hto⟩ : ∃ tt, tt = t * 11 := ⟨_, rfl⟩
          rw [← hto] at c7 harr
          obtain ⟨bk, hbk⟩ : ∃ bk, bk = y.back := ⟨_, rfl⟩
          rw [← hbk] at c6 harr
          have HZ0 : Hid (∀ W, RMem A W (RegM A k W) P L q.2.2 g l → W.cell? ⟨l.gW i, j * 9 + 6, none⟩ = some (.bool bk) ∧ W.cell? ⟨l.gW i, j * 9 + 7, none⟩ = some (.pointer (some ⟨l.gS, tt, none⟩))) := fun W hRW => by
            obtain ⟨x3, hx3⟩ : ∃ x3, q.2.2.sts[i]? = some x3 := ⟨_, List.getElem?_eq_getElem (by rw [hRW.len]; exact HG.out.2.2.2.2.2.2)⟩
            have hm3 := hRW.st i s x3 HG.out.1 hx3
            obtain ⟨c3, hc3⟩ : ∃ c3, x3.so[j]? = some c3 := ⟨_, List.getElem?_eq_getElem (by rw [hm3.wl]; exact (List.getElem?_eq_some_iff.1 HG.out.2.1).1)⟩
            obtain ⟨⟨_, _, -, -, -, -, -, -, d6, -, -⟩, ⟨t', ht', d7⟩, -, -⟩ := hm3.wm j y c3 HG.out.2.1 hc3
            rw [HG.out.2.2.1] at ht'
            injection ht' with ht'
            subst ht'
            rw [hbk, hto]
            exact ⟨d6, d7⟩
          clear hdo h2 hv2 hf2 hR2 hfw2 HC H1 c4 hvo hto hbk
          go_upto_region 3 with fail
          go_region_held3 (fun W => W.cell? ⟨l.gW i, j * 9 + 6, none⟩ = some (.bool bk) ∧ W.cell? ⟨l.gW i, j * 9 + 7, none⟩ = some (.pointer (some ⟨l.gS, tt, none⟩))) (first | exact HZ.out | go_keep)
            (first | (go_at_call 73; refine harr.mono ?_; rintro e w3 ⟨rfl, h3⟩; have HZ : Hid (w3.cell? ⟨l.gW i, j * 9 + 6, none⟩ = some (.bool bk) ∧ w3.cell? ⟨l.gW i, j * 9 + 7, none⟩ = some (.pointer (some ⟨l.gS, tt, none⟩))) := HZ0.out w3 h3.out.1))
          all_goals
            go_wp2_with fail
            go_roundg f
            case measure => omega
            case rel =>
              obtain ⟨a1, a2, a3⟩ := h3.out
              exact ⟨t, q.1, q.2.1, q.2.2, HVO.out.symm, HG.out.2.2.2.2.1, fun _ => arriveR_there HG.out.2.2.2.1, a1, a2, (HF2.out.drew).trans a3⟩
set_option maxRecDepth 100000 in
set_option maxHeartbeats 2000000 in
theorem enterAt_succ (ihE : EnterOk A k) {i : Nat} {back : Bool} {now' : Px.Env} {d' : RdF (Rd k)} (h : RMem A w (RegM A k w) P L d g l) (hst : ∀ s ∈ L, StR ns s ∧ ∀ r ∈ s.regions, StAll ns k r) (hS : Sep A P w rb bn bw) (hv : RunV w rb bn bw m ns now was) (hl : enterAt (OpsK k) was L i back now d = some (now', d')) :
    Calls Tryz.prog 39 #[.pointer (some ⟨rb, 0, none⟩), .pointer (some ⟨g, 0, none⟩), .pointer (some ⟨l.gS, i * 11, none⟩), .bool back] w (LieTo A P rb bn bw m ns was w L g l now' d') := by
  rw [enterAt] at hl
  cases ha : arriveR (OpsK k) was L i back now d with
  | none => rw [ha] at hl; exact absurd hl (by simp)
  | some q =>
    rw [ha] at hl
    simp only at hl
    have harr := arrive_succ ihE (wj := q.1) (now' := q.2.1) (d' := q.2.2) h hst hS hv ha
    unfold WayTo at harr
    have HF : Hid (∀ w1, RMem A w1 (RegM A k w1) P L q.2.2 g l ∧ RunV w1 rb bn bw m ns q.2.1 was ∧ FrP P bn w w1 → Calls Tryz.prog 72 #[.pointer (some ⟨rb, 0, none⟩), .pointer (some ⟨g, 0, none⟩), wP (l.gW i) q.1] w1 (LieTo A P rb bn bw m ns was w1 L g l now' d')) := fun w1 ⟨a1, a2, a3⟩ =>
      follow_succ ihE a1 hst (hS.up a3.size) a2 (fun _ => arriveR_there ha) hl
    obtain ⟨vo, hvo⟩ : ∃ vo : Option Addr, wP (l.gW i) q.1 = .pointer vo := by cases q.1 with | none => exact ⟨_, rfl⟩ | some _ => exact ⟨_, rfl⟩
    rw [hvo] at harr HF
    generalize i * 11 = oi at harr
    clear h hst hS hv hl ihE ha hvo
    go_enter Tryz.func39, Tryz.ntmps39
    go_wp2_with fail
    refine harr.mono ?_
    rintro e w1 ⟨rfl, h1⟩
    have hfo := HF.out w1 h1.out
    unfold LieTo at hfo
    have H1 : Hid (FrP P bn w w1) := h1.out.2.2
    clear harr h1 HF
    go_wp2_with (refine hfo.mono ?_; rintro e w2 ⟨rfl, h2⟩)
    go_end0
    exact ⟨rfl, h2.out.1, h2.out.2.1, H1.out.trans h2.out.2.2⟩
set_option maxRecDepth 100000 in
set_option maxHeartbeats 2000000 in
theorem goOn_succ (ihE : EnterOk A k) (ihG : GoOk A k) {now' : Px.Env} {d' : RdF (Rd k)} (h : RMem A w (RegM A k w) P L d g l) (hst : ∀ s ∈ L, StR ns s ∧ ∀ r ∈ s.regions, StAll ns k r) (hS : Sep A P w rb bn bw) (hv : RunV w rb bn bw m ns now was) (hl : goR (OpsK k) was L now d = some (now', d')) :
    Calls Tryz.prog 40 #[.pointer (some ⟨rb, 0, none⟩), .pointer (some ⟨g, 0, none⟩)] w (LieTo A P rb bn bw m ns was w L g l now' d') := by
  rw [goR] at hl
  cases ha : passR (OpsK k) was L now d with
  | none => rw [ha] at hl; exact absurd hl (by simp)
  | some q =>
    rw [ha] at hl
    simp only at hl
    obtain ⟨i, ht⟩ : ∃ i, d.there = some i := by
      cases ht : d.there with
      | none => rw [passR, ht] at ha; exact absurd ha (by simp)
      | some i => exact ⟨i, rfl⟩
    have hth : q.2.2.there = some i := by
      obtain ⟨q1, q2, q3⟩ := q
      have hil := h.th i ht
      rcases passR_cases ht (List.getElem?_eq_getElem hil) (List.getElem?_eq_getElem (by rw [h.len]; exact hil)) ha with ⟨_, _, _, _, rfl⟩ | ⟨_, _, _, _, rfl⟩ | ⟨_, _, _, _, _, _, rfl⟩ <;> rfl
    have harr := pass_succ ihG (wj := q.1) (now' := q.2.1) (d' := q.2.2) h hst hS hv ht ha
    unfold WayTo at harr
    have HF : Hid (∀ w1, RMem A w1 (RegM A k w1) P L q.2.2 g l ∧ RunV w1 rb bn bw m ns q.2.1 was ∧ FrP P bn w w1 → Calls Tryz.prog 72 #[.pointer (some ⟨rb, 0, none⟩), .pointer (some ⟨g, 0, none⟩), wP (l.gW i) q.1] w1 (LieTo A P rb bn bw m ns was w1 L g l now' d')) := fun w1 ⟨a1, a2, a3⟩ =>
      follow_succ ihE a1 hst (hS.up a3.size) a2 (fun _ => hth) hl
    obtain ⟨vo, hvo⟩ : ∃ vo : Option Addr, wP (l.gW i) q.1 = .pointer vo := by cases q.1 with | none => exact ⟨_, rfl⟩ | some _ => exact ⟨_, rfl⟩
    rw [hvo] at harr HF
    clear h hst hS hv hl ihE ihG ha hvo ht hth
    go_enter Tryz.func40, Tryz.ntmps40
    go_wp2_with fail
    refine harr.mono ?_
    rintro e w1 ⟨rfl, h1⟩
    have hfo := HF.out w1 h1.out
    unfold LieTo at hfo
    have H1 : Hid (FrP P bn w w1) := h1.out.2.2
    clear harr h1 HF
    go_wp2_with (refine hfo.mono ?_; rintro e w2 ⟨rfl, h2⟩)
    go_end0
    exact ⟨rfl, h2.out.1, h2.out.2.1, H1.out.trans h2.out.2.2⟩
theorem enterOk_body (ih : EnterOk A k) (back : Bool) {now' : Px.Env} {d' : RdF (Rd k)} (h : RMem A w (RegM A k w) P L d g l) (hst : ∀ s ∈ L, StR ns s ∧ ∀ r ∈ s.regions, StAll ns k r) (hS : Sep A P w rb bn bw) (hv : RunV w rb bn bw m ns now was) (hl : enterR (OpsK k) was back L now d = some (now', d')) :
    ∃ pf pw : Option Addr, w.cell? ⟨g, 0, none⟩ = some (.pointer pf) ∧ w.cell? ⟨g, 2, none⟩ = some (.pointer pw) ∧ (back = true → pw ≠ none → Calls Tryz.prog 39 #[.pointer (some ⟨rb, 0, none⟩), .pointer (some ⟨g, 0, none⟩), .pointer pw, .bool true] w (LieTo A P rb bn bw m ns was w L g l now' d')) ∧
      (back = false ∨ pw = none → Calls Tryz.prog 39 #[.pointer (some ⟨rb, 0, none⟩), .pointer (some ⟨g, 0, none⟩), .pointer pf, .bool false] w (LieTo A P rb bn bw m ns was w L g l now' d')) := by
  obtain ⟨pw, hpw⟩ : ∃ pw : Option Addr, pS l.gS d.was = .pointer pw := by cases d.was with | none => exact ⟨_, rfl⟩ | some _ => exact ⟨_, rfl⟩
  have c0 : w.cell? ⟨g, 0, none⟩ = some (.pointer (some ⟨l.gS, l.fi * 11, none⟩)) := cell_row h.hg 0 rfl
  have c2 : w.cell? ⟨g, 2, none⟩ = some (.pointer pw) := by rw [← hpw]; exact cell_row h.hg 2 rfl
  refine ⟨_, pw, c0, c2, fun hb hp => ?_, fun hb => ?_⟩
  · subst hb
    cases hw : d.was with
    | none => rw [hw] at hpw; injection hpw with hpw; exact absurd hpw.symm hp
    | some i =>
      unfold enterR at hl
      rw [hw] at hl hpw
      injection hpw with hpw
      rw [← hpw]
      exact enterAt_succ ih h hst hS hv hl
  · have hfi : enterAt (OpsK k) was L l.fi false now d = some (now', d') := by
      have hf := h.hf
      unfold enterR at hl
      split at hl
      · rename_i i hw
        rcases hb with hb | hb
        · exact absurd hb (by simp)
        · rw [hw, hb] at hpw; exact absurd hpw (by simp [pS])
      · rw [hf] at hl; exact hl
    exact enterAt_succ ih h hst hS hv hfi
end
theorem enterOk_succ {A : Nat → Prop} {k : Nat} (ih : EnterOk A k) : EnterOk A (k + 1) := by
  intro P w rb bn bw m ns now was now' L d d' g back h hst hS hv hl
  obtain ⟨l, h⟩ := h
  obtain ⟨pf, pw, c0, c2, h1, h2⟩ := enterOk_body ih back h hst hS hv hl
  exact ⟨pf, pw, c0, c2, fun hb hp => (h1 hb hp).mono fun e w' ⟨he, hh⟩ => ⟨he, ⟨l, hh.out.1⟩, hh.out.2⟩, fun hb => (h2 hb).mono fun e w' ⟨he, hh⟩ => ⟨he, ⟨l, hh.out.1⟩, hh.out.2⟩⟩
theorem enter_ok (A : Nat → Prop) : ∀ k, EnterOk A k
  | 0 => fun _ h => h.elim
  | k + 1 => enterOk_succ (enter_ok A k)
theorem go_ok (A : Nat → Prop) : ∀ k, GoOk A k
  | 0 => fun h => h.elim
  | k + 1 => fun h hst hS hv hl => by
    obtain ⟨l, h⟩ := h
    exact (goOn_succ (enter_ok A k) (go_ok A k) h hst hS hv hl).mono fun e w' ⟨he, hh⟩ => ⟨he, ⟨l, hh.out.1⟩, hh.out.2⟩
end Go.Proofs.YtiihgnagjemikaaGreatDoor
/- The runner's hear: inputs are what they are told. -/
namespace Go.Proofs.YtiihgnagjemikaaGreatDoor
open Go.RowKit Go.Maps Go.WideMaps Go.ChangeMaps Px

/-- a slice of numbers -/
def INums (w : World) (v : Value) (zs : List Int) : Prop :=
  ∃ ad b off cap, v = .slice ad zs.length cap ∧ zs.length ≤ cap ∧ cap ≤ maxLen ∧ (0 < zs.length → ad = some ⟨b, off, none⟩) ∧ ∀ k, k < zs.length → w.cell? ⟨b, off + k, none⟩ = some (.int .i64 (zs.getD k 0))
theorem setBlock_set {w : World} {b : Nat} {o1 o' : Obj} : setBlock (setBlock w b o1) b o' = setBlock w b o' := by
  unfold setBlock
  simp
section
variable {w w' : World} {b m rb bn bw : Nat} {ns : List Str} {f now was : Px.Env}
/-- where a name stands, and then what it is -/
theorem MapE.entry (h : MapE w b m ns f) (hm : m ≤ 1000000) {s : Str} (hn : s ∈ ns) (hs : s.length ≤ maxLen) {x : Int} (hx : N64 x) :
    ∃ (v0 : Value) (st : Nat) (w1 w2 : World), (Instr.mapEntry 91 (.map (some b)) (sv s)).run Tryz.prog w = .ok (.tuple #[v0, .int .i64 (st : Int)]) w1 ∧ (Instr.entryStore 91 (.map (some b)) (.int .i64 (st : Int)) (.int .i64 x)).run Tryz.prog w1 = .ok () w2 ∧ MapE w2 b m ns (updE f s x) ∧ w.grownBy w2 (some b) ∧ w.grownBy w1 (some b) := by
  obtain ⟨w2, hrun, hM2, hg⟩ := h.put hm hn hs hx
  obtain ⟨D, ⟨es, clock, hb, F, _, _⟩, _⟩ := h
  obtain ⟨v0, st, es1, clock1, h1, _, h3⟩ := Go.WideElems.entry_then_store (WideMaps.string_law Tryz.underlying9) Tryz.underlying91 smapZero64 hb F (sKey hs)
  obtain ⟨es', clock', h4, h5⟩ := h3 (setBlock w b (.map es1 clock1)) (.int .i64 x) (heap_setBlock_same hb _)
  rw [hrun] at h5
  injection h5 with _ h5
  rw [setBlock_set, ← h5] at h4
  refine ⟨v0, st, _, w2, h1, h4, hM2, hg, ⟨rfl, rfl, rfl, by simp [setBlock], fun i _ hi => heap_setBlock_other hb _ (fun e => hi (by rw [e]))⟩⟩
theorem nums_ne (h : MapE w b m ns f) {g o : Nat} {v : Value} (hc : w.cell? ⟨g, o, none⟩ = some v) : g ≠ b := by
  obtain ⟨D, ⟨es, clock, hb, _⟩, _⟩ := h
  intro e
  subst e
  simp [World.cell?, hb] at hc
theorem updE_twice (n : Px.Env) (s : Str) (x y : Int) : updE (updE n s x) s y = updE n s y := by
  funext t
  unfold updE
  split <;> rfl
end
/-- a chart's variables -/
theorem IsVars.open2 {A : Nat → Prop} {w : World} {l : List Decl} {v : Value} (h : IsVars A w l v) :
    ∃ ad g cap, v = .slice ad l.length cap ∧ l.length ≤ maxLen ∧ (0 < l.length → ad = some ⟨g, 0, none⟩ ∧ A g ∧ g < w.heap.size) ∧ ∀ (i : Nat) (a : Decl), l[i]? = some a → w.cell? ⟨g, i * 3, none⟩ = some (.int .i64 (a.kind : Int)) ∧ w.cell? ⟨g, i * 3 + 1, none⟩ = some (sv a.name) ∧ w.cell? ⟨g, i * 3 + 2, none⟩ = some (.int .i64 a.first) := by
  obtain ⟨xs, hr, hs⟩ := h
  obtain ⟨ad, g, cap, h1, h2, h3, h4⟩ := Row.open (k := 3) (fun a c hc => by rw [show c = _ from hc]; rfl) hr hs
  refine ⟨ad, g, cap, h1, h2, h3, fun i a hi => ?_⟩
  obtain ⟨c, hc, hx⟩ := h4 i a hi
  obtain rfl : c = _ := hc
  exact ⟨hx 0 _ rfl, hx 1 _ rfl, hx 2 _ rfl⟩
theorem ixN (ad : Option Addr) (g o n cap k : Nat) (hk : k < n) (ha : 0 < n → ad = some ⟨g, o, none⟩) (w : World) : (Instr.indexAt 31 (.slice ad n cap) (.int .i64 (k : Int))).run Tryz.prog w = .ok (.pointer (some ⟨g, o + k, none⟩)) w := by
  obtain rfl := ha (by omega)
  rw [run_indexAt_slice _ _ _ _ _ _ _ (by kernel_rfl), if_pos ⟨by omega, by omega⟩]
  have e : (sizeOf (Tryz.prog.elem 31)).run Tryz.prog w = .ok 1 w := by kernel_rfl
  rw [e]
  simp [Result.andThen, Addr.add]
  try (intro h; exact h.symm)
theorem hearE_step {vs : List Decl} {k : Nat} {v : Decl} (h : vs[k]? = some v) (ins : List Int) (n : Px.Env) : hearE (vs.drop k) ins n = if v.kind = 1 then hearE (vs.drop (k + 1)) ins.tail (updE n v.name (ins.headD 0)) else hearE (vs.drop (k + 1)) ins n := by
  obtain ⟨hk, rfl⟩ := List.getElem?_eq_some_iff.1 h
  rw [List.drop_eq_getElem_cons hk, hearE]
section
variable {A : Nat → Prop} {w w' : World} {rb bn bw m : Nat} {now was : Px.Env} {vs : List Decl}
set_option maxRecDepth 100000 in
set_option maxHeartbeats 8000000 in
theorem hear_any {vv iv : Value} {ins : List Int} (c0 : w.cell? ⟨rb, 0, none⟩ = some vv) (hvv : IsVars A w vs vv) (hnm : ∀ v ∈ vs, v.name.length ≤ maxLen) (hi : INums w iv ins) (h64 : ∀ x ∈ ins, N64 x) (h : RunV w rb bn bw m (vnames vs) now was) (hA : ∀ b, A b → b < w.heap.size ∧ b ≠ bn) (hrn : rb ≠ bn) (hwn : bw ≠ bn) :
    Calls Tryz.prog 38 #[.pointer (some ⟨rb, 0, none⟩), iv] w fun e w' => e = .returned (.tuple #[]) ∧ Hid (RunV w' rb bn bw m (vnames vs) (hearE vs ins now) was ∧ FrP (fun _ => False) bn w w') := by
  obtain ⟨ad, g, cap, rfl, hmx, hg, hcs⟩ := hvv.open2
  obtain ⟨N, hN⟩ : ∃ N, N = vs.length := ⟨_, rfl⟩
  rw [← hN] at c0 hmx hg
  have hN6 : (N : Int) ≤ 9223372036854775807 := by unfold maxLen at hmx; omega
  have HN : Hid (N = vs.length) := hN
  have HA : Hid (∀ b, A b → b < w.heap.size ∧ b ≠ bn) := hA
  have HG : Hid (0 < N → ad = some ⟨g, 0, none⟩ ∧ A g ∧ g < w.heap.size) := hg
  have HCS : Hid (∀ (i : Nat) (a : Decl), vs[i]? = some a → w.cell? ⟨g, i * 3, none⟩ = some (.int .i64 (a.kind : Int)) ∧ w.cell? ⟨g, i * 3 + 1, none⟩ = some (sv a.name) ∧ w.cell? ⟨g, i * 3 + 2, none⟩ = some (.int .i64 a.first)) := hcs
  have HV : Hid (RunV w rb bn bw m (vnames vs) now was ∧ rb ≠ bn ∧ bw ≠ bn ∧ ∀ v ∈ vs, v.name.length ≤ maxLen) := ⟨h, hrn, hwn, hnm⟩
  obtain ⟨ia, ig, io, ic, hiv, hic1, hic2, hia, hin⟩ := hi
  have HIN : Hid ((∃ ad cap, iv = .slice ad ins.length cap ∧ ins.length ≤ cap ∧ cap ≤ maxLen ∧ (0 < ins.length → ad = some ⟨ig, io + 0, none⟩)) ∧ (∀ k, k < ins.length → w.cell? ⟨ig, io + k, none⟩ = some (.int .i64 (ins.getD k 0))) ∧ ∀ x ∈ ins, N64 x) := ⟨⟨ia, ic, hiv, hic1, hic2, hia⟩, hin, h64⟩
  clear hvv hnm h64 h hA hrn hwn hN hmx hg hcs hiv hic1 hic2 hia hin
  go_enter Tryz.func38, Tryz.ntmps38
  go_wp2_with fail
  clear c0
  go_loopg [1, 11] N (fun f iv i wr => ∃ (k t : Nat) (nk : Px.Env), f = N - k ∧ k ≤ N ∧ i = .int .i64 (k : Int) ∧ Hid (t ≤ ins.length ∧ (∃ ad cap, iv = .slice ad (ins.length - t) cap ∧ ins.length - t ≤ cap ∧ cap ≤ maxLen ∧ (0 < ins.length - t → ad = some ⟨ig, io + t, none⟩)) ∧ hearE vs ins now = hearE (vs.drop k) (ins.drop t) nk ∧ RunV wr rb bn bw m (vnames vs) nk was ∧ FrP (fun _ => False) bn w wr))
  case atStart => exact ⟨0, 0, now, by omega, by omega, rfl, by omega, HIN.out.1, rfl, HV.out.1, FrP.refl _ _ _⟩
  case round =>
    obtain ⟨k, t, nk, rfl, hk, rfl, hr⟩ := hrel
    obtain ⟨ht, ⟨ad1, cap1, hiv, hc1, hc2, had1⟩, hr1, hr2, hr3⟩ := hr.out
    subst hiv
    by_cases hlt : k < N
    · obtain ⟨v, hv⟩ : ∃ v, vs[k]? = some v := ⟨vs[k]'(by rw [← HN.out]; exact hlt), by rw [List.getElem?_eq_getElem]⟩
      obtain ⟨c0, c1, c2⟩ := HCS.out k v hv
      obtain ⟨hg1, hg2, hg3⟩ := HG.out (by omega)
      have hix := ixV ad g N cap k hlt (fun _ => hg1)
      have hgn := (HA.out g hg2).2
      have c0 := hr3.cell c0 (fun h => h) hgn
      have c1 := hr3.cell c1 (fun h => h) hgn
      have c2 := hr3.cell c2 (fun h => h) hgn
      rw [hearE_step hv] at hr1
      obtain ⟨S, hS⟩ : ∃ S, Value.string S = sv v.name := ⟨_, rfl⟩
      rw [← hS] at c1
      obtain ⟨kd, hkd⟩ : ∃ kd : Int, kd = (v.kind : Int) := ⟨_, rfl⟩
      rw [← hkd] at c0
      obtain ⟨fi, hfi⟩ : ∃ fi : Int, fi = v.first := ⟨_, rfl⟩
      rw [← hfi] at c2
      obtain ⟨X, hX⟩ : ∃ X, X = wr.alloc (.cells #[.int .i64 kd, .string S, .int .i64 fi] 86) := ⟨_, rfl⟩
      obtain ⟨q, hq⟩ : ∃ q, q = wr.heap.size := ⟨_, rfl⟩
      have hbx : Below wr.heap.size wr X := by rw [hX]; exact ck_grown _ _
      have hkx : X.heap[q]? = some (.cells #[.int .i64 kd, .string S, .int .i64 fi] 86 (0, 0)) := by rw [hX, hq]; exact ck_new _ _
      have hvx := hr2.below hbx
      have hfx : FrP (fun _ => False) bn w X := hr3.trans (FrP.of_below hbx)
      by_cases hone : v.kind = 1
      · rw [if_pos hone] at hr1
        have hmem : v.name ∈ vnames vs := List.mem_map.2 ⟨v, List.mem_of_getElem? hv, rfl⟩
        have hlen := HV.out.2.2.2 v (List.mem_of_getElem? hv)
        have hk2 : kd = 1 := by omega
        clear hkd
        subst hk2
        have hvd : RunV X.drew rb bn bw m (vnames vs) nk was := hvx.below (w' := X.drew) ((Below.refl _ _).drew)
        obtain ⟨W1, hrun0, hM1, hg1'⟩ := hvd.mn.put hvd.hm hmem hlen N64.zero
        rw [← hS] at hrun0
        have hfd : FrP (fun _ => False) bn w X.drew := hfx.drew
        have hf1 : FrP (fun _ => False) bn X.drew W1 := (FrP.refl _ _ _).grown hg1'
        have hv1 : RunV W1 rb bn bw m (vnames vs) (updE nk v.name 0) was := hvd.fr hf1 ⟨fun h => h, HV.out.2.1⟩ ⟨fun h => h, HV.out.2.2.1⟩ hM1
        have hqn : q ≠ bn := by have := hr2.mn.lt; omega
        have z0 := cell_row hkx 0 (u := .int .i64 1) rfl
        have z1 : X.drew.cell? ⟨q, 1, none⟩ = some (.string S) := cell_row hkx 1 (u := .string S) rfl
        have r1 : X.drew.cell? ⟨rb, 1, none⟩ = some (.map (some bn)) := hvd.hn
        have HW1 : Hid (RunV W1 rb bn bw m (vnames vs) (updE nk v.name 0) was ∧ FrP (fun _ => False) bn w W1 ∧ W1.cell? ⟨q, 1, none⟩ = some (.string S)) := ⟨hv1, hfd.trans hf1, hf1.cell z1 (fun h => h) hqn⟩
        by_cases hend : t = ins.length
        · have HNX : Hid (hearE vs ins now = hearE (vs.drop (k + 1)) (ins.drop t) (updE nk v.name 0)) := by
            rw [Hid, hr1, hend, List.drop_length]; rfl
          have HT : Hid (t ≤ ins.length ∧ ins.length - t = 0 ∧ cap1 ≤ maxLen) := ⟨ht, by omega, hc2⟩
          obtain ⟨len, hlenE⟩ : ∃ len, len = ins.length - t := ⟨_, rfl⟩
          rw [← hlenE]
          have hl0 : len = 0 := by omega
          clear hr hr1 hr2 hr3 ht hc1 hc2 had1 hv hS hfi hbx hkx hvx hfx hone hg1 hg2 hg3 hgn hmem hlen hvd hM1 hg1' hfd hf1 hv1 hqn hend hlenE
          rw [hX] at z0
          rw [hq] at z0
          subst hl0
          go_upto_region 4 with fail
          rw [← hX, ← hq]
          clear hX hq z0
          go_region
          all_goals
            go_wp2_with fail
            go_roundg (N - (k + 1))
            case measure => omega
            case rel => exact ⟨k + 1, t, updE nk v.name 0, rfl, by omega, by go_num, HT.out.1, ⟨ad1, cap1, by rw [HT.out.2.1], by rw [HT.out.2.1]; omega, HT.out.2.2, fun h => absurd h (by rw [HT.out.2.1]; omega)⟩, HNX.out, HW1.out.1, HW1.out.2.1⟩
        · have htl : t < ins.length := by omega
          have had := had1 (by omega)
          subst had
          obtain ⟨x, hx⟩ : ∃ x, x = ins.getD t 0 := ⟨_, rfl⟩
          have hx64 : N64 x := by
            rw [hx, List.getD_eq_getElem?_getD, List.getElem?_eq_getElem htl]
            exact HIN.out.2.2 _ (List.getElem_mem htl)
          have hcx : w.cell? ⟨ig, io + t, none⟩ = some (.int .i64 x) := by rw [hx]; exact HIN.out.2.1 t htl
          have hcx1 := HW1.out.2.1.cell hcx (fun h => h) (nums_ne HV.out.1.mn hcx)
          have hv1d : RunV W1.drew rb bn bw m (vnames vs) (updE nk v.name 0) was := hv1.below (w' := W1.drew) ((Below.refl _ _).drew)
          obtain ⟨v0, st, w3, w4, he1, he2, hM4, hg4, hg3'⟩ := hv1d.mn.entry hv1d.hm hmem hlen hx64
          rw [← hS] at he1
          rw [updE_twice] at hM4
          have hf4 : FrP (fun _ => False) bn W1.drew w4 := (FrP.refl _ _ _).grown hg4
          have HW4 : Hid (RunV w4 rb bn bw m (vnames vs) (updE nk v.name x) was ∧ FrP (fun _ => False) bn w w4) := ⟨hv1d.fr hf4 ⟨fun h => h, HV.out.2.1⟩ ⟨fun h => h, HV.out.2.2.1⟩ hM4, (HW1.out.2.1.drew).trans hf4⟩
          have HNX : Hid (hearE vs ins now = hearE (vs.drop (k + 1)) (ins.drop (t + 1)) (updE nk v.name x)) := by
            rw [Hid, hr1, List.drop_eq_getElem_cons htl, List.tail_cons, List.headD_cons, hx, List.getD_eq_getElem?_getD, List.getElem?_eq_getElem htl]; rfl
          obtain ⟨len, hlenE⟩ : ∃ len, ins.length - t = len := ⟨ins.length - t, rfl⟩
          rw [hlenE] at hc1 ⊢
          have HT : Hid (t + 1 ≤ ins.length ∧ ins.length - (t + 1) = len - 1 ∧ cap1 ≤ maxLen ∧ len ≤ cap1 ∧ 1 ≤ len) := ⟨by omega, by omega, hc2, hc1, by omega⟩
          have hcap : (len : Int) ≤ (cap1 : Int) := by omega
          have hlen1 : (1 : Int) ≤ (len : Int) := by omega
          have hlen0 : (0 : Int) < (len : Int) := by omega
          have hcm : (cap1 : Int) ≤ 9223372036854775807 := by unfold maxLen at hc2; omega
          have w1 : W1.drew.cell? ⟨rb, 1, none⟩ = some (.map (some bn)) := hv1d.hn
          have w2 : W1.drew.cell? ⟨q, 1, none⟩ = some (.string S) := HW1.out.2.2
          have w3' : W1.drew.cell? ⟨ig, io + t, none⟩ = some (.int .i64 x) := hcx1
          have hixn := ixN (some ⟨ig, io + t, none⟩) ig (io + t) len cap1 0 (by omega) (fun _ => rfl)
          have hf3 : FrP (fun _ => False) bn W1.drew w3 := (FrP.refl _ _ _).grown hg3'
          have hign := nums_ne HV.out.1.mn hcx
          have HZ3 : Hid (w3.cell? ⟨rb, 1, none⟩ = some (.map (some bn)) ∧ w3.cell? ⟨q, 1, none⟩ = some (.string S) ∧ w3.cell? ⟨ig, io + t, none⟩ = some (.int .i64 x)) := ⟨hf3.cell w1 (fun h => h) HV.out.2.1, hf3.cell w2 (fun h => h) hqn, hf3.cell w3' (fun h => h) hign⟩
          have HZ4 : Hid (w4.cell? ⟨rb, 1, none⟩ = some (.map (some bn)) ∧ w4.cell? ⟨q, 1, none⟩ = some (.string S) ∧ w4.cell? ⟨ig, io + t, none⟩ = some (.int .i64 x)) := ⟨hf4.cell w1 (fun h => h) HV.out.2.1, hf4.cell w2 (fun h => h) hqn, hf4.cell w3' (fun h => h) hign⟩
          clear hr hr1 hr2 hr3 ht hc1 hc2 had1 hv hS hfi hbx hkx hvx hfx hone hg1 hg2 hg3 hgn hmem hlen hvd hM1 hg1' hfd hf1 hv1 hqn hend hlenE htl hx hx64 hcx hcx1 hv1d hM4 hg4 hg3' hf4 hf3 hign
          rw [hX] at z0
          rw [hq] at z0
          go_upto_region 4 with fail
          rw [← hX, ← hq]
          clear hX hq z0
          go_region
          all_goals
            go_upto_region 6 with fail
            go_region_held3 (fun W => W.cell? ⟨rb, 1, none⟩ = some (.map (some bn)) ∧ W.cell? ⟨q, 1, none⟩ = some (.string S) ∧ W.cell? ⟨ig, io + t, none⟩ = some (.int .i64 x)) (first | exact HZ3.out | exact HZ4.out | go_keep) (first | fail)
            all_goals (go_wp2_with fail)
            all_goals
              go_roundg (N - (k + 1))
              case measure => omega
              case rel => exact ⟨k + 1, t + 1, updE nk v.name x, rfl, by omega, by go_num, HT.out.1, ⟨_, _, by rw [HT.out.2.1], by have := HT.out; omega, by have := HT.out; omega, fun hp => by first | rfl | (exfalso; have := HT.out; omega)⟩, HNX.out, HW4.out⟩
      · rw [if_neg hone] at hr1
        have HNX : Hid (t ≤ ins.length ∧ (∃ ad cap, Value.slice ad1 (ins.length - t) cap1 = .slice ad (ins.length - t) cap ∧ ins.length - t ≤ cap ∧ cap ≤ maxLen ∧ (0 < ins.length - t → ad = some ⟨ig, io + t, none⟩)) ∧ hearE vs ins now = hearE (vs.drop (k + 1)) (ins.drop t) nk ∧ RunV X rb bn bw m (vnames vs) nk was ∧ FrP (fun _ => False) bn w X) := ⟨ht, ⟨ad1, cap1, rfl, hc1, hc2, had1⟩, hr1, hvx, hfx⟩
        have hk1 : (kd == 1) = false := by rw [hkd]; simp; omega
        have z0 := cell_row hkx 0 (u := .int .i64 kd) rfl
        rw [hX] at z0 HNX
        rw [hq] at z0
        clear hr hr1 hr2 hr3 ht hc1 hc2 had1 hv hS hkd hfi hX hq hbx hkx hvx hfx hone hg1 hg2 hg3 hgn
        go_wp2_with fail
        go_roundg (N - (k + 1))
        case measure => omega
        case rel => exact ⟨k + 1, t, nk, rfl, by omega, by go_num, HNX.out⟩
    · obtain rfl : k = N := by omega
      rw [HN.out, List.drop_length, hearE] at hr1
      have HF : Hid (RunV wr rb bn bw m (vnames vs) (hearE vs ins now) was ∧ FrP (fun _ => False) bn w wr) := ⟨by rw [hr1]; exact hr2, hr3⟩
      clear hr hr1 hr2 hr3 ht hc1 hc2 had1
      go_wp2_with fail
      go_end0
      exact ⟨rfl, HF.out⟩
end
end Go.Proofs.YtiihgnagjemikaaGreatDoor
/- The small functions of the program and of the document's own answer: isBlank, inLine, isDigit, isWord, alpha, digit. -/
namespace Go.Proofs.YtiihgnagjemikaaGreatDoor
open Go.RowKit

theorem u8_eq (c : UInt8) (n : Nat) (hn : n < 256) : (c == UInt8.ofNat n) = decide ((c.toNat : Int) = (n : Int)) := by
  rw [Bool.eq_iff_iff]
  simp only [beq_iff_eq, decide_eq_true_eq]
  constructor
  · rintro rfl; simp; omega
  · intro h; apply UInt8.toNat_inj.1; simp; omega
theorem ret_bool {a b : Bool} (h : a = b) : Ending.returned (.bool a) = .returned (.bool b) := by rw [h]

set_option maxHeartbeats 400000 in
theorem isBlank_any (c : UInt8) (w : World) :
    Calls Tryz.prog 86 #[.int .u8 c.toNat] w fun e w' => e = .returned (.bool (Lx.blank c)) ∧ w' = w := by
  have hb : Lx.blank c = (decide ((c.toNat : Int) = 32) || decide ((c.toNat : Int) = 9) || decide ((c.toNat : Int) = 10)) := by
    have h1 : (c == 32) = decide ((c.toNat : Int) = 32) := u8_eq c 32 (by decide)
    have h2 : (c == 9) = decide ((c.toNat : Int) = 9) := u8_eq c 9 (by decide)
    have h3 : (c == 10) = decide ((c.toNat : Int) = 10) := u8_eq c 10 (by decide)
    unfold Lx.blank; rw [h1, h2, h3]
  have H : Hid _ := hb
  clear hb
  go_enter Tryz.func86, Tryz.ntmps86
  go_wp2
  all_goals go_ret
  all_goals (refine ⟨ret_bool ?_, rfl⟩; rw [H.out, Bool.eq_iff_iff]; simp <;> omega)
set_option maxHeartbeats 400000 in
theorem inLine_any (c : UInt8) (w : World) :
    Calls Tryz.prog 88 #[.int .u8 c.toNat] w fun e w' => e = .returned (.bool (Lx.inl c)) ∧ w' = w := by
  have H : Hid (Lx.inl c = !decide ((c.toNat : Int) = 10)) := by
    have h3 : (c == 10) = decide ((c.toNat : Int) = 10) := u8_eq c 10 (by decide)
    show _ = _; unfold Lx.inl bne; rw [h3]
  go_enter Tryz.func88, Tryz.ntmps88
  go_wp2
  all_goals go_ret
  all_goals (refine ⟨ret_bool ?_, rfl⟩; rw [H.out, Bool.eq_iff_iff]; simp <;> omega)
set_option maxHeartbeats 400000 in
theorem isDigit_any (c : UInt8) (w : World) :
    Calls Tryz.prog 89 #[.int .u8 c.toNat] w fun e w' => e = .returned (.bool (Lx.digit c)) ∧ w' = w := by
  have H : Hid (Lx.digit c = (decide (48 ≤ (c.toNat : Int)) && decide ((c.toNat : Int) ≤ 57))) := by
    show _ = _; unfold Lx.digit; congr 1 <;> (rw [decide_eq_decide]; omega)
  go_enter Tryz.func89, Tryz.ntmps89
  go_wp2
  all_goals go_ret
  all_goals (refine ⟨ret_bool ?_, rfl⟩; rw [H.out, Bool.eq_iff_iff]; simp <;> omega)
theorem alpha_int (c : UInt8) : Lx.alpha c = ((decide (97 ≤ (c.toNat : Int)) && decide ((c.toNat : Int) ≤ 122)) || (decide (65 ≤ (c.toNat : Int)) && decide ((c.toNat : Int) ≤ 90)) || decide ((c.toNat : Int) = 95)) := by
  have h3 : (c == 95) = decide ((c.toNat : Int) = 95) := u8_eq c 95 (by decide)
  unfold Lx.alpha; rw [h3]
  have a : decide (97 ≤ c.toNat) = decide (97 ≤ (c.toNat : Int)) := by rw [decide_eq_decide]; omega
  have b : decide (c.toNat ≤ 122) = decide ((c.toNat : Int) ≤ 122) := by rw [decide_eq_decide]; omega
  have d : decide (65 ≤ c.toNat) = decide (65 ≤ (c.toNat : Int)) := by rw [decide_eq_decide]; omega
  have e : decide (c.toNat ≤ 90) = decide ((c.toNat : Int) ≤ 90) := by rw [decide_eq_decide]; omega
  rw [a, b, d, e]
set_option maxHeartbeats 800000 in
theorem isWord_any (c : UInt8) (w : World) :
    Calls Tryz.prog 90 #[.int .u8 c.toNat] w fun e w' => e = .returned (.bool (Lx.word c)) ∧ w' = w := by
  have H : Hid _ := alpha_int c
  have H2 : Hid (Lx.word c = (Lx.alpha c || Lx.digit c)) := rfl
  go_enter Tryz.func90, Tryz.ntmps90
  go_wp2_with (go_at_call 89; refine (isDigit_any _ _).mono ?_; rintro e w' ⟨rfl, rfl⟩)
  all_goals go_ret
  all_goals (refine ⟨ret_bool ?_, rfl⟩; rw [H2.out, H.out, Bool.eq_iff_iff]; generalize Lx.digit c = d; cases d <;> simp <;> omega)
end Go.Proofs.YtiihgnagjemikaaGreatDoor
/- pass, skip: where a run ends, where what is nothing ends. -/
namespace Go.Proofs.YtiihgnagjemikaaGreatDoor
open Go.RowKit

abbrev bs (s : ByteArray) : List UInt8 := s.data.toList
theorem bs_at (s : ByteArray) (k : Nat) (h : k < s.size) : (bs s)[k]? = some s[k] := by
  rw [List.getElem?_eq_getElem (by simpa using h)]; rfl
theorem bs_len (s : ByteArray) : (bs s).length = s.size := by simp
theorem ret_int {k : IntKind} {a b : Int} (h : a = b) : Ending.returned (.int k a) = .returned (.int k b) := by rw [h]

set_option maxHeartbeats 800000 in
theorem pass_inl (s : ByteArray) (a : Nat) (w : World) (hs : s.size ≤ 1000000) (ha : a ≤ s.size) :
    Calls Tryz.prog 87 #[.string s, .int .i64 a, .func (.func 88) #[] #[]] w fun e w' => e = .returned (.int .i64 (Lx.runTo Lx.inl (bs s) a : Nat)) ∧ w' = w := by
  go_enter Tryz.func87, Tryz.ntmps87
  go_wp2
  go_loop [1] (fun i => ∃ k : Nat, k ≤ s.size ∧ i = .int .i64 k ∧ Hid (Lx.runTo Lx.inl (bs s) a = Lx.runTo Lx.inl (bs s) k)) (fun i => s.size - (intOf i).toNat)
  case atStart => exact ⟨a, ha, rfl, rfl⟩
  case round =>
    obtain ⟨k, hk, rfl, hr⟩ := hrel
    by_cases hlt : k < s.size
    · have hc := bs_at s k hlt
      have HC : Hid _ := hc
      clear hc
      by_cases hp : Lx.inl s[k] = true
      · go_wp2_with (go_at_call 88; refine (inLine_any _ _).mono ?_; rintro e w' ⟨rfl, rfl⟩)
        go_round
        case rel => exact ⟨k + 1, by omega, by go_num, hr.out.trans (Lx.runTo_yes HC.out hp)⟩
        case measure => simp [intOf]; omega
      · have hp' : Lx.inl s[k] = false := by simpa using hp
        clear hp
        go_wp2_with (go_at_call 88; refine (inLine_any _ _).mono ?_; rintro e w' ⟨rfl, rfl⟩)
        go_ret
        exact ⟨ret_int (by rw [hr.out, Lx.runTo_no HC.out hp']), rfl⟩
    · go_wp2
      go_ret
      exact ⟨ret_int (by rw [hr.out, Lx.runTo_end (by rw [bs_len]; omega)]), rfl⟩
set_option maxHeartbeats 800000 in
theorem pass_digit (s : ByteArray) (a : Nat) (w : World) (hs : s.size ≤ 1000000) (ha : a ≤ s.size) :
    Calls Tryz.prog 87 #[.string s, .int .i64 a, .func (.func 89) #[] #[]] w fun e w' => e = .returned (.int .i64 (Lx.runTo Lx.digit (bs s) a : Nat)) ∧ w' = w := by
  go_enter Tryz.func87, Tryz.ntmps87
  go_wp2
  go_loop [1] (fun i => ∃ k : Nat, k ≤ s.size ∧ i = .int .i64 k ∧ Hid (Lx.runTo Lx.digit (bs s) a = Lx.runTo Lx.digit (bs s) k)) (fun i => s.size - (intOf i).toNat)
  case atStart => exact ⟨a, ha, rfl, rfl⟩
  case round =>
    obtain ⟨k, hk, rfl, hr⟩ := hrel
    by_cases hlt : k < s.size
    · have hc := bs_at s k hlt
      have HC : Hid _ := hc
      clear hc
      by_cases hp : Lx.digit s[k] = true
      · go_wp2_with (go_at_call 89; refine (isDigit_any _ _).mono ?_; rintro e w' ⟨rfl, rfl⟩)
        go_round
        case rel => exact ⟨k + 1, by omega, by go_num, hr.out.trans (Lx.runTo_yes HC.out hp)⟩
        case measure => simp [intOf]; omega
      · have hp' : Lx.digit s[k] = false := by simpa using hp
        clear hp
        go_wp2_with (go_at_call 89; refine (isDigit_any _ _).mono ?_; rintro e w' ⟨rfl, rfl⟩)
        go_ret
        exact ⟨ret_int (by rw [hr.out, Lx.runTo_no HC.out hp']), rfl⟩
    · go_wp2
      go_ret
      exact ⟨ret_int (by rw [hr.out, Lx.runTo_end (by rw [bs_len]; omega)]), rfl⟩
set_option maxHeartbeats 800000 in
theorem pass_word (s : ByteArray) (a : Nat) (w : World) (hs : s.size ≤ 1000000) (ha : a ≤ s.size) :
    Calls Tryz.prog 87 #[.string s, .int .i64 a, .func (.func 90) #[] #[]] w fun e w' => e = .returned (.int .i64 (Lx.runTo Lx.word (bs s) a : Nat)) ∧ w' = w := by
  go_enter Tryz.func87, Tryz.ntmps87
  go_wp2
  go_loop [1] (fun i => ∃ k : Nat, k ≤ s.size ∧ i = .int .i64 k ∧ Hid (Lx.runTo Lx.word (bs s) a = Lx.runTo Lx.word (bs s) k)) (fun i => s.size - (intOf i).toNat)
  case atStart => exact ⟨a, ha, rfl, rfl⟩
  case round =>
    obtain ⟨k, hk, rfl, hr⟩ := hrel
    by_cases hlt : k < s.size
    · have hc := bs_at s k hlt
      have HC : Hid _ := hc
      clear hc
      by_cases hp : Lx.word s[k] = true
      · go_wp2_with (go_at_call 90; refine (isWord_any _ _).mono ?_; rintro e w' ⟨rfl, rfl⟩)
        go_round
        case rel => exact ⟨k + 1, by omega, by go_num, hr.out.trans (Lx.runTo_yes HC.out hp)⟩
        case measure => simp [intOf]; omega
      · have hp' : Lx.word s[k] = false := by simpa using hp
        clear hp
        go_wp2_with (go_at_call 90; refine (isWord_any _ _).mono ?_; rintro e w' ⟨rfl, rfl⟩)
        go_ret
        exact ⟨ret_int (by rw [hr.out, Lx.runTo_no HC.out hp']), rfl⟩
    · go_wp2
      go_ret
      exact ⟨ret_int (by rw [hr.out, Lx.runTo_end (by rw [bs_len]; omega)]), rfl⟩
end Go.Proofs.YtiihgnagjemikaaGreatDoor
/- skip: where what is nothing ends. -/
namespace Go.Proofs.YtiihgnagjemikaaGreatDoor
open Go.RowKit

set_option maxHeartbeats 1600000 in
theorem skip_any (s : ByteArray) (a : Nat) (w : World) (hs : s.size ≤ 1000000) (ha : a ≤ s.size) :
    Calls Tryz.prog 53 #[.string s, .int .i64 a] w fun e w' => e = .returned (.int .i64 (Lx.skipTo (bs s) a : Nat)) ∧ w' = w := by
  go_enter Tryz.func53, Tryz.ntmps53
  go_wp2
  go_loop [1] (fun i => ∃ k : Nat, k ≤ s.size ∧ i = .int .i64 k ∧ Hid (Lx.skipTo (bs s) a = Lx.skipTo (bs s) k)) (fun i => s.size - (intOf i).toNat)
  case atStart => exact ⟨a, ha, rfl, rfl⟩
  case round =>
    obtain ⟨k, hk, rfl, hr⟩ := hrel
    by_cases hlt : k < s.size
    · have HC : Hid _ := bs_at s k hlt
      by_cases hb : Lx.blank s[k] = true
      · go_wp2_with (go_at_call 86; refine (isBlank_any s[k] _).mono ?_; rintro e w' ⟨rfl, rfl⟩)
        go_round
        case rel => exact ⟨k + 1, by omega, by go_num, hr.out.trans (Lx.skipTo_blank HC.out hb)⟩
        case measure => simp [intOf]; omega
      · have hb' : Lx.blank s[k] = false := by simpa using hb
        clear hb
        by_cases h35 : (s[k].toNat : Int) = 35
        · have HH : Hid ((bs s)[k]? = some 35) := by
            rw [Hid, HC.out]; congr 1; apply UInt8.toNat_inj.1; show _ = 35; omega
          have hle := Lx.runTo_le (p := Lx.inl) (s := bs s) (k := k) (by rw [bs_len]; omega)
          rw [bs_len] at hle
          have hgt := Lx.runTo_remark_lt HH.out
          have H35 : Hid _ := h35
          clear h35
          go_wp2_with (first | (go_at_call 86; refine (isBlank_any s[k] _).mono ?_; rintro e w' ⟨rfl, rfl⟩; have h35 := H35.out) | (go_at_call 87; refine (pass_inl s k _ hs (by omega)).mono ?_; rintro e w' ⟨rfl, rfl⟩))
          go_round
          case rel => exact ⟨_, hle.2, rfl, hr.out.trans (Lx.skipTo_remark HH.out)⟩
          case measure => simp [intOf]; omega
        · have hn : s[k] ≠ 35 := fun h => h35 (by rw [h]; rfl)
          have HN : Hid _ := hn
          clear hn
          go_wp2_with (first | (go_at_call 86; refine (isBlank_any s[k] _).mono ?_; rintro e w' ⟨rfl, rfl⟩))
          go_ret
          exact ⟨ret_int (by rw [hr.out, Lx.skipTo_no HC.out hb' HN.out]), rfl⟩
    · go_wp2
      go_ret
      exact ⟨ret_int (by rw [hr.out, Lx.skipTo_end (by rw [bs_len]; omega)]), rfl⟩
end Go.Proofs.YtiihgnagjemikaaGreatDoor
/- The library's contracts (strings.HasPrefix, Clone) at this program: laid, no walk. -/
namespace Go.Proofs
open Go.Shelf
def Tryz.laysM316_ren : Go.Shelf.Ren := ⟨fun | 316 => 92 | n => n, fun | 9 => 9 | 3 => 3 | 4 => 4 | 37 => 50 | 0 => 0 | 127 => 75 | 5 => 5 | n => n, fun | n => n⟩
theorem Tryz.laysM316 : Go.Proofs.LaysM.n316 Tryz.prog Tryz.laysM316_ren := {
  mixed := by kernel_rfl
  f316 := Tryz.func92.trans (congrArg some (by kernel_rfl))
  t0 := Tryz.underlying0
  a0 := Tryz.isAgg0
  z0 := Tryz.sizeOf0
  v0 := Tryz.zeroValue0
  t3 := Tryz.underlying3
  a3 := Tryz.isAgg3
  z3 := Tryz.sizeOf3
  v3 := Tryz.zeroValue3
  t4 := Tryz.underlying4
  a4 := Tryz.isAgg4
  z4 := Tryz.sizeOf4
  v4 := Tryz.zeroValue4
  t9 := Tryz.underlying9
  a9 := Tryz.isAgg9
  z9 := Tryz.sizeOf9
  v9 := Tryz.zeroValue9
  t37 := Tryz.underlying50
  a37 := Tryz.isAgg50
  z37 := Tryz.sizeOf50
  v37 := Tryz.zeroValue50
  t127 := Tryz.underlying75
  a127 := Tryz.isAgg75
  z127 := Tryz.sizeOf75
  v127 := Tryz.zeroValue75
  t5 := Tryz.underlying5
  a5 := Tryz.isAgg5
  z5 := Tryz.sizeOf5
  v5 := Tryz.zeroValue5
  i0 := by kernel_rfl
  i3 := by kernel_rfl
  i4 := by kernel_rfl
  i5 := by kernel_rfl
  i9 := by kernel_rfl
  i37 := by kernel_rfl
  i127 := by kernel_rfl }
open Go.RowKit in
theorem Tryz.stringslite_Clone (s : ByteArray) (w : World) (hlim : s.size ≤ 281474976710656) :
    Calls Tryz.prog 92 #[.string s] w fun e w' => e = .returned (.string s) ∧ Below w.heap.size w w' := Any.stringslite_Clone Tryz.laysM316 s w hlim
def Tryz.lays99_ren : Go.Shelf.Ren := ⟨fun | 99 => 91 | 206 => 118 | n => n, fun | 9 => 9 | 4 => 4 | 3 => 3 | n => n, fun | n => n⟩
theorem Tryz.lays99 : Go.Proofs.Lays.n99 Tryz.prog Tryz.lays99_ren := {
  mixed := by kernel_rfl
  f99 := Tryz.func91.trans (congrArg some (by kernel_rfl))
  f206 := Tryz.func118.trans (congrArg some (by kernel_rfl))
  t3 := Tryz.underlying3
  a3 := Tryz.isAgg3
  z3 := Tryz.sizeOf3
  v3 := Tryz.zeroValue3
  t4 := Tryz.underlying4
  a4 := Tryz.isAgg4
  z4 := Tryz.sizeOf4
  v4 := Tryz.zeroValue4
  t9 := Tryz.underlying9
  a9 := Tryz.isAgg9
  z9 := Tryz.sizeOf9
  v9 := Tryz.zeroValue9 }
open Go.RowKit Go.Lib in
theorem Tryz.strings_HasPrefix (s p : ByteArray) (w : World) :
    Calls Tryz.prog 91 #[.string s, .string p] w fun e w' => e = .returned (.bool (Lib.hasPrefix s.data.toList p.data.toList)) ∧ w' = w := Any.strings_HasPrefix Tryz.lays99 s p w
end Go.Proofs
