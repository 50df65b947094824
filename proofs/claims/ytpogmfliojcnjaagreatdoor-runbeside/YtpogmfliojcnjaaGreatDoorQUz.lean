import Derived.Test.YtpogmfliojcnjaaGreatDoorQUw
namespace Go.Proofs.YtpogmfliojcnjaaGreatDoor
open Go.RowKit Px
def EnterOk (A : Nat → Prop) (k : Nat) : Prop := ∀ {P : Nat → Prop} {w : World} {rb bn bw m : Nat} {ns : List Str} {now was now' : Px.Env} {L : List (St k)} {d d' : Rd k} {g : Nat} (back : Bool), RegM A k w P L d g → StAll ns k L → Sep A P w rb bn bw → RunV w rb bn bw m ns now was → (OpsK k).enter was back L now d = some (now', d') →
 ∃ pf pw : Option Addr, w.cell? ⟨g, 0, none⟩ = some (.pointer pf) ∧ w.cell? ⟨g, 2, none⟩ = some (.pointer pw) ∧ (back = true → pw ≠ none → Calls Tryz.prog 37 #[.pointer (some ⟨rb, 0, none⟩), .pointer (some ⟨g, 0, none⟩), .pointer pw, .bool true] w (RegTo A k P rb bn bw m ns was w L g now' d')) ∧
  (back = false ∨ pw = none → Calls Tryz.prog 37 #[.pointer (some ⟨rb, 0, none⟩), .pointer (some ⟨g, 0, none⟩), .pointer pf, .bool false] w (RegTo A k P rb bn bw m ns was w L g now' d'))
def WayTo (A P : Nat → Prop) {k : Nat} (rb bn bw m : Nat) (ns : List Str) (was : Px.Env) (w : World) (L : List (StF (St k))) (g : Nat) (l : Lie) (i : Nat) (wj : Option Nat) (now' : Px.Env) (d' : RdF (Rd k)) (e : Ending) (w' : World) : Prop :=
 e = .returned (wP (l.gW i) wj) ∧ Hid (RMem A w' (RegM A k w') P L d' g l ∧ RunV w' rb bn bw m ns now' was ∧ FrP P bn w w')
def zk (k : Nat) (cs : List Int) : List Int := List.replicate k 0 ++ cs.drop k
theorem zk_zero (cs : List Int) : zk 0 cs = cs := rfl
theorem zk_all {cs : List Int} {n : Nat} (h : cs.length = n) : zk n cs = List.replicate n 0 := by unfold zk; rw [← h, List.drop_length, List.append_nil]
theorem zk_set {cs : List Int} {k : Nat} (hk : k < cs.length) : (zk k cs).set k 0 = zk (k + 1) cs := by
 unfold zk
 rw [List.set_append_right _ _ (by simp)]
 simp only [List.length_replicate, Nat.sub_self]
 rw [List.drop_eq_getElem_cons hk, List.set_cons_zero, List.replicate_succ', List.append_assoc]
 rfl
theorem arriveR_cases {σ ρ : Type} {O : Ops σ ρ} {was : Px.Env} {L : List (StF σ)} {i : Nat} {back : Bool} {n : Px.Env} {d : RdF ρ} {s : StF σ} {x : SdF ρ} {wj : Option Nat} {n' : Px.Env} {d' : RdF ρ} (hs : L[i]? = some s) (hx : d.sts[i]? = some x) (h : arriveR O was L i back n d = some (wj, n', d')) :
    (∃ j, (opnW (overs O s.regions x.inside) (doS was s.enter n) was askNS s.ways (List.replicate s.ways.length 0)).1 = some j ∧ wj = some j ∧ n' = doS was s.enter n ∧ d' = ⟨some i, d.was, d.sts.set i ⟨(opnW (overs O s.regions x.inside) (doS was s.enter n) was askNS s.ways (List.replicate s.ways.length 0)).2, x.inside⟩⟩) ∨
    ((opnW (overs O s.regions x.inside) (doS was s.enter n) was askNS s.ways (List.replicate s.ways.length 0)).1 = none ∧ ∃ p, allI (O.enter was back) s.regions s.regions.length 0 (doS was s.enter n) x.inside = some p ∧
     wj = (opnW (overs O s.regions p.2) p.1 was askNW s.ways (opnW (overs O s.regions x.inside) (doS was s.enter n) was askNS s.ways (List.replicate s.ways.length 0)).2).1 ∧ n' = p.1 ∧ d' = ⟨some i, d.was, d.sts.set i ⟨(opnW (overs O s.regions p.2) p.1 was askNW s.ways (opnW (overs O s.regions x.inside) (doS was s.enter n) was askNS s.ways (List.replicate s.ways.length 0)).2).2, p.2⟩⟩) := by
 rw [arriveR, hs, hx] at h
 simp only at h
 cases ho : (opnW (overs O s.regions x.inside) (doS was s.enter n) was askNS s.ways (List.replicate s.ways.length 0)).1 with
 | some j =>
  rw [ho] at h
  simp only [Option.some.injEq, Prod.mk.injEq] at h
  exact .inl ⟨j, rfl, h.1.symm, h.2.1.symm, h.2.2.symm⟩
 | none =>
  rw [ho] at h
  simp only at h
  cases ha : allI (O.enter was back) s.regions s.regions.length 0 (doS was s.enter n) x.inside with
  | none => rw [ha] at h; exact absurd h (by simp)
  | some p =>
   rw [ha] at h
   simp only [Option.some.injEq, Prod.mk.injEq] at h
   exact .inr ⟨rfl, p, rfl, h.1.symm, h.2.1.symm, h.2.2.symm⟩
section
variable {A P : Nat → Prop} {w w' : World} {k g rb bn bw m : Nat} {ns : List Str} {now was : Px.Env} {L : List (StF (St k))} {d : RdF (Rd k)} {l : Lie}
theorem RMem.setThere {i : Nat} (h : RMem A w (RegM A k w) P L d g l) (hS : Sep A P w rb bn bw) (hi : i < L.length) : RMem A (w.setCell ⟨g, 1, none⟩ (.pointer (some ⟨l.gS, i * 11, none⟩))) (RegM A k (w.setCell ⟨g, 1, none⟩ (.pointer (some ⟨l.gS, i * 11, none⟩)))) P L ⟨some i, d.was, d.sts⟩ g l :=
 h.keepBut (fun b hb _ => Below.heap_setCell _ _ _ _ (fun e => (hS.a b hb).2.1 (e ▸ h.pg.1))) (fun b _ hb => Below.heap_setCell _ _ _ _ hb) (ck_set (l := [pS l.gS (some l.fi), pS l.gS d.there, pS l.gS d.was]) h.hg 1 _) rfl (fun i' e => by injection e with e; rw [← e]; exact hi) h.wa
theorem RunV.apart (h : RunV w rb bn bw m ns now was) (hS : Sep A P w rb bn bw) (hf : FrP P bn w w') (hb : w'.heap[bn]? = w.heap[bn]?) : RunV w' rb bn bw m ns now was :=
 h.fr hf ⟨fun e => (hS.p rb e).2.1 rfl, hS.rn⟩ ⟨fun e => (hS.p bw e).2.2.2 rfl, hS.wn⟩ (h.mn.keep hb)
set_option maxRecDepth 100000 in
set_option maxHeartbeats 16000000 in
theorem arrive_succ (ih : EnterOk A k) {i : Nat} {back : Bool} {wj : Option Nat} {now' : Px.Env} {d' : RdF (Rd k)} (h : RMem A w (RegM A k w) P L d g l) (hst : ∀ s ∈ L, StR ns s ∧ ∀ r ∈ s.regions, StAll ns k r) (hS : Sep A P w rb bn bw) (hv : RunV w rb bn bw m ns now was) (hl : arriveR (OpsK k) was L i back now d = some (wj, now', d')) :
    Calls Tryz.prog 67 #[.pointer (some ⟨rb, 0, none⟩), .pointer (some ⟨g, 0, none⟩), .pointer (some ⟨l.gS, i * 11, none⟩), .bool back] w (WayTo A P rb bn bw m ns was w L g l i wj now' d') := by
 obtain ⟨s, hs⟩ : ∃ s, L[i]? = some s := by
  cases hs : L[i]? with
  | none => rw [arriveR, hs] at hl; exact absurd hl (by simp)
  | some s => exact ⟨s, rfl⟩
 have hil : i < L.length := (List.getElem?_eq_some_iff.1 hs).1
 obtain ⟨x, hx⟩ : ∃ x, d.sts[i]? = some x := ⟨_, List.getElem?_eq_getElem (by rw [h.len]; exact hil)⟩
 have hl := arriveR_cases hs hx hl
 have hsr := (hst s (List.mem_of_getElem? hs)).1
 obtain ⟨d1, hd1⟩ : ∃ d1 : RdF (Rd k), d1 = ⟨some i, d.was, d.sts⟩ := ⟨_, rfl⟩
 have hx1 : d1.sts[i]? = some x := by rw [hd1]; exact hx
 have hxl : i < d1.sts.length := (List.getElem?_eq_some_iff.1 hx1).1
 obtain ⟨W1, hW1⟩ : ∃ W1, W1 = w.setCell ⟨g, 1, none⟩ (.pointer (some ⟨l.gS, i * 11, none⟩)) := ⟨_, rfl⟩
 have hR1 : RMem A W1 (RegM A k W1) P L d1 g l := by rw [hW1, hd1]; exact h.setThere hS hil
 have hf1 : FrP P bn w W1 := by rw [hW1]; exact (FrP.refl _ _ _).setCell (p := ⟨g, 1, none⟩) h.pg.1 _
 have hv1 : RunV W1 rb bn bw m ns now was := hv.apart hS hf1 (by rw [hW1]; exact Below.heap_setCell _ _ _ _ (fun e => (hS.p g h.pg.1).2.2.1 e.symm))
 have k1 := cell_row h.hg 1 rfl
 have z1 := ck_frozen h.hg 1
 obtain ⟨M, hM⟩ : ∃ M, M = s.ways.length := ⟨_, rfl⟩
 obtain ⟨n, hn⟩ : ∃ n, n = s.regions.length := ⟨_, rfl⟩
 have hm1 := hR1.st i s x hs hx1
 obtain ⟨aw, cw, c9, haw⟩ := hm1.wy
 obtain ⟨ai, ci, c10, hai⟩ := hm1.iy
 rw [← hM] at c9 haw
 rw [← hn] at c10 hai
 have hM6 : (M : Int) ≤ 9223372036854775807 := by have := hsr.wl; unfold maxLen at this; omega
 have hn6 : (n : Int) ≤ 9223372036854775807 := by have := hsr.il; unfold maxLen at this; omega
 have HI : Hid (L[i]? = some s ∧ d1.sts[i]? = some x ∧ i < d1.sts.length ∧ M = s.ways.length ∧ n = s.regions.length ∧ x.so.length = M) := ⟨hs, hx1, hxl, hM, hn, by rw [hM]; exact hm1.wl⟩
 have HSR : Hid (StR ns s ∧ ∀ r ∈ s.regions, StAll ns k r) := hst s (List.mem_of_getElem? hs)
 have HS : Hid (Sep A P w rb bn bw) := hS
 have HIH : Hid (EnterOk A k) := ih
 have HAW : Hid (0 < M → aw = some ⟨l.gW i, 0, none⟩ ∧ P (l.gW i) ∧ l.role (l.gW i) = Role.ways i) := haw
 have HAI : Hid (0 < n → ai = some ⟨l.gI i, 0, none⟩) := fun hp => (hai hp).1
 have H1 : Hid (RMem A W1 (RegM A k W1) P L (withS d1 i ⟨zk 0 x.so, x.inside⟩) g l ∧ RunV W1 rb bn bw m ns now was ∧ FrP P bn w W1) := ⟨by rw [zk_zero, withS_self hx1]; exact hR1, hv1, hf1⟩
 have HLE : Hid _ := hl
 have HD1 : Hid (d1 = ⟨some i, d.was, d.sts⟩) := hd1
 obtain ⟨oi, hoi⟩ : ∃ oi, oi = i * 11 := ⟨_, rfl⟩
 have HOI : Hid (oi = i * 11) := hoi
 rw [← hoi] at hW1 c9 c10 ⊢
 clear h hst hS hv hl ih hs hil hx hsr hd1 hx1 hxl hR1 hf1 hv1 hM hn hm1 haw hai hoi
 go_enter Tryz.func67, Tryz.ntmps67
 go_upto_region 2 with fail
 rw [← hW1]
 clear hW1 k1 z1
 go_wp2_with fail
 clear c9
 go_loopg [22] M (fun f i' wr => ∃ q : Nat, f = M - q ∧ q ≤ M ∧ i' = .int .i64 (q : Int) ∧ Hid (RMem A wr (RegM A k wr) P L (withS d1 i ⟨zk q x.so, x.inside⟩) g l ∧ RunV wr rb bn bw m ns now was ∧ FrP P bn w wr))
 case atStart => exact ⟨0, by omega, by omega, rfl, H1.out⟩
 case round =>
  obtain ⟨q, rfl, hq, rfl, hr⟩ := hrel
  obtain ⟨hr1, hr2, hr3⟩ := hr.out
  have hm := hr1.st i s ⟨zk q x.so, x.inside⟩ HI.out.1 (withS_at _ HI.out.2.2.1)
  by_cases hlt : q < M
  ·obtain ⟨aw', cw', c9, haw'⟩ := hm.wy
   rw [← HI.out.2.2.2.1] at c9 haw'
   rw [← HOI.out] at c9
   have hixy := ixY aw' (l.gW i) M cw' q hlt (fun hp => (haw' hp).1)
   obtain ⟨y, hy⟩ : ∃ y, s.ways[q]? = some y := ⟨s.ways[q]'(by rw [← HI.out.2.2.2.1]; exact hlt), by rw [List.getElem?_eq_getElem]⟩
   have hzl : (zk q x.so).length = s.ways.length := hm.wl
   obtain ⟨c, hc⟩ : ∃ c, (zk q x.so)[q]? = some c := ⟨_, List.getElem?_eq_getElem (by rw [hzl, ← HI.out.2.2.2.1]; exact hlt)⟩
   have hwm := hm.wm q y c hy hc
   have s8 := hwm.so
   have f8 := hwm.fr
   have hgw := HAW.out (by omega)
   have HN : Hid (RMem A (wr.setCell ⟨l.gW i, q * 9 + 8, none⟩ (.int .i64 0)) (RegM A k (wr.setCell ⟨l.gW i, q * 9 + 8, none⟩ (.int .i64 0))) P L (withS d1 i ⟨zk (q + 1) x.so, x.inside⟩) g l ∧ RunV (wr.setCell ⟨l.gW i, q * 9 + 8, none⟩ (.int .i64 0)) rb bn bw m ns now was ∧ FrP P bn w (wr.setCell ⟨l.gW i, q * 9 + 8, none⟩ (.int .i64 0))) := by
    have hSw := HS.out.up hr3.size
    have hfw : FrP (fun b => 0 < s.ways.length ∧ b = l.gW i) bn wr (wr.setCell ⟨l.gW i, q * 9 + 8, none⟩ (.int .i64 0)) := (FrP.refl _ _ _).setCell (p := ⟨l.gW i, q * 9 + 8, none⟩) ⟨by rw [← HI.out.2.2.2.1]; omega, rfl⟩ _
    have hwp : WaysM A (wr.setCell ⟨l.gW i, q * 9 + 8, none⟩ (.int .i64 0)) (snames L) l.gS (l.gW i) s.ways (zk (q + 1) x.so) := by
     have := (show WaysM A wr (snames L) l.gS (l.gW i) s.ways (zk q x.so) from ⟨hzl, hm.wm⟩).put (k := q) (c' := 0) (fun b hb e => (hSw.a b hb).2.1 (e ▸ hgw.2.1))
     rwa [zk_set (by rw [HI.out.2.2.2.2.2]; exact hlt)] at this
    have := hr1.ways hSw HI.out.1 (withS_at _ HI.out.2.2.1) hfw hwp
    rw [withS_withS] at this
    have hfp : FrP P bn wr (wr.setCell ⟨l.gW i, q * 9 + 8, none⟩ (.int .i64 0)) := hfw.wide fun b hb => hb.2 ▸ hgw.2.1
    exact ⟨this, hr2.apart hSw hfp (Below.heap_setCell _ _ _ _ (fun e => (hSw.p _ hgw.2.1).2.2.1 e.symm)), hr3.trans hfp⟩
   clear hr hr1 hr2 hr3 hm hy hc hwm hgw hzl haw'
   go_wp2_with fail
   go_roundg (M - (q + 1))
   case measure => omega
   case rel => exact ⟨q + 1, rfl, by omega, by go_num, HN.out⟩
  ·obtain rfl : q = M := by omega
   rw [zk_all HI.out.2.2.2.2.2] at hr1 hm
   obtain ⟨ve, c3, hve⟩ := hm.en
   rw [← HOI.out] at c3
   have hdo := do_any HSR.out.1.en hve hr2 (HS.out.up hr3.size).chart HS.out.rn HS.out.wn
   obtain ⟨va, vn, vc, rfl⟩ := hve.sl'
   have HG : Hid (RMem A wr (RegM A k wr) P L (withS d1 i ⟨List.replicate q 0, x.inside⟩) g l ∧ FrP P bn w wr) := ⟨hr1, hr3⟩
   clear hr hr1 hr2 hr3 hm hve H1 c10
   go_upto_region 7 with fail
   go_wp2_with fail
   refine hdo.mono ?_
   rintro e w2 ⟨rfl, h2⟩
   obtain ⟨hv2, hf2⟩ := h2.out
   have hR2 := HG.out.1.vars (HS.out.up HG.out.2.size) hf2 (fun _ _ h => h) (fun _ _ h => h)
   have hfw2 : FrP P bn w w2 := HG.out.2.trans (hf2.wide fun _ h => h.elim)
   have hop := open_at open_ok1 hR2 HSR.out.1 (HS.out.up hfw2.size) hv2 HI.out.1 (withS_at _ HI.out.2.2.1)
   rw [withS_withS, ← HOI.out] at hop
   simp only at hop
   obtain ⟨o1, ho1⟩ : ∃ o1, o1 = opnW (overs (OpsK k) s.regions x.inside) (doS was s.enter now) was askNS s.ways (List.replicate q 0) := ⟨_, rfl⟩
   have hle := HLE.out
   rw [← HI.out.2.2.2.1, ← ho1] at hle
   rw [← ho1] at hop
   have HF2 : Hid (FrP P bn w w2) := hfw2
   clear hdo h2 hv2 hf2 hR2 hfw2 HG HLE c3 ho1
   rcases hle with ⟨j, ho, e1, e2, e3⟩ | ⟨ho, p, hall, e1, e2, e3⟩
   ·rw [ho] at hop
    subst e1 e2 e3
    clear ho
    unfold wP at hop
    go_wp2_with fail
    refine hop.mono ?_
    rintro e w3 ⟨rfl, h3⟩
    clear hop
    have HX : Hid (RMem A w3 (RegM A k w3) P L (⟨some i, d.was, d.sts.set i ⟨o1.2, x.inside⟩⟩ : RdF (Rd k)) g l ∧ RunV w3 rb bn bw m ns (doS was s.enter now) was ∧ FrP P bn w w3) := by
     obtain ⟨a1, a2, a3⟩ := h3.out
     rw [HD1.out] at a1
     exact ⟨a1, a2, HF2.out.trans a3⟩
    clear h3 HD1
    go_wp2_with fail
    go_ret
    exact ⟨rfl, HX.out⟩
   ·rw [ho] at hop
    have HE : Hid (wj = (opnW (overs (OpsK k) s.regions p.2) p.1 was askNW s.ways o1.2).1 ∧ now' = p.1 ∧ d' = (⟨some i, d.was, d.sts.set i ⟨(opnW (overs (OpsK k) s.regions p.2) p.1 was askNW s.ways o1.2).2, p.2⟩⟩ : RdF (Rd k))) := ⟨e1, e2, e3⟩
    have HALL : Hid (allI ((OpsK k).enter was back) s.regions s.regions.length 0 (doS was s.enter now) x.inside = some p) := hall
    clear ho e1 e2 e3 hall
    unfold wP at hop
    go_wp2_with fail
    refine hop.mono ?_
    rintro e w3 ⟨rfl, h3⟩
    clear hop
    have H3 : Hid (allI ((OpsK k).enter was back) s.regions (n - 0) 0 (doS was s.enter now) x.inside = some p ∧ RMem A w3 (RegM A k w3) P L (withS d1 i ⟨o1.2, x.inside⟩) g l ∧ RunV w3 rb bn bw m ns (doS was s.enter now) was ∧ FrP P bn w w3) := by
     obtain ⟨a1, a2, a3⟩ := h3.out
     exact ⟨by rw [Nat.sub_zero, HI.out.2.2.2.2.1]; exact HALL.out, a1, a2, HF2.out.trans a3⟩
    have hm3 := H3.out.2.1.st i s ⟨o1.2, x.inside⟩ HI.out.1 (withS_at _ HI.out.2.2.1)
    obtain ⟨ai, ci, c10, hai⟩ := hm3.iy
    rw [← HI.out.2.2.2.2.1] at c10 hai
    rw [← HOI.out] at c10
    have HAI : Hid (0 < n → ai = some ⟨l.gI i, 0, none⟩) := fun hp => (hai hp).1
    clear h3 HALL hm3 hai HF2
    go_wp2_with fail
    clear c10
    go_loopg [51] n (fun f i' wr => ∃ (j : Nat) (nj : Px.Env) (ins : List (Rd k)), f = n - j ∧ j ≤ n ∧ i' = .int .i64 (j : Int) ∧ Hid (allI ((OpsK k).enter was back) s.regions (n - j) j nj ins = some p ∧ RMem A wr (RegM A k wr) P L (withS d1 i ⟨o1.2, ins⟩) g l ∧ RunV wr rb bn bw m ns nj was ∧ FrP P bn w wr))
    case atStart => exact ⟨0, _, x.inside, by omega, by omega, rfl, H3.out⟩
    case round =>
     obtain ⟨j, nj, ins, rfl, hj, rfl, hr⟩ := hrel
     obtain ⟨hr1, hr2, hr3, hr4⟩ := hr.out
     have hm := hr2.st i s ⟨o1.2, ins⟩ HI.out.1 (withS_at _ HI.out.2.2.1)
     by_cases hlt : j < n
     ·obtain ⟨r, hrj⟩ : ∃ r, s.regions[j]? = some r := ⟨s.regions[j]'(by rw [← HI.out.2.2.2.2.1]; exact hlt), by rw [List.getElem?_eq_getElem]⟩
      rw [show n - j = n - (j + 1) + 1 by omega] at hr1
      obtain ⟨dj, qq, hd, hqq, hnx⟩ := allI_step hr1 hrj
      obtain ⟨cj, hRj⟩ := hm.im j r dj hrj hd
      have hix := ixG ai (l.gI i) n ci j hlt HAI.out
      obtain ⟨pf, pw, cf, cw2, hE1, hE2⟩ := HIH.out back hRj (HSR.out.2 r (List.mem_of_getElem? hrj)) ((HS.out.up hr4.size).sub fun b hb => hb.1) hr3 hqq
      unfold RegTo at hE1 hE2
      have HN : Hid (∀ w', RegM A k w' (fun b => P b ∧ l.role b = Role.inner i j) r qq.2 (l.gr i j) ∧ RunV w' rb bn bw m ns qq.1 was ∧ FrP (fun b => P b ∧ l.role b = Role.inner i j) bn wr w' → allI ((OpsK k).enter was back) s.regions (n - (j + 1)) (j + 1) qq.1 (ins.set j qq.2) = some p ∧ RMem A w' (RegM A k w') P L (withS d1 i ⟨o1.2, ins.set j qq.2⟩) g l ∧ RunV w' rb bn bw m ns qq.1 was ∧ FrP P bn w w') := fun w' ⟨a1, a2, a3⟩ => by
       have := hr2.inner (HS.out.up hr4.size) HI.out.1 (withS_at _ HI.out.2.2.1) hrj hd a3 a1
       rw [withS_withS] at this
       exact ⟨hnx, this, a2, hr4.trans (a3.wide fun b hb => hb.1)⟩
      clear hr hr1 hr2 hr3 hr4 hm hrj hd hqq hnx hRj
      cases back with
      | false =>
       have hcall := hE2 (.inl rfl)
       clear hE1 hE2
       go_wp2_with (refine hcall.mono ?_; rintro e w5 ⟨rfl, h5⟩)
       go_roundg (n - (j + 1))
       case measure => omega
       case rel => exact ⟨j + 1, qq.1, ins.set j qq.2, rfl, by omega, by go_num, HN.out w5 h5.out⟩
      | true =>
       cases pw with
       | none =>
        have hcall := hE2 (.inr rfl)
        clear hE1 hE2
        go_wp2_with (refine hcall.mono ?_; rintro e w5 ⟨rfl, h5⟩)
        go_roundg (n - (j + 1))
        case measure => omega
        case rel => exact ⟨j + 1, qq.1, ins.set j qq.2, rfl, by omega, by go_num, HN.out w5 h5.out⟩
       | some pa =>
        have hcall := hE1 rfl (by simp)
        clear hE1 hE2
        go_wp2_with (refine hcall.mono ?_; rintro e w5 ⟨rfl, h5⟩)
        go_roundg (n - (j + 1))
        case measure => omega
        case rel => exact ⟨j + 1, qq.1, ins.set j qq.2, rfl, by omega, by go_num, HN.out w5 h5.out⟩
     ·obtain rfl : j = n := by omega
      rw [Nat.sub_self, allI] at hr1
      injection hr1 with hr1
      subst hr1
      have hop := open_at open_ok2 hr2 HSR.out.1 (HS.out.up hr4.size) hr3 HI.out.1 (withS_at _ HI.out.2.2.1)
      rw [withS_withS, ← HOI.out] at hop
      simp only at hop
      obtain ⟨o2, ho2⟩ : ∃ o2, o2 = opnW (overs (OpsK k) s.regions ins) nj was askNW s.ways o1.2 := ⟨_, rfl⟩
      have hE := HE.out
      simp only at hE
      rw [← ho2] at hop hE
      obtain ⟨rfl, rfl, rfl⟩ := hE
      have HF4 : Hid (FrP P bn w wr) := hr4
      have HO : Hid (∃ v, v = wP (l.gW i) o2.1) := ⟨_, rfl⟩
      obtain ⟨vo, hvo⟩ : ∃ vo : Option Addr, wP (l.gW i) o2.1 = .pointer vo := by cases o2.1 with | none => exact ⟨_, rfl⟩ | some _ => exact ⟨_, rfl⟩
      rw [hvo] at hop
      have HVO : Hid (wP (l.gW i) o2.1 = .pointer vo) := hvo
      clear hr hr2 hr3 hr4 hm ho2 HO hvo HE H3
      go_wp2_with (refine hop.mono ?_; rintro e w5 ⟨rfl, h5⟩)
      go_ret
      obtain ⟨a1, a2, a3⟩ := h5.out
      rw [HD1.out] at a1
      exact ⟨by rw [HVO.out]; rfl, a1, a2, HF4.out.trans a3⟩
end
end Go.Proofs.YtpogmfliojcnjaaGreatDoor
namespace Go.Proofs.YtpogmfliojcnjaaGreatDoor
open Go.RowKit Px
def GoOk (A : Nat → Prop) (k : Nat) : Prop := ∀ {P : Nat → Prop} {w : World} {rb bn bw m : Nat} {ns : List Str} {now was now' : Px.Env} {L : List (St k)} {d d' : Rd k} {g : Nat}, RegM A k w P L d g → StAll ns k L → Sep A P w rb bn bw → RunV w rb bn bw m ns now was → (OpsK k).go was L now d = some (now', d') →
 Calls Tryz.prog 38 #[.pointer (some ⟨rb, 0, none⟩), .pointer (some ⟨g, 0, none⟩)] w (RegTo A k P rb bn bw m ns was w L g now' d')
theorem passR_cases {σ ρ : Type} {O : Ops σ ρ} {was : Px.Env} {L : List (StF σ)} {i : Nat} {n : Px.Env} {d : RdF ρ} {s : StF σ} {x : SdF ρ} {wj : Option Nat} {n' : Px.Env} {d' : RdF ρ} (ht : d.there = some i) (hs : L[i]? = some s) (hx : d.sts[i]? = some x) (h : passR O was L n d = some (wj, n', d')) :
    (∃ j, (opnW (overs O s.regions x.inside) n was askS s.ways x.so).1 = some j ∧ wj = some j ∧ n' = n ∧ d' = ⟨some i, d.was, d.sts.set i ⟨(opnW (overs O s.regions x.inside) n was askS s.ways x.so).2, x.inside⟩⟩) ∨
    ((opnW (overs O s.regions x.inside) n was askS s.ways x.so).1 = none ∧ evE n was s.rests ≠ 0 ∧ wj = none ∧ n' = n ∧ d' = ⟨some i, d.was, d.sts.set i ⟨(opnW (overs O s.regions x.inside) n was askS s.ways x.so).2, x.inside⟩⟩) ∨
    ((opnW (overs O s.regions x.inside) n was askS s.ways x.so).1 = none ∧ evE n was s.rests = 0 ∧ ∃ p, allI (O.go was) s.regions s.regions.length 0 (doS was s.during n) x.inside = some p ∧
     wj = (opnW (overs O s.regions p.2) p.1 was askW s.ways (opnW (overs O s.regions x.inside) n was askS s.ways x.so).2).1 ∧ n' = p.1 ∧ d' = ⟨some i, d.was, d.sts.set i ⟨(opnW (overs O s.regions p.2) p.1 was askW s.ways (opnW (overs O s.regions x.inside) n was askS s.ways x.so).2).2, p.2⟩⟩) := by
 rw [passR, ht] at h
 simp only at h
 rw [hs, hx] at h
 simp only at h
 cases ho : (opnW (overs O s.regions x.inside) n was askS s.ways x.so).1 with
 | some j =>
  rw [ho] at h
  simp only [Option.some.injEq, Prod.mk.injEq] at h
  exact .inl ⟨j, rfl, h.1.symm, h.2.1.symm, h.2.2.symm⟩
 | none =>
  rw [ho] at h
  simp only at h
  by_cases he : evE n was s.rests = 0
  ·rw [if_neg (by simpa using he)] at h
   cases ha : allI (O.go was) s.regions s.regions.length 0 (doS was s.during n) x.inside with
   | none => rw [ha] at h; exact absurd h (by simp)
   | some p =>
    rw [ha] at h
    simp only [Option.some.injEq, Prod.mk.injEq] at h
    exact .inr (.inr ⟨rfl, he, p, rfl, h.1.symm, h.2.1.symm, h.2.2.symm⟩)
  ·rw [if_pos (by simpa using he)] at h
   simp only [Option.some.injEq, Prod.mk.injEq] at h
   exact .inr (.inl ⟨rfl, he, h.1.symm, h.2.1.symm, h.2.2.symm⟩)
section
variable {A P : Nat → Prop} {w w' : World} {k g rb bn bw m : Nat} {ns : List Str} {now was : Px.Env} {L : List (StF (St k))} {d : RdF (Rd k)} {l : Lie}
theorem withS_there {i : Nat} {x : SdF (Rd k)} (ht : d.there = some i) : withS d i x = ⟨some i, d.was, d.sts.set i x⟩ := by unfold withS; rw [ht]
set_option maxRecDepth 100000 in
set_option maxHeartbeats 16000000 in
theorem pass_succ (ih : GoOk A k) {i : Nat} {wj : Option Nat} {now' : Px.Env} {d' : RdF (Rd k)} (h : RMem A w (RegM A k w) P L d g l) (hst : ∀ s ∈ L, StR ns s ∧ ∀ r ∈ s.regions, StAll ns k r) (hS : Sep A P w rb bn bw) (hv : RunV w rb bn bw m ns now was) (ht : d.there = some i) (hl : passR (OpsK k) was L now d = some (wj, now', d')) :
    Calls Tryz.prog 68 #[.pointer (some ⟨rb, 0, none⟩), .pointer (some ⟨g, 0, none⟩)] w (WayTo A P rb bn bw m ns was w L g l i wj now' d') := by
 have hil := h.th i ht
 obtain ⟨s, hs⟩ : ∃ s, L[i]? = some s := ⟨_, List.getElem?_eq_getElem hil⟩
 obtain ⟨x, hx⟩ : ∃ x, d.sts[i]? = some x := ⟨_, List.getElem?_eq_getElem (by rw [h.len]; exact hil)⟩
 have hl := passR_cases ht hs hx hl
 have hop := open_at open_ok3 h (hst s (List.mem_of_getElem? hs)).1 hS hv hs hx
 obtain ⟨oi, hoi⟩ : ∃ oi, oi = i * 11 := ⟨_, rfl⟩
 have hcT := cell_row h.hg 1 (u := pS l.gS d.there) rfl
 have hc1 : w.cell? ⟨g, 1, none⟩ = some (.pointer (some ⟨l.gS, oi, none⟩)) := by rw [hcT, ht, hoi]; rfl
 obtain ⟨n, hn⟩ : ∃ n, n = s.regions.length := ⟨_, rfl⟩
 have hn6 : (n : Int) ≤ 9223372036854775807 := by have := (hst s (List.mem_of_getElem? hs)).1.il; unfold maxLen at this; omega
 have HI : Hid (L[i]? = some s ∧ d.sts[i]? = some x ∧ i < d.sts.length ∧ n = s.regions.length ∧ oi = i * 11 ∧ d.there = some i) := ⟨hs, hx, (List.getElem?_eq_some_iff.1 hx).1, hn, hoi, ht⟩
 have HSR : Hid (StR ns s ∧ ∀ r ∈ s.regions, StAll ns k r) := hst s (List.mem_of_getElem? hs)
 have HS : Hid (Sep A P w rb bn bw) := hS
 have HIH : Hid (GoOk A k) := ih
 rw [← hoi] at hop
 obtain ⟨o1, ho1⟩ : ∃ o1, o1 = opnW (overs (OpsK k) s.regions x.inside) now was askS s.ways x.so := ⟨_, rfl⟩
 rw [← ho1] at hop hl
 clear h hst hS hv ih hs hil hx hcT hn hoi ht ho1
 rcases hl with ⟨j, ho, e1, e2, e3⟩ | ⟨ho, he, e1, e2, e3⟩ | ⟨ho, he, p, hall, e1, e2, e3⟩
 ·rw [ho] at hop
  subst e1 e2 e3
  unfold wP at hop
  clear ho
  go_enter Tryz.func68, Tryz.ntmps68
  go_wp2_with (refine hop.mono ?_; rintro e w3 ⟨rfl, h3⟩)
  go_ret
  obtain ⟨a1, a2, a3⟩ := h3.out
  rw [withS_there HI.out.2.2.2.2.2] at a1
  exact ⟨rfl, a1, a2, a3⟩
 ·rw [ho] at hop
  subst e1 e2 e3
  unfold wP at hop
  have HE : Hid (evE now' was s.rests ≠ 0) := he
  clear ho he
  go_enter Tryz.func68, Tryz.ntmps68
  go_wp2_with fail
  refine hop.mono ?_
  rintro e w3 ⟨rfl, h3⟩
  clear hop hc1
  obtain ⟨a1, a2, a3⟩ := h3.out
  obtain ⟨pr, c6, hre⟩ := (a1.st i s ⟨o1.2, x.inside⟩ HI.out.1 (withS_at _ HI.out.2.2.1)).re
  rw [← HI.out.2.2.2.2.1] at c6
  have hev := ueval_any HSR.out.1.re hre a2
  unfold EvTo at hev
  obtain ⟨xv, hxv⟩ : ∃ xv, xv = evE now' was s.rests := ⟨_, rfl⟩
  rw [← hxv] at hev
  have hx0 : (xv == 0) = false := by rw [hxv]; simpa using HE.out
  have HG : Hid (RMem A w3 (RegM A k w3) P L (withS d i ⟨o1.2, x.inside⟩) g l ∧ RunV w3 rb bn bw m ns now' was ∧ FrP P bn w w3) := h3.out
  clear h3 a1 a2 a3 hre hxv HE
  go_wp2_with (refine hev.mono ?_; rintro e w4 ⟨rfl, h4⟩)
  go_ret
  obtain ⟨a1, a2, a3⟩ := HG.out
  have a4 := a1.vars (HS.out.up a3.size) (FrP.of_below (P := fun _ => False) h4.out) (fun _ _ h => h) (fun _ _ h => h)
  rw [withS_there HI.out.2.2.2.2.2] at a4
  exact ⟨rfl, a4, a2.below h4.out, a3.trans (FrP.of_below h4.out)⟩
 ·rw [ho] at hop
  unfold wP at hop
  have HE : Hid (evE now was s.rests = 0 ∧ allI ((OpsK k).go was) s.regions s.regions.length 0 (doS was s.during now) x.inside = some p ∧ wj = (opnW (overs (OpsK k) s.regions p.2) p.1 was askW s.ways o1.2).1 ∧ now' = p.1 ∧ d' = (⟨some i, d.was, d.sts.set i ⟨(opnW (overs (OpsK k) s.regions p.2) p.1 was askW s.ways o1.2).2, p.2⟩⟩ : RdF (Rd k))) := ⟨he, hall, e1, e2, e3⟩
  clear ho he hall e1 e2 e3
  go_enter Tryz.func68, Tryz.ntmps68
  go_wp2_with fail
  refine hop.mono ?_
  rintro e w3 ⟨rfl, h3⟩
  clear hop hc1
  obtain ⟨a1, a2, a3⟩ := h3.out
  obtain ⟨pr, c6, hre⟩ := (a1.st i s ⟨o1.2, x.inside⟩ HI.out.1 (withS_at _ HI.out.2.2.1)).re
  rw [← HI.out.2.2.2.2.1] at c6
  have hev := ueval_any HSR.out.1.re hre a2
  unfold EvTo at hev
  rw [HE.out.1] at hev
  have HG : Hid (RMem A w3 (RegM A k w3) P L (withS d i ⟨o1.2, x.inside⟩) g l ∧ RunV w3 rb bn bw m ns now was ∧ FrP P bn w w3) := h3.out
  clear h3 a1 a2 a3 hre
  go_wp2_with fail
  refine hev.mono ?_
  rintro e w4 ⟨rfl, h4⟩
  obtain ⟨a1, a2, a3⟩ := HG.out
  have a4 := a1.vars (HS.out.up a3.size) (FrP.of_below (P := fun _ => False) h4.out) (fun _ _ h => h) (fun _ _ h => h)
  have hf4 : FrP P bn w w4 := a3.trans (FrP.of_below h4.out)
  obtain ⟨vd, c4, hvd⟩ := (a4.st i s ⟨o1.2, x.inside⟩ HI.out.1 (withS_at _ HI.out.2.2.1)).du
  rw [← HI.out.2.2.2.2.1] at c4
  have hdo := do_any HSR.out.1.du hvd (a2.below h4.out) (HS.out.up hf4.size).chart HS.out.rn HS.out.wn
  obtain ⟨va, vn, vc, rfl⟩ := hvd.sl'
  have HG4 : Hid (RMem A w4 (RegM A k w4) P L (withS d i ⟨o1.2, x.inside⟩) g l ∧ FrP P bn w w4) := ⟨a4, hf4⟩
  clear hev h4 a1 a2 a3 a4 hf4 hvd HG c6
  go_wp2_with fail
  refine hdo.mono ?_
  rintro e w5 ⟨rfl, h5⟩
  obtain ⟨hv5, hf5⟩ := h5.out
  have hR5 := HG4.out.1.vars (HS.out.up HG4.out.2.size) hf5 (fun _ _ h => h) (fun _ _ h => h)
  have hfw5 : FrP P bn w w5 := HG4.out.2.trans (hf5.wide fun _ h => h.elim)
  obtain ⟨ai, ci, c10, hai⟩ := (hR5.st i s ⟨o1.2, x.inside⟩ HI.out.1 (withS_at _ HI.out.2.2.1)).iy
  rw [← HI.out.2.2.2.1] at c10 hai
  rw [← HI.out.2.2.2.2.1] at c10
  have HAI : Hid (0 < n → ai = some ⟨l.gI i, 0, none⟩) := fun hp => (hai hp).1
  have H3 : Hid (allI ((OpsK k).go was) s.regions (n - 0) 0 (doS was s.during now) x.inside = some p ∧ RMem A w5 (RegM A k w5) P L (withS d i ⟨o1.2, x.inside⟩) g l ∧ RunV w5 rb bn bw m ns (doS was s.during now) was ∧ FrP P bn w w5) := ⟨by rw [Nat.sub_zero, HI.out.2.2.2.1]; exact HE.out.2.1, hR5, hv5, hfw5⟩
  clear hdo h5 hv5 hf5 hR5 hfw5 hai HG4 c4
  go_wp2_with fail
  clear c10
  go_loopg [39] n (fun f i' wr => ∃ (j : Nat) (nj : Px.Env) (ins : List (Rd k)), f = n - j ∧ j ≤ n ∧ i' = .int .i64 (j : Int) ∧ Hid (allI ((OpsK k).go was) s.regions (n - j) j nj ins = some p ∧ RMem A wr (RegM A k wr) P L (withS d i ⟨o1.2, ins⟩) g l ∧ RunV wr rb bn bw m ns nj was ∧ FrP P bn w wr))
  case atStart => exact ⟨0, _, x.inside, by omega, by omega, rfl, H3.out⟩
  case round =>
   obtain ⟨j, nj, ins, rfl, hj, rfl, hr⟩ := hrel
   obtain ⟨hr1, hr2, hr3, hr4⟩ := hr.out
   have hm := hr2.st i s ⟨o1.2, ins⟩ HI.out.1 (withS_at _ HI.out.2.2.1)
   by_cases hlt : j < n
   ·obtain ⟨r, hrj⟩ : ∃ r, s.regions[j]? = some r := ⟨s.regions[j]'(by rw [← HI.out.2.2.2.1]; exact hlt), by rw [List.getElem?_eq_getElem]⟩
    rw [show n - j = n - (j + 1) + 1 by omega] at hr1
    obtain ⟨dj, qq, hd, hqq, hnx⟩ := allI_step hr1 hrj
    obtain ⟨cj, hRj⟩ := hm.im j r dj hrj hd
    have hix := ixG ai (l.gI i) n ci j hlt HAI.out
    have hcall := HIH.out hRj (HSR.out.2 r (List.mem_of_getElem? hrj)) ((HS.out.up hr4.size).sub fun b hb => hb.1) hr3 hqq
    unfold RegTo at hcall
    have HN : Hid (∀ w', RegM A k w' (fun b => P b ∧ l.role b = Role.inner i j) r qq.2 (l.gr i j) ∧ RunV w' rb bn bw m ns qq.1 was ∧ FrP (fun b => P b ∧ l.role b = Role.inner i j) bn wr w' → allI ((OpsK k).go was) s.regions (n - (j + 1)) (j + 1) qq.1 (ins.set j qq.2) = some p ∧ RMem A w' (RegM A k w') P L (withS d i ⟨o1.2, ins.set j qq.2⟩) g l ∧ RunV w' rb bn bw m ns qq.1 was ∧ FrP P bn w w') := fun w' ⟨a1, a2, a3⟩ => by
     have := hr2.inner (HS.out.up hr4.size) HI.out.1 (withS_at _ HI.out.2.2.1) hrj hd a3 a1
     rw [withS_withS] at this
     exact ⟨hnx, this, a2, hr4.trans (a3.wide fun b hb => hb.1)⟩
    clear hr hr1 hr2 hr3 hr4 hm hrj hd hqq hnx hRj
    go_wp2_with (refine hcall.mono ?_; rintro e w5 ⟨rfl, h5⟩)
    go_roundg (n - (j + 1))
    case measure => omega
    case rel => exact ⟨j + 1, qq.1, ins.set j qq.2, rfl, by omega, by go_num, HN.out w5 h5.out⟩
   ·obtain rfl : j = n := by omega
    rw [Nat.sub_self, allI] at hr1
    injection hr1 with hr1
    subst hr1
    have hop := open_at open_ok4 hr2 HSR.out.1 (HS.out.up hr4.size) hr3 HI.out.1 (withS_at _ HI.out.2.2.1)
    rw [withS_withS, ← HI.out.2.2.2.2.1] at hop
    simp only at hop
    obtain ⟨o2, ho2⟩ : ∃ o2, o2 = opnW (overs (OpsK k) s.regions ins) nj was askW s.ways o1.2 := ⟨_, rfl⟩
    have hE := HE.out.2.2
    simp only at hE
    rw [← ho2] at hop hE
    obtain ⟨rfl, rfl, rfl⟩ := hE
    have HF4 : Hid (FrP P bn w wr) := hr4
    obtain ⟨vo, hvo⟩ : ∃ vo : Option Addr, wP (l.gW i) o2.1 = .pointer vo := by cases o2.1 with | none => exact ⟨_, rfl⟩ | some _ => exact ⟨_, rfl⟩
    rw [hvo] at hop
    have HVO : Hid (wP (l.gW i) o2.1 = .pointer vo) := hvo
    clear hr hr2 hr3 hr4 hm ho2 hvo HE H3
    go_wp2_with (refine hop.mono ?_; rintro e w5 ⟨rfl, h5⟩)
    go_ret
    obtain ⟨a1, a2, a3⟩ := h5.out
    rw [withS_there HI.out.2.2.2.2.2] at a1
    exact ⟨by rw [HVO.out]; rfl, a1, a2, HF4.out.trans a3⟩
end
end Go.Proofs.YtpogmfliojcnjaaGreatDoor
