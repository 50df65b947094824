import Derived.Test.YtpogmfliojcnjaaGreatDoorQCs4
namespace Go.Proofs.YtpogmfliojcnjaaGreatDoor
open Go.RowKit Px
theorem ix30 (a b c : Value) (w : World) : (Instr.index 254 (.agg #[a, b, c]) (.int .i64 0)).run Tryz.prog w = .ok a w := by kernel_rfl
theorem ix31 (a b c : Value) (w : World) : (Instr.index 254 (.agg #[a, b, c]) (.int .i64 1)).run Tryz.prog w = .ok b w := by kernel_rfl
theorem ix32 (a b c : Value) (w : World) : (Instr.index 254 (.agg #[a, b, c]) (.int .i64 2)).run Tryz.prog w = .ok c w := by kernel_rfl
section
variable {ρ : Type} {ck pb mb nm gv : Nat} {adv : Option Addr} {capv : Nat} {vs : List Decl}
set_option maxRecDepth 100000 in
set_option maxHeartbeats 8000000 in
theorem ckstate_any {w : World} {n : Nat} (h : CkAt w ck pb mb nm gv adv capv vs n) {s : StF ρ} {ns : List Str} {A : Nat → Prop} {ad : Option Addr} {g N cap i pb2 mb2 nm2 : Nat} {ve vd vl : Value} {p ay ar : Option Addr} {gy capy capr : Nat} (hi : i < N) (ha : 0 < N → ad = some ⟨g, 0, none⟩)
    (hM : StM A w g i s ve vd vl p ay ar gy capy capr) (hN : NmStF s) (hp2 : w.heap[pb2]? = some (.cells #[.map (some mb2)] 96 (0, 0))) (hm2 : MapF w mb2 nm2 (fnd ns)) :
    Calls Tryz.prog 151 #[.pointer (some ⟨ck, 0, none⟩), .slice ad N cap, .int .i64 (i : Int), .func (.func 108) #[] #[.pointer (some ⟨pb2, 0, none⟩)]] w fun r w' => r = .returned (.int .i64 ((stateE vs ns i s : Nat) : Int)) ∧ Below w.heap.size w w' := by
 obtain ⟨n0, n1, n2, n3, n4, n5, n6⟩ := hN
 have hf := find_any (s := s.name) hp2 hm2 n0
 have hix := ixT ad g N cap i hi ha
 have c0 := hM.c0
 obtain ⟨I, hI⟩ : ∃ I, Hid (fndI ns s.name = I) := ⟨_, rfl⟩
 rw [hI.out] at hf
 obtain ⟨S, hS⟩ : ∃ S, sv s.name = S := ⟨_, rfl⟩
 rw [hS] at c0 hf
 have HM : Hid (∀ w', Below w.heap.size w w' → StM A w' g i s ve vd vl p ay ar gy capy capr) := fun w' hb => hM.below hb
 have HC : Hid (∀ w', Below w.heap.size w w' → CkAt w' ck pb mb nm gv adv capv vs n) := fun w' hb => h.below hb
 have HF2 : Hid (∀ w', Below w.heap.size w w' → w'.heap[pb2]? = some (.cells #[.map (some mb2)] 96 (0, 0)) ∧ MapF w' mb2 nm2 (fnd ns)) := fun w' hb => ⟨ck_block hb hp2, hm2.below hb⟩
 have HNN : Hid (NmSets s.enter ∧ NmSets s.during ∧ NmSets s.leave ∧ NmOk s.rests ∧ ∀ y ∈ s.ways, NmWay y) := ⟨n1, n2, n3, n4, n5⟩
 have c2 := hM.c2
 have c7 := hM.c7
 have c8 := hM.c8
 have c3 := hM.c3
 have c4 := hM.c4
 have c5 := hM.c5
 obtain ⟨xe, ye, ze, rfl⟩ := hM.he.sl'
 obtain ⟨xd, yd, zd, rfl⟩ := hM.hd.sl'
 obtain ⟨xl, yl, zl, rfl⟩ := hM.hl.sl'
 clear h hM hp2 hm2 hS n0 n1 n2 n3 n4 n5
 by_cases hlt : I < (i : Int)
 ·have HE : Hid (stateE vs ns i s = 9) := by unfold Hid stateE; rw [if_pos (by rw [hI.out]; exact hlt)]
  go_enter Tryz.func151, Tryz.ntmps151
  go_wp2_with (refine hf.mono ?_; rintro e w' ⟨rfl, rfl⟩)
  go_ret
  exact ⟨by rw [HE.out]; rfl, Below.refl _ _⟩
 ·obtain ⟨B1, hB1⟩ : ∃ B1, Hid ((s.last && (decide (0 < s.ways.length) || decide (0 < s.regions.length))) = B1) := ⟨_, rfl⟩
  have HE : Hid (stateE vs ns i s = if B1 then 6 else if setsE vs s.enter ≠ 0 then setsE vs s.enter else if setsE vs s.during ≠ 0 then setsE vs s.during else if setsE vs s.leave ≠ 0 then setsE vs s.leave else if strangeE (vnames vs) s.rests then 5 else waysE vs ns (decide (0 < s.regions.length)) s.ways) := by
   unfold Hid stateE; rw [if_neg (by rw [hI.out]; exact hlt)]; unfold aloneE; rw [hB1.out]
  go_enter Tryz.func151, Tryz.ntmps151
  go_upto_region 4 with (refine hf.mono ?_; rintro e w' ⟨rfl, hw'⟩; obtain rfl := hw'.symm)
  clear hf hlt
  go_cut [45] (fun s wx => Hid (s = .bool B1 ∧ wx = w))
  case first =>
   obtain ⟨la, hla⟩ : ∃ la, Hid (s.last = la) := ⟨_, rfl⟩
   rw [hla.out] at c2
   obtain ⟨NW, hNW⟩ : ∃ NW, Hid (s.ways.length = NW) := ⟨_, rfl⟩
   obtain ⟨NR, hNR⟩ : ∃ NR, Hid (s.regions.length = NR) := ⟨_, rfl⟩
   rw [hNW.out] at c7
   rw [hNR.out] at c8
   have hBB := hB1.out
   rw [hla.out, hNW.out, hNR.out] at hBB
   clear HE HM HC HF2 HNN
   cases la with
   | false =>
    have hBt : B1 = false := by rw [← hBB]; rfl
    subst hBt
    clear hBB
    go_wp2_with fail
    go_meet
    case rel => exact ⟨rfl, rfl⟩
   | true =>
    by_cases h1 : 0 < NW
    ·have hBt : B1 = true := by rw [← hBB]; simp [h1]
     subst hBt
     have h1' : (0 : Int) < (NW : Int) := by omega
     clear hBB
     go_wp2_with fail
     go_meet
     case rel => exact ⟨rfl, rfl⟩
    ·have h1' : ¬ (0 : Int) < (NW : Int) := by omega
     by_cases h2 : 0 < NR
     ·have hBt : B1 = true := by rw [← hBB]; simp [h2]
      subst hBt
      have h2' : (0 : Int) < (NR : Int) := by omega
      clear hBB
      go_wp2_with fail
      go_meet
      case rel => exact ⟨rfl, rfl⟩
     ·have hBt : B1 = false := by rw [← hBB]; simp [h1, h2]
      subst hBt
      have h2' : ¬ (0 : Int) < (NR : Int) := by omega
      clear hBB
      go_wp2_with fail
      go_meet
      case rel => exact ⟨rfl, rfl⟩
  case rest =>
   obtain ⟨hs, hw⟩ := hcut.out
   subst hs
   subst hw
   clear hcut c0 c2 c7 c8 hB1 hix
   cases B1 with
   | true =>
    rw [if_pos rfl] at HE
    go_wp2_with fail
    go_ret
    exact ⟨by rw [HE.out]; rfl, Below.refl _ _⟩
   | false =>
    rw [if_neg (by simp)] at HE
    go_upto_region 6 with fail
    obtain ⟨W0, hW0⟩ : ∃ W0, W0 = wc := ⟨_, rfl⟩
    subst hW0
    go_cut [58, 59] (fun s58 s59 wx => Hid (s58 = .agg #[.slice xe ye ze, .slice xd yd zd, .slice xl yl zl] ∧ s59 = .int .i64 0 ∧ Below W0.heap.size W0 wx))
    case first =>
     go_quiet (fail)
     go_wp2_with fail
     go_meet
     case rel => exact ⟨rfl, rfl, rfl, rfl, rfl, Nat.le_refl _, fun _ _ => rfl⟩
    case rest =>
     obtain ⟨h58, h59, hBw⟩ := hcut.out
     subst h58
     subst h59
     have HBW : Hid (Below W0.heap.size W0 wc) := hBw
     clear hcut c3 c4 c5 hBw
     go_wp2_with fail
     go_loopg [59] 3 (fun f i wr => ∃ k : Nat, f = 3 - k ∧ k ≤ 3 ∧ i = .int .i64 (k : Int) ∧ Hid (Below W0.heap.size W0 wr ∧ (0 < k → setsE vs s.enter = 0) ∧ (1 < k → setsE vs s.during = 0) ∧ (2 < k → setsE vs s.leave = 0)))
     case atStart => exact ⟨0, by omega, by omega, rfl, HBW.out, fun h => absurd h (by omega), fun h => absurd h (by omega), fun h => absurd h (by omega)⟩
     case round =>
      obtain ⟨k, rfl, hk, rfl, hr⟩ := hrel
      have hBr := hr.out.1
      have HBR : Hid (Below W0.heap.size W0 wr) := hBr
      have HZ : Hid ((0 < k → setsE vs s.enter = 0) ∧ (1 < k → setsE vs s.during = 0) ∧ (2 < k → setsE vs s.leave = 0)) := hr.out.2
      clear hr
      have hk4 : k = 0 ∨ k = 1 ∨ k = 2 ∨ k = 3 := by omega
      rcases hk4 with rfl | rfl | rfl | rfl
      ·rw [show ((0 : Nat) : Int) = 0 from rfl]
       have hx := ix30 (.slice xe ye ze) (.slice xd yd zd) (.slice xl yl zl)
       have hcall := cksets_any (HC.out wr hBr) (HM.out wr hBr).he HNN.out.1
       by_cases hz : setsE vs s.enter = 0
       ·have H0 : Hid (setsE vs s.enter = 0) := hz
        rw [hz] at hcall
        rw [show ((0 : Nat) : Int) = 0 from rfl] at hcall
        clear hz
        go_wp2_with (refine hcall.mono ?_; rintro e w' ⟨rfl, hw⟩)
        go_roundg (3 - 1)
        case measure => omega
        case rel => exact ⟨1, rfl, by omega, by go_num, ck_all HBR.out hw, fun _ => H0.out, fun h => absurd h (by omega), fun h => absurd h (by omega)⟩
       ·obtain ⟨M, hM⟩ : ∃ M, Hid (setsE vs s.enter = M) := ⟨_, rfl⟩
        rw [hM.out] at hcall
        have HX : Hid (setsE vs s.enter ≠ 0) := hz
        have hz1 : ¬ (M : Int) = 0 := by rw [hM.out] at hz; omega
        have hz2 : ((M : Int) == 0) = false := by simp; omega
        clear hz
        go_wp2_with (refine hcall.mono ?_; rintro e w' ⟨rfl, hw⟩)
        go_ret
        exact ⟨by rw [HE.out, if_pos HX.out, hM.out]; rfl, ck_all HBR.out hw⟩
      ·rw [show ((1 : Nat) : Int) = 1 from rfl]
       have hx := ix31 (.slice xe ye ze) (.slice xd yd zd) (.slice xl yl zl)
       have hcall := cksets_any (HC.out wr hBr) (HM.out wr hBr).hd HNN.out.2.1
       by_cases hz : setsE vs s.during = 0
       ·have H1 : Hid (setsE vs s.during = 0) := hz
        rw [hz] at hcall
        rw [show ((0 : Nat) : Int) = 0 from rfl] at hcall
        clear hz
        go_wp2_with (refine hcall.mono ?_; rintro e w' ⟨rfl, hw⟩)
        go_roundg (3 - 2)
        case measure => omega
        case rel => exact ⟨2, rfl, by omega, by go_num, ck_all HBR.out hw, fun h => HZ.out.1 (by omega), fun _ => H1.out, fun h => absurd h (by omega)⟩
       ·obtain ⟨M, hM⟩ : ∃ M, Hid (setsE vs s.during = M) := ⟨_, rfl⟩
        rw [hM.out] at hcall
        have HX : Hid (setsE vs s.during ≠ 0) := hz
        have hz1 : ¬ (M : Int) = 0 := by rw [hM.out] at hz; omega
        have hz2 : ((M : Int) == 0) = false := by simp; omega
        clear hz
        go_wp2_with (refine hcall.mono ?_; rintro e w' ⟨rfl, hw⟩)
        go_ret
        exact ⟨by rw [HE.out, if_neg (by rw [HZ.out.1 (by omega)]; simp), if_pos HX.out, hM.out]; rfl, ck_all HBR.out hw⟩
      ·rw [show ((2 : Nat) : Int) = 2 from rfl]
       have hx := ix32 (.slice xe ye ze) (.slice xd yd zd) (.slice xl yl zl)
       have hcall := cksets_any (HC.out wr hBr) (HM.out wr hBr).hl HNN.out.2.2.1
       by_cases hz : setsE vs s.leave = 0
       ·have H2 : Hid (setsE vs s.leave = 0) := hz
        rw [hz] at hcall
        rw [show ((0 : Nat) : Int) = 0 from rfl] at hcall
        clear hz
        go_wp2_with (refine hcall.mono ?_; rintro e w' ⟨rfl, hw⟩)
        go_roundg (3 - 3)
        case measure => omega
        case rel => exact ⟨3, rfl, by omega, by go_num, ck_all HBR.out hw, fun h => HZ.out.1 (by omega), fun h => HZ.out.2.1 (by omega), fun _ => H2.out⟩
       ·obtain ⟨M, hM⟩ : ∃ M, Hid (setsE vs s.leave = M) := ⟨_, rfl⟩
        rw [hM.out] at hcall
        have HX : Hid (setsE vs s.leave ≠ 0) := hz
        have hz1 : ¬ (M : Int) = 0 := by rw [hM.out] at hz; omega
        have hz2 : ((M : Int) == 0) = false := by simp; omega
        clear hz
        go_wp2_with (refine hcall.mono ?_; rintro e w' ⟨rfl, hw⟩)
        go_ret
        exact ⟨by rw [HE.out, if_neg (by rw [HZ.out.1 (by omega)]; simp), if_neg (by rw [HZ.out.2.1 (by omega)]; simp), if_pos HX.out, hM.out]; rfl, ck_all HBR.out hw⟩
      ·rw [show ((3 : Nat) : Int) = 3 from rfl]
       have HE2 : Hid (stateE vs ns i s = if strangeE (vnames vs) s.rests then 5 else waysE vs ns (decide (0 < s.regions.length)) s.ways) := by
        rw [Hid, HE.out, if_neg (by rw [HZ.out.1 (by omega)]; simp), if_neg (by rw [HZ.out.2.1 (by omega)]; simp), if_neg (by rw [HZ.out.2.2 (by omega)]; simp)]
       have c6 := (HM.out wr hBr).c6
       have hst := strange_any (HC.out wr hBr) (HM.out wr hBr).hp HNN.out.2.2.2.1
       obtain ⟨Z, hZ⟩ : ∃ Z, Hid (strangeE (vnames vs) s.rests = Z) := ⟨_, rfl⟩
       rw [hZ.out] at HE2 hst
       clear HZ HE
       cases Z with
       | true =>
        rw [if_pos rfl] at HE2
        go_wp2_with (refine hst.mono ?_; rintro e w' ⟨rfl, hw⟩)
        go_ret
        exact ⟨by rw [HE2.out]; rfl, ck_all HBR.out hw⟩
       | false =>
        rw [if_neg (by simp)] at HE2
        obtain ⟨NW, hNW⟩ : ∃ NW, Hid (s.ways.length = NW) := ⟨_, rfl⟩
        obtain ⟨NR, hNR⟩ : ∃ NR, Hid (s.regions.length = NR) := ⟨_, rfl⟩
        have HW : Hid (∀ w', Below W0.heap.size W0 w' → w'.cell? ⟨g, i * 9 + 7, none⟩ = some (.slice ay NW capy) ∧ w'.cell? ⟨g, i * 9 + 8, none⟩ = some (.slice ar NR capr) ∧ (0 < NW → ay = some ⟨gy, 0, none⟩) ∧ ∀ m y, s.ways[m]? = some y → ∃ p q, WayM A w' gy (m * 7) y p q) := fun w' hb => by
         have := HM.out w' hb
         rw [← hNW.out, ← hNR.out]
         exact ⟨this.c7, this.c8, fun hp => (this.hw.2.1 hp).1, this.hw.2.2⟩
        rw [hNR.out] at HE2
        have hNW6 : NW ≤ 1000000 := by rw [← hNW.out]; exact n6
        clear n6
        go_upto_region 15 with (refine hst.mono ?_; rintro e w' ⟨rfl, hw⟩)
        have HB2 : Hid (Below W0.heap.size W0 w') := ck_all HBR.out hw
        have d7 := (HW.out w' HB2.out).1
        clear hst c6 hw hBr HBR HM
        go_wp2_with fail
        clear d7
        have hR : (0 < NR ∧ (0 : Int) < (NR : Int)) ∨ (¬ 0 < NR ∧ ¬ (0 : Int) < (NR : Int)) := by omega
        rcases hR with ⟨hR, hR'⟩ | ⟨hR, hR'⟩
        all_goals
         obtain ⟨ins, hins⟩ : ∃ ins, decide (0 < NR) = ins := ⟨_, rfl⟩
         rw [hins] at HE2
         go_loopg [80] NW (fun f i wr => ∃ k : Nat, f = NW - k ∧ k ≤ NW ∧ i = .int .i64 (k : Int) ∧ Hid (Below W0.heap.size W0 wr ∧ ∀ j y, j < k → s.ways[j]? = some y → wayE vs ns ins y = 0))
         case atStart => exact ⟨0, by omega, by omega, rfl, HB2.out, fun j y hj => absurd hj (by omega)⟩
         case round =>
          obtain ⟨k, rfl, hk, rfl, hr⟩ := hrel
          by_cases hlt : k < NW
          ·obtain ⟨y, hyk⟩ : ∃ y, Hid (s.ways[k]? = some y) := ⟨s.ways[k]'(by rw [hNW.out]; exact hlt), by rw [Hid, List.getElem?_eq_getElem]⟩
           have hBr := hr.out.1
           have hBd : Below W0.heap.size W0 wr.drew := hBr.drew
           obtain ⟨d7, d8, hay, hys⟩ := HW.out wr hBr
           obtain ⟨-, -, -, hys'⟩ := HW.out wr.drew hBd
           obtain ⟨p', q', m0, m1, m2, m3, m4, m5, m6, m7, m8⟩ := hys' k y hyk.out
           have hcall := ckway_any (HC.out wr.drew hBd) ins m0 m1 m2 m3 m4 m5 m7 m8 (HNN.out.2.2.2.2 y (List.mem_of_getElem? hyk.out)) (HF2.out wr.drew hBd).1 (HF2.out wr.drew hBd).2
           have hixy := ixW ay gy NW capy k hlt hay
           have HBR : Hid (Below W0.heap.size W0 wr.drew) := hBd
           have HZ : Hid (∀ j y, j < k → s.ways[j]? = some y → wayE vs ns ins y = 0) := hr.out.2
           obtain ⟨M, hM⟩ : ∃ M, Hid (wayE vs ns ins y = M) := ⟨_, rfl⟩
           rw [hM.out] at hcall
           have hinv : ins = decide ((0 : Int) < (NR : Int)) := by rw [← hins]; simp
           first
           | (rw [decide_eq_true hR'] at hinv)
           | (rw [decide_eq_false hR'] at hinv)
           rw [hinv] at hcall
           clear hr hBr hBd hay hys hys' m0 m1 m2 m3 m4 m5 m6 m7 m8 hinv
           go_upto_region 18 with fail
           go_cut [14] (fun s14 wx => Hid (s14 = .int .i64 (M : Int) ∧ Below wr.drew.heap.size wr.drew wx))
           case first =>
            go_region_with (go_at_call 184; refine hcall.mono ?_; rintro e w' ⟨rfl, hw⟩)
            all_goals
             go_wp2_with fail
             go_meet
             case rel => exact ⟨rfl, hw⟩
           case rest =>
            obtain ⟨h14, hw⟩ := hcut.out
            subst h14
            have HB3 : Hid (Below W0.heap.size W0 wc) := ck_all HBR.out hw
            clear hcut hw hcall d7 d8 hixy
            by_cases hz : M = 0
            ·subst hz
             rw [show ((0 : Nat) : Int) = 0 from rfl]
             go_wp2_with fail
             go_roundg (NW - (k + 1))
             case measure => omega
             case rel =>
              refine ⟨k + 1, rfl, by omega, by go_num, HB3.out, fun j y' hj hy' => ?_⟩
              by_cases e : j = k
              ·subst e
               have := hyk.out
               rw [hy'] at this
               injection this with this
               subst this
               exact hM.out
              ·exact HZ.out j y' (by omega) hy'
            ·have hz1 : ¬ (M : Int) = 0 := by omega
             have hz2 : ((M : Int) == 0) = false := by simp; omega
             have HX : Hid (waysE vs ns ins s.ways = M) := by rw [Hid, waysE_at HZ.out hyk.out (by rw [hM.out]; exact hz), hM.out]
             go_wp2_with fail
             go_ret
             exact ⟨by rw [HE2.out, HX.out]; rfl, HB3.out⟩
          ·obtain rfl : k = NW := by omega
           have HX : Hid (waysE vs ns ins s.ways = 0) := waysE_all (by rw [hNW.out]; exact hr.out.2)
           have HB3 : Hid (Below W0.heap.size W0 wr) := hr.out.1
           clear hr
           go_wp2_with fail
           go_ret
           exact ⟨by rw [HE2.out, HX.out]; rfl, HB3.out⟩
end
end Go.Proofs.YtpogmfliojcnjaaGreatDoor
namespace Go.Proofs.YtpogmfliojcnjaaGreatDoor
open Go.RowKit Px
theorem StM.sts {ρ : Type} {A : Nat → Prop} {w : World} {g : Nat} {l : List (StF ρ)} (hg : 0 < l.length → g < w.heap.size) (h : ∀ (i : Nat) (s : StF ρ), l[i]? = some s → ∃ ve vd vl p ay ar gy capy capr, StM A w g i s ve vd vl p ay ar gy capy capr) (hN : ∀ s ∈ l, NmStF s) : StsAt w g l := by
 intro i s hi
 obtain ⟨ve, vd, vl, p, ay, ar, gy, capy, capr, hM⟩ := h i s hi
 have hs := hN s (List.mem_of_getElem? hi)
 refine ⟨hg (by have := (List.getElem?_eq_some_iff.1 hi).1; omega), hM.c0, hM.c1, hs.1, hs.2.2.2.2.2.2, ay, gy, capy, hM.c7, hM.hw.2.1, fun m y hm => ?_⟩
 obtain ⟨p', q', m0, m1, m2, m3, m4, m5, m6, m7, m8⟩ := hM.hw.2.2 m y hm
 obtain ⟨a, b, c, rfl⟩ := m8.sl'
 exact ⟨p', _, m0, m1, m2, m3, m4, m5, m6, ⟨a, b, c, rfl⟩, (hs.2.2.2.2.2.1 y (List.mem_of_getElem? hm)).1⟩
theorem firsts_take {ρ : Type} {l : List (StF ρ)} {k : Nat} {s : StF ρ} (h : l[k]? = some s) : firsts (l.take (k + 1)) = firsts (l.take k) + if s.first then 1 else 0 := by
 unfold firsts
 rw [List.take_add_one, h]
 rw [List.filter_append, List.length_append]
 cases hf : s.first <;> simp [hf]
theorem firsts_le {ρ : Type} (l : List (StF ρ)) : firsts l ≤ l.length := List.length_filter_le _ _
set_option maxRecDepth 100000 in
set_option maxHeartbeats 4000000 in
theorem whole_any {ρ : Type} {w : World} {ad : Option Addr} {g n cap : Nat} {l : List (StF ρ)} (hn : Hid (n = l.length)) (hm : n ≤ 1000000) (ha : 0 < n → ad = some ⟨g, 0, none⟩) (hS : StsAt w g l) :
    Calls Tryz.prog 152 #[.slice ad n cap] w fun e w' => e = .returned (.int .i64 ((wholeE l : Nat) : Int)) ∧ Below w.heap.size w w' := by
 have hcall := order_at (cap := cap) (l := l) (oo := orderG (graph l)) rfl hn hm ha hS
 have HS : Hid (StsAt w g l) := hS
 have HA : Hid (0 < n → ad = some ⟨g, 0, none⟩) := ha
 clear hS ha
 go_enter Tryz.func152, Tryz.ntmps152
 go_wp2_with fail
 go_loopg [3, 9] n (fun f c i wr => ∃ k : Nat, f = n - k ∧ k ≤ n ∧ c = .int .i64 ((firsts (l.take k) : Nat) : Int) ∧ i = .int .i64 (k : Int) ∧ Hid (wr = w))
 case atStart => exact ⟨0, by omega, by omega, rfl, rfl, rfl⟩
 case round =>
  obtain ⟨k, rfl, hk, rfl, rfl, hw⟩ := hrel
  obtain rfl := hw.out
  clear hw
  by_cases hlt : k < n
  ·obtain ⟨s, hs⟩ : ∃ s, Hid (l[k]? = some s) := ⟨l[k]'(by rw [← hn.out]; exact hlt), by rw [Hid, List.getElem?_eq_getElem]⟩
   obtain ⟨-, -, c1, -⟩ := HS.out k s hs.out
   have hix := ixT ad g n cap k hlt HA.out
   have hF : firsts (l.take k) ≤ 1000000 := by
    have := firsts_le (l.take k)
    have h2 : (l.take k).length ≤ k := by rw [List.length_take]; omega
    omega
   have HT := firsts_take hs.out
   obtain ⟨F, hFF⟩ : ∃ F, Hid (firsts (l.take k) = F) := ⟨_, rfl⟩
   rw [hFF.out] at HT hF ⊢
   obtain ⟨b, hb⟩ : ∃ b, Hid (s.first = b) := ⟨_, rfl⟩
   rw [hb.out] at c1 HT
   have HT2 : Hid _ := HT
   clear HT
   cases b with
   | false =>
    go_wp2_with fail
    go_roundg (n - (k + 1))
    case measure => omega
    case rel => exact ⟨k + 1, rfl, by omega, by rw [HT2.out]; rfl, by go_num, rfl⟩
   | true =>
    go_wp2_with fail
    go_roundg (n - (k + 1))
    case measure => omega
    case rel => exact ⟨k + 1, rfl, by omega, by rw [HT2.out]; go_num, by go_num, rfl⟩
  ·obtain rfl : k = n := by omega
   rw [show l.take k = l by rw [hn.out]; exact List.take_length]
   obtain ⟨F, hFF⟩ : ∃ F, Hid (firsts l = F) := ⟨_, rfl⟩
   have HE : Hid (wholeE l = if F = 0 then 8 else if 1 < F then 12 else if (orderG (graph l)).isNone then 11 else 0) := by unfold Hid wholeE; rw [hFF.out]
   rw [hFF.out]
   by_cases h0 : F = 0
   ·subst h0
    rw [if_pos rfl] at HE
    rw [show ((0 : Nat) : Int) = 0 from rfl]
    go_wp2_with fail
    go_ret
    exact ⟨by rw [HE.out]; rfl, Below.refl _ _⟩
   ·rw [if_neg h0] at HE
    have h1 : ¬ (F : Int) = 0 := by omega
    have h2 : ((F : Int) == 0) = false := by simp; omega
    by_cases h3 : 1 < F
    ·rw [if_pos h3] at HE
     have h4 : (1 : Int) < (F : Int) := by omega
     go_wp2_with fail
     go_ret
     exact ⟨by rw [HE.out]; rfl, Below.refl _ _⟩
    ·rw [if_neg h3] at HE
     have h4 : ¬ (1 : Int) < (F : Int) := by omega
     obtain ⟨oo, hoo⟩ : ∃ oo, Hid (orderG (graph l) = oo) := ⟨_, rfl⟩
     rw [hoo.out] at hcall HE
     unfold OrdOut at hcall
     cases oo with
     | none =>
      have hcall : Calls Tryz.prog 185 #[.slice ad k cap] wr fun e w' => e = .returned (.tuple #[.slice none 0 0, .bool false]) ∧ Below wr.heap.size wr w' := hcall.mono fun e w' ⟨hb, ho⟩ => by
       rcases ho with ⟨_, he⟩ | ⟨_, _, he, _⟩
       ·exact ⟨he, hb⟩
       ·simp at he
      go_wp2_with (refine hcall.mono ?_; rintro e w' ⟨rfl, hb⟩)
      go_ret
      exact ⟨by rw [HE.out]; rfl, hb⟩
     | some o =>
      have hcall : Calls Tryz.prog 185 #[.slice ad k cap] wr fun e w' => ∃ v, e = .returned (.tuple #[v, .bool true]) ∧ Below wr.heap.size wr w' := hcall.mono fun e w' ⟨hb, ho⟩ => by
       rcases ho with ⟨he, _⟩ | ⟨_, v, _, he, _⟩
       ·simp at he
       ·exact ⟨v, he, hb⟩
      go_wp2_with (refine hcall.mono ?_; rintro e w' ⟨v, rfl, hb⟩)
      go_ret
      exact ⟨by rw [HE.out]; rfl, hb⟩
end Go.Proofs.YtpogmfliojcnjaaGreatDoor
namespace Go.Proofs.YtpogmfliojcnjaaGreatDoor
open Go.RowKit Px
def sumC {α : Type} (f : α → Nat) : List α → Nat
 | [] => 0
 | a :: r => f a + sumC f r
theorem sumC_drop {α : Type} (f : α → Nat) {l : List α} {k : Nat} {a : α} (h : l[k]? = some a) : sumC f (l.drop k) = f a + sumC f (l.drop (k + 1)) := by
 obtain ⟨hk, rfl⟩ := List.getElem?_eq_some_iff.1 h
 rw [List.drop_eq_getElem_cons hk, sumC]
theorem drop_cons {α : Type} {l : List α} {k : Nat} {a : α} (h : l[k]? = some a) : l.drop k = a :: l.drop (k + 1) := by
 obtain ⟨hk, rfl⟩ := List.getElem?_eq_some_iff.1 h
 exact List.drop_eq_getElem_cons hk
section
variable {ρ : Type} {ck pb mb nm gv : Nat} {adv : Option Addr} {capv : Nat} {vs : List Decl}
theorem CkAt.fr {w w' : World} {n n' : Nat} (h : CkAt w ck pb mb nm gv adv capv vs n) (hF : Fr w.heap.size [ck] w w') (hb : w'.heap[ck]? = some (.cells #[.slice adv vs.length capv, .func (.func 108) #[] #[.pointer (some ⟨pb, 0, none⟩)], .int .i64 (n' : Int)] 127 (0, 0))) : CkAt w' ck pb mb nm gv adv capv vs n' := by
 obtain ⟨e1, e2, e3⟩ := h.ne
 refine ⟨hb, by rw [hF.block pb (lt_of_block h.hpb) (by simpa using Ne.symm e1)]; exact h.hpb, h.hmb.keep (hF.block mb h.hmb.lt (by simpa using Ne.symm e2)), fun hp => ⟨(h.hv hp).1, Nat.lt_of_lt_of_le (h.hv hp).2 hF.size⟩, fun i d hi => ?_, h.ne⟩
 have hp : 0 < vs.length := by have := (List.getElem?_eq_some_iff.1 hi).1; omega
 rw [hF.cell (p := ⟨gv, i * 3, none⟩) (h.hv hp).2 (by simpa using Ne.symm (e3 hp))]
 exact h.hk i d hi
def RegOut (ck pb mb nm gv : Nat) (adv : Option Addr) (capv : Nat) (vs : List Decl) (res : Res) (w : World) (e : Ending) (w' : World) : Prop :=
 Fr w.heap.size [ck] w w' ∧ ((∃ m, res = .ok m ∧ e = .returned .nilIface ∧ CkAt w' ck pb mb nm gv adv capv vs m) ∨ ∃ c p g, res = .error (c, p) ∧ e = .returned (.iface 110 (.pointer (some ⟨g, 0, none⟩))) ∧ w'.heap[g]? = some (.cells #[.int .i64 ((c : Nat) : Int), .int .i64 ((p : Nat) : Int)] 125 (0, 0)) ∧ w.heap.size ≤ g)
def RegMem (A : Nat → Prop) (w : World) (ad : Option Addr) (N : Nat) (l : List (StF ρ)) (Q : World → StF ρ → Value → Prop) : Prop := ∃ g, (0 < N → ad = some ⟨g, 0, none⟩ ∧ g < w.heap.size) ∧ ∀ (i : Nat) (s : StF ρ), l[i]? = some s → ∃ ve vd vl p ay ar gy capy capr, StM A w g i s ve vd vl p ay ar gy capy capr ∧ Q w s (.slice ar s.regions.length capr)
theorem RegMem.sts {A : Nat → Prop} {w : World} {ad : Option Addr} {N : Nat} {l : List (StF ρ)} {Q : World → StF ρ → Value → Prop} (h : RegMem A w ad N l Q) (hn : N = l.length) (hN : ∀ s ∈ l, NmStF s) : ∃ g, (0 < N → ad = some ⟨g, 0, none⟩) ∧ StsAt w g l := by
 obtain ⟨g, h1, h2⟩ := h
 refine ⟨g, fun hp => (h1 hp).1, StM.sts (A := A) (fun hp => (h1 (by omega)).2) (fun i s hi => ?_) hN⟩
 obtain ⟨ve, vd, vl, p, ay, ar, gy, capy, capr, hM, _⟩ := h2 i s hi
 exact ⟨ve, vd, vl, p, ay, ar, gy, capy, capr, hM⟩
def Inner (ck pb mb nm gv : Nat) (adv : Option Addr) (capv : Nat) (vs : List Decl) (R : List ρ → Nat → Res) (w : World) (s : StF ρ) (v : Value) (n : Nat) : Prop :=
 Calls Tryz.prog 63 #[.pointer (some ⟨ck, 0, none⟩), v] w (RegOut ck pb mb nm gv adv capv vs (regsE R s.regions n) w)
set_option maxRecDepth 100000 in
set_option maxHeartbeats 8000000 in
theorem region_at {w : World} {n : Nat} (h : CkAt w ck pb mb nm gv adv capv vs n) {A : Nat → Prop} {ad : Option Addr} {N cap : Nat} {l : List (StF ρ)} {R : List ρ → Nat → Res} {Q : World → StF ρ → Value → Prop} (cs : StF ρ → Nat) (hn : Hid (N = l.length))
    (hmem : Hid (∀ w', Fr w.heap.size [ck] w w' → RegMem A w' ad N l Q)) (hN : Hid (∀ s ∈ l, NmStF s)) (hcs : Hid (∀ s ∈ l, ∀ n m, regsE R s.regions n = .ok m → m = n + cs s)) (hbd : Hid (n + sumC (fun s => 1 + cs s) l ≤ 1000000)) (hNm : N ≤ 1000000)
    (hin : Hid (∀ w' s v m, s ∈ l → Fr w.heap.size [ck] w w' → Q w' s v → CkAt w' ck pb mb nm gv adv capv vs m → m + cs s ≤ 1000000 → Inner ck pb mb nm gv adv capv vs R w' s v m)) :
    Calls Tryz.prog 109 #[.pointer (some ⟨ck, 0, none⟩), .slice ad N cap] w (RegOut ck pb mb nm gv adv capv vs (regF vs R l n) w) := by
 obtain ⟨g0, hg0, hS0⟩ := (hmem.out w (Fr.refl _ _ _)).sts hn.out hN.out
 have hNn : NamesAt w g0 N (snames l) := by rw [hn.out]; exact hS0.names
 have hfd := stateFinder_any (cap := cap) hg0 hNm hNn
 have HC : Hid (CkAt w ck pb mb nm gv adv capv vs n) := h
 have c2 := cell_row h.box 2 (u := .int .i64 (n : Int)) rfl
 clear h hg0 hS0 hNn
 go_enter Tryz.func109, Tryz.ntmps109
 go_upto_region 3 with (refine hfd.mono ?_; rintro e w1 ⟨f, rfl, ⟨pb2, mb2, nm2, rfl, hp2, hm2⟩, hb⟩; have HF : Hid (w1.heap[pb2]? = some (.cells #[.map (some mb2)] 96 (0, 0)) ∧ MapF w1 mb2 nm2 (fnd (snames l)) ∧ Below w.heap.size w w1) := ⟨hp2, hm2, hb⟩; clear hp2 hm2 hb)
 clear hfd c2
 have HP : Hid (pb2 ≠ ck ∧ mb2 ≠ ck) := by
  have hbx := ck_block HF.out.2.2 HC.out.box
  constructor
  ·intro e
   have := HF.out.1
   rw [e, hbx] at this
   simp at this
  ·intro e
   obtain ⟨D, ⟨es, c, h3, _⟩, _⟩ := HF.out.2.1
   rw [e, hbx] at h3
   simp at h3
 go_wp2_with fail
 go_loopg [20] N (fun f i wr => ∃ k : Nat, f = N - k ∧ k ≤ N ∧ i = .int .i64 (k : Int) ∧ Hid (∃ m, CkAt wr ck pb mb nm gv adv capv vs m ∧ Fr w.heap.size [ck] w wr ∧ statesE vs R (snames l) l 0 n = statesE vs R (snames l) (l.drop k) k m ∧ m + sumC (fun s => 1 + cs s) (l.drop k) ≤ 1000000 ∧ wr.heap[pb2]? = some (.cells #[.map (some mb2)] 96 (0, 0)) ∧ MapF wr mb2 nm2 (fnd (snames l))))
 case atStart => exact ⟨0, by omega, by omega, rfl, n, HC.out.below HF.out.2.2, Fr.of_below HF.out.2.2 _, rfl, hbd.out, HF.out.1, HF.out.2.1⟩
 case round =>
  obtain ⟨k, rfl, hk, rfl, hr⟩ := hrel
  obtain ⟨m, hC, hFr, hst, hsum, hp2, hm2⟩ := hr.out
  clear hr
  by_cases hlt : k < N
  ·obtain ⟨s, hs⟩ : ∃ s, l[k]? = some s := ⟨l[k]'(by rw [← hn.out]; exact hlt), by rw [List.getElem?_eq_getElem]⟩
   have hsm := List.mem_of_getElem? hs
   rw [sumC_drop _ hs] at hsum
   rw [drop_cons hs, statesE] at hst
   have d2 := cell_row hC.box 2 (u := .int .i64 (m : Int)) rfl
   have z2 := ck_frozen hC.box 2
   have hwr : IntKind.i64.wrap ((m : Int) + 1) = (m : Int) + 1 := by rw [IntKind.wrap_i64]; omega
   obtain ⟨wa, hwa⟩ : ∃ wa, wa = wr.setCell ⟨ck, 2, none⟩ (.int .i64 ((m : Int) + 1)) := ⟨_, rfl⟩
   have hFa : Fr wr.heap.size [ck] wr wa := by rw [hwa]; exact (Fr.refl _ _ _).setCell (.inr (by simp)) _
   have hCa : CkAt wa ck pb mb nm gv adv capv vs (m + 1) := hC.fr hFa (by
    rw [hwa]
    exact ck_set (l := [.slice adv vs.length capv, .func (.func 108) #[] #[.pointer (some ⟨pb, 0, none⟩)], .int .i64 (m : Int)]) hC.box 2 _)
   have hFwa : Fr w.heap.size [ck] w wa := fr_on' hFr hFa
   obtain ⟨g, hg1, hg2⟩ := hmem.out wa hFwa
   obtain ⟨ve, vd, vl, p, ay, ar, gy, capy, capr, hM, -⟩ := hg2 k s hs
   have hp2a : wa.heap[pb2]? = some (.cells #[.map (some mb2)] 96 (0, 0)) := by rw [hFa.block pb2 (lt_of_block hp2) (by simpa using HP.out.1)]; exact hp2
   have hm2a : MapF wa mb2 nm2 (fnd (snames l)) := hm2.keep (hFa.block mb2 hm2.lt (by simpa using HP.out.2))
   have hcall := ckstate_any (cap := cap) hCa hlt (fun h => (hg1 h).1) hM (hN.out s hsm) hp2a hm2a
   obtain ⟨E, hE⟩ : ∃ E, Hid (stateE vs (snames l) k s = E) := ⟨_, rfl⟩
   rw [hE.out] at hcall hst
   have HR : Hid (statesE vs R (snames l) l 0 n = _) := hst
   have HA : Hid (CkAt wa ck pb mb nm gv adv capv vs (m + 1) ∧ Fr w.heap.size [ck] w wa ∧ wa.heap[pb2]? = some (.cells #[.map (some mb2)] 96 (0, 0)) ∧ MapF wa mb2 nm2 (fnd (snames l))) := ⟨hCa, hFwa, hp2a, hm2a⟩
   have HSU : Hid (m + (1 + cs s + sumC (fun s => 1 + cs s) (l.drop (k + 1))) ≤ 1000000) := hsum
   have HSM : Hid (l[k]? = some s) := hs
   rw [hwa] at hcall
   clear hC hFr hst hsum hp2 hm2 hs hsm hFa hCa hFwa hg1 hg2 hM hp2a hm2a
   by_cases hE0 : E = 0
   ·subst hE0
    rw [if_neg (by simp)] at HR
    rw [show ((0 : Nat) : Int) = 0 from rfl] at hcall
    rw [← hwa] at hcall
    have HIN : Hid (∀ w', Below wa.heap.size wa w' → w'.heap[pb2]? = some (.cells #[.map (some mb2)] 96 (0, 0)) ∧ MapF w' mb2 nm2 (fnd (snames l)) ∧ Fr w.heap.size [ck] w w' ∧ ∃ g ar capr, (0 < N → ad = some ⟨g, 0, none⟩) ∧ w'.cell? ⟨g, k * 9 + 8, none⟩ = some (.slice ar s.regions.length capr) ∧ Inner ck pb mb nm gv adv capv vs R w' s (.slice ar s.regions.length capr) (m + 1)) := fun w' hb => by
     have hF' : Fr w.heap.size [ck] w w' := fr_on' HA.out.2.1 (Fr.of_below hb _)
     obtain ⟨g, hg1, hg2⟩ := hmem.out w' hF'
     obtain ⟨ve, vd, vl, p, ay, ar, gy, capy, capr, hM, hQ⟩ := hg2 k s HSM.out
     exact ⟨ck_block hb HA.out.2.2.1, HA.out.2.2.2.below hb, hF', g, ar, capr, fun h => (hg1 h).1, hM.c8, hin.out w' s _ (m + 1) (List.mem_of_getElem? HSM.out) hF' hQ (HA.out.1.below hb) (by have := HSU.out; omega)⟩
    rw [hwa] at hcall
    cases hrs : regsE R s.regions (m + 1) with
    | error x =>
     obtain ⟨c, pl⟩ := x
     rw [hrs] at HR
     have HRE : Hid (regF vs R l n = .error (c, pl)) := by unfold Hid regF; rw [HR.out]
     go_upto_region 11 with (go_at_call 151; refine hcall.mono ?_; rintro e w' ⟨rfl, hw⟩; rw [← hwa] at hw; obtain ⟨-, -, hF', g, ar, capr, hgg, c8, hI⟩ := HIN.out w' hw; unfold Inner at hI; rw [hrs] at hI; have HI : Hid (Fr w.heap.size [ck] w w') := hF'; have hix := ixT ad g N cap k hlt hgg; clear hw hF' hcall)
     have hI2 : Calls Tryz.prog 63 #[.pointer (some ⟨ck, 0, none⟩), .slice ar s.regions.length capr] w' fun e w'' => ∃ g, e = .returned (.iface 110 (.pointer (some ⟨g, 0, none⟩))) ∧ Hid (w''.heap[g]? = some (.cells #[.int .i64 ((c : Nat) : Int), .int .i64 ((pl : Nat) : Int)] 125 (0, 0)) ∧ w'.heap.size ≤ g ∧ Fr w'.heap.size [ck] w' w'') := hI.mono fun e w'' ⟨hF, ho⟩ => by
      rcases ho with ⟨_, he, _⟩ | ⟨c', p', g', he, h1, h2, h3⟩
      ·simp at he
      ·injection he with he
       injection he with e1 e2
       subst e1; subst e2
       exact ⟨g', h1, h2, h3, hF⟩
     clear hI
     go_wp2_with (refine hI2.mono ?_; rintro e w'' ⟨ge, rfl, hge⟩)
     go_ret
     refine ⟨fr_on' HI.out hge.out.2.2, .inr ⟨c, pl, ge, HRE.out, rfl, hge.out.1, Nat.le_trans HI.out.size hge.out.2.1⟩⟩
    | ok m2 =>
     rw [hrs] at HR
     have hm2 := hcs.out s (List.mem_of_getElem? HSM.out) _ _ hrs
     go_upto_region 11 with (go_at_call 151; refine hcall.mono ?_; rintro e w' ⟨rfl, hw⟩; rw [← hwa] at hw; obtain ⟨hpw, hmw, hF', g, ar, capr, hgg, c8, hI⟩ := HIN.out w' hw; unfold Inner at hI; rw [hrs] at hI; have HI : Hid (Fr w.heap.size [ck] w w' ∧ w'.heap[pb2]? = some (.cells #[.map (some mb2)] 96 (0, 0)) ∧ MapF w' mb2 nm2 (fnd (snames l))) := ⟨hF', hpw, hmw⟩; have hix := ixT ad g N cap k hlt hgg; clear hw hF' hcall hpw hmw)
     have hI2 : Calls Tryz.prog 63 #[.pointer (some ⟨ck, 0, none⟩), .slice ar s.regions.length capr] w' fun e w'' => e = .returned .nilIface ∧ Hid (CkAt w'' ck pb mb nm gv adv capv vs m2 ∧ Fr w'.heap.size [ck] w' w'') := hI.mono fun e w'' ⟨hF, ho⟩ => by
      rcases ho with ⟨m', he, h1, h2⟩ | ⟨_, _, _, he, _⟩
      ·injection he with he
       subst he
       exact ⟨h1, h2, hF⟩
      ·simp at he
     clear hI
     go_wp2_with (refine hI2.mono ?_; rintro e w'' ⟨rfl, hge⟩)
     go_roundg (N - (k + 1))
     case measure => omega
     case rel =>
      refine ⟨k + 1, rfl, by omega, by go_num, m2, hge.out.1, fr_on' HI.out.1 hge.out.2, HR.out, by have := HSU.out; omega, ?_, ?_⟩
      ·rw [hge.out.2.block pb2 (lt_of_block HI.out.2.1) (by simpa using HP.out.1)]; exact HI.out.2.1
      ·exact HI.out.2.2.keep (hge.out.2.block mb2 HI.out.2.2.lt (by simpa using HP.out.2))
   ·rw [if_pos hE0] at HR
    have HRE : Hid (regF vs R l n = .error (E, m)) := by unfold Hid regF; rw [HR.out]
    have h1 : ¬ (E : Int) = 0 := by omega
    have h2 : ((E : Int) == 0) = false := by simp; omega
    go_wp2_with (refine hcall.mono ?_; rintro e w' ⟨rfl, hw⟩; rw [← hwa] at hw; have HW : Hid (Below wa.heap.size wa w') := hw; clear hw)
    go_ret
    refine ⟨fr_on' (fr_on' HA.out.2.1 (Fr.of_below HW.out _)) (Fr.of_below (ck_grown _ _) _), .inr ⟨E, m, _, HRE.out, rfl, ck_new _ _, ?_⟩⟩
    exact Nat.le_trans HA.out.2.1.size HW.out.size
  ·obtain rfl : k = N := by omega
   rw [show l.drop k = [] by rw [hn.out]; exact List.drop_length, statesE] at hst
   obtain ⟨g, hg, hS⟩ := (hmem.out wr hFr).sts hn.out hN.out
   have hcall := whole_any (cap := cap) hn hNm hg hS
   obtain ⟨E, hE⟩ : ∃ E, Hid (wholeE l = E) := ⟨_, rfl⟩
   rw [hE.out] at hcall
   have HR : Hid (regF vs R l n = if E ≠ 0 then .error (E, n) else .ok m) := by unfold Hid regF; rw [hst, hE.out]
   have HA : Hid (CkAt wr ck pb mb nm gv adv capv vs m ∧ Fr w.heap.size [ck] w wr) := ⟨hC, hFr⟩
   clear hC hFr hst hsum hp2 hm2 hg hS
   by_cases hE0 : E = 0
   ·subst hE0
    rw [if_neg (by simp)] at HR
    rw [show ((0 : Nat) : Int) = 0 from rfl] at hcall
    go_wp2_with (refine hcall.mono ?_; rintro e w' ⟨rfl, hw⟩)
    go_ret
    exact ⟨fr_on' HA.out.2 (Fr.of_below hw _), .inl ⟨m, HR.out, rfl, HA.out.1.below hw⟩⟩
   ·rw [if_pos hE0] at HR
    have h1 : ¬ (E : Int) = 0 := by omega
    have h2 : ((E : Int) == 0) = false := by simp; omega
    go_wp2_with (refine hcall.mono ?_; rintro e w' ⟨rfl, hw⟩; have HW : Hid (Below wr.heap.size wr w') := hw; clear hw)
    go_ret
    refine ⟨fr_on' (fr_on' HA.out.2 (Fr.of_below HW.out _)) (Fr.of_below (ck_grown _ _) _), .inr ⟨E, n, _, HR.out, rfl, ck_new _ _, ?_⟩⟩
    exact Nat.le_trans HA.out.2.size HW.out.size
end
end Go.Proofs.YtpogmfliojcnjaaGreatDoor
