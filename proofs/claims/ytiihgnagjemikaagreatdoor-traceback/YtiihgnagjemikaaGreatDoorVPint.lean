/- The program's checker: a state. -/
import Derived.Test.YtiihgnagjemikaaGreatDoorVUc
import Derived.Shelf.LaysC
import Derived.Shelf.Strconv.ParseIntPublic10
import Derived.Test.YtiihgnagjemikaaGreatDoorProg
namespace Go.Proofs.YtiihgnagjemikaaGreatDoor
open Go.RowKit Px

theorem ix30 (a b c : Value) (w : World) : (Instr.index 195 (.agg #[a, b, c]) (.int .i64 0)).run Tryz.prog w = .ok a w := by kernel_rfl
theorem ix31 (a b c : Value) (w : World) : (Instr.index 195 (.agg #[a, b, c]) (.int .i64 1)).run Tryz.prog w = .ok b w := by kernel_rfl
theorem ix32 (a b c : Value) (w : World) : (Instr.index 195 (.agg #[a, b, c]) (.int .i64 2)).run Tryz.prog w = .ok c w := by kernel_rfl
section
variable {ρ : Type} {ck pb mb nm gv : Nat} {adv : Option Addr} {capv : Nat} {vs : List Decl}
set_option maxRecDepth 100000 in
set_option maxHeartbeats 8000000 in
theorem ckstate_any {w : World} {n : Nat} (h : CkAt w ck pb mb nm gv adv capv vs n) {s : StF ρ} {ns : List Str} {A : Nat → Prop} {ad : Option Addr} {g N cap i pb2 mb2 nm2 : Nat} {ve vd vl : Value} {p ay ar : Option Addr} {gy capy capr : Nat} (hi : i < N) (ha : 0 < N → ad = some ⟨g, 0, none⟩)
    (hM : StM A w g i s ve vd vl p ay ar gy capy capr) (hN : NmStF s) (hp2 : w.heap[pb2]? = some (.cells #[.map (some mb2)] 136 (0, 0))) (hm2 : MapF w mb2 nm2 (fnd ns)) :
    Calls Tryz.prog 98 #[.pointer (some ⟨ck, 0, none⟩), .slice ad N cap, .int .i64 (i : Int), .func (.func 68) #[] #[.pointer (some ⟨pb2, 0, none⟩)]] w fun r w' => r = .returned (.int .i64 ((stateE vs ns i s : Nat) : Int)) ∧ Below w.heap.size w w' := by
  obtain ⟨n0, n1, n2, n3, n4, n5, n6⟩ := hN
  have hf := find_any (s := s.name) hp2 hm2 n0
  have hix := ixT ad g N cap i hi ha
  have c0 := hM.c0
  obtain ⟨I, hI⟩ : ∃ I, Hid (fndI ns s.name = I) := ⟨_, rfl⟩
  rw [hI.out] at hf
  obtain ⟨S, hS⟩ : ∃ S, sv s.name = S := ⟨_, rfl⟩
  rw [hS] at c0 hf
  have HM : Hid (∀ w', Below w.heap.size w w' → StM A w' g i s ve vd vl p ay ar gy capy capr) := fun w' hb => hM.below hb
  have HC : Hid (∀ w', Below w.heap.size w w' → CkAt w' ck pb mb nm gv adv capv vs n) := fun w' hb => h.below hb
  have HF2 : Hid (∀ w', Below w.heap.size w w' → w'.heap[pb2]? = some (.cells #[.map (some mb2)] 136 (0, 0)) ∧ MapF w' mb2 nm2 (fnd ns)) := fun w' hb => ⟨ck_block hb hp2, hm2.below hb⟩
  have HNN : Hid (NmSets s.enter ∧ NmSets s.during ∧ NmSets s.leave ∧ NmOk s.rests ∧ ∀ y ∈ s.ways, NmWay y) := ⟨n1, n2, n3, n4, n5⟩
  have c2 := hM.c2
  have c7 := hM.c7
  have c8 := hM.c8
  have c3 := hM.c3
  have c4 := hM.c4
  have c5 := hM.c5
  obtain ⟨xe, ye, ze, rfl⟩ := hM.he.sl'
  obtain ⟨xd, yd, zd, rfl⟩ := hM.hd.sl'
  obtain ⟨xl, yl, zl, rfl⟩ := hM.hl.sl'
  clear h hM hp2 hm2 hS n0 n1 n2 n3 n4 n5
  by_cases hlt : I < (i : Int)
  · have HE : Hid (stateE vs ns i s = 9) := by unfold Hid stateE; rw [if_pos (by rw [hI.out]; exact hlt)]
    go_enter Tryz.func98, Tryz.ntmps98
    go_wp2_with (refine hf.mono ?_; rintro e w' ⟨rfl, rfl⟩)
    go_ret
    exact ⟨by rw [HE.out]; rfl, Below.refl _ _⟩
  · obtain ⟨B1, hB1⟩ : ∃ B1, Hid ((s.last && (decide (0 < s.ways.length) || decide (0 < s.regions.length))) = B1) := ⟨_, rfl⟩
    have HE : Hid (stateE vs ns i s = if B1 then 6 else if setsE vs s.enter ≠ 0 then setsE vs s.enter else if setsE vs s.during ≠ 0 then setsE vs s.during else if setsE vs s.leave ≠ 0 then setsE vs s.leave else if strangeE (vnames vs) s.rests then 5 else waysE vs ns (decide (0 < s.regions.length)) s.ways) := by
      unfold Hid stateE; rw [if_neg (by rw [hI.out]; exact hlt)]; unfold aloneE; rw [hB1.out]
    go_enter Tryz.func98, Tryz.ntmps98
    go_upto_region 4 with (refine hf.mono ?_; rintro e w' ⟨rfl, hw'⟩; obtain rfl := hw'.symm)
    clear hf hlt
    go_cut [45] (fun s wx => Hid (s = .bool B1 ∧ wx = w))
    case first =>
      obtain ⟨la, hla⟩ : ∃ la, Hid (s.last = la) := ⟨_, rfl⟩
      rw [hla.out] at c2
      obtain ⟨NW, hNW⟩ : ∃ NW, Hid (s.ways.length = NW) := ⟨_, rfl⟩
      obtain ⟨NR, hNR⟩ : ∃ NR, Hid (s.regions.length = NR) := ⟨_, rfl⟩
      rw [hNW.out] at c7
      rw [hNR.out] at c8
      have hBB := hB1.out
      rw [hla.out, hNW.out, hNR.out] at hBB
      clear HE HM HC HF2 HNN
      cases la with
      | false =>
        have hBt : B1 = false := by rw [← hBB]; rfl
        subst hBt
        clear hBB
        go_wp2_with fail
        go_meet
        case rel => exact ⟨rfl, rfl⟩
      | true =>
        by_cases h1 : 0 < NW
        · have hBt : B1 = true := by rw [← hBB]; simp [h1]
          subst hBt
          have h1' : (0 : Int) < (NW : Int) := by omega
          clear hBB
          go_wp2_with fail
          go_meet
          case rel => exact ⟨rfl, rfl⟩
        · have h1' : ¬ (0 : Int) < (NW : Int) := by omega
          by_cases h2 : 0 < NR
          · have hBt : B1 = true := by rw [← hBB]; simp [h2]
            subst hBt
            have h2' : (0 : Int) < (NR : Int) := by omega
            clear hBB
            go_wp2_with fail
            go_meet
            case rel => exact ⟨rfl, rfl⟩
          · have hBt : B1 = false := by rw [← hBB]; simp [h1, h2]
            subst hBt
            have h2' : ¬ (0 : Int) < (NR : Int) := by omega
            clear hBB
            go_wp2_with fail
            go_meet
            case rel => exact ⟨rfl, rfl⟩
    case rest =>
      obtain ⟨hs, hw⟩ := hcut.out
      subst hs
      subst hw
      clear hcut c0 c2 c7 c8 hB1 hix
      cases B1 with
      | true =>
        rw [if_pos rfl] at HE
        go_wp2_with fail
        go_ret
        exact ⟨by rw [HE.out]; rfl, Below.refl _ _⟩
      | false =>
        rw [if_neg (by simp)] at HE
        go_upto_region 6 with fail
        obtain ⟨W0, hW0⟩ : ∃ W0, W0 = wc := ⟨_, rfl⟩
        subst hW0
        go_cut [58, 59] (fun s58 s59 wx => Hid (s58 = .agg #[.slice xe ye ze, .slice xd yd zd, .slice xl yl zl] ∧ s59 = .int .i64 0 ∧ Below W0.heap.size W0 wx))
        case first =>
          go_quiet (fail)
          go_wp2_with fail
          go_meet
          case rel => exact ⟨rfl, rfl, rfl, rfl, rfl, Nat.le_refl _, fun _ _ => rfl⟩
        case rest =>
          obtain ⟨h58, h59, hBw⟩ := hcut.out
          subst h58
          subst h59
          have HBW : Hid (Below W0.heap.size W0 wc) := hBw
          clear hcut c3 c4 c5 hBw
          go_wp2_with fail
          go_loopg [59] 3 (fun f i wr => ∃ k : Nat, f = 3 - k ∧ k ≤ 3 ∧ i = .int .i64 (k : Int) ∧ Hid (Below W0.heap.size W0 wr ∧ (0 < k → setsE vs s.enter = 0) ∧ (1 < k → setsE vs s.during = 0) ∧ (2 < k → setsE vs s.leave = 0)))
          case atStart => exact ⟨0, by omega, by omega, rfl, HBW.out, fun h => absurd h (by omega), fun h => absurd h (by omega), fun h => absurd h (by omega)⟩
          case round =>
            obtain ⟨k, rfl, hk, rfl, hr⟩ := hrel
            have hBr := hr.out.1
            have HBR : Hid (Below W0.heap.size W0 wr) := hBr
            have HZ : Hid ((0 < k → setsE vs s.enter = 0) ∧ (1 < k → setsE vs s.during = 0) ∧ (2 < k → setsE vs s.leave = 0)) := hr.out.2
            clear hr
            have hk4 : k = 0 ∨ k = 1 ∨ k = 2 ∨ k = 3 := by omega
            rcases hk4 with rfl | rfl | rfl | rfl
            · rw [show ((0 : Nat) : Int) = 0 from rfl]
              have hx := ix30 (.slice xe ye ze) (.slice xd yd zd) (.slice xl yl zl)
              have hcall := cksets_any (HC.out wr hBr) (HM.out wr hBr).he HNN.out.1
              by_cases hz : setsE vs s.enter = 0
              · have H0 : Hid (setsE vs s.enter = 0) := hz
                rw [hz] at hcall
                rw [show ((0 : Nat) : Int) = 0 from rfl] at hcall
                clear hz
                go_wp2_with (refine hcall.mono ?_; rintro e w' ⟨rfl, hw⟩)
                go_roundg (3 - 1)
                case measure => omega
                case rel => exact ⟨1, rfl, by omega, by go_num, ck_all HBR.out hw, fun _ => H0.out, fun h => absurd h (by omega), fun h => absurd h (by omega)⟩
              · obtain ⟨M, hM⟩ : ∃ M, Hid (setsE vs s.enter = M) := ⟨_, rfl⟩
                rw [hM.out] at hcall
                have HX : Hid (setsE vs s.enter ≠ 0) := hz
                have hz1 : ¬ (M : Int) = 0 := by rw [hM.out] at hz; omega
                have hz2 : ((M : Int) == 0) = false := by simp; omega
                clear hz
                go_wp2_with (refine hcall.mono ?_; rintro e w' ⟨rfl, hw⟩)
                go_ret
                exact ⟨by rw [HE.out, if_pos HX.out, hM.out]; rfl, ck_all HBR.out hw⟩
            · rw [show ((1 : Nat) : Int) = 1 from rfl]
              have hx := ix31 (.slice xe ye ze) (.slice xd yd zd) (.slice xl yl zl)
              have hcall := cksets_any (HC.out wr hBr) (HM.out wr hBr).hd HNN.out.2.1
              by_cases hz : setsE vs s.during = 0
              · have H1 : Hid (setsE vs s.during = 0) := hz
                rw [hz] at hcall
                rw [show ((0 : Nat) : Int) = 0 from rfl] at hcall
                clear hz
                go_wp2_with (refine hcall.mono ?_; rintro e w' ⟨rfl, hw⟩)
                go_roundg (3 - 2)
                case measure => omega
                case rel => exact ⟨2, rfl, by omega, by go_num, ck_all HBR.out hw, fun h => HZ.out.1 (by omega), fun _ => H1.out, fun h => absurd h (by omega)⟩
              · obtain ⟨M, hM⟩ : ∃ M, Hid (setsE vs s.during = M) := ⟨_, rfl⟩
                rw [hM.out] at hcall
                have HX : Hid (setsE vs s.during ≠ 0) := hz
                have hz1 : ¬ (M : Int) = 0 := by rw [hM.out] at hz; omega
                have hz2 : ((M : Int) == 0) = false := by simp; omega
                clear hz
                go_wp2_with (refine hcall.mono ?_; rintro e w' ⟨rfl, hw⟩)
                go_ret
                exact ⟨by rw [HE.out, if_neg (by rw [HZ.out.1 (by omega)]; simp), if_pos HX.out, hM.out]; rfl, ck_all HBR.out hw⟩
            · rw [show ((2 : Nat) : Int) = 2 from rfl]
              have hx := ix32 (.slice xe ye ze) (.slice xd yd zd) (.slice xl yl zl)
              have hcall := cksets_any (HC.out wr hBr) (HM.out wr hBr).hl HNN.out.2.2.1
              by_cases hz : setsE vs s.leave = 0
              · have H2 : Hid (setsE vs s.leave = 0) := hz
                rw [hz] at hcall
                rw [show ((0 : Nat) : Int) = 0 from rfl] at hcall
                clear hz
                go_wp2_with (refine hcall.mono ?_; rintro e w' ⟨rfl, hw⟩)
                go_roundg (3 - 3)
                case measure => omega
                case rel => exact ⟨3, rfl, by omega, by go_num, ck_all HBR.out hw, fun h => HZ.out.1 (by omega), fun h => HZ.out.2.1 (by omega), fun _ => H2.out⟩
              · obtain ⟨M, hM⟩ : ∃ M, Hid (setsE vs s.leave = M) := ⟨_, rfl⟩
                rw [hM.out] at hcall
                have HX : Hid (setsE vs s.leave ≠ 0) := hz
                have hz1 : ¬ (M : Int) = 0 := by rw [hM.out] at hz; omega
                have hz2 : ((M : Int) == 0) = false := by simp; omega
                clear hz
                go_wp2_with (refine hcall.mono ?_; rintro e w' ⟨rfl, hw⟩)
                go_ret
                exact ⟨by rw [HE.out, if_neg (by rw [HZ.out.1 (by omega)]; simp), if_neg (by rw [HZ.out.2.1 (by omega)]; simp), if_pos HX.out, hM.out]; rfl, ck_all HBR.out hw⟩
            · rw [show ((3 : Nat) : Int) = 3 from rfl]
              have HE2 : Hid (stateE vs ns i s = if strangeE (vnames vs) s.rests then 5 else waysE vs ns (decide (0 < s.regions.length)) s.ways) := by
                rw [Hid, HE.out, if_neg (by rw [HZ.out.1 (by omega)]; simp), if_neg (by rw [HZ.out.2.1 (by omega)]; simp), if_neg (by rw [HZ.out.2.2 (by omega)]; simp)]
              have c6 := (HM.out wr hBr).c6
              have hst := strange_any (HC.out wr hBr) (HM.out wr hBr).hp HNN.out.2.2.2.1
              obtain ⟨Z, hZ⟩ : ∃ Z, Hid (strangeE (vnames vs) s.rests = Z) := ⟨_, rfl⟩
              rw [hZ.out] at HE2 hst
              clear HZ HE
              cases Z with
              | true =>
                rw [if_pos rfl] at HE2
                go_wp2_with (refine hst.mono ?_; rintro e w' ⟨rfl, hw⟩)
                go_ret
                exact ⟨by rw [HE2.out]; rfl, ck_all HBR.out hw⟩
              | false =>
                rw [if_neg (by simp)] at HE2
                obtain ⟨NW, hNW⟩ : ∃ NW, Hid (s.ways.length = NW) := ⟨_, rfl⟩
                obtain ⟨NR, hNR⟩ : ∃ NR, Hid (s.regions.length = NR) := ⟨_, rfl⟩
                have HW : Hid (∀ w', Below W0.heap.size W0 w' → w'.cell? ⟨g, i * 9 + 7, none⟩ = some (.slice ay NW capy) ∧ w'.cell? ⟨g, i * 9 + 8, none⟩ = some (.slice ar NR capr) ∧ (0 < NW → ay = some ⟨gy, 0, none⟩) ∧ ∀ m y, s.ways[m]? = some y → ∃ p q, WayM A w' gy (m * 7) y p q) := fun w' hb => by
                  have := HM.out w' hb
                  rw [← hNW.out, ← hNR.out]
                  exact ⟨this.c7, this.c8, fun hp => (this.hw.2.1 hp).1, this.hw.2.2⟩
                rw [hNR.out] at HE2
                have hNW6 : NW ≤ 1000000 := by rw [← hNW.out]; exact n6
                clear n6
                go_upto_region 15 with (refine hst.mono ?_; rintro e w' ⟨rfl, hw⟩)
                have HB2 : Hid _ := ck_all HBR.out hw
                have d7 := (HW.out w' HB2.out).1
                clear hst c6 hw hBr HBR HM
                go_wp2_with fail
                clear d7
                have hR : (0 < NR ∧ (0 : Int) < (NR : Int)) ∨ (¬ 0 < NR ∧ ¬ (0 : Int) < (NR : Int)) := by omega
                rcases hR with ⟨hR, hR'⟩ | ⟨hR, hR'⟩
                all_goals
                  obtain ⟨ins, hins⟩ : ∃ ins, decide (0 < NR) = ins := ⟨_, rfl⟩
                  rw [hins] at HE2
                  go_loopg [80] NW (fun f i wr => ∃ k : Nat, f = NW - k ∧ k ≤ NW ∧ i = .int .i64 (k : Int) ∧ Hid (Below W0.heap.size W0 wr ∧ ∀ j y, j < k → s.ways[j]? = some y → wayE vs ns ins y = 0))
                  case atStart => exact ⟨0, by omega, by omega, rfl, HB2.out, fun j y hj => absurd hj (by omega)⟩
                  case round =>
                    obtain ⟨k, rfl, hk, rfl, hr⟩ := hrel
                    by_cases hlt : k < NW
                    · obtain ⟨y, hyk⟩ : ∃ y, Hid (s.ways[k]? = some y) := ⟨s.ways[k]'(by rw [hNW.out]; exact hlt), by rw [Hid, List.getElem?_eq_getElem]⟩
                      have hBr := hr.out.1
                      have hBd := hBr.drew
                      obtain ⟨d7, d8, hay, hys⟩ := HW.out wr hBr
                      obtain ⟨-, -, -, hys'⟩ := HW.out wr.drew hBd
                      obtain ⟨p', q', m0, m1, m2, m3, m4, m5, m6, m7, m8⟩ := hys' k y hyk.out
                      have hcall := ckway_any (HC.out wr.drew hBd) ins m0 m1 m2 m3 m4 m5 m7 m8 (HNN.out.2.2.2.2 y (List.mem_of_getElem? hyk.out)) (HF2.out wr.drew hBd).1 (HF2.out wr.drew hBd).2
                      have hixy := ixW ay gy NW capy k hlt hay
                      have HBR : Hid _ := hBd
                      have HZ : Hid _ := hr.out.2
                      obtain ⟨M, hM⟩ : ∃ M, Hid (wayE vs ns ins y = M) := ⟨_, rfl⟩
                      rw [hM.out] at hcall
                      have hinv : ins = decide ((0 : Int) < (NR : Int)) := by rw [← hins]; simp
                      first
                      | (rw [decide_eq_true hR'] at hinv)
                      | (rw [decide_eq_false hR'] at hinv)
                      rw [hinv] at hcall
                      clear hr hBr hBd hay hys hys' m0 m1 m2 m3 m4 m5 m6 m7 m8 hinv
                      go_upto_region 18 with fail
                      go_cut [14] (fun s14 wx => Hid (s14 = .int .i64 (M : Int) ∧ Below wr.drew.heap.size wr.drew wx))
                      case first =>
                        go_region_with (go_at_call 124; refine hcall.mono ?_; rintro e w' ⟨rfl, hw⟩)
                        all_goals
                          go_wp2_with fail
                          go_meet
                          case rel => exact ⟨rfl, hw⟩
                      case rest =>
                        obtain ⟨h14, hw⟩ := hcut.out
                        subst h14
                        have HB3 : Hid _ := ck_all HBR.out hw
                        clear hcut hw hcall d7 d8 hixy
                        by_cases hz : M = 0
                        · subst hz
                          rw [show ((0 : Nat) : Int) = 0 from rfl]
                          go_wp2_with fail
                          go_roundg (NW - (k + 1))
                          case measure => omega
                          case rel =>
                            refine ⟨k + 1, rfl, by omega, by go_num, HB3.out, fun j y' hj hy' => ?_⟩
                            by_cases e : j = k
                            · subst e
                              have := hyk.out
                              rw [hy'] at this
                              injection this with this
                              subst this
                              exact hM.out
                            · exact HZ.out j y' (by omega) hy'
                        · have hz1 : ¬ (M : Int) = 0 := by omega
                          have hz2 : ((M : Int) == 0) = false := by simp; omega
                          have HX : Hid (waysE vs ns ins s.ways = M) := by rw [Hid, waysE_at HZ.out hyk.out (by rw [hM.out]; exact hz), hM.out]
                          go_wp2_with fail
                          go_ret
                          exact ⟨by rw [HE2.out, HX.out]; rfl, HB3.out⟩
                    · obtain rfl : k = NW := by omega
                      have HX : Hid (waysE vs ns ins s.ways = 0) := waysE_all (by rw [hNW.out]; exact hr.out.2)
                      have HB3 : Hid _ := hr.out.1
                      clear hr
                      go_wp2_with fail
                      go_ret
                      exact ⟨by rw [HE2.out, HX.out]; rfl, HB3.out⟩
end
end Go.Proofs.YtiihgnagjemikaaGreatDoor
/- The program's checker: what is wrong with a region of which each state may be. -/
namespace Go.Proofs.YtiihgnagjemikaaGreatDoor
open Go.RowKit Px

theorem StM.sts {ρ : Type} {A : Nat → Prop} {w : World} {g : Nat} {l : List (StF ρ)} (hg : 0 < l.length → g < w.heap.size) (h : ∀ (i : Nat) (s : StF ρ), l[i]? = some s → ∃ ve vd vl p ay ar gy capy capr, StM A w g i s ve vd vl p ay ar gy capy capr) (hN : ∀ s ∈ l, NmStF s) : StsAt w g l := by
  intro i s hi
  obtain ⟨ve, vd, vl, p, ay, ar, gy, capy, capr, hM⟩ := h i s hi
  have hs := hN s (List.mem_of_getElem? hi)
  refine ⟨hg (by have := (List.getElem?_eq_some_iff.1 hi).1; omega), hM.c0, hM.c1, hs.1, hs.2.2.2.2.2.2, ay, gy, capy, hM.c7, hM.hw.2.1, fun m y hm => ?_⟩
  obtain ⟨p', q', m0, m1, m2, m3, m4, m5, m6, m7, m8⟩ := hM.hw.2.2 m y hm
  obtain ⟨a, b, c, rfl⟩ := m8.sl'
  exact ⟨p', _, m0, m1, m2, m3, m4, m5, m6, ⟨a, b, c, rfl⟩, (hs.2.2.2.2.2.1 y (List.mem_of_getElem? hm)).1⟩

theorem firsts_take {ρ : Type} {l : List (StF ρ)} {k : Nat} {s : StF ρ} (h : l[k]? = some s) : firsts (l.take (k + 1)) = firsts (l.take k) + if s.first then 1 else 0 := by
  unfold firsts
  rw [List.take_add_one, h]
  rw [List.filter_append, List.length_append]
  cases hf : s.first <;> simp [hf]
theorem firsts_le {ρ : Type} (l : List (StF ρ)) : firsts l ≤ l.length := List.length_filter_le _ _
set_option maxRecDepth 100000 in
set_option maxHeartbeats 4000000 in
theorem whole_any {ρ : Type} {w : World} {ad : Option Addr} {g n cap : Nat} {l : List (StF ρ)} (hn : Hid (n = l.length)) (hm : n ≤ 1000000) (ha : 0 < n → ad = some ⟨g, 0, none⟩) (hS : StsAt w g l) :
    Calls Tryz.prog 99 #[.slice ad n cap] w fun e w' => e = .returned (.int .i64 ((wholeE l : Nat) : Int)) ∧ Below w.heap.size w w' := by
  have hcall := order_at (cap := cap) (l := l) (oo := orderG (graph l)) rfl hn hm ha hS
  have HS : Hid _ := hS
  have HA : Hid (0 < n → ad = some ⟨g, 0, none⟩) := ha
  clear hS ha
  go_enter Tryz.func99, Tryz.ntmps99
  go_wp2_with fail
  go_loopg [3, 9] n (fun f c i wr => ∃ k : Nat, f = n - k ∧ k ≤ n ∧ c = .int .i64 ((firsts (l.take k) : Nat) : Int) ∧ i = .int .i64 (k : Int) ∧ Hid (wr = w))
  case atStart => exact ⟨0, by omega, by omega, rfl, rfl, rfl⟩
  case round =>
    obtain ⟨k, rfl, hk, rfl, rfl, hw⟩ := hrel
    obtain rfl := hw.out
    clear hw
    by_cases hlt : k < n
    · obtain ⟨s, hs⟩ : ∃ s, Hid (l[k]? = some s) := ⟨l[k]'(by rw [← hn.out]; exact hlt), by rw [Hid, List.getElem?_eq_getElem]⟩
      obtain ⟨-, -, c1, -⟩ := HS.out k s hs.out
      have hix := ixT ad g n cap k hlt HA.out
      have hF : firsts (l.take k) ≤ 1000000 := by
        have := firsts_le (l.take k)
        have h2 : (l.take k).length ≤ k := by rw [List.length_take]; omega
        omega
      have HT := firsts_take hs.out
      obtain ⟨F, hFF⟩ : ∃ F, Hid (firsts (l.take k) = F) := ⟨_, rfl⟩
      rw [hFF.out] at HT hF ⊢
      obtain ⟨b, hb⟩ : ∃ b, Hid (s.first = b) := ⟨_, rfl⟩
      rw [hb.out] at c1 HT
      have HT2 : Hid _ := HT
      clear HT
      cases b with
      | false =>
        go_wp2_with fail
        go_roundg (n - (k + 1))
        case measure => omega
        case rel => exact ⟨k + 1, rfl, by omega, by rw [HT2.out]; rfl, by go_num, rfl⟩
      | true =>
        go_wp2_with fail
        go_roundg (n - (k + 1))
        case measure => omega
        case rel => exact ⟨k + 1, rfl, by omega, by rw [HT2.out]; go_num, by go_num, rfl⟩
    · obtain rfl : k = n := by omega
      rw [show l.take k = l by rw [hn.out]; exact List.take_length]
      obtain ⟨F, hFF⟩ : ∃ F, Hid (firsts l = F) := ⟨_, rfl⟩
      have HE : Hid (wholeE l = if F = 0 then 8 else if 1 < F then 12 else if (orderG (graph l)).isNone then 11 else 0) := by unfold Hid wholeE; rw [hFF.out]
      rw [hFF.out]
      by_cases h0 : F = 0
      · subst h0
        rw [if_pos rfl] at HE
        rw [show ((0 : Nat) : Int) = 0 from rfl]
        go_wp2_with fail
        go_ret
        exact ⟨by rw [HE.out]; rfl, Below.refl _ _⟩
      · rw [if_neg h0] at HE
        have h1 : ¬ (F : Int) = 0 := by omega
        have h2 : ((F : Int) == 0) = false := by simp; omega
        by_cases h3 : 1 < F
        · rw [if_pos h3] at HE
          have h4 : (1 : Int) < (F : Int) := by omega
          go_wp2_with fail
          go_ret
          exact ⟨by rw [HE.out]; rfl, Below.refl _ _⟩
        · rw [if_neg h3] at HE
          have h4 : ¬ (1 : Int) < (F : Int) := by omega
          obtain ⟨oo, hoo⟩ : ∃ oo, Hid (orderG (graph l) = oo) := ⟨_, rfl⟩
          rw [hoo.out] at hcall HE
          unfold OrdOut at hcall
          cases oo with
          | none =>
            have hcall : Calls Tryz.prog 125 #[.slice ad k cap] wr fun e w' => e = .returned (.tuple #[.slice none 0 0, .bool false]) ∧ Below wr.heap.size wr w' := hcall.mono fun e w' ⟨hb, ho⟩ => by
              rcases ho with ⟨_, he⟩ | ⟨_, _, he, _⟩
              · exact ⟨he, hb⟩
              · simp at he
            go_wp2_with (refine hcall.mono ?_; rintro e w' ⟨rfl, hb⟩)
            go_ret
            exact ⟨by rw [HE.out]; rfl, hb⟩
          | some o =>
            have hcall : Calls Tryz.prog 125 #[.slice ad k cap] wr fun e w' => ∃ v, e = .returned (.tuple #[v, .bool true]) ∧ Below wr.heap.size wr w' := hcall.mono fun e w' ⟨hb, ho⟩ => by
              rcases ho with ⟨he, _⟩ | ⟨_, v, _, he, _⟩
              · simp at he
              · exact ⟨v, he, hb⟩
            go_wp2_with (refine hcall.mono ?_; rintro e w' ⟨v, rfl, hb⟩)
            go_ret
            exact ⟨by rw [HE.out]; rfl, hb⟩
end Go.Proofs.YtiihgnagjemikaaGreatDoor
/- The program's checker: regions, and what stands in them. -/
namespace Go.Proofs.YtiihgnagjemikaaGreatDoor
open Go.RowKit Px

def sumC {α : Type} (f : α → Nat) : List α → Nat
  | [] => 0
  | a :: r => f a + sumC f r
theorem sumC_drop {α : Type} (f : α → Nat) {l : List α} {k : Nat} {a : α} (h : l[k]? = some a) : sumC f (l.drop k) = f a + sumC f (l.drop (k + 1)) := by
  obtain ⟨hk, rfl⟩ := List.getElem?_eq_some_iff.1 h
  rw [List.drop_eq_getElem_cons hk, sumC]
theorem drop_cons {α : Type} {l : List α} {k : Nat} {a : α} (h : l[k]? = some a) : l.drop k = a :: l.drop (k + 1) := by
  obtain ⟨hk, rfl⟩ := List.getElem?_eq_some_iff.1 h
  exact List.drop_eq_getElem_cons hk

section
variable {ρ : Type} {ck pb mb nm gv : Nat} {adv : Option Addr} {capv : Nat} {vs : List Decl}
theorem CkAt.fr {w w' : World} {n n' : Nat} (h : CkAt w ck pb mb nm gv adv capv vs n) (hF : Fr w.heap.size [ck] w w') (hb : w'.heap[ck]? = some (.cells #[.slice adv vs.length capv, .func (.func 68) #[] #[.pointer (some ⟨pb, 0, none⟩)], .int .i64 (n' : Int)] 89 (0, 0))) : CkAt w' ck pb mb nm gv adv capv vs n' := by
  obtain ⟨e1, e2, e3⟩ := h.ne
  refine ⟨hb, by rw [hF.block pb (lt_of_block h.hpb) (by simpa using Ne.symm e1)]; exact h.hpb, h.hmb.keep (hF.block mb h.hmb.lt (by simpa using Ne.symm e2)), fun hp => ⟨(h.hv hp).1, Nat.lt_of_lt_of_le (h.hv hp).2 hF.size⟩, fun i d hi => ?_, h.ne⟩
  have hp : 0 < vs.length := by have := (List.getElem?_eq_some_iff.1 hi).1; omega
  rw [hF.cell (p := ⟨gv, i * 3, none⟩) (h.hv hp).2 (by simpa using Ne.symm (e3 hp))]
  exact h.hk i d hi
/-- what a region, or several, come to -/
def RegOut (ck pb mb nm gv : Nat) (adv : Option Addr) (capv : Nat) (vs : List Decl) (res : Res) (w : World) (e : Ending) (w' : World) : Prop :=
  Fr w.heap.size [ck] w w' ∧ ((∃ m, res = .ok m ∧ e = .returned .nilIface ∧ CkAt w' ck pb mb nm gv adv capv vs m) ∨ ∃ c p g, res = .error (c, p) ∧ e = .returned (.iface 45 (.pointer (some ⟨g, 0, none⟩))) ∧ w'.heap[g]? = some (.cells #[.int .i64 ((c : Nat) : Int), .int .i64 ((p : Nat) : Int)] 48 (0, 0)) ∧ w.heap.size ≤ g)
/-- a region's states, as they lie -/
def RegMem (A : Nat → Prop) (w : World) (ad : Option Addr) (N : Nat) (l : List (StF ρ)) (Q : World → StF ρ → Value → Prop) : Prop := ∃ g, (0 < N → ad = some ⟨g, 0, none⟩ ∧ g < w.heap.size) ∧ ∀ (i : Nat) (s : StF ρ), l[i]? = some s → ∃ ve vd vl p ay ar gy capy capr, StM A w g i s ve vd vl p ay ar gy capy capr ∧ Q w s (.slice ar s.regions.length capr)
theorem RegMem.sts {A : Nat → Prop} {w : World} {ad : Option Addr} {N : Nat} {l : List (StF ρ)} {Q : World → StF ρ → Value → Prop} (h : RegMem A w ad N l Q) (hn : N = l.length) (hN : ∀ s ∈ l, NmStF s) : ∃ g, (0 < N → ad = some ⟨g, 0, none⟩) ∧ StsAt w g l := by
  obtain ⟨g, h1, h2⟩ := h
  refine ⟨g, fun hp => (h1 hp).1, StM.sts (A := A) (fun hp => (h1 (by omega)).2) (fun i s hi => ?_) hN⟩
  obtain ⟨ve, vd, vl, p, ay, ar, gy, capy, capr, hM, _⟩ := h2 i s hi
  exact ⟨ve, vd, vl, p, ay, ar, gy, capy, capr, hM⟩
/-- what regions within a state come to -/
def Inner (ck pb mb nm gv : Nat) (adv : Option Addr) (capv : Nat) (vs : List Decl) (R : List ρ → Nat → Res) (w : World) (s : StF ρ) (v : Value) (n : Nat) : Prop :=
  Calls Tryz.prog 35 #[.pointer (some ⟨ck, 0, none⟩), v] w (RegOut ck pb mb nm gv adv capv vs (regsE R s.regions n) w)

set_option maxRecDepth 100000 in
set_option maxHeartbeats 8000000 in
theorem region_at {w : World} {n : Nat} (h : CkAt w ck pb mb nm gv adv capv vs n) {A : Nat → Prop} {ad : Option Addr} {N cap : Nat} {l : List (StF ρ)} {R : List ρ → Nat → Res} {Q : World → StF ρ → Value → Prop} (cs : StF ρ → Nat) (hn : Hid (N = l.length))
    (hmem : Hid (∀ w', Fr w.heap.size [ck] w w' → RegMem A w' ad N l Q)) (hN : Hid (∀ s ∈ l, NmStF s)) (hcs : Hid (∀ s ∈ l, ∀ n m, regsE R s.regions n = .ok m → m = n + cs s)) (hbd : Hid (n + sumC (fun s => 1 + cs s) l ≤ 1000000)) (hNm : N ≤ 1000000)
    (hin : Hid (∀ w' s v m, s ∈ l → Fr w.heap.size [ck] w w' → Q w' s v → CkAt w' ck pb mb nm gv adv capv vs m → m + cs s ≤ 1000000 → Inner ck pb mb nm gv adv capv vs R w' s v m)) :
    Calls Tryz.prog 69 #[.pointer (some ⟨ck, 0, none⟩), .slice ad N cap] w (RegOut ck pb mb nm gv adv capv vs (regF vs R l n) w) := by
  obtain ⟨g0, hg0, hS0⟩ := (hmem.out w (Fr.refl _ _ _)).sts hn.out hN.out
  have hNn : NamesAt w g0 N (snames l) := by rw [hn.out]; exact hS0.names
  have hfd := stateFinder_any (cap := cap) hg0 hNm hNn
  have HC : Hid (CkAt w ck pb mb nm gv adv capv vs n) := h
  have c2 := cell_row h.box 2 (u := .int .i64 (n : Int)) rfl
  clear h hg0 hS0 hNn
  go_enter Tryz.func69, Tryz.ntmps69
  go_upto_region 3 with (refine hfd.mono ?_; rintro e w1 ⟨f, rfl, ⟨pb2, mb2, nm2, rfl, hp2, hm2⟩, hb⟩; have HF : Hid (w1.heap[pb2]? = some (.cells #[.map (some mb2)] 136 (0, 0)) ∧ MapF w1 mb2 nm2 (fnd (snames l)) ∧ Below w.heap.size w w1) := ⟨hp2, hm2, hb⟩; clear hp2 hm2 hb)
  clear hfd c2
  have HP : Hid (pb2 ≠ ck ∧ mb2 ≠ ck) := by
    have hbx := ck_block HF.out.2.2 HC.out.box
    constructor
    · intro e
      have := HF.out.1
      rw [e, hbx] at this
      simp at this
    · intro e
      obtain ⟨D, ⟨es, c, h3, _⟩, _⟩ := HF.out.2.1
      rw [e, hbx] at h3
      simp at h3
  go_wp2_with fail
  go_loopg [20] N (fun f i wr => ∃ k : Nat, f = N - k ∧ k ≤ N ∧ i = .int .i64 (k : Int) ∧ Hid (∃ m, CkAt wr ck pb mb nm gv adv capv vs m ∧ Fr w.heap.size [ck] w wr ∧ statesE vs R (snames l) l 0 n = statesE vs R (snames l) (l.drop k) k m ∧ m + sumC (fun s => 1 + cs s) (l.drop k) ≤ 1000000 ∧ wr.heap[pb2]? = some (.cells #[.map (some mb2)] 136 (0, 0)) ∧ MapF wr mb2 nm2 (fnd (snames l))))
  case atStart => exact ⟨0, by omega, by omega, rfl, n, HC.out.below HF.out.2.2, Fr.of_below HF.out.2.2 _, rfl, hbd.out, HF.out.1, HF.out.2.1⟩
  case round =>
    obtain ⟨k, rfl, hk, rfl, hr⟩ := hrel
    obtain ⟨m, hC, hFr, hst, hsum, hp2, hm2⟩ := hr.out
    clear hr
    by_cases hlt : k < N
    · obtain ⟨s, hs⟩ : ∃ s, l[k]? = some s := ⟨l[k]'(by rw [← hn.out]; exact hlt), by rw [List.getElem?_eq_getElem]⟩
      have hsm := List.mem_of_getElem? hs
      rw [sumC_drop _ hs] at hsum
      rw [drop_cons hs, statesE] at hst
      have d2 := cell_row hC.box 2 (u := .int .i64 (m : Int)) rfl
      have z2 := ck_frozen hC.box 2
      have hwr : IntKind.i64.wrap ((m : Int) + 1) = (m : Int) + 1 := by rw [IntKind.wrap_i64]; omega
      obtain ⟨wa, hwa⟩ : ∃ wa, wa = wr.setCell ⟨ck, 2, none⟩ (.int .i64 ((m : Int) + 1)) := ⟨_, rfl⟩
      have hFa : Fr wr.heap.size [ck] wr wa := by rw [hwa]; exact (Fr.refl _ _ _).setCell (.inr (by simp)) _
      have hCa : CkAt wa ck pb mb nm gv adv capv vs (m + 1) := hC.fr hFa (by
        rw [hwa]
        exact ck_set (l := [.slice adv vs.length capv, .func (.func 68) #[] #[.pointer (some ⟨pb, 0, none⟩)], .int .i64 (m : Int)]) hC.box 2 _)
      have hFwa := fr_on' hFr hFa
      obtain ⟨g, hg1, hg2⟩ := hmem.out wa hFwa
      obtain ⟨ve, vd, vl, p, ay, ar, gy, capy, capr, hM, -⟩ := hg2 k s hs
      have hp2a : wa.heap[pb2]? = some (.cells #[.map (some mb2)] 136 (0, 0)) := by rw [hFa.block pb2 (lt_of_block hp2) (by simpa using HP.out.1)]; exact hp2
      have hm2a : MapF wa mb2 nm2 (fnd (snames l)) := hm2.keep (hFa.block mb2 hm2.lt (by simpa using HP.out.2))
      have hcall := ckstate_any (cap := cap) hCa hlt (fun h => (hg1 h).1) hM (hN.out s hsm) hp2a hm2a
      obtain ⟨E, hE⟩ : ∃ E, Hid (stateE vs (snames l) k s = E) := ⟨_, rfl⟩
      rw [hE.out] at hcall hst
      have HR : Hid _ := hst
      have HA : Hid (_ ∧ _ ∧ _ ∧ _) := ⟨hCa, hFwa, hp2a, hm2a⟩
      have HSU : Hid _ := hsum
      have HSM : Hid _ := hs
      rw [hwa] at hcall
      clear hC hFr hst hsum hp2 hm2 hs hsm hFa hCa hFwa hg1 hg2 hM hp2a hm2a
      by_cases hE0 : E = 0
      · subst hE0
        rw [if_neg (by simp)] at HR
        rw [show ((0 : Nat) : Int) = 0 from rfl] at hcall
        rw [← hwa] at hcall
        have HIN : Hid (∀ w', Below wa.heap.size wa w' → w'.heap[pb2]? = some (.cells #[.map (some mb2)] 136 (0, 0)) ∧ MapF w' mb2 nm2 (fnd (snames l)) ∧ Fr w.heap.size [ck] w w' ∧ ∃ g ar capr, (0 < N → ad = some ⟨g, 0, none⟩) ∧ w'.cell? ⟨g, k * 9 + 8, none⟩ = some (.slice ar s.regions.length capr) ∧ Inner ck pb mb nm gv adv capv vs R w' s (.slice ar s.regions.length capr) (m + 1)) := fun w' hb => by
          have hF' : Fr w.heap.size [ck] w w' := fr_on' HA.out.2.1 (Fr.of_below hb _)
          obtain ⟨g, hg1, hg2⟩ := hmem.out w' hF'
          obtain ⟨ve, vd, vl, p, ay, ar, gy, capy, capr, hM, hQ⟩ := hg2 k s HSM.out
          exact ⟨ck_block hb HA.out.2.2.1, HA.out.2.2.2.below hb, hF', g, ar, capr, fun h => (hg1 h).1, hM.c8, hin.out w' s _ (m + 1) (List.mem_of_getElem? HSM.out) hF' hQ (HA.out.1.below hb) (by have := HSU.out; omega)⟩
        rw [hwa] at hcall
        cases hrs : regsE R s.regions (m + 1) with
        | error x =>
          obtain ⟨c, pl⟩ := x
          rw [hrs] at HR
          have HRE : Hid (regF vs R l n = .error (c, pl)) := by unfold Hid regF; rw [HR.out]
          go_upto_region 11 with (go_at_call 98; refine hcall.mono ?_; rintro e w' ⟨rfl, hw⟩; rw [← hwa] at hw; obtain ⟨-, -, hF', g, ar, capr, hgg, c8, hI⟩ := HIN.out w' hw; unfold Inner at hI; rw [hrs] at hI; have HI : Hid _ := hF'; have hix := ixT ad g N cap k hlt hgg; clear hw hF' hcall)
          have hI2 : Calls Tryz.prog 35 #[.pointer (some ⟨ck, 0, none⟩), .slice ar s.regions.length capr] w' fun e w'' => ∃ g, e = .returned (.iface 45 (.pointer (some ⟨g, 0, none⟩))) ∧ Hid (w''.heap[g]? = some (.cells #[.int .i64 ((c : Nat) : Int), .int .i64 ((pl : Nat) : Int)] 48 (0, 0)) ∧ w'.heap.size ≤ g ∧ Fr w'.heap.size [ck] w' w'') := hI.mono fun e w'' ⟨hF, ho⟩ => by
            rcases ho with ⟨_, he, _⟩ | ⟨c', p', g', he, h1, h2, h3⟩
            · simp at he
            · injection he with he
              injection he with e1 e2
              subst e1; subst e2
              exact ⟨g', h1, h2, h3, hF⟩
          clear hI
          go_wp2_with (refine hI2.mono ?_; rintro e w'' ⟨ge, rfl, hge⟩)
          go_ret
          refine ⟨fr_on' HI.out hge.out.2.2, .inr ⟨c, pl, ge, HRE.out, rfl, hge.out.1, Nat.le_trans HI.out.size hge.out.2.1⟩⟩
        | ok m2 =>
          rw [hrs] at HR
          have hm2 := hcs.out s (List.mem_of_getElem? HSM.out) _ _ hrs
          go_upto_region 11 with (go_at_call 98; refine hcall.mono ?_; rintro e w' ⟨rfl, hw⟩; rw [← hwa] at hw; obtain ⟨hpw, hmw, hF', g, ar, capr, hgg, c8, hI⟩ := HIN.out w' hw; unfold Inner at hI; rw [hrs] at hI; have HI : Hid (_ ∧ _ ∧ _) := ⟨hF', hpw, hmw⟩; have hix := ixT ad g N cap k hlt hgg; clear hw hF' hcall hpw hmw)
          have hI2 : Calls Tryz.prog 35 #[.pointer (some ⟨ck, 0, none⟩), .slice ar s.regions.length capr] w' fun e w'' => e = .returned .nilIface ∧ Hid (CkAt w'' ck pb mb nm gv adv capv vs m2 ∧ Fr w'.heap.size [ck] w' w'') := hI.mono fun e w'' ⟨hF, ho⟩ => by
            rcases ho with ⟨m', he, h1, h2⟩ | ⟨_, _, _, he, _⟩
            · injection he with he
              subst he
              exact ⟨h1, h2, hF⟩
            · simp at he
          clear hI
          go_wp2_with (refine hI2.mono ?_; rintro e w'' ⟨rfl, hge⟩)
          go_roundg (N - (k + 1))
          case measure => omega
          case rel =>
            refine ⟨k + 1, rfl, by omega, by go_num, m2, hge.out.1, fr_on' HI.out.1 hge.out.2, HR.out, by have := HSU.out; omega, ?_, ?_⟩
            · rw [hge.out.2.block pb2 (lt_of_block HI.out.2.1) (by simpa using HP.out.1)]; exact HI.out.2.1
            · exact HI.out.2.2.keep (hge.out.2.block mb2 HI.out.2.2.lt (by simpa using HP.out.2))
      · rw [if_pos hE0] at HR
        have HRE : Hid (regF vs R l n = .error (E, m)) := by unfold Hid regF; rw [HR.out]
        have h1 : ¬ (E : Int) = 0 := by omega
        have h2 : ((E : Int) == 0) = false := by simp; omega
        go_wp2_with (refine hcall.mono ?_; rintro e w' ⟨rfl, hw⟩; rw [← hwa] at hw; have HW : Hid _ := hw; clear hw)
        go_ret
        refine ⟨fr_on' (fr_on' HA.out.2.1 (Fr.of_below HW.out _)) (Fr.of_below (ck_grown _ _) _), .inr ⟨E, m, _, HRE.out, rfl, ck_new _ _, ?_⟩⟩
        exact Nat.le_trans HA.out.2.1.size HW.out.size
    · obtain rfl : k = N := by omega
      rw [show l.drop k = [] by rw [hn.out]; exact List.drop_length, statesE] at hst
      obtain ⟨g, hg, hS⟩ := (hmem.out wr hFr).sts hn.out hN.out
      have hcall := whole_any (cap := cap) hn hNm hg hS
      obtain ⟨E, hE⟩ : ∃ E, Hid (wholeE l = E) := ⟨_, rfl⟩
      rw [hE.out] at hcall
      have HR : Hid (regF vs R l n = if E ≠ 0 then .error (E, n) else .ok m) := by unfold Hid regF; rw [hst, hE.out]
      have HA : Hid (_ ∧ _) := ⟨hC, hFr⟩
      clear hC hFr hst hsum hp2 hm2 hg hS
      by_cases hE0 : E = 0
      · subst hE0
        rw [if_neg (by simp)] at HR
        rw [show ((0 : Nat) : Int) = 0 from rfl] at hcall
        go_wp2_with (refine hcall.mono ?_; rintro e w' ⟨rfl, hw⟩)
        go_ret
        exact ⟨fr_on' HA.out.2 (Fr.of_below hw _), .inl ⟨m, HR.out, rfl, HA.out.1.below hw⟩⟩
      · rw [if_pos hE0] at HR
        have h1 : ¬ (E : Int) = 0 := by omega
        have h2 : ((E : Int) == 0) = false := by simp; omega
        go_wp2_with (refine hcall.mono ?_; rintro e w' ⟨rfl, hw⟩; have HW : Hid _ := hw; clear hw)
        go_ret
        refine ⟨fr_on' (fr_on' HA.out.2 (Fr.of_below HW.out _)) (Fr.of_below (ck_grown _ _) _), .inr ⟨E, n, _, HR.out, rfl, ck_new _ _, ?_⟩⟩
        exact Nat.le_trans HA.out.2.size HW.out.size
end
end Go.Proofs.YtiihgnagjemikaaGreatDoor
/- The program's checker: regions, one by one; at every depth. -/
namespace Go.Proofs.YtiihgnagjemikaaGreatDoor
open Go.RowKit Px

section
variable {ρ : Type} {ck pb mb nm gv : Nat} {adv : Option Addr} {capv : Nat} {vs : List Decl}
theorem regsE_at {R : List ρ → Nat → Res} {l : List (List ρ)} {k m : Nat} {r : List ρ} (h : l[k]? = some r) : regsE R (l.drop k) m = match R r m with
    | .error x => .error x
    | .ok m' => regsE R (l.drop (k + 1)) m' := by rw [drop_cons h, regsE]; cases R r m <;> rfl
set_option maxRecDepth 100000 in
set_option maxHeartbeats 4000000 in
theorem regions_at {w : World} {n : Nat} (h : CkAt w ck pb mb nm gv adv capv vs n) {ad : Option Addr} {N cap : Nat} {l : List (List ρ)} {R : List ρ → Nat → Res} {I : World → List ρ → Value → Prop} (cr : List ρ → Nat) (hn : Hid (N = l.length)) (hNm : N ≤ maxLen)
    (hmem : Hid (∀ w', Fr w.heap.size [ck] w w' → ∃ g, (0 < N → ad = some ⟨g, 0, none⟩) ∧ ∀ (i : Nat) (r : List ρ), l[i]? = some r → ∃ a b c, w'.cell? ⟨g, i, none⟩ = some (.slice a b c) ∧ I w' r (.slice a b c)))
    (hcs : Hid (∀ r ∈ l, ∀ n m, R r n = .ok m → m = n + cr r)) (hbd : Hid (n + sumC cr l ≤ 1000000))
    (hin : Hid (∀ w' r v m, r ∈ l → Fr w.heap.size [ck] w w' → I w' r v → CkAt w' ck pb mb nm gv adv capv vs m → m + cr r ≤ 1000000 → Calls Tryz.prog 69 #[.pointer (some ⟨ck, 0, none⟩), v] w' (RegOut ck pb mb nm gv adv capv vs (R r m) w'))) :
    Calls Tryz.prog 35 #[.pointer (some ⟨ck, 0, none⟩), .slice ad N cap] w (RegOut ck pb mb nm gv adv capv vs (regsE R l n) w) := by
  have hN6 : (N : Int) ≤ 9223372036854775807 := by unfold maxLen at hNm; omega
  have HC : Hid _ := h
  clear h hNm
  go_enter Tryz.func35, Tryz.ntmps35
  go_wp2_with fail
  go_loopg [10] N (fun f i wr => ∃ k : Nat, f = N - k ∧ k ≤ N ∧ i = .int .i64 (k : Int) ∧ Hid (∃ m, CkAt wr ck pb mb nm gv adv capv vs m ∧ Fr w.heap.size [ck] w wr ∧ regsE R l n = regsE R (l.drop k) m ∧ m + sumC cr (l.drop k) ≤ 1000000))
  case atStart => exact ⟨0, by omega, by omega, rfl, n, HC.out, Fr.refl _ _ _, rfl, hbd.out⟩
  case round =>
    obtain ⟨k, rfl, hk, rfl, hr⟩ := hrel
    obtain ⟨m, hC, hFr, hst, hsum⟩ := hr.out
    clear hr
    by_cases hlt : k < N
    · obtain ⟨r, hs⟩ : ∃ r, l[k]? = some r := ⟨l[k]'(by rw [← hn.out]; exact hlt), by rw [List.getElem?_eq_getElem]⟩
      have hsm := List.mem_of_getElem? hs
      rw [sumC_drop _ hs] at hsum
      rw [regsE_at hs] at hst
      obtain ⟨g, hg, hg2⟩ := hmem.out wr hFr
      obtain ⟨va, vb, vc, cr', hI⟩ := hg2 k r hs
      have hcall := hin.out wr r _ m hsm hFr hI hC (by omega)
      have hix := ixR ad g N cap k hlt hg
      have HR : Hid _ := hst
      have HF : Hid _ := hFr
      have HSU : Hid _ := hsum
      have hcsr := hcs.out r hsm m
      clear hC hFr hst hsum hs hsm hg hg2 hI
      cases hrs : R r m with
      | error x =>
        obtain ⟨c, pl⟩ := x
        rw [hrs] at HR hcall
        have hI2 : Calls Tryz.prog 69 #[.pointer (some ⟨ck, 0, none⟩), .slice va vb vc] wr fun e w'' => ∃ g, e = .returned (.iface 45 (.pointer (some ⟨g, 0, none⟩))) ∧ Hid (w''.heap[g]? = some (.cells #[.int .i64 ((c : Nat) : Int), .int .i64 ((pl : Nat) : Int)] 48 (0, 0)) ∧ wr.heap.size ≤ g ∧ Fr wr.heap.size [ck] wr w'') := hcall.mono fun e w'' ⟨hF, ho⟩ => by
          rcases ho with ⟨_, he, _⟩ | ⟨c', p', g', he, h1, h2, h3⟩
          · simp at he
          · injection he with he
            injection he with e1 e2
            subst e1; subst e2
            exact ⟨g', h1, h2, h3, hF⟩
        clear hcall
        go_wp2_with (refine hI2.mono ?_; rintro e w'' ⟨ge, rfl, hge⟩)
        go_ret
        refine ⟨fr_on' HF.out hge.out.2.2, .inr ⟨c, pl, ge, HR.out, rfl, hge.out.1, Nat.le_trans HF.out.size hge.out.2.1⟩⟩
      | ok m2 =>
        rw [hrs] at HR hcall
        have hm2 := hcsr m2 hrs
        have hI2 : Calls Tryz.prog 69 #[.pointer (some ⟨ck, 0, none⟩), .slice va vb vc] wr fun e w'' => e = .returned .nilIface ∧ Hid (CkAt w'' ck pb mb nm gv adv capv vs m2 ∧ Fr wr.heap.size [ck] wr w'') := hcall.mono fun e w'' ⟨hF, ho⟩ => by
          rcases ho with ⟨m', he, h1, h2⟩ | ⟨_, _, _, he, _⟩
          · injection he with he
            subst he
            exact ⟨h1, h2, hF⟩
          · simp at he
        clear hcall
        go_wp2_with (refine hI2.mono ?_; rintro e w'' ⟨rfl, hge⟩)
        go_roundg (N - (k + 1))
        case measure => omega
        case rel => exact ⟨k + 1, rfl, by omega, by go_num, m2, hge.out.1, fr_on' HF.out hge.out.2, HR.out, by have := HSU.out; omega⟩
    · obtain rfl : k = N := by omega
      rw [show l.drop k = [] by rw [hn.out]; exact List.drop_length, regsE] at hst
      have HA : Hid (_ ∧ _ ∧ _) := ⟨hC, hFr, hst⟩
      clear hC hFr hst hsum
      go_wp2_with fail
      go_ret
      exact ⟨HA.out.2.1, .inl ⟨m, HA.out.2.2, rfl, HA.out.1⟩⟩
end

/-- how many states there are in a state, itself not counted -/
def cIn : (k : Nat) → St k → Nat
  | 0 => fun _ => 0
  | k + 1 => fun s => sumC (sumC fun x => 1 + cIn k x) (StF.regions s)
def cRg (k : Nat) (r : List (St k)) : Nat := sumC (fun x => 1 + cIn k x) r
/-- what is asked of a state, at every depth -/
def NmSt : (k : Nat) → St k → Prop
  | 0 => fun _ => True
  | k + 1 => fun s => NmStF s ∧ ∀ r ∈ StF.regions s, ∀ x ∈ r, NmSt k x
section
variable {ck pb mb nm gv : Nat} {adv : Option Addr} {capv : Nat} {vs : List Decl}
theorem regsE_count {ρ : Type} {R : List ρ → Nat → Res} {cr : List ρ → Nat} : ∀ {l : List (List ρ)} {n m : Nat}, (∀ r ∈ l, ∀ n m, R r n = .ok m → m = n + cr r) → regsE R l n = .ok m → m = n + sumC cr l := by
  intro l
  induction l with
  | nil => intro n m _ h; rw [regsE] at h; injection h with h; rw [sumC]; omega
  | cons r rs ih =>
    intro n m hR h
    rw [regsE] at h
    split at h
    · exact absurd h (by simp)
    · rename_i m' hr
      have h1 := hR r (by simp) _ _ hr
      have h2 := ih (fun r' hr' => hR r' (by simp [hr'])) h
      rw [sumC]; omega
theorem statesE_count {ρ : Type} {R : List ρ → Nat → Res} {cs : StF ρ → Nat} {ns : List Str} : ∀ {l : List (StF ρ)} {i n m : Nat}, (∀ s ∈ l, ∀ n m, regsE R s.regions n = .ok m → m = n + cs s) → statesE vs R ns l i n = .ok m → m = n + sumC (fun s => 1 + cs s) l := by
  intro l
  induction l with
  | nil => intro i n m _ h; rw [statesE] at h; injection h with h; rw [sumC]; omega
  | cons s r ih =>
    intro i n m hR h
    rw [statesE] at h
    split at h
    · exact absurd h (by simp)
    · split at h
      · exact absurd h (by simp)
      · rename_i m' hr
        have h1 := hR s (by simp) _ _ hr
        have h2 := ih (fun s' hs' => hR s' (by simp [hs'])) h
        rw [sumC]; omega
theorem regE_count : ∀ (k : Nat) (r : List (St k)) (n m : Nat), regE vs k r n = .ok m → m = n + cRg k r := by
  intro k
  induction k with
  | zero => intro r n m h; rw [regE] at h; exact absurd h (by simp)
  | succ k ih =>
    intro r n m h
    have h' : regF vs (regE vs k) r n = .ok m := h
    unfold regF at h'
    split at h'
    · exact absurd h' (by simp)
    · rename_i m' hs
      split at h'
      · exact absurd h' (by simp)
      · injection h' with h'
        subst h'
        exact statesE_count (cs := fun s => sumC (sumC fun x => 1 + cIn k x) s.regions) (fun s _ n m hr => regsE_count (fun r _ n m h => ih r n m h) hr) hs
/-- a region at a depth -/
def CkRegOk (ck pb mb nm gv : Nat) (adv : Option Addr) (capv : Nat) (vs : List Decl) (A : Nat → Prop) (k : Nat) : Prop := ∀ (w : World) (l : List (St k)) (v : Value) (n : Nat), CkAt w ck pb mb nm gv adv capv vs n → IsStates A w k l v → (∀ x ∈ l, NmSt k x) → n + cRg k l ≤ 1000000 →
  Calls Tryz.prog 69 #[.pointer (some ⟨ck, 0, none⟩), v] w (RegOut ck pb mb nm gv adv capv vs (regE vs k l n) w)
def RegsOk' (ck pb mb nm gv : Nat) (adv : Option Addr) (capv : Nat) (vs : List Decl) (A : Nat → Prop) (k : Nat) : Prop := ∀ (w : World) (l : List (List (St k))) (v : Value) (n : Nat), CkAt w ck pb mb nm gv adv capv vs n → IsRegs A w (IsStates A w k) l v → (∀ r ∈ l, ∀ x ∈ r, NmSt k x) → n + sumC (cRg k) l ≤ 1000000 →
  Calls Tryz.prog 35 #[.pointer (some ⟨ck, 0, none⟩), v] w (RegOut ck pb mb nm gv adv capv vs (regsE (regE vs k) l n) w)
theorem IsStates.csl {A : Nat → Prop} {w : World} {k : Nat} {l : List (St k)} {v : Value} (h : IsStates A w k l v) : ∃ a b c, v = .slice a b c := by
  cases k with
  | zero => exact ⟨_, _, _, h.2⟩
  | succ k => obtain ⟨ad, g, cap, h1, _⟩ := IsStates.open h; exact ⟨_, _, _, h1⟩
theorem sumC_mem {α : Type} (f : α → Nat) {l : List α} {a : α} (h : a ∈ l) : f a ≤ sumC f l := by
  induction l with
  | nil => simp at h
  | cons b r ih =>
    rw [sumC]
    rcases List.mem_cons.1 h with rfl | h
    · omega
    · have := ih h; omega
theorem sumC_len {α : Type} (f : α → Nat) (l : List α) : l.length ≤ sumC (fun x => 1 + f x) l := by
  induction l with
  | nil => simp
  | cons b r ih => rw [sumC, List.length_cons]; omega
theorem ckregs_of {A : Nat → Prop} (hA : ∀ x, A x → x ≠ ck) {k : Nat} (hR : CkRegOk ck pb mb nm gv adv capv vs A k) : RegsOk' ck pb mb nm gv adv capv vs A k := by
  intro w l v n hC hI hN hb
  obtain ⟨ad, g, cap, rfl, h1, h2, h3⟩ := hI.len
  refine regions_at hC (I := fun w' => IsStates A w' k) (cRg k) rfl h1 (fun w' hF => ?_) (fun r _ n m h => regE_count k r n m h) hb (fun w' r v m hr hF hv hC' hm => hR w' r v m hC' hv (hN r hr) hm)
  have hK : Keep A A w w' := hF.keep fun x hx => by simpa using hA x hx
  have hI' := hI.carry hK (IsStates.carry hK k)
  obtain ⟨ad', g', cap', e, _, q2, q3⟩ := hI'.len
  injection e with e1 e2 e3
  subst e1
  refine ⟨g', fun hp => (q2 hp).1, fun i r hi => ?_⟩
  obtain ⟨u, hu, hIu⟩ := q3 i r hi
  obtain ⟨a, b, c, rfl⟩ := hIu.csl
  exact ⟨a, b, c, hu, hIu⟩
theorem reg_all {A : Nat → Prop} (hA : ∀ x, A x → x ≠ ck) : ∀ k, CkRegOk ck pb mb nm gv adv capv vs A k := by
  intro k
  induction k with
  | zero =>
    intro w l v n hC hI _ hb
    obtain ⟨rfl, rfl⟩ := hI
    have := region_at (ρ := Unit) (cap := 0) (ad := none) (l := []) (N := 0) (R := fun _ n => .ok n) (A := fun _ => True) (Q := fun _ _ _ => True) hC (fun _ => 0) rfl (fun w' _ => ⟨0, fun h => absurd h (by omega), fun i s h => absurd h (by simp)⟩) (fun s h => absurd h (by simp)) (fun s h => absurd h (by simp)) (by rw [Hid, sumC]; have : n + cRg 0 ([] : List (St 0)) ≤ 1000000 := hb; omega) (by omega) (fun _ s _ _ h => absurd h (by simp))
    exact this
  | succ k ih =>
    intro w l v n hC hI hN hb
    obtain ⟨ad, g, cap, rfl, h1, h2, h3⟩ := IsStates.open hI
    have hl : List.length l ≤ 1000000 := by
      have := sumC_len (fun x => cIn (k + 1) x) l
      have hb' : n + sumC (fun x => 1 + cIn (k + 1) x) l ≤ 1000000 := hb
      omega
    refine region_at (ρ := St k) (A := A) (R := regE vs k) (Q := fun w' s v => IsRegs A w' (IsStates A w' k) s.regions v) hC (fun s => cIn (k + 1) s) rfl (fun w' hF => ?_) (fun s hs => (hN s hs).1) (fun s _ n m h => regsE_count (fun r _ n m h => regE_count k r n m h) h) hb hl (fun w' s v m hs hF hv hC' hm => ckregs_of hA ih w' s.regions v m hC' hv (hN s hs).2 hm)
    have hK : Keep A A w w' := hF.keep fun x hx => by simpa using hA x hx
    have hI' : IsStates A w' (k + 1) l (.slice ad (List.length l) cap) := IsStates.carry hK (k + 1) l _ hI
    obtain ⟨ad', g', cap', e, _, q2, q3⟩ := IsStates.open hI'
    injection e with e1 e2 e3
    subst e1
    exact ⟨g', fun hp => q2 hp, q3⟩
end
end Go.Proofs.YtiihgnagjemikaaGreatDoor
/- strconv.ParseInt at this program: laid, no walk. -/
namespace Go.Proofs
open Go.Shelf
def Tryz.laysC174_ren : Go.Shelf.Ren := ⟨fun | 174 => 26 | 247 => 45 | 245 => 46 | 287 => 76 | 279 => 77 | 280 => 78 | 281 => 79 | 282 => 80 | 321 => 112 | 322 => 113 | 316 => 92 | 171 => 115 | 205 => 114 | 243 => 133 | 246 => 29 | 283 => 49 | 284 => 50 | 285 => 51 | 286 => 52 | 129 => 82 | 317 => 81 | 318 => 83 | 319 => 84 | 320 => 85 | 337 => 116 | 338 => 117 | n => n, fun | 9 => 9 | 3 => 3 | 2 => 2 | 75 => 26 | 85 => 72 | 4 => 4 | 167 => 147 | 5 => 5 | 53 => 115 | 175 => 148 | 46 => 150 | 168 => 151 | 37 => 50 | 0 => 0 | 210 => 191 | 21 => 21 | 127 => 75 | 145 => 213 | 143 => 211 | 171 => 114 | 173 => 118 | 212 => 156 | 51 => 113 | 20 => 20 | 213 => 157 | 232 => 214 | 233 => 215 | 80 => 57 | n => n, fun | 15 => 4 | 16 => 5 | 17 => 0 | 18 => 7 | 19 => 8 | n => n⟩
theorem Tryz.laysC174 : Go.Proofs.LaysC.n174 Tryz.prog Tryz.laysC174_ren := {
  mixed := by kernel_rfl
  f129 := Tryz.func82.trans (congrArg some (by kernel_rfl))
  f171 := Tryz.func115.trans (congrArg some (by kernel_rfl))
  f174 := Tryz.func26.trans (congrArg some (by kernel_rfl))
  f205 := Tryz.func114.trans (congrArg some (by kernel_rfl))
  f243 := Tryz.func133.trans (congrArg some (by kernel_rfl))
  f245 := Tryz.func46.trans (congrArg some (by kernel_rfl))
  f246 := Tryz.func29.trans (congrArg some (by kernel_rfl))
  f247 := Tryz.func45.trans (congrArg some (by kernel_rfl))
  f279 := Tryz.func77.trans (congrArg some (by kernel_rfl))
  f280 := Tryz.func78.trans (congrArg some (by kernel_rfl))
  f281 := Tryz.func79.trans (congrArg some (by kernel_rfl))
  f282 := Tryz.func80.trans (congrArg some (by kernel_rfl))
  f283 := Tryz.func49.trans (congrArg some (by kernel_rfl))
  f284 := Tryz.func50.trans (congrArg some (by kernel_rfl))
  f285 := Tryz.func51.trans (congrArg some (by kernel_rfl))
  f286 := Tryz.func52.trans (congrArg some (by kernel_rfl))
  f287 := Tryz.func76.trans (congrArg some (by kernel_rfl))
  f316 := Tryz.func92.trans (congrArg some (by kernel_rfl))
  f317 := Tryz.func81.trans (congrArg some (by kernel_rfl))
  f318 := Tryz.func83.trans (congrArg some (by kernel_rfl))
  f319 := Tryz.func84.trans (congrArg some (by kernel_rfl))
  f320 := Tryz.func85.trans (congrArg some (by kernel_rfl))
  f321 := Tryz.func112.trans (congrArg some (by kernel_rfl))
  f322 := Tryz.func113.trans (congrArg some (by kernel_rfl))
  f337 := Tryz.func116.trans (congrArg some (by kernel_rfl))
  f338 := Tryz.func117.trans (congrArg some (by kernel_rfl))
  t0 := Tryz.underlying0
  a0 := Tryz.isAgg0
  z0 := Tryz.sizeOf0
  v0 := Tryz.zeroValue0
  t2 := Tryz.underlying2
  a2 := Tryz.isAgg2
  z2 := Tryz.sizeOf2
  v2 := Tryz.zeroValue2
  t3 := Tryz.underlying3
  a3 := Tryz.isAgg3
  z3 := Tryz.sizeOf3
  v3 := Tryz.zeroValue3
  t4 := Tryz.underlying4
  a4 := Tryz.isAgg4
  z4 := Tryz.sizeOf4
  v4 := Tryz.zeroValue4
  t5 := Tryz.underlying5
  a5 := Tryz.isAgg5
  z5 := Tryz.sizeOf5
  v5 := Tryz.zeroValue5
  t9 := Tryz.underlying9
  a9 := Tryz.isAgg9
  z9 := Tryz.sizeOf9
  v9 := Tryz.zeroValue9
  t20 := Tryz.underlying20
  a20 := Tryz.isAgg20
  z20 := Tryz.sizeOf20
  v20 := Tryz.zeroValue20
  t21 := Tryz.underlying21
  a21 := Tryz.isAgg21
  z21 := Tryz.sizeOf21
  v21 := Tryz.zeroValue21
  t37 := Tryz.underlying50
  a37 := Tryz.isAgg50
  z37 := Tryz.sizeOf50
  v37 := Tryz.zeroValue50
  t46 := Tryz.underlying150
  a46 := Tryz.isAgg150
  z46 := Tryz.sizeOf150
  v46 := Tryz.zeroValue150
  t51 := Tryz.underlying113
  a51 := Tryz.isAgg113
  z51 := Tryz.sizeOf113
  v51 := Tryz.zeroValue113
  t53 := Tryz.underlying115
  a53 := Tryz.isAgg115
  z53 := Tryz.sizeOf115
  v53 := Tryz.zeroValue115
  t75 := Tryz.underlying26
  a75 := Tryz.isAgg26
  z75 := Tryz.sizeOf26
  v75 := Tryz.zeroValue26
  t85 := Tryz.underlying72
  a85 := Tryz.isAgg72
  z85 := Tryz.sizeOf72
  v85 := Tryz.zeroValue72
  t127 := Tryz.underlying75
  a127 := Tryz.isAgg75
  z127 := Tryz.sizeOf75
  v127 := Tryz.zeroValue75
  t143 := Tryz.underlying211
  a143 := Tryz.isAgg211
  z143 := Tryz.sizeOf211
  v143 := Tryz.zeroValue211
  t145 := Tryz.underlying213
  a145 := Tryz.isAgg213
  z145 := Tryz.sizeOf213
  v145 := Tryz.zeroValue213
  t167 := Tryz.underlying147
  a167 := Tryz.isAgg147
  z167 := Tryz.sizeOf147
  v167 := Tryz.zeroValue147
  t168 := Tryz.underlying151
  a168 := Tryz.isAgg151
  z168 := Tryz.sizeOf151
  v168 := Tryz.zeroValue151
  t171 := Tryz.underlying114
  a171 := Tryz.isAgg114
  z171 := Tryz.sizeOf114
  v171 := Tryz.zeroValue114
  t173 := Tryz.underlying118
  a173 := Tryz.isAgg118
  z173 := Tryz.sizeOf118
  v173 := Tryz.zeroValue118
  t175 := Tryz.underlying148
  a175 := Tryz.isAgg148
  z175 := Tryz.sizeOf148
  v175 := Tryz.zeroValue148
  t210 := Tryz.underlying191
  a210 := Tryz.isAgg191
  z210 := Tryz.sizeOf191
  v210 := Tryz.zeroValue191
  t212 := Tryz.underlying156
  a212 := Tryz.isAgg156
  z212 := Tryz.sizeOf156
  v212 := Tryz.zeroValue156
  t213 := Tryz.underlying157
  a213 := Tryz.isAgg157
  z213 := Tryz.sizeOf157
  t232 := Tryz.underlying214
  a232 := Tryz.isAgg214
  z232 := Tryz.sizeOf214
  v232 := Tryz.zeroValue214
  t233 := Tryz.underlying215
  a233 := Tryz.isAgg215
  z233 := Tryz.sizeOf215
  v233 := Tryz.zeroValue215
  g15 := by kernel_rfl
  g16 := by kernel_rfl
  g17 := by kernel_rfl
  g18 := by kernel_rfl
  g19 := by kernel_rfl
  t80 := Tryz.underlying57
  a80 := Tryz.isAgg57
  z80 := Tryz.sizeOf57
  v80 := Tryz.zeroValue57
  i0 := by kernel_rfl
  i2 := by kernel_rfl
  i3 := by kernel_rfl
  i4 := by kernel_rfl
  i5 := by kernel_rfl
  i9 := by kernel_rfl
  i20 := by kernel_rfl
  i21 := by kernel_rfl
  i37 := by kernel_rfl
  i46 := by kernel_rfl
  i51 := by kernel_rfl
  i53 := by kernel_rfl
  i75 := by kernel_rfl
  i80 := by kernel_rfl
  i85 := by kernel_rfl
  i127 := by kernel_rfl
  i143 := by kernel_rfl
  i145 := by kernel_rfl
  i167 := by kernel_rfl
  i168 := by kernel_rfl
  i171 := by kernel_rfl
  i173 := by kernel_rfl
  i175 := by kernel_rfl
  i210 := by kernel_rfl
  i212 := by kernel_rfl
  i232 := by kernel_rfl
  i233 := by kernel_rfl
  m15 := by kernel_rfl
  m16 := by kernel_rfl
  m17 := by kernel_rfl
  m18 := by kernel_rfl
  m19 := by kernel_rfl
  c0 := by kernel_rfl
  c2 := by kernel_rfl
  c3 := by kernel_rfl
  c4 := by kernel_rfl
  c5 := by kernel_rfl
  c9 := by kernel_rfl
  c20 := by kernel_rfl
  c21 := by kernel_rfl
  c37 := by kernel_rfl
  c46 := by kernel_rfl
  c51 := by kernel_rfl
  c53 := by kernel_rfl
  c75 := by kernel_rfl
  c80 := by kernel_rfl
  c85 := by kernel_rfl
  c127 := by kernel_rfl
  c143 := by kernel_rfl
  c145 := by kernel_rfl
  c167 := by kernel_rfl
  c168 := by kernel_rfl
  c171 := by kernel_rfl
  c173 := by kernel_rfl
  c175 := by kernel_rfl
  c210 := by kernel_rfl
  c212 := by kernel_rfl
  c213 := by kernel_rfl
  c232 := by kernel_rfl
  c233 := by kernel_rfl }
open Go.RowKit in
theorem Tryz.strconv_ParseInt_10_at64_ok (s : ByteArray) (hmax : s.size ≤ 9223372036854775806) (v : Int) (h : Lib.parseIntB 64 s.data.toList = .ok v) (w : World) :
    Calls Tryz.prog 26 #[.string s, .int .i64 10, .int .i64 64] w fun e w' => e = .returned (.tuple #[.int .i64 v, .nilIface]) ∧ (w' = w ∨ ∃ t, w' = Lib.bytesWorld w 5 t) := Any.strconv_ParseInt_10_at64_ok Tryz.laysC174 s hmax v h w
end Go.Proofs
