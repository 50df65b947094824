/- The document's order, walked. -/
import Derived.Test.YtanlfmhlohcmgaaGreatDoorJJo
import Derived.Test.YtanlfmhlohcmgaaGreatDoorJCr
namespace Go.Proofs.YtanlfmhlohcmgaaGreatDoor
open Go.RowKit Px

set_option maxRecDepth 100000 in
set_option maxHeartbeats 16000000 in
theorem jorder_at {ρ : Type} {w : World} {ad : Option Addr} {g n cap : Nat} {l : List (StF ρ)} {oo : Option (List Nat)} (hoo : Hid (orderG (graph l) = oo)) (hd : Hid (Dist (snames l))) (hn : Hid (n = l.length)) (hm : n ≤ 1000000) (ha : 0 < n → ad = some ⟨g, 0, none⟩) (hS : Hid (∀ i s, l[i]? = some s → StO w g i s)) :
    Calls Tryz.prog 10 #[.slice ad n cap] w fun e w' => OrdOut w oo e w' := by
  have HA : Hid (0 < n → ad = some ⟨g, 0, none⟩) := ha
  have hmk := fun X => ck_makeB X n hm
  obtain ⟨ZF, hZF⟩ : ∃ ZF, Hid (ZF = Obj.cells ((List.replicate n false).map Value.bool).toArray 4) := ⟨_, rfl⟩
  rw [← hZF.out] at hmk
  clear ha
  go_enter Tryz.func10, Tryz.ntmps10
  go_wp2_with fail
  clear hmk
  obtain ⟨gt, hgt⟩ : ∃ gt, Hid (gt = w.heap.size) := ⟨_, rfl⟩
  have HS0 : Hid (BoolsAt (w.alloc ZF) gt (List.replicate (graph l).length false) ∧ Below w.heap.size w (w.alloc ZF)) := by
    refine ⟨?_, ck_grown w ZF⟩
    rw [BoolsAt, hgt.out, ck_new, hZF.out, graph_len, ← hn.out]
  rw [← hgt.out]
  clear hZF
  go_loopg [5, 19] n (fun f v i wr => ∃ (r : Nat) (a5 : Option Addr) (c5 : Nat), f = n - r ∧ r ≤ n ∧ v = .slice a5 r c5 ∧ i = .int .i64 (r : Int) ∧ Hid (∃ os T, ordK (graph l) r = some (os, T) ∧ BoolsAt wr gt T ∧ RowN (w.heap.size + 1) wr (.slice a5 r c5) (os.map fun x : Nat => (x : Int)) ∧ Below w.heap.size w wr ∧ w.heap.size + 1 ≤ wr.heap.size))
  case atStart => exact ⟨0, none, 0, by omega, by omega, rfl, rfl, [], _, rfl, HS0.out.1, World.ownsRow_nil _ _ _ _, HS0.out.2, by simp⟩
  case round =>
    obtain ⟨r, a5, c5, rfl, hrk, rfl, rfl, hr⟩ := hrel
    obtain ⟨os, T, hord, hT, hrow, hB, hsz⟩ := hr.out
    clear hr
    obtain ⟨hsh, hol, -⟩ := ordK_shut hord
    have hTl : T.length = n := by rw [hsh.1, graph_len]; exact hn.out.symm
    by_cases hlt : r < n
    · obtain ⟨Wa, hWa⟩ : ∃ Wa, Wa = wr := ⟨_, rfl⟩
      have HR : Hid (ordK (graph l) r = some (os, T) ∧ Px.Shut (graph l) T ∧ os.length = r ∧ T.length = n) := ⟨hord, hsh, hol, hTl⟩
      have HM : Hid (BoolsAt Wa gt T ∧ RowN (w.heap.size + 1) Wa (.slice a5 r c5) (os.map fun x : Nat => (x : Int)) ∧ Below w.heap.size w Wa ∧ w.heap.size + 1 ≤ Wa.heap.size) := by rw [hWa]; exact ⟨hT, hrow, hB, hsz⟩
      rw [← hWa]
      clear hord hT hrow hB hsz hsh hol hTl hWa
      go_wp2_with fail
      go_loopg [6, 23] n (fun f x i wr => ∃ k : Nat, f = n - k ∧ k ≤ n ∧ x = .int .i64 (nxI (nxK (graph l) T k)) ∧ i = .int .i64 (k : Int) ∧ Hid (Below Wa.heap.size Wa wr))
      case atStart => exact ⟨0, by omega, by omega, rfl, rfl, Below.refl _ _⟩
      case round =>
        obtain ⟨k, rfl, hk, rfl, rfl, hr⟩ := hrel
        by_cases hlk : k < n
        · obtain ⟨s, hs⟩ : ∃ s, Hid (l[k]? = some s) := ⟨l[k]'(by rw [← hn.out]; exact hlk), by rw [Hid, List.getElem?_eq_getElem]⟩
          obtain ⟨b1, b2, xe, ye, ze, xd, yd, zd, xl, yl, zl, p, xy, zy, xr, yr, zr, gy, ⟨q0, q1, q2, q3, q4, q5, q6, q7, q8⟩, -, -, -⟩ := (hS.out k s hs.out).below (ck_all HM.out.2.2.1 hr.out)
          obtain ⟨U, hU⟩ : ∃ U, sv s.name = .string U := ⟨_, rfl⟩
          rw [hU] at q0
          have HU : Hid (sv s.name = .string U) := hU
          have hix := ixT ad g n cap k hlk HA.out
          have hixb := ixB (some ⟨gt, 0, none⟩) gt n n k hlk (fun _ => rfl)
          obtain ⟨Wb, hWb⟩ : ∃ Wb, Wb = wr.alloc (.cells #[.string U, .bool b1, .bool b2, .slice xe ye ze, .slice xd yd zd, .slice xl yl zl, .pointer p, .slice xy s.ways.length zy, .slice xr yr zr] 75) := ⟨_, rfl⟩
          have hBb : Below Wa.heap.size Wa Wb := by rw [hWb]; exact ck_all hr.out (ck_grown wr _)
          have hTb : BoolsAt Wb gt T := ck_block hBb HM.out.1
          have ct := hTb.cell k (by rw [HR.out.2.2.2]; exact hlk)
          obtain ⟨tk, htk⟩ : ∃ tk, Hid (T.getD k false = tk) := ⟨_, rfl⟩
          rw [htk.out] at ct
          have HB : Hid (Below Wa.heap.size Wa Wb ∧ Wb.heap[wr.heap.size]? = some (.cells #[.string U, .bool b1, .bool b2, .slice xe ye ze, .slice xd yd zd, .slice xl yl zl, .pointer p, .slice xy s.ways.length zy, .slice xr yr zr] 75 (0, 0))) := ⟨hBb, by rw [hWb]; exact ck_new _ _⟩
          obtain ⟨sb, hsb⟩ : ∃ sb, sb = wr.heap.size := ⟨_, rfl⟩
          obtain ⟨nx, hnx⟩ : ∃ nx, Hid (nxK (graph l) T k = nx) := ⟨_, rfl⟩
          rw [hnx.out]
          obtain ⟨f0, hf0⟩ : ∃ f0, Hid ((!tk && nx.isNone) = f0) := ⟨_, rfl⟩
          go_upto_region 9 with fail
          rw [← hWb]
          rw [← hsb] at HB ⊢
          clear hWb hsb q0 q1 q2 q3 q4 q5 q6 q7 q8 hU hBb hTb hr hix
          go_cut [9] (fun s9 wx => Hid (s9 = .bool f0 ∧ wx = Wb))
          case first =>
            have hff := hf0.out
            cases tk with
            | true =>
              have hBt : f0 = false := by rw [← hff]; rfl
              subst hBt
              go_wp2_with fail
              go_meet
              case rel => exact ⟨rfl, rfl⟩
            | false =>
              cases nx with
              | none =>
                have hBt : f0 = true := by rw [← hff]; rfl
                subst hBt
                unfold nxI
                go_wp2_with fail
                go_meet
                case rel => exact ⟨rfl, rfl⟩
              | some j0 =>
                have hBt : f0 = false := by rw [← hff]; rfl
                subst hBt
                unfold nxI
                have hj0 : ¬ (j0 : Int) < 0 := by omega
                go_wp2_with fail
                go_meet
                case rel => exact ⟨rfl, rfl⟩
          case rest =>
            obtain ⟨hs9, hw9⟩ := hcut.out
            subst hs9
            rw [hw9]
            clear hcut hw9 ct hixb
            go_wp2_with fail
            go_loopg [9, 39] n (fun f x i wr => ∃ j : Nat, f = n - j ∧ j ≤ n ∧ x = .bool (f0 && openK l T s.name j) ∧ i = .int .i64 (j : Int) ∧ Hid (Below Wb.heap.size Wb wr))
            case atStart => exact ⟨0, by omega, by omega, by rw [openK, Bool.and_true], rfl, Below.refl _ _⟩
            case round =>
              obtain ⟨j, rfl, hj, rfl, rfl, hr⟩ := hrel
              by_cases hlj : j < n
              · obtain ⟨t, ht⟩ : ∃ t, Hid (l[j]? = some t) := ⟨l[j]'(by rw [← hn.out]; exact hlj), by rw [Hid, List.getElem?_eq_getElem]⟩
                obtain ⟨b1', b2', xe', ye', ze', xd', yd', zd', xl', yl', zl', p', xy', zy', xr', yr', zr', gy', ⟨q0, q1, q2, q3, q4, q5, q6, q7, q8⟩, hgy, hWy, hNY⟩ := (hS.out j t ht.out).below (ck_all HM.out.2.2.1 (ck_all HB.out.1 hr.out))
                obtain ⟨V, hV⟩ : ∃ V, sv t.name = .string V := ⟨_, rfl⟩
                rw [hV] at q0
                have hix := ixT ad g n cap j hlj HA.out
                obtain ⟨NY, hNYe⟩ : ∃ NY, Hid (t.ways.length = NY) := ⟨_, rfl⟩
                rw [hNYe.out] at q7 hgy hNY
                obtain ⟨Wc, hWc⟩ : ∃ Wc, Wc = wr.alloc (.cells #[.string V, .bool b1', .bool b2', .slice xe' ye' ze', .slice xd' yd' zd', .slice xl' yl' zl', .pointer p', .slice xy' NY zy', .slice xr' yr' zr'] 75) := ⟨_, rfl⟩
                have hBc : Below wr.heap.size wr Wc := by rw [hWc]; exact ck_grown wr _
                have HC : Hid (Below Wb.heap.size Wb Wc) := ck_all hr.out hBc
                have HWY : Hid ((0 < NY → xy' = some ⟨gy', 0, none⟩ ∧ gy' < Wc.heap.size) ∧ WaysAt Wc gy' t.ways) := ⟨fun hp => ⟨(hgy hp).1, Nat.lt_of_lt_of_le (hgy hp).2 hBc.size⟩, hWy.keep fun hp => hBc.block gy' (hgy (by rw [← hNYe.out]; exact hp)).2⟩
                obtain ⟨f1, hf1⟩ : ∃ f1, Hid ((f0 && openK l T s.name j) = f1) := ⟨_, rfl⟩
                rw [hf1.out]
                go_wp2_with fail
                rw [← hWc]
                clear hWc q0 q1 q2 q3 q4 q5 q6 q7 q8 hV hBc hr hix hgy hWy
                go_loopg [9, 47] NY (fun f x i wr => ∃ m : Nat, f = NY - m ∧ m ≤ NY ∧ x = .bool (f1 && opM T s.name j t.ways m) ∧ i = .int .i64 (m : Int) ∧ Hid (Below Wc.heap.size Wc wr))
                case atStart => exact ⟨0, by omega, by omega, by rw [opM, Bool.and_true], rfl, Below.refl _ _⟩
                case round =>
                  obtain ⟨m, rfl, hmN, rfl, rfl, hr⟩ := hrel
                  by_cases hlm : m < NY
                  · obtain ⟨y, hy⟩ : ∃ y, Hid (t.ways[m]? = some y) := ⟨t.ways[m]'(by rw [hNYe.out]; exact hlm), by rw [Hid, List.getElem?_eq_getElem]⟩
                    have hWr : WaysAt wr gy' t.ways := HWY.out.2.keep fun hp => hr.out.block gy' (HWY.out.1 (by rw [← hNYe.out]; exact hp)).2
                    obtain ⟨py, qy, y0, y1, y2, y3, y4, y5, y6, ⟨qa, qn, qc, rfl⟩, -⟩ := hWr m y hy.out
                    obtain ⟨T2, hT2⟩ : ∃ T2, sv y.to = .string T2 := ⟨_, rfl⟩
                    have hse := strE hT2 HU.out
                    rw [hT2] at y5
                    obtain ⟨nw, hnw⟩ : ∃ nw, Hid (y.now = nw) := ⟨_, rfl⟩
                    rw [hnw.out] at y1
                    have hixw := ixW xy' gy' NY zy' m hlm (fun h => (HWY.out.1 h).1)
                    have hixb := ixB (some ⟨gt, 0, none⟩) gt n n j hlj (fun _ => rfl)
                    have hBw : Below Wb.heap.size Wb wr := ck_all HC.out hr.out
                    have hTb : BoolsAt (wr.alloc (.cells #[.int .i64 (y.kind : Int), .bool nw, .pointer py, .int .i64 (y.times : Int), .slice qa qn qc, .string T2, .bool y.back] 77)) gt T := ck_old (ck_block (ck_all HB.out.1 hBw) HM.out.1)
                    have ct := hTb.cell j (by rw [HR.out.2.2.2]; exact hlj)
                    have cs := ck_cell (ck_grown wr (.cells #[.int .i64 (y.kind : Int), .bool nw, .pointer py, .int .i64 (y.times : Int), .slice qa qn qc, .string T2, .bool y.back] 77)) (cell_row (ck_block hBw HB.out.2) 0 (u := .string U) rfl)
                    have HRm : Hid (Below Wc.heap.size Wc (wr.alloc (.cells #[.int .i64 (y.kind : Int), .bool nw, .pointer py, .int .i64 (y.times : Int), .slice qa qn qc, .string T2, .bool y.back] 77))) := ck_all hr.out (ck_grown wr _)
                    obtain ⟨tj, htj⟩ : ∃ tj, Hid (T.getD j false = tj) := ⟨_, rfl⟩
                    rw [htj.out] at ct
                    obtain ⟨fm, hfm⟩ : ∃ fm, Hid ((f1 && opM T s.name j t.ways m) = fm) := ⟨_, rfl⟩
                    obtain ⟨de, hde⟩ : ∃ de, decide (y.to = s.name) = de := ⟨_, rfl⟩
                    have HOP : Hid ((f1 && opM T s.name j t.ways (m + 1)) = (fm && (tj || !nw || !de))) := by
                      rw [Hid, opM, hy.out, ← Bool.and_assoc, hfm.out]
                      show (fm && (T.getD j false || !y.now || decide (y.to ≠ s.name))) = _
                      rw [htj.out, hnw.out, ← hde, decide_not]
                    rw [hfm.out]
                    rw [hde] at hse
                    clear hde hBw hTb hWr hr hT2
                    cases fm with
                    | false =>
                      go_wp2_with fail
                      go_roundg (NY - (m + 1))
                      case measure => omega
                      case rel => exact ⟨m + 1, rfl, by omega, by rw [HOP.out]; rfl, by go_num, HRm.out⟩
                    | true =>
                      cases tj with
                      | true =>
                        go_wp2_with fail
                        go_roundg (NY - (m + 1))
                        case measure => omega
                        case rel => exact ⟨m + 1, rfl, by omega, by rw [HOP.out]; rfl, by go_num, HRm.out⟩
                      | false =>
                        cases nw with
                        | false =>
                          go_wp2_with fail
                          go_roundg (NY - (m + 1))
                          case measure => omega
                          case rel => exact ⟨m + 1, rfl, by omega, by rw [HOP.out]; rfl, by go_num, HRm.out⟩
                        | true =>
                          cases de with
                          | false =>
                            go_wp2_with fail
                            go_roundg (NY - (m + 1))
                            case measure => omega
                            case rel => exact ⟨m + 1, rfl, by omega, by rw [HOP.out]; rfl, by go_num, HRm.out⟩
                          | true =>
                            go_wp2_with fail
                            go_roundg (NY - (m + 1))
                            case measure => omega
                            case rel => exact ⟨m + 1, rfl, by omega, by rw [HOP.out]; rfl, by go_num, HRm.out⟩
                  · obtain rfl : m = NY := by omega
                    have HOP : Hid ((f1 && opM T s.name j t.ways m) = (f0 && openK l T s.name (j + 1))) := by
                      rw [Hid, ← hNYe.out, opM_all, openK, ht.out, ← hf1.out, Bool.and_assoc]
                    rw [HOP.out]
                    have HRm : Hid (Below Wb.heap.size Wb wr) := ck_all HC.out hr.out
                    clear hr
                    go_wp2_with fail
                    go_roundg (n - (j + 1))
                    case measure => omega
                    case rel => exact ⟨j + 1, rfl, by omega, rfl, by go_num, HRm.out⟩
              · obtain rfl : j = n := by omega
                have hnm : (snames l).getD k [] = s.name := snames_at l k s hs.out
                have hfr := free_eq l hd.out (i := k) (by rw [← hn.out]; exact hlk) T
                rw [hnm, ← hn.out, htk.out] at hfr
                have HRm : Hid (Below Wa.heap.size Wa wr) := ck_all HB.out.1 hr.out
                clear hr hnm
                have hff := hf0.out
                cases nx with
                | some j0 =>
                  have hft : f0 = false := by rw [← hff]; simp
                  subst hft
                  have HNX : Hid (nxK (graph l) T (k + 1) = some j0) := by unfold Hid nxK; rw [hnx.out]
                  rw [Bool.false_and]
                  go_wp2_with fail
                  go_roundg (j - (k + 1))
                  case measure => omega
                  case rel => exact ⟨k + 1, rfl, by omega, by rw [HNX.out], by go_num, HRm.out⟩
                | none =>
                  have hft : f0 = !tk := by rw [← hff]; simp
                  rw [hft, ← hfr]
                  obtain ⟨fg, hfg⟩ : ∃ fg, Hid (freeG (graph l) T k = fg) := ⟨_, rfl⟩
                  have HNX : Hid (nxK (graph l) T (k + 1) = if fg then some k else none) := by unfold Hid nxK; rw [hnx.out, hfg.out]
                  rw [hfg.out]
                  clear hfr hft
                  cases fg with
                  | true =>
                    rw [if_pos rfl] at HNX
                    go_wp2_with fail
                    go_roundg (j - (k + 1))
                    case measure => omega
                    case rel => exact ⟨k + 1, rfl, by omega, by rw [HNX.out]; rfl, by go_num, HRm.out⟩
                  | false =>
                    rw [if_neg (by simp)] at HNX
                    go_wp2_with fail
                    go_roundg (j - (k + 1))
                    case measure => omega
                    case rel => exact ⟨k + 1, rfl, by omega, by rw [HNX.out], by go_num, HRm.out⟩
        · obtain rfl : k = n := by omega
          rw [show nxK (graph l) T k = nextG (graph l) T by rw [← nxK_all, graph_len, ← hn.out]]
          have HBW : Hid (Below w.heap.size w wr) := ck_all HM.out.2.2.1 hr.out
          obtain ⟨nx, hnx⟩ : ∃ nx, Hid (nextG (graph l) T = nx) := ⟨_, rfl⟩
          rw [hnx.out]
          cases nx with
          | none =>
            have HN : Hid (orderG (graph l) = none) := by
              have : ordK (graph l) (r + 1) = none := by rw [ordK, HR.out.1]; show (match nextG (graph l) T with | none => none | some j => _) = none; rw [hnx.out]
              have := ordK_none this (s := (graph l).length) (by rw [graph_len, ← hn.out]; omega)
              rw [Hid, orderG, this]; rfl
            unfold nxI
            clear hr
            go_wp2_with fail
            go_ret2
            exact ⟨HBW.out, .inl ⟨hoo.out.symm.trans HN.out, rfl⟩⟩
          | some i0 =>
            obtain ⟨i1, i2, i3⟩ := nextG_some hnx.out
            have hi0 : i0 < k := by rw [graph_len, ← hn.out] at i1; exact i1
            have hTr : BoolsAt wr gt T := ck_block hr.out HM.out.1
            have ct := hTr.cell i0 (by rw [HR.out.2.2.2]; exact hi0)
            have cf := ck_frozen hTr i0
            have hixb := ixB (some ⟨gt, 0, none⟩) gt k k i0 hi0 (fun _ => rfl)
            have hlt' := lt_of_block hTr
            have hrow := HM.out.2.1.below hr.out
            obtain ⟨_, _, hfe, hfk⟩ := hrow.form
            have hgk : ∀ b, (Value.slice a5 r c5).ownBlock = some b → b ≠ gt := fun b hb e => by have := (hfk b hb).1; rw [e, hgt.out] at this; omega
            obtain ⟨Wd, hWd⟩ : ∃ Wd, Wd = wr.setCell ⟨gt, i0, none⟩ (.bool true) := ⟨_, rfl⟩
            have hszd : Wd.heap.size = wr.heap.size := by rw [hWd]; simp [World.setCell]
            have hTd : BoolsAt Wd gt (T.set i0 true) := by rw [hWd]; exact hTr.set i0 true
            have hrd : RowN (w.heap.size + 1) Wd (.slice a5 r c5) (os.map fun x : Nat => (x : Int)) := hrow.keep fun b hb => by rw [hWd]; exact setCell_other (hgk b hb)
            have hBd : Below w.heap.size w Wd := by rw [hWd]; exact HBW.out.setCell (by rw [hgt.out]; exact Nat.le_refl _) _
            have hqd : (Wd.alloc (.cells #[.int .i64 (i0 : Int)] 3)).cell? ⟨wr.heap.size, 0, none⟩ = some (.int .i64 (i0 : Int)) := by rw [← hszd]; exact cell_row (ck_new _ _) 0 rfl
            obtain ⟨gn, cn, We, hap, hre, hge, hgn, -⟩ := ck_appN (w.heap.size + 1) (Wd.alloc (.cells #[.int .i64 (i0 : Int)] 3)) (.slice a5 r c5) (os.map fun x : Nat => (x : Int)) (i0 : Int) wr.heap.size (hrd.below (ck_grown _ _)) hqd (by have := HM.out.2.2.2; have := hr.out.size; simp; omega) (by rw [List.length_map, HR.out.2.2.1]; omega)
            rw [List.length_map, HR.out.2.2.1] at hap hre
            have HE : Hid (ordK (graph l) (r + 1) = some (os ++ [i0], T.set i0 true) ∧ BoolsAt We gt (T.set i0 true) ∧ RowN (w.heap.size + 1) We (.slice (some ⟨gn, 0, none⟩) (r + 1) cn) ((os ++ [i0]).map fun x : Nat => (x : Int)) ∧ Below w.heap.size w We ∧ w.heap.size + 1 ≤ We.heap.size) := by
              refine ⟨?_, ?_, ?_, ?_, ?_⟩
              · rw [ordK, HR.out.1]; show (match nextG (graph l) T with | none => none | some j => some (os ++ [j], T.set j true)) = _; rw [hnx.out]
              · rw [BoolsAt, hge.block gt (by simp; omega) (fun e => hgk gt e.symm rfl)]
                exact ck_old hTd
              · rw [List.map_append]; exact hre
              · refine (hBd.alloc hBd.size _).grown hge (by have := hBd.size; simp; omega) (fun b hb => ?_)
                have := (hfk b hb).1; omega
              · have h1 := hge.size
                have h2 := HM.out.2.2.2
                have h3 := hr.out.size
                have h4 : (Wd.alloc (.cells #[.int .i64 (i0 : Int)] 3)).heap.size = Wd.heap.size + 1 := by simp
                omega
            have hi0n : ¬ (i0 : Int) < 0 := by omega
            unfold nxI
            rw [hWd] at hap
            clear i1 i2 i3 hTr hrow hfe hfk hgk hTd hrd hBd hqd hre hge hgn hr hszd hlt'
            go_wp2_with (at_builtin; refine wpList_app1 rfl (.tmp 80) (.tmp 82) _ rfl _ _ _ rfl rfl hap ?_)
            go_roundg (k - (r + 1))
            case measure => omega
            case rel => exact ⟨r + 1, some ⟨gn, 0, none⟩, cn, rfl, by omega, rfl, by go_num, os ++ [i0], T.set i0 true, HE.out⟩
    · obtain rfl : r = n := by omega
      have HO : Hid (orderG (graph l) = some os) := by rw [Hid, orderG, graph_len, ← hn.out, hord]; rfl
      have HB : Hid (Below w.heap.size w wr ∧ NumsV (fun b => w.heap.size ≤ b) wr (.slice a5 r c5) os) := by
        refine ⟨hB, ?_⟩
        obtain ⟨ad', g', cap', e1, e2, e3⟩ := hrow.nums
        exact ⟨ad', g', cap', e1, fun hp => ⟨(e2 hp).1, by have := (e2 hp).2.1; omega, (e2 hp).2.2⟩, e3⟩
      clear hord hT hrow hB hsz hsh hol hTl
      go_wp2_with fail
      go_ret2
      exact ⟨HB.out.1, .inr ⟨os, _, hoo.out.symm.trans HO.out, rfl, HB.out.2⟩⟩
end Go.Proofs.YtanlfmhlohcmgaaGreatDoor
/- The document's judge: what a region lies in, while the judge counts. -/
namespace Go.Proofs.YtanlfmhlohcmgaaGreatDoor
open Go.RowKit Px

section
variable {A : Nat → Prop} {jb : Nat} {w w' : World}
theorem fr_cell' (hF : Fr w.heap.size [jb] w w') {x o : Nat} (hx : x ≠ jb) {v : Value} (hc : w.cell? ⟨x, o, none⟩ = some v) : w'.cell? ⟨x, o, none⟩ = some v := by
  rw [hF.cell (p := ⟨x, o, none⟩) (World.block_lt_of_cell? w _ hc) (by simpa using hx)]; exact hc
theorem WayM.fr {gy o : Nat} {y : Wy} {p : Option Addr} {q : Value} (h : WayM A w gy o y p q) (hA : ∀ x, A x → x ≠ jb) (hg : gy ≠ jb) (hF : Fr w.heap.size [jb] w w') : WayM A w' gy o y p q := by
  have hK : Keep A A w w' := hF.keep fun x hx => by simpa using hA x hx
  obtain ⟨h0, h1, h2, h3, h4, h5, h6, h7, h8⟩ := h
  exact ⟨fr_cell' hF hg h0, fr_cell' hF hg h1, fr_cell' hF hg h2, fr_cell' hF hg h3, fr_cell' hF hg h4, fr_cell' hF hg h5, fr_cell' hF hg h6, h7.carry hK, h8.carry hK⟩
theorem StM.fr {ρ : Type} {g i : Nat} {s : StF ρ} {ve vd vl : Value} {p ay ar : Option Addr} {gy capy capr : Nat} (h : StM A w g i s ve vd vl p ay ar gy capy capr) (hA : ∀ x, A x → x ≠ jb) (hg : g ≠ jb) (hgy : 0 < s.ways.length → gy ≠ jb) (hF : Fr w.heap.size [jb] w w') : StM A w' g i s ve vd vl p ay ar gy capy capr := by
  have hK : Keep A A w w' := hF.keep fun x hx => by simpa using hA x hx
  refine ⟨fr_cell' hF hg h.c0, fr_cell' hF hg h.c1, fr_cell' hF hg h.c2, fr_cell' hF hg h.c3, fr_cell' hF hg h.c4, fr_cell' hF hg h.c5, fr_cell' hF hg h.c6, fr_cell' hF hg h.c7, fr_cell' hF hg h.c8, h.he.carry hK, h.hd.carry hK, h.hl.carry hK, h.hp.carry hK, h.hw.1, fun hp => ⟨(h.hw.2.1 hp).1, Nat.lt_of_lt_of_le (h.hw.2.1 hp).2 hF.size⟩, fun m y hm => ?_⟩
  obtain ⟨p', q', hq⟩ := h.hw.2.2 m y hm
  exact ⟨p', q', hq.fr hA (hgy (by have := (List.getElem?_eq_some_iff.1 hm).1; omega)) hF⟩
end
theorem IsWays.openA {A : Nat → Prop} {w : World} {l : List Wy} {v : Value} (h : IsWays A w l v) :
    ∃ ad g cap, v = .slice ad l.length cap ∧ l.length ≤ maxLen ∧ (0 < l.length → ad = some ⟨g, 0, none⟩ ∧ A g ∧ g < w.heap.size) ∧ ∀ (i : Nat) (y : Wy), l[i]? = some y → ∃ p q, WayM A w g (i * 7) y p q := by
  obtain ⟨xs, hr, hs⟩ := h
  obtain ⟨ad, g, cap, h1, h2, h3, h4⟩ := Row.open (k := 7) (fun a c ⟨p, q, hc, _⟩ => by rw [hc]; rfl) hr hs
  refine ⟨ad, g, cap, h1, h2, h3, fun i a hi => ?_⟩
  obtain ⟨c, ⟨p, q, rfl, hp, hq⟩, hx⟩ := h4 i a hi
  obtain ⟨u, rfl⟩ := hp.pt'
  exact ⟨u, q, hx 0 _ rfl, hx 1 _ rfl, hx 2 _ rfl, hx 3 _ rfl, hx 4 _ rfl, hx 5 _ rfl, hx 6 _ rfl, hp, hq⟩
theorem IsRegs.openA {ρ : Type} {A : Nat → Prop} {w : World} {I : List ρ → Value → Prop} {l : List (List ρ)} {v : Value} (h : IsRegs A w I l v) : ∃ ad g cap, v = .slice ad l.length cap ∧ l.length ≤ maxLen ∧ (0 < l.length → ad = some ⟨g, 0, none⟩ ∧ A g ∧ g < w.heap.size) ∧ ∀ (i : Nat) (r : List ρ), l[i]? = some r → ∃ u, w.cell? ⟨g, i, none⟩ = some u ∧ I r u := by
  obtain ⟨xs, hr, hs⟩ := h
  obtain ⟨ad, g, cap, h1, h2, h3, h4⟩ := Row.open (k := 1) (fun a c ⟨u, hc, _⟩ => by rw [hc]; rfl) hr hs
  refine ⟨ad, g, cap, h1, h2, h3, fun i a hi => ?_⟩
  obtain ⟨c, ⟨u, rfl, hu⟩, hx⟩ := h4 i a hi
  have := hx 0 u rfl
  rw [Nat.mul_one, Nat.add_zero] at this
  exact ⟨u, this, hu⟩
theorem Row.cap {A : Nat → Prop} {w : World} {e size n : Nat} {ad : Option Addr} {m cap : Nat} {xs : List Value} (h : Row A w e size (.slice ad m cap) n xs) : n ≤ cap ∧ cap ≤ maxLen := by
  rcases h.1.2 with ⟨h1, h2⟩ | ⟨g, cap', cur, h1, _, _, h2, h3, _⟩
  · injection h1 with e1 e2 e3
    rw [e3, h2]; exact ⟨Nat.le_refl _, Nat.zero_le _⟩
  · injection h1 with e1 e2 e3
    rw [e3]; exact ⟨h2, h3⟩
/-- what stands in a state's regions, as it lies -/
def RegC' {ρ : Type} (I : World → List ρ → Value → Prop) (w : World) (gr : Nat) (l : List (List ρ)) : Prop := ∀ (i : Nat) (r : List ρ), l[i]? = some r → ∃ a b c, w.cell? ⟨gr, i, none⟩ = some (.slice a b c) ∧ I w r (.slice a b c)
/-- a region's states, as they lie, while the judge counts -/
def RegMemF {ρ : Type} (A : Nat → Prop) (jb : Nat) (w : World) (ad : Option Addr) (N cap : Nat) (l : List (StF ρ)) (I : World → List ρ → Value → Prop) : Prop := ∃ g, (0 < N → ad = some ⟨g, 0, none⟩) ∧ (N ≤ cap ∧ cap ≤ maxLen) ∧ ∀ (i : Nat) (s : StF ρ), l[i]? = some s → ∃ ve vd vl p ay ar gy capy capr gr, (0 < s.regions.length → ar = some ⟨gr, 0, none⟩) ∧ s.regions.length ≤ maxLen ∧ ∀ w', Fr w.heap.size [jb] w w' → StM A w' g i s ve vd vl p ay ar gy capy capr ∧ RegC' I w' gr s.regions
theorem IsStates.memF {A : Nat → Prop} {jb : Nat} {w : World} {k : Nat} {l : List (StF (St k))} {ad : Option Addr} {N cap : Nat} (hA : ∀ x, A x → x ≠ jb) (h : IsStates A w (k + 1) l (.slice ad N cap)) : N = l.length ∧ RegMemF A jb w ad N cap l (fun w' => IsStates A w' k) := by
  obtain ⟨xs, hr, hs⟩ := h
  have hcap := Row.cap hr
  obtain ⟨ad', g, cap', h1, h2, h3, h4⟩ := Row.open (k := 9) (fun a c ⟨e, d, l, p, y, r, hc, _⟩ => by rw [hc]; rfl) hr hs
  injection h1 with e1 e2 e3
  subst e1; subst e2; subst e3
  refine ⟨rfl, g, fun hp => (h3 hp).1, hcap, fun i s hi => ?_⟩
  have hp : 0 < l.length := by have := (List.getElem?_eq_some_iff.1 hi).1; omega
  obtain ⟨c, ⟨e, d, l', p, y, r, rfl, q1, q2, q3, q4, q5, q6⟩, hx⟩ := h4 i s hi
  obtain ⟨u, rfl⟩ := q4.pt'
  obtain ⟨ay, gy, capy, rfl, y1, y2, y3⟩ := q5.openA
  obtain ⟨ar, gr, capr, rfl, r1, r2, r3⟩ := q6.openA
  have hM : StM A w g i s e d l' u ay ar gy capy capr := ⟨hx 0 _ rfl, hx 1 _ rfl, hx 2 _ rfl, hx 3 _ rfl, hx 4 _ rfl, hx 5 _ rfl, hx 6 _ rfl, hx 7 _ rfl, hx 8 _ rfl, q1, q2, q3, q4, y1, fun hp => ⟨(y2 hp).1, (y2 hp).2.2⟩, y3⟩
  refine ⟨e, d, l', u, ay, ar, gy, capy, capr, gr, fun hp => (r2 hp).1, r1, fun w' hF => ⟨hM.fr hA (hA g (h3 hp).2.1) (fun hp => hA gy (y2 hp).2.1) hF, fun i' r' hi' => ?_⟩⟩
  obtain ⟨u', hu', hI⟩ := r3 i' r' hi'
  have hpr : 0 < s.regions.length := by have := (List.getElem?_eq_some_iff.1 hi').1; omega
  have hK : Keep A A w w' := hF.keep fun x hx => by simpa using hA x hx
  have hI' := IsStates.carry hK k r' u' hI
  obtain ⟨a, b, c, rfl⟩ := hI'.csl
  exact ⟨a, b, c, fr_cell' hF (hA gr (r2 hpr).2.1) hu', hI'⟩

section
variable {jb mk nm : Nat} {vs : List Decl}
theorem JdAt.fr {w w' : World} {n n' : Nat} (h : JdAt w jb mk nm vs n) (hF : Fr w.heap.size [jb] w w') (hb : w'.heap[jb]? = some (.cells #[.map (some mk), .int .i64 (n' : Int)] 58 (0, 0))) : JdAt w' jb mk nm vs n' :=
  ⟨hb, h.map.keep (hF.block mk h.map.lt (by simpa using Ne.symm h.ne)), h.pos, h.ne⟩
/-- what a region comes to, by the document -/
def JOut (jb mk nm : Nat) (vs : List Decl) (res : Res) (w : World) (e : Ending) (w' : World) : Prop :=
  Fr w.heap.size [jb] w w' ∧ ((∃ m, res = .ok m ∧ e = .returned (.agg #[.int .i64 0, .int .i64 (-1)]) ∧ JdAt w' jb mk nm vs m) ∨ ∃ c p, res = .error (c, p) ∧ e = .returned (.agg #[.int .i64 ((c : Nat) : Int), .int .i64 ((p : Nat) : Int)]))
end
theorem resultsJ (tmps : Array Value) (W : World) (e : Nat) (fe : Array Value) (hse : fe.size = 2) (hq : tmps[4]?.getD undef = .pointer (some ⟨e, 0, none⟩)) (he : W.heap[e]? = some (.cells fe 28 (0, 0))) :
    (results Tryz.f23 tmps).run Tryz.prog W = .ok (.agg fe) W := by
  simp [results, Tryz.results23, hq, asAddr, load28 hse he]
end Go.Proofs.YtanlfmhlohcmgaaGreatDoor
