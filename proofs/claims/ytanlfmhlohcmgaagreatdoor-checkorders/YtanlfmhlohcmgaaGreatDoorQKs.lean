/- keep's ordered: in each region each state stands once in the order, ahead of those to which its ways lead at once. -/
import Derived.Test.YtanlfmhlohcmgaaGreatDoorQKo
import Derived.Test.YtanlfmhlohcmgaaGreatDoorQCs4
import Derived.Test.YtanlfmhlohcmgaaGreatDoorQLaidK
namespace Go.Proofs.YtanlfmhlohcmgaaGreatDoor
open Go.RowKit Px
namespace Kx

/-- a region in memory, with what its states' own regions answer -/
def OrdReg {ρ : Type} (w : World) (r : List (StF ρ)) (a : Option Addr) : Prop :=
  ∃ gr, (0 < r.length → a = some ⟨gr, 0, none⟩) ∧ r.length ≤ 1000000 ∧ StsAt w gr r ∧ OrdOk r ∧ ∀ i s, r[i]? = some s → ∃ ar n capr, w.cell? ⟨gr, i * 9 + 8, none⟩ = some (.slice ar n capr) ∧
    ∀ w', Below w.heap.size w w' → Calls Tryz.prog 15 #[.slice ar n capr] w' fun e w'' => e = .returned (.bool true) ∧ Hid (Below w'.heap.size w' w'')
/-- the two maps, as they stand -/
structure OMaps (W wr : World) (ma mb n : Nat) (f : Nat → Option Nat) (m : Nat) (h : Str → Option Nat) : Prop where
  num : MapN wr ma n f
  nam : MapF wr mb m h
  fr : Fr W.heap.size [ma, mb] W wr
theorem OMaps.below {W wr wr' : World} {ma mb n m : Nat} {f : Nat → Option Nat} {h : Str → Option Nat} (o : OMaps W wr ma mb n f m h) (hb : Below wr.heap.size wr wr') : OMaps W wr' ma mb n f m h :=
  ⟨o.num.below hb, o.nam.below hb, o.fr.trans ((Fr.of_below hb _).mono o.fr.size (fun _ hx _ => hx))⟩
theorem OMaps.up {w W wr : World} {ma mb n m : Nat} {f : Nat → Option Nat} {h : Str → Option Nat} (o : OMaps W wr ma mb n f m h) (hb : Below w.heap.size w W) (h1 : w.heap.size ≤ ma) (h2 : w.heap.size ≤ mb) : Below w.heap.size w wr :=
  hb.trans ((o.fr.mono hb.size (X' := []) (fun x hx hlt => by simp at hx; omega)).below)
theorem mkmapN (w : World) : (Instr.makeMap 82 none).run Tryz.prog w = .ok (.map (some w.heap.size)) (w.alloc (.map #[] 0)) := by kernel_rfl
theorem mkmapS (w : World) : (Instr.makeMap 56 none).run Tryz.prog w = .ok (.map (some w.heap.size)) (w.alloc (.map #[] 0)) := by kernel_rfl

set_option maxRecDepth 100000 in
set_option maxHeartbeats 8000000 in
theorem ordered_at {ρ : Type} {w : World} {ad : Option Addr} {N cap : Nat} {L : List (List (StF ρ))} (hn : Hid (N = L.length)) (hNm : N ≤ maxLen)
    (hmem : Hid (∃ g, (0 < N → ad = some ⟨g, 0, none⟩) ∧ ∀ i r, L[i]? = some r → ∃ a c, w.cell? ⟨g, i, none⟩ = some (.slice a r.length c) ∧ OrdReg w r a)) :
    Calls Tryz.prog 15 #[.slice ad N cap] w fun e w' => e = .returned (.bool true) ∧ Hid (Below w.heap.size w w') := by
  have hN6 : (N : Int) ≤ 9223372036854775807 := by unfold maxLen at hNm; omega
  clear hNm
  go_enter Tryz.func15, Tryz.ntmps15
  go_wp2_with fail
  go_loopg [3] N (fun f i wr => ∃ k : Nat, f = N - k ∧ k ≤ N ∧ i = .int .i64 (k : Int) ∧ Hid (Below w.heap.size w wr))
  case atStart => exact ⟨0, by omega, by omega, rfl, Below.refl _ _⟩
  case round =>
    obtain ⟨k, rfl, hk, rfl, hr⟩ := hrel
    by_cases hlt : k < N
    · obtain ⟨r, hs⟩ : ∃ r, L[k]? = some r := ⟨L[k]'(by rw [← hn.out]; exact hlt), by rw [List.getElem?_eq_getElem]⟩
      obtain ⟨g, hg, hg2⟩ := hmem.out
      obtain ⟨a, c, hcell, gr, ha, hlen, hS, ⟨o, hord, hD, hto⟩, hin⟩ := hg2 k r hs
      have hix := ixR ad g N cap k hlt hg
      have hcw := ck_cell hr.out hcell
      obtain ⟨n, hnr⟩ : ∃ n, n = r.length := ⟨_, rfl⟩
      rw [← hnr] at hcw ha hlen
      obtain ⟨f1, f2, f3, f4, f5⟩ := order_fair hord
      rw [graph_len, ← hnr] at f1 f3 f4 f5
      have hcO : Calls Tryz.prog 11 #[.slice a n c] wr fun e w' => ∃ ao co, e = .returned (.tuple #[.slice ao n co, .bool true]) ∧ Hid (Below wr.heap.size wr w' ∧ ∃ go, (0 < n → ao = some ⟨go, 0, none⟩ ∧ go < w'.heap.size) ∧ ∀ p, p < n → w'.cell? ⟨go, p, none⟩ = some (.int .i64 ((o.getD p 0 : Nat) : Int))) :=
        (order_at (cap := c) (oo := some o) hord hnr hlen ha (hS.below hr.out)).mono fun e w' ⟨hb, ho⟩ => by
          rcases ho with ⟨he, _⟩ | ⟨o', v, he, h1, ao, go, co, rfl, h2, h3⟩
          · simp at he
          · injection he with he
            subst he
            rw [f1] at h1 h2 h3
            exact ⟨ao, co, h1, hb, go, fun hp => ⟨(h2 hp).1, (h2 hp).2.2⟩, h3⟩
      have HIN : Hid (∀ i s, r[i]? = some s → ∃ ar n capr, w.cell? ⟨gr, i * 9 + 8, none⟩ = some (.slice ar n capr) ∧ ∀ w', Below w.heap.size w w' → Calls Tryz.prog 15 #[.slice ar n capr] w' fun e w'' => e = .returned (.bool true) ∧ Hid (Below w'.heap.size w' w'')) := hin
      have HS : Hid (StsAt w gr r) := hS
      have HF : Hid (n = r.length ∧ o.length = n ∧ Once o ∧ (∀ k ∈ o, k < n) ∧ (∀ k, k < n → ∃ p, posK o o.length k = some p) ∧ (∀ k j, k < n → j < n → some j ∈ (graph r).getD k [] → ∀ p q, posK o o.length k = some p → posK o o.length j = some q → p < q) ∧ Dist (snames r) ∧ ∀ s ∈ r, ∀ y ∈ s.ways, ∃ i, fnd (snames r) y.to = some i) := ⟨hnr, f1, f2, f3, f4, f5, hD, hto⟩
      have HA : Hid (0 < n → a = some ⟨gr, 0, none⟩) := ha
      have HBr : Hid (Below w.heap.size w wr) := hr.out
      have hm1 := mkmapN
      have hm2 := mkmapS
      clear hr hs hg hg2 hcell ha hS hord hD hto hin hnr f1 f2 f3 f4 f5
      go_wp2_with (refine hcO.mono ?_; rintro e w1 ⟨ao, co, rfl, h1⟩)
      clear hcO hix hcw
      obtain ⟨W, hW⟩ : ∃ W, W = (w1.alloc (.map #[] 0)).alloc (.map #[] 0) := ⟨_, rfl⟩
      obtain ⟨ma, hma⟩ : ∃ ma, ma = w1.heap.size := ⟨_, rfl⟩
      obtain ⟨mb, hmb⟩ : ∃ mb, mb = w1.heap.size + 1 := ⟨_, rfl⟩
      have HB1 : Below w.heap.size w w1 := ck_all HBr.out h1.out.1
      have HBW : Hid (Below w.heap.size w W ∧ w.heap.size ≤ ma ∧ w.heap.size ≤ mb ∧ ma ≠ mb) := by
        refine ⟨?_, by rw [hma]; exact HB1.size, by have := HB1.size; omega, by omega⟩
        rw [hW]
        exact (HB1.alloc HB1.size _).alloc (by have := HB1.size; simp; omega) _
      have HM0 : Hid (OMaps W W ma mb 0 (posK o 0) 0 (namK (snames r) 0)) := by
        refine ⟨?_, ?_, Fr.refl _ _ _⟩
        · rw [hW, hma]
          exact ((mapN_made w1).keep (Below.heap_alloc _ _ _ (by simp))).like fun _ => rfl
        · rw [hW, hmb]
          have := mapF_made (w1.alloc (.map #[] 0))
          rw [show (w1.alloc (.map #[] 0)).heap.size = w1.heap.size + 1 by simp] at this
          exact this.like fun _ => rfl
      obtain ⟨-, go, hgo, hgc⟩ := h1.out
      have HO : Hid (0 < n → ao = some ⟨go, 0, none⟩) := fun hp => (hgo hp).1
      have HOC : Hid (∀ X, Fr W.heap.size [ma, mb] W X → ∀ p, p < n → X.cell? ⟨go, p, none⟩ = some (.int .i64 ((o.getD p 0 : Nat) : Int))) := fun X hF p hp => by
        have hg1 := (hgo (by omega)).2
        have hsz : W.heap.size = w1.heap.size + 1 + 1 := by rw [hW]; simp
        rw [hF.cell (p := ⟨go, p, none⟩) (by show go < _; omega) (by simp; omega)]
        rw [← hgc p hp]
        refine World.cell?_of_block (w := w1) ?_
        show W.heap[go]? = w1.heap[go]?
        rw [hW, Below.heap_alloc _ _ _ (by simp; omega), Below.heap_alloc _ _ _ hg1]
      rw [← hW, ← hmb, ← hma]
      clear hW hma hmb HB1 hgo hgc h1 hm1 hm2
      go_loopg [9] n (fun f i wr => ∃ p : Nat, f = n - p ∧ p ≤ n ∧ i = .int .i64 (p : Int) ∧ Hid (OMaps W wr ma mb p (posK o p) 0 (namK (snames r) 0)))
      case atStart => exact ⟨0, by omega, by omega, rfl, HM0.out⟩
      case round =>
        obtain ⟨p, rfl, hp, rfl, hr⟩ := hrel
        by_cases hlt : p < n
        · have hc := HOC.out wr hr.out.fr p hlt
          have hix := ixI ao go n co p hlt HO.out
          obtain ⟨s, hs⟩ : ∃ s, s = o.getD p 0 := ⟨_, rfl⟩
          rw [← hs] at hc
          have hsn : s < n := HF.out.2.2.2.1 s (by rw [hs]; exact (mem_getD _ _).2 ⟨p, by have := HF.out.2.1; omega, rfl⟩)
          obtain ⟨w2, hrun, hM2, hg⟩ := hr.out.num.put (s := s) (i := p) (by unfold maxLen; omega) (by omega) (by rw [hs]; exact posK_fresh HF.out.2.2.1 (by have := HF.out.2.1; omega)) (by omega)
          have H2 : Hid (OMaps W w2 ma mb (p + 1) (posK o (p + 1)) 0 (namK (snames r) 0)) := by
            refine ⟨hM2.like fun t => by rw [posK, hs], hr.out.nam.keep (hg.block _ hr.out.nam.lt (by have := HBW.out.2.2.2; simp; omega)), hr.out.fr.grown hg hr.out.fr.size (fun b hb => .inr (by cases hb; simp))⟩
          clear hr hM2 hg hs hsn
          go_wp2_with fail
          go_roundg (n - (p + 1))
          case measure => omega
          case rel => exact ⟨p + 1, rfl, by omega, by go_num, H2.out⟩
        · obtain rfl : n = p := by omega
          have HM1 : Hid (OMaps W wr ma mb n (posK o n) 0 (namK (snames r) 0)) := hr.out
          have hnum := hr.out.num
          clear hr HM0
          go_wp2_with (at_len; refine wpList_nLen _ rfl _ rfl ma n (posK o n) rfl hnum ?_)
          clear hnum
          go_loopg [10] n (fun f i wr => ∃ p : Nat, f = n - p ∧ p ≤ n ∧ i = .int .i64 (p : Int) ∧ Hid (OMaps W wr ma mb n (posK o n) p (namK (snames r) p)))
          case atStart => exact ⟨0, by omega, by omega, rfl, HM1.out⟩
          case round =>
            obtain ⟨p, rfl, hp, rfl, hr⟩ := hrel
            by_cases hlt : p < n
            · obtain ⟨s, hs⟩ : ∃ s, r[p]? = some s := ⟨r[p]'(by rw [← HF.out.1]; exact hlt), by rw [List.getElem?_eq_getElem]⟩
              have hbw := hr.out.up HBW.out.1 HBW.out.2.1 HBW.out.2.2.1
              have hst := HS.out.below hbw p s hs
              have hc := hst.2.1
              have hix := ixT a gr n c p hlt HA.out
              obtain ⟨w2, hrun, hM2, hg⟩ := hr.out.nam.put (s := s.name) (i := p) (by unfold maxLen; omega) hst.2.2.2.1 (by omega)
              have H2 : Hid (OMaps W w2 ma mb n (posK o n) (p + 1) (namK (snames r) (p + 1))) := by
                refine ⟨hr.out.num.keep (hg.block _ hr.out.num.lt (by have := HBW.out.2.2.2; simp; omega)), hM2.like fun t => by rw [namK, snames_at r p s hs], hr.out.fr.grown hg hr.out.fr.size (fun b hb => .inr (by cases hb; simp))⟩
              clear hr hM2 hg hs hst hbw
              generalize sv s.name = S at hc hrun
              go_wp2_with fail
              go_roundg (n - (p + 1))
              case measure => omega
              case rel => exact ⟨p + 1, rfl, by omega, by go_num, H2.out⟩
            · obtain rfl : n = p := by omega
              have HM2 : Hid (OMaps W wr ma mb n (posK o n) n (namK (snames r) n)) := hr.out
              clear hr HM1
              go_wp2_with fail
              go_loopg [11] n (fun f i wr => ∃ p : Nat, f = n - p ∧ p ≤ n ∧ i = .int .i64 (p : Int) ∧ Hid (OMaps W wr ma mb n (posK o n) n (namK (snames r) n)))
              case atStart => exact ⟨0, by omega, by omega, rfl, HM2.out⟩
              case round =>
                obtain ⟨p, rfl, hp, rfl, hr⟩ := hrel
                clear HM2
                by_cases hlt : p < n
                · obtain ⟨s, hs⟩ : ∃ s, r[p]? = some s := ⟨r[p]'(by rw [← HF.out.1]; exact hlt), by rw [List.getElem?_eq_getElem]⟩
                  have hbw := hr.out.up HBW.out.1 HBW.out.2.1 HBW.out.2.2.1
                  obtain ⟨q0, -, -, -, q4, ay, gy, capy, q5, q6, q7⟩ := HS.out p s hs
                  have hix := ixT a gr n c p hlt HA.out
                  obtain ⟨M, hM⟩ : ∃ M, M = s.ways.length := ⟨_, rfl⟩
                  rw [← hM] at q4 q5 q6
                  obtain ⟨ar, nr, capr, q8, hin⟩ := HIN.out p s hs
                  have HRM : Hid (M = s.ways.length ∧ r[p]? = some s) := ⟨hM, hs⟩
                  have HQ : Hid (w.cell? ⟨gr, p * 9 + 7, none⟩ = some (.slice ay M capy) ∧ (0 < M → ay = some ⟨gy, 0, none⟩ ∧ gy < w.heap.size) ∧ WaysAt w gy s.ways) := ⟨q5, q6, q7⟩
                  have HQ8 : Hid (w.cell? ⟨gr, p * 9 + 8, none⟩ = some (.slice ar nr capr)) := q8
                  have HI : Hid (∀ w', Below w.heap.size w w' → Calls Tryz.prog 15 #[.slice ar nr capr] w' fun e w'' => e = .returned (.bool true) ∧ Hid (Below w'.heap.size w' w'')) := hin
                  have HM3 : Hid (OMaps W wr ma mb n (posK o n) n (namK (snames r) n)) := hr.out
                  clear hr hbw hs hM q0 q5 q6 q7 q8 hin
                  go_wp2_with fail
                  go_loopg [12] M (fun f i wr => ∃ m : Nat, f = M - m ∧ m ≤ M ∧ i = .int .i64 (m : Int) ∧ Hid (OMaps W wr ma mb n (posK o n) n (namK (snames r) n)))
                  case atStart => exact ⟨0, by omega, by omega, rfl, HM3.out⟩
                  case round =>
                    obtain ⟨m, rfl, hm, rfl, hr⟩ := hrel
                    clear HM3
                    have hbw := hr.out.up HBW.out.1 HBW.out.2.1 HBW.out.2.2.1
                    have c7 := ck_cell hbw HQ.out.1
                    by_cases hltm : m < M
                    · obtain ⟨y, hy⟩ : ∃ y, s.ways[m]? = some y := ⟨s.ways[m]'(by rw [← HRM.out.1]; exact hltm), by rw [List.getElem?_eq_getElem]⟩
                      have hiw := ixW ay gy M capy m hltm (fun hp => (HQ.out.2.1 hp).1)
                      obtain ⟨pp, q, y0, y1, y2, y3, y4, y5, y6, ⟨qa, qn, qc, rfl⟩, y7⟩ := HQ.out.2.2 m y hy
                      have y0 := ck_cell hbw y0
                      have y1 := ck_cell hbw y1
                      have y2 := ck_cell hbw y2
                      have y3 := ck_cell hbw y3
                      have y4 := ck_cell hbw y4
                      have y5 := ck_cell hbw y5
                      have y6 := ck_cell hbw y6
                      have hym := List.mem_of_getElem? hy
                      have HM4 : Hid (OMaps W wr ma mb n (posK o n) n (namK (snames r) n)) := hr.out
                      obtain ⟨S, hS⟩ : ∃ S, Value.string S = sv y.to := ⟨_, rfl⟩
                      rw [← hS] at y5
                      have z1 := fun b => cell_row (ck_new wr (.cells #[.int .i64 (y.kind : Int), .bool b, .pointer pp, .int .i64 (y.times : Int), .slice qa qn qc, .string S, .bool y.back] 77)) 1 (u := .bool b) rfl
                      have z5 := fun b => cell_row (ck_new wr (.cells #[.int .i64 (y.kind : Int), .bool b, .pointer pp, .int .i64 (y.times : Int), .slice qa qn qc, .string S, .bool y.back] 77)) 5 (u := .string S) rfl
                      have HG : Hid (∀ b, OMaps W (wr.alloc (.cells #[.int .i64 (y.kind : Int), .bool b, .pointer pp, .int .i64 (y.times : Int), .slice qa qn qc, .string S, .bool y.back] 77)) ma mb n (posK o n) n (namK (snames r) n)) := fun b => HM4.out.below (ck_grown _ _)
                      cases hnow : y.now with
                      | false =>
                        rw [hnow] at y1
                        have z1 := z1 false
                        clear z5 hr hbw hym hS y7
                        go_wp2_with fail
                        go_roundg (M - (m + 1))
                        case measure => omega
                        case rel => exact ⟨m + 1, rfl, by omega, by go_num, HG.out false⟩
                      | true =>
                        rw [hnow] at y1
                        have z1 := z1 true
                        have z5 := z5 true
                        obtain ⟨g1, g2, g3, g4, g5, g6, g7, g8⟩ := HF.out
                        obtain ⟨j, hj⟩ := g8 s (List.mem_of_getElem? HRM.out.2) y hym
                        have hjn : j < n := by have := (fnd_some hj).1; rw [snames_len, ← g1] at this; exact this
                        rw [g2] at g5 g6
                        obtain ⟨a1, ha1⟩ := g5 p hlt
                        obtain ⟨b1, hb1⟩ := g5 j hjn
                        have hab := g6 p j hlt hjn (by
                          rw [graph_at r p s HRM.out.2, tosF]
                          exact List.mem_map.2 ⟨y, hym, by rw [hnow, if_pos rfl, hj]⟩) a1 b1 ha1 hb1
                        have hge : ¬ ((b1 : Nat) : Int) ≤ ((a1 : Nat) : Int) := by omega
                        have hnm : namK (snames r) n y.to = some j := by
                          have := namK_fnd g7 hj
                          rwa [snames_len, ← g1] at this
                        have l1 := (HG.out true).num.look1 (s := p) (by omega)
                        have l2 := (HG.out true).nam.look1 (s := y.to) y7
                        have l3 := (HG.out true).num.look1 (s := j) (by omega)
                        rw [ha1] at l1
                        rw [hnm, ← hS] at l2
                        rw [hb1] at l3
                        simp only [Option.getD_some] at l1 l2 l3
                        clear hr hbw hym hS y7 g1 g2 g3 g4 g5 g6 g7 g8 hj hjn ha1 hb1 hab hnm hnow
                        go_wp2_with fail
                        go_roundg (M - (m + 1))
                        case measure => omega
                        case rel => exact ⟨m + 1, rfl, by omega, by go_num, HG.out true⟩
                    · obtain rfl : M = m := by omega
                      have HM4 : Hid (OMaps W wr ma mb n (posK o n) n (namK (snames r) n)) := hr.out
                      have c8 := ck_cell hbw HQ8.out
                      have hcall := HI.out wr hbw
                      clear hr hbw
                      go_wp2_with (refine hcall.mono ?_; rintro e w5 ⟨rfl, hb5⟩)
                      go_roundg (n - (p + 1))
                      case measure => omega
                      case rel => exact ⟨p + 1, rfl, by omega, by go_num, HM4.out.below hb5.out⟩
                · obtain rfl : n = p := by omega
                  have HB9 : Hid (Below w.heap.size w wr) := hr.out.up HBW.out.1 HBW.out.2.1 HBW.out.2.2.1
                  clear hr
                  go_wp2_with fail
                  go_roundg (N - (k + 1))
                  case measure => omega
                  case rel => exact ⟨k + 1, rfl, by omega, by go_num, HB9.out⟩
    · obtain rfl : k = N := by omega
      go_wp2_with fail
      go_ret
      exact ⟨rfl, hr.out⟩
end Kx
end Go.Proofs.YtanlfmhlohcmgaaGreatDoor
/- The charts that keep's laws draw first: what they draw, and what Check says of them. -/
namespace Go.Proofs.YtanlfmhlohcmgaaGreatDoor
open Go.RowKit Px
namespace Kx

/-- a text's tokens, one by one -/
def lexF : Nat → List UInt8 → Nat → Option (List Lx.Tok)
  | 0, _, _ => none
  | f + 1, u, p =>
    if (u.drop (Lx.sk false u)).isEmpty then some []
    else if (Lx.rd (u.drop (Lx.sk false u))).1 = 0 ∨ ((Lx.rd (u.drop (Lx.sk false u))).1 = 2 ∧ 18 < (Lx.rd (u.drop (Lx.sk false u))).2) then none
    else match lexF f ((u.drop (Lx.sk false u)).drop (Lx.rd (u.drop (Lx.sk false u))).2) (p + Lx.sk false u + (Lx.rd (u.drop (Lx.sk false u))).2) with
      | none => none
      | some l => some (⟨(Lx.rd (u.drop (Lx.sk false u))).1, (u.drop (Lx.sk false u)).take (Lx.rd (u.drop (Lx.sk false u))).2, p + Lx.sk false u⟩ :: l)
theorem lexF_ok : ∀ (f : Nat) (u : List UInt8) (p : Nat) (l : List Lx.Tok), lexF f u p = some l → ∃ u' p', Lx.Reads u p l u' p' ∧ u'.drop (Lx.sk false u') = [] := by
  intro f
  induction f with
  | zero => intro u p l h; exact absurd h (by simp [lexF])
  | succ f ih =>
    intro u p l h
    rw [lexF] at h
    split at h
    · rename_i he
      injection h with h
      subst h
      exact ⟨u, p, Lx.Reads_nil _ _, by simpa using he⟩
    · rename_i he
      split at h
      · exact absurd h (by simp)
      · rename_i hk
        split at h
        · exact absurd h (by simp)
        · rename_i l' hl
          injection h with h
          subst h
          obtain ⟨u', p', h1, h2⟩ := ih _ _ _ hl
          exact ⟨u', p', ⟨fun e => he (by rw [e]; rfl), rfl, fun e => hk (.inl e), fun e => hk (.inr e), h1⟩, h2⟩
def smallL : List UInt8 := [99, 104, 97, 114, 116, 32, 99, 32, 123, 32, 105, 110, 112, 117, 116, 32, 97, 59, 32, 111, 117, 116, 112, 117, 116, 32, 98, 32, 58, 61, 32, 50, 59, 32, 114, 101, 103, 105, 111, 110, 32, 123, 32, 105, 110, 105, 116, 105, 97, 108, 32, 115, 116, 97, 116, 101, 32, 115, 32, 123, 32, 103, 111, 32, 105, 102, 32, 40, 97, 41, 32, 100, 111, 32, 98, 32, 58, 61, 32, 98, 32, 43, 32, 40, 49, 32, 42, 32, 97, 41, 32, 45, 45, 62, 32, 116, 59, 32, 125, 32, 115, 116, 97, 116, 101, 32, 116, 32, 123, 32, 103, 111, 32, 45, 45, 62, 32, 115, 59, 32, 125, 32, 125, 32, 125]
def smallK : List Lx.Tok := [⟨1, [99, 104, 97, 114, 116], 0⟩, ⟨1, [99], 6⟩, ⟨3, [123], 8⟩, ⟨1, [105, 110, 112, 117, 116], 10⟩, ⟨1, [97], 16⟩, ⟨3, [59], 17⟩, ⟨1, [111, 117, 116, 112, 117, 116], 19⟩, ⟨1, [98], 26⟩, ⟨3, [58, 61], 28⟩, ⟨2, [50], 31⟩, ⟨3, [59], 32⟩, ⟨1, [114, 101, 103, 105, 111, 110], 34⟩, ⟨3, [123], 41⟩, ⟨1, [105, 110, 105, 116, 105, 97, 108], 43⟩, ⟨1, [115, 116, 97, 116, 101], 51⟩, ⟨1, [115], 57⟩, ⟨3, [123], 59⟩, ⟨1, [103, 111], 61⟩, ⟨1, [105, 102], 64⟩, ⟨3, [40], 67⟩, ⟨1, [97], 68⟩, ⟨3, [41], 69⟩, ⟨1, [100, 111], 71⟩, ⟨1, [98], 74⟩, ⟨3, [58, 61], 76⟩, ⟨1, [98], 79⟩, ⟨3, [43], 81⟩, ⟨3, [40], 83⟩, ⟨2, [49], 84⟩, ⟨3, [42], 86⟩, ⟨1, [97], 88⟩, ⟨3, [41], 89⟩, ⟨3, [45, 45, 62], 91⟩, ⟨1, [116], 95⟩, ⟨3, [59], 96⟩, ⟨3, [125], 98⟩, ⟨1, [115, 116, 97, 116, 101], 100⟩, ⟨1, [116], 106⟩, ⟨3, [123], 108⟩, ⟨1, [103, 111], 110⟩, ⟨3, [45, 45, 62], 113⟩, ⟨1, [115], 117⟩, ⟨3, [59], 118⟩, ⟨3, [125], 120⟩, ⟨3, [125], 122⟩, ⟨3, [125], 124⟩]
def smallC : Chart := ⟨[99], [⟨1, [97], 0⟩, ⟨2, [98], 2⟩], [[(⟨[115], true, false, [], [], [], .nil, [⟨0, false, eName 2 [97], 1, [⟨[98], eTwo 6 (eName 2 [98]) (eTwo 8 (eNum 1) (eName 2 [97]))⟩], [116], false⟩], []⟩ : StF (St 5)), (⟨[116], false, false, [], [], [], .nil, [⟨0, false, .nil, 1, [], [115], false⟩], []⟩ : StF (St 5))]]⟩
set_option maxRecDepth 100000 in
theorem small_lex : lexF 60 smallL 0 = some smallK := by kernel_rfl
set_option maxRecDepth 100000 in
theorem small_chart (n : Nat) : chart (smallK ++ [⟨4, [], n⟩]) = .ok smallC := by kernel_rfl
theorem small_ok {s : ByteArray} (h : bs s = smallL) : Lx.Ok (bs s) smallK ∧ chart (fin s smallK) = .ok smallC := by
  refine ⟨⟨by decide, ?_⟩, small_chart _⟩
  rw [h]
  exact lexF_ok _ _ _ _ small_lex
def cycL : List UInt8 := [99, 104, 97, 114, 116, 32, 99, 32, 123, 32, 114, 101, 103, 105, 111, 110, 32, 123, 32, 105, 110, 105, 116, 105, 97, 108, 32, 115, 116, 97, 116, 101, 32, 115, 32, 123, 32, 103, 111, 32, 105, 109, 109, 101, 100, 105, 97, 116, 101, 32, 45, 45, 62, 32, 115, 59, 32, 125, 32, 125, 32, 125]
def cycK : List Lx.Tok := [⟨1, [99, 104, 97, 114, 116], 0⟩, ⟨1, [99], 6⟩, ⟨3, [123], 8⟩, ⟨1, [114, 101, 103, 105, 111, 110], 10⟩, ⟨3, [123], 17⟩, ⟨1, [105, 110, 105, 116, 105, 97, 108], 19⟩, ⟨1, [115, 116, 97, 116, 101], 27⟩, ⟨1, [115], 33⟩, ⟨3, [123], 35⟩, ⟨1, [103, 111], 37⟩, ⟨1, [105, 109, 109, 101, 100, 105, 97, 116, 101], 40⟩, ⟨3, [45, 45, 62], 50⟩, ⟨1, [115], 54⟩, ⟨3, [59], 55⟩, ⟨3, [125], 57⟩, ⟨3, [125], 59⟩, ⟨3, [125], 61⟩]
def cycC : Chart := ⟨[99], [], [[(⟨[115], true, false, [], [], [], .nil, [⟨0, true, .nil, 1, [], [115], false⟩], []⟩ : StF (St 5))]]⟩
set_option maxRecDepth 100000 in
theorem cyc_lex : lexF 60 cycL 0 = some cycK := by kernel_rfl
set_option maxRecDepth 100000 in
theorem cyc_chart (n : Nat) : chart (cycK ++ [⟨4, [], n⟩]) = .ok cycC := by kernel_rfl
theorem cyc_ok {s : ByteArray} (h : bs s = cycL) : Lx.Ok (bs s) cycK ∧ chart (fin s cycK) = .ok cycC := by
  refine ⟨⟨by decide, ?_⟩, cyc_chart _⟩
  rw [h]
  exact lexF_ok _ _ _ _ cyc_lex
set_option maxRecDepth 100000 in
theorem small_check : checkC smallC = none := by kernel_rfl
set_option maxRecDepth 100000 in
theorem cyc_check : checkC cycC = some (11, some 0) := by kernel_rfl
end Kx
end Go.Proofs.YtanlfmhlohcmgaaGreatDoor
