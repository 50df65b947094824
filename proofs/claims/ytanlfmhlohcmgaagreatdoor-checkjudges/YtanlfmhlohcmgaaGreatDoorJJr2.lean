/- The document's judge: a region. -/
import Derived.Test.YtanlfmhlohcmgaaGreatDoorJJr
namespace Go.Proofs.YtanlfmhlohcmgaaGreatDoor
open Go.RowKit Px

section
variable {ρ : Type} {jb mk nm : Nat} {vs : List Decl}
theorem Fine.fr {w w' : World} {n : Nat} (h : Fine w) (hJ : JdAt w jb mk nm vs n) (hF : Fr w.heap.size [jb] w w') : Fine w' := by
  have hne : 0 ≠ jb := by
    intro e
    have := cell_row hJ.box 0 (u := .map (some mk)) rfl
    rw [← e] at this
    have h1 := h.1
    rw [this] at h1
    simp at h1
  exact ⟨fr_cell' hF hne h.1, fr_cell' hF hne h.2⟩
theorem put2 {X : World} {fb T : Nat} {x y : Value} (h : X.heap[fb]? = some (.cells #[x, y] T (0, 0))) (a b : Value) : ((X.setCell ⟨fb, 0, none⟩ a).setCell ⟨fb, 1, none⟩ b).heap[fb]? = some (.cells #[a, b] T (0, 0)) :=
  ck_set (l := [a, y]) (ck_set (l := [x, y]) h 0 a) 1 b
theorem fr_put2 {w X : World} {fb jb : Nat} (h : Fr w.heap.size [jb] w X) (hb : fb = w.heap.size) (a b : Value) : Fr w.heap.size [jb] w ((X.setCell ⟨fb, 0, none⟩ a).setCell ⟨fb, 1, none⟩ b) :=
  (h.setCell (.inl (by simp; omega)) _).setCell (.inl (by simp; omega)) _
set_option maxRecDepth 100000 in
set_option maxHeartbeats 16000000 in
theorem jregion_at {w : World} {n : Nat} (h : JdAt w jb mk nm vs n) (hfi : Fine w) {A : Nat → Prop} {ad : Option Addr} {N cap : Nat} {l : List (StF ρ)} {R : List ρ → Nat → Res} {I : World → List ρ → Value → Prop} (cr : List ρ → Nat) (hn : Hid (N = l.length))
    (hmem : Hid (RegMemF A jb w ad N cap l I)) (hN : Hid (∀ s ∈ l, NmStF s ∧ ShStF s)) (hcs : Hid (∀ s ∈ l, ∀ r ∈ s.regions, ∀ n m, R r n = .ok m → m = n + cr r)) (hbd : Hid (n + sumC (fun s => 1 + sumC cr s.regions) l ≤ 1000000)) (hNm : N ≤ 1000000)
    (hin : Hid (∀ w' s r v m, s ∈ l → r ∈ s.regions → Fr w.heap.size [jb] w w' → I w' r v → JdAt w' jb mk nm vs m → m + cr r ≤ 1000000 → Calls Tryz.prog 23 #[.pointer (some ⟨jb, 0, none⟩), v] w' (JOut jb mk nm vs (R r m) w'))) :
    Calls Tryz.prog 23 #[.pointer (some ⟨jb, 0, none⟩), .slice ad N cap] w (JOut jb mk nm vs (regF vs R l n) w) := by
  have HJ : Hid (JdAt w jb mk nm vs n ∧ Fine w) := ⟨h, hfi⟩
  obtain ⟨g, hg, hcap, hmm⟩ := hmem.out
  have HMM : Hid (∀ (i : Nat) (s : StF ρ), l[i]? = some s → ∃ ve vd vl p ay ar gy capy capr gr, (0 < s.regions.length → ar = some ⟨gr, 0, none⟩) ∧ s.regions.length ≤ maxLen ∧ ∀ w', Fr w.heap.size [jb] w w' → StM A w' g i s ve vd vl p ay ar gy capy capr ∧ RegC' I w' gr s.regions) := hmm
  have HG : Hid (0 < N → ad = some ⟨g, 0, none⟩) := hg
  have c1 := cell_row (ck_old (o' := .cells #[.int .i64 0, .int .i64 0] 28) h.box) 1 (u := .int .i64 (n : Int)) rfl
  have hjl := lt_of_block h.box
  have hc1 := hcap.1
  have hc2 := hcap.2
  clear h hfi hmem hmm hg hcap
  go_enter Tryz.func23, Tryz.ntmps23
  go_wp2_with fail
  clear c1
  obtain ⟨fb, hfb⟩ : ∃ fb, Hid (fb = w.heap.size) := ⟨_, rfl⟩
  have HF0 : Hid ((w.alloc (.cells #[.int .i64 0, .int .i64 0] 28)).heap[fb]? = some (.cells #[.int .i64 0, .int .i64 0] 28 (0, 0))) := by rw [Hid, hfb.out]; exact ck_new _ _
  have HFJ : Hid (fb ≠ jb) := by rw [Hid, hfb.out]; omega
  rw [← hfb.out]
  go_loopg [6, 24] N (fun f c i wr => ∃ k : Nat, f = N - k ∧ k ≤ N ∧ c = .int .i64 ((firsts (l.take k) : Nat) : Int) ∧ i = .int .i64 (k : Int) ∧ Hid (∃ m, JdAt wr jb mk nm vs m ∧ Fr w.heap.size [jb] w wr ∧ statesE vs R (snames l) l 0 n = statesE vs R (snames l) (l.drop k) k m ∧ m + sumC (fun s => 1 + sumC cr s.regions) (l.drop k) ≤ 1000000 ∧ wr.heap[fb]? = some (.cells #[.int .i64 0, .int .i64 0] 28 (0, 0))))
  case atStart => exact ⟨0, by omega, by omega, rfl, rfl, n, HJ.out.1.below (ck_grown _ _), Fr.of_below (ck_grown _ _) _, rfl, hbd.out, HF0.out⟩
  case round =>
    obtain ⟨k, rfl, hk, rfl, rfl, hr⟩ := hrel
    obtain ⟨m, hJ, hFr, hst, hsum, hfbk⟩ := hr.out
    clear hr HF0
    by_cases hlt : k < N
    · obtain ⟨s, hs⟩ : ∃ s, l[k]? = some s := ⟨l[k]'(by rw [← hn.out]; exact hlt), by rw [List.getElem?_eq_getElem]⟩
      have hsm := List.mem_of_getElem? hs
      rw [sumC_drop _ hs] at hsum
      rw [drop_cons hs, statesE] at hst
      obtain ⟨ve, vd, vl, p, ay, ar, gy, capy, capr, gr, hgr, hrl, htup⟩ := HMM.out k s hs
      obtain ⟨hM, -⟩ := htup wr hFr
      obtain ⟨xe, ye, ze, rfl⟩ := hM.he.sl'
      obtain ⟨xd, yd, zd, rfl⟩ := hM.hd.sl'
      obtain ⟨xl, yl, zl, rfl⟩ := hM.hl.sl'
      obtain ⟨U, hU⟩ : ∃ U, sv s.name = .string U := ⟨_, rfl⟩
      have q0 := hM.c0
      rw [hU] at q0
      have q1 := hM.c1
      have q2 := hM.c2
      have q3 := hM.c3
      have q4 := hM.c4
      have q5 := hM.c5
      have q6 := hM.c6
      have q7 := hM.c7
      have q8 := hM.c8
      have hix := ixT ad g N cap k hlt HG.out
      obtain ⟨LO, hLO⟩ : ∃ LO, LO = Obj.cells #[.string U, .bool s.first, .bool s.last, .slice xe ye ze, .slice xd yd zd, .slice xl yl zl, .pointer p, .slice ay s.ways.length capy, .slice ar s.regions.length capr] 75 := ⟨_, rfl⟩
      have d1 := cell_row (ck_old (o' := LO) hJ.box) 1 (u := .int .i64 (m : Int)) rfl
      have z1 := ck_frozen (ck_old (o' := LO) hJ.box) 1
      have hwr : IntKind.i64.wrap ((m : Int) + 1) = (m : Int) + 1 := by rw [IntKind.wrap_i64]; omega
      rw [hLO] at d1 z1
      go_upto_region 8 with fail
      obtain ⟨lb, hlb⟩ : ∃ lb, lb = wr.heap.size := ⟨_, rfl⟩
      obtain ⟨Wa, hWa⟩ : ∃ Wa, Wa = (wr.alloc (.cells #[.string U, .bool s.first, .bool s.last, .slice xe ye ze, .slice xd yd zd, .slice xl yl zl, .pointer p, .slice ay s.ways.length capy, .slice ar s.regions.length capr] 75)).setCell ⟨jb, 1, none⟩ (.int .i64 ((m : Int) + 1)) := ⟨_, rfl⟩
      have hjw := lt_of_block hJ.box
      have hFa : Fr wr.heap.size [jb] wr Wa := by rw [hWa]; exact ((Fr.refl _ _ _).alloc (Nat.le_refl _) _).setCell (.inr (by simp)) _
      have hJa : JdAt Wa jb mk nm vs (m + 1) := hJ.fr hFa (by
        rw [hWa]
        exact ck_set (l := [.map (some mk), .int .i64 (m : Int)]) (ck_old hJ.box) 1 _)
      have hla : Wa.heap[lb]? = some (.cells #[.string U, .bool s.first, .bool s.last, .slice xe ye ze, .slice xd yd zd, .slice xl yl zl, .pointer p, .slice ay s.ways.length capy, .slice ar s.regions.length capr] 75 (0, 0)) := by
        rw [hWa, setCell_other (by simp; omega), hlb]; exact ck_new _ _
      have hfa : Wa.heap[fb]? = some (.cells #[.int .i64 0, .int .i64 0] 28 (0, 0)) := by rw [hFa.block fb (lt_of_block hfbk) (by simpa using HFJ.out)]; exact hfbk
      have hFwa : Fr w.heap.size [jb] w Wa := fr_on' hFr hFa
      have HWA : Hid (JdAt Wa jb mk nm vs (m + 1) ∧ Fr w.heap.size [jb] w Wa ∧ Wa.heap[lb]? = some (.cells #[.string U, .bool s.first, .bool s.last, .slice xe ye ze, .slice xd yd zd, .slice xl yl zl, .pointer p, .slice ay s.ways.length capy, .slice ar s.regions.length capr] 75 (0, 0)) ∧ Wa.heap[fb]? = some (.cells #[.int .i64 0, .int .i64 0] 28 (0, 0))) := ⟨hJa, hFwa, hla, hfa⟩
      have HTU : Hid ((0 < s.regions.length → ar = some ⟨gr, 0, none⟩) ∧ s.regions.length ≤ maxLen ∧ ∀ w', Fr w.heap.size [jb] w w' → StM A w' g k s (.slice xe ye ze) (.slice xd yd zd) (.slice xl yl zl) p ay ar gy capy capr ∧ RegC' I w' gr s.regions) := ⟨hgr, hrl, htup⟩
      have HST : Hid (statesE vs R (snames l) l 0 n = _) := hst
      have HSU : Hid (m + (1 + sumC cr s.regions + sumC (fun s => 1 + sumC cr s.regions) (l.drop (k + 1))) ≤ 1000000) := hsum
      have HSM : Hid (l[k]? = some s ∧ s ∈ l) := ⟨hs, hsm⟩
      have HU : Hid (sv s.name = .string U) := hU
      have HFR : Hid (Fr w.heap.size [jb] w wr ∧ lb < Wa.heap.size ∧ fb < lb) := ⟨hFr, lt_of_block hla, by rw [hlb]; exact lt_of_block hfbk⟩
      rw [← hWa, ← hlb]
      clear hJ hFr hst hsum hfbk hs hsm hgr hrl htup hM hU q0 q1 q2 q3 q4 q5 q6 q7 q8 hix hLO d1 z1 hlb hWa hjw hFa hJa hla hfa hFwa
      have hkc : k ≤ cap := by omega
      have hkc2 : (k : Int) ≤ (cap : Int) := by omega
      have hcm : (cap : Int) ≤ 9223372036854775807 := by unfold maxLen at hc2; omega
      go_wp2_with fail
      go_loopg [44] k (fun f i wr => ∃ j : Nat, f = k - j ∧ j ≤ k ∧ i = .int .i64 (j : Int) ∧ Hid (Below Wa.heap.size Wa wr ∧ ∀ q, q < j → (snames l).getD q [] ≠ s.name))
      case atStart => exact ⟨0, by omega, by omega, rfl, Below.refl _ _, fun q hq => absurd hq (by omega)⟩
      case round =>
        obtain ⟨j, rfl, hj, rfl, hr⟩ := hrel
        have HBJ : Hid (Below Wa.heap.size Wa wr) := hr.out.1
        have HNO : Hid (∀ q, q < j → (snames l).getD q [] ≠ s.name) := hr.out.2
        clear hr
        have HFW : Hid (Fr w.heap.size [jb] w wr) := fr_on' HWA.out.2.1 (Fr.of_below HBJ.out _)
        by_cases hlj : j < k
        · obtain ⟨t, ht⟩ : ∃ t, Hid (l[j]? = some t) := ⟨l[j]'(by rw [← hn.out]; omega), by rw [Hid, List.getElem?_eq_getElem]⟩
          obtain ⟨ve', vd', vl', p', ay', ar', gy', capy', capr', gr', -, -, htup⟩ := HMM.out j t ht.out
          obtain ⟨hM, -⟩ := htup wr HFW.out
          obtain ⟨xe', ye', ze', rfl⟩ := hM.he.sl'
          obtain ⟨xd', yd', zd', rfl⟩ := hM.hd.sl'
          obtain ⟨xl', yl', zl', rfl⟩ := hM.hl.sl'
          obtain ⟨V, hV⟩ : ∃ V, sv t.name = .string V := ⟨_, rfl⟩
          have q0 := hM.c0
          rw [hV] at q0
          have q1 := hM.c1
          have q2 := hM.c2
          have q3 := hM.c3
          have q4 := hM.c4
          have q5 := hM.c5
          have q6 := hM.c6
          have q7 := hM.c7
          have q8 := hM.c8
          have hix := ixT ad g k cap j hlj (fun _ => HG.out (by omega))
          have hse := strE hV HU.out
          have hnm : (snames l).getD j [] = t.name := snames_at l j t ht.out
          have u0 := ck_cell (ck_grown wr (.cells #[.string V, .bool t.first, .bool t.last, .slice xe' ye' ze', .slice xd' yd' zd', .slice xl' yl' zl', .pointer p', .slice ay' t.ways.length capy', .slice ar' t.regions.length capr'] 75)) (cell_row (ck_block HBJ.out HWA.out.2.2.1) 0 (u := .string U) rfl)
          have hfz : (wr.alloc (.cells #[.string V, .bool t.first, .bool t.last, .slice xe' ye' ze', .slice xd' yd' zd', .slice xl' yl' zl', .pointer p', .slice ay' t.ways.length capy', .slice ar' t.regions.length capr'] 75)).heap[fb]? = some (.cells #[.int .i64 0, .int .i64 0] 28 (0, 0)) := ck_old (ck_block HBJ.out HWA.out.2.2.2)
          have f0 := cell_row hfz 0 (u := .int .i64 0) rfl
          have f1 := cell_row hfz 1 (u := .int .i64 0) rfl
          have z0 := ck_frozen hfz 0
          have z1 := ck_frozen hfz 1
          have HFZ : Hid _ := hfz
          obtain ⟨de, hde⟩ : ∃ de, Hid (decide (t.name = s.name) = de) := ⟨_, rfl⟩
          rw [hde.out] at hse
          clear hM htup hV hfz
          cases de with
          | true =>
            have hts : t.name = s.name := by simpa using hde.out
            have HE : Hid (regF vs R l n = .error (9, m)) := by
              have h9 : stateE vs (snames l) k s = 9 := by
                unfold stateE
                have hkn : (snames l).getD k [] = s.name := snames_at l k s HSM.out.1
                have := (twice_iff (snames l) k (by rw [snames_len, ← hn.out]; exact hlt)).2 ⟨j, hlj, by rw [hnm, hts, hkn]⟩
                rw [hkn] at this
                rw [if_pos this]
              unfold Hid regF
              rw [HST.out, if_pos (by rw [h9]; simp), h9]
            clear hnm hts
            go_wp2_with fail
            refine bodyPost_ret (resultsJ _ _ fb #[.int .i64 9, .int .i64 (m : Int)] rfl rfl (put2 HFZ.out _ _)) rfl ?_
            exact ⟨fr_put2 (HFW.out.alloc HFW.out.size _) hfb.out _ _, .inr ⟨9, m, HE.out, rfl⟩⟩
          | false =>
            have hts : ¬ t.name = s.name := by simpa using hde.out
            go_wp2_with fail
            go_roundg (k - (j + 1))
            case measure => omega
            case rel =>
              refine ⟨j + 1, rfl, by omega, by go_num, ck_all HBJ.out (ck_grown wr _), fun q hq => ?_⟩
              by_cases e : q = j
              · subst e; rw [hnm]; exact hts
              · exact HNO.out q (by omega)
        · obtain rfl : j = k := by omega
          have hkn : (snames l).getD j [] = s.name := snames_at l j s HSM.out.1
          have HSA : Hid (stateE vs (snames l) j s = aloneE vs (snames l) s) := by
            unfold Hid stateE
            rw [if_neg]
            intro hx
            rw [← hkn] at hx
            obtain ⟨q, hq, he⟩ := (twice_iff (snames l) j (by rw [snames_len, ← hn.out]; exact hlt)).1 hx
            rw [hkn] at he
            exact HNO.out q hq he
          obtain ⟨E, hE⟩ : ∃ E, Hid (aloneE vs (snames l) s = E) := ⟨_, rfl⟩
          have HST2 := HST.out
          rw [HSA.out, hE.out] at HST2
          obtain ⟨hM, -⟩ := HTU.out.2.2 wr HFW.out
          have hlx := ck_block HBJ.out HWA.out.2.2.1
          have hcall := alone_any (cap := cap) (NW := s.ways.length) (NR := s.regions.length) (capy := capy) (ar := ar) (capr := capr) (HWA.out.1.below HBJ.out) (s := s) (ns := snames l) (by rw [Hid, snames_len]; exact hn.out) hNm HG.out (fun q hq => by
            obtain ⟨t, ht⟩ : ∃ t, l[q]? = some t := ⟨l[q]'(by rw [← hn.out]; exact hq), by rw [List.getElem?_eq_getElem]⟩
            obtain ⟨ve', vd', vl', p', ay', ar', gy', capy', capr', gr', -, -, htup⟩ := HMM.out q t ht
            have := (htup wr HFW.out).1.nine
            rw [snames_at l q t ht]; exact this) rfl rfl hM.he hM.hd hM.hl hM.hp (fun hp => (hM.hw.2.1 hp).1) hM.hw.2.2 (hN.out s HSM.out.2).1 (hN.out s HSM.out.2).2
          rw [HU.out, hE.out] at hcall
          have v0 := cell_row hlx 0 (u := .string U) rfl
          have v1 := cell_row hlx 1 (u := .bool s.first) rfl
          have v2 := cell_row hlx 2 (u := .bool s.last) rfl
          have v3 := cell_row hlx 3 (u := .slice xe ye ze) rfl
          have v4 := cell_row hlx 4 (u := .slice xd yd zd) rfl
          have v5 := cell_row hlx 5 (u := .slice xl yl zl) rfl
          have v6 := cell_row hlx 6 (u := .pointer p) rfl
          have v7 := cell_row hlx 7 (u := .slice ay s.ways.length capy) rfl
          have v8 := cell_row hlx 8 (u := .slice ar s.regions.length capr) rfl
          have HKE : Hid (∀ w', Below wr.heap.size wr w' → JdAt w' jb mk nm vs (m + 1) ∧ Fr w.heap.size [jb] w w' ∧ w'.heap[lb]? = some (.cells #[.string U, .bool s.first, .bool s.last, .slice xe ye ze, .slice xd yd zd, .slice xl yl zl, .pointer p, .slice ay s.ways.length capy, .slice ar s.regions.length capr] 75 (0, 0)) ∧ w'.heap[fb]? = some (.cells #[.int .i64 0, .int .i64 0] 28 (0, 0))) := fun w' hb =>
            ⟨HWA.out.1.below (ck_all HBJ.out hb), fr_on' HFW.out (Fr.of_below hb _), ck_block hb hlx, ck_block (ck_all HBJ.out hb) HWA.out.2.2.2⟩
          have HS2 : Hid (statesE vs R (snames l) l 0 n = _) := HST2
          clear hM hlx HST HST2 HSA hkn HNO
          go_wp2_with fail
          clear v0 v1 v2 v3 v4 v5 v6 v7 v8
          by_cases hE0 : E = 0
          · subst hE0
            rw [show ((0 : Nat) : Int) = 0 from rfl] at hcall
            rw [if_neg (by simp)] at HS2
            refine hcall.mono ?_
            rintro e w4 ⟨rfl, hw4⟩
            obtain ⟨k1, k2, k3, k4⟩ := HKE.out w4 hw4
            have H4 : Hid (JdAt w4 jb mk nm vs (m + 1) ∧ Fr w.heap.size [jb] w w4 ∧ w4.heap[lb]? = some (.cells #[.string U, .bool s.first, .bool s.last, .slice xe ye ze, .slice xd yd zd, .slice xl yl zl, .pointer p, .slice ay s.ways.length capy, .slice ar s.regions.length capr] 75 (0, 0)) ∧ w4.heap[fb]? = some (.cells #[.int .i64 0, .int .i64 0] 28 (0, 0))) := ⟨k1, k2, k3, k4⟩
            have v8 := cell_row k3 8 (u := .slice ar s.regions.length capr) rfl
            obtain ⟨NR, hNR⟩ : ∃ NR, Hid (s.regions.length = NR) := ⟨_, rfl⟩
            rw [hNR.out] at v8
            have hNR6 : (NR : Int) ≤ 9223372036854775807 := by have := HTU.out.2.1; rw [hNR.out] at this; unfold maxLen at this; omega
            clear k1 k2 k3 k4 hcall hw4
            go_wp2_with fail
            clear v8
            go_loopg [68] NR (fun f i wr => ∃ q : Nat, f = NR - q ∧ q ≤ NR ∧ i = .int .i64 (q : Int) ∧ Hid (∃ m2, JdAt wr jb mk nm vs m2 ∧ Fr w.heap.size [jb] w wr ∧ regsE R s.regions (m + 1) = regsE R (s.regions.drop q) m2 ∧ m2 + sumC cr (s.regions.drop q) ≤ m + 1 + sumC cr s.regions ∧ wr.heap[lb]? = some (.cells #[.string U, .bool s.first, .bool s.last, .slice xe ye ze, .slice xd yd zd, .slice xl yl zl, .pointer p, .slice ay s.ways.length capy, .slice ar s.regions.length capr] 75 (0, 0)) ∧ wr.heap[fb]? = some (.cells #[.int .i64 0, .int .i64 0] 28 (0, 0))))
            case atStart => exact ⟨0, by omega, by omega, rfl, m + 1, H4.out.1, H4.out.2.1, rfl, Nat.le_refl _, H4.out.2.2.1, H4.out.2.2.2⟩
            case round =>
              obtain ⟨q, rfl, hq, rfl, hr⟩ := hrel
              obtain ⟨m2, hJ2, hF2, hst2, hsum2, hlb2, hfb2⟩ := hr.out
              clear hr
              by_cases hlq : q < NR
              · obtain ⟨r, hrr⟩ : ∃ r, s.regions[q]? = some r := ⟨s.regions[q]'(by rw [hNR.out]; exact hlq), by rw [List.getElem?_eq_getElem]⟩
                have hrm := List.mem_of_getElem? hrr
                rw [sumC_drop _ hrr] at hsum2
                rw [regsE_at hrr] at hst2
                obtain ⟨-, hRC⟩ := HTU.out.2.2 wr hF2
                obtain ⟨va, vb, vc, cr', hI⟩ := hRC q r hrr
                have hcall := hin.out wr s r _ m2 HSM.out.2 hrm hF2 hI hJ2 (by have := HSU.out; omega)
                have hix := ixR ar gr NR capr q hlq (fun h => HTU.out.1 (by rw [hNR.out]; exact h))
                have hcsr := hcs.out s HSM.out.2 r hrm m2
                have HF2 : Hid (Fr w.heap.size [jb] w wr ∧ wr.heap[lb]? = some (.cells #[.string U, .bool s.first, .bool s.last, .slice xe ye ze, .slice xd yd zd, .slice xl yl zl, .pointer p, .slice ay s.ways.length capy, .slice ar s.regions.length capr] 75 (0, 0)) ∧ wr.heap[fb]? = some (.cells #[.int .i64 0, .int .i64 0] 28 (0, 0))) := ⟨hF2, hlb2, hfb2⟩
                have HFI : Hid (∀ w', Fr wr.heap.size [jb] wr w' → Fine w' ∧ Fr w.heap.size [jb] w w' ∧ w'.heap[lb]? = some (.cells #[.string U, .bool s.first, .bool s.last, .slice xe ye ze, .slice xd yd zd, .slice xl yl zl, .pointer p, .slice ay s.ways.length capy, .slice ar s.regions.length capr] 75 (0, 0)) ∧ w'.heap[fb]? = some (.cells #[.int .i64 0, .int .i64 0] 28 (0, 0))) := fun w' hF =>
                  ⟨HJ.out.2.fr HJ.out.1 (fr_on' hF2 hF), fr_on' hF2 hF, by rw [hF.block lb (lt_of_block hlb2) (by have := HFR.out.2.2; have := hfb.out; simp; omega)]; exact hlb2, by rw [hF.block fb (lt_of_block hfb2) (by simpa using HFJ.out)]; exact hfb2⟩
                have HSU2 : Hid (m2 + (cr r + sumC cr (s.regions.drop (q + 1))) ≤ m + 1 + sumC cr s.regions) := hsum2
                have HS3 : Hid (regsE R s.regions (m + 1) = _) := hst2
                clear hJ2 hF2 hst2 hsum2 hlb2 hfb2 hrr hrm hRC hI
                cases hrs : R r m2 with
                | error x =>
                  obtain ⟨c, pl⟩ := x
                  rw [hrs] at HS3 hcall
                  have HE : Hid (regF vs R l n = .error (c, pl)) := by
                    have h3 : regsE R s.regions (m + 1) = .error (c, pl) := HS3.out
                    unfold Hid regF
                    rw [HS2.out, h3]
                  have hI2 : Calls Tryz.prog 23 #[.pointer (some ⟨jb, 0, none⟩), .slice va vb vc] wr fun e w'' => e = .returned (.agg #[.int .i64 ((c : Nat) : Int), .int .i64 ((pl : Nat) : Int)]) ∧ Hid (Fr wr.heap.size [jb] wr w'') := hcall.mono fun e w'' ⟨hF, ho⟩ => by
                    rcases ho with ⟨_, he, _⟩ | ⟨c', p', he, h1⟩
                    · simp at he
                    · injection he with he
                      injection he with e1 e2
                      subst e1; subst e2
                      exact ⟨h1, hF⟩
                  have hp1 : ¬ ((pl : Nat) : Int) = -1 := by omega
                  have hp2 : (((pl : Nat) : Int) == -1) = false := by simp
                  clear hcall
                  go_wp2_with (refine hI2.mono ?_; rintro e w5 ⟨rfl, hF5⟩; obtain ⟨⟨fi0, fi1⟩, g2, g3, g4⟩ := HFI.out w5 hF5.out; have gi0 := ck_cell (ck_grown w5 (.cells #[.int .i64 ((c : Nat) : Int), .int .i64 ((pl : Nat) : Int)] 28)) fi0; have gi1 := ck_cell (ck_grown w5 (.cells #[.int .i64 ((c : Nat) : Int), .int .i64 ((pl : Nat) : Int)] 28)) fi1; have hfz : (w5.alloc (.cells #[.int .i64 ((c : Nat) : Int), .int .i64 ((pl : Nat) : Int)] 28)).heap[fb]? = some (.cells #[.int .i64 0, .int .i64 0] 28 (0, 0)) := ck_old g4; have f0 := cell_row hfz 0 (u := .int .i64 0) rfl; have f1 := cell_row hfz 1 (u := .int .i64 0) rfl; have z0 := ck_frozen hfz 0; have z1 := ck_frozen hfz 1; have H5 : Hid (Fr w.heap.size [jb] w w5) := g2; have HFZ : Hid _ := hfz; clear g2 g3 g4 hfz fi0 fi1)
                  refine bodyPost_ret (resultsJ _ _ fb #[.int .i64 ((c : Nat) : Int), .int .i64 ((pl : Nat) : Int)] rfl rfl (put2 HFZ.out _ _)) rfl ?_
                  exact ⟨fr_put2 (H5.out.alloc H5.out.size _) hfb.out _ _, .inr ⟨c, pl, HE.out, rfl⟩⟩
                | ok m3 =>
                  rw [hrs] at HS3 hcall
                  have hm3 := hcsr m3 hrs
                  have hI2 : Calls Tryz.prog 23 #[.pointer (some ⟨jb, 0, none⟩), .slice va vb vc] wr fun e w'' => e = .returned (.agg #[.int .i64 0, .int .i64 (-1)]) ∧ Hid (JdAt w'' jb mk nm vs m3 ∧ Fr wr.heap.size [jb] wr w'') := hcall.mono fun e w'' ⟨hF, ho⟩ => by
                    rcases ho with ⟨m', he, h1, h2⟩ | ⟨_, _, he, _⟩
                    · injection he with he
                      subst he
                      exact ⟨h1, h2, hF⟩
                    · simp at he
                  clear hcall
                  go_wp2_with (refine hI2.mono ?_; rintro e w5 ⟨rfl, hF5⟩; obtain ⟨⟨fi0, fi1⟩, g2, g3, g4⟩ := HFI.out w5 hF5.out.2; have gi0 := ck_cell (ck_grown w5 (.cells #[.int .i64 0, .int .i64 (-1)] 28)) fi0; have gi1 := ck_cell (ck_grown w5 (.cells #[.int .i64 0, .int .i64 (-1)] 28)) fi1; have H5 : Hid (Fr w.heap.size [jb] w w5 ∧ w5.heap[lb]? = some (.cells #[.string U, .bool s.first, .bool s.last, .slice xe ye ze, .slice xd yd zd, .slice xl yl zl, .pointer p, .slice ay s.ways.length capy, .slice ar s.regions.length capr] 75 (0, 0)) ∧ w5.heap[fb]? = some (.cells #[.int .i64 0, .int .i64 0] 28 (0, 0))) := ⟨g2, g3, g4⟩; clear g2 g3 g4 fi0 fi1)
                  go_roundg (NR - (q + 1))
                  case measure => omega
                  case rel => exact ⟨q + 1, rfl, by omega, by go_num, m3, hF5.out.1.below (ck_grown _ _), H5.out.1.alloc H5.out.1.size _, HS3.out, by have := HSU2.out; omega, ck_old H5.out.2.1, ck_old H5.out.2.2⟩
              · obtain rfl : q = NR := by omega
                rw [show s.regions.drop q = [] by rw [← hNR.out]; exact List.drop_length, regsE] at hst2
                rw [show s.regions.drop q = [] by rw [← hNR.out]; exact List.drop_length, sumC] at hsum2
                have v1 := cell_row hlb2 1 (u := .bool s.first) rfl
                have HT2 := firsts_take HSM.out.1
                obtain ⟨F, hFF⟩ : ∃ F, Hid (firsts (l.take j) = F) := ⟨_, rfl⟩
                have hF6 : F ≤ 1000000 := by
                  have := firsts_le (l.take j)
                  have h2 : (l.take j).length ≤ j := by rw [List.length_take]; omega
                  rw [hFF.out] at this
                  omega
                rw [hFF.out] at HT2 ⊢
                obtain ⟨bf, hbf⟩ : ∃ bf, Hid (s.first = bf) := ⟨_, rfl⟩
                rw [hbf.out] at HT2 v1
                have HT3 : Hid _ := HT2
                have HFI : Hid (JdAt wr jb mk nm vs m2 ∧ Fr w.heap.size [jb] w wr ∧ statesE vs R (snames l) l 0 n = statesE vs R (snames l) (l.drop (j + 1)) (j + 1) m2 ∧ m2 + sumC (fun s => 1 + sumC cr s.regions) (l.drop (j + 1)) ≤ 1000000 ∧ wr.heap[fb]? = some (.cells #[.int .i64 0, .int .i64 0] 28 (0, 0))) := by
                  refine ⟨hJ2, hF2, ?_, by have := HSU.out; omega, hfb2⟩
                  rw [HS2.out, hst2]
                clear hJ2 hF2 hst2 hsum2 hlb2 hfb2 HT2
                cases bf with
                | false =>
                  go_wp2_with fail
                  go_roundg (N - (j + 1))
                  case measure => omega
                  case rel => exact ⟨j + 1, rfl, by omega, by rw [HT3.out]; rfl, by go_num, m2, HFI.out⟩
                | true =>
                  go_wp2_with fail
                  go_roundg (N - (j + 1))
                  case measure => omega
                  case rel => exact ⟨j + 1, rfl, by omega, by rw [HT3.out]; go_num, by go_num, m2, HFI.out⟩
          · rw [if_pos hE0] at HS2
            have HE : Hid (regF vs R l n = .error (E, m)) := by unfold Hid regF; rw [HS2.out]
            have hz1 : ¬ (E : Int) = 0 := by omega
            have hz2 : ((E : Int) == 0) = false := by simp; omega
            refine hcall.mono ?_
            rintro e w4 ⟨rfl, hw4⟩
            obtain ⟨k1, k2, k3, k4⟩ := HKE.out w4 hw4
            have f0 := cell_row k4 0 (u := .int .i64 0) rfl
            have f1 := cell_row k4 1 (u := .int .i64 0) rfl
            have z0 := ck_frozen k4 0
            have z1 := ck_frozen k4 1
            have H4 : Hid (Fr w.heap.size [jb] w w4 ∧ w4.heap[fb]? = some (.cells #[.int .i64 0, .int .i64 0] 28 (0, 0))) := ⟨k2, k4⟩
            clear k1 k2 k3 k4 hcall
            go_wp2_with fail
            refine bodyPost_ret (resultsJ _ _ fb #[.int .i64 (E : Int), .int .i64 (m : Int)] rfl rfl (put2 H4.out.2 _ _)) rfl ?_
            exact ⟨fr_put2 H4.out.1 hfb.out _ _, .inr ⟨E, m, HE.out, rfl⟩⟩
    · obtain rfl : k = N := by omega
      rw [show l.drop k = [] by rw [hn.out]; exact List.drop_length, statesE] at hst
      have hdist := regF_dist hst
      rw [show l.take k = l by rw [hn.out]; exact List.take_length]
      obtain ⟨F, hFF⟩ : ∃ F, Hid (firsts l = F) := ⟨_, rfl⟩
      have HE : Hid (regF vs R l n = if wholeE l ≠ 0 then .error (wholeE l, n) else .ok m) := by unfold Hid regF; rw [hst]
      have HWE : Hid (wholeE l = if F = 0 then 8 else if 1 < F then 12 else if (orderG (graph l)).isNone then 11 else 0) := by unfold Hid wholeE; rw [hFF.out]
      have HA : Hid (JdAt wr jb mk nm vs m ∧ Fr w.heap.size [jb] w wr ∧ wr.heap[fb]? = some (.cells #[.int .i64 0, .int .i64 0] 28 (0, 0)) ∧ Fine wr) := ⟨hJ, hFr, hfbk, HJ.out.2.fr HJ.out.1 hFr⟩
      have hcall := jorder_at (cap := cap) (l := l) (oo := orderG (graph l)) rfl hdist hn hNm HG.out (w := wr) (fun i s hi => by
        obtain ⟨ve', vd', vl', p', ay', ar', gy', capy', capr', gr', -, -, htup⟩ := HMM.out i s hi
        exact (htup wr hFr).1.sto (hN.out s (List.mem_of_getElem? hi)).1)
      have f0 := cell_row hfbk 0 (u := .int .i64 0) rfl
      have f1 := cell_row hfbk 1 (u := .int .i64 0) rfl
      have z0 := ck_frozen hfbk 0
      have z1 := ck_frozen hfbk 1
      rw [hFF.out]
      clear hJ hFr hst hsum hfbk hdist
      by_cases h0 : F = 0
      · subst h0
        rw [if_pos rfl] at HWE
        rw [HWE.out, if_pos (by simp)] at HE
        rw [show ((0 : Nat) : Int) = 0 from rfl]
        go_wp2_with fail
        refine bodyPost_ret (resultsJ _ _ fb #[.int .i64 8, .int .i64 (n : Int)] rfl rfl (put2 HA.out.2.2.1 _ _)) rfl ?_
        exact ⟨fr_put2 HA.out.2.1 hfb.out _ _, .inr ⟨8, n, HE.out, rfl⟩⟩
      · rw [if_neg h0] at HWE
        have h1 : ¬ (F : Int) = 0 := by omega
        have h2 : ((F : Int) == 0) = false := by simp; omega
        by_cases h3 : 1 < F
        · rw [if_pos h3] at HWE
          rw [HWE.out, if_pos (by simp)] at HE
          have h4 : (1 : Int) < (F : Int) := by omega
          go_wp2_with fail
          refine bodyPost_ret (resultsJ _ _ fb #[.int .i64 12, .int .i64 (n : Int)] rfl rfl (put2 HA.out.2.2.1 _ _)) rfl ?_
          exact ⟨fr_put2 HA.out.2.1 hfb.out _ _, .inr ⟨12, n, HE.out, rfl⟩⟩
        · rw [if_neg h3] at HWE
          have h4 : ¬ (1 : Int) < (F : Int) := by omega
          clear f0 f1 z0 z1
          obtain ⟨oo, hoo⟩ : ∃ oo, Hid (orderG (graph l) = oo) := ⟨_, rfl⟩
          rw [hoo.out] at hcall HWE
          unfold OrdOut at hcall
          have HKW : Hid (∀ w', Below wr.heap.size wr w' → JdAt w' jb mk nm vs m ∧ Fr w.heap.size [jb] w w' ∧ w'.heap[fb]? = some (.cells #[.int .i64 0, .int .i64 0] 28 (0, 0)) ∧ Fine w') := fun w' hb => ⟨HA.out.1.below hb, fr_on' HA.out.2.1 (Fr.of_below hb _), ck_block hb HA.out.2.2.1, HA.out.2.2.2.below hb⟩
          cases oo with
          | none =>
            have hcall : Calls Tryz.prog 10 #[.slice ad k cap] wr fun e w' => e = .returned (.tuple #[.slice none 0 0, .bool false]) ∧ Below wr.heap.size wr w' := hcall.mono fun e w' ⟨hb, ho⟩ => by
              rcases ho with ⟨_, he⟩ | ⟨_, _, he, _⟩
              · exact ⟨he, hb⟩
              · simp at he
            rw [HWE.out] at HE
            go_wp2_with (refine hcall.mono ?_; rintro e w6 ⟨rfl, hb6⟩; obtain ⟨k1, k2, k3, k4⟩ := HKW.out w6 hb6; have f0 := cell_row k3 0 (u := .int .i64 0) rfl; have f1 := cell_row k3 1 (u := .int .i64 0) rfl; have z0 := ck_frozen k3 0; have z1 := ck_frozen k3 1; have H6 : Hid (Fr w.heap.size [jb] w w6 ∧ w6.heap[fb]? = some (.cells #[.int .i64 0, .int .i64 0] 28 (0, 0))) := ⟨k2, k3⟩; clear k1 k2 k3 k4)
            refine bodyPost_ret (resultsJ _ _ fb #[.int .i64 11, .int .i64 (n : Int)] rfl rfl (put2 H6.out.2 _ _)) rfl ?_
            exact ⟨fr_put2 H6.out.1 hfb.out _ _, .inr ⟨11, n, HE.out, rfl⟩⟩
          | some o =>
            have hcall : Calls Tryz.prog 10 #[.slice ad k cap] wr fun e w' => ∃ v, e = .returned (.tuple #[v, .bool true]) ∧ Below wr.heap.size wr w' := hcall.mono fun e w' ⟨hb, ho⟩ => by
              rcases ho with ⟨he, _⟩ | ⟨_, v, _, he, _⟩
              · simp at he
              · exact ⟨v, he, hb⟩
            rw [HWE.out] at HE
            go_wp2_with (refine hcall.mono ?_; rintro e w6 ⟨v6, rfl, hb6⟩; obtain ⟨k1, k2, k3, k4⟩ := HKW.out w6 hb6; have f0 := cell_row k3 0 (u := .int .i64 0) rfl; have f1 := cell_row k3 1 (u := .int .i64 0) rfl; have z0 := ck_frozen k3 0; have z1 := ck_frozen k3 1; obtain ⟨fi0, fi1⟩ := id k4; have H6 : Hid (JdAt w6 jb mk nm vs m ∧ Fr w.heap.size [jb] w w6 ∧ w6.heap[fb]? = some (.cells #[.int .i64 0, .int .i64 0] 28 (0, 0))) := ⟨k1, k2, k3⟩; clear k1 k2 k3 k4)
            refine bodyPost_ret (resultsJ _ _ fb #[.int .i64 0, .int .i64 (-1)] rfl rfl (put2 H6.out.2.2 _ _)) rfl ?_
            refine ⟨fr_put2 H6.out.2.1 hfb.out _ _, .inl ⟨m, HE.out, rfl, ?_⟩⟩
            have hF9 : Fr w6.heap.size [fb] w6 ((w6.setCell ⟨fb, 0, none⟩ (.int .i64 0)).setCell ⟨fb, 1, none⟩ (.int .i64 (-1))) := ((Fr.refl _ _ _).setCell (.inr (by simp)) _).setCell (.inr (by simp)) _
            refine ⟨?_, H6.out.1.map.keep (hF9.block mk H6.out.1.map.lt ?_), H6.out.1.pos, H6.out.1.ne⟩
            · rw [hF9.block jb (lt_of_block H6.out.1.box) (by simpa using Ne.symm HFJ.out)]; exact H6.out.1.box
            · intro hx
              have e : mk = fb := by simpa using hx
              obtain ⟨D, ⟨es, cl, h3, _⟩, _⟩ := H6.out.1.map
              rw [e, H6.out.2.2] at h3
              simp at h3
end
end Go.Proofs.YtanlfmhlohcmgaaGreatDoor
