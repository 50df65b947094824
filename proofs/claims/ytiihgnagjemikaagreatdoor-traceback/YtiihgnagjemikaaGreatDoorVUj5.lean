/- The runner's lay, walked. -/
import Derived.Test.YtiihgnagjemikaaGreatDoorVUj4
namespace Go.Proofs.YtiihgnagjemikaaGreatDoor
open Go.RowKit Px

theorem set11_far {w : World} {g b o o' : Nat} {u0 u1 u2 u3 u4 u5 u6 u7 u8 u9 u10 : Value} (h : g ≠ b) : (((((((((((w.setCell ⟨g, o, none⟩ u0).setCell ⟨g, o + 1, none⟩ u1).setCell ⟨g, o + 2, none⟩ u2).setCell ⟨g, o + 3, none⟩ u3).setCell ⟨g, o + 4, none⟩ u4).setCell ⟨g, o + 5, none⟩ u5).setCell ⟨g, o + 6, none⟩ u6).setCell ⟨g, o + 7, none⟩ u7).setCell ⟨g, o + 8, none⟩ u8).setCell ⟨g, o + 9, none⟩ u9).setCell ⟨g, o + 10, none⟩ u10).cell? ⟨b, o', none⟩ = w.cell? ⟨b, o', none⟩ := by
  rw [cell_far h, cell_far h, cell_far h, cell_far h, cell_far h, cell_far h, cell_far h, cell_far h, cell_far h, cell_far h, cell_far h]

section
variable {A : Nat → Prop} {k : Nat}
set_option maxRecDepth 100000 in
set_option maxHeartbeats 16000000 in
theorem lay_succ (ih : LayOk A k) {w : World} {L : List (StF (St k))} {v : Value} (hA : ∀ b, A b → b < w.heap.size) (hSt : IsStates A w (k + 1) L v) (hL : LayR (k + 1) L) :
    Calls Tryz.prog 71 #[v] w fun e w' => ∃ g, e = .returned (.pointer (some ⟨g, 0, none⟩)) ∧ Hid (RegM A (k + 1) w' (fun b => w.heap.size ≤ b ∧ b < w'.heap.size) L (layD (k + 1) L) g ∧ Below w.heap.size w w') := by
  obtain ⟨ad, g, cap, rfl, hmx, hg, hcs⟩ := IsStates.open hSt
  obtain ⟨l1, l2, l3, l4, l5⟩ := hL
  have l1 : firsts L = 1 := l1
  have l2 : Dist (snames L) := l2
  have l3 : ∀ s ∈ L, ∀ y ∈ s.ways, ∃ t, fnd (snames L) y.to = some t := l3
  have l4 : L.length ≤ 1000000 := l4
  have l5 : ∀ s ∈ L, s.name.length ≤ maxLen ∧ s.ways.length ≤ 1000000 ∧ s.regions.length ≤ 1000000 ∧ (∀ y ∈ s.ways, y.to.length ≤ maxLen) ∧ ∀ r ∈ s.regions, LayR k r := l5
  obtain ⟨n, hn⟩ : ∃ n, n = L.length := ⟨_, rfl⟩
  rw [← hn] at hmx hg ⊢
  have hn6 : (n : Int) ≤ 1000000 := by omega
  have HN : Hid (n = L.length) := hn
  have HA : Hid (∀ b, A b → b < w.heap.size) := hA
  have HL : Hid (firsts L = 1 ∧ Dist (snames L) ∧ (∀ s ∈ L, ∀ y ∈ s.ways, ∃ t, fnd (snames L) y.to = some t) ∧ L.length ≤ 1000000 ∧ ∀ s ∈ L, s.name.length ≤ maxLen ∧ s.ways.length ≤ 1000000 ∧ s.regions.length ≤ 1000000 ∧ (∀ y ∈ s.ways, y.to.length ≤ maxLen) ∧ ∀ r ∈ s.regions, LayR k r) := ⟨l1, l2, l3, l4, l5⟩
  have HG : Hid (0 < n → ad = some ⟨g, 0, none⟩ ∧ g < w.heap.size) := hg
  have HCS : Hid (∀ (i : Nat) (s : StF (St k)), L[i]? = some s → ∃ ve vd vl p ay ar gy capy capr, StM A w g i s ve vd vl p ay ar gy capy capr ∧ IsRegs A w (IsStates A w k) s.regions (.slice ar s.regions.length capr)) := hcs
  have HIH : Hid (LayOk A k) := ih
  obtain ⟨arr, hmake, harr⟩ := made11 (w.alloc (.cells #[.pointer none, .pointer none, .pointer none] 101)) n (by omega)
  have hmm := mkmap (n : Int)
  obtain ⟨gR, hgR⟩ : ∃ gR, gR = w.heap.size := ⟨_, rfl⟩
  obtain ⟨gS, hgS⟩ : ∃ gS, gS = w.heap.size + 1 := ⟨_, rfl⟩
  obtain ⟨mb, hmb⟩ : ∃ mb, mb = w.heap.size + 2 := ⟨_, rfl⟩
  obtain ⟨Wc, hWc⟩ : ∃ Wc, Wc = ((w.alloc (.cells #[.pointer none, .pointer none, .pointer none] 101)).alloc (.cells arr 178)).alloc (.map #[] 0) := ⟨_, rfl⟩
  have e1 : (w.alloc (.cells #[.pointer none, .pointer none, .pointer none] 101)).heap.size = gS := by rw [hgS]; simp
  have e2 : ((w.alloc (.cells #[.pointer none, .pointer none, .pointer none] 101)).alloc (.cells arr 178)).heap.size = mb := by rw [hmb]; simp
  have H0 : Hid (L1 A w Wc L gR gS mb 0 (fun b => if b = gR then Role.reg else if b = gS then Role.sts else Role.junk) (fun _ => none) (fun _ => 0) (fun _ => 0) (fun _ _ => 0)) := by
    have kR : Wc.heap[gR]? = some (.cells #[.pointer none, .pointer none, .pointer none] 101 (0, 0)) := by rw [hWc, hgR]; exact ck_old (ck_old (ck_new w _))
    have kS : Wc.heap[gS]? = some (.cells arr 178 (0, 0)) := by rw [hWc, ← e1]; exact ck_old (ck_new _ _)
    refine ⟨?_, by rw [List.take_zero]; exact kR, ?_, fun i' j u _ hi hj => cell_row kS _ (harr i' j u (by rw [HN.out]; exact hi) hj), fun o => ck_frozen kS o, fun i' s hi => absurd hi (by omega), fun i' s hi => absurd hi (by omega), if_pos rfl, ?_, ?_, by omega, by omega, by omega, lt_of_block kS⟩
    · rw [hWc]
      exact (((Below.refl _ _).alloc (Nat.le_refl _) _).alloc (by simp) _).alloc (by simp; omega) _
    · rw [hWc, ← e2]
      exact (mapF_made _).like fun _ => rfl
    · show (if gS = gR then _ else _) = _
      rw [if_neg (by omega), if_pos rfl]
    · show (if mb = gR then _ else _) = _
      rw [if_neg (by omega), if_neg (by omega)]
  have HGS : Hid (gR = w.heap.size ∧ gS = w.heap.size + 1 ∧ mb = w.heap.size + 2) := ⟨hgR, hgS, hmb⟩
  rw [e1] at hmake
  clear hSt hcs hg l1 l2 l3 l4 l5 hn hA ih harr hmx
  go_enter Tryz.func71, Tryz.ntmps71
  go_wp2_with fail
  rw [← hWc, ← hmb, ← hgS, ← hgR]
  clear hWc e1 e2 hmake hmm hgR hgS hmb
  go_loopg [23] n (fun f iv wr => ∃ (i : Nat) (role : Nat → Role) (ad10 : Nat → Option Addr) (cap10 gI : Nat → Nat) (gr : Nat → Nat → Nat), f = n - i ∧ i ≤ n ∧ iv = .int .i64 (i : Int) ∧ Hid (L1 A w wr L gR gS mb i role ad10 cap10 gI gr))
  case atStart => exact ⟨0, _, _, _, _, _, by omega, by omega, rfl, H0.out⟩
  case round =>
    obtain ⟨i, role, ad10, cap10, gI, gr, rfl, hi, rfl, hr⟩ := hrel
    by_cases hlt : i < n
    · obtain ⟨s, hs⟩ : ∃ s, L[i]? = some s := ⟨L[i]'(by rw [← HN.out]; exact hlt), by rw [List.getElem?_eq_getElem]⟩
      obtain ⟨ve, vd, vl, pp, ay, ar, gy, capy, capr, hM, hRg⟩ := HCS.out i s hs
      have HM : Hid (StM A w g i s ve vd vl pp ay ar gy capy capr) := hM
      have hbel := hr.out.bel
      have hM := hM.below hbel
      obtain ⟨v1, v2, v3, rfl⟩ := hM.he.sl'
      obtain ⟨v4, v5, v6, rfl⟩ := hM.hd.sl'
      obtain ⟨v7, v8, v9, rfl⟩ := hM.hl.sl'
      obtain ⟨S, hS⟩ : ∃ S, Value.string S = sv s.name := ⟨_, rfl⟩
      obtain ⟨M, hML⟩ : ∃ M, M = s.ways.length := ⟨_, rfl⟩
      obtain ⟨nr, hnr⟩ : ∃ nr, nr = s.regions.length := ⟨_, rfl⟩
      obtain ⟨d1, hd1⟩ : ∃ d1, d1 = s.first := ⟨_, rfl⟩
      obtain ⟨d2, hd2⟩ : ∃ d2, d2 = s.last := ⟨_, rfl⟩
      have hit := ixT ad g n cap i hlt (fun hp => (HG.out hp).1)
      have hiz := ixZ (some ⟨gS, 0, none⟩) gS n n i hlt (fun _ => rfl)
      have c0 := hM.c0
      have c1 := hM.c1
      have c2 := hM.c2
      have c3 := hM.c3
      have c4 := hM.c4
      have c5 := hM.c5
      have c6 := hM.c6
      have c7 := hM.c7
      have c8 := hM.c8
      rw [← hS] at c0
      rw [← hd1] at c1
      rw [← hd2] at c2
      rw [← hML] at c7
      rw [← hnr] at c8 hRg
      obtain ⟨q, hq⟩ : ∃ q, q = wr.heap.size := ⟨_, rfl⟩
      obtain ⟨X, hX⟩ : ∃ X, X = wr.alloc (.cells #[.string S, .bool d1, .bool d2, .slice v1 v2 v3, .slice v4 v5 v6, .slice v7 v8 v9, .pointer pp, .slice ay M capy, .slice ar nr capr] 169) := ⟨_, rfl⟩
      have hkx : X.heap[q]? = some (.cells #[.string S, .bool d1, .bool d2, .slice v1 v2 v3, .slice v4 v5 v6, .slice v7 v8 v9, .pointer pp, .slice ay M capy, .slice ar nr capr] 169 (0, 0)) := by rw [hX, hq]; exact ck_new _ _
      have hbx : Below wr.heap.size wr X := by rw [hX]; exact ck_grown _ _
      have hbd : Below w.heap.size w X.drew := (ck_all hbel hbx).drew
      have hcall := layAll_any HIH.out (w := X.drew) (rs := s.regions) (v := .slice ar nr capr) (fun b hb => Nat.lt_of_lt_of_le (HA.out b hb) hbd.size) (hRg.carry (fun b hb hlt => ⟨hb, hbd.block b hlt⟩) (IsStates.carry (fun b hb hlt => ⟨hb, hbd.block b hlt⟩) k)) (HL.out.2.2.2.2 s (List.mem_of_getElem? hs)).2.2.2.2 (HL.out.2.2.2.2 s (List.mem_of_getElem? hs)).2.2.1
      have HQ : Hid (∀ W, Below X.heap.size X W → W.cell? ⟨q, 0, none⟩ = some (.string S) ∧ W.cell? ⟨q, 1, none⟩ = some (.bool d1) ∧ W.cell? ⟨q, 2, none⟩ = some (.bool d2) ∧ W.cell? ⟨q, 3, none⟩ = some (.slice v1 v2 v3) ∧ W.cell? ⟨q, 4, none⟩ = some (.slice v4 v5 v6) ∧ W.cell? ⟨q, 5, none⟩ = some (.slice v7 v8 v9) ∧ W.cell? ⟨q, 6, none⟩ = some (.pointer pp) ∧ W.cell? ⟨q, 7, none⟩ = some (.slice ay M capy) ∧ W.cell? ⟨q, 8, none⟩ = some (.slice ar nr capr)) := fun W hW => ⟨ck_cell hW (cell_row hkx 0 rfl), ck_cell hW (cell_row hkx 1 rfl), ck_cell hW (cell_row hkx 2 rfl), ck_cell hW (cell_row hkx 3 rfl), ck_cell hW (cell_row hkx 4 rfl), ck_cell hW (cell_row hkx 5 rfl), ck_cell hW (cell_row hkx 6 rfl), ck_cell hW (cell_row hkx 7 rfl), ck_cell hW (cell_row hkx 8 rfl)⟩
      have HZ : Hid (∀ W, Below X.heap.size X W → W.cell? ⟨gS, i * 11, none⟩ = some (.string ⟨#[]⟩) ∧ W.cell? ⟨gS, i * 11 + 1, none⟩ = some (.bool false) ∧ W.cell? ⟨gS, i * 11 + 2, none⟩ = some (.bool false) ∧ W.cell? ⟨gS, i * 11 + 3, none⟩ = some (.slice none 0 0) ∧ W.cell? ⟨gS, i * 11 + 4, none⟩ = some (.slice none 0 0) ∧ W.cell? ⟨gS, i * 11 + 5, none⟩ = some (.slice none 0 0) ∧ W.cell? ⟨gS, i * 11 + 6, none⟩ = some (.pointer none) ∧ W.cell? ⟨gS, i * 11 + 7, none⟩ = some (.slice none 0 0) ∧ W.cell? ⟨gS, i * 11 + 8, none⟩ = some (.slice none 0 0) ∧ W.cell? ⟨gS, i * 11 + 9, none⟩ = some (.slice none 0 0) ∧ W.cell? ⟨gS, i * 11 + 10, none⟩ = some (.slice none 0 0) ∧ W.frozen? ⟨gS, i * 11, none⟩ = false ∧ W.frozen? ⟨gS, i * 11 + 1, none⟩ = false ∧ W.frozen? ⟨gS, i * 11 + 2, none⟩ = false ∧ W.frozen? ⟨gS, i * 11 + 3, none⟩ = false ∧ W.frozen? ⟨gS, i * 11 + 4, none⟩ = false ∧ W.frozen? ⟨gS, i * 11 + 5, none⟩ = false ∧ W.frozen? ⟨gS, i * 11 + 6, none⟩ = false ∧ W.frozen? ⟨gS, i * 11 + 7, none⟩ = false ∧ W.frozen? ⟨gS, i * 11 + 8, none⟩ = false ∧ W.frozen? ⟨gS, i * 11 + 9, none⟩ = false ∧ W.frozen? ⟨gS, i * 11 + 10, none⟩ = false) := fun W hW => by
        have hl := hr.out.ls
        have eb : W.heap[gS]? = wr.heap[gS]? := by rw [hW.block gS (Nat.lt_of_lt_of_le hl hbx.size), hbx.block gS hl]
        have ec : ∀ j u, z11[j]? = some u → W.cell? ⟨gS, i * 11 + j, none⟩ = some u := fun j u hj => by rw [World.cell?_of_block (w := wr) (a := ⟨gS, i * 11 + j, none⟩) eb]; exact hr.out.rest i j u (Nat.le_refl _) (by rw [← HN.out]; exact hlt) hj
        have ef : ∀ o, W.frozen? ⟨gS, o, none⟩ = false := fun o => by
          have : W.frozen? ⟨gS, o, none⟩ = wr.frozen? ⟨gS, o, none⟩ := by simp only [World.frozen?, eb]
          rw [this]; exact hr.out.fz o
        exact ⟨ec 0 _ rfl, ec 1 _ rfl, ec 2 _ rfl, ec 3 _ rfl, ec 4 _ rfl, ec 5 _ rfl, ec 6 _ rfl, ec 7 _ rfl, ec 8 _ rfl, ec 9 _ rfl, ec 10 _ rfl, ef _, ef _, ef _, ef _, ef _, ef _, ef _, ef _, ef _, ef _, ef _⟩
      have HS : Hid (Value.string S = sv s.name ∧ M = s.ways.length ∧ nr = s.regions.length ∧ d1 = s.first ∧ d2 = s.last ∧ L[i]? = some s ∧ X = wr.alloc (.cells #[.string S, .bool d1, .bool d2, .slice v1 v2 v3, .slice v4 v5 v6, .slice v7 v8 v9, .pointer pp, .slice ay M capy, .slice ar nr capr] 169) ∧ q = wr.heap.size) := ⟨hS, hML, hnr, hd1, hd2, hs, hX, hq⟩
      have HR1 : Hid (L1 A w wr L gR gS mb i role ad10 cap10 gI gr) := hr.out
      have hql : q ≠ gS := by have := hr.out.ls; omega
      have HF : Hid (∀ (w1 : World) (ad1 : Option Addr) (n1 cap1 : Nat), w1.cell? ⟨q, 0, none⟩ = some (.string S) ∧ w1.cell? ⟨q, 1, none⟩ = some (.bool d1) ∧ w1.cell? ⟨q, 2, none⟩ = some (.bool d2) ∧ w1.cell? ⟨q, 3, none⟩ = some (.slice v1 v2 v3) ∧ w1.cell? ⟨q, 4, none⟩ = some (.slice v4 v5 v6) ∧ w1.cell? ⟨q, 5, none⟩ = some (.slice v7 v8 v9) ∧ w1.cell? ⟨q, 6, none⟩ = some (.pointer pp) ∧ w1.cell? ⟨q, 7, none⟩ = some (.slice ay M capy) ∧ w1.cell? ⟨q, 8, none⟩ = some (.slice ar nr capr) → (((((((((((w1.setCell ⟨gS, i * 11, none⟩ (.string S)).setCell ⟨gS, i * 11 + 1, none⟩ (.bool d1)).setCell ⟨gS, i * 11 + 2, none⟩ (.bool d2)).setCell ⟨gS, i * 11 + 3, none⟩ (.slice v1 v2 v3)).setCell ⟨gS, i * 11 + 4, none⟩ (.slice v4 v5 v6)).setCell ⟨gS, i * 11 + 5, none⟩ (.slice v7 v8 v9)).setCell ⟨gS, i * 11 + 6, none⟩ (.pointer pp)).setCell ⟨gS, i * 11 + 7, none⟩ (.slice ay M capy)).setCell ⟨gS, i * 11 + 8, none⟩ (.slice ar nr capr)).setCell ⟨gS, i * 11 + 9, none⟩ (.slice none 0 0)).setCell ⟨gS, i * 11 + 10, none⟩ (.slice ad1 n1 cap1)).cell? ⟨q, 0, none⟩ = some (.string S) ∧ (((((((((((w1.setCell ⟨gS, i * 11, none⟩ (.string S)).setCell ⟨gS, i * 11 + 1, none⟩ (.bool d1)).setCell ⟨gS, i * 11 + 2, none⟩ (.bool d2)).setCell ⟨gS, i * 11 + 3, none⟩ (.slice v1 v2 v3)).setCell ⟨gS, i * 11 + 4, none⟩ (.slice v4 v5 v6)).setCell ⟨gS, i * 11 + 5, none⟩ (.slice v7 v8 v9)).setCell ⟨gS, i * 11 + 6, none⟩ (.pointer pp)).setCell ⟨gS, i * 11 + 7, none⟩ (.slice ay M capy)).setCell ⟨gS, i * 11 + 8, none⟩ (.slice ar nr capr)).setCell ⟨gS, i * 11 + 9, none⟩ (.slice none 0 0)).setCell ⟨gS, i * 11 + 10, none⟩ (.slice ad1 n1 cap1)).cell? ⟨q, 1, none⟩ = some (.bool d1) ∧ (((((((((((w1.setCell ⟨gS, i * 11, none⟩ (.string S)).setCell ⟨gS, i * 11 + 1, none⟩ (.bool d1)).setCell ⟨gS, i * 11 + 2, none⟩ (.bool d2)).setCell ⟨gS, i * 11 + 3, none⟩ (.slice v1 v2 v3)).setCell ⟨gS, i * 11 + 4, none⟩ (.slice v4 v5 v6)).setCell ⟨gS, i * 11 + 5, none⟩ (.slice v7 v8 v9)).setCell ⟨gS, i * 11 + 6, none⟩ (.pointer pp)).setCell ⟨gS, i * 11 + 7, none⟩ (.slice ay M capy)).setCell ⟨gS, i * 11 + 8, none⟩ (.slice ar nr capr)).setCell ⟨gS, i * 11 + 9, none⟩ (.slice none 0 0)).setCell ⟨gS, i * 11 + 10, none⟩ (.slice ad1 n1 cap1)).cell? ⟨q, 2, none⟩ = some (.bool d2) ∧ (((((((((((w1.setCell ⟨gS, i * 11, none⟩ (.string S)).setCell ⟨gS, i * 11 + 1, none⟩ (.bool d1)).setCell ⟨gS, i * 11 + 2, none⟩ (.bool d2)).setCell ⟨gS, i * 11 + 3, none⟩ (.slice v1 v2 v3)).setCell ⟨gS, i * 11 + 4, none⟩ (.slice v4 v5 v6)).setCell ⟨gS, i * 11 + 5, none⟩ (.slice v7 v8 v9)).setCell ⟨gS, i * 11 + 6, none⟩ (.pointer pp)).setCell ⟨gS, i * 11 + 7, none⟩ (.slice ay M capy)).setCell ⟨gS, i * 11 + 8, none⟩ (.slice ar nr capr)).setCell ⟨gS, i * 11 + 9, none⟩ (.slice none 0 0)).setCell ⟨gS, i * 11 + 10, none⟩ (.slice ad1 n1 cap1)).cell? ⟨q, 3, none⟩ = some (.slice v1 v2 v3) ∧ (((((((((((w1.setCell ⟨gS, i * 11, none⟩ (.string S)).setCell ⟨gS, i * 11 + 1, none⟩ (.bool d1)).setCell ⟨gS, i * 11 + 2, none⟩ (.bool d2)).setCell ⟨gS, i * 11 + 3, none⟩ (.slice v1 v2 v3)).setCell ⟨gS, i * 11 + 4, none⟩ (.slice v4 v5 v6)).setCell ⟨gS, i * 11 + 5, none⟩ (.slice v7 v8 v9)).setCell ⟨gS, i * 11 + 6, none⟩ (.pointer pp)).setCell ⟨gS, i * 11 + 7, none⟩ (.slice ay M capy)).setCell ⟨gS, i * 11 + 8, none⟩ (.slice ar nr capr)).setCell ⟨gS, i * 11 + 9, none⟩ (.slice none 0 0)).setCell ⟨gS, i * 11 + 10, none⟩ (.slice ad1 n1 cap1)).cell? ⟨q, 4, none⟩ = some (.slice v4 v5 v6) ∧ (((((((((((w1.setCell ⟨gS, i * 11, none⟩ (.string S)).setCell ⟨gS, i * 11 + 1, none⟩ (.bool d1)).setCell ⟨gS, i * 11 + 2, none⟩ (.bool d2)).setCell ⟨gS, i * 11 + 3, none⟩ (.slice v1 v2 v3)).setCell ⟨gS, i * 11 + 4, none⟩ (.slice v4 v5 v6)).setCell ⟨gS, i * 11 + 5, none⟩ (.slice v7 v8 v9)).setCell ⟨gS, i * 11 + 6, none⟩ (.pointer pp)).setCell ⟨gS, i * 11 + 7, none⟩ (.slice ay M capy)).setCell ⟨gS, i * 11 + 8, none⟩ (.slice ar nr capr)).setCell ⟨gS, i * 11 + 9, none⟩ (.slice none 0 0)).setCell ⟨gS, i * 11 + 10, none⟩ (.slice ad1 n1 cap1)).cell? ⟨q, 5, none⟩ = some (.slice v7 v8 v9) ∧ (((((((((((w1.setCell ⟨gS, i * 11, none⟩ (.string S)).setCell ⟨gS, i * 11 + 1, none⟩ (.bool d1)).setCell ⟨gS, i * 11 + 2, none⟩ (.bool d2)).setCell ⟨gS, i * 11 + 3, none⟩ (.slice v1 v2 v3)).setCell ⟨gS, i * 11 + 4, none⟩ (.slice v4 v5 v6)).setCell ⟨gS, i * 11 + 5, none⟩ (.slice v7 v8 v9)).setCell ⟨gS, i * 11 + 6, none⟩ (.pointer pp)).setCell ⟨gS, i * 11 + 7, none⟩ (.slice ay M capy)).setCell ⟨gS, i * 11 + 8, none⟩ (.slice ar nr capr)).setCell ⟨gS, i * 11 + 9, none⟩ (.slice none 0 0)).setCell ⟨gS, i * 11 + 10, none⟩ (.slice ad1 n1 cap1)).cell? ⟨q, 6, none⟩ = some (.pointer pp) ∧ (((((((((((w1.setCell ⟨gS, i * 11, none⟩ (.string S)).setCell ⟨gS, i * 11 + 1, none⟩ (.bool d1)).setCell ⟨gS, i * 11 + 2, none⟩ (.bool d2)).setCell ⟨gS, i * 11 + 3, none⟩ (.slice v1 v2 v3)).setCell ⟨gS, i * 11 + 4, none⟩ (.slice v4 v5 v6)).setCell ⟨gS, i * 11 + 5, none⟩ (.slice v7 v8 v9)).setCell ⟨gS, i * 11 + 6, none⟩ (.pointer pp)).setCell ⟨gS, i * 11 + 7, none⟩ (.slice ay M capy)).setCell ⟨gS, i * 11 + 8, none⟩ (.slice ar nr capr)).setCell ⟨gS, i * 11 + 9, none⟩ (.slice none 0 0)).setCell ⟨gS, i * 11 + 10, none⟩ (.slice ad1 n1 cap1)).cell? ⟨q, 7, none⟩ = some (.slice ay M capy) ∧ (((((((((((w1.setCell ⟨gS, i * 11, none⟩ (.string S)).setCell ⟨gS, i * 11 + 1, none⟩ (.bool d1)).setCell ⟨gS, i * 11 + 2, none⟩ (.bool d2)).setCell ⟨gS, i * 11 + 3, none⟩ (.slice v1 v2 v3)).setCell ⟨gS, i * 11 + 4, none⟩ (.slice v4 v5 v6)).setCell ⟨gS, i * 11 + 5, none⟩ (.slice v7 v8 v9)).setCell ⟨gS, i * 11 + 6, none⟩ (.pointer pp)).setCell ⟨gS, i * 11 + 7, none⟩ (.slice ay M capy)).setCell ⟨gS, i * 11 + 8, none⟩ (.slice ar nr capr)).setCell ⟨gS, i * 11 + 9, none⟩ (.slice none 0 0)).setCell ⟨gS, i * 11 + 10, none⟩ (.slice ad1 n1 cap1)).cell? ⟨q, 8, none⟩ = some (.slice ar nr capr)) := fun w1 ad1 n1 cap1 h9 => ⟨(set11_far (Ne.symm hql)).trans (h9.1), (set11_far (Ne.symm hql)).trans (h9.2.1), (set11_far (Ne.symm hql)).trans (h9.2.2.1), (set11_far (Ne.symm hql)).trans (h9.2.2.2.1), (set11_far (Ne.symm hql)).trans (h9.2.2.2.2.1), (set11_far (Ne.symm hql)).trans (h9.2.2.2.2.2.1), (set11_far (Ne.symm hql)).trans (h9.2.2.2.2.2.2.1), (set11_far (Ne.symm hql)).trans (h9.2.2.2.2.2.2.2.1), (set11_far (Ne.symm hql)).trans (h9.2.2.2.2.2.2.2.2)⟩
      obtain ⟨q0, q1, q2, q3, q4, q5, q6, q7, q8⟩ := HQ.out X.drew ((Below.refl _ _).drew)
      clear hr hs hS hML hnr hd1 hd2 hkx hbx hbd hbel hM hRg
      go_upto_region 7 with fail
      rw [← hX, ← hq]
      clear hX hq c0 c1 c2 c3 c4 c5 c6 c7 c8 hit
      go_region_held3 (fun W => W.cell? ⟨q, 0, none⟩ = some (.string S) ∧ W.cell? ⟨q, 1, none⟩ = some (.bool d1) ∧ W.cell? ⟨q, 2, none⟩ = some (.bool d2) ∧ W.cell? ⟨q, 3, none⟩ = some (.slice v1 v2 v3) ∧ W.cell? ⟨q, 4, none⟩ = some (.slice v4 v5 v6) ∧ W.cell? ⟨q, 5, none⟩ = some (.slice v7 v8 v9) ∧ W.cell? ⟨q, 6, none⟩ = some (.pointer pp) ∧ W.cell? ⟨q, 7, none⟩ = some (.slice ay M capy) ∧ W.cell? ⟨q, 8, none⟩ = some (.slice ar nr capr)) (first | with_reducible exact HQ1.out | with_reducible exact HQ2.out | go_keep)
        (first | (go_at_call 37; refine hcall.mono ?_; rintro e w1 ⟨ad1, n1, cap1, rfl, hla⟩; have hb1 : Below X.heap.size X w1 := ck_all ((Below.refl _ _).drew) hla.out.2.2; have HQ1 : Hid (w1.cell? ⟨q, 0, none⟩ = some (.string S) ∧ w1.cell? ⟨q, 1, none⟩ = some (.bool d1) ∧ w1.cell? ⟨q, 2, none⟩ = some (.bool d2) ∧ w1.cell? ⟨q, 3, none⟩ = some (.slice v1 v2 v3) ∧ w1.cell? ⟨q, 4, none⟩ = some (.slice v4 v5 v6) ∧ w1.cell? ⟨q, 5, none⟩ = some (.slice v7 v8 v9) ∧ w1.cell? ⟨q, 6, none⟩ = some (.pointer pp) ∧ w1.cell? ⟨q, 7, none⟩ = some (.slice ay M capy) ∧ w1.cell? ⟨q, 8, none⟩ = some (.slice ar nr capr)) := HQ.out w1 hb1; have HQ2 : Hid ((((((((((((w1.setCell ⟨gS, i * 11, none⟩ (.string S)).setCell ⟨gS, i * 11 + 1, none⟩ (.bool d1)).setCell ⟨gS, i * 11 + 2, none⟩ (.bool d2)).setCell ⟨gS, i * 11 + 3, none⟩ (.slice v1 v2 v3)).setCell ⟨gS, i * 11 + 4, none⟩ (.slice v4 v5 v6)).setCell ⟨gS, i * 11 + 5, none⟩ (.slice v7 v8 v9)).setCell ⟨gS, i * 11 + 6, none⟩ (.pointer pp)).setCell ⟨gS, i * 11 + 7, none⟩ (.slice ay M capy)).setCell ⟨gS, i * 11 + 8, none⟩ (.slice ar nr capr)).setCell ⟨gS, i * 11 + 9, none⟩ (.slice none 0 0)).setCell ⟨gS, i * 11 + 10, none⟩ (.slice ad1 n1 cap1)).cell? ⟨q, 0, none⟩ = some (.string S) ∧ (((((((((((w1.setCell ⟨gS, i * 11, none⟩ (.string S)).setCell ⟨gS, i * 11 + 1, none⟩ (.bool d1)).setCell ⟨gS, i * 11 + 2, none⟩ (.bool d2)).setCell ⟨gS, i * 11 + 3, none⟩ (.slice v1 v2 v3)).setCell ⟨gS, i * 11 + 4, none⟩ (.slice v4 v5 v6)).setCell ⟨gS, i * 11 + 5, none⟩ (.slice v7 v8 v9)).setCell ⟨gS, i * 11 + 6, none⟩ (.pointer pp)).setCell ⟨gS, i * 11 + 7, none⟩ (.slice ay M capy)).setCell ⟨gS, i * 11 + 8, none⟩ (.slice ar nr capr)).setCell ⟨gS, i * 11 + 9, none⟩ (.slice none 0 0)).setCell ⟨gS, i * 11 + 10, none⟩ (.slice ad1 n1 cap1)).cell? ⟨q, 1, none⟩ = some (.bool d1) ∧ (((((((((((w1.setCell ⟨gS, i * 11, none⟩ (.string S)).setCell ⟨gS, i * 11 + 1, none⟩ (.bool d1)).setCell ⟨gS, i * 11 + 2, none⟩ (.bool d2)).setCell ⟨gS, i * 11 + 3, none⟩ (.slice v1 v2 v3)).setCell ⟨gS, i * 11 + 4, none⟩ (.slice v4 v5 v6)).setCell ⟨gS, i * 11 + 5, none⟩ (.slice v7 v8 v9)).setCell ⟨gS, i * 11 + 6, none⟩ (.pointer pp)).setCell ⟨gS, i * 11 + 7, none⟩ (.slice ay M capy)).setCell ⟨gS, i * 11 + 8, none⟩ (.slice ar nr capr)).setCell ⟨gS, i * 11 + 9, none⟩ (.slice none 0 0)).setCell ⟨gS, i * 11 + 10, none⟩ (.slice ad1 n1 cap1)).cell? ⟨q, 2, none⟩ = some (.bool d2) ∧ (((((((((((w1.setCell ⟨gS, i * 11, none⟩ (.string S)).setCell ⟨gS, i * 11 + 1, none⟩ (.bool d1)).setCell ⟨gS, i * 11 + 2, none⟩ (.bool d2)).setCell ⟨gS, i * 11 + 3, none⟩ (.slice v1 v2 v3)).setCell ⟨gS, i * 11 + 4, none⟩ (.slice v4 v5 v6)).setCell ⟨gS, i * 11 + 5, none⟩ (.slice v7 v8 v9)).setCell ⟨gS, i * 11 + 6, none⟩ (.pointer pp)).setCell ⟨gS, i * 11 + 7, none⟩ (.slice ay M capy)).setCell ⟨gS, i * 11 + 8, none⟩ (.slice ar nr capr)).setCell ⟨gS, i * 11 + 9, none⟩ (.slice none 0 0)).setCell ⟨gS, i * 11 + 10, none⟩ (.slice ad1 n1 cap1)).cell? ⟨q, 3, none⟩ = some (.slice v1 v2 v3) ∧ (((((((((((w1.setCell ⟨gS, i * 11, none⟩ (.string S)).setCell ⟨gS, i * 11 + 1, none⟩ (.bool d1)).setCell ⟨gS, i * 11 + 2, none⟩ (.bool d2)).setCell ⟨gS, i * 11 + 3, none⟩ (.slice v1 v2 v3)).setCell ⟨gS, i * 11 + 4, none⟩ (.slice v4 v5 v6)).setCell ⟨gS, i * 11 + 5, none⟩ (.slice v7 v8 v9)).setCell ⟨gS, i * 11 + 6, none⟩ (.pointer pp)).setCell ⟨gS, i * 11 + 7, none⟩ (.slice ay M capy)).setCell ⟨gS, i * 11 + 8, none⟩ (.slice ar nr capr)).setCell ⟨gS, i * 11 + 9, none⟩ (.slice none 0 0)).setCell ⟨gS, i * 11 + 10, none⟩ (.slice ad1 n1 cap1)).cell? ⟨q, 4, none⟩ = some (.slice v4 v5 v6) ∧ (((((((((((w1.setCell ⟨gS, i * 11, none⟩ (.string S)).setCell ⟨gS, i * 11 + 1, none⟩ (.bool d1)).setCell ⟨gS, i * 11 + 2, none⟩ (.bool d2)).setCell ⟨gS, i * 11 + 3, none⟩ (.slice v1 v2 v3)).setCell ⟨gS, i * 11 + 4, none⟩ (.slice v4 v5 v6)).setCell ⟨gS, i * 11 + 5, none⟩ (.slice v7 v8 v9)).setCell ⟨gS, i * 11 + 6, none⟩ (.pointer pp)).setCell ⟨gS, i * 11 + 7, none⟩ (.slice ay M capy)).setCell ⟨gS, i * 11 + 8, none⟩ (.slice ar nr capr)).setCell ⟨gS, i * 11 + 9, none⟩ (.slice none 0 0)).setCell ⟨gS, i * 11 + 10, none⟩ (.slice ad1 n1 cap1)).cell? ⟨q, 5, none⟩ = some (.slice v7 v8 v9) ∧ (((((((((((w1.setCell ⟨gS, i * 11, none⟩ (.string S)).setCell ⟨gS, i * 11 + 1, none⟩ (.bool d1)).setCell ⟨gS, i * 11 + 2, none⟩ (.bool d2)).setCell ⟨gS, i * 11 + 3, none⟩ (.slice v1 v2 v3)).setCell ⟨gS, i * 11 + 4, none⟩ (.slice v4 v5 v6)).setCell ⟨gS, i * 11 + 5, none⟩ (.slice v7 v8 v9)).setCell ⟨gS, i * 11 + 6, none⟩ (.pointer pp)).setCell ⟨gS, i * 11 + 7, none⟩ (.slice ay M capy)).setCell ⟨gS, i * 11 + 8, none⟩ (.slice ar nr capr)).setCell ⟨gS, i * 11 + 9, none⟩ (.slice none 0 0)).setCell ⟨gS, i * 11 + 10, none⟩ (.slice ad1 n1 cap1)).cell? ⟨q, 6, none⟩ = some (.pointer pp) ∧ (((((((((((w1.setCell ⟨gS, i * 11, none⟩ (.string S)).setCell ⟨gS, i * 11 + 1, none⟩ (.bool d1)).setCell ⟨gS, i * 11 + 2, none⟩ (.bool d2)).setCell ⟨gS, i * 11 + 3, none⟩ (.slice v1 v2 v3)).setCell ⟨gS, i * 11 + 4, none⟩ (.slice v4 v5 v6)).setCell ⟨gS, i * 11 + 5, none⟩ (.slice v7 v8 v9)).setCell ⟨gS, i * 11 + 6, none⟩ (.pointer pp)).setCell ⟨gS, i * 11 + 7, none⟩ (.slice ay M capy)).setCell ⟨gS, i * 11 + 8, none⟩ (.slice ar nr capr)).setCell ⟨gS, i * 11 + 9, none⟩ (.slice none 0 0)).setCell ⟨gS, i * 11 + 10, none⟩ (.slice ad1 n1 cap1)).cell? ⟨q, 7, none⟩ = some (.slice ay M capy) ∧ (((((((((((w1.setCell ⟨gS, i * 11, none⟩ (.string S)).setCell ⟨gS, i * 11 + 1, none⟩ (.bool d1)).setCell ⟨gS, i * 11 + 2, none⟩ (.bool d2)).setCell ⟨gS, i * 11 + 3, none⟩ (.slice v1 v2 v3)).setCell ⟨gS, i * 11 + 4, none⟩ (.slice v4 v5 v6)).setCell ⟨gS, i * 11 + 5, none⟩ (.slice v7 v8 v9)).setCell ⟨gS, i * 11 + 6, none⟩ (.pointer pp)).setCell ⟨gS, i * 11 + 7, none⟩ (.slice ay M capy)).setCell ⟨gS, i * 11 + 8, none⟩ (.slice ar nr capr)).setCell ⟨gS, i * 11 + 9, none⟩ (.slice none 0 0)).setCell ⟨gS, i * 11 + 10, none⟩ (.slice ad1 n1 cap1)).cell? ⟨q, 8, none⟩ = some (.slice ar nr capr)) := HF.out w1 ad1 n1 cap1 HQ1.out; obtain ⟨z0, z1, z2, z3, z4, z5, z6, z7, z8, z9, z10, f0, f1, f2, f3, f4, f5, f6, f7, f8, f9, f10⟩ := HZ.out w1 hb1))
      all_goals
        obtain ⟨hS, hML, hnr, hd1, hd2, hs, hX, hq⟩ := HS.out
        obtain ⟨hn1, ⟨gI1, gr1, rol, hLd⟩, _⟩ := hla.out
        have hr := HR1.out
        have sX : X.heap.size = wr.heap.size + 1 := by rw [hX]; simp
        have s1 := hb1.size
        have nRS : gR ≠ gS := fun e => by have := hr.rs; rw [← e, hr.rg] at this; simp at this
        have nRM : gR ≠ mb := fun e => by have := hr.rm; rw [← e, hr.rg] at this; simp at this
        have nSM : gS ≠ mb := fun e => by have := hr.rm; rw [← e, hr.rs] at this; simp at this
        have lM := hr.map.lt
        have lR := lt_of_block hr.reg
        have lS := hr.ls
        obtain ⟨W2, hW2⟩ : ∃ W2, W2 = (((((((((((w1.setCell ⟨gS, i * 11, none⟩ (.string S)).setCell ⟨gS, i * 11 + 1, none⟩ (.bool d1)).setCell ⟨gS, i * 11 + 2, none⟩ (.bool d2)).setCell ⟨gS, i * 11 + 3, none⟩ (.slice v1 v2 v3)).setCell ⟨gS, i * 11 + 4, none⟩ (.slice v4 v5 v6)).setCell ⟨gS, i * 11 + 5, none⟩ (.slice v7 v8 v9)).setCell ⟨gS, i * 11 + 6, none⟩ (.pointer pp)).setCell ⟨gS, i * 11 + 7, none⟩ (.slice ay M capy)).setCell ⟨gS, i * 11 + 8, none⟩ (.slice ar nr capr)).setCell ⟨gS, i * 11 + 9, none⟩ (.slice none 0 0)).setCell ⟨gS, i * 11 + 10, none⟩ (.slice ad1 n1 cap1)) := ⟨_, rfl⟩
        rw [← hW2] at HQ2 ⊢
        have eW2 : W2 = setL w1 gS (i * 11) [sv s.name, .bool s.first, .bool s.last, .slice v1 v2 v3, .slice v4 v5 v6, .slice v7 v8 v9, .pointer pp, .slice ay M capy, .slice ar nr capr, .slice none 0 0, .slice ad1 s.regions.length cap1] := by rw [hW2, ← hS, ← hd1, ← hd2, ← hn1]; rfl
        have s2 : W2.heap.size = w1.heap.size := by rw [eW2]; exact (setL_size _ _ _ _).1
        have b2 : ∀ b, b < wr.heap.size → b ≠ gS → W2.heap[b]? = wr.heap[b]? := fun b hb hne => by rw [eW2, setL_block _ _ hne, hb1.block b (by omega), hX, Below.heap_alloc _ _ _ hb]
        have HM2 : MapF W2 mb i (namK (snames L) i) := hr.map.keep (b2 mb lM (Ne.symm nSM))
        obtain ⟨W3, hrun, hM3, hg3⟩ := HM2.put (by unfold maxLen; omega) (HL.out.2.2.2.2 s (List.mem_of_getElem? hs)).1 (i := i) (by omega)
        rw [← hS] at hrun
        have hM3' : MapF W3 mb (i + 1) (namK (snames L) (i + 1)) := hM3.like fun t => by
          have e : (snames L).getD i [] = s.name := by unfold snames; rw [List.getD_eq_getElem?_getD, List.getElem?_map, hs]; rfl
          show _ = if (snames L).getD i [] = t then some i else namK (snames L) i t
          rw [e]
        have c0 := HQ2.out.1
        have c1 : W3.cell? ⟨q, 1, none⟩ = some (.bool d1) := by
          rw [World.cell?_of_block (w := W2) (a := ⟨q, 1, none⟩) (hg3.block q (by omega) (fun e => by injection e with e; omega))]
          exact HQ2.out.2.1
        have kR : W3.heap[gR]? = some (.cells #[pS gS (firstI (L.take i)), .pointer none, .pointer none] 101 (0, 0)) := by
          rw [hg3.block gR (by omega) (fun e => nRM (by injection e)), b2 gR lR nRS]; exact hr.reg
        have cR : W3.cell? ⟨gR, 0, none⟩ = some (pS gS (firstI (L.take i))) := cell_row kR 0 rfl
        have fR : W3.frozen? ⟨gR, 0, none⟩ = false := ck_frozen kR 0
        have HE : Hid (∀ W4, W4 = (if d1 = true then W3.setCell ⟨gR, 0, none⟩ (.pointer (some ⟨gS, i * 11, none⟩)) else W3) → ∃ role' ad10' cap10' gI' gr', L1 A w W4 L gR gS mb (i + 1) role' ad10' cap10' gI' gr') := fun W4 h4 => L1.step HA.out hr HL.out.1 hs HM.out.he HM.out.hd HM.out.hl HM.out.hp hX hb1 ⟨hLd.had, hLd.reg⟩ eW2 hg3 hM3' (by rw [h4, hd1]; rfl)
        generalize pS gS (firstI (L.take i)) = pv at cR
        clear hS hML hnr hd1 hd2 hs hX hq hn1 hLd hr sX s1 eW2 s2 b2 HM2 hM3 hg3 hM3' kR hW2 HQ2 HQ1 HQ HZ HF HS hla hcall HR1 HM hb1 nRS nRM nSM lM lR lS z0 z1 z2 z3 z4 z5 z6 z7 z8 z9 z10 f0 f1 f2 f3 f4 f5 f6 f7 f8 f9 f10 q0 q1 q2 q3 q4 q5 q6 q7 q8
        cases d1
        · go_wp2_with fail
          go_roundg (n - (i + 1))
          case measure => omega
          case rel =>
            obtain ⟨r1, r2, r3, r4, r5, r6⟩ := HE.out W3 rfl
            exact ⟨i + 1, r1, r2, r3, r4, r5, by omega, by omega, by go_num, r6⟩
        · go_wp2_with fail
          go_roundg (n - (i + 1))
          case measure => omega
          case rel =>
            obtain ⟨r1, r2, r3, r4, r5, r6⟩ := HE.out _ rfl
            exact ⟨i + 1, r1, r2, r3, r4, r5, by omega, by omega, by go_num, r6⟩
    · have ei : n = i := by omega
      subst ei
      obtain ⟨role2, h2⟩ := L1.ways (A := A) (w := w) (wr := wr) (L := L) (gR := gR) (gS := gS) (mb := mb) (role := role) (ad10 := ad10) (cap10 := cap10) (gI := gI) (gr := gr) (by have h := hr.out; rw [HN.out] at h; exact h)
      have H2 : Hid (L2 A w wr L gR gS mb 0 0 role2 ad10 cap10 gI gr (fun _ => 0) (fun _ => none) (fun _ => 0) wr.heap.size []) := h2
      clear hr h2 hlt hi H0
      go_wp2_with fail
      go_loopg [51] n (fun f iv wr => ∃ (i : Nat) (role : Nat → Role) (ad10 : Nat → Option Addr) (cap10 gI : Nat → Nat) (gr : Nat → Nat → Nat) (gW : Nat → Nat) (ad9 : Nat → Option Addr) (cap9 : Nat → Nat) (Bi : Nat), f = n - i ∧ i ≤ n ∧ iv = .int .i64 (i : Int) ∧ Hid (L2 A w wr L gR gS mb i 0 role ad10 cap10 gI gr gW ad9 cap9 Bi []))
      case atStart => exact ⟨0, role2, ad10, cap10, gI, gr, _, _, _, _, by omega, by omega, rfl, H2.out⟩
      case round =>
        clear H2
        obtain ⟨i, role, ad10, cap10, gI, gr, gW, ad9, cap9, Bi, rfl, hi, rfl, hr⟩ := hrel
        by_cases hlt : i < n
        · obtain ⟨s, hs⟩ : ∃ s, L[i]? = some s := ⟨L[i]'(by rw [← HN.out]; exact hlt), by rw [List.getElem?_eq_getElem]⟩
          obtain ⟨ve, vd, vl, pp, ay, ar, gy, capy, capr, hM, hRg⟩ := HCS.out i s hs
          have HM : Hid (StM A w g i s ve vd vl pp ay ar gy capy capr) := hM
          have hM := hM.below hr.out.bel
          obtain ⟨v1, v2, v3, rfl⟩ := hM.he.sl'
          obtain ⟨v4, v5, v6, rfl⟩ := hM.hd.sl'
          obtain ⟨v7, v8, v9, rfl⟩ := hM.hl.sl'
          obtain ⟨S, hS⟩ : ∃ S, Value.string S = sv s.name := ⟨_, rfl⟩
          obtain ⟨M, hML⟩ : ∃ M, M = s.ways.length := ⟨_, rfl⟩
          obtain ⟨nr, hnr⟩ : ∃ nr, nr = s.regions.length := ⟨_, rfl⟩
          obtain ⟨d1, hd1⟩ : ∃ d1, d1 = s.first := ⟨_, rfl⟩
          obtain ⟨d2, hd2⟩ : ∃ d2, d2 = s.last := ⟨_, rfl⟩
          have hit := ixT ad g n cap i hlt (fun hp => (HG.out hp).1)
          have c0 := hM.c0
          have c1 := hM.c1
          have c2 := hM.c2
          have c3 := hM.c3
          have c4 := hM.c4
          have c5 := hM.c5
          have c6 := hM.c6
          have c7 := hM.c7
          have c8 := hM.c8
          rw [← hS] at c0
          rw [← hd1] at c1
          rw [← hd2] at c2
          rw [← hML] at c7
          rw [← hnr] at c8
          obtain ⟨q, hq⟩ : ∃ q, q = wr.heap.size := ⟨_, rfl⟩
          obtain ⟨X, hX⟩ : ∃ X, X = wr.alloc (.cells #[.string S, .bool d1, .bool d2, .slice v1 v2 v3, .slice v4 v5 v6, .slice v7 v8 v9, .pointer pp, .slice ay M capy, .slice ar nr capr] 169) := ⟨_, rfl⟩
          have HX : Hid (L2 A w X L gR gS mb i 0 role ad10 cap10 gI gr gW ad9 cap9 Bi []) := by rw [hX]; exact hr.out.alloc HA.out _
          have HS : Hid (M = s.ways.length ∧ L[i]? = some s ∧ s.ways.length ≤ 1000000) := ⟨hML, hs, (HL.out.2.2.2.2 s (List.mem_of_getElem? hs)).2.1⟩
          have hM6 : (M : Int) ≤ 1000000 := by have := HS.out.2.2; omega
          clear hr hs hS hML hnr hd1 hd2 hM hRg
          go_wp2_with fail
          rw [← hX, ← hq]
          clear hX hq c0 c1 c2 c3 c4 c5 c6 c7 c8 hit
          go_loopg [59] M (fun f jv wr => ∃ (jw : Nat) (ad9 : Nat → Option Addr) (cap9 : Nat → Nat) (xs : List Value), f = M - jw ∧ jw ≤ M ∧ jv = .int .i64 (jw : Int) ∧ Hid (L2 A w wr L gR gS mb i jw role ad10 cap10 gI gr gW ad9 cap9 Bi xs))
          case atStart => exact ⟨0, ad9, cap9, [], by omega, by omega, rfl, HX.out⟩
          case round =>
            clear HX
            obtain ⟨jw, ad9', cap9', xs, rfl, hj, rfl, hr⟩ := hrel
            obtain ⟨hML, hs, _⟩ := HS.out
            by_cases hjl : jw < M
            · obtain ⟨y, hy⟩ : ∃ y, s.ways[jw]? = some y := ⟨s.ways[jw]'(by rw [← hML]; exact hjl), by rw [List.getElem?_eq_getElem]⟩
              obtain ⟨p, qv, hw0⟩ := HM.out.hw.2.2 jw y hy
              have hw1 := hw0.below hr.out.bel
              obtain ⟨_, _, _, _, _, _, _, hE, hSe⟩ := hw0
              obtain ⟨t1, t2, t3, rfl⟩ := hSe.sl'
              obtain ⟨y0, y1, y2, y3, y4, y5, y6, _, _⟩ := hw1
              obtain ⟨t, ht⟩ := HL.out.2.2.1 s (List.mem_of_getElem? hs) y (List.mem_of_getElem? hy)
              have esn : (snames L).length = n := by rw [HN.out]; exact List.length_map _
              have htn : t < n := by obtain ⟨h1, _, _⟩ := fnd_some ht; omega
              have hytl := (HL.out.2.2.2.2 s (List.mem_of_getElem? hs)).2.2.2.1 y (List.mem_of_getElem? hy)
              obtain ⟨T, hT⟩ : ∃ T, Value.string T = sv y.to := ⟨_, rfl⟩
              obtain ⟨kd, hkd⟩ : ∃ kd : Int, kd = (y.kind : Int) := ⟨_, rfl⟩
              obtain ⟨tm, htm⟩ : ∃ tm : Int, tm = (y.times : Int) := ⟨_, rfl⟩
              obtain ⟨nw, hnw⟩ : ∃ nw, nw = y.now := ⟨_, rfl⟩
              obtain ⟨bk, hbk⟩ : ∃ bk, bk = y.back := ⟨_, rfl⟩
              rw [← hkd] at y0
              rw [← hnw] at y1
              rw [← htm] at y3
              rw [← hT] at y5
              rw [← hbk] at y6
              have hix := ixW ay gy M capy jw hjl (fun hp => (HM.out.hw.2.1 (by omega)).1)
              have hiz := ixZ (some ⟨gS, 0, none⟩) gS n n t htn (fun _ => rfl)
              have hizi := ixZ (some ⟨gS, 0, none⟩) gS n n i hlt (fun _ => rfl)
              obtain ⟨q2, hq2⟩ : ∃ q2, q2 = wr.heap.size := ⟨_, rfl⟩
              obtain ⟨X2, hX2⟩ : ∃ X2, X2 = wr.alloc (.cells #[.int .i64 kd, .bool nw, .pointer p, .int .i64 tm, .slice t1 t2 t3, .string T, .bool bk] 180) := ⟨_, rfl⟩
              have HX2 : L2 A w X2 L gR gS mb i jw role ad10 cap10 gI gr gW ad9' cap9' Bi xs := by rw [hX2]; exact hr.out.alloc HA.out _
              have hlk := HX2.map.look1 (s := y.to) hytl
              rw [← HN.out, ← esn, namK_fnd HL.out.2.1 ht, ← hT, hX2] at hlk
              simp only [Option.getD_some] at hlk
              have hkx : X2.heap[q2]? = some (.cells #[.int .i64 kd, .bool nw, .pointer p, .int .i64 tm, .slice t1 t2 t3, .string T, .bool bk] 180 (0, 0)) := by rw [hX2, hq2]; exact ck_new _ _
              obtain ⟨a9, ha9⟩ : ∃ a9, a9 = ad9' i := ⟨_, rfl⟩
              obtain ⟨cp9, hcp9⟩ : ∃ cp9, cp9 = cap9' i := ⟨_, rfl⟩
              have hown := (HX2.cur s hs).1
              rw [← ha9, ← hcp9] at hown
              obtain ⟨_, _, _, _, _, _, hcl, _⟩ := HX2.cells i s hs
              have ecn : cntW s i i jw = jw := by unfold cntW; rw [if_neg (by omega), if_pos rfl]
              rw [ecn, ← ha9, ← hcp9] at hcl
              have z9 : X2.drew.cell? ⟨gS, i * 11 + 9, none⟩ = some (.slice a9 jw cp9) := hcl 9 _ rfl
              have lS2 : gS < X2.heap.size := Nat.lt_of_lt_of_le HX2.lS HX2.lB
              have hgrown : Below X2.heap.size X2 (X2.alloc (.cells #[.int .i64 kd, .bool nw, .pointer p, .int .i64 tm, .slice t1 t2 t3, .string T, .bool bk, .pointer (some ⟨gS, t * 11, none⟩), .int .i64 0] 182)).drew := (ck_grown _ _).drew
              have z9' : (X2.alloc (.cells #[.int .i64 kd, .bool nw, .pointer p, .int .i64 tm, .slice t1 t2 t3, .string T, .bool bk, .pointer (some ⟨gS, t * 11, none⟩), .int .i64 0] 182)).drew.cell? ⟨gS, i * 11 + 9, none⟩ = some (.slice a9 jw cp9) := ck_cell hgrown z9
              obtain ⟨g1, cap1, w5, E1, hown5, hgr5⟩ := appW Bi (X2.alloc (.cells #[.int .i64 kd, .bool nw, .pointer p, .int .i64 tm, .slice t1 t2 t3, .string T, .bool bk, .pointer (some ⟨gS, t * 11, none⟩), .int .i64 0] 182)).drew (.slice a9 jw cp9) jw xs [.int .i64 kd, .bool nw, .pointer p, .int .i64 tm, .slice t1 t2 t3, .string T, .bool bk, .pointer (some ⟨gS, t * 11, none⟩), .int .i64 0] X2.heap.size (hown.alloc _) rfl (fun j u hu => cell_row (ck_new X2 (.cells #[.int .i64 kd, .bool nw, .pointer p, .int .i64 tm, .slice t1 t2 t3, .string T, .bool bk, .pointer (some ⟨gS, t * 11, none⟩), .int .i64 0] 182)) j (by rw [← hu]; exact List.getElem?_toArray)) (by intro u hu; simp only [List.mem_cons, List.not_mem_nil, or_false] at hu; rcases hu with rfl | rfl | rfl | rfl | rfl | rfl | rfl | rfl | rfl <;> rfl) (Nat.le_trans HX2.lB hgrown.size) (by omega)
              have hob : ∀ b, b < Bi → some b ≠ (Value.slice a9 jw cp9).ownBlock := fun b hb e => by have := (hown.lt b e.symm).1; omega
              have hS5 : w5.heap[gS]? = X2.heap[gS]? := by rw [hgr5.block gS (Nat.lt_of_lt_of_le lS2 hgrown.size) (hob gS HX2.lS), hgrown.block gS lS2]
              have z95 : w5.cell? ⟨gS, i * 11 + 9, none⟩ = some (.slice a9 jw cp9) := by rw [World.cell?_of_block (w := X2) (a := ⟨gS, i * 11 + 9, none⟩) hS5]; exact z9
              have f95 : w5.frozen? ⟨gS, i * 11 + 9, none⟩ = false := by rw [World.frozen?_of_block (w := X2) (a := ⟨gS, i * 11 + 9, none⟩) hS5]; exact HX2.fz _
              have hqX : q2 < X2.heap.size := lt_of_block hkx
              have nqS : q2 ≠ gS := by have := hr.out.lS; have := hr.out.lB; omega
              have hq5 : w5.heap[q2]? = X2.heap[q2]? := by rw [hgr5.block q2 (Nat.lt_of_lt_of_le hqX hgrown.size) (fun e => by have := ((hr.out.cur s hs).1.lt q2 (by rw [ha9, hcp9] at e; exact e.symm)).2; omega), hgrown.block q2 hqX]
              have H7 : Hid (∀ W : World, W.heap[q2]? = X2.heap[q2]? → W.cell? ⟨q2, 0, none⟩ = some (.int .i64 kd) ∧ W.cell? ⟨q2, 1, none⟩ = some (.bool nw) ∧ W.cell? ⟨q2, 2, none⟩ = some (.pointer p) ∧ W.cell? ⟨q2, 3, none⟩ = some (.int .i64 tm) ∧ W.cell? ⟨q2, 4, none⟩ = some (.slice t1 t2 t3) ∧ W.cell? ⟨q2, 5, none⟩ = some (.string T) ∧ W.cell? ⟨q2, 6, none⟩ = some (.bool bk)) := fun W hW => by
                have hk : W.heap[q2]? = some (.cells #[.int .i64 kd, .bool nw, .pointer p, .int .i64 tm, .slice t1 t2 t3, .string T, .bool bk] 180 (0, 0)) := by rw [hW]; exact hkx
                exact ⟨cell_row hk 0 rfl, cell_row hk 1 rfl, cell_row hk 2 rfl, cell_row hk 3 rfl, cell_row hk 4 rfl, cell_row hk 5 rfl, cell_row hk 6 rfl⟩
              obtain ⟨k0, k1, k2, k3, k4, k5, k6⟩ := H7.out X2.drew rfl
              have HS2 : Hid ((X2.alloc (.cells #[.int .i64 kd, .bool nw, .pointer p, .int .i64 tm, .slice t1 t2 t3, .string T, .bool bk, .pointer (some ⟨gS, t * 11, none⟩), .int .i64 0] 182)).drew.cell? ⟨q2, 0, none⟩ = some (.int .i64 kd) ∧ (X2.alloc (.cells #[.int .i64 kd, .bool nw, .pointer p, .int .i64 tm, .slice t1 t2 t3, .string T, .bool bk, .pointer (some ⟨gS, t * 11, none⟩), .int .i64 0] 182)).drew.cell? ⟨q2, 1, none⟩ = some (.bool nw) ∧ (X2.alloc (.cells #[.int .i64 kd, .bool nw, .pointer p, .int .i64 tm, .slice t1 t2 t3, .string T, .bool bk, .pointer (some ⟨gS, t * 11, none⟩), .int .i64 0] 182)).drew.cell? ⟨q2, 2, none⟩ = some (.pointer p) ∧ (X2.alloc (.cells #[.int .i64 kd, .bool nw, .pointer p, .int .i64 tm, .slice t1 t2 t3, .string T, .bool bk, .pointer (some ⟨gS, t * 11, none⟩), .int .i64 0] 182)).drew.cell? ⟨q2, 3, none⟩ = some (.int .i64 tm) ∧ (X2.alloc (.cells #[.int .i64 kd, .bool nw, .pointer p, .int .i64 tm, .slice t1 t2 t3, .string T, .bool bk, .pointer (some ⟨gS, t * 11, none⟩), .int .i64 0] 182)).drew.cell? ⟨q2, 4, none⟩ = some (.slice t1 t2 t3) ∧ (X2.alloc (.cells #[.int .i64 kd, .bool nw, .pointer p, .int .i64 tm, .slice t1 t2 t3, .string T, .bool bk, .pointer (some ⟨gS, t * 11, none⟩), .int .i64 0] 182)).drew.cell? ⟨q2, 5, none⟩ = some (.string T) ∧ (X2.alloc (.cells #[.int .i64 kd, .bool nw, .pointer p, .int .i64 tm, .slice t1 t2 t3, .string T, .bool bk, .pointer (some ⟨gS, t * 11, none⟩), .int .i64 0] 182)).drew.cell? ⟨q2, 6, none⟩ = some (.bool bk)) := H7.out _ (hgrown.block q2 hqX)
              have HS1 : Hid (w5.cell? ⟨q2, 0, none⟩ = some (.int .i64 kd) ∧ w5.cell? ⟨q2, 1, none⟩ = some (.bool nw) ∧ w5.cell? ⟨q2, 2, none⟩ = some (.pointer p) ∧ w5.cell? ⟨q2, 3, none⟩ = some (.int .i64 tm) ∧ w5.cell? ⟨q2, 4, none⟩ = some (.slice t1 t2 t3) ∧ w5.cell? ⟨q2, 5, none⟩ = some (.string T) ∧ w5.cell? ⟨q2, 6, none⟩ = some (.bool bk)) := H7.out w5 hq5
              have HS3 : Hid ((w5.setCell ⟨gS, i * 11 + 9, none⟩ (.slice (some ⟨g1, 0, none⟩) (jw + 1) cap1)).cell? ⟨q2, 0, none⟩ = some (.int .i64 kd) ∧ (w5.setCell ⟨gS, i * 11 + 9, none⟩ (.slice (some ⟨g1, 0, none⟩) (jw + 1) cap1)).cell? ⟨q2, 1, none⟩ = some (.bool nw) ∧ (w5.setCell ⟨gS, i * 11 + 9, none⟩ (.slice (some ⟨g1, 0, none⟩) (jw + 1) cap1)).cell? ⟨q2, 2, none⟩ = some (.pointer p) ∧ (w5.setCell ⟨gS, i * 11 + 9, none⟩ (.slice (some ⟨g1, 0, none⟩) (jw + 1) cap1)).cell? ⟨q2, 3, none⟩ = some (.int .i64 tm) ∧ (w5.setCell ⟨gS, i * 11 + 9, none⟩ (.slice (some ⟨g1, 0, none⟩) (jw + 1) cap1)).cell? ⟨q2, 4, none⟩ = some (.slice t1 t2 t3) ∧ (w5.setCell ⟨gS, i * 11 + 9, none⟩ (.slice (some ⟨g1, 0, none⟩) (jw + 1) cap1)).cell? ⟨q2, 5, none⟩ = some (.string T) ∧ (w5.setCell ⟨gS, i * 11 + 9, none⟩ (.slice (some ⟨g1, 0, none⟩) (jw + 1) cap1)).cell? ⟨q2, 6, none⟩ = some (.bool bk)) := H7.out _ (by rw [Below.heap_setCell _ _ _ _ nqS]; exact hq5)
              have HE : Hid (∀ W6, W6 = w5.setCell ⟨gS, i * 11 + 9, none⟩ (.slice (some ⟨g1, 0, none⟩) (jw + 1) cap1) → ∃ ad9 cap9 xs, L2 A w W6 L gR gS mb i (jw + 1) role ad10 cap10 gI gr gW ad9 cap9 Bi xs) := fun W6 h6 => ⟨_, _, _, L2.step (X := X2) (Y := (X2.alloc (.cells #[.int .i64 kd, .bool nw, .pointer p, .int .i64 tm, .slice t1 t2 t3, .string T, .bool bk, .pointer (some ⟨gS, t * 11, none⟩), .int .i64 0] 182)).drew) HA.out hr.out hs hy ⟨p, .slice t1 t2 t3, t, by rw [← hkd, ← hnw, ← htm, ← hT, ← hbk], hE, hSe, ht⟩ ⟨by rw [hX2], by rw [hX2]; rfl, by rw [hX2]; rfl, by rw [hX2]; rfl⟩ ⟨rfl, rfl, rfl, rfl⟩ (by rw [← ha9, ← hcp9]; exact hgr5) hown5 h6⟩
              clear hr hs hy hE hSe ht hytl hT hkd htm hnw hbk HX2 hkx ha9 hcp9 hown hcl ecn lS2 hgrown hown5 hgr5 hob hS5 hqX nqS hq5 H7 hML esn
              go_upto_region 19 with fail
              rw [← hX2, ← hq2]
              clear hX2 hq2 y0 y1 y2 y3 y4 y5 y6 hix hlk hiz
              go_region_law (first | (refine step_app_u (by rfl) (.tmp 75) (.tmp 79) _ (by rfl) _ _ _ (by rfl) (by rfl) E1 ?_))
              all_goals
                clear k0 k1 k2 k3 k4 k5 k6 z9 z9' z95 f95 HS1 HS2 HS3 E1 hizi
                go_wp2_with fail
                go_roundg (M - (jw + 1))
                case measure => omega
                case rel =>
                  obtain ⟨r1, r2, r3, r4⟩ := HE.out _ rfl
                  exact ⟨jw + 1, r1, r2, r3, by omega, by omega, by go_num, r4⟩
            · obtain ⟨r1, r2, r3⟩ := hr.out.next hs (by omega)
              have HF : Hid (L2 A w wr L gR gS mb (i + 1) 0 r1 ad10 cap10 gI gr r2 ad9' cap9' wr.heap.size []) := r3
              clear r3 hr hs
              go_wp2_with fail
              go_roundg (n - (i + 1))
              case measure => omega
              case rel => exact ⟨i + 1, r1, ad10, cap10, gI, gr, r2, ad9', cap9', _, by omega, by omega, by go_num, HF.out⟩
        · have ei : n = i := by omega
          subst ei
          have HF : Hid (RegM A (k + 1) wr (fun b => w.heap.size ≤ b ∧ b < wr.heap.size) L (layD (k + 1) L) gR ∧ Below w.heap.size w wr) := ⟨by have h := hr.out; rw [HN.out] at h; exact h.done HL.out.1, hr.out.bel⟩
          clear hr
          go_wp2_with fail
          go_ret
          exact ⟨gR, rfl, HF.out⟩

theorem lay_ok (A : Nat → Prop) : ∀ k, LayOk A k
  | 0 => fun _ _ hL => (hL : False).elim
  | k + 1 => fun hA hSt hL => lay_succ (lay_ok A k) hA hSt hL
end
end Go.Proofs.YtiihgnagjemikaaGreatDoor
