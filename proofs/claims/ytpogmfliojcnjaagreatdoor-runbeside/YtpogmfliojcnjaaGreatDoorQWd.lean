import Derived.Test.YtpogmfliojcnjaaGreatDoorQRz
namespace Go.Proofs.YtpogmfliojcnjaaGreatDoor
open Go.RowKit Px
namespace Kx
def ApReg {ρ : Type} (A : Nat → Prop) (w : World) (f : List ρ → List ρ) (J : JFam ρ) (r : List (StF ρ)) (a : Option Addr) : Prop :=
 ∃ gr, (0 < r.length → a = some ⟨gr, 0, none⟩) ∧ r.length ≤ 1000000 ∧ ∀ i s, r[i]? = some s → ∃ ve vd vl p ay ar gy capy capr, StM A w gr i s ve vd vl p ay ar gy capy capr ∧ (Sh.TS s.enter ∧ s.enter.length ≤ 1000000) ∧ (Sh.TS s.during ∧ s.during.length ≤ 1000000) ∧ (Sh.TS s.leave ∧ s.leave.length ≤ 1000000) ∧ Sh.TE s.rests ∧ (∀ y ∈ s.ways, Sh.TE y.cond ∧ Sh.TS y.sets ∧ y.sets.length ≤ 1000000) ∧ s.ways.length ≤ 1000000 ∧
  ∀ w', Below w.heap.size w w' → Calls Tryz.prog 10 #[.slice ar s.regions.length capr] w' fun e w'' => ∃ a n m, e = .returned (.slice a n m) ∧ Hid (IsRegs (fun b => A b ∨ w'.heap.size ≤ b) w'' (J (fun b => A b ∨ w'.heap.size ≤ b) w'') (s.regions.map f) (.slice a n m) ∧ Below w'.heap.size w' w'')
set_option maxRecDepth 100000 in
set_option maxHeartbeats 16000000 in
theorem apr_at {ρ : Type} {A : Nat → Prop} {w : World} {fr : List ρ → List ρ} {J : JFam ρ} (hJ : JCarries J) (hA : Hid (∀ b, A b → b < w.heap.size)) {ad : Option Addr} {N cap : Nat} {L : List (List (StF ρ))} (hn : Hid (N = L.length)) (hNm : N ≤ 1000000)
    (hmem : Hid (∃ g, (0 < N → ad = some ⟨g, 0, none⟩) ∧ ∀ i r, L[i]? = some r → ∃ a c, w.cell? ⟨g, i, none⟩ = some (.slice a r.length c) ∧ ApReg A w fr J r a)) :
    Calls Tryz.prog 10 #[.slice ad N cap] w fun e w' => ∃ a n m, e = .returned (.slice a n m) ∧ Hid ((∃ xs, Row (fun b => A b ∨ w.heap.size ≤ b) w' 64 1 (.slice a n m) L.length xs ∧ Rows (ROut J (fun b => A b ∨ w.heap.size ≤ b) w') (L.map (List.map (apF fr))) xs) ∧ Below w.heap.size w w') := by
 have HJ : Hid (JCarries J) := hJ
 obtain ⟨iR, hiR, hR0, hR1, hR2⟩ := info_parts Tryz.info64
 obtain ⟨iS, hiS, hS0, hS1, hS2⟩ := info_parts Tryz.infoState
 obtain ⟨iW, hiW, hW0, hW1, hW2⟩ := info_parts Tryz.info73
 clear hJ
 go_enter Tryz.func10, Tryz.ntmps10
 go_wp2_with fail
 go_loopg [3, 4] N (fun fu out i wr => ∃ (k : Nat) (xs : List Value), fu = N - k ∧ k ≤ N ∧ i = .int .i64 (k : Int) ∧ Hid (RowAt (ROut J) A w.heap.size 64 1 wr ((L.take k).map (List.map (apF fr))) out xs ∧ Below w.heap.size w wr))
 case atStart => exact ⟨0, [], by omega, by omega, rfl, RowAt.nil, Below.refl _ _⟩
 case round =>
  obtain ⟨k, xs, rfl, hk, rfl, hr⟩ := hrel
  obtain ⟨ao, co, e⟩ := hr.out.1.shape hn.out hk
  subst e
  obtain ⟨w1, rfl⟩ : ∃ w1, w1 = wr := ⟨wr, rfl⟩
  by_cases hlt : k < N
  ·obtain ⟨r, hs⟩ : ∃ r, L[k]? = some r := ⟨L[k]'(by rw [← hn.out]; exact hlt), by rw [List.getElem?_eq_getElem]⟩
   obtain ⟨g, hg, hg2⟩ := hmem.out
   obtain ⟨a, c, hcell, gr, ha, hlen, hin⟩ := hg2 k r hs
   have hix := ixR ad g N cap k hlt hg
   obtain ⟨n, hnr⟩ : ∃ n, n = r.length := ⟨_, rfl⟩
   rw [← hnr] at hcell ha hlen
   have HC : Hid (w.cell? ⟨g, k, none⟩ = some (.slice a n c)) := hcell
   have HNR : Hid (n = r.length ∧ L[k]? = some r) := ⟨hnr, hs⟩
   have HIN : Hid (∀ i s, r[i]? = some s → _) := hin
   have HA : Hid (0 < n → a = some ⟨gr, 0, none⟩) := ha
   have HR : Hid (RowAt (ROut J) A w.heap.size 64 1 w1 ((L.take k).map (List.map (apF fr))) (.slice ao k co) xs ∧ Below w.heap.size w w1) := hr.out
   clear hr hs hg hg2 hcell ha hin hnr
   go_wp2_with fail
   go_loopg [5, 6] n (fun fu rv i wr => ∃ (p : Nat) (ys : List Value), fu = n - p ∧ p ≤ n ∧ i = .int .i64 (p : Int) ∧ Hid (RowAt (RSt J) A w1.heap.size 69 9 wr ((r.take p).map (apF fr)) rv ys ∧ Below w1.heap.size w1 wr ∧ (p = 0 → rv = .slice none 0 0)))
   case atStart => exact ⟨0, [], by omega, by omega, rfl, RowAt.nil, Below.refl _ _, fun _ => rfl⟩
   case round =>
    obtain ⟨p, ys, rfl, hp, rfl, hr⟩ := hrel
    obtain ⟨a5, k5, e⟩ := hr.out.1.shape HNR.out.1 hp
    subst e
    obtain ⟨w2, rfl⟩ : ∃ w2, w2 = wr := ⟨wr, rfl⟩
    have hbw := ck_all HR.out.2 hr.out.2.1
    have cc := ck_cell hbw HC.out
    by_cases hlt2 : p < n
    ·obtain ⟨s, hs⟩ : ∃ s, r[p]? = some s := ⟨r[p]'(by rw [← HNR.out.1]; exact hlt2), by rw [List.getElem?_eq_getElem]⟩
     obtain ⟨ve, vd, vl, pp, ay, ar, gy, capy, capr, hM, hT1, hT2, hT3, hT4, hT5, hwl, hcl⟩ := HIN.out p s hs
     have HMM : Hid (StM A w gr p s ve vd vl pp ay ar gy capy capr) := hM
     have hM := hM.below hbw
     obtain ⟨v1, v2, v3, rfl⟩ := hM.he.sl'
     obtain ⟨v4, v5, v6, rfl⟩ := hM.hd.sl'
     obtain ⟨v7, v8, v9, rfl⟩ := hM.hl.sl'
     obtain ⟨S, hS⟩ : ∃ S, Value.string S = sv s.name := ⟨_, rfl⟩
     obtain ⟨M, hML⟩ : ∃ M, M = s.ways.length := ⟨_, rfl⟩
     obtain ⟨nr, hnr⟩ : ∃ nr, nr = s.regions.length := ⟨_, rfl⟩
     obtain ⟨d1, hd1⟩ : ∃ d1, d1 = s.first := ⟨_, rfl⟩
     obtain ⟨d2, hd2⟩ : ∃ d2, d2 = s.last := ⟨_, rfl⟩
     have hit := ixT a gr n c p hlt2 HA.out
     have c0 := hM.c0
     have c1 := hM.c1
     have c2 := hM.c2
     have c3 := hM.c3
     have c4 := hM.c4
     have c5 := hM.c5
     have c6 := hM.c6
     have c7 := hM.c7
     have c8 := hM.c8
     rw [← hS] at c0
     rw [← hd1] at c1
     rw [← hd2] at c2
     rw [← hML] at c7 hwl
     rw [← hnr] at c8
     obtain ⟨q, hq⟩ : ∃ q, q = w2.heap.size := ⟨_, rfl⟩
     obtain ⟨X, hX⟩ : ∃ X, X = w2.alloc (.cells #[.string S, .bool d1, .bool d2, .slice v1 v2 v3, .slice v4 v5 v6, .slice v7 v8 v9, .pointer pp, .slice ay M capy, .slice ar nr capr] 69) := ⟨_, rfl⟩
     have hkx : X.heap[q]? = some (.cells #[.string S, .bool d1, .bool d2, .slice v1 v2 v3, .slice v4 v5 v6, .slice v7 v8 v9, .pointer pp, .slice ay M capy, .slice ar nr capr] 69 (0, 0)) := by rw [hX, hq]; exact ck_new w2 _
     have hbx : Below w2.heap.size w2 X := by rw [hX]; exact ck_grown _ _
     have hwX : Below w.heap.size w X := ck_all hbw hbx
     have HT : Hid (∀ W, Below X.heap.size X W → (Calls Tryz.prog 32 #[.slice v1 v2 v3] W fun e w' => ∃ a n m, e = .returned (.slice a n m) ∧ Hid (IsSets (fun b => W.heap.size ≤ b) w' (s.enter.map apA) (.slice a n m) ∧ Below W.heap.size W w')) ∧ (Calls Tryz.prog 32 #[.slice v4 v5 v6] W fun e w' => ∃ a n m, e = .returned (.slice a n m) ∧ Hid (IsSets (fun b => W.heap.size ≤ b) w' (s.during.map apA) (.slice a n m) ∧ Below W.heap.size W w')) ∧ (Calls Tryz.prog 32 #[.slice v7 v8 v9] W fun e w' => ∃ a n m, e = .returned (.slice a n m) ∧ Hid (IsSets (fun b => W.heap.size ≤ b) w' (s.leave.map apA) (.slice a n m) ∧ Below W.heap.size W w')) ∧ Calls Tryz.prog 33 #[.pointer pp] W (ApOut s.rests W)) := fun W hW => by
      have hb := ck_all hwX hW
      have kp : Keep A A w W := fun b hb' hlt => ⟨hb', hb.block b hlt⟩
      exact ⟨apsets_any (HMM.out.he.carry kp) hT1.1 hT1.2, apsets_any (HMM.out.hd.carry kp) hT2.1 hT2.2, apsets_any (HMM.out.hl.carry kp) hT3.1 hT3.2, apart_all _ A W _ hT4 (HMM.out.hp.carry kp)⟩
     have HX : Hid (∀ W, Below X.heap.size X W → W.heap[q]? = some (.cells #[.string S, .bool d1, .bool d2, .slice v1 v2 v3, .slice v4 v5 v6, .slice v7 v8 v9, .pointer pp, .slice ay M capy, .slice ar nr capr] 69 (0, 0))) := fun W hW => ck_block hW hkx
     have HS : Hid (Value.string S = sv s.name ∧ M = s.ways.length ∧ nr = s.regions.length ∧ d1 = s.first ∧ d2 = s.last ∧ r[p]? = some s) := ⟨hS, hML, hnr, hd1, hd2, hs⟩
     have HTW : Hid (∀ y ∈ s.ways, Sh.TE y.cond ∧ Sh.TS y.sets ∧ y.sets.length ≤ 1000000) := hT5
     have HCL : Hid (∀ w', Below w.heap.size w w' → Calls Tryz.prog 10 #[.slice ar nr capr] w' fun e w'' => ∃ a n m, e = .returned (.slice a n m) ∧ Hid (IsRegs (fun b => A b ∨ w'.heap.size ≤ b) w'' (J (fun b => A b ∨ w'.heap.size ≤ b) w'') (s.regions.map fr) (.slice a n m) ∧ Below w'.heap.size w' w'')) := by rw [hnr]; exact hcl
     have HR2 : Hid (RowAt (RSt J) A w1.heap.size 69 9 w2 ((r.take p).map (apF fr)) (.slice a5 p k5) ys ∧ Below w1.heap.size w1 w2 ∧ Below w.heap.size w w2) := ⟨hr.out.1, hr.out.2.1, hbw⟩
     have HQ : Hid (Below w2.heap.size w2 X ∧ X.heap.size = w2.heap.size + 1 ∧ q = w2.heap.size) := ⟨hbx, by rw [hX]; simp, hq⟩
     clear hr hs hS hML hnr hd1 hd2 hcl hM hT1 hT2 hT3 hT4 hT5 hkx hbx hwX hbw
     go_upto_region 10 with fail
     rw [← hX, ← hq]
     clear hit c0 c1 c2 c3 c4 c5 c6 c7 c8 cc hX hq
     have hs0 : Below X.heap.size X X.drew := (Below.refl _ _).drew
     refine wp_region_z 13 (fun W => Below X.heap.size X W) (by kernel_rfl) ?_
     refine wpAnyZ_take 0 [13] (v := .pointer (some ⟨q, 3, none⟩)) rfl (by kernel_rfl) (by kernel_rfl) (by kernel_rfl) (by kernel_rfl) (by kernel_rfl) (by kernel_rfl) (by kernel_rfl) (fun _ _ _ h => h) (.inl ⟨by rfl, fun W hW => ?_⟩) hs0 ?_
     ·go_simp
     try simp only [Act.put, List.setIfInBounds_toArray]
     refine wpAnyZ_take 1 [13] (v := .slice v1 v2 v3) rfl (by kernel_rfl) (by kernel_rfl) (by kernel_rfl) (by kernel_rfl) (by kernel_rfl) (by kernel_rfl) (by kernel_rfl) (fun _ _ _ h => h) (.inl ⟨by rfl, fun W hW => ?_⟩) hs0 ?_
     ·have c := cell_row (HX.out W hW) 3 (u := .slice v1 v2 v3) rfl
      go_simp
     try simp only [Act.put]
     refine wpAnyZ_take 3 [13] (v := .pointer (some ⟨q, 4, none⟩)) rfl (by kernel_rfl) (by kernel_rfl) (by kernel_rfl) (by kernel_rfl) (by kernel_rfl) (by kernel_rfl) (by kernel_rfl) (fun _ _ _ h => h) (.inl ⟨by rfl, fun W hW => ?_⟩) hs0 ?_
     ·go_simp
     try simp only [Act.put]
     refine wpAnyZ_take 4 [13] (v := .slice v4 v5 v6) rfl (by kernel_rfl) (by kernel_rfl) (by kernel_rfl) (by kernel_rfl) (by kernel_rfl) (by kernel_rfl) (by kernel_rfl) (fun _ _ _ h => h) (.inl ⟨by rfl, fun W hW => ?_⟩) hs0 ?_
     ·have c := cell_row (HX.out W hW) 4 (u := .slice v4 v5 v6) rfl
      go_simp
     try simp only [Act.put]
     refine wpAnyZ_take 6 [13] (v := .pointer (some ⟨q, 5, none⟩)) rfl (by kernel_rfl) (by kernel_rfl) (by kernel_rfl) (by kernel_rfl) (by kernel_rfl) (by kernel_rfl) (by kernel_rfl) (fun _ _ _ h => h) (.inl ⟨by rfl, fun W hW => ?_⟩) hs0 ?_
     ·go_simp
     try simp only [Act.put]
     refine wpAnyZ_take 7 [13] (v := .slice v7 v8 v9) rfl (by kernel_rfl) (by kernel_rfl) (by kernel_rfl) (by kernel_rfl) (by kernel_rfl) (by kernel_rfl) (by kernel_rfl) (fun _ _ _ h => h) (.inl ⟨by rfl, fun W hW => ?_⟩) hs0 ?_
     ·have c := cell_row (HX.out W hW) 5 (u := .slice v7 v8 v9) rfl
      go_simp
     try simp only [Act.put]
     refine wpAnyZ_take 9 [13] (v := .pointer (some ⟨q, 6, none⟩)) rfl (by kernel_rfl) (by kernel_rfl) (by kernel_rfl) (by kernel_rfl) (by kernel_rfl) (by kernel_rfl) (by kernel_rfl) (fun _ _ _ h => h) (.inl ⟨by rfl, fun W hW => ?_⟩) hs0 ?_
     ·go_simp
     try simp only [Act.put]
     refine wpAnyZ_take 10 [13] (v := .pointer pp) rfl (by kernel_rfl) (by kernel_rfl) (by kernel_rfl) (by kernel_rfl) (by kernel_rfl) (by kernel_rfl) (by kernel_rfl) (fun _ _ _ h => h) (.inl ⟨by rfl, fun W hW => ?_⟩) hs0 ?_
     ·have c := cell_row (HX.out W hW) 6 (u := .pointer pp) rfl
      go_simp
     try simp only [Act.put]
     refine wpAnyZ_one 2 (by kernel_rfl) rfl (fun K hK => ?_)
     go_simp
     refine ((HT.out _ hs0).1).mono ?_
     rintro e p3 ⟨a3, n3, m3, rfl, h3⟩
     have hs3 := ck_all hs0 h3.out.2
     refine hK.out _ _ hs3 ?_
     clear hK K
     try simp only [Act.put, List.setIfInBounds_toArray, List.set_cons_zero, List.set_cons_succ]
     refine wpAnyZ_take 12 [13] (v := .pointer (some ⟨q, 3, none⟩)) rfl (by kernel_rfl) (by kernel_rfl) (by kernel_rfl) (by kernel_rfl) (by kernel_rfl) (by kernel_rfl) (by kernel_rfl) (fun _ _ _ h => h) (.inl ⟨by rfl, fun W hW => ?_⟩) hs3 ?_
     ·go_simp
     try simp only [Act.put, List.setIfInBounds_toArray]
     refine wpAnyZ_one 5 (by kernel_rfl) rfl (fun K hK => ?_)
     go_simp
     refine ((HT.out _ hs3).2.1).mono ?_
     rintro e p4 ⟨a4, n4, m4, rfl, h4⟩
     have hs4 := ck_all hs3 h4.out.2
     refine hK.out _ _ hs4 ?_
     clear hK K
     try simp only [Act.put, List.setIfInBounds_toArray, List.set_cons_zero, List.set_cons_succ]
     refine wpAnyZ_one 8 (by kernel_rfl) rfl (fun K hK => ?_)
     go_simp
     refine ((HT.out _ hs4).2.2.1).mono ?_
     rintro e p5 ⟨a6, n6, m6, rfl, h5⟩
     have hs5 := ck_all hs4 h5.out.2
     refine hK.out _ _ hs5 ?_
     clear hK K
     try simp only [Act.put, List.setIfInBounds_toArray, List.set_cons_zero, List.set_cons_succ]
     refine wpAnyZ_one 11 (by kernel_rfl) rfl (fun K hK => ?_)
     go_simp
     refine ((HT.out _ hs5).2.2.2).mono ?_
     rintro e p6 ⟨u6, rfl, h6⟩
     have hs6 := ck_all hs5 h6.out.2
     refine hK.out _ _ hs6 ?_
     clear hK K
     try simp only [Act.put, List.setIfInBounds_toArray, List.set_cons_zero, List.set_cons_succ]
     have hk6 := HX.out p6 hs6
     have f3 := ck_frozen hk6 3
     have f4 := ck_frozen hk6 4
     have f5 := ck_frozen hk6 5
     have f6 := ck_frozen hk6 6
     have g3 := cell_row hk6 3 (u := .slice v1 v2 v3) rfl
     have g4 := cell_row hk6 4 (u := .slice v4 v5 v6) rfl
     have g5 := cell_row hk6 5 (u := .slice v7 v8 v9) rfl
     have g6 := cell_row hk6 6 (u := .pointer pp) rfl
     refine wpAnyZ_z (by kernel_rfl) rfl (fun K hK => ?_)
     go_simp
     refine hK.out _ _ ?_
     clear hK K
     try simp only [Act.put, List.setIfInBounds_toArray, List.set_cons_zero, List.set_cons_succ]
     refine wpAny_take (i := 14) (v := .pointer (some ⟨q, 4, none⟩)) rfl (by kernel_rfl) (by kernel_rfl) (by kernel_rfl) (fun _ _ _ h => h) (.inl ⟨by rfl, fun W => ?_⟩) ?_
     ·go_simp
     try simp only [Act.put, List.setIfInBounds_toArray]
     refine wpAny_one 15 (by kernel_rfl) rfl (fun K hK => ?_)
     go_simp
     refine hK.out _ _ ?_
     clear hK K
     try simp only [Act.put, List.setIfInBounds_toArray, List.set_cons_zero, List.set_cons_succ]
     refine wpAny_take (i := 16) (v := .pointer (some ⟨q, 5, none⟩)) rfl (by kernel_rfl) (by kernel_rfl) (by kernel_rfl) (fun _ _ _ h => h) (.inl ⟨by rfl, fun W => ?_⟩) ?_
     ·go_simp
     try simp only [Act.put, List.setIfInBounds_toArray]
     refine wpAny_one 17 (by kernel_rfl) rfl (fun K hK => ?_)
     go_simp
     refine hK.out _ _ ?_
     clear hK K
     try simp only [Act.put, List.setIfInBounds_toArray, List.set_cons_zero, List.set_cons_succ]
     refine wpAny_take (i := 18) (v := .pointer (some ⟨q, 6, none⟩)) rfl (by kernel_rfl) (by kernel_rfl) (by kernel_rfl) (fun _ _ _ h => h) (.inl ⟨by rfl, fun W => ?_⟩) ?_
     ·go_simp
     try simp only [Act.put, List.setIfInBounds_toArray]
     refine wpAny_one 19 (by kernel_rfl) rfl (fun K hK => ?_)
     go_simp
     refine hK.out _ _ ?_
     clear hK K
     try simp only [Act.put, List.setIfInBounds_toArray, List.set_cons_zero, List.set_cons_succ]
     refine wpAny_done (by kernel_rfl) ?_ _
     clear f3 f4 f5 f6 g3 g4 g5 g6
     obtain ⟨W7, hW7⟩ : ∃ W7, W7 = (((p6.setCell ⟨q, 3, none⟩ (.slice a3 n3 m3)).setCell ⟨q, 4, none⟩ (.slice a4 n4 m4)).setCell ⟨q, 5, none⟩ (.slice a6 n6 m6)).setCell ⟨q, 6, none⟩ (.pointer u6) := ⟨_, rfl⟩
     rw [← hW7]
     have hk7 : W7.heap[q]? = some (.cells #[.string S, .bool d1, .bool d2, .slice a3 n3 m3, .slice a4 n4 m4, .slice a6 n6 m6, .pointer u6, .slice ay M capy, .slice ar nr capr] 69 (0, 0)) := by rw [hW7]; exact ck_set (l := [.string S, .bool d1, .bool d2, .slice a3 n3 m3, .slice a4 n4 m4, .slice a6 n6 m6, .pointer pp, .slice ay M capy, .slice ar nr capr]) (ck_set (l := [.string S, .bool d1, .bool d2, .slice a3 n3 m3, .slice a4 n4 m4, .slice v7 v8 v9, .pointer pp, .slice ay M capy, .slice ar nr capr]) (ck_set (l := [.string S, .bool d1, .bool d2, .slice a3 n3 m3, .slice v4 v5 v6, .slice v7 v8 v9, .pointer pp, .slice ay M capy, .slice ar nr capr]) (ck_set (l := [.string S, .bool d1, .bool d2, .slice v1 v2 v3, .slice v4 v5 v6, .slice v7 v8 v9, .pointer pp, .slice ay M capy, .slice ar nr capr]) hk6 3 _) 4 _) 5 _) 6 _
     have ko7 : ∀ b, b ≠ q → W7.heap[b]? = p6.heap[b]? := fun b hb => by rw [hW7, Below.heap_setCell _ _ _ _ hb, Below.heap_setCell _ _ _ _ hb, Below.heap_setCell _ _ _ _ hb, Below.heap_setCell _ _ _ _ hb]
     have hqq : q < X.heap.size ∧ w2.heap.size ≤ q := ⟨by rw [HQ.out.2.1, HQ.out.2.2]; omega, by rw [HQ.out.2.2]; exact Nat.le_refl _⟩
     have hb27 : Below w2.heap.size w2 W7 := by
      have h1 : Below w2.heap.size w2 p6 := ck_all HQ.out.1 hs6
      rw [hW7]
      exact (((h1.setCell (p := ⟨q, 3, none⟩) hqq.2 _).setCell (p := ⟨q, 4, none⟩) hqq.2 _).setCell (p := ⟨q, 5, none⟩) hqq.2 _).setCell (p := ⟨q, 6, none⟩) hqq.2 _
     have hx7 : X.heap.size ≤ W7.heap.size := by
      have h1 : W7.heap.size = p6.heap.size := by rw [hW7]; simp [World.setCell]
      have := hs6.size
      omega
     have kp : ∀ (B : Nat) (V : World), X.heap.size ≤ B → Below V.heap.size V p6 → Keep (fun b => B ≤ b) (fun b => X.heap.size ≤ b) V W7 := fun B V hB hV b hb hlt => ⟨Nat.le_trans hB hb, by rw [ko7 b (by omega), hV.block b hlt]⟩
     have H7 : Hid (IsSets (fun b => X.heap.size ≤ b) W7 (s.enter.map apA) (.slice a3 n3 m3) ∧ IsSets (fun b => X.heap.size ≤ b) W7 (s.during.map apA) (.slice a4 n4 m4) ∧ IsSets (fun b => X.heap.size ≤ b) W7 (s.leave.map apA) (.slice a6 n6 m6) ∧ IsE (fun b => X.heap.size ≤ b) W7 (apE s.rests) (.pointer u6) ∧ W7.heap[q]? = some (.cells #[.string S, .bool d1, .bool d2, .slice a3 n3 m3, .slice a4 n4 m4, .slice a6 n6 m6, .pointer u6, .slice ay M capy, .slice ar nr capr] 69 (0, 0)) ∧ Below w2.heap.size w2 W7 ∧ X.heap.size ≤ W7.heap.size ∧ q < X.heap.size ∧ w2.heap.size ≤ q) :=
      ⟨h3.out.1.carry (kp _ p3 hs0.size (ck_all (ck_all h4.out.2 h5.out.2) h6.out.2)), h4.out.1.carry (kp _ p4 hs3.size (ck_all h5.out.2 h6.out.2)), h5.out.1.carry (kp _ p5 hs4.size h6.out.2), h6.out.1.carry (kp _ p6 hs5.size (Below.refl _ _)), hk7, hb27, hx7, hqq.1, hqq.2⟩
     clear h3 h4 h5 h6 hs0 hs3 hs4 hs5 hs6 hk6 hW7 hk7 ko7 hqq hb27 hx7 kp HT HX
     clear p3 p4 p5 p6
     go_wp2_with fail
     go_loopg [8, 9] M (fun fu wv i wr => ∃ (m : Nat) (zs : List Value), fu = M - m ∧ m ≤ M ∧ i = .int .i64 (m : Int) ∧ Hid (RowAt WayC A W7.heap.size 73 7 wr ((s.ways.take m).map apW) wv zs ∧ Below W7.heap.size W7 wr))
     case atStart => exact ⟨0, [], by omega, by omega, rfl, RowAt.nil, Below.refl _ _⟩
     case round =>
      obtain ⟨m, zs, rfl, hm, rfl, hr⟩ := hrel
      obtain ⟨a8, k8, e⟩ := hr.out.1.shape HS.out.2.1 hm
      subst e
      obtain ⟨w3, rfl⟩ : ∃ w3, w3 = wr := ⟨wr, rfl⟩
      have hkq := ck_block hr.out.2 H7.out.2.2.2.2.1
      have z7 := cell_row hkq 7 (u := .slice ay M capy) rfl
      have hb3 : Below w.heap.size w w3 := ck_all (ck_all HR2.out.2.2 H7.out.2.2.2.2.2.1) hr.out.2
      by_cases hltm : m < M
      ·obtain ⟨y, hy⟩ : ∃ y, s.ways[m]? = some y := ⟨s.ways[m]'(by rw [← HS.out.2.1]; exact hltm), by rw [List.getElem?_eq_getElem]⟩
       obtain ⟨py, qy, hWM⟩ := HMM.out.hw.2.2 m y hy
       have hW3 := hWM.below hb3
       obtain ⟨y0, y1, y2, y3, y4, y5, y6, y7, y8⟩ := hW3
       obtain ⟨b1, b2, b3, rfl⟩ := y8.sl'
       have hiw := ixW ay gy M capy m hltm (fun hp => by rw [HS.out.2.1] at hp; exact (HMM.out.hw.2.1 hp).1)
       obtain ⟨T, hT⟩ : ∃ T, Value.string T = sv y.to := ⟨_, rfl⟩
       obtain ⟨kd, hkd⟩ : ∃ kd : Int, kd = (y.kind : Int) := ⟨_, rfl⟩
       obtain ⟨tm, htm⟩ : ∃ tm : Int, tm = (y.times : Int) := ⟨_, rfl⟩
       obtain ⟨e1, he1⟩ : ∃ e1, e1 = y.now := ⟨_, rfl⟩
       obtain ⟨e2, he2⟩ : ∃ e2, e2 = y.back := ⟨_, rfl⟩
       rw [← hkd] at y0
       rw [← he1] at y1
       rw [← htm] at y3
       rw [← hT] at y5
       rw [← he2] at y6
       obtain ⟨Z, hZ⟩ : ∃ Z, Z = w3.alloc (.cells #[.int .i64 kd, .bool e1, .pointer py, .int .i64 tm, .slice b1 b2 b3, .string T, .bool e2] 73) := ⟨_, rfl⟩
       obtain ⟨q2, hq2⟩ : ∃ q2, q2 = w3.heap.size := ⟨_, rfl⟩
       have hkz : Z.heap[q2]? = some (.cells #[.int .i64 kd, .bool e1, .pointer py, .int .i64 tm, .slice b1 b2 b3, .string T, .bool e2] 73 (0, 0)) := by rw [hZ, hq2]; exact ck_new w3 _
       have hbz : Below w3.heap.size w3 Z := by rw [hZ]; exact ck_grown _ _
       have HW : Hid (∀ W, Below Z.heap.size Z W → Calls Tryz.prog 33 #[.pointer py] W (ApOut y.cond W) ∧ (Calls Tryz.prog 32 #[.slice b1 b2 b3] W fun e w' => ∃ a n m, e = .returned (.slice a n m) ∧ Hid (IsSets (fun b => W.heap.size ≤ b) w' (y.sets.map apA) (.slice a n m) ∧ Below W.heap.size W w')) ∧ W.heap[q2]? = some (.cells #[.int .i64 kd, .bool e1, .pointer py, .int .i64 tm, .slice b1 b2 b3, .string T, .bool e2] 73 (0, 0))) := fun W hW => by
        have hb := ck_all hbz hW
        have kp : Keep A A w3 W := fun b hb' hlt => ⟨hb', hb.block b hlt⟩
        have ht := HTW.out y (List.mem_of_getElem? hy)
        exact ⟨apart_all _ A W _ ht.1 (y7.carry kp), apsets_any (y8.carry kp) ht.2.1 ht.2.2, ck_block hW hkz⟩
       have HR3 : Hid (RowAt WayC A W7.heap.size 73 7 w3 ((s.ways.take m).map apW) (.slice a8 m k8) zs ∧ Below W7.heap.size W7 w3 ∧ Below w3.heap.size w3 Z ∧ s.ways[m]? = some y ∧ Value.string T = sv y.to ∧ kd = (y.kind : Int) ∧ tm = (y.times : Int) ∧ e1 = y.now ∧ e2 = y.back ∧ q2 = w3.heap.size ∧ Z.heap.size = w3.heap.size + 1) := ⟨hr.out.1, hr.out.2, hbz, hy, hT, hkd, htm, he1, he2, hq2, by rw [hZ]; simp⟩
       clear hr hy hT hkd htm he1 he2 hbz hWM y7 y8 hkq hb3 hkz
       go_upto_region 16 with fail
       rw [← hZ, ← hq2]
       clear hZ hq2 y0 y1 y2 y3 y4 y5 y6 hiw z7
       have hs0 : Below Z.heap.size Z Z.drew := (Below.refl _ _).drew
       refine wp_region_z 7 (fun W => Below Z.heap.size Z W) (by kernel_rfl) ?_
       refine wpAnyZ_take 0 [7] (v := .pointer (some ⟨q2, 2, none⟩)) rfl (by kernel_rfl) (by kernel_rfl) (by kernel_rfl) (by kernel_rfl) (by kernel_rfl) (by kernel_rfl) (by kernel_rfl) (fun _ _ _ h => h) (.inl ⟨by rfl, fun W hW => ?_⟩) hs0 ?_
       ·go_simp
       try simp only [Act.put, List.setIfInBounds_toArray]
       refine wpAnyZ_take 1 [7] (v := .pointer py) rfl (by kernel_rfl) (by kernel_rfl) (by kernel_rfl) (by kernel_rfl) (by kernel_rfl) (by kernel_rfl) (by kernel_rfl) (fun _ _ _ h => h) (.inl ⟨by rfl, fun W hW => ?_⟩) hs0 ?_
       ·have c := cell_row (HW.out W hW).2.2 2 (u := .pointer py) rfl
        go_simp
       try simp only [Act.put]
       refine wpAnyZ_take 3 [7] (v := .pointer (some ⟨q2, 4, none⟩)) rfl (by kernel_rfl) (by kernel_rfl) (by kernel_rfl) (by kernel_rfl) (by kernel_rfl) (by kernel_rfl) (by kernel_rfl) (fun _ _ _ h => h) (.inl ⟨by rfl, fun W hW => ?_⟩) hs0 ?_
       ·go_simp
       try simp only [Act.put]
       refine wpAnyZ_take 4 [7] (v := .slice b1 b2 b3) rfl (by kernel_rfl) (by kernel_rfl) (by kernel_rfl) (by kernel_rfl) (by kernel_rfl) (by kernel_rfl) (by kernel_rfl) (fun _ _ _ h => h) (.inl ⟨by rfl, fun W hW => ?_⟩) hs0 ?_
       ·have c := cell_row (HW.out W hW).2.2 4 (u := .slice b1 b2 b3) rfl
        go_simp
       try simp only [Act.put]
       refine wpAnyZ_one 2 (by kernel_rfl) rfl (fun K hK => ?_)
       go_simp
       refine ((HW.out _ hs0).1).mono ?_
       rintro e p3 ⟨u7, rfl, h3⟩
       have hs3 := ck_all hs0 h3.out.2
       refine hK.out _ _ hs3 ?_
       clear hK K
       try simp only [Act.put, List.setIfInBounds_toArray, List.set_cons_zero, List.set_cons_succ]
       refine wpAnyZ_take 6 [7] (v := .pointer (some ⟨q2, 2, none⟩)) rfl (by kernel_rfl) (by kernel_rfl) (by kernel_rfl) (by kernel_rfl) (by kernel_rfl) (by kernel_rfl) (by kernel_rfl) (fun _ _ _ h => h) (.inl ⟨by rfl, fun W hW => ?_⟩) hs3 ?_
       ·go_simp
       try simp only [Act.put, List.setIfInBounds_toArray]
       refine wpAnyZ_one 5 (by kernel_rfl) rfl (fun K hK => ?_)
       go_simp
       refine ((HW.out _ hs3).2.1).mono ?_
       rintro e p4 ⟨c1, c2, c3, rfl, h4⟩
       have hs4 := ck_all hs3 h4.out.2
       refine hK.out _ _ hs4 ?_
       clear hK K
       try simp only [Act.put, List.setIfInBounds_toArray, List.set_cons_zero, List.set_cons_succ]
       have hk6 := (HW.out p4 hs4).2.2
       have f3 := ck_frozen hk6 2
       have f4 := ck_frozen hk6 4
       have g3 := cell_row hk6 2 (u := .pointer py) rfl
       have g4 := cell_row hk6 4 (u := .slice b1 b2 b3) rfl
       refine wpAnyZ_z (by kernel_rfl) rfl (fun K hK => ?_)
       go_simp
       refine hK.out _ _ ?_
       clear hK K
       try simp only [Act.put, List.setIfInBounds_toArray, List.set_cons_zero, List.set_cons_succ]
       refine wpAny_take (i := 8) (v := .pointer (some ⟨q2, 4, none⟩)) rfl (by kernel_rfl) (by kernel_rfl) (by kernel_rfl) (fun _ _ _ h => h) (.inl ⟨by rfl, fun W => ?_⟩) ?_
       ·go_simp
       try simp only [Act.put, List.setIfInBounds_toArray]
       refine wpAny_one 9 (by kernel_rfl) rfl (fun K hK => ?_)
       go_simp
       refine hK.out _ _ ?_
       clear hK K
       try simp only [Act.put, List.setIfInBounds_toArray, List.set_cons_zero, List.set_cons_succ]
       refine wpAny_done (by kernel_rfl) ?_ _
       clear f3 f4 g3 g4
       obtain ⟨Z2, hZ2⟩ : ∃ Z2, Z2 = (p4.setCell ⟨q2, 2, none⟩ (.pointer u7)).setCell ⟨q2, 4, none⟩ (.slice c1 c2 c3) := ⟨_, rfl⟩
       rw [← hZ2]
       have hkz : Z2.heap[q2]? = some (.cells #[.int .i64 kd, .bool e1, .pointer u7, .int .i64 tm, .slice c1 c2 c3, .string T, .bool e2] 73 (0, 0)) := by rw [hZ2]; exact ck_set (l := [.int .i64 kd, .bool e1, .pointer u7, .int .i64 tm, .slice b1 b2 b3, .string T, .bool e2]) (ck_set (l := [.int .i64 kd, .bool e1, .pointer py, .int .i64 tm, .slice b1 b2 b3, .string T, .bool e2]) hk6 2 _) 4 _
       have ko : ∀ b, b ≠ q2 → Z2.heap[b]? = p4.heap[b]? := fun b hb => by rw [hZ2, Below.heap_setCell _ _ _ _ hb, Below.heap_setCell _ _ _ _ hb]
       have hqq : q2 < Z.heap.size ∧ w3.heap.size ≤ q2 := ⟨by rw [HR3.out.2.2.2.2.2.2.2.2.2.2, HR3.out.2.2.2.2.2.2.2.2.2.1]; omega, by rw [HR3.out.2.2.2.2.2.2.2.2.2.1]; exact Nat.le_refl _⟩
       have hbz : Below w3.heap.size w3 Z2 := by
        have h1 : Below w3.heap.size w3 p4 := ck_all HR3.out.2.2.1 hs4
        rw [hZ2]
        exact (h1.setCell (p := ⟨q2, 2, none⟩) hqq.2 _).setCell (p := ⟨q2, 4, none⟩) hqq.2 _
       have kp : ∀ (B : Nat) (V : World), Z.heap.size ≤ B → Below V.heap.size V p4 → Keep (fun b => B ≤ b) (fun b => A b ∨ w3.heap.size ≤ b) V Z2 := fun B V hB hV b hb hlt => ⟨.inr (by have : B ≤ b := hb; omega), by rw [ko b (by have : B ≤ b := hb; omega), hV.block b hlt]⟩
       have HE : Hid (WayC (fun b => A b ∨ w3.heap.size ≤ b) Z2 (apW y) [.int .i64 kd, .bool e1, .pointer u7, .int .i64 tm, .slice c1 c2 c3, .string T, .bool e2]) := by
        refine ⟨.pointer u7, .slice c1 c2 c3, ?_, h3.out.1.carry (kp _ p3 hs0.size h4.out.2), h4.out.1.carry (kp _ p4 hs3.size (Below.refl _ _))⟩
        rw [HR3.out.2.2.2.2.1, HR3.out.2.2.2.2.2.1, HR3.out.2.2.2.2.2.2.1, HR3.out.2.2.2.2.2.2.2.1, HR3.out.2.2.2.2.2.2.2.2.1]
        rfl
       have hown : Z2.ownsRow W7.heap.size 73 7 (.slice a8 m k8) m zs := (HR3.out.1.low rway_carries hbz).own' HS.out.2.1 hm
       have hxz : W7.heap.size ≤ Z2.heap.size := Nat.le_trans HR3.out.2.1.size hbz.size
       have HBZ : Hid (Below w3.heap.size w3 Z2) := hbz
       clear h3 h4 hs0 hs3 hs4 hk6 hZ2 ko hqq hbz kp HW
       clear p3 p4
       go_upto_region 17 with fail
       have x0 := cell_row hkz 0 (u := .int .i64 kd) rfl
       have x1 := cell_row hkz 1 (u := .bool e1) rfl
       have x2 := cell_row hkz 2 (u := .pointer u7) rfl
       have x3 := cell_row hkz 3 (u := .int .i64 tm) rfl
       have x4 := cell_row hkz 4 (u := .slice c1 c2 c3) rfl
       have x5 := cell_row hkz 5 (u := .string T) rfl
       have x6 := cell_row hkz 6 (u := .bool e2) rfl
       clear hkz
       go_wp2_with (at_builtin; refine wpList_append_own_at _ rfl (.tmp 69) (.tmp 71) 67 rfl W7.heap.size 73 iW _ 7 80 Tryz.underlying67 hiW hW0 hW1 hW2 rfl (by decide) _ _ _ rfl (hown.alloc _) ⟨Z2.heap.size, 0, none⟩ 1 1 [.int .i64 kd, .bool e1, .pointer u7, .int .i64 tm, .slice c1 c2 c3, .string T, .bool e2] rfl rfl (cells_new _ _ _) (by intro u hu; simp at hu; rcases hu with rfl | rfl | rfl | rfl | rfl | rfl | rfl <;> rfl) (by unfold maxLen; omega) (by omega) (by simp; omega) ?_; intro v5 w5 hown5 hgrow _ hat)
       go_roundg (M - (m + 1))
       case measure => omega
       case rel =>
        have hst := HR3.out.1.step rway_carries (fun b hb => Nat.lt_of_lt_of_le (hA.out b hb) (Nat.le_trans HR2.out.2.2.size H7.out.2.2.2.2.2.1.size)) HR3.out.2.1.size HBZ.out HE.out (by rw [take_map_len apW HS.out.2.1 hm]; exact hown5) hgrow hat
        exact ⟨m + 1, _, rfl, by omega, by go_num, by rw [take_map_snoc apW HR3.out.2.2.2.1]; exact hst.1, HR3.out.2.1.trans hst.2⟩
      ·obtain rfl : M = m := by omega
       have z8 := cell_row hkq 8 (u := .slice ar nr capr) rfl
       have hcall := HCL.out w3 hb3
       have HR3 : Hid (RowAt WayC A W7.heap.size 73 7 w3 ((s.ways.take M).map apW) (.slice a8 M k8) zs ∧ Below W7.heap.size W7 w3 ∧ w3.heap[q]? = some (.cells #[.string S, .bool d1, .bool d2, .slice a3 n3 m3, .slice a4 n4 m4, .slice a6 n6 m6, .pointer u6, .slice ay M capy, .slice ar nr capr] 69 (0, 0)) ∧ Below w.heap.size w w3) := ⟨hr.out.1, hr.out.2, hkq, hb3⟩
       clear hr hkq hb3
       go_upto_region 18 with fail
       clear z7
       go_wp2_with fail
       clear z8
       refine hcall.mono ?_
       rintro e w4 ⟨ra, rn, rm, rfl, h4⟩
       have hk4 := ck_block h4.out.2 HR3.out.2.2.1
       have f7 := ck_frozen hk4 7
       have f8 := ck_frozen hk4 8
       have g7 := cell_row hk4 7 (u := .slice ay M capy) rfl
       have g8 := cell_row hk4 8 (u := .slice ar nr capr) rfl
       obtain ⟨W9, hW9⟩ : ∃ W9, W9 = (w4.setCell ⟨q, 7, none⟩ (.slice a8 M k8)).setCell ⟨q, 8, none⟩ (.slice ra rn rm) := ⟨_, rfl⟩
       have hk9 : W9.heap[q]? = some (.cells #[.string S, .bool d1, .bool d2, .slice a3 n3 m3, .slice a4 n4 m4, .slice a6 n6 m6, .pointer u6, .slice a8 M k8, .slice ra rn rm] 69 (0, 0)) := by rw [hW9]; exact ck_set (l := [.string S, .bool d1, .bool d2, .slice a3 n3 m3, .slice a4 n4 m4, .slice a6 n6 m6, .pointer u6, .slice a8 M k8, .slice ar nr capr]) (ck_set (l := [.string S, .bool d1, .bool d2, .slice a3 n3 m3, .slice a4 n4 m4, .slice a6 n6 m6, .pointer u6, .slice ay M capy, .slice ar nr capr]) hk4 7 _) 8 _
       have hqq : w2.heap.size ≤ q ∧ q < X.heap.size ∧ w.heap.size ≤ w2.heap.size ∧ X.heap.size ≤ W7.heap.size ∧ W7.heap.size ≤ w3.heap.size ∧ w3.heap.size ≤ w4.heap.size := ⟨H7.out.2.2.2.2.2.2.2.2, H7.out.2.2.2.2.2.2.2.1, HR2.out.2.2.size, H7.out.2.2.2.2.2.2.1, HR3.out.2.1.size, h4.out.2.size⟩
       have ko : ∀ b, b ≠ q → W9.heap[b]? = w4.heap[b]? := fun b hb => by rw [hW9, Below.heap_setCell _ _ _ _ hb, Below.heap_setCell _ _ _ _ hb]
       have hb29 : Below w2.heap.size w2 W9 := by
        have h1 : Below w2.heap.size w2 w4 := ck_all (ck_all H7.out.2.2.2.2.2.1 HR3.out.2.1) h4.out.2
        rw [hW9]
        exact (h1.setCell (p := ⟨q, 7, none⟩) hqq.1 _).setCell (p := ⟨q, 8, none⟩) hqq.1 _
       have hb09 : Below w.heap.size w W9 := ck_all HR2.out.2.2 hb29
       have HE : Hid (RSt J (fun b => A b ∨ w2.heap.size ≤ b) W9 (apF fr s) [.string S, .bool d1, .bool d2, .slice a3 n3 m3, .slice a4 n4 m4, .slice a6 n6 m6, .pointer u6, .slice a8 M k8, .slice ra rn rm]) := by
        have hAq : ∀ b, A b → b < w.heap.size := hA.out
        have kN : Keep (fun b => X.heap.size ≤ b) (fun b => A b ∨ w2.heap.size ≤ b) W7 W9 := fun b hb hlt => by
         have hb' : X.heap.size ≤ b := hb
         refine ⟨.inr (by omega), ?_⟩
         rw [ko b (by omega), h4.out.2.block b (by omega), HR3.out.2.1.block b hlt]
        have kW : Keep (fun b => A b ∨ W7.heap.size ≤ b) (fun b => A b ∨ w2.heap.size ≤ b) w3 W9 := fun b hb hlt => by
         refine ⟨by rcases hb with h | h; exact .inl h; exact .inr (by omega), ?_⟩
         rw [ko b (by rcases hb with h | h; have := hAq b h; omega; omega), h4.out.2.block b hlt]
        have kR : Keep (fun b => A b ∨ w3.heap.size ≤ b) (fun b => A b ∨ w2.heap.size ≤ b) w4 W9 := fun b hb hlt => by
         refine ⟨by rcases hb with h | h; exact .inl h; exact .inr (by omega), ?_⟩
         rw [ko b (by rcases hb with h | h; have := hAq b h; omega; omega)]
        have hwy := HR3.out.1.done rway_carries
        rw [HS.out.2.1, List.take_length] at hwy
        refine ⟨.slice a3 n3 m3, .slice a4 n4 m4, .slice a6 n6 m6, .pointer u6, .slice a8 M k8, .slice ra rn rm, ?_, H7.out.1.carry kN, H7.out.2.1.carry kN, H7.out.2.2.1.carry kN, H7.out.2.2.2.1.carry kN, ?_, ?_⟩
        ·rw [HS.out.1, HS.out.2.2.2.1, HS.out.2.2.2.2.1]
         rfl
        ·rw [HS.out.2.1]
         exact IsWays.carry kW ⟨zs, hwy.1, hwy.2⟩
        ·exact h4.out.1.carry kR (HJ.out kR)
       have hown : W9.ownsRow w1.heap.size 69 9 (.slice a5 p k5) p ys := (HR2.out.1.low (rst_carries HJ.out) hb29).own' HNR.out.1 (by omega)
       have HB9 : Hid (Below w2.heap.size w2 W9) := hb29
       have h19 : w1.heap.size ≤ W9.heap.size := Nat.le_trans HR2.out.2.1.size hb29.size
       clear hcall h4 hk4 hqq ko hb29 hb09
       go_upto_region 19 with fail
       rw [← hW9]
       have x0 := cell_row hk9 0 (u := .string S) rfl
       have x1 := cell_row hk9 1 (u := .bool d1) rfl
       have x2 := cell_row hk9 2 (u := .bool d2) rfl
       have x3 := cell_row hk9 3 (u := .slice a3 n3 m3) rfl
       have x4 := cell_row hk9 4 (u := .slice a4 n4 m4) rfl
       have x5 := cell_row hk9 5 (u := .slice a6 n6 m6) rfl
       have x6 := cell_row hk9 6 (u := .pointer u6) rfl
       have x7 := cell_row hk9 7 (u := .slice a8 M k8) rfl
       have x8 := cell_row hk9 8 (u := .slice ra rn rm) rfl
       clear f7 f8 g7 g8 hW9 hk9
       go_wp2_with (at_builtin; refine wpList_append_own_at _ rfl (.tmp 79) (.tmp 81) 64 rfl w1.heap.size 69 iS _ 9 152 Tryz.underlying64 hiS hS0 hS1 hS2 rfl (by decide) _ _ _ rfl (hown.alloc _) ⟨W9.heap.size, 0, none⟩ 1 1 [.string S, .bool d1, .bool d2, .slice a3 n3 m3, .slice a4 n4 m4, .slice a6 n6 m6, .pointer u6, .slice a8 M k8, .slice ra rn rm] rfl rfl (cells_new _ _ _) (by intro u hu; simp at hu; rcases hu with rfl | rfl | rfl | rfl | rfl | rfl | rfl | rfl | rfl <;> rfl) (by unfold maxLen; omega) (by omega) (by simp; omega) ?_; intro v5' w5 hown5 hgrow _ hat)
       go_roundg (n - (p + 1))
       case measure => omega
       case rel =>
        have hst := HR2.out.1.step (rst_carries HJ.out) (fun b hb => Nat.lt_of_lt_of_le (hA.out b hb) HR.out.2.size) HR2.out.2.1.size HB9.out HE.out (by rw [take_map_len (apF fr) HNR.out.1 (by omega)]; exact hown5) hgrow hat
        exact ⟨p + 1, _, rfl, by omega, by go_num, by rw [take_map_snoc (apF fr) HS.out.2.2.2.2.2]; exact hst.1, HR2.out.2.1.trans hst.2, fun h => absurd h (by omega)⟩
    ·obtain rfl : n = p := by omega
     have HE : Hid (ROut J (fun b => A b ∨ w1.heap.size ≤ b) w2 (r.map (apF fr)) [.slice a5 n k5]) := by
      have hd := hr.out.1.done (rst_carries HJ.out)
      have htk : r.take n = r := by rw [HNR.out.1, List.take_length]
      rw [htk] at hd
      refine ⟨_, rfl, ⟨ys, hd.1, hd.2⟩, fun he => hr.out.2.2 ?_⟩
      rw [HNR.out.1]
      exact List.length_eq_zero_iff.2 (List.map_eq_nil_iff.1 he)
     have HB2 : Hid (Below w1.heap.size w1 w2) := hr.out.2.1
     have hown : w2.ownsRow w.heap.size 64 1 (.slice ao k co) k xs := (HR.out.1.low (rout_carries HJ.out) hr.out.2.1).own' hn.out hk
     have h02 : w.heap.size ≤ w2.heap.size := hbw.size
     clear hr hbw
     go_wp2_with (at_builtin; refine wpList_append_own_at _ rfl (.tmp 83) (.tmp 85) 26 rfl w.heap.size 64 iR _ 1 24 Tryz.underlying26 hiR hR0 hR1 hR2 rfl (by decide) _ _ _ rfl (hown.alloc _) ⟨w2.heap.size, 0, none⟩ 1 1 [.slice a5 n k5] rfl rfl (cells_new _ _ _) (by intro u hu; simp at hu; subst hu; rfl) (by unfold maxLen; omega) (by omega) (by simp; omega) ?_; intro v5' w5 hown5 hgrow _ hat)
     go_roundg (N - (k + 1))
     case measure => omega
     case rel =>
      have hst := HR.out.1.step (rout_carries HJ.out) hA.out HR.out.2.size HB2.out HE.out (by rw [take_map_len _ hn.out hk]; exact hown5) hgrow hat
      exact ⟨k + 1, _, rfl, by omega, by go_num, by rw [take_map_snoc _ HNR.out.2]; exact hst.1, HR.out.2.trans hst.2⟩
  ·obtain rfl : k = N := by omega
   have hd := hr.out.1.done (rout_carries HJ.out)
   have hb := hr.out.2
   rw [hn.out, List.take_length] at hd
   rw [List.length_map] at hd
   have HD : Hid _ := And.intro hd hb
   clear hd hb hr
   go_wp2_with fail
   go_ret
   exact ⟨_, _, _, rfl, ⟨xs, by rw [hn.out]; exact HD.out.1.1, HD.out.1.2⟩, HD.out.2⟩
end Kx
end Go.Proofs.YtpogmfliojcnjaaGreatDoor
