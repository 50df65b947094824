import Derived.Test.YtpogmfliojcnjaaGreatDoorQWh
namespace Go.Proofs.YtpogmfliojcnjaaGreatDoor
open Go.RowKit Px
namespace Kx
theorem row_nil (w : World) (B e size : Nat) (hB : B ≤ w.heap.size) : (w.alloc (.cells #[] e)).ownsRow B e size (.slice (some ⟨w.heap.size, 0, none⟩) 0 0) 0 [] :=
 World.ownsRow_lit (base := B) (e := e) (size := size) w #[] 0 hB (Nat.zero_le _) (by simp)
set_option maxRecDepth 100000 in
set_option maxHeartbeats 16000000 in
def beside_b := PLift.up (show PLift (_ : Prop) → BesideL from fun owed => by
 refine beside_a.down ⟨?_⟩
 intro K0 s t w Q0 hK c d zss yss _ _ iad ib io ic jad jb jo jc N M S a n m a' n' m' cb A1 w3 S' b p q b' p' q' W3 db A2 x1 V x2 _ xx _ HB HT hN6 hM6 H HN H20 HV
 obtain ⟨iD, hiD, hD0, hD1, hD2⟩ := info_parts Tryz.infoDecl
 have x0 := cell_row HV.out.1.b1 0 (u := .string S) rfl
 have x1 := cell_row HV.out.1.b1 1 (u := .slice a n m) rfl
 have x2 := cell_row HV.out.1.b1 2 (u := .slice a' n' m') rfl
 obtain ⟨W5, hW5⟩ : ∃ W5, W5 = V.alloc (.cells #[.string S, .slice a n m, .slice a' n' m'] 28) := ⟨_, rfl⟩
 obtain ⟨bb, hbb⟩ : ∃ bb, bb = V.heap.size := ⟨_, rfl⟩
 have hg5 : Below V.heap.size V W5 := by rw [hW5]; exact ck_grown _ _
 have hs5 : W5.heap.size = bb + 1 := by rw [hW5, hbb]; simp
 have k5 : W5.heap[bb]? = some (.cells #[.string S, .slice a n m, .slice a' n' m'] 28 (0, 0)) := by rw [hW5, hbb]; exact ck_new _ _
 have H5 : Hid (Below V.heap.size V W5 ∧ W5.heap.size = bb + 1 ∧ W5.heap[bb]? = some (.cells #[.string S, .slice a n m, .slice a' n' m'] 28 (0, 0)) ∧ bb = V.heap.size) := ⟨hg5, hs5, k5, hbb⟩
 go_upto_region 10 with fail
 rw [← hbb, ← hW5]
 clear hbb hW5 x0 x1 x2 hg5 hs5 k5
 obtain ⟨E5, hE5⟩ : ∃ E5, E5 = W5.alloc (.cells #[] 33) := ⟨_, rfl⟩
 have hg6 : Below W5.heap.size W5 E5 := by rw [hE5]; exact ck_grown _ _
 have hown : E5.ownsRow (bb + 1) 33 3 (.slice (some ⟨W5.heap.size, 0, none⟩) 0 0) 0 [] := by rw [hE5]; exact row_nil W5 _ _ _ (by rw [H5.out.2.1]; exact Nat.le_refl _)
 obtain ⟨xs, hrow, hrows⟩ := (chart_reg (HV.out.1.low (ck_all H5.out.1 hg6)).c1).2.1
 have hsrc : SrcC E5 3 (.slice a n m) n xs := by
  have h := src_own hrow.1 (decl_one _ _ hrows)
  rw [← HN.out.1] at h
  exact h
 have hx1 : (W5.alloc (.cells #[] 33)).cell? ⟨cb, 1, none⟩ = some (.slice a n m) := by rw [← hE5]; exact cell_row (HV.out.1.low (ck_all H5.out.1 hg6)).b1 1 (u := .slice a n m) rfl
 have HR : Hid (Rows DeclC c.vars xs) := hrows
 have HK6 : Hid (∀ w', E5.grownBy w' (some W5.heap.size) → w'.heap[bb]? = some (.cells #[.string S, .slice a n m, .slice a' n' m'] 28 (0, 0))) := fun w' hg => by
  rw [hg.block bb (by have := hg6.size; have := H5.out.2.1; omega) (by have := H5.out.2.1; intro e; injection e with e; omega)]
  exact ck_block hg6 H5.out.2.2.1
 have hn20 : n ≤ 20 := by have := H20.out; omega
 have hbE : bb + 1 ≤ E5.heap.size := by have := hg6.size; have := H5.out.2.1; omega
 have HG6 : Hid (Below V.heap.size V E5) := ck_all H5.out.1 hg6
 clear hrow hrows hg6
 go_wp2_with (at_builtin; (try rw [← hE5]); refine wpList_app rfl (.tmp 74) (.tmp 76) 25 rfl (bb + 1) 33 iD _ 3 32 Tryz.underlying25 hiD hD0 hD1 hD2 rfl (by decide) rfl hown rfl hsrc (by unfold maxLen; omega) (by omega) hbE ?_; intro g1 cap1 w6 hown6 hgrow6 hat6; simp only [Nat.zero_add, List.nil_append] at hown6 ⊢; have c6 := cell_row (HK6.out w6 hgrow6) 1 (u := .slice a n m) rfl; have f6 := ck_frozen (HK6.out w6 hgrow6) 1)
 obtain ⟨W7, hW7⟩ : ∃ W7, W7 = w6.setCell ⟨bb, 1, none⟩ (.slice (some ⟨g1, 0, none⟩) n cap1) := ⟨_, rfl⟩
 rw [← hW7]
 have hgb : bb + 1 ≤ g1 := (hown6.lt g1 rfl).1
 have HI0 : Hid (BothI c d V bb S (.slice a' n' m') 0 W7) := by
  have hw6 : Below V.heap.size V w6 := ⟨hgrow6.os.trans HG6.out.os, hgrow6.tape.trans HG6.out.tape, hgrow6.output.trans HG6.out.output, Nat.le_trans HG6.out.size hgrow6.size, fun x hx => by
   have h1 := H5.out.2.1
   have h2 := H5.out.2.2.2
   have h3 := HG6.out.size
   rw [hgrow6.block x (by omega) (by intro e; injection e with e; omega), HG6.out.block x hx]⟩
  refine ⟨⟨g1, cap1, xs, ?_, ?_, ?_⟩, ?_, fun s _ t ht => ?_⟩
  ·rw [hW7, Nat.add_zero, ← HN.out.1]
   exact ck_set (l := [.string S, .slice a n m, .slice a' n' m']) (HK6.out w6 hgrow6) 1 _
  ·rw [Nat.add_zero, ← HN.out.1]
   refine own_keep hown6 fun g hg => ?_
   have hg : g1 = g := Option.some.inj hg
   rw [hW7, Below.heap_setCell _ _ _ _ (by intro e; have : g = bb := e; omega)]
  ·rw [List.take_zero, List.map_nil, List.append_nil]
   exact HR.out
  ·rw [hW7]
   exact hw6.setCell (p := ⟨bb, 1, none⟩) (by have := H5.out.2.2.2; show V.heap.size ≤ bb; omega) _
  ·rw [List.take_zero] at ht; cases ht
 clear c6 f6 hW7 hgb hown6 hgrow6 hat6 hx1 hE5 hown hsrc HK6 hbE HG6 HR
 have hvs := (chart_reg HV.out.1.c2).2.1
 obtain ⟨va0, vg, vcap, ev, vl, vgp, vcs⟩ := hvs.open2
 injection ev with ev1 ev2 ev3
 subst ev1
 subst ev3
 rw [← ev2] at vgp
 have HVD : Hid ((0 < p → b = some ⟨vg, 0, none⟩) ∧ ∀ wq, Below V.heap.size V wq → ∀ (i : Nat) (v : Decl), d.vars[i]? = some v → wq.cell? ⟨vg, i * 3, none⟩ = some (.int .i64 (v.kind : Int)) ∧ wq.cell? ⟨vg, i * 3 + 1, none⟩ = some (sv v.name) ∧ wq.cell? ⟨vg, i * 3 + 2, none⟩ = some (.int .i64 v.first)) := ⟨fun hp => (vgp hp).1, fun wq hb i v hi => ⟨ck_cell hb (vcs i v hi).1, ck_cell hb (vcs i v hi).2.1, ck_cell hb (vcs i v hi).2.2⟩⟩
 clear hvs vl vgp vcs ev2
 have hvs := (chart_reg HV.out.1.c1).2.1
 obtain ⟨va0, cg, vcap, ev, vl, vgp, vcs⟩ := hvs.open2
 injection ev with ev1 ev2 ev3
 subst ev1
 subst ev3
 rw [← ev2] at vgp
 have HVC : Hid ((0 < n → a = some ⟨cg, 0, none⟩) ∧ ∀ wq, Below V.heap.size V wq → ∀ (i : Nat) (v : Decl), c.vars[i]? = some v → wq.cell? ⟨cg, i * 3 + 1, none⟩ = some (sv v.name)) := ⟨fun hp => (vgp hp).1, fun wq hb i v hi => ck_cell hb (vcs i v hi).2.1⟩
 clear hvs vl vgp vcs ev2
 have hp20 : (p : Int) ≤ 20 := by have := H20.out; omega
 go_wp2_with fail
 go_loopg [14] p (fun f iv wr => ∃ k : Nat, f = p - k ∧ k ≤ p ∧ iv = .int .i64 (k : Int) ∧ Hid (BothI c d V bb S (.slice a' n' m') k wr))
 case atStart => exact ⟨0, by omega, by omega, rfl, HI0.out⟩
 case round =>
  obtain ⟨k, rfl, hk, rfl, hr⟩ := hrel
  obtain ⟨W8, hW8⟩ : ∃ W, W = wr := ⟨_, rfl⟩
  subst hW8
  have hy1 := cell_row (HV.out.1.low hr.out.bel).b2 1 (u := .slice b p q) rfl
  by_cases hlt : k < p
  ·obtain ⟨v, hv⟩ : ∃ v, d.vars[k]? = some v := ⟨d.vars[k]'(by rw [← HN.out.2]; exact hlt), by rw [List.getElem?_eq_getElem]⟩
   obtain ⟨v0, v1, v2⟩ := HVD.out.2 W8 hr.out.bel k v hv
   have hix := ixV b vg p q k hlt HVD.out.1
   obtain ⟨T, hT⟩ : ∃ T, Value.string T = sv v.name := ⟨_, rfl⟩
   obtain ⟨kd, hkd⟩ : ∃ kd : Int, kd = (v.kind : Int) := ⟨_, rfl⟩
   obtain ⟨fi, hfi⟩ : ∃ fi : Int, fi = v.first := ⟨_, rfl⟩
   rw [← hkd] at v0
   rw [← hT] at v1
   rw [← hfi] at v2
   have hT12 : T.size ≤ 12 := by
    have h1 := (HT.out.2.2.2 v (List.mem_of_getElem? hv)).2
    have : T.size = v.name.length := by { unfold sv at hT; injection hT with hT; rw [hT]; rfl }
    omega
   have HR : Hid (BothI c d V bb S (.slice a' n' m') k W8) := hr.out
   by_cases h12 : 12 ≤ T.size
   ·have h12' : (12 : Int) ≤ (T.size : Int) := by omega
    have HB9 : Hid (Below w.heap.size w (W8.alloc (.cells #[.int .i64 kd, .string T, .int .i64 fi] 33))) := ck_all (ck_all HV.out.2 HR.out.bel) (ck_grown _ _)
    clear hr hkd hfi hT hv
    go_wp2_with fail
    go_ret
    exact ⟨rfl, HB9.out⟩
   ·have h12' : ¬ (12 : Int) ≤ (T.size : Int) := by omega
    have hadd : ¬ 9223372036854775807 < 1 + T.size := by omega
    obtain ⟨X, hX⟩ : ∃ X, X = W8.alloc (.cells #[.int .i64 kd, .string ((⟨#[113]⟩ : ByteArray) ++ T), .int .i64 fi] 33) := ⟨_, rfl⟩
    obtain ⟨vb, hvb⟩ : ∃ vb, vb = W8.heap.size := ⟨_, rfl⟩
    have hkx : X.heap[vb]? = some (.cells #[.int .i64 kd, .string ((⟨#[113]⟩ : ByteArray) ++ T), .int .i64 fi] 33 (0, 0)) := by rw [hX, hvb]; exact ck_new _ _
    have hbx : Below W8.heap.size W8 X := by rw [hX]; exact ck_grown _ _
    have HX : Hid (X.heap[vb]? = some (.cells #[.int .i64 kd, .string ((⟨#[113]⟩ : ByteArray) ++ T), .int .i64 fi] 33 (0, 0)) ∧ Below W8.heap.size W8 X ∧ vb = W8.heap.size ∧ X.heap.size = W8.heap.size + 1) := ⟨hkx, hbx, hvb, by rw [hX]; simp⟩
    have HS : Hid (Value.string T = sv v.name ∧ kd = (v.kind : Int) ∧ fi = v.first ∧ d.vars[k]? = some v) := ⟨hT, hkd, hfi, hv⟩
    clear hr hkd hfi hT hv hkx hbx
    go_upto_region 18 with fail
    rw [← hX, ← hvb]
    clear hX hvb v0 v1 v2 hix hadd h12' hy1
    go_wp2_with fail
    go_loopg [16] n (fun f jv wq => ∃ j : Nat, f = n - j ∧ j ≤ n ∧ jv = .int .i64 (j : Int) ∧ Hid (Below X.heap.size X wq ∧ ∀ s ∈ vnames (c.vars.take j), s ≠ apN v.name))
    case atStart => exact ⟨0, by omega, by omega, rfl, Below.refl _ _, fun s hs => by rw [List.take_zero] at hs; cases hs⟩
    case round =>
     obtain ⟨j, rfl, hj, rfl, hr⟩ := hrel
     obtain ⟨W9, hW9⟩ : ∃ W, W = wr := ⟨_, rfl⟩
     subst hW9
     have hb9 : Below V.heap.size V W9 := ck_all HR.out.bel (ck_all HX.out.2.1 hr.out.1)
     have hx1 := cell_row (HV.out.1.low hb9).b1 1 (u := .slice a n m) rfl
     by_cases hltj : j < n
     ·obtain ⟨u, hu⟩ : ∃ u, c.vars[j]? = some u := ⟨c.vars[j]'(by rw [← HN.out.1]; exact hltj), by rw [List.getElem?_eq_getElem]⟩
      have u1 := HVC.out.2 W9 hb9 j u hu
      obtain ⟨U, hU⟩ : ∃ U, Value.string U = sv u.name := ⟨_, rfl⟩
      rw [← hU] at u1
      have hix := ixV a cg n m j hltj HVC.out.1
      have z1 := cell_row (ck_block hr.out.1 HX.out.1) 1 (u := .string ((⟨#[113]⟩ : ByteArray) ++ T)) rfl
      have HQ : Hid (Below X.heap.size X W9 ∧ (∀ s ∈ vnames (c.vars.take j), s ≠ apN v.name) ∧ Value.string U = sv u.name ∧ c.vars[j]? = some u) := ⟨hr.out.1, hr.out.2, hU, hu⟩
      have HBN : Hid (∀ q, Below X.heap.size X (W9.drewN q)) := fun q => below_drewN hr.out.1 q
      obtain ⟨QT, hQT⟩ : ∃ QT, QT = (⟨#[113]⟩ : ByteArray) ++ T := ⟨_, rfl⟩
      rw [← hQT] at z1
      have hcmp : (U.toList == QT.toList) = decide (u.name = apN v.name) := strQ hU (by rw [hQT]; exact ap_sv T v.name HS.out.1)
      clear hr hu hU hb9 hQT
      by_cases hUT : u.name = apN v.name
      ·rw [decide_eq_true hUT] at hcmp
       have HB9 : Hid (∀ q, Below w.heap.size w (W9.drewN q)) := fun q => ck_all (ck_all HV.out.2 HR.out.bel) (ck_all HX.out.2.1 (HBN.out q))
       clear hUT
       go_upto_region 21 with fail
       go_quiet (fail)
       all_goals
        go_wp2_with fail
        go_ret
        exact ⟨rfl, HB9.out _⟩
      ·rw [decide_eq_false hUT] at hcmp
       have HUT : Hid (u.name ≠ apN v.name) := hUT
       clear hUT
       go_upto_region 21 with fail
       go_quiet (fail)
       all_goals
        go_wp2_with fail
        go_roundg (n - (j + 1))
        case measure => omega
        case rel =>
         refine ⟨j + 1, by omega, by omega, by go_num, HBN.out _, fun s hs => ?_⟩
         rw [vnames_take HQ.out.2.2.2] at hs
         rcases List.mem_append.1 hs with h | h
         ·exact HQ.out.2.1 s h
         ·rw [List.mem_singleton.1 h]
          exact HUT.out
     ·obtain rfl : n = j := by omega
      have hkx := ck_block hr.out.1 HX.out.1
      have hB := (HR.out.low HX.out.2.1).low hr.out.1
      obtain ⟨g, cap, xs, hkb, hown, hrows⟩ := hB.mem
      have hz1 := cell_row hkb 1 (u := .slice (some ⟨g, 0, none⟩) (c.vars.length + k) cap) rfl
      rw [← HN.out.1] at hz1 hown
      have y0 := cell_row hkx 0 (u := .int .i64 kd) rfl
      have y1 := cell_row hkx 1 (u := .string ((⟨#[113]⟩ : ByteArray) ++ T)) rfl
      have y2 := cell_row hkx 2 (u := .int .i64 fi) rfl
      have hbs : bb + 1 ≤ W9.heap.size := lt_of_block hkb
      have hk20 : n + k ≤ 20 := by have := H20.out; omega
      have hgb := hown.lt g rfl
      have HE : Hid (BothI c d V bb S (.slice a' n' m') k W9 ∧ W9.heap[bb]? = some (.cells #[.string S, .slice (some ⟨g, 0, none⟩) (c.vars.length + k) cap, .slice a' n' m'] 28 (0, 0)) ∧ Rows DeclC (c.vars ++ (d.vars.take k).map apV) xs ∧ ∀ s ∈ vnames c.vars, s ≠ apN v.name) := ⟨hB, hkb, hrows, by have h := hr.out.2; rw [HN.out.1, List.take_length] at h; exact h⟩
      have HK7 : Hid (∀ w', (W9.alloc (.cells #[.int .i64 kd, .string ((⟨#[113]⟩ : ByteArray) ++ T), .int .i64 fi] 33)).grownBy w' (some g) → w'.heap[bb]? = some (.cells #[.string S, .slice (some ⟨g, 0, none⟩) (c.vars.length + k) cap, .slice a' n' m'] 28 (0, 0))) := fun w' hg => by
       rw [hg.block bb (by simp; omega) (by intro e; injection e with e; omega)]
       exact ck_old hkb
      clear hr hkx hB hkb hrows hb9
      go_upto_region 23 with fail
      clear hx1
      go_wp2_with (at_builtin; refine wpList_app rfl (.tmp 116) (.tmp 118) 25 rfl (bb + 1) 33 iD _ 3 32 Tryz.underlying25 hiD hD0 hD1 hD2 rfl (by decide) rfl (hown.alloc _) rfl (.inr ⟨⟨W9.heap.size, 0, none⟩, 1, rfl, rfl, cells_new _ _ _, by intro u hu; simp at hu; rcases hu with rfl | rfl | rfl <;> rfl⟩ : SrcC _ 3 _ 1 [.int .i64 kd, .string ((⟨#[113]⟩ : ByteArray) ++ T), .int .i64 fi]) (by unfold maxLen; omega) (by omega) (by simp; omega) ?_; intro g1 cap1 w6 hown6 hgrow6 hat6; have c6 := cell_row (HK7.out w6 hgrow6) 1 (u := .slice (some ⟨g, 0, none⟩) (c.vars.length + k) cap) rfl; have f6 := ck_frozen (HK7.out w6 hgrow6) 1)
      go_roundg (p - (k + 1))
      case measure => omega
      case rel =>
       refine ⟨k + 1, by omega, by omega, by go_num, ?_⟩
       have hgb1 : bb + 1 ≤ g1 := (hown6.lt g1 rfl).1
       have h9 := HE.out.1.bel
       have hVb := H5.out.2.2.2
       have hw6 : Below V.heap.size V w6 := by
        have h1 : Below V.heap.size V (W9.alloc (.cells #[.int .i64 kd, .string ((⟨#[113]⟩ : ByteArray) ++ T), .int .i64 fi] 33)) := ck_all h9 (ck_grown _ _)
        exact h1.trans (below_grown hgrow6 (by omega) h1.size)
       refine ⟨⟨g1, cap1, xs ++ [.int .i64 kd, .string ((⟨#[113]⟩ : ByteArray) ++ T), .int .i64 fi], ?_, ?_, ?_⟩, ?_, fun s hs t ht => ?_⟩
       ·rw [← HN.out.1]
        exact ck_set (l := [.string S, .slice (some ⟨g, 0, none⟩) (c.vars.length + k) cap, .slice a' n' m']) (HK7.out w6 hgrow6) 1 _
       ·rw [← HN.out.1]
        refine own_keep hown6 fun g' hg => ?_
        have hg : g1 = g' := Option.some.inj hg
        rw [Below.heap_setCell _ _ _ _ (by intro e; have : g' = bb := e; omega)]
       ·rw [take_map_snoc apV HS.out.2.2.2, ← List.append_assoc]
        refine Rows.append HE.out.2.2.1 (Rows.one ?_)
        show _ = [_, _, _]
        rw [ap_sv T v.name HS.out.1, HS.out.2.1, HS.out.2.2.1]
        rfl
       ·exact hw6.setCell (p := ⟨bb, 1, none⟩) (by show V.heap.size ≤ bb; omega) _
       ·rw [vnames_take HS.out.2.2.2] at ht
        rcases List.mem_append.1 ht with h | h
        ·exact HE.out.1.ap s hs t h
        ·rw [List.mem_singleton.1 h]
         exact HE.out.2.2.2 s hs
  ·obtain rfl : k = p := by omega
   have HR : Hid (BothI c d V bb S (.slice a' n' m') k W8) := hr.out
   clear hr HVD HVC HI0
   go_upto_region 24 with fail
   clear hy1
   rename_i K3 J2 K2 hH a3 a2 K1 a1 K0 a0
   clear a1 a2 a3 hH K1 K2 J2 K3 hp20 hk hlt hiD hD0 hD1 hD2 hn20
   revert hN6 hM6 H HB HT HN H20 HV H5 HR
   revert a0 u8 u15 u16 u79 u80 u81 u82 u83 u84 u85 u86 u87 u88 u89 u90 u91 u92 u93 u94 u95 u96 u97 u98 u99 u100 u101 u102 u103 u104 u105 u106 u107 u108 u109 u110 u111 u112 u113 u114 u115 u116 u117 u118 u119 u120
   revert W8 k bb W5 W7 w6 g1 cap1 xs E5 vg cg iD xx x1 x2 V W3 w3 cb db A1 A2 S a n m a' n' m' S' b q b' p' q'
   revert iad ib io ic jad jb jo jc N M zss yss c d
   revert w s t
   revert K0
   exact owed.down)
end Kx
end Go.Proofs.YtpogmfliojcnjaaGreatDoor
namespace Go.Proofs.YtpogmfliojcnjaaGreatDoor
open Go.RowKit Px
namespace Kx
set_option maxRecDepth 100000 in
set_option maxHeartbeats 16000000 in
def beside_c := PLift.up (show PLift (_ : Prop) → BesideL from fun owed => by
 refine beside_b.down ⟨?_⟩
 intro K0 s t w Q0 c d zss yss _ _ iad ib io ic jad jb jo jc N M S a n m a' n' m' cb A1 w3 S' b q b' p' q' W3 db A2 x1 V x2 xx _ iD W5 bb E5 xs g1 cap1 w6 W7 vg cg p W8 u8 u15 u16 u79 u80 u81 u82 u83 u84 u85 u86 u87 u88 u89 u90 u91 u92 u93 u94 u95 u96 u97 u98 u99 u100 u101 u102 u103 u104 u105 u106 u107 u108 u109 u110 u111 u112 u113 u114 u115 u116 u117 u118 u119 u120 a0 HB HT hN6 hM6 H H5 HN H20 HV HR
 obtain ⟨iR, hiR, hR0, hR1, hR2⟩ := info_parts Tryz.info64
 obtain ⟨g, cap, xv, hkb, hov, hrv⟩ := HR.out.mem
 have HX : Hid (∀ W, Below W8.heap.size W8 W → W.cell? ⟨cb, 2, none⟩ = some (.slice a' n' m') ∧ W.cell? ⟨db, 2, none⟩ = some (.slice b' p' q')) := fun W hb => ⟨cell_row (HV.out.1.low (ck_all HR.out.bel hb)).b1 2 (u := .slice a' n' m') rfl, cell_row (HV.out.1.low (ck_all HR.out.bel hb)).b2 2 (u := .slice b' p' q') rfl⟩
 have hs0 : Below W8.heap.size W8 W8.drew := (Below.refl _ _).drew
 have HM : Hid (W8.heap[bb]? = some (.cells #[.string S, .slice (some ⟨g, 0, none⟩) (c.vars.length + p) cap, .slice a' n' m'] 28 (0, 0)) ∧ W8.ownsRow (bb + 1) 33 3 (.slice (some ⟨g, 0, none⟩) (c.vars.length + p) cap) (c.vars.length + p) xv ∧ Rows DeclC (c.vars ++ (d.vars.take p).map apV) xv) := ⟨hkb, hov, hrv⟩
 clear hkb hov hrv
 refine wp_region_z 9 (fun W => Below W8.heap.size W8 W) (by kernel_rfl) ?_
 refine wpAnyZ_take 1 [9] (v := .pointer (some ⟨cb, 2, none⟩)) rfl (by kernel_rfl) (by kernel_rfl) (by kernel_rfl) (by kernel_rfl) (by kernel_rfl) (by kernel_rfl) (by kernel_rfl) (fun _ _ _ h => h) (.inl ⟨by rfl, fun W hW => ?_⟩) hs0 ?_
 ·go_simp
 try simp only [Act.put, List.setIfInBounds_toArray]
 refine wpAnyZ_take 2 [9] (v := .slice a' n' m') rfl (by kernel_rfl) (by kernel_rfl) (by kernel_rfl) (by kernel_rfl) (by kernel_rfl) (by kernel_rfl) (by kernel_rfl) (fun _ _ _ h => h) (.inl ⟨by rfl, fun W hW => ?_⟩) hs0 ?_
 ·have c := (HX.out W hW).1
  go_simp
 try simp only [Act.put]
 refine wpAnyZ_take 4 [9] (v := .pointer (some ⟨db, 2, none⟩)) rfl (by kernel_rfl) (by kernel_rfl) (by kernel_rfl) (by kernel_rfl) (by kernel_rfl) (by kernel_rfl) (by kernel_rfl) (fun _ _ _ h => h) (.inl ⟨by rfl, fun W hW => ?_⟩) hs0 ?_
 ·go_simp
 try simp only [Act.put]
 refine wpAnyZ_take 5 [9] (v := .slice b' p' q') rfl (by kernel_rfl) (by kernel_rfl) (by kernel_rfl) (by kernel_rfl) (by kernel_rfl) (by kernel_rfl) (by kernel_rfl) (fun _ _ _ h => h) (.inl ⟨by rfl, fun W hW => ?_⟩) hs0 ?_
 ·have c := (HX.out W hW).2
  go_simp
 try simp only [Act.put]
 have hs1 : Below W8.heap.size W8 (W8.alloc (.cells #[] 64)).drew := (ck_grown _ _).drew
 have hown : (W8.alloc (.cells #[] 64)).drew.ownsRow W8.heap.size 64 1 (.slice (some ⟨W8.heap.size, 0, none⟩) 0 0) 0 [] := row_nil W8 W8.heap.size 64 1 (Nat.le_refl _)
 obtain ⟨E, hE⟩ : ∃ E, E = (W8.alloc (.cells #[] 64)).drew := ⟨_, rfl⟩
 rw [← hE] at hs1 hown
 have hVE : Below V.heap.size V E := ck_all HR.out.bel hs1
 obtain ⟨xc, hrow, hrc⟩ := (chart_reg (HV.out.1.low hVE).c1).2.2
 have hnc : Hid (n' = c.regions.length) := by
  obtain ⟨_, _, _, e1, _⟩ := (chart_reg (HV.out.1.low hVE).c1).2.2.len
  injection e1 with _ e1
 have hsrc : SrcC E 1 (.slice a' n' m') n' xc := by
  have h := src_own hrow.1 (reg_one _ _ hrc)
  rw [← hnc.out] at h
  exact h
 have hn6 : n' ≤ 601 := by
  have h1 := HT.out.2.2.1
  have h2 : c.regions.length ≤ Sh.sumW (Sh.wR (Sh.wSt 6)) c.regions := sumW_len (fun a => by unfold Sh.wR; omega) _
  have h3 := hnc.out
  omega
 refine wpAnyZ_one 0 (by kernel_rfl) rfl (fun K hK => ?_)
 go_simp
 rw [← hE]
 refine hK.out _ _ hs1 ?_
 clear hK K
 try simp only [Act.put, List.setIfInBounds_toArray, List.set_cons_zero, List.set_cons_succ]
 refine wpAnyZ_one 3 (by kernel_rfl) rfl (fun K hK => ?_)
 refine step_app rfl (.tmp 121) (.tmp 123) 26 rfl W8.heap.size 64 iR _ 1 24 Tryz.underlying26 hiR hR0 hR1 hR2 rfl (by decide) rfl hown rfl hsrc (by unfold maxLen; omega) (by omega) hs1.size ?_
 intro g2 cap2 q2 hown2 hgrow2 hat2
 rw [Nat.zero_add, List.nil_append] at hown2
 simp only [Nat.zero_add]
 have hs2 : Below W8.heap.size W8 q2 := hs1.trans (below_grown hgrow2 (Nat.le_refl _) hs1.size)
 refine hK.out _ _ hs2 ?_
 clear hK K
 try simp only [Act.put, List.setIfInBounds_toArray]
 have hV2 : Below V.heap.size V q2 := ck_all HR.out.bel hs2
 have hcall := ap_all 6 A2 q2 d.regions (.slice b' p' q') (chart_reg (HV.out.1.low hV2).c2).2.2 HT.out.1 HT.out.2.1
 refine wpAnyZ_one 6 (by kernel_rfl) rfl (fun K hK => ?_)
 go_simp
 refine hcall.mono ?_
 rintro e q3 ⟨a3, n3, m3, rfl, h3⟩
 have hs3 : Below W8.heap.size W8 q3 := ck_all hs2 h3.out.2
 refine hK.out _ _ hs3 ?_
 clear hK K
 try simp only [Act.put, List.setIfInBounds_toArray, List.set_cons_zero, List.set_cons_succ]
 obtain ⟨xd, hrow3, hrd⟩ := h3.out.1
 have hnd : Hid (n3 = (d.regions.map (apR 6)).length) := by
  obtain ⟨_, _, _, e1, _⟩ := h3.out.1.len
  injection e1 with _ e1
 have hsrc3 : SrcC q3 1 (.slice a3 n3 m3) n3 xd := by
  have h := src_own hrow3.1 (reg_one _ _ hrd)
  rw [← hnd.out] at h
  exact h
 have hn3 : n3 ≤ 601 := by
  rw [hnd.out, List.length_map]
  have h2 : d.regions.length ≤ Sh.sumW (Sh.wR (Sh.wSt 6)) d.regions := sumW_len (fun a => by unfold Sh.wR; omega) _
  have := HT.out.2.1
  omega
 have hg2 := hown2.lt g2 rfl
 have hown3 := own_keep hown2 (w' := q3) (fun x hx => h3.out.2.block x (hown2.lt x hx).2)
 refine wpAnyZ_one 7 (by kernel_rfl) rfl (fun K hK => ?_)
 refine step_app rfl (.tmp 124) (.tmp 127) 26 rfl W8.heap.size 64 iR _ 1 24 Tryz.underlying26 hiR hR0 hR1 hR2 rfl (by decide) rfl hown3 rfl hsrc3 (by unfold maxLen; omega) (by omega) hs3.size ?_
 intro g4 cap4 q4 hown4 hgrow4 hat4
 have hs4 : Below W8.heap.size W8 q4 := hs3.trans (below_grown hgrow4 hg2.1 hs3.size)
 refine hK.out _ _ hs4 ?_
 clear hK K
 try simp only [Act.put, List.setIfInBounds_toArray]
 refine wpAnyZ_take 8 [9] (v := .pointer (some ⟨bb, 2, none⟩)) rfl (by kernel_rfl) (by kernel_rfl) (by kernel_rfl) (by kernel_rfl) (by kernel_rfl) (by kernel_rfl) (by kernel_rfl) (fun _ _ _ h => h) (.inl ⟨by rfl, fun W hW => ?_⟩) hs4 ?_
 ·go_simp
 try simp only [Act.put]
 have hk4 := ck_block hs4 HM.out.1
 have f2 := ck_frozen hk4 2
 have z2 := cell_row hk4 2 (u := .slice a' n' m') rfl
 refine wpAnyZ_z (by kernel_rfl) rfl (fun K hK => ?_)
 go_simp
 refine hK.out _ _ ?_
 clear hK K
 try simp only [Act.put, List.setIfInBounds_toArray, List.set_cons_zero, List.set_cons_succ]
 refine wpAny_done (by kernel_rfl) ?_ _
 clear f2 z2
 obtain ⟨W9, hW9⟩ : ∃ W9, W9 = q4.setCell ⟨bb, 2, none⟩ (.slice (some ⟨g4, 0, none⟩) (n' + n3) cap4) := ⟨_, rfl⟩
 rw [← hW9]
 have hk9 : W9.heap[bb]? = some (.cells #[.string S, .slice (some ⟨g, 0, none⟩) (c.vars.length + p) cap, .slice (some ⟨g4, 0, none⟩) (n' + n3) cap4] 28 (0, 0)) := by
  rw [hW9]
  exact ck_set (l := [.string S, .slice (some ⟨g, 0, none⟩) (c.vars.length + p) cap, .slice a' n' m']) hk4 2 _
 have ko : ∀ x, x ≠ bb → W9.heap[x]? = q4.heap[x]? := fun x hx => by rw [hW9, Below.heap_setCell _ _ _ _ hx]
 have hz9 : W9.heap.size = q4.heap.size := by rw [hW9]; simp [World.setCell]
 have hbV : V.heap.size ≤ bb ∧ bb < W8.heap.size := ⟨by have := H5.out.2.2.2; omega, lt_of_block HM.out.1⟩
 have hV9 : Below V.heap.size V W9 := by rw [hW9]; exact (ck_all HR.out.bel hs4).setCell (p := ⟨bb, 2, none⟩) hbV.1 _
 have hgl := HM.out.2.1.lt g rfl
 have hg4 := hown4.lt g4 rfl
 have hq23 := h3.out.2.size
 have hq34 := hgrow4.size
 have hq8 := hs2.size
 have hC3 : IsChart (fun x => x < W9.heap.size) W9 (besC c d) (.agg #[.string S, .slice (some ⟨g, 0, none⟩) (c.vars.length + p) cap, .slice (some ⟨g4, 0, none⟩) (n' + n3) cap4]) := by
  have kc : Keep A1 (fun x => x < W9.heap.size) E W9 := fun x hx hlt => by
   have hl := HV.out.1.l1 x hx
   exact ⟨by have := hV9.size; show x < _; omega, by rw [hV9.block x hl, hVE.block x hl]⟩
  have kd : Keep (fun x => A2 x ∨ q2.heap.size ≤ x) (fun x => x < W9.heap.size) q3 W9 := fun x hx hlt => by
   refine ⟨by show x < _; omega, ?_⟩
   rcases hx with hx | hx
   ·have hl := HV.out.1.l2 x hx
    rw [hV9.block x hl, (ck_all HR.out.bel hs3).block x hl]
   ·rw [ko x (by omega), hgrow4.block x hlt (by intro e; injection e with e; omega)]
  have hov : W9.ownsRow (bb + 1) 33 3 (.slice (some ⟨g, 0, none⟩) (c.vars.length + p) cap) (c.vars.length + p) xv := own_keep HM.out.2.1 fun x hx => by
   have hx : g = x := Option.some.inj hx
   rw [ko x (by omega), hs4.block x (by omega)]
  have hor : W9.ownsRow W8.heap.size 64 1 (.slice (some ⟨g4, 0, none⟩) (n' + n3) cap4) (n' + n3) (xc ++ xd) := own_keep hown4 fun x hx => by
   have hx : g4 = x := Option.some.inj hx
   rw [ko x (by omega)]
  have hpd := HN.out.2
  have hrv := HM.out.2.2
  rw [hpd, List.take_length] at hrv
  refine bes_mem (chart_reg HV.out.1.c1).1 hov (by rw [List.length_append, List.length_map, hpd]) hrv hor (by rw [List.length_append, hnd.out, hnc.out]) ?_ (show g < _ by omega) (show g4 < _ by omega)
  exact Rows.append (Rows.map (fun r c ⟨u, hc, hu⟩ => ⟨u, hc, IsStates.carry kc 6 r u hu⟩) hrc) (Rows.map (fun r c ⟨u, hc, hu⟩ => ⟨u, hc, IsStates.carry kd 6 r u hu⟩) hrd)
 have hAp : Apart c d := fun s hs t ht => HR.out.ap s hs t (by rw [HN.out.2, List.take_length]; exact ht)
 have HC : Hid (Apart c d ∧ RunC (besC c d)) := ⟨hAp, HB.out hAp (by have := H20.out; have h1 := HN.out.1; have h2 := HN.out.2; omega)⟩
 obtain ⟨R9, hR9⟩ : ∃ R9, R9 = n' + n3 := ⟨_, rfl⟩
 obtain ⟨P9, hP9⟩ : ∃ P9, P9 = c.vars.length + p := ⟨_, rfl⟩
 have HW9 : Hid (TwoC A1 A2 W9 c d cb db S S' a a' b b' n m n' m' p q p' q' ∧ Below w.heap.size w W9 ∧ W9.heap[bb]? = some (.cells #[.string S, .slice (some ⟨g, 0, none⟩) P9 cap, .slice (some ⟨g4, 0, none⟩) R9 cap4] 28 (0, 0)) ∧ IsChart (fun x => x < W9.heap.size) W9 (besC c d) (.agg #[.string S, .slice (some ⟨g, 0, none⟩) P9 cap, .slice (some ⟨g4, 0, none⟩) R9 cap4])) := ⟨HV.out.1.low hV9, ck_all HV.out.2 hV9, by rw [hP9, hR9]; exact hk9, by rw [hP9, hR9]; exact hC3⟩
 clear hC3 hk9 ko hz9 hbV hV9 hgl hg4 hq23 hq34 hq8 hAp hP9 hR9 hk4 hs4 hown4 hgrow4 hat4 hown3 hg2 hsrc3 hnd hrow3 hrd h3 hcall hV2 hs3 hs2 hown2 hgrow2 hat2 hsrc hnc hrow hrc hVE hown hs1 hs0 hn6 hn3 HX HM HR HV H5 HB HT hW9 hE hiR hR0 hR1 hR2
 have x0 := cell_row HW9.out.1.b1 0 (u := .string S) rfl
 have x1 := cell_row HW9.out.1.b1 1 (u := .slice a n m) rfl
 have x2 := cell_row HW9.out.1.b1 2 (u := .slice a' n' m') rfl
 have hn1 := new_run HW9.out.1.c1 H.out.1.1 HW9.out.1.l1
 go_wp2_with fail
 refine hn1.mono ?_
 rintro e w10 ⟨rb1, rfl, h10⟩
 clear hn1 x0 x1 x2
 obtain ⟨⟨Q1, y1, hR1, hQ1⟩, hb10⟩ := h10.out
 have T10 := HW9.out.1.low hb10
 have hn2 := new_run T10.c2 H.out.1.2 T10.l2
 have x0 := cell_row T10.b2 0 (u := .string S') rfl
 have x1 := cell_row T10.b2 1 (u := .slice b p q) rfl
 have x2 := cell_row T10.b2 2 (u := .slice b' p' q') rfl
 have HR1 : Hid (RnM A1 w10 c (newC c) rb1 Q1 y1 ∧ (∀ b, Q1 b → W9.heap.size ≤ b) ∧ Below W9.heap.size W9 w10) := ⟨hR1, hQ1, hb10⟩
 clear h10 hR1 hQ1 hb10 T10
 go_wp2_with fail
 refine hn2.mono ?_
 rintro e w11 ⟨rb2, rfl, h11⟩
 clear hn2 x0 x1 x2
 obtain ⟨⟨Q2, y2, hR2, hQ2⟩, hb11⟩ := h11.out
 have hb9 := ck_all HR1.out.2.2 hb11
 have hn3 := new_run (chartUp HW9.out.2.2.2 hb9) HC.out.2 (fun b hb => Nat.lt_of_lt_of_le hb hb9.size)
 have hk := ck_block hb9 HW9.out.2.2.1
 have x0 := cell_row hk 0 (u := .string S) rfl
 have x1 := cell_row hk 1 (u := .slice (some ⟨g, 0, none⟩) P9 cap) rfl
 have x2 := cell_row hk 2 (u := .slice (some ⟨g4, 0, none⟩) R9 cap4) rfl
 have HR2 : Hid (RnM A1 w11 c (newC c) rb1 Q1 y1 ∧ RnM A2 w11 d (newC d) rb2 Q2 y2 ∧ (∀ b, Q1 b → W9.heap.size ≤ b) ∧ (∀ b, Q2 b → W9.heap.size ≤ b) ∧ (∀ b, Q1 b → ¬ Q2 b) ∧ Below W9.heap.size W9 w11) := ⟨HR1.out.1.below hb11, hR2, HR1.out.2.1, fun b hb => Nat.le_trans HR1.out.2.2.size (hQ2 b hb), fun b h1 h2 => by have := HR1.out.1.hQ b h1; have := hQ2 b h2; omega, hb9⟩
 clear h11 hR2 hQ2 hb11 HR1 hb9 hk
 go_wp2_with fail
 refine hn3.mono ?_
 rintro e w12 ⟨rb3, rfl, h12⟩
 clear hn3 x0 x1 x2
 obtain ⟨⟨Q3, y3, hR3, hQ3⟩, hb12⟩ := h12.out
 have hin := inputs_any (chartUp (HW9.out.1.low (ck_all HR2.out.2.2.2.2.2 hb12)).c1 (Below.refl _ _)) (by have := H.out.1.1.run.vl; omega)
 have T12 := HW9.out.1.low (ck_all HR2.out.2.2.2.2.2 hb12)
 have x0 := cell_row T12.b1 0 (u := .string S) rfl
 have x1 := cell_row T12.b1 1 (u := .slice a n m) rfl
 have x2 := cell_row T12.b1 2 (u := .slice a' n' m') rfl
 have HR3 : Hid (RnM A1 w12 c (newC c) rb1 Q1 y1 ∧ RnM A2 w12 d (newC d) rb2 Q2 y2 ∧ RnM (fun x => x < W9.heap.size) w12 (besC c d) (newC (besC c d)) rb3 Q3 y3 ∧ Below W9.heap.size W9 w12) := ⟨HR2.out.1.below hb12, HR2.out.2.1.below hb12, hR3, ck_all HR2.out.2.2.2.2.2 hb12⟩
 have HQ : Hid (((∀ b, Q1 b → W9.heap.size ≤ b) ∧ (∀ b, Q2 b → W9.heap.size ≤ b) ∧ ∀ b, Q3 b → W9.heap.size ≤ b) ∧ (∀ b, Q1 b → ¬ Q2 b) ∧ (∀ b, Q1 b → ¬ Q3 b) ∧ ∀ b, Q2 b → ¬ Q3 b) := ⟨⟨HR2.out.2.2.1, HR2.out.2.2.2.1, fun b hb => Nat.le_trans HR2.out.2.2.2.2.2.size (hQ3 b hb)⟩, HR2.out.2.2.2.2.1, fun b h1 h2 => by have := HR2.out.1.hQ b h1; have := hQ3 b h2; omega, fun b h1 h2 => by have := HR2.out.2.1.hQ b h1; have := hQ3 b h2; omega⟩
 clear h12 hR3 hQ3 hb12 HR2 T12
 go_wp2_with fail
 refine hin.mono ?_
 rintro e w13 ⟨rfl, h13⟩
 clear hin x0 x1 x2
 have H3 : Hid (RnM A1 w13 c (newC c) rb1 Q1 y1 ∧ RnM A2 w13 d (newC d) rb2 Q2 y2 ∧ RnM (fun x => x < W9.heap.size) w13 (besC c d) (newC (besC c d)) rb3 Q3 y3 ∧ Below W9.heap.size W9 w13) := ⟨HR3.out.1.below h13.out, HR3.out.2.1.below h13.out, HR3.out.2.2.1.below h13.out, ck_all HR3.out.2.2.2 h13.out⟩
 clear HR3 h13
 go_upto_region 31 with fail
 rename_i K1 a1 K0 a0
 revert a1 a0 hN6 hM6 H HN H20 HC HW9 HQ H3
 revert u8 u15 u16 u79 u80 u81 u82 u83 u84 u85 u86 u87 u88 u89 u90 u91 u92 u93 u94 u95 u96 u97 u98 u99 u100 u101 u102 u103 u104 u105 u106 u107 u108 u109 u110 u111 u112 u113 u114 u115 u116 u117 u118 u119 u120
 revert w13 w12 w11 w10 rb1 rb2 rb3 Q1 Q2 Q3 y1 y2 y3 W9 R9 P9 q4 g4 cap4 xd a3 n3 m3 q2 q3 g2 cap2 xc E xv g cap iR
 revert W8 p bb W5 W7 w6 g1 cap1 xs E5 vg cg iD xx x1 x2 V W3 w3 cb db A1 A2 S a n m a' n' m' S' b q b' p' q'
 revert iad ib io ic jad jb jo jc N M zss yss c d
 revert w s t
 revert K0 K1
 exact owed.down)
end Kx
end Go.Proofs.YtpogmfliojcnjaaGreatDoor
