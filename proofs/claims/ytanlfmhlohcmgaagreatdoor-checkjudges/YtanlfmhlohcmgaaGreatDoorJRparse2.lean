/- The document's own Parse: the walk. -/
import Derived.Test.YtanlfmhlohcmgaaGreatDoorJRparse1
import Derived.Deep.DeepCutAuto
import Derived.Deep.CutBlock
namespace Go.Proofs.YtanlfmhlohcmgaaGreatDoor
open Go.RowKit Px

def RPost (w : World) (R : (Str × List Decl × List (List (St 6))) × S) (e : Ending) (w' : World) : Prop :=
  ∃ v, e = .returned (.tuple #[v, .agg #[errV R.2.bad, plV R.2.bad]]) ∧ (R.2.bad = none → IsChart (Ge w.heap.size) w' ⟨R.1.1, R.1.2.1, R.1.2.2⟩ v) ∧ (R.2.bad ≠ none → v = .agg ZC) ∧ Below w.heap.size w w'

theorem keep_set {w3 W : World} {cb B c e : Nat} (hc : c < cb) (he : e < cb) (hB : B ≤ cb) (z2 : ∀ k, k ≠ c → k ≠ e → W.heap[k]? = w3.heap[k]?) : Keep (Ge (cb + 1)) (Ge B) w3 W.drew := fun b hb _ => by
  unfold Ge at *
  exact ⟨by omega, z2 b (by omega) (by omega)⟩

set_option maxRecDepth 100000 in
set_option maxHeartbeats 8000000 in
theorem rparse_any (s : ByteArray) (l : List Lx.Tok) (w : World) (hs : s.size ≤ 1000000) (hf : Fine w) (hok : Lx.Ok (bs s) l) :
    Calls Tryz.prog 21 #[.string s] w (RPost w (chartR (fin s l))) := by
  have HN : Hid (Lx.Ok (bs s) l) := hok
  clear hok
  obtain ⟨RES, hRES⟩ : ∃ RES, Hid (RES = chartR (fin s l)) := ⟨_, rfl⟩
  rw [← hRES.out]
  obtain ⟨W0, hW, hb0, hz0, c0, e0⟩ := rparse_open w
  have hf0 : Fine W0 := hf.below hb0
  go_enter Tryz.func21, Tryz.ntmps21
  go_upto_region 1 with fail
  rw [show (w.alloc (.cells #[.string ⟨#[]⟩, .slice none 0 0, .slice none 0 0] 25)).alloc (.cells #[.int .i64 0, .int .i64 0] 28) = W0 from hW.symm]
  clear hW
  go_upto_region 5 with (go_at_call 34; refine (tokens_cap s l _ rfl _ hs hf0 HN.out).mono ?_; rintro e w1 ⟨g, cap, rfl, hb1, hg0, hg1, hcap, hg⟩; have c1 := (hb1.block _ (by omega)).trans c0; have e1 := (hb1.block _ (by omega)).trans e0; have hf1 : Fine w1 := hf0.below hb1; obtain ⟨g0, g1⟩ := hf1; have hl0 : 0 < w1.heap.size := lt_of_cell g0)
  obtain ⟨W2, hW2, hR2, hF2, c2, e2, hz2, hz1⟩ := rparse_rs HN.out hb0 hz0 hb1 hg1 hcap hg c1 e1
  obtain ⟨C, hC⟩ : ∃ C : Ctx, C = ⟨w1.heap.size + 1, g, cap, fin s l⟩ := ⟨_, rfl⟩
  rw [← hC] at hR2
  have hrb : w1.heap.size + 1 = C.rb := by rw [hC]
  have HL : Hid (C.L = fin s l) := by rw [hC]; exact rfl
  rw [show (w1.alloc (.cells #[.int .i64 0, .int .i64 (-1)] 28)).alloc (.cells #[.slice (some ⟨g, 0, none⟩) (l.length + 1) cap, .int .i64 0, .int .i64 (-1), .int .i64 0] 98) = W2 from hW2.symm]
  clear hW2 hC
  rw [hrb]
  obtain ⟨nm, hnm⟩ : ∃ x, Hid (x = (nameR C.L (must C.L ⟨0, 0, none⟩ kChart)).1) := ⟨_, rfl⟩
  obtain ⟨σ4, hσ4⟩ : ∃ x, Hid (x = (nameR C.L (must C.L ⟨0, 0, none⟩ kChart)).2) := ⟨_, rfl⟩
  have cN : ∀ w3, RS C w3 (must C.L ⟨0, 0, none⟩ kChart) → Calls Tryz.prog 36 #[.pointer (some ⟨C.rb, 0, none⟩)] w3 (ROut C (fun s v _ => v = sv s) w3 (nm, σ4)) := fun w3 h3 => by rw [hnm.out, hσ4.out]; exact r_name h3
  have HR : Hid (RES = ((nm, (itemsR C.L C.L.length [] [] (must C.L σ4 kOpen)).1.1, (itemsR C.L C.L.length [] [] (must C.L σ4 kOpen)).1.2), endR C.L (itemsR C.L C.L.length [] [] (must C.L σ4 kOpen)).2)) := by
    rw [Hid, hRES.out, ← HL.out, chartR, openR, hnm.out, hσ4.out]
  have T1 : Hid True := trivial
  have T2 : Hid True := trivial
  go_wp2_with (first
    | (go_at_call 35; clear T1; refine (r_must hR2 ⟨#[99, 104, 97, 114, 116]⟩ (by decide)).mono ?_; rintro e w3 ⟨rfl, h3, hf3⟩; have hz3 := hf3.size)
    | (go_at_call 36; refine (cN _ h3).mono ?_; rintro e w4 ⟨v4, rfl, hv4, h4, hf4⟩; replace hv4 : v4 = sv nm := hv4; subst hv4; rw [sv]; have hz4 := hf4.size; have hF4 := hf3.up hf4; have hU4 : RU C w w4.heap.size _ σ4 nm [] [] := ru_new (s := nm) h4 (hF2.trans (hF4.mono (by omega) (by simp; omega))) (by rw [hF4.block _ (by omega) (by simp; omega)]; exact c2) (by rw [hF4.block _ (by omega) (by simp; omega)]; exact e2) (by omega))
    | (go_at_call 35; clear T2; refine (r_must hU4.at_ ⟨#[123]⟩ (by decide)).mono ?_; rintro e w5 ⟨rfl, h5, hf5⟩; have hU5 := hU4.call hf5 h5))
  generalize w4.heap.size = cb at hU4 hU5 ⊢
  go_loopg [] C.L.length (fun g wr => Hid (∃ (vs : List Decl) (rs : List (List (St 6))) (σq : S), RES = ((nm, (itemsR C.L g vs rs σq).1.1, (itemsR C.L g vs rs σq).1.2), endR C.L (itemsR C.L g vs rs σq).2) ∧ (σq.bad = none → C.L.length ≤ g + σq.i ∧ rs.length ≤ σq.i ∧ vs.length ≤ 20) ∧ RU C w cb wr σq nm vs rs))
  case atStart => exact ⟨[], [], _, HR.out, fun _ => ⟨by omega, by simp, by simp⟩, hU5⟩
  case round =>
    obtain ⟨vs, rs, ⟨iq, sq, bq⟩, hr1, hal, hU⟩ := hrel.out
    clear hrel
    have HR1 : Hid _ := hr1
    clear hr1
    have T3 : Hid True := trivial
    have T4 : Hid True := trivial
    clear hU5 hU4 h5 hf5 h4 hf4 h3 hf3
    cases bq with
    | some f =>
      have HE : Hid (RES = ((nm, vs, rs), ⟨iq, sq, some f⟩)) := by rw [Hid, HR1.out, itemsR_dead _ _ _ rfl]; exact (congrArg _ (endR_dead _ _ _))
      obtain ⟨r1, r2, r3, r4, r5, r6, r7⟩ := hU.at_.reads
      by_cases hk : kd C.L iq = 4
      · have hk4 : (((kd C.L iq : Nat) : Int) != 4) = false := by simp; omega
        clear hk
        go_upto_region 33 with (go_at_call 37; refine (r_ok hU.at_).mono ?_; rintro e' w' ⟨rfl, hw⟩; obtain rfl := hw.symm)
        have K := RU.ends hU
        obtain ⟨q1, q2, f0, f1, f2, fz, y0, y1, fy, n1, n2, n3⟩ := K
        obtain ⟨z0, z1, z2, z3⟩ := rlaid_set (a := .string ⟨#[]⟩) (b := .slice none 0 0) (d := .slice none 0 0) (x := .int .i64 (f.1 : Nat)) (y := .int .i64 (f.2 : Nat)) hU.c0 hU.e0 (by omega)
        have hB := hU.fr.below
        go_region
        go_wp2
        refine bodyPost_ret (resultsR _ _ _ _ _ _ rfl rfl rfl rfl z0 z1) rfl ?_
        rw [HE.out]
        exact ⟨_, rfl, fun h => absurd h (by simp), fun _ => rfl, (z3 _ _ hB (Nat.le_refl _) (by omega)).drew⟩
      · have hk4 : (((kd C.L iq : Nat) : Int) != 4) = true := by simp; omega
        clear hk
        go_upto_region 33 with (first
          | (go_at_call 37; clear T3; refine (r_ok hU.at_).mono ?_; rintro e' w' ⟨rfl, hw⟩; obtain rfl := hw.symm)
          | (go_at_call 39; refine (r_fails hU.at_ 3 (by decide)).mono ?_; rintro e w3 ⟨rfl, h3, hf3⟩; have hU3 : RU C w cb w3 ⟨iq, sq, some f⟩ nm vs rs := hU.call hf3 h3)
          | (go_at_call 37; clear T4; refine (r_ok hU3.at_).mono ?_; rintro e' w' ⟨rfl, hw⟩; obtain rfl := hw.symm))
        have K := RU.ends hU3
        obtain ⟨q1, q2, f0, f1, f2, fz, y0, y1, fy, n1, n2, n3⟩ := K
        obtain ⟨z0, z1, z2, z3⟩ := rlaid_set (a := .string ⟨#[]⟩) (b := .slice none 0 0) (d := .slice none 0 0) (x := .int .i64 (f.1 : Nat)) (y := .int .i64 (f.2 : Nat)) hU3.c0 hU3.e0 (by omega)
        have hB := hU3.fr.below
        go_region
        go_wp2
        refine bodyPost_ret (resultsR _ _ _ _ _ _ rfl rfl rfl rfl z0 z1) rfl ?_
        rw [HE.out]
        exact ⟨_, rfl, fun h => absurd h (by simp), fun _ => rfl, (z3 _ _ hB (Nat.le_refl _) (by omega)).drew⟩
    | none =>
      obtain ⟨hfu, hrq, hvq⟩ := hal rfl
      simp only at hfu hrq
      clear hal
      have hlt1 : iq < C.L.length := hU.at_.lt
      obtain ⟨g', hgg⟩ : ∃ g', gk = g' + 1 := ⟨gk - 1, by omega⟩
      subst hgg
      by_cases hsh : tx C.L iq = bs ⟨#[125]⟩
      · have HSH : Hid (tx C.L iq = bs ⟨#[125]⟩) := hsh
        have HE : Hid (RES = ((nm, vs, rs), endR C.L ⟨iq + 1, sq, none⟩)) := by
          rw [Hid, HR1.out]
          simp only [itemsR, Option.isNone_none, ↓reduceIte]
          rw [if_pos (show tx C.L iq = kShut from hsh)]
        clear hsh
        by_cases hk : kd C.L (iq + 1) = 4
        · have hk4 : (((kd C.L (iq + 1) : Nat) : Int) != 4) = false := by simp; omega
          have HE2 : Hid (RES = ((nm, vs, rs), ⟨iq + 1, sq, none⟩)) := by rw [Hid, HE.out, endR, if_neg (by simpa using hk)]
          clear hk
          go_upto_region 34 with (first
            | (go_at_call 37; clear T3; refine (r_ok hU.at_).mono ?_; rintro e' w' ⟨rfl, hw⟩; obtain rfl := hw.symm)
            | (go_at_call 38; refine (takeY hU.at_ ⟨#[125]⟩ (by decide) HSH).mono ?_; rintro e w3 ⟨rfl, h3, hf3⟩; have hU3 := hU.call hf3 h3; obtain ⟨r1, r2, r3, r4, r5, r6, r7⟩ := h3.reads)
            | (go_at_call 37; clear T4; refine (r_ok hU3.at_).mono ?_; rintro e' w' ⟨rfl, hw⟩; obtain rfl := hw.symm))
          obtain ⟨f0, f1, f2, fz, y0, y1, fy, n1, n2, n3⟩ := RU.laid hU3
          obtain ⟨g3, g4⟩ := hf.below hU3.fr.below
          have hl3 : 0 < w.heap.size := lt_of_cell hf.1
          have nn1 : ¬ 0 = w.heap.size := by omega
          have nn2 : ¬ 0 = w.heap.size + 1 := by omega
          have hlc := hU3.lc
          have hlo := hU3.lo
          have m1 : ¬ cb = w.heap.size := by omega
          have m2 : ¬ cb = w.heap.size + 1 := by omega
          obtain ⟨v, r, xv, xr, hV⟩ := hU3.cu
          have o1 : w3.ownsRow (cb + 1) 60 3 v vs.length xv := hV.good.own (sDecl vs v xv) (by simp)
          have o2 : w3.ownsRow (cb + 1) 39 1 r rs.length xr := hV.good.own (sReg 6 rs r xr) (by simp)
          obtain ⟨a1, m3, rfl⟩ := owns_shape o1
          obtain ⟨a2, m4, rfl⟩ := owns_shape o2
          obtain ⟨d1, d2⟩ := hV.done
          obtain ⟨b0, -⟩ := cel hV.at_ 0 (.string ⟨nm.toArray⟩) rfl
          obtain ⟨b1, -⟩ := cel hV.at_ 1 _ rfl
          obtain ⟨b2, -⟩ := cel hV.at_ 2 _ rfl
          obtain ⟨z0, z1, z2, z3⟩ := rlaid_set (a := .string ⟨nm.toArray⟩) (b := .slice a1 vs.length m3) (d := .slice a2 rs.length m4) (x := .int .i64 0) (y := .int .i64 (-1)) hU3.c0 hU3.e0 (by omega)
          have hB := hU3.fr.below
          go_region
          go_wp2
          refine bodyPost_ret (resultsR _ _ _ _ _ _ rfl rfl rfl rfl z0 z1) rfl ?_
          rw [HE2.out]
          have kp := keep_set (B := w.heap.size) (cb := cb) (by omega) (by omega) (by omega) z2
          exact ⟨_, rfl, fun _ => ⟨a1, _, m3, a2, _, m4, rfl, d1.carry kp, d2.carry kp (IsStates.carry kp 6)⟩, fun h => absurd rfl h, (z3 _ _ hB (Nat.le_refl _) (by omega)).drew⟩
        · have hk4 : (((kd C.L (iq + 1) : Nat) : Int) != 4) = true := by simp; omega
          have HE2 : Hid (RES = ((nm, vs, rs), ⟨iq + 1, sq, some (3, pl C.L (iq + 1))⟩)) := by rw [Hid, HE.out, endR, if_pos (by simpa using hk)]; rfl
          clear hk
          go_upto_region 33 with (first
            | (go_at_call 37; clear T3; refine (r_ok hU.at_).mono ?_; rintro e' w' ⟨rfl, hw⟩; obtain rfl := hw.symm)
            | (go_at_call 38; refine (takeY hU.at_ ⟨#[125]⟩ (by decide) HSH).mono ?_; rintro e w3 ⟨rfl, h3, hf3⟩; have hU3 := hU.call hf3 h3; obtain ⟨r1, r2, r3, r4, r5, r6, r7⟩ := h3.reads)
            | (go_at_call 39; refine (r_fails hU3.at_ 3 (by decide)).mono ?_; rintro e w5 ⟨rfl, h5, hf5⟩; have hU5 : RU C w cb w5 ⟨iq + 1, sq, some (3, pl C.L (iq + 1))⟩ nm vs rs := hU3.call hf5 h5)
            | (go_at_call 37; clear T4; refine (r_ok hU5.at_).mono ?_; rintro e' w' ⟨rfl, hw⟩; obtain rfl := hw.symm))
          have K := RU.ends hU5
          obtain ⟨q1, q2, f0, f1, f2, fz, y0, y1, fy, n1, n2, n3⟩ := K
          obtain ⟨z0, z1, z2, z3⟩ := rlaid_set (a := .string ⟨#[]⟩) (b := .slice none 0 0) (d := .slice none 0 0) (x := .int .i64 (3 : Nat)) (y := .int .i64 (pl C.L (iq + 1) : Nat)) hU5.c0 hU5.e0 (by omega)
          have hB := hU5.fr.below
          go_region
          go_wp2
          refine bodyPost_ret (resultsR _ _ _ _ _ _ rfl rfl rfl rfl z0 z1) rfl ?_
          rw [HE2.out]
          exact ⟨_, rfl, fun h => absurd h (by simp), fun _ => rfl, (z3 _ _ hB (Nat.le_refl _) (by omega)).drew⟩
      · have HSH : Hid (tx C.L iq ≠ bs ⟨#[125]⟩) := hsh
        clear hsh
        go_upto_block 2 with (first
          | (go_at_call 37; clear T3; refine (r_ok hU.at_).mono ?_; rintro e' w' ⟨rfl, hw⟩; obtain rfl := hw.symm)
          | (go_at_call 38; refine (takeN hU.at_ ⟨#[125]⟩ (by decide) HSH).mono ?_; rintro e w3 ⟨rfl, h3, hf3⟩; have hU3 := hU.call hf3 h3))
        go_cut [8] (fun v8 wc => Hid (∃ kind : Nat, v8 = .int .i64 kind ∧ kindOf (tx C.L iq) = kind ∧ RU C w cb wc ⟨if kind = 0 then iq else iq + 1, sq, none⟩ nm vs rs))
        case first =>
          have hU4 := hU3.new (.cells #[.string ⟨#[105, 110, 112, 117, 116]⟩, .string ⟨#[111, 117, 116, 112, 117, 116]⟩, .string ⟨#[118, 97, 114]⟩] 9)
          have hrb3 := hU3.at_.lts.1
          have HX : Hid (∀ (W W' : World), (W.cell? ⟨w3.heap.size, 0, none⟩ = some (.string ⟨#[105, 110, 112, 117, 116]⟩) ∧ W.cell? ⟨w3.heap.size, 1, none⟩ = some (.string ⟨#[111, 117, 116, 112, 117, 116]⟩) ∧ W.cell? ⟨w3.heap.size, 2, none⟩ = some (.string ⟨#[118, 97, 114]⟩) ∧ w3.heap.size < W.heap.size) → Fr W.heap.size [C.rb] W W' → (W'.cell? ⟨w3.heap.size, 0, none⟩ = some (.string ⟨#[105, 110, 112, 117, 116]⟩) ∧ W'.cell? ⟨w3.heap.size, 1, none⟩ = some (.string ⟨#[111, 117, 116, 112, 117, 116]⟩) ∧ W'.cell? ⟨w3.heap.size, 2, none⟩ = some (.string ⟨#[118, 97, 114]⟩) ∧ w3.heap.size < W'.heap.size)) := fun W W' ⟨a, b, c, d⟩ hf => ⟨by rw [hf.cell (p := ⟨w3.heap.size, 0, none⟩) d (by simp; omega)]; exact a, by rw [hf.cell (p := ⟨w3.heap.size, 1, none⟩) d (by simp; omega)]; exact b, by rw [hf.cell (p := ⟨w3.heap.size, 2, none⟩) d (by simp; omega)]; exact c, Nat.lt_of_lt_of_le d hf.size⟩
          have X4 : Hid ((w3.alloc (.cells #[.string ⟨#[105, 110, 112, 117, 116]⟩, .string ⟨#[111, 117, 116, 112, 117, 116]⟩, .string ⟨#[118, 97, 114]⟩] 9)).cell? ⟨w3.heap.size, 0, none⟩ = some (.string ⟨#[105, 110, 112, 117, 116]⟩) ∧ (w3.alloc (.cells #[.string ⟨#[105, 110, 112, 117, 116]⟩, .string ⟨#[111, 117, 116, 112, 117, 116]⟩, .string ⟨#[118, 97, 114]⟩] 9)).cell? ⟨w3.heap.size, 1, none⟩ = some (.string ⟨#[111, 117, 116, 112, 117, 116]⟩) ∧ (w3.alloc (.cells #[.string ⟨#[105, 110, 112, 117, 116]⟩, .string ⟨#[111, 117, 116, 112, 117, 116]⟩, .string ⟨#[118, 97, 114]⟩] 9)).cell? ⟨w3.heap.size, 2, none⟩ = some (.string ⟨#[118, 97, 114]⟩) ∧ w3.heap.size < (w3.alloc (.cells #[.string ⟨#[105, 110, 112, 117, 116]⟩, .string ⟨#[111, 117, 116, 112, 117, 116]⟩, .string ⟨#[118, 97, 114]⟩] 9)).heap.size) := ⟨by simp, by simp, by simp, by simp⟩
          generalize w3.alloc (.cells #[.string ⟨#[105, 110, 112, 117, 116]⟩, .string ⟨#[111, 117, 116, 112, 117, 116]⟩, .string ⟨#[118, 97, 114]⟩] 9) = w4 at hU4 X4 ⊢
          have hkq : ∀ t, kindOf t = if t = bs ⟨#[105, 110, 112, 117, 116]⟩ then 1 else if t = bs ⟨#[111, 117, 116, 112, 117, 116]⟩ then 2 else if t = bs ⟨#[118, 97, 114]⟩ then 3 else 0 := fun _ => rfl
          obtain ⟨x0, x1, x2, x3⟩ := X4.out
          by_cases H0 : Hid (tx C.L iq = bs ⟨#[105, 110, 112, 117, 116]⟩)
          · go_wp2_with fail
            refine wp_loop_rounds 4 ?_
            rw [rounds_succ]
            go_wp2_with (go_at_call 38; refine (takeY hU4.at_ ⟨#[105, 110, 112, 117, 116]⟩ (by decide) H0).mono ?_; rintro e w5 ⟨rfl, h5, hf5⟩; have hU5 := hU4.call hf5 h5; have X5 : Hid _ := HX.out _ _ X4.out hf5; obtain ⟨x0, x1, x2, x3⟩ := X5.out)
            rw [rounds_succ]
            go_wp2_with fail
            rw [rounds_succ]
            go_wp2_with fail
            rw [rounds_succ]
            go_wp2_with fail
            go_meet
            exact ⟨1, rfl, by rw [hkq, if_pos H0.out], hU5⟩
          · replace H0 : Hid (tx C.L iq ≠ bs ⟨#[105, 110, 112, 117, 116]⟩) := H0
            by_cases H1 : Hid (tx C.L iq = bs ⟨#[111, 117, 116, 112, 117, 116]⟩)
            · go_wp2_with fail
              refine wp_loop_rounds 4 ?_
              rw [rounds_succ]
              go_wp2_with (go_at_call 38; refine (takeN hU4.at_ ⟨#[105, 110, 112, 117, 116]⟩ (by decide) H0).mono ?_; rintro e w5 ⟨rfl, h5, hf5⟩; have hU5 := hU4.call hf5 h5; have X5 : Hid _ := HX.out _ _ X4.out hf5; obtain ⟨x0, x1, x2, x3⟩ := X5.out)
              rw [rounds_succ]
              go_wp2_with (go_at_call 38; refine (takeY hU5.at_ ⟨#[111, 117, 116, 112, 117, 116]⟩ (by decide) H1).mono ?_; rintro e w6 ⟨rfl, h6, hf6⟩; have hU6 := hU5.call hf6 h6; have X6 : Hid _ := HX.out _ _ X5.out hf6; obtain ⟨x0, x1, x2, x3⟩ := X6.out)
              rw [rounds_succ]
              go_wp2_with fail
              rw [rounds_succ]
              go_wp2_with fail
              go_meet
              exact ⟨2, rfl, by rw [hkq, if_neg H0.out, if_pos H1.out], hU6⟩
            · replace H1 : Hid (tx C.L iq ≠ bs ⟨#[111, 117, 116, 112, 117, 116]⟩) := H1
              by_cases H2 : Hid (tx C.L iq = bs ⟨#[118, 97, 114]⟩)
              · go_wp2_with fail
                refine wp_loop_rounds 4 ?_
                rw [rounds_succ]
                go_wp2_with (go_at_call 38; refine (takeN hU4.at_ ⟨#[105, 110, 112, 117, 116]⟩ (by decide) H0).mono ?_; rintro e w5 ⟨rfl, h5, hf5⟩; have hU5 := hU4.call hf5 h5; have X5 : Hid _ := HX.out _ _ X4.out hf5; obtain ⟨x0, x1, x2, x3⟩ := X5.out)
                rw [rounds_succ]
                go_wp2_with (go_at_call 38; refine (takeN hU5.at_ ⟨#[111, 117, 116, 112, 117, 116]⟩ (by decide) H1).mono ?_; rintro e w6 ⟨rfl, h6, hf6⟩; have hU6 := hU5.call hf6 h6; have X6 : Hid _ := HX.out _ _ X5.out hf6; obtain ⟨x0, x1, x2, x3⟩ := X6.out)
                rw [rounds_succ]
                go_wp2_with (go_at_call 38; refine (takeY hU6.at_ ⟨#[118, 97, 114]⟩ (by decide) H2).mono ?_; rintro e w7 ⟨rfl, h7, hf7⟩; have hU7 := hU6.call hf7 h7; have X7 : Hid _ := HX.out _ _ X6.out hf7; obtain ⟨x0, x1, x2, x3⟩ := X7.out)
                rw [rounds_succ]
                go_wp2_with fail
                go_meet
                exact ⟨3, rfl, by rw [hkq, if_neg H0.out, if_neg H1.out, if_pos H2.out], hU7⟩
              · replace H2 : Hid (tx C.L iq ≠ bs ⟨#[118, 97, 114]⟩) := H2
                go_wp2_with fail
                refine wp_loop_rounds 4 ?_
                rw [rounds_succ]
                go_wp2_with (go_at_call 38; refine (takeN hU4.at_ ⟨#[105, 110, 112, 117, 116]⟩ (by decide) H0).mono ?_; rintro e w5 ⟨rfl, h5, hf5⟩; have hU5 := hU4.call hf5 h5; have X5 : Hid _ := HX.out _ _ X4.out hf5; obtain ⟨x0, x1, x2, x3⟩ := X5.out)
                rw [rounds_succ]
                go_wp2_with (go_at_call 38; refine (takeN hU5.at_ ⟨#[111, 117, 116, 112, 117, 116]⟩ (by decide) H1).mono ?_; rintro e w6 ⟨rfl, h6, hf6⟩; have hU6 := hU5.call hf6 h6; have X6 : Hid _ := HX.out _ _ X5.out hf6; obtain ⟨x0, x1, x2, x3⟩ := X6.out)
                rw [rounds_succ]
                go_wp2_with (go_at_call 38; refine (takeN hU6.at_ ⟨#[118, 97, 114]⟩ (by decide) H2).mono ?_; rintro e w7 ⟨rfl, h7, hf7⟩; have hU7 := hU6.call hf7 h7; have X7 : Hid _ := HX.out _ _ X6.out hf7; obtain ⟨x0, x1, x2, x3⟩ := X7.out)
                rw [rounds_succ]
                go_wp2_with fail
                go_meet
                exact ⟨0, rfl, by rw [hkq, if_neg H0.out, if_neg H1.out, if_neg H2.out], hU7⟩
        case rest =>
          obtain ⟨kind, rfl, hkind, hUc⟩ := hcut.out
          clear hcut
          have HK : Hid (kindOf (tx C.L iq) = kind) := hkind
          clear hkind
          have hlc := hUc.lc
          have h601 := hUc.at_.wf.len
          by_cases hk0 : kind = 0
          · subst hk0
            replace hUc : RU C w cb wc ⟨iq, sq, none⟩ nm vs rs := hUc
            by_cases hn : tx C.L iq = bs ⟨#[114, 101, 103, 105, 111, 110]⟩
            · have HY : Hid (tx C.L iq = bs ⟨#[114, 101, 103, 105, 111, 110]⟩) := hn
              obtain ⟨a4, ha4⟩ : ∃ x, Hid (x = (regionR C.L 6 ⟨iq + 1, sq, none⟩).1) := ⟨_, rfl⟩
              obtain ⟨σ5, hσ5⟩ : ∃ x, Hid (x = (regionR C.L 6 ⟨iq + 1, sq, none⟩).2) := ⟨_, rfl⟩
              have HI : Hid (RES = ((nm, (itemsR C.L g' vs (rs ++ [a4]) σ5).1.1, (itemsR C.L g' vs (rs ++ [a4]) σ5).1.2), endR C.L (itemsR C.L g' vs (rs ++ [a4]) σ5).2)) := by
                rw [Hid, HR1.out, ha4.out, hσ5.out]
                simp only [itemsR, Option.isNone_none, ↓reduceIte]
                rw [if_neg (show ¬ tx C.L iq = kShut from HSH.out), if_neg (show ¬ kindOf (tx C.L iq) ≠ 0 from fun h => h HK.out), if_pos (show tx C.L iq = kRegion from hn)]
              have HLT : Hid (σ5.bad = none → iq + 1 < σ5.i) := fun hb => by rw [hσ5.out] at hb ⊢; exact regionR_lt hb
              have cR : ∀ W, RS C W ⟨iq + 1, sq, none⟩ → Calls Tryz.prog 41 #[.pointer (some ⟨C.rb, 0, none⟩), .int .i64 1] W (ROut C (fun l v w' => IsStates (Ge W.heap.size) w' 6 l v) W (a4, σ5)) := fun W h => by rw [ha4.out, hσ5.out]; exact r_region 6 W ⟨iq + 1, sq, none⟩ 1 rfl h
              clear hn
              obtain ⟨i0, hi, hz0', hz1', hz2'⟩ := info_parts Tryz.info39
              go_upto_region 29 with (go_at_call 38; refine (takeY hUc.at_ ⟨#[114, 101, 103, 105, 111, 110]⟩ (by decide) HY).mono ?_; rintro e w2 ⟨rfl, h2, hf2⟩; have hU2 := hUc.call hf2 h2; obtain ⟨v, r, xv, xr, hV⟩ := hU2.cu)
              have hor : w2.ownsRow (cb + 1) 39 1 r rs.length xr := hV.good.own (sReg 6 rs r xr) (by simp)
              obtain ⟨ao, cap2, rfl⟩ := owns_shape hor
              obtain ⟨y2, -⟩ := cel hV.at_ 2 (Value.slice ao rs.length cap2) rfl
              have hcb2 := lt_of_block hV.at_
              have hdr : Fr w2.heap.size [] w2 w2.drew := (Fr.refl _ _ _).drew
              have hp3' := h2.same hdr
              go_region_law
                (first
                  | (refine step_append_lies _ (by rfl) _ _ _ (by rfl) (cb + 1) 39 i0 _ 1 24 Tryz.underlying23 hi hz0' hz1' hz2' rfl (by omega) (Value.slice ao rs.length cap2) rs.length xr (by rfl) (hA4.good.own (sReg 6 rs _ xr) (by simp))
                        ⟨w4'.heap.size, 0, none⟩ 1 1 [.slice ao4 n4 cap4] (by rfl) (by rfl) (cell_one_new w4' _ 39) (by intro u hu; simp at hu; subst hu; rfl)
                        (by omega) (by unfold maxLen; omega) (by omega) (by simp; omega) (w4'.heap.size + 1) (by simp) ?_
                     intro gg cap' w5' hown5 hgrow hat hlt5
                     have hgo : ∀ g, (Value.slice ao rs.length cap2).ownBlock = some g → cb + 1 ≤ g := fun g hg => ((hA4.good.own (sReg 6 rs _ xr) (by simp)).lt g hg).1
                     have hU5 := CU.grow_regions (a := a4) (u := .slice ao4 n4 cap4) hA4 (by omega) (show cb + 1 ≤ w2.heap.size by omega) hV.lts (IsStates.carry (keepX (X := []) (by simp) hal4) 6 _ _ hv4) (by rw [List.length_append]; exact hown5) hgrow (by rcases hat with e1 | e1; exact .inl e1.symm; exact .inr (by rw [e1]; simp [Value.ownBlock]))
                     have hF5 : Fr cb [] w4' w5' := ((Fr.refl cb [] w4').alloc (by omega) _).grown hgrow (by simp; omega) (fun g hg => .inl (by have := hgo g hg; omega))
                     have hb5 : w5'.heap[cb]? = some (.cells #[sv nm, v, Value.slice ao rs.length cap2] 25 (0, 0)) := by
                       rw [hgrow.block cb (by simp; omega) (fun e1 => by have := hgo _ e1.symm; omega)]; exact hA4.at_
                     obtain ⟨y5, zy5⟩ := cel hb5 2 (Value.slice ao rs.length cap2) rfl)
                  | (go_simp
                     go_at_call 41
                     refine (cR _ hp3').mono ?_
                     rintro e1 w4' ⟨v4, rfl, hv4, h4', hf4'⟩
                     replace hv4 : IsStates (Ge w2.drew.heap.size) w4' 6 a4 v4 := hv4
                     replace h4' : RS C w4' σ5 := h4'
                     obtain ⟨ao4, n4, cap4, rfl⟩ := IsStates.shape hv4
                     have hV4 := hV.carry (X := [C.rb]) (by simp; omega) (by simp; omega) (hdr.wide.up hf4')
                     have hUr4 := hU2.call (hdr.wide.up hf4') h4'
                     obtain ⟨y4, zy4⟩ := cel hV4.at_ 2 (Value.slice ao rs.length cap2) rfl
                     have hl4 := lt_of_block hV4.at_
                     have hal4 : Fr w4'.heap.size [] w4' (w4'.alloc (.cells #[.slice ao4 n4 cap4] 39)) := (Fr.refl _ _ _).alloc (Nat.le_refl _) _
                     have hA4 := hV4.carry (X := []) (by simp) (by simp) hal4))
              all_goals
                go_wp2_with fail
                go_roundg g'
                case measure => omega
                case rel => exact ⟨vs, rs ++ [a4], σ5, HI.out, fun hb => by have := HLT.out hb; exact ⟨by omega, by simp; omega, hvq⟩, hUr4.grown (hF5.setCell (p := ⟨cb, 2, none⟩) (.inl (Nat.le_refl _)) _) ⟨_, _, _, _, hU5⟩⟩
            · have HY : Hid (tx C.L iq ≠ bs ⟨#[114, 101, 103, 105, 111, 110]⟩) := hn
              have HI : Hid (RES = ((nm, (itemsR C.L g' vs rs ⟨iq, sq, some (3, pl C.L iq)⟩).1.1, (itemsR C.L g' vs rs ⟨iq, sq, some (3, pl C.L iq)⟩).1.2), endR C.L (itemsR C.L g' vs rs ⟨iq, sq, some (3, pl C.L iq)⟩).2)) := by
                rw [Hid, HR1.out]
                simp only [itemsR, Option.isNone_none, ↓reduceIte]
                rw [if_neg (show ¬ tx C.L iq = kShut from HSH.out), if_neg (show ¬ kindOf (tx C.L iq) ≠ 0 from fun h => h HK.out), if_neg (show ¬ tx C.L iq = kRegion from hn), fails_ok]
              clear hn
              go_wp2_with (first
                | (go_at_call 38; refine (takeN hUc.at_ ⟨#[114, 101, 103, 105, 111, 110]⟩ (by decide) HY).mono ?_; rintro e w2 ⟨rfl, h2, hf2⟩; have hU2 := hUc.call hf2 h2)
                | (go_at_call 39; refine (r_fails hU2.at_ 3 (by decide)).mono ?_; rintro e w5 ⟨rfl, h5, hf5⟩; have hU5 : RU C w cb w5 ⟨iq, sq, some (3, pl C.L iq)⟩ nm vs rs := hU2.call hf5 h5))
              go_roundg g'
              case measure => omega
              case rel => exact ⟨vs, rs, ⟨iq, sq, some (3, pl C.L iq)⟩, HI.out, fun hb => absurd hb (by simp), hU5⟩
          · replace hUc : RU C w cb wc ⟨iq + 1, sq, none⟩ nm vs rs := by rw [if_neg hk0] at hUc; exact hUc
            have hkp : (0 : Int) < (kind : Int) := by omega
            have hkp2 : 0 < kind := by omega
            obtain ⟨σ1, hσ1⟩ : ∃ x, Hid (x = if vs.length = 20 then fails C.L ⟨iq + 1, sq, none⟩ 4 else ⟨iq + 1, sq, none⟩) := ⟨_, rfl⟩
            obtain ⟨s2, hs2⟩ : ∃ x, Hid (x = (nameR C.L σ1).1) := ⟨_, rfl⟩
            obtain ⟨σ2, hσ2⟩ : ∃ x, Hid (x = (nameR C.L σ1).2) := ⟨_, rfl⟩
            obtain ⟨x5, hx5⟩ : ∃ x, Hid (x = (firstR C.L σ2).1) := ⟨_, rfl⟩
            obtain ⟨σ5, hσ5⟩ : ∃ x, Hid (x = (firstR C.L σ2).2) := ⟨_, rfl⟩
            obtain ⟨b1, hb1'⟩ : ∃ x, Hid (x = see C.L σ2 kColEq) := ⟨_, rfl⟩
            obtain ⟨σ3, hσ3⟩ : ∃ x, Hid (x = tk C.L σ2 kColEq) := ⟨_, rfl⟩
            have HV : Hid (variableR C.L vs.length kind ⟨iq + 1, sq, none⟩ = (⟨kind, s2, x5⟩, must C.L σ5 kSemi)) := by
              rw [Hid, variableR, ← hσ1.out, ← hs2.out, ← hσ2.out, ← hx5.out, ← hσ5.out]
            have HI : Hid (RES = ((nm, (itemsR C.L g' (vs ++ [⟨kind, s2, x5⟩]) rs (must C.L σ5 kSemi)).1.1, (itemsR C.L g' (vs ++ [⟨kind, s2, x5⟩]) rs (must C.L σ5 kSemi)).1.2), endR C.L (itemsR C.L g' (vs ++ [⟨kind, s2, x5⟩]) rs (must C.L σ5 kSemi)).2)) := by
              rw [Hid, HR1.out]
              simp only [itemsR, Option.isNone_none, ↓reduceIte]
              rw [if_neg (show ¬ tx C.L iq = kShut from HSH.out), if_pos (show kindOf (tx C.L iq) ≠ 0 from fun h => hk0 (by rw [← HK.out]; exact h)), HK.out, HV.out]
            have HLT : Hid ((must C.L σ5 kSemi).bad = none → vs.length ≠ 20 ∧ iq + 1 < (must C.L σ5 kSemi).i) := fun hb => by
              have := variableR_lt (L := C.L) (n := vs.length) (kind := kind) (i := iq + 1) (st := sq) (by rw [HV.out]; exact hb)
              rw [HV.out] at this; exact this
            have cN1 : ∀ W, RS C W σ1 → Calls Tryz.prog 36 #[.pointer (some ⟨C.rb, 0, none⟩)] W (ROut C (fun s v _ => v = sv s) W (s2, σ2)) := fun W h => by rw [hs2.out, hσ2.out]; exact r_name h
            have hwcb : cb < wc.heap.size := by obtain ⟨v, r, xv, xr, hV⟩ := hUc.cu; exact lt_of_block hV.at_
            have hwrb := hUc.at_.lts.1
            obtain ⟨i0, hi, hzd0, hzd1, hzd2⟩ := info_parts Tryz.infoDecl
            obtain ⟨v0, r0, xv0, xr0, hV0⟩ := hUc.cu
            have hov0 : wc.ownsRow (cb + 1) 60 3 v0 vs.length xv0 := hV0.good.own (sDecl vs v0 xv0) (by simp)
            obtain ⟨ao0, cap0, rfl⟩ := owns_shape hov0
            obtain ⟨y0, -⟩ := cel hV0.at_ 1 (Value.slice ao0 vs.length cap0) rfl
            clear hV0 hov0
            go_upto_if 66 with fail
            go_cut [] (fun wx => Hid (RU C w cb wx σ1 nm vs rs))
            case first =>
              by_cases hf20 : vs.length = 20
              · have hbb : (((vs.length : Nat) : Int) == 20) = true := by rw [hf20]; rfl
                have HG : Hid (σ1 = fails C.L ⟨iq + 1, sq, none⟩ 4) := by rw [Hid, hσ1.out, if_pos hf20]
                clear hf20
                rw [hbb]
                clear hbb
                go_wp2_with (go_at_call 39; refine (r_fails hUc.at_ 4 (by decide)).mono ?_; rintro e w2 ⟨rfl, h2, hf2⟩; have hU2 := hUc.call hf2 h2)
                go_meet
                rw [Hid, HG.out]; exact hU2
              · have hbb : (((vs.length : Nat) : Int) == 20) = false := beq_false_of_ne (by omega)
                have HG : Hid (σ1 = ⟨iq + 1, sq, none⟩) := by rw [Hid, hσ1.out, if_neg hf20]
                clear hf20
                go_wp2_with fail
                go_meet
                rw [Hid, HG.out]; exact hUc
            case rest =>
              have hU1 := hcut.out
              clear hcut y0 hUc hwcb hwrb
              have hwcb : cb < wc.heap.size := by obtain ⟨v, r, xv, xr, hV⟩ := hU1.cu; exact lt_of_block hV.at_
              have hwrb := hU1.at_.lts.1
              have c1 : ∀ W, RS C W σ2 → Calls Tryz.prog 38 #[.pointer (some ⟨C.rb, 0, none⟩), .string ⟨#[58, 61]⟩] W fun e w' => e = .returned (.bool b1) ∧ RS C w' σ3 ∧ Fr W.heap.size [C.rb] W w' := fun W h => takeS h ⟨#[58, 61]⟩ (by decide) hb1'.out.symm hσ3.out.symm
              go_upto_if 74 with (first
                | (go_at_call 36; refine (cN1 _ hU1.at_).mono ?_; rintro e w2 ⟨v2, rfl, hv2, h2, hf2⟩; replace hv2 : v2 = sv s2 := hv2; subst hv2; rw [sv]; have h2' := RS.new h2 (.cells #[.int .i64 kind, .string ⟨s2.toArray⟩, .int .i64 0] 60); have K2 := heap_alloc_new w2 (.cells #[.int .i64 kind, .string ⟨s2.toArray⟩, .int .i64 0] 60); have hz2' := hf2.size; have hF2' : Fr wc.heap.size [C.rb] wc (w2.alloc (.cells #[.int .i64 kind, .string ⟨s2.toArray⟩, .int .i64 0] 60)) := hf2.alloc hz2' _)
                | (go_at_call 38; refine (c1 _ h2').mono ?_; rintro e w3' ⟨rfl, h3', hf3'⟩; have K3 := hf3'.stays K2 (by omega); have hF3' := hF2'.up hf3'))
              go_cut [] (fun wx => Hid (RS C wx σ5 ∧ Fr wc.heap.size [C.rb] wc wx ∧ wx.heap[w2.heap.size]? = some (.cells #[.int .i64 kind, .string ⟨s2.toArray⟩, .int .i64 x5] 60 (0, 0))))
              case first =>
                cases b1 with
                | false =>
                  have HF : Hid (x5 = 0 ∧ σ5 = σ3) := by rw [Hid, hx5.out, hσ5.out, hσ3.out, firstR, if_neg (by rw [← hb1'.out]; simp), tk, if_neg (by rw [← hb1'.out]; simp)]; exact ⟨rfl, rfl⟩
                  go_wp2_with fail
                  go_meet
                  exact ⟨by rw [HF.out.2]; exact h3', hF3', by rw [HF.out.1]; exact K3⟩
                | true =>
                  obtain ⟨b2, hb2'⟩ : ∃ x, Hid (x = see C.L σ3 kMinus) := ⟨_, rfl⟩
                  obtain ⟨σ4', hσ4'⟩ : ∃ x, Hid (x = tk C.L σ3 kMinus) := ⟨_, rfl⟩
                  obtain ⟨n, hn⟩ : ∃ x, Hid (x = (numberR C.L σ4').1) := ⟨_, rfl⟩
                  obtain ⟨σn, hσn⟩ : ∃ x, Hid (x = (numberR C.L σ4').2) := ⟨_, rfl⟩
                  have hn18 : n < 1000000000000000000 := by rw [hn.out]; exact numberR_lt h3'.wf σ4'
                  have hn1 : (n : Int) < 1000000000000000000 := by omega
                  have hn0 : (0 : Int) ≤ n := by omega
                  have c2' := takeS h3' ⟨#[45]⟩ (by decide) (b := b2) (σ' := σ4') hb2'.out.symm hσ4'.out.symm
                  have c3' : ∀ W, RS C W σ4' → Calls Tryz.prog 40 #[.pointer (some ⟨C.rb, 0, none⟩)] W (ROut C (fun (n : Nat) v _ => v = .int .i64 n) W (n, σn)) := fun W h => by rw [hn.out, hσn.out]; exact r_number h
                  have hdb : wc.heap.size ≤ w2.heap.size := hz2'
                  cases b2 with
                  | false =>
                    have HF : Hid (x5 = n ∧ σ5 = σn) := by
                      have e1 : see C.L (tk C.L σ2 kColEq) kMinus = false := by rw [← hσ3.out]; exact hb2'.out.symm
                      have e0 : σ4' = σ3 := by rw [hσ4'.out, tk, if_neg (by rw [← hb2'.out]; simp)]
                      have e2 : tk C.L σ2 kColEq = σ4' := by rw [e0, hσ3.out]
                      rw [Hid, hx5.out, hσ5.out, firstR, if_pos hb1'.out.symm, if_neg (by rw [e1]; simp), e2, hn.out, hσn.out]; exact ⟨rfl, rfl⟩
                    go_wp2_with (first
                      | (go_at_call 38; refine c2'.mono ?_; rintro e w4' ⟨rfl, h4', hf4'⟩; have K4 := hf4'.stays K3 (by omega); have hF4' := hF3'.up hf4')
                      | (go_at_call 40; refine (c3' _ h4').mono ?_; rintro e w5' ⟨v5', rfl, hv5', h5', hf5'⟩; replace hv5' : v5' = .int .i64 n := hv5'; subst hv5'; have K5 := hf5'.stays K4 (by omega); have hF5' := hF4'.up hf5'; obtain ⟨k2, z2⟩ := cel K5 2 _ rfl))
                    go_meet
                    exact ⟨by rw [HF.out.2]; exact RS.low (B := w2.heap.size) h5' (by omega) ((Fr.refl _ _ _).setCell (.inl (by simp)) _), hF5'.setCell (.inl hdb) _, by rw [heap_setCell_same _ _ 2 _ _ _ K5, HF.out.1]; rfl⟩
                  | true =>
                    have HF : Hid (x5 = -(n : Int) ∧ σ5 = σn) := by
                      have e1 : see C.L (tk C.L σ2 kColEq) kMinus = true := by rw [← hσ3.out]; exact hb2'.out.symm
                      have e2 : tk C.L (tk C.L σ2 kColEq) kMinus = σ4' := by rw [hσ4'.out, hσ3.out]
                      rw [Hid, hx5.out, hσ5.out, firstR, if_pos hb1'.out.symm, if_pos e1, e2, hn.out, hσn.out]; exact ⟨rfl, rfl⟩
                    go_wp2_with (first
                      | (go_at_call 38; refine c2'.mono ?_; rintro e w4' ⟨rfl, h4', hf4'⟩; have K4 := hf4'.stays K3 (by omega); have hF4' := hF3'.up hf4')
                      | (go_at_call 40; refine (c3' _ h4').mono ?_; rintro e w5' ⟨v5', rfl, hv5', h5', hf5'⟩; replace hv5' : v5' = .int .i64 n := hv5'; subst hv5'; have K5 := hf5'.stays K4 (by omega); have hF5' := hF4'.up hf5'; obtain ⟨k2, z2⟩ := cel K5 2 _ rfl))
                    go_meet
                    exact ⟨by rw [HF.out.2]; exact RS.low (B := w2.heap.size) h5' (by omega) (((Fr.refl _ _ _).setCell (.inl (by simp)) _).setCell (.inl (by simp)) _), (hF5'.setCell (.inl hdb) _).setCell (.inl hdb) _, by rw [heap_setCell_same _ _ 2 _ _ _ (heap_setCell_same _ _ 2 _ _ _ K5), HF.out.1]; rfl⟩
              case rest =>
                obtain ⟨h6, hF6, K6⟩ := hcut.out
                clear hcut
                have hU6 := hU1.call hF6 h6
                have hdb : C.rb < w2.heap.size := by omega
                obtain ⟨v1, r1, xv1, xr1, hV6⟩ := hU6.cu
                have hov : wc.ownsRow (cb + 1) 60 3 v1 vs.length xv1 := hV6.good.own (sDecl vs v1 xv1) (by simp)
                obtain ⟨ao, cap2, rfl⟩ := owns_shape hov
                go_wp2_with (first
                  | (go_at_call 35; refine (r_must hU6.at_ ⟨#[59]⟩ (by decide)).mono ?_; rintro e w8 ⟨rfl, h8, hf8⟩; have hU8 := hU6.call hf8 h8; have K8 := hf8.stays K6 hdb; have hV8 := hV6.carry (X := [C.rb]) (by simp; omega) (by simp; omega) hf8; obtain ⟨y8, -⟩ := cel hV8.at_ 1 (Value.slice ao vs.length cap2) rfl; have hl8 := lt_of_block hV8.at_; have hal8 : Fr w8.heap.size [] w8 (w8.alloc (.cells #[.int .i64 kind, .string ⟨s2.toArray⟩, .int .i64 x5] 60)) := (Fr.refl _ _ _).alloc (Nat.le_refl _) _; have hA8 := hV8.carry (X := []) (by simp) (by simp) hal8)
                  | (refine wpList_load_eq rfl 60 (.tmp 11) rfl ⟨w2.heap.size, 0, none⟩ rfl (.agg #[.int .i64 kind, .string ⟨s2.toArray⟩, .int .i64 x5]) (load62 rfl K8) ?_)
                  | (at_builtin; refine wpList_append_own_at _ rfl (.tmp 88) (.tmp 90) 22 rfl (cb + 1) 60 i0 _ 3 32 Tryz.underlying22 hi hzd0 hzd1 hzd2 rfl (by decide) _ _ _ rfl (show (w8.alloc (.cells #[.int .i64 kind, .string ⟨s2.toArray⟩, .int .i64 x5] 60)).ownsRow (cb + 1) 60 3 (Value.slice ao vs.length cap2) vs.length xv1 from hA8.good.own (sDecl vs _ xv1) (by simp)) ⟨w8.heap.size, 0, none⟩ 1 1 [.int .i64 kind, .string ⟨s2.toArray⟩, .int .i64 x5] rfl rfl (World.news_of_block (fr := (0, 0)) (heap_alloc_new w8 _)) (by intro u hu; simp at hu; rcases hu with rfl | rfl | rfl <;> rfl) (by unfold maxLen; omega) (by omega) (by simp; omega) ?_; intro v5 w9 hown5 hgrow _ hat; obtain ⟨ao9, cap9, rfl⟩ := owns_shape hown5; have hgo : ∀ g, (Value.slice ao vs.length cap2).ownBlock = some g → cb + 1 ≤ g := (fun g hg => ((hA8.good.own (sDecl vs _ xv1) (by simp)).lt g hg).1); have hU9 := CU.grow_vars (a := ⟨kind, s2, x5⟩) (cs := [.int .i64 kind, .string ⟨s2.toArray⟩, .int .i64 x5]) hA8 (by omega) rfl (by rw [List.length_append]; exact hown5) hgrow hat; have hF9 : Fr cb [] w8 w9 := (((Fr.refl cb [] w8).alloc (by omega) _).grown hgrow (by simp; omega) (fun g hg => .inl (by have := hgo g hg; omega))); have hb9 : w9.heap[cb]? = some (.cells #[sv nm, Value.slice ao vs.length cap2, r1] 25 (0, 0)) := (by rw [hgrow.block cb (by simp; omega) (fun e1 => by have := hgo _ e1.symm; omega)]; exact hA8.at_); obtain ⟨y9, z9⟩ := cel hb9 1 (Value.slice ao vs.length cap2) rfl))
                go_roundg g'
                case measure => omega
                case rel => exact ⟨vs ++ [⟨kind, s2, x5⟩], rs, must C.L σ5 kSemi, HI.out, fun hb => by have := HLT.out hb; exact ⟨by omega, by omega, by simp; omega⟩, hU8.grown (hF9.setCell (p := ⟨cb, 1, none⟩) (.inl (Nat.le_refl _)) _) ⟨_, _, _, _, hU9⟩⟩
end Go.Proofs.YtanlfmhlohcmgaaGreatDoor
