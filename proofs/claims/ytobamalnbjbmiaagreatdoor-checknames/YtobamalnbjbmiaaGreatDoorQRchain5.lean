/- The document's own reader: chain around the function of another line of the grammar. -/
import Derived.Test.YtobamalnbjbmiaaGreatDoorQRchain2
namespace Go.Proofs.YtobamalnbjbmiaaGreatDoor
open Go.RowKit Px

set_option maxRecDepth 100000 in
set_option maxHeartbeats 4000000 in
theorem r_chain3 {C : Ctx} {w : World} {σ : S} {caps : Array Value} {K : World → Prop} {R : S → E × S} {g : Nat → Except F (E × Nat)} (hkid : Kid C 216 caps K R) (hK : ∀ w w', K w → Fr w.heap.size [C.rb] w w' → K w') (hsim : Sim g R) (hl : ∀ i a j, g i = .ok (a, j) → i < j)
    (sg : List (Str × Nat)) (h4 : sg.length ≤ 4) (hnz : ∀ j, j < sg.length → (sg.getD j ([], 0)).1 ≠ [] ∧ (sg.getD j ([], 0)).2 ≠ 0) (h : RS C w σ) (hk : K w) {sb cb : Nat} (hs : Signs C w sb cb sg) :
    Calls Tryz.prog 215 #[.pointer (some ⟨C.rb, 0, none⟩), .func (.func 216) #[] caps, .slice (some ⟨sb, 0, none⟩) sg.length sg.length, .slice (some ⟨cb, 0, none⟩) sg.length sg.length] w
      (ROut C (fun e v w' => IsE (Ge w.heap.size) w' e v) w (chainR C.L R (codeIn sg) C.L.length (R σ).1 (R σ).2)) := by
  obtain ⟨RES, hRES⟩ : ∃ RES, Hid (RES = chainR C.L R (codeIn sg) C.L.length (R σ).1 (R σ).2) := ⟨_, rfl⟩
  rw [← hRES.out]
  have HKID : Hid _ := hkid
  have HKK : Hid _ := hK
  have HL0 : Hid (C.rb < w.heap.size) := h.lts.1
  have HNZ : Hid _ := hnz
  clear hkid hK hnz
  go_enter Tryz.func215, Tryz.ntmps215
  go_wp2_with (go_at_call 216; refine (HKID.out _ _ h hk).mono ?_; rintro e w1 ⟨v, rfl, hv, h1, hf1⟩; obtain ⟨p1, rfl⟩ := hv.ptr)
  have hI : Hid (∃ (t : E) (σ1 : S), Hid (RES = chainR C.L R (codeIn sg) C.L.length t σ1) ∧ (σ1.bad = none → C.L.length ≤ C.L.length + σ1.i) ∧ IsE (Ge w.heap.size) w1 t (.pointer p1) ∧ RS C w1 σ1 ∧ K w1 ∧ Fr w.heap.size [C.rb] w w1) := ⟨_, _, hRES, fun _ => by omega, hv, h1, HKK.out _ _ hk hf1, hf1⟩
  go_loopg [9] C.L.length (fun gg v wr => Hid (∃ (t : E) (σ1 : S), Hid (RES = chainR C.L R (codeIn sg) gg t σ1) ∧ (σ1.bad = none → C.L.length ≤ gg + σ1.i) ∧ IsE (Ge w.heap.size) wr t v ∧ RS C wr σ1 ∧ K wr ∧ Fr w.heap.size [C.rb] w wr))
  case atStart => exact hI
  case round =>
    obtain ⟨t, σ1, hr1, hg, hv1, hp1, hk1, hF1⟩ := hrel.out
    clear hrel
    obtain ⟨w2, hw2⟩ : ∃ w2, w2 = wr := ⟨_, rfl⟩
    subst hw2
    obtain ⟨q1, rfl⟩ := hv1.ptr
    obtain ⟨i1, st1, b1⟩ := σ1
    cases b1 with
    | some f =>
      have HE : Hid (RES = (t, ⟨i1, st1, some f⟩)) := by rw [Hid, hr1.out, chainR_dead _ _ _ rfl]
      go_wp2_with (go_at_call 102; refine (r_ok hp1).mono ?_; rintro e' w' ⟨rfl, hw⟩; obtain rfl := hw.symm)
      go_ret
      rw [HE.out]
      exact ⟨_, rfl, hv1, hp1, hF1⟩
    | none =>
      have hlt1 : i1 < C.L.length := hp1.lt
      have hg1 : C.L.length ≤ gk + i1 := hg rfl
      obtain ⟨g', hgg⟩ : ∃ g', gk = g' + 1 := ⟨gk - 1, by omega⟩
      subst hgg
      have hs1 := hs.carry (hF1)
      have h6 := hp1.wf.len
      go_wp2_with (go_at_call 102; refine (r_ok hp1).mono ?_; rintro e' w' ⟨rfl, hw⟩; obtain rfl := hw.symm)
      go_loopg [10, 19] sg.length (fun gg kv jv wr => Hid (∃ j : Nat, gg + j = sg.length ∧ jv = .int .i64 j ∧ Fr w2.heap.size [C.rb] w2 wr ∧
        ((kv = .int .i64 (-1) ∧ RS C wr ⟨i1, st1, none⟩ ∧ ∀ p, p < j → (sg.getD p ([], 0)).1 ≠ tx C.L i1) ∨
          (∃ p : Nat, p < j ∧ kv = .int .i64 p ∧ RS C wr ⟨i1 + 1, st1, none⟩ ∧ (∀ q, q < p → (sg.getD q ([], 0)).1 ≠ tx C.L i1) ∧ (sg.getD p ([], 0)).1 = tx C.L i1))))
      case atStart => exact ⟨0, by omega, rfl, Fr.refl _ _ _, .inl ⟨rfl, hp1, fun p hp => absurd hp (by omega)⟩⟩
      case round =>
        obtain ⟨j, hj, rfl, hfr, hor⟩ := hrel.out
        clear hrel
        have hs2 := hs1.carry hfr
        by_cases hlt : j < sg.length
        · have hji : (j : Int) < (sg.length : Int) := by omega
          have hj0 : (0 : Int) ≤ (j : Int) := by omega
          obtain ⟨g2, hg2⟩ : ∃ g2, gk = g2 + 1 := ⟨gk - 1, by omega⟩
          subst hg2
          obtain ⟨tb, htb⟩ : ∃ tb : ByteArray, Hid (tb = ⟨((sg.getD j ([], 0)).1).toArray⟩) := ⟨_, rfl⟩
          have hbs : Hid (bs tb = (sg.getD j ([], 0)).1) := by rw [Hid, htb.out]
          have hcell := (hs2.at_ j _ (getD_get ([], 0) hlt)).1
          rw [sv, ← htb.out] at hcell
          have hne : bs tb ≠ [] := by rw [hbs.out]; exact (HNZ.out j hlt).1
          rcases hor with ⟨rfl, hp2, hall⟩ | ⟨p, hpj, rfl, hp2, hall, hpe⟩
          · have HALL : Hid _ := hall
            clear hall
            by_cases hyes : tx C.L i1 = bs tb
            · have htk := r_take hp2 tb hne
              rw [show see C.L ⟨i1, st1, none⟩ (bs tb) = true from by rw [see_ok]; exact decide_eq_true hyes, tk_yes hyes] at htk
              have HY : Hid _ := hyes
              clear hyes
              go_wp2_with (go_at_call 103; refine htk.mono ?_; rintro e' w3 ⟨rfl, h3, hf3⟩)
              go_roundg g2
              case measure => omega
              case rel => exact ⟨j + 1, by omega, by go_num, hfr.up hf3, .inr ⟨j, by omega, rfl, h3, HALL.out, by rw [← hbs.out]; exact HY.out.symm⟩⟩
            · have htk := r_take hp2 tb hne
              rw [show see C.L ⟨i1, st1, none⟩ (bs tb) = false from by rw [see_ok]; exact decide_eq_false hyes, tk_no hyes] at htk
              have HY : Hid _ := hyes
              clear hyes
              go_wp2_with (go_at_call 103; refine htk.mono ?_; rintro e' w3 ⟨rfl, h3, hf3⟩)
              go_roundg g2
              case measure => omega
              case rel =>
                refine ⟨j + 1, by omega, by go_num, hfr.up hf3, .inl ⟨rfl, h3, fun q hq => ?_⟩⟩
                by_cases e : q = j
                · subst e; rw [← hbs.out]; exact fun e => HY.out e.symm
                · exact HALL.out q (by omega)
          · have hp0 : ¬ (p : Int) < 0 := by omega
            have HALL : Hid _ := hall
            have HPE : Hid _ := hpe
            clear hall hpe
            go_wp2_with fail
            go_roundg g2
            case measure => omega
            case rel => exact ⟨j + 1, by omega, by go_num, hfr, .inr ⟨p, by omega, rfl, hp2, HALL.out, HPE.out⟩⟩
        · have hji : ¬ (j : Int) < (sg.length : Int) := by omega
          have hje : Hid (j = sg.length) := by rw [Hid]; omega
          have hFF : Fr w.heap.size [C.rb] w wr := hF1.up hfr
          have hvv : IsE (Ge w.heap.size) wr t (.pointer q1) := hv1.carry (keepGe HL0.out hfr)
          rcases hor with ⟨rfl, hp2, hall⟩ | ⟨p, hpj, rfl, hp2, hall, hpe⟩
          · have HE : Hid (RES = (t, ⟨i1, st1, none⟩)) := by
              rw [Hid, hr1.out, chainR, if_neg (fun hh => hh.2 (codeIn_no (fun p hp => hall p (by have := hje.out; omega))))]
            clear hall
            go_wp2_with fail
            go_ret
            rw [HE.out]
            exact ⟨_, rfl, hvv, hp2, hFF⟩
          · have hp0 : ¬ (p : Int) < 0 := by omega
            have hp00 : (0 : Int) ≤ (p : Int) := by omega
            have hpl : p < sg.length := by have := hje.out; omega
            have hpl' : (p : Int) < (sg.length : Int) := by omega
            obtain ⟨c, hc⟩ : ∃ c, Hid (c = (sg.getD p ([], 0)).2) := ⟨_, rfl⟩
            have hcell := (hs2.at_ p _ (getD_get ([], 0) hpl)).2
            rw [← hc.out] at hcell
            have HC : Hid (codeIn sg (tx C.L i1) = c) := by rw [Hid, hc.out]; exact codeIn_at hpl hall hpe
            have hc0 : c ≠ 0 := by rw [hc.out]; exact (HNZ.out p hpl).2
            have HR2 : Hid (RES = chainR C.L R (codeIn sg) g' (eTwo c t (R ⟨i1 + 1, st1, none⟩).1) (R ⟨i1 + 1, st1, none⟩).2) := by
              rw [Hid, hr1.out, chainR, if_pos ⟨rfl, by rw [HC.out]; exact hc0⟩, HC.out]
            have hk2 := HKK.out _ _ hk1 hfr
            have hdr : Fr wr.heap.size [] wr wr.drew := (Fr.refl _ _ _).drew
            have hcall := HKID.out wr.drew _ (hp2.same hdr) (HKK.out _ _ hk2 hdr.wide)
            clear hall hpe
            go_wp2_with fail
            go_region_held3 (fun w' => w'.cell? ⟨cb, p, none⟩ = some (.int .i64 c)) (go_keep)
              ((refine hcall.mono ?_; rintro e w4 ⟨v4, rfl, hv4, h4', hf4⟩; obtain ⟨p4, rfl⟩ := hv4.ptr; have hc4 : w4.cell? ⟨cb, p, none⟩ = some (.int .i64 c) := (by rw [hf4.cell (p := ⟨cb, p, none⟩) hs2.lc (by simp; exact hs2.nc)]; exact hcell)))
            all_goals go_wp2_with fail
            have hF4 : Fr w.heap.size [C.rb] w w4 := (hFF.drew).up hf4
            have hz4 := hF4.size
            have hv4' := hv4.ge (n := w.heap.size) hFF.size
            have hvv4 : IsE (Ge w.heap.size) w4 t (.pointer q1) := (hvv.carry (keepAll hdr)).carry (keepGe HL0.out hf4)
            have hK4 := HKK.out _ _ (HKK.out _ _ hk2 hdr.wide) hf4
            go_roundg g'
            case measure => omega
            case rel => exact ⟨eTwo c t _, _, HR2, fun hb => by have := hsim.lt hl hb; simp only at this; omega, isE_two rfl (by omega) hvv4 hv4', h4'.same ((Fr.refl _ _ _).alloc (Nat.le_refl _) _), HKK.out _ _ hK4 ((Fr.refl _ _ _).alloc (Nat.le_refl _) _), hF4.alloc (by omega) _⟩
end Go.Proofs.YtobamalnbjbmiaaGreatDoor
/- The document's own reader: chain around the function of another line of the grammar. -/
namespace Go.Proofs.YtobamalnbjbmiaaGreatDoor
open Go.RowKit Px

set_option maxRecDepth 100000 in
set_option maxHeartbeats 4000000 in
theorem r_chain4 {C : Ctx} {w : World} {σ : S} {caps : Array Value} {K : World → Prop} {R : S → E × S} {g : Nat → Except F (E × Nat)} (hkid : Kid C 217 caps K R) (hK : ∀ w w', K w → Fr w.heap.size [C.rb] w w' → K w') (hsim : Sim g R) (hl : ∀ i a j, g i = .ok (a, j) → i < j)
    (sg : List (Str × Nat)) (h4 : sg.length ≤ 4) (hnz : ∀ j, j < sg.length → (sg.getD j ([], 0)).1 ≠ [] ∧ (sg.getD j ([], 0)).2 ≠ 0) (h : RS C w σ) (hk : K w) {sb cb : Nat} (hs : Signs C w sb cb sg) :
    Calls Tryz.prog 215 #[.pointer (some ⟨C.rb, 0, none⟩), .func (.func 217) #[] caps, .slice (some ⟨sb, 0, none⟩) sg.length sg.length, .slice (some ⟨cb, 0, none⟩) sg.length sg.length] w
      (ROut C (fun e v w' => IsE (Ge w.heap.size) w' e v) w (chainR C.L R (codeIn sg) C.L.length (R σ).1 (R σ).2)) := by
  obtain ⟨RES, hRES⟩ : ∃ RES, Hid (RES = chainR C.L R (codeIn sg) C.L.length (R σ).1 (R σ).2) := ⟨_, rfl⟩
  rw [← hRES.out]
  have HKID : Hid _ := hkid
  have HKK : Hid _ := hK
  have HL0 : Hid (C.rb < w.heap.size) := h.lts.1
  have HNZ : Hid _ := hnz
  clear hkid hK hnz
  go_enter Tryz.func215, Tryz.ntmps215
  go_wp2_with (go_at_call 217; refine (HKID.out _ _ h hk).mono ?_; rintro e w1 ⟨v, rfl, hv, h1, hf1⟩; obtain ⟨p1, rfl⟩ := hv.ptr)
  have hI : Hid (∃ (t : E) (σ1 : S), Hid (RES = chainR C.L R (codeIn sg) C.L.length t σ1) ∧ (σ1.bad = none → C.L.length ≤ C.L.length + σ1.i) ∧ IsE (Ge w.heap.size) w1 t (.pointer p1) ∧ RS C w1 σ1 ∧ K w1 ∧ Fr w.heap.size [C.rb] w w1) := ⟨_, _, hRES, fun _ => by omega, hv, h1, HKK.out _ _ hk hf1, hf1⟩
  go_loopg [9] C.L.length (fun gg v wr => Hid (∃ (t : E) (σ1 : S), Hid (RES = chainR C.L R (codeIn sg) gg t σ1) ∧ (σ1.bad = none → C.L.length ≤ gg + σ1.i) ∧ IsE (Ge w.heap.size) wr t v ∧ RS C wr σ1 ∧ K wr ∧ Fr w.heap.size [C.rb] w wr))
  case atStart => exact hI
  case round =>
    obtain ⟨t, σ1, hr1, hg, hv1, hp1, hk1, hF1⟩ := hrel.out
    clear hrel
    obtain ⟨w2, hw2⟩ : ∃ w2, w2 = wr := ⟨_, rfl⟩
    subst hw2
    obtain ⟨q1, rfl⟩ := hv1.ptr
    obtain ⟨i1, st1, b1⟩ := σ1
    cases b1 with
    | some f =>
      have HE : Hid (RES = (t, ⟨i1, st1, some f⟩)) := by rw [Hid, hr1.out, chainR_dead _ _ _ rfl]
      go_wp2_with (go_at_call 102; refine (r_ok hp1).mono ?_; rintro e' w' ⟨rfl, hw⟩; obtain rfl := hw.symm)
      go_ret
      rw [HE.out]
      exact ⟨_, rfl, hv1, hp1, hF1⟩
    | none =>
      have hlt1 : i1 < C.L.length := hp1.lt
      have hg1 : C.L.length ≤ gk + i1 := hg rfl
      obtain ⟨g', hgg⟩ : ∃ g', gk = g' + 1 := ⟨gk - 1, by omega⟩
      subst hgg
      have hs1 := hs.carry (hF1)
      have h6 := hp1.wf.len
      go_wp2_with (go_at_call 102; refine (r_ok hp1).mono ?_; rintro e' w' ⟨rfl, hw⟩; obtain rfl := hw.symm)
      go_loopg [10, 19] sg.length (fun gg kv jv wr => Hid (∃ j : Nat, gg + j = sg.length ∧ jv = .int .i64 j ∧ Fr w2.heap.size [C.rb] w2 wr ∧
        ((kv = .int .i64 (-1) ∧ RS C wr ⟨i1, st1, none⟩ ∧ ∀ p, p < j → (sg.getD p ([], 0)).1 ≠ tx C.L i1) ∨
          (∃ p : Nat, p < j ∧ kv = .int .i64 p ∧ RS C wr ⟨i1 + 1, st1, none⟩ ∧ (∀ q, q < p → (sg.getD q ([], 0)).1 ≠ tx C.L i1) ∧ (sg.getD p ([], 0)).1 = tx C.L i1))))
      case atStart => exact ⟨0, by omega, rfl, Fr.refl _ _ _, .inl ⟨rfl, hp1, fun p hp => absurd hp (by omega)⟩⟩
      case round =>
        obtain ⟨j, hj, rfl, hfr, hor⟩ := hrel.out
        clear hrel
        have hs2 := hs1.carry hfr
        by_cases hlt : j < sg.length
        · have hji : (j : Int) < (sg.length : Int) := by omega
          have hj0 : (0 : Int) ≤ (j : Int) := by omega
          obtain ⟨g2, hg2⟩ : ∃ g2, gk = g2 + 1 := ⟨gk - 1, by omega⟩
          subst hg2
          obtain ⟨tb, htb⟩ : ∃ tb : ByteArray, Hid (tb = ⟨((sg.getD j ([], 0)).1).toArray⟩) := ⟨_, rfl⟩
          have hbs : Hid (bs tb = (sg.getD j ([], 0)).1) := by rw [Hid, htb.out]
          have hcell := (hs2.at_ j _ (getD_get ([], 0) hlt)).1
          rw [sv, ← htb.out] at hcell
          have hne : bs tb ≠ [] := by rw [hbs.out]; exact (HNZ.out j hlt).1
          rcases hor with ⟨rfl, hp2, hall⟩ | ⟨p, hpj, rfl, hp2, hall, hpe⟩
          · have HALL : Hid _ := hall
            clear hall
            by_cases hyes : tx C.L i1 = bs tb
            · have htk := r_take hp2 tb hne
              rw [show see C.L ⟨i1, st1, none⟩ (bs tb) = true from by rw [see_ok]; exact decide_eq_true hyes, tk_yes hyes] at htk
              have HY : Hid _ := hyes
              clear hyes
              go_wp2_with (go_at_call 103; refine htk.mono ?_; rintro e' w3 ⟨rfl, h3, hf3⟩)
              go_roundg g2
              case measure => omega
              case rel => exact ⟨j + 1, by omega, by go_num, hfr.up hf3, .inr ⟨j, by omega, rfl, h3, HALL.out, by rw [← hbs.out]; exact HY.out.symm⟩⟩
            · have htk := r_take hp2 tb hne
              rw [show see C.L ⟨i1, st1, none⟩ (bs tb) = false from by rw [see_ok]; exact decide_eq_false hyes, tk_no hyes] at htk
              have HY : Hid _ := hyes
              clear hyes
              go_wp2_with (go_at_call 103; refine htk.mono ?_; rintro e' w3 ⟨rfl, h3, hf3⟩)
              go_roundg g2
              case measure => omega
              case rel =>
                refine ⟨j + 1, by omega, by go_num, hfr.up hf3, .inl ⟨rfl, h3, fun q hq => ?_⟩⟩
                by_cases e : q = j
                · subst e; rw [← hbs.out]; exact fun e => HY.out e.symm
                · exact HALL.out q (by omega)
          · have hp0 : ¬ (p : Int) < 0 := by omega
            have HALL : Hid _ := hall
            have HPE : Hid _ := hpe
            clear hall hpe
            go_wp2_with fail
            go_roundg g2
            case measure => omega
            case rel => exact ⟨j + 1, by omega, by go_num, hfr, .inr ⟨p, by omega, rfl, hp2, HALL.out, HPE.out⟩⟩
        · have hji : ¬ (j : Int) < (sg.length : Int) := by omega
          have hje : Hid (j = sg.length) := by rw [Hid]; omega
          have hFF : Fr w.heap.size [C.rb] w wr := hF1.up hfr
          have hvv : IsE (Ge w.heap.size) wr t (.pointer q1) := hv1.carry (keepGe HL0.out hfr)
          rcases hor with ⟨rfl, hp2, hall⟩ | ⟨p, hpj, rfl, hp2, hall, hpe⟩
          · have HE : Hid (RES = (t, ⟨i1, st1, none⟩)) := by
              rw [Hid, hr1.out, chainR, if_neg (fun hh => hh.2 (codeIn_no (fun p hp => hall p (by have := hje.out; omega))))]
            clear hall
            go_wp2_with fail
            go_ret
            rw [HE.out]
            exact ⟨_, rfl, hvv, hp2, hFF⟩
          · have hp0 : ¬ (p : Int) < 0 := by omega
            have hp00 : (0 : Int) ≤ (p : Int) := by omega
            have hpl : p < sg.length := by have := hje.out; omega
            have hpl' : (p : Int) < (sg.length : Int) := by omega
            obtain ⟨c, hc⟩ : ∃ c, Hid (c = (sg.getD p ([], 0)).2) := ⟨_, rfl⟩
            have hcell := (hs2.at_ p _ (getD_get ([], 0) hpl)).2
            rw [← hc.out] at hcell
            have HC : Hid (codeIn sg (tx C.L i1) = c) := by rw [Hid, hc.out]; exact codeIn_at hpl hall hpe
            have hc0 : c ≠ 0 := by rw [hc.out]; exact (HNZ.out p hpl).2
            have HR2 : Hid (RES = chainR C.L R (codeIn sg) g' (eTwo c t (R ⟨i1 + 1, st1, none⟩).1) (R ⟨i1 + 1, st1, none⟩).2) := by
              rw [Hid, hr1.out, chainR, if_pos ⟨rfl, by rw [HC.out]; exact hc0⟩, HC.out]
            have hk2 := HKK.out _ _ hk1 hfr
            have hdr : Fr wr.heap.size [] wr wr.drew := (Fr.refl _ _ _).drew
            have hcall := HKID.out wr.drew _ (hp2.same hdr) (HKK.out _ _ hk2 hdr.wide)
            clear hall hpe
            go_wp2_with fail
            go_region_held3 (fun w' => w'.cell? ⟨cb, p, none⟩ = some (.int .i64 c)) (go_keep)
              ((refine hcall.mono ?_; rintro e w4 ⟨v4, rfl, hv4, h4', hf4⟩; obtain ⟨p4, rfl⟩ := hv4.ptr; have hc4 : w4.cell? ⟨cb, p, none⟩ = some (.int .i64 c) := (by rw [hf4.cell (p := ⟨cb, p, none⟩) hs2.lc (by simp; exact hs2.nc)]; exact hcell)))
            all_goals go_wp2_with fail
            have hF4 : Fr w.heap.size [C.rb] w w4 := (hFF.drew).up hf4
            have hz4 := hF4.size
            have hv4' := hv4.ge (n := w.heap.size) hFF.size
            have hvv4 : IsE (Ge w.heap.size) w4 t (.pointer q1) := (hvv.carry (keepAll hdr)).carry (keepGe HL0.out hf4)
            have hK4 := HKK.out _ _ (HKK.out _ _ hk2 hdr.wide) hf4
            go_roundg g'
            case measure => omega
            case rel => exact ⟨eTwo c t _, _, HR2, fun hb => by have := hsim.lt hl hb; simp only at this; omega, isE_two rfl (by omega) hvv4 hv4', h4'.same ((Fr.refl _ _ _).alloc (Nat.le_refl _) _), HKK.out _ _ hK4 ((Fr.refl _ _ _).alloc (Nat.le_refl _) _), hF4.alloc (by omega) _⟩
end Go.Proofs.YtobamalnbjbmiaaGreatDoor
/- The document's own reader: chain around the function of another line of the grammar. -/
namespace Go.Proofs.YtobamalnbjbmiaaGreatDoor
open Go.RowKit Px

set_option maxRecDepth 100000 in
set_option maxHeartbeats 4000000 in
theorem r_chain5 {C : Ctx} {w : World} {σ : S} {caps : Array Value} {K : World → Prop} {R : S → E × S} {g : Nat → Except F (E × Nat)} (hkid : Kid C 218 caps K R) (hK : ∀ w w', K w → Fr w.heap.size [C.rb] w w' → K w') (hsim : Sim g R) (hl : ∀ i a j, g i = .ok (a, j) → i < j)
    (sg : List (Str × Nat)) (h4 : sg.length ≤ 4) (hnz : ∀ j, j < sg.length → (sg.getD j ([], 0)).1 ≠ [] ∧ (sg.getD j ([], 0)).2 ≠ 0) (h : RS C w σ) (hk : K w) {sb cb : Nat} (hs : Signs C w sb cb sg) :
    Calls Tryz.prog 215 #[.pointer (some ⟨C.rb, 0, none⟩), .func (.func 218) #[] caps, .slice (some ⟨sb, 0, none⟩) sg.length sg.length, .slice (some ⟨cb, 0, none⟩) sg.length sg.length] w
      (ROut C (fun e v w' => IsE (Ge w.heap.size) w' e v) w (chainR C.L R (codeIn sg) C.L.length (R σ).1 (R σ).2)) := by
  obtain ⟨RES, hRES⟩ : ∃ RES, Hid (RES = chainR C.L R (codeIn sg) C.L.length (R σ).1 (R σ).2) := ⟨_, rfl⟩
  rw [← hRES.out]
  have HKID : Hid _ := hkid
  have HKK : Hid _ := hK
  have HL0 : Hid (C.rb < w.heap.size) := h.lts.1
  have HNZ : Hid _ := hnz
  clear hkid hK hnz
  go_enter Tryz.func215, Tryz.ntmps215
  go_wp2_with (go_at_call 218; refine (HKID.out _ _ h hk).mono ?_; rintro e w1 ⟨v, rfl, hv, h1, hf1⟩; obtain ⟨p1, rfl⟩ := hv.ptr)
  have hI : Hid (∃ (t : E) (σ1 : S), Hid (RES = chainR C.L R (codeIn sg) C.L.length t σ1) ∧ (σ1.bad = none → C.L.length ≤ C.L.length + σ1.i) ∧ IsE (Ge w.heap.size) w1 t (.pointer p1) ∧ RS C w1 σ1 ∧ K w1 ∧ Fr w.heap.size [C.rb] w w1) := ⟨_, _, hRES, fun _ => by omega, hv, h1, HKK.out _ _ hk hf1, hf1⟩
  go_loopg [9] C.L.length (fun gg v wr => Hid (∃ (t : E) (σ1 : S), Hid (RES = chainR C.L R (codeIn sg) gg t σ1) ∧ (σ1.bad = none → C.L.length ≤ gg + σ1.i) ∧ IsE (Ge w.heap.size) wr t v ∧ RS C wr σ1 ∧ K wr ∧ Fr w.heap.size [C.rb] w wr))
  case atStart => exact hI
  case round =>
    obtain ⟨t, σ1, hr1, hg, hv1, hp1, hk1, hF1⟩ := hrel.out
    clear hrel
    obtain ⟨w2, hw2⟩ : ∃ w2, w2 = wr := ⟨_, rfl⟩
    subst hw2
    obtain ⟨q1, rfl⟩ := hv1.ptr
    obtain ⟨i1, st1, b1⟩ := σ1
    cases b1 with
    | some f =>
      have HE : Hid (RES = (t, ⟨i1, st1, some f⟩)) := by rw [Hid, hr1.out, chainR_dead _ _ _ rfl]
      go_wp2_with (go_at_call 102; refine (r_ok hp1).mono ?_; rintro e' w' ⟨rfl, hw⟩; obtain rfl := hw.symm)
      go_ret
      rw [HE.out]
      exact ⟨_, rfl, hv1, hp1, hF1⟩
    | none =>
      have hlt1 : i1 < C.L.length := hp1.lt
      have hg1 : C.L.length ≤ gk + i1 := hg rfl
      obtain ⟨g', hgg⟩ : ∃ g', gk = g' + 1 := ⟨gk - 1, by omega⟩
      subst hgg
      have hs1 := hs.carry (hF1)
      have h6 := hp1.wf.len
      go_wp2_with (go_at_call 102; refine (r_ok hp1).mono ?_; rintro e' w' ⟨rfl, hw⟩; obtain rfl := hw.symm)
      go_loopg [10, 19] sg.length (fun gg kv jv wr => Hid (∃ j : Nat, gg + j = sg.length ∧ jv = .int .i64 j ∧ Fr w2.heap.size [C.rb] w2 wr ∧
        ((kv = .int .i64 (-1) ∧ RS C wr ⟨i1, st1, none⟩ ∧ ∀ p, p < j → (sg.getD p ([], 0)).1 ≠ tx C.L i1) ∨
          (∃ p : Nat, p < j ∧ kv = .int .i64 p ∧ RS C wr ⟨i1 + 1, st1, none⟩ ∧ (∀ q, q < p → (sg.getD q ([], 0)).1 ≠ tx C.L i1) ∧ (sg.getD p ([], 0)).1 = tx C.L i1))))
      case atStart => exact ⟨0, by omega, rfl, Fr.refl _ _ _, .inl ⟨rfl, hp1, fun p hp => absurd hp (by omega)⟩⟩
      case round =>
        obtain ⟨j, hj, rfl, hfr, hor⟩ := hrel.out
        clear hrel
        have hs2 := hs1.carry hfr
        by_cases hlt : j < sg.length
        · have hji : (j : Int) < (sg.length : Int) := by omega
          have hj0 : (0 : Int) ≤ (j : Int) := by omega
          obtain ⟨g2, hg2⟩ : ∃ g2, gk = g2 + 1 := ⟨gk - 1, by omega⟩
          subst hg2
          obtain ⟨tb, htb⟩ : ∃ tb : ByteArray, Hid (tb = ⟨((sg.getD j ([], 0)).1).toArray⟩) := ⟨_, rfl⟩
          have hbs : Hid (bs tb = (sg.getD j ([], 0)).1) := by rw [Hid, htb.out]
          have hcell := (hs2.at_ j _ (getD_get ([], 0) hlt)).1
          rw [sv, ← htb.out] at hcell
          have hne : bs tb ≠ [] := by rw [hbs.out]; exact (HNZ.out j hlt).1
          rcases hor with ⟨rfl, hp2, hall⟩ | ⟨p, hpj, rfl, hp2, hall, hpe⟩
          · have HALL : Hid _ := hall
            clear hall
            by_cases hyes : tx C.L i1 = bs tb
            · have htk := r_take hp2 tb hne
              rw [show see C.L ⟨i1, st1, none⟩ (bs tb) = true from by rw [see_ok]; exact decide_eq_true hyes, tk_yes hyes] at htk
              have HY : Hid _ := hyes
              clear hyes
              go_wp2_with (go_at_call 103; refine htk.mono ?_; rintro e' w3 ⟨rfl, h3, hf3⟩)
              go_roundg g2
              case measure => omega
              case rel => exact ⟨j + 1, by omega, by go_num, hfr.up hf3, .inr ⟨j, by omega, rfl, h3, HALL.out, by rw [← hbs.out]; exact HY.out.symm⟩⟩
            · have htk := r_take hp2 tb hne
              rw [show see C.L ⟨i1, st1, none⟩ (bs tb) = false from by rw [see_ok]; exact decide_eq_false hyes, tk_no hyes] at htk
              have HY : Hid _ := hyes
              clear hyes
              go_wp2_with (go_at_call 103; refine htk.mono ?_; rintro e' w3 ⟨rfl, h3, hf3⟩)
              go_roundg g2
              case measure => omega
              case rel =>
                refine ⟨j + 1, by omega, by go_num, hfr.up hf3, .inl ⟨rfl, h3, fun q hq => ?_⟩⟩
                by_cases e : q = j
                · subst e; rw [← hbs.out]; exact fun e => HY.out e.symm
                · exact HALL.out q (by omega)
          · have hp0 : ¬ (p : Int) < 0 := by omega
            have HALL : Hid _ := hall
            have HPE : Hid _ := hpe
            clear hall hpe
            go_wp2_with fail
            go_roundg g2
            case measure => omega
            case rel => exact ⟨j + 1, by omega, by go_num, hfr, .inr ⟨p, by omega, rfl, hp2, HALL.out, HPE.out⟩⟩
        · have hji : ¬ (j : Int) < (sg.length : Int) := by omega
          have hje : Hid (j = sg.length) := by rw [Hid]; omega
          have hFF : Fr w.heap.size [C.rb] w wr := hF1.up hfr
          have hvv : IsE (Ge w.heap.size) wr t (.pointer q1) := hv1.carry (keepGe HL0.out hfr)
          rcases hor with ⟨rfl, hp2, hall⟩ | ⟨p, hpj, rfl, hp2, hall, hpe⟩
          · have HE : Hid (RES = (t, ⟨i1, st1, none⟩)) := by
              rw [Hid, hr1.out, chainR, if_neg (fun hh => hh.2 (codeIn_no (fun p hp => hall p (by have := hje.out; omega))))]
            clear hall
            go_wp2_with fail
            go_ret
            rw [HE.out]
            exact ⟨_, rfl, hvv, hp2, hFF⟩
          · have hp0 : ¬ (p : Int) < 0 := by omega
            have hp00 : (0 : Int) ≤ (p : Int) := by omega
            have hpl : p < sg.length := by have := hje.out; omega
            have hpl' : (p : Int) < (sg.length : Int) := by omega
            obtain ⟨c, hc⟩ : ∃ c, Hid (c = (sg.getD p ([], 0)).2) := ⟨_, rfl⟩
            have hcell := (hs2.at_ p _ (getD_get ([], 0) hpl)).2
            rw [← hc.out] at hcell
            have HC : Hid (codeIn sg (tx C.L i1) = c) := by rw [Hid, hc.out]; exact codeIn_at hpl hall hpe
            have hc0 : c ≠ 0 := by rw [hc.out]; exact (HNZ.out p hpl).2
            have HR2 : Hid (RES = chainR C.L R (codeIn sg) g' (eTwo c t (R ⟨i1 + 1, st1, none⟩).1) (R ⟨i1 + 1, st1, none⟩).2) := by
              rw [Hid, hr1.out, chainR, if_pos ⟨rfl, by rw [HC.out]; exact hc0⟩, HC.out]
            have hk2 := HKK.out _ _ hk1 hfr
            have hdr : Fr wr.heap.size [] wr wr.drew := (Fr.refl _ _ _).drew
            have hcall := HKID.out wr.drew _ (hp2.same hdr) (HKK.out _ _ hk2 hdr.wide)
            clear hall hpe
            go_wp2_with fail
            go_region_held3 (fun w' => w'.cell? ⟨cb, p, none⟩ = some (.int .i64 c)) (go_keep)
              ((refine hcall.mono ?_; rintro e w4 ⟨v4, rfl, hv4, h4', hf4⟩; obtain ⟨p4, rfl⟩ := hv4.ptr; have hc4 : w4.cell? ⟨cb, p, none⟩ = some (.int .i64 c) := (by rw [hf4.cell (p := ⟨cb, p, none⟩) hs2.lc (by simp; exact hs2.nc)]; exact hcell)))
            all_goals go_wp2_with fail
            have hF4 : Fr w.heap.size [C.rb] w w4 := (hFF.drew).up hf4
            have hz4 := hF4.size
            have hv4' := hv4.ge (n := w.heap.size) hFF.size
            have hvv4 : IsE (Ge w.heap.size) w4 t (.pointer q1) := (hvv.carry (keepAll hdr)).carry (keepGe HL0.out hf4)
            have hK4 := HKK.out _ _ (HKK.out _ _ hk2 hdr.wide) hf4
            go_roundg g'
            case measure => omega
            case rel => exact ⟨eTwo c t _, _, HR2, fun hb => by have := hsim.lt hl hb; simp only at this; omega, isE_two rfl (by omega) hvv4 hv4', h4'.same ((Fr.refl _ _ _).alloc (Nat.le_refl _) _), HKK.out _ _ hK4 ((Fr.refl _ _ _).alloc (Nat.le_refl _) _), hF4.alloc (by omega) _⟩
end Go.Proofs.YtobamalnbjbmiaaGreatDoor
