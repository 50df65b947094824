/- NetRuns: the law's walk, where code may be. -/
import Derived.Test.YtgjhfmkilpmfnaaGreatDoorJNg9
import Derived.Deep.RegionHeld3
import Derived.Test.YtgjhfmkilpmfnaaGreatDoorJNg2
import Derived.Deep.Slices
namespace Go.Proofs.YtgjhfmkilpmfnaaGreatDoor
open Go.RowKit
namespace Nx

theorem stepsE_zero (P : Int) (nums : Nat) (l : List Sp) (i : Nat) (h : (stepsE P nums l i).1 = 0) : stepsE P nums l i = (0, -1) := by
  induction l generalizing i with
  | nil => rfl
  | cons s r ih =>
    rw [stepsE] at h ⊢
    split at h
    · rename_i h0; rw [if_pos h0]; exact ih _ h
    · rename_i h0; exact absurd h h0
theorem check_zero (n : Nt) (h : (check n).1 = 0) : check n = (0, -1) := by
  unfold check at h ⊢
  split at h
  · rename_i h0; rw [if_pos h0]; exact stepsE_zero _ _ _ _ h
  · rename_i h0; exact absurd h h0

set_option maxRecDepth 100000 in
set_option maxHeartbeats 4000000 in
theorem runs_fine (n : Nt) (w : World) (vF vI vO vK vN vC : Value) (rows : List (List Int)) (adr : Option Addr) (bR offR capR : Nat) (h : NetV w.heap.size w n vF vI vO vK vN vC) (hcap : ∃ ad cap, vI = .slice ad n.ins.length cap ∧ n.ins.length ≤ cap) (hn : Held n) (hE : ErrType w)
    (hFine : w.cell? ⟨0, 0, none⟩ = some (.int .i64 0) ∧ w.cell? ⟨0, 1, none⟩ = some (.int .i64 (-1)))
    (hf : ∀ w', Below w.heap.size w w' → Calls Tryz.prog 5 #[.slice adr rows.length capR] w' fun e w2 => e = .returned (.bool true) ∧ w2 = w') (hok : (check n).1 = 0)
    (hrl : rows.length ≤ 40) (hra : 0 < rows.length → adr = some ⟨bR, offR, none⟩ ∧ bR < w.heap.size) (hrc : ∀ k, k < rows.length → ∃ u, w.cell? ⟨bR, offR + k, none⟩ = some u ∧ Ints (· < w.heap.size) w u (rows.getD k []))
    (hF1 : ∀ k, F64 (n.first.getD k 0)) (hF2 : ∀ k, F64 (n.nums.getD k 0)) (hF3 : ∀ k j, F64 ((rows.getD k []).getD j 0)) :
    Calls Tryz.prog 3 #[.agg #[.int .i64 n.places, vF, vI, vO, vK, vN, vC], .slice adr rows.length capR] w fun e w' => e = .returned (.bool true) ∧ Below w.heap.size w w' := by
  have hh := held_box n w vF vI vO vK vN vC h hn
  have HF : Hid (∀ w', Below w.heap.size w w' → Calls Tryz.prog 5 #[.slice adr rows.length capR] w' fun e w2 => e = .returned (.bool true) ∧ w2 = w') := hf
  have hz := check_zero n hok
  have HCN : Hid (∀ w', Below w.heap.size w w' → Calls Tryz.prog 6 #[.agg #[.int .i64 n.places, vF, vI, vO, vK, vN, vC]] w' fun e w2 => e = .returned (.agg #[.int .i64 0, .int .i64 (-1)]) ∧ Hid (Below w'.heap.size w' w2)) := by
    intro w' hb
    have := cn_any w.heap.size n w' vF vI vO vK vN vC (h.below hb (Nat.le_refl _)) hcap hn.small ⟨cell_below hb hFine.1, cell_below hb hFine.2⟩
    rw [hz] at this
    exact this.mono fun e w2 ⟨he, hb2⟩ => ⟨he, hb2⟩
  have HNW : Hid (∀ w', Below w.heap.size w w' → Calls Tryz.prog 7 #[.agg #[.int .i64 n.places, vF, vI, vO, vK, vN, vC]] w' fun e w2 => ∃ bm, e = .returned (.tuple #[.pointer (some ⟨bm, 0, none⟩), .nilIface]) ∧ Hid (∃ g, IsM w.heap.size w2 bm g n n.first ∧ Below w'.heap.size w' w2)) :=
    fun w' hb => (new_fine w.heap.size n w' vF vI vO vK vN vC (h.below hb (Nat.le_refl _)) hb.size hn.small (by have := hn.2.1; omega) hok).mono fun e w2 ⟨bm, g, he, hM, _, _, _, hb2⟩ => ⟨bm, he, g, hM, hb2⟩
  have HRM : Hid (∀ w', Below w.heap.size w w' → Calls Tryz.prog 9 #[.agg #[.int .i64 n.places, vF, vI, vO, vK, vN, vC]] w' fun e w2 => ∃ br, e = .returned (.pointer (some ⟨br, 0, none⟩)) ∧ Hid (∃ g, IsR w.heap.size w2 br g 100000 n n.first ∧ w'.heap.size ≤ br ∧ w'.heap.size ≤ g ∧ Below w'.heap.size w' w2)) :=
    fun w' hb => (newR_any w.heap.size n w' vF vI vO vK vN vC (h.below hb (Nat.le_refl _)) hb.size (by have := hn.2.1; omega) hF1).mono fun e w2 ⟨br, g, he, hM, h1, h2, _, hb2⟩ => ⟨br, he, g, hM, h1, h2, hb2⟩
  have HIS : Hid (∀ w', Below w.heap.size w w' → Calls Tryz.prog 8 #[.nilIface, .agg #[.int .i64 0, .int .i64 (-1)]] w' fun e w2 => e = .returned (.bool true) ∧ Hid (Below w'.heap.size w' w2)) := by
    intro w' hb
    exact (is_isErr (B := 0) (f := (0, -1)) (by have := hE; unfold ErrType at *; exact cell_below hb this) (.inl ⟨rfl, rfl, rfl⟩)).mono fun e w2 ⟨he, hb2⟩ => ⟨he, hb2⟩
  have HFI : Hid (w.cell? ⟨0, 0, none⟩ = some (.int .i64 0) ∧ w.cell? ⟨0, 1, none⟩ = some (.int .i64 (-1))) := hFine
  have HFN : Hid (Fine n n.first.length) := (fine_of_check n hok hF2).1
  have HHD : Hid (Held n) := hn
  have HRA : Hid ((0 < rows.length → adr = some ⟨bR, offR, none⟩ ∧ bR < w.heap.size) ∧ (∀ k, k < rows.length → ∃ u, w.cell? ⟨bR, offR + k, none⟩ = some u ∧ Ints (· < w.heap.size) w u (rows.getD k []))) := ⟨hra, hrc⟩
  have HF3 : Hid (∀ k j, F64 ((rows.getD k []).getD j 0)) := hF3
  clear h hn hf hE hok hz hcap hFine hF1 hF2 hF3 hra hrc
  go_enter Tryz.func3, Tryz.ntmps3
  go_wp2_with (first
    | (go_at_call 4; refine hh.mono ?_; rintro e w1 ⟨rfl, X⟩; obtain ⟨d0, d1, d2, d3, d4, d5, d6⟩ := X.out.cells; clear hh)
    | (go_at_call 5; refine (HF.out w1 X.out.below).mono ?_; rintro e w2 ⟨rfl, hw2⟩; obtain rfl := hw2.symm)
    | (go_at_call 6; refine (HCN.out w1 X.out.below).mono ?_; rintro e w2 ⟨rfl, hb2⟩
       have X2 : Hid (RK w (w2.alloc (.cells #[.int .i64 0, .int .i64 (-1)] 32)) n vF vI vO vK vN vC) := (X.out.next hb2.out).next (grown_one w2 _)
       have F2 : Hid ((w2.alloc (.cells #[.int .i64 0, .int .i64 (-1)] 32)).cell? ⟨w2.heap.size, 0, none⟩ = some (.int .i64 0) ∧ (w2.alloc (.cells #[.int .i64 0, .int .i64 (-1)] 32)).cell? ⟨w2.heap.size, 1, none⟩ = some (.int .i64 (-1))) := (by constructor <;> simp)
       clear d0 d1 d2 d3 d4 d5 d6
       obtain ⟨d0, d1, d2, d3, d4, d5, d6⟩ := X2.out.cells)
    | (go_at_call 7; refine (HNW.out _ X2.out.below).mono ?_; rintro e w4 ⟨bm, rfl, M4⟩
       obtain ⟨g4, IM4, B4⟩ : ∃ g4, Hid (IsM w.heap.size w4 bm g4 n n.first) ∧ Hid (Below (w2.alloc (.cells #[.int .i64 0, .int .i64 (-1)] 32)).heap.size (w2.alloc (.cells #[.int .i64 0, .int .i64 (-1)] 32)) w4) := M4.out
       have X4 : Hid (RK w w4 n vF vI vO vK vN vC) := X2.out.next B4.out
       have q0 := cell_below B4.out F2.out.1
       have q1 := cell_below B4.out F2.out.2
       have his := HIS.out w4 X4.out.below
       clear d0 d1 d2 d3 d4 d5 d6 M4)
    | (go_at_call 8; refine his.mono ?_; rintro e w5 ⟨rfl, B5⟩
       have X5 : Hid (RK w w5 n vF vI vO vK vN vC) := X4.out.next B5.out
       have k0 := cell_below B5.out q0
       have k1 := cell_below B5.out q1
       have y0 := cell_below X5.out.below HFI.out.1
       have y1 := cell_below X5.out.below HFI.out.2
       obtain ⟨d0, d1, d2, d3, d4, d5, d6⟩ := X5.out.cells
       have hrm := HRM.out w5 X5.out.below
       clear his)
    | (go_at_call 9; refine hrm.mono ?_; rintro e w6 ⟨br, rfl, R6⟩
       have T6 : Hid (∃ g h V, TwoR w.heap.size w6 bm g br h n V V ∧ V.length = n.first.length ∧ Below w.heap.size w w6) := (by
         obtain ⟨h6, r1, r2, r3, r4⟩ := R6.out
         have b45 := B5.out
         have a1 := IM4.out.lt; have a2 := IM4.out.gl; have a3 := b45.size
         have k4 : Below w4.heap.size w4 w6 := ball b45 r4
         have hkB : w.heap.size ≤ w4.heap.size := X4.out.below.size
         exact ⟨g4, h6, n.first, ⟨IM4.out.keepR (fun b hl hs => ⟨hl, k4.block b hs⟩) (k4.block _ a1) (k4.block _ a2) k4.size, r1, by omega, by omega, by omega, by omega⟩, rfl, ball X5.out.below r4⟩)
       clear hrm d0 d1 d2 d3 d4 d5 d6 y0 y1 k0 k1 q0 q1))
  go_loopw [9] (fun i wr => ∃ k : Nat, k ≤ rows.length ∧ i = .int .i64 k ∧ Hid (∃ g h V, TwoR w.heap.size wr bm g br h n V V ∧ V.length = n.first.length ∧ Below w.heap.size w wr)) (fun i _ => rows.length - (intOf i).toNat)
  case atStart => exact ⟨0, Nat.zero_le _, rfl, T6.out⟩
  case round =>
    clear T6 R6 X5 X4 X2 X IM4 B4 B5
    obtain ⟨k, hk, rfl, TT⟩ := hrel
    by_cases hlt : k < rows.length
    · have hix := ix27 adr bR offR rows.length capR k hlt (fun h => (HRA.out.1 h).1)
      obtain ⟨g, h, V, T0⟩ : ∃ g h V, Hid (TwoR w.heap.size wr bm g br h n V V ∧ V.length = n.first.length ∧ Below w.heap.size w wr) := TT.out
      obtain ⟨u, hu, hI⟩ := HRA.out.2 k hlt
      have hbR := (HRA.out.1 (by omega)).2
      obtain ⟨z, hz⟩ : ∃ z, z = rows.getD k [] := ⟨_, rfl⟩
      rw [← hz] at hI
      have HZ : Hid (∀ j, F64 (z.getD j 0)) := fun j => by rw [hz]; exact HF3.out k j
      have HC : Hid (∀ w', Below w.heap.size w w' → w'.cell? ⟨bR, offR + k, none⟩ = some u ∧ Ints (· < w.heap.size) w' u z) := fun w' hb => ⟨by rw [cell_of_block (hb.block bR hbR)]; exact hu, hI.carry fun b hl _ => ⟨hl, hb.block b hl⟩⟩
      have c0 := (HC.out wr T0.out.2.2).1
      have HFW : Hid (Few n V) := HHD.out.few (by have := HHD.out.2.1; have := T0.out.2.1; omega)
      have HFV : Hid (Fine n V.length) := by unfold Hid; rw [T0.out.2.1]; exact HFN.out
      have hbd : Below w.heap.size w wr.drew := ball T0.out.2.2 ⟨rfl, rfl, rfl, Nat.le_refl _, fun _ _ => rfl⟩
      have td : TwoR w.heap.size wr.drew bm g br h n V V := T0.out.1.below ⟨rfl, rfl, rfl, Nat.le_refl _, fun _ _ => rfl⟩
      have htM := tickM w.heap.size wr.drew bm g br h n V V z u td (HC.out _ hbd).2 HFW.out
      have htR := tickR w.heap.size wr.drew bm g br h n V V z u td (HC.out _ hbd).2 HFW.out HFV.out HZ.out
      have HOL : Hid (n.outs.length ≤ 30) := HHD.out.2.2.2.1
      have HBD : Hid (Below w.heap.size w wr.drew) := hbd
      clear TT hu hI hbR hz td hbd
      go_wp2_with fail
      go_region_held3 (fun w' => w'.cell? ⟨bR, offR + k, none⟩ = some u) (first | exact hS3 | exact hS2 | exact hS1 | go_keep)
        ((first
          | (go_at_call 11; refine htM.mono ?_; rintro e wA ⟨v1, rfl, YA⟩
             obtain ⟨g', TA, RA, BA⟩ : ∃ g', Hid (TwoR w.heap.size wA bm g' br h n (after n V z) V) ∧ Hid (ResR wA bm g' br h v1 (tells n V z)) ∧ Hid (Below w.heap.size w wA) := (by obtain ⟨g', t1, t2, _, t4⟩ := YA.out; exact ⟨g', t1, t2, HBD.out.trans t4⟩)
             have hS1 := (HC.out wA BA.out).1
             have htR2 := tickR w.heap.size wA bm g' br h n (after n V z) V z u TA.out (HC.out _ BA.out).2 HFW.out HFV.out HZ.out
             clear htM htR YA)
          | (go_at_call 12; refine htR.mono ?_; rintro e wA ⟨v2, rfl, YA⟩
             obtain ⟨h', TA, RA, BA⟩ : ∃ h', Hid (TwoR w.heap.size wA bm g br h' n V (after n V z)) ∧ Hid (ResR wA bm g br h' v2 (tells n V z)) ∧ Hid (Below w.heap.size w wA) := (by obtain ⟨h', t1, t2, _, t4⟩ := YA.out; exact ⟨h', t1, t2, HBD.out.trans t4⟩)
             have hS1 := (HC.out wA BA.out).1
             have htM2 := tickM w.heap.size wA bm g br h' n V (after n V z) z u TA.out (HC.out _ BA.out).2 HFW.out
             clear htM htR YA)
          | (go_at_call 12; refine htR2.mono ?_; rintro e wB ⟨v2, rfl, YB⟩
             obtain ⟨h', TB, R1, R2, BB⟩ : ∃ h', Hid (TwoR w.heap.size wB bm g' br h' n (after n V z) (after n V z)) ∧ Hid (ResR wB bm g' br h' v1 (tells n V z)) ∧ Hid (ResR wB bm g' br h' v2 (tells n V z)) ∧ Hid (Below w.heap.size w wB) := (by obtain ⟨h', t1, t2, t3, t4⟩ := YB.out; exact ⟨h', t1, t3 _ _ RA.out, t2, BA.out.trans t4⟩)
             have hS2 := (HC.out wB BB.out).1
             have hs := sameN_any v1 v2 _ wB R1.out R2.out (by rw [tells_len]; have := HOL.out; omega)
             have TZ : Hid (∃ g h, TwoR w.heap.size wB bm g br h n (after n V z) (after n V z)) := ⟨_, _, TB.out⟩
             clear htR2 YB)
          | (go_at_call 11; refine htM2.mono ?_; rintro e wB ⟨v1, rfl, YB⟩
             obtain ⟨g', TB, R1, R2, BB⟩ : ∃ g', Hid (TwoR w.heap.size wB bm g' br h' n (after n V z) (after n V z)) ∧ Hid (ResR wB bm g' br h' v1 (tells n V z)) ∧ Hid (ResR wB bm g' br h' v2 (tells n V z)) ∧ Hid (Below w.heap.size w wB) := (by obtain ⟨g', t1, t2, t3, t4⟩ := YB.out; exact ⟨g', t1, t2, t3 _ _ RA.out, BA.out.trans t4⟩)
             have hS2 := (HC.out wB BB.out).1
             have hs := sameN_any v1 v2 _ wB R1.out R2.out (by rw [tells_len]; have := HOL.out; omega)
             have TZ : Hid (∃ g h, TwoR w.heap.size wB bm g br h n (after n V z) (after n V z)) := ⟨_, _, TB.out⟩
             clear htM2 YB)
          | (go_at_call 10; refine hs.mono ?_; rintro e wC ⟨rfl, hbC⟩
             have hS3 := (HC.out wC (ball BB.out hbC)).1
             have BC : Hid (Below wB.heap.size wB wC) := hbC
             clear hs hbC)))
      all_goals
        go_wp2_with fail
        go_roundw
        case rel =>
          obtain ⟨ga, ha, ta⟩ := TZ.out
          exact ⟨k + 1, by omega, by go_num, ga, ha, after n V z, ta.below BC.out, by rw [after_len]; exact T0.out.2.1, ball BB.out BC.out⟩
        case measure => simp [intOf]; omega
    · obtain rfl : k = rows.length := by omega
      go_wp2
      go_ret
      obtain ⟨_, _, _, _, _, hb⟩ := TT.out
      exact ⟨rfl, hb⟩
end Nx
end Go.Proofs.YtgjhfmkilpmfnaaGreatDoor
/- Rows of numbers that came in, as they lie in memory. -/
namespace Go.Proofs.YtgjhfmkilpmfnaaGreatDoor
open Go Go.RowKit Go.ChangeShapes Go.WideShapes
namespace Nx
section
variable {H : Type} {enc : TypeId × Value → H} {W : World} {sp : Nat → Bool} {held : Bool}

theorem choose_rows (m : Nat) (p : Nat → List Int → Prop) (h : ∀ i, i < m → ∃ z, p i z) : ∃ l : List (List Int), l.length = m ∧ ∀ i, i < m → p i (l.getD i []) := by
  induction m with
  | zero => exact ⟨[], rfl, fun i hi => by omega⟩
  | succ m ih =>
    obtain ⟨l, hl, hp⟩ := ih (fun i hi => h i (by omega))
    obtain ⟨z, hz⟩ := h m (by omega)
    refine ⟨l ++ [z], by simp [hl], fun i hi => ?_⟩
    by_cases e : i < m
    · have : (l ++ [z]).getD i [] = l.getD i [] := by simp [List.getD_eq_getElem?_getD, List.getElem?_append_left (show i < l.length by omega)]
      rw [this]; exact hp i e
    · obtain rfl : i = m := by omega
      have : (l ++ [z]).getD i [] = z := by subst hl; simp [List.getD_eq_getElem?_getD]
      rw [this]; exact hz

theorem irows_of_trod {fuel : Nat} {v : Value} {x : DataW H × List MemPlace} (hc1 : Tryz.prog.cellsOf 22 = 1) (hc2 : Tryz.prog.cellsOf 2 = 1)
    (h : DataW.trod enc Tryz.prog W 0 sp held fuel 27 [v] = some x) : ∃ (rows : List (List Int)) (ad : Option Addr) (b off cap : Nat), v = .slice ad rows.length cap ∧ (0 < rows.length → ad = some ⟨b, off, none⟩ ∧ b < W.heap.size) ∧
      (∀ k, k < rows.length → ∃ u, W.cell? ⟨b, off + k, none⟩ = some u ∧ Ints (· < W.heap.size) W u (rows.getD k [])) ∧ ∀ k j, F64 ((rows.getD k []).getD j 0) := by
  rcases Deep.open_slice1 Tryz.underlying27 hc1 h with ⟨hcs, _⟩ | ⟨a, len, cap, m, n, V, D, Pl, hcs, _, hl, hm, hmm, _, hx⟩
  · obtain rfl : v = .slice none 0 0 := by simpa using hcs
    exact ⟨[], none, 0, 0, 0, rfl, fun h => by simp at h, fun k hk => by simp at hk, fun k j => by simp [F64]⟩
  · obtain rfl : v = .slice (some a) len cap := by simpa using hcs
    have hlm : len ≤ m := by rw [hmm]; split <;> omega
    obtain ⟨rows, hrl, hr⟩ := choose_rows len (fun i z => Ints (· < W.heap.size) W (V i) z ∧ ∀ y ∈ z, Fits y) (fun i hi => by
      obtain ⟨zs, h1, h2⟩ := ints_of_trod Tryz.underlying22 Tryz.underlying2 hc2 (hx i (by omega)).2
      exact ⟨zs, h1, h2⟩)
    have hF : ∀ k j, F64 ((rows.getD k []).getD j 0) := by
      intro k j
      by_cases hk : k < len
      · by_cases hj : j < (rows.getD k []).length
        · have := (hr k hk).2 ((rows.getD k []).getD j 0) (by rw [List.getD_eq_getElem?_getD (l := rows.getD k []), List.getElem?_eq_getElem hj]; simp)
          exact this
        · rw [List.getD_eq_getElem?_getD (l := rows.getD k []), List.getElem?_eq_none (by omega)]; exact f64_0
      · have : rows.getD k [] = [] := by rw [List.getD_eq_getElem?_getD, List.getElem?_eq_none (by omega)]; rfl
        rw [this]; exact f64_0
    by_cases h0 : len = 0
    · exact ⟨rows, some a, 0, 0, cap, by rw [hrl], fun h => by omega, fun k hk => by omega, hF⟩
    · obtain ⟨b, off, spot⟩ := a
      have hc0 := (hx 0 (by omega)).1
      have hspot : spot = none := by simpa [Addr.add] using World.cell?_spot hc0
      subst hspot
      refine ⟨rows, some ⟨b, off, none⟩, b, off, cap, by rw [hrl], fun _ => ⟨rfl, ?_⟩, fun k hk => ⟨V k, ?_, (hr k (by omega)).1⟩, hF⟩
      · rw [add_none] at hc0; exact lt_of_cell hc0
      · have := (hx k (by omega)).1
        rw [add_none] at this
        exact this
end
end Nx
end Go.Proofs.YtgjhfmkilpmfnaaGreatDoor
/- NetRuns: the law, of whatever it is handed. -/
namespace Go.Proofs.YtgjhfmkilpmfnaaGreatDoor
open Go.RowKit
namespace Nx

theorem runs_any (n : Nt) (w : World) (vF vI vO vK vN vC : Value) (rows : List (List Int)) (adr : Option Addr) (bR offR capR : Nat) (h : NetV w.heap.size w n vF vI vO vK vN vC) (hcap : ∃ ad cap, vI = .slice ad n.ins.length cap ∧ n.ins.length ≤ cap) (hE : ErrType w)
    (hFine : w.cell? ⟨0, 0, none⟩ = some (.int .i64 0) ∧ w.cell? ⟨0, 1, none⟩ = some (.int .i64 (-1)))
    (hra : 0 < rows.length → adr = some ⟨bR, offR, none⟩ ∧ bR < w.heap.size) (hrc : ∀ k, k < rows.length → ∃ u, w.cell? ⟨bR, offR + k, none⟩ = some u ∧ Ints (· < w.heap.size) w u (rows.getD k []))
    (hF1 : ∀ k, F64 (n.first.getD k 0)) (hF2 : ∀ k, F64 (n.nums.getD k 0)) (hF3 : ∀ k j, F64 ((rows.getD k []).getD j 0)) :
    Calls Tryz.prog 3 #[.agg #[.int .i64 n.places, vF, vI, vO, vK, vN, vC], .slice adr rows.length capR] w fun e w' => e = .returned (.bool true) ∧ Below w.heap.size w w' := by
  by_cases hn : Held n
  · by_cases h40 : rows.length ≤ 40
    · have hcell : ∀ w', Below w.heap.size w w' → ∀ k, k < rows.length → ∃ a c, w'.cell? ⟨bR, offR + k, none⟩ = some (.slice a (rows.getD k []).length c) := by
        intro w' hb k hk
        obtain ⟨u, hu, ad, b, off, cap, rfl, _⟩ := hrc k hk
        exact ⟨ad, cap, cell_below hb hu⟩
      have hfew := fun w' hb => few_any adr rows.length capR bR offR w' (fun k => (rows.getD k []).length) h40 (fun hp => (hra hp).1) (hcell w' hb)
      by_cases hL : ∀ k, k < rows.length → (rows.getD k []).length ≤ 30
      · have hf : ∀ w', Below w.heap.size w w' → Calls Tryz.prog 5 #[.slice adr rows.length capR] w' fun e w2 => e = .returned (.bool true) ∧ w2 = w' := fun w' hb =>
          (hfew w' hb).mono fun e w2 ⟨ho, hw⟩ => ⟨by
            rcases ho with ⟨he, _⟩ | ⟨_, hno⟩
            · exact he
            · exact absurd hL hno, hw⟩
        by_cases hok : (check n).1 = 0
        · exact runs_fine n w vF vI vO vK vN vC rows adr bR offR capR h hcap hn hE hFine hf hok h40 hra hrc hF1 hF2 hF3
        · exact runs_bad n w vF vI vO vK vN vC _ h hcap hn hE hFine hf hok
      · refine runs_many n w vF vI vO vK vN vC _ h hn fun w' hb => (hfew w' hb).mono fun e w2 ⟨ho, hw⟩ => ⟨?_, hw⟩
        rcases ho with ⟨_, hy⟩ | ⟨he, _⟩
        · exact absurd hy hL
        · exact he
    · exact runs_many n w vF vI vO vK vN vC _ h hn fun w' _ => few_big adr rows.length capR w' (by omega)
  · exact runs_big n w vF vI vO vK vN vC _ h hn
end Nx
end Go.Proofs.YtgjhfmkilpmfnaaGreatDoor
/- Code that came in, once more: its inputs are no more than their capacity. -/
namespace Go.Proofs.YtgjhfmkilpmfnaaGreatDoor
open Go Go.RowKit Go.ChangeShapes Go.WideShapes
namespace Nx

section
variable {H : Type} {enc : TypeId × Value → H} {W : World} {sp : Nat → Bool} {held : Bool}

theorem cap_of_trod {t e : TypeId} (ht : Tryz.prog.underlying t = some (.slice e)) (he : Tryz.prog.underlying e = some (.int .i64)) (hc : Tryz.prog.cellsOf e = 1) {fuel : Nat} {v : Value} {x : DataW H × List MemPlace}
    (h : DataW.trod enc Tryz.prog W 0 sp held fuel t [v] = some x) {A : Nat → Prop} {zs : List Int} (hi : Ints A W v zs) : ∃ ad cap, v = .slice ad zs.length cap ∧ zs.length ≤ cap := by
  obtain ⟨ad, b, off, cap, rfl, _, _⟩ := hi
  refine ⟨ad, cap, rfl, ?_⟩
  rcases open_ints ht he hc h with ⟨hcs, _⟩ | ⟨a, len, cap', zs', hcs, _, hl, _⟩
  · have := hcs
    simp at this
    simp [this.2.1]
  · have := hcs
    simp at this
    omega

set_option maxRecDepth 100000 in
/-- code that was trod -/
theorem net_of_trodC {v : Value} {d : DataW H} {p : List MemPlace} {r : Reach} {b0 : Nat} (hv : Value.okWide Tryz.prog W r b0 26 v) (h : DataW.Trod enc Tryz.prog W 0 sp held 26 v d p) :
    ∃ (n : Nt) (vF vI vO vK vN vC : Value), v = .agg #[.int .i64 n.places, vF, vI, vO, vK, vN, vC] ∧ NetV W.heap.size W n vF vI vO vK vN vC ∧ (∀ z ∈ n.first, Fits z) ∧ (∀ z ∈ n.nums, Fits z) ∧ ∃ ad cap, vI = .slice ad n.ins.length cap ∧ n.ins.length ≤ cap := by
  obtain ⟨cs, rfl, hsz⟩ := okWide_struct Tryz.underlying26 hv
  have h7 : cs.size = 7 := hsz.trans (by kernel_rfl)
  obtain ⟨fuel, hf⟩ := h
  obtain ⟨xs, n, _, _, hl, hlen, hf⟩ := DataW.trod_struct Tryz.underlying26 hf
  obtain ⟨cs⟩ := cs
  have h7' : cs.length = 7 := h7
  match cs, h7' with
  | [c0, c1, c2, c3, c4, c5, c6], _ =>
    have hx : ∀ i, i < 7 → ∃ y, xs[i]? = some y := fun i hi => ⟨_, List.getElem?_eq_getElem (by rw [hlen]; exact hi)⟩
    have k0 : Tryz.prog.cellsOf 3 = 1 := by kernel_rfl
    have k1 : Tryz.prog.cellsOf 22 = 1 := by kernel_rfl
    have k2 : Tryz.prog.cellsOf 23 = 1 := by kernel_rfl
    have k3 : Tryz.prog.cellsOf 24 = 1 := by kernel_rfl
    have k4 : Tryz.prog.cellsOf 2 = 1 := by kernel_rfl
    obtain ⟨y0, e0⟩ := hx 0 (by omega)
    obtain ⟨y1, e1⟩ := hx 1 (by omega)
    obtain ⟨y2, e2⟩ := hx 2 (by omega)
    obtain ⟨y3, e3⟩ := hx 3 (by omega)
    obtain ⟨y4, e4⟩ := hx 4 (by omega)
    obtain ⟨y5, e5⟩ := hx 5 (by omega)
    obtain ⟨y6, e6⟩ := hx 6 (by omega)
    have f0 := hf 0 _ rfl
    have f1 := hf 1 _ rfl
    have f2 := hf 2 _ rfl
    have f3 := hf 3 _ rfl
    have f4 := hf 4 _ rfl
    have f5 := hf 5 _ rfl
    have f6 := hf 6 _ rfl
    rw [e0] at f0
    rw [e1] at f1
    rw [e2] at f2
    rw [e3] at f3
    rw [e4] at f4
    rw [e5] at f5
    rw [e6] at f6
    simp [Value.cells, k0, k1, k2, k3] at f0 f1 f2 f3 f4 f5 f6
    obtain ⟨P, g0, _⟩ := DataW.trod_int Tryz.underlying3 f0
    obtain rfl : c0 = .int .i64 P := by simpa using g0
    obtain ⟨l1, i1, w1⟩ := ints_of_trod Tryz.underlying22 Tryz.underlying2 k4 f1
    obtain ⟨l2, i2, _⟩ := ints_of_trod Tryz.underlying23 Tryz.underlying3 k0 f2
    have hcap := cap_of_trod Tryz.underlying23 Tryz.underlying3 k0 f2 i2
    obtain ⟨l3, i3, _⟩ := ints_of_trod Tryz.underlying23 Tryz.underlying3 k0 f3
    obtain ⟨l4, i4, _⟩ := ints_of_trod Tryz.underlying23 Tryz.underlying3 k0 f4
    obtain ⟨l5, i5, w5⟩ := ints_of_trod Tryz.underlying22 Tryz.underlying2 k4 f5
    obtain ⟨l6, i6⟩ := steps_of_trod f6
    exact ⟨⟨P, l1, l2, l3, l4, l5, l6⟩, c1, c2, c3, c4, c5, c6, rfl, ⟨i1, i2, i3, i4, i5, i6⟩, w1, w5, hcap⟩

end
end Nx
end Go.Proofs.YtgjhfmkilpmfnaaGreatDoor
