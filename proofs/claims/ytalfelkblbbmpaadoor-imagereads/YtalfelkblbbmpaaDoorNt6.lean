/- What net's closure that tells a place, all and Asks answer. -/
import Derived.Test.YtalfelkblbbmpaaDoorNt5
namespace Go.Proofs.YtalfelkblbbmpaaDoor
open Go.RowKit
namespace Nx

def plV (bn : Nat) : Value := .func (.func 38) #[] #[.pointer (some ⟨bn, 0, none⟩)]

theorem isPl_any (p P : Int) (bn : Nat) (w : World) (hc : w.cell? ⟨bn, 0, none⟩ = some (.int .i64 P)) :
    Calls Tryd.prog 38 #[.int .i64 p, .pointer (some ⟨bn, 0, none⟩)] w fun e w' => e = .returned (.bool (isPl P p)) ∧ w' = w := by
  by_cases h0 : 0 ≤ p
  · have E : Hid (isPl P p = decide (p < P)) := by unfold Hid isPl; simp [h0]
    go_enter Tryd.func38, Tryd.ntmps38
    go_wp2
    go_ret
    exact ⟨by rw [E.out]; rfl, rfl⟩
  · have E : Hid (isPl P p = false) := by unfold Hid isPl; simp [h0]
    have h1 : p < 0 := by omega
    go_enter Tryd.func38, Tryd.ntmps38
    go_wp2
    go_ret
    exact ⟨by rw [E.out]; rfl, rfl⟩

theorem notPl_any (p P : Int) (bn qb : Nat) (w : World) (hc : w.cell? ⟨bn, 0, none⟩ = some (.int .i64 P)) (hq : w.cell? ⟨qb, 0, none⟩ = some (.func (.func 38) #[] #[.pointer (some ⟨bn, 0, none⟩)])) :
    Calls Tryd.prog 58 #[.int .i64 p, .pointer (some ⟨qb, 0, none⟩)] w fun e w' => e = .returned (.bool (!isPl P p)) ∧ w' = w := by
  have h := isPl_any p P bn w hc
  obtain ⟨b, hb⟩ : ∃ b, b = isPl P p := ⟨_, rfl⟩
  rw [← hb] at h ⊢
  clear hb
  go_enter Tryd.func58, Tryd.ntmps58
  go_wp2_with (go_at_call 38; refine h.mono ?_; rintro e w' ⟨rfl, hw⟩; obtain rfl := hw.symm)
  go_ret
  exact ⟨rfl, rfl⟩

set_option maxHeartbeats 400000 in
theorem index_any {A : Nat → Prop} (v : Value) (zs : List Int) (P : Int) (bn qb : Nat) (w : World) (h : Ints A w v zs) (hbig : zs.length ≤ 100000) (hc : w.cell? ⟨bn, 0, none⟩ = some (.int .i64 P)) (hq : w.cell? ⟨qb, 0, none⟩ = some (.func (.func 38) #[] #[.pointer (some ⟨bn, 0, none⟩)])) :
    Calls Tryd.prog 67 #[v, .func (.func 58) #[] #[.pointer (some ⟨qb, 0, none⟩)]] w fun e w' => ∃ r : Int, e = .returned (.int .i64 r) ∧ decide (0 ≤ r) = !zs.all (isPl P) ∧ w' = w := by
  obtain ⟨ad, b, off, cap, rfl, h1, h2⟩ := h
  have H1 : Hid (0 < zs.length → ad = some ⟨b, off, none⟩ ∧ A b) := h1
  have H2 : Hid (∀ k, k < zs.length → w.cell? ⟨b, off + k, none⟩ = some (.int .i64 (zs.getD k 0))) := h2
  have hN := fun p => notPl_any p P bn qb w hc hq
  clear h1 h2 hc hq
  go_enter Tryd.func67, Tryd.ntmps67
  go_wp2
  go_loop [8] (fun i => ∃ k : Nat, k ≤ zs.length ∧ i = .int .i64 k ∧ ∀ j, j < k → isPl P (zs.getD j 0) = true) (fun i => zs.length - (intOf i).toNat)
  case atStart => exact ⟨0, Nat.zero_le _, rfl, fun j hj => by omega⟩
  case round =>
    obtain ⟨k, hk, rfl, hall⟩ := hrel
    have HA : Hid (∀ j, j < k → isPl P (zs.getD j 0) = true) := hall
    clear hall
    by_cases hlt : k < zs.length
    · have hix := ix23 ad b off zs.length cap k hlt (fun h => (H1.out h).1)
      obtain ⟨x, hx⟩ : ∃ x, x = zs.getD k 0 := ⟨_, rfl⟩
      have cx : w.cell? ⟨b, off + k, none⟩ = some (.int .i64 x) := by rw [hx]; exact H2.out k hlt
      have HX : Hid (x = zs.getD k 0) := hx
      clear hx
      have hn := hN x
      cases hb : isPl P x with
      | true =>
        rw [hb] at hn
        have HB : Hid (isPl P x = true) := hb
        clear hb
        go_wp2_with (go_at_call 58; refine hn.mono ?_; rintro e w' ⟨rfl, hw⟩; obtain rfl := hw.symm)
        go_round
        case rel => exact ⟨k + 1, by omega, by go_num, fun j hj => by
          by_cases e : j = k
          · rw [e, ← HX.out]; exact HB.out
          · exact HA.out j (by omega)⟩
        case measure => simp [intOf]; omega
      | false =>
        rw [hb] at hn
        have HB : Hid (isPl P x = false) := hb
        clear hb
        go_wp2_with (go_at_call 58; refine hn.mono ?_; rintro e w' ⟨rfl, hw⟩; obtain rfl := hw.symm)
        go_ret
        refine ⟨k, rfl, ?_, rfl⟩
        have : zs.all (isPl P) = false := by
          apply Bool.eq_false_iff.2
          intro h
          have := List.all_eq_true.1 h (zs[k]) (List.getElem_mem hlt)
          have e : zs.getD k 0 = zs[k] := by simp [List.getD_eq_getElem?_getD, hlt]
          rw [← e, ← HX.out, HB.out] at this; cases this
        rw [this]; simp
    · go_wp2
      go_ret
      refine ⟨-1, rfl, ?_, rfl⟩
      have : zs.all (isPl P) = true := List.all_eq_true.2 fun y hy => by
        obtain ⟨j, hj, rfl⟩ := List.getElem_of_mem hy
        have := HA.out j (by omega)
        simpa [List.getD_eq_getElem?_getD, hj] using this
      rw [this]; rfl

theorem contains_any {A : Nat → Prop} (v : Value) (zs : List Int) (P : Int) (bn qb : Nat) (w : World) (h : Ints A w v zs) (hbig : zs.length ≤ 100000) (hc : w.cell? ⟨bn, 0, none⟩ = some (.int .i64 P)) (hq : w.cell? ⟨qb, 0, none⟩ = some (.func (.func 38) #[] #[.pointer (some ⟨bn, 0, none⟩)])) :
    Calls Tryd.prog 57 #[v, .func (.func 58) #[] #[.pointer (some ⟨qb, 0, none⟩)]] w fun e w' => e = .returned (.bool (!zs.all (isPl P))) ∧ w' = w := by
  have hi := index_any v zs P bn qb w h hbig hc hq
  clear h hc hq
  go_enter Tryd.func57, Tryd.ntmps57
  go_wp2_with (go_at_call 67; refine hi.mono ?_; rintro e w' ⟨r, rfl, hr, hw⟩; obtain rfl := hw.symm; have HR : Hid (decide (0 ≤ r) = !zs.all (isPl P)) := hr; clear hr)
  go_ret
  exact ⟨by rw [← HR.out]; rfl, rfl⟩

set_option maxHeartbeats 400000 in
theorem all_any {A : Nat → Prop} (v : Value) (zs : List Int) (P : Int) (bn : Nat) (w : World) (h : Ints A w v zs) (hbig : zs.length ≤ 100000) (hc : w.cell? ⟨bn, 0, none⟩ = some (.int .i64 P)) :
    Calls Tryd.prog 52 #[v, .func (.func 38) #[] #[.pointer (some ⟨bn, 0, none⟩)]] w fun e w' => e = .returned (.bool (zs.all (isPl P))) ∧ Below w.heap.size w w' := by
  have hcon := contains_any v zs P bn w.heap.size (w.alloc (.cells #[.func (.func 38) #[] #[.pointer (some ⟨bn, 0, none⟩)]] 85)) (h.carry fun b ha hl => ⟨ha, Below.heap_alloc _ _ _ hl⟩) hbig (cell_below (grown_one w _) hc) (by simp)
  obtain ⟨bb, hbb⟩ : ∃ bb, bb = zs.all (isPl P) := ⟨_, rfl⟩
  rw [← hbb] at hcon ⊢
  clear h hc hbb
  go_enter Tryd.func52, Tryd.ntmps52
  go_wp2_with (go_at_call 57; refine hcon.mono ?_; rintro e w' ⟨rfl, hw⟩; obtain rfl := hw.symm)
  go_ret
  refine ⟨?_, grown_one w _⟩
  cases bb <;> rfl

/-! Asks -/
theorem ints1 (w : World) (a : Int) : Ints (fun b => w.heap.size ≤ b) (w.alloc (.cells #[.int .i64 a] 3)) (.slice (some ⟨w.heap.size, 0, none⟩) 1 1) [a] :=
  ⟨_, w.heap.size, 0, 1, rfl, fun _ => ⟨rfl, Nat.le_refl _⟩, fun k hk => by
    match k, hk with
    | 0, _ => simp⟩
theorem ints2 (w : World) (a b : Int) : Ints (fun b => w.heap.size ≤ b) (w.alloc (.cells #[.int .i64 a, .int .i64 b] 3)) (.slice (some ⟨w.heap.size, 0, none⟩) 2 2) [a, b] :=
  ⟨_, w.heap.size, 0, 2, rfl, fun _ => ⟨rfl, Nat.le_refl _⟩, fun k hk => by
    match k, hk with
    | 0, _ => simp
    | 1, _ => simp⟩
theorem ints3 (w : World) (a b c : Int) : Ints (fun b => w.heap.size ≤ b) (w.alloc (.cells #[.int .i64 a, .int .i64 b, .int .i64 c] 3)) (.slice (some ⟨w.heap.size, 0, none⟩) 3 3) [a, b, c] :=
  ⟨_, w.heap.size, 0, 3, rfl, fun _ => ⟨rfl, Nat.le_refl _⟩, fun k hk => by
    match k, hk with
    | 0, _ => simp
    | 1, _ => simp
    | 2, _ => simp⟩

set_option maxHeartbeats 1000000 in
theorem asks_any (code dst a b c : Int) (w : World) :
    Calls Tryd.prog 42 #[.agg #[.int .i64 code, .int .i64 dst, .int .i64 a, .int .i64 b, .int .i64 c]] w fun e w' => ∃ v, e = .returned v ∧ Ints (fun b => w.heap.size ≤ b) w' v (asks ⟨code, dst, a, b, c⟩) ∧ Below w.heap.size w w' := by
  have hb0 := fun o => grown_one w o
  by_cases h1 : code = 2 ∨ code = 4 ∨ code = 5
  · have E : Hid (asks ⟨code, dst, a, b, c⟩ = [a]) := by unfold Hid asks; rw [if_pos h1]
    rcases h1 with rfl | rfl | rfl
    all_goals
      go_enter Tryd.func42, Tryd.ntmps42
      go_wp2
      go_ret
      refine ⟨_, rfl, ?_, ball (hb0 _) (grown_one _ _)⟩
      rw [E.out]
      obtain ⟨ad, bb, off, cap, e, x1, x2⟩ := ints1 (w.alloc (.cells #[.int .i64 _, .int .i64 dst, .int .i64 a, .int .i64 b, .int .i64 c] 55)) a
      refine ⟨ad, bb, off, cap, ?_, fun hp => ⟨(x1 hp).1, Nat.le_trans (hb0 _).size (x1 hp).2⟩, x2⟩
      rw [← e]; simp
  · by_cases h2 : 6 ≤ code ∧ code ≤ 16
    · have E : Hid (asks ⟨code, dst, a, b, c⟩ = [a, b]) := by unfold Hid asks; rw [if_neg h1, if_pos h2]
      obtain ⟨h3, h4⟩ := h2
      clear h1
      have t2 : (code == 2) = false := by simp; omega
      have t4 : (code == 4) = false := by simp; omega
      have t5 : (code == 5) = false := by simp; omega
      go_enter Tryd.func42, Tryd.ntmps42
      go_wp2
      go_ret
      refine ⟨_, rfl, ?_, ball (hb0 _) (grown_one _ _)⟩
      rw [E.out]
      obtain ⟨ad, bb, off, cap, e, x1, x2⟩ := ints2 (w.alloc (.cells #[.int .i64 code, .int .i64 dst, .int .i64 a, .int .i64 b, .int .i64 c] 55)) a b
      refine ⟨ad, bb, off, cap, ?_, fun hp => ⟨(x1 hp).1, Nat.le_trans (hb0 _).size (x1 hp).2⟩, x2⟩
      rw [← e]; simp
    · by_cases h3 : code = 17
      · have E : Hid (asks ⟨code, dst, a, b, c⟩ = [a, b, c]) := by unfold Hid asks; rw [if_neg h1, if_neg h2, if_pos h3]
        subst h3
        clear h1 h2
        go_enter Tryd.func42, Tryd.ntmps42
        go_wp2
        go_ret
        refine ⟨_, rfl, ?_, ball (hb0 _) (grown_one _ _)⟩
        rw [E.out]
        obtain ⟨ad, bb, off, cap, e, x1, x2⟩ := ints3 (w.alloc (.cells #[.int .i64 17, .int .i64 dst, .int .i64 a, .int .i64 b, .int .i64 c] 55)) a b c
        refine ⟨ad, bb, off, cap, ?_, fun hp => ⟨(x1 hp).1, Nat.le_trans (hb0 _).size (x1 hp).2⟩, x2⟩
        rw [← e]; simp
      · have E : Hid (asks ⟨code, dst, a, b, c⟩ = []) := by unfold Hid asks; rw [if_neg h1, if_neg h2, if_neg h3]
        have t2 : (code == 2) = false := by simp; omega
        have t4 : (code == 4) = false := by simp; omega
        have t5 : (code == 5) = false := by simp; omega
        have t17 : (code == 17) = false := by simp; omega
        clear h1 h3
        by_cases h6 : 6 ≤ code
        · have h16 : 16 < code := by omega
          clear h2
          go_enter Tryd.func42, Tryd.ntmps42
          go_wp2
          go_ret
          exact ⟨_, rfl, by rw [E.out]; exact ⟨none, 0, 0, 0, rfl, fun h => by simp at h, fun k hk => by simp at hk⟩, hb0 _⟩
        · have h16 : code < 6 := by omega
          clear h2
          go_enter Tryd.func42, Tryd.ntmps42
          go_wp2
          go_ret
          exact ⟨_, rfl, by rw [E.out]; exact ⟨none, 0, 0, 0, rfl, fun h => by simp at h, fun k hk => by simp at hk⟩, hb0 _⟩
end Nx
end Go.Proofs.YtalfelkblbbmpaaDoor
