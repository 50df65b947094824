/- The document's own answer on code: Asks; what check comes to, way by way. -/
import Derived.Test.YtalfelkblbbmpaaDoorNr1
import Derived.Test.YtalfelkblbbmpaaDoorNtA
namespace Go.Proofs.YtalfelkblbbmpaaDoor
open Go.RowKit
namespace Nx

set_option maxHeartbeats 1000000 in
theorem refAsks_any (code dst a b c : Int) (w : World) :
    Calls Tryd.prog 17 #[.agg #[.int .i64 code, .int .i64 dst, .int .i64 a, .int .i64 b, .int .i64 c]] w fun e w' => ∃ v, e = .returned v ∧ Ints (fun b => w.heap.size ≤ b) w' v (asks ⟨code, dst, a, b, c⟩) ∧ Below w.heap.size w w' := by
  have hb0 := fun o => grown_one w o
  by_cases h1 : code = 2 ∨ code = 4 ∨ code = 5
  · have E : Hid (asks ⟨code, dst, a, b, c⟩ = [a]) := by unfold Hid asks; rw [if_pos h1]
    rcases h1 with rfl | rfl | rfl
    all_goals
      go_enter Tryd.func17, Tryd.ntmps17
      go_wp2
      go_ret
      refine ⟨_, rfl, ?_, ball (hb0 _) (grown_one _ _)⟩
      rw [E.out]
      obtain ⟨ad, bb, off, cap, e, x1, x2⟩ := ints1 (w.alloc (.cells #[.int .i64 _, .int .i64 dst, .int .i64 a, .int .i64 b, .int .i64 c] 55)) a
      refine ⟨ad, bb, off, cap, ?_, fun hp => ⟨(x1 hp).1, Nat.le_trans (hb0 _).size (x1 hp).2⟩, x2⟩
      rw [← e]; simp
  · by_cases h2 : 6 ≤ code ∧ code ≤ 16
    · have E : Hid (asks ⟨code, dst, a, b, c⟩ = [a, b]) := by unfold Hid asks; rw [if_neg h1, if_pos h2]
      have hin := fun W => in_any code 6 16 W
      rw [show (decide (6 ≤ code) && decide (code ≤ 16)) = true by simp; omega] at hin
      obtain ⟨h3, h4⟩ := h2
      clear h1
      have t2 : (code == 2) = false := by simp; omega
      have t4 : (code == 4) = false := by simp; omega
      have t5 : (code == 5) = false := by simp; omega
      go_enter Tryd.func17, Tryd.ntmps17
      go_wp2_with (go_at_call 35; refine (hin _).mono ?_; rintro e w' ⟨rfl, hw⟩; obtain rfl := hw.symm)
      go_ret
      refine ⟨_, rfl, ?_, ball (hb0 _) (grown_one _ _)⟩
      rw [E.out]
      obtain ⟨ad, bb, off, cap, e, x1, x2⟩ := ints2 (w.alloc (.cells #[.int .i64 code, .int .i64 dst, .int .i64 a, .int .i64 b, .int .i64 c] 55)) a b
      refine ⟨ad, bb, off, cap, ?_, fun hp => ⟨(x1 hp).1, Nat.le_trans (hb0 _).size (x1 hp).2⟩, x2⟩
      rw [← e]; simp
    · by_cases h3 : code = 17
      · have E : Hid (asks ⟨code, dst, a, b, c⟩ = [a, b, c]) := by unfold Hid asks; rw [if_neg h1, if_neg h2, if_pos h3]
        subst h3
        clear h1 h2
        have hin := fun W => in_any 17 6 16 W
        rw [show (decide ((6 : Int) ≤ 17) && decide ((17 : Int) ≤ 16)) = false by decide] at hin
        go_enter Tryd.func17, Tryd.ntmps17
        go_wp2_with (go_at_call 35; refine (hin _).mono ?_; rintro e w' ⟨rfl, hw⟩; obtain rfl := hw.symm)
        go_ret
        refine ⟨_, rfl, ?_, ball (hb0 _) (grown_one _ _)⟩
        rw [E.out]
        obtain ⟨ad, bb, off, cap, e, x1, x2⟩ := ints3 (w.alloc (.cells #[.int .i64 17, .int .i64 dst, .int .i64 a, .int .i64 b, .int .i64 c] 55)) a b c
        refine ⟨ad, bb, off, cap, ?_, fun hp => ⟨(x1 hp).1, Nat.le_trans (hb0 _).size (x1 hp).2⟩, x2⟩
        rw [← e]; simp
      · have E : Hid (asks ⟨code, dst, a, b, c⟩ = []) := by unfold Hid asks; rw [if_neg h1, if_neg h2, if_neg h3]
        have t2 : (code == 2) = false := by simp; omega
        have t4 : (code == 4) = false := by simp; omega
        have t5 : (code == 5) = false := by simp; omega
        have t17 : (code == 17) = false := by simp; omega
        have hin := fun W => in_any code 6 16 W
        rw [show (decide (6 ≤ code) && decide (code ≤ 16)) = false by simp; omega] at hin
        clear h1 h3
        by_cases h6 : 6 ≤ code
        · have h16 : 16 < code := by omega
          clear h2
          go_enter Tryd.func17, Tryd.ntmps17
          go_wp2_with (go_at_call 35; refine (hin _).mono ?_; rintro e w' ⟨rfl, hw⟩; obtain rfl := hw.symm)
          go_ret
          exact ⟨_, rfl, by rw [E.out]; exact ⟨none, 0, 0, 0, rfl, fun h => by simp at h, fun k hk => by simp at hk⟩, hb0 _⟩
        · have h16 : code < 6 := by omega
          clear h2
          go_enter Tryd.func17, Tryd.ntmps17
          go_wp2_with (go_at_call 35; refine (hin _).mono ?_; rintro e w' ⟨rfl, hw⟩; obtain rfl := hw.symm)
          go_ret
          exact ⟨_, rfl, by rw [E.out]; exact ⟨none, 0, 0, 0, rfl, fun h => by simp at h, fun k hk => by simp at hk⟩, hb0 _⟩

theorem refAsksK (code dst a b c : Int) (w : World) :
    Calls Tryd.prog 17 #[.agg #[.int .i64 code, .int .i64 dst, .int .i64 a, .int .i64 b, .int .i64 c]] w fun e w' => ∃ ad cap, e = .returned (.slice ad (asks ⟨code, dst, a, b, c⟩).length cap) ∧ Hid (Ints (fun b => w.heap.size ≤ b) w' (.slice ad (asks ⟨code, dst, a, b, c⟩).length cap) (asks ⟨code, dst, a, b, c⟩)) ∧ Hid (Below w.heap.size w w') := by
  refine (refAsks_any code dst a b c w).mono fun e w' ⟨v, he, hi, hb⟩ => ?_
  obtain ⟨ad, b', off, cap, rfl, h1, h2⟩ := hi
  exact ⟨ad, cap, he, ⟨ad, b', off, cap, rfl, h1, h2⟩, hb⟩

theorem not_big {n : Nt} (hs : Small n) (h0 : 0 ≤ n.places) : ¬ (n.places < 0 ∨ 4000 < n.places ∨ 4000 < n.code.length ∨ 4000 < n.nums.length ∨ 4000 < n.ins.length + n.outs.length + n.keeps.length) := by
  have s1 := hs.p; have s2 := hs.c; have s3 := hs.m; have s4 := hs.s
  omega
theorem check_form {n : Nt} (hs : Small n) (h0 : 0 ≤ n.places) (hf : (n.first.length : Int) ≠ n.places) : check n = (3, -1) := by
  have e : wholeE n = 3 := by unfold wholeE; rw [if_neg (not_big hs h0), if_pos hf]
  unfold check; rw [e]; rfl
theorem check_range {n : Nt} (hs : Small n) (h0 : 0 ≤ n.places) (hf : (n.first.length : Int) = n.places) (h : n.ins.all (isPl n.places) = false ∨ n.outs.all (isPl n.places) = false ∨ n.keeps.all (isPl n.places) = false) : check n = (2, -1) := by
  have e : wholeE n = 2 := by
    unfold wholeE
    rw [if_neg (not_big hs h0), if_neg (fun x => x hf), if_pos]
    rintro ⟨a, b, c⟩
    rcases h with h | h | h
    · rw [h] at a; cases a
    · rw [h] at b; cases b
    · rw [h] at c; cases c
  unfold check; rw [e]; rfl
theorem check_dup {n : Nt} (hs : Small n) (h0 : 0 ≤ n.places) (hf : (n.first.length : Int) = n.places) (h1 : n.ins.all (isPl n.places) = true) (h2 : n.outs.all (isPl n.places) = true) (h3 : n.keeps.all (isPl n.places) = true) (h : ¬ n.ins.Nodup) : check n = (9, -1) := by
  have e : wholeE n = 9 := by
    unfold wholeE
    rw [if_neg (not_big hs h0), if_neg (fun x => x hf), if_neg (fun x => x ⟨h1, h2, h3⟩), if_pos h]
  unfold check; rw [e]; rfl
theorem check_rest {n : Nt} (hs : Small n) (h0 : 0 ≤ n.places) (hf : (n.first.length : Int) = n.places) (h1 : n.ins.all (isPl n.places) = true) (h2 : n.outs.all (isPl n.places) = true) (h3 : n.keeps.all (isPl n.places) = true) (h : n.ins.Nodup) : check n = stepsE n.places n.nums.length n.code 0 := by
  have e : wholeE n = 0 := by
    unfold wholeE
    rw [if_neg (not_big hs h0), if_neg (fun x => x hf), if_neg (fun x => x ⟨h1, h2, h3⟩), if_neg (fun x => x h)]
  unfold check; rw [e]; rfl

theorem all_of_at {P : Int} {zs : List Int} (h : ∀ j, j < zs.length → isPl P (zs.getD j 0) = true) : zs.all (isPl P) = true := List.all_eq_true.2 fun y hy => by
  obtain ⟨j, hj, rfl⟩ := List.getElem_of_mem hy
  simpa [List.getD_eq_getElem?_getD, hj] using h j hj
theorem not_all_at {P : Int} {zs : List Int} {k : Nat} (hk : k < zs.length) (h : isPl P (zs.getD k 0) = false) : zs.all (isPl P) = false := by
  apply Bool.eq_false_iff.2
  intro ha
  have := List.all_eq_true.1 ha (zs[k]) (List.getElem_mem hk)
  rw [show zs.getD k 0 = zs[k] by simp [List.getD_eq_getElem?_getD, hk]] at h
  rw [h] at this; cases this
theorem nodup_at {zs : List Int} (h : ∀ i, i < zs.length → ∀ j, j < i → zs.getD j 0 ≠ zs.getD i 0) : zs.Nodup := by
  apply List.pairwise_iff_getElem.2
  intro i j hi hj hij
  have := h j hj i hij
  simpa [List.getD_eq_getElem?_getD, hi, hj] using this
theorem dup_at {zs : List Int} {i j : Nat} (hi : i < zs.length) (hj : j < i) (h : zs.getD j 0 = zs.getD i 0) : ¬ zs.Nodup := fun hn => by
  have := (List.pairwise_iff_getElem.1 hn) j i (by omega) hi hj
  have hj' : j < zs.length := by omega
  simp [List.getD_eq_getElem?_getD, hi, hj'] at h
  exact this h
end Nx
end Go.Proofs.YtalfelkblbbmpaaDoor
