/-
  What the document's own answer for numbers returns.
-/
import Derived.Test.YtgjhfmkilpmfnaaGreatDoorJNt3
import Derived.Test.YtgjhfmkilpmfnaaGreatDoorJNg2
import Derived.Test.YtgjhfmkilpmfnaaGreatDoorJNt8b
import Derived.Test.YtgjhfmkilpmfnaaGreatDoorJNtA
namespace Go.Proofs.YtgjhfmkilpmfnaaGreatDoor
open Go.RowKit

theorem yes_any (b : Bool) (w : World) :
    Calls Tryz.prog 35 #[.bool b] w fun e w' => e = .returned (.int .i64 (yes b)) ∧ w' = w := by
  cases b
  all_goals
    go_enter Tryz.func35, Tryz.ntmps35
    go_wp2
    go_ret
    exact ⟨rfl, rfl⟩

theorem refOne_any (c a : Int) (w : World) :
    Calls Tryz.prog 25 #[.int .i64 c, .int .i64 a] w fun e w' => e = .returned (.int .i64 (vOne c a)) ∧ w' = w := by
  by_cases h4 : c = 4
  · subst h4
    go_enter Tryz.func25, Tryz.ntmps25
    go_wp2
    go_ret
    exact ⟨rfl, rfl⟩
  · by_cases h5 : c = 5
    · subst h5
      go_enter Tryz.func25, Tryz.ntmps25
      go_wp2_with (go_at_call 35; refine (yes_any _ _).mono ?_; rintro e w' ⟨rfl, rfl⟩)
      go_ret
      exact ⟨rfl, rfl⟩
    · have E : Hid (vOne c a = yes false) := by unfold Hid vOne; rw [if_neg h4, if_neg h5]; rfl
      have b4 : (c == 4) = false := by simpa using h4
      have b5 : (c == 5) = false := by simpa using h5
      go_enter Tryz.func25, Tryz.ntmps25
      go_wp2_with (go_at_call 35; refine (yes_any _ _).mono ?_; rintro e w' ⟨rfl, rfl⟩)
      go_ret
      exact ⟨by rw [E.out]; rfl, rfl⟩

theorem refPick_any (a b c : Int) (w : World) :
    Calls Tryz.prog 27 #[.int .i64 a, .int .i64 b, .int .i64 c] w fun e w' => e = .returned (.int .i64 (vPick a b c)) ∧ w' = w := by
  by_cases h : a = 0
  · subst h
    go_enter Tryz.func27, Tryz.ntmps27
    go_wp2
    go_ret
    exact ⟨rfl, rfl⟩
  · have E : Hid (vPick a b c = b) := by unfold Hid vPick; rw [if_neg h]
    have b4 : (a == 0) = false := by simpa using h
    go_enter Tryz.func27, Tryz.ntmps27
    go_wp2
    go_ret
    exact ⟨by rw [E.out]; rfl, rfl⟩

theorem size_neg (a : Int) (ha : -9223372036854775808 ≤ a) (h : a < 0) : IntKind.u64.wrap (-IntKind.u64.wrap a) = (a.natAbs : Int) := by
  rw [IntKind.wrap_u64, IntKind.wrap_u64]
  omega

theorem size_any (a : Int) (w : World) (ha : -9223372036854775808 ≤ a ∧ a ≤ 9223372036854775807) :
    Calls Tryz.prog 53 #[.int .i64 a] w fun e w' => e = .returned (.int .u64 a.natAbs) ∧ w' = w := by
  by_cases h : a < 0
  · have E : Hid (IntKind.u64.wrap (-IntKind.u64.wrap a) = (a.natAbs : Int)) := size_neg a ha.1 h
    go_enter Tryz.func53, Tryz.ntmps53
    go_wp2
    go_ret
    exact ⟨by rw [← E.out]; rfl, rfl⟩
  · have E : Hid ((a.natAbs : Int) = a) := by unfold Hid; omega
    go_enter Tryz.func53, Tryz.ntmps53
    go_wp2
    go_ret
    exact ⟨by rw [E.out]; rfl, rfl⟩

theorem ret2 {k : IntKind} {a b c d : Int} (h : a = c) (h' : b = d) : Ending.returned (.tuple #[.int k a, .int k b]) = .returned (.tuple #[.int k c, .int k d]) := by rw [h, h']

theorem ret1 {k : IntKind} {a b : Int} (h : a = b) : Ending.returned (.int k a) = .returned (.int k b) := by rw [h]

set_option maxHeartbeats 400000 in
theorem divide_any (a b : Int) (w : World) (ha : -9223372036854775808 ≤ a ∧ a ≤ 9223372036854775807) (hb : -9223372036854775808 ≤ b ∧ b ≤ 9223372036854775807) :
    Calls Tryz.prog 36 #[.int .i64 a, .int .i64 b] w fun e w' => e = .returned (.tuple #[.int .i64 (vDiv a b), .int .i64 (vMod a b)]) ∧ w' = w := by
  by_cases h : b = 0
  · subst h
    go_enter Tryz.func36, Tryz.ntmps36
    go_wp2
    go_ret2
    exact ⟨rfl, rfl⟩
  · have hl : Hid (wrap64 (a - wrap64 (vDiv a b * b)) = vMod a b) := left_is a b hb h
    by_cases hs : decide (a < 0) = decide (b < 0)
    · have hq : Hid (wrap64 (IntKind.u64.wrap ((a.natAbs : Int) / (b.natAbs : Int))) = vDiv a b) := quo_same a b ha h hs
      have ht : (!decide (a < 0) == decide (b < 0)) = false := by simp [hs]
      have ht' : (decide (a < 0) != decide (b < 0)) = false := by simp [hs]
      clear hs
      go_enter Tryz.func36, Tryz.ntmps36
      go_wp2_with (go_at_call 53; refine (size_any _ _ (by assumption)).mono ?_; rintro e w' ⟨rfl, rfl⟩)
      go_ret2
      exact ⟨ret2 hq.out (by rw [hq.out]; exact hl.out), rfl⟩
    · have hq : Hid (wrap64 (-wrap64 (IntKind.u64.wrap ((a.natAbs : Int) / (b.natAbs : Int)))) = vDiv a b) := quo_other a b ha h hs
      have ht : (!decide (a < 0) == decide (b < 0)) = true := by simpa using hs
      have ht' : (decide (a < 0) != decide (b < 0)) = true := by simpa using hs
      clear hs
      go_enter Tryz.func36, Tryz.ntmps36
      go_wp2_with (go_at_call 53; refine (size_any _ _ (by assumption)).mono ?_; rintro e w' ⟨rfl, rfl⟩)
      go_ret2
      exact ⟨ret2 hq.out (by rw [hq.out]; exact hl.out), rfl⟩

end Go.Proofs.YtgjhfmkilpmfnaaGreatDoor
/-
  What the document's own Two returns, of any code.
-/
namespace Go.Proofs.YtgjhfmkilpmfnaaGreatDoor
open Go.RowKit

set_option maxHeartbeats 400000 in
theorem refTwo_6 (a b : Int) (w : World) :
    Calls Tryz.prog 26 #[.int .i64 6, .int .i64 a, .int .i64 b] w fun e w' => e = .returned (.int .i64 (vTwo 6 a b)) ∧ w' = w := by
  go_enter Tryz.func26, Tryz.ntmps26
  go_wp2
  go_ret
  exact ⟨ret1 (u_add a b), rfl⟩

set_option maxHeartbeats 400000 in
theorem refTwo_7 (a b : Int) (w : World) :
    Calls Tryz.prog 26 #[.int .i64 7, .int .i64 a, .int .i64 b] w fun e w' => e = .returned (.int .i64 (vTwo 7 a b)) ∧ w' = w := by
  go_enter Tryz.func26, Tryz.ntmps26
  go_wp2
  go_ret
  exact ⟨ret1 (u_sub a b), rfl⟩

set_option maxHeartbeats 400000 in
theorem refTwo_8 (a b : Int) (w : World) :
    Calls Tryz.prog 26 #[.int .i64 8, .int .i64 a, .int .i64 b] w fun e w' => e = .returned (.int .i64 (vTwo 8 a b)) ∧ w' = w := by
  go_enter Tryz.func26, Tryz.ntmps26
  go_wp2
  go_ret
  exact ⟨ret1 (u_mul a b), rfl⟩

set_option maxHeartbeats 400000 in
theorem refTwo_9 (a b : Int) (w : World) (ha : -9223372036854775808 ≤ a ∧ a ≤ 9223372036854775807) (hb : -9223372036854775808 ≤ b ∧ b ≤ 9223372036854775807) :
    Calls Tryz.prog 26 #[.int .i64 9, .int .i64 a, .int .i64 b] w fun e w' => e = .returned (.int .i64 (vTwo 9 a b)) ∧ w' = w := by
  go_enter Tryz.func26, Tryz.ntmps26
  go_wp2_with (go_at_call 36; refine (divide_any _ _ _ ha hb).mono ?_; rintro e w' ⟨rfl, rfl⟩)
  go_ret
  exact ⟨rfl, rfl⟩

set_option maxHeartbeats 400000 in
theorem refTwo_10 (a b : Int) (w : World) (ha : -9223372036854775808 ≤ a ∧ a ≤ 9223372036854775807) (hb : -9223372036854775808 ≤ b ∧ b ≤ 9223372036854775807) :
    Calls Tryz.prog 26 #[.int .i64 10, .int .i64 a, .int .i64 b] w fun e w' => e = .returned (.int .i64 (vTwo 10 a b)) ∧ w' = w := by
  go_enter Tryz.func26, Tryz.ntmps26
  go_wp2_with (go_at_call 36; refine (divide_any _ _ _ ha hb).mono ?_; rintro e w' ⟨rfl, rfl⟩)
  go_ret
  exact ⟨rfl, rfl⟩

set_option maxHeartbeats 400000 in
theorem refTwo_11 (a b : Int) (w : World) :
    Calls Tryz.prog 26 #[.int .i64 11, .int .i64 a, .int .i64 b] w fun e w' => e = .returned (.int .i64 (vTwo 11 a b)) ∧ w' = w := by
  go_enter Tryz.func26, Tryz.ntmps26
  go_wp2_with (go_at_call 35; refine (yes_any _ _).mono ?_; rintro e w' ⟨rfl, rfl⟩)
  go_ret
  exact ⟨ret1 (rfl), rfl⟩

set_option maxHeartbeats 400000 in
theorem refTwo_12 (a b : Int) (w : World) :
    Calls Tryz.prog 26 #[.int .i64 12, .int .i64 a, .int .i64 b] w fun e w' => e = .returned (.int .i64 (vTwo 12 a b)) ∧ w' = w := by
  go_enter Tryz.func26, Tryz.ntmps26
  go_wp2_with (go_at_call 35; refine (yes_any _ _).mono ?_; rintro e w' ⟨rfl, rfl⟩)
  go_ret
  exact ⟨ret1 (rfl), rfl⟩

set_option maxHeartbeats 400000 in
theorem refTwo_13 (a b : Int) (w : World) :
    Calls Tryz.prog 26 #[.int .i64 13, .int .i64 a, .int .i64 b] w fun e w' => e = .returned (.int .i64 (vTwo 13 a b)) ∧ w' = w := by
  go_enter Tryz.func26, Tryz.ntmps26
  go_wp2_with (go_at_call 35; refine (yes_any _ _).mono ?_; rintro e w' ⟨rfl, rfl⟩)
  go_ret
  exact ⟨ret1 (rfl), rfl⟩

theorem not_gt (a b : Int) : (!decide (b < a)) = decide (a ≤ b) := by
  by_cases h : b < a
  · simp [h]
  · simp [h, Int.not_lt.1 h]

set_option maxHeartbeats 400000 in
theorem refTwo_14 (a b : Int) (w : World) :
    Calls Tryz.prog 26 #[.int .i64 14, .int .i64 a, .int .i64 b] w fun e w' => e = .returned (.int .i64 (vTwo 14 a b)) ∧ w' = w := by
  go_enter Tryz.func26, Tryz.ntmps26
  go_wp2_with (go_at_call 35; refine (yes_any _ _).mono ?_; rintro e w' ⟨rfl, rfl⟩)
  go_ret
  exact ⟨ret1 (congrArg yes (not_gt a b)), rfl⟩

set_option maxHeartbeats 400000 in
theorem refTwo_15 (a b : Int) (w : World) :
    Calls Tryz.prog 26 #[.int .i64 15, .int .i64 a, .int .i64 b] w fun e w' => e = .returned (.int .i64 (vTwo 15 a b)) ∧ w' = w := by
  by_cases h : a = 0
  · subst h
    go_enter Tryz.func26, Tryz.ntmps26
    go_wp2_with (go_at_call 35; refine (yes_any _ _).mono ?_; rintro e w' ⟨rfl, rfl⟩)
    go_ret
    exact ⟨rfl, rfl⟩
  · have h0 : (a == 0) = false := by simpa using h
    have E : Hid (vTwo 15 a b = yes (!(b == 0))) := by
      show yes (!(a == 0) && !(b == 0)) = _
      rw [h0]; rfl
    go_enter Tryz.func26, Tryz.ntmps26
    go_wp2_with (go_at_call 35; refine (yes_any _ _).mono ?_; rintro e w' ⟨rfl, rfl⟩)
    go_ret
    exact ⟨ret1 E.out.symm, rfl⟩

set_option maxHeartbeats 400000 in
theorem refTwo_16 (a b : Int) (w : World) :
    Calls Tryz.prog 26 #[.int .i64 16, .int .i64 a, .int .i64 b] w fun e w' => e = .returned (.int .i64 (vTwo 16 a b)) ∧ w' = w := by
  by_cases h : a = 0
  · subst h
    go_enter Tryz.func26, Tryz.ntmps26
    go_wp2_with (go_at_call 35; refine (yes_any _ _).mono ?_; rintro e w' ⟨rfl, rfl⟩)
    go_ret
    exact ⟨rfl, rfl⟩
  · have h0 : (a == 0) = false := by simpa using h
    have E : Hid (vTwo 16 a b = yes true) := by
      show yes (!(a == 0) || !(b == 0)) = _
      rw [h0]; rfl
    go_enter Tryz.func26, Tryz.ntmps26
    go_wp2_with (go_at_call 35; refine (yes_any _ _).mono ?_; rintro e w' ⟨rfl, rfl⟩)
    go_ret
    exact ⟨ret1 E.out.symm, rfl⟩

set_option maxHeartbeats 400000 in
theorem refTwo_no (c a b : Int) (w : World) (h : ∀ k : Int, 6 ≤ k → k ≤ 16 → c ≠ k) :
    Calls Tryz.prog 26 #[.int .i64 c, .int .i64 a, .int .i64 b] w fun e w' => e = .returned (.int .i64 (vTwo c a b)) ∧ w' = w := by
  rw [vTwo_none h]
  have b6 : (c == 6) = false := by simpa using h 6 (by omega) (by omega)
  have b7 : (c == 7) = false := by simpa using h 7 (by omega) (by omega)
  have b8 : (c == 8) = false := by simpa using h 8 (by omega) (by omega)
  have b9 : (c == 9) = false := by simpa using h 9 (by omega) (by omega)
  have b10 : (c == 10) = false := by simpa using h 10 (by omega) (by omega)
  have b11 : (c == 11) = false := by simpa using h 11 (by omega) (by omega)
  have b12 : (c == 12) = false := by simpa using h 12 (by omega) (by omega)
  have b13 : (c == 13) = false := by simpa using h 13 (by omega) (by omega)
  have b14 : (c == 14) = false := by simpa using h 14 (by omega) (by omega)
  have b15 : (c == 15) = false := by simpa using h 15 (by omega) (by omega)
  have b16 : (c == 16) = false := by simpa using h 16 (by omega) (by omega)
  clear h
  go_enter Tryz.func26, Tryz.ntmps26
  go_wp2
  go_ret
  exact ⟨rfl, rfl⟩

theorem refTwo_any (c a b : Int) (w : World) (ha : -9223372036854775808 ≤ a ∧ a ≤ 9223372036854775807) (hb : -9223372036854775808 ≤ b ∧ b ≤ 9223372036854775807) :
    Calls Tryz.prog 26 #[.int .i64 c, .int .i64 a, .int .i64 b] w fun e w' => e = .returned (.int .i64 (vTwo c a b)) ∧ w' = w := by
  by_cases h0 : c < 6
  · exact refTwo_no c a b w (fun k hk _ => by omega)
  by_cases h1 : 16 < c
  · exact refTwo_no c a b w (fun k _ hk => by omega)
  have h : c = 6 ∨ c = 7 ∨ c = 8 ∨ c = 9 ∨ c = 10 ∨ c = 11 ∨ c = 12 ∨ c = 13 ∨ c = 14 ∨ c = 15 ∨ c = 16 := by omega
  clear h0 h1
  rcases h with rfl | rfl | rfl | rfl | rfl | rfl | rfl | rfl | rfl | rfl | rfl
  · exact refTwo_6 a b w
  · exact refTwo_7 a b w
  · exact refTwo_8 a b w
  · exact refTwo_9 a b w ha hb
  · exact refTwo_10 a b w ha hb
  · exact refTwo_11 a b w
  · exact refTwo_12 a b w
  · exact refTwo_13 a b w
  · exact refTwo_14 a b w
  · exact refTwo_15 a b w
  · exact refTwo_16 a b w

end Go.Proofs.YtgjhfmkilpmfnaaGreatDoor
/- What code that is fine is, place by place; numbers that fit. Plain. -/
namespace Go.Proofs.YtgjhfmkilpmfnaaGreatDoor
open Go.RowKit Go.Maps
namespace Nx

structure Fine (n : Nt) (L : Nat) : Prop where
  ins : ∀ k, k < n.ins.length → 0 ≤ n.ins.getD k 0 ∧ n.ins.getD k 0 < L
  outs : ∀ k, k < n.outs.length → 0 ≤ n.outs.getD k 0 ∧ n.outs.getD k 0 < L
  keeps : ∀ k, k < n.keeps.length → 0 ≤ n.keeps.getD k 0 ∧ n.keeps.getD k 0 < L
  code : ∀ k, k < n.code.length → stepE L n.nums.length (n.code.getD k sp0) = 0
  nums : ∀ k, F64 (n.nums.getD k 0)

theorem put_put (l : List Int) (i x y : Int) : put (put l i x) i y = put l i y := by
  unfold put; split <;> simp

theorem f64_wrap (x : Int) : F64 (wrap64 x) := wrap64_lo x
theorem f64_yes (b : Bool) : F64 (yes b) := by unfold F64 yes; split <;> omega
theorem f64_0 : F64 0 := by unfold F64; omega
theorem f64_one (c a : Int) : F64 (vOne c a) := by
  unfold vOne
  split
  · exact f64_wrap _
  · split
    · exact f64_yes _
    · exact f64_0
theorem f64_mod (a b : Int) (ha : F64 a) : F64 (vMod a b) := by
  unfold vMod
  split
  · exact f64_0
  · have h1 : (a.tmod b).natAbs ≤ a.natAbs := by rw [Int.natAbs_tmod]; exact Nat.mod_le _ _
    have h2 : 0 ≤ a → 0 ≤ a.tmod b := fun h => Int.tmod_nonneg _ h
    obtain ⟨p, q⟩ := ha
    constructor
    · omega
    · by_cases h : 0 ≤ a
      · omega
      · have : a.tmod b ≤ 0 := by
          have := Int.tmod_nonneg b (a := -a) (by omega)
          rw [Int.neg_tmod] at this; omega
        omega
theorem f64_two (c a b : Int) (ha : F64 a) : F64 (vTwo c a b) := by
  unfold vTwo
  repeat' split
  all_goals first | exact f64_wrap _ | exact f64_yes _ | exact f64_0 | exact f64_mod a b ha | skip
  unfold vDiv
  split
  · exact f64_0
  · exact f64_wrap _
theorem f64_pick (a b c : Int) (hb : F64 b) (hc : F64 c) : F64 (vPick a b c) := by
  unfold vPick; split <;> assumption
theorem f64_of_wf {x : Int} (h : (Lit.int .i64 x).wf = true) : F64 x := by
  have e1 : IntKind.i64.min = -9223372036854775808 := by decide
  have e2 : IntKind.i64.max = 9223372036854775807 := by decide
  simp [Lit.wf, e1, e2] at h
  exact h

theorem Fr.drewN {B : Nat} {X : List Nat} {a w : World} (h : Fr B X a w) (m : Nat) : Fr B X a (w.drewN m) := ⟨h.os, h.tape, h.output, h.size, h.block⟩

/-- what a step that is fine is -/
theorem step_parts {L nums : Nat} {s : Sp} (h : stepE L nums s = 0) : (0 ≤ s.dst ∧ s.dst < L) ∧
    ((s.code = 1 ∧ asks s = [] ∧ 0 ≤ s.a ∧ s.a < nums) ∨ (s.code = 2 ∧ asks s = [s.a] ∧ 0 ≤ s.a ∧ s.a < L) ∨ ((s.code = 4 ∨ s.code = 5) ∧ asks s = [s.a] ∧ 0 ≤ s.a ∧ s.a < L) ∨
     ((6 ≤ s.code ∧ s.code ≤ 16) ∧ asks s = [s.a, s.b] ∧ (0 ≤ s.a ∧ s.a < L) ∧ 0 ≤ s.b ∧ s.b < L) ∨ (s.code = 17 ∧ asks s = [s.a, s.b, s.c] ∧ (0 ≤ s.a ∧ s.a < L) ∧ (0 ≤ s.b ∧ s.b < L) ∧ 0 ≤ s.c ∧ s.c < L)) := by
  unfold stepE at h
  split at h
  · omega
  rename_i h1
  split at h
  · omega
  rename_i h2
  simp only [Classical.not_not] at h2
  split at h
  · omega
  rename_i h3
  clear h
  obtain ⟨hd, ha⟩ := h2
  have pl : ∀ p, isPl L p = true → 0 ≤ p ∧ p < L := fun p hp => by simp [isPl] at hp; exact hp
  refine ⟨pl _ hd, ?_⟩
  by_cases c1 : s.code = 1
  · exact .inl ⟨c1, by unfold asks; simp [c1], by omega, by omega⟩
  by_cases c2 : s.code = 2 ∨ s.code = 4 ∨ s.code = 5
  · have e : asks s = [s.a] := by unfold asks; rw [if_pos c2]
    rw [e] at ha
    have := pl s.a (by simpa using ha)
    rcases c2 with c2 | c2
    · exact .inr (.inl ⟨c2, e, this⟩)
    · exact .inr (.inr (.inl ⟨c2, e, this⟩))
  by_cases c3 : 6 ≤ s.code ∧ s.code ≤ 16
  · have e : asks s = [s.a, s.b] := by unfold asks; rw [if_neg c2, if_pos c3]
    rw [e] at ha
    simp only [List.all_cons, List.all_nil, Bool.and_true, Bool.and_eq_true] at ha
    exact .inr (.inr (.inr (.inl ⟨c3, e, pl _ ha.1, pl _ ha.2⟩)))
  have c4 : s.code = 17 := by omega
  have e : asks s = [s.a, s.b, s.c] := by unfold asks; rw [if_neg c2, if_neg c3, if_pos c4]
  rw [e] at ha
  simp only [List.all_cons, List.all_nil, Bool.and_true, Bool.and_eq_true] at ha
  exact .inr (.inr (.inr (.inr ⟨c4, e, pl _ ha.1, pl _ ha.2.1, pl _ ha.2.2⟩)))

end Nx
end Go.Proofs.YtgjhfmkilpmfnaaGreatDoor
/- The document's own answer on code: its small functions, and Asks. -/
namespace Go.Proofs.YtgjhfmkilpmfnaaGreatDoor
open Go.RowKit
namespace Nx

theorem in_any (a lo hi : Int) (w : World) :
    Calls Tryz.prog 13 #[.int .i64 a, .int .i64 lo, .int .i64 hi] w fun e w' => e = .returned (.bool (decide (lo ≤ a) && decide (a ≤ hi))) ∧ w' = w := by
  by_cases h : lo ≤ a
  · have E : Hid ((decide (lo ≤ a) && decide (a ≤ hi)) = decide (a ≤ hi)) := by unfold Hid; simp [h]
    go_enter Tryz.func13, Tryz.ntmps13
    go_wp2
    go_ret
    exact ⟨by rw [E.out]; rfl, rfl⟩
  · have E : Hid ((decide (lo ≤ a) && decide (a ≤ hi)) = false) := by unfold Hid; simp [h]
    have h' : a < lo := by omega
    go_enter Tryz.func13, Tryz.ntmps13
    go_wp2
    go_ret
    exact ⟨by rw [E.out]; rfl, rfl⟩

theorem refPl_any (p P : Int) (q : Nat) (w : World) (hc : w.cell? ⟨q, 0, none⟩ = some (.int .i64 P)) (h0 : 0 ≤ P) (h1 : P ≤ 4000) :
    Calls Tryz.prog 15 #[.int .i64 p, .pointer (some ⟨q, 0, none⟩)] w fun e w' => e = .returned (.bool (isPl P p)) ∧ w' = w := by
  have hin := in_any p 0 (P - 1) w
  have E : Hid ((decide (0 ≤ p) && decide (p ≤ P - 1)) = isPl P p) := by
    unfold Hid isPl
    have : decide (p ≤ P - 1) = decide (p < P) := by rw [decide_eq_decide]; omega
    rw [this]
  rw [E.out] at hin
  clear E
  go_enter Tryz.func15, Tryz.ntmps15
  go_wp2_with (go_at_call 13; refine hin.mono ?_; rintro e w' ⟨rfl, hw⟩; obtain rfl := hw.symm)
  go_ret
  exact ⟨rfl, rfl⟩

theorem loadFault {W : World} {g : Nat} {fc : Array Value} (hsz : fc.size = 2) (hg : W.heap[g]? = some (.cells fc 32 (0, 0))) : (loadVar 32 ⟨g, 0, none⟩).run Tryz.prog W = .ok (.agg fc) W :=
  run_loadVar_row (P := Tryz.prog) W g 32 32 fc (0, 0) _ hg Tryz.underlying32 rfl (by rw [hsz]; kernel_rfl)
theorem resultsB (tmps : Array Value) (W : World) (e : Nat) (fe : Array Value) (hse : fe.size = 2) (hq : tmps[2]?.getD undef = .pointer (some ⟨e, 0, none⟩)) (he : W.heap[e]? = some (.cells fe 32 (0, 0))) :
    (results Tryz.f14 tmps).run Tryz.prog W = .ok (.agg fe) W := by
  simp [results, Tryz.results14, hq, asAddr, loadFault hse he]
set_option maxRecDepth 100000 in
set_option maxHeartbeats 2000000 in
theorem bare_any (e : Int) (w : World) : Calls Tryz.prog 14 #[.int .i64 e] w fun r w' => r = .returned (.agg #[.int .i64 e, .int .i64 (-1)]) ∧ Below w.heap.size w w' := by
  go_enter Tryz.func14, Tryz.ntmps14
  go_wp2_with fail
  refine bodyPost_ret (resultsB _ _ _ _ rfl rfl (heap_alloc_new _ _)) rfl ?_
  exact ⟨rfl, (Below.refl _ _).alloc (Nat.le_refl _) _⟩

theorem resultsN (tmps : Array Value) (W : World) (e : Nat) (fe : Array Value) (hse : fe.size = 2) (hq : tmps[2]?.getD undef = .pointer (some ⟨e, 0, none⟩)) (he : W.heap[e]? = some (.cells fe 32 (0, 0))) :
    (results Tryz.f6 tmps).run Tryz.prog W = .ok (.agg fe) W := by
  simp [results, Tryz.results6, hq, asAddr, loadFault hse he]

theorem rb_set {w : World} {rb : Nat} {x y a b : Value} (h : w.heap[rb]? = some (.cells #[x, y] 32 (0, 0))) : ((w.setCell ⟨rb, 0, none⟩ a).setCell ⟨rb, 1, none⟩ b).heap[rb]? = some (.cells #[a, b] 32 (0, 0)) := by
  have h1 := set_cells (l := [x, y]) h 0 a
  exact set_cells (l := [a, y]) h1 1 b
theorem rb_cells {w : World} {rb : Nat} {x y : Value} (h : w.heap[rb]? = some (.cells #[x, y] 32 (0, 0))) : w.cell? ⟨rb, 0, none⟩ = some x ∧ w.frozen? ⟨rb, 0, none⟩ = false ∧ w.cell? ⟨rb, 1, none⟩ = some y ∧ w.frozen? ⟨rb, 1, none⟩ = false :=
  ⟨cell_row h 0, frozen_cells h 0, cell_row h 1, frozen_cells h 1⟩

def CnW (w : World) (cs : Array Value) : World := (w.alloc (.cells cs 26)).alloc (.cells #[.int .i64 0, .int .i64 0] 32)
theorem CnW_rb (w : World) (cs : Array Value) : (CnW w cs).heap[w.heap.size + 1]? = some (.cells #[.int .i64 0, .int .i64 0] 32 (0, 0)) := by
  have := heap_alloc_new (w.alloc (.cells cs 26)) (.cells #[.int .i64 0, .int .i64 0] 32)
  rw [show (w.alloc (.cells cs 26)).heap.size = w.heap.size + 1 by simp] at this
  exact this
theorem CnW_box (w : World) (cs : Array Value) : (CnW w cs).heap[w.heap.size]? = some (.cells cs 26 (0, 0)) := by
  unfold CnW; rw [Below.heap_alloc _ _ _ (by simp)]; exact heap_alloc_new w _
theorem CnW_below (w : World) (cs : Array Value) : Below w.heap.size w (CnW w cs) := ball (grown_one w _) (grown_one _ _)
theorem CnW_size (w : World) (cs : Array Value) : (CnW w cs).heap.size = w.heap.size + 2 := by simp [CnW]

set_option maxRecDepth 100000 in
set_option maxHeartbeats 2000000 in
theorem cn_low (n : Nt) (w : World) (vF vN vC : Value) (adI adO adK : Option Addr) (capI capO capK : Nat) (h0 : n.places < 0) (hs : n.ins.length + n.outs.length + n.keeps.length ≤ 4000) :
    Calls Tryz.prog 6 #[.agg #[.int .i64 n.places, vF, .slice adI n.ins.length capI, .slice adO n.outs.length capO, .slice adK n.keeps.length capK, vN, vC]] w fun e w' => e = .returned (.agg #[.int .i64 4, .int .i64 (-1)]) ∧ Below w.heap.size w w' := by
  have hin := fun W => in_any n.places 0 4000 W
  have E : (decide (0 ≤ n.places) && decide (n.places ≤ 4000)) = false := by simp; omega
  rw [E] at hin
  clear E
  have HW : Hid (∀ w2, Below (CnW w #[.int .i64 n.places, vF, .slice adI n.ins.length capI, .slice adO n.outs.length capO, .slice adK n.keeps.length capK, vN, vC]).heap.size (CnW w #[.int .i64 n.places, vF, .slice adI n.ins.length capI, .slice adO n.outs.length capO, .slice adK n.keeps.length capK, vN, vC]) w2 → w2.heap[w.heap.size + 1]? = some (.cells #[.int .i64 0, .int .i64 0] 32 (0, 0)) ∧ Below w.heap.size w w2) := fun w2 hb =>
    ⟨by rw [hb.block (w.heap.size + 1) (by rw [CnW_size]; omega)]; exact CnW_rb _ _, ball (CnW_below _ _) hb⟩
  go_enter Tryz.func6, Tryz.ntmps6
  go_wp2_with (first | (go_at_call 13; refine (hin _).mono ?_; rintro e w' ⟨rfl, hw⟩; obtain rfl := hw.symm) | (go_at_call 14; refine (bare_any 4 _).mono ?_; rintro e w2 ⟨rfl, hb2⟩; obtain ⟨hrb, hbw⟩ := HW.out w2 hb2; obtain ⟨c0, f0, c1, f1⟩ := rb_cells hrb; have HR : Hid (w2.heap[w.heap.size + 1]? = some (.cells #[.int .i64 0, .int .i64 0] 32 (0, 0)) ∧ Below w.heap.size w w2) := ⟨hrb, hbw⟩; clear hrb hbw hb2))
  refine bodyPost_ret (resultsN _ _ _ _ rfl rfl (rb_set HR.out.1)) rfl ?_
  exact ⟨rfl, (HR.out.2.setCell (by simp) _).setCell (by simp) _⟩
end Nx
end Go.Proofs.YtgjhfmkilpmfnaaGreatDoor
/- The document's own answer on code: Asks; what check comes to, way by way. -/
namespace Go.Proofs.YtgjhfmkilpmfnaaGreatDoor
open Go.RowKit
namespace Nx

set_option maxHeartbeats 1000000 in
theorem refAsks_any (code dst a b c : Int) (w : World) :
    Calls Tryz.prog 16 #[.agg #[.int .i64 code, .int .i64 dst, .int .i64 a, .int .i64 b, .int .i64 c]] w fun e w' => ∃ v, e = .returned v ∧ Ints (fun b => w.heap.size ≤ b) w' v (asks ⟨code, dst, a, b, c⟩) ∧ Below w.heap.size w w' := by
  have hb0 := fun o => grown_one w o
  by_cases h1 : code = 2 ∨ code = 4 ∨ code = 5
  · have E : Hid (asks ⟨code, dst, a, b, c⟩ = [a]) := by unfold Hid asks; rw [if_pos h1]
    rcases h1 with rfl | rfl | rfl
    all_goals
      go_enter Tryz.func16, Tryz.ntmps16
      go_wp2
      go_ret
      refine ⟨_, rfl, ?_, ball (hb0 _) (grown_one _ _)⟩
      rw [E.out]
      obtain ⟨ad, bb, off, cap, e, x1, x2⟩ := ints1 (w.alloc (.cells #[.int .i64 _, .int .i64 dst, .int .i64 a, .int .i64 b, .int .i64 c] 50)) a
      refine ⟨ad, bb, off, cap, ?_, fun hp => ⟨(x1 hp).1, Nat.le_trans (hb0 _).size (x1 hp).2⟩, x2⟩
      rw [← e]; simp
  · by_cases h2 : 6 ≤ code ∧ code ≤ 16
    · have E : Hid (asks ⟨code, dst, a, b, c⟩ = [a, b]) := by unfold Hid asks; rw [if_neg h1, if_pos h2]
      have hin := fun W => in_any code 6 16 W
      rw [show (decide (6 ≤ code) && decide (code ≤ 16)) = true by simp; omega] at hin
      obtain ⟨h3, h4⟩ := h2
      clear h1
      have t2 : (code == 2) = false := by simp; omega
      have t4 : (code == 4) = false := by simp; omega
      have t5 : (code == 5) = false := by simp; omega
      go_enter Tryz.func16, Tryz.ntmps16
      go_wp2_with (go_at_call 13; refine (hin _).mono ?_; rintro e w' ⟨rfl, hw⟩; obtain rfl := hw.symm)
      go_ret
      refine ⟨_, rfl, ?_, ball (hb0 _) (grown_one _ _)⟩
      rw [E.out]
      obtain ⟨ad, bb, off, cap, e, x1, x2⟩ := ints2 (w.alloc (.cells #[.int .i64 code, .int .i64 dst, .int .i64 a, .int .i64 b, .int .i64 c] 50)) a b
      refine ⟨ad, bb, off, cap, ?_, fun hp => ⟨(x1 hp).1, Nat.le_trans (hb0 _).size (x1 hp).2⟩, x2⟩
      rw [← e]; simp
    · by_cases h3 : code = 17
      · have E : Hid (asks ⟨code, dst, a, b, c⟩ = [a, b, c]) := by unfold Hid asks; rw [if_neg h1, if_neg h2, if_pos h3]
        subst h3
        clear h1 h2
        have hin := fun W => in_any 17 6 16 W
        rw [show (decide ((6 : Int) ≤ 17) && decide ((17 : Int) ≤ 16)) = false by decide] at hin
        go_enter Tryz.func16, Tryz.ntmps16
        go_wp2_with (go_at_call 13; refine (hin _).mono ?_; rintro e w' ⟨rfl, hw⟩; obtain rfl := hw.symm)
        go_ret
        refine ⟨_, rfl, ?_, ball (hb0 _) (grown_one _ _)⟩
        rw [E.out]
        obtain ⟨ad, bb, off, cap, e, x1, x2⟩ := ints3 (w.alloc (.cells #[.int .i64 17, .int .i64 dst, .int .i64 a, .int .i64 b, .int .i64 c] 50)) a b c
        refine ⟨ad, bb, off, cap, ?_, fun hp => ⟨(x1 hp).1, Nat.le_trans (hb0 _).size (x1 hp).2⟩, x2⟩
        rw [← e]; simp
      · have E : Hid (asks ⟨code, dst, a, b, c⟩ = []) := by unfold Hid asks; rw [if_neg h1, if_neg h2, if_neg h3]
        have t2 : (code == 2) = false := by simp; omega
        have t4 : (code == 4) = false := by simp; omega
        have t5 : (code == 5) = false := by simp; omega
        have t17 : (code == 17) = false := by simp; omega
        have hin := fun W => in_any code 6 16 W
        rw [show (decide (6 ≤ code) && decide (code ≤ 16)) = false by simp; omega] at hin
        clear h1 h3
        by_cases h6 : 6 ≤ code
        · have h16 : 16 < code := by omega
          clear h2
          go_enter Tryz.func16, Tryz.ntmps16
          go_wp2_with (go_at_call 13; refine (hin _).mono ?_; rintro e w' ⟨rfl, hw⟩; obtain rfl := hw.symm)
          go_ret
          exact ⟨_, rfl, by rw [E.out]; exact ⟨none, 0, 0, 0, rfl, fun h => by simp at h, fun k hk => by simp at hk⟩, hb0 _⟩
        · have h16 : code < 6 := by omega
          clear h2
          go_enter Tryz.func16, Tryz.ntmps16
          go_wp2_with (go_at_call 13; refine (hin _).mono ?_; rintro e w' ⟨rfl, hw⟩; obtain rfl := hw.symm)
          go_ret
          exact ⟨_, rfl, by rw [E.out]; exact ⟨none, 0, 0, 0, rfl, fun h => by simp at h, fun k hk => by simp at hk⟩, hb0 _⟩

theorem refAsksK (code dst a b c : Int) (w : World) :
    Calls Tryz.prog 16 #[.agg #[.int .i64 code, .int .i64 dst, .int .i64 a, .int .i64 b, .int .i64 c]] w fun e w' => ∃ ad cap, e = .returned (.slice ad (asks ⟨code, dst, a, b, c⟩).length cap) ∧ Hid (Ints (fun b => w.heap.size ≤ b) w' (.slice ad (asks ⟨code, dst, a, b, c⟩).length cap) (asks ⟨code, dst, a, b, c⟩)) ∧ Hid (Below w.heap.size w w') := by
  refine (refAsks_any code dst a b c w).mono fun e w' ⟨v, he, hi, hb⟩ => ?_
  obtain ⟨ad, b', off, cap, rfl, h1, h2⟩ := hi
  exact ⟨ad, cap, he, ⟨ad, b', off, cap, rfl, h1, h2⟩, hb⟩

theorem not_big {n : Nt} (hs : Small n) (h0 : 0 ≤ n.places) : ¬ (n.places < 0 ∨ 4000 < n.places ∨ 4000 < n.code.length ∨ 4000 < n.nums.length ∨ 4000 < n.ins.length + n.outs.length + n.keeps.length) := by
  have s1 := hs.p; have s2 := hs.c; have s3 := hs.m; have s4 := hs.s
  omega
theorem check_form {n : Nt} (hs : Small n) (h0 : 0 ≤ n.places) (hf : (n.first.length : Int) ≠ n.places) : check n = (3, -1) := by
  have e : wholeE n = 3 := by unfold wholeE; rw [if_neg (not_big hs h0), if_pos hf]
  unfold check; rw [e]; rfl
theorem check_range {n : Nt} (hs : Small n) (h0 : 0 ≤ n.places) (hf : (n.first.length : Int) = n.places) (h : n.ins.all (isPl n.places) = false ∨ n.outs.all (isPl n.places) = false ∨ n.keeps.all (isPl n.places) = false) : check n = (2, -1) := by
  have e : wholeE n = 2 := by
    unfold wholeE
    rw [if_neg (not_big hs h0), if_neg (fun x => x hf), if_pos]
    rintro ⟨a, b, c⟩
    rcases h with h | h | h
    · rw [h] at a; cases a
    · rw [h] at b; cases b
    · rw [h] at c; cases c
  unfold check; rw [e]; rfl
theorem check_dup {n : Nt} (hs : Small n) (h0 : 0 ≤ n.places) (hf : (n.first.length : Int) = n.places) (h1 : n.ins.all (isPl n.places) = true) (h2 : n.outs.all (isPl n.places) = true) (h3 : n.keeps.all (isPl n.places) = true) (h : ¬ n.ins.Nodup) : check n = (9, -1) := by
  have e : wholeE n = 9 := by
    unfold wholeE
    rw [if_neg (not_big hs h0), if_neg (fun x => x hf), if_neg (fun x => x ⟨h1, h2, h3⟩), if_pos h]
  unfold check; rw [e]; rfl
theorem check_rest {n : Nt} (hs : Small n) (h0 : 0 ≤ n.places) (hf : (n.first.length : Int) = n.places) (h1 : n.ins.all (isPl n.places) = true) (h2 : n.outs.all (isPl n.places) = true) (h3 : n.keeps.all (isPl n.places) = true) (h : n.ins.Nodup) : check n = stepsE n.places n.nums.length n.code 0 := by
  have e : wholeE n = 0 := by
    unfold wholeE
    rw [if_neg (not_big hs h0), if_neg (fun x => x hf), if_neg (fun x => x ⟨h1, h2, h3⟩), if_neg (fun x => x h)]
  unfold check; rw [e]; rfl

theorem all_of_at {P : Int} {zs : List Int} (h : ∀ j, j < zs.length → isPl P (zs.getD j 0) = true) : zs.all (isPl P) = true := List.all_eq_true.2 fun y hy => by
  obtain ⟨j, hj, rfl⟩ := List.getElem_of_mem hy
  simpa [List.getD_eq_getElem?_getD, hj] using h j hj
theorem not_all_at {P : Int} {zs : List Int} {k : Nat} (hk : k < zs.length) (h : isPl P (zs.getD k 0) = false) : zs.all (isPl P) = false := by
  apply Bool.eq_false_iff.2
  intro ha
  have := List.all_eq_true.1 ha (zs[k]) (List.getElem_mem hk)
  rw [show zs.getD k 0 = zs[k] by simp [List.getD_eq_getElem?_getD, hk]] at h
  rw [h] at this; cases this
theorem nodup_at {zs : List Int} (h : ∀ i, i < zs.length → ∀ j, j < i → zs.getD j 0 ≠ zs.getD i 0) : zs.Nodup := by
  apply List.pairwise_iff_getElem.2
  intro i j hi hj hij
  have := h j hj i hij
  simpa [List.getD_eq_getElem?_getD, hi, hj] using this
theorem dup_at {zs : List Int} {i j : Nat} (hi : i < zs.length) (hj : j < i) (h : zs.getD j 0 = zs.getD i 0) : ¬ zs.Nodup := fun hn => by
  have := (List.pairwise_iff_getElem.1 hn) j i (by omega) hi hj
  have hj' : j < zs.length := by omega
  simp [List.getD_eq_getElem?_getD, hi, hj'] at h
  exact this h
end Nx
end Go.Proofs.YtgjhfmkilpmfnaaGreatDoor
