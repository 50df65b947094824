/- What net's step answers, its tail (a number; two; three): what it does not ask is 0. -/
import Derived.Test.YtalfelkblbbmpaaDoorNt7
namespace Go.Proofs.YtalfelkblbbmpaaDoor
open Go.RowKit
namespace Nx

section
variable (code dst a b c P : Int) (nums bn : Nat) (w : World)

set_option maxHeartbeats 1000000 in
theorem num_lo (hc : w.cell? ⟨bn, 0, none⟩ = some (.int .i64 P)) (hd : isPl P dst = true) (h : a < 0) :
    Calls Tryd.prog 40 #[.agg #[.int .i64 1, .int .i64 dst, .int .i64 a, .int .i64 b, .int .i64 c], .int .i64 nums, .func (.func 38) #[] #[.pointer (some ⟨bn, 0, none⟩)]] w fun e w' => e = .returned (.int .i64 (2 : Int)) ∧ Below w.heap.size w w' := by
  have hask := tail_calls 1 dst a b c P bn w 0 hc hd rfl rfl (by omega)
  clear hc hd
  go_enter Tryd.func40, Tryd.ntmps40
  go_wp2_with (first | (go_at_call 42; refine hask.mono ?_; rintro e w1 ⟨ad, cap, rfl, d1, hpl, hall⟩; clear hask) | (go_at_call 38; refine hpl.mono ?_; rintro e w2 ⟨rfl, hw⟩; obtain rfl := hw.symm) | (go_at_call 52; refine hall.mono ?_; rintro e w2 ⟨rfl, hbx, hb2⟩; obtain ⟨e0, e1, e2, e3, e4, -⟩ := hbx.out; clear d1 hpl hall))
  go_ret
  exact ⟨rfl, hb2.out⟩

set_option maxHeartbeats 1000000 in
theorem num_hi (hc : w.cell? ⟨bn, 0, none⟩ = some (.int .i64 P)) (hd : isPl P dst = true) (h : 0 ≤ a) (h2 : (nums : Int) ≤ a) :
    Calls Tryd.prog 40 #[.agg #[.int .i64 1, .int .i64 dst, .int .i64 a, .int .i64 b, .int .i64 c], .int .i64 nums, .func (.func 38) #[] #[.pointer (some ⟨bn, 0, none⟩)]] w fun e w' => e = .returned (.int .i64 (2 : Int)) ∧ Below w.heap.size w w' := by
  have hask := tail_calls 1 dst a b c P bn w 0 hc hd rfl rfl (by omega)
  clear hc hd
  go_enter Tryd.func40, Tryd.ntmps40
  go_wp2_with (first | (go_at_call 42; refine hask.mono ?_; rintro e w1 ⟨ad, cap, rfl, d1, hpl, hall⟩; clear hask) | (go_at_call 38; refine hpl.mono ?_; rintro e w2 ⟨rfl, hw⟩; obtain rfl := hw.symm) | (go_at_call 52; refine hall.mono ?_; rintro e w2 ⟨rfl, hbx, hb2⟩; obtain ⟨e0, e1, e2, e3, e4, -⟩ := hbx.out; clear d1 hpl hall))
  go_ret
  exact ⟨rfl, hb2.out⟩

set_option maxHeartbeats 1000000 in
theorem num_n (hc : w.cell? ⟨bn, 0, none⟩ = some (.int .i64 P)) (hd : isPl P dst = true) (ha : (asks ⟨1, dst, a, b, c⟩).all (isPl P) = true) (h0 : 0 ≤ a) (hn : a < nums)  (kb : b ≠ 0) :
    Calls Tryd.prog 40 #[.agg #[.int .i64 1, .int .i64 dst, .int .i64 a, .int .i64 b, .int .i64 c], .int .i64 nums, .func (.func 38) #[] #[.pointer (some ⟨bn, 0, none⟩)]] w fun e w' => e = .returned (.int .i64 (1 : Int)) ∧ Below w.heap.size w w' := by
  have hask := tail_calls 1 dst a b c P bn w 0 hc hd ha rfl (by omega)
  have tb : (b != 0) = true := by simpa using kb
  clear hc hd ha
  go_enter Tryd.func40, Tryd.ntmps40
  go_wp2_with (first | (go_at_call 42; refine hask.mono ?_; rintro e w1 ⟨ad, cap, rfl, d1, hpl, hall⟩; clear hask) | (go_at_call 38; refine hpl.mono ?_; rintro e w2 ⟨rfl, hw⟩; obtain rfl := hw.symm) | (go_at_call 52; refine hall.mono ?_; rintro e w2 ⟨rfl, hbx, hb2⟩; obtain ⟨e0, e1, e2, e3, e4, -⟩ := hbx.out; clear d1 hpl hall))
  refine wp_loop_rounds 1 ?_
  rw [rounds_succ]
  go_wp2
  go_ret
  exact ⟨rfl, hb2.out.alloc hb2.out.size _⟩

set_option maxHeartbeats 1000000 in
theorem num_zn (hc : w.cell? ⟨bn, 0, none⟩ = some (.int .i64 P)) (hd : isPl P dst = true) (ha : (asks ⟨1, dst, a, b, c⟩).all (isPl P) = true) (h0 : 0 ≤ a) (hn : a < nums) (kb : b = 0) (kc : c ≠ 0) :
    Calls Tryd.prog 40 #[.agg #[.int .i64 1, .int .i64 dst, .int .i64 a, .int .i64 b, .int .i64 c], .int .i64 nums, .func (.func 38) #[] #[.pointer (some ⟨bn, 0, none⟩)]] w fun e w' => e = .returned (.int .i64 (1 : Int)) ∧ Below w.heap.size w w' := by
  have hask := tail_calls 1 dst a b c P bn w 0 hc hd ha rfl (by omega)
  subst kb
  have tc : (c != 0) = true := by simpa using kc
  clear hc hd ha
  go_enter Tryd.func40, Tryd.ntmps40
  go_wp2_with (first | (go_at_call 42; refine hask.mono ?_; rintro e w1 ⟨ad, cap, rfl, d1, hpl, hall⟩; clear hask) | (go_at_call 38; refine hpl.mono ?_; rintro e w2 ⟨rfl, hw⟩; obtain rfl := hw.symm) | (go_at_call 52; refine hall.mono ?_; rintro e w2 ⟨rfl, hbx, hb2⟩; obtain ⟨e0, e1, e2, e3, e4, -⟩ := hbx.out; clear d1 hpl hall))
  refine wp_loop_rounds 2 ?_
  rw [rounds_succ]
  go_wp2
  rw [rounds_succ]
  go_wp2
  go_ret
  exact ⟨rfl, hb2.out.alloc hb2.out.size _⟩

set_option maxHeartbeats 1000000 in
theorem num_zz (hc : w.cell? ⟨bn, 0, none⟩ = some (.int .i64 P)) (hd : isPl P dst = true) (ha : (asks ⟨1, dst, a, b, c⟩).all (isPl P) = true) (h0 : 0 ≤ a) (hn : a < nums) (kb : b = 0) (kc : c = 0) :
    Calls Tryd.prog 40 #[.agg #[.int .i64 1, .int .i64 dst, .int .i64 a, .int .i64 b, .int .i64 c], .int .i64 nums, .func (.func 38) #[] #[.pointer (some ⟨bn, 0, none⟩)]] w fun e w' => e = .returned (.int .i64 (0 : Int)) ∧ Below w.heap.size w w' := by
  have hask := tail_calls 1 dst a b c P bn w 0 hc hd ha rfl (by omega)
  subst kb
  subst kc
  clear hc hd ha
  go_enter Tryd.func40, Tryd.ntmps40
  go_wp2_with (first | (go_at_call 42; refine hask.mono ?_; rintro e w1 ⟨ad, cap, rfl, d1, hpl, hall⟩; clear hask) | (go_at_call 38; refine hpl.mono ?_; rintro e w2 ⟨rfl, hw⟩; obtain rfl := hw.symm) | (go_at_call 52; refine hall.mono ?_; rintro e w2 ⟨rfl, hbx, hb2⟩; obtain ⟨e0, e1, e2, e3, e4, -⟩ := hbx.out; clear d1 hpl hall))
  refine wp_loop_rounds 3 ?_
  rw [rounds_succ]
  go_wp2
  rw [rounds_succ]
  go_wp2
  rw [rounds_succ]
  go_wp2
  go_ret
  exact ⟨rfl, hb2.out.alloc hb2.out.size _⟩

set_option maxHeartbeats 1000000 in
theorem two_n (hc : w.cell? ⟨bn, 0, none⟩ = some (.int .i64 P)) (hd : isPl P dst = true) (ha : (asks ⟨code, dst, a, b, c⟩).all (isPl P) = true) (h6 : 6 ≤ code) (h16 : code ≤ 16)  (kc : c ≠ 0) :
    Calls Tryd.prog 40 #[.agg #[.int .i64 code, .int .i64 dst, .int .i64 a, .int .i64 b, .int .i64 c], .int .i64 nums, .func (.func 38) #[] #[.pointer (some ⟨bn, 0, none⟩)]] w fun e w' => e = .returned (.int .i64 (1 : Int)) ∧ Below w.heap.size w w' := by
  have t1 : (code == 1) = false := by simp; omega
  have t3 : (code == 3) = false := by simp; omega
  have hask := tail_calls code dst a b c P bn w 2 hc hd ha (by unfold asks; rw [if_neg (by simp; omega), if_pos (by simp; omega)]; rfl) (by omega)
  have tc : (c != 0) = true := by simpa using kc
  clear hc hd ha
  go_enter Tryd.func40, Tryd.ntmps40
  go_wp2_with (first | (go_at_call 42; refine hask.mono ?_; rintro e w1 ⟨ad, cap, rfl, d1, hpl, hall⟩; clear hask) | (go_at_call 38; refine hpl.mono ?_; rintro e w2 ⟨rfl, hw⟩; obtain rfl := hw.symm) | (go_at_call 52; refine hall.mono ?_; rintro e w2 ⟨rfl, hbx, hb2⟩; obtain ⟨e0, e1, e2, e3, e4, -⟩ := hbx.out; clear d1 hpl hall))
  refine wp_loop_rounds 1 ?_
  rw [rounds_succ]
  go_wp2
  go_ret
  exact ⟨rfl, hb2.out.alloc hb2.out.size _⟩

set_option maxHeartbeats 1000000 in
theorem two_z (hc : w.cell? ⟨bn, 0, none⟩ = some (.int .i64 P)) (hd : isPl P dst = true) (ha : (asks ⟨code, dst, a, b, c⟩).all (isPl P) = true) (h6 : 6 ≤ code) (h16 : code ≤ 16) (kc : c = 0) :
    Calls Tryd.prog 40 #[.agg #[.int .i64 code, .int .i64 dst, .int .i64 a, .int .i64 b, .int .i64 c], .int .i64 nums, .func (.func 38) #[] #[.pointer (some ⟨bn, 0, none⟩)]] w fun e w' => e = .returned (.int .i64 (0 : Int)) ∧ Below w.heap.size w w' := by
  have t1 : (code == 1) = false := by simp; omega
  have t3 : (code == 3) = false := by simp; omega
  have hask := tail_calls code dst a b c P bn w 2 hc hd ha (by unfold asks; rw [if_neg (by simp; omega), if_pos (by simp; omega)]; rfl) (by omega)
  subst kc
  clear hc hd ha
  go_enter Tryd.func40, Tryd.ntmps40
  go_wp2_with (first | (go_at_call 42; refine hask.mono ?_; rintro e w1 ⟨ad, cap, rfl, d1, hpl, hall⟩; clear hask) | (go_at_call 38; refine hpl.mono ?_; rintro e w2 ⟨rfl, hw⟩; obtain rfl := hw.symm) | (go_at_call 52; refine hall.mono ?_; rintro e w2 ⟨rfl, hbx, hb2⟩; obtain ⟨e0, e1, e2, e3, e4, -⟩ := hbx.out; clear d1 hpl hall))
  refine wp_loop_rounds 2 ?_
  rw [rounds_succ]
  go_wp2
  rw [rounds_succ]
  go_wp2
  go_ret
  exact ⟨rfl, hb2.out.alloc hb2.out.size _⟩

set_option maxHeartbeats 1000000 in
theorem pick_ (hc : w.cell? ⟨bn, 0, none⟩ = some (.int .i64 P)) (hd : isPl P dst = true) (ha : (asks ⟨17, dst, a, b, c⟩).all (isPl P) = true)   :
    Calls Tryd.prog 40 #[.agg #[.int .i64 17, .int .i64 dst, .int .i64 a, .int .i64 b, .int .i64 c], .int .i64 nums, .func (.func 38) #[] #[.pointer (some ⟨bn, 0, none⟩)]] w fun e w' => e = .returned (.int .i64 (0 : Int)) ∧ Below w.heap.size w w' := by
  have hask := tail_calls 17 dst a b c P bn w 3 hc hd ha rfl (by omega)
  clear hc hd ha
  go_enter Tryd.func40, Tryd.ntmps40
  go_wp2_with (first | (go_at_call 42; refine hask.mono ?_; rintro e w1 ⟨ad, cap, rfl, d1, hpl, hall⟩; clear hask) | (go_at_call 38; refine hpl.mono ?_; rintro e w2 ⟨rfl, hw⟩; obtain rfl := hw.symm) | (go_at_call 52; refine hall.mono ?_; rintro e w2 ⟨rfl, hbx, hb2⟩; obtain ⟨e0, e1, e2, e3, e4, -⟩ := hbx.out; clear d1 hpl hall))
  refine wp_loop_rounds 1 ?_
  rw [rounds_succ]
  go_wp2
  go_ret
  exact ⟨rfl, hb2.out.alloc hb2.out.size _⟩

end
end Nx
end Go.Proofs.YtalfelkblbbmpaaDoor
