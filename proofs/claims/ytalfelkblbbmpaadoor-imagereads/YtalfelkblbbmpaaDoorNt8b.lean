/- What net's step answers, its tail (one): what it does not ask is 0. -/
import Derived.Test.YtalfelkblbbmpaaDoorNt7
namespace Go.Proofs.YtalfelkblbbmpaaDoor
open Go.RowKit
namespace Nx

section
variable (dst a b c P : Int) (nums bn : Nat) (w : World)

set_option maxHeartbeats 1000000 in
theorem one2_n (hc : w.cell? ⟨bn, 0, none⟩ = some (.int .i64 P)) (hd : isPl P dst = true) (ha : (asks ⟨2, dst, a, b, c⟩).all (isPl P) = true)   (kb : b ≠ 0) :
    Calls Tryd.prog 40 #[.agg #[.int .i64 2, .int .i64 dst, .int .i64 a, .int .i64 b, .int .i64 c], .int .i64 nums, .func (.func 38) #[] #[.pointer (some ⟨bn, 0, none⟩)]] w fun e w' => e = .returned (.int .i64 (1 : Int)) ∧ Below w.heap.size w w' := by
  have hask := tail_calls 2 dst a b c P bn w 1 hc hd ha rfl (by omega)
  have tb : (b != 0) = true := by simpa using kb
  clear hc hd ha
  go_enter Tryd.func40, Tryd.ntmps40
  go_wp2_with (first | (go_at_call 42; refine hask.mono ?_; rintro e w1 ⟨ad, cap, rfl, d1, hpl, hall⟩; clear hask) | (go_at_call 38; refine hpl.mono ?_; rintro e w2 ⟨rfl, hw⟩; obtain rfl := hw.symm) | (go_at_call 52; refine hall.mono ?_; rintro e w2 ⟨rfl, hbx, hb2⟩; obtain ⟨e0, e1, e2, e3, e4, -⟩ := hbx.out; clear d1 hpl hall))
  refine wp_loop_rounds 1 ?_
  rw [rounds_succ]
  go_wp2
  go_ret
  exact ⟨rfl, hb2.out.alloc hb2.out.size _⟩

set_option maxHeartbeats 1000000 in
theorem one2_zn (hc : w.cell? ⟨bn, 0, none⟩ = some (.int .i64 P)) (hd : isPl P dst = true) (ha : (asks ⟨2, dst, a, b, c⟩).all (isPl P) = true)  (kb : b = 0) (kc : c ≠ 0) :
    Calls Tryd.prog 40 #[.agg #[.int .i64 2, .int .i64 dst, .int .i64 a, .int .i64 b, .int .i64 c], .int .i64 nums, .func (.func 38) #[] #[.pointer (some ⟨bn, 0, none⟩)]] w fun e w' => e = .returned (.int .i64 (1 : Int)) ∧ Below w.heap.size w w' := by
  have hask := tail_calls 2 dst a b c P bn w 1 hc hd ha rfl (by omega)
  subst kb
  have tc : (c != 0) = true := by simpa using kc
  clear hc hd ha
  go_enter Tryd.func40, Tryd.ntmps40
  go_wp2_with (first | (go_at_call 42; refine hask.mono ?_; rintro e w1 ⟨ad, cap, rfl, d1, hpl, hall⟩; clear hask) | (go_at_call 38; refine hpl.mono ?_; rintro e w2 ⟨rfl, hw⟩; obtain rfl := hw.symm) | (go_at_call 52; refine hall.mono ?_; rintro e w2 ⟨rfl, hbx, hb2⟩; obtain ⟨e0, e1, e2, e3, e4, -⟩ := hbx.out; clear d1 hpl hall))
  refine wp_loop_rounds 2 ?_
  rw [rounds_succ]
  go_wp2
  rw [rounds_succ]
  go_wp2
  go_ret
  exact ⟨rfl, hb2.out.alloc hb2.out.size _⟩

set_option maxHeartbeats 1000000 in
theorem one2_zz (hc : w.cell? ⟨bn, 0, none⟩ = some (.int .i64 P)) (hd : isPl P dst = true) (ha : (asks ⟨2, dst, a, b, c⟩).all (isPl P) = true)  (kb : b = 0) (kc : c = 0) :
    Calls Tryd.prog 40 #[.agg #[.int .i64 2, .int .i64 dst, .int .i64 a, .int .i64 b, .int .i64 c], .int .i64 nums, .func (.func 38) #[] #[.pointer (some ⟨bn, 0, none⟩)]] w fun e w' => e = .returned (.int .i64 (0 : Int)) ∧ Below w.heap.size w w' := by
  have hask := tail_calls 2 dst a b c P bn w 1 hc hd ha rfl (by omega)
  subst kb
  subst kc
  clear hc hd ha
  go_enter Tryd.func40, Tryd.ntmps40
  go_wp2_with (first | (go_at_call 42; refine hask.mono ?_; rintro e w1 ⟨ad, cap, rfl, d1, hpl, hall⟩; clear hask) | (go_at_call 38; refine hpl.mono ?_; rintro e w2 ⟨rfl, hw⟩; obtain rfl := hw.symm) | (go_at_call 52; refine hall.mono ?_; rintro e w2 ⟨rfl, hbx, hb2⟩; obtain ⟨e0, e1, e2, e3, e4, -⟩ := hbx.out; clear d1 hpl hall))
  refine wp_loop_rounds 3 ?_
  rw [rounds_succ]
  go_wp2
  rw [rounds_succ]
  go_wp2
  rw [rounds_succ]
  go_wp2
  go_ret
  exact ⟨rfl, hb2.out.alloc hb2.out.size _⟩

set_option maxHeartbeats 1000000 in
theorem one4_n (hc : w.cell? ⟨bn, 0, none⟩ = some (.int .i64 P)) (hd : isPl P dst = true) (ha : (asks ⟨4, dst, a, b, c⟩).all (isPl P) = true)   (kb : b ≠ 0) :
    Calls Tryd.prog 40 #[.agg #[.int .i64 4, .int .i64 dst, .int .i64 a, .int .i64 b, .int .i64 c], .int .i64 nums, .func (.func 38) #[] #[.pointer (some ⟨bn, 0, none⟩)]] w fun e w' => e = .returned (.int .i64 (1 : Int)) ∧ Below w.heap.size w w' := by
  have hask := tail_calls 4 dst a b c P bn w 1 hc hd ha rfl (by omega)
  have tb : (b != 0) = true := by simpa using kb
  clear hc hd ha
  go_enter Tryd.func40, Tryd.ntmps40
  go_wp2_with (first | (go_at_call 42; refine hask.mono ?_; rintro e w1 ⟨ad, cap, rfl, d1, hpl, hall⟩; clear hask) | (go_at_call 38; refine hpl.mono ?_; rintro e w2 ⟨rfl, hw⟩; obtain rfl := hw.symm) | (go_at_call 52; refine hall.mono ?_; rintro e w2 ⟨rfl, hbx, hb2⟩; obtain ⟨e0, e1, e2, e3, e4, -⟩ := hbx.out; clear d1 hpl hall))
  refine wp_loop_rounds 1 ?_
  rw [rounds_succ]
  go_wp2
  go_ret
  exact ⟨rfl, hb2.out.alloc hb2.out.size _⟩

set_option maxHeartbeats 1000000 in
theorem one4_zn (hc : w.cell? ⟨bn, 0, none⟩ = some (.int .i64 P)) (hd : isPl P dst = true) (ha : (asks ⟨4, dst, a, b, c⟩).all (isPl P) = true)  (kb : b = 0) (kc : c ≠ 0) :
    Calls Tryd.prog 40 #[.agg #[.int .i64 4, .int .i64 dst, .int .i64 a, .int .i64 b, .int .i64 c], .int .i64 nums, .func (.func 38) #[] #[.pointer (some ⟨bn, 0, none⟩)]] w fun e w' => e = .returned (.int .i64 (1 : Int)) ∧ Below w.heap.size w w' := by
  have hask := tail_calls 4 dst a b c P bn w 1 hc hd ha rfl (by omega)
  subst kb
  have tc : (c != 0) = true := by simpa using kc
  clear hc hd ha
  go_enter Tryd.func40, Tryd.ntmps40
  go_wp2_with (first | (go_at_call 42; refine hask.mono ?_; rintro e w1 ⟨ad, cap, rfl, d1, hpl, hall⟩; clear hask) | (go_at_call 38; refine hpl.mono ?_; rintro e w2 ⟨rfl, hw⟩; obtain rfl := hw.symm) | (go_at_call 52; refine hall.mono ?_; rintro e w2 ⟨rfl, hbx, hb2⟩; obtain ⟨e0, e1, e2, e3, e4, -⟩ := hbx.out; clear d1 hpl hall))
  refine wp_loop_rounds 2 ?_
  rw [rounds_succ]
  go_wp2
  rw [rounds_succ]
  go_wp2
  go_ret
  exact ⟨rfl, hb2.out.alloc hb2.out.size _⟩

set_option maxHeartbeats 1000000 in
theorem one4_zz (hc : w.cell? ⟨bn, 0, none⟩ = some (.int .i64 P)) (hd : isPl P dst = true) (ha : (asks ⟨4, dst, a, b, c⟩).all (isPl P) = true)  (kb : b = 0) (kc : c = 0) :
    Calls Tryd.prog 40 #[.agg #[.int .i64 4, .int .i64 dst, .int .i64 a, .int .i64 b, .int .i64 c], .int .i64 nums, .func (.func 38) #[] #[.pointer (some ⟨bn, 0, none⟩)]] w fun e w' => e = .returned (.int .i64 (0 : Int)) ∧ Below w.heap.size w w' := by
  have hask := tail_calls 4 dst a b c P bn w 1 hc hd ha rfl (by omega)
  subst kb
  subst kc
  clear hc hd ha
  go_enter Tryd.func40, Tryd.ntmps40
  go_wp2_with (first | (go_at_call 42; refine hask.mono ?_; rintro e w1 ⟨ad, cap, rfl, d1, hpl, hall⟩; clear hask) | (go_at_call 38; refine hpl.mono ?_; rintro e w2 ⟨rfl, hw⟩; obtain rfl := hw.symm) | (go_at_call 52; refine hall.mono ?_; rintro e w2 ⟨rfl, hbx, hb2⟩; obtain ⟨e0, e1, e2, e3, e4, -⟩ := hbx.out; clear d1 hpl hall))
  refine wp_loop_rounds 3 ?_
  rw [rounds_succ]
  go_wp2
  rw [rounds_succ]
  go_wp2
  rw [rounds_succ]
  go_wp2
  go_ret
  exact ⟨rfl, hb2.out.alloc hb2.out.size _⟩

set_option maxHeartbeats 1000000 in
theorem one5_n (hc : w.cell? ⟨bn, 0, none⟩ = some (.int .i64 P)) (hd : isPl P dst = true) (ha : (asks ⟨5, dst, a, b, c⟩).all (isPl P) = true)   (kb : b ≠ 0) :
    Calls Tryd.prog 40 #[.agg #[.int .i64 5, .int .i64 dst, .int .i64 a, .int .i64 b, .int .i64 c], .int .i64 nums, .func (.func 38) #[] #[.pointer (some ⟨bn, 0, none⟩)]] w fun e w' => e = .returned (.int .i64 (1 : Int)) ∧ Below w.heap.size w w' := by
  have hask := tail_calls 5 dst a b c P bn w 1 hc hd ha rfl (by omega)
  have tb : (b != 0) = true := by simpa using kb
  clear hc hd ha
  go_enter Tryd.func40, Tryd.ntmps40
  go_wp2_with (first | (go_at_call 42; refine hask.mono ?_; rintro e w1 ⟨ad, cap, rfl, d1, hpl, hall⟩; clear hask) | (go_at_call 38; refine hpl.mono ?_; rintro e w2 ⟨rfl, hw⟩; obtain rfl := hw.symm) | (go_at_call 52; refine hall.mono ?_; rintro e w2 ⟨rfl, hbx, hb2⟩; obtain ⟨e0, e1, e2, e3, e4, -⟩ := hbx.out; clear d1 hpl hall))
  refine wp_loop_rounds 1 ?_
  rw [rounds_succ]
  go_wp2
  go_ret
  exact ⟨rfl, hb2.out.alloc hb2.out.size _⟩

set_option maxHeartbeats 1000000 in
theorem one5_zn (hc : w.cell? ⟨bn, 0, none⟩ = some (.int .i64 P)) (hd : isPl P dst = true) (ha : (asks ⟨5, dst, a, b, c⟩).all (isPl P) = true)  (kb : b = 0) (kc : c ≠ 0) :
    Calls Tryd.prog 40 #[.agg #[.int .i64 5, .int .i64 dst, .int .i64 a, .int .i64 b, .int .i64 c], .int .i64 nums, .func (.func 38) #[] #[.pointer (some ⟨bn, 0, none⟩)]] w fun e w' => e = .returned (.int .i64 (1 : Int)) ∧ Below w.heap.size w w' := by
  have hask := tail_calls 5 dst a b c P bn w 1 hc hd ha rfl (by omega)
  subst kb
  have tc : (c != 0) = true := by simpa using kc
  clear hc hd ha
  go_enter Tryd.func40, Tryd.ntmps40
  go_wp2_with (first | (go_at_call 42; refine hask.mono ?_; rintro e w1 ⟨ad, cap, rfl, d1, hpl, hall⟩; clear hask) | (go_at_call 38; refine hpl.mono ?_; rintro e w2 ⟨rfl, hw⟩; obtain rfl := hw.symm) | (go_at_call 52; refine hall.mono ?_; rintro e w2 ⟨rfl, hbx, hb2⟩; obtain ⟨e0, e1, e2, e3, e4, -⟩ := hbx.out; clear d1 hpl hall))
  refine wp_loop_rounds 2 ?_
  rw [rounds_succ]
  go_wp2
  rw [rounds_succ]
  go_wp2
  go_ret
  exact ⟨rfl, hb2.out.alloc hb2.out.size _⟩

set_option maxHeartbeats 1000000 in
theorem one5_zz (hc : w.cell? ⟨bn, 0, none⟩ = some (.int .i64 P)) (hd : isPl P dst = true) (ha : (asks ⟨5, dst, a, b, c⟩).all (isPl P) = true)  (kb : b = 0) (kc : c = 0) :
    Calls Tryd.prog 40 #[.agg #[.int .i64 5, .int .i64 dst, .int .i64 a, .int .i64 b, .int .i64 c], .int .i64 nums, .func (.func 38) #[] #[.pointer (some ⟨bn, 0, none⟩)]] w fun e w' => e = .returned (.int .i64 (0 : Int)) ∧ Below w.heap.size w w' := by
  have hask := tail_calls 5 dst a b c P bn w 1 hc hd ha rfl (by omega)
  subst kb
  subst kc
  clear hc hd ha
  go_enter Tryd.func40, Tryd.ntmps40
  go_wp2_with (first | (go_at_call 42; refine hask.mono ?_; rintro e w1 ⟨ad, cap, rfl, d1, hpl, hall⟩; clear hask) | (go_at_call 38; refine hpl.mono ?_; rintro e w2 ⟨rfl, hw⟩; obtain rfl := hw.symm) | (go_at_call 52; refine hall.mono ?_; rintro e w2 ⟨rfl, hbx, hb2⟩; obtain ⟨e0, e1, e2, e3, e4, -⟩ := hbx.out; clear d1 hpl hall))
  refine wp_loop_rounds 3 ?_
  rw [rounds_succ]
  go_wp2
  rw [rounds_succ]
  go_wp2
  rw [rounds_succ]
  go_wp2
  go_ret
  exact ⟨rfl, hb2.out.alloc hb2.out.size _⟩

end
end Nx
end Go.Proofs.YtalfelkblbbmpaaDoor
