/- The small functions of the program and of the document's own answer: isBlank, inLine, isDigit, isWord, alpha, digit. -/
import Derived.Test.YthcapeglhebdjaaDoorProg
import Derived.Test.YthcapeglhebdjaaDoorPlain
import Derived.WalkKit
namespace Go.Proofs.YthcapeglhebdjaaDoor
open Go.RowKit

theorem u8_eq (c : UInt8) (n : Nat) (hn : n < 256) : (c == UInt8.ofNat n) = decide ((c.toNat : Int) = (n : Int)) := by
  rw [Bool.eq_iff_iff]
  simp only [beq_iff_eq, decide_eq_true_eq]
  constructor
  · rintro rfl; simp; omega
  · intro h; apply UInt8.toNat_inj.1; simp; omega
theorem ret_bool {a b : Bool} (h : a = b) : Ending.returned (.bool a) = .returned (.bool b) := by rw [h]

set_option maxHeartbeats 400000 in
theorem isBlank_any (c : UInt8) (w : World) :
    Calls Tryd.prog 25 #[.int .u8 c.toNat] w fun e w' => e = .returned (.bool (Lx.blank c)) ∧ w' = w := by
  have hb : Lx.blank c = (decide ((c.toNat : Int) = 32) || decide ((c.toNat : Int) = 9) || decide ((c.toNat : Int) = 10)) := by
    have h1 : (c == 32) = decide ((c.toNat : Int) = 32) := u8_eq c 32 (by decide)
    have h2 : (c == 9) = decide ((c.toNat : Int) = 9) := u8_eq c 9 (by decide)
    have h3 : (c == 10) = decide ((c.toNat : Int) = 10) := u8_eq c 10 (by decide)
    unfold Lx.blank; rw [h1, h2, h3]
  have H : Hid (Lx.blank c = (decide ((c.toNat : Int) = 32) || decide ((c.toNat : Int) = 9) || decide ((c.toNat : Int) = 10))) := hb
  clear hb
  go_enter Tryd.func25, Tryd.ntmps25
  go_wp2
  all_goals go_ret
  all_goals (refine ⟨ret_bool ?_, rfl⟩; rw [H.out, Bool.eq_iff_iff]; simp <;> omega)
set_option maxHeartbeats 400000 in
theorem inLine_any (c : UInt8) (w : World) :
    Calls Tryd.prog 27 #[.int .u8 c.toNat] w fun e w' => e = .returned (.bool (Lx.inl c)) ∧ w' = w := by
  have H : Hid (Lx.inl c = !decide ((c.toNat : Int) = 10)) := by
    have h3 : (c == 10) = decide ((c.toNat : Int) = 10) := u8_eq c 10 (by decide)
    show _ = _; unfold Lx.inl bne; rw [h3]
  go_enter Tryd.func27, Tryd.ntmps27
  go_wp2
  all_goals go_ret
  all_goals (refine ⟨ret_bool ?_, rfl⟩; rw [H.out, Bool.eq_iff_iff]; simp <;> omega)
set_option maxHeartbeats 400000 in
theorem isDigit_any (c : UInt8) (w : World) :
    Calls Tryd.prog 28 #[.int .u8 c.toNat] w fun e w' => e = .returned (.bool (Lx.digit c)) ∧ w' = w := by
  have H : Hid (Lx.digit c = (decide (48 ≤ (c.toNat : Int)) && decide ((c.toNat : Int) ≤ 57))) := by
    show _ = _; unfold Lx.digit; congr 1 <;> (rw [decide_eq_decide]; omega)
  go_enter Tryd.func28, Tryd.ntmps28
  go_wp2
  all_goals go_ret
  all_goals (refine ⟨ret_bool ?_, rfl⟩; rw [H.out, Bool.eq_iff_iff]; simp <;> omega)
set_option maxHeartbeats 400000 in
theorem digit_any (c : UInt8) (w : World) :
    Calls Tryd.prog 16 #[.int .u8 c.toNat] w fun e w' => e = .returned (.bool (Lx.digit c)) ∧ w' = w := by
  have H : Hid (Lx.digit c = (decide (48 ≤ (c.toNat : Int)) && decide ((c.toNat : Int) ≤ 57))) := by
    show _ = _; unfold Lx.digit; congr 1 <;> (rw [decide_eq_decide]; omega)
  go_enter Tryd.func16, Tryd.ntmps16
  go_wp2
  all_goals go_ret
  all_goals (refine ⟨ret_bool ?_, rfl⟩; rw [H.out, Bool.eq_iff_iff]; simp <;> omega)
theorem alpha_int (c : UInt8) : Lx.alpha c = ((decide (97 ≤ (c.toNat : Int)) && decide ((c.toNat : Int) ≤ 122)) || (decide (65 ≤ (c.toNat : Int)) && decide ((c.toNat : Int) ≤ 90)) || decide ((c.toNat : Int) = 95)) := by
  have h3 : (c == 95) = decide ((c.toNat : Int) = 95) := u8_eq c 95 (by decide)
  unfold Lx.alpha; rw [h3]
  have a : decide (97 ≤ c.toNat) = decide (97 ≤ (c.toNat : Int)) := by rw [decide_eq_decide]; omega
  have b : decide (c.toNat ≤ 122) = decide ((c.toNat : Int) ≤ 122) := by rw [decide_eq_decide]; omega
  have d : decide (65 ≤ c.toNat) = decide (65 ≤ (c.toNat : Int)) := by rw [decide_eq_decide]; omega
  have e : decide (c.toNat ≤ 90) = decide ((c.toNat : Int) ≤ 90) := by rw [decide_eq_decide]; omega
  rw [a, b, d, e]
set_option maxHeartbeats 400000 in
theorem alpha_any (c : UInt8) (w : World) :
    Calls Tryd.prog 15 #[.int .u8 c.toNat] w fun e w' => e = .returned (.bool (Lx.alpha c)) ∧ w' = w := by
  have H : Hid (Lx.alpha c = _) := alpha_int c
  go_enter Tryd.func15, Tryd.ntmps15
  go_wp2
  all_goals go_ret
  all_goals (refine ⟨ret_bool ?_, rfl⟩; rw [H.out, Bool.eq_iff_iff]; simp <;> omega)
set_option maxHeartbeats 800000 in
theorem isWord_any (c : UInt8) (w : World) :
    Calls Tryd.prog 29 #[.int .u8 c.toNat] w fun e w' => e = .returned (.bool (Lx.word c)) ∧ w' = w := by
  have H : Hid (Lx.alpha c = _) := alpha_int c
  have H2 : Hid (Lx.word c = (Lx.alpha c || Lx.digit c)) := rfl
  go_enter Tryd.func29, Tryd.ntmps29
  go_wp2_with (go_at_call 28; refine (isDigit_any _ _).mono ?_; rintro e w' ⟨rfl, rfl⟩)
  all_goals go_ret
  all_goals (refine ⟨ret_bool ?_, rfl⟩; rw [H2.out, H.out, Bool.eq_iff_iff]; generalize Lx.digit c = d; cases d <;> simp <;> omega)
end Go.Proofs.YthcapeglhebdjaaDoor
