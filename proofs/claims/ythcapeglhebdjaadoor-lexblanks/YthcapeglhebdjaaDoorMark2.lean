/- the document's own answer, mark: its walk. -/
import Derived.Test.YthcapeglhebdjaaDoorMark
namespace Go.Proofs.YthcapeglhebdjaaDoor
open Go.RowKit

theorem byLen_pos (n : Nat) (u : List UInt8) (h : 0 < n) : byLen n u = if u.length < n then byLen (n - 1) u else if Lx.marks.contains (u.take n) then n else byLen (n - 1) u := by
  obtain ⟨m, rfl⟩ : ∃ m, n = m + 1 := ⟨n - 1, by omega⟩
  rfl
theorem lits_at (k : Nat) (hk : k < 21) : ∃ mb : ByteArray, Hid (bs mb = Lx.marks.getD k []) ∧ ∀ w : World, (Instr.index 68 (.agg #[.string ⟨#[45, 45, 62]⟩, .string ⟨#[58, 61]⟩, .string ⟨#[61, 61]⟩, .string ⟨#[33, 61]⟩, .string ⟨#[60, 61]⟩, .string ⟨#[38, 38]⟩, .string ⟨#[124, 124]⟩, .string ⟨#[60]⟩, .string ⟨#[43]⟩, .string ⟨#[45]⟩, .string ⟨#[42]⟩, .string ⟨#[47]⟩, .string ⟨#[37]⟩, .string ⟨#[33]⟩, .string ⟨#[40]⟩, .string ⟨#[41]⟩, .string ⟨#[123]⟩, .string ⟨#[125]⟩, .string ⟨#[59]⟩, .string ⟨#[58]⟩, .string ⟨#[44]⟩]) (.int .i64 k)).run Tryd.prog w = .ok (.string mb) w :=
  ⟨⟨(Lx.marks.getD k []).toArray⟩, rfl, fun w => index_marks k hk w⟩

theorem cut_eq (s mb : ByteArray) (n : Nat) : ((s.extract 0 n).toList == mb.toList) = decide (bs mb = (bs s).take n) := by
  rw [ByteArray.toList_eq, ByteArray.toList_eq, Bool.eq_iff_iff]
  simp only [beq_iff_eq, decide_eq_true_eq]
  have h := bs_extract s 0 n
  rw [List.drop_zero, Nat.sub_zero] at h
  constructor
  · intro h2; rw [← h]; exact h2.symm
  · intro h2; rw [← h] at h2; exact h2.symm
theorem marks_mem (k : Nat) (h : k < 21) : Lx.marks.contains (Lx.marks.getD k []) = true := by
  have : ∀ k : Fin 21, Lx.marks.contains (Lx.marks.getD k.val []) = true := by decide
  exact this ⟨k, h⟩
theorem marks_not (x : List UInt8) (h : ∀ j, j < 21 → Lx.marks.getD j [] ≠ x) : Lx.marks.contains x = false := by
  rw [Bool.eq_false_iff]
  intro hc
  obtain ⟨j, hj, he⟩ := List.getElem_of_mem (List.contains_iff_mem.1 hc)
  exact h j hj (by rw [List.getD_eq_getElem?_getD, List.getElem?_eq_getElem hj]; exact he)
set_option maxRecDepth 100000 in
set_option maxHeartbeats 1000000 in
theorem mark_any (s : ByteArray) (w : World) :
    Calls Tryd.prog 17 #[.string s] w fun e w' => e = .returned (.int .i64 (Lx.mk (bs s) : Nat)) ∧ w' = w := by
  go_enter Tryd.func17, Tryd.ntmps17
  go_wp2
  go_loop [3] (fun i => ∃ n : Nat, n ≤ 3 ∧ i = .int .i64 n ∧ Hid (Lx.mk (bs s) = byLen n (bs s))) (fun i => (intOf i).toNat)
  case atStart => exact ⟨3, by omega, rfl, mk_byLen _⟩
  case round =>
    obtain ⟨n, hn, rfl, hr⟩ := hrel
    by_cases hn0 : 0 < n
    · by_cases hlt : s.size < n
      · have H : Hid (Lx.mk (bs s) = byLen (n - 1) (bs s)) := by
          show _ = _; rw [hr.out, byLen_pos n _ hn0, if_pos (by rw [bs_len]; exact hlt)]
        go_wp2
        go_round
        case rel => exact ⟨n - 1, by omega, by go_num, H⟩
        case measure => simp [intOf]; omega
      · have hr2 : Hid (Lx.mk (bs s) = if Lx.marks.contains ((bs s).take n) then n else byLen (n - 1) (bs s)) := by
          show _ = _; rw [hr.out, byLen_pos n _ hn0, if_neg (by rw [bs_len]; exact hlt)]
        go_wp2
        go_loop [15] (fun i => ∃ k : Nat, k ≤ 21 ∧ i = .int .i64 k ∧ Hid (∀ j, j < k → Lx.marks.getD j [] ≠ (bs s).take n)) (fun i => 21 - (intOf i).toNat)
        case atStart => exact ⟨0, by omega, rfl, fun j hj => absurd hj (by omega)⟩
        case round =>
          obtain ⟨k, hk, rfl, hj⟩ := hrel
          by_cases hlt2 : k < 21
          · obtain ⟨mb, HMB, hix⟩ := lits_at k hlt2
            by_cases heq : bs mb = (bs s).take n
            · have ht : ((s.extract 0 n).toList == mb.toList) = true := by rw [cut_eq]; exact decide_eq_true heq
              have H : Hid (Lx.mk (bs s) = n) := by
                show _ = _; rw [hr2.out, ← heq, HMB.out, marks_mem k hlt2]; rfl
              clear heq
              go_wp2
              go_ret
              exact ⟨ret_int (by rw [H.out]), rfl⟩
            · have ht : ((s.extract 0 n).toList == mb.toList) = false := by rw [cut_eq]; exact decide_eq_false heq
              have H : Hid (∀ j, j < k + 1 → Lx.marks.getD j [] ≠ (bs s).take n) := by
                intro j hjk
                by_cases e : j = k
                · subst e; rw [← HMB.out]; exact heq
                · exact hj.out j (by omega)
              clear heq
              go_wp2
              go_round
              case rel => exact ⟨k + 1, by omega, by go_num, H⟩
              case measure => simp [intOf]; omega
          · have hk21 : k = 21 := by omega
            subst hk21
            have H : Hid (Lx.mk (bs s) = byLen (n - 1) (bs s)) := by
              show _ = _; rw [hr2.out, marks_not _ hj.out]; rfl
            go_wp2
            go_round
            case rel => exact ⟨n - 1, by omega, by go_num, H⟩
            case measure => simp [intOf]; omega
    · have h0 : n = 0 := by omega
      subst h0
      go_wp2
      go_ret
      exact ⟨ret_int (by rw [hr.out]; rfl), rfl⟩
end Go.Proofs.YthcapeglhebdjaaDoor
