/- The deferred closure of Parse: what was thrown is caught; nothing was thrown. -/
import Derived.Test.YtobamalnbjbmiaaGreatDoorQPvar
import Derived.Defers
import Derived.Recover
import Derived.Test.YtobamalnbjbmiaaGreatDoorQSplit
namespace Go.Proofs.YtobamalnbjbmiaaGreatDoor
open Go.RowKit Px

theorem Tryz.isAtAny (v : Value) (w : World) : (Instr.typeAssert (.iface 87 v) 20 87 true).run Tryz.prog w = .ok (.tuple #[v, .bool true]) w := by kernel_rfl

set_option maxRecDepth 100000 in
set_option maxHeartbeats 2000000 in
theorem catch_idle (cb eb : Addr) (w : World) :
    CallsD Tryz.prog 46 #[.pointer (some cb), .pointer (some eb)] .returning w fun e u' w' => e = .returned (.tuple #[]) ∧ u' = .returning ∧ w' = w := by
  refine callsD_of_wpS Tryz.func46 rfl fun c₀ cs hu => ?_
  apply wpS_seq
  apply wpS_region
  simp [wpOpsS, go_sem, recoverD, hu, Tryz.ntmps46, Exit.thenS]
  apply wpS_of_wp
  go_wp2
  cases c₀
  simp_all [bodyPostS, results, Tryz.results46]
end Go.Proofs.YtobamalnbjbmiaaGreatDoor
/- The deferred closure of Parse: what was thrown is caught. -/
namespace Go.Proofs.YtobamalnbjbmiaaGreatDoor
open Go.RowKit Px

set_option maxRecDepth 100000 in
set_option maxHeartbeats 4000000 in
theorem catch_thrown (cb eb q : Nat) (w : World) (older : List PanicEntry) (k0 : w.cell? ⟨cb, 0, none⟩ = some (.string ⟨#[]⟩)) (k1 : w.cell? ⟨cb, 1, none⟩ = some (.slice none 0 0)) (k2 : w.cell? ⟨cb, 2, none⟩ = some (.slice none 0 0)) (kz : ∀ o, w.frozen? ⟨cb, o, none⟩ = false) (ke : w.cell? ⟨eb, 0, none⟩ = some .nilIface) (ez : w.frozen? ⟨eb, 0, none⟩ = false) (hne : cb ≠ eb) :
    CallsD Tryz.prog 46 #[.pointer (some ⟨cb, 0, none⟩), .pointer (some ⟨eb, 0, none⟩)] (.panicking ({ v := .iface 87 (.pointer (some ⟨q, 0, none⟩)), recovered := false } :: older)) w fun e u' w' => e = .returned (.tuple #[]) ∧ u' = .panicking ({ v := .iface 87 (.pointer (some ⟨q, 0, none⟩)), recovered := true } :: older) ∧ w' = (((w.setCell ⟨cb, 0, none⟩ (.string ⟨#[]⟩)).setCell ⟨cb, 1, none⟩ (.slice none 0 0)).setCell ⟨cb, 2, none⟩ (.slice none 0 0)).setCell ⟨eb, 0, none⟩ (.iface 87 (.pointer (some ⟨q, 0, none⟩))) := by
  refine callsD_of_wpS Tryz.func46 rfl fun c₀ cs hu => ?_
  apply wpS_seq
  apply wpS_region
  simp [wpOpsS, go_sem, recoverD, hu, Tryz.ntmps46, Exit.thenS]
  have harr : ∀ (V a b : Value), (#[a, b] ++ ((Array.replicate 17 undef).setIfInBounds 3 V).setIfInBounds 0 V : Array Value) = #[a, b, V, undef, undef, V, undef, undef, undef, undef, undef, undef, undef, undef, undef, undef, undef, undef, undef] := fun _ _ _ => rfl
  rw [harr]
  apply wpS_of_wp
  have hta := Tryz.isAtAny (.pointer (some ⟨q, 0, none⟩))
  go_wp2
  cases c₀
  simp_all [bodyPostS, results, Tryz.results46]
end Go.Proofs.YtobamalnbjbmiaaGreatDoor
/- the document's own answer: how long the mark is that stands first. -/
namespace Go.Proofs.YtobamalnbjbmiaaGreatDoor
open Go.RowKit

/-- by lengths, the longest first -/
def byLen : Nat → List UInt8 → Nat
  | 0, _ => 0
  | n + 1, u => if u.length < n + 1 then byLen n u else if Lx.marks.contains (u.take (n + 1)) then n + 1 else byLen n u

theorem prefix_take (m u : List UInt8) (n : Nat) (hn : m.length = n) : m.isPrefixOf u = (decide (n ≤ u.length) && (u.take n == m)) := by
  rw [Bool.eq_iff_iff]
  simp only [List.isPrefixOf_iff_prefix, Bool.and_eq_true, decide_eq_true_eq, beq_iff_eq]
  constructor
  · intro h; refine ⟨hn ▸ h.length_le, ?_⟩; rw [← hn]; exact (List.prefix_iff_eq_take.1 h).symm
  · rintro ⟨_, h2⟩; rw [← h2]; exact List.take_prefix n u

theorem markIn_same (M : List (List UInt8)) (n : Nat) (h : ∀ m ∈ M, m.length = n) (R : List (List UInt8)) (u : List UInt8) :
    Lx.markIn (M ++ R) u = if decide (n ≤ u.length) && M.contains (u.take n) then n else Lx.markIn R u := by
  induction M with
  | nil => simp
  | cons m r ih =>
    have hm := h m (by simp)
    rw [List.cons_append, Lx.markIn, prefix_take m u n hm, ih (fun x hx => h x (by simp [hx])), hm]
    by_cases h1 : n ≤ u.length
    · by_cases h2 : u.take n = m
      · simp [h1, h2]
      · simp only [h1, decide_true, Bool.true_and, beq_iff_eq, h2, if_false, List.contains_cons]
        have h3 : (List.take n u == m) = false := by simpa using h2
        rw [h3, Bool.false_or]
    · simp [h1]

theorem contains_len (A B : List (List UInt8)) (x : List UInt8) (h : ∀ m ∈ A, m.length ≠ x.length) : (A ++ B).contains x = B.contains x := by
  rw [Bool.eq_iff_iff]
  simp only [List.contains_iff_mem, List.mem_append]
  constructor
  · rintro (h1 | h1)
    · exact absurd rfl (h x h1)
    · exact h1
  · exact .inr

theorem mk_byLen (u : List UInt8) : Lx.mk u = byLen 3 u := by
  have e : Lx.marks = [[45, 45, 62]] ++ ([[58, 61], [61, 61], [33, 61], [60, 61], [38, 38], [124, 124]] ++ ([[60], [43], [45], [42], [47], [37], [33], [40], [41], [123], [125], [59], [58], [44]] ++ [])) := rfl
  unfold Lx.mk
  rw [e, markIn_same _ 3 (by decide), markIn_same _ 2 (by decide), markIn_same _ 1 (by decide)]
  simp only [byLen, Lx.markIn]
  have c3 : 3 ≤ u.length → Lx.marks.contains (u.take 3) = [[45, 45, 62]].contains (u.take 3) := by
    intro h
    have hl : (u.take 3).length = 3 := by rw [List.length_take]; omega
    rw [Bool.eq_iff_iff]; simp only [List.contains_iff_mem, Lx.marks, List.mem_cons, List.not_mem_nil, or_false]
    constructor
    · rintro (h | h | h | h | h | h | h | h | h | h | h | h | h | h | h | h | h | h | h | h | h) <;> first | exact h | (rw [h] at hl; simp at hl)
    · exact .inl
  have c2 : 2 ≤ u.length → Lx.marks.contains (u.take 2) = [[58, 61], [61, 61], [33, 61], [60, 61], [38, 38], [124, 124]].contains (u.take 2) := by
    intro h
    have hl : (u.take 2).length = 2 := by rw [List.length_take]; omega
    rw [Bool.eq_iff_iff]; simp only [List.contains_iff_mem, Lx.marks, List.mem_cons, List.not_mem_nil, or_false]
    constructor
    · rintro (h | h | h | h | h | h | h | h | h | h | h | h | h | h | h | h | h | h | h | h | h) <;> first | (simp [h]; done) | (rw [h] at hl; simp at hl)
    · rintro (h | h | h | h | h | h) <;> simp [h]
  have c1 : 1 ≤ u.length → Lx.marks.contains (u.take 1) = [[60], [43], [45], [42], [47], [37], [33], [40], [41], [123], [125], [59], [58], [44]].contains (u.take 1) := by
    intro h
    have hl : (u.take 1).length = 1 := by rw [List.length_take]; omega
    rw [Bool.eq_iff_iff]; simp only [List.contains_iff_mem, Lx.marks, List.mem_cons, List.not_mem_nil, or_false]
    constructor
    · rintro (h | h | h | h | h | h | h | h | h | h | h | h | h | h | h | h | h | h | h | h | h) <;> first | (simp [h]; done) | (rw [h] at hl; simp at hl)
    · rintro (h | h | h | h | h | h | h | h | h | h | h | h | h | h) <;> simp [h]
  by_cases h3 : 3 ≤ u.length
  · rw [c3 h3, c2 (by omega), c1 (by omega)]
    simp [h3, show 2 ≤ u.length by omega, show 1 ≤ u.length by omega, show ¬ u.length < 3 by omega, show ¬ u.length < 2 by omega, show ¬ u.length < 1 by omega]
  · by_cases h2 : 2 ≤ u.length
    · rw [c2 h2, c1 (by omega)]
      simp [h3, h2, show 1 ≤ u.length by omega, show u.length < 3 by omega, show ¬ u.length < 2 by omega, show ¬ u.length < 1 by omega]
    · by_cases h1 : 1 ≤ u.length
      · rw [c1 h1]
        simp [h3, h2, h1, show u.length < 3 by omega, show u.length < 2 by omega, show ¬ u.length < 1 by omega]
      · simp [h3, h2, h1, show u.length < 3 by omega, show u.length < 2 by omega, show u.length < 1 by omega]
end Go.Proofs.YtobamalnbjbmiaaGreatDoor
/- the document's own answer, mark: its walk. -/
namespace Go.Proofs.YtobamalnbjbmiaaGreatDoor
open Go.RowKit

theorem byLen_pos (n : Nat) (u : List UInt8) (h : 0 < n) : byLen n u = if u.length < n then byLen (n - 1) u else if Lx.marks.contains (u.take n) then n else byLen (n - 1) u := by
  obtain ⟨m, rfl⟩ : ∃ m, n = m + 1 := ⟨n - 1, by omega⟩
  rfl
theorem lits_at (k : Nat) (hk : k < 21) : ∃ mb : ByteArray, Hid (bs mb = Lx.marks.getD k []) ∧ ∀ w : World, (Instr.index 211 (.agg #[.string ⟨#[45, 45, 62]⟩, .string ⟨#[58, 61]⟩, .string ⟨#[61, 61]⟩, .string ⟨#[33, 61]⟩, .string ⟨#[60, 61]⟩, .string ⟨#[38, 38]⟩, .string ⟨#[124, 124]⟩, .string ⟨#[60]⟩, .string ⟨#[43]⟩, .string ⟨#[45]⟩, .string ⟨#[42]⟩, .string ⟨#[47]⟩, .string ⟨#[37]⟩, .string ⟨#[33]⟩, .string ⟨#[40]⟩, .string ⟨#[41]⟩, .string ⟨#[123]⟩, .string ⟨#[125]⟩, .string ⟨#[59]⟩, .string ⟨#[58]⟩, .string ⟨#[44]⟩]) (.int .i64 k)).run Tryz.prog w = .ok (.string mb) w :=
  ⟨⟨(Lx.marks.getD k []).toArray⟩, rfl, fun w => index_marks k hk w⟩

theorem cut_eq (s mb : ByteArray) (n : Nat) : ((s.extract 0 n).toList == mb.toList) = decide (bs mb = (bs s).take n) := by
  rw [ByteArray.toList_eq, ByteArray.toList_eq, Bool.eq_iff_iff]
  simp only [beq_iff_eq, decide_eq_true_eq]
  have h := bs_extract s 0 n
  rw [List.drop_zero, Nat.sub_zero] at h
  constructor
  · intro h2; rw [← h]; exact h2.symm
  · intro h2; rw [← h] at h2; exact h2.symm
theorem marks_mem (k : Nat) (h : k < 21) : Lx.marks.contains (Lx.marks.getD k []) = true := by
  have : ∀ k : Fin 21, Lx.marks.contains (Lx.marks.getD k.val []) = true := by decide
  exact this ⟨k, h⟩
theorem marks_not (x : List UInt8) (h : ∀ j, j < 21 → Lx.marks.getD j [] ≠ x) : Lx.marks.contains x = false := by
  rw [Bool.eq_false_iff]
  intro hc
  obtain ⟨j, hj, he⟩ := List.getElem_of_mem (List.contains_iff_mem.1 hc)
  exact h j hj (by rw [List.getD_eq_getElem?_getD, List.getElem?_eq_getElem hj]; exact he)
set_option maxRecDepth 100000 in
set_option maxHeartbeats 1000000 in
theorem mark_any (s : ByteArray) (w : World) :
    Calls Tryz.prog 150 #[.string s] w fun e w' => e = .returned (.int .i64 (Lx.mk (bs s) : Nat)) ∧ w' = w := by
  go_enter Tryz.func150, Tryz.ntmps150
  go_wp2
  go_loop [3] (fun i => ∃ n : Nat, n ≤ 3 ∧ i = .int .i64 n ∧ Hid (Lx.mk (bs s) = byLen n (bs s))) (fun i => (intOf i).toNat)
  case atStart => exact ⟨3, by omega, rfl, mk_byLen _⟩
  case round =>
    obtain ⟨n, hn, rfl, hr⟩ := hrel
    by_cases hn0 : 0 < n
    · by_cases hlt : s.size < n
      · have H : Hid (Lx.mk (bs s) = byLen (n - 1) (bs s)) := by
          show _ = _; rw [hr.out, byLen_pos n _ hn0, if_pos (by rw [bs_len]; exact hlt)]
        go_wp2
        go_round
        case rel => exact ⟨n - 1, by omega, by go_num, H⟩
        case measure => simp [intOf]; omega
      · have hr2 : Hid (Lx.mk (bs s) = if Lx.marks.contains ((bs s).take n) then n else byLen (n - 1) (bs s)) := by
          show _ = _; rw [hr.out, byLen_pos n _ hn0, if_neg (by rw [bs_len]; exact hlt)]
        go_wp2
        go_loop [15] (fun i => ∃ k : Nat, k ≤ 21 ∧ i = .int .i64 k ∧ Hid (∀ j, j < k → Lx.marks.getD j [] ≠ (bs s).take n)) (fun i => 21 - (intOf i).toNat)
        case atStart => exact ⟨0, by omega, rfl, fun j hj => absurd hj (by omega)⟩
        case round =>
          obtain ⟨k, hk, rfl, hj⟩ := hrel
          by_cases hlt2 : k < 21
          · obtain ⟨mb, HMB, hix⟩ := lits_at k hlt2
            by_cases heq : bs mb = (bs s).take n
            · have ht : ((s.extract 0 n).toList == mb.toList) = true := by rw [cut_eq]; exact decide_eq_true heq
              have H : Hid (Lx.mk (bs s) = n) := by
                show _ = _; rw [hr2.out, ← heq, HMB.out, marks_mem k hlt2]; rfl
              clear heq
              go_wp2
              go_ret
              exact ⟨ret_int (by rw [H.out]), rfl⟩
            · have ht : ((s.extract 0 n).toList == mb.toList) = false := by rw [cut_eq]; exact decide_eq_false heq
              have H : Hid (∀ j, j < k + 1 → Lx.marks.getD j [] ≠ (bs s).take n) := by
                intro j hjk
                by_cases e : j = k
                · subst e; rw [← HMB.out]; exact heq
                · exact hj.out j (by omega)
              clear heq
              go_wp2
              go_round
              case rel => exact ⟨k + 1, by omega, by go_num, H⟩
              case measure => simp [intOf]; omega
          · have hk21 : k = 21 := by omega
            subst hk21
            have H : Hid (Lx.mk (bs s) = byLen (n - 1) (bs s)) := by
              show _ = _; rw [hr2.out, marks_not _ hj.out]; rfl
            go_wp2
            go_round
            case rel => exact ⟨n - 1, by omega, by go_num, H⟩
            case measure => simp [intOf]; omega
    · have h0 : n = 0 := by omega
      subst h0
      go_wp2
      go_ret
      exact ⟨ret_int (by rw [hr.out]; rfl), rfl⟩
end Go.Proofs.YtobamalnbjbmiaaGreatDoor
