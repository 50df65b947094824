/- What is wrong with a step, as the document's own answer asks it: plain; and its Asks once more. -/
import Derived.Test.YtalfelkblbbmpaaDoorNr3
import Derived.Test.YtalfelkblbbmpaaDoorNt7
namespace Go.Proofs.YtalfelkblbbmpaaDoor
open Go.RowKit
namespace Nx

def okB (P : Int) (nums : Nat) (s : Sp) : Bool := isPl P s.dst && (s.code != 1 || (decide (0 ≤ s.a) && decide (s.a ≤ (nums : Int) - 1)))
def restB (s : Sp) : Bool := (decide ((asks s).length < 3) && s.c != 0) || (decide ((asks s).length < 2) && s.b != 0)

theorem refStep (P : Int) (nums : Nat) (s : Sp) : stepE P nums s = if s.code ≠ 1 ∧ (asks s).length = 0 then 3 else if (okB P nums s && (asks s).all (isPl P)) = false then 2 else if restB s = true then 1 else 0 := by
  obtain ⟨code, dst, a, b, c⟩ := s
  by_cases h : code < 1 ∨ 17 < code ∨ code = 3
  · have ea : asks ⟨code, dst, a, b, c⟩ = [] := by unfold asks; rw [if_neg (by simp; omega), if_neg (by simp; omega), if_neg (by simp; omega)]
    have h1 : code ≠ 1 := by omega
    unfold stepE
    rw [if_pos h, ea, if_pos ⟨h1, rfl⟩]
  by_cases c1 : code = 1
  · subst c1
    have ea : asks ⟨1, dst, a, b, c⟩ = [] := rfl
    have n1 : ¬ ((1 : Int) ≠ 1 ∧ (asks ⟨1, dst, a, b, c⟩).length = 0) := fun x => x.1 rfl
    rw [if_neg n1]
    have al : (asks ⟨1, dst, a, b, c⟩).all (isPl P) = true := rfl
    have rs : restB ⟨1, dst, a, b, c⟩ = (c != 0 || b != 0) := by unfold restB; rw [ea]; simp
    have dr : ([a, b, c].drop (if (1 : Int) = 1 then 1 else (asks ⟨1, dst, a, b, c⟩).length)).any (· != 0) = (b != 0 || c != 0) := by simp
    cases hd : isPl P dst with
    | false =>
      have ok : okB P nums ⟨1, dst, a, b, c⟩ = false := by unfold okB; simp [hd]
      rw [ok, if_pos (by simp)]
      unfold stepE
      rw [if_neg h, if_pos (by simp [hd])]
    | true =>
      by_cases hr : 0 ≤ a ∧ a < nums
      · have hr2 : 0 ≤ a ∧ a ≤ (nums : Int) - 1 := by omega
        have ok : okB P nums ⟨1, dst, a, b, c⟩ = true := by unfold okB; simp [hd, hr2]
        rw [ok, al, if_neg (by simp), rs]
        unfold stepE
        rw [if_neg h, if_neg (fun x => x ⟨hd, al⟩), if_neg (fun x => x.2 hr), dr, Bool.or_comm]
      · have hr2 : ¬ (0 ≤ a ∧ a ≤ (nums : Int) - 1) := by omega
        have ok : okB P nums ⟨1, dst, a, b, c⟩ = false := by
          unfold okB
          simp only [hd, Bool.true_and]
          rw [show ((1 : Int) != 1) = false from rfl, Bool.false_or]
          apply Bool.eq_false_iff.2
          intro x
          simp at x
          exact hr2 (by omega)
        rw [ok, if_pos (by simp)]
        unfold stepE
        rw [if_neg h, if_neg (fun x => x ⟨hd, al⟩), if_pos ⟨rfl, hr⟩]
  · have e3 : stepE P nums ⟨code, dst, a, b, c⟩ = if ¬ (isPl P dst = true ∧ (asks ⟨code, dst, a, b, c⟩).all (isPl P) = true) then 2 else if ([a, b, c].drop (asks ⟨code, dst, a, b, c⟩).length).any (· != 0) then 1 else 0 := by
      unfold stepE
      rw [if_neg h]
      simp only [c1, false_and, if_false]
    have ok : okB P nums ⟨code, dst, a, b, c⟩ = isPl P dst := by unfold okB; simp [c1]
    have len : (asks ⟨code, dst, a, b, c⟩).length = 1 ∨ (asks ⟨code, dst, a, b, c⟩).length = 2 ∨ (asks ⟨code, dst, a, b, c⟩).length = 3 := by
      unfold asks
      by_cases k1 : code = 2 ∨ code = 4 ∨ code = 5
      · rw [if_pos k1]; simp
      · by_cases k2 : 6 ≤ code ∧ code ≤ 16
        · rw [if_neg k1, if_pos k2]; simp
        · rw [if_neg k1, if_neg k2, if_pos (by simp; omega)]; simp
    have n1 : ¬ (code ≠ 1 ∧ (asks ⟨code, dst, a, b, c⟩).length = 0) := fun x => by omega
    rw [if_neg n1]
    cases hd : isPl P dst with
    | false =>
      rw [ok, hd, if_pos (by simp), e3, if_pos (by simp [hd])]
    | true =>
      cases ha : (asks ⟨code, dst, a, b, c⟩).all (isPl P) with
      | false =>
        rw [ok, hd, if_pos (by simp), e3, if_pos (by simp only [ha]; simp)]
      | true =>
        rw [ok, hd, if_neg (by simp), e3, if_neg (fun x => x ⟨hd, ha⟩)]
        unfold restB
        rcases len with e | e | e <;> rw [e] <;> by_cases kb : b = 0 <;> by_cases kc : c = 0 <;> simp [kb, kc]

theorem take_all {P : Int} {l : List Int} {j : Nat} (hj : j < l.length) : (l.take (j + 1)).all (isPl P) = ((l.take j).all (isPl P) && isPl P (l.getD j 0)) := by
  rw [List.take_succ_eq_append_getElem hj, List.all_append]
  simp [List.getD_eq_getElem?_getD, hj]

theorem refAsksL (code dst a b c : Int) (w : World) (l : List Int) (hl : l = asks ⟨code, dst, a, b, c⟩) (K : Nat) (hK : K = l.length) :
    Calls Tryd.prog 17 #[.agg #[.int .i64 code, .int .i64 dst, .int .i64 a, .int .i64 b, .int .i64 c]] w fun e w' => ∃ ad bA oA cap, e = .returned (.slice ad K cap) ∧ Hid ((0 < K → ad = some ⟨bA, oA, none⟩) ∧ ∀ j, j < K → w'.cell? ⟨bA, oA + j, none⟩ = some (.int .i64 (l.getD j 0))) ∧ Hid (Below w.heap.size w w') := by
  subst hl hK
  refine (refAsks_any code dst a b c w).mono fun e w' ⟨v, he, hi, hb⟩ => ?_
  obtain ⟨ad, b', off, cap, rfl, h1, h2⟩ := hi
  exact ⟨ad, b', off, cap, he, ⟨fun h => (h1 h).1, h2⟩, hb⟩
end Nx
end Go.Proofs.YtalfelkblbbmpaaDoor
