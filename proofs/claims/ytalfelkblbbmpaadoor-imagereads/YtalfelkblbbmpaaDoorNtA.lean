/- What net's step and whole answer, all ways together. -/
import Derived.Test.YtalfelkblbbmpaaDoorNt8
import Derived.Test.YtalfelkblbbmpaaDoorNt8b
import Derived.Test.YtalfelkblbbmpaaDoorNt9
namespace Go.Proofs.YtalfelkblbbmpaaDoor
open Go.RowKit
namespace Nx

theorem step_any (s : Sp) (P : Int) (nums bn : Nat) (w : World) (hc : w.cell? ⟨bn, 0, none⟩ = some (.int .i64 P)) :
    Calls Tryd.prog 40 #[.agg #[.int .i64 s.code, .int .i64 s.dst, .int .i64 s.a, .int .i64 s.b, .int .i64 s.c], .int .i64 nums, .func (.func 38) #[] #[.pointer (some ⟨bn, 0, none⟩)]] w fun e w' => e = .returned (.int .i64 (stepE P nums s : Nat)) ∧ Below w.heap.size w w' := by
  obtain ⟨code, dst, a, b, c⟩ := s
  simp only
  by_cases h : code < 1 ∨ 17 < code ∨ code = 3
  · have e : stepE P nums ⟨code, dst, a, b, c⟩ = 3 := by unfold stepE; rw [if_pos h]
    rw [e]; exact step_form code dst a b c nums bn w h
  have h1 : 1 ≤ code := by omega
  have h2 : code ≤ 17 := by omega
  have h3 : code ≠ 3 := by omega
  cases hd : isPl P dst with
  | false =>
    have e : stepE P nums ⟨code, dst, a, b, c⟩ = 2 := by unfold stepE; rw [if_neg h, if_pos (by simp [hd])]
    rw [e]; exact step_dst code dst a b c P nums bn w hc h1 h2 h3 hd
  | true =>
  cases ha : (asks ⟨code, dst, a, b, c⟩).all (isPl P) with
  | false =>
    have e : stepE P nums ⟨code, dst, a, b, c⟩ = 2 := by unfold stepE; rw [if_neg h, if_pos (by simp only [ha]; simp)]
    rw [e]; exact step_asks code dst a b c P nums bn w hc h1 h2 h3 hd ha
  | true =>
  have E0 : stepE P nums ⟨code, dst, a, b, c⟩ = if code = 1 ∧ ¬ (0 ≤ a ∧ a < nums) then 2 else if ([a, b, c].drop (if code = 1 then 1 else (asks ⟨code, dst, a, b, c⟩).length)).any (· != 0) then 1 else 0 := by
    unfold stepE
    rw [if_neg h, if_neg (by simp only [hd, ha]; simp)]
  rw [E0]
  by_cases c1 : code = 1
  · subst c1
    by_cases hr : 0 ≤ a ∧ a < nums
    · rw [if_neg (by simp; omega)]
      obtain ⟨r0, r1⟩ := hr
      by_cases kb : b = 0
      · by_cases kc : c = 0
        · have := num_zz dst a b c P nums bn w hc hd ha r0 r1 kb kc
          subst kb kc; exact this
        · have := num_zn dst a b c P nums bn w hc hd ha r0 r1 kb kc
          have e : ([a, b, c].drop (if (1 : Int) = 1 then 1 else (asks ⟨1, dst, a, b, c⟩).length)).any (· != 0) = true := by simp [kc]
          rw [if_pos e]; exact this
      · have := num_n dst a b c P nums bn w hc hd ha r0 r1 kb
        have e : ([a, b, c].drop (if (1 : Int) = 1 then 1 else (asks ⟨1, dst, a, b, c⟩).length)).any (· != 0) = true := by simp [kb]
        rw [if_pos e]; exact this
    · rw [if_pos ⟨rfl, hr⟩]
      by_cases r0 : a < 0
      · exact num_lo dst a b c P nums bn w hc hd r0
      · exact num_hi dst a b c P nums bn w hc hd (by omega) (by omega)
  rw [if_neg (fun x => c1 x.1)]
  have one : ∀ cc : Int, code = cc → (cc = 2 ∨ cc = 4 ∨ cc = 5) → ((([a, b, c].drop (if code = 1 then 1 else (asks ⟨code, dst, a, b, c⟩).length)).any (· != 0)) = (b != 0 || c != 0)) := by
    intro cc e h
    have ea : (asks ⟨code, dst, a, b, c⟩).length = 1 := by unfold asks; rw [if_pos (by simp; omega)]; rfl
    rw [ea, if_neg c1]; simp
  by_cases c2 : code = 2
  · rw [one 2 c2 (by omega)]
    subst c2
    by_cases kb : b = 0
    · by_cases kc : c = 0
      · have := one2_zz dst a b c P nums bn w hc hd ha kb kc
        subst kb kc; exact this
      · rw [if_pos (by simp [kc])]; exact one2_zn dst a b c P nums bn w hc hd ha kb kc
    · rw [if_pos (by simp [kb])]; exact one2_n dst a b c P nums bn w hc hd ha kb
  by_cases c4 : code = 4
  · rw [one 4 c4 (by omega)]
    subst c4
    by_cases kb : b = 0
    · by_cases kc : c = 0
      · have := one4_zz dst a b c P nums bn w hc hd ha kb kc
        subst kb kc; exact this
      · rw [if_pos (by simp [kc])]; exact one4_zn dst a b c P nums bn w hc hd ha kb kc
    · rw [if_pos (by simp [kb])]; exact one4_n dst a b c P nums bn w hc hd ha kb
  by_cases c5 : code = 5
  · rw [one 5 c5 (by omega)]
    subst c5
    by_cases kb : b = 0
    · by_cases kc : c = 0
      · have := one5_zz dst a b c P nums bn w hc hd ha kb kc
        subst kb kc; exact this
      · rw [if_pos (by simp [kc])]; exact one5_zn dst a b c P nums bn w hc hd ha kb kc
    · rw [if_pos (by simp [kb])]; exact one5_n dst a b c P nums bn w hc hd ha kb
  by_cases c17 : code = 17
  · subst c17
    exact pick_ dst a b c P nums bn w hc hd ha
  have h6 : 6 ≤ code := by omega
  have h16 : code ≤ 16 := by omega
  have ea : (asks ⟨code, dst, a, b, c⟩).length = 2 := by unfold asks; rw [if_neg (by simp; omega), if_pos (by simp; omega)]; rfl
  rw [ea, if_neg c1]
  by_cases kc : c = 0
  · have := two_z code dst a b c P nums bn w hc hd ha h6 h16 kc
    subst kc; exact this
  · rw [if_pos (by simp [kc])]; exact two_n code dst a b c P nums bn w hc hd ha h6 h16 kc

/-- code as it lies in memory -/
structure NetV (B : Nat) (w : World) (n : Nt) (vF vI vO vK vN vC : Value) : Prop where
  f : Ints (· < B) w vF n.first
  i : Ints (· < B) w vI n.ins
  o : Ints (· < B) w vO n.outs
  k : Ints (· < B) w vK n.keeps
  m : Ints (· < B) w vN n.nums
  c : Steps (· < B) w vC n.code
theorem NetV.carry {B B' : Nat} {w w' : World} {n : Nt} {vF vI vO vK vN vC : Value} (h : NetV B w n vF vI vO vK vN vC) (k : Keep (· < B) (· < B') w w') : NetV B' w' n vF vI vO vK vN vC :=
  ⟨h.f.carry k, h.i.carry k, h.o.carry k, h.k.carry k, h.m.carry k, h.c.carry k⟩
theorem NetV.below {B B' : Nat} {w w' : World} {n : Nt} {vF vI vO vK vN vC : Value} (h : NetV B w n vF vI vO vK vN vC) (hb : Below B w w') (hB : B ≤ B') : NetV B' w' n vF vI vO vK vN vC :=
  h.carry fun b hl _ => ⟨Nat.lt_of_lt_of_le hl hB, hb.block b hl⟩

theorem whole_any (B : Nat) (n : Nt) (bn : Nat) (w : World) (vF vI vO vK vN vC : Value) (h : NetV B w n vF vI vO vK vN vC) (hs : Small n) (hc : w.cell? ⟨bn, 0, none⟩ = some (.int .i64 n.places)) :
    Calls Tryd.prog 39 #[.agg #[.int .i64 n.places, vF, vI, vO, vK, vN, vC], .func (.func 38) #[] #[.pointer (some ⟨bn, 0, none⟩)]] w fun e w' => e = .returned (.int .i64 (wholeE n : Nat)) ∧ Below w.heap.size w w' := by
  have hI := h.i; have hO := h.o; have hK := h.k
  obtain ⟨adF, _, _, capF, rfl, -, -⟩ := h.f
  obtain ⟨adI, _, _, capI, rfl, -, -⟩ := h.i
  obtain ⟨adO, _, _, capO, rfl, -, -⟩ := h.o
  obtain ⟨adK, _, _, capK, rfl, -, -⟩ := h.k
  obtain ⟨adN, _, _, capN, rfl, -, -⟩ := h.m
  obtain ⟨adC, _, _, capC, rfl, -, -⟩ := h.c
  have s1 := hs.p; have s2 := hs.c; have s3 := hs.m; have s4 := hs.s
  by_cases h0 : n.places < 0
  · have e : wholeE n = 4 := by unfold wholeE; rw [if_pos (.inl h0)]
    rw [e]; exact whole_low n bn w adF adI adO adK adN adC capF capI capO capK capN capC h0
  have n0 : ¬ (n.places < 0 ∨ 4000 < n.places ∨ 4000 < n.code.length ∨ 4000 < n.nums.length ∨ 4000 < n.ins.length + n.outs.length + n.keeps.length) := by omega
  by_cases hf : (n.first.length : Int) ≠ n.places
  · have e : wholeE n = 3 := by unfold wholeE; rw [if_neg n0, if_pos hf]
    rw [e]; exact whole_form n bn w adF adI adO adK adN adC capF capI capO capK capN capC hs (by omega) hf
  have n1 := hf
  replace hf : (n.first.length : Int) = n.places := Classical.byContradiction hf
  cases aI : n.ins.all (isPl n.places) with
  | false =>
    have e : wholeE n = 2 := by unfold wholeE; rw [if_neg n0, if_neg n1, if_pos (by simp only [aI]; simp)]
    rw [e]; exact whole_ins n bn w adF adI adO adK adN adC capF capI capO capK capN capC hs (by omega) hf hc hI aI
  | true =>
  cases aO : n.outs.all (isPl n.places) with
  | false =>
    have e : wholeE n = 2 := by unfold wholeE; rw [if_neg n0, if_neg n1, if_pos (by simp only [aO]; simp)]
    rw [e]; exact whole_outs n bn w adF adI adO adK adN adC capF capI capO capK capN capC hs (by omega) hf hc hI hO aI aO
  | true =>
  cases aK : n.keeps.all (isPl n.places) with
  | false =>
    have e : wholeE n = 2 := by unfold wholeE; rw [if_neg n0, if_neg n1, if_pos (by simp only [aK]; simp)]
    rw [e]; exact whole_keeps n bn w adF adI adO adK adN adC capF capI capO capK capN capC hs (by omega) hf hc hI hO hK aI aO aK
  | true =>
  have e3 : wholeE n = if ¬ n.ins.Nodup then 9 else 0 := by unfold wholeE; rw [if_neg n0, if_neg n1, if_neg (by simp only [aI, aO, aK]; simp)]
  rw [e3]
  by_cases hd : n.ins.Nodup
  · rw [if_neg (fun x => x hd)]
    exact whole_fine n bn w adF adI adO adK adN adC capF capI capO capK capN capC hs (by omega) hf hc hI hO hK aI aO aK (by simpa using hd)
  · rw [if_pos hd]
    exact whole_dup n bn w adF adI adO adK adN adC capF capI capO capK capN capC hs (by omega) hf hc hI hO hK aI aO aK (by simpa using hd)
end Nx
end Go.Proofs.YtalfelkblbbmpaaDoor
