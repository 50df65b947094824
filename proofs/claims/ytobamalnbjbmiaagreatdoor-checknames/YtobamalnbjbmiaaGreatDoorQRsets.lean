/- The document's own reader: one. -/
import Derived.Test.YtobamalnbjbmiaaGreatDoorQRexpr2
import Derived.Test.YtobamalnbjbmiaaGreatDoorQPvar
namespace Go.Proofs.YtobamalnbjbmiaaGreatDoor
open Go.RowKit Px

set_option maxRecDepth 100000 in
set_option maxHeartbeats 2000000 in
theorem r_one_zero {C : Ctx} : ROne C 0 := by
  intro w σ n hn h
  have hn6 : (6 : Int) < (n : Int) := by omega
  have hb : Hid ((fails C.L σ 4).bad.isNone = false) := by
    obtain ⟨i, st, b⟩ := σ
    cases b <;> rfl
  go_enter Tryz.func213, Tryz.ntmps213
  go_wp2_with (first
    | (go_at_call 104; refine (r_fails h 4 (by decide)).mono ?_; rintro e' w1 ⟨rfl, h1, hf1⟩)
    | (go_at_call 102; have hk := r_ok h1; rw [hb.out] at hk; refine hk.mono ?_; rintro e' w' ⟨rfl, hw⟩; obtain rfl := hw.symm))
  go_ret
  exact ⟨_, rfl, rfl, h1, hf1⟩
set_option maxRecDepth 100000 in
set_option maxHeartbeats 2000000 in
theorem r_one_dead {C : Ctx} {k : Nat} (w : World) {i st : Nat} {f : F} (n : Nat) (hn : n + (k + 1) = 7) (h : RS C w ⟨i, st, some f⟩) : Calls Tryz.prog 213 #[.pointer (some ⟨C.rb, 0, none⟩), .int .i64 n] w (ROut C (fun e v w' => IsE (Ge w.heap.size) w' e v) w (oneR C.L (k + 1) ⟨i, st, some f⟩)) := by
  have hn6 : ¬ (6 : Int) < (n : Int) := by omega
  go_enter Tryz.func213, Tryz.ntmps213
  go_wp2_with (go_at_call 102; refine (r_ok h).mono ?_; rintro e' w' ⟨rfl, hw⟩; obtain rfl := hw.symm)
  go_ret
  exact ⟨_, rfl, rfl, h, Fr.refl _ _ _⟩
set_option maxRecDepth 100000 in
set_option maxHeartbeats 4000000 in
theorem r_one_minus {C : Ctx} {k : Nat} (ho : ROne C k) (w : World) {i st : Nat} (n : Nat) (hn : n + (k + 1) = 7) (h : RS C w ⟨i, st, none⟩) (n1 : Hid (tx C.L i = bs ⟨#[45]⟩)) : Calls Tryz.prog 213 #[.pointer (some ⟨C.rb, 0, none⟩), .int .i64 n] w (ROut C (fun e v w' => IsE (Ge w.heap.size) w' e v) w (oneR C.L (k + 1) ⟨i, st, none⟩)) := by
  have hn6 : ¬ (6 : Int) < (n : Int) := by omega
  have hL := h.lts.1
  have H : Hid (oneR C.L (k + 1) ⟨i, st, none⟩ = (eOne 4 (oneR C.L k ⟨i + 1, st, none⟩).1, (oneR C.L k ⟨i + 1, st, none⟩).2)) := by
    simp only [Hid, oneR, Option.isNone_none, ↓reduceIte]
    rw [show codeAhead (tx C.L i) = 4 from by rw [n1.out]; rfl, if_pos (by decide)]
  have hcall := fun (w1 : World) (h1 : RS C w1 ⟨i + 1, st, none⟩) => ho w1 ⟨i + 1, st, none⟩ (n + 1) (by omega) h1
  have T1 : Hid True := trivial
  go_enter Tryz.func213, Tryz.ntmps213
  go_wp2_with (first
    | (go_at_call 102; refine (r_ok h).mono ?_; rintro e' w' ⟨rfl, hw⟩; obtain rfl := hw.symm)
    | (go_at_call 103; clear T1; refine (takeY h ⟨#[45]⟩ (by decide) n1).mono ?_; rintro e' w1 ⟨rfl, h1, hf1⟩)
    | (go_at_call 213; refine (hcall _ h1).mono ?_; rintro e' w9 ⟨v, rfl, hv, h9, hf9⟩; obtain ⟨p9, rfl⟩ := hv.ptr))
  go_ret
  rw [H.out]
  have hF := hf1.up hf9
  have hz := hF.size
  exact ⟨_, rfl, isE_new rfl hz (hv.ge hf1.size), h9.new _, hF.alloc hz _⟩
set_option maxRecDepth 100000 in
set_option maxHeartbeats 4000000 in
theorem r_one_not {C : Ctx} {k : Nat} (ho : ROne C k) (w : World) {i st : Nat} (n : Nat) (hn : n + (k + 1) = 7) (h : RS C w ⟨i, st, none⟩) (n1 : Hid (tx C.L i ≠ bs ⟨#[45]⟩)) (n2 : Hid (tx C.L i = bs ⟨#[33]⟩)) : Calls Tryz.prog 213 #[.pointer (some ⟨C.rb, 0, none⟩), .int .i64 n] w (ROut C (fun e v w' => IsE (Ge w.heap.size) w' e v) w (oneR C.L (k + 1) ⟨i, st, none⟩)) := by
  have hn6 : ¬ (6 : Int) < (n : Int) := by omega
  have hL := h.lts.1
  have H : Hid (oneR C.L (k + 1) ⟨i, st, none⟩ = (eOne 5 (oneR C.L k ⟨i + 1, st, none⟩).1, (oneR C.L k ⟨i + 1, st, none⟩).2)) := by
    simp only [Hid, oneR, Option.isNone_none, ↓reduceIte]
    rw [show codeAhead (tx C.L i) = 5 from by rw [n2.out]; rfl, if_pos (by decide)]
  have hcall := fun (w1 : World) (h1 : RS C w1 ⟨i + 1, st, none⟩) => ho w1 ⟨i + 1, st, none⟩ (n + 1) (by omega) h1
  have T1 : Hid True := trivial
  have T2 : Hid True := trivial
  go_enter Tryz.func213, Tryz.ntmps213
  go_wp2_with (first
    | (go_at_call 102; refine (r_ok h).mono ?_; rintro e' w' ⟨rfl, hw⟩; obtain rfl := hw.symm)
    | (go_at_call 103; clear T1; refine (takeN h ⟨#[45]⟩ (by decide) n1).mono ?_; rintro e' w1 ⟨rfl, h1, hf1⟩)
    | (go_at_call 103; clear T2; refine (takeY h1 ⟨#[33]⟩ (by decide) n2).mono ?_; rintro e' w2 ⟨rfl, h2, hf2⟩)
    | (go_at_call 213; refine (hcall _ h2).mono ?_; rintro e' w9 ⟨v, rfl, hv, h9, hf9⟩; obtain ⟨p9, rfl⟩ := hv.ptr))
  go_ret
  rw [H.out]
  have hF := (hf1.up hf2).up hf9
  have hz := hF.size
  exact ⟨_, rfl, isE_new rfl hz (hv.ge (hf1.up hf2).size), h9.new _, hF.alloc hz _⟩
set_option maxRecDepth 100000 in
set_option maxHeartbeats 4000000 in
theorem r_one_par {C : Ctx} {k : Nat} (ho : ROne C k) (w : World) {i st : Nat} (n : Nat) (hn : n + (k + 1) = 7) (h : RS C w ⟨i, st, none⟩) (n1 : Hid (tx C.L i ≠ bs ⟨#[45]⟩)) (n2 : Hid (tx C.L i ≠ bs ⟨#[33]⟩)) (n3 : Hid (tx C.L i = bs ⟨#[40]⟩)) : Calls Tryz.prog 213 #[.pointer (some ⟨C.rb, 0, none⟩), .int .i64 n] w (ROut C (fun e v w' => IsE (Ge w.heap.size) w' e v) w (oneR C.L (k + 1) ⟨i, st, none⟩)) := by
  have hn6 : ¬ (6 : Int) < (n : Int) := by omega
  have hL := h.lts.1
  have H : Hid (oneR C.L (k + 1) ⟨i, st, none⟩ = ((exprR C.L k ⟨i + 1, st, none⟩).1, must C.L (exprR C.L k ⟨i + 1, st, none⟩).2 kRap)) := by
    simp only [Hid, oneR, Option.isNone_none, ↓reduceIte]
    rw [show codeAhead (tx C.L i) = 0 from by rw [n3.out]; rfl, if_neg (by decide), if_pos (show tx C.L i = kPar from n3.out)]
    rfl
  have hcall := fun (w1 : World) (h1 : RS C w1 ⟨i + 1, st, none⟩) => r_expr ho w1 ⟨i + 1, st, none⟩ (n + 1) (by omega) h1
  have T1 : Hid True := trivial
  have T2 : Hid True := trivial
  have T3 : Hid True := trivial
  have T4 : Hid True := trivial
  go_enter Tryz.func213, Tryz.ntmps213
  go_wp2_with (first
    | (go_at_call 102; refine (r_ok h).mono ?_; rintro e' w' ⟨rfl, hw⟩; obtain rfl := hw.symm)
    | (go_at_call 103; clear T1; refine (takeN h ⟨#[45]⟩ (by decide) n1).mono ?_; rintro e' w1 ⟨rfl, h1, hf1⟩)
    | (go_at_call 103; clear T2; refine (takeN h1 ⟨#[33]⟩ (by decide) n2).mono ?_; rintro e' w2 ⟨rfl, h2, hf2⟩)
    | (go_at_call 103; clear T3; refine (takeY h2 ⟨#[40]⟩ (by decide) n3).mono ?_; rintro e' w3 ⟨rfl, h3, hf3⟩)
    | (go_at_call 186; refine (hcall _ h3).mono ?_; rintro e' w9 ⟨v, rfl, hv, h9, hf9⟩; obtain ⟨p9, rfl⟩ := hv.ptr)
    | (go_at_call 100; clear T4; refine (r_must h9 ⟨#[41]⟩ (by decide)).mono ?_; rintro e' w10 ⟨rfl, h10, hf10⟩))
  go_ret
  rw [H.out]
  have hF := (((hf1.up hf2).up hf3).up hf9).up hf10
  exact ⟨_, rfl, (hv.ge ((hf1.up hf2).up hf3).size).carry (keepGe hL hf10), h10, hF⟩
set_option maxRecDepth 100000 in
set_option maxHeartbeats 4000000 in
theorem r_one_pre {C : Ctx} {k : Nat} (_ho : ROne C k) (w : World) {i st : Nat} (n : Nat) (hn : n + (k + 1) = 7) (h : RS C w ⟨i, st, none⟩) (n1 : Hid (tx C.L i ≠ bs ⟨#[45]⟩)) (n2 : Hid (tx C.L i ≠ bs ⟨#[33]⟩)) (n3 : Hid (tx C.L i ≠ bs ⟨#[40]⟩)) (n4 : Hid (tx C.L i = bs ⟨#[112, 114, 101]⟩)) : Calls Tryz.prog 213 #[.pointer (some ⟨C.rb, 0, none⟩), .int .i64 n] w (ROut C (fun e v w' => IsE (Ge w.heap.size) w' e v) w (oneR C.L (k + 1) ⟨i, st, none⟩)) := by
  have hn6 : ¬ (6 : Int) < (n : Int) := by omega
  have hL := h.lts.1
  have H : Hid (oneR C.L (k + 1) ⟨i, st, none⟩ = (eName 3 (nameR C.L (must C.L ⟨i + 1, st, none⟩ kPar)).1, must C.L (nameR C.L (must C.L ⟨i + 1, st, none⟩ kPar)).2 kRap)) := by
    simp only [Hid, oneR, Option.isNone_none, ↓reduceIte]
    rw [show codeAhead (tx C.L i) = 0 from by rw [n4.out]; rfl, if_neg (by decide), if_neg (show ¬ tx C.L i = kPar from n3.out), if_pos (show tx C.L i = kPre from n4.out)]
  have T1 : Hid True := trivial
  have T2 : Hid True := trivial
  have T3 : Hid True := trivial
  have T4 : Hid True := trivial
  have T5 : Hid True := trivial
  have T6 : Hid True := trivial
  go_enter Tryz.func213, Tryz.ntmps213
  go_wp2_with (first
    | (go_at_call 102; refine (r_ok h).mono ?_; rintro e' w' ⟨rfl, hw⟩; obtain rfl := hw.symm)
    | (go_at_call 103; clear T1; refine (takeN h ⟨#[45]⟩ (by decide) n1).mono ?_; rintro e' w1 ⟨rfl, h1, hf1⟩)
    | (go_at_call 103; clear T2; refine (takeN h1 ⟨#[33]⟩ (by decide) n2).mono ?_; rintro e' w2 ⟨rfl, h2, hf2⟩)
    | (go_at_call 103; clear T3; refine (takeN h2 ⟨#[40]⟩ (by decide) n3).mono ?_; rintro e' w3 ⟨rfl, h3, hf3⟩)
    | (go_at_call 103; clear T4; refine (takeY h3 ⟨#[112, 114, 101]⟩ (by decide) n4).mono ?_; rintro e' w4 ⟨rfl, h4, hf4⟩)
    | (go_at_call 100; clear T5; refine (r_must h4 ⟨#[40]⟩ (by decide)).mono ?_; rintro e' w5 ⟨rfl, h5, hf5⟩)
    | (go_at_call 101; refine (r_name h5).mono ?_; rintro e' w6 ⟨v, rfl, hv, h6, hf6⟩; subst hv; rw [sv])
    | (go_at_call 100; clear T6; refine (r_must h6 ⟨#[41]⟩ (by decide)).mono ?_; rintro e' w7 ⟨rfl, h7, hf7⟩))
  go_ret
  rw [H.out]
  have hF := ((((((hf1.up hf2).up hf3).up hf4).up hf5).up hf6).up hf7)
  have hz := hF.size
  exact ⟨_, rfl, isE_new rfl hz rfl, h7.new _, hF.alloc hz _⟩
set_option maxRecDepth 100000 in
set_option maxHeartbeats 4000000 in
theorem r_one_num {C : Ctx} {k : Nat} (_ho : ROne C k) (w : World) {i st : Nat} (n : Nat) (hn : n + (k + 1) = 7) (h : RS C w ⟨i, st, none⟩) (n1 : Hid (tx C.L i ≠ bs ⟨#[45]⟩)) (n2 : Hid (tx C.L i ≠ bs ⟨#[33]⟩)) (n3 : Hid (tx C.L i ≠ bs ⟨#[40]⟩)) (n4 : Hid (tx C.L i ≠ bs ⟨#[112, 114, 101]⟩)) (hk2 : Hid (kd C.L i = 2)) : Calls Tryz.prog 213 #[.pointer (some ⟨C.rb, 0, none⟩), .int .i64 n] w (ROut C (fun e v w' => IsE (Ge w.heap.size) w' e v) w (oneR C.L (k + 1) ⟨i, st, none⟩)) := by
  have hn6 : ¬ (6 : Int) < (n : Int) := by omega
  have hL := h.lts.1
  have H : Hid (oneR C.L (k + 1) ⟨i, st, none⟩ = (eNum (numberR C.L ⟨i, st, none⟩).1, (numberR C.L ⟨i, st, none⟩).2)) := by
    simp only [Hid, oneR, Option.isNone_none, ↓reduceIte]
    rw [show codeAhead (tx C.L i) = 0 from by rw [codeAhead, if_neg (show ¬ tx C.L i = kMinus from n1.out), if_neg (show ¬ tx C.L i = kNot from n2.out)], if_neg (by decide), if_neg (show ¬ tx C.L i = kPar from n3.out), if_neg (show ¬ tx C.L i = kPre from n4.out), if_pos hk2.out]
  have CF : Hid (∀ w4, RS C w4 ⟨i, st, none⟩ → ∃ n k, (0 : Int) < ((n : Nat) : Int) ∧ w4.cell? ⟨C.rb, 0, none⟩ = some (.slice (some ⟨C.g, i * 3, none⟩) n k) ∧ w4.cell? ⟨C.g, i * 3, none⟩ = some (.int .i64 (kd C.L i))) := fun w4 h4 => by
    obtain ⟨n, k, hn, hk, hr⟩ := h4.rd
    have := h4.lt
    simp only at hn this
    exact ⟨n, k, by omega, (cells4 hr).1, h4.now.1⟩
  have hk2' : (((kd C.L i : Nat) : Int) == 2) = true := by rw [hk2.out]; rfl
  have T1 : Hid True := trivial
  have T2 : Hid True := trivial
  have T3 : Hid True := trivial
  have T4 : Hid True := trivial
  go_enter Tryz.func213, Tryz.ntmps213
  go_wp2_with (first
    | (go_at_call 102; refine (r_ok h).mono ?_; rintro e' w' ⟨rfl, hw⟩; obtain rfl := hw.symm)
    | (go_at_call 103; clear T1; refine (takeN h ⟨#[45]⟩ (by decide) n1).mono ?_; rintro e' w1 ⟨rfl, h1, hf1⟩)
    | (go_at_call 103; clear T2; refine (takeN h1 ⟨#[33]⟩ (by decide) n2).mono ?_; rintro e' w2 ⟨rfl, h2, hf2⟩)
    | (go_at_call 103; clear T3; refine (takeN h2 ⟨#[40]⟩ (by decide) n3).mono ?_; rintro e' w3 ⟨rfl, h3, hf3⟩)
    | (go_at_call 103; clear T4; refine (takeN h3 ⟨#[112, 114, 101]⟩ (by decide) n4).mono ?_; rintro e' w4 ⟨rfl, h4, hf4⟩; obtain ⟨nn, kk, g0, g1, g2⟩ := CF.out w4 h4)
    | (go_at_call 105; refine (r_number h4).mono ?_; rintro e' w5 ⟨v, rfl, hv, h5, hf5⟩; subst hv))
  go_ret
  rw [H.out]
  have hF := (((hf1.up hf2).up hf3).up hf4).up hf5
  have hz := hF.size
  exact ⟨_, rfl, isE_new (c := 1) (s := []) rfl hz rfl, h5.new _, hF.alloc hz _⟩
set_option maxRecDepth 100000 in
set_option maxHeartbeats 4000000 in
theorem r_one_name {C : Ctx} {k : Nat} (_ho : ROne C k) (w : World) {i st : Nat} (n : Nat) (hn : n + (k + 1) = 7) (h : RS C w ⟨i, st, none⟩) (n1 : Hid (tx C.L i ≠ bs ⟨#[45]⟩)) (n2 : Hid (tx C.L i ≠ bs ⟨#[33]⟩)) (n3 : Hid (tx C.L i ≠ bs ⟨#[40]⟩)) (n4 : Hid (tx C.L i ≠ bs ⟨#[112, 114, 101]⟩)) (hk2 : Hid (kd C.L i ≠ 2)) : Calls Tryz.prog 213 #[.pointer (some ⟨C.rb, 0, none⟩), .int .i64 n] w (ROut C (fun e v w' => IsE (Ge w.heap.size) w' e v) w (oneR C.L (k + 1) ⟨i, st, none⟩)) := by
  have hn6 : ¬ (6 : Int) < (n : Int) := by omega
  have hL := h.lts.1
  have H : Hid (oneR C.L (k + 1) ⟨i, st, none⟩ = (eName 2 (nameR C.L ⟨i, st, none⟩).1, (nameR C.L ⟨i, st, none⟩).2)) := by
    simp only [Hid, oneR, Option.isNone_none, ↓reduceIte]
    rw [show codeAhead (tx C.L i) = 0 from by rw [codeAhead, if_neg (show ¬ tx C.L i = kMinus from n1.out), if_neg (show ¬ tx C.L i = kNot from n2.out)], if_neg (by decide), if_neg (show ¬ tx C.L i = kPar from n3.out), if_neg (show ¬ tx C.L i = kPre from n4.out), if_neg hk2.out]
  have CF : Hid (∀ w4, RS C w4 ⟨i, st, none⟩ → ∃ n k, (0 : Int) < ((n : Nat) : Int) ∧ w4.cell? ⟨C.rb, 0, none⟩ = some (.slice (some ⟨C.g, i * 3, none⟩) n k) ∧ w4.cell? ⟨C.g, i * 3, none⟩ = some (.int .i64 (kd C.L i))) := fun w4 h4 => by
    obtain ⟨n, k, hn, hk, hr⟩ := h4.rd
    have := h4.lt
    simp only at hn this
    exact ⟨n, k, by omega, (cells4 hr).1, h4.now.1⟩
  have hk2' : (((kd C.L i : Nat) : Int) == 2) = false := by have := hk2.out; simp; omega
  have T1 : Hid True := trivial
  have T2 : Hid True := trivial
  have T3 : Hid True := trivial
  have T4 : Hid True := trivial
  go_enter Tryz.func213, Tryz.ntmps213
  go_wp2_with (first
    | (go_at_call 102; refine (r_ok h).mono ?_; rintro e' w' ⟨rfl, hw⟩; obtain rfl := hw.symm)
    | (go_at_call 103; clear T1; refine (takeN h ⟨#[45]⟩ (by decide) n1).mono ?_; rintro e' w1 ⟨rfl, h1, hf1⟩)
    | (go_at_call 103; clear T2; refine (takeN h1 ⟨#[33]⟩ (by decide) n2).mono ?_; rintro e' w2 ⟨rfl, h2, hf2⟩)
    | (go_at_call 103; clear T3; refine (takeN h2 ⟨#[40]⟩ (by decide) n3).mono ?_; rintro e' w3 ⟨rfl, h3, hf3⟩)
    | (go_at_call 103; clear T4; refine (takeN h3 ⟨#[112, 114, 101]⟩ (by decide) n4).mono ?_; rintro e' w4 ⟨rfl, h4, hf4⟩; obtain ⟨nn, kk, g0, g1, g2⟩ := CF.out w4 h4)
    | (go_at_call 101; refine (r_name h4).mono ?_; rintro e' w5 ⟨v, rfl, hv, h5, hf5⟩; subst hv; rw [sv]))
  go_ret
  rw [H.out]
  have hF := (((hf1.up hf2).up hf3).up hf4).up hf5
  have hz := hF.size
  exact ⟨_, rfl, isE_new (c := 2) (x := 0) rfl hz rfl, h5.new _, hF.alloc hz _⟩
theorem r_one {C : Ctx} : ∀ k, ROne C k := by
  intro k
  induction k with
  | zero => exact r_one_zero
  | succ k ih =>
    intro w σ n hn h
    obtain ⟨i, st, b⟩ := σ
    cases b with
    | some f => exact r_one_dead w n hn h
    | none =>
      by_cases n1 : tx C.L i = bs ⟨#[45]⟩
      · exact r_one_minus ih w n hn h n1
      by_cases n2 : tx C.L i = bs ⟨#[33]⟩
      · exact r_one_not ih w n hn h n1 n2
      by_cases n3 : tx C.L i = bs ⟨#[40]⟩
      · exact r_one_par ih w n hn h n1 n2 n3
      by_cases n4 : tx C.L i = bs ⟨#[112, 114, 101]⟩
      · exact r_one_pre ih w n hn h n1 n2 n3 n4
      by_cases n5 : kd C.L i = 2
      · exact r_one_num ih w n hn h n1 n2 n3 n4 n5
      · exact r_one_name ih w n hn h n1 n2 n3 n4 n5
/-- an E -/
theorem r_expr0 {C : Ctx} (w : World) (σ : S) (h : RS C w σ) : Calls Tryz.prog 186 #[.pointer (some ⟨C.rb, 0, none⟩), .int .i64 0] w (ROut C (fun e v w' => IsE (Ge w.heap.size) w' e v) w (exprR C.L 7 σ)) := r_expr (r_one 7) w σ 0 rfl h
end Go.Proofs.YtobamalnbjbmiaaGreatDoor
/- The document's own reader: sets. -/
namespace Go.Proofs.YtobamalnbjbmiaaGreatDoor
open Go.RowKit Px

theorem Px.setR_lt {L : List Lx.Tok} {σ : S} (h : (setR L σ).2.bad = none) : σ.i < (setR L σ).2.i := by
  obtain ⟨i, st, b⟩ := σ
  cases b with
  | some f => rw [setR_bad (f := f) rfl] at h; exact absurd h (by simp)
  | none =>
    cases hn : nm L i with
    | error y =>
      have hb : (setR L ⟨i, st, none⟩).2.bad = some y := expr_sim.bad (must_bad (by rw [nameR_err hn]))
      rw [hb] at h; exact absurd h (by simp)
    | ok s =>
      by_cases h1 : tx L (i + 1) = kColEq
      · have e : (setR L ⟨i, st, none⟩).2 = (exprR L 7 ⟨i + 2, st, none⟩).2 := by rw [setR, nameR_ok hn]; simp only; rw [must_yes h1]
        rw [e] at h ⊢
        have := expr_sim.lt (fun i e j hh => expr_lt (show Hid (expr L i = .ok (e, j)) from hh)) h
        simp only at this
        show i < _
        omega
      · have hb : (setR L ⟨i, st, none⟩).2.bad = some (3, pl L (i + 1)) := by rw [setR, nameR_ok hn]; simp only; rw [must_no h1]; exact expr_sim.bad rfl
        rw [hb] at h; exact absurd h (by simp)
theorem RS.low {C : Ctx} {w w' : World} {B : Nat} {σ : S} (h : RS C w σ) (hB : C.rb < B) (hf : Fr B [] w w') : RS C w' σ := by
  have hgr := h.gr
  have hg : w'.heap[C.g]? = w.heap[C.g]? := hf.block _ (by omega) (by simp)
  obtain ⟨n, k, hn, hk, hr⟩ := h.rd
  refine ⟨⟨n, k, hn, hk, by rw [hf.block _ hB (by simp)]; exact hr⟩, fun k t hk => ?_, h.lt, h.wf, h.e4, h.gr, h.nz, h.sb, h.sa⟩
  have := h.tk k t hk
  rw [World.cell?_of_block (w := w) (a := ⟨C.g, k * 3, none⟩) hg, World.cell?_of_block (w := w) (a := ⟨C.g, k * 3 + 1, none⟩) hg, World.cell?_of_block (w := w) (a := ⟨C.g, k * 3 + 2, none⟩) hg]
  exact this
def OkR (w : World) (l : List Asg) (v : Value) (w' : World) : Prop := (∃ xs, SetsAt w.heap.size w' l v xs) ∧ l.length ≤ 602
/-- a new block stays, behind calls of the reader's -/
theorem Fr.stays {C : Ctx} {w w' : World} {b : Nat} {o : Obj} (hf : Fr w.heap.size [C.rb] w w') (hb : w.heap[b]? = some o) (hn : C.rb < b) : w'.heap[b]? = some o := by
  rw [hf.block b (lt_of_block hb) (by simp; omega)]; exact hb
theorem cells2 {w : World} {b : Nat} {a0 a1 : Value} {t : TypeId} (h : w.heap[b]? = some (.cells #[a0, a1] t (0, 0))) :
    w.cell? ⟨b, 0, none⟩ = some a0 ∧ w.cell? ⟨b, 1, none⟩ = some a1 ∧ ∀ o, w.frozen? ⟨b, o, none⟩ = false := by
  refine ⟨?_, ?_, fun o => by simp [World.frozen?, h]⟩ <;> (rw [cell_of_row _ _ _ _ _ _ h]; rfl)

set_option maxRecDepth 100000 in
set_option maxHeartbeats 4000000 in
theorem r_sets {C : Ctx} {w : World} {σ : S} (h : RS C w σ) : Calls Tryz.prog 185 #[.pointer (some ⟨C.rb, 0, none⟩)] w (ROut C (OkR w) w (setsR C.L C.L.length [] σ)) := by
  obtain ⟨i0, hi, hz0, hz1, hz2⟩ := info_parts Tryz.info174
  have hC := h.lts.1
  obtain ⟨RES, hRES⟩ : ∃ RES, Hid (RES = setsR C.L C.L.length [] σ) := ⟨_, rfl⟩
  rw [← hRES.out]
  go_enter Tryz.func185, Tryz.ntmps185
  go_wp2_with fail
  go_loopg [3] C.L.length (fun g v wr => ∃ (l : List Asg) (σ1 : S) (xs : List Value), Hid (RES = setsR C.L g l σ1) ∧ C.L.length ≤ g + σ1.i ∧ l.length ≤ σ1.i ∧ SetsAt w.heap.size wr l v xs ∧ RS C wr σ1 ∧ Fr w.heap.size [C.rb] w wr)
  case atStart => exact ⟨[], σ, [], hRES, by omega, by simp, ⟨World.ownsRow_nil _ _ _ _, rfl⟩, h, Fr.refl _ _ _⟩
  case round =>
    obtain ⟨l, σ1, xs, hr1, hg, hlj, hS, hp1, hf1⟩ := hrel
    obtain ⟨ao, cap, rfl⟩ := owns_shape hS.own
    have hl6 := hp1.wf.len
    have hj6 := hp1.lt
    have hB1 := hf1.size
    obtain ⟨g', hgg⟩ : ∃ g', gk = g' + 1 := ⟨gk - 1, by have := hp1.lt; omega⟩
    subst hgg
    obtain ⟨s2, hs2⟩ : ∃ s2, Hid (s2 = (nameR C.L σ1).1) := ⟨_, rfl⟩
    obtain ⟨σ2, hσ2⟩ : ∃ x, Hid (x = (nameR C.L σ1).2) := ⟨_, rfl⟩
    obtain ⟨σ3, hσ3⟩ : ∃ x, Hid (x = must C.L σ2 kColEq) := ⟨_, rfl⟩
    obtain ⟨e4, he4⟩ : ∃ x, Hid (x = (exprR C.L 7 σ3).1) := ⟨_, rfl⟩
    obtain ⟨σ4, hσ4⟩ : ∃ x, Hid (x = (exprR C.L 7 σ3).2) := ⟨_, rfl⟩
    have HSET : Hid (setR C.L σ1 = (⟨s2, e4⟩, σ4)) := by rw [Hid, setR, he4.out, hσ4.out, hσ3.out, hσ2.out, hs2.out]
    have c1 : Calls Tryz.prog 101 #[.pointer (some ⟨C.rb, 0, none⟩)] wr (ROut C (fun s v _ => v = sv s) wr (s2, σ2)) := by rw [hs2.out, hσ2.out]; exact r_name hp1
    have c2 : ∀ w2, RS C w2 σ2 → Calls Tryz.prog 100 #[.pointer (some ⟨C.rb, 0, none⟩), .string ⟨#[58, 61]⟩] w2 fun e w' => e = .returned (.tuple #[]) ∧ RS C w' σ3 ∧ Fr w2.heap.size [C.rb] w2 w' := fun w2 h2 => by rw [hσ3.out]; exact r_must h2 ⟨#[58, 61]⟩ (by decide)
    have c3 : ∀ w3, RS C w3 σ3 → Calls Tryz.prog 186 #[.pointer (some ⟨C.rb, 0, none⟩), .int .i64 0] w3 (ROut C (fun e v w' => IsE (Ge w3.heap.size) w' e v) w3 (e4, σ4)) := fun w3 h3 => by rw [he4.out, hσ4.out]; exact r_expr0 w3 σ3 h3
    have z1 : ∀ w2 : World, (w2.alloc (.cells #[.string ⟨s2.toArray⟩, .pointer none] 174)).heap.size = w2.heap.size + 1 := fun w2 => by simp
    go_wp2_with (first
      | (go_at_call 101; refine c1.mono ?_; rintro e w2 ⟨v, rfl, hv, h2, hf2⟩; subst hv; rw [sv]; have hz2' := hf2.size; obtain ⟨h2a, hf2a⟩ := h2.alloc (.cells #[.string ⟨s2.toArray⟩, .pointer none] 174); have hb2 := heap_alloc_new w2 (.cells #[.string ⟨s2.toArray⟩, .pointer none] 174))
      | (go_at_call 100; refine (c2 _ h2a).mono ?_; rintro e w3 ⟨rfl, h3, hf3⟩; have hb3 := hf3.stays hb2 (by omega); have hz3 := hf3.size; rw [z1] at hz3)
      | (go_at_call 186; refine (c3 _ h3).mono ?_; rintro e w4 ⟨v4, rfl, hv4, h4, hf4⟩; obtain ⟨p4, rfl⟩ := hv4.ptr; have hb4 := hf4.stays hb3 (by omega); obtain ⟨d0, d1, dz⟩ := cells2 hb4; have dz1 := dz 1; have hz4 := hf4.size; clear dz; have hF4 : Fr wr.heap.size [C.rb] wr (w4.setCell ⟨w2.heap.size, 1, none⟩ (.pointer p4)) := (((hf2.up hf2a.wide).up hf3).up hf4).setCell (.inl hz2') _; have hB4 := hF4.size; have hv4' : IsE (Ge wr.heap.size) (w4.setCell ⟨w2.heap.size, 1, none⟩ (.pointer p4)) e4 (.pointer p4) := hv4.carry (fun b hb _ => ⟨by simp [Ge] at *; omega, Below.heap_setCell _ _ _ _ (by simp [Ge] at *; omega)⟩); have hsw : (w4.setCell ⟨w2.heap.size, 1, none⟩ (.pointer p4)).heap.size = w4.heap.size := by simp [World.setCell])
      | (at_builtin; refine wpList_append_own_at _ rfl (.tmp 13) (.tmp 15) 62 rfl w.heap.size 174 i0 (.agg #[.string ⟨#[]⟩, .pointer none]) 2 24 Tryz.underlying62 hi hz0 hz1 hz2 rfl (by decide) _ _ _ rfl ((own_carry hS.own hC hF4).alloc _) ⟨w4.heap.size, 0, none⟩ 1 1 [.string ⟨s2.toArray⟩, .pointer p4] rfl rfl (by rw [← hsw]; exact cell_two_new _ _ _ _) (by intro u hu; simp at hu; rcases hu with rfl | rfl <;> rfl) (by unfold maxLen; omega) (by omega) (by simp; omega) ?_; intro v5 w5 hown5 hgrow _ hat; obtain ⟨hS5, hF5⟩ := sets_step (s := s2) (e := e4) hC hB1 hS hF4 hf1 hv4' hown5 hgrow hat; clear hown5; have hb5 : Fr w.heap.size [] w4 w5 := (((Fr.refl _ _ _).setCell (.inl (by simp; omega)) _).alloc (by simp; omega) _).grown hgrow (by simp; omega) (fun k hk => .inl (hS.own.lt k hk).1); have hp5 := h4.low hC hb5))
    have hsh : w5.ownsRow w.heap.size 174 2 v5 (l.length + 1) (xs ++ [sv s2, .pointer p4]) := by have := hS5.own; rw [List.length_append] at this; exact this
    obtain ⟨ao5, cap5, rfl⟩ := owns_shape hsh
    have htk := r_take hp5 ⟨#[44]⟩ (by decide)
    cases hcm : see C.L σ4 kComma with
    | true =>
      rw [show see C.L σ4 (bs ⟨#[44]⟩) = true from hcm] at htk
      have hal : σ4.bad = none := by
        obtain ⟨i, st, b⟩ := σ4
        cases b with
        | none => rfl
        | some f => exact absurd hcm (by simp)
      have hlt4 : σ1.i < σ4.i := by have := setR_lt (L := C.L) (σ := σ1) (by rw [HSET.out]; exact hal); rw [HSET.out] at this; exact this
      have htk4 : Hid ((tk C.L σ4 kComma).i = σ4.i + 1) := by rw [Hid, tk, hcm]; rfl
      have HR : Hid (RES = setsR C.L g' (l ++ [⟨s2, e4⟩]) (tk C.L σ4 kComma)) := by
        rw [Hid, hr1.out, setsR, HSET.out, if_pos hcm]
      clear hcm hal
      go_wp2_with (go_at_call 103; refine htk.mono ?_; rintro e w6 ⟨rfl, h6, hf6⟩)
      go_roundg g'
      case measure => omega
      case rel => exact ⟨l ++ [⟨s2, e4⟩], tk C.L σ4 kComma, _, HR, by rw [htk4.out]; omega, by rw [htk4.out]; simp; omega, hS5.carry hC hf6, h6, hF5.up' hf6 (by have := hF5.size; omega)⟩
    | false =>
      rw [show see C.L σ4 (bs ⟨#[44]⟩) = false from hcm, show tk C.L σ4 (bs ⟨#[44]⟩) = σ4 from by rw [tk, show see C.L σ4 (bs ⟨#[44]⟩) = false from hcm]; rfl] at htk
      have HR : Hid (RES = (l ++ [⟨s2, e4⟩], σ4)) := by
        rw [Hid, hr1.out, setsR, HSET.out, if_neg (by rw [hcm]; simp)]
      clear hcm
      go_wp2_with (go_at_call 103; refine htk.mono ?_; rintro e w6 ⟨rfl, h6, hf6⟩)
      go_ret
      rw [HR.out]
      exact ⟨_, rfl, ⟨⟨_, hS5.carry hC hf6⟩, by simp; omega⟩, h6, hF5.up' hf6 (by have := hF5.size; omega)⟩
end Go.Proofs.YtobamalnbjbmiaaGreatDoor
