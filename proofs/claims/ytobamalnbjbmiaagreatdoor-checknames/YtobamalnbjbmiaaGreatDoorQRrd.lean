/- The document's own reader: ok, fails, see, take, must. -/
import Derived.Test.YtobamalnbjbmiaaGreatDoorQPrd
import Derived.Test.YtobamalnbjbmiaaGreatDoorQRf2
namespace Go.Proofs.YtobamalnbjbmiaaGreatDoor
open Go.RowKit Px

def errV : Option F → Value
  | none => .int .i64 0
  | some f => .int .i64 f.1
def plV : Option F → Value
  | none => .int .i64 (-1)
  | some f => .int .i64 f.2
def rfC (C : Ctx) (n k : Nat) (σ : S) : Obj := .cells #[.slice (some ⟨C.g, σ.i * 3, none⟩) n k, errV σ.bad, plV σ.bad, .int .i64 σ.st] 180 (0, 0)
/-- where the document's reader stands, in memory -/
structure RS (C : Ctx) (w : World) (σ : S) : Prop where
  rd : ∃ n k, n + σ.i = C.L.length ∧ n ≤ k ∧ w.heap[C.rb]? = some (rfC C n k σ)
  tk : ∀ k t, C.L[k]? = some t → w.cell? ⟨C.g, k * 3, none⟩ = some (.int .i64 t.kind) ∧ w.cell? ⟨C.g, k * 3 + 1, none⟩ = some (sv t.text) ∧ w.cell? ⟨C.g, k * 3 + 2, none⟩ = some (.int .i64 t.place)
  lt : σ.i < C.L.length
  wf : Wf C.L
  e4 : ∀ i, kd C.L i = 4 → tx C.L i = []
  gr : C.g < C.rb
  nz : ∀ f, σ.bad = some f → f.1 ≠ 0
  sb : σ.st ≤ σ.i + 1
  sa : σ.bad = none → σ.st ≤ σ.i
theorem RS.lts {C : Ctx} {w : World} {σ : S} (h : RS C w σ) : C.rb < w.heap.size ∧ C.g < w.heap.size := by
  obtain ⟨n, k, -, -, hr⟩ := h.rd
  exact ⟨lt_of_block hr, Nat.lt_trans h.gr (lt_of_block hr)⟩
/-- the reader is set anew -/
theorem RS.keep {C : Ctx} {w w' : World} {σ σ' : S} (h : RS C w σ) (hf : Fr w.heap.size [C.rb] w w') {n k : Nat} (hn : n + σ'.i = C.L.length) (hk : n ≤ k) (hr : w'.heap[C.rb]? = some (rfC C n k σ')) (hlt : σ'.i < C.L.length) (hnz : ∀ f, σ'.bad = some f → f.1 ≠ 0) (hsb : σ'.st ≤ σ'.i + 1) (hsa : σ'.bad = none → σ'.st ≤ σ'.i) : RS C w' σ' := by
  have hg : w'.heap[C.g]? = w.heap[C.g]? := hf.block _ h.lts.2 (by simp; exact Nat.ne_of_lt h.gr)
  refine ⟨⟨n, k, hn, hk, hr⟩, fun k t hk => ?_, hlt, h.wf, h.e4, h.gr, hnz, hsb, hsa⟩
  have := h.tk k t hk
  rw [World.cell?_of_block (w := w) (a := ⟨C.g, k * 3, none⟩) hg, World.cell?_of_block (w := w) (a := ⟨C.g, k * 3 + 1, none⟩) hg, World.cell?_of_block (w := w) (a := ⟨C.g, k * 3 + 2, none⟩) hg]
  exact this
theorem RS.same {C : Ctx} {w w' : World} {σ : S} (h : RS C w σ) (hf : Fr w.heap.size [] w w') : RS C w' σ := by
  obtain ⟨n, k, hn, hk, hr⟩ := h.rd
  exact h.keep (hf.mono (Nat.le_refl _) (by simp)) hn hk (by rw [hf.block _ (lt_of_block hr) (by simp)]; exact hr) h.lt h.nz h.sb h.sa
theorem RS.now {C : Ctx} {w : World} {σ : S} (h : RS C w σ) :
    w.cell? ⟨C.g, σ.i * 3, none⟩ = some (.int .i64 (kd C.L σ.i)) ∧ w.cell? ⟨C.g, σ.i * 3 + 1, none⟩ = some (sv (tx C.L σ.i)) ∧ w.cell? ⟨C.g, σ.i * 3 + 2, none⟩ = some (.int .i64 (pl C.L σ.i)) := h.tk σ.i _ (tok_get h.lt)
theorem cells4 {w : World} {b : Nat} {a0 a1 a2 a3 : Value} {t : TypeId} (h : w.heap[b]? = some (.cells #[a0, a1, a2, a3] t (0, 0))) :
    w.cell? ⟨b, 0, none⟩ = some a0 ∧ w.cell? ⟨b, 1, none⟩ = some a1 ∧ w.cell? ⟨b, 2, none⟩ = some a2 ∧ w.cell? ⟨b, 3, none⟩ = some a3 ∧ ∀ o, w.frozen? ⟨b, o, none⟩ = false := by
  refine ⟨?_, ?_, ?_, ?_, fun o => by simp [World.frozen?, h]⟩ <;> (rw [cell_of_row _ _ _ _ _ _ h]; rfl)
/-- the frame of a call of the reader's -/
def ROut (C : Ctx) {α : Type} (ok : α → Value → World → Prop) (w : World) (p : α × S) (e : Ending) (w' : World) : Prop :=
  ∃ v, e = .returned v ∧ ok p.1 v w' ∧ RS C w' p.2 ∧ Fr w.heap.size [C.rb] w w'

theorem RS.fail {C : Ctx} {w : World} {i st : Nat} (h : RS C w ⟨i, st, none⟩) (e : Nat) (he : e ≠ 0) :
    RS C ((w.setCell ⟨C.rb, 1, none⟩ (.int .i64 e)).setCell ⟨C.rb, 2, none⟩ (.int .i64 (pl C.L i))) ⟨i, st, some (e, pl C.L i)⟩ ∧ Fr w.heap.size [C.rb] w ((w.setCell ⟨C.rb, 1, none⟩ (.int .i64 e)).setCell ⟨C.rb, 2, none⟩ (.int .i64 (pl C.L i))) := by
  obtain ⟨n, k, hn, hk, hr⟩ := h.rd
  have hf : Fr w.heap.size [C.rb] w ((w.setCell ⟨C.rb, 1, none⟩ (.int .i64 e)).setCell ⟨C.rb, 2, none⟩ (.int .i64 (pl C.L i))) := ((Fr.refl _ _ _).setCell (.inr (by simp)) _).setCell (.inr (by simp)) _
  refine ⟨h.keep (σ' := ⟨i, st, some (e, pl C.L i)⟩) hf hn hk ?_ h.lt (fun f hf => by injection hf with hf; subst hf; exact he) h.sb (fun h => absurd h (by simp)), hf⟩
  have h1 := heap_setCell_same w C.rb 1 _ 180 (.int .i64 e) hr
  rw [heap_setCell_same _ C.rb 2 _ 180 _ h1]; rfl
theorem RS.step {C : Ctx} {w : World} {i st n k : Nat} (h : RS C w ⟨i, st, none⟩) (hn : n + 1 + i = C.L.length) (hk : n + 1 ≤ k) (hr : w.heap[C.rb]? = some (rfC C (n + 1) k ⟨i, st, none⟩)) (hlt : i + 1 < C.L.length) :
    RS C (w.setCell ⟨C.rb, 0, none⟩ (.slice (some ⟨C.g, i * 3 + 3, none⟩) n (k - 1))) ⟨i + 1, st, none⟩ ∧ Fr w.heap.size [C.rb] w (w.setCell ⟨C.rb, 0, none⟩ (.slice (some ⟨C.g, i * 3 + 3, none⟩) n (k - 1))) := by
  have hf : Fr w.heap.size [C.rb] w (w.setCell ⟨C.rb, 0, none⟩ (.slice (some ⟨C.g, i * 3 + 3, none⟩) n (k - 1))) := (Fr.refl _ _ _).setCell (.inr (by simp)) _
  refine ⟨h.keep (σ' := ⟨i + 1, st, none⟩) (n := n) (k := k - 1) hf (by simp only; omega) (by omega) ?_ hlt h.nz (by have := h.sb; simp only at *; omega) (fun _ => by have := h.sa rfl; simp only at *; omega), hf⟩
  rw [heap_setCell_same w C.rb 0 _ 180 _ hr, rfC, show (⟨i + 1, st, none⟩ : S).i * 3 = i * 3 + 3 from by simp only; omega]; rfl

section
variable {C : Ctx} {w : World} {σ : S}
set_option maxRecDepth 100000 in
set_option maxHeartbeats 1000000 in
theorem r_ok (h : RS C w σ) : Calls Tryz.prog 102 #[.pointer (some ⟨C.rb, 0, none⟩)] w fun e w' => e = .returned (.bool σ.bad.isNone) ∧ w' = w := by
  obtain ⟨n, k, hn, hk, hr⟩ := h.rd
  obtain ⟨-, c1, -⟩ := cells4 hr
  obtain ⟨i, st, b⟩ := σ
  cases b with
  | none =>
    simp only [errV] at c1
    clear hr
    go_enter Tryz.func102, Tryz.ntmps102
    go_wp2
    go_ret
    exact ⟨rfl, rfl⟩
  | some f =>
    simp only [errV] at c1
    have hz : ((f.1 : Int) == 0) = false := by have := h.nz f rfl; simp; omega
    clear hr
    go_enter Tryz.func102, Tryz.ntmps102
    go_wp2
    go_ret
    exact ⟨rfl, rfl⟩
set_option maxRecDepth 100000 in
set_option maxHeartbeats 1000000 in
theorem r_fails (h : RS C w σ) (e : Nat) (he : e ≠ 0) : Calls Tryz.prog 104 #[.pointer (some ⟨C.rb, 0, none⟩), .int .i64 e] w fun en w' => en = .returned (.tuple #[]) ∧ RS C w' (fails C.L σ e) ∧ Fr w.heap.size [C.rb] w w' := by
  obtain ⟨n, k, hn, hk, hr⟩ := h.rd
  obtain ⟨c0, c1, c2, c3, z⟩ := cells4 hr
  obtain ⟨t0, t1, t2⟩ := h.now
  have z1 := z 1
  have z2 := z 2
  have hok := r_ok h
  have hlt := h.lt
  obtain ⟨i, st, b⟩ := σ
  cases b with
  | none =>
    simp only [errV, plV] at c1 c2
    simp only at c0 t2 hn hlt
    have hn1 : (0 : Int) < (n : Int) := by omega
    have HR : Hid (w.heap[C.rb]? = some (rfC C n k ⟨i, st, none⟩)) := hr
    have HH : Hid (RS C w ⟨i, st, none⟩) := h
    clear hr h t0 t1
    go_enter Tryz.func104, Tryz.ntmps104
    go_wp2_with (go_at_call 102; refine hok.mono ?_; rintro e' w' ⟨rfl, hw⟩; obtain rfl := hw.symm)
    go_end0
    obtain ⟨hs, hf⟩ := HH.out.fail e he
    exact ⟨rfl, hs, hf⟩
  | some f =>
    have HH : Hid (RS C w ⟨i, st, some f⟩) := h
    clear hr h c0 c1 c2 c3 z z1 z2 t0 t1 t2
    go_enter Tryz.func104, Tryz.ntmps104
    go_wp2_with (go_at_call 102; refine hok.mono ?_; rintro e' w' ⟨rfl, hw⟩; obtain rfl := hw.symm)
    go_end0
    exact ⟨rfl, HH.out, Fr.refl _ _ _⟩
set_option maxRecDepth 100000 in
set_option maxHeartbeats 1000000 in
theorem r_see (h : RS C w σ) (s : ByteArray) (hne : bs s ≠ []) : Calls Tryz.prog 152 #[.pointer (some ⟨C.rb, 0, none⟩), .string s] w fun e w' => e = .returned (.bool (see C.L σ (bs s))) ∧ w' = w := by
  obtain ⟨n, k, hn, hk, hr⟩ := h.rd
  obtain ⟨c0, -⟩ := cells4 hr
  obtain ⟨t0, t1, -⟩ := h.now
  have hok := r_ok h
  have hlt := h.lt
  have he4 := h.e4 σ.i
  obtain ⟨tb, htb⟩ : ∃ tb : ByteArray, Hid (tb = ⟨(tx C.L σ.i).toArray⟩) := ⟨_, rfl⟩
  have hbs : Hid (bs tb = tx C.L σ.i) := by rw [Hid, htb.out]
  rw [sv, ← htb.out] at t1
  obtain ⟨i, st, b⟩ := σ
  cases b with
  | none =>
    simp only at c0 t0 t1 hn hlt hbs he4
    have hn1 : (0 : Int) < (n : Int) := by omega
    clear hr h
    by_cases h4 : kd C.L i = 4
    · have H : Hid (see C.L ⟨i, st, none⟩ (bs s) = false) := by rw [Hid, see_ok, he4 h4]; exact decide_eq_false (fun e => hne e.symm)
      rw [h4] at t0
      clear he4 h4
      go_enter Tryz.func152, Tryz.ntmps152
      go_wp2_with (go_at_call 102; refine hok.mono ?_; rintro e' w' ⟨rfl, hw⟩; obtain rfl := hw.symm)
      go_ret
      exact ⟨ret_bool H.out.symm, rfl⟩
    · have h4' : (((kd C.L i : Nat) : Int) != 4) = true := by simp; omega
      clear he4 h4
      by_cases hs : bs tb = bs s
      · have H : Hid (see C.L ⟨i, st, none⟩ (bs s) = true) := by rw [Hid, see_ok, ← hbs.out]; exact decide_eq_true hs
        have h1 := str_yes tb s hs
        clear hs
        go_enter Tryz.func152, Tryz.ntmps152
        go_wp2_with (go_at_call 102; refine hok.mono ?_; rintro e' w' ⟨rfl, hw⟩; obtain rfl := hw.symm)
        go_ret
        exact ⟨ret_bool H.out.symm, rfl⟩
      · have H : Hid (see C.L ⟨i, st, none⟩ (bs s) = false) := by rw [Hid, see_ok, ← hbs.out]; exact decide_eq_false hs
        have h1 := str_no tb s hs
        clear hs
        go_enter Tryz.func152, Tryz.ntmps152
        go_wp2_with (go_at_call 102; refine hok.mono ?_; rintro e' w' ⟨rfl, hw⟩; obtain rfl := hw.symm)
        go_ret
        exact ⟨ret_bool H.out.symm, rfl⟩
  | some f =>
    clear hr h
    go_enter Tryz.func152, Tryz.ntmps152
    go_wp2_with (go_at_call 102; refine hok.mono ?_; rintro e' w' ⟨rfl, hw⟩; obtain rfl := hw.symm)
    go_ret
    exact ⟨rfl, rfl⟩
set_option maxRecDepth 100000 in
set_option maxHeartbeats 1000000 in
theorem r_take (h : RS C w σ) (s : ByteArray) (hne : bs s ≠ []) : Calls Tryz.prog 103 #[.pointer (some ⟨C.rb, 0, none⟩), .string s] w fun e w' => e = .returned (.bool (see C.L σ (bs s))) ∧ RS C w' (tk C.L σ (bs s)) ∧ Fr w.heap.size [C.rb] w w' := by
  have hsee := r_see h s hne
  cases hb : see C.L σ (bs s) with
  | false =>
    rw [hb] at hsee
    have H : Hid (tk C.L σ (bs s) = σ) := by rw [Hid, tk, hb]; rfl
    have HH : Hid (RS C w σ) := h
    clear h hb
    go_enter Tryz.func103, Tryz.ntmps103
    go_wp2_with (go_at_call 152; refine hsee.mono ?_; rintro e' w' ⟨rfl, hw⟩; obtain rfl := hw.symm)
    go_ret
    exact ⟨rfl, by rw [H.out]; exact HH.out, Fr.refl _ _ _⟩
  | true =>
    rw [hb] at hsee
    obtain ⟨i, st, b⟩ := σ
    cases b with
    | some f => exact absurd hb (by simp)
    | none =>
      have htx : tx C.L i = bs s := by rw [see_ok] at hb; exact of_decide_eq_true hb
      have hlt : i + 1 < C.L.length := h.wf.next h.lt (by rw [htx]; exact hne)
      have H : Hid (tk C.L ⟨i, st, none⟩ (bs s) = ⟨i + 1, st, none⟩) := tk_yes htx
      obtain ⟨n, k, hn, hk, hr⟩ := h.rd
      have h6 := h.wf.len
      simp only at hn
      obtain ⟨n, rfl⟩ : ∃ m, n = m + 1 := ⟨n - 1, by omega⟩
      obtain ⟨hS, hF⟩ := h.step hn hk hr hlt
      obtain ⟨c0, -, -, -, z⟩ := cells4 hr
      have z0 := z 0
      have HS : Hid _ := hS
      have HF : Hid _ := hF
      have hk1 : (1 : Int) ≤ ((n + 1 : Nat) : Int) := by omega
      have hk2 : ((n + 1 : Nat) : Int) ≤ (k : Int) := by omega
      have hk3 : ¬ k = 1 := by omega
      simp only at c0
      clear h hb hr htx hS hF z hlt
      go_enter Tryz.func103, Tryz.ntmps103
      go_wp2_with (go_at_call 152; refine hsee.mono ?_; rintro e' w' ⟨rfl, hw⟩; obtain rfl := hw.symm)
      go_ret
      exact ⟨rfl, by rw [H.out]; exact HS.out, HF.out⟩
set_option maxRecDepth 100000 in
set_option maxHeartbeats 1000000 in
theorem r_must (h : RS C w σ) (s : ByteArray) (hne : bs s ≠ []) : Calls Tryz.prog 100 #[.pointer (some ⟨C.rb, 0, none⟩), .string s] w fun e w' => e = .returned (.tuple #[]) ∧ RS C w' (must C.L σ (bs s)) ∧ Fr w.heap.size [C.rb] w w' := by
  have htake := r_take h s hne
  cases hb : see C.L σ (bs s) with
  | true =>
    rw [hb] at htake
    have H : Hid (must C.L σ (bs s) = tk C.L σ (bs s)) := by rw [Hid, must, tk, hb]; rfl
    clear h hb
    go_enter Tryz.func100, Tryz.ntmps100
    go_wp2_with (go_at_call 103; refine htake.mono ?_; rintro e' w1 ⟨rfl, h1, hf1⟩)
    go_end0
    exact ⟨rfl, by rw [H.out]; exact h1, hf1⟩
  | false =>
    rw [hb] at htake
    have H : Hid (must C.L σ (bs s) = fails C.L σ 3) := by rw [Hid, must, hb]; rfl
    have H2 : tk C.L σ (bs s) = σ := by rw [tk, hb]; rfl
    rw [H2] at htake
    clear h hb H2
    go_enter Tryz.func100, Tryz.ntmps100
    go_wp2_with (first
      | (go_at_call 103; refine htake.mono ?_; rintro e' w1 ⟨rfl, h1, hf1⟩)
      | (go_at_call 104; refine (r_fails h1 3 (by decide)).mono ?_; rintro e' w2 ⟨rfl, h2, hf2⟩))
    go_end0
    exact ⟨rfl, by rw [H.out]; exact h2, hf1.up hf2⟩
end
end Go.Proofs.YtobamalnbjbmiaaGreatDoor
