/- The document's own reader: keep, name, number. -/
import Derived.Test.YtobamalnbjbmiaaGreatDoorQRrd
import Derived.Test.YtobamalnbjbmiaaGreatDoorQSplit
namespace Go.Proofs.YtobamalnbjbmiaaGreatDoor
open Go.RowKit Px

theorem keeps_at (k : Nat) (hk : k < 21) : ∃ mb : ByteArray, Hid (bs mb = words.getD k []) ∧ ∀ w : World, (Instr.index 211 (.agg #[.string ⟨#[97, 98, 111, 114, 116]⟩, .string ⟨#[99, 104, 97, 114, 116]⟩, .string ⟨#[99, 111, 117, 110, 116]⟩, .string ⟨#[100, 111]⟩, .string ⟨#[100, 117, 114, 105, 110, 103]⟩, .string ⟨#[101, 110, 116, 114, 121]⟩, .string ⟨#[101, 120, 105, 116]⟩, .string ⟨#[102, 105, 110, 97, 108]⟩, .string ⟨#[103, 111]⟩, .string ⟨#[104, 105, 115, 116, 111, 114, 121]⟩, .string ⟨#[105, 109, 109, 101, 100, 105, 97, 116, 101]⟩, .string ⟨#[105, 102]⟩, .string ⟨#[105, 110, 105, 116, 105, 97, 108]⟩, .string ⟨#[105, 110, 112, 117, 116]⟩, .string ⟨#[106, 111, 105, 110]⟩, .string ⟨#[111, 117, 116, 112, 117, 116]⟩, .string ⟨#[112, 114, 101]⟩, .string ⟨#[114, 101, 103, 105, 111, 110]⟩, .string ⟨#[115, 116, 97, 116, 101]⟩, .string ⟨#[115, 117, 115, 112, 101, 110, 100]⟩, .string ⟨#[118, 97, 114]⟩]) (.int .i64 k)).run Tryz.prog w = .ok (.string mb) w :=
  ⟨⟨(words.getD k []).toArray⟩, rfl, fun w => index_words k hk w⟩
set_option maxRecDepth 100000 in
set_option maxHeartbeats 1000000 in
theorem r_keep (s : ByteArray) (w : World) : Calls Tryz.prog 151 #[.string s] w fun e w' => e = .returned (.bool (kw (bs s))) ∧ w' = w := by
  go_enter Tryz.func151, Tryz.ntmps151
  go_wp2
  go_loop [6] (fun i => ∃ k : Nat, k ≤ 21 ∧ i = .int .i64 k ∧ Hid (∀ j, j < k → words.getD j [] ≠ bs s)) (fun i => 21 - (intOf i).toNat)
  case atStart => exact ⟨0, by omega, rfl, fun j hj => absurd hj (by omega)⟩
  case round =>
    obtain ⟨k, hk, rfl, hr⟩ := hrel
    by_cases hlt : k < 21
    · obtain ⟨mb, HMB, hix⟩ := keeps_at k hlt
      by_cases heq : bs mb = bs s
      · have h1 := str_yes mb s heq
        have H : Hid (kw (bs s) = true) := by rw [Hid, ← heq, HMB.out]; exact kw_yes k hlt
        clear heq
        go_wp2
        go_ret
        exact ⟨ret_bool H.out.symm, rfl⟩
      · have h1 := str_no mb s heq
        have H : Hid (∀ j, j < k + 1 → words.getD j [] ≠ bs s) := by
          intro j hjk
          by_cases e : j = k
          · subst e; rw [← HMB.out]; exact heq
          · exact hr.out j (by omega)
        clear heq
        go_wp2
        go_round
        case rel => exact ⟨k + 1, by omega, by go_num, H⟩
        case measure => simp [intOf]; omega
    · have H : Hid (kw (bs s) = false) := kw_no _ (fun j hj => hr.out j (by omega))
      go_wp2
      go_ret
      exact ⟨ret_bool H.out.symm, rfl⟩

section
variable {C : Ctx} {w : World}
theorem RS.alloc {C : Ctx} {w : World} {σ : S} (h : RS C w σ) (o : Obj) : RS C (w.alloc o) σ ∧ Fr w.heap.size [] w (w.alloc o) := by
  have hf : Fr w.heap.size [] w (w.alloc o) := (Fr.refl _ _ _).alloc (Nat.le_refl _) o
  exact ⟨h.same hf, hf⟩
theorem tok_blk (w : World) (a b c : Value) (t : TypeId) : (w.alloc (.cells #[a, b, c] t)).heap[w.heap.size]? = some (.cells #[a, b, c] t (0, 0)) := heap_alloc_new w _
theorem cells3 {w : World} {b : Nat} {a0 a1 a2 : Value} {t : TypeId} (h : w.heap[b]? = some (.cells #[a0, a1, a2] t (0, 0))) :
    w.cell? ⟨b, 0, none⟩ = some a0 ∧ w.cell? ⟨b, 1, none⟩ = some a1 ∧ w.cell? ⟨b, 2, none⟩ = some a2 := by
  refine ⟨?_, ?_, ?_⟩ <;> (rw [cell_of_row _ _ _ _ _ _ h]; rfl)
theorem nm_cases (L : List Lx.Tok) (i : Nat) : (kd L i ≠ 1 ∨ kw (tx L i) = true) ∧ nm L i = .error (3, pl L i) ∨ kd L i = 1 ∧ kw (tx L i) = false ∧ 12 < (tx L i).length ∧ nm L i = .error (4, pl L i) ∨ kd L i = 1 ∧ kw (tx L i) = false ∧ (tx L i).length ≤ 12 ∧ nm L i = .ok (tx L i) := by
  by_cases h1 : kd L i ≠ 1 ∨ kw (tx L i) = true
  · exact .inl ⟨h1, by rw [nm, if_pos h1]⟩
  · have h2 : kd L i = 1 := by
      by_cases e : kd L i = 1
      · exact e
      · exact absurd (.inl e) h1
    have h3 : kw (tx L i) = false := by
      cases e : kw (tx L i) with
      | false => rfl
      | true => exact absurd (.inr e) h1
    by_cases h4 : 12 < (tx L i).length
    · exact .inr (.inl ⟨h2, h3, h4, by rw [nm, if_neg h1, if_pos h4]⟩)
    · exact .inr (.inr ⟨h2, h3, by omega, by rw [nm, if_neg h1, if_neg h4]⟩)
set_option maxRecDepth 100000 in
set_option maxHeartbeats 4000000 in
theorem r_name_ok {i st : Nat} (h : RS C w ⟨i, st, none⟩) : Calls Tryz.prog 101 #[.pointer (some ⟨C.rb, 0, none⟩)] w (ROut C (fun s v _ => v = sv s) w (nameR C.L ⟨i, st, none⟩)) := by
  obtain ⟨n, k, hn, hk, hr⟩ := h.rd
  obtain ⟨c0, -⟩ := cells4 hr
  obtain ⟨t0, t1, t2⟩ := h.now
  simp only at c0 t0 t1 t2 hn
  have hlt : i < C.L.length := h.lt
  have h6 := h.wf.len
  have hn1 : (0 : Int) < (n : Int) := by omega
  obtain ⟨tb, htb⟩ : ∃ tb : ByteArray, Hid (tb = ⟨(tx C.L i).toArray⟩) := ⟨_, rfl⟩
  have hbs : Hid (bs tb = tx C.L i) := by rw [Hid, htb.out]
  have hsz : Hid (tb.size = (tx C.L i).length) := by rw [Hid, ← hbs.out]; exact (bs_len tb).symm
  rw [sv, ← htb.out] at t1
  obtain ⟨hp0, hf0⟩ := h.alloc (.cells #[.int .i64 (kd C.L i), .string tb, .int .i64 (pl C.L i)] 183)
  have hz0 : (w.alloc (.cells #[.int .i64 (kd C.L i), .string tb, .int .i64 (pl C.L i)] 183)).heap.size = w.heap.size + 1 := by simp
  have hb0 := tok_blk w (.int .i64 (kd C.L i)) (.string tb) (.int .i64 (pl C.L i)) 183
  have hkp := fun w1 => r_keep tb w1
  have HL : Hid (C.rb < w.heap.size) := h.lts.1
  clear h hr
  have HB1 : Hid (∀ w1, Fr (w.alloc (.cells #[.int .i64 (kd C.L i), .string tb, .int .i64 (pl C.L i)] 183)).heap.size [C.rb] (w.alloc (.cells #[.int .i64 (kd C.L i), .string tb, .int .i64 (pl C.L i)] 183)) w1 → w1.cell? ⟨w.heap.size, 0, none⟩ = some (.int .i64 (kd C.L i)) ∧ w1.cell? ⟨w.heap.size, 1, none⟩ = some (.string tb) ∧ w1.cell? ⟨w.heap.size, 2, none⟩ = some (.int .i64 (pl C.L i))) := fun w1 hf1 => by
    refine cells3 (t := 183) ?_
    rw [hf1.block w.heap.size (by omega) (by have := HL.out; simp; omega)]; exact hb0
  by_cases hk1 : kd C.L i = 1
  · have hk1' : (((kd C.L i : Nat) : Int) != 1) = false := by simp; omega
    have HK : Hid (kd C.L i = 1) := hk1
    clear hk1
    cases hkw : kw (bs tb) with
    | true =>
      rw [hkw] at hkp
      have H : Hid (nameR C.L ⟨i, st, none⟩ = ([], ⟨i, st, some (3, pl C.L i)⟩)) := nameR_err (by rw [nm, if_pos (.inr (by rw [← hbs.out]; exact hkw))])
      clear hkw
      have K1 : Calls Tryz.prog 104 #[.pointer (some ⟨C.rb, 0, none⟩), .int .i64 3] (w.alloc (.cells #[.int .i64 (kd C.L i), .string tb, .int .i64 (pl C.L i)] 183)) fun en w' => en = .returned (.tuple #[]) ∧ RS C w' ⟨i, st, some (3, pl C.L i)⟩ ∧ Fr (w.alloc (.cells #[.int .i64 (kd C.L i), .string tb, .int .i64 (pl C.L i)] 183)).heap.size [C.rb] (w.alloc (.cells #[.int .i64 (kd C.L i), .string tb, .int .i64 (pl C.L i)] 183)) w' := r_fails hp0 3 (by decide)
      by_cases hlen : 12 < tb.size
      · have hl2 : (12 : Int) < (tb.size : Int) := by omega
        go_enter Tryz.func101, Tryz.ntmps101
        go_wp2_with (first
          | (go_at_call 151; refine (hkp _).mono ?_; rintro e' w' ⟨rfl, hw⟩; obtain rfl := hw.symm)
          | (go_at_call 104; refine K1.mono ?_; rintro e' w1 ⟨rfl, h1, hf1⟩; obtain ⟨d0, d1, d2⟩ := HB1.out w1 hf1; clear K1)
          | (go_at_call 104; refine (r_fails h1 4 (by decide)).mono ?_; rintro e' w2 ⟨rfl, h2, hf2⟩)
          | (go_at_call 102; refine (r_ok h2).mono ?_; rintro e' w' ⟨rfl, hw⟩; obtain rfl := hw.symm))
        go_ret
        rw [H.out]
        exact ⟨_, rfl, rfl, h2, (hf0.mono (Nat.le_refl _) (by simp)).up (hf1.up hf2)⟩
      · have hl2 : ¬ (12 : Int) < (tb.size : Int) := by omega
        go_enter Tryz.func101, Tryz.ntmps101
        go_wp2_with (first
          | (go_at_call 151; refine (hkp _).mono ?_; rintro e' w' ⟨rfl, hw⟩; obtain rfl := hw.symm)
          | (go_at_call 104; refine K1.mono ?_; rintro e' w1 ⟨rfl, h1, hf1⟩; obtain ⟨d0, d1, d2⟩ := HB1.out w1 hf1; clear K1)
          | (go_at_call 102; refine (r_ok h1).mono ?_; rintro e' w' ⟨rfl, hw⟩; obtain rfl := hw.symm))
        go_ret
        rw [H.out]
        exact ⟨_, rfl, rfl, h1, (hf0.mono (Nat.le_refl _) (by simp)).up hf1⟩
    | false =>
      rw [hkw] at hkp
      have hkw2 : Hid (kw (tx C.L i) = false) := by rw [Hid, ← hbs.out]; exact hkw
      clear hkw
      by_cases hlen : 12 < tb.size
      · have hl2 : (12 : Int) < (tb.size : Int) := by omega
        have H : Hid (nameR C.L ⟨i, st, none⟩ = ([], ⟨i, st, some (4, pl C.L i)⟩)) := nameR_err (by rw [nm, if_neg (by rw [hkw2.out]; simp [HK.out]), if_pos (by rw [← hsz.out]; exact hlen)])
        go_enter Tryz.func101, Tryz.ntmps101
        go_wp2_with (first
          | (go_at_call 151; refine (hkp _).mono ?_; rintro e' w' ⟨rfl, hw⟩; obtain rfl := hw.symm)
          | (go_at_call 104; refine (r_fails hp0 4 (by decide)).mono ?_; rintro e' w2 ⟨rfl, h2, hf2⟩)
          | (go_at_call 102; refine (r_ok h2).mono ?_; rintro e' w' ⟨rfl, hw⟩; obtain rfl := hw.symm))
        go_ret
        rw [H.out]
        exact ⟨_, rfl, rfl, h2, (hf0.mono (Nat.le_refl _) (by simp)).up hf2⟩
      · have hl2 : ¬ (12 : Int) < (tb.size : Int) := by omega
        have H : Hid (nameR C.L ⟨i, st, none⟩ = (tx C.L i, ⟨i + 1, st, none⟩)) := nameR_ok (by rw [nm, if_neg (by rw [hkw2.out]; simp [HK.out]), if_neg (by rw [← hsz.out]; exact hlen)])
        have hlt1 : i + 1 < C.L.length := hp0.wf.nextk hlt (by rw [HK.out]; decide)
        obtain ⟨n2, rfl⟩ : ∃ m, n = m + 1 := ⟨n - 1, by omega⟩
        obtain ⟨nn, kk, hnn, hkk, hrr⟩ := hp0.rd
        obtain ⟨q0, -, -, -, z⟩ := cells4 hrr
        have hw0 : (w.alloc (.cells #[.int .i64 (kd C.L i), .string tb, .int .i64 (pl C.L i)] 183)).cell? ⟨C.rb, 0, none⟩ = some (.slice (some ⟨C.g, i * 3, none⟩) (n2 + 1) k) := by rw [hf0.cell (p := ⟨C.rb, 0, none⟩) HL.out (by simp)]; exact c0
        rw [q0] at hw0; injection hw0 with hw0; injection hw0 with _ hw1 hw2
        subst hw1; subst hw2
        obtain ⟨hS, hF⟩ := hp0.step hn hk hrr hlt1
        have HS : Hid _ := hS
        have HF : Hid _ := hF
        have z0 := z 0
        have hk1'' : (1 : Int) ≤ ((n2 + 1 : Nat) : Int) := by omega
        have hk2 : ((n2 + 1 : Nat) : Int) ≤ (kk : Int) := by omega
        have hk3 : ¬ kk = 1 := by omega
        clear hS hF z hrr
        go_enter Tryz.func101, Tryz.ntmps101
        go_wp2_with (first
          | (go_at_call 151; refine (hkp _).mono ?_; rintro e' w' ⟨rfl, hw⟩; obtain rfl := hw.symm)
          | (go_at_call 102; refine (r_ok hp0).mono ?_; rintro e' w' ⟨rfl, hw⟩; obtain rfl := hw.symm))
        go_ret
        rw [H.out]
        exact ⟨.string tb, rfl, by show Value.string tb = sv (tx C.L i); rw [sv, ← htb.out], HS.out, (hf0.mono (Nat.le_refl _) (by simp)).up HF.out⟩
  · have hk1' : (((kd C.L i : Nat) : Int) != 1) = true := by simp; omega
    have H : Hid (nameR C.L ⟨i, st, none⟩ = ([], ⟨i, st, some (3, pl C.L i)⟩)) := nameR_err (by rw [nm, if_pos (.inl hk1)])
    have K1 : Calls Tryz.prog 104 #[.pointer (some ⟨C.rb, 0, none⟩), .int .i64 3] (w.alloc (.cells #[.int .i64 (kd C.L i), .string tb, .int .i64 (pl C.L i)] 183)) fun en w' => en = .returned (.tuple #[]) ∧ RS C w' ⟨i, st, some (3, pl C.L i)⟩ ∧ Fr (w.alloc (.cells #[.int .i64 (kd C.L i), .string tb, .int .i64 (pl C.L i)] 183)).heap.size [C.rb] (w.alloc (.cells #[.int .i64 (kd C.L i), .string tb, .int .i64 (pl C.L i)] 183)) w' := r_fails hp0 3 (by decide)
    by_cases hlen : 12 < tb.size
    · have hl2 : (12 : Int) < (tb.size : Int) := by omega
      go_enter Tryz.func101, Tryz.ntmps101
      go_wp2_with (first
        | (go_at_call 104; refine K1.mono ?_; rintro e' w1 ⟨rfl, h1, hf1⟩; obtain ⟨d0, d1, d2⟩ := HB1.out w1 hf1; clear K1)
        | (go_at_call 104; refine (r_fails h1 4 (by decide)).mono ?_; rintro e' w2 ⟨rfl, h2, hf2⟩)
        | (go_at_call 102; refine (r_ok h2).mono ?_; rintro e' w' ⟨rfl, hw⟩; obtain rfl := hw.symm))
      go_ret
      rw [H.out]
      exact ⟨_, rfl, rfl, h2, (hf0.mono (Nat.le_refl _) (by simp)).up (hf1.up hf2)⟩
    · have hl2 : ¬ (12 : Int) < (tb.size : Int) := by omega
      go_enter Tryz.func101, Tryz.ntmps101
      go_wp2_with (first
        | (go_at_call 104; refine K1.mono ?_; rintro e' w1 ⟨rfl, h1, hf1⟩; obtain ⟨d0, d1, d2⟩ := HB1.out w1 hf1; clear K1)
        | (go_at_call 102; refine (r_ok h1).mono ?_; rintro e' w' ⟨rfl, hw⟩; obtain rfl := hw.symm))
      go_ret
      rw [H.out]
      exact ⟨_, rfl, rfl, h1, (hf0.mono (Nat.le_refl _) (by simp)).up hf1⟩
set_option maxRecDepth 100000 in
set_option maxHeartbeats 4000000 in
theorem r_name_dead {i st : Nat} {f : F} (h : RS C w ⟨i, st, some f⟩) : Calls Tryz.prog 101 #[.pointer (some ⟨C.rb, 0, none⟩)] w (ROut C (fun s v _ => v = sv s) w (nameR C.L ⟨i, st, some f⟩)) := by
  obtain ⟨n, k, hn, hk, hr⟩ := h.rd
  obtain ⟨c0, -⟩ := cells4 hr
  obtain ⟨t0, t1, t2⟩ := h.now
  simp only at c0 t0 t1 t2 hn
  have hlt : i < C.L.length := h.lt
  have h6 := h.wf.len
  have hn1 : (0 : Int) < (n : Int) := by omega
  obtain ⟨tb, htb⟩ : ∃ tb : ByteArray, Hid (tb = ⟨(tx C.L i).toArray⟩) := ⟨_, rfl⟩
  have hbs : Hid (bs tb = tx C.L i) := by rw [Hid, htb.out]
  have hsz : Hid (tb.size = (tx C.L i).length) := by rw [Hid, ← hbs.out]; exact (bs_len tb).symm
  rw [sv, ← htb.out] at t1
  obtain ⟨hp0, hf0⟩ := h.alloc (.cells #[.int .i64 (kd C.L i), .string tb, .int .i64 (pl C.L i)] 183)
  have hz0 : (w.alloc (.cells #[.int .i64 (kd C.L i), .string tb, .int .i64 (pl C.L i)] 183)).heap.size = w.heap.size + 1 := by simp
  have hb0 := tok_blk w (.int .i64 (kd C.L i)) (.string tb) (.int .i64 (pl C.L i)) 183
  have hkp := fun w1 => r_keep tb w1
  have HL : Hid (C.rb < w.heap.size) := h.lts.1
  clear h hr
  have HB1 : Hid (∀ w1, Fr (w.alloc (.cells #[.int .i64 (kd C.L i), .string tb, .int .i64 (pl C.L i)] 183)).heap.size [C.rb] (w.alloc (.cells #[.int .i64 (kd C.L i), .string tb, .int .i64 (pl C.L i)] 183)) w1 → w1.cell? ⟨w.heap.size, 0, none⟩ = some (.int .i64 (kd C.L i)) ∧ w1.cell? ⟨w.heap.size, 1, none⟩ = some (.string tb) ∧ w1.cell? ⟨w.heap.size, 2, none⟩ = some (.int .i64 (pl C.L i))) := fun w1 hf1 => by
    refine cells3 (t := 183) ?_
    rw [hf1.block w.heap.size (by omega) (by have := HL.out; simp; omega)]; exact hb0
  have H : Hid (nameR C.L ⟨i, st, some f⟩ = ([], ⟨i, st, some f⟩)) := rfl
  by_cases hk1 : kd C.L i = 1
  · have hk1' : (((kd C.L i : Nat) : Int) != 1) = false := by simp; omega
    have HK : Hid (kd C.L i = 1) := hk1
    clear hk1
    cases hkw : kw (bs tb) with
    | true =>
      rw [hkw] at hkp
      clear hkw
      have K1 : Calls Tryz.prog 104 #[.pointer (some ⟨C.rb, 0, none⟩), .int .i64 3] (w.alloc (.cells #[.int .i64 (kd C.L i), .string tb, .int .i64 (pl C.L i)] 183)) fun en w' => en = .returned (.tuple #[]) ∧ RS C w' ⟨i, st, some f⟩ ∧ Fr (w.alloc (.cells #[.int .i64 (kd C.L i), .string tb, .int .i64 (pl C.L i)] 183)).heap.size [C.rb] (w.alloc (.cells #[.int .i64 (kd C.L i), .string tb, .int .i64 (pl C.L i)] 183)) w' := r_fails hp0 3 (by decide)
      by_cases hlen : 12 < tb.size
      · have hl2 : (12 : Int) < (tb.size : Int) := by omega
        go_enter Tryz.func101, Tryz.ntmps101
        go_wp2_with (first
          | (go_at_call 151; refine (hkp _).mono ?_; rintro e' w' ⟨rfl, hw⟩; obtain rfl := hw.symm)
          | (go_at_call 104; refine K1.mono ?_; rintro e' w1 ⟨rfl, h1, hf1⟩; obtain ⟨d0, d1, d2⟩ := HB1.out w1 hf1; clear K1)
          | (go_at_call 104; refine (r_fails h1 4 (by decide)).mono ?_; rintro e' w2 ⟨rfl, h2, hf2⟩)
          | (go_at_call 102; refine (r_ok h2).mono ?_; rintro e' w' ⟨rfl, hw⟩; obtain rfl := hw.symm))
        go_ret
        rw [H.out]
        exact ⟨_, rfl, rfl, h2, (hf0.mono (Nat.le_refl _) (by simp)).up (hf1.up hf2)⟩
      · have hl2 : ¬ (12 : Int) < (tb.size : Int) := by omega
        go_enter Tryz.func101, Tryz.ntmps101
        go_wp2_with (first
          | (go_at_call 151; refine (hkp _).mono ?_; rintro e' w' ⟨rfl, hw⟩; obtain rfl := hw.symm)
          | (go_at_call 104; refine K1.mono ?_; rintro e' w1 ⟨rfl, h1, hf1⟩; obtain ⟨d0, d1, d2⟩ := HB1.out w1 hf1; clear K1)
          | (go_at_call 102; refine (r_ok h1).mono ?_; rintro e' w' ⟨rfl, hw⟩; obtain rfl := hw.symm))
        go_ret
        rw [H.out]
        exact ⟨_, rfl, rfl, h1, (hf0.mono (Nat.le_refl _) (by simp)).up hf1⟩
    | false =>
      rw [hkw] at hkp
      have hkw2 : Hid (kw (tx C.L i) = false) := by rw [Hid, ← hbs.out]; exact hkw
      clear hkw
      by_cases hlen : 12 < tb.size
      · have hl2 : (12 : Int) < (tb.size : Int) := by omega
        go_enter Tryz.func101, Tryz.ntmps101
        go_wp2_with (first
          | (go_at_call 151; refine (hkp _).mono ?_; rintro e' w' ⟨rfl, hw⟩; obtain rfl := hw.symm)
          | (go_at_call 104; refine (r_fails hp0 4 (by decide)).mono ?_; rintro e' w2 ⟨rfl, h2, hf2⟩)
          | (go_at_call 102; refine (r_ok h2).mono ?_; rintro e' w' ⟨rfl, hw⟩; obtain rfl := hw.symm))
        go_ret
        rw [H.out]
        exact ⟨_, rfl, rfl, h2, (hf0.mono (Nat.le_refl _) (by simp)).up hf2⟩
      · have hl2 : ¬ (12 : Int) < (tb.size : Int) := by omega
        go_enter Tryz.func101, Tryz.ntmps101
        go_wp2_with (first
          | (go_at_call 151; refine (hkp _).mono ?_; rintro e' w' ⟨rfl, hw⟩; obtain rfl := hw.symm)
          | (go_at_call 102; refine (r_ok hp0).mono ?_; rintro e' w' ⟨rfl, hw⟩; obtain rfl := hw.symm))
        go_ret
        rw [H.out]
        exact ⟨_, rfl, rfl, hp0, hf0.mono (Nat.le_refl _) (by simp)⟩
  · have hk1' : (((kd C.L i : Nat) : Int) != 1) = true := by simp; omega
    have K1 : Calls Tryz.prog 104 #[.pointer (some ⟨C.rb, 0, none⟩), .int .i64 3] (w.alloc (.cells #[.int .i64 (kd C.L i), .string tb, .int .i64 (pl C.L i)] 183)) fun en w' => en = .returned (.tuple #[]) ∧ RS C w' ⟨i, st, some f⟩ ∧ Fr (w.alloc (.cells #[.int .i64 (kd C.L i), .string tb, .int .i64 (pl C.L i)] 183)).heap.size [C.rb] (w.alloc (.cells #[.int .i64 (kd C.L i), .string tb, .int .i64 (pl C.L i)] 183)) w' := r_fails hp0 3 (by decide)
    by_cases hlen : 12 < tb.size
    · have hl2 : (12 : Int) < (tb.size : Int) := by omega
      go_enter Tryz.func101, Tryz.ntmps101
      go_wp2_with (first
        | (go_at_call 104; refine K1.mono ?_; rintro e' w1 ⟨rfl, h1, hf1⟩; obtain ⟨d0, d1, d2⟩ := HB1.out w1 hf1; clear K1)
        | (go_at_call 104; refine (r_fails h1 4 (by decide)).mono ?_; rintro e' w2 ⟨rfl, h2, hf2⟩)
        | (go_at_call 102; refine (r_ok h2).mono ?_; rintro e' w' ⟨rfl, hw⟩; obtain rfl := hw.symm))
      go_ret
      rw [H.out]
      exact ⟨_, rfl, rfl, h2, (hf0.mono (Nat.le_refl _) (by simp)).up (hf1.up hf2)⟩
    · have hl2 : ¬ (12 : Int) < (tb.size : Int) := by omega
      go_enter Tryz.func101, Tryz.ntmps101
      go_wp2_with (first
        | (go_at_call 104; refine K1.mono ?_; rintro e' w1 ⟨rfl, h1, hf1⟩; obtain ⟨d0, d1, d2⟩ := HB1.out w1 hf1; clear K1)
        | (go_at_call 102; refine (r_ok h1).mono ?_; rintro e' w' ⟨rfl, hw⟩; obtain rfl := hw.symm))
      go_ret
      rw [H.out]
      exact ⟨_, rfl, rfl, h1, (hf0.mono (Nat.le_refl _) (by simp)).up hf1⟩
theorem r_name {σ : S} (h : RS C w σ) : Calls Tryz.prog 101 #[.pointer (some ⟨C.rb, 0, none⟩)] w (ROut C (fun s v _ => v = sv s) w (nameR C.L σ)) := by
  obtain ⟨i, st, b⟩ := σ
  cases b with
  | none => exact r_name_ok h
  | some f => exact r_name_dead h
end
end Go.Proofs.YtobamalnbjbmiaaGreatDoor
/- The document's own reader: number. -/
namespace Go.Proofs.YtobamalnbjbmiaaGreatDoor
open Go.RowKit Px

theorem val_snoc (l : Str) (c : UInt8) : val (l ++ [c]) = val l * 10 + (c.toNat - 48) := by simp [val, List.foldl_append]
theorem val_lt (l : Str) (hd : ∀ c ∈ l, 48 ≤ c.toNat ∧ c.toNat ≤ 57) : ∀ k, k ≤ l.length → val (l.take k) < 10 ^ k := by
  intro k
  induction k with
  | zero => intro _; simp [val]
  | succ k ih =>
    intro hk
    have h1 := ih (by omega)
    have hlt : k < l.length := by omega
    rw [List.take_succ_eq_append_getElem hlt, val_snoc]
    have h2 := hd l[k] (List.getElem_mem hlt)
    have : 10 ^ (k + 1) = 10 ^ k * 10 := Nat.pow_succ ..
    omega
theorem wrap_in (n : Int) (h0 : 0 ≤ n) (h1 : n ≤ 9223372036854775807) : wrap64 n = n := by unfold wrap64; omega
theorem num_step (x y : Nat) (hx : x < 100000000000000000) (h1 : 48 ≤ y) (h2 : y ≤ 57) : wrap64 (wrap64 ((x : Nat) * 10) + ((y : Int) - 48) % 256) = ((x * 10 + (y - 48) : Nat) : Int) := by
  have e1 : ((y : Int) - 48) % 256 = (y : Int) - 48 := Int.emod_eq_of_lt (by omega) (by omega)
  have e2 : wrap64 ((x : Nat) * 10) = (x : Int) * 10 := wrap_in _ (by omega) (by omega)
  rw [e1, e2, wrap_in _ (by omega) (by omega)]
  omega
section
variable {C : Ctx} {w : World}
set_option maxRecDepth 100000 in
set_option maxHeartbeats 4000000 in
theorem r_number_dead {i st : Nat} {f : F} (h : RS C w ⟨i, st, some f⟩) : Calls Tryz.prog 105 #[.pointer (some ⟨C.rb, 0, none⟩)] w (ROut C (fun (n : Nat) v _ => v = .int .i64 n) w (numberR C.L ⟨i, st, some f⟩)) := by
  obtain ⟨n, k, hn, hk, hr⟩ := h.rd
  obtain ⟨c0, -⟩ := cells4 hr
  obtain ⟨t0, t1, t2⟩ := h.now
  simp only at c0 t0 t1 t2 hn
  have hlt : i < C.L.length := h.lt
  have h6 := h.wf.len
  have hn1 : (0 : Int) < (n : Int) := by omega
  obtain ⟨tb, htb⟩ : ∃ tb : ByteArray, Hid (tb = ⟨(tx C.L i).toArray⟩) := ⟨_, rfl⟩
  have hbs : Hid (bs tb = tx C.L i) := by rw [Hid, htb.out]
  have hsz : Hid (tb.size = (tx C.L i).length) := by rw [Hid, ← hbs.out]; exact (bs_len tb).symm
  rw [sv, ← htb.out] at t1
  obtain ⟨hp0, hf0⟩ := h.alloc (.cells #[.int .i64 (kd C.L i), .string tb, .int .i64 (pl C.L i)] 183)
  have hz0 : (w.alloc (.cells #[.int .i64 (kd C.L i), .string tb, .int .i64 (pl C.L i)] 183)).heap.size = w.heap.size + 1 := by simp
  have hb0 := tok_blk w (.int .i64 (kd C.L i)) (.string tb) (.int .i64 (pl C.L i)) 183
  have HL : Hid (C.rb < w.heap.size) := h.lts.1
  clear h hr
  by_cases hk1 : kd C.L i = 2
  · have hk1' : (((kd C.L i : Nat) : Int) != 2) = false := by simp; omega
    clear hk1
    go_enter Tryz.func105, Tryz.ntmps105
    go_wp2_with (go_at_call 102; refine (r_ok hp0).mono ?_; rintro e' w' ⟨rfl, hw⟩; obtain rfl := hw.symm)
    go_ret
    exact ⟨_, rfl, rfl, hp0, hf0.mono (Nat.le_refl _) (by simp)⟩
  · have hk1' : (((kd C.L i : Nat) : Int) != 2) = true := by simp; omega
    clear hk1
    go_enter Tryz.func105, Tryz.ntmps105
    go_wp2_with (first
      | (go_at_call 104; refine (r_fails hp0 3 (by decide)).mono ?_; rintro e' w1 ⟨rfl, h1, hf1⟩)
      | (go_at_call 102; refine (r_ok h1).mono ?_; rintro e' w' ⟨rfl, hw⟩; obtain rfl := hw.symm))
    go_ret
    exact ⟨_, rfl, rfl, h1, (hf0.mono (Nat.le_refl _) (by simp)).up hf1⟩
set_option maxRecDepth 100000 in
set_option maxHeartbeats 4000000 in
theorem r_number_ok {i st : Nat} (h : RS C w ⟨i, st, none⟩) : Calls Tryz.prog 105 #[.pointer (some ⟨C.rb, 0, none⟩)] w (ROut C (fun (n : Nat) v _ => v = .int .i64 n) w (numberR C.L ⟨i, st, none⟩)) := by
  obtain ⟨n, k, hn, hk, hr⟩ := h.rd
  obtain ⟨c0, -⟩ := cells4 hr
  obtain ⟨t0, t1, t2⟩ := h.now
  simp only at c0 t0 t1 t2 hn
  have hlt : i < C.L.length := h.lt
  have h6 := h.wf.len
  have hn1 : (0 : Int) < (n : Int) := by omega
  obtain ⟨tb, htb⟩ : ∃ tb : ByteArray, Hid (tb = ⟨(tx C.L i).toArray⟩) := ⟨_, rfl⟩
  have hbs : Hid (bs tb = tx C.L i) := by rw [Hid, htb.out]
  have hsz : Hid (tb.size = (tx C.L i).length) := by rw [Hid, ← hbs.out]; exact (bs_len tb).symm
  rw [sv, ← htb.out] at t1
  obtain ⟨hp0, hf0⟩ := h.alloc (.cells #[.int .i64 (kd C.L i), .string tb, .int .i64 (pl C.L i)] 183)
  have hz0 : (w.alloc (.cells #[.int .i64 (kd C.L i), .string tb, .int .i64 (pl C.L i)] 183)).heap.size = w.heap.size + 1 := by simp
  have hb0 := tok_blk w (.int .i64 (kd C.L i)) (.string tb) (.int .i64 (pl C.L i)) 183
  have HL : Hid (C.rb < w.heap.size) := h.lts.1
  clear h hr
  by_cases hk1 : kd C.L i = 2
  · have hk1' : (((kd C.L i : Nat) : Int) != 2) = false := by simp; omega
    have H : Hid (numberR C.L ⟨i, st, none⟩ = (val (tx C.L i), ⟨i + 1, st, none⟩)) := numberR_ok (by rw [number, if_pos hk1])
    obtain ⟨hdg, hln, -⟩ := hp0.wf.num i hk1
    have hts : tb.size ≤ 18 := by rw [hsz.out]; exact hln
    have hlt1 : i + 1 < C.L.length := hp0.wf.nextk hlt (by rw [hk1]; decide)
    clear hk1
    obtain ⟨n2, rfl⟩ : ∃ m, n = m + 1 := ⟨n - 1, by omega⟩
    obtain ⟨nn, kk, hnn, hkk, hrr⟩ := hp0.rd
    obtain ⟨q0, -, -, -, z⟩ := cells4 hrr
    have hw0 : (w.alloc (.cells #[.int .i64 (kd C.L i), .string tb, .int .i64 (pl C.L i)] 183)).cell? ⟨C.rb, 0, none⟩ = some (.slice (some ⟨C.g, i * 3, none⟩) (n2 + 1) k) := by rw [hf0.cell (p := ⟨C.rb, 0, none⟩) HL.out (by simp)]; exact c0
    rw [q0] at hw0; injection hw0 with hw0; injection hw0 with _ hw1 hw2
    subst hw1; subst hw2
    obtain ⟨hS, hF⟩ := hp0.step hn hk hrr hlt1
    have HS : Hid _ := hS
    have HF : Hid _ := hF
    have z0 := z 0
    have hk1'' : (1 : Int) ≤ ((n2 + 1 : Nat) : Int) := by omega
    have hk2 : ((n2 + 1 : Nat) : Int) ≤ (kk : Int) := by omega
    have hk3 : ¬ kk = 1 := by omega
    have hne : ¬ w.heap.size = C.rb := by have := HL.out; omega
    have HD : Hid (∀ c ∈ bs tb, 48 ≤ c.toNat ∧ c.toNat ≤ 57) := by rw [hbs.out]; exact hdg
    clear hS hF z hrr hdg
    go_enter Tryz.func105, Tryz.ntmps105
    go_wp2_with (go_at_call 102; refine (r_ok hp0).mono ?_; rintro e' w' ⟨rfl, hw⟩; obtain rfl := hw.symm)
    go_loop [4, 31] (fun a j => ∃ q : Nat, q ≤ tb.size ∧ j = .int .i64 q ∧ a = .int .i64 (val ((bs tb).take q) : Nat)) (fun _ j => tb.size - (intOf j).toNat)
    case atStart => exact ⟨0, Nat.zero_le _, rfl, rfl⟩
    case round =>
      obtain ⟨q, hq, rfl, rfl⟩ := hrel
      by_cases hlt2 : q < tb.size
      · have hlt3 : q < (bs tb).length := by rw [bs_len]; exact hlt2
        have hq : Hid ((bs tb)[q] = tb[q]) := by
          have := bs_at tb q hlt2
          rw [List.getElem?_eq_getElem hlt3] at this; injection this
        have HN : Hid (Value.int .i64 (wrap64 (wrap64 ((val ((bs tb).take q) : Nat) * 10) + ((tb[q].toNat : Int) - 48) % 256)) = .int .i64 (val ((bs tb).take (q + 1)) : Nat)) := by
          have hb := val_lt (bs tb) HD.out q (by rw [bs_len]; omega)
          have hp : 10 ^ q ≤ 10 ^ 17 := Nat.pow_le_pow_right (by decide) (by omega)
          have hd := HD.out (bs tb)[q] (List.getElem_mem hlt3)
          rw [hq.out] at hd
          have hsn : val ((bs tb).take (q + 1)) = val ((bs tb).take q) * 10 + (tb[q].toNat - 48) := by rw [List.take_succ_eq_append_getElem hlt3, val_snoc, hq.out]
          rw [hsn]
          rw [num_step _ _ (Nat.lt_of_lt_of_le hb (Nat.le_trans hp (by decide))) hd.1 hd.2]
          rfl
        go_wp2
        go_round
        case rel => exact ⟨q + 1, by omega, by go_num, HN.out⟩
        case measure => simp [intOf]; omega
      · have HV : Hid ((bs tb).take q = tx C.L i) := by rw [Hid, ← hbs.out, List.take_of_length_le (by rw [bs_len]; omega)]
        have hge : ¬ (q : Int) < (tb.size : Int) := by omega
        go_wp2
        go_ret
        rw [H.out]
        exact ⟨.int .i64 (val ((bs tb).take q) : Nat), rfl, by show Value.int .i64 _ = Value.int .i64 _; rw [HV.out], HS.out, (hf0.mono (Nat.le_refl _) (by simp)).up HF.out⟩
  · have hk1' : (((kd C.L i : Nat) : Int) != 2) = true := by simp; omega
    have H : Hid (numberR C.L ⟨i, st, none⟩ = (0, ⟨i, st, some (3, pl C.L i)⟩)) := numberR_err (by rw [number, if_neg hk1])
    clear hk1
    go_enter Tryz.func105, Tryz.ntmps105
    go_wp2_with (first
      | (go_at_call 104; refine (r_fails hp0 3 (by decide)).mono ?_; rintro e' w1 ⟨rfl, h1, hf1⟩)
      | (go_at_call 102; refine (r_ok h1).mono ?_; rintro e' w' ⟨rfl, hw⟩; obtain rfl := hw.symm))
    go_ret
    rw [H.out]
    exact ⟨_, rfl, rfl, h1, (hf0.mono (Nat.le_refl _) (by simp)).up hf1⟩
theorem r_number {σ : S} (h : RS C w σ) : Calls Tryz.prog 105 #[.pointer (some ⟨C.rb, 0, none⟩)] w (ROut C (fun (n : Nat) v _ => v = .int .i64 n) w (numberR C.L σ)) := by
  obtain ⟨i, st, b⟩ := σ
  cases b with
  | none => exact r_number_ok h
  | some f => exact r_number_dead h
end
end Go.Proofs.YtobamalnbjbmiaaGreatDoor
