/- The tables of package parse: isWord, kindOf, leadOf, codeAhead, codeBetween. -/
import Derived.Test.YtiihgnagjemikaaGreatDoorVUn2
import Derived.Test.YtiihgnagjemikaaGreatDoorVMem
import Derived.Deep.LoopGhost
import Derived.Deep.QuietTactic
import Derived.BigQuiet
import Derived.StillTailTactics
namespace Go.Proofs.YtiihgnagjemikaaGreatDoor
open Go.RowKit Px

theorem str_eq (a b : ByteArray) : (a.toList == b.toList) = decide (bs a = bs b) := by
  rw [ByteArray.toList_eq, ByteArray.toList_eq, Bool.eq_iff_iff]
  simp only [beq_iff_eq, decide_eq_true_eq]
theorem str_yes (a b : ByteArray) (h : bs a = bs b) : (a.toList == b.toList) = true := by rw [str_eq]; exact decide_eq_true h
theorem str_no (a b : ByteArray) (h : bs a ≠ bs b) : (a.toList == b.toList) = false := by rw [str_eq]; exact decide_eq_false h

/-- cells of a table, in a block -/
def TabAt (w : World) (b : Nat) (cs : List Value) : Prop := ∀ i v, cs[i]? = some v → w.cell? ⟨b, i, none⟩ = some v
def kindsL : List Str := [[], kInput, kOutput, kVar]
def leadsL : List Str := [kGo, kAbort, kJoin]
def signC (p : Str × Nat) : List Value := [sv p.1, .int .i64 p.2]
def aheadL : List (Str × Nat) := [(kMinus, 4), (kNot, 5)]
def padTo4 (l : List (Str × Nat)) : List (Str × Nat) := (l ++ [([], 0), ([], 0), ([], 0)]).take 4
def betweenL : List (List (Str × Nat)) := signs.map padTo4
structure Tabs (w : World) : Prop where
  words : TabAt w 6 (words.map sv)
  kinds : TabAt w 2 (kindsL.map sv)
  leads : TabAt w 9 (leadsL.map sv)
  ahead : TabAt w 11 (aheadL.flatMap signC)
  between : TabAt w 10 (betweenL.flatMap (·.flatMap signC))
theorem TabAt.keep {w w' : World} {b : Nat} {cs : List Value} (h : TabAt w b cs) (hb : w'.heap[b]? = w.heap[b]?) : TabAt w' b cs := fun i v hv => by
  rw [World.cell?_of_block (w := w) (a := ⟨b, i, none⟩) hb]; exact h i v hv
theorem Tabs.keep {w w' : World} (h : Tabs w) (hb : ∀ b, b < 12 → w'.heap[b]? = w.heap[b]?) : Tabs w' :=
  ⟨h.words.keep (hb 6 (by omega)), h.kinds.keep (hb 2 (by omega)), h.leads.keep (hb 9 (by omega)), h.ahead.keep (hb 11 (by omega)), h.between.keep (hb 10 (by omega))⟩

theorem load_cells (T n : Nat) (w : World) (b o : Nat) (cs : List Value) (hagg : (isAgg T).run Tryz.prog w = .ok true w) (hsz : (sizeOf T).run Tryz.prog w = .ok n w) (hn : cs.length = n)
    (h : ∀ j v, cs[j]? = some v → w.cell? ⟨b, o + j, none⟩ = some v) : (loadVar T ⟨b, o, none⟩).run Tryz.prog w = .ok (.agg cs.toArray) w := by
  have hl := run_loadCells_list (P := Tryz.prog) w ⟨b, o, none⟩ cs (fun j v hv => by
    have hadd : (⟨b, o, none⟩ : Addr).add j = ⟨b, o + j, none⟩ := by unfold Addr.add; split <;> simp_all
    rw [hadd]; exact h j v hv)
  rw [hn] at hl
  unfold loadVar
  rw [Sem.run_bind, hagg]
  simp only [Result.andThen, if_true, Sem.run_bind, hsz, hl]
  rfl
theorem load_tab (T n : Nat) (w : World) (b : Nat) (cs : List Value) (hagg : (isAgg T).run Tryz.prog w = .ok true w) (hsz : (sizeOf T).run Tryz.prog w = .ok n w) (hn : cs.length = n) (h : TabAt w b cs) : (loadVar T ⟨b, 0, none⟩).run Tryz.prog w = .ok (.agg cs.toArray) w :=
  load_cells T n w b 0 cs hagg hsz hn (fun j v hv => by rw [Nat.zero_add]; exact h j v hv)

def WV : Array Value := (words.map sv).toArray
theorem wx0 (w : World) : (Instr.index 161 (.agg WV) (.int .i64 0)).run Tryz.prog w = .ok (sv (words.getD 0 [])) w := by kernel_rfl
theorem wx1 (w : World) : (Instr.index 161 (.agg WV) (.int .i64 1)).run Tryz.prog w = .ok (sv (words.getD 1 [])) w := by kernel_rfl
theorem wx2 (w : World) : (Instr.index 161 (.agg WV) (.int .i64 2)).run Tryz.prog w = .ok (sv (words.getD 2 [])) w := by kernel_rfl
theorem wx3 (w : World) : (Instr.index 161 (.agg WV) (.int .i64 3)).run Tryz.prog w = .ok (sv (words.getD 3 [])) w := by kernel_rfl
theorem wx4 (w : World) : (Instr.index 161 (.agg WV) (.int .i64 4)).run Tryz.prog w = .ok (sv (words.getD 4 [])) w := by kernel_rfl
theorem wx5 (w : World) : (Instr.index 161 (.agg WV) (.int .i64 5)).run Tryz.prog w = .ok (sv (words.getD 5 [])) w := by kernel_rfl
theorem wx6 (w : World) : (Instr.index 161 (.agg WV) (.int .i64 6)).run Tryz.prog w = .ok (sv (words.getD 6 [])) w := by kernel_rfl
theorem wx7 (w : World) : (Instr.index 161 (.agg WV) (.int .i64 7)).run Tryz.prog w = .ok (sv (words.getD 7 [])) w := by kernel_rfl
theorem wx8 (w : World) : (Instr.index 161 (.agg WV) (.int .i64 8)).run Tryz.prog w = .ok (sv (words.getD 8 [])) w := by kernel_rfl
theorem wx9 (w : World) : (Instr.index 161 (.agg WV) (.int .i64 9)).run Tryz.prog w = .ok (sv (words.getD 9 [])) w := by kernel_rfl
theorem wx10 (w : World) : (Instr.index 161 (.agg WV) (.int .i64 10)).run Tryz.prog w = .ok (sv (words.getD 10 [])) w := by kernel_rfl
theorem wx11 (w : World) : (Instr.index 161 (.agg WV) (.int .i64 11)).run Tryz.prog w = .ok (sv (words.getD 11 [])) w := by kernel_rfl
theorem wx12 (w : World) : (Instr.index 161 (.agg WV) (.int .i64 12)).run Tryz.prog w = .ok (sv (words.getD 12 [])) w := by kernel_rfl
theorem wx13 (w : World) : (Instr.index 161 (.agg WV) (.int .i64 13)).run Tryz.prog w = .ok (sv (words.getD 13 [])) w := by kernel_rfl
theorem wx14 (w : World) : (Instr.index 161 (.agg WV) (.int .i64 14)).run Tryz.prog w = .ok (sv (words.getD 14 [])) w := by kernel_rfl
theorem wx15 (w : World) : (Instr.index 161 (.agg WV) (.int .i64 15)).run Tryz.prog w = .ok (sv (words.getD 15 [])) w := by kernel_rfl
theorem wx16 (w : World) : (Instr.index 161 (.agg WV) (.int .i64 16)).run Tryz.prog w = .ok (sv (words.getD 16 [])) w := by kernel_rfl
theorem wx17 (w : World) : (Instr.index 161 (.agg WV) (.int .i64 17)).run Tryz.prog w = .ok (sv (words.getD 17 [])) w := by kernel_rfl
theorem wx18 (w : World) : (Instr.index 161 (.agg WV) (.int .i64 18)).run Tryz.prog w = .ok (sv (words.getD 18 [])) w := by kernel_rfl
theorem wx19 (w : World) : (Instr.index 161 (.agg WV) (.int .i64 19)).run Tryz.prog w = .ok (sv (words.getD 19 [])) w := by kernel_rfl
theorem wx20 (w : World) : (Instr.index 161 (.agg WV) (.int .i64 20)).run Tryz.prog w = .ok (sv (words.getD 20 [])) w := by kernel_rfl
theorem index_words (k : Nat) (hk : k < 21) (w : World) : (Instr.index 161 (.agg WV) (.int .i64 k)).run Tryz.prog w = .ok (sv (words.getD k [])) w := by
  match k, hk with
  | 0, _ => exact wx0 w
  | 1, _ => exact wx1 w
  | 2, _ => exact wx2 w
  | 3, _ => exact wx3 w
  | 4, _ => exact wx4 w
  | 5, _ => exact wx5 w
  | 6, _ => exact wx6 w
  | 7, _ => exact wx7 w
  | 8, _ => exact wx8 w
  | 9, _ => exact wx9 w
  | 10, _ => exact wx10 w
  | 11, _ => exact wx11 w
  | 12, _ => exact wx12 w
  | 13, _ => exact wx13 w
  | 14, _ => exact wx14 w
  | 15, _ => exact wx15 w
  | 16, _ => exact wx16 w
  | 17, _ => exact wx17 w
  | 18, _ => exact wx18 w
  | 19, _ => exact wx19 w
  | 20, _ => exact wx20 w
  | k + 21, h => omega
theorem kw_yes (k : Nat) (h : k < 21) : kw (words.getD k []) = true := by
  have : ∀ k : Fin 21, kw (words.getD k.val []) = true := by decide
  exact this ⟨k, h⟩
theorem kw_no (s : Str) (h : ∀ j, j < 21 → words.getD j [] ≠ s) : kw s = false := by
  rw [Bool.eq_false_iff]
  intro hk
  simp only [kw, List.any_eq_true, beq_iff_eq] at hk
  obtain ⟨x, hx, rfl⟩ := hk
  obtain ⟨j, hj, rfl⟩ := List.mem_iff_getElem.1 hx
  exact h j hj (by rw [List.getD_eq_getElem?_getD, List.getElem?_eq_getElem hj]; rfl)

set_option maxRecDepth 100000 in
set_option maxHeartbeats 1000000 in
theorem isWordP_any (s : ByteArray) (w : World) (ht : Tabs w) : Calls Tryz.prog 93 #[.string s] w fun e w' => e = .returned (.bool (kw (bs s))) ∧ w' = w := by
  have hl : (loadVar 161 ⟨6, 0, none⟩).run Tryz.prog w = .ok (.agg WV) w := load_tab 161 21 w 6 _ (by kernel_rfl) (by kernel_rfl) (by decide) ht.words
  clear ht
  go_enter Tryz.func93, Tryz.ntmps93
  go_wp2_with (refine wpList_load_eq rfl 161 (.global 6) rfl ⟨6, 0, none⟩ rfl (.agg WV) hl ?_; clear hl)
  go_loop [6] (fun i => ∃ k : Nat, k ≤ 21 ∧ i = .int .i64 k ∧ Hid (∀ j, j < k → words.getD j [] ≠ bs s)) (fun i => 21 - (intOf i).toNat)
  case atStart => exact ⟨0, by omega, rfl, fun j hj => absurd hj (by omega)⟩
  case round =>
    obtain ⟨k, hk, rfl, hr⟩ := hrel
    by_cases hlt : k < 21
    · obtain ⟨mb, hmb⟩ : ∃ mb : ByteArray, mb = ⟨(words.getD k []).toArray⟩ := ⟨_, rfl⟩
      have hix : ∀ w, (Instr.index 161 (.agg WV) (.int .i64 k)).run Tryz.prog w = .ok (.string mb) w := by
        intro w; rw [hmb]; exact index_words k hlt w
      have HMB : Hid (bs mb = words.getD k []) := by
        show _ = _; rw [hmb]
      clear hmb
      by_cases heq : bs mb = bs s
      · have h1 := str_yes mb s heq
        have H : Hid (kw (bs s) = true) := by rw [Hid, ← heq, HMB.out]; exact kw_yes k hlt
        clear heq
        go_wp2
        go_ret
        exact ⟨ret_bool H.out.symm, rfl⟩
      · have h1 := str_no mb s heq
        have H : Hid (∀ j, j < k + 1 → words.getD j [] ≠ bs s) := by
          intro j hjk
          by_cases e : j = k
          · subst e; rw [← HMB.out]; exact heq
          · exact hr.out j (by omega)
        clear heq
        go_wp2
        go_round
        case rel => exact ⟨k + 1, by omega, by go_num, H⟩
        case measure => simp [intOf]; omega
    · have H : Hid (kw (bs s) = false) := kw_no _ (fun j hj => hr.out j (by omega))
      go_wp2
      go_ret
      exact ⟨ret_bool H.out.symm, rfl⟩

def KV : Array Value := (kindsL.map sv).toArray
theorem kx0 (w : World) : (Instr.index 163 (.agg KV) (.int .i64 0)).run Tryz.prog w = .ok (sv (kindsL.getD 0 [])) w := by kernel_rfl
theorem kx1 (w : World) : (Instr.index 163 (.agg KV) (.int .i64 1)).run Tryz.prog w = .ok (sv (kindsL.getD 1 [])) w := by kernel_rfl
theorem kx2 (w : World) : (Instr.index 163 (.agg KV) (.int .i64 2)).run Tryz.prog w = .ok (sv (kindsL.getD 2 [])) w := by kernel_rfl
theorem kx3 (w : World) : (Instr.index 163 (.agg KV) (.int .i64 3)).run Tryz.prog w = .ok (sv (kindsL.getD 3 [])) w := by kernel_rfl
theorem index_kinds (k : Nat) (hk : k < 4) (w : World) : (Instr.index 163 (.agg KV) (.int .i64 k)).run Tryz.prog w = .ok (sv (kindsL.getD k [])) w := by
  match k, hk with
  | 0, _ => exact kx0 w
  | 1, _ => exact kx1 w
  | 2, _ => exact kx2 w
  | 3, _ => exact kx3 w
  | k + 4, h => omega
theorem kindOf_at (k : Nat) (h : k < 4) : kindOf (kindsL.getD k []) = k := by
  have : ∀ k : Fin 4, kindOf (kindsL.getD k.val []) = k.val := by decide
  exact this ⟨k, h⟩
theorem kindOf_none (s : Str) (h : ∀ j, j < 4 → kindsL.getD j [] ≠ s) : kindOf s = 0 := by
  unfold kindOf
  rw [if_neg (fun e => h 1 (by omega) e.symm), if_neg (fun e => h 2 (by omega) e.symm), if_neg (fun e => h 3 (by omega) e.symm)]

set_option maxRecDepth 100000 in
set_option maxHeartbeats 1000000 in
theorem kindOf_any (s : ByteArray) (w : World) (ht : Tabs w) : Calls Tryz.prog 61 #[.string s] w fun e w' => e = .returned (.int .i64 (kindOf (bs s) : Nat)) ∧ w' = w := by
  have hl : (loadVar 163 ⟨2, 0, none⟩).run Tryz.prog w = .ok (.agg KV) w := load_tab 163 4 w 2 _ (by kernel_rfl) (by kernel_rfl) (by decide) ht.kinds
  clear ht
  go_enter Tryz.func61, Tryz.ntmps61
  go_wp2_with (refine wpList_load_eq rfl 163 (.global 2) rfl ⟨2, 0, none⟩ rfl (.agg KV) hl ?_; clear hl)
  go_loop [6] (fun i => ∃ k : Nat, k ≤ 4 ∧ i = .int .i64 k ∧ Hid (∀ j, j < k → kindsL.getD j [] ≠ bs s)) (fun i => 4 - (intOf i).toNat)
  case atStart => exact ⟨0, by omega, rfl, fun j hj => absurd hj (by omega)⟩
  case round =>
    obtain ⟨k, hk, rfl, hr⟩ := hrel
    by_cases hlt : k < 4
    · obtain ⟨mb, hmb⟩ : ∃ mb : ByteArray, mb = ⟨(kindsL.getD k []).toArray⟩ := ⟨_, rfl⟩
      have hix : ∀ w, (Instr.index 163 (.agg KV) (.int .i64 k)).run Tryz.prog w = .ok (.string mb) w := by
        intro w; rw [hmb]; exact index_kinds k hlt w
      have HMB : Hid (bs mb = kindsL.getD k []) := by
        show _ = _; rw [hmb]
      clear hmb
      by_cases heq : bs mb = bs s
      · have h1 := str_yes mb s heq
        have H : Hid (kindOf (bs s) = k) := by rw [Hid, ← heq, HMB.out]; exact kindOf_at k hlt
        clear heq
        go_wp2
        go_ret
        exact ⟨ret_int (by rw [H.out]), rfl⟩
      · have h1 := str_no mb s heq
        have H : Hid (∀ j, j < k + 1 → kindsL.getD j [] ≠ bs s) := by
          intro j hjk
          by_cases e : j = k
          · subst e; rw [← HMB.out]; exact heq
          · exact hr.out j (by omega)
        clear heq
        go_wp2
        go_round
        case rel => exact ⟨k + 1, by omega, by go_num, H⟩
        case measure => simp [intOf]; omega
    · have H : Hid (kindOf (bs s) = 0) := kindOf_none _ (fun j hj => hr.out j (by omega))
      go_wp2
      go_ret
      exact ⟨ret_int (by rw [H.out]; rfl), rfl⟩

def LV : Array Value := (leadsL.map sv).toArray
theorem lx0 (w : World) : (Instr.index 226 (.agg LV) (.int .i64 0)).run Tryz.prog w = .ok (sv (leadsL.getD 0 [])) w := by kernel_rfl
theorem lx1 (w : World) : (Instr.index 226 (.agg LV) (.int .i64 1)).run Tryz.prog w = .ok (sv (leadsL.getD 1 [])) w := by kernel_rfl
theorem lx2 (w : World) : (Instr.index 226 (.agg LV) (.int .i64 2)).run Tryz.prog w = .ok (sv (leadsL.getD 2 [])) w := by kernel_rfl
theorem index_leads (k : Nat) (hk : k < 3) (w : World) : (Instr.index 226 (.agg LV) (.int .i64 k)).run Tryz.prog w = .ok (sv (leadsL.getD k [])) w := by
  match k, hk with
  | 0, _ => exact lx0 w
  | 1, _ => exact lx1 w
  | 2, _ => exact lx2 w
  | k + 3, h => omega
theorem leadOf_at (k : Nat) (h : k < 3) : leadOf (leadsL.getD k []) = some k := by
  have : ∀ k : Fin 3, leadOf (leadsL.getD k.val []) = some k.val := by decide
  exact this ⟨k, h⟩
theorem leadOf_none (s : Str) (h : ∀ j, j < 3 → leadsL.getD j [] ≠ s) : leadOf s = none := by
  unfold leadOf
  rw [if_neg (fun e => h 0 (by omega) e.symm), if_neg (fun e => h 1 (by omega) e.symm), if_neg (fun e => h 2 (by omega) e.symm)]
/-- the kind of a way, and whether there is one, as two values -/
def leadV : Option Nat → Value
  | some k => .tuple #[.int .i64 k, .bool true]
  | none => .tuple #[.int .i64 0, .bool false]
set_option maxRecDepth 100000 in
set_option maxHeartbeats 1000000 in
theorem leadOf_any (s : ByteArray) (w : World) (ht : Tabs w) : Calls Tryz.prog 134 #[.string s] w fun e w' => e = .returned (leadV (leadOf (bs s))) ∧ w' = w := by
  have hl : (loadVar 226 ⟨9, 0, none⟩).run Tryz.prog w = .ok (.agg LV) w := load_tab 226 3 w 9 _ (by kernel_rfl) (by kernel_rfl) (by decide) ht.leads
  clear ht
  go_enter Tryz.func134, Tryz.ntmps134
  go_wp2_with (refine wpList_load_eq rfl 226 (.global 9) rfl ⟨9, 0, none⟩ rfl (.agg LV) hl ?_; clear hl)
  go_loop [7] (fun i => ∃ k : Nat, k ≤ 3 ∧ i = .int .i64 k ∧ Hid (∀ j, j < k → leadsL.getD j [] ≠ bs s)) (fun i => 3 - (intOf i).toNat)
  case atStart => exact ⟨0, by omega, rfl, fun j hj => absurd hj (by omega)⟩
  case round =>
    obtain ⟨k, hk, rfl, hr⟩ := hrel
    by_cases hlt : k < 3
    · obtain ⟨mb, hmb⟩ : ∃ mb : ByteArray, mb = ⟨(leadsL.getD k []).toArray⟩ := ⟨_, rfl⟩
      have hix : ∀ w, (Instr.index 226 (.agg LV) (.int .i64 k)).run Tryz.prog w = .ok (.string mb) w := by
        intro w; rw [hmb]; exact index_leads k hlt w
      have HMB : Hid (bs mb = leadsL.getD k []) := by
        show _ = _; rw [hmb]
      clear hmb
      by_cases heq : bs mb = bs s
      · have h1 := str_yes mb s heq
        have H : Hid (leadOf (bs s) = some k) := by rw [Hid, ← heq, HMB.out]; exact leadOf_at k hlt
        clear heq
        go_wp2
        go_ret2
        exact ⟨by rw [H.out]; rfl, rfl⟩
      · have h1 := str_no mb s heq
        have H : Hid (∀ j, j < k + 1 → leadsL.getD j [] ≠ bs s) := by
          intro j hjk
          by_cases e : j = k
          · subst e; rw [← HMB.out]; exact heq
          · exact hr.out j (by omega)
        clear heq
        go_wp2
        go_round
        case rel => exact ⟨k + 1, by omega, by go_num, H⟩
        case measure => simp [intOf]; omega
    · have H : Hid (leadOf (bs s) = none) := leadOf_none _ (fun j hj => hr.out j (by omega))
      go_wp2
      go_ret2
      exact ⟨by rw [H.out]; rfl, rfl⟩

def AV : Array Value := (aheadL.flatMap signC).toArray
theorem ax0 (w : World) : (Instr.index 236 (.agg AV) (.int .i64 0)).run Tryz.prog w = .ok (.agg (signC (aheadL.getD 0 ([], 0))).toArray) w := by kernel_rfl
theorem ax1 (w : World) : (Instr.index 236 (.agg AV) (.int .i64 1)).run Tryz.prog w = .ok (.agg (signC (aheadL.getD 1 ([], 0))).toArray) w := by kernel_rfl
theorem index_ahead (k : Nat) (hk : k < 2) (w : World) : (Instr.index 236 (.agg AV) (.int .i64 k)).run Tryz.prog w = .ok (.agg (signC (aheadL.getD k ([], 0))).toArray) w := by
  match k, hk with
  | 0, _ => exact ax0 w
  | 1, _ => exact ax1 w
  | k + 2, h => omega
theorem codeAhead_at (k : Nat) (h : k < 2) : codeAhead (aheadL.getD k ([], 0)).1 = (aheadL.getD k ([], 0)).2 := by
  have : ∀ k : Fin 2, codeAhead (aheadL.getD k.val ([], 0)).1 = (aheadL.getD k.val ([], 0)).2 := by decide
  exact this ⟨k, h⟩
theorem codeAhead_none (s : Str) (h : ∀ j, j < 2 → (aheadL.getD j ([], 0)).1 ≠ s) : codeAhead s = 0 := by
  unfold codeAhead
  rw [if_neg (fun e => h 0 (by omega) e.symm), if_neg (fun e => h 1 (by omega) e.symm)]
set_option maxRecDepth 100000 in
set_option maxHeartbeats 1000000 in
theorem codeAhead_any (s : ByteArray) (w : World) (ht : Tabs w) : Calls Tryz.prog 161 #[.string s] w fun e w' => e = .returned (.int .i64 (codeAhead (bs s) : Nat)) ∧ Below w.heap.size w w' := by
  have hl : (loadVar 236 ⟨11, 0, none⟩).run Tryz.prog w = .ok (.agg AV) w := load_tab 236 4 w 11 _ (by kernel_rfl) (by kernel_rfl) (by decide) ht.ahead
  clear ht
  go_enter Tryz.func161, Tryz.ntmps161
  go_wp2_with (refine wpList_load_eq rfl 236 (.global 11) rfl ⟨11, 0, none⟩ rfl (.agg AV) hl ?_; clear hl)
  go_loopg [6] 2 (fun g i wr => ∃ k : Nat, g = 2 - k ∧ k ≤ 2 ∧ i = .int .i64 k ∧ Hid (∀ j, j < k → (aheadL.getD j ([], 0)).1 ≠ bs s) ∧ Below w.heap.size w wr)
  case atStart => exact ⟨0, by omega, by omega, rfl, fun j hj => absurd hj (by omega), Below.refl _ _⟩
  case round =>
    obtain ⟨k, rfl, hk, rfl, hr, hbw⟩ := hrel
    have hwb := hbw.size
    by_cases hlt : k < 2
    · obtain ⟨mb, c, hmb, hc⟩ : ∃ (mb : ByteArray) (c : Nat), mb = ⟨(aheadL.getD k ([], 0)).1.toArray⟩ ∧ c = (aheadL.getD k ([], 0)).2 := ⟨_, _, rfl, rfl⟩
      have hix : ∀ w, (Instr.index 236 (.agg AV) (.int .i64 k)).run Tryz.prog w = .ok (.agg #[.string mb, .int .i64 c]) w := by
        intro w; rw [hmb, hc]; exact index_ahead k hlt w
      have HMB : Hid (bs mb = (aheadL.getD k ([], 0)).1) := by
        show _ = _; rw [hmb]
      have HC : Hid (c = (aheadL.getD k ([], 0)).2) := hc
      clear hmb hc
      by_cases heq : bs mb = bs s
      · have h1 := str_yes mb s heq
        have H : Hid (codeAhead (bs s) = c) := by rw [Hid, ← heq, HMB.out, HC.out]; exact codeAhead_at k hlt
        clear heq
        go_wp2
        go_ret
        exact ⟨ret_int (by rw [H.out]), hbw.alloc hwb _⟩
      · have h1 := str_no mb s heq
        have H : Hid (∀ j, j < k + 1 → (aheadL.getD j ([], 0)).1 ≠ bs s) := by
          intro j hjk
          by_cases e : j = k
          · subst e; rw [← HMB.out]; exact heq
          · exact hr.out j (by omega)
        clear heq
        go_wp2
        go_roundg (2 - (k + 1))
        case measure => omega
        case rel => exact ⟨k + 1, rfl, by omega, by go_num, H, hbw.alloc hwb _⟩
    · have H : Hid (codeAhead (bs s) = 0) := codeAhead_none _ (fun j hj => hr.out j (by omega))
      go_wp2
      go_ret
      exact ⟨ret_int (by rw [H.out]; rfl), hbw⟩

/-- a row of signs between two -/
def BV (t : Nat) : Array Value := ((betweenL.getD t []).flatMap signC).toArray
def sgn (t k : Nat) : Str × Nat := (betweenL.getD t []).getD k ([], 0)
theorem bx00 (w : World) : (Instr.index 234 (.agg (BV 0)) (.int .i64 0)).run Tryz.prog w = .ok (.agg #[sv (sgn 0 0).1, .int .i64 (sgn 0 0).2]) w := by kernel_rfl
theorem bx01 (w : World) : (Instr.index 234 (.agg (BV 0)) (.int .i64 1)).run Tryz.prog w = .ok (.agg #[sv (sgn 0 1).1, .int .i64 (sgn 0 1).2]) w := by kernel_rfl
theorem bx02 (w : World) : (Instr.index 234 (.agg (BV 0)) (.int .i64 2)).run Tryz.prog w = .ok (.agg #[sv (sgn 0 2).1, .int .i64 (sgn 0 2).2]) w := by kernel_rfl
theorem bx03 (w : World) : (Instr.index 234 (.agg (BV 0)) (.int .i64 3)).run Tryz.prog w = .ok (.agg #[sv (sgn 0 3).1, .int .i64 (sgn 0 3).2]) w := by kernel_rfl
theorem bx10 (w : World) : (Instr.index 234 (.agg (BV 1)) (.int .i64 0)).run Tryz.prog w = .ok (.agg #[sv (sgn 1 0).1, .int .i64 (sgn 1 0).2]) w := by kernel_rfl
theorem bx11 (w : World) : (Instr.index 234 (.agg (BV 1)) (.int .i64 1)).run Tryz.prog w = .ok (.agg #[sv (sgn 1 1).1, .int .i64 (sgn 1 1).2]) w := by kernel_rfl
theorem bx12 (w : World) : (Instr.index 234 (.agg (BV 1)) (.int .i64 2)).run Tryz.prog w = .ok (.agg #[sv (sgn 1 2).1, .int .i64 (sgn 1 2).2]) w := by kernel_rfl
theorem bx13 (w : World) : (Instr.index 234 (.agg (BV 1)) (.int .i64 3)).run Tryz.prog w = .ok (.agg #[sv (sgn 1 3).1, .int .i64 (sgn 1 3).2]) w := by kernel_rfl
theorem bx20 (w : World) : (Instr.index 234 (.agg (BV 2)) (.int .i64 0)).run Tryz.prog w = .ok (.agg #[sv (sgn 2 0).1, .int .i64 (sgn 2 0).2]) w := by kernel_rfl
theorem bx21 (w : World) : (Instr.index 234 (.agg (BV 2)) (.int .i64 1)).run Tryz.prog w = .ok (.agg #[sv (sgn 2 1).1, .int .i64 (sgn 2 1).2]) w := by kernel_rfl
theorem bx22 (w : World) : (Instr.index 234 (.agg (BV 2)) (.int .i64 2)).run Tryz.prog w = .ok (.agg #[sv (sgn 2 2).1, .int .i64 (sgn 2 2).2]) w := by kernel_rfl
theorem bx23 (w : World) : (Instr.index 234 (.agg (BV 2)) (.int .i64 3)).run Tryz.prog w = .ok (.agg #[sv (sgn 2 3).1, .int .i64 (sgn 2 3).2]) w := by kernel_rfl
theorem bx30 (w : World) : (Instr.index 234 (.agg (BV 3)) (.int .i64 0)).run Tryz.prog w = .ok (.agg #[sv (sgn 3 0).1, .int .i64 (sgn 3 0).2]) w := by kernel_rfl
theorem bx31 (w : World) : (Instr.index 234 (.agg (BV 3)) (.int .i64 1)).run Tryz.prog w = .ok (.agg #[sv (sgn 3 1).1, .int .i64 (sgn 3 1).2]) w := by kernel_rfl
theorem bx32 (w : World) : (Instr.index 234 (.agg (BV 3)) (.int .i64 2)).run Tryz.prog w = .ok (.agg #[sv (sgn 3 2).1, .int .i64 (sgn 3 2).2]) w := by kernel_rfl
theorem bx33 (w : World) : (Instr.index 234 (.agg (BV 3)) (.int .i64 3)).run Tryz.prog w = .ok (.agg #[sv (sgn 3 3).1, .int .i64 (sgn 3 3).2]) w := by kernel_rfl
theorem bx40 (w : World) : (Instr.index 234 (.agg (BV 4)) (.int .i64 0)).run Tryz.prog w = .ok (.agg #[sv (sgn 4 0).1, .int .i64 (sgn 4 0).2]) w := by kernel_rfl
theorem bx41 (w : World) : (Instr.index 234 (.agg (BV 4)) (.int .i64 1)).run Tryz.prog w = .ok (.agg #[sv (sgn 4 1).1, .int .i64 (sgn 4 1).2]) w := by kernel_rfl
theorem bx42 (w : World) : (Instr.index 234 (.agg (BV 4)) (.int .i64 2)).run Tryz.prog w = .ok (.agg #[sv (sgn 4 2).1, .int .i64 (sgn 4 2).2]) w := by kernel_rfl
theorem bx43 (w : World) : (Instr.index 234 (.agg (BV 4)) (.int .i64 3)).run Tryz.prog w = .ok (.agg #[sv (sgn 4 3).1, .int .i64 (sgn 4 3).2]) w := by kernel_rfl
theorem index_row (t k : Nat) (ht : t < 5) (hk : k < 4) (w : World) : (Instr.index 234 (.agg (BV t)) (.int .i64 k)).run Tryz.prog w = .ok (.agg #[sv (sgn t k).1, .int .i64 (sgn t k).2]) w := by
  match t, ht, k, hk with
  | 0, _, 0, _ => exact bx00 w
  | 0, _, 1, _ => exact bx01 w
  | 0, _, 2, _ => exact bx02 w
  | 0, _, 3, _ => exact bx03 w
  | 1, _, 0, _ => exact bx10 w
  | 1, _, 1, _ => exact bx11 w
  | 1, _, 2, _ => exact bx12 w
  | 1, _, 3, _ => exact bx13 w
  | 2, _, 0, _ => exact bx20 w
  | 2, _, 1, _ => exact bx21 w
  | 2, _, 2, _ => exact bx22 w
  | 2, _, 3, _ => exact bx23 w
  | 3, _, 0, _ => exact bx30 w
  | 3, _, 1, _ => exact bx31 w
  | 3, _, 2, _ => exact bx32 w
  | 3, _, 3, _ => exact bx33 w
  | 4, _, 0, _ => exact bx40 w
  | 4, _, 1, _ => exact bx41 w
  | 4, _, 2, _ => exact bx42 w
  | 4, _, 3, _ => exact bx43 w
  | t + 5, h, _, _ => omega
  | _, _, k + 4, h => omega
theorem codeAt_at (t k : Nat) (ht : t < 5) (h : k < 4) (h0 : (sgn t k).2 ≠ 0) : codeAt t (sgn t k).1 = (sgn t k).2 := by
  have : ∀ (t : Fin 5) (k : Fin 4), (sgn t.val k.val).2 ≠ 0 → codeAt t.val (sgn t.val k.val).1 = (sgn t.val k.val).2 := by decide
  exact this ⟨t, ht⟩ ⟨k, h⟩ h0
theorem codeIn_none : ∀ (l : List (Str × Nat)) (s : Str), (∀ p ∈ l, p.2 ≠ 0 → p.1 ≠ s) → (∀ p ∈ l, p.2 ≠ 0) → codeIn l s = 0 := by
  intro l
  induction l with
  | nil => intro s _ _; rfl
  | cons p r ih =>
    intro s h h0
    obtain ⟨t, c⟩ := p
    rw [codeIn, if_neg (h (t, c) (by simp) (h0 (t, c) (by simp)))]
    exact ih s (fun p hp => h p (by simp [hp])) (fun p hp => h0 p (by simp [hp]))
theorem signs_pos : ∀ (t : Fin 5) (p : Str × Nat), p ∈ signs.getD t.val [] → p.2 ≠ 0 := by decide
theorem signs_sgn : ∀ (t : Fin 5) (p : Str × Nat), p ∈ signs.getD t.val [] → ∃ k : Fin 4, p = sgn t.val k.val := by decide
theorem codeAt_none (t : Nat) (ht : t < 5) (s : Str) (h : ∀ k, k < 4 → (sgn t k).2 ≠ 0 → (sgn t k).1 ≠ s) : codeAt t s = 0 := by
  refine codeIn_none _ s (fun p hp _ => ?_) (signs_pos ⟨t, ht⟩)
  obtain ⟨k, rfl⟩ := signs_sgn ⟨t, ht⟩ p hp
  exact h k.val k.isLt (signs_pos ⟨t, ht⟩ _ hp)
theorem row_cells (t : Nat) (ht : t < 5) : ∀ j v, ((betweenL.getD t []).flatMap signC)[j]? = some v → (betweenL.flatMap (·.flatMap signC))[t * 8 + j]? = some v := by
  intro j v hv
  have hj : j < 8 := by
    have := (List.getElem?_eq_some_iff.1 hv).1
    have e : ∀ t : Fin 5, ((betweenL.getD t.val []).flatMap signC).length = 8 := by decide
    rw [e ⟨t, ht⟩] at this; exact this
  rw [← hv]
  match t, ht, j, hj with
  | 0, _, 0, _ => rfl
  | 0, _, 1, _ => rfl
  | 0, _, 2, _ => rfl
  | 0, _, 3, _ => rfl
  | 0, _, 4, _ => rfl
  | 0, _, 5, _ => rfl
  | 0, _, 6, _ => rfl
  | 0, _, 7, _ => rfl
  | 1, _, 0, _ => rfl
  | 1, _, 1, _ => rfl
  | 1, _, 2, _ => rfl
  | 1, _, 3, _ => rfl
  | 1, _, 4, _ => rfl
  | 1, _, 5, _ => rfl
  | 1, _, 6, _ => rfl
  | 1, _, 7, _ => rfl
  | 2, _, 0, _ => rfl
  | 2, _, 1, _ => rfl
  | 2, _, 2, _ => rfl
  | 2, _, 3, _ => rfl
  | 2, _, 4, _ => rfl
  | 2, _, 5, _ => rfl
  | 2, _, 6, _ => rfl
  | 2, _, 7, _ => rfl
  | 3, _, 0, _ => rfl
  | 3, _, 1, _ => rfl
  | 3, _, 2, _ => rfl
  | 3, _, 3, _ => rfl
  | 3, _, 4, _ => rfl
  | 3, _, 5, _ => rfl
  | 3, _, 6, _ => rfl
  | 3, _, 7, _ => rfl
  | 4, _, 0, _ => rfl
  | 4, _, 1, _ => rfl
  | 4, _, 2, _ => rfl
  | 4, _, 3, _ => rfl
  | 4, _, 4, _ => rfl
  | 4, _, 5, _ => rfl
  | 4, _, 6, _ => rfl
  | 4, _, 7, _ => rfl
  | t + 5, h, _, _ => omega
  | _, _, j + 8, h => omega
set_option maxRecDepth 100000 in
theorem load_row {w : World} (h : Tabs w) (t : Nat) (ht : t < 5) : (loadVar 234 ⟨10, t * 8, none⟩).run Tryz.prog w = .ok (.agg (BV t)) w :=
  load_cells 234 8 w 10 (t * 8) _ (by kernel_rfl) (by kernel_rfl) (by { have e : ∀ t : Fin 5, ((betweenL.getD t.val []).flatMap signC).length = 8 := (by decide); exact e ⟨t, ht⟩ }) (fun j v hv => h.between _ v (row_cells t ht j v hv))
set_option maxRecDepth 100000 in
set_option maxHeartbeats 2000000 in
theorem codeBetween_any (s : ByteArray) (t : Nat) (ht5 : t < 5) (w : World) (ht : Tabs w) : Calls Tryz.prog 160 #[.string s, .int .i64 t] w fun e w' => e = .returned (.int .i64 (codeAt t (bs s) : Nat)) ∧ Below w.heap.size w w' := by
  have hl := load_row ht t ht5
  have hcl : ∀ B : List Value, B = betweenL.flatMap (·.flatMap signC) → True := fun _ _ => trivial
  clear ht hcl
  go_enter Tryz.func160, Tryz.ntmps160
  go_wp2_with (refine wpList_load_eq rfl 234 (.tmp 8) rfl ⟨10, t * 8, none⟩ rfl (.agg (BV t)) hl ?_; clear hl)
  go_loopg [10] 4 (fun g i wr => ∃ k : Nat, g = 4 - k ∧ k ≤ 4 ∧ i = .int .i64 k ∧ Hid (∀ j, j < k → (sgn t j).2 ≠ 0 → (sgn t j).1 ≠ bs s) ∧ Below w.heap.size w wr)
  case atStart => exact ⟨0, by omega, by omega, rfl, fun j hj => absurd hj (by omega), Below.refl _ _⟩
  case round =>
    obtain ⟨k, rfl, hk, rfl, hr, hbw⟩ := hrel
    have hwb := hbw.size
    by_cases hlt : k < 4
    · obtain ⟨mb, c, hmb, hc⟩ : ∃ (mb : ByteArray) (c : Nat), mb = ⟨(sgn t k).1.toArray⟩ ∧ c = (sgn t k).2 := ⟨_, _, rfl, rfl⟩
      have hix : ∀ w, (Instr.index 234 (.agg (BV t)) (.int .i64 k)).run Tryz.prog w = .ok (.agg #[.string mb, .int .i64 c]) w := by
        intro w; rw [hmb, hc]; exact index_row t k ht5 hlt w
      have HMB : Hid (bs mb = (sgn t k).1) := by
        show _ = _; rw [hmb]
      have HC : Hid (c = (sgn t k).2) := hc
      clear hmb hc
      by_cases hc0 : c = 0
      · subst hc0
        have H : Hid (∀ j, j < k + 1 → (sgn t j).2 ≠ 0 → (sgn t j).1 ≠ bs s) := by
          intro j hjk
          by_cases e : j = k
          · subst e; intro h; exact absurd HC.out.symm h
          · exact hr.out j (by omega)
        go_wp2
        go_roundg (4 - (k + 1))
        case measure => omega
        case rel => exact ⟨k + 1, rfl, by omega, by go_num, H, hbw.alloc hwb _⟩
      · have hc1 : ¬ (c : Int) = 0 := by omega
        have hc2 : ((c : Int) != 0) = true := by simpa using hc1
        by_cases heq : bs mb = bs s
        · have h1 := str_yes mb s heq
          have H : Hid (codeAt t (bs s) = c) := by rw [Hid, ← heq, HMB.out, HC.out]; exact codeAt_at t k ht5 hlt (by rw [← HC.out]; exact hc0)
          clear heq
          go_wp2
          go_ret
          exact ⟨ret_int (by rw [H.out]), hbw.alloc hwb _⟩
        · have h1 := str_no mb s heq
          have H : Hid (∀ j, j < k + 1 → (sgn t j).2 ≠ 0 → (sgn t j).1 ≠ bs s) := by
            intro j hjk
            by_cases e : j = k
            · subst e; intro _; rw [← HMB.out]; exact heq
            · exact hr.out j (by omega)
          clear heq
          go_wp2
          go_roundg (4 - (k + 1))
          case measure => omega
          case rel => exact ⟨k + 1, rfl, by omega, by go_num, H, hbw.alloc hwb _⟩
    · have H : Hid (codeAt t (bs s) = 0) := codeAt_none t ht5 _ (fun j hj => hr.out j (by omega))
      go_wp2
      go_ret
      exact ⟨ret_int (by rw [H.out]; rfl), hbw⟩
end Go.Proofs.YtiihgnagjemikaaGreatDoor
/- The reader of package parse: text, throw, bound, take, need, name. -/
namespace Go.Proofs.YtiihgnagjemikaaGreatDoor
open Go.RowKit Px

/-- where the reader lies, and the tokens -/
structure Ctx where
  rb : Nat
  g : Nat
  cap : Nat
  L : List Lx.Tok
/-- what is known of a list of tokens -/
structure Wf (L : List Lx.Tok) : Prop where
  pos : 0 < L.length
  len : L.length ≤ 601
  endk : kd L (L.length - 1) = 4
  endt : tx L (L.length - 1) = []
  num : ∀ k, kd L k = 2 → (∀ c ∈ tx L k, 48 ≤ c.toNat ∧ c.toNat ≤ 57) ∧ (tx L k).length ≤ 18 ∧ tx L k ≠ []
theorem Wf.next {L : List Lx.Tok} (h : Wf L) {i : Nat} (hi : i < L.length) (ht : tx L i ≠ []) : i + 1 < L.length := by
  rcases Nat.lt_or_ge (i + 1) L.length with h' | h'
  · exact h'
  · have : i = L.length - 1 := by omega
    rw [this] at ht; exact absurd h.endt ht
theorem Wf.nextk {L : List Lx.Tok} (h : Wf L) {i : Nat} (hi : i < L.length) (ht : kd L i ≠ 4) : i + 1 < L.length := by
  rcases Nat.lt_or_ge (i + 1) L.length with h' | h'
  · exact h'
  · have : i = L.length - 1 := by omega
    rw [this] at ht; exact absurd h.endk ht
def rdC (C : Ctx) (i st ins und : Nat) : Obj := .cells #[.slice (some ⟨C.g, 0, none⟩) C.L.length C.cap, .int .i64 i, .int .i64 st, .int .i64 ins, .int .i64 und] 81 (0, 0)
structure PS (C : Ctx) (w : World) (i st ins und : Nat) : Prop where
  rd : w.heap[C.rb]? = some (rdC C i st ins und)
  tk : ∀ k t, C.L[k]? = some t → w.cell? ⟨C.g, k * 3, none⟩ = some (.int .i64 t.kind) ∧ w.cell? ⟨C.g, k * 3 + 1, none⟩ = some (sv t.text) ∧ w.cell? ⟨C.g, k * 3 + 2, none⟩ = some (.int .i64 t.place)
  tab : Tabs w
  lt : i < C.L.length
  wf : Wf C.L
  gr : C.g < C.rb
  hi : 12 < C.g
theorem PS.keep {C : Ctx} {w w' : World} {i st ins und i' st' ins' und' : Nat} (h : PS C w i st ins und) (hf : Fr w.heap.size [C.rb] w w') (hr : w'.heap[C.rb]? = some (rdC C i' st' ins' und')) (hlt : i' < C.L.length) : PS C w' i' st' ins' und' := by
  have hrl := lt_of_block h.rd
  have hgl := Nat.lt_trans h.gr hrl
  have hg : w'.heap[C.g]? = w.heap[C.g]? := hf.block _ hgl (by simp; exact Nat.ne_of_lt h.gr)
  refine ⟨hr, fun k t hk => ?_, h.tab.keep (fun b hb => hf.block b (by have := h.hi; omega) (by have := h.hi; have := h.gr; simp; omega)), hlt, h.wf, h.gr, h.hi⟩
  have := h.tk k t hk
  rw [World.cell?_of_block (w := w) (a := ⟨C.g, k * 3, none⟩) hg, World.cell?_of_block (w := w) (a := ⟨C.g, k * 3 + 1, none⟩) hg, World.cell?_of_block (w := w) (a := ⟨C.g, k * 3 + 2, none⟩) hg]
  exact this
theorem PS.same {C : Ctx} {w w' : World} {i st ins und : Nat} (h : PS C w i st ins und) (hf : Fr w.heap.size [] w w') : PS C w' i st ins und :=
  h.keep (hf.mono (Nat.le_refl _) (by simp)) (by rw [hf.block _ (lt_of_block h.rd) (by simp)]; exact h.rd) h.lt
theorem PS.cells {C : Ctx} {w : World} {i st ins und : Nat} (h : PS C w i st ins und) :
    w.cell? ⟨C.rb, 0, none⟩ = some (.slice (some ⟨C.g, 0, none⟩) C.L.length C.cap) ∧ w.cell? ⟨C.rb, 1, none⟩ = some (.int .i64 i) ∧ w.cell? ⟨C.rb, 2, none⟩ = some (.int .i64 st) ∧ w.cell? ⟨C.rb, 3, none⟩ = some (.int .i64 ins) ∧ w.cell? ⟨C.rb, 4, none⟩ = some (.int .i64 und) := by
  have := h.rd
  refine ⟨?_, ?_, ?_, ?_, ?_⟩ <;> (rw [cell_of_row _ _ _ _ _ _ h.rd]; rfl)
theorem PS.frozen {C : Ctx} {w : World} {i st ins und : Nat} (h : PS C w i st ins und) (o : Nat) : w.frozen? ⟨C.rb, o, none⟩ = false := by
  simp [World.frozen?, h.rd, rdC]
theorem tok_get {L : List Lx.Tok} {i : Nat} (h : i < L.length) : L[i]? = some (tok L i) := by
  rw [tok, List.getD_eq_getElem?_getD, List.getElem?_eq_getElem h]; rfl
theorem PS.now {C : Ctx} {w : World} {i st ins und : Nat} (h : PS C w i st ins und) :
    w.cell? ⟨C.g, i * 3, none⟩ = some (.int .i64 (kd C.L i)) ∧ w.cell? ⟨C.g, i * 3 + 1, none⟩ = some (sv (tx C.L i)) ∧ w.cell? ⟨C.g, i * 3 + 2, none⟩ = some (.int .i64 (pl C.L i)) := h.tk i _ (tok_get h.lt)
/-- a field of the reader is set -/
theorem PS.set {C : Ctx} {w : World} {i st ins und : Nat} (h : PS C w i st ins und) (o : Nat) (v : Value) {i' st' ins' und' : Nat} (he : (#[.slice (some ⟨C.g, 0, none⟩) C.L.length C.cap, .int .i64 i, .int .i64 st, .int .i64 ins, .int .i64 und] : Array Value).setIfInBounds o v = #[.slice (some ⟨C.g, 0, none⟩) C.L.length C.cap, .int .i64 i', .int .i64 st', .int .i64 ins', .int .i64 und']) (hlt : i' < C.L.length) :
    PS C (w.setCell ⟨C.rb, o, none⟩ v) i' st' ins' und' ∧ Fr w.heap.size [C.rb] w (w.setCell ⟨C.rb, o, none⟩ v) := by
  have hf : Fr w.heap.size [C.rb] w (w.setCell ⟨C.rb, o, none⟩ v) := (Fr.refl _ _ _).setCell (.inr (by simp)) v
  refine ⟨h.keep hf ?_ hlt, hf⟩
  rw [heap_setCell_same w C.rb o _ 81 _ h.rd, he]; rfl

/-- thrown: what is wrong, and where -/
def Thrown (C : Ctx) (w : World) (f : F) (e : Ending) (w' : World) : Prop :=
  ∃ q, e = .panicked [{ v := .iface 45 (.pointer (some ⟨q, 0, none⟩)), recovered := false }] ∧ w'.heap[q]? = some (.cells #[.int .i64 f.1, .int .i64 f.2] 48 (0, 0)) ∧ w.heap.size ≤ q ∧ Fr w.heap.size [C.rb] w w'
theorem Thrown.up {C : Ctx} {w w1 w' : World} {f : F} {e : Ending} (hf : Fr w.heap.size [C.rb] w w1) (h : Thrown C w1 f e w') : Thrown C w f e w' := by
  obtain ⟨q, h1, h2, h3, h4⟩ := h
  exact ⟨q, h1, h2, Nat.le_trans hf.size h3, hf.trans (h4.mono hf.size (by simp))⟩
/-- what a call comes to: as the document's grammar has it -/
def Out (C : Ctx) {α : Type} (ok : α → Value → World → Prop) (w : World) (r : Except F α) (e : Ending) (w' : World) : Prop :=
  match r with
  | .error f => Thrown C w f e w'
  | .ok a => ∃ v, e = .returned v ∧ ok a v w' ∧ Fr w.heap.size [C.rb] w w'
theorem Fr.up {X : List Nat} {w w1 w2 : World} (h : Fr w.heap.size X w w1) (k : Fr w1.heap.size X w1 w2) : Fr w.heap.size X w w2 := h.trans (k.mono h.size (fun _ hx _ => hx))

section
variable {C : Ctx} {w : World} {i st ins und : Nat}

set_option maxRecDepth 100000 in
set_option maxHeartbeats 1000000 in
theorem text_any (h : PS C w i st ins und) : Calls Tryz.prog 62 #[.pointer (some ⟨C.rb, 0, none⟩)] w fun e w' => e = .returned (sv (tx C.L i)) ∧ PS C w' i st ins und ∧ Fr w.heap.size [] w w' := by
  obtain ⟨c0, c1, -⟩ := h.cells
  obtain ⟨-, t1, -⟩ := h.now
  have H : Hid _ := h
  have hi0 : (0 : Int) ≤ (i : Int) := Int.natCast_nonneg _
  have hi1 : (i : Int) < (C.L.length : Int) := by have := h.lt; omega
  clear h
  go_enter Tryz.func62, Tryz.ntmps62
  go_wp2
  go_quiet (fail)
  go_wp2
  go_ret
  have hf := (Fr.refl w.heap.size [] w).drewN nq
  exact ⟨rfl, H.out.same hf, hf⟩

set_option maxRecDepth 100000 in
set_option maxHeartbeats 1000000 in
theorem throw_any (h : PS C w i st ins und) (e : Nat) : Calls Tryz.prog 67 #[.pointer (some ⟨C.rb, 0, none⟩), .int .i64 e] w fun en w' => Thrown C w (e, pl C.L i) en w' := by
  obtain ⟨c0, c1, -⟩ := h.cells
  obtain ⟨-, -, t2⟩ := h.now
  have hi0 : (0 : Int) ≤ (i : Int) := Int.natCast_nonneg _
  have hi1 : (i : Int) < (C.L.length : Int) := by have := h.lt; omega
  have hp : ∀ (v : Value) (w : World), (Instr.panic (.iface 45 v)).run Tryz.prog w = .halt (.panic (.iface 45 v)) w := fun _ _ => rfl
  clear h
  go_enter Tryz.func67, Tryz.ntmps67
  go_wp2
  go_still_tail 13, (by kernel_rfl)
  go_wp2
  exact ⟨rfl, _, rfl, heap_alloc_new w _, Nat.le_refl _, ((Fr.refl _ _ _).alloc (Nat.le_refl _) _).drew⟩

theorem bound_ok (many most : Nat) (hm : many < most) : Calls Tryz.prog 63 #[.pointer (some ⟨C.rb, 0, none⟩), .int .i64 many, .int .i64 most] w fun e w' => e = .returned (.tuple #[]) ∧ w' = w := by
  have h1 : ¬ (most : Int) ≤ (many : Int) := by omega
  go_enter Tryz.func63, Tryz.ntmps63
  go_wp2
  go_end0
  exact ⟨rfl, rfl⟩
set_option maxHeartbeats 400000 in
theorem bound_bad (h : PS C w i st ins und) (many most : Nat) (hm : most ≤ many) : Calls Tryz.prog 63 #[.pointer (some ⟨C.rb, 0, none⟩), .int .i64 many, .int .i64 most] w fun e w' => Thrown C w (4, pl C.L i) e w' := by
  have h1 : (most : Int) ≤ (many : Int) := by omega
  go_enter Tryz.func63, Tryz.ntmps63
  go_wp2_with (go_at_call 67; refine (throw_any h 4).mono ?_; rintro e w' ⟨q, rfl, ht⟩)
  exact ⟨rfl, q, rfl, ht⟩

set_option maxRecDepth 100000 in
set_option maxHeartbeats 1000000 in
theorem take_yes (h : PS C w i st ins und) (s : ByteArray) (hs : tx C.L i = bs s) (hne : bs s ≠ []) : Calls Tryz.prog 65 #[.pointer (some ⟨C.rb, 0, none⟩), .string s] w fun e w' => e = .returned (.bool true) ∧ PS C w' (i + 1) st ins und ∧ Fr w.heap.size [C.rb] w w' := by
  have hlt := h.wf.next h.lt (by rw [hs]; exact hne)
  have h6 := h.wf.len
  have heq : (tx C.L i == s.toList) = true := by
    rw [ByteArray.toList_eq]; exact beq_iff_eq.2 hs
  clear hs hne
  go_enter Tryz.func65, Tryz.ntmps65
  go_wp2_with (go_at_call 62; refine (text_any h).mono ?_; rintro e w1 ⟨rfl, h1, hf1⟩; obtain ⟨-, c1, -⟩ := h1.cells; have z1 := h1.frozen 1; rw [sv])
  go_ret
  have hset := h1.set 1 (.int .i64 ((i + 1 : Nat) : Int)) (i' := i + 1) (st' := st) (ins' := ins) (und' := und) rfl hlt
  refine ⟨rfl, ?_, ?_⟩
  · exact hset.1
  · exact (hf1.mono (Nat.le_refl _) (by simp)).up hset.2
set_option maxRecDepth 100000 in
set_option maxHeartbeats 1000000 in
theorem take_no (h : PS C w i st ins und) (s : ByteArray) (hs : tx C.L i ≠ bs s) : Calls Tryz.prog 65 #[.pointer (some ⟨C.rb, 0, none⟩), .string s] w fun e w' => e = .returned (.bool false) ∧ PS C w' i st ins und ∧ Fr w.heap.size [] w w' := by
  have heq : (tx C.L i == s.toList) = false := by
    rw [ByteArray.toList_eq]; exact beq_eq_false_iff_ne.2 hs
  clear hs
  go_enter Tryz.func65, Tryz.ntmps65
  go_wp2_with (go_at_call 62; refine (text_any h).mono ?_; rintro e w1 ⟨rfl, h1, hf1⟩; rw [sv])
  go_ret
  exact ⟨rfl, h1, hf1⟩
set_option maxRecDepth 100000 in
set_option maxHeartbeats 1000000 in
theorem need_any (h : PS C w i st ins und) (s : ByteArray) (k : Str) (hk : bs s = k) (hne : k ≠ []) : Calls Tryz.prog 57 #[.pointer (some ⟨C.rb, 0, none⟩), .string s] w (Out C (fun _ v w' => v = .tuple #[] ∧ PS C w' (i + 1) st ins und) w (need C.L k i)) := by
  subst hk
  by_cases hs : tx C.L i = bs s
  · have H : Hid (need C.L (bs s) i = .ok ()) := if_pos hs
    go_enter Tryz.func57, Tryz.ntmps57
    go_wp2_with (go_at_call 65; refine (take_yes h s hs hne).mono ?_; rintro e w1 ⟨rfl, h1, hf1⟩)
    go_end0
    rw [H.out]
    exact ⟨_, rfl, ⟨rfl, h1⟩, hf1⟩
  · have H : Hid (need C.L (bs s) i = .error (3, pl C.L i)) := if_neg hs
    go_enter Tryz.func57, Tryz.ntmps57
    go_wp2_with (first
      | (go_at_call 65; refine (take_no h s hs).mono ?_; rintro e w1 ⟨rfl, h1, hf1⟩)
      | (go_at_call 67; refine (throw_any h1 3).mono ?_; rintro e w2 ⟨q, rfl, ht⟩))
    rw [H.out]
    exact ⟨rfl, Thrown.up (hf1.mono (Nat.le_refl _) (by simp)) ⟨q, rfl, ht⟩⟩

/-- the token that stands next, in a new block -/
theorem PS.new {C : Ctx} {w : World} {i st ins und : Nat} (h : PS C w i st ins und) (o : Obj) : PS C ((w.alloc o).drew) i st ins und ∧ Fr w.heap.size [] w ((w.alloc o).drew) := by
  have hf : Fr w.heap.size [] w ((w.alloc o).drew) := ((Fr.refl _ _ _).alloc (Nat.le_refl _) o).drew
  exact ⟨h.same hf, hf⟩
theorem tok_block (w : World) (a b c : Value) (t : TypeId) : ((w.alloc (.cells #[a, b, c] t)).drew).cell? ⟨w.heap.size, 0, none⟩ = some a ∧ ((w.alloc (.cells #[a, b, c] t)).drew).cell? ⟨w.heap.size, 1, none⟩ = some b ∧ ((w.alloc (.cells #[a, b, c] t)).drew).cell? ⟨w.heap.size, 2, none⟩ = some c := by simp
theorem PS.step {C : Ctx} {w : World} {i st ins und : Nat} (h : PS C w i st ins und) (hlt : i + 1 < C.L.length) : PS C (w.setCell ⟨C.rb, 1, none⟩ (.int .i64 ((i : Int) + 1))) (i + 1) st ins und ∧ Fr w.heap.size [C.rb] w (w.setCell ⟨C.rb, 1, none⟩ (.int .i64 ((i : Int) + 1))) := h.set 1 _ rfl hlt
theorem PS.back {C : Ctx} {w : World} {i st ins und : Nat} (h : PS C w (i + 1) st ins und) : PS C (w.setCell ⟨C.rb, 1, none⟩ (.int .i64 (i : Int))) i st ins und ∧ Fr w.heap.size [C.rb] w (w.setCell ⟨C.rb, 1, none⟩ (.int .i64 (i : Int))) := h.set 1 _ rfl (by have := h.lt; omega)
theorem PS.more {C : Ctx} {w : World} {i st ins und : Nat} (h : PS C w i st ins und) : PS C (w.setCell ⟨C.rb, 2, none⟩ (.int .i64 ((st : Int) + 1))) i (st + 1) ins und ∧ Fr w.heap.size [C.rb] w (w.setCell ⟨C.rb, 2, none⟩ (.int .i64 ((st : Int) + 1))) := h.set 2 _ rfl h.lt
theorem PS.into {C : Ctx} {w : World} {i st ins und : Nat} (h : PS C w i st ins und) : PS C (w.setCell ⟨C.rb, 3, none⟩ (.int .i64 ((ins : Int) + 1))) i st (ins + 1) und ∧ Fr w.heap.size [C.rb] w (w.setCell ⟨C.rb, 3, none⟩ (.int .i64 ((ins : Int) + 1))) := h.set 3 _ rfl h.lt
theorem PS.outOf {C : Ctx} {w : World} {i st ins und : Nat} (h : PS C w i st (ins + 1) und) : PS C (w.setCell ⟨C.rb, 3, none⟩ (.int .i64 (ins : Int))) i st ins und ∧ Fr w.heap.size [C.rb] w (w.setCell ⟨C.rb, 3, none⟩ (.int .i64 (ins : Int))) := h.set 3 _ rfl h.lt
theorem PS.down {C : Ctx} {w : World} {i st ins und : Nat} (h : PS C w i st ins und) : PS C (w.setCell ⟨C.rb, 4, none⟩ (.int .i64 ((und : Int) + 1))) i st ins (und + 1) ∧ Fr w.heap.size [C.rb] w (w.setCell ⟨C.rb, 4, none⟩ (.int .i64 ((und : Int) + 1))) := h.set 4 _ rfl h.lt
theorem PS.upAgain {C : Ctx} {w : World} {i st ins und : Nat} (h : PS C w i st ins (und + 1)) : PS C (w.setCell ⟨C.rb, 4, none⟩ (.int .i64 (und : Int))) i st ins und ∧ Fr w.heap.size [C.rb] w (w.setCell ⟨C.rb, 4, none⟩ (.int .i64 (und : Int))) := h.set 4 _ rfl h.lt
theorem PS.lts {C : Ctx} {w : World} {i st ins und : Nat} (h : PS C w i st ins und) : C.rb < w.heap.size ∧ C.g < w.heap.size := ⟨lt_of_block h.rd, Nat.lt_trans h.gr (lt_of_block h.rd)⟩
set_option maxRecDepth 100000 in
set_option maxHeartbeats 2000000 in
theorem name_any (h : PS C w i st ins und) : Calls Tryz.prog 58 #[.pointer (some ⟨C.rb, 0, none⟩)] w (Out C (fun s v w' => v = sv s ∧ PS C w' (i + 1) st ins und) w (nm C.L i)) := by
  obtain ⟨c0, c1, -⟩ := h.cells
  obtain ⟨t0, t1, t2⟩ := h.now
  obtain ⟨l1, l2⟩ := h.lts
  have hi0 : (0 : Int) ≤ (i : Int) := Int.natCast_nonneg _
  have hi1 : (i : Int) < (C.L.length : Int) := by have := h.lt; omega
  have h6 := h.wf.len
  obtain ⟨tb, htb⟩ : ∃ tb : ByteArray, Hid (tb = ⟨(tx C.L i).toArray⟩) := ⟨_, rfl⟩
  have hbs : Hid (bs tb = tx C.L i) := by rw [Hid, htb.out]
  have hsz : Hid (tb.size = (tx C.L i).length) := by rw [Hid, ← hbs.out]; exact (bs_len tb).symm
  rw [sv, ← htb.out] at t1
  by_cases hk1 : kd C.L i = 1
  · have hk1' : ((kd C.L i : Nat) : Int) = 1 := by omega
    rw [hk1'] at t0
    have H1 : Hid _ := hk1
    clear hk1 hk1'
    by_cases hkw : kw (bs tb) = true
    · have H : Hid (nm C.L i = .error (3, pl C.L i)) := if_pos (.inr (by rw [← hbs.out]; exact hkw))
      have hw : ∀ w', Tabs w' → Calls Tryz.prog 93 #[.string tb] w' fun e w'' => e = .returned (.bool true) ∧ w'' = w' := fun w' ht => by
        have := isWordP_any tb w' ht; rw [hkw] at this; exact this
      clear hkw
      go_enter Tryz.func58, Tryz.ntmps58
      go_wp2
      go_region
      obtain ⟨hn, hfn⟩ := h.new (.cells #[.int .i64 1, .string tb, .int .i64 (pl C.L i)] 126)
      go_wp2_with (first
        | (go_at_call 93; refine (hw _ hn.tab).mono ?_; rintro e w1 ⟨rfl, hw1⟩; obtain rfl := hw1.symm)
        | (go_at_call 67; refine (throw_any hn 3).mono ?_; rintro e w2 ⟨q, rfl, ht⟩))
      rw [H.out]
      exact ⟨rfl, Thrown.up (hfn.mono (Nat.le_refl _) (by simp)) ⟨q, rfl, ht⟩⟩
    · have hkw' : kw (bs tb) = false := by simpa using hkw
      have hw : ∀ w', Tabs w' → Calls Tryz.prog 93 #[.string tb] w' fun e w'' => e = .returned (.bool false) ∧ w'' = w' := fun w' ht => by
        have := isWordP_any tb w' ht; rw [hkw'] at this; exact this
      have HK : Hid (¬ (kd C.L i ≠ 1 ∨ kw (tx C.L i) = true)) := by
        rw [Hid, ← hbs.out]; rintro (h | h)
        · exact h H1.out
        · exact hkw h
      clear hkw hkw'
      by_cases hln : 12 < tb.size
      · have H : Hid (nm C.L i = .error (4, pl C.L i)) := by rw [Hid, nm, if_neg HK.out, if_pos (by rw [← hsz.out]; exact hln)]
        have hln' : (12 : Int) < (tb.size : Int) := by omega
        go_enter Tryz.func58, Tryz.ntmps58
        go_wp2
        go_region
        obtain ⟨hn, hfn⟩ := h.new (.cells #[.int .i64 1, .string tb, .int .i64 (pl C.L i)] 126)
        go_wp2_with (first
          | (go_at_call 93; refine (hw _ hn.tab).mono ?_; rintro e w1 ⟨rfl, hw1⟩; obtain rfl := hw1.symm)
          | (go_at_call 67; refine (throw_any hn 4).mono ?_; rintro e w2 ⟨q, rfl, ht⟩))
        rw [H.out]
        exact ⟨rfl, Thrown.up (hfn.mono (Nat.le_refl _) (by simp)) ⟨q, rfl, ht⟩⟩
      · have H : Hid (nm C.L i = .ok (tx C.L i)) := by rw [Hid, nm, if_neg HK.out, if_neg (by rw [← hsz.out]; exact hln)]
        have hln' : ¬ (12 : Int) < (tb.size : Int) := by omega
        have hlt := h.wf.nextk h.lt (by rw [H1.out]; decide)
        go_enter Tryz.func58, Tryz.ntmps58
        go_wp2
        go_region
        obtain ⟨hn, hfn⟩ := h.new (.cells #[.int .i64 1, .string tb, .int .i64 (pl C.L i)] 126)
        obtain ⟨e0, e1, e2⟩ := tok_block w (.int .i64 1) (.string tb) (.int .i64 (pl C.L i)) 126
        generalize (w.alloc (.cells #[.int .i64 1, .string tb, .int .i64 (pl C.L i)] 126)).drew = w1 at hn hfn e0 e1 e2 ⊢
        obtain ⟨-, d1, -⟩ := hn.cells
        have z1 := hn.frozen 1
        have hbne : ¬ C.rb = w.heap.size := by omega
        clear c0 c1 t0 t1 t2 e2
        go_wp2_with (first
          | (go_at_call 93; refine (hw _ hn.tab).mono ?_; rintro e w2 ⟨rfl, hw1⟩; obtain rfl := hw1.symm))
        go_ret
        rw [H.out]
        have hset := hn.step hlt
        exact ⟨_, rfl, ⟨by rw [htb.out]; rfl, hset.1⟩, (hfn.mono (Nat.le_refl _) (by simp)).up hset.2⟩
  · have hk1' : ¬ ((kd C.L i : Nat) : Int) = 1 := by omega
    have hk1'' : (((kd C.L i : Nat) : Int) != 1) = true := by simpa using hk1'
    have H : Hid (nm C.L i = .error (3, pl C.L i)) := if_pos (.inl hk1)
    clear hk1
    go_enter Tryz.func58, Tryz.ntmps58
    go_wp2
    go_region
    obtain ⟨hn, hfn⟩ := h.new (.cells #[.int .i64 (kd C.L i), .string tb, .int .i64 (pl C.L i)] 126)
    go_wp2_with (go_at_call 67; refine (throw_any hn 3).mono ?_; rintro e w2 ⟨q, rfl, ht⟩)
    rw [H.out]
    exact ⟨rfl, Thrown.up (hfn.mono (Nat.le_refl _) (by simp)) ⟨q, rfl, ht⟩⟩
end
end Go.Proofs.YtiihgnagjemikaaGreatDoor
/- Expressions: chain and one, by the depths that are left. -/
namespace Go.Proofs.YtiihgnagjemikaaGreatDoor
open Go.RowKit Px

/-- blocks from a number on -/
def Ge (n b : Nat) : Prop := n ≤ b
theorem keepGe {C : Ctx} {n : Nat} {w w' : World} (hn : C.rb < n) (hf : Fr w.heap.size [C.rb] w w') : Keep (Ge n) (Ge n) w w' := hf.keep (fun b hb => by simp [Ge] at *; omega)
theorem IsE.ge {n m : Nat} {w : World} {e : E} {v : Value} (h : IsE (Ge m) w e v) (hn : n ≤ m) : IsE (Ge n) w e v := h.carry (fun _ hb _ => ⟨Nat.le_trans hn hb, rfl⟩)
theorem keepAll {A : Nat → Prop} {w w' : World} (hf : Fr w.heap.size [] w w') : Keep A A w w' := hf.keep (by simp)
/-- an expression was read: what it is, and up to where -/
def OkE (C : Ctx) (w : World) (st ins und : Nat) (p : E × Nat) (v : Value) (w' : World) : Prop := IsE (Ge w.heap.size) w' p.1 v ∧ PS C w' p.2 st ins und
def One (C : Ctx) (k : Nat) : Prop := ∀ (w : World) (i st ins und : Nat), und + k = 7 → PS C w i st ins und → Calls Tryz.prog 159 #[.pointer (some ⟨C.rb, 0, none⟩)] w (Out C (OkE C w st ins und) w (one C.L k i))
def Chain (C : Ctx) (k t : Nat) : Prop := ∀ (w : World) (i st ins und : Nat), und + k = 7 → PS C w i st ins und → Calls Tryz.prog 145 #[.pointer (some ⟨C.rb, 0, none⟩), .int .i64 ((5 - t : Nat) : Int)] w (Out C (OkE C w st ins und) w (lev C.L (one C.L k) t i))
theorem Out.of {C : Ctx} {α : Type} {ok : α → Value → World → Prop} {w w1 : World} {r : Except F α} {e : Ending} {w' : World} (hf : Fr w.heap.size [C.rb] w w1) (h : Out C ok w1 r e w') : Out C ok w r e w' := by
  cases r with
  | error f => exact Thrown.up hf h
  | ok a => obtain ⟨v, h1, h2, h3⟩ := h; exact ⟨v, h1, h2, hf.up h3⟩
theorem text_is {C : Ctx} {w : World} {i st ins und : Nat} (h : PS C w i st ins und) (tb : ByteArray) (htb : Hid (bs tb = tx C.L i)) : Calls Tryz.prog 62 #[.pointer (some ⟨C.rb, 0, none⟩)] w fun e w' => e = .returned (.string tb) ∧ PS C w' i st ins und ∧ Fr w.heap.size [] w w' := by
  refine (text_any h).mono ?_
  rintro e w' ⟨rfl, h1, h2⟩
  exact ⟨by rw [sv, ← htb.out], h1, h2⟩
theorem codeBetween_is {C : Ctx} {w : World} {i st ins und : Nat} (h : PS C w i st ins und) (tb : ByteArray) (t c : Nat) (ht : t < 5) (hc : Hid (codeAt t (bs tb) = c)) : Calls Tryz.prog 160 #[.string tb, .int .i64 t] w fun e w' => e = .returned (.int .i64 c) ∧ PS C w' i st ins und ∧ Fr w.heap.size [] w w' := by
  refine (codeBetween_any tb t ht w h.tab).mono ?_
  rintro e w' ⟨rfl, hb⟩
  have hf := Fr.of_below hb []
  exact ⟨by rw [hc.out], h.same hf, hf⟩

theorem Out.cases {C : Ctx} {α : Type} {ok : α → Value → World → Prop} {w : World} {r : Except F α} {e : Ending} {w' : World} (h : Out C ok w r e w') : (∃ f, Hid (r = .error f) ∧ Thrown C w f e w') ∨ (∃ a v, Hid (r = .ok a) ∧ e = .returned v ∧ ok a v w' ∧ Fr w.heap.size [C.rb] w w') := by
  cases r with
  | error f => exact .inl ⟨f, rfl, h⟩
  | ok a => obtain ⟨v, h1, h2, h3⟩ := h; exact .inr ⟨a, v, rfl, h1, h2, h3⟩

set_option maxRecDepth 100000 in
set_option maxHeartbeats 1000000 in
theorem chain_zero {C : Ctx} {k : Nat} (ho : One C k) : Chain C k 0 := by
  intro w i st ins und hu h
  go_enter Tryz.func145, Tryz.ntmps145
  go_wp2_with (go_at_call 159; refine (ho w i st ins und hu h).mono ?_; rintro e w1 h1; rcases h1.cases with ⟨f, hr, q, rfl, hq⟩ | ⟨p, v, hr, rfl, hv, hf⟩; · exact ⟨rfl, by rw [lev, hr.out]; exact ⟨q, rfl, hq⟩⟩)
  go_ret
  rw [lev, hr.out]
  exact ⟨v, rfl, hv, hf⟩

/-- a pair of a code and a new block -/
theorem isE_two {w : World} {c B n : Nat} {l r : E} {lv rv : Value} (hn : w.heap.size = n) (hB : B ≤ n) (hl : IsE (Ge B) w l lv) (hr : IsE (Ge B) w r rv) :
    IsE (Ge B) (w.alloc (.cells #[.int .i64 c, .int .i64 0, .string ⟨#[]⟩, lv, rv] 222)) (eTwo c l r) (.pointer (some ⟨n, 0, none⟩)) := by
  subst hn
  have k : Keep (Ge B) (Ge B) w (w.alloc (.cells #[.int .i64 c, .int .i64 0, .string ⟨#[]⟩, lv, rv] 222)) := fun b ha hb => ⟨ha, Below.heap_alloc _ _ _ hb⟩
  exact ⟨w.heap.size, lv, rv, rfl, hB, heap_alloc_new w _, hl.carry k, hr.carry k⟩
theorem IsE.ptr {A : Nat → Prop} {w : World} {e : E} {v : Value} (h : IsE A w e v) : ∃ u, v = .pointer u := by
  cases e with
  | nil => exact ⟨none, h⟩
  | node b o a l r => obtain ⟨g, lv, rv, rfl, _⟩ := h; exact ⟨_, rfl⟩
theorem Fr.wide {B : Nat} {X : List Nat} {w w' : World} (h : Fr B [] w w') : Fr B X w w' := h.mono (Nat.le_refl _) (by simp)
theorem chainF_le {L : List Lx.Tok} {below : Nat → Except F (E × Nat)} {code : Str → Nat} (hb : ∀ i e j, below i = .ok (e, j) → i < j) : ∀ (f : Nat) (e : E) (i : Nat) (e' : E) (j : Nat), chainF L below code f e i = .ok (e', j) → i ≤ j := by
  intro f
  induction f with
  | zero => intro e i e' j h; rw [chainF] at h; injection h with h; injection h with _ h2; omega
  | succ f ih =>
    intro e i e' j h
    rw [chainF] at h
    split at h
    · injection h with h; injection h with _ h2; omega
    · split at h
      · exact absurd h (by simp)
      · rename_i r m hm
        have h1 := hb _ _ _ hm
        have h2 := ih _ _ _ _ h
        omega
theorem lev_lt {L : List Lx.Tok} {one : Nat → Except F (E × Nat)} (ho : ∀ i e j, one i = .ok (e, j) → i < j) : ∀ (t i : Nat) (e : E) (j : Nat), lev L one t i = .ok (e, j) → i < j := by
  intro t
  induction t with
  | zero => exact ho
  | succ t ih =>
    intro i e j h
    rw [lev, chain] at h
    split at h
    · exact absurd h (by simp)
    · rename_i e1 m hm
      have h1 := ih _ _ _ hm
      have h2 := chainF_le ih _ _ _ _ _ h
      omega
theorem one_lt {L : List Lx.Tok} : ∀ (k i : Nat) (e : E) (j : Nat), one L k i = .ok (e, j) → i < j := by
  intro k
  induction k with
  | zero => intro i e j h; rw [one] at h; exact absurd h (by simp)
  | succ k ih =>
    intro i e j h
    rw [one] at h
    split at h
    · split at h
      · exact absurd h (by simp)
      · rename_i m hm
        have := ih _ _ _ hm
        injection h with h; injection h with _ h2; omega
    · split at h
      · split at h
        · exact absurd h (by simp)
        · rename_i m hm
          have := lev_lt ih _ _ _ _ hm
          split at h
          · injection h with h; injection h with _ h2; omega
          · exact absurd h (by simp)
      · split at h
        · split at h
          · split at h
            · exact absurd h (by simp)
            · split at h
              · injection h with h; injection h with _ h2; omega
              · exact absurd h (by simp)
          · exact absurd h (by simp)
        · split at h
          · injection h with h; injection h with _ h2; omega
          · split at h
            · exact absurd h (by simp)
            · injection h with h; injection h with _ h2; omega

set_option maxRecDepth 100000 in
set_option maxHeartbeats 2000000 in
theorem chain_succ {C : Ctx} {k t : Nat} (ht : t < 5) (hc : Chain C k t) : Chain C k (t + 1) := by
  intro w i st ins und hu h
  have ht0 : ((5 - (t + 1) : Nat) : Int) + 1 = ((5 - t : Nat) : Int) := by omega
  have hne : ¬ ((5 - (t + 1) : Nat) : Int) = 5 := by omega
  have hne' : (((5 - (t + 1) : Nat) : Int) == 5) = false := by simpa using hne
  obtain ⟨t', ht'⟩ : ∃ t', Hid (t' = 5 - (t + 1)) := ⟨_, rfl⟩
  have hlt5 : t' < 5 := by have := ht'.out; omega
  have ht4 : Hid (t' = 4 - t) := by rw [Hid, ht'.out]; omega
  rw [← ht'.out] at ht0 hne hne' ⊢
  have hcall : ∀ (w : World) (i st ins und : Nat), und + k = 7 → PS C w i st ins und → Calls Tryz.prog 145 #[.pointer (some ⟨C.rb, 0, none⟩), .int .i64 ((t' : Int) + 1)] w (Out C (OkE C w st ins und) w (lev C.L (one C.L k) t i)) := fun w i st ins und hu h => by
    rw [ht0]; exact hc w i st ins und hu h
  clear ht0
  go_enter Tryz.func145, Tryz.ntmps145
  go_wp2_with (go_at_call 145; refine (hcall w i st ins und hu h).mono ?_; rintro e w1 h1; rcases h1.cases with ⟨f, hr, q, rfl, hq⟩ | ⟨⟨e0, i0⟩, v, hr, rfl, ⟨hv, h1⟩, hf⟩; · exact ⟨rfl, by rw [lev, chain, hr.out]; exact ⟨q, rfl, hq⟩⟩)
  have HR : Hid (lev C.L (one C.L k) (t + 1) i = chainF C.L (lev C.L (one C.L k) t) (codeAt t') C.L.length e0 i0) := by
    rw [Hid, lev, chain, hr.out, ht4.out]
  go_loopg [5] C.L.length (fun g v wr => ∃ (e : E) (j : Nat), Hid (lev C.L (one C.L k) (t + 1) i = chainF C.L (lev C.L (one C.L k) t) (codeAt t') g e j) ∧ C.L.length ≤ g + j ∧ IsE (Ge w.heap.size) wr e v ∧ PS C wr j st ins und ∧ Fr w.heap.size [C.rb] w wr)
  case atStart => exact ⟨e0, i0, HR, by omega, hv, h1, hf⟩
  case round =>
    obtain ⟨e1, j, hr1, hg, hv1, hp1, hf1⟩ := hrel
    obtain ⟨p1, rfl⟩ := hv1.ptr
    obtain ⟨tb, htb⟩ : ∃ tb : ByteArray, Hid (bs tb = tx C.L j) := ⟨⟨(tx C.L j).toArray⟩, rfl⟩
    obtain ⟨c, hcc⟩ : ∃ c, Hid (codeAt t' (bs tb) = c) := ⟨_, rfl⟩
    have hcc' : Hid (codeAt t' (tx C.L j) = c) := by rw [Hid, ← htb.out]; exact hcc.out
    obtain ⟨g', hgg⟩ : ∃ g', gk = g' + 1 := ⟨gk - 1, by have := hp1.lt; omega⟩
    subst hgg
    have hjl := hp1.lt
    have hl6 := hp1.wf.len
    by_cases hc0 : c = 0
    · subst hc0
      have HE : Hid (lev C.L (one C.L k) (t + 1) i = .ok (e1, j)) := by rw [Hid, hr1.out, chainF, if_pos hcc'.out]
      go_wp2_with (first
        | (go_at_call 62; refine (text_is hp1 tb htb).mono ?_; rintro e w2 ⟨rfl, hp2, hf2⟩)
        | (go_at_call 160; refine (codeBetween_is hp2 tb t' 0 hlt5 hcc).mono ?_; rintro e w3 ⟨rfl, hp3, hf3⟩))
      go_ret
      rw [HE.out]
      refine ⟨_, rfl, ⟨?_, hp3⟩, ?_⟩
      · exact (hv1.carry (keepAll hf2)).carry (keepAll hf3)
      · exact (hf1.up hf2.wide).up hf3.wide
    · have hc1 : ¬ (c : Int) = 0 := by omega
      have hc2 : ((c : Int) == 0) = false := by simpa using hc1
      have hne2 : tx C.L j ≠ [] := by
        intro e; rw [e] at hcc'
        have : ∀ t : Fin 5, codeAt t.val [] = 0 := by decide
        exact hc0 (by rw [← hcc'.out]; exact this ⟨t', hlt5⟩)
      have hnx := hp1.wf.next hp1.lt hne2
      clear hne2
      go_wp2_with (first
        | (go_at_call 62; refine (text_is hp1 tb htb).mono ?_; rintro e w2 ⟨rfl, hp2, hf2⟩)
        | (go_at_call 160; refine (codeBetween_is hp2 tb t' c hlt5 hcc).mono ?_; rintro e w3 ⟨rfl, hp3, hf3⟩; obtain ⟨-, c1, -⟩ := hp3.cells; have z1 := hp3.frozen 1; obtain ⟨hp4, hf4⟩ := hp3.step hnx; have hl3 := hp3.lts.1)
        | (go_at_call 145; refine (hcall _ (j + 1) st ins und hu hp4).mono ?_; rintro e w5 h5; rcases h5.cases with ⟨f, hr5, q, rfl, hq⟩ | ⟨⟨e5, i5⟩, v5, hr5, rfl, ⟨hv5, hp5⟩, hf5⟩; (· exact ⟨rfl, by rw [hr1.out, chainF, if_neg (by rw [hcc'.out]; exact hc0), hr5.out]; exact Thrown.up (((hf1.up hf2.wide).up hf3.wide).up hf4) ⟨q, rfl, hq⟩⟩); obtain ⟨p5, rfl⟩ := hv5.ptr))
      have hF : Fr w.heap.size [C.rb] w w5 := (((hf1.up hf2.wide).up hf3.wide).up hf4).up hf5
      have hF2 := hF.size
      have hi5 : j + 1 < i5 := lev_lt (one_lt k) _ _ _ _ hr5.out
      have hC := h.lts.1
      have hvv : IsE (Ge w.heap.size) w5 e1 _ := ((((hv1.carry (keepAll hf2)).carry (keepAll hf3)).carry (keepGe hC hf4)).carry (keepGe hC hf5))
      have hv6 := hv5.ge ((((hf1.up hf2.wide).up hf3.wide).up hf4).size)
      go_roundg g'
      case measure => omega
      case rel => exact ⟨eTwo c e1 e5, i5, by rw [Hid, hr1.out, chainF, if_neg (by rw [hcc'.out]; exact hc0), hr5.out, hcc'.out], by omega, isE_two rfl (by omega) hvv hv6, hp5.same ((Fr.refl _ _ _).alloc (Nat.le_refl _) _), hF.alloc (by omega) _⟩
end Go.Proofs.YtiihgnagjemikaaGreatDoor
