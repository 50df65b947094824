import Derived.Test.YtpogmfliojcnjaaGreatDoorQRead
import Derived.Test.YtpogmfliojcnjaaGreatDoorQMem
import Derived.Deep.LoopGhost
namespace Go.Proofs.YtpogmfliojcnjaaGreatDoor
open Go.RowKit Px
theorem str_eq (a b : ByteArray) : (a.toList == b.toList) = decide (bs a = bs b) := by
 rw [ByteArray.toList_eq, ByteArray.toList_eq, Bool.eq_iff_iff]
 simp only [beq_iff_eq, decide_eq_true_eq]
theorem str_yes (a b : ByteArray) (h : bs a = bs b) : (a.toList == b.toList) = true := by rw [str_eq]; exact decide_eq_true h
theorem str_no (a b : ByteArray) (h : bs a ≠ bs b) : (a.toList == b.toList) = false := by rw [str_eq]; exact decide_eq_false h
def TabAt (w : World) (b : Nat) (cs : List Value) : Prop := ∀ i v, cs[i]? = some v → w.cell? ⟨b, i, none⟩ = some v
def kindsL : List Str := [[], kInput, kOutput, kVar]
def leadsL : List Str := [kGo, kAbort, kJoin]
def signC (p : Str × Nat) : List Value := [sv p.1, .int .i64 p.2]
def aheadL : List (Str × Nat) := [(kMinus, 4), (kNot, 5)]
def padTo4 (l : List (Str × Nat)) : List (Str × Nat) := (l ++ [([], 0), ([], 0), ([], 0)]).take 4
def betweenL : List (List (Str × Nat)) := signs.map padTo4
structure Tabs (w : World) : Prop where
 words : TabAt w 4 (words.map sv)
 kinds : TabAt w 2 (kindsL.map sv)
 leads : TabAt w 6 (leadsL.map sv)
 ahead : TabAt w 7 (aheadL.flatMap signC)
 between : TabAt w 8 (betweenL.flatMap (·.flatMap signC))
theorem TabAt.keep {w w' : World} {b : Nat} {cs : List Value} (h : TabAt w b cs) (hb : w'.heap[b]? = w.heap[b]?) : TabAt w' b cs := fun i v hv => by
 rw [World.cell?_of_block (w := w) (a := ⟨b, i, none⟩) hb]; exact h i v hv
theorem Tabs.keep {w w' : World} (h : Tabs w) (hb : ∀ b, b < 13 → w'.heap[b]? = w.heap[b]?) : Tabs w' :=
 ⟨h.words.keep (hb 4 (by omega)), h.kinds.keep (hb 2 (by omega)), h.leads.keep (hb 6 (by omega)), h.ahead.keep (hb 7 (by omega)), h.between.keep (hb 8 (by omega))⟩
theorem load_cells (T n : Nat) (w : World) (b o : Nat) (cs : List Value) (hagg : (isAgg T).run Tryz.prog w = .ok true w) (hsz : (sizeOf T).run Tryz.prog w = .ok n w) (hn : cs.length = n)
    (h : ∀ j v, cs[j]? = some v → w.cell? ⟨b, o + j, none⟩ = some v) : (loadVar T ⟨b, o, none⟩).run Tryz.prog w = .ok (.agg cs.toArray) w := by
 have hl := run_loadCells_list (P := Tryz.prog) w ⟨b, o, none⟩ cs (fun j v hv => by
  have hadd : (⟨b, o, none⟩ : Addr).add j = ⟨b, o + j, none⟩ := by unfold Addr.add; split <;> simp_all
  rw [hadd]; exact h j v hv)
 rw [hn] at hl
 unfold loadVar
 rw [Sem.run_bind, hagg]
 simp only [Result.andThen, if_true, Sem.run_bind, hsz, hl]
 rfl
theorem load_tab (T n : Nat) (w : World) (b : Nat) (cs : List Value) (hagg : (isAgg T).run Tryz.prog w = .ok true w) (hsz : (sizeOf T).run Tryz.prog w = .ok n w) (hn : cs.length = n) (h : TabAt w b cs) : (loadVar T ⟨b, 0, none⟩).run Tryz.prog w = .ok (.agg cs.toArray) w :=
 load_cells T n w b 0 cs hagg hsz hn (fun j v hv => by rw [Nat.zero_add]; exact h j v hv)
def WV : Array Value := (words.map sv).toArray
theorem wx0 (w : World) : (Instr.index 206 (.agg WV) (.int .i64 0)).run Tryz.prog w = .ok (sv (words.getD 0 [])) w := by kernel_rfl
theorem wx1 (w : World) : (Instr.index 206 (.agg WV) (.int .i64 1)).run Tryz.prog w = .ok (sv (words.getD 1 [])) w := by kernel_rfl
theorem wx2 (w : World) : (Instr.index 206 (.agg WV) (.int .i64 2)).run Tryz.prog w = .ok (sv (words.getD 2 [])) w := by kernel_rfl
theorem wx3 (w : World) : (Instr.index 206 (.agg WV) (.int .i64 3)).run Tryz.prog w = .ok (sv (words.getD 3 [])) w := by kernel_rfl
theorem wx4 (w : World) : (Instr.index 206 (.agg WV) (.int .i64 4)).run Tryz.prog w = .ok (sv (words.getD 4 [])) w := by kernel_rfl
theorem wx5 (w : World) : (Instr.index 206 (.agg WV) (.int .i64 5)).run Tryz.prog w = .ok (sv (words.getD 5 [])) w := by kernel_rfl
theorem wx6 (w : World) : (Instr.index 206 (.agg WV) (.int .i64 6)).run Tryz.prog w = .ok (sv (words.getD 6 [])) w := by kernel_rfl
theorem wx7 (w : World) : (Instr.index 206 (.agg WV) (.int .i64 7)).run Tryz.prog w = .ok (sv (words.getD 7 [])) w := by kernel_rfl
theorem wx8 (w : World) : (Instr.index 206 (.agg WV) (.int .i64 8)).run Tryz.prog w = .ok (sv (words.getD 8 [])) w := by kernel_rfl
theorem wx9 (w : World) : (Instr.index 206 (.agg WV) (.int .i64 9)).run Tryz.prog w = .ok (sv (words.getD 9 [])) w := by kernel_rfl
theorem wx10 (w : World) : (Instr.index 206 (.agg WV) (.int .i64 10)).run Tryz.prog w = .ok (sv (words.getD 10 [])) w := by kernel_rfl
theorem wx11 (w : World) : (Instr.index 206 (.agg WV) (.int .i64 11)).run Tryz.prog w = .ok (sv (words.getD 11 [])) w := by kernel_rfl
theorem wx12 (w : World) : (Instr.index 206 (.agg WV) (.int .i64 12)).run Tryz.prog w = .ok (sv (words.getD 12 [])) w := by kernel_rfl
theorem wx13 (w : World) : (Instr.index 206 (.agg WV) (.int .i64 13)).run Tryz.prog w = .ok (sv (words.getD 13 [])) w := by kernel_rfl
theorem wx14 (w : World) : (Instr.index 206 (.agg WV) (.int .i64 14)).run Tryz.prog w = .ok (sv (words.getD 14 [])) w := by kernel_rfl
theorem wx15 (w : World) : (Instr.index 206 (.agg WV) (.int .i64 15)).run Tryz.prog w = .ok (sv (words.getD 15 [])) w := by kernel_rfl
theorem wx16 (w : World) : (Instr.index 206 (.agg WV) (.int .i64 16)).run Tryz.prog w = .ok (sv (words.getD 16 [])) w := by kernel_rfl
theorem wx17 (w : World) : (Instr.index 206 (.agg WV) (.int .i64 17)).run Tryz.prog w = .ok (sv (words.getD 17 [])) w := by kernel_rfl
theorem wx18 (w : World) : (Instr.index 206 (.agg WV) (.int .i64 18)).run Tryz.prog w = .ok (sv (words.getD 18 [])) w := by kernel_rfl
theorem wx19 (w : World) : (Instr.index 206 (.agg WV) (.int .i64 19)).run Tryz.prog w = .ok (sv (words.getD 19 [])) w := by kernel_rfl
theorem wx20 (w : World) : (Instr.index 206 (.agg WV) (.int .i64 20)).run Tryz.prog w = .ok (sv (words.getD 20 [])) w := by kernel_rfl
theorem index_words (k : Nat) (hk : k < 21) (w : World) : (Instr.index 206 (.agg WV) (.int .i64 k)).run Tryz.prog w = .ok (sv (words.getD k [])) w := by
 match k, hk with
 | 0, _ => exact wx0 w
 | 1, _ => exact wx1 w
 | 2, _ => exact wx2 w
 | 3, _ => exact wx3 w
 | 4, _ => exact wx4 w
 | 5, _ => exact wx5 w
 | 6, _ => exact wx6 w
 | 7, _ => exact wx7 w
 | 8, _ => exact wx8 w
 | 9, _ => exact wx9 w
 | 10, _ => exact wx10 w
 | 11, _ => exact wx11 w
 | 12, _ => exact wx12 w
 | 13, _ => exact wx13 w
 | 14, _ => exact wx14 w
 | 15, _ => exact wx15 w
 | 16, _ => exact wx16 w
 | 17, _ => exact wx17 w
 | 18, _ => exact wx18 w
 | 19, _ => exact wx19 w
 | 20, _ => exact wx20 w
 | k + 21, h => omega
theorem kw_yes (k : Nat) (h : k < 21) : kw (words.getD k []) = true := by
 have : ∀ k : Fin 21, kw (words.getD k.val []) = true := by decide
 exact this ⟨k, h⟩
theorem kw_no (s : Str) (h : ∀ j, j < 21 → words.getD j [] ≠ s) : kw s = false := by
 rw [Bool.eq_false_iff]
 intro hk
 simp only [kw, List.any_eq_true, beq_iff_eq] at hk
 obtain ⟨x, hx, rfl⟩ := hk
 obtain ⟨j, hj, rfl⟩ := List.mem_iff_getElem.1 hx
 exact h j hj (by rw [List.getD_eq_getElem?_getD, List.getElem?_eq_getElem hj]; rfl)
set_option maxRecDepth 100000 in
set_option maxHeartbeats 1000000 in
theorem isWordP_any (s : ByteArray) (w : World) (ht : Tabs w) : Calls Tryz.prog 142 #[.string s] w fun e w' => e = .returned (.bool (kw (bs s))) ∧ w' = w := by
 have hl : (loadVar 206 ⟨4, 0, none⟩).run Tryz.prog w = .ok (.agg WV) w := load_tab 206 21 w 4 _ (by kernel_rfl) (by kernel_rfl) (by decide) ht.words
 clear ht
 go_enter Tryz.func142, Tryz.ntmps142
 go_wp2_with (refine wpList_load_eq rfl 206 (.global 4) rfl ⟨4, 0, none⟩ rfl (.agg WV) hl ?_; clear hl)
 go_loop [6] (fun i => ∃ k : Nat, k ≤ 21 ∧ i = .int .i64 k ∧ Hid (∀ j, j < k → words.getD j [] ≠ bs s)) (fun i => 21 - (intOf i).toNat)
 case atStart => exact ⟨0, by omega, rfl, fun j hj => absurd hj (by omega)⟩
 case round =>
  obtain ⟨k, hk, rfl, hr⟩ := hrel
  by_cases hlt : k < 21
  ·obtain ⟨mb, hmb⟩ : ∃ mb : ByteArray, mb = ⟨(words.getD k []).toArray⟩ := ⟨_, rfl⟩
   have hix : ∀ w, (Instr.index 206 (.agg WV) (.int .i64 k)).run Tryz.prog w = .ok (.string mb) w := by
    intro w; rw [hmb]; exact index_words k hlt w
   have HMB : Hid (bs mb = words.getD k []) := by
    show _ = _; rw [hmb]
   clear hmb
   by_cases heq : bs mb = bs s
   ·have h1 := str_yes mb s heq
    have H : Hid (kw (bs s) = true) := by rw [Hid, ← heq, HMB.out]; exact kw_yes k hlt
    clear heq
    go_wp2
    go_ret
    exact ⟨ret_bool H.out.symm, rfl⟩
   ·have h1 := str_no mb s heq
    have H : Hid (∀ j, j < k + 1 → words.getD j [] ≠ bs s) := by
     intro j hjk
     by_cases e : j = k
     ·subst e; rw [← HMB.out]; exact heq
     ·exact hr.out j (by omega)
    clear heq
    go_wp2
    go_round
    case rel => exact ⟨k + 1, by omega, by go_num, H⟩
    case measure => simp [intOf]; omega
  ·have H : Hid (kw (bs s) = false) := kw_no _ (fun j hj => hr.out j (by omega))
   go_wp2
   go_ret
   exact ⟨ret_bool H.out.symm, rfl⟩
def KV : Array Value := (kindsL.map sv).toArray
theorem kx0 (w : World) : (Instr.index 208 (.agg KV) (.int .i64 0)).run Tryz.prog w = .ok (sv (kindsL.getD 0 [])) w := by kernel_rfl
theorem kx1 (w : World) : (Instr.index 208 (.agg KV) (.int .i64 1)).run Tryz.prog w = .ok (sv (kindsL.getD 1 [])) w := by kernel_rfl
theorem kx2 (w : World) : (Instr.index 208 (.agg KV) (.int .i64 2)).run Tryz.prog w = .ok (sv (kindsL.getD 2 [])) w := by kernel_rfl
theorem kx3 (w : World) : (Instr.index 208 (.agg KV) (.int .i64 3)).run Tryz.prog w = .ok (sv (kindsL.getD 3 [])) w := by kernel_rfl
theorem index_kinds (k : Nat) (hk : k < 4) (w : World) : (Instr.index 208 (.agg KV) (.int .i64 k)).run Tryz.prog w = .ok (sv (kindsL.getD k [])) w := by
 match k, hk with
 | 0, _ => exact kx0 w
 | 1, _ => exact kx1 w
 | 2, _ => exact kx2 w
 | 3, _ => exact kx3 w
 | k + 4, h => omega
theorem kindOf_at (k : Nat) (h : k < 4) : kindOf (kindsL.getD k []) = k := by
 have : ∀ k : Fin 4, kindOf (kindsL.getD k.val []) = k.val := by decide
 exact this ⟨k, h⟩
theorem kindOf_none (s : Str) (h : ∀ j, j < 4 → kindsL.getD j [] ≠ s) : kindOf s = 0 := by
 unfold kindOf
 rw [if_neg (fun e => h 1 (by omega) e.symm), if_neg (fun e => h 2 (by omega) e.symm), if_neg (fun e => h 3 (by omega) e.symm)]
set_option maxRecDepth 100000 in
set_option maxHeartbeats 1000000 in
theorem kindOf_any (s : ByteArray) (w : World) (ht : Tabs w) : Calls Tryz.prog 96 #[.string s] w fun e w' => e = .returned (.int .i64 (kindOf (bs s) : Nat)) ∧ w' = w := by
 have hl : (loadVar 208 ⟨2, 0, none⟩).run Tryz.prog w = .ok (.agg KV) w := load_tab 208 4 w 2 _ (by kernel_rfl) (by kernel_rfl) (by decide) ht.kinds
 clear ht
 go_enter Tryz.func96, Tryz.ntmps96
 go_wp2_with (refine wpList_load_eq rfl 208 (.global 2) rfl ⟨2, 0, none⟩ rfl (.agg KV) hl ?_; clear hl)
 go_loop [6] (fun i => ∃ k : Nat, k ≤ 4 ∧ i = .int .i64 k ∧ Hid (∀ j, j < k → kindsL.getD j [] ≠ bs s)) (fun i => 4 - (intOf i).toNat)
 case atStart => exact ⟨0, by omega, rfl, fun j hj => absurd hj (by omega)⟩
 case round =>
  obtain ⟨k, hk, rfl, hr⟩ := hrel
  by_cases hlt : k < 4
  ·obtain ⟨mb, hmb⟩ : ∃ mb : ByteArray, mb = ⟨(kindsL.getD k []).toArray⟩ := ⟨_, rfl⟩
   have hix : ∀ w, (Instr.index 208 (.agg KV) (.int .i64 k)).run Tryz.prog w = .ok (.string mb) w := by
    intro w; rw [hmb]; exact index_kinds k hlt w
   have HMB : Hid (bs mb = kindsL.getD k []) := by
    show _ = _; rw [hmb]
   clear hmb
   by_cases heq : bs mb = bs s
   ·have h1 := str_yes mb s heq
    have H : Hid (kindOf (bs s) = k) := by rw [Hid, ← heq, HMB.out]; exact kindOf_at k hlt
    clear heq
    go_wp2
    go_ret
    exact ⟨ret_int (by rw [H.out]), rfl⟩
   ·have h1 := str_no mb s heq
    have H : Hid (∀ j, j < k + 1 → kindsL.getD j [] ≠ bs s) := by
     intro j hjk
     by_cases e : j = k
     ·subst e; rw [← HMB.out]; exact heq
     ·exact hr.out j (by omega)
    clear heq
    go_wp2
    go_round
    case rel => exact ⟨k + 1, by omega, by go_num, H⟩
    case measure => simp [intOf]; omega
  ·have H : Hid (kindOf (bs s) = 0) := kindOf_none _ (fun j hj => hr.out j (by omega))
   go_wp2
   go_ret
   exact ⟨ret_int (by rw [H.out]; rfl), rfl⟩
def LV : Array Value := (leadsL.map sv).toArray
theorem lx0 (w : World) : (Instr.index 293 (.agg LV) (.int .i64 0)).run Tryz.prog w = .ok (sv (leadsL.getD 0 [])) w := by kernel_rfl
theorem lx1 (w : World) : (Instr.index 293 (.agg LV) (.int .i64 1)).run Tryz.prog w = .ok (sv (leadsL.getD 1 [])) w := by kernel_rfl
theorem lx2 (w : World) : (Instr.index 293 (.agg LV) (.int .i64 2)).run Tryz.prog w = .ok (sv (leadsL.getD 2 [])) w := by kernel_rfl
theorem index_leads (k : Nat) (hk : k < 3) (w : World) : (Instr.index 293 (.agg LV) (.int .i64 k)).run Tryz.prog w = .ok (sv (leadsL.getD k [])) w := by
 match k, hk with
 | 0, _ => exact lx0 w
 | 1, _ => exact lx1 w
 | 2, _ => exact lx2 w
 | k + 3, h => omega
theorem leadOf_at (k : Nat) (h : k < 3) : leadOf (leadsL.getD k []) = some k := by
 have : ∀ k : Fin 3, leadOf (leadsL.getD k.val []) = some k.val := by decide
 exact this ⟨k, h⟩
theorem leadOf_none (s : Str) (h : ∀ j, j < 3 → leadsL.getD j [] ≠ s) : leadOf s = none := by
 unfold leadOf
 rw [if_neg (fun e => h 0 (by omega) e.symm), if_neg (fun e => h 1 (by omega) e.symm), if_neg (fun e => h 2 (by omega) e.symm)]
def leadV : Option Nat → Value
 | some k => .tuple #[.int .i64 k, .bool true]
 | none => .tuple #[.int .i64 0, .bool false]
set_option maxRecDepth 100000 in
set_option maxHeartbeats 1000000 in
theorem leadOf_any (s : ByteArray) (w : World) (ht : Tabs w) : Calls Tryz.prog 202 #[.string s] w fun e w' => e = .returned (leadV (leadOf (bs s))) ∧ w' = w := by
 have hl : (loadVar 293 ⟨6, 0, none⟩).run Tryz.prog w = .ok (.agg LV) w := load_tab 293 3 w 6 _ (by kernel_rfl) (by kernel_rfl) (by decide) ht.leads
 clear ht
 go_enter Tryz.func202, Tryz.ntmps202
 go_wp2_with (refine wpList_load_eq rfl 293 (.global 6) rfl ⟨6, 0, none⟩ rfl (.agg LV) hl ?_; clear hl)
 go_loop [7] (fun i => ∃ k : Nat, k ≤ 3 ∧ i = .int .i64 k ∧ Hid (∀ j, j < k → leadsL.getD j [] ≠ bs s)) (fun i => 3 - (intOf i).toNat)
 case atStart => exact ⟨0, by omega, rfl, fun j hj => absurd hj (by omega)⟩
 case round =>
  obtain ⟨k, hk, rfl, hr⟩ := hrel
  by_cases hlt : k < 3
  ·obtain ⟨mb, hmb⟩ : ∃ mb : ByteArray, mb = ⟨(leadsL.getD k []).toArray⟩ := ⟨_, rfl⟩
   have hix : ∀ w, (Instr.index 293 (.agg LV) (.int .i64 k)).run Tryz.prog w = .ok (.string mb) w := by
    intro w; rw [hmb]; exact index_leads k hlt w
   have HMB : Hid (bs mb = leadsL.getD k []) := by
    show _ = _; rw [hmb]
   clear hmb
   by_cases heq : bs mb = bs s
   ·have h1 := str_yes mb s heq
    have H : Hid (leadOf (bs s) = some k) := by rw [Hid, ← heq, HMB.out]; exact leadOf_at k hlt
    clear heq
    go_wp2
    go_ret2
    exact ⟨by rw [H.out]; rfl, rfl⟩
   ·have h1 := str_no mb s heq
    have H : Hid (∀ j, j < k + 1 → leadsL.getD j [] ≠ bs s) := by
     intro j hjk
     by_cases e : j = k
     ·subst e; rw [← HMB.out]; exact heq
     ·exact hr.out j (by omega)
    clear heq
    go_wp2
    go_round
    case rel => exact ⟨k + 1, by omega, by go_num, H⟩
    case measure => simp [intOf]; omega
  ·have H : Hid (leadOf (bs s) = none) := leadOf_none _ (fun j hj => hr.out j (by omega))
   go_wp2
   go_ret2
   exact ⟨by rw [H.out]; rfl, rfl⟩
def AV : Array Value := (aheadL.flatMap signC).toArray
theorem ax0 (w : World) : (Instr.index 298 (.agg AV) (.int .i64 0)).run Tryz.prog w = .ok (.agg (signC (aheadL.getD 0 ([], 0))).toArray) w := by kernel_rfl
theorem ax1 (w : World) : (Instr.index 298 (.agg AV) (.int .i64 1)).run Tryz.prog w = .ok (.agg (signC (aheadL.getD 1 ([], 0))).toArray) w := by kernel_rfl
theorem index_ahead (k : Nat) (hk : k < 2) (w : World) : (Instr.index 298 (.agg AV) (.int .i64 k)).run Tryz.prog w = .ok (.agg (signC (aheadL.getD k ([], 0))).toArray) w := by
 match k, hk with
 | 0, _ => exact ax0 w
 | 1, _ => exact ax1 w
 | k + 2, h => omega
theorem codeAhead_at (k : Nat) (h : k < 2) : codeAhead (aheadL.getD k ([], 0)).1 = (aheadL.getD k ([], 0)).2 := by
 have : ∀ k : Fin 2, codeAhead (aheadL.getD k.val ([], 0)).1 = (aheadL.getD k.val ([], 0)).2 := by decide
 exact this ⟨k, h⟩
theorem codeAhead_none (s : Str) (h : ∀ j, j < 2 → (aheadL.getD j ([], 0)).1 ≠ s) : codeAhead s = 0 := by
 unfold codeAhead
 rw [if_neg (fun e => h 0 (by omega) e.symm), if_neg (fun e => h 1 (by omega) e.symm)]
set_option maxRecDepth 100000 in
set_option maxHeartbeats 1000000 in
theorem codeAhead_any (s : ByteArray) (w : World) (ht : Tabs w) : Calls Tryz.prog 246 #[.string s] w fun e w' => e = .returned (.int .i64 (codeAhead (bs s) : Nat)) ∧ Below w.heap.size w w' := by
 have hl : (loadVar 298 ⟨7, 0, none⟩).run Tryz.prog w = .ok (.agg AV) w := load_tab 298 4 w 7 _ (by kernel_rfl) (by kernel_rfl) (by decide) ht.ahead
 clear ht
 go_enter Tryz.func246, Tryz.ntmps246
 go_wp2_with (refine wpList_load_eq rfl 298 (.global 7) rfl ⟨7, 0, none⟩ rfl (.agg AV) hl ?_; clear hl)
 go_loopg [6] 2 (fun g i wr => ∃ k : Nat, g = 2 - k ∧ k ≤ 2 ∧ i = .int .i64 k ∧ Hid (∀ j, j < k → (aheadL.getD j ([], 0)).1 ≠ bs s) ∧ Below w.heap.size w wr)
 case atStart => exact ⟨0, by omega, by omega, rfl, fun j hj => absurd hj (by omega), Below.refl _ _⟩
 case round =>
  obtain ⟨k, rfl, hk, rfl, hr, hbw⟩ := hrel
  have hwb := hbw.size
  by_cases hlt : k < 2
  ·obtain ⟨mb, c, hmb, hc⟩ : ∃ (mb : ByteArray) (c : Nat), mb = ⟨(aheadL.getD k ([], 0)).1.toArray⟩ ∧ c = (aheadL.getD k ([], 0)).2 := ⟨_, _, rfl, rfl⟩
   have hix : ∀ w, (Instr.index 298 (.agg AV) (.int .i64 k)).run Tryz.prog w = .ok (.agg #[.string mb, .int .i64 c]) w := by
    intro w; rw [hmb, hc]; exact index_ahead k hlt w
   have HMB : Hid (bs mb = (aheadL.getD k ([], 0)).1) := by
    show _ = _; rw [hmb]
   have HC : Hid (c = (aheadL.getD k ([], 0)).2) := hc
   clear hmb hc
   by_cases heq : bs mb = bs s
   ·have h1 := str_yes mb s heq
    have H : Hid (codeAhead (bs s) = c) := by rw [Hid, ← heq, HMB.out, HC.out]; exact codeAhead_at k hlt
    clear heq
    go_wp2
    go_ret
    exact ⟨ret_int (by rw [H.out]), hbw.alloc hwb _⟩
   ·have h1 := str_no mb s heq
    have H : Hid (∀ j, j < k + 1 → (aheadL.getD j ([], 0)).1 ≠ bs s) := by
     intro j hjk
     by_cases e : j = k
     ·subst e; rw [← HMB.out]; exact heq
     ·exact hr.out j (by omega)
    clear heq
    go_wp2
    go_roundg (2 - (k + 1))
    case measure => omega
    case rel => exact ⟨k + 1, rfl, by omega, by go_num, H, hbw.alloc hwb _⟩
  ·have H : Hid (codeAhead (bs s) = 0) := codeAhead_none _ (fun j hj => hr.out j (by omega))
   go_wp2
   go_ret
   exact ⟨ret_int (by rw [H.out]; rfl), hbw⟩
def BV (t : Nat) : Array Value := ((betweenL.getD t []).flatMap signC).toArray
def sgn (t k : Nat) : Str × Nat := (betweenL.getD t []).getD k ([], 0)
theorem bx00 (w : World) : (Instr.index 299 (.agg (BV 0)) (.int .i64 0)).run Tryz.prog w = .ok (.agg #[sv (sgn 0 0).1, .int .i64 (sgn 0 0).2]) w := by kernel_rfl
theorem bx01 (w : World) : (Instr.index 299 (.agg (BV 0)) (.int .i64 1)).run Tryz.prog w = .ok (.agg #[sv (sgn 0 1).1, .int .i64 (sgn 0 1).2]) w := by kernel_rfl
theorem bx02 (w : World) : (Instr.index 299 (.agg (BV 0)) (.int .i64 2)).run Tryz.prog w = .ok (.agg #[sv (sgn 0 2).1, .int .i64 (sgn 0 2).2]) w := by kernel_rfl
theorem bx03 (w : World) : (Instr.index 299 (.agg (BV 0)) (.int .i64 3)).run Tryz.prog w = .ok (.agg #[sv (sgn 0 3).1, .int .i64 (sgn 0 3).2]) w := by kernel_rfl
theorem bx10 (w : World) : (Instr.index 299 (.agg (BV 1)) (.int .i64 0)).run Tryz.prog w = .ok (.agg #[sv (sgn 1 0).1, .int .i64 (sgn 1 0).2]) w := by kernel_rfl
theorem bx11 (w : World) : (Instr.index 299 (.agg (BV 1)) (.int .i64 1)).run Tryz.prog w = .ok (.agg #[sv (sgn 1 1).1, .int .i64 (sgn 1 1).2]) w := by kernel_rfl
theorem bx12 (w : World) : (Instr.index 299 (.agg (BV 1)) (.int .i64 2)).run Tryz.prog w = .ok (.agg #[sv (sgn 1 2).1, .int .i64 (sgn 1 2).2]) w := by kernel_rfl
theorem bx13 (w : World) : (Instr.index 299 (.agg (BV 1)) (.int .i64 3)).run Tryz.prog w = .ok (.agg #[sv (sgn 1 3).1, .int .i64 (sgn 1 3).2]) w := by kernel_rfl
theorem bx20 (w : World) : (Instr.index 299 (.agg (BV 2)) (.int .i64 0)).run Tryz.prog w = .ok (.agg #[sv (sgn 2 0).1, .int .i64 (sgn 2 0).2]) w := by kernel_rfl
theorem bx21 (w : World) : (Instr.index 299 (.agg (BV 2)) (.int .i64 1)).run Tryz.prog w = .ok (.agg #[sv (sgn 2 1).1, .int .i64 (sgn 2 1).2]) w := by kernel_rfl
theorem bx22 (w : World) : (Instr.index 299 (.agg (BV 2)) (.int .i64 2)).run Tryz.prog w = .ok (.agg #[sv (sgn 2 2).1, .int .i64 (sgn 2 2).2]) w := by kernel_rfl
theorem bx23 (w : World) : (Instr.index 299 (.agg (BV 2)) (.int .i64 3)).run Tryz.prog w = .ok (.agg #[sv (sgn 2 3).1, .int .i64 (sgn 2 3).2]) w := by kernel_rfl
theorem bx30 (w : World) : (Instr.index 299 (.agg (BV 3)) (.int .i64 0)).run Tryz.prog w = .ok (.agg #[sv (sgn 3 0).1, .int .i64 (sgn 3 0).2]) w := by kernel_rfl
theorem bx31 (w : World) : (Instr.index 299 (.agg (BV 3)) (.int .i64 1)).run Tryz.prog w = .ok (.agg #[sv (sgn 3 1).1, .int .i64 (sgn 3 1).2]) w := by kernel_rfl
theorem bx32 (w : World) : (Instr.index 299 (.agg (BV 3)) (.int .i64 2)).run Tryz.prog w = .ok (.agg #[sv (sgn 3 2).1, .int .i64 (sgn 3 2).2]) w := by kernel_rfl
theorem bx33 (w : World) : (Instr.index 299 (.agg (BV 3)) (.int .i64 3)).run Tryz.prog w = .ok (.agg #[sv (sgn 3 3).1, .int .i64 (sgn 3 3).2]) w := by kernel_rfl
theorem bx40 (w : World) : (Instr.index 299 (.agg (BV 4)) (.int .i64 0)).run Tryz.prog w = .ok (.agg #[sv (sgn 4 0).1, .int .i64 (sgn 4 0).2]) w := by kernel_rfl
theorem bx41 (w : World) : (Instr.index 299 (.agg (BV 4)) (.int .i64 1)).run Tryz.prog w = .ok (.agg #[sv (sgn 4 1).1, .int .i64 (sgn 4 1).2]) w := by kernel_rfl
theorem bx42 (w : World) : (Instr.index 299 (.agg (BV 4)) (.int .i64 2)).run Tryz.prog w = .ok (.agg #[sv (sgn 4 2).1, .int .i64 (sgn 4 2).2]) w := by kernel_rfl
theorem bx43 (w : World) : (Instr.index 299 (.agg (BV 4)) (.int .i64 3)).run Tryz.prog w = .ok (.agg #[sv (sgn 4 3).1, .int .i64 (sgn 4 3).2]) w := by kernel_rfl
theorem index_row (t k : Nat) (ht : t < 5) (hk : k < 4) (w : World) : (Instr.index 299 (.agg (BV t)) (.int .i64 k)).run Tryz.prog w = .ok (.agg #[sv (sgn t k).1, .int .i64 (sgn t k).2]) w := by
 match t, ht, k, hk with
 | 0, _, 0, _ => exact bx00 w
 | 0, _, 1, _ => exact bx01 w
 | 0, _, 2, _ => exact bx02 w
 | 0, _, 3, _ => exact bx03 w
 | 1, _, 0, _ => exact bx10 w
 | 1, _, 1, _ => exact bx11 w
 | 1, _, 2, _ => exact bx12 w
 | 1, _, 3, _ => exact bx13 w
 | 2, _, 0, _ => exact bx20 w
 | 2, _, 1, _ => exact bx21 w
 | 2, _, 2, _ => exact bx22 w
 | 2, _, 3, _ => exact bx23 w
 | 3, _, 0, _ => exact bx30 w
 | 3, _, 1, _ => exact bx31 w
 | 3, _, 2, _ => exact bx32 w
 | 3, _, 3, _ => exact bx33 w
 | 4, _, 0, _ => exact bx40 w
 | 4, _, 1, _ => exact bx41 w
 | 4, _, 2, _ => exact bx42 w
 | 4, _, 3, _ => exact bx43 w
 | t + 5, h, _, _ => omega
 | _, _, k + 4, h => omega
theorem codeAt_at (t k : Nat) (ht : t < 5) (h : k < 4) (h0 : (sgn t k).2 ≠ 0) : codeAt t (sgn t k).1 = (sgn t k).2 := by
 have : ∀ (t : Fin 5) (k : Fin 4), (sgn t.val k.val).2 ≠ 0 → codeAt t.val (sgn t.val k.val).1 = (sgn t.val k.val).2 := by decide
 exact this ⟨t, ht⟩ ⟨k, h⟩ h0
theorem codeIn_none : ∀ (l : List (Str × Nat)) (s : Str), (∀ p ∈ l, p.2 ≠ 0 → p.1 ≠ s) → (∀ p ∈ l, p.2 ≠ 0) → codeIn l s = 0 := by
 intro l
 induction l with
 | nil => intro s _ _; rfl
 | cons p r ih =>
  intro s h h0
  obtain ⟨t, c⟩ := p
  rw [codeIn, if_neg (h (t, c) (by simp) (h0 (t, c) (by simp)))]
  exact ih s (fun p hp => h p (by simp [hp])) (fun p hp => h0 p (by simp [hp]))
theorem signs_pos : ∀ (t : Fin 5) (p : Str × Nat), p ∈ signs.getD t.val [] → p.2 ≠ 0 := by decide
theorem signs_sgn : ∀ (t : Fin 5) (p : Str × Nat), p ∈ signs.getD t.val [] → ∃ k : Fin 4, p = sgn t.val k.val := by decide
theorem codeAt_none (t : Nat) (ht : t < 5) (s : Str) (h : ∀ k, k < 4 → (sgn t k).2 ≠ 0 → (sgn t k).1 ≠ s) : codeAt t s = 0 := by
 refine codeIn_none _ s (fun p hp _ => ?_) (signs_pos ⟨t, ht⟩)
 obtain ⟨k, rfl⟩ := signs_sgn ⟨t, ht⟩ p hp
 exact h k.val k.isLt (signs_pos ⟨t, ht⟩ _ hp)
theorem row_cells (t : Nat) (ht : t < 5) : ∀ j v, ((betweenL.getD t []).flatMap signC)[j]? = some v → (betweenL.flatMap (·.flatMap signC))[t * 8 + j]? = some v := by
 intro j v hv
 have hj : j < 8 := by
  have := (List.getElem?_eq_some_iff.1 hv).1
  have e : ∀ t : Fin 5, ((betweenL.getD t.val []).flatMap signC).length = 8 := by decide
  rw [e ⟨t, ht⟩] at this; exact this
 rw [← hv]
 match t, ht, j, hj with
 | 0, _, 0, _ => rfl
 | 0, _, 1, _ => rfl
 | 0, _, 2, _ => rfl
 | 0, _, 3, _ => rfl
 | 0, _, 4, _ => rfl
 | 0, _, 5, _ => rfl
 | 0, _, 6, _ => rfl
 | 0, _, 7, _ => rfl
 | 1, _, 0, _ => rfl
 | 1, _, 1, _ => rfl
 | 1, _, 2, _ => rfl
 | 1, _, 3, _ => rfl
 | 1, _, 4, _ => rfl
 | 1, _, 5, _ => rfl
 | 1, _, 6, _ => rfl
 | 1, _, 7, _ => rfl
 | 2, _, 0, _ => rfl
 | 2, _, 1, _ => rfl
 | 2, _, 2, _ => rfl
 | 2, _, 3, _ => rfl
 | 2, _, 4, _ => rfl
 | 2, _, 5, _ => rfl
 | 2, _, 6, _ => rfl
 | 2, _, 7, _ => rfl
 | 3, _, 0, _ => rfl
 | 3, _, 1, _ => rfl
 | 3, _, 2, _ => rfl
 | 3, _, 3, _ => rfl
 | 3, _, 4, _ => rfl
 | 3, _, 5, _ => rfl
 | 3, _, 6, _ => rfl
 | 3, _, 7, _ => rfl
 | 4, _, 0, _ => rfl
 | 4, _, 1, _ => rfl
 | 4, _, 2, _ => rfl
 | 4, _, 3, _ => rfl
 | 4, _, 4, _ => rfl
 | 4, _, 5, _ => rfl
 | 4, _, 6, _ => rfl
 | 4, _, 7, _ => rfl
 | t + 5, h, _, _ => omega
 | _, _, j + 8, h => omega
set_option maxRecDepth 100000 in
theorem load_row {w : World} (h : Tabs w) (t : Nat) (ht : t < 5) : (loadVar 299 ⟨8, t * 8, none⟩).run Tryz.prog w = .ok (.agg (BV t)) w :=
 load_cells 299 8 w 8 (t * 8) _ (by kernel_rfl) (by kernel_rfl) (by have e : ∀ t : Fin 5, ((betweenL.getD t.val []).flatMap signC).length = 8 := by decide
                                                                    exact e ⟨t, ht⟩) (fun j v hv => h.between _ v (row_cells t ht j v hv))
set_option maxRecDepth 100000 in
set_option maxHeartbeats 2000000 in
theorem codeBetween_any (s : ByteArray) (t : Nat) (ht5 : t < 5) (w : World) (ht : Tabs w) : Calls Tryz.prog 245 #[.string s, .int .i64 t] w fun e w' => e = .returned (.int .i64 (codeAt t (bs s) : Nat)) ∧ Below w.heap.size w w' := by
 have hl := load_row ht t ht5
 have hcl : ∀ B : List Value, B = betweenL.flatMap (·.flatMap signC) → True := fun _ _ => trivial
 clear ht hcl
 go_enter Tryz.func245, Tryz.ntmps245
 go_wp2_with (refine wpList_load_eq rfl 299 (.tmp 8) rfl ⟨8, t * 8, none⟩ rfl (.agg (BV t)) hl ?_; clear hl)
 go_loopg [10] 4 (fun g i wr => ∃ k : Nat, g = 4 - k ∧ k ≤ 4 ∧ i = .int .i64 k ∧ Hid (∀ j, j < k → (sgn t j).2 ≠ 0 → (sgn t j).1 ≠ bs s) ∧ Below w.heap.size w wr)
 case atStart => exact ⟨0, by omega, by omega, rfl, fun j hj => absurd hj (by omega), Below.refl _ _⟩
 case round =>
  obtain ⟨k, rfl, hk, rfl, hr, hbw⟩ := hrel
  have hwb := hbw.size
  by_cases hlt : k < 4
  ·obtain ⟨mb, c, hmb, hc⟩ : ∃ (mb : ByteArray) (c : Nat), mb = ⟨(sgn t k).1.toArray⟩ ∧ c = (sgn t k).2 := ⟨_, _, rfl, rfl⟩
   have hix : ∀ w, (Instr.index 299 (.agg (BV t)) (.int .i64 k)).run Tryz.prog w = .ok (.agg #[.string mb, .int .i64 c]) w := by
    intro w; rw [hmb, hc]; exact index_row t k ht5 hlt w
   have HMB : Hid (bs mb = (sgn t k).1) := by
    show _ = _; rw [hmb]
   have HC : Hid (c = (sgn t k).2) := hc
   clear hmb hc
   by_cases hc0 : c = 0
   ·subst hc0
    have H : Hid (∀ j, j < k + 1 → (sgn t j).2 ≠ 0 → (sgn t j).1 ≠ bs s) := by
     intro j hjk
     by_cases e : j = k
     ·subst e; intro h; exact absurd HC.out.symm h
     ·exact hr.out j (by omega)
    go_wp2
    go_roundg (4 - (k + 1))
    case measure => omega
    case rel => exact ⟨k + 1, rfl, by omega, by go_num, H, hbw.alloc hwb _⟩
   ·have hc1 : ¬ (c : Int) = 0 := by omega
    have hc2 : ((c : Int) != 0) = true := by simpa using hc1
    by_cases heq : bs mb = bs s
    ·have h1 := str_yes mb s heq
     have H : Hid (codeAt t (bs s) = c) := by rw [Hid, ← heq, HMB.out, HC.out]; exact codeAt_at t k ht5 hlt (by rw [← HC.out]; exact hc0)
     clear heq
     go_wp2
     go_ret
     exact ⟨ret_int (by rw [H.out]), hbw.alloc hwb _⟩
    ·have h1 := str_no mb s heq
     have H : Hid (∀ j, j < k + 1 → (sgn t j).2 ≠ 0 → (sgn t j).1 ≠ bs s) := by
      intro j hjk
      by_cases e : j = k
      ·subst e; intro _; rw [← HMB.out]; exact heq
      ·exact hr.out j (by omega)
     clear heq
     go_wp2
     go_roundg (4 - (k + 1))
     case measure => omega
     case rel => exact ⟨k + 1, rfl, by omega, by go_num, H, hbw.alloc hwb _⟩
  ·have H : Hid (codeAt t (bs s) = 0) := codeAt_none t ht5 _ (fun j hj => hr.out j (by omega))
   go_wp2
   go_ret
   exact ⟨ret_int (by rw [H.out]; rfl), hbw⟩
end Go.Proofs.YtpogmfliojcnjaaGreatDoor
