/- read: the token that begins at a place. -/
import Derived.Test.YtiihgnagjemikaaGreatDoorVShelf
import Derived.Laws.EntriesVeiled
import Derived.Deep.AppendLies
import Derived.Test.YtiihgnagjemikaaGreatDoorVUk
namespace Go.Proofs.YtiihgnagjemikaaGreatDoor
open Go.RowKit

def markS (m : List UInt8) : Value := .string ⟨m.toArray⟩
/-- the marks lie where the program laid them -/
def Marks (w : World) : Prop := ∀ i, i < 21 → w.cell? ⟨1, i, none⟩ = some (markS (Lx.marks.getD i []))

set_option maxRecDepth 100000 in
set_option maxHeartbeats 800000 in
theorem fault_any (kind len n : Nat) (w : World) (h1 : kind ≤ 3) (h2 : len ≤ 1000000) (h3 : n ≤ 600) :
    Calls Tryz.prog 55 #[.int .i64 kind, .int .i64 len, .int .i64 n] w fun e w' => e = .returned (.int .i64 (Lx.flt kind len n : Nat)) ∧ w' = w := by
  by_cases h : kind = 0
  · subst h
    go_enter Tryz.func55, Tryz.ntmps55
    go_wp2
    go_ret
    exact ⟨rfl, rfl⟩
  · have hk : ((kind : Int) == 0) = false := by simp; omega
    have hk' : ¬ (kind : Int) = 0 := by omega
    by_cases h4 : kind = 2
    · subst h4
      by_cases h5 : 18 < len
      · go_enter Tryz.func55, Tryz.ntmps55
        go_wp2
        go_ret
        exact ⟨ret_int (by rw [Lx.flt, if_neg (by decide), if_pos ⟨rfl, h5⟩]; rfl), rfl⟩
      · by_cases h6 : 600 ≤ n
        all_goals
          go_enter Tryz.func55, Tryz.ntmps55
          go_wp2
          go_ret
          exact ⟨ret_int (by rw [Lx.flt, if_neg (by decide), if_neg (fun h => h5 h.2)]; first | (rw [if_pos h6]; rfl) | (rw [if_neg h6]; rfl)), rfl⟩
    · have h4' : ((kind : Int) == 2) = false := by simp; omega
      have h4'' : ¬ (kind : Int) = 2 := by omega
      by_cases h6 : 600 ≤ n
      all_goals
        go_enter Tryz.func55, Tryz.ntmps55
        go_wp2
        go_ret
        exact ⟨ret_int (by rw [Lx.flt, if_neg h, if_neg (fun h => h4 h.1)]; first | (rw [if_pos h6]; rfl) | (rw [if_neg h6]; rfl)), rfl⟩

/-- the marks, as an array's cells -/
def MV : Array Value := (Lx.marks.map markS).toArray
theorem MV_size : MV.size = 21 := by decide
theorem load_marks {w : World} (hm : Marks w) : (loadVar 161 ⟨1, 0, none⟩).run Tryz.prog w = .ok (.agg MV) w := by
  have hl := run_loadCells_list (P := Tryz.prog) w ⟨1, 0, none⟩ (Lx.marks.map markS) (fun j v hv => by
    have hadd : (⟨1, 0, none⟩ : Addr).add j = ⟨1, j, none⟩ := by unfold Addr.add; split <;> simp_all
    have hj : j < 21 := by
      have := (List.getElem?_eq_some_iff.1 hv).1; simpa [Lx.marks] using this
    rw [hadd, hm j hj, ← hv]
    simp [List.getD, Lx.marks.getElem?_eq_getElem (show j < Lx.marks.length from hj)])
  have hagg : (isAgg 161).run Tryz.prog w = .ok true w := by kernel_rfl
  have hsz : (sizeOf 161).run Tryz.prog w = .ok 21 w := by kernel_rfl
  have hl' : (loadCells ⟨1, 0, none⟩ 21).run Tryz.prog w = .ok (Lx.marks.map markS).toArray w := hl
  unfold loadVar
  rw [Sem.run_bind, hagg]
  simp only [Result.andThen, if_true, Sem.run_bind, hsz, hl']
  rfl
theorem ix0 (w : World) : (Instr.index 161 (.agg MV) (.int .i64 0)).run Tryz.prog w = .ok (markS (Lx.marks.getD 0 [])) w := by kernel_rfl
theorem ix1 (w : World) : (Instr.index 161 (.agg MV) (.int .i64 1)).run Tryz.prog w = .ok (markS (Lx.marks.getD 1 [])) w := by kernel_rfl
theorem ix2 (w : World) : (Instr.index 161 (.agg MV) (.int .i64 2)).run Tryz.prog w = .ok (markS (Lx.marks.getD 2 [])) w := by kernel_rfl
theorem ix3 (w : World) : (Instr.index 161 (.agg MV) (.int .i64 3)).run Tryz.prog w = .ok (markS (Lx.marks.getD 3 [])) w := by kernel_rfl
theorem ix4 (w : World) : (Instr.index 161 (.agg MV) (.int .i64 4)).run Tryz.prog w = .ok (markS (Lx.marks.getD 4 [])) w := by kernel_rfl
theorem ix5 (w : World) : (Instr.index 161 (.agg MV) (.int .i64 5)).run Tryz.prog w = .ok (markS (Lx.marks.getD 5 [])) w := by kernel_rfl
theorem ix6 (w : World) : (Instr.index 161 (.agg MV) (.int .i64 6)).run Tryz.prog w = .ok (markS (Lx.marks.getD 6 [])) w := by kernel_rfl
theorem ix7 (w : World) : (Instr.index 161 (.agg MV) (.int .i64 7)).run Tryz.prog w = .ok (markS (Lx.marks.getD 7 [])) w := by kernel_rfl
theorem ix8 (w : World) : (Instr.index 161 (.agg MV) (.int .i64 8)).run Tryz.prog w = .ok (markS (Lx.marks.getD 8 [])) w := by kernel_rfl
theorem ix9 (w : World) : (Instr.index 161 (.agg MV) (.int .i64 9)).run Tryz.prog w = .ok (markS (Lx.marks.getD 9 [])) w := by kernel_rfl
theorem ix10 (w : World) : (Instr.index 161 (.agg MV) (.int .i64 10)).run Tryz.prog w = .ok (markS (Lx.marks.getD 10 [])) w := by kernel_rfl
theorem ix11 (w : World) : (Instr.index 161 (.agg MV) (.int .i64 11)).run Tryz.prog w = .ok (markS (Lx.marks.getD 11 [])) w := by kernel_rfl
theorem ix12 (w : World) : (Instr.index 161 (.agg MV) (.int .i64 12)).run Tryz.prog w = .ok (markS (Lx.marks.getD 12 [])) w := by kernel_rfl
theorem ix13 (w : World) : (Instr.index 161 (.agg MV) (.int .i64 13)).run Tryz.prog w = .ok (markS (Lx.marks.getD 13 [])) w := by kernel_rfl
theorem ix14 (w : World) : (Instr.index 161 (.agg MV) (.int .i64 14)).run Tryz.prog w = .ok (markS (Lx.marks.getD 14 [])) w := by kernel_rfl
theorem ix15 (w : World) : (Instr.index 161 (.agg MV) (.int .i64 15)).run Tryz.prog w = .ok (markS (Lx.marks.getD 15 [])) w := by kernel_rfl
theorem ix16 (w : World) : (Instr.index 161 (.agg MV) (.int .i64 16)).run Tryz.prog w = .ok (markS (Lx.marks.getD 16 [])) w := by kernel_rfl
theorem ix17 (w : World) : (Instr.index 161 (.agg MV) (.int .i64 17)).run Tryz.prog w = .ok (markS (Lx.marks.getD 17 [])) w := by kernel_rfl
theorem ix18 (w : World) : (Instr.index 161 (.agg MV) (.int .i64 18)).run Tryz.prog w = .ok (markS (Lx.marks.getD 18 [])) w := by kernel_rfl
theorem ix19 (w : World) : (Instr.index 161 (.agg MV) (.int .i64 19)).run Tryz.prog w = .ok (markS (Lx.marks.getD 19 [])) w := by kernel_rfl
theorem ix20 (w : World) : (Instr.index 161 (.agg MV) (.int .i64 20)).run Tryz.prog w = .ok (markS (Lx.marks.getD 20 [])) w := by kernel_rfl
theorem index_marks (k : Nat) (hk : k < 21) (w : World) : (Instr.index 161 (.agg MV) (.int .i64 k)).run Tryz.prog w = .ok (markS (Lx.marks.getD k [])) w := by
  match k, hk with
  | 0, _ => exact ix0 w
  | 1, _ => exact ix1 w
  | 2, _ => exact ix2 w
  | 3, _ => exact ix3 w
  | 4, _ => exact ix4 w
  | 5, _ => exact ix5 w
  | 6, _ => exact ix6 w
  | 7, _ => exact ix7 w
  | 8, _ => exact ix8 w
  | 9, _ => exact ix9 w
  | 10, _ => exact ix10 w
  | 11, _ => exact ix11 w
  | 12, _ => exact ix12 w
  | 13, _ => exact ix13 w
  | 14, _ => exact ix14 w
  | 15, _ => exact ix15 w
  | 16, _ => exact ix16 w
  | 17, _ => exact ix17 w
  | 18, _ => exact ix18 w
  | 19, _ => exact ix19 w
  | 20, _ => exact ix20 w
  | k + 21, h => omega

theorem bs_extract (s : ByteArray) (a b : Nat) : bs (s.extract a b) = ((bs s).drop a).take (b - a) := by
  show (s.extract a b).data.toList = _
  rw [ByteArray.data_extract, Array.toList_extract]
theorem bs_from (s : ByteArray) (a : Nat) : bs (s.extract a s.size) = (bs s).drop a := by
  rw [bs_extract s a _, List.take_of_length_le (by simp)]
theorem hasPrefix_at (s mb : ByteArray) (a : Nat) (b : Bool) (w : World) (h : (bs mb).isPrefixOf ((bs s).drop a) = b) :
    Calls Tryz.prog 91 #[.string (s.extract a s.size), .string mb] w fun e w' => e = .returned (.bool b) ∧ w' = w := by
  refine (Tryz.strings_HasPrefix (s.extract a s.size) mb w).mono ?_
  rintro e w' ⟨rfl, rfl⟩
  exact ⟨by rw [← h, ← bs_from]; rfl, rfl⟩
theorem marks_drop (k : Nat) (h : k < 21) : Lx.marks.drop k = Lx.marks.getD k [] :: Lx.marks.drop (k + 1) := by
  have hl := h
  rw [List.drop_eq_getElem_cons hl, List.getD_eq_getElem?_getD, List.getElem?_eq_getElem hl]; rfl
theorem marks_pos (k : Nat) (h : k < 21) : 0 < (Lx.marks.getD k []).length := by
  have : ∀ k : Fin 21, 0 < (Lx.marks.getD k.val []).length := by decide
  exact this ⟨k, h⟩
theorem rd_mark (u : List UInt8) (c : UInt8) (hc : u.head? = some c) (hd : Lx.digit c = false) (hw : Lx.word c = false) : Lx.rd u = if Lx.mk u = 0 then (0, 0) else (3, Lx.mk u) := by
  cases u with
  | nil => simp at hc
  | cons x r => simp at hc; subst hc; rw [Lx.rd_cons, hd, hw]; rfl
theorem drop_head (s : ByteArray) (a : Nat) (h : a < s.size) : ((bs s).drop a).head? = some s[a] := by
  rw [List.head?_drop]; exact bs_at s a h
/-- a load whose answer is known -/
theorem wpList_load_eq {ops : Array Oper} {rest : List Oper} {o : Oper} {a : Act} {w : World} {Q : Exit → Act → World → Prop} (hgd : o.guard = none) (ty : TypeId) (x : Operand) (ho : o.op = .load ty x)
    (ad : Addr) (hx : a.eval x = .pointer (some ad)) (v : Value) (hl : (loadVar ty ad).run Tryz.prog w = .ok v w) (h : wpList Tryz.prog ops Q rest (a.put o.dst v) w) : wpList Tryz.prog ops Q (o :: rest) a w :=
  wpList_plain hgd fun K hK => by
    unfold Oper.wp execOp
    simp only [ho, hx, Instr.loadAt, Instr.sureAddr, Sem.run_bind, Sem.run_pure, Result.andThen_ok, hl]
    exact hK _ _ h

set_option maxRecDepth 100000 in
set_option maxHeartbeats 1600000 in
theorem read_mark (s : ByteArray) (a : Nat) (w : World) (hs : s.size ≤ 1000000) (ha : a < s.size) (hm : Marks w) (hd : Lx.digit s[a] = false) (hw : Lx.word s[a] = false) :
    Calls Tryz.prog 54 #[.string s, .int .i64 a] w fun e w' => e = .returned (.tuple #[.int .i64 (Lx.rd ((bs s).drop a)).1, .int .i64 ((a + (Lx.rd ((bs s).drop a)).2 : Nat) : Int)]) ∧ w' = w := by
  have hl := load_marks hm
  clear hm
  go_enter Tryz.func54, Tryz.ntmps54
  go_wp2_with (first | (refine wpList_load_eq rfl 161 (.global 1) rfl ⟨1, 0, none⟩ rfl (.agg MV) hl ?_; clear hl) | (go_at_call 89; refine (isDigit_any s[a] _).mono ?_; rintro e w' ⟨rfl, rfl⟩) | (go_at_call 90; refine (isWord_any s[a] _).mono ?_; rintro e w' ⟨rfl, rfl⟩))
  go_loop [25] (fun i => ∃ k : Nat, k ≤ 21 ∧ i = .int .i64 k ∧ Hid (Lx.mk ((bs s).drop a) = Lx.markIn (Lx.marks.drop k) ((bs s).drop a))) (fun i => 21 - (intOf i).toNat)
  case atStart => exact ⟨0, by omega, rfl, rfl⟩
  case round =>
    obtain ⟨k, hk, rfl, hr⟩ := hrel
    by_cases hlt : k < 21
    · obtain ⟨mb, hmb⟩ : ∃ mb : ByteArray, mb = ⟨(Lx.marks.getD k []).toArray⟩ := ⟨_, rfl⟩
      have hix : ∀ w, (Instr.index 161 (.agg MV) (.int .i64 k)).run Tryz.prog w = .ok (.string mb) w := by
        intro w; rw [hmb]; exact index_marks k hlt w
      have HMB : Hid (bs mb = Lx.marks.getD k []) := by
        show _ = _; rw [hmb]
      clear hmb
      have hpos := marks_pos k hlt
      have hlen : mb.size = (Lx.marks.getD k []).length := by rw [← HMB.out]; exact (bs_len mb).symm
      have hd2 := marks_drop k hlt
      have hrd := rd_mark _ _ (drop_head s a ha) hd hw
      by_cases hp : (bs mb).isPrefixOf ((bs s).drop a) = true
      · have hmk : Lx.mk ((bs s).drop a) = mb.size := by
          rw [hr.out, hd2, Lx.markIn, ← HMB.out, if_pos hp, bs_len]
        have hle : mb.size ≤ s.size - a := by
          have := (List.isPrefixOf_iff_prefix.1 hp).length_le; rw [bs_len, List.length_drop, bs_len] at this; exact this
        have H : Hid (Lx.rd ((bs s).drop a) = (3, mb.size)) := by
          show _ = _; rw [hrd, hmk, if_neg (by omega)]
        clear hrd hmk hd2 hpos hlen
        go_wp2_with (go_at_call 91; refine (hasPrefix_at s mb a true _ hp).mono ?_; rintro e w' ⟨rfl, rfl⟩)
        go_ret2
        exact ⟨by rw [H.out]; simp, rfl⟩
      · have hp' : (bs mb).isPrefixOf ((bs s).drop a) = false := Bool.eq_false_iff.2 hp
        have H : Hid (Lx.mk ((bs s).drop a) = Lx.markIn (Lx.marks.drop (k + 1)) ((bs s).drop a)) := by
          show _ = _; rw [hr.out, hd2, Lx.markIn, ← HMB.out, hp']; rfl
        clear hrd hd2 hpos hlen hp
        go_wp2_with (go_at_call 91; refine (hasPrefix_at s mb a false _ hp').mono ?_; rintro e w' ⟨rfl, rfl⟩)
        go_round
        case rel => exact ⟨k + 1, by omega, by go_num, H⟩
        case measure => simp [intOf]; omega
    · have hk21 : k = 21 := by omega
      subst hk21
      have hrd := rd_mark _ _ (drop_head s a ha) hd hw
      have H : Hid (Lx.rd ((bs s).drop a) = (0, 0)) := by
        show _ = _; rw [hrd, hr.out]; rfl
      clear hrd
      go_wp2
      go_ret2
      exact ⟨by rw [H.out]; simp, rfl⟩

set_option maxRecDepth 100000 in
set_option maxHeartbeats 1600000 in
theorem read_any (s : ByteArray) (a : Nat) (w : World) (hs : s.size ≤ 1000000) (ha : a < s.size) (hm : Marks w) :
    Calls Tryz.prog 54 #[.string s, .int .i64 a] w fun e w' => e = .returned (.tuple #[.int .i64 (Lx.rd ((bs s).drop a)).1, .int .i64 ((a + (Lx.rd ((bs s).drop a)).2 : Nat) : Int)]) ∧ w' = w := by
  have hc : (bs s).drop a = s[a] :: (bs s).drop (a + 1) := by
    rw [List.drop_eq_getElem_cons (by rw [bs_len]; exact ha)]; rfl
  by_cases hd : Lx.digit s[a] = true
  · have H : Hid (Lx.rd ((bs s).drop a) = (2, Lx.wh Lx.digit ((bs s).drop a))) := by
      show _ = _; rw [hc, Lx.rd_cons, if_pos hd]
    clear hc
    go_enter Tryz.func54, Tryz.ntmps54
    go_wp2_with (first | (go_at_call 89; refine (isDigit_any s[a] _).mono ?_; rintro e w' ⟨rfl, rfl⟩) | (go_at_call 87; refine (pass_digit s a _ hs (by omega)).mono ?_; rintro e w' ⟨rfl, rfl⟩))
    go_ret2
    exact ⟨by rw [H.out]; rfl, rfl⟩
  · have hd' : Lx.digit s[a] = false := by simpa using hd
    by_cases hw : Lx.word s[a] = true
    · have H : Hid (Lx.rd ((bs s).drop a) = (1, Lx.wh Lx.word ((bs s).drop a))) := by
        show _ = _; rw [hc, Lx.rd_cons, if_neg hd, if_pos hw]
      clear hc hd
      go_enter Tryz.func54, Tryz.ntmps54
      go_wp2_with (first | (go_at_call 89; refine (isDigit_any s[a] _).mono ?_; rintro e w' ⟨rfl, rfl⟩) | (go_at_call 90; refine (isWord_any s[a] _).mono ?_; rintro e w' ⟨rfl, rfl⟩) | (go_at_call 87; refine (pass_word s a _ hs (by omega)).mono ?_; rintro e w' ⟨rfl, rfl⟩))
      go_ret2
      exact ⟨by rw [H.out]; rfl, rfl⟩
    · exact read_mark s a w hs ha hm hd' (by simpa using hw)
end Go.Proofs.YtiihgnagjemikaaGreatDoor
/- Split: the program's tokens of a text, or where it has none. -/
namespace Go.Proofs.YtiihgnagjemikaaGreatDoor
open Go.RowKit

def tokCells (t : Lx.Tok) : List Value := [.int .i64 t.kind, .string ⟨t.text.toArray⟩, .int .i64 t.place]
def cells (l : List Lx.Tok) : List Value := l.flatMap tokCells
theorem cells_snoc (l : List Lx.Tok) (t : Lx.Tok) : cells (l ++ [t]) = cells l ++ tokCells t := by simp [cells]
theorem own_below {w w' : World} {B e size n : Nat} {v : Value} {xs : List Value} (h : w.ownsRow B e size v n xs) (hb : Below w.heap.size w w') : w'.ownsRow B e size v n xs := by
  refine ⟨h.1, ?_⟩
  rcases h.2 with hn | ⟨g, cap, cur, rfl, hg, hgg, rest⟩
  · exact .inl hn
  · exact .inr ⟨g, cap, cur, rfl, hg, by rw [hb.block g (Array.getElem?_eq_some_iff.1 hgg).1]; exact hgg, rest⟩
theorem cell_three_new (w : World) (a b c : Value) (t : TypeId) : ∀ j u, [a, b, c][j]? = some u → (w.alloc (.cells #[a, b, c] t)).cell? ((⟨w.heap.size, 0, none⟩ : Addr).add j) = some u := by
  intro j u hj
  match j, hj with
  | 0, hj => simp at hj; subst hj; simp [Addr.add]
  | 1, hj => simp at hj; subst hj; simp [Addr.add]
  | 2, hj => simp at hj; subst hj; simp [Addr.add]
  | j + 3, hj => simp at hj
theorem lt_of_cell {w : World} {b o : Nat} {v : Value} (h : w.cell? ⟨b, o, none⟩ = some v) : b < w.heap.size := by
  rcases Nat.lt_or_ge b w.heap.size with h' | h'
  · exact h'
  · simp [World.cell?, Array.getElem?_eq_none h'] at h
theorem Marks.lt {w : World} (h : Marks w) : 1 < w.heap.size := lt_of_cell (h 0 (by decide))
theorem Marks.below {w w' : World} {B : Nat} (h : Marks w) (hB : w.heap.size ≤ B) (hb : Below B w w') : Marks w' := fun i hi => by
  rw [hb.cell (p := ⟨1, i, none⟩) (Nat.lt_of_lt_of_le h.lt hB)]; exact h i hi
/-- what lies above w's memory, seen from a later world -/
theorem Below.up {w w1 w2 : World} (h : Below w.heap.size w w1) (k : Below w1.heap.size w1 w2) : Below w.heap.size w w2 := h.trans (k.mono h.size)

theorem Tryz.info126 : (Tryz.prog.info? 126).map (fun i => (i.zero, i.size, i.bytes)) = some (some (.agg #[.int .i64 0, .string ⟨#[]⟩, .int .i64 0]), 3, 32) := by kernel_rfl

theorem clone_any (s : ByteArray) (w : World) (hs : s.size ≤ 1000000) :
    Calls Tryz.prog 56 #[.string s] w fun e w' => e = .returned (.string s) ∧ Below w.heap.size w w' := by
  go_enter Tryz.func56, Tryz.ntmps56
  go_wp2_with (go_at_call 92; refine (Tryz.stringslite_Clone s _ (by omega)).mono ?_; rintro e w' ⟨rfl, hb⟩)
  go_ret
  exact ⟨rfl, hb⟩

/-- what Split answers: tokens, or what is wrong, and where -/
def Split (s : ByteArray) (w : World) (v err : Value) (w' : World) : Prop :=
  Below w.heap.size w w' ∧
  ((∃ l, Lx.Ok (bs s) l ∧ err = .nilIface ∧ w'.ownsRow w.heap.size 126 3 v (l.length + 1) (cells (l ++ [⟨4, [], s.size⟩]))) ∨
   (∃ e q g, Lx.Bad (bs s) e q ∧ q ≤ s.size ∧ v = .slice none 0 0 ∧ err = .iface 45 (.pointer (some ⟨g, 0, none⟩)) ∧ w.heap.size ≤ g ∧ w'.heap[g]? = some (.cells #[.int .i64 e, .int .i64 q] 48 (0, 0))))

theorem owns_shape {w : World} {B e size n : Nat} {v : Value} {xs : List Value} (h : w.ownsRow B e size v n xs) : ∃ ao cap, v = .slice ao n cap := by
  rcases h.2 with ⟨rfl, rfl⟩ | ⟨g, cap, cur, rfl, _⟩
  · exact ⟨none, 0, rfl⟩
  · exact ⟨_, cap, rfl⟩
theorem read_at (s : ByteArray) (a kd ln en : Nat) (w : World) (hs : s.size ≤ 1000000) (ha : a < s.size) (hm : Marks w) (h : Hid (Lx.rd ((bs s).drop a) = (kd, ln))) (he : Hid (en = a + ln)) :
    Calls Tryz.prog 54 #[.string s, .int .i64 a] w fun e w' => e = .returned (.tuple #[.int .i64 kd, .int .i64 en]) ∧ w' = w := by
  refine (read_any s a w hs ha hm).mono ?_
  rintro e w' ⟨rfl, rfl⟩
  exact ⟨by rw [h.out, he.out], rfl⟩
theorem extract_size (s : ByteArray) (a b : Nat) : (s.extract a b).size ≤ s.size := by
  rw [ByteArray.size_extract]; omega
theorem tok_one (a b : Int) (s : ByteArray) : ∀ u ∈ [Value.int .i64 a, .string s, .int .i64 b], u.oneCell' = true := by
  intro u hu; simp at hu; rcases hu with rfl | rfl | rfl <;> rfl
/-- what a token more does to the loop's relation -/
theorem split_step {s : ByteArray} {w wr w1 w2 : World} {l : List Lx.Tok} {k a kd ln en : Nat} {v v' : Value} {o : Obj} (hen : en = a + ln) (hto : Lx.To (bs s) l k) (hn : l.length ≤ 600) (ha : a = Lx.skipTo (bs s) k) (hlt : a < s.size)
    (hrd : Lx.rd ((bs s).drop a) = (kd, ln)) (hf : Lx.flt kd ln l.length = 0) (hbw : Below w.heap.size w wr) (hown : wr.ownsRow w.heap.size 126 3 v l.length (cells l)) (hb1 : Below wr.heap.size wr w1)
    (hown' : w2.ownsRow w.heap.size 126 3 v' (l.length + 1) (cells l ++ [.int .i64 kd, .string (s.extract a en), .int .i64 a])) (hg : (w1.alloc o).grownBy w2 v.ownBlock) :
    ∃ l' : List Lx.Tok, Lx.To (bs s) l' en ∧ l'.length ≤ 600 ∧ w2.ownsRow w.heap.size 126 3 v' l'.length (cells l') ∧ Below w.heap.size w w2 ∧ 0 < ln := by
  subst hen
  have h0 : kd ≠ 0 := by
    intro h; rw [h] at hf; simp [Lx.flt] at hf
  have h1 : ¬ (kd = 2 ∧ 18 < ln) := by
    intro h; rw [Lx.flt, if_neg h0, if_pos h] at hf; exact absurd hf (by decide)
  have h2 : ¬ 600 ≤ l.length := by
    intro h; rw [Lx.flt, if_neg h0, if_neg h1, if_pos h] at hf; exact absurd hf (by decide)
  have e1 : (Lx.rd ((bs s).drop a)).1 = kd := by rw [hrd]
  have e2 : (Lx.rd ((bs s).drop a)).2 = ln := by rw [hrd]
  have st := Lx.To_snoc hto ha (by rw [bs_len]; exact hlt) (by rw [e1]; exact h0) (by rw [e1, e2]; exact h1)
  rw [e1, e2] at st
  have hpos := Lx.rd_pos ((bs s).drop a) (by rw [e1]; exact h0)
  have hle := Lx.rd_le ((bs s).drop a)
  rw [e2] at hpos hle
  rw [List.length_drop, bs_len] at hle
  refine ⟨_, st, by simp; omega, ?_, ?_, hpos⟩
  · have ec : tokCells ⟨kd, ((bs s).drop a).take ln, a⟩ = [.int .i64 kd, .string (s.extract a (a + ln)), .int .i64 a] := by
      have : (⟨(((bs s).drop a).take ln).toArray⟩ : ByteArray) = s.extract a (a + ln) := by
        have hx := bs_extract s a (a + ln)
        rw [Nat.add_sub_cancel_left] at hx
        rw [← hx]
      simp only [tokCells, this]
    rw [cells_snoc, ec, List.length_append]
    exact hown'
  · refine Below.grown ((hbw.trans (hb1.mono hbw.size)).alloc ?_ _) hg ?_ ?_
    · exact Nat.le_trans hbw.size hb1.size
    · have := hbw.size; have := hb1.size; simp; omega
    · intro j hj; have := (hown.lt _ hj).1; omega

set_option maxRecDepth 100000 in
set_option maxHeartbeats 1000000 in
theorem split_any (s : ByteArray) (w : World) (hs : s.size ≤ 1000000) (hm : Marks w) :
    Calls Tryz.prog 30 #[.string s] w fun e w' => ∃ v err, e = .returned (.tuple #[v, err]) ∧ Split s w v err w' := by
  obtain ⟨i0, hi, hz0, hz1, hz2⟩ := info_parts Tryz.info126
  have hsk0 := Lx.skipTo_le (s := bs s) (k := 0) (by omega)
  rw [bs_len] at hsk0
  go_enter Tryz.func30, Tryz.ntmps30
  go_wp2_with (go_at_call 53; refine (skip_any s 0 _ hs (by omega)).mono ?_; rintro e w' ⟨rfl, hw⟩; obtain rfl := hw.symm)
  go_loopw [4, 5] (fun v i wr => ∃ (l : List Lx.Tok) (k a : Nat), Lx.To (bs s) l k ∧ l.length ≤ 600 ∧ Hid (a = Lx.skipTo (bs s) k) ∧ a ≤ s.size ∧ i = .int .i64 a ∧ wr.ownsRow w.heap.size 126 3 v l.length (cells l) ∧ Below w.heap.size w wr) (fun _ i _ => s.size - (intOf i).toNat)
  case atStart => exact ⟨[], 0, _, Lx.To_zero _, by simp, rfl, hsk0.2, rfl, World.ownsRow_nil _ _ _ _, Below.refl _ _⟩
  case round =>
    obtain ⟨l, k, a, hto, hn, ha, hale, rfl, hown, hbw⟩ := hrel
    obtain ⟨ao, cap, rfl⟩ := owns_shape hown
    have hmr := hm.below (Nat.le_refl _) hbw
    by_cases hlt : a < s.size
    · obtain ⟨kd, ln, hrd⟩ : ∃ kd ln, Hid (Lx.rd ((bs s).drop a) = (kd, ln)) := ⟨_, _, rfl⟩
      have hkd : kd ≤ 3 := by have := Lx.rd_kind ((bs s).drop a); rw [hrd.out] at this; exact this
      have hln : a + ln ≤ s.size := by
        have := Lx.rd_le ((bs s).drop a); rw [hrd.out, List.length_drop, bs_len] at this; show a + ln ≤ s.size; simp at this; omega
      obtain ⟨f, hf⟩ : ∃ f, Hid (f = Lx.flt kd ln l.length) := ⟨_, rfl⟩
      obtain ⟨en, hen⟩ : ∃ en, Hid (en = a + ln) := ⟨_, rfl⟩
      have hen1 : a ≤ en := by have := hen.out; omega
      have hen2 : en ≤ s.size := by have := hen.out; omega
      have hfl : ∀ w', Calls Tryz.prog 55 #[.int .i64 kd, .int .i64 ((en : Int) - a), .int .i64 l.length] w' fun e w'' => e = .returned (.int .i64 f) ∧ w'' = w' := fun w' => by rw [hf.out, show (en : Int) - a = ln by have := hen.out; omega]; exact fault_any kd ln l.length w' hkd (by omega) hn
      have hsk := Lx.skipTo_le (s := bs s) (k := en) (by rw [bs_len]; exact hen2)
      rw [bs_len] at hsk
      by_cases h0 : f = 0
      · subst h0
        have hwb := hbw.size
        go_wp2_with (first
          | (go_at_call 54; refine (read_at s a kd ln en _ hs hlt hmr hrd hen).mono ?_; rintro e w' ⟨rfl, hw⟩; obtain rfl := hw.symm)
          | (go_at_call 55; refine (hfl _).mono ?_; rintro e w' ⟨rfl, hw⟩; obtain rfl := hw.symm)
          | (go_at_call 56; refine (clone_any (s.extract a en) _ (Nat.le_trans (extract_size s _ _) hs)).mono ?_; rintro e w1 ⟨rfl, hb1⟩; have hwb1 := hb1.size)
          | (at_builtin; refine wpList_append_own _ rfl (.tmp 35) (.tmp 44) 76 rfl w.heap.size 126 i0 (.agg #[.int .i64 0, .string ⟨#[]⟩, .int .i64 0]) 3 32 Tryz.underlying76 hi hz0 hz1 hz2 rfl (by decide) _ _ _ rfl ((own_below hown hb1).alloc _) ⟨w1.heap.size, 0, none⟩ 1 1 [.int .i64 kd, .string (s.extract a en), .int .i64 a] rfl rfl (cell_three_new _ _ _ _ _) (tok_one _ _ _) (by unfold maxLen; omega) (by omega) (by simp; omega) ?_; intro v' w2 hown' hgrow _; have X : Hid _ := split_step hen.out hto hn ha.out hlt hrd.out hf.out.symm hbw hown hb1 hown' hgrow; clear hown' hgrow hown hbw hmr hb1)
          | (go_at_call 53; refine (skip_any s en _ hs hen2).mono ?_; rintro e w' ⟨rfl, hw⟩; obtain rfl := hw.symm))
        obtain ⟨l', hto', hn', hown', hbw', hpos⟩ := X.out
        have hlast : a < en := by have := hen.out; omega
        go_roundw
        case rel => exact ⟨l', en, _, hto', hn', rfl, hsk.2, rfl, hown', hbw'⟩
        case measure => simp [intOf]; omega
      · have h0' : ¬ (f : Int) = 0 := by omega
        have h0'' : ((f : Int) != 0) = true := by simpa using h0'
        go_wp2_with (first | (go_at_call 54; refine (read_at s a kd ln en _ hs hlt hmr hrd hen).mono ?_; rintro e w' ⟨rfl, hw⟩; obtain rfl := hw.symm) | (go_at_call 55; refine (hfl _).mono ?_; rintro e w' ⟨rfl, hw⟩; obtain rfl := hw.symm))
        go_ret2
        refine ⟨_, _, rfl, hbw.alloc hbw.size _, .inr ⟨f, a, wr.heap.size, ?_, by omega, rfl, rfl, hbw.size, heap_alloc_new _ _⟩⟩
        exact Lx.To_Bad hto hn ha.out (by rw [bs_len]; exact hlt) (by rw [hrd.out]; exact hf.out) h0
    · have hwb := hbw.size
      obtain rfl : a = s.size := by omega
      go_wp2_with (at_builtin; refine wpList_append_own _ rfl (.tmp 49) (.tmp 52) 76 rfl w.heap.size 126 i0 (.agg #[.int .i64 0, .string ⟨#[]⟩, .int .i64 0]) 3 32 Tryz.underlying76 hi hz0 hz1 hz2 rfl (by decide) _ _ _ rfl (hown.alloc _) ⟨wr.heap.size, 0, none⟩ 1 1 [.int .i64 4, .string ⟨#[]⟩, .int .i64 s.size] rfl rfl (cell_three_new _ _ _ _ _) (tok_one _ _ _) (by unfold maxLen; omega) (by omega) (by simp; omega) ?_; intro v' w2 hown' hgrow _)
      go_ret2
      refine ⟨_, _, rfl, ?_, .inl ⟨l, ?_, rfl, ?_⟩⟩
      · exact Below.grown (hbw.alloc hwb _) hgrow (by simp; omega) (fun j hj => by have := (hown.lt _ hj).1; omega)
      · exact Lx.To_Ok hto hn (by rw [bs_len, ← ha.out]; omega)
      · rw [cells_snoc]; exact hown'
end Go.Proofs.YtiihgnagjemikaaGreatDoor
/- The runner's tell: what variables are, of the kinds that are asked for. -/
namespace Go.Proofs.YtiihgnagjemikaaGreatDoor
open Go.RowKit Px

theorem Tryz.uInfo64 : (Tryz.prog.info? 2).map (fun i => (i.zero, i.size, i.bytes)) = some (some (.int .i64 0), 1, 8) := by kernel_rfl
/-- a row of numbers of one's own -/
def Row64 (B : Nat) (w : World) (v : Value) (zs : List Int) : Prop := w.ownsRow B 2 1 v zs.length (zs.map (Value.int .i64))
theorem Row64.nums {B : Nat} {w : World} {v : Value} {zs : List Int} (h : Row64 B w v zs) : INums w v zs := by
  have hc := fun g hg => World.ownsRow.cells h (g := g) hg
  obtain ⟨hl, h2⟩ := h
  rcases h2 with ⟨rfl, h0⟩ | ⟨g, cap, cur, rfl, hB, hg, h3, h4, hr⟩
  · exact ⟨none, 0, 0, 0, by rw [h0], by omega, by unfold maxLen; omega, fun h => absurd h (by omega), fun k hk => absurd hk (by omega)⟩
  · refine ⟨some ⟨g, 0, none⟩, g, 0, cap, rfl, by omega, by omega, fun _ => rfl, fun k hk => ?_⟩
    have := hc g rfl k (.int .i64 (zs.getD k 0)) (by simp [List.getElem?_eq_getElem hk, List.getD_eq_getElem?_getD])
    have ad : (⟨g, 0, none⟩ : Addr).add k = ⟨g, k, none⟩ := by unfold Addr.add; split <;> simp_all
    rw [ad] at this
    rw [Nat.zero_add]
    exact this
theorem Row64.below {B : Nat} {w w' : World} {v : Value} {zs : List Int} (h : Row64 B w v zs) (hb : Below w.heap.size w w') : Row64 B w' v zs :=
  own_keep (A := fun _ => True) (A' := fun _ => True) h (fun _ _ => trivial) fun b _ hlt => ⟨trivial, hb.block b hlt⟩
theorem app64 (B : Nat) (w : World) (v : Value) (zs : List Int) (x : Int) (q : Nat) (h : Row64 B w v zs) (hq : w.cell? ⟨q, 0, none⟩ = some (.int .i64 x)) (hB : B ≤ w.heap.size) (hl : zs.length ≤ 1000000) :
    ∃ g cap w', (Builtin.append_ #[31, 31] 31 #[v, .slice (some ⟨q, 0, none⟩) 1 1]).run Tryz.prog w = .ok (.slice (some ⟨g, 0, none⟩) (zs.length + 1) cap) w' ∧ Row64 B w' (.slice (some ⟨g, 0, none⟩) (zs.length + 1) cap) (zs ++ [x]) ∧ w.grownBy w' v.ownBlock := by
  obtain ⟨i0, hi, hz0, hz1, hz2⟩ := info_parts Tryz.uInfo64
  obtain ⟨g, cap, w', hr, h2, h3, h4, h5⟩ := run_append_lies (P := Tryz.prog) w 31 31 B 2 i0 (.int .i64 0) 1 8 Tryz.underlying31 hi hz0 hz1 hz2 rfl (by decide) v zs.length _ h ⟨q, 0, none⟩ 1 1 [.int .i64 x] (by simp)
    (fun j u hu => by
      cases j with
      | zero => simp at hu; subst hu; simpa [Addr.add] using hq
      | succ j => simp at hu)
    (fun u hu => by obtain rfl := List.mem_singleton.1 hu; rfl) (by omega) (by unfold maxLen; omega) (by omega) hB _ rfl
  refine ⟨g, cap, w', hr, ?_, h3⟩
  unfold Row64
  rw [List.length_append, List.map_append]; exact h2
/-- an append whose run is known, at a step of a region that draws its order -/
theorem step_app_u {P : Program} {w w' : World} {ops : Array Oper} {o : Oper} {a : Act} {K : Act → World → Prop} {Q : Exit → Act → World → Prop} {E : Prop} (hgd : o.guard = none) (s x : Operand) (t : TypeId)
    (ho : o.op = .call { callee := .builtin .append, args := #[s, x], argTypes := #[t, t] }) (vs vx r : Value) (hs : a.eval s = vs) (hx : a.eval x = vx) (hr : (Builtin.append_ #[t, t] o.type #[vs, vx]).run P w = .ok r w') (h : K (a.put o.dst r) w') :
    if Region.wanted o (yielded ops a.tmps) = true then Oper.wp P o a w K Q else E := by
  have hw : Region.wanted o (yielded ops a.tmps) = true := by simp [Region.wanted, hgd]
  rw [if_pos hw]
  unfold Oper.wp execOp
  simp only [ho, resolve, invoke, builtin, Sem.run_bind, Sem.run_pure, Result.andThen_ok, List.map_toArray, List.map_cons, List.map_nil, hs, hx, hr]
  exact h
theorem tellC_take {p : Nat → Bool} {vs : List Decl} {k : Nat} {v : Decl} (h : vs[k]? = some v) (n : Px.Env) : tellC p (vs.take (k + 1)) n = if p v.kind then tellC p (vs.take k) n ++ [n v.name] else tellC p (vs.take k) n := by
  unfold tellC
  rw [List.take_add_one, h, List.filter_append, List.map_append]
  split
  · rename_i hp; simp [hp]
  · rename_i hp; simp [hp]
theorem tellC_len (p : Nat → Bool) (vs : List Decl) (n : Px.Env) : (tellC p vs n).length ≤ vs.length := by
  unfold tellC
  rw [List.length_map]
  exact List.length_filter_le _ _
theorem kindO_any (kd : Int) (w : World) : Calls Tryz.prog 43 #[.int .i64 kd] w fun e w' => e = .returned (.bool (kd == 2)) ∧ w' = w := by
  go_enter Tryz.func43, Tryz.ntmps43
  go_wp2_with fail
  go_ret
  exact ⟨rfl, rfl⟩
section
variable {A : Nat → Prop} {w w' : World} {rb bn bw m : Nat} {now was : Px.Env} {vs : List Decl}
set_option maxRecDepth 100000 in
set_option maxHeartbeats 8000000 in
theorem tellO_any {vv : Value} (c0 : w.cell? ⟨rb, 0, none⟩ = some vv) (hvv : IsVars A w vs vv) (hnm : ∀ v ∈ vs, v.name.length ≤ maxLen) (hvl : vs.length ≤ 1000000) (h : RunV w rb bn bw m (vnames vs) now was) :
    Calls Tryz.prog 42 #[.pointer (some ⟨rb, 0, none⟩), .func (.func 43) #[] #[]] w fun e w' => ∃ v, e = .returned v ∧ Hid (Row64 w.heap.size w' v (tellC (fun k => decide (k = 2)) vs now) ∧ Below w.heap.size w w') := by
  obtain ⟨ad, g, cap, rfl, hmx, hg, hcs⟩ := hvv.open2
  obtain ⟨N, hN⟩ : ∃ N, N = vs.length := ⟨_, rfl⟩
  rw [← hN] at c0 hmx hg hvl
  have HN : Hid (N = vs.length) := hN
  have HG : Hid (0 < N → ad = some ⟨g, 0, none⟩ ∧ A g ∧ g < w.heap.size) := hg
  have HCS : Hid (∀ (i : Nat) (a : Decl), vs[i]? = some a → w.cell? ⟨g, i * 3, none⟩ = some (.int .i64 (a.kind : Int)) ∧ w.cell? ⟨g, i * 3 + 1, none⟩ = some (sv a.name) ∧ w.cell? ⟨g, i * 3 + 2, none⟩ = some (.int .i64 a.first)) := hcs
  have HV : Hid (RunV w rb bn bw m (vnames vs) now was ∧ ∀ v ∈ vs, v.name.length ≤ maxLen) := ⟨h, hnm⟩
  clear hvv hnm h hN hmx hg hcs
  go_enter Tryz.func42, Tryz.ntmps42
  go_wp2_with fail
  clear c0
  go_loopg [5, 13] N (fun f lv i wr => ∃ k : Nat, f = N - k ∧ k ≤ N ∧ i = .int .i64 (k : Int) ∧ Hid (Row64 w.heap.size wr lv (tellC (fun k => decide (k = 2)) (vs.take k) now) ∧ Below w.heap.size w wr))
  case atStart => exact ⟨0, by omega, by omega, rfl, World.ownsRow_nil _ _ _ _, Below.refl _ _⟩
  case round =>
    obtain ⟨k, rfl, hk, rfl, hr⟩ := hrel
    obtain ⟨hr1, hr2⟩ := hr.out
    obtain ⟨al, cl, e⟩ := owns_shape hr1
    subst e
    obtain ⟨zs, hzs⟩ : ∃ zs, zs = tellC (fun k => decide (k = 2)) (vs.take k) now := ⟨_, rfl⟩
    rw [← hzs] at hr1 ⊢
    have hzl : zs.length ≤ 1000000 := by rw [hzs]; have := tellC_len (fun k => decide (k = 2)) (vs.take k) now; rw [List.length_take] at this; omega
    by_cases hlt : k < N
    · obtain ⟨v, hv⟩ : ∃ v, vs[k]? = some v := ⟨vs[k]'(by rw [← HN.out]; exact hlt), by rw [List.getElem?_eq_getElem]⟩
      obtain ⟨c0, c1, c2⟩ := HCS.out k v hv
      obtain ⟨hg1, hg2, hg3⟩ := HG.out (by omega)
      have hix := ixV ad g N cap k hlt (fun _ => hg1)
      have c0 := ck_cell hr2 c0
      have c1 := ck_cell hr2 c1
      have c2 := ck_cell hr2 c2
      obtain ⟨S, hS⟩ : ∃ S, Value.string S = sv v.name := ⟨_, rfl⟩
      rw [← hS] at c1
      obtain ⟨kd, hkd⟩ : ∃ kd : Int, kd = (v.kind : Int) := ⟨_, rfl⟩
      rw [← hkd] at c0
      obtain ⟨fi, hfi⟩ : ∃ fi : Int, fi = v.first := ⟨_, rfl⟩
      rw [← hfi] at c2
      obtain ⟨X, hX⟩ : ∃ X, X = wr.alloc (.cells #[.int .i64 kd, .string S, .int .i64 fi] 86) := ⟨_, rfl⟩
      obtain ⟨q, hq⟩ : ∃ q, q = wr.heap.size := ⟨_, rfl⟩
      have hbx : Below wr.heap.size wr X := by rw [hX]; exact ck_grown _ _
      have hkx : X.heap[q]? = some (.cells #[.int .i64 kd, .string S, .int .i64 fi] 86 (0, 0)) := by rw [hX, hq]; exact ck_new _ _
      have hbw : Below w.heap.size w X := ck_all hr2 hbx
      have z0 := cell_row hkx 0 (u := .int .i64 kd) rfl
      have hask := kindO_any kd X
      have htk := tellC_take (p := (fun k => decide (k = 2))) hv now
      rw [← hzs] at htk
      by_cases h2 : v.kind = 2
      · rw [if_pos (by simpa using h2)] at htk
        have hk2 : (kd == 2) = true := by rw [hkd]; simp; omega
        rw [hk2] at hask
        clear hk2 h2
        have hvd : RunV X.drew rb bn bw m (vnames vs) now was := HV.out.1.below (hbw.drew)
        have hlk := (hvd.mn.look (HV.out.2 v (List.mem_of_getElem? hv))).1
        rw [← hS] at hlk
        obtain ⟨x, hx⟩ : ∃ x, x = now v.name := ⟨_, rfl⟩
        rw [← hx] at hlk
        have hbz : Below X.heap.size X (X.alloc (.cells #[.int .i64 x] 2)).drew := (ck_grown _ _).drew
        have hrow : Row64 w.heap.size (X.alloc (.cells #[.int .i64 x] 2)).drew (.slice al zs.length cl) zs := (hr1.below hbx).below hbz
        obtain ⟨g1, cap1, w5, E1, hrow5, hgr5⟩ := app64 w.heap.size _ _ zs x X.heap.size hrow (cell_row (ck_new X (.cells #[.int .i64 x] 2)) 0 rfl) (by have := hbw.size; simp; omega) hzl
        have hb5 : Below w.heap.size w w5 := (ck_all hbw hbz).grown hgr5 (by have := hbw.size; simp; omega) (fun b hb => (hr1.lt b hb).1)
        have p1 : X.drew.cell? ⟨rb, 1, none⟩ = some (.map (some bn)) := hvd.hn
        have p2 : X.drew.cell? ⟨q, 1, none⟩ = some (.string S) := cell_row hkx 1 rfl
        have HS1 : Hid (w5.cell? ⟨rb, 1, none⟩ = some (.map (some bn)) ∧ w5.cell? ⟨q, 1, none⟩ = some (.string S)) := by
          have h5 := hgr5
          refine ⟨ck_cell hb5 HV.out.1.hn, ?_⟩
          have hne : some q ≠ (Value.slice al zs.length cl).ownBlock := fun e => by have := (hr1.lt q e.symm).2; omega
          rw [World.cell?_of_block (w := (X.alloc (.cells #[.int .i64 x] 2)).drew) (a := ⟨q, 1, none⟩) (h5.block q (lt_of_block (ck_old hkx)) hne)]
          exact cell_row (ck_old hkx) 1 rfl
        have HS2 : Hid ((X.alloc (.cells #[.int .i64 x] 2)).drew.cell? ⟨rb, 1, none⟩ = some (.map (some bn)) ∧ (X.alloc (.cells #[.int .i64 x] 2)).drew.cell? ⟨q, 1, none⟩ = some (.string S)) := ⟨ck_cell hbz (ck_cell hbw HV.out.1.hn), cell_row (ck_old hkx) 1 rfl⟩
        have HNX : Hid (Row64 w.heap.size w5 (.slice (some ⟨g1, 0, none⟩) (zs.length + 1) cap1) (tellC (fun k => decide (k = 2)) (vs.take (k + 1)) now) ∧ Below w.heap.size w w5) := ⟨by rw [htk, ← hx]; exact hrow5, hb5⟩
        rw [hX] at z0 hask
        rw [hq] at z0
        clear hr hr1 hr2 hv hS hkd hfi hbx hkx hbw hbz htk hzs hzl hvd hrow hrow5 hgr5 hb5 hx hg1 hg2 hg3
        go_upto_region 6 with (refine hask.mono ?_; rintro e w' ⟨rfl, hw'⟩; obtain rfl := hw'.symm)
        rw [← hX, ← hq]
        clear hX hq z0 hask
        go_region_held3 (fun W => W.cell? ⟨rb, 1, none⟩ = some (.map (some bn)) ∧ W.cell? ⟨q, 1, none⟩ = some (.string S)) (first | exact HS1.out | exact HS2.out | go_keep) (first | (refine step_app_u (by rfl) (.tmp 21) (.tmp 29) _ (by rfl) _ _ _ (by rfl) (by rfl) E1 ?_; have hS1 := HS1.out))
        all_goals
          go_wp2_with fail
          go_roundg (N - (k + 1))
          case measure => omega
          case rel => exact ⟨k + 1, rfl, by omega, by go_num, HNX.out⟩
      · rw [if_neg (by simpa using h2)] at htk
        have hk2 : (kd == 2) = false := by rw [hkd]; simp; omega
        rw [hk2] at hask
        clear hk2 h2
        have HNX : Hid (Row64 w.heap.size X (.slice al zs.length cl) (tellC (fun k => decide (k = 2)) (vs.take (k + 1)) now) ∧ Below w.heap.size w X) := ⟨by rw [htk]; exact hr1.below hbx, hbw⟩
        rw [hX] at z0 hask HNX
        rw [hq] at z0
        clear hr hr1 hr2 hv hS hkd hfi hX hq hbx hkx hbw htk hzs hzl hg1 hg2 hg3
        go_wp2_with (refine hask.mono ?_; rintro e w' ⟨rfl, hw'⟩; obtain rfl := hw'.symm)
        go_roundg (N - (k + 1))
        case measure => omega
        case rel => exact ⟨k + 1, rfl, by omega, by go_num, HNX.out⟩
    · obtain rfl : k = N := by omega
      rw [HN.out, List.take_length] at hzs
      have HF : Hid (Row64 w.heap.size wr (.slice al zs.length cl) (tellC (fun k => decide (k = 2)) vs now) ∧ Below w.heap.size w wr) := ⟨by rw [← hzs]; exact hr1, hr2⟩
      clear hr hr1 hr2 hzs hzl
      go_wp2_with fail
      go_ret
      exact ⟨_, rfl, HF.out⟩
end
end Go.Proofs.YtiihgnagjemikaaGreatDoor
/- The runner's There: the names of what is there, region by region, at any depth. -/
namespace Go.Proofs.YtiihgnagjemikaaGreatDoor
open Go.RowKit Px

theorem Tryz.uInfoStr : (Tryz.prog.info? 9).map (fun i => (i.zero, i.size, i.bytes)) = some (some (.string ⟨#[]⟩), 1, 16) := by kernel_rfl
/-- a row of texts of one's own -/
def RowS (B : Nat) (w : World) (v : Value) (zs : List Str) : Prop := w.ownsRow B 9 1 v zs.length (zs.map sv)
/-- regions that run, side by side -/
structure RegsM (A : Nat → Prop) (ns : List Str) (k : Nat) (w : World) (B gI : Nat) (gr : Nat → Nat) (rs : List (List (St k))) (ds : List (Rd k)) : Prop where
  len : ds.length = rs.length
  lt : ∀ b, A b → b < B
  reg : ∀ j r d, rs[j]? = some r → ds[j]? = some d → w.cell? ⟨gI, j, none⟩ = some (.pointer (some ⟨gr j, 0, none⟩)) ∧ gI < B ∧ StAll ns k r ∧ ∃ P, RegM A k w P r d (gr j) ∧ ∀ b, P b → b < B
theorem RegsM.below {A : Nat → Prop} {ns : List Str} {k : Nat} {w w' : World} {B gI : Nat} {gr : Nat → Nat} {rs : List (List (St k))} {ds : List (Rd k)} (h : RegsM A ns k w B gI gr rs ds) (hb : Below B w w') : RegsM A ns k w' B gI gr rs ds :=
  ⟨h.len, h.lt, fun j r d hr hd => by
    obtain ⟨h1, h2, h5, P, h3, h4⟩ := h.reg j r d hr hd
    exact ⟨by rw [World.cell?_of_block (w := w) (a := ⟨gI, j, none⟩) (hb.block gI h2)]; exact h1, h2, h5, P, RegM.keep k h3 (fun b hb' _ => hb.block b (h.lt b hb')) (fun b hb' => hb.block b (h4 b hb')), h4⟩⟩
def names (k : Nat) (rs : List (List (St k))) (ds : List (Rd k)) (j : Nat) : List Str := ((List.zipWith (thereK k) rs ds).take j).flatten
theorem names_step {k : Nat} {rs : List (List (St k))} {ds : List (Rd k)} {j : Nat} {r : List (St k)} {d : Rd k} (hr : rs[j]? = some r) (hd : ds[j]? = some d) : names k rs ds (j + 1) = names k rs ds j ++ thereK k r d := by
  unfold names
  have e : (List.zipWith (thereK k) rs ds)[j]? = some (thereK k r d) := by rw [List.getElem?_zipWith, hr, hd]
  rw [List.take_add_one, e, List.flatten_append]
  simp
theorem names_all {k : Nat} {rs : List (List (St k))} {ds : List (Rd k)} {n : Nat} (h1 : ds.length = rs.length) (hn : n = rs.length) : names k rs ds n = (List.zipWith (thereK k) rs ds).flatten := by
  unfold names
  rw [List.take_of_length_le (by rw [List.length_zipWith]; omega)]
theorem names_len {k : Nat} {rs : List (List (St k))} {ds : List (Rd k)} (j : Nat) : (names k rs ds j).length ≤ (List.zipWith (thereK k) rs ds).flatten.length := by
  unfold names
  rw [← List.take_append_drop j (List.zipWith (thereK k) rs ds)]
  generalize List.zipWith (thereK k) rs ds = l
  simp only [List.take_append_drop]
  have : (l.take j).flatten.length + (l.drop j).flatten.length = l.flatten.length := by rw [← List.length_append, ← List.flatten_append, List.take_append_drop]
  omega
section
variable {A : Nat → Prop} {ns : List Str} {k : Nat}
theorem thereF_none {σ ρ : Type} {f : List σ → ρ → List Str} {L : List (StF σ)} {d : RdF ρ} (h : d.there = none) : thereF f L d = [] := by unfold thereF; rw [h]
theorem thereF_some {σ ρ : Type} {f : List σ → ρ → List Str} {L : List (StF σ)} {d : RdF ρ} {i : Nat} {s : StF σ} {x : SdF ρ} (h : d.there = some i) (hs : L[i]? = some s) (hx : d.sts[i]? = some x) : thereF f L d = s.name :: (List.zipWith f s.regions x.inside).flatten := by
  unfold thereF
  rw [h]
  simp only
  rw [hs, hx]
/-- what is inside a state of a region, as regions that run -/
theorem RMem.inside {P : Nat → Prop} {w : World} {g : Nat} {L : List (StF (St k))} {d : RdF (Rd k)} {l : Lie} {B i : Nat} {s : StF (St k)} {x : SdF (Rd k)} (h : RMem A w (RegM A k w) P L d g l) (hP : ∀ b, P b → b < B) (hA : ∀ b, A b → b < B) (hst : ∀ r ∈ s.regions, StAll ns k r) (hs : L[i]? = some s) (hx : d.sts[i]? = some x) : RegsM A ns k w B (l.gI i) (l.gr i) s.regions x.inside := by
  have hm := h.st i s x hs hx
  refine ⟨hm.il, hA, fun j r d' hr hd => ?_⟩
  obtain ⟨_, _, _, h2⟩ := hm.iy
  have hlt : j < s.regions.length := (List.getElem?_eq_some_iff.1 hr).1
  exact ⟨(hm.im j r d' hr hd).1, hP _ (h2 (by omega)).2.1, hst r (List.mem_of_getElem? hr), _, (hm.im j r d' hr hd).2, fun b hb => hP b hb.1⟩
end
end Go.Proofs.YtiihgnagjemikaaGreatDoor
/- A chart that runs, in memory; its There and Vars. -/
namespace Go.Proofs.YtiihgnagjemikaaGreatDoor
open Go.RowKit Px

/-- where a runner's parts lie -/
structure RnL where
  bn : Nat
  bw : Nat
  m : Nat
  gR : Nat
  gr : Nat → Nat
  rl : Nat → Nat

/-- a chart that runs: its blocks are those of Q -/
structure RnM (A : Nat → Prop) (w : World) (c : Chart) (r : Rn) (rb : Nat) (Q : Nat → Prop) (x : RnL) : Prop where
  hv : ∃ vv adR capR, w.heap[rb]? = some (.cells #[vv, .map (some x.bn), .map (some x.bw), .slice adR c.regions.length capR] 96 (0, 0)) ∧ IsVars A w c.vars vv ∧ (0 < c.regions.length → adR = some ⟨x.gR, 0, none⟩ ∧ Q x.gR ∧ x.rl x.gR = 3)
  mn : MapE w x.bn x.m (vnames c.vars) r.now
  mw : MapE w x.bw x.m (vnames c.vars) r.was
  hm : x.m ≤ 1000000
  q0 : Q rb ∧ x.rl rb = 0
  q1 : Q x.bn ∧ x.rl x.bn = 1
  q2 : Q x.bw ∧ x.rl x.bw = 2
  hA : ∀ b, A b → b < w.heap.size ∧ ¬ Q b
  hQ : ∀ b, Q b → b < w.heap.size
  len : r.ds.length = c.regions.length
  reg : ∀ j L d, c.regions[j]? = some L → r.ds[j]? = some d → w.cell? ⟨x.gR, j, none⟩ = some (.pointer (some ⟨x.gr j, 0, none⟩)) ∧ RegM A 6 w (fun b => Q b ∧ x.rl b = 4 + j) L d (x.gr j)
/-- all old blocks but those are as they were -/
structure FrQ (Q : Nat → Prop) (w w' : World) : Prop where
  os : w'.os = w.os
  tape : w'.tape = w.tape
  output : w'.output = w.output
  size : w.heap.size ≤ w'.heap.size
  block : ∀ b, b < w.heap.size → ¬ Q b → w'.heap[b]? = w.heap[b]?
theorem FrQ.refl (Q : Nat → Prop) (w : World) : FrQ Q w w := ⟨rfl, rfl, rfl, Nat.le_refl _, fun _ _ _ => rfl⟩
theorem FrQ.trans {Q : Nat → Prop} {w w' w'' : World} (h : FrQ Q w w') (k : FrQ Q w' w'') : FrQ Q w w'' :=
  ⟨k.os.trans h.os, k.tape.trans h.tape, k.output.trans h.output, Nat.le_trans h.size k.size, fun b hb hq => (k.block b (Nat.lt_of_lt_of_le hb h.size) hq).trans (h.block b hb hq)⟩
theorem FrQ.of_below {Q : Nat → Prop} {w w' : World} (h : Below w.heap.size w w') : FrQ Q w w' := ⟨h.os, h.tape, h.output, h.size, fun b hb _ => h.block b hb⟩
theorem FrQ.of_frp {Q P : Nat → Prop} {bn : Nat} {w w' : World} (h : FrP P bn w w') (hP : ∀ b, P b → Q b) (hb : Q bn) : FrQ Q w w' :=
  ⟨h.os, h.tape, h.output, h.size, fun b hl hq => h.block b hl (fun hp => hq (hP b hp)) (fun e => hq (e ▸ hb))⟩
section
variable {A Q : Nat → Prop} {w w' : World} {c : Chart} {r : Rn} {rb : Nat} {x : RnL}
theorem RnM.runV (h : RnM A w c r rb Q x) : RunV w rb x.bn x.bw x.m (vnames c.vars) r.now r.was := by
  obtain ⟨vv, aR, cR, hk, _⟩ := h.hv
  exact ⟨cell_row hk 1 rfl, cell_row hk 2 rfl, h.mn, h.mw, h.hm⟩
theorem RnM.rn (h : RnM A w c r rb Q x) : rb ≠ x.bn := fun e => by have h1 := h.q0.2; have h2 := h.q1.2; rw [← e] at h2; omega
theorem RnM.wn (h : RnM A w c r rb Q x) : x.bw ≠ x.bn := fun e => by have h1 := h.q2.2; have h2 := h.q1.2; rw [← e] at h2; omega
theorem RnM.sep (h : RnM A w c r rb Q x) (j : Nat) : Sep A (fun b => Q b ∧ x.rl b = 4 + j) w rb x.bn x.bw :=
  ⟨fun b hb => ⟨(h.hA b hb).1, fun hq => (h.hA b hb).2 hq.1, fun e => (h.hA b hb).2 (e ▸ h.q1.1)⟩,
    fun b hb => ⟨h.hQ b hb.1, fun e => by have := h.q0.2; rw [← e, hb.2] at this; omega, fun e => by have := h.q1.2; rw [← e, hb.2] at this; omega, fun e => by have := h.q2.2; rw [← e, hb.2] at this; omega⟩, h.rn, h.wn⟩
/-- another one's steps -/
theorem RnM.apart {Q' : Nat → Prop} (h : RnM A w c r rb Q x) (hf : FrQ Q' w w') (hQ : ∀ b, Q b → ¬ Q' b) (hA : ∀ b, A b → ¬ Q' b) : RnM A w' c r rb Q x := by
  have hq : ∀ b, Q b → w'.heap[b]? = w.heap[b]? := fun b hb => hf.block b (h.hQ b hb) (hQ b hb)
  have ha : ∀ b, A b → b < w.heap.size → w'.heap[b]? = w.heap[b]? := fun b hb hl => hf.block b hl (hA b hb)
  obtain ⟨vv, aR, cR, hk, hvs, hR⟩ := h.hv
  refine ⟨⟨vv, aR, cR, by rw [hq rb h.q0.1]; exact hk, hvs.carry fun b hb hl => ⟨hb, ha b hb hl⟩, hR⟩, h.mn.keep (hq _ h.q1.1), h.mw.keep (hq _ h.q2.1), h.hm, h.q0, h.q1, h.q2, fun b hb => ⟨Nat.lt_of_lt_of_le (h.hA b hb).1 hf.size, (h.hA b hb).2⟩, fun b hb => Nat.lt_of_lt_of_le (h.hQ b hb) hf.size, h.len, fun j L d hL hd => ?_⟩
  obtain ⟨h1, h2⟩ := h.reg j L d hL hd
  have hlt : j < c.regions.length := (List.getElem?_eq_some_iff.1 hL).1
  exact ⟨by rw [World.cell?_of_block (w := w) (a := ⟨x.gR, j, none⟩) (hq _ (hR (by omega)).2.1)]; exact h1, RegM.keep 6 h2 ha fun b hb => hq b hb.1⟩
theorem RnM.below (h : RnM A w c r rb Q x) (hb : Below w.heap.size w w') : RnM A w' c r rb Q x :=
  h.apart (Q' := fun _ => False) (FrQ.of_below hb) (fun _ _ h => h) (fun _ _ h => h)
/-- variables have changed, and one region -/
theorem RnM.region {j : Nat} {L : List (St 6)} {d d' : Rd 6} {now' : Px.Env} (h : RnM A w c r rb Q x) (hL : c.regions[j]? = some L) (hd : r.ds[j]? = some d) (hf : FrP (fun b => Q b ∧ x.rl b = 4 + j) x.bn w w') (hv : RunV w' rb x.bn x.bw x.m (vnames c.vars) now' r.was) (hR : RegM A 6 w' (fun b => Q b ∧ x.rl b = 4 + j) L d' (x.gr j)) :
    RnM A w' c ⟨now', r.was, r.ds.set j d'⟩ rb Q x := by
  have hS := h.sep j
  have hq : ∀ b, Q b → x.rl b ≠ 4 + j → x.rl b ≠ 1 → w'.heap[b]? = w.heap[b]? := fun b hb hr h1 => hf.block b (h.hQ b hb) (fun e => hr e.2) (fun e => h1 (e ▸ h.q1.2))
  have ha : ∀ b, A b → b < w.heap.size → w'.heap[b]? = w.heap[b]? := fun b hb hl => hf.block b hl (fun e => (h.hA b hb).2 e.1) (hS.a b hb).2.2
  obtain ⟨vv, aR, cR, hk, hvs, hRR⟩ := h.hv
  refine ⟨⟨vv, aR, cR, by rw [hq rb h.q0.1 (by rw [h.q0.2]; omega) (by rw [h.q0.2]; omega)]; exact hk, hvs.carry fun b hb hl => ⟨hb, ha b hb hl⟩, hRR⟩, hv.mn, hv.mw, h.hm, h.q0, h.q1, h.q2, fun b hb => ⟨Nat.lt_of_lt_of_le (h.hA b hb).1 hf.size, (h.hA b hb).2⟩, fun b hb => Nat.lt_of_lt_of_le (h.hQ b hb) hf.size, by simpa using h.len, fun j' L' d0 hL' hd' => ?_⟩
  have hlt : j' < c.regions.length := (List.getElem?_eq_some_iff.1 hL').1
  have hgR := hRR (by omega)
  have hcell : ∀ {v : Value}, w.cell? ⟨x.gR, j', none⟩ = some v → w'.cell? ⟨x.gR, j', none⟩ = some v := fun {v} hv' => by
    rw [World.cell?_of_block (w := w) (a := ⟨x.gR, j', none⟩) (hq _ hgR.2.1 (by rw [hgR.2.2]; omega) (by rw [hgR.2.2]; omega))]; exact hv'
  by_cases e : j = j'
  · subst e
    rw [hL] at hL'
    injection hL' with hL'
    subst hL'
    have hjl : j < r.ds.length := (List.getElem?_eq_some_iff.1 hd).1
    simp [hjl] at hd'
    subst hd'
    exact ⟨hcell (h.reg j L d hL hd).1, hR⟩
  · rw [List.getElem?_set, if_neg e] at hd'
    obtain ⟨h1, h2⟩ := h.reg j' L' d0 hL' hd'
    exact ⟨hcell h1, RegM.keep 6 h2 ha fun b hb => hq b hb.1 (by rw [hb.2]; omega) (by rw [hb.2]; omega)⟩
/-- variables alone have changed -/
theorem RnM.setVars {now' : Px.Env} (h : RnM A w c r rb Q x) (hf : FrP (fun _ => False) x.bn w w') (hv : RunV w' rb x.bn x.bw x.m (vnames c.vars) now' r.was) : RnM A w' c ⟨now', r.was, r.ds⟩ rb Q x := by
  have hq : ∀ b, Q b → x.rl b ≠ 1 → w'.heap[b]? = w.heap[b]? := fun b hb h1 => hf.block b (h.hQ b hb) (fun e => e) (fun e => h1 (e ▸ h.q1.2))
  have ha : ∀ b, A b → b < w.heap.size → w'.heap[b]? = w.heap[b]? := fun b hb hl => hf.block b hl (fun e => e) ((h.sep 0).a b hb).2.2
  obtain ⟨vv, aR, cR, hk, hvs, hRR⟩ := h.hv
  refine ⟨⟨vv, aR, cR, by rw [hq rb h.q0.1 (by rw [h.q0.2]; omega)]; exact hk, hvs.carry fun b hb hl => ⟨hb, ha b hb hl⟩, hRR⟩, hv.mn, hv.mw, h.hm, h.q0, h.q1, h.q2, fun b hb => ⟨Nat.lt_of_lt_of_le (h.hA b hb).1 hf.size, (h.hA b hb).2⟩, fun b hb => Nat.lt_of_lt_of_le (h.hQ b hb) hf.size, h.len, fun j' L' d0 hL' hd' => ?_⟩
  have hlt : j' < c.regions.length := (List.getElem?_eq_some_iff.1 hL').1
  have hgR := hRR (by omega)
  obtain ⟨h1, h2⟩ := h.reg j' L' d0 hL' hd'
  exact ⟨by rw [World.cell?_of_block (w := w) (a := ⟨x.gR, j', none⟩) (hq _ hgR.2.1 (by rw [hgR.2.2]; omega))]; exact h1, RegM.keep 6 h2 ha fun b hb => hq b hb.1 (by rw [hb.2]; omega)⟩
/-- what variables were has changed -/
theorem RnM.setWas {was' : Px.Env} (h : RnM A w c r rb Q x) (hg : w.grownBy w' (some x.bw)) (hv : MapE w' x.bw x.m (vnames c.vars) was') : RnM A w' c ⟨r.now, was', r.ds⟩ rb Q x := by
  have hq : ∀ b, Q b → x.rl b ≠ 2 → w'.heap[b]? = w.heap[b]? := fun b hb h1 => hg.block b (h.hQ b hb) (fun e => h1 (by injection e with e; rw [e]; exact h.q2.2))
  have ha : ∀ b, A b → b < w.heap.size → w'.heap[b]? = w.heap[b]? := fun b hb hl => hg.block b hl (fun e => (h.hA b hb).2 (by injection e with e; rw [e]; exact h.q2.1))
  obtain ⟨vv, aR, cR, hk, hvs, hRR⟩ := h.hv
  refine ⟨⟨vv, aR, cR, by rw [hq rb h.q0.1 (by rw [h.q0.2]; omega)]; exact hk, hvs.carry fun b hb hl => ⟨hb, ha b hb hl⟩, hRR⟩, h.mn.keep (hq _ h.q1.1 (by rw [h.q1.2]; omega)), hv, h.hm, h.q0, h.q1, h.q2, fun b hb => ⟨Nat.lt_of_lt_of_le (h.hA b hb).1 hg.size, (h.hA b hb).2⟩, fun b hb => Nat.lt_of_lt_of_le (h.hQ b hb) hg.size, h.len, fun j' L' d0 hL' hd' => ?_⟩
  have hlt : j' < c.regions.length := (List.getElem?_eq_some_iff.1 hL').1
  have hgR := hRR (by omega)
  obtain ⟨h1, h2⟩ := h.reg j' L' d0 hL' hd'
  exact ⟨by rw [World.cell?_of_block (w := w) (a := ⟨x.gR, j', none⟩) (hq _ hgR.2.1 (by rw [hgR.2.2]; omega))]; exact h1, RegM.keep 6 h2 ha fun b hb => hq b hb.1 (by rw [hb.2]; omega)⟩
end
section
variable {A Q : Nat → Prop} {w w' : World} {c : Chart} {r : Rn} {rb : Nat} {x : RnL}
end
end Go.Proofs.YtiihgnagjemikaaGreatDoor
/- A chart that runs: its Tick. -/
namespace Go.Proofs.YtiihgnagjemikaaGreatDoor
open Go.RowKit Px

theorem tickC_cases {c : Chart} {ins : List Int} {r r' : Rn} (h : tickC c ins r = some r') : ∃ p, allI (tickG r.was) c.regions c.regions.length 0 (hearE c.vars ins r.now) r.ds = some p ∧ r' = ⟨p.1, p.1, p.2⟩ := by
  unfold tickC at h
  cases ha : allI (tickG r.was) c.regions c.regions.length 0 (hearE c.vars ins r.now) r.ds with
  | none => rw [ha] at h; exact absurd h (by simp)
  | some p => rw [ha] at h; injection h with h; exact ⟨p, rfl, h.symm⟩
section
variable {A Q : Nat → Prop} {w w' : World} {c : Chart} {r r' : Rn} {rb : Nat} {x : RnL}
set_option maxRecDepth 100000 in
set_option maxHeartbeats 8000000 in
theorem Tick_any {iv : Value} {ins : List Int} (h : RnM A w c r rb Q x) (hc : ChartR c) (hi : INums w iv ins) (h64 : ∀ y ∈ ins, N64 y) (ht : tickC c ins r = some r') :
    Calls Tryz.prog 21 #[.pointer (some ⟨rb, 0, none⟩), iv] w fun e w' => ∃ a n m, e = .returned (.slice a n m) ∧ Hid (RnM A w' c r' rb Q x ∧ Row64 w.heap.size w' (.slice a n m) (outsC c r') ∧ FrQ Q w w') := by
  obtain ⟨p, hall, rfl⟩ := tickC_cases ht
  obtain ⟨vv, aR, cR, hk, hvs, hRR⟩ := h.hv
  have hhear := hear_any (cell_row hk 0 rfl) hvs hc.vn hi h64 h.runV (h.sep 0).chart h.rn h.wn
  obtain ⟨iad, ig, io, ic, hiv, _⟩ := hi
  subst hiv
  obtain ⟨n, hn⟩ : ∃ n, n = c.regions.length := ⟨_, rfl⟩
  have hn6 : (n : Int) ≤ 9223372036854775807 := by have := hc.rl; unfold maxLen at this; omega
  have H : Hid (RnM A w c r rb Q x ∧ ChartR c ∧ n = c.regions.length ∧ allI (tickG r.was) c.regions c.regions.length 0 (hearE c.vars ins r.now) r.ds = some p) := ⟨h, hc, hn, hall⟩
  generalize ins.length = il at hhear
  clear h hc hall hvs hRR hn6 hk h64 ht hn
  have hn6 : (n : Int) ≤ 9223372036854775807 := by have := H.out.2.1.rl; have := H.out.2.2.1; unfold maxLen at *; omega
  go_enter Tryz.func21, Tryz.ntmps21
  go_wp2_with fail
  refine hhear.mono ?_
  rintro e w1 ⟨rfl, h1⟩
  have hR1 := H.out.1.setVars h1.out.2 h1.out.1
  have hf1 : FrQ Q w w1 := FrQ.of_frp h1.out.2 (fun _ h => h.elim) H.out.1.q1.1
  obtain ⟨vv1, aR, cR, hk1, hvs1, hRR1⟩ := hR1.hv
  have c3 := cell_row hk1 3 (u := .slice aR c.regions.length cR) rfl
  rw [← H.out.2.2.1] at c3 hRR1
  have HAR : Hid (0 < n → aR = some ⟨x.gR, 0, none⟩) := fun hp => (hRR1 hp).1
  have H1 : Hid (allI (tickG r.was) c.regions (n - 0) 0 (hearE c.vars ins r.now) r.ds = some p ∧ RnM A w1 c ⟨hearE c.vars ins r.now, r.was, r.ds⟩ rb Q x ∧ FrQ Q w w1) := ⟨by rw [Nat.sub_zero, H.out.2.2.1]; exact H.out.2.2.2, hR1, hf1⟩
  clear hhear h1 hR1 hf1 hk1 hvs1 hRR1
  go_wp2_with fail
  clear c3
  go_loopg [17] n (fun f i wr => ∃ (j : Nat) (nj : Px.Env) (ds : List (Rd 6)), f = n - j ∧ j ≤ n ∧ i = .int .i64 (j : Int) ∧ Hid (allI (tickG r.was) c.regions (n - j) j nj ds = some p ∧ RnM A wr c ⟨nj, r.was, ds⟩ rb Q x ∧ FrQ Q w wr))
  case atStart => exact ⟨0, _, r.ds, by omega, by omega, rfl, H1.out⟩
  case round =>
    obtain ⟨j, nj, ds, rfl, hj, rfl, hr⟩ := hrel
    obtain ⟨hr1, hr2, hr3⟩ := hr.out
    by_cases hlt : j < n
    · obtain ⟨L, hL⟩ : ∃ L, c.regions[j]? = some L := ⟨c.regions[j]'(by rw [← H.out.2.2.1]; exact hlt), by rw [List.getElem?_eq_getElem]⟩
      rw [show n - j = n - (j + 1) + 1 by omega] at hr1
      obtain ⟨dj, q, hd, hq, hnx⟩ := allI_step hr1 hL
      obtain ⟨cj, hRj⟩ := hr2.reg j L dj hL hd
      have hix := ixG aR x.gR n cR j hlt HAR.out
      have hsa := H.out.2.1.st L (List.mem_of_getElem? hL)
      have hsep := hr2.sep j
      have hrv := hr2.runV
      have HN : Hid (∀ w', RegM A 6 w' (fun b => Q b ∧ x.rl b = 4 + j) L q.2 (x.gr j) ∧ RunV w' rb x.bn x.bw x.m (vnames c.vars) q.1 r.was ∧ FrP (fun b => Q b ∧ x.rl b = 4 + j) x.bn wr w' → allI (tickG r.was) c.regions (n - (j + 1)) (j + 1) q.1 (ds.set j q.2) = some p ∧ RnM A w' c ⟨q.1, r.was, ds.set j q.2⟩ rb Q x ∧ FrQ Q w w') := fun w' ⟨a1, a2, a3⟩ =>
        ⟨hnx, hr2.region hL hd a3 a2 a1, hr3.trans (FrQ.of_frp a3 (fun _ hb => hb.1) H.out.1.q1.1)⟩
      obtain ⟨l, hR⟩ := hRj
      have hcT : wr.cell? ⟨x.gr j, 1, none⟩ = some (pS l.gS (show RdF (Rd 5) from dj).there) := cell_row hR.hg 1 rfl
      unfold tickG at hq
      cases hth : (show RdF (Rd 5) from dj).there with
      | none =>
        rw [if_pos hth] at hq
        rw [hth] at hcT
        obtain ⟨pf, pw, cf, cw, -, hE⟩ := enter_ok A 6 false ⟨l, hR⟩ hsa hsep hrv hq
        have hcall := hE (.inl rfl)
        unfold RegTo at hcall
        have hcN : wr.cell? ⟨x.gr j, 1, none⟩ = some (.pointer none) := hcT
        clear hr hr1 hr2 hr3 hL hd hq hnx hsa hsep hrv hR hcT hth hE cw H1
        go_wp2_with (refine hcall.mono ?_; rintro e w5 ⟨rfl, h5⟩)
        go_roundg (n - (j + 1))
        case measure => omega
        case rel => exact ⟨j + 1, q.1, ds.set j q.2, rfl, by omega, by go_num, HN.out w5 h5.out⟩
      | some i =>
        rw [if_neg (by rw [hth]; simp)] at hq
        rw [hth] at hcT
        have hcall := go_ok A 6 ⟨l, hR⟩ hsa hsep hrv hq
        unfold RegTo at hcall
        have hcN : wr.cell? ⟨x.gr j, 1, none⟩ = some (.pointer (some ⟨l.gS, i * 11, none⟩)) := hcT
        clear hr hr1 hr2 hr3 hL hd hq hnx hsa hsep hrv hR hcT hth H1
        go_wp2_with (refine hcall.mono ?_; rintro e w5 ⟨rfl, h5⟩)
        go_roundg (n - (j + 1))
        case measure => omega
        case rel => exact ⟨j + 1, q.1, ds.set j q.2, rfl, by omega, by go_num, HN.out w5 h5.out⟩
    · obtain rfl : j = n := by omega
      rw [Nat.sub_self, allI] at hr1
      injection hr1 with hr1
      subst hr1
      have hrd : RnM A wr.drew c ⟨nj, r.was, ds⟩ rb Q x := hr2.below (w' := wr.drew) ((Below.refl _ _).drew)
      have hcp := mcopy_any hrd.mw hrd.mn hrd.wn hrd.hm
      obtain ⟨vv2, aR2, cR2, hk2, hvs2, _⟩ := hrd.hv
      have p1 := cell_row hk2 1 (u := .map (some x.bn)) rfl
      have p2 := cell_row hk2 2 (u := .map (some x.bw)) rfl
      have HG : Hid (RnM A wr.drew c ⟨nj, r.was, ds⟩ rb Q x ∧ FrQ Q w wr.drew) := ⟨hrd, hr3.trans (FrQ.of_below ((Below.refl _ _).drew))⟩
      have HZ : Hid (∀ w5, wr.drew.grownBy w5 (some x.bw) → w5.cell? ⟨rb, 1, none⟩ = some (.map (some x.bn)) ∧ w5.cell? ⟨rb, 2, none⟩ = some (.map (some x.bw))) := fun w5 hg => by
        have hb : w5.heap[rb]? = wr.drew.heap[rb]? := hg.block rb (hrd.hQ rb hrd.q0.1) (fun e => by injection e with e; have h1 := hrd.q0.2; have h2 := hrd.q2.2; rw [← e] at h2; omega)
        exact ⟨by rw [World.cell?_of_block (w := wr.drew) (a := ⟨rb, 1, none⟩) hb]; exact p1, by rw [World.cell?_of_block (w := wr.drew) (a := ⟨rb, 2, none⟩) hb]; exact p2⟩
      clear hr hr2 hr3 hrd hk2 hvs2 H1
      go_upto_region 11 with fail
      go_region_held3 (fun W => W.cell? ⟨rb, 1, none⟩ = some (.map (some x.bn)) ∧ W.cell? ⟨rb, 2, none⟩ = some (.map (some x.bw))) (first | exact HZ5.out | go_keep)
        (first | (go_at_call 41; refine hcp.mono ?_; rintro e w5 ⟨rfl, h5⟩; have HZ5 : Hid (w5.cell? ⟨rb, 1, none⟩ = some (.map (some x.bn)) ∧ w5.cell? ⟨rb, 2, none⟩ = some (.map (some x.bw))) := HZ.out w5 h5.out.2.2))
      all_goals
        have hR5 := HG.out.1.setWas h5.out.2.2 h5.out.1
        have hf5 : FrQ Q w w5 := HG.out.2.trans ⟨h5.out.2.2.os, h5.out.2.2.tape, h5.out.2.2.output, h5.out.2.2.size, fun b hb hq => h5.out.2.2.block b hb (fun e => hq (by injection e with e; rw [e]; exact HG.out.1.q2.1))⟩
        obtain ⟨vv5, aR5, cR5, hk5, hvs5, _⟩ := hR5.hv
        have htell := tellO_any (cell_row hk5 0 rfl) hvs5 H.out.2.1.vn H.out.2.1.vl hR5.runV
        have HR5 : Hid (RnM A w5 c ⟨nj, nj, ds⟩ rb Q x ∧ FrQ Q w w5) := ⟨hR5, hf5⟩
        clear hR5 hf5 hk5 hvs5 h5 p1 p2 hcp
        go_wp2_with fail
        refine htell.mono ?_
        rintro e w6 ⟨v6, rfl, h6⟩
        obtain ⟨a6, n6, m6, e6⟩ : ∃ a n m, v6 = .slice a n m := by obtain ⟨a, m, e⟩ := owns_shape h6.out.1; exact ⟨a, _, m, e⟩
        subst e6
        clear htell
        go_wp2_with fail
        go_ret
        refine ⟨_, _, _, rfl, HR5.out.1.below h6.out.2, ?_, HR5.out.2.trans (FrQ.of_below h6.out.2)⟩
        have h7 := h6.out.1
        obtain ⟨h8, h9⟩ := h7
        refine ⟨h8, ?_⟩
        rcases h9 with h9 | ⟨g, cap, cur, e, hB, rest⟩
        · exact .inl h9
        · exact .inr ⟨g, cap, cur, e, Nat.le_trans HR5.out.2.size hB, rest⟩
end
end Go.Proofs.YtiihgnagjemikaaGreatDoor
