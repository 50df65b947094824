/- Split: the program's tokens of a text, or where it has none. -/
import Derived.Test.YthcapeglhebdjaaDoorRead
namespace Go.Proofs.YthcapeglhebdjaaDoor
open Go.RowKit

def tokCells (t : Lx.Tok) : List Value := [.int .i64 t.kind, .string ⟨t.text.toArray⟩, .int .i64 t.place]
def cells (l : List Lx.Tok) : List Value := l.flatMap tokCells
theorem cells_snoc (l : List Lx.Tok) (t : Lx.Tok) : cells (l ++ [t]) = cells l ++ tokCells t := by simp [cells]
theorem own_below {w w' : World} {B e size n : Nat} {v : Value} {xs : List Value} (h : w.ownsRow B e size v n xs) (hb : Below w.heap.size w w') : w'.ownsRow B e size v n xs := by
  refine ⟨h.1, ?_⟩
  rcases h.2 with hn | ⟨g, cap, cur, rfl, hg, hgg, rest⟩
  · exact .inl hn
  · exact .inr ⟨g, cap, cur, rfl, hg, by rw [hb.block g (Array.getElem?_eq_some_iff.1 hgg).1]; exact hgg, rest⟩
theorem cell_three_new (w : World) (a b c : Value) (t : TypeId) : ∀ j u, [a, b, c][j]? = some u → (w.alloc (.cells #[a, b, c] t)).cell? ((⟨w.heap.size, 0, none⟩ : Addr).add j) = some u := by
  intro j u hj
  match j, hj with
  | 0, hj => simp at hj; subst hj; simp [Addr.add]
  | 1, hj => simp at hj; subst hj; simp [Addr.add]
  | 2, hj => simp at hj; subst hj; simp [Addr.add]
  | j + 3, hj => simp at hj
theorem lt_of_cell {w : World} {b o : Nat} {v : Value} (h : w.cell? ⟨b, o, none⟩ = some v) : b < w.heap.size := by
  rcases Nat.lt_or_ge b w.heap.size with h' | h'
  · exact h'
  · simp [World.cell?, Array.getElem?_eq_none h'] at h
theorem Marks.lt {w : World} (h : Marks w) : 1 < w.heap.size := lt_of_cell (h 0 (by decide))
theorem Marks.below {w w' : World} {B : Nat} (h : Marks w) (hB : w.heap.size ≤ B) (hb : Below B w w') : Marks w' := fun i hi => by
  rw [hb.cell (p := ⟨1, i, none⟩) (Nat.lt_of_lt_of_le h.lt hB)]; exact h i hi
/-- what lies above w's memory, seen from a later world -/
theorem Below.up {w w1 w2 : World} (h : Below w.heap.size w w1) (k : Below w1.heap.size w1 w2) : Below w.heap.size w w2 := h.trans (k.mono h.size)

theorem Tryd.info35 : (Tryd.prog.info? 35).map (fun i => (i.zero, i.size, i.bytes)) = some (some (.agg #[.int .i64 0, .string ⟨#[]⟩, .int .i64 0]), 3, 32) := by kernel_rfl

theorem clone_any (s : ByteArray) (w : World) (hs : s.size ≤ 20000) :
    Calls Tryd.prog 21 #[.string s] w fun e w' => e = .returned (.string s) ∧ Below w.heap.size w w' := by
  go_enter Tryd.func21, Tryd.ntmps21
  go_wp2_with (go_at_call 31; refine (Tryd.stringslite_Clone s _ (by omega)).mono ?_; rintro e w' ⟨rfl, hb⟩)
  go_ret
  exact ⟨rfl, hb⟩

/-- what Split answers: tokens, or what is wrong, and where -/
def Split (s : ByteArray) (w : World) (v err : Value) (w' : World) : Prop :=
  Below w.heap.size w w' ∧
  ((∃ l, Lx.Ok (bs s) l ∧ err = .nilIface ∧ w'.ownsRow w.heap.size 35 3 v (l.length + 1) (cells (l ++ [⟨4, [], s.size⟩]))) ∨
   (∃ e q g, Lx.Bad (bs s) e q ∧ q ≤ s.size ∧ v = .slice none 0 0 ∧ err = .iface 59 (.pointer (some ⟨g, 0, none⟩)) ∧ w.heap.size ≤ g ∧ w'.heap[g]? = some (.cells #[.int .i64 e, .int .i64 q] 60 (0, 0))))

theorem owns_shape {w : World} {B e size n : Nat} {v : Value} {xs : List Value} (h : w.ownsRow B e size v n xs) : ∃ ao cap, v = .slice ao n cap := by
  rcases h.2 with ⟨rfl, rfl⟩ | ⟨g, cap, cur, rfl, _⟩
  · exact ⟨none, 0, rfl⟩
  · exact ⟨_, cap, rfl⟩
theorem read_at (s : ByteArray) (a kd ln en : Nat) (w : World) (hs : s.size ≤ 20000) (ha : a < s.size) (hm : Marks w) (h : Hid (Lx.rd ((bs s).drop a) = (kd, ln))) (he : Hid (en = a + ln)) :
    Calls Tryd.prog 19 #[.string s, .int .i64 a] w fun e w' => e = .returned (.tuple #[.int .i64 kd, .int .i64 en]) ∧ w' = w := by
  refine (read_any s a w hs ha hm).mono ?_
  rintro e w' ⟨rfl, rfl⟩
  exact ⟨by rw [h.out, he.out], rfl⟩
theorem extract_size (s : ByteArray) (a b : Nat) : (s.extract a b).size ≤ s.size := by
  rw [ByteArray.size_extract]; omega
theorem tok_one (a b : Int) (s : ByteArray) : ∀ u ∈ [Value.int .i64 a, .string s, .int .i64 b], u.oneCell' = true := by
  intro u hu; simp at hu; rcases hu with rfl | rfl | rfl <;> rfl
/-- what a token more does to the loop's relation -/
theorem split_step {s : ByteArray} {w wr w1 w2 : World} {l : List Lx.Tok} {k a kd ln en : Nat} {v v' : Value} {o : Obj} (hen : en = a + ln) (hto : Lx.To (bs s) l k) (hn : l.length ≤ 600) (ha : a = Lx.skipTo (bs s) k) (hlt : a < s.size)
    (hrd : Lx.rd ((bs s).drop a) = (kd, ln)) (hf : Lx.flt kd ln l.length = 0) (hbw : Below w.heap.size w wr) (hown : wr.ownsRow w.heap.size 35 3 v l.length (cells l)) (hb1 : Below wr.heap.size wr w1)
    (hown' : w2.ownsRow w.heap.size 35 3 v' (l.length + 1) (cells l ++ [.int .i64 kd, .string (s.extract a en), .int .i64 a])) (hg : (w1.alloc o).grownBy w2 v.ownBlock) :
    ∃ l' : List Lx.Tok, Lx.To (bs s) l' en ∧ l'.length ≤ 600 ∧ w2.ownsRow w.heap.size 35 3 v' l'.length (cells l') ∧ Below w.heap.size w w2 ∧ 0 < ln := by
  subst hen
  have h0 : kd ≠ 0 := by
    intro h; rw [h] at hf; simp [Lx.flt] at hf
  have h1 : ¬ (kd = 2 ∧ 18 < ln) := by
    intro h; rw [Lx.flt, if_neg h0, if_pos h] at hf; exact absurd hf (by decide)
  have h2 : ¬ 600 ≤ l.length := by
    intro h; rw [Lx.flt, if_neg h0, if_neg h1, if_pos h] at hf; exact absurd hf (by decide)
  have e1 : (Lx.rd ((bs s).drop a)).1 = kd := by rw [hrd]
  have e2 : (Lx.rd ((bs s).drop a)).2 = ln := by rw [hrd]
  have st := Lx.To_snoc hto ha (by rw [bs_len]; exact hlt) (by rw [e1]; exact h0) (by rw [e1, e2]; exact h1)
  rw [e1, e2] at st
  have hpos := Lx.rd_pos ((bs s).drop a) (by rw [e1]; exact h0)
  have hle := Lx.rd_le ((bs s).drop a)
  rw [e2] at hpos hle
  rw [List.length_drop, bs_len] at hle
  refine ⟨_, st, by simp; omega, ?_, ?_, hpos⟩
  · have ec : tokCells ⟨kd, ((bs s).drop a).take ln, a⟩ = [.int .i64 kd, .string (s.extract a (a + ln)), .int .i64 a] := by
      have : (⟨(((bs s).drop a).take ln).toArray⟩ : ByteArray) = s.extract a (a + ln) := by
        have hx := bs_extract s a (a + ln)
        rw [Nat.add_sub_cancel_left] at hx
        rw [← hx]
      simp only [tokCells, this]
    rw [cells_snoc, ec, List.length_append]
    exact hown'
  · refine Below.grown ((hbw.trans (hb1.mono hbw.size)).alloc ?_ _) hg ?_ ?_
    · exact Nat.le_trans hbw.size hb1.size
    · have := hbw.size; have := hb1.size; simp; omega
    · intro j hj; have := (hown.lt _ hj).1; omega

set_option maxRecDepth 100000 in
set_option maxHeartbeats 1000000 in
theorem split_any (s : ByteArray) (w : World) (hs : s.size ≤ 20000) (hm : Marks w) :
    Calls Tryd.prog 7 #[.string s] w fun e w' => ∃ v err, e = .returned (.tuple #[v, err]) ∧ Split s w v err w' := by
  obtain ⟨i0, hi, hz0, hz1, hz2⟩ := info_parts Tryd.info35
  have hsk0 := Lx.skipTo_le (s := bs s) (k := 0) (by omega)
  rw [bs_len] at hsk0
  go_enter Tryd.func7, Tryd.ntmps7
  go_wp2_with (go_at_call 18; refine (skip_any s 0 _ hs (by omega)).mono ?_; rintro e w' ⟨rfl, hw⟩; obtain rfl := hw.symm)
  go_loopw [4, 5] (fun v i wr => ∃ (l : List Lx.Tok) (k a : Nat), Lx.To (bs s) l k ∧ l.length ≤ 600 ∧ Hid (a = Lx.skipTo (bs s) k) ∧ a ≤ s.size ∧ i = .int .i64 a ∧ wr.ownsRow w.heap.size 35 3 v l.length (cells l) ∧ Below w.heap.size w wr) (fun _ i _ => s.size - (intOf i).toNat)
  case atStart => exact ⟨[], 0, _, Lx.To_zero _, by simp, rfl, hsk0.2, rfl, World.ownsRow_nil _ _ _ _, Below.refl _ _⟩
  case round =>
    obtain ⟨l, k, a, hto, hn, ha, hale, rfl, hown, hbw⟩ := hrel
    obtain ⟨ao, cap, rfl⟩ := owns_shape hown
    have hmr := hm.below (Nat.le_refl _) hbw
    by_cases hlt : a < s.size
    · obtain ⟨kd, ln, hrd⟩ : ∃ kd ln, Hid (Lx.rd ((bs s).drop a) = (kd, ln)) := ⟨_, _, rfl⟩
      have hkd : kd ≤ 3 := by have := Lx.rd_kind ((bs s).drop a); rw [hrd.out] at this; exact this
      have hln : a + ln ≤ s.size := by
        have := Lx.rd_le ((bs s).drop a); rw [hrd.out, List.length_drop, bs_len] at this; show a + ln ≤ s.size; simp at this; omega
      obtain ⟨f, hf⟩ : ∃ f, Hid (f = Lx.flt kd ln l.length) := ⟨_, rfl⟩
      obtain ⟨en, hen⟩ : ∃ en, Hid (en = a + ln) := ⟨_, rfl⟩
      have hen1 : a ≤ en := by have := hen.out; omega
      have hen2 : en ≤ s.size := by have := hen.out; omega
      have hfl : ∀ w', Calls Tryd.prog 20 #[.int .i64 kd, .int .i64 ((en : Int) - a), .int .i64 l.length] w' fun e w'' => e = .returned (.int .i64 f) ∧ w'' = w' := fun w' => by rw [hf.out, show (en : Int) - a = ln by have := hen.out; omega]; exact fault_any kd ln l.length w' hkd (by omega) hn
      have hsk := Lx.skipTo_le (s := bs s) (k := en) (by rw [bs_len]; exact hen2)
      rw [bs_len] at hsk
      by_cases h0 : f = 0
      · subst h0
        have hwb := hbw.size
        go_wp2_with (first
          | (go_at_call 19; refine (read_at s a kd ln en _ hs hlt hmr hrd hen).mono ?_; rintro e w' ⟨rfl, hw⟩; obtain rfl := hw.symm)
          | (go_at_call 20; refine (hfl _).mono ?_; rintro e w' ⟨rfl, hw⟩; obtain rfl := hw.symm)
          | (go_at_call 21; refine (clone_any (s.extract a en) _ (Nat.le_trans (extract_size s _ _) hs)).mono ?_; rintro e w1 ⟨rfl, hb1⟩; have hwb1 := hb1.size)
          | (at_builtin; refine wpList_append_own _ rfl (.tmp 35) (.tmp 44) 28 rfl w.heap.size 35 i0 (.agg #[.int .i64 0, .string ⟨#[]⟩, .int .i64 0]) 3 32 Tryd.underlying28 hi hz0 hz1 hz2 rfl (by decide) _ _ _ rfl ((own_below hown hb1).alloc _) ⟨w1.heap.size, 0, none⟩ 1 1 [.int .i64 kd, .string (s.extract a en), .int .i64 a] rfl rfl (cell_three_new _ _ _ _ _) (tok_one _ _ _) (by unfold maxLen; omega) (by omega) (by simp; omega) ?_; intro v' w2 hown' hgrow _; have X : Hid _ := split_step hen.out hto hn ha.out hlt hrd.out hf.out.symm hbw hown hb1 hown' hgrow; clear hown' hgrow hown hbw hmr hb1)
          | (go_at_call 18; refine (skip_any s en _ hs hen2).mono ?_; rintro e w' ⟨rfl, hw⟩; obtain rfl := hw.symm))
        obtain ⟨l', hto', hn', hown', hbw', hpos⟩ := X.out
        have hlast : a < en := by have := hen.out; omega
        go_roundw
        case rel => exact ⟨l', en, _, hto', hn', rfl, hsk.2, rfl, hown', hbw'⟩
        case measure => simp [intOf]; omega
      · have h0' : ¬ (f : Int) = 0 := by omega
        have h0'' : ((f : Int) != 0) = true := by simpa using h0'
        go_wp2_with (first | (go_at_call 19; refine (read_at s a kd ln en _ hs hlt hmr hrd hen).mono ?_; rintro e w' ⟨rfl, hw⟩; obtain rfl := hw.symm) | (go_at_call 20; refine (hfl _).mono ?_; rintro e w' ⟨rfl, hw⟩; obtain rfl := hw.symm))
        go_ret2
        refine ⟨_, _, rfl, hbw.alloc hbw.size _, .inr ⟨f, a, wr.heap.size, ?_, by omega, rfl, rfl, hbw.size, heap_alloc_new _ _⟩⟩
        exact Lx.To_Bad hto hn ha.out (by rw [bs_len]; exact hlt) (by rw [hrd.out]; exact hf.out) h0
    · have hwb := hbw.size
      obtain rfl : a = s.size := by omega
      go_wp2_with (at_builtin; refine wpList_append_own _ rfl (.tmp 49) (.tmp 52) 28 rfl w.heap.size 35 i0 (.agg #[.int .i64 0, .string ⟨#[]⟩, .int .i64 0]) 3 32 Tryd.underlying28 hi hz0 hz1 hz2 rfl (by decide) _ _ _ rfl (hown.alloc _) ⟨wr.heap.size, 0, none⟩ 1 1 [.int .i64 4, .string ⟨#[]⟩, .int .i64 s.size] rfl rfl (cell_three_new _ _ _ _ _) (tok_one _ _ _) (by unfold maxLen; omega) (by omega) (by simp; omega) ?_; intro v' w2 hown' hgrow _)
      go_ret2
      refine ⟨_, _, rfl, ?_, .inl ⟨l, ?_, rfl, ?_⟩⟩
      · exact Below.grown (hbw.alloc hwb _) hgrow (by simp; omega) (fun j hj => by have := (hown.lt _ hj).1; omega)
      · exact Lx.To_Ok hto hn (by rw [bs_len, ← ha.out]; omega)
      · rw [cells_snoc]; exact hown'
end Go.Proofs.YthcapeglhebdjaaDoor
