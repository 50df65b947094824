/- The document's own reader: expr and the functions in it. -/
import Derived.Test.YtpbfmfhjgghldaaDoorJRchain5
import Derived.Test.YtpbfmfhjgghldaaDoorJRead
import Derived.Maps.AppendAt
namespace Go.Proofs.YtpbfmfhjgghldaaDoor
open Go.RowKit Px

theorem signs_new (C : Ctx) (w : World) (sg : List (Str × Nat)) (T1 T2 : TypeId) (hC : C.rb < w.heap.size) : Signs C ((w.alloc (.cells (sg.map (fun p => sv p.1)).toArray T1)).alloc (.cells (sg.map (fun p => .int .i64 p.2)).toArray T2)) w.heap.size (w.heap.size + 1) sg := by
  have h1 : ((w.alloc (.cells (sg.map (fun p => sv p.1)).toArray T1)).alloc (.cells (sg.map (fun p => .int .i64 p.2)).toArray T2)).heap[w.heap.size]? = some (.cells (sg.map (fun p => sv p.1)).toArray T1 (0, 0)) := by
    rw [Below.heap_alloc _ _ _ (by simp)]; exact heap_alloc_new w _
  have h2 : ((w.alloc (.cells (sg.map (fun p => sv p.1)).toArray T1)).alloc (.cells (sg.map (fun p => .int .i64 p.2)).toArray T2)).heap[w.heap.size + 1]? = some (.cells (sg.map (fun p => .int .i64 p.2)).toArray T2 (0, 0)) := by
    have := heap_alloc_new (w.alloc (.cells (sg.map (fun p => sv p.1)).toArray T1)) (.cells (sg.map (fun p => .int .i64 p.2)).toArray T2)
    simpa using this
  refine ⟨fun j p hj => ⟨?_, ?_⟩, by simp; omega, by simp, by omega, by omega⟩
  · rw [cell_of_row _ _ _ _ _ _ h1]; simp [hj]
  · rw [cell_of_row _ _ _ _ _ _ h2]; simp [hj]
end Go.Proofs.YtpbfmfhjgghldaaDoor
/- The document's own reader: expr. -/
namespace Go.Proofs.YtpbfmfhjgghldaaDoor
open Go.RowKit Px

theorem box_step (w : World) (v : Value) (T : TypeId) : (w.alloc (.cells #[v] T)).cell? ⟨w.heap.size, 0, none⟩ = some v ∧ (w.alloc (.cells #[v] T)).heap.size = w.heap.size + 1 ∧ (∀ b, b < w.heap.size → (w.alloc (.cells #[v] T)).cell? ⟨b, 0, none⟩ = w.cell? ⟨b, 0, none⟩) ∧ Fr w.heap.size [] w (w.alloc (.cells #[v] T)) :=
  ⟨by simp, by simp, fun b hb => World.cell?_alloc_lt _ _ ⟨b, 0, none⟩ hb, (Fr.refl _ _ _).alloc (Nat.le_refl _) _⟩
/-- a node of an expression that is made -/
theorem isE_new {w : World} {c B n : Nat} {x : Int} {s : Str} {l : E} {lv : Value} (hn : w.heap.size = n) (hB : B ≤ n) (hl : IsE (Ge B) w l lv) :
    IsE (Ge B) (w.alloc (.cells #[.int .i64 c, .int .i64 x, sv s, lv, .pointer none] 121)) (.node 0 0 ⟨c, x, s⟩ l .nil) (.pointer (some ⟨n, 0, none⟩)) := by
  subst hn
  have k : Keep (Ge B) (Ge B) w (w.alloc (.cells #[.int .i64 c, .int .i64 x, sv s, lv, .pointer none] 121)) := fun b ha hb => ⟨ha, Below.heap_alloc _ _ _ hb⟩
  exact ⟨w.heap.size, lv, .pointer none, rfl, hB, heap_alloc_new w _, hl.carry k, rfl⟩
end Go.Proofs.YtpbfmfhjgghldaaDoor
/- The document's own reader: one. -/
namespace Go.Proofs.YtpbfmfhjgghldaaDoor
open Go.RowKit Px

end Go.Proofs.YtpbfmfhjgghldaaDoor
/- Split: the program's tokens of a text, or where it has none. -/
namespace Go.Proofs.YtpbfmfhjgghldaaDoor
open Go.RowKit

def tokCells (t : Lx.Tok) : List Value := [.int .i64 t.kind, .string ⟨t.text.toArray⟩, .int .i64 t.place]
def cells (l : List Lx.Tok) : List Value := l.flatMap tokCells
theorem cells_snoc (l : List Lx.Tok) (t : Lx.Tok) : cells (l ++ [t]) = cells l ++ tokCells t := by simp [cells]
theorem own_below {w w' : World} {B e size n : Nat} {v : Value} {xs : List Value} (h : w.ownsRow B e size v n xs) (hb : Below w.heap.size w w') : w'.ownsRow B e size v n xs := by
  refine ⟨h.1, ?_⟩
  rcases h.2 with hn | ⟨g, cap, cur, rfl, hg, hgg, rest⟩
  · exact .inl hn
  · exact .inr ⟨g, cap, cur, rfl, hg, by rw [hb.block g (Array.getElem?_eq_some_iff.1 hgg).1]; exact hgg, rest⟩
theorem cell_three_new (w : World) (a b c : Value) (t : TypeId) : ∀ j u, [a, b, c][j]? = some u → (w.alloc (.cells #[a, b, c] t)).cell? ((⟨w.heap.size, 0, none⟩ : Addr).add j) = some u := by
  intro j u hj
  match j, hj with
  | 0, hj => simp at hj; subst hj; simp [Addr.add]
  | 1, hj => simp at hj; subst hj; simp [Addr.add]
  | 2, hj => simp at hj; subst hj; simp [Addr.add]
  | j + 3, hj => simp at hj
theorem lt_of_cell {w : World} {b o : Nat} {v : Value} (h : w.cell? ⟨b, o, none⟩ = some v) : b < w.heap.size := by
  rcases Nat.lt_or_ge b w.heap.size with h' | h'
  · exact h'
  · simp [World.cell?, Array.getElem?_eq_none h'] at h
theorem Marks.lt {w : World} (h : Marks w) : 0 < w.heap.size := lt_of_cell (h 0 (by decide))
theorem Marks.below {w w' : World} {B : Nat} (h : Marks w) (hB : w.heap.size ≤ B) (hb : Below B w w') : Marks w' := fun i hi => by
  rw [hb.cell (p := ⟨0, i, none⟩) (Nat.lt_of_lt_of_le h.lt hB)]; exact h i hi
/-- what lies above w's memory, seen from a later world -/
theorem Below.up {w w1 w2 : World} (h : Below w.heap.size w w1) (k : Below w1.heap.size w1 w2) : Below w.heap.size w w2 := h.trans (k.mono h.size)

theorem Tryd.info66 : (Tryd.prog.info? 66).map (fun i => (i.zero, i.size, i.bytes)) = some (some (.agg #[.int .i64 0, .string ⟨#[]⟩, .int .i64 0]), 3, 32) := by kernel_rfl

theorem clone_any (s : ByteArray) (w : World) (hs : s.size ≤ 1000000) :
    Calls Tryd.prog 19 #[.string s] w fun e w' => e = .returned (.string s) ∧ Below w.heap.size w w' := by
  go_enter Tryd.func19, Tryd.ntmps19
  go_wp2_with (go_at_call 42; refine (Tryd.stringslite_Clone s _ (by omega)).mono ?_; rintro e w' ⟨rfl, hb⟩)
  go_ret
  exact ⟨rfl, hb⟩

/-- what Split answers: tokens, or what is wrong, and where -/
def Split (s : ByteArray) (w : World) (v err : Value) (w' : World) : Prop :=
  Below w.heap.size w w' ∧
  ((∃ l, Lx.Ok (bs s) l ∧ err = .nilIface ∧ w'.ownsRow w.heap.size 66 3 v (l.length + 1) (cells (l ++ [⟨4, [], s.size⟩]))) ∨
   (∃ e q g, Lx.Bad (bs s) e q ∧ q ≤ s.size ∧ v = .slice none 0 0 ∧ err = .iface 39 (.pointer (some ⟨g, 0, none⟩)) ∧ w.heap.size ≤ g ∧ w'.heap[g]? = some (.cells #[.int .i64 e, .int .i64 q] 63 (0, 0))))

theorem owns_shape {w : World} {B e size n : Nat} {v : Value} {xs : List Value} (h : w.ownsRow B e size v n xs) : ∃ ao cap, v = .slice ao n cap := by
  rcases h.2 with ⟨rfl, rfl⟩ | ⟨g, cap, cur, rfl, _⟩
  · exact ⟨none, 0, rfl⟩
  · exact ⟨_, cap, rfl⟩
theorem read_at (s : ByteArray) (a kd ln en : Nat) (w : World) (hs : s.size ≤ 1000000) (ha : a < s.size) (hm : Marks w) (h : Hid (Lx.rd ((bs s).drop a) = (kd, ln))) (he : Hid (en = a + ln)) :
    Calls Tryd.prog 17 #[.string s, .int .i64 a] w fun e w' => e = .returned (.tuple #[.int .i64 kd, .int .i64 en]) ∧ w' = w := by
  refine (read_any s a w hs ha hm).mono ?_
  rintro e w' ⟨rfl, rfl⟩
  exact ⟨by rw [h.out, he.out], rfl⟩
theorem extract_size (s : ByteArray) (a b : Nat) : (s.extract a b).size ≤ s.size := by
  rw [ByteArray.size_extract]; omega
theorem tok_one (a b : Int) (s : ByteArray) : ∀ u ∈ [Value.int .i64 a, .string s, .int .i64 b], u.oneCell' = true := by
  intro u hu; simp at hu; rcases hu with rfl | rfl | rfl <;> rfl
/-- what a token more does to the loop's relation -/
theorem split_step {s : ByteArray} {w wr w1 w2 : World} {l : List Lx.Tok} {k a kd ln en : Nat} {v v' : Value} {o : Obj} (hen : en = a + ln) (hto : Lx.To (bs s) l k) (hn : l.length ≤ 600) (ha : a = Lx.skipTo (bs s) k) (hlt : a < s.size)
    (hrd : Lx.rd ((bs s).drop a) = (kd, ln)) (hf : Lx.flt kd ln l.length = 0) (hbw : Below w.heap.size w wr) (hown : wr.ownsRow w.heap.size 66 3 v l.length (cells l)) (hb1 : Below wr.heap.size wr w1)
    (hown' : w2.ownsRow w.heap.size 66 3 v' (l.length + 1) (cells l ++ [.int .i64 kd, .string (s.extract a en), .int .i64 a])) (hg : (w1.alloc o).grownBy w2 v.ownBlock) :
    ∃ l' : List Lx.Tok, Lx.To (bs s) l' en ∧ l'.length ≤ 600 ∧ w2.ownsRow w.heap.size 66 3 v' l'.length (cells l') ∧ Below w.heap.size w w2 ∧ 0 < ln := by
  subst hen
  have h0 : kd ≠ 0 := by
    intro h; rw [h] at hf; simp [Lx.flt] at hf
  have h1 : ¬ (kd = 2 ∧ 18 < ln) := by
    intro h; rw [Lx.flt, if_neg h0, if_pos h] at hf; exact absurd hf (by decide)
  have h2 : ¬ 600 ≤ l.length := by
    intro h; rw [Lx.flt, if_neg h0, if_neg h1, if_pos h] at hf; exact absurd hf (by decide)
  have e1 : (Lx.rd ((bs s).drop a)).1 = kd := by rw [hrd]
  have e2 : (Lx.rd ((bs s).drop a)).2 = ln := by rw [hrd]
  have st := Lx.To_snoc hto ha (by rw [bs_len]; exact hlt) (by rw [e1]; exact h0) (by rw [e1, e2]; exact h1)
  rw [e1, e2] at st
  have hpos := Lx.rd_pos ((bs s).drop a) (by rw [e1]; exact h0)
  have hle := Lx.rd_le ((bs s).drop a)
  rw [e2] at hpos hle
  rw [List.length_drop, bs_len] at hle
  refine ⟨_, st, by simp; omega, ?_, ?_, hpos⟩
  · have ec : tokCells ⟨kd, ((bs s).drop a).take ln, a⟩ = [.int .i64 kd, .string (s.extract a (a + ln)), .int .i64 a] := by
      have : (⟨(((bs s).drop a).take ln).toArray⟩ : ByteArray) = s.extract a (a + ln) := by
        have hx := bs_extract s a (a + ln)
        rw [Nat.add_sub_cancel_left] at hx
        rw [← hx]
      simp only [tokCells, this]
    rw [cells_snoc, ec, List.length_append]
    exact hown'
  · refine Below.grown ((hbw.trans (hb1.mono hbw.size)).alloc ?_ _) hg ?_ ?_
    · exact Nat.le_trans hbw.size hb1.size
    · have := hbw.size; have := hb1.size; simp; omega
    · intro j hj; have := (hown.lt _ hj).1; omega

set_option maxRecDepth 100000 in
set_option maxHeartbeats 1000000 in
theorem split_any (s : ByteArray) (w : World) (hs : s.size ≤ 1000000) (hm : Marks w) :
    Calls Tryd.prog 8 #[.string s] w fun e w' => ∃ v err, e = .returned (.tuple #[v, err]) ∧ Split s w v err w' := by
  obtain ⟨i0, hi, hz0, hz1, hz2⟩ := info_parts Tryd.info66
  have hsk0 := Lx.skipTo_le (s := bs s) (k := 0) (by omega)
  rw [bs_len] at hsk0
  go_enter Tryd.func8, Tryd.ntmps8
  go_wp2_with (go_at_call 16; refine (skip_any s 0 _ hs (by omega)).mono ?_; rintro e w' ⟨rfl, hw⟩; obtain rfl := hw.symm)
  go_loopw [4, 5] (fun v i wr => ∃ (l : List Lx.Tok) (k a : Nat), Lx.To (bs s) l k ∧ l.length ≤ 600 ∧ Hid (a = Lx.skipTo (bs s) k) ∧ a ≤ s.size ∧ i = .int .i64 a ∧ wr.ownsRow w.heap.size 66 3 v l.length (cells l) ∧ Below w.heap.size w wr) (fun _ i _ => s.size - (intOf i).toNat)
  case atStart => exact ⟨[], 0, _, Lx.To_zero _, by simp, rfl, hsk0.2, rfl, World.ownsRow_nil _ _ _ _, Below.refl _ _⟩
  case round =>
    obtain ⟨l, k, a, hto, hn, ha, hale, rfl, hown, hbw⟩ := hrel
    obtain ⟨ao, cap, rfl⟩ := owns_shape hown
    have hmr := hm.below (Nat.le_refl _) hbw
    by_cases hlt : a < s.size
    · obtain ⟨kd, ln, hrd⟩ : ∃ kd ln, Hid (Lx.rd ((bs s).drop a) = (kd, ln)) := ⟨_, _, rfl⟩
      have hkd : kd ≤ 3 := by have := Lx.rd_kind ((bs s).drop a); rw [hrd.out] at this; exact this
      have hln : a + ln ≤ s.size := by
        have := Lx.rd_le ((bs s).drop a); rw [hrd.out, List.length_drop, bs_len] at this; show a + ln ≤ s.size; simp at this; omega
      obtain ⟨f, hf⟩ : ∃ f, Hid (f = Lx.flt kd ln l.length) := ⟨_, rfl⟩
      obtain ⟨en, hen⟩ : ∃ en, Hid (en = a + ln) := ⟨_, rfl⟩
      have hen1 : a ≤ en := by have := hen.out; omega
      have hen2 : en ≤ s.size := by have := hen.out; omega
      have hfl : ∀ w', Calls Tryd.prog 18 #[.int .i64 kd, .int .i64 ((en : Int) - a), .int .i64 l.length] w' fun e w'' => e = .returned (.int .i64 f) ∧ w'' = w' := fun w' => by rw [hf.out, show (en : Int) - a = ln by have := hen.out; omega]; exact fault_any kd ln l.length w' hkd (by omega) hn
      have hsk := Lx.skipTo_le (s := bs s) (k := en) (by rw [bs_len]; exact hen2)
      rw [bs_len] at hsk
      by_cases h0 : f = 0
      · subst h0
        have hwb := hbw.size
        go_wp2_with (first
          | (go_at_call 17; refine (read_at s a kd ln en _ hs hlt hmr hrd hen).mono ?_; rintro e w' ⟨rfl, hw⟩; obtain rfl := hw.symm)
          | (go_at_call 18; refine (hfl _).mono ?_; rintro e w' ⟨rfl, hw⟩; obtain rfl := hw.symm)
          | (go_at_call 19; refine (clone_any (s.extract a en) _ (Nat.le_trans (extract_size s _ _) hs)).mono ?_; rintro e w1 ⟨rfl, hb1⟩; have hwb1 := hb1.size)
          | (at_builtin; refine wpList_append_own _ rfl (.tmp 35) (.tmp 44) 36 rfl w.heap.size 66 i0 (.agg #[.int .i64 0, .string ⟨#[]⟩, .int .i64 0]) 3 32 Tryd.underlying36 hi hz0 hz1 hz2 rfl (by decide) _ _ _ rfl ((own_below hown hb1).alloc _) ⟨w1.heap.size, 0, none⟩ 1 1 [.int .i64 kd, .string (s.extract a en), .int .i64 a] rfl rfl (cell_three_new _ _ _ _ _) (tok_one _ _ _) (by unfold maxLen; omega) (by omega) (by simp; omega) ?_; intro v' w2 hown' hgrow _; have X : Hid _ := split_step hen.out hto hn ha.out hlt hrd.out hf.out.symm hbw hown hb1 hown' hgrow; clear hown' hgrow hown hbw hmr hb1)
          | (go_at_call 16; refine (skip_any s en _ hs hen2).mono ?_; rintro e w' ⟨rfl, hw⟩; obtain rfl := hw.symm))
        obtain ⟨l', hto', hn', hown', hbw', hpos⟩ := X.out
        have hlast : a < en := by have := hen.out; omega
        go_roundw
        case rel => exact ⟨l', en, _, hto', hn', rfl, hsk.2, rfl, hown', hbw'⟩
        case measure => simp [intOf]; omega
      · have h0' : ¬ (f : Int) = 0 := by omega
        have h0'' : ((f : Int) != 0) = true := by simpa using h0'
        go_wp2_with (first | (go_at_call 17; refine (read_at s a kd ln en _ hs hlt hmr hrd hen).mono ?_; rintro e w' ⟨rfl, hw⟩; obtain rfl := hw.symm) | (go_at_call 18; refine (hfl _).mono ?_; rintro e w' ⟨rfl, hw⟩; obtain rfl := hw.symm))
        go_ret2
        refine ⟨_, _, rfl, hbw.alloc hbw.size _, .inr ⟨f, a, wr.heap.size, ?_, by omega, rfl, rfl, hbw.size, heap_alloc_new _ _⟩⟩
        exact Lx.To_Bad hto hn ha.out (by rw [bs_len]; exact hlt) (by rw [hrd.out]; exact hf.out) h0
    · have hwb := hbw.size
      obtain rfl : a = s.size := by omega
      go_wp2_with (at_builtin; refine wpList_append_own _ rfl (.tmp 49) (.tmp 52) 36 rfl w.heap.size 66 i0 (.agg #[.int .i64 0, .string ⟨#[]⟩, .int .i64 0]) 3 32 Tryd.underlying36 hi hz0 hz1 hz2 rfl (by decide) _ _ _ rfl (hown.alloc _) ⟨wr.heap.size, 0, none⟩ 1 1 [.int .i64 4, .string ⟨#[]⟩, .int .i64 s.size] rfl rfl (cell_three_new _ _ _ _ _) (tok_one _ _ _) (by unfold maxLen; omega) (by omega) (by simp; omega) ?_; intro v' w2 hown' hgrow _)
      go_ret2
      refine ⟨_, _, rfl, ?_, .inl ⟨l, ?_, rfl, ?_⟩⟩
      · exact Below.grown (hbw.alloc hwb _) hgrow (by simp; omega) (fun j hj => by have := (hown.lt _ hj).1; omega)
      · exact Lx.To_Ok hto hn (by rw [bs_len, ← ha.out]; omega)
      · rw [cells_snoc]; exact hown'
end Go.Proofs.YtpbfmfhjgghldaaDoor
/- sets, times, way. -/
namespace Go.Proofs.YtpbfmfhjgghldaaDoor
open Go.RowKit Px

theorem Tryd.info134 : (Tryd.prog.info? 134).map (fun i => (i.zero, i.size, i.bytes)) = some (some (.agg #[.string ⟨#[]⟩, .pointer none]), 2, 24) := by kernel_rfl
theorem IsE.oneCell {A : Nat → Prop} {w : World} {e : E} {v : Value} (h : IsE A w e v) : v.oneCell' = true := by
  obtain ⟨u, rfl⟩ := h.ptr; rfl
/-- blocks from a number on that a value does not own -/
def GeNot (n : Nat) (v : Value) (b : Nat) : Prop := n ≤ b ∧ v.ownBlock ≠ some b
/-- a row to which records were added, and what lay in it, and in others -/
theorem row_keep {B : Nat} {v v' : Value} {w w1 w2 : World} (hk : Keep (GeNot B v) (GeNot B v) w w1) (hs : w.heap.size ≤ w1.heap.size) (hg : w1.grownBy w2 v.ownBlock) (hat : v'.ownBlock = v.ownBlock ∨ v'.ownBlock = some w1.heap.size) : Keep (GeNot B v) (GeNot B v') w w2 := fun b hb hlt => by
  obtain ⟨h1, h2⟩ := hk b hb hlt
  refine ⟨⟨hb.1, ?_⟩, ?_⟩
  · rcases hat with h | h
    · rw [h]; exact hb.2
    · rw [h]; intro e; injection e with e; omega
  · rw [hg.block b (by omega) (fun e => hb.2 e.symm), h2]
theorem ge_geNot {B n : Nat} {v : Value} {w : World} (hB : B ≤ n) (hv : ∀ g, v.ownBlock = some g → g < n) : Keep (Ge n) (GeNot B v) w w := fun b hb _ =>
  ⟨⟨Nat.le_trans hB hb, fun e => by have := hv b e; simp [Ge] at hb; omega⟩, rfl⟩
theorem geNot_ge {B : Nat} {v : Value} {w : World} : Keep (GeNot B v) (Ge B) w w := fun _ hb _ => ⟨hb.1, rfl⟩
theorem keepNot {C : Ctx} {B : Nat} {v : Value} {w w' : World} (hB : C.rb < B) (hf : Fr w.heap.size [C.rb] w w') : Keep (GeNot B v) (GeNot B v) w w' := hf.keep (fun b hb => by
  have := hb.1; simp; omega)
theorem own_carry {C : Ctx} {B e size n : Nat} {v : Value} {xs : List Value} {w w' : World} (h : w.ownsRow B e size v n xs) (hB : C.rb < B) (hf : Fr w.heap.size [C.rb] w w') : w'.ownsRow B e size v n xs := by
  refine ⟨h.1, ?_⟩
  rcases h.2 with hn | ⟨g, cap, cur, rfl, hb, hgg, rest⟩
  · exact .inl hn
  · exact .inr ⟨g, cap, cur, rfl, hb, by rw [hf.block g (lt_of_block hgg) (by simp; omega)]; exact hgg, rest⟩
/-- what is set, so far -/
structure SetsAt (B : Nat) (w : World) (l : List Asg) (v : Value) (xs : List Value) : Prop where
  own : w.ownsRow B 134 2 v l.length xs
  rows : Rows (SetC (GeNot B v) w) l xs
theorem SetsAt.done {B : Nat} {w : World} {l : List Asg} {v : Value} {xs : List Value} (h : SetsAt B w l v xs) : IsSets (Ge B) w l v :=
  ⟨xs, ⟨own_base0 h.own, fun g hg => (h.own.lt g hg).1⟩, h.rows.map (SetC.carry geNot_ge)⟩
theorem SetsAt.carry {C : Ctx} {B : Nat} {w w' : World} {l : List Asg} {v : Value} {xs : List Value} (h : SetsAt B w l v xs) (hB : C.rb < B) (hf : Fr w.heap.size [C.rb] w w') : SetsAt B w' l v xs :=
  ⟨own_carry h.own hB hf, h.rows.map (SetC.carry (keepNot hB hf))⟩
theorem PS.low {C : Ctx} {w w' : World} {B i st ins und : Nat} (h : PS C w i st ins und) (hB : C.rb < B) (hf : Fr B [] w w') : PS C w' i st ins und := by
  have hgr := h.gr
  have hi := h.hi
  have hg : w'.heap[C.g]? = w.heap[C.g]? := hf.block _ (by omega) (by simp)
  refine ⟨by rw [hf.block _ hB (by simp)]; exact h.rd, fun k t hk => ?_, h.tab.keep (fun b hb => hf.block b (by omega) (by simp)), h.lt, h.wf, h.gr, h.hi⟩
  have := h.tk k t hk
  rw [World.cell?_of_block (w := w) (a := ⟨C.g, k * 3, none⟩) hg, World.cell?_of_block (w := w) (a := ⟨C.g, k * 3 + 1, none⟩) hg, World.cell?_of_block (w := w) (a := ⟨C.g, k * 3 + 2, none⟩) hg]
  exact this
def OkS (C : Ctx) (w : World) (st ins : Nat) (p : List Asg × Nat) (v : Value) (w' : World) : Prop := (∃ xs, SetsAt w.heap.size w' p.1 v xs) ∧ p.1.length ≤ p.2 ∧ PS C w' p.2 st ins 0
theorem cell_two_new (w : World) (a b : Value) (t : TypeId) : ∀ j u, [a, b][j]? = some u → (w.alloc (.cells #[a, b] t)).cell? ((⟨w.heap.size, 0, none⟩ : Addr).add j) = some u := by
  intro j u hj
  match j, hj with
  | 0, hj => simp at hj; subst hj; simp [Addr.add]
  | 1, hj => simp at hj; subst hj; simp [Addr.add]
  | j + 2, hj => simp at hj
theorem expr_lt {L : List Lx.Tok} {i j : Nat} {e : E} (h : Hid (expr L i = .ok (e, j))) : i < j := lev_lt (one_lt 7) _ _ _ _ h.out
theorem Fr.up' {B : Nat} {X : List Nat} {w w1 w2 : World} (h : Fr B X w w1) (k : Fr w1.heap.size X w1 w2) (hB : B ≤ w1.heap.size) : Fr B X w w2 := h.trans (k.mono hB (fun _ hx _ => hx))
/-- one more that is set -/
theorem sets_step {C : Ctx} {B : Nat} {w wr w5 w6 : World} {l : List Asg} {v v' : Value} {xs : List Value} {s : Str} {e : E} {p : Value} {o : Obj} (hB : C.rb < B) (hBr : B ≤ wr.heap.size) (h : SetsAt B wr l v xs) (hf : Fr wr.heap.size [C.rb] wr w5) (hw : Fr B [C.rb] w wr) (he : IsE (Ge wr.heap.size) w5 e p)
    (hown : w6.ownsRow B 134 2 v' (l.length + 1) (xs ++ [sv s, p])) (hg : (w5.alloc o).grownBy w6 v.ownBlock) (hat : v'.ownBlock = v.ownBlock ∨ v'.ownBlock = some (w5.alloc o).heap.size) :
    SetsAt B w6 (l ++ [⟨s, e⟩]) v' (xs ++ [sv s, p]) ∧ Fr B [C.rb] w w6 := by
  have hs5 := hf.size
  have kA : ∀ A : Nat → Prop, Keep A A w5 (w5.alloc o) := fun A b ha hb => ⟨ha, Below.heap_alloc _ _ _ hb⟩
  have k1 : Keep (GeNot B v) (GeNot B v') wr w6 := row_keep ((keepNot hB hf).trans (kA _) hs5) (by simp; omega) hg hat
  have hvl : ∀ g, v.ownBlock = some g → g < wr.heap.size := fun g hg => (h.own.lt g hg).2
  have k2 : Keep (Ge wr.heap.size) (GeNot B v') w5 w6 := ((ge_geNot hBr hvl).trans (row_keep (kA _) (by simp) hg hat) (Nat.le_refl _))
  refine ⟨⟨by rw [List.length_append]; exact hown, (h.rows.map (SetC.carry k1)).append (Rows.one ⟨p, rfl, he.carry k2⟩)⟩, ?_⟩
  exact ((hw.up' hf hBr).alloc (by omega) o).grown hg (by simp; omega) (fun k hk => .inl (h.own.lt k hk).1)

set_option maxRecDepth 100000 in
set_option maxHeartbeats 4000000 in
theorem sets_any {C : Ctx} {w : World} {i st ins : Nat} (h : PS C w i st ins 0) : Calls Tryd.prog 66 #[.pointer (some ⟨C.rb, 0, none⟩)] w (Out C (OkS C w st ins) w (sets C.L C.L.length [] i)) := by
  obtain ⟨i0, hi, hz0, hz1, hz2⟩ := info_parts Tryd.info134
  have hC := h.lts.1
  go_enter Tryd.func66, Tryd.ntmps66
  go_wp2_with fail
  go_loopg [3] C.L.length (fun g v wr => ∃ (l : List Asg) (j : Nat) (xs : List Value), Hid (sets C.L C.L.length [] i = sets C.L g l j) ∧ C.L.length ≤ g + j ∧ l.length ≤ j ∧ SetsAt w.heap.size wr l v xs ∧ PS C wr j st ins 0 ∧ Fr w.heap.size [C.rb] w wr)
  case atStart => exact ⟨[], i, [], rfl, by omega, by simp, ⟨World.ownsRow_nil _ _ _ _, rfl⟩, h, Fr.refl _ _ _⟩
  case round =>
    obtain ⟨l, j, xs, hr1, hg, hlj, hS, hp1, hf1⟩ := hrel
    obtain ⟨ao, cap, rfl⟩ := owns_shape hS.own
    have hl6 := hp1.wf.len
    have hj6 := hp1.lt
    have hB1 := hf1.size
    obtain ⟨g', hgg⟩ : ∃ g', gk = g' + 1 := ⟨gk - 1, by have := hp1.lt; omega⟩
    subst hgg
    have T1 : Hid True := trivial
    go_wp2_with (first
      | (go_at_call 21; refine (name_any hp1).mono ?_; rintro e w2 h2; rcases h2.cases with ⟨f, hr2, q, rfl, hq⟩ | ⟨s2, v2, hr2, rfl, ⟨rfl, hp2⟩, hf2⟩; (· exact ⟨rfl, by rw [hr1.out, sets, hr2.out]; exact Thrown.up hf1 ⟨q, rfl, hq⟩⟩); rw [sv])
      | (go_at_call 20; refine (need_any hp2 ⟨#[58, 61]⟩ kColEq rfl (by decide)).mono ?_; rintro e w3 h3; rcases h3.cases with ⟨f, hr3, q, rfl, hq⟩ | ⟨_, v3, hr3, rfl, ⟨rfl, hp3⟩, hf3⟩; (· exact ⟨rfl, by rw [hr1.out, sets, hr2.out]; simp only; rw [if_neg (need_bad hr3).1, ← (need_bad hr3).2]; exact Thrown.up (hf1.up hf2) ⟨q, rfl, hq⟩⟩))
      | (go_at_call 67; refine (expr_any hp3).mono ?_; rintro e w4 h4; rcases h4.cases with ⟨f, hr4, q, rfl, hq⟩ | ⟨⟨e4, j4⟩, v4, hr4, rfl, ⟨hv4, hp4⟩, hf4⟩; (· exact ⟨rfl, by rw [hr1.out, sets, hr2.out]; simp only; rw [if_pos (need_ok hr3), hr4.out]; exact Thrown.up ((hf1.up hf2).up hf3) ⟨q, rfl, hq⟩⟩); obtain ⟨p4, rfl⟩ := hv4.ptr; have hj4 := expr_lt hr4; have hl4 := hp4.lt; have hF4 : Fr wr.heap.size [C.rb] wr w4 := (hf2.up hf3).up hf4; have hB4 := hF4.size; have hv4' := hv4.ge ((hf2.up hf3).size))
      | (at_builtin; refine wpList_append_own_at _ rfl (.tmp 9) (.tmp 14) 52 rfl w.heap.size 134 i0 (.agg #[.string ⟨#[]⟩, .pointer none]) 2 24 Tryd.underlying52 hi hz0 hz1 hz2 rfl (by decide) _ _ _ rfl ((own_carry hS.own hC hF4).alloc _) ⟨w4.heap.size, 0, none⟩ 1 1 [.string ⟨s2.toArray⟩, .pointer p4] rfl rfl (cell_two_new _ _ _ _) (by intro u hu; simp at hu; rcases hu with rfl | rfl <;> rfl) (by unfold maxLen; omega) (by omega) (by simp; omega) ?_; intro v5 w5 hown5 hgrow _ hat; obtain ⟨hS5, hF5⟩ := sets_step (s := s2) (e := e4) hC hB1 hS hF4 hf1 hv4' hown5 hgrow hat; clear hown5; have hb5 : Fr w.heap.size [] w4 w5 := ((Fr.refl _ _ _).alloc (by omega) _).grown hgrow (by simp; omega) (fun k hk => .inl (hS.own.lt k hk).1); have hp5 := hp4.low hC hb5))
    have hsh : w5.ownsRow w.heap.size 134 2 v5 (l.length + 1) (xs ++ [sv s2, .pointer p4]) := by have := hS5.own; rw [List.length_append] at this; exact this
    obtain ⟨ao5, cap5, rfl⟩ := owns_shape hsh
    by_cases hcm : tx C.L j4 = kComma
    · go_wp2_with (go_at_call 28; refine (take_yes hp5 ⟨#[44]⟩ hcm (by decide)).mono ?_; rintro e w6 ⟨rfl, hp6, hf6⟩)
      go_roundg g'
      case measure => omega
      case rel => exact ⟨l ++ [⟨s2, e4⟩], j4 + 1, _, by rw [Hid, hr1.out, sets, hr2.out]; simp only; rw [if_pos (need_ok hr3), hr4.out]; simp only; rw [if_pos hcm], by omega, by simp; omega, hS5.carry hC hf6, hp6, hF5.up' hf6 (by have := hF5.size; omega)⟩
    · go_wp2_with (go_at_call 28; refine (take_no hp5 ⟨#[44]⟩ hcm).mono ?_; rintro e w6 ⟨rfl, hp6, hf6⟩)
      go_ret
      rw [hr1.out, sets, hr2.out]
      simp only
      rw [if_pos (need_ok hr3), hr4.out]
      simp only
      rw [if_neg hcm]
      exact ⟨_, rfl, ⟨⟨_, hS5.carry hC hf6.wide⟩, by simp; omega, hp6⟩, hF5.up' hf6.wide (by have := hF5.size; omega)⟩

set_option maxRecDepth 100000 in
set_option maxHeartbeats 2000000 in
theorem times_any {C : Ctx} {w : World} {i st ins und : Nat} (h : PS C w i st ins und) : Calls Tryd.prog 84 #[.pointer (some ⟨C.rb, 0, none⟩)] w (Out C (fun (n : Nat) v w' => v = .int .i64 n ∧ PS C w' (i + 1) st ins und) w (times C.L i)) := by
  rcases hn : number C.L i with f | n
  · have HN : Hid (number C.L i = .error f) := hn
    clear hn
    go_enter Tryd.func84, Tryd.ntmps84
    go_wp2_with (go_at_call 44; refine (number_any _ i st ins und h).mono ?_; rintro e w1 h1; rw [HN.out] at h1; obtain ⟨q, rfl, hq⟩ := h1; exact ⟨rfl, by rw [times, HN.out]; exact ⟨q, rfl, hq⟩⟩)
  · have HN : Hid (number C.L i = .ok n) := hn
    clear hn
    by_cases hb : n < 1 ∨ 1000 < n
    · have HT : Hid (times C.L i = .error (4, pl C.L i)) := by rw [Hid, times, HN.out]; exact if_pos hb
      rcases hb with hb | hb
      · have hb1 : (n : Int) < 1 := by omega
        go_enter Tryd.func84, Tryd.ntmps84
        go_wp2_with (first
          | (go_at_call 44; refine (number_any _ i st ins und h).mono ?_; rintro e w1 h1; rw [HN.out] at h1; obtain ⟨v1, rfl, ⟨rfl, hn18, hp1⟩, hf1⟩ := h1; obtain ⟨-, c1, -⟩ := hp1.cells; have z1 := hp1.frozen 1; obtain ⟨hp2, hf2⟩ := hp1.back; have hl6 := hp1.wf.len; have hil := hp1.lt)
          | (go_at_call 30; refine (throw_any hp2 4).mono ?_; rintro e w3 ⟨q, rfl, ht⟩))
        rw [HT.out]
        exact ⟨rfl, Thrown.up (hf1.up hf2) ⟨q, rfl, ht⟩⟩
      · have hb1 : ¬ (n : Int) < 1 := by omega
        have hb2 : (1000 : Int) < (n : Int) := by omega
        go_enter Tryd.func84, Tryd.ntmps84
        go_wp2_with (first
          | (go_at_call 44; refine (number_any _ i st ins und h).mono ?_; rintro e w1 h1; rw [HN.out] at h1; obtain ⟨v1, rfl, ⟨rfl, hn18, hp1⟩, hf1⟩ := h1; obtain ⟨-, c1, -⟩ := hp1.cells; have z1 := hp1.frozen 1; obtain ⟨hp2, hf2⟩ := hp1.back; have hl6 := hp1.wf.len; have hil := hp1.lt)
          | (go_at_call 30; refine (throw_any hp2 4).mono ?_; rintro e w3 ⟨q, rfl, ht⟩))
        rw [HT.out]
        exact ⟨rfl, Thrown.up (hf1.up hf2) ⟨q, rfl, ht⟩⟩
    · have HT : Hid (times C.L i = .ok n) := by rw [Hid, times, HN.out]; exact if_neg hb
      have hb1 : ¬ (n : Int) < 1 := by omega
      have hb2 : ¬ (1000 : Int) < (n : Int) := by omega
      clear hb
      go_enter Tryd.func84, Tryd.ntmps84
      go_wp2_with (go_at_call 44; refine (number_any _ i st ins und h).mono ?_; rintro e w1 h1; rw [HN.out] at h1; obtain ⟨v1, rfl, ⟨rfl, hn18, hp1⟩, hf1⟩ := h1)
      go_ret
      rw [HT.out]
      exact ⟨_, rfl, ⟨rfl, hp1⟩, hf1⟩
end Go.Proofs.YtpbfmfhjgghldaaDoor
/- The document's own reader: sets. -/
namespace Go.Proofs.YtpbfmfhjgghldaaDoor
open Go.RowKit Px

theorem Px.setR_lt {L : List Lx.Tok} {σ : S} (h : (setR L σ).2.bad = none) : σ.i < (setR L σ).2.i := by
  obtain ⟨i, st, b⟩ := σ
  cases b with
  | some f => rw [setR_bad (f := f) rfl] at h; exact absurd h (by simp)
  | none =>
    cases hn : nm L i with
    | error y =>
      have hb : (setR L ⟨i, st, none⟩).2.bad = some y := expr_sim.bad (must_bad (by rw [nameR_err hn]))
      rw [hb] at h; exact absurd h (by simp)
    | ok s =>
      by_cases h1 : tx L (i + 1) = kColEq
      · have e : (setR L ⟨i, st, none⟩).2 = (exprR L 7 ⟨i + 2, st, none⟩).2 := by rw [setR, nameR_ok hn]; simp only; rw [must_yes h1]
        rw [e] at h ⊢
        have := expr_sim.lt (fun i e j hh => expr_lt (show Hid (expr L i = .ok (e, j)) from hh)) h
        simp only at this
        show i < _
        omega
      · have hb : (setR L ⟨i, st, none⟩).2.bad = some (3, pl L (i + 1)) := by rw [setR, nameR_ok hn]; simp only; rw [must_no h1]; exact expr_sim.bad rfl
        rw [hb] at h; exact absurd h (by simp)
def OkR (w : World) (l : List Asg) (v : Value) (w' : World) : Prop := (∃ xs, SetsAt w.heap.size w' l v xs) ∧ l.length ≤ 602
/-- a new block stays, behind calls of the reader's -/
theorem Fr.stays {C : Ctx} {w w' : World} {b : Nat} {o : Obj} (hf : Fr w.heap.size [C.rb] w w') (hb : w.heap[b]? = some o) (hn : C.rb < b) : w'.heap[b]? = some o := by
  rw [hf.block b (lt_of_block hb) (by simp; omega)]; exact hb
theorem cells2 {w : World} {b : Nat} {a0 a1 : Value} {t : TypeId} (h : w.heap[b]? = some (.cells #[a0, a1] t (0, 0))) :
    w.cell? ⟨b, 0, none⟩ = some a0 ∧ w.cell? ⟨b, 1, none⟩ = some a1 ∧ ∀ o, w.frozen? ⟨b, o, none⟩ = false := by
  refine ⟨?_, ?_, fun o => by simp [World.frozen?, h]⟩ <;> (rw [cell_of_row _ _ _ _ _ _ h]; rfl)

end Go.Proofs.YtpbfmfhjgghldaaDoor
