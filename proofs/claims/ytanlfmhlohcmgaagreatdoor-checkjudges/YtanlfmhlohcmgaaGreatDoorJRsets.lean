/- Split: the program's tokens of a text, or where it has none. -/
import Derived.Test.YtanlfmhlohcmgaaGreatDoorJRead
import Derived.Test.YtanlfmhlohcmgaaGreatDoorJPnum
import Derived.Maps.AppendAt
import Derived.Test.YtanlfmhlohcmgaaGreatDoorJRone
namespace Go.Proofs.YtanlfmhlohcmgaaGreatDoor
open Go.RowKit

def tokCells (t : Lx.Tok) : List Value := [.int .i64 t.kind, .string ⟨t.text.toArray⟩, .int .i64 t.place]
def cells (l : List Lx.Tok) : List Value := l.flatMap tokCells
theorem cells_snoc (l : List Lx.Tok) (t : Lx.Tok) : cells (l ++ [t]) = cells l ++ tokCells t := by simp [cells]
theorem own_below {w w' : World} {B e size n : Nat} {v : Value} {xs : List Value} (h : w.ownsRow B e size v n xs) (hb : Below w.heap.size w w') : w'.ownsRow B e size v n xs := by
  refine ⟨h.1, ?_⟩
  rcases h.2 with hn | ⟨g, cap, cur, rfl, hg, hgg, rest⟩
  · exact .inl hn
  · exact .inr ⟨g, cap, cur, rfl, hg, by rw [hb.block g (Array.getElem?_eq_some_iff.1 hgg).1]; exact hgg, rest⟩
theorem cell_three_new (w : World) (a b c : Value) (t : TypeId) : ∀ j u, [a, b, c][j]? = some u → (w.alloc (.cells #[a, b, c] t)).cell? ((⟨w.heap.size, 0, none⟩ : Addr).add j) = some u := by
  intro j u hj
  match j, hj with
  | 0, hj => simp at hj; subst hj; simp [Addr.add]
  | 1, hj => simp at hj; subst hj; simp [Addr.add]
  | 2, hj => simp at hj; subst hj; simp [Addr.add]
  | j + 3, hj => simp at hj
theorem lt_of_cell {w : World} {b o : Nat} {v : Value} (h : w.cell? ⟨b, o, none⟩ = some v) : b < w.heap.size := by
  rcases Nat.lt_or_ge b w.heap.size with h' | h'
  · exact h'
  · simp [World.cell?, Array.getElem?_eq_none h'] at h
theorem Marks.lt {w : World} (h : Marks w) : 2 < w.heap.size := lt_of_cell (h 0 (by decide))
theorem Marks.below {w w' : World} {B : Nat} (h : Marks w) (hB : w.heap.size ≤ B) (hb : Below B w w') : Marks w' := fun i hi => by
  rw [hb.cell (p := ⟨2, i, none⟩) (Nat.lt_of_lt_of_le h.lt hB)]; exact h i hi
/-- what lies above w's memory, seen from a later world -/
theorem Below.up {w w1 w2 : World} (h : Below w.heap.size w w1) (k : Below w1.heap.size w1 w2) : Below w.heap.size w w2 := h.trans (k.mono h.size)

theorem Tryz.info119 : (Tryz.prog.info? 119).map (fun i => (i.zero, i.size, i.bytes)) = some (some (.agg #[.int .i64 0, .string ⟨#[]⟩, .int .i64 0]), 3, 32) := by kernel_rfl

theorem clone_any (s : ByteArray) (w : World) (hs : s.size ≤ 1000000) :
    Calls Tryz.prog 51 #[.string s] w fun e w' => e = .returned (.string s) ∧ Below w.heap.size w w' := by
  go_enter Tryz.func51, Tryz.ntmps51
  go_wp2_with (go_at_call 84; refine (Tryz.stringslite_Clone s _ (by omega)).mono ?_; rintro e w' ⟨rfl, hb⟩)
  go_ret
  exact ⟨rfl, hb⟩

/-- what Split answers: tokens, or what is wrong, and where -/
def Split (s : ByteArray) (w : World) (v err : Value) (w' : World) : Prop :=
  Below w.heap.size w w' ∧
  ((∃ l, Lx.Ok (bs s) l ∧ err = .nilIface ∧ w'.ownsRow w.heap.size 119 3 v (l.length + 1) (cells (l ++ [⟨4, [], s.size⟩]))) ∨
   (∃ e q g, Lx.Bad (bs s) e q ∧ q ≤ s.size ∧ v = .slice none 0 0 ∧ err = .iface 65 (.pointer (some ⟨g, 0, none⟩)) ∧ w.heap.size ≤ g ∧ w'.heap[g]? = some (.cells #[.int .i64 e, .int .i64 q] 66 (0, 0))))

theorem owns_shape {w : World} {B e size n : Nat} {v : Value} {xs : List Value} (h : w.ownsRow B e size v n xs) : ∃ ao cap, v = .slice ao n cap := by
  rcases h.2 with ⟨rfl, rfl⟩ | ⟨g, cap, cur, rfl, _⟩
  · exact ⟨none, 0, rfl⟩
  · exact ⟨_, cap, rfl⟩
theorem read_at (s : ByteArray) (a kd ln en : Nat) (w : World) (hs : s.size ≤ 1000000) (ha : a < s.size) (hm : Marks w) (h : Hid (Lx.rd ((bs s).drop a) = (kd, ln))) (he : Hid (en = a + ln)) :
    Calls Tryz.prog 49 #[.string s, .int .i64 a] w fun e w' => e = .returned (.tuple #[.int .i64 kd, .int .i64 en]) ∧ w' = w := by
  refine (read_any s a w hs ha hm).mono ?_
  rintro e w' ⟨rfl, rfl⟩
  exact ⟨by rw [h.out, he.out], rfl⟩
theorem extract_size (s : ByteArray) (a b : Nat) : (s.extract a b).size ≤ s.size := by
  rw [ByteArray.size_extract]; omega
theorem tok_one (a b : Int) (s : ByteArray) : ∀ u ∈ [Value.int .i64 a, .string s, .int .i64 b], u.oneCell' = true := by
  intro u hu; simp at hu; rcases hu with rfl | rfl | rfl <;> rfl
/-- what a token more does to the loop's relation -/
theorem split_step {s : ByteArray} {w wr w1 w2 : World} {l : List Lx.Tok} {k a kd ln en : Nat} {v v' : Value} {o : Obj} (hen : en = a + ln) (hto : Lx.To (bs s) l k) (hn : l.length ≤ 600) (ha : a = Lx.skipTo (bs s) k) (hlt : a < s.size)
    (hrd : Lx.rd ((bs s).drop a) = (kd, ln)) (hf : Lx.flt kd ln l.length = 0) (hbw : Below w.heap.size w wr) (hown : wr.ownsRow w.heap.size 119 3 v l.length (cells l)) (hb1 : Below wr.heap.size wr w1)
    (hown' : w2.ownsRow w.heap.size 119 3 v' (l.length + 1) (cells l ++ [.int .i64 kd, .string (s.extract a en), .int .i64 a])) (hg : (w1.alloc o).grownBy w2 v.ownBlock) :
    ∃ l' : List Lx.Tok, Lx.To (bs s) l' en ∧ l'.length ≤ 600 ∧ w2.ownsRow w.heap.size 119 3 v' l'.length (cells l') ∧ Below w.heap.size w w2 ∧ 0 < ln := by
  subst hen
  have h0 : kd ≠ 0 := by
    intro h; rw [h] at hf; simp [Lx.flt] at hf
  have h1 : ¬ (kd = 2 ∧ 18 < ln) := by
    intro h; rw [Lx.flt, if_neg h0, if_pos h] at hf; exact absurd hf (by decide)
  have h2 : ¬ 600 ≤ l.length := by
    intro h; rw [Lx.flt, if_neg h0, if_neg h1, if_pos h] at hf; exact absurd hf (by decide)
  have e1 : (Lx.rd ((bs s).drop a)).1 = kd := by rw [hrd]
  have e2 : (Lx.rd ((bs s).drop a)).2 = ln := by rw [hrd]
  have st := Lx.To_snoc hto ha (by rw [bs_len]; exact hlt) (by rw [e1]; exact h0) (by rw [e1, e2]; exact h1)
  rw [e1, e2] at st
  have hpos := Lx.rd_pos ((bs s).drop a) (by rw [e1]; exact h0)
  have hle := Lx.rd_le ((bs s).drop a)
  rw [e2] at hpos hle
  rw [List.length_drop, bs_len] at hle
  refine ⟨_, st, by simp; omega, ?_, ?_, hpos⟩
  · have ec : tokCells ⟨kd, ((bs s).drop a).take ln, a⟩ = [.int .i64 kd, .string (s.extract a (a + ln)), .int .i64 a] := by
      have : (⟨(((bs s).drop a).take ln).toArray⟩ : ByteArray) = s.extract a (a + ln) := by
        have hx := bs_extract s a (a + ln)
        rw [Nat.add_sub_cancel_left] at hx
        rw [← hx]
      simp only [tokCells, this]
    rw [cells_snoc, ec, List.length_append]
    exact hown'
  · refine Below.grown ((hbw.trans (hb1.mono hbw.size)).alloc ?_ _) hg ?_ ?_
    · exact Nat.le_trans hbw.size hb1.size
    · have := hbw.size; have := hb1.size; simp; omega
    · intro j hj; have := (hown.lt _ hj).1; omega

set_option maxRecDepth 100000 in
set_option maxHeartbeats 1000000 in
theorem split_any (s : ByteArray) (w : World) (hs : s.size ≤ 1000000) (hm : Marks w) :
    Calls Tryz.prog 31 #[.string s] w fun e w' => ∃ v err, e = .returned (.tuple #[v, err]) ∧ Split s w v err w' := by
  obtain ⟨i0, hi, hz0, hz1, hz2⟩ := info_parts Tryz.info119
  have hsk0 := Lx.skipTo_le (s := bs s) (k := 0) (by omega)
  rw [bs_len] at hsk0
  go_enter Tryz.func31, Tryz.ntmps31
  go_wp2_with (go_at_call 48; refine (skip_any s 0 _ hs (by omega)).mono ?_; rintro e w' ⟨rfl, hw⟩; obtain rfl := hw.symm)
  go_loopw [4, 5] (fun v i wr => ∃ (l : List Lx.Tok) (k a : Nat), Lx.To (bs s) l k ∧ l.length ≤ 600 ∧ Hid (a = Lx.skipTo (bs s) k) ∧ a ≤ s.size ∧ i = .int .i64 a ∧ wr.ownsRow w.heap.size 119 3 v l.length (cells l) ∧ Below w.heap.size w wr) (fun _ i _ => s.size - (intOf i).toNat)
  case atStart => exact ⟨[], 0, _, Lx.To_zero _, by simp, rfl, hsk0.2, rfl, World.ownsRow_nil _ _ _ _, Below.refl _ _⟩
  case round =>
    obtain ⟨l, k, a, hto, hn, ha, hale, rfl, hown, hbw⟩ := hrel
    obtain ⟨ao, cap, rfl⟩ := owns_shape hown
    have hmr := hm.below (Nat.le_refl _) hbw
    by_cases hlt : a < s.size
    · obtain ⟨kd, ln, hrd⟩ : ∃ kd ln, Hid (Lx.rd ((bs s).drop a) = (kd, ln)) := ⟨_, _, rfl⟩
      have hkd : kd ≤ 3 := by have := Lx.rd_kind ((bs s).drop a); rw [hrd.out] at this; exact this
      have hln : a + ln ≤ s.size := by
        have := Lx.rd_le ((bs s).drop a); rw [hrd.out, List.length_drop, bs_len] at this; show a + ln ≤ s.size; simp at this; omega
      obtain ⟨f, hf⟩ : ∃ f, Hid (f = Lx.flt kd ln l.length) := ⟨_, rfl⟩
      obtain ⟨en, hen⟩ : ∃ en, Hid (en = a + ln) := ⟨_, rfl⟩
      have hen1 : a ≤ en := by have := hen.out; omega
      have hen2 : en ≤ s.size := by have := hen.out; omega
      have hfl : ∀ w', Calls Tryz.prog 50 #[.int .i64 kd, .int .i64 ((en : Int) - a), .int .i64 l.length] w' fun e w'' => e = .returned (.int .i64 f) ∧ w'' = w' := fun w' => by rw [hf.out, show (en : Int) - a = ln by have := hen.out; omega]; exact fault_any kd ln l.length w' hkd (by omega) hn
      have hsk := Lx.skipTo_le (s := bs s) (k := en) (by rw [bs_len]; exact hen2)
      rw [bs_len] at hsk
      by_cases h0 : f = 0
      · subst h0
        have hwb := hbw.size
        go_wp2_with (first
          | (go_at_call 49; refine (read_at s a kd ln en _ hs hlt hmr hrd hen).mono ?_; rintro e w' ⟨rfl, hw⟩; obtain rfl := hw.symm)
          | (go_at_call 50; refine (hfl _).mono ?_; rintro e w' ⟨rfl, hw⟩; obtain rfl := hw.symm)
          | (go_at_call 51; refine (clone_any (s.extract a en) _ (Nat.le_trans (extract_size s _ _) hs)).mono ?_; rintro e w1 ⟨rfl, hb1⟩; have hwb1 := hb1.size)
          | (at_builtin; refine wpList_append_own _ rfl (.tmp 35) (.tmp 44) 83 rfl w.heap.size 119 i0 (.agg #[.int .i64 0, .string ⟨#[]⟩, .int .i64 0]) 3 32 Tryz.underlying83 hi hz0 hz1 hz2 rfl (by decide) _ _ _ rfl ((own_below hown hb1).alloc _) ⟨w1.heap.size, 0, none⟩ 1 1 [.int .i64 kd, .string (s.extract a en), .int .i64 a] rfl rfl (cell_three_new _ _ _ _ _) (tok_one _ _ _) (by unfold maxLen; omega) (by omega) (by simp; omega) ?_; intro v' w2 hown' hgrow _; have X : Hid _ := split_step hen.out hto hn ha.out hlt hrd.out hf.out.symm hbw hown hb1 hown' hgrow; clear hown' hgrow hown hbw hmr hb1)
          | (go_at_call 48; refine (skip_any s en _ hs hen2).mono ?_; rintro e w' ⟨rfl, hw⟩; obtain rfl := hw.symm))
        obtain ⟨l', hto', hn', hown', hbw', hpos⟩ := X.out
        have hlast : a < en := by have := hen.out; omega
        go_roundw
        case rel => exact ⟨l', en, _, hto', hn', rfl, hsk.2, rfl, hown', hbw'⟩
        case measure => simp [intOf]; omega
      · have h0' : ¬ (f : Int) = 0 := by omega
        have h0'' : ((f : Int) != 0) = true := by simpa using h0'
        go_wp2_with (first | (go_at_call 49; refine (read_at s a kd ln en _ hs hlt hmr hrd hen).mono ?_; rintro e w' ⟨rfl, hw⟩; obtain rfl := hw.symm) | (go_at_call 50; refine (hfl _).mono ?_; rintro e w' ⟨rfl, hw⟩; obtain rfl := hw.symm))
        go_ret2
        refine ⟨_, _, rfl, hbw.alloc hbw.size _, .inr ⟨f, a, wr.heap.size, ?_, by omega, rfl, rfl, hbw.size, heap_alloc_new _ _⟩⟩
        exact Lx.To_Bad hto hn ha.out (by rw [bs_len]; exact hlt) (by rw [hrd.out]; exact hf.out) h0
    · have hwb := hbw.size
      obtain rfl : a = s.size := by omega
      go_wp2_with (at_builtin; refine wpList_append_own _ rfl (.tmp 49) (.tmp 52) 83 rfl w.heap.size 119 i0 (.agg #[.int .i64 0, .string ⟨#[]⟩, .int .i64 0]) 3 32 Tryz.underlying83 hi hz0 hz1 hz2 rfl (by decide) _ _ _ rfl (hown.alloc _) ⟨wr.heap.size, 0, none⟩ 1 1 [.int .i64 4, .string ⟨#[]⟩, .int .i64 s.size] rfl rfl (cell_three_new _ _ _ _ _) (tok_one _ _ _) (by unfold maxLen; omega) (by omega) (by simp; omega) ?_; intro v' w2 hown' hgrow _)
      go_ret2
      refine ⟨_, _, rfl, ?_, .inl ⟨l, ?_, rfl, ?_⟩⟩
      · exact Below.grown (hbw.alloc hwb _) hgrow (by simp; omega) (fun j hj => by have := (hown.lt _ hj).1; omega)
      · exact Lx.To_Ok hto hn (by rw [bs_len, ← ha.out]; omega)
      · rw [cells_snoc]; exact hown'
end Go.Proofs.YtanlfmhlohcmgaaGreatDoor
/- sets, times, way. -/
namespace Go.Proofs.YtanlfmhlohcmgaaGreatDoor
open Go.RowKit Px

theorem Tryz.info155 : (Tryz.prog.info? 155).map (fun i => (i.zero, i.size, i.bytes)) = some (some (.agg #[.string ⟨#[]⟩, .pointer none]), 2, 24) := by kernel_rfl
theorem IsE.oneCell {A : Nat → Prop} {w : World} {e : E} {v : Value} (h : IsE A w e v) : v.oneCell' = true := by
  obtain ⟨u, rfl⟩ := h.ptr; rfl
/-- blocks from a number on that a value does not own -/
def GeNot (n : Nat) (v : Value) (b : Nat) : Prop := n ≤ b ∧ v.ownBlock ≠ some b
/-- a row to which records were added, and what lay in it, and in others -/
theorem row_keep {B : Nat} {v v' : Value} {w w1 w2 : World} (hk : Keep (GeNot B v) (GeNot B v) w w1) (hs : w.heap.size ≤ w1.heap.size) (hg : w1.grownBy w2 v.ownBlock) (hat : v'.ownBlock = v.ownBlock ∨ v'.ownBlock = some w1.heap.size) : Keep (GeNot B v) (GeNot B v') w w2 := fun b hb hlt => by
  obtain ⟨h1, h2⟩ := hk b hb hlt
  refine ⟨⟨hb.1, ?_⟩, ?_⟩
  · rcases hat with h | h
    · rw [h]; exact hb.2
    · rw [h]; intro e; injection e with e; omega
  · rw [hg.block b (by omega) (fun e => hb.2 e.symm), h2]
theorem ge_geNot {B n : Nat} {v : Value} {w : World} (hB : B ≤ n) (hv : ∀ g, v.ownBlock = some g → g < n) : Keep (Ge n) (GeNot B v) w w := fun b hb _ =>
  ⟨⟨Nat.le_trans hB hb, fun e => by have := hv b e; simp [Ge] at hb; omega⟩, rfl⟩
theorem geNot_ge {B : Nat} {v : Value} {w : World} : Keep (GeNot B v) (Ge B) w w := fun _ hb _ => ⟨hb.1, rfl⟩
theorem keepNot {C : Ctx} {B : Nat} {v : Value} {w w' : World} (hB : C.rb < B) (hf : Fr w.heap.size [C.rb] w w') : Keep (GeNot B v) (GeNot B v) w w' := hf.keep (fun b hb => by
  have := hb.1; simp; omega)
theorem own_carry {C : Ctx} {B e size n : Nat} {v : Value} {xs : List Value} {w w' : World} (h : w.ownsRow B e size v n xs) (hB : C.rb < B) (hf : Fr w.heap.size [C.rb] w w') : w'.ownsRow B e size v n xs := by
  refine ⟨h.1, ?_⟩
  rcases h.2 with hn | ⟨g, cap, cur, rfl, hb, hgg, rest⟩
  · exact .inl hn
  · exact .inr ⟨g, cap, cur, rfl, hb, by rw [hf.block g (lt_of_block hgg) (by simp; omega)]; exact hgg, rest⟩
/-- what is set, so far -/
structure SetsAt (B : Nat) (w : World) (l : List Asg) (v : Value) (xs : List Value) : Prop where
  own : w.ownsRow B 155 2 v l.length xs
  rows : Rows (SetC (GeNot B v) w) l xs
theorem SetsAt.done {B : Nat} {w : World} {l : List Asg} {v : Value} {xs : List Value} (h : SetsAt B w l v xs) : IsSets (Ge B) w l v :=
  ⟨xs, ⟨own_base0 h.own, fun g hg => (h.own.lt g hg).1⟩, h.rows.map (SetC.carry geNot_ge)⟩
theorem SetsAt.carry {C : Ctx} {B : Nat} {w w' : World} {l : List Asg} {v : Value} {xs : List Value} (h : SetsAt B w l v xs) (hB : C.rb < B) (hf : Fr w.heap.size [C.rb] w w') : SetsAt B w' l v xs :=
  ⟨own_carry h.own hB hf, h.rows.map (SetC.carry (keepNot hB hf))⟩
theorem PS.low {C : Ctx} {w w' : World} {B i st ins und : Nat} (h : PS C w i st ins und) (hB : C.rb < B) (hf : Fr B [] w w') : PS C w' i st ins und := by
  have hgr := h.gr
  have hi := h.hi
  have hg : w'.heap[C.g]? = w.heap[C.g]? := hf.block _ (by omega) (by simp)
  refine ⟨by rw [hf.block _ hB (by simp)]; exact h.rd, fun k t hk => ?_, h.tab.keep (fun b hb => hf.block b (by omega) (by simp)), h.lt, h.wf, h.gr, h.hi⟩
  have := h.tk k t hk
  rw [World.cell?_of_block (w := w) (a := ⟨C.g, k * 3, none⟩) hg, World.cell?_of_block (w := w) (a := ⟨C.g, k * 3 + 1, none⟩) hg, World.cell?_of_block (w := w) (a := ⟨C.g, k * 3 + 2, none⟩) hg]
  exact this
def OkS (C : Ctx) (w : World) (st ins : Nat) (p : List Asg × Nat) (v : Value) (w' : World) : Prop := (∃ xs, SetsAt w.heap.size w' p.1 v xs) ∧ p.1.length ≤ p.2 ∧ PS C w' p.2 st ins 0
theorem cell_two_new (w : World) (a b : Value) (t : TypeId) : ∀ j u, [a, b][j]? = some u → (w.alloc (.cells #[a, b] t)).cell? ((⟨w.heap.size, 0, none⟩ : Addr).add j) = some u := by
  intro j u hj
  match j, hj with
  | 0, hj => simp at hj; subst hj; simp [Addr.add]
  | 1, hj => simp at hj; subst hj; simp [Addr.add]
  | j + 2, hj => simp at hj
theorem expr_lt {L : List Lx.Tok} {i j : Nat} {e : E} (h : Hid (expr L i = .ok (e, j))) : i < j := lev_lt (one_lt 7) _ _ _ _ h.out
theorem Fr.up' {B : Nat} {X : List Nat} {w w1 w2 : World} (h : Fr B X w w1) (k : Fr w1.heap.size X w1 w2) (hB : B ≤ w1.heap.size) : Fr B X w w2 := h.trans (k.mono hB (fun _ hx _ => hx))
/-- one more that is set -/
theorem sets_step {C : Ctx} {B : Nat} {w wr w5 w6 : World} {l : List Asg} {v v' : Value} {xs : List Value} {s : Str} {e : E} {p : Value} {o : Obj} (hB : C.rb < B) (hBr : B ≤ wr.heap.size) (h : SetsAt B wr l v xs) (hf : Fr wr.heap.size [C.rb] wr w5) (hw : Fr B [C.rb] w wr) (he : IsE (Ge wr.heap.size) w5 e p)
    (hown : w6.ownsRow B 155 2 v' (l.length + 1) (xs ++ [sv s, p])) (hg : (w5.alloc o).grownBy w6 v.ownBlock) (hat : v'.ownBlock = v.ownBlock ∨ v'.ownBlock = some (w5.alloc o).heap.size) :
    SetsAt B w6 (l ++ [⟨s, e⟩]) v' (xs ++ [sv s, p]) ∧ Fr B [C.rb] w w6 := by
  have hs5 := hf.size
  have kA : ∀ A : Nat → Prop, Keep A A w5 (w5.alloc o) := fun A b ha hb => ⟨ha, Below.heap_alloc _ _ _ hb⟩
  have k1 : Keep (GeNot B v) (GeNot B v') wr w6 := row_keep ((keepNot hB hf).trans (kA _) hs5) (by simp; omega) hg hat
  have hvl : ∀ g, v.ownBlock = some g → g < wr.heap.size := fun g hg => (h.own.lt g hg).2
  have k2 : Keep (Ge wr.heap.size) (GeNot B v') w5 w6 := ((ge_geNot hBr hvl).trans (row_keep (kA _) (by simp) hg hat) (Nat.le_refl _))
  refine ⟨⟨by rw [List.length_append]; exact hown, (h.rows.map (SetC.carry k1)).append (Rows.one ⟨p, rfl, he.carry k2⟩)⟩, ?_⟩
  exact ((hw.up' hf hBr).alloc (by omega) o).grown hg (by simp; omega) (fun k hk => .inl (h.own.lt k hk).1)

set_option maxRecDepth 100000 in
set_option maxHeartbeats 4000000 in
theorem sets_any {C : Ctx} {w : World} {i st ins : Nat} (h : PS C w i st ins 0) : Calls Tryz.prog 117 #[.pointer (some ⟨C.rb, 0, none⟩)] w (Out C (OkS C w st ins) w (sets C.L C.L.length [] i)) := by
  obtain ⟨i0, hi, hz0, hz1, hz2⟩ := info_parts Tryz.info155
  have hC := h.lts.1
  go_enter Tryz.func117, Tryz.ntmps117
  go_wp2_with fail
  go_loopg [3] C.L.length (fun g v wr => ∃ (l : List Asg) (j : Nat) (xs : List Value), Hid (sets C.L C.L.length [] i = sets C.L g l j) ∧ C.L.length ≤ g + j ∧ l.length ≤ j ∧ SetsAt w.heap.size wr l v xs ∧ PS C wr j st ins 0 ∧ Fr w.heap.size [C.rb] w wr)
  case atStart => exact ⟨[], i, [], rfl, by omega, by simp, ⟨World.ownsRow_nil _ _ _ _, rfl⟩, h, Fr.refl _ _ _⟩
  case round =>
    obtain ⟨l, j, xs, hr1, hg, hlj, hS, hp1, hf1⟩ := hrel
    obtain ⟨ao, cap, rfl⟩ := owns_shape hS.own
    have hl6 := hp1.wf.len
    have hj6 := hp1.lt
    have hB1 := hf1.size
    obtain ⟨g', hgg⟩ : ∃ g', gk = g' + 1 := ⟨gk - 1, by have := hp1.lt; omega⟩
    subst hgg
    have T1 : Hid True := trivial
    go_wp2_with (first
      | (go_at_call 53; refine (name_any hp1).mono ?_; rintro e w2 h2; rcases h2.cases with ⟨f, hr2, q, rfl, hq⟩ | ⟨s2, v2, hr2, rfl, ⟨rfl, hp2⟩, hf2⟩; (· exact ⟨rfl, by rw [hr1.out, sets, hr2.out]; exact Thrown.up hf1 ⟨q, rfl, hq⟩⟩); rw [sv])
      | (go_at_call 52; refine (need_any hp2 ⟨#[58, 61]⟩ kColEq rfl (by decide)).mono ?_; rintro e w3 h3; rcases h3.cases with ⟨f, hr3, q, rfl, hq⟩ | ⟨_, v3, hr3, rfl, ⟨rfl, hp3⟩, hf3⟩; (· exact ⟨rfl, by rw [hr1.out, sets, hr2.out]; simp only; rw [if_neg (need_bad hr3).1, ← (need_bad hr3).2]; exact Thrown.up (hf1.up hf2) ⟨q, rfl, hq⟩⟩))
      | (go_at_call 118; refine (expr_any hp3).mono ?_; rintro e w4 h4; rcases h4.cases with ⟨f, hr4, q, rfl, hq⟩ | ⟨⟨e4, j4⟩, v4, hr4, rfl, ⟨hv4, hp4⟩, hf4⟩; (· exact ⟨rfl, by rw [hr1.out, sets, hr2.out]; simp only; rw [if_pos (need_ok hr3), hr4.out]; exact Thrown.up ((hf1.up hf2).up hf3) ⟨q, rfl, hq⟩⟩); obtain ⟨p4, rfl⟩ := hv4.ptr; have hj4 := expr_lt hr4; have hl4 := hp4.lt; have hF4 : Fr wr.heap.size [C.rb] wr w4 := (hf2.up hf3).up hf4; have hB4 := hF4.size; have hv4' := hv4.ge ((hf2.up hf3).size))
      | (at_builtin; refine wpList_append_own_at _ rfl (.tmp 9) (.tmp 14) 71 rfl w.heap.size 155 i0 (.agg #[.string ⟨#[]⟩, .pointer none]) 2 24 Tryz.underlying71 hi hz0 hz1 hz2 rfl (by decide) _ _ _ rfl ((own_carry hS.own hC hF4).alloc _) ⟨w4.heap.size, 0, none⟩ 1 1 [.string ⟨s2.toArray⟩, .pointer p4] rfl rfl (cell_two_new _ _ _ _) (by intro u hu; simp at hu; rcases hu with rfl | rfl <;> rfl) (by unfold maxLen; omega) (by omega) (by simp; omega) ?_; intro v5 w5 hown5 hgrow _ hat; obtain ⟨hS5, hF5⟩ := sets_step (s := s2) (e := e4) hC hB1 hS hF4 hf1 hv4' hown5 hgrow hat; clear hown5; have hb5 : Fr w.heap.size [] w4 w5 := ((Fr.refl _ _ _).alloc (by omega) _).grown hgrow (by simp; omega) (fun k hk => .inl (hS.own.lt k hk).1); have hp5 := hp4.low hC hb5))
    have hsh : w5.ownsRow w.heap.size 155 2 v5 (l.length + 1) (xs ++ [sv s2, .pointer p4]) := by have := hS5.own; rw [List.length_append] at this; exact this
    obtain ⟨ao5, cap5, rfl⟩ := owns_shape hsh
    by_cases hcm : tx C.L j4 = kComma
    · go_wp2_with (go_at_call 60; refine (take_yes hp5 ⟨#[44]⟩ hcm (by decide)).mono ?_; rintro e w6 ⟨rfl, hp6, hf6⟩)
      go_roundg g'
      case measure => omega
      case rel => exact ⟨l ++ [⟨s2, e4⟩], j4 + 1, _, by rw [Hid, hr1.out, sets, hr2.out]; simp only; rw [if_pos (need_ok hr3), hr4.out]; simp only; rw [if_pos hcm], by omega, by simp; omega, hS5.carry hC hf6, hp6, hF5.up' hf6 (by have := hF5.size; omega)⟩
    · go_wp2_with (go_at_call 60; refine (take_no hp5 ⟨#[44]⟩ hcm).mono ?_; rintro e w6 ⟨rfl, hp6, hf6⟩)
      go_ret
      rw [hr1.out, sets, hr2.out]
      simp only
      rw [if_pos (need_ok hr3), hr4.out]
      simp only
      rw [if_neg hcm]
      exact ⟨_, rfl, ⟨⟨_, hS5.carry hC hf6.wide⟩, by simp; omega, hp6⟩, hF5.up' hf6.wide (by have := hF5.size; omega)⟩

set_option maxRecDepth 100000 in
set_option maxHeartbeats 2000000 in
theorem times_any {C : Ctx} {w : World} {i st ins und : Nat} (h : PS C w i st ins und) : Calls Tryz.prog 127 #[.pointer (some ⟨C.rb, 0, none⟩)] w (Out C (fun (n : Nat) v w' => v = .int .i64 n ∧ PS C w' (i + 1) st ins und) w (times C.L i)) := by
  rcases hn : number C.L i with f | n
  · have HN : Hid (number C.L i = .error f) := hn
    clear hn
    go_enter Tryz.func127, Tryz.ntmps127
    go_wp2_with (go_at_call 86; refine (number_any _ i st ins und h).mono ?_; rintro e w1 h1; rw [HN.out] at h1; obtain ⟨q, rfl, hq⟩ := h1; exact ⟨rfl, by rw [times, HN.out]; exact ⟨q, rfl, hq⟩⟩)
  · have HN : Hid (number C.L i = .ok n) := hn
    clear hn
    by_cases hb : n < 1 ∨ 1000 < n
    · have HT : Hid (times C.L i = .error (4, pl C.L i)) := by rw [Hid, times, HN.out]; exact if_pos hb
      rcases hb with hb | hb
      · have hb1 : (n : Int) < 1 := by omega
        go_enter Tryz.func127, Tryz.ntmps127
        go_wp2_with (first
          | (go_at_call 86; refine (number_any _ i st ins und h).mono ?_; rintro e w1 h1; rw [HN.out] at h1; obtain ⟨v1, rfl, ⟨rfl, hn18, hp1⟩, hf1⟩ := h1; obtain ⟨-, c1, -⟩ := hp1.cells; have z1 := hp1.frozen 1; obtain ⟨hp2, hf2⟩ := hp1.back; have hl6 := hp1.wf.len; have hil := hp1.lt)
          | (go_at_call 62; refine (throw_any hp2 4).mono ?_; rintro e w3 ⟨q, rfl, ht⟩))
        rw [HT.out]
        exact ⟨rfl, Thrown.up (hf1.up hf2) ⟨q, rfl, ht⟩⟩
      · have hb1 : ¬ (n : Int) < 1 := by omega
        have hb2 : (1000 : Int) < (n : Int) := by omega
        go_enter Tryz.func127, Tryz.ntmps127
        go_wp2_with (first
          | (go_at_call 86; refine (number_any _ i st ins und h).mono ?_; rintro e w1 h1; rw [HN.out] at h1; obtain ⟨v1, rfl, ⟨rfl, hn18, hp1⟩, hf1⟩ := h1; obtain ⟨-, c1, -⟩ := hp1.cells; have z1 := hp1.frozen 1; obtain ⟨hp2, hf2⟩ := hp1.back; have hl6 := hp1.wf.len; have hil := hp1.lt)
          | (go_at_call 62; refine (throw_any hp2 4).mono ?_; rintro e w3 ⟨q, rfl, ht⟩))
        rw [HT.out]
        exact ⟨rfl, Thrown.up (hf1.up hf2) ⟨q, rfl, ht⟩⟩
    · have HT : Hid (times C.L i = .ok n) := by rw [Hid, times, HN.out]; exact if_neg hb
      have hb1 : ¬ (n : Int) < 1 := by omega
      have hb2 : ¬ (1000 : Int) < (n : Int) := by omega
      clear hb
      go_enter Tryz.func127, Tryz.ntmps127
      go_wp2_with (go_at_call 86; refine (number_any _ i st ins und h).mono ?_; rintro e w1 h1; rw [HN.out] at h1; obtain ⟨v1, rfl, ⟨rfl, hn18, hp1⟩, hf1⟩ := h1)
      go_ret
      rw [HT.out]
      exact ⟨_, rfl, ⟨rfl, hp1⟩, hf1⟩
end Go.Proofs.YtanlfmhlohcmgaaGreatDoor
/- The document's own reader: sets. -/
namespace Go.Proofs.YtanlfmhlohcmgaaGreatDoor
open Go.RowKit Px

theorem Px.setR_lt {L : List Lx.Tok} {σ : S} (h : (setR L σ).2.bad = none) : σ.i < (setR L σ).2.i := by
  obtain ⟨i, st, b⟩ := σ
  cases b with
  | some f => rw [setR_bad (f := f) rfl] at h; exact absurd h (by simp)
  | none =>
    cases hn : nm L i with
    | error y =>
      have hb : (setR L ⟨i, st, none⟩).2.bad = some y := expr_sim.bad (must_bad (by rw [nameR_err hn]))
      rw [hb] at h; exact absurd h (by simp)
    | ok s =>
      by_cases h1 : tx L (i + 1) = kColEq
      · have e : (setR L ⟨i, st, none⟩).2 = (exprR L 7 ⟨i + 2, st, none⟩).2 := by rw [setR, nameR_ok hn]; simp only; rw [must_yes h1]
        rw [e] at h ⊢
        have := expr_sim.lt (fun i e j hh => expr_lt (show Hid (expr L i = .ok (e, j)) from hh)) h
        simp only at this
        show i < _
        omega
      · have hb : (setR L ⟨i, st, none⟩).2.bad = some (3, pl L (i + 1)) := by rw [setR, nameR_ok hn]; simp only; rw [must_no h1]; exact expr_sim.bad rfl
        rw [hb] at h; exact absurd h (by simp)
theorem RS.low {C : Ctx} {w w' : World} {B : Nat} {σ : S} (h : RS C w σ) (hB : C.rb < B) (hf : Fr B [] w w') : RS C w' σ := by
  have hgr := h.gr
  have hg : w'.heap[C.g]? = w.heap[C.g]? := hf.block _ (by omega) (by simp)
  obtain ⟨n, k, hn, hk, hr⟩ := h.rd
  refine ⟨⟨n, k, hn, hk, by rw [hf.block _ hB (by simp)]; exact hr⟩, fun k t hk => ?_, h.lt, h.wf, h.e4, h.gr, h.nz, h.sb, h.sa⟩
  have := h.tk k t hk
  rw [World.cell?_of_block (w := w) (a := ⟨C.g, k * 3, none⟩) hg, World.cell?_of_block (w := w) (a := ⟨C.g, k * 3 + 1, none⟩) hg, World.cell?_of_block (w := w) (a := ⟨C.g, k * 3 + 2, none⟩) hg]
  exact this
def OkR (w : World) (l : List Asg) (v : Value) (w' : World) : Prop := (∃ xs, SetsAt w.heap.size w' l v xs) ∧ l.length ≤ 602
/-- a new block stays, behind calls of the reader's -/
theorem Fr.stays {C : Ctx} {w w' : World} {b : Nat} {o : Obj} (hf : Fr w.heap.size [C.rb] w w') (hb : w.heap[b]? = some o) (hn : C.rb < b) : w'.heap[b]? = some o := by
  rw [hf.block b (lt_of_block hb) (by simp; omega)]; exact hb
theorem cells2 {w : World} {b : Nat} {a0 a1 : Value} {t : TypeId} (h : w.heap[b]? = some (.cells #[a0, a1] t (0, 0))) :
    w.cell? ⟨b, 0, none⟩ = some a0 ∧ w.cell? ⟨b, 1, none⟩ = some a1 ∧ ∀ o, w.frozen? ⟨b, o, none⟩ = false := by
  refine ⟨?_, ?_, fun o => by simp [World.frozen?, h]⟩ <;> (rw [cell_of_row _ _ _ _ _ _ h]; rfl)

set_option maxRecDepth 100000 in
set_option maxHeartbeats 4000000 in
theorem r_sets {C : Ctx} {w : World} {σ : S} (h : RS C w σ) : Calls Tryz.prog 89 #[.pointer (some ⟨C.rb, 0, none⟩)] w (ROut C (OkR w) w (setsR C.L C.L.length [] σ)) := by
  obtain ⟨i0, hi, hz0, hz1, hz2⟩ := info_parts Tryz.info155
  have hC := h.lts.1
  obtain ⟨RES, hRES⟩ : ∃ RES, Hid (RES = setsR C.L C.L.length [] σ) := ⟨_, rfl⟩
  rw [← hRES.out]
  go_enter Tryz.func89, Tryz.ntmps89
  go_wp2_with fail
  go_loopg [3] C.L.length (fun g v wr => ∃ (l : List Asg) (σ1 : S) (xs : List Value), Hid (RES = setsR C.L g l σ1) ∧ C.L.length ≤ g + σ1.i ∧ l.length ≤ σ1.i ∧ SetsAt w.heap.size wr l v xs ∧ RS C wr σ1 ∧ Fr w.heap.size [C.rb] w wr)
  case atStart => exact ⟨[], σ, [], hRES, by omega, by simp, ⟨World.ownsRow_nil _ _ _ _, rfl⟩, h, Fr.refl _ _ _⟩
  case round =>
    obtain ⟨l, σ1, xs, hr1, hg, hlj, hS, hp1, hf1⟩ := hrel
    obtain ⟨ao, cap, rfl⟩ := owns_shape hS.own
    have hl6 := hp1.wf.len
    have hj6 := hp1.lt
    have hB1 := hf1.size
    obtain ⟨g', hgg⟩ : ∃ g', gk = g' + 1 := ⟨gk - 1, by have := hp1.lt; omega⟩
    subst hgg
    obtain ⟨s2, hs2⟩ : ∃ s2, Hid (s2 = (nameR C.L σ1).1) := ⟨_, rfl⟩
    obtain ⟨σ2, hσ2⟩ : ∃ x, Hid (x = (nameR C.L σ1).2) := ⟨_, rfl⟩
    obtain ⟨σ3, hσ3⟩ : ∃ x, Hid (x = must C.L σ2 kColEq) := ⟨_, rfl⟩
    obtain ⟨e4, he4⟩ : ∃ x, Hid (x = (exprR C.L 7 σ3).1) := ⟨_, rfl⟩
    obtain ⟨σ4, hσ4⟩ : ∃ x, Hid (x = (exprR C.L 7 σ3).2) := ⟨_, rfl⟩
    have HSET : Hid (setR C.L σ1 = (⟨s2, e4⟩, σ4)) := by rw [Hid, setR, he4.out, hσ4.out, hσ3.out, hσ2.out, hs2.out]
    have c1 : Calls Tryz.prog 36 #[.pointer (some ⟨C.rb, 0, none⟩)] wr (ROut C (fun s v _ => v = sv s) wr (s2, σ2)) := by rw [hs2.out, hσ2.out]; exact r_name hp1
    have c2 : ∀ w2, RS C w2 σ2 → Calls Tryz.prog 35 #[.pointer (some ⟨C.rb, 0, none⟩), .string ⟨#[58, 61]⟩] w2 fun e w' => e = .returned (.tuple #[]) ∧ RS C w' σ3 ∧ Fr w2.heap.size [C.rb] w2 w' := fun w2 h2 => by rw [hσ3.out]; exact r_must h2 ⟨#[58, 61]⟩ (by decide)
    have c3 : ∀ w3, RS C w3 σ3 → Calls Tryz.prog 90 #[.pointer (some ⟨C.rb, 0, none⟩), .int .i64 0] w3 (ROut C (fun e v w' => IsE (Ge w3.heap.size) w' e v) w3 (e4, σ4)) := fun w3 h3 => by rw [he4.out, hσ4.out]; exact r_expr0 w3 σ3 h3
    have z1 : ∀ w2 : World, (w2.alloc (.cells #[.string ⟨s2.toArray⟩, .pointer none] 155)).heap.size = w2.heap.size + 1 := fun w2 => by simp
    go_wp2_with (first
      | (go_at_call 36; refine c1.mono ?_; rintro e w2 ⟨v, rfl, hv, h2, hf2⟩; subst hv; rw [sv]; have hz2' := hf2.size; obtain ⟨h2a, hf2a⟩ := h2.alloc (.cells #[.string ⟨s2.toArray⟩, .pointer none] 155); have hb2 := heap_alloc_new w2 (.cells #[.string ⟨s2.toArray⟩, .pointer none] 155))
      | (go_at_call 35; refine (c2 _ h2a).mono ?_; rintro e w3 ⟨rfl, h3, hf3⟩; have hb3 := hf3.stays hb2 (by omega); have hz3 := hf3.size; rw [z1] at hz3)
      | (go_at_call 90; refine (c3 _ h3).mono ?_; rintro e w4 ⟨v4, rfl, hv4, h4, hf4⟩; obtain ⟨p4, rfl⟩ := hv4.ptr; have hb4 := hf4.stays hb3 (by omega); obtain ⟨d0, d1, dz⟩ := cells2 hb4; have dz1 := dz 1; have hz4 := hf4.size; clear dz; have hF4 : Fr wr.heap.size [C.rb] wr (w4.setCell ⟨w2.heap.size, 1, none⟩ (.pointer p4)) := (((hf2.up hf2a.wide).up hf3).up hf4).setCell (.inl hz2') _; have hB4 := hF4.size; have hv4' : IsE (Ge wr.heap.size) (w4.setCell ⟨w2.heap.size, 1, none⟩ (.pointer p4)) e4 (.pointer p4) := hv4.carry (fun b hb _ => ⟨by simp [Ge] at *; omega, Below.heap_setCell _ _ _ _ (by simp [Ge] at *; omega)⟩); have hsw : (w4.setCell ⟨w2.heap.size, 1, none⟩ (.pointer p4)).heap.size = w4.heap.size := by simp [World.setCell])
      | (at_builtin; refine wpList_append_own_at _ rfl (.tmp 13) (.tmp 15) 71 rfl w.heap.size 155 i0 (.agg #[.string ⟨#[]⟩, .pointer none]) 2 24 Tryz.underlying71 hi hz0 hz1 hz2 rfl (by decide) _ _ _ rfl ((own_carry hS.own hC hF4).alloc _) ⟨w4.heap.size, 0, none⟩ 1 1 [.string ⟨s2.toArray⟩, .pointer p4] rfl rfl (by rw [← hsw]; exact cell_two_new _ _ _ _) (by intro u hu; simp at hu; rcases hu with rfl | rfl <;> rfl) (by unfold maxLen; omega) (by omega) (by simp; omega) ?_; intro v5 w5 hown5 hgrow _ hat; obtain ⟨hS5, hF5⟩ := sets_step (s := s2) (e := e4) hC hB1 hS hF4 hf1 hv4' hown5 hgrow hat; clear hown5; have hb5 : Fr w.heap.size [] w4 w5 := (((Fr.refl _ _ _).setCell (.inl (by simp; omega)) _).alloc (by simp; omega) _).grown hgrow (by simp; omega) (fun k hk => .inl (hS.own.lt k hk).1); have hp5 := h4.low hC hb5))
    have hsh : w5.ownsRow w.heap.size 155 2 v5 (l.length + 1) (xs ++ [sv s2, .pointer p4]) := by have := hS5.own; rw [List.length_append] at this; exact this
    obtain ⟨ao5, cap5, rfl⟩ := owns_shape hsh
    have htk := r_take hp5 ⟨#[44]⟩ (by decide)
    cases hcm : see C.L σ4 kComma with
    | true =>
      rw [show see C.L σ4 (bs ⟨#[44]⟩) = true from hcm] at htk
      have hal : σ4.bad = none := by
        obtain ⟨i, st, b⟩ := σ4
        cases b with
        | none => rfl
        | some f => exact absurd hcm (by simp)
      have hlt4 : σ1.i < σ4.i := by have := setR_lt (L := C.L) (σ := σ1) (by rw [HSET.out]; exact hal); rw [HSET.out] at this; exact this
      have htk4 : Hid ((tk C.L σ4 kComma).i = σ4.i + 1) := by rw [Hid, tk, hcm]; rfl
      have HR : Hid (RES = setsR C.L g' (l ++ [⟨s2, e4⟩]) (tk C.L σ4 kComma)) := by
        rw [Hid, hr1.out, setsR, HSET.out, if_pos hcm]
      clear hcm hal
      go_wp2_with (go_at_call 38; refine htk.mono ?_; rintro e w6 ⟨rfl, h6, hf6⟩)
      go_roundg g'
      case measure => omega
      case rel => exact ⟨l ++ [⟨s2, e4⟩], tk C.L σ4 kComma, _, HR, by rw [htk4.out]; omega, by rw [htk4.out]; simp; omega, hS5.carry hC hf6, h6, hF5.up' hf6 (by have := hF5.size; omega)⟩
    | false =>
      rw [show see C.L σ4 (bs ⟨#[44]⟩) = false from hcm, show tk C.L σ4 (bs ⟨#[44]⟩) = σ4 from by rw [tk, show see C.L σ4 (bs ⟨#[44]⟩) = false from hcm]; rfl] at htk
      have HR : Hid (RES = (l ++ [⟨s2, e4⟩], σ4)) := by
        rw [Hid, hr1.out, setsR, HSET.out, if_neg (by rw [hcm]; simp)]
      clear hcm
      go_wp2_with (go_at_call 38; refine htk.mono ?_; rintro e w6 ⟨rfl, h6, hf6⟩)
      go_ret
      rw [HR.out]
      exact ⟨_, rfl, ⟨⟨_, hS5.carry hC hf6⟩, by simp; omega⟩, h6, hF5.up' hf6 (by have := hF5.size; omega)⟩
end Go.Proofs.YtanlfmhlohcmgaaGreatDoor
