/- chapter 14: the library's functions, in plain words. -/
import Derived.Test.YtlaimlfacheolaaGreatDoorTrS
import Derived.Test.YtlaimlfacheolaaGreatDoorNv
namespace Go.Proofs.YtlaimlfacheolaaGreatDoor
open Go.RowKit Go.Sort
namespace Tq
open Nx (Ints lt_of_block)
theorem cell_row {w : World} {g T : Nat} {cs : Array Value} (h : w.heap[g]? = some (.cells cs T (0, 0))) (j : Nat) {u : Value} (hj : cs[j]? = some u) : w.cell? ⟨g, j, none⟩ = some u := by
  simp [World.cell?, h, hj]
theorem ck_new (w : World) (o : Obj) : (w.alloc o).heap[w.heap.size]? = some o := heap_alloc_new w o
theorem ck_grown (w : World) (o : Obj) : Below w.heap.size w (w.alloc o) := (Below.refl _ _).alloc (Nat.le_refl _) _
theorem ck_all {w w' w'' : World} (h : Below w.heap.size w w') (k : Below w'.heap.size w' w'') : Below w.heap.size w w'' := h.trans (k.mono h.size)
theorem ck_cell {w w' : World} (h : Below w.heap.size w w') {a : Addr} {v : Value} (hc : w.cell? a = some v) : w'.cell? a = some v := by
  rw [h.cell (World.block_lt_of_cell? w a hc)]; exact hc
theorem ck_block {w w' : World} (h : Below w.heap.size w w') {b : Nat} {o : Obj} (hb : w.heap[b]? = some o) : w'.heap[b]? = some o := by
  rw [h.block b (lt_of_block hb)]; exact hb
abbrev st (l : By) : ByteArray := ⟨l.toArray⟩
theorem st_list (l : By) : (st l).data.toList = l := rfl
theorem st_data (s : ByteArray) : st s.data.toList = s := rfl
theorem st_size (l : By) : (st l).size = l.length := by simp [ByteArray.size]
/-- what of the listed variables is asked -/
structure GV (w : World) : Prop where
  ml : ∃ m, w.cell? ⟨5, 0, none⟩ = some (.int .i64 m)
  sy : ∃ t p, w.cell? ⟨3, 0, none⟩ = some (.iface t p)
  rg : ∃ t p, w.cell? ⟨4, 0, none⟩ = some (.iface t p)
  tab : Lib.TabIs Tryz.prog w "internal/strconv.uint64pow10" .u64 Lib.pow10Tab
  big : 10 ≤ w.heap.size
theorem gPow : Tryz.prog.globalNamed "internal/strconv.uint64pow10" = some 2 := by kernel_rfl
theorem GV.keep {w w' : World} (h : GV w) (hk : ∀ b, b < 10 → w'.heap[b]? = w.heap[b]?) (hs : 10 ≤ w'.heap.size) : GV w' := by
  have kc : ∀ (b o : Nat), b < 10 → w'.cell? ⟨b, o, none⟩ = w.cell? ⟨b, o, none⟩ := fun b o hb => Nx.cell_of_block (hk b hb) o
  refine ⟨by rw [kc _ _ (by omega)]; exact h.ml, by rw [kc _ _ (by omega)]; exact h.sy, by rw [kc _ _ (by omega)]; exact h.rg, ?_, hs⟩
  have := h.tab
  rw [Lib.TabIs, World.var?, gPow, Option.bind_some] at this ⊢
  rw [hk _ (by omega)]; exact this
theorem GV.below {w w' : World} (h : GV w) {B : Nat} (hb : Below B w w') (hB : 10 ≤ B) : GV w' := h.keep (fun b hl => hb.block b (by omega)) (Nat.le_trans h.big hb.size)
theorem fmt_any {n : Int} (hn : -9223372036854775808 ≤ n ∧ n ≤ 9223372036854775807) {w : World} (hg : GV w) :
    Calls Tryz.prog 20 #[.int .i64 n, .int .i64 10] w fun e w' => e = .returned (.string (st (Lib.itoa n))) ∧ Hid (Below w.heap.size w w') := by
  refine (Tryz.strconv_FormatInt_10 n hn.1 hn.2 w hg.tab).mono ?_
  rintro e w' ⟨rfl, k, os, rfl⟩
  exact ⟨rfl, rfl, rfl, rfl, by simp [grow, World.drewN], fun i hi => by simp [grow, World.drewN, Array.getElem?_append_left hi]⟩
theorem pint_ok {s : ByteArray} (hs : s.size ≤ 100000) {v : Int} (h : Lib.parseIntB 64 s.data.toList = .ok v) (w : World) :
    Calls Tryz.prog 24 #[.string s, .int .i64 10, .int .i64 64] w fun e w' => e = .returned (.tuple #[.int .i64 v, .nilIface]) ∧ Hid (Below w.heap.size w w') := by
  refine (Tryz.strconv_ParseInt_10_at64_ok s (by omega) v h w).mono ?_
  rintro e w' ⟨rfl, rfl | ⟨t, rfl⟩⟩
  · exact ⟨rfl, Below.refl _ _⟩
  · exact ⟨rfl, Lib.bytesWorld_below _ _ _⟩
theorem pint_bad {s : ByteArray} (hs : s.size ≤ 100000) (h : ∀ v, Lib.parseIntB 64 s.data.toList ≠ .ok v) {w : World} (hg : GV w) :
    Calls Tryz.prog 24 #[.string s, .int .i64 10, .int .i64 64] w fun e w' => ∃ n q, e = .returned (.tuple #[.int .i64 n, .iface 101 (.pointer (some ⟨q, 0, none⟩))]) ∧ Hid (Below w.heap.size w w') := by
  obtain ⟨t1, p1, h1⟩ := hg.sy
  obtain ⟨t2, p2, h2⟩ := hg.rg
  cases e : Lib.parseIntB 64 s.data.toList with
  | ok v => exact absurd e (h v)
  | «syntax» => exact (Tryz.strconv_ParseInt_10_at64_syntax s (by omega) e _ w h1 (.inr ⟨_, _, rfl⟩)).mono fun e w' ⟨q, he, _, _, hb⟩ => ⟨_, q, he, hb⟩
  | range => exact (Tryz.strconv_ParseInt_10_at64_range s (by omega) e _ w h2 (.inr ⟨_, _, rfl⟩)).mono fun e w' ⟨q, he, _, _, hb⟩ => ⟨_, q, he, hb⟩
theorem cut_any {l : By} (hl : l.length ≤ 100000) {w : World} (hg : GV w) :
    Calls Tryz.prog 26 #[.string (st l), .string ⟨#[10]⟩] w fun e w' => ∃ b, e = .returned (.tuple #[.string (st (Lib.cut l [10]).1), .string (st (Lib.cut l [10]).2.1), .bool b]) ∧ Hid (Below w.heap.size w w') := by
  obtain ⟨m, hm⟩ := hg.ml
  refine (Tryz.strings_Cut (st l) ⟨#[10]⟩ m w (by rw [st_size]; omega) hm).mono ?_
  rintro e w' ⟨rfl, n, rfl⟩
  exact ⟨_, rfl, rfl, rfl, rfl, Nat.le_refl _, fun _ _ => rfl⟩
/-- a slice of words, in a block of those -/
def Strs (A : Nat → Prop) (w : World) (v : Value) (l : List By) : Prop :=
  ∃ ad b off cap, v = .slice ad l.length cap ∧ (0 < l.length → ad = some ⟨b, off, none⟩ ∧ A b) ∧ ∀ k, k < l.length → w.cell? ⟨b, off + k, none⟩ = some (.string (st (l.getD k [])))
theorem Strs.carry {A A' : Nat → Prop} {w w' : World} {v : Value} {l : List By} (h : Strs A w v l) (k : ∀ b, A b → b < w.heap.size → A' b ∧ w'.heap[b]? = w.heap[b]?) : Strs A' w' v l := by
  obtain ⟨ad, b, off, cap, rfl, h1, h2⟩ := h
  refine ⟨ad, b, off, cap, rfl, fun hp => ?_, fun j hj => ?_⟩
  · obtain ⟨e, ha⟩ := h1 hp
    exact ⟨e, (k b ha (Nx.lt_of_cell (h2 0 hp))).1⟩
  · obtain ⟨e, ha⟩ := h1 (by omega)
    rw [Nx.cell_of_block (k b ha (Nx.lt_of_cell (h2 j hj))).2]; exact h2 j hj
theorem getD_st {l : List ByteArray} {k : Nat} (hk : k < l.length) : l[k] = st ((l.map (·.data.toList)).getD k []) := by
  rw [List.getD_eq_getElem?_getD, List.getElem?_map, List.getElem?_eq_getElem hk]; rfl
theorem split_any {l : By} (hl : l.length ≤ 100000) (c : UInt8) {w : World} (hg : GV w) :
    Calls Tryz.prog 23 #[.string (st l), .string ⟨#[c]⟩] w fun e w' => ∃ cap, e = .returned (.slice (some ⟨w.heap.size, 0, none⟩) (spl c [] l).length cap) ∧ (spl c [] l).length ≤ cap ∧ w'.heap.size = w.heap.size + 1 ∧ (∀ k, k < (spl c [] l).length → w'.cell? ⟨w.heap.size, k, none⟩ = some (.string (st ((spl c [] l).getD k [])))) ∧ Hid (Below w.heap.size w w') := by
  obtain ⟨m, hm⟩ := hg.ml
  have hB : (Lib.splitB ⟨#[c]⟩ 0 (Lib.countB (st l) ⟨#[c]⟩) (st l)).map (·.data.toList) = spl c [] l := by
    rw [Lib.splitB_data]
    exact split_spl c l.length l (Nat.le_refl _)
  have hlen : (spl c [] l).length = Lib.countB (st l) ⟨#[c]⟩ + 1 := by
    rw [← hB, List.length_map, Lib.splitB_all _ (by simp [ByteArray.size]) _ _ _ rfl]
  refine (Tryz.strings_Split (st l) ⟨#[c]⟩ m w (by rw [st_size]; omega) hm (by simp [ByteArray.size])).mono ?_
  rintro e w' ⟨rfl, rfl⟩
  refine ⟨_, by rw [hlen], by rw [hlen]; exact Nat.le_refl _, by simp, fun k hk => ?_, (Below.refl _ _).alloc (Nat.le_refl _) _⟩
  have hk2 : k < (Lib.splitB ⟨#[c]⟩ 0 (Lib.countB (st l) ⟨#[c]⟩) (st l)).length := by rw [← hB] at hk; simpa using hk
  rw [← hB]
  refine cell_row (ck_new w _) k ?_
  rw [List.getElem?_toArray, List.getElem?_map, List.getElem?_eq_getElem hk2, Option.map_some, getD_st hk2]
theorem blank_at (w : World) : PredAtRunes Tryz.prog 28 #[] isBl w := by
  intro W x hx hb
  have e : (decide ((x : Int) = 32)) = isBl x := by unfold isBl; congr 1; exact propext ⟨fun h => by omega, fun h => by omega⟩
  show Calls Tryz.prog 28 #[.int .i32 (x : Int)] W _
  rw [← e]
  obtain ⟨z, hz⟩ : ∃ z : Int, z = (x : Int) := ⟨_, rfl⟩
  rw [← hz]
  clear hz e hx hb
  go_enter Tryz.func28, Tryz.ntmps28
  go_wp2
  go_ret
  exact ⟨rfl, 0, rfl⟩
theorem fields_any {l : By} (hl : l.length ≤ 100000) (w : World) :
    Calls Tryz.prog 27 #[.string (st l), .func (.func 28) #[] #[]] w fun e w' => ∃ b cap, e = .returned (.slice (some ⟨b, 0, none⟩) (wordsT l).length cap) ∧ Hid (w.heap.size ≤ b ∧ (∀ k, k < (wordsT l).length → w'.cell? ⟨b, k, none⟩ = some (.string (st ((wordsT l).getD k [])))) ∧ Below w.heap.size w w') := by
  refine (Tryz.strings_FieldsFunc_runes 28 #[] (enters_of Tryz.func28 (by kernel_rfl) rfl) isBl (st l) w (by rw [st_size]; omega) (blank_at w)).mono ?_
  rintro e w' ⟨b, rfl, hb, hown, hB⟩
  have hw := words_fields (st l)
  have hlen : (Lib.goFieldsP isBl (st l)).length = (wordsT l).length := by rw [← List.length_map (f := (·.data.toList)), hw]
  refine ⟨b, _, by rw [hlen], hb, fun k hk => ?_, hB⟩
  obtain ⟨_, h2⟩ := hown
  rcases h2 with ⟨h0, _⟩ | ⟨g, cap, cur, hv, hBg, hg, hn, hc, hs, hcur⟩
  · exact absurd h0 (by simp)
  · have hgb : b = g := by simpa [Value.ownBlock] using congrArg Value.ownBlock hv
    subst hgb
    have hk2 : k < (Lib.goFieldsP isBl (st l)).length := by rw [hlen]; exact hk
    have h3 : (cur.toList.take ((Lib.goFieldsP isBl (st l)).length * 1))[k]? = some (.string (st ((wordsT l).getD k []))) := by
      rw [hcur, List.getElem?_map, List.getElem?_eq_getElem hk2, Option.map_some, getD_st hk2, hw]
    rw [List.getElem?_take, if_pos (by omega), Array.getElem?_toList] at h3
    exact cell_row hg k h3
end Tq
end Go.Proofs.YtlaimlfacheolaaGreatDoor
