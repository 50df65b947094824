/- LexBlanks: the law's parts. -/
import Derived.Test.YthcapeglhebdjaaDoorPieces
import Derived.Test.YthcapeglhebdjaaDoorBetween
import Derived.Test.YthcapeglhebdjaaDoorBuilder
namespace Go.Proofs.YthcapeglhebdjaaDoor
open Go.RowKit

theorem bkept {w w' : World} {B b : Nat} {xs : List Value} {row : Option Nat} (h : Lib.IsBuilderF 43 5 B b xs w) (hg : w.grownBy w' row) (hrow : ∀ r, row = some r → ∃ c fz, w.heap[r]? = some (.cells c 3 fz)) : Lib.IsBuilderF 43 5 B b xs w' := by
  have key : ∀ p, Lib.BuilderAtF 43 5 B b p xs w → Lib.BuilderAtF 43 5 B b p xs w' := by
    intro p hp
    have hlt := hp.lt
    obtain ⟨hB, v, hb, hown, hne⟩ := hp
    refine ⟨hB, v, ?_, hown.kept hg ?_, hne⟩
    · rw [hg.block b hlt ?_]
      · exact hb
      · intro e
        obtain ⟨c, fz, hr⟩ := hrow b e.symm
        rw [hb] at hr; simp at hr
    · rcases hown.2 with ⟨rfl, _⟩ | ⟨g, cap, cur, fz, rfl, _, hgg, _⟩
      · exact .inl rfl
      · refine .inr fun e => ?_
        obtain ⟨c, fz', hr⟩ := hrow g e.symm
        rw [hgg] at hr; simp at hr
  rcases h with h | h
  · exact .inl (key _ h)
  · exact .inr (key _ h)
theorem rkept {w w' : World} {B b n : Nat} {v : Value} {xs : List Value} (h : w.ownsRow B 3 1 v n xs) (hk : Lib.OthersKept 5 (some b) w w') (hb : b < B) : w'.ownsRow B 3 1 v n xs := by
  refine ⟨h.1, ?_⟩
  rcases h.2 with hn | ⟨g, cap, cur, rfl, hg, hgg, rest⟩
  · exact .inl hn
  · exact .inr ⟨g, cap, cur, rfl, hg, hk g _ hgg (fun e => by have := Option.some.inj e; omega) (fun c fz e => by simp at e), rest⟩
theorem row_int {w : World} {B n : Nat} {v : Value} {xs : List Value} (h : w.ownsRow B 3 1 v n xs) : ∀ r, v.ownBlock = some r → ∃ c fz, w.heap[r]? = some (.cells c 3 fz) := by
  intro r hr
  rcases h.2 with ⟨rfl, _⟩ | ⟨g, cap, cur, rfl, _, hgg, _⟩
  · simp [Value.ownBlock] at hr
  · simp [Value.ownBlock] at hr; subst hr; exact ⟨_, _, hgg⟩
theorem new_builder (w : World) : Lib.IsBuilderF 43 5 w.heap.size w.heap.size (Lib.byteCells []) (w.alloc (.cells #[.pointer none, .slice none 0 0] 43)) :=
  .inl ⟨Nat.le_refl _, .slice none 0 0, heap_alloc_new _ _, World.ownsRowF_nil _ _ _ _, by simp [Value.ownBlock]⟩
theorem Tryd.info3 : (Tryd.prog.info? 3).map (fun i => (i.zero, i.size, i.bytes)) = some (some (.int .i64 0), 1, 8) := by kernel_rfl

def pk (a : Int) : Nat := (a % 4).toNat
theorem pk_lt (a : Int) : pk a < 4 := by unfold pk; omega
theorem pick_any (a : Int) (w : World) :
    Calls Tryd.prog 10 #[.int .i64 a, .int .i64 4] w fun e w' => e = .returned (.int .i64 (pk a)) ∧ w' = w := by
  go_enter Tryd.func10, Tryd.ntmps10
  go_wp2
  go_ret
  refine ⟨ret_int ?_, rfl⟩
  have e1 : IntKind.u64.wrap a = a % 18446744073709551616 := by simp [IntKind.wrap, IntKind.signed, IntKind.bits]
  have e2 : (a % 18446744073709551616).tmod 4 = a % 4 := by rw [Int.tmod_eq_emod_of_nonneg (by omega)]; omega
  have e3 : wrap64 (a % 4) = a % 4 := by unfold wrap64; omega
  rw [e1, e2, e3]; unfold pk; omega
theorem write_k (b : Nat) (u : List UInt8) (x : ByteArray) (w : World) (h : Lib.IsBuilderF 43 5 b b (Lib.byteCells u) w) (hu : u.length + x.size ≤ 100000) (hb : b ≤ w.heap.size) :
    Calls Tryd.prog 11 #[.pointer (some ⟨b, 0, none⟩), .string x] w fun e w' => e = .returned (.tuple #[.int .i64 x.size, .nilIface]) ∧ Lib.IsBuilderF 43 5 b b (Lib.byteCells (u ++ bs x)) w' ∧ Below b w w' ∧ Lib.OthersKept 5 (some b) w w' := by
  refine (Tryd.Builder_WriteString_k b b _ x w h (by rw [Lib.byteCells_length]; omega) hb).mono ?_
  rintro e w' ⟨rfl, h1, h2, h3⟩
  refine ⟨rfl, ?_, h2, h3⟩
  rw [Lib.byteCells_append, ← Lib.strCells_eq]
  exact .inr h1
theorem len_k (b : Nat) (u : List UInt8) (n : Nat) (hn : Hid (n = u.length)) (w : World) (h : Lib.IsBuilderF 43 5 b b (Lib.byteCells u) w) :
    Calls Tryd.prog 12 #[.pointer (some ⟨b, 0, none⟩)] w fun e w' => e = .returned (.int .i64 n) ∧ w' = w := by
  refine (Tryd.Builder_Len_f b b _ w h).mono ?_
  rintro e w' ⟨rfl, rfl⟩
  exact ⟨by rw [Lib.byteCells_length, hn.out], rfl⟩
theorem cell_one_new (w : World) (a : Value) (t : TypeId) : ∀ j u, [a][j]? = some u → (w.alloc (.cells #[a] t)).cell? ((⟨w.heap.size, 0, none⟩ : Addr).add j) = some u := by
  intro j u hj
  match j, hj with
  | 0, hj => simp at hj; subst hj; simp [Addr.add]
  | j + 1, hj => simp at hj

def places (P : List (Nat × Lx.Tok)) : List Value := (Lx.rel 0 P).map fun t => Value.int .i64 t.place
/-- what has been written, k tokens on -/
def BRel (s : ByteArray) (l : List Lx.Tok) (w1 : World) (b k : Nat) (P : List (Nat × Lx.Tok)) (v : Value) (wr : World) : Prop :=
  P.map (·.2) = (fin s l).take k ∧ Lib.IsBuilderF 43 5 b b (Lib.byteCells (Lx.bld P)) wr ∧ wr.ownsRow (b + 1) 3 1 v k (places P) ∧ Below b w1 wr ∧ b < wr.heap.size
theorem brel_step {s : ByteArray} {l : List Lx.Tok} {w1 wr W2 W4 W5 : World} {b k kk n : Nat} {P : List (Nat × Lx.Tok)} {v v' : Value} {t : Lx.Tok} {o1 o2 : Obj} {x : ByteArray} (hR : BRel s l w1 b k P v wr) (ht : (fin s l)[k]? = some t) (hx : bs x = Lx.sep kk) (hn : n = (Lx.bld P ++ bs x).length)
    (hb2 : Below b (wr.alloc o1) W2) (hown4 : W4.ownsRow (b + 1) 3 1 v' (k + 1) (places P ++ [.int .i64 n])) (hgrow : (W2.alloc o2).grownBy W4 v.ownBlock)
    (hB5 : Lib.IsBuilderF 43 5 b b (Lib.byteCells ((Lx.bld P ++ bs x) ++ bs ⟨t.text.toArray⟩)) W5) (hb5 : Below b W4 W5) (ho5 : Lib.OthersKept 5 (some b) W4 W5) :
    BRel s l w1 b (k + 1) (P ++ [(kk, t)]) v' W5 := by
  obtain ⟨h1, h2, h3, h4, h5⟩ := hR
  have z2 := hb2.size
  have z5 := hb5.size
  have zg := hgrow.size
  simp at z2 zg
  refine ⟨?_, ?_, ?_, ?_, by omega⟩
  · obtain ⟨hk, he⟩ := List.getElem?_eq_some_iff.1 ht
    rw [List.map_append, h1, List.take_succ_eq_append_getElem hk, he]; rfl
  · have e : Lx.bld (P ++ [(kk, t)]) = (Lx.bld P ++ bs x) ++ bs ⟨t.text.toArray⟩ := by rw [Lx.bld_snoc, hx]
    rw [e]; exact hB5
  · have e : places (P ++ [(kk, t)]) = places P ++ [.int .i64 n] := by
      rw [places, Lx.rel_snoc, List.map_append, hn, hx]
      simp [places]
    rw [e]; exact rkept hown4 ho5 (by omega)
  · refine (Below.grown ?_ hgrow ?_ ?_).trans hb5
    · exact ((h4.alloc (by omega) o1).trans hb2).alloc (by omega) o2
    · simp; omega
    · intro j hj
      have := (h3.lt _ hj).1; omega
theorem brel_bound {s : ByteArray} {l : List Lx.Tok} {w1 wr : World} {b k : Nat} {P : List (Nat × Lx.Tok)} {v : Value} (hs : s.size ≤ 800) (hok : Lx.Ok (bs s) l) (hk : k ≤ l.length + 1) (hR : BRel s l w1 b k P v wr) : (Lx.bld P).length ≤ 9300 ∧ P.length = k := by
  have h1 := hR.1
  have hl : P.length = k := by
    have := congrArg List.length h1
    rw [List.length_map, List.length_take, fin_len] at this; omega
  refine ⟨?_, hl⟩
  have h2 := Lx.bld_len P
  obtain ⟨hn, u, p, hr, _⟩ := hok
  have h3 := Lx.Reads_tot l hr
  rw [bs_len] at h3
  have h4 : Lx.tot (P.map (·.2)) ≤ Lx.tot (fin s l) := by
    rw [h1]
    have : fin s l = (fin s l).take k ++ (fin s l).drop k := (List.take_append_drop k _).symm
    have h5 := congrArg Lx.tot this
    rw [Lx.tot_append] at h5; omega
  have h6 : Lx.tot (fin s l) = Lx.tot l := by rw [fin, Lx.tot_append]; simp [Lx.tot]
  omega
theorem fin_text {s : ByteArray} {l : List Lx.Tok} (hok : Lx.Ok (bs s) l) {i : Nat} {t : Lx.Tok} (ht : (fin s l)[i]? = some t) : t.text.length ≤ s.size := by
  obtain ⟨hn, u, p, hr, _⟩ := hok
  have h3 := Lx.Reads_tot l hr
  rw [bs_len] at h3
  rcases List.mem_append.1 (List.mem_of_getElem? ht) with hm | hm
  · obtain ⟨a, b, e⟩ := List.append_of_mem hm
    rw [e, Lx.tot_append] at h3
    have : Lx.tot (t :: b) = t.text.length + Lx.tot b := by simp [Lx.tot]
    omega
  · simp at hm; rw [hm]; simp
/-- at the end: the text that was written, its tokens, and where they stand -/
theorem brel_end {s : ByteArray} {l : List Lx.Tok} {w1 wr : World} {b : Nat} {P : List (Nat × Lx.Tok)} {v : Value} (hok : Lx.Ok (bs s) l) (hR : BRel s l w1 b (l.length + 1) P v wr) :
    ∃ L, Lx.Ok (bs ⟨(Lx.bld P).toArray⟩) L ∧ L.length = l.length ∧ fin ⟨(Lx.bld P).toArray⟩ L = Lx.rel 0 P ∧ ∀ (i : Nat) (t t' : Lx.Tok), (fin s l)[i]? = some t → (Lx.rel 0 P)[i]? = some t' → t'.kind = t.kind ∧ t'.text = t.text := by
  have h1 := hR.1
  rw [List.take_of_length_le (by rw [fin_len]; exact Nat.le_refl _)] at h1
  obtain ⟨P0, x, rfl, hP0, hx⟩ : ∃ P0 x, P = P0 ++ [x] ∧ P0.map (·.2) = l ∧ x.2 = ⟨4, [], s.size⟩ := by
    rcases List.eq_nil_or_concat P with rfl | ⟨P0, x, rfl⟩
    · simp [fin] at h1
    · refine ⟨P0, x, by simp, ?_⟩
      rw [List.concat_eq_append, List.map_append, fin] at h1
      have := List.append_inj' h1 (by simp)
      exact ⟨this.1, by simpa using this.2⟩
  have hb : Lx.bld (P0 ++ [x]) = Lx.bld P0 ++ Lx.sep x.1 := by rw [Lx.bld_snoc, hx]; simp
  refine ⟨Lx.rel 0 P0, ?_, ?_, ?_, ?_⟩
  · show Lx.Ok (Lx.bld (P0 ++ [x])) _
    rw [hb]; exact Lx.between hok hP0 x.1
  · rw [Lx.rel_len]; have := congrArg List.length hP0; simpa using this
  · rw [Lx.rel_snoc, fin, hx]
    have : (⟨(Lx.bld (P0 ++ [x])).toArray⟩ : ByteArray).size = 0 + (Lx.bld P0).length + (Lx.sep x.1).length := by
      show (Lx.bld (P0 ++ [x])).toArray.size = _
      rw [hb]; simp
    rw [this]
  · rw [← h1]
    have key : ∀ (Q : List (Nat × Lx.Tok)) (p i : Nat) (t t' : Lx.Tok), (Q.map (·.2))[i]? = some t → (Lx.rel p Q)[i]? = some t' → t'.kind = t.kind ∧ t'.text = t.text := by
      intro Q
      induction Q with
      | nil => intro p i t t' h _; simp at h
      | cons y r ih =>
        intro p i t t' h h'
        cases i with
        | zero => simp [Lx.rel] at h h'; subst h; subst h'; exact ⟨rfl, rfl⟩
        | succ i => exact ih _ i t t' (by simpa using h) (by simpa [Lx.rel] using h')
    exact fun i t t' => key _ 0 i t t'
end Go.Proofs.YthcapeglhebdjaaDoor
