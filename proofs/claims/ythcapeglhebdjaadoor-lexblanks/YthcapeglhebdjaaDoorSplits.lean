/- LexSplits: the law's walk. -/
import Derived.Test.YthcapeglhebdjaaDoorTokens
import Derived.Test.YthcapeglhebdjaaDoorPlace
namespace Go.Proofs.YthcapeglhebdjaaDoor
open Go.RowKit

theorem cells_at (L : List Lx.Tok) : ∀ (i : Nat) (t : Lx.Tok), L[i]? = some t → (cells L)[i * 3]? = some (.int .i64 t.kind) ∧ (cells L)[i * 3 + 1]? = some (.string ⟨t.text.toArray⟩) ∧ (cells L)[i * 3 + 2]? = some (.int .i64 t.place) := by
  induction L with
  | nil => intro i t h; simp at h
  | cons x r ih =>
    intro i t h
    have e : cells (x :: r) = .int .i64 x.kind :: .string ⟨x.text.toArray⟩ :: .int .i64 x.place :: cells r := rfl
    rw [e]
    cases i with
    | zero => simp at h; subst h; simp
    | succ i =>
      have := ih i t (by simpa using h)
      have e1 : (i + 1) * 3 = i * 3 + 1 + 1 + 1 := by omega
      have e2 : (i + 1) * 3 + 1 = i * 3 + 1 + 1 + 1 + 1 := by omega
      have e3 : (i + 1) * 3 + 2 = i * 3 + 2 + 1 + 1 + 1 := by omega
      rw [e2, e3, e1]
      simpa using this
/-- what is owned can be read -/
theorem toks_read {w : World} {B E n : Nat} {v : Value} {L : List Lx.Tok} (hn : n = L.length) (h0 : 0 < n) (h : w.ownsRow B E 3 v n (cells L)) :
    ∃ g cap, v = .slice (some ⟨g, 0, none⟩) n cap ∧ B ≤ g ∧ g < w.heap.size ∧ ∀ i t, L[i]? = some t → w.cell? ⟨g, i * 3, none⟩ = some (.int .i64 t.kind) ∧ w.cell? ⟨g, i * 3 + 1, none⟩ = some (.string ⟨t.text.toArray⟩) ∧ w.cell? ⟨g, i * 3 + 2, none⟩ = some (.int .i64 t.place) := by
  have hc := fun g hg => World.ownsRow.cells h (g := g) hg
  have hl := fun g hg => World.ownsRow.lt h g hg
  rcases h.2 with ⟨_, rfl⟩ | ⟨g, cap, cur, rfl, hg, _⟩
  · omega
  · refine ⟨g, cap, rfl, hg, (hl g rfl).2, fun i t ht => ?_⟩
    obtain ⟨a, b, c⟩ := cells_at L i t ht
    have ad : ∀ j, (⟨g, 0, none⟩ : Addr).add j = ⟨g, j, none⟩ := fun j => by unfold Addr.add; split <;> simp_all
    have h1 := hc g rfl _ _ a
    have h2 := hc g rfl _ _ b
    have h3 := hc g rfl _ _ c
    rw [ad] at h1 h2 h3
    exact ⟨h1, h2, h3⟩
theorem below_drewN {B : Nat} {a w : World} (h : Below B a w) (n : Nat) : Below B a (w.drewN n) := h.trans ⟨rfl, rfl, rfl, Nat.le_refl _, fun _ _ => rfl⟩

def fin (s : ByteArray) (l : List Lx.Tok) : List Lx.Tok := l ++ [⟨4, [], s.size⟩]
theorem fin_len (s : ByteArray) (l : List Lx.Tok) : (fin s l).length = l.length + 1 := by simp [fin]

theorem split_ok (s : ByteArray) (l : List Lx.Tok) (N : Nat) (hN : N = l.length + 1) (w : World) (hs : s.size ≤ 20000) (hm : Marks w) (hok : Lx.Ok (bs s) l) :
    Calls Tryd.prog 7 #[.string s] w fun e w' => ∃ g cap, e = .returned (.tuple #[.slice (some ⟨g, 0, none⟩) N cap, .nilIface]) ∧ Below w.heap.size w w' ∧ w.heap.size ≤ g ∧ g < w'.heap.size ∧
      ∀ i t, (fin s l)[i]? = some t → w'.cell? ⟨g, i * 3, none⟩ = some (.int .i64 t.kind) ∧ w'.cell? ⟨g, i * 3 + 1, none⟩ = some (.string ⟨t.text.toArray⟩) ∧ w'.cell? ⟨g, i * 3 + 2, none⟩ = some (.int .i64 t.place) := by
  refine (split_any s w hs hm).mono ?_
  rintro e w' ⟨v, err, rfl, hb, ⟨l', hok', rfl, hown⟩ | ⟨e, q, g, hbad, _⟩⟩
  · obtain rfl := Lx.Ok_Ok hok hok'
    rw [← hN] at hown
    obtain ⟨g, cap, rfl, h1, h2, h3⟩ := toks_read (L := fin s l) (by rw [hN, fin_len]) (by omega) hown
    exact ⟨g, cap, rfl, hb, h1, h2, h3⟩
  · exact (Lx.Ok_Bad hok hbad).elim
theorem split_bad (s : ByteArray) (w : World) (hs : s.size ≤ 20000) (hm : Marks w) (hno : ∀ l, ¬ Lx.Ok (bs s) l) :
    Calls Tryd.prog 7 #[.string s] w fun e w' => ∃ ev q g : Nat, e = .returned (.tuple #[.slice none 0 0, .iface 59 (.pointer (some ⟨g, 0, none⟩))]) ∧ Below w.heap.size w w' ∧ Lx.Bad (bs s) ev q ∧ w'.heap[g]? = some (.cells #[.int .i64 ev, .int .i64 q] 60 (0, 0)) := by
  refine (split_any s w hs hm).mono ?_
  rintro e w' ⟨v, err, rfl, hb, ⟨l', hok', rfl, hown⟩ | ⟨e, q, g, hbad, _, rfl, rfl, _, hh⟩⟩
  · exact (hno l' hok').elim
  · exact ⟨e, q, g, rfl, hb, hbad, hh⟩
theorem tokens_ok (s : ByteArray) (l : List Lx.Tok) (N : Nat) (hN : N = l.length + 1) (w : World) (hs : s.size ≤ 20000) (hm : Fine w) (hok : Lx.Ok (bs s) l) :
    Calls Tryd.prog 6 #[.string s] w fun e w' => ∃ g cap, e = .returned (.tuple #[.slice (some ⟨g, 0, none⟩) N cap, .agg #[.int .i64 0, .int .i64 (-1)]]) ∧ Below w.heap.size w w' ∧ w.heap.size ≤ g ∧ g < w'.heap.size ∧
      ∀ i t, (fin s l)[i]? = some t → w'.cell? ⟨g, i * 3, none⟩ = some (.int .i64 t.kind) ∧ w'.cell? ⟨g, i * 3 + 1, none⟩ = some (.string ⟨t.text.toArray⟩) ∧ w'.cell? ⟨g, i * 3 + 2, none⟩ = some (.int .i64 t.place) := by
  refine (tokens_any s w hs hm).mono ?_
  rintro e w' ⟨v, f, rfl, hb, ⟨l', hok', rfl, hown⟩ | ⟨e, q, hbad, _⟩⟩
  · obtain rfl := Lx.Ok_Ok hok hok'
    rw [← hN] at hown
    obtain ⟨g, cap, rfl, h1, h2, h3⟩ := toks_read (L := fin s l) (by rw [hN, fin_len]) (by omega) hown
    exact ⟨g, cap, rfl, hb, h1, h2, h3⟩
  · exact (Lx.Ok_Bad hok hbad).elim
theorem tokens_bad (s : ByteArray) (w : World) (hs : s.size ≤ 20000) (hm : Fine w) (hno : ∀ l, ¬ Lx.Ok (bs s) l) :
    Calls Tryd.prog 6 #[.string s] w fun e w' => ∃ ev q : Nat, e = .returned (.tuple #[.slice none 0 0, .agg #[.int .i64 ev, .int .i64 q]]) ∧ Below w.heap.size w w' ∧ Lx.Bad (bs s) ev q := by
  refine (tokens_any s w hs hm).mono ?_
  rintro e w' ⟨v, f, rfl, hb, ⟨l', hok', rfl, hown⟩ | ⟨e, q, hbad, rfl, rfl⟩⟩
  · exact (hno l' hok').elim
  · exact ⟨e, q, rfl, hb, hbad⟩
theorem ErrType.below {w w' : World} (h : ErrType w) (hb : Below w.heap.size w w') : ErrType w' := by
  rw [ErrType, hb.cell (p := ⟨2, 0, none⟩) (lt_of_cell h)]; exact h
/-- Below, behind a new block -/
theorem below_new {w w1 w2 : World} {o : Obj} (h : Below w.heap.size w w1) (k : Below (w1.alloc o).heap.size (w1.alloc o) w2) : Below w.heap.size w w2 := by
  have := h.size
  exact (h.alloc h.size o).trans (k.mono (by simp; omega))
theorem new_cell {w1 w2 : World} {x y : Value} {t : TypeId} (k : Below (w1.alloc (.cells #[x, y] t)).heap.size (w1.alloc (.cells #[x, y] t)) w2) : w2.cell? ⟨w1.heap.size, 0, none⟩ = some x ∧ w2.cell? ⟨w1.heap.size, 1, none⟩ = some y := by
  rw [k.cell (p := ⟨w1.heap.size, 0, none⟩) (by simp), k.cell (p := ⟨w1.heap.size, 1, none⟩) (by simp)]; simp

set_option maxRecDepth 100000 in
set_option maxHeartbeats 2000000 in
theorem lexSplits_bad (s : ByteArray) (w : World) (hs : s.size ≤ 1500) (hm : Marks w) (hf : Fine w) (he : ErrType w) (hno : ∀ l, ¬ Lx.Ok (bs s) l) :
    Calls Tryd.prog 3 #[.string s] w fun e w' => e = .returned (.bool true) ∧ Below w.heap.size w w' := by
  have HN : Hid (∀ l, ¬ Lx.Ok (bs s) l) := hno
  clear hno
  go_enter Tryd.func3, Tryd.ntmps3
  go_wp2_with (first
    | (go_at_call 6; refine (tokens_bad s _ (by omega) hf HN.out).mono ?_; rintro e w1 ⟨ev, q, rfl, hb1, hbad⟩; have hm2 := hm.below (Nat.le_refl _) (hb1.alloc hb1.size (.cells #[.int .i64 ev, .int .i64 q] 25)))
    | (go_at_call 7; refine (split_bad s _ (by omega) hm2 HN.out).mono ?_; rintro e w2 ⟨ev', q', g, rfl, hb2, hbad', hg⟩; obtain ⟨rfl, rfl⟩ := Lx.Bad_Bad hbad hbad'; obtain ⟨hc0, hc1⟩ := new_cell hb2; have he2 := he.below (below_new hb1 hb2))
    | (go_at_call 8; refine (is_at g ev q _ he2 hg).mono ?_; rintro e w3 ⟨rfl, hb3⟩))
  refine wp_loop_rounds 1 ?_
  rw [rounds_succ]
  go_wp2
  go_ret
  exact ⟨rfl, Below.up (below_new hb1 hb2) hb3⟩

set_option maxRecDepth 100000 in
set_option maxHeartbeats 2000000 in
theorem lexSplits_ok (s : ByteArray) (l : List Lx.Tok) (w : World) (hs : s.size ≤ 1500) (hm : Marks w) (hf : Fine w) (hok : Lx.Ok (bs s) l) :
    Calls Tryd.prog 3 #[.string s] w fun e w' => e = .returned (.bool true) ∧ Below w.heap.size w w' := by
  obtain ⟨N, hN⟩ : ∃ N, Hid (N = l.length + 1) := ⟨_, rfl⟩
  have hN6 : N ≤ 601 := by have := hok.1; have := hN.out; omega
  have hFL : Hid ((fin s l).length = N) := by rw [Hid, fin_len, hN.out]
  go_enter Tryd.func3, Tryd.ntmps3
  go_wp2_with (first
    | (go_at_call 6; refine (tokens_ok s l N hN.out _ (by omega) hf hok).mono ?_; rintro e w1 ⟨g1, cap1, rfl, hb1, hg1, hl1, hr1⟩; have hm2 := hm.below (Nat.le_refl _) (hb1.alloc hb1.size (.cells #[.int .i64 0, .int .i64 (-1)] 25)); have R1 : Hid _ := hr1; clear hr1)
    | (go_at_call 7; refine (split_ok s l N hN.out _ (by omega) hm2 hok).mono ?_; rintro e w2 ⟨g2, cap2, rfl, hb2, hg2, hl2, hr2⟩; have R2 : Hid _ := hr2; clear hr2; obtain ⟨hc0, hc1⟩ := new_cell hb2)
    | (go_at_call 8; refine (is_nil _).mono ?_; rintro e w3 ⟨rfl, hb3⟩))
  have hB13 : Below w1.heap.size w1 w3 := Below.up (below_new (Below.refl _ _) hb2) hb3
  have hW : Below w.heap.size w w3 := Below.up (below_new hb1 hb2) hb3
  have h13 := hB13.size
  have h23 := hb3.size
  go_loopw [7] (fun i wr => ∃ k : Nat, k ≤ N ∧ i = .int .i64 k ∧ Below w3.heap.size w3 wr) (fun i _ => N - (intOf i).toNat)
  case atStart => exact ⟨0, by omega, rfl, Below.refl _ _⟩
  case round =>
    obtain ⟨k, hk, rfl, hbr⟩ := hrel
    by_cases hlt : k < N
    · obtain ⟨t, ht⟩ : ∃ t, Hid ((fin s l)[k]? = some t) := by
        refine ⟨(fin s l)[k]'(by rw [hFL.out]; exact hlt), ?_⟩
        rw [Hid, List.getElem?_eq_getElem]
      obtain ⟨a1, a2, a3⟩ := R1.out k t ht.out
      obtain ⟨b1, b2, b3⟩ := R2.out k t ht.out
      rw [← hB13.cell (p := ⟨g1, k * 3, none⟩) hl1, ← hbr.cell (p := ⟨g1, k * 3, none⟩) (show g1 < _ by omega)] at a1
      rw [← hB13.cell (p := ⟨g1, k * 3 + 1, none⟩) hl1, ← hbr.cell (p := ⟨g1, k * 3 + 1, none⟩) (show g1 < _ by omega)] at a2
      rw [← hB13.cell (p := ⟨g1, k * 3 + 2, none⟩) hl1, ← hbr.cell (p := ⟨g1, k * 3 + 2, none⟩) (show g1 < _ by omega)] at a3
      rw [← hb3.cell (p := ⟨g2, k * 3, none⟩) hl2, ← hbr.cell (p := ⟨g2, k * 3, none⟩) (show g2 < _ by omega)] at b1
      rw [← hb3.cell (p := ⟨g2, k * 3 + 1, none⟩) hl2, ← hbr.cell (p := ⟨g2, k * 3 + 1, none⟩) (show g2 < _ by omega)] at b2
      rw [← hb3.cell (p := ⟨g2, k * 3 + 2, none⟩) hl2, ← hbr.cell (p := ⟨g2, k * 3 + 2, none⟩) (show g2 < _ by omega)] at b3
      have hi0 : (0 : Int) ≤ (k : Int) := Int.natCast_nonneg _
      have hi1 : (k : Int) < (N : Int) := by omega
      go_wp2
      go_quiet (fail)
      go_wp2
      go_roundw
      case rel => exact ⟨k + 1, by omega, by go_num, below_drewN hbr _⟩
      case measure => simp [intOf]; omega
    · go_wp2
      go_ret
      exact ⟨rfl, Below.up hW hbr⟩

theorem lexSplits_any (s : ByteArray) (w : World) (hm : Marks w) (hf : Fine w) (he : ErrType w) :
    Calls Tryd.prog 3 #[.string s] w fun e w' => e = .returned (.bool true) ∧ Below w.heap.size w w' := by
  by_cases hs : s.size ≤ 1500
  · by_cases hok : ∃ l, Lx.Ok (bs s) l
    · obtain ⟨l, hl⟩ := hok
      exact lexSplits_ok s l w hs hm hf hl
    · exact lexSplits_bad s w hs hm hf he (fun l hl => hok ⟨l, hl⟩)
  · have hbig : (1500 : Int) < (s.size : Int) := by omega
    clear hs
    go_enter Tryd.func3, Tryd.ntmps3
    go_wp2
    go_ret
    exact ⟨rfl, Below.refl _ _⟩
end Go.Proofs.YthcapeglhebdjaaDoor
