/- The tokens of a text, once more: what lex.Split and the document's own Tokens lay; what is known of the list. -/
import Derived.Test.YtiihgnagjemikaaGreatDoorVUn2
import Derived.Test.YtiihgnagjemikaaGreatDoorVPex
import Derived.Test.YtiihgnagjemikaaGreatDoorVPcatch2
import Derived.Test.YtiihgnagjemikaaGreatDoorVCc
import Derived.Test.YtiihgnagjemikaaGreatDoorVTrA
namespace Go.Proofs.YtiihgnagjemikaaGreatDoor
open Go.RowKit Px

theorem cells_at (L : List Lx.Tok) : ∀ (i : Nat) (t : Lx.Tok), L[i]? = some t → (cells L)[i * 3]? = some (.int .i64 t.kind) ∧ (cells L)[i * 3 + 1]? = some (.string ⟨t.text.toArray⟩) ∧ (cells L)[i * 3 + 2]? = some (.int .i64 t.place) := by
  induction L with
  | nil => intro i t h; simp at h
  | cons x r ih =>
    intro i t h
    have e : cells (x :: r) = .int .i64 x.kind :: .string ⟨x.text.toArray⟩ :: .int .i64 x.place :: cells r := rfl
    rw [e]
    cases i with
    | zero => simp at h; subst h; simp
    | succ i =>
      have := ih i t (by simpa using h)
      have e1 : (i + 1) * 3 = i * 3 + 1 + 1 + 1 := by omega
      have e2 : (i + 1) * 3 + 1 = i * 3 + 1 + 1 + 1 + 1 := by omega
      have e3 : (i + 1) * 3 + 2 = i * 3 + 2 + 1 + 1 + 1 := by omega
      rw [e2, e3, e1]
      simpa using this
/-- what is owned can be read -/
theorem toks_read {w : World} {B E n : Nat} {v : Value} {L : List Lx.Tok} (hn : n = L.length) (h0 : 0 < n) (h : w.ownsRow B E 3 v n (cells L)) :
    ∃ g cap, v = .slice (some ⟨g, 0, none⟩) n cap ∧ B ≤ g ∧ g < w.heap.size ∧ ∀ i t, L[i]? = some t → w.cell? ⟨g, i * 3, none⟩ = some (.int .i64 t.kind) ∧ w.cell? ⟨g, i * 3 + 1, none⟩ = some (.string ⟨t.text.toArray⟩) ∧ w.cell? ⟨g, i * 3 + 2, none⟩ = some (.int .i64 t.place) := by
  have hc := fun g hg => World.ownsRow.cells h (g := g) hg
  have hl := fun g hg => World.ownsRow.lt h g hg
  rcases h.2 with ⟨_, rfl⟩ | ⟨g, cap, cur, rfl, hg, _⟩
  · omega
  · refine ⟨g, cap, rfl, hg, (hl g rfl).2, fun i t ht => ?_⟩
    obtain ⟨a, b, c⟩ := cells_at L i t ht
    have ad : ∀ j, (⟨g, 0, none⟩ : Addr).add j = ⟨g, j, none⟩ := fun j => by unfold Addr.add; split <;> simp_all
    have h1 := hc g rfl _ _ a
    have h2 := hc g rfl _ _ b
    have h3 := hc g rfl _ _ c
    rw [ad] at h1 h2 h3
    exact ⟨h1, h2, h3⟩
theorem below_drewN {B : Nat} {a w : World} (h : Below B a w) (n : Nat) : Below B a (w.drewN n) := h.trans ⟨rfl, rfl, rfl, Nat.le_refl _, fun _ _ => rfl⟩

def fin (s : ByteArray) (l : List Lx.Tok) : List Lx.Tok := l ++ [⟨4, [], s.size⟩]
theorem fin_len (s : ByteArray) (l : List Lx.Tok) : (fin s l).length = l.length + 1 := by simp [fin]

theorem split_ok (s : ByteArray) (l : List Lx.Tok) (N : Nat) (hN : N = l.length + 1) (w : World) (hs : s.size ≤ 1000000) (hm : Marks w) (hok : Lx.Ok (bs s) l) :
    Calls Tryz.prog 30 #[.string s] w fun e w' => ∃ g cap, e = .returned (.tuple #[.slice (some ⟨g, 0, none⟩) N cap, .nilIface]) ∧ Below w.heap.size w w' ∧ w.heap.size ≤ g ∧ g < w'.heap.size ∧
      ∀ i t, (fin s l)[i]? = some t → w'.cell? ⟨g, i * 3, none⟩ = some (.int .i64 t.kind) ∧ w'.cell? ⟨g, i * 3 + 1, none⟩ = some (.string ⟨t.text.toArray⟩) ∧ w'.cell? ⟨g, i * 3 + 2, none⟩ = some (.int .i64 t.place) := by
  refine (split_any s w hs hm).mono ?_
  rintro e w' ⟨v, err, rfl, hb, ⟨l', hok', rfl, hown⟩ | ⟨e, q, g, hbad, _⟩⟩
  · obtain rfl := Lx.Ok_Ok hok hok'
    rw [← hN] at hown
    obtain ⟨g, cap, rfl, h1, h2, h3⟩ := toks_read (L := fin s l) (by rw [hN, fin_len]) (by omega) hown
    exact ⟨g, cap, rfl, hb, h1, h2, h3⟩
  · exact (Lx.Ok_Bad hok hbad).elim
theorem split_bad (s : ByteArray) (w : World) (hs : s.size ≤ 1000000) (hm : Marks w) (hno : ∀ l, ¬ Lx.Ok (bs s) l) :
    Calls Tryz.prog 30 #[.string s] w fun e w' => ∃ ev q g : Nat, e = .returned (.tuple #[.slice none 0 0, .iface 45 (.pointer (some ⟨g, 0, none⟩))]) ∧ Below w.heap.size w w' ∧ Lx.Bad (bs s) ev q ∧ w'.heap[g]? = some (.cells #[.int .i64 ev, .int .i64 q] 48 (0, 0)) := by
  refine (split_any s w hs hm).mono ?_
  rintro e w' ⟨v, err, rfl, hb, ⟨l', hok', rfl, hown⟩ | ⟨e, q, g, hbad, _, rfl, rfl, _, hh⟩⟩
  · exact (hno l' hok').elim
  · exact ⟨e, q, g, rfl, hb, hbad, hh⟩
/-- Below, behind a new block -/
theorem below_new {w w1 w2 : World} {o : Obj} (h : Below w.heap.size w w1) (k : Below (w1.alloc o).heap.size (w1.alloc o) w2) : Below w.heap.size w w2 := by
  have := h.size
  exact (h.alloc h.size o).trans (k.mono (by simp; omega))
theorem new_cell {w1 w2 : World} {x y : Value} {t : TypeId} (k : Below (w1.alloc (.cells #[x, y] t)).heap.size (w1.alloc (.cells #[x, y] t)) w2) : w2.cell? ⟨w1.heap.size, 0, none⟩ = some x ∧ w2.cell? ⟨w1.heap.size, 1, none⟩ = some y := by
  rw [k.cell (p := ⟨w1.heap.size, 0, none⟩) (by simp), k.cell (p := ⟨w1.heap.size, 1, none⟩) (by simp)]; simp


theorem mem_wh {p : UInt8 → Bool} : ∀ (u : List UInt8) (c : UInt8), c ∈ u.take (Lx.wh p u) → p c = true
  | [], c, h => by simp at h
  | x :: r, c, h => by
    unfold Lx.wh at h
    rw [List.takeWhile_cons] at h
    split at h
    · next hx =>
      simp only [List.length_cons, List.take_succ_cons, List.mem_cons] at h
      rcases h with rfl | h
      · exact hx
      · exact mem_wh r c h
    · simp at h
theorem rd_two {u : List UInt8} (h : (Lx.rd u).1 = 2) : (∀ c ∈ u.take (Lx.rd u).2, 48 ≤ c.toNat ∧ c.toNat ≤ 57) ∧ u.take (Lx.rd u).2 ≠ [] := by
  cases u with
  | nil => simp [Lx.rd] at h
  | cons c r =>
    have hc : Lx.digit c = true := by
      rw [Lx.rd_cons] at h
      by_cases hc : Lx.digit c = true
      · exact hc
      · rw [if_neg hc] at h
        by_cases hw : Lx.word c = true
        · rw [if_pos hw] at h; simp at h
        · rw [if_neg hw] at h
          by_cases hm : Lx.mk (c :: r) = 0
          · rw [if_pos hm] at h; simp at h
          · rw [if_neg hm] at h; simp at h
    have e : (Lx.rd (c :: r)).2 = Lx.wh Lx.digit (c :: r) := by rw [Lx.rd_cons, if_pos hc]
    rw [e]
    refine ⟨fun d hd => ?_, ?_⟩
    · have := mem_wh _ _ hd; simpa [Lx.digit] using this
    · simp [Lx.wh, hc]
theorem reads_each {l : List Lx.Tok} : ∀ {u : List UInt8} {p : Nat} {u1 : List UInt8} {p1 : Nat}, Lx.Reads u p l u1 p1 → ∀ t ∈ l, t.kind ≤ 3 ∧ t.kind ≠ 0 ∧ (t.kind = 2 → (∀ c ∈ t.text, 48 ≤ c.toNat ∧ c.toNat ≤ 57) ∧ t.text.length ≤ 18 ∧ t.text ≠ []) := by
  induction l with
  | nil => intro _ _ _ _ _ t ht; simp at ht
  | cons x r ih =>
    intro u p u1 p1 h t ht
    obtain ⟨a, b, c, d, e⟩ := h
    rcases List.mem_cons.1 ht with rfl | ht
    · subst b
      refine ⟨Lx.rd_kind _, c, fun h2 => ?_⟩
      have h2' := h2
      refine ⟨(rd_two h2').1, ?_, (rd_two h2').2⟩
      have : (Lx.rd (u.drop (Lx.sk false u))).2 ≤ 18 := Nat.le_of_not_lt fun hl => d ⟨h2', hl⟩
      simp only [List.length_take]; omega
    · exact ih e t ht
theorem fin_get (s : ByteArray) (l : List Lx.Tok) (k : Nat) : (k < l.length ∧ Px.tok (fin s l) k ∈ l) ∨ (k = l.length ∧ Px.tok (fin s l) k = ⟨4, [], s.size⟩) ∨ (l.length < k ∧ (fin s l)[k]? = none) := by
  rcases Nat.lt_trichotomy k l.length with h | h | h
  · refine .inl ⟨h, ?_⟩
    simp [Px.tok, fin, List.getD_eq_getElem?_getD, List.getElem?_append_left h, List.getElem?_eq_getElem h]
  · refine .inr (.inl ⟨h, ?_⟩)
    subst h; simp [Px.tok, fin, List.getD_eq_getElem?_getD]
  · refine .inr (.inr ⟨h, ?_⟩)
    simp [fin]; omega
theorem tok_none {L : List Lx.Tok} {k : Nat} (h : L[k]? = none) : Px.tok L k = ⟨4, [], 0⟩ := by
  simp [Px.tok, List.getD_eq_getElem?_getD, h]
theorem wf_ok {s : ByteArray} {l : List Lx.Tok} (h : Lx.Ok (bs s) l) : Wf (fin s l) := by
  obtain ⟨hn, u, p, hr, _⟩ := h
  have he := reads_each hr
  have hl : Px.tok (fin s l) ((fin s l).length - 1) = ⟨4, [], s.size⟩ := by
    rcases fin_get s l ((fin s l).length - 1) with h | h | h
    · have := fin_len s l; omega
    · exact h.2
    · have := fin_len s l; omega
  refine ⟨by rw [fin_len]; omega, by rw [fin_len]; omega, by rw [kd, hl], by rw [tx, hl], fun k hk => ?_⟩
  rcases fin_get s l k with h | h | h
  · exact (he _ h.2).2.2 hk
  · rw [kd, h.2] at hk; simp at hk
  · rw [kd, tok_none h.2] at hk; simp at hk
theorem e4_ok {s : ByteArray} {l : List Lx.Tok} (h : Lx.Ok (bs s) l) (k : Nat) (hk : kd (fin s l) k = 4) : tx (fin s l) k = [] := by
  obtain ⟨hn, u, p, hr, _⟩ := h
  have he := reads_each hr
  rcases fin_get s l k with h | h | h
  · have := (he _ h.2).1; rw [kd] at hk; omega
  · rw [tx, h.2]
  · rw [tx, tok_none h.2]
end Go.Proofs.YtiihgnagjemikaaGreatDoor
/- Parse: the tokens, then the chart; what is thrown is caught. -/
namespace Go.Proofs.YtiihgnagjemikaaGreatDoor
open Go.RowKit Px

/-- the two results are laid -/
theorem parse_open (w : World) : ∃ W, W = (w.alloc (.cells ZC 35)).alloc (.cells #[.nilIface] 26) ∧ Below w.heap.size w W ∧ W.heap.size = w.heap.size + 2 ∧ W.heap[w.heap.size]? = some (.cells ZC 35 (0, 0)) ∧ W.heap[w.heap.size + 1]? = some (.cells #[.nilIface] 26 (0, 0)) := by
  refine ⟨_, rfl, ((Below.refl _ w).alloc (Nat.le_refl _) _).alloc (by simp) _, by simp, ?_, ?_⟩
  · have := heap_alloc_new w (.cells ZC 35)
    rw [heap_alloc_old _ _ (by simp)]; exact this
  · have := heap_alloc_new (w.alloc (.cells ZC 35)) (.cells #[.nilIface] 26)
    simpa using this

theorem load44 {W : World} {g : Nat} {v : Value} (hg : W.heap[g]? = some (.cells #[v] 26 (0, 0))) : (loadVar 26 ⟨g, 0, none⟩).run Tryz.prog W = .ok v W := by
  have hc : W.cell? ⟨g, 0, none⟩ = some v := by rw [cell_of_row _ _ _ _ _ _ hg]; rfl
  simp [go_sem, hc]
theorem resultsP (tmps : Array Value) (W : World) (c e : Nat) (fc : Array Value) (v : Value) (hsz : fc.size = 3) (hp : tmps[2]?.getD undef = .pointer (some ⟨c, 0, none⟩)) (hq : tmps[3]?.getD undef = .pointer (some ⟨e, 0, none⟩)) (hc : W.heap[c]? = some (.cells fc 35 (0, 0))) (he : W.heap[e]? = some (.cells #[v] 26 (0, 0))) :
    (results Tryz.f17 tmps).run Tryz.prog W = .ok (.tuple #[.agg fc, v]) W := by
  simp [results, Tryz.results17, hp, hq, asAddr, load25 hsz hc, load44 he]
/-- the two results are set -/
theorem laid_set {w2 : World} {c e : Nat} {a b d v v' : Value} (hc : w2.heap[c]? = some (.cells ZC 35 (0, 0))) (he : w2.heap[e]? = some (.cells #[v'] 26 (0, 0))) (hne : c ≠ e) :
    ((((w2.setCell ⟨c, 0, none⟩ a).setCell ⟨c, 1, none⟩ b).setCell ⟨c, 2, none⟩ d).setCell ⟨e, 0, none⟩ v).heap[c]? = some (.cells #[a, b, d] 35 (0, 0)) ∧
    ((((w2.setCell ⟨c, 0, none⟩ a).setCell ⟨c, 1, none⟩ b).setCell ⟨c, 2, none⟩ d).setCell ⟨e, 0, none⟩ v).heap[e]? = some (.cells #[v] 26 (0, 0)) ∧
    (∀ k, k ≠ c → k ≠ e → ((((w2.setCell ⟨c, 0, none⟩ a).setCell ⟨c, 1, none⟩ b).setCell ⟨c, 2, none⟩ d).setCell ⟨e, 0, none⟩ v).heap[k]? = w2.heap[k]?) ∧
    (∀ B a0, Below B a0 w2 → B ≤ c → B ≤ e → Below B a0 ((((w2.setCell ⟨c, 0, none⟩ a).setCell ⟨c, 1, none⟩ b).setCell ⟨c, 2, none⟩ d).setCell ⟨e, 0, none⟩ v)) := by
  have h0 := heap_setCell_same w2 c 0 _ _ a hc
  have h1 := heap_setCell_same _ c 1 _ _ b h0
  have h2 := heap_setCell_same _ c 2 _ _ d h1
  have k0 : (((w2.setCell ⟨c, 0, none⟩ a).setCell ⟨c, 1, none⟩ b).setCell ⟨c, 2, none⟩ d).heap[e]? = some (.cells #[v'] 26 (0, 0)) := by
    rw [heap_setCell_other _ _ _ _ (by simpa using hne.symm), heap_setCell_other _ _ _ _ (by simpa using hne.symm), heap_setCell_other _ _ _ _ (by simpa using hne.symm)]; exact he
  refine ⟨?_, ?_, fun k hkc hke => ?_, fun B _ hb hBc hBe => ?_⟩
  · rw [heap_setCell_other _ _ _ _ (by simpa using hne)]; exact h2
  · exact heap_setCell_same _ e 0 _ _ v k0
  · rw [heap_setCell_other _ _ _ _ (by simpa using hke), heap_setCell_other _ _ _ _ (by simpa using hkc), heap_setCell_other _ _ _ _ (by simpa using hkc), heap_setCell_other _ _ _ _ (by simpa using hkc)]
  · exact (((hb.setCell (by simpa using hBc) _).setCell (by simpa using hBc) _).setCell (by simpa using hBc) _).setCell (by simpa using hBe) _

/-- the reader is laid -/
theorem parse_ps {s : ByteArray} {l : List Lx.Tok} {w W0 w1 : World} {g cap : Nat} (hG : 12 ≤ w.heap.size) (ht : Tabs w) (hok : Lx.Ok (bs s) l) (hb0 : Below w.heap.size w W0) (hz0 : W0.heap.size = w.heap.size + 2) (hb1 : Below W0.heap.size W0 w1) (hg0 : W0.heap.size ≤ g) (hg1 : g < w1.heap.size)
    (hg : ∀ i t, (fin s l)[i]? = some t → w1.cell? ⟨g, i * 3, none⟩ = some (.int .i64 t.kind) ∧ w1.cell? ⟨g, i * 3 + 1, none⟩ = some (.string ⟨t.text.toArray⟩) ∧ w1.cell? ⟨g, i * 3 + 2, none⟩ = some (.int .i64 t.place))
    (c1 : w1.heap[w.heap.size]? = some (.cells ZC 35 (0, 0))) (e1 : w1.heap[w.heap.size + 1]? = some (.cells #[.nilIface] 26 (0, 0))) :
    ∃ W2, W2 = (w1.setCell ⟨w.heap.size + 1, 0, none⟩ .nilIface).alloc (.cells #[.slice (some ⟨g, 0, none⟩) (l.length + 1) cap, .int .i64 0, .int .i64 0, .int .i64 0, .int .i64 0] 81) ∧
      PS ⟨w1.heap.size, g, cap, fin s l⟩ W2 0 0 0 0 ∧ Below w.heap.size w W2 ∧ W2.heap[w.heap.size]? = some (.cells ZC 35 (0, 0)) ∧ W2.heap[w.heap.size + 1]? = some (.cells #[.nilIface] 26 (0, 0)) ∧ W2.heap.size = w1.heap.size + 1 := by
  have hs1 := hb1.size
  have hB1 := hb0.trans (hb1.mono hb0.size)
  have hB2 : Below w.heap.size w (w1.setCell ⟨w.heap.size + 1, 0, none⟩ .nilIface) := hB1.setCell (by simp) _
  have hz2 : (w1.setCell ⟨w.heap.size + 1, 0, none⟩ .nilIface).heap.size = w1.heap.size := by simp
  have old : ∀ k, k < w1.heap.size → k ≠ w.heap.size + 1 → ((w1.setCell ⟨w.heap.size + 1, 0, none⟩ .nilIface).alloc (.cells #[.slice (some ⟨g, 0, none⟩) (l.length + 1) cap, .int .i64 0, .int .i64 0, .int .i64 0, .int .i64 0] 81)).heap[k]? = w1.heap[k]? := fun k hk hn => by
    rw [heap_alloc_old _ _ (by rw [hz2]; exact hk), heap_setCell_other _ _ _ _ (by simpa using hn)]
  have hwf := wf_ok hok
  refine ⟨_, rfl, ⟨?_, fun k t hk => ?_, ?_, hwf.pos, hwf, hg1, ?_⟩, hB2.alloc hB2.size _, ?_, ?_, by simp⟩
  · have := heap_alloc_new (w1.setCell ⟨w.heap.size + 1, 0, none⟩ .nilIface) (.cells #[.slice (some ⟨g, 0, none⟩) (l.length + 1) cap, .int .i64 0, .int .i64 0, .int .i64 0, .int .i64 0] 81)
    rw [hz2] at this
    rw [rdC, fin_len]; exact this
  · have hb := old g hg1 (by omega)
    have := hg k t hk
    rw [World.cell?_of_block (w := w1) (a := ⟨g, k * 3, none⟩) hb, World.cell?_of_block (w := w1) (a := ⟨g, k * 3 + 1, none⟩) hb, World.cell?_of_block (w := w1) (a := ⟨g, k * 3 + 2, none⟩) hb]
    exact this
  · exact ht.keep (fun b hb => (hB2.alloc hB2.size _).block b (by omega))
  · show 12 < g; omega
  · rw [old _ (by omega) (by omega)]; exact c1
  · rw [heap_alloc_old _ _ (by rw [hz2]; omega)]; exact heap_setCell_same w1 _ 0 _ _ .nilIface e1

set_option maxRecDepth 100000 in
set_option maxHeartbeats 2000000 in
theorem parse_bad (s : ByteArray) (w : World) (hs : s.size ≤ 1000000) (hm : Marks w) (hno : ∀ l, ¬ Lx.Ok (bs s) l) :
    Calls Tryz.prog 17 #[.string s] w fun e w' => ∃ ev q g : Nat, e = .returned (.tuple #[.agg ZC, .iface 45 (.pointer (some ⟨g, 0, none⟩))]) ∧ Lx.Bad (bs s) ev q ∧ w'.heap[g]? = some (.cells #[.int .i64 ev, .int .i64 q] 48 (0, 0)) ∧ Below w.heap.size w w' := by
  have HN : Hid _ := hno
  clear hno
  have hmf : ∀ (fn : Fn) (first cap : Array Value) (w : World), (Instr.makeFunc fn first cap).run Tryz.prog w = .ok (.func fn first cap) w := fun _ _ _ _ => rfl
  obtain ⟨W0, hW, hb0, hz0, c0, e0⟩ := parse_open w
  have hm0 := hm.below (Nat.le_refl _) hb0
  go_enter_defers Tryz.func17, Tryz.ntmps17
  go_upto_region 1 with fail
  rw [show (w.alloc (.cells #[.string ⟨#[]⟩, .slice none 0 0, .slice none 0 0] 35)).alloc (.cells #[.nilIface] 26) = W0 from hW.symm]
  clear hW
  go_wp2_with (go_at_call 30; refine (split_bad s _ hs hm0 HN.out).mono ?_; rintro e w1 ⟨ev, q, g, rfl, hb1, hbad, hg⟩; have c1 := (hb1.block _ (by omega)).trans c0; have e1 := (hb1.block _ (by omega)).trans e0; obtain ⟨-, e1c⟩ : True ∧ w1.cell? ⟨w.heap.size + 1, 0, none⟩ = some .nilIface := ⟨trivial, by rw [cell_of_row _ _ _ _ _ _ e1]; rfl⟩; have e1z : w1.frozen? ⟨w.heap.size + 1, 0, none⟩ = false := by simp [World.frozen?, e1])
  have hb2 : Below w.heap.size w (w1.setCell ⟨w.heap.size + 1, 0, none⟩ (.iface 45 (.pointer (some ⟨g, 0, none⟩)))) := (hb0.trans (hb1.mono hb0.size)).setCell (by simp) _
  have c2 : (w1.setCell ⟨w.heap.size + 1, 0, none⟩ (.iface 45 (.pointer (some ⟨g, 0, none⟩)))).heap[w.heap.size]? = some (.cells ZC 35 (0, 0)) := by
    rw [heap_setCell_other w1 _ _ _ (by simp)]; exact c1
  have e2 := heap_setCell_same w1 (w.heap.size + 1) 0 _ 26 (.iface 45 (.pointer (some ⟨g, 0, none⟩))) e1
  have hne : g ≠ w.heap.size + 1 := by rintro rfl; rw [e1] at hg; simp at hg
  have hne' : g ≠ w.heap.size := by rintro rfl; rw [c1] at hg; simp [ZC] at hg
  have g2 : (w1.setCell ⟨w.heap.size + 1, 0, none⟩ (.iface 45 (.pointer (some ⟨g, 0, none⟩)))).heap[g]? = some (.cells #[.int .i64 ev, .int .i64 q] 48 (0, 0)) := by
    rw [heap_setCell_other w1 _ _ _ hne]; exact hg
  generalize (w1.setCell ⟨w.heap.size + 1, 0, none⟩ (.iface 45 (.pointer (some ⟨g, 0, none⟩)))) = w2 at hb2 c2 e2 g2 ⊢
  have f0 : w2.cell? ⟨w.heap.size, 0, none⟩ = some (.string ⟨#[]⟩) := by rw [cell_of_row _ _ _ _ _ _ c2]; rfl
  have f1 : w2.cell? ⟨w.heap.size, 1, none⟩ = some (.slice none 0 0) := by rw [cell_of_row _ _ _ _ _ _ c2]; rfl
  have f2 : w2.cell? ⟨w.heap.size, 2, none⟩ = some (.slice none 0 0) := by rw [cell_of_row _ _ _ _ _ _ c2]; rfl
  have fz : ∀ o, w2.frozen? ⟨w.heap.size, o, none⟩ = false := fun o => by simp [World.frozen?, c2]
  have fe : w2.cell? ⟨w.heap.size + 1, 0, none⟩ = some (.iface 45 (.pointer (some ⟨g, 0, none⟩))) := by rw [cell_of_row _ _ _ _ _ _ e2]; rfl
  have fy : w2.frozen? ⟨w.heap.size + 1, 0, none⟩ = false := by simp [World.frozen?, e2]
  obtain ⟨z0, z1, z2, z3⟩ := laid_set (a := .string ⟨#[]⟩) (b := .slice none 0 0) (d := .slice none 0 0) (v := .iface 45 (.pointer (some ⟨g, 0, none⟩))) c2 e2 (by omega)
  go_region
  go_wp2
  exact ⟨_, resultsP _ _ _ _ _ _ rfl rfl rfl z0 z1, _, _, _, rfl, hbad, (z2 g hne' hne).trans g2, (z3 _ _ hb2 (Nat.le_refl _) (by omega)).drew⟩

set_option maxRecDepth 100000 in
set_option maxHeartbeats 2000000 in
theorem parse_err (s : ByteArray) (l : List Lx.Tok) (f : F) (w : World) (hs : s.size ≤ 1000000) (hG : 12 ≤ w.heap.size) (ht : Tabs w) (hm : Marks w) (hok : Lx.Ok (bs s) l) (hch : chart (fin s l) = .error f) :
    Calls Tryz.prog 17 #[.string s] w fun e w' => ∃ q : Nat, e = .returned (.tuple #[.agg ZC, .iface 45 (.pointer (some ⟨q, 0, none⟩))]) ∧ w'.heap[q]? = some (.cells #[.int .i64 f.1, .int .i64 f.2] 48 (0, 0)) ∧ Below w.heap.size w w' := by
  have HN : Hid _ := hok
  have HC : Hid _ := hch
  clear hok hch
  have hmf : ∀ (fn : Fn) (first cap : Array Value) (w : World), (Instr.makeFunc fn first cap).run Tryz.prog w = .ok (.func fn first cap) w := fun _ _ _ _ => rfl
  obtain ⟨W0, hW, hb0, hz0, c0, e0⟩ := parse_open w
  have hm0 := hm.below (Nat.le_refl _) hb0
  go_enter_defers Tryz.func17, Tryz.ntmps17
  go_upto_region 1 with fail
  rw [show (w.alloc (.cells #[.string ⟨#[]⟩, .slice none 0 0, .slice none 0 0] 35)).alloc (.cells #[.nilIface] 26) = W0 from hW.symm]
  clear hW
  go_wp2_with (first
    | (go_at_call 30; refine (split_ok s l _ rfl _ hs hm0 HN.out).mono ?_; rintro e w1 ⟨g, cap, rfl, hb1, hg0, hg1, hg⟩; have c1 := (hb1.block _ (by omega)).trans c0; have e1 := (hb1.block _ (by omega)).trans e0; obtain ⟨-, e1c⟩ : True ∧ w1.cell? ⟨w.heap.size + 1, 0, none⟩ = some .nilIface := ⟨trivial, by rw [cell_of_row _ _ _ _ _ _ e1]; rfl⟩; have e1z : w1.frozen? ⟨w.heap.size + 1, 0, none⟩ = false := (by simp [World.frozen?, e1]); obtain ⟨W2, hW2, hps, hbW, cW, eW, hzW⟩ := parse_ps (cap := cap) hG ht HN.out hb0 hz0 hb1 hg0 hg1 hg c1 e1; have HW2 : Hid _ := hW2; clear hW2)
    | (go_at_call 32; rw [show (w1.setCell ⟨w.heap.size + 1, 0, none⟩ .nilIface).alloc (.cells #[.slice (some ⟨g, 0, none⟩) (l.length + 1) cap, .int .i64 0, .int .i64 0, .int .i64 0, .int .i64 0] 81) = W2 from HW2.out.symm]; refine (chart_any hps).mono ?_; rintro e w3 h3; rw [show chart (⟨w1.heap.size, g, cap, fin s l⟩ : Ctx).L = _ from HC.out] at h3; obtain ⟨q, rfl, hq, hge, hfr⟩ : Thrown ⟨w1.heap.size, g, cap, fin s l⟩ W2 f e w3 := h3))
  have hs1 := hb1.size
  have c3 := (hfr.block _ (by omega) (by simp; omega)).trans cW
  have e3 := (hfr.block _ (by omega) (by simp; omega)).trans eW
  have hB3 : Below w.heap.size w w3 := hbW.trans (Fr.below (hfr.mono (by omega) (by simp; omega)))
  obtain ⟨z0, z1, z2, z3⟩ := laid_set (a := .string ⟨#[]⟩) (b := .slice none 0 0) (d := .slice none 0 0) (v := .iface 45 (.pointer (some ⟨q, 0, none⟩))) c3 e3 (by omega)
  refine leaves_cons (f := 31) (args := #[.pointer (some ⟨w.heap.size, 0, none⟩), .pointer (some ⟨w.heap.size + 1, 0, none⟩)]) (by simp) (by simp [go_sem]) ?_
  refine (catch_thrown w.heap.size (w.heap.size + 1) q w3 [] (by rw [cell_of_row _ _ _ _ _ _ c3]; rfl) (by rw [cell_of_row _ _ _ _ _ _ c3]; rfl) (by rw [cell_of_row _ _ _ _ _ _ c3]; rfl) (fun o => by simp [World.frozen?, c3]) (by rw [cell_of_row _ _ _ _ _ _ e3]; rfl) (by simp [World.frozen?, e3]) (by omega)).mono ?_
  rintro e u' w'' ⟨rfl, rfl, rfl⟩
  exact ⟨_, resultsP _ _ _ _ _ _ rfl rfl rfl z0 z1, q, rfl, (z2 q (by omega) (by omega)).trans hq, z3 _ _ hB3 (Nat.le_refl _) (by omega)⟩

set_option maxRecDepth 100000 in
set_option maxHeartbeats 2000000 in
theorem parse_ok (s : ByteArray) (l : List Lx.Tok) (c : Chart) (w : World) (hs : s.size ≤ 1000000) (hG : 12 ≤ w.heap.size) (ht : Tabs w) (hm : Marks w) (hok : Lx.Ok (bs s) l) (hch : chart (fin s l) = .ok c) :
    Calls Tryz.prog 17 #[.string s] w fun e w' => ∃ v, e = .returned (.tuple #[v, .nilIface]) ∧ IsChart (Ge w.heap.size) w' c v ∧ Below w.heap.size w w' := by
  have HN : Hid _ := hok
  have HC : Hid _ := hch
  clear hok hch
  have hmf : ∀ (fn : Fn) (first cap : Array Value) (w : World), (Instr.makeFunc fn first cap).run Tryz.prog w = .ok (.func fn first cap) w := fun _ _ _ _ => rfl
  obtain ⟨W0, hW, hb0, hz0, c0, e0⟩ := parse_open w
  have hm0 := hm.below (Nat.le_refl _) hb0
  go_enter_defers Tryz.func17, Tryz.ntmps17
  go_upto_region 1 with fail
  rw [show (w.alloc (.cells #[.string ⟨#[]⟩, .slice none 0 0, .slice none 0 0] 35)).alloc (.cells #[.nilIface] 26) = W0 from hW.symm]
  clear hW
  go_wp2_with (first
    | (go_at_call 30; refine (split_ok s l _ rfl _ hs hm0 HN.out).mono ?_; rintro e w1 ⟨g, cap, rfl, hb1, hg0, hg1, hg⟩; have c1 := (hb1.block _ (by omega)).trans c0; have e1 := (hb1.block _ (by omega)).trans e0; obtain ⟨-, e1c⟩ : True ∧ w1.cell? ⟨w.heap.size + 1, 0, none⟩ = some .nilIface := ⟨trivial, by rw [cell_of_row _ _ _ _ _ _ e1]; rfl⟩; have e1z : w1.frozen? ⟨w.heap.size + 1, 0, none⟩ = false := (by simp [World.frozen?, e1]); obtain ⟨W2, hW2, hps, hbW, cW, eW, hzW⟩ := parse_ps (cap := cap) hG ht HN.out hb0 hz0 hb1 hg0 hg1 hg c1 e1; have HW2 : Hid _ := hW2; clear hW2)
    | (go_at_call 32; rw [show (w1.setCell ⟨w.heap.size + 1, 0, none⟩ .nilIface).alloc (.cells #[.slice (some ⟨g, 0, none⟩) (l.length + 1) cap, .int .i64 0, .int .i64 0, .int .i64 0, .int .i64 0] 81) = W2 from HW2.out.symm]; refine (chart_any hps).mono ?_; rintro e w3 h3; rw [show chart (⟨w1.heap.size, g, cap, fin s l⟩ : Ctx).L = _ from HC.out] at h3; obtain ⟨v, rfl, ⟨a1, n1, m1, a2, n2, m2, rfl, d1, d2⟩, hfr⟩ := h3; have hs1 := hb1.size; have c3 := (hfr.block w.heap.size (by omega) (by simp; omega)).trans cW; have e3 := (hfr.block (w.heap.size + 1) (by omega) (by simp; omega)).trans eW; have f0 : w3.cell? ⟨w.heap.size, 0, none⟩ = some (.string ⟨#[]⟩) := by rw [cell_of_row _ _ _ _ _ _ c3]; rfl
       have f1 : w3.cell? ⟨w.heap.size, 1, none⟩ = some (.slice none 0 0) := by rw [cell_of_row _ _ _ _ _ _ c3]; rfl
       have f2 : w3.cell? ⟨w.heap.size, 2, none⟩ = some (.slice none 0 0) := by rw [cell_of_row _ _ _ _ _ _ c3]; rfl
       have fz : ∀ o, w3.frozen? ⟨w.heap.size, o, none⟩ = false := fun o => by simp [World.frozen?, c3]
       have fe : w3.cell? ⟨w.heap.size + 1, 0, none⟩ = some .nilIface := by rw [cell_of_row _ _ _ _ _ _ e3]; rfl
       have fy : w3.frozen? ⟨w.heap.size + 1, 0, none⟩ = false := by simp [World.frozen?, e3]
       rw [sv]))
  have hB3 : Below w.heap.size w w3 := hbW.trans (Fr.below (hfr.mono (by omega) (by simp; omega)))
  obtain ⟨z0, z1, z2, z3⟩ := laid_set (a := .string ⟨c.name.toArray⟩) (b := .slice a1 n1 m1) (d := .slice a2 n2 m2) (v := .nilIface) c3 e3 (by omega)
  refine leaves_cons (f := 31) (args := #[.pointer (some ⟨w.heap.size, 0, none⟩), .pointer (some ⟨w.heap.size + 1, 0, none⟩)]) (by simp) (by simp [go_sem]) ?_
  refine (catch_idle ⟨w.heap.size, 0, none⟩ ⟨w.heap.size + 1, 0, none⟩ _).mono ?_
  rintro e u' w'' ⟨rfl, rfl, rfl⟩
  have kp : Keep (Ge W2.heap.size) (Ge w.heap.size) w3 _ := fun b hb hlt => ⟨by simp [Ge] at *; omega, z2 b (by simp [Ge] at hb; omega) (by simp [Ge] at hb; omega)⟩
  exact ⟨_, resultsP _ _ _ _ _ _ rfl rfl rfl z0 z1, _, rfl, ⟨a1, n1, m1, a2, n2, m2, rfl, d1.carry kp, d2.carry kp (IsStates.carry kp 6)⟩, z3 _ _ hB3 (Nat.le_refl _) (by omega)⟩
end Go.Proofs.YtiihgnagjemikaaGreatDoor
/- What a drawn chart is like, for the program's Check; keep's chart. -/
namespace Go.Proofs.YtiihgnagjemikaaGreatDoor
open Go.RowKit Px

namespace Kx
theorem nmE {e : E} (h : Sh.TE e) : NmOk e := by
  induction e with
  | nil => trivial
  | node b o a l r ihl ihr =>
    obtain ⟨h1, h2, h3, h4, _, h5, h6⟩ := h
    exact ⟨by unfold maxLen; omega, ihl h5, ihr h6⟩
theorem nmS {l : List Asg} (h : Sh.TS l) : NmSets l := fun a ha => ⟨by have := (h a ha).2; unfold maxLen; omega, nmE (h a ha).1⟩
theorem sumGe {α : Type} (f : α → Nat) (hf : ∀ a, 1 ≤ f a) (l : List α) : l.length ≤ Sh.sumW f l := by
  induction l with
  | nil => simp
  | cons a r ih => rw [Sh.sumW, List.length_cons]; have := hf a; omega
theorem nmSt : ∀ (k : Nat) (x : St k), Sh.TSt k x → Sh.wSt k x ≤ 601 → NmSt k x := by
  intro k
  induction k with
  | zero => intro x _ _; trivial
  | succ k ih =>
    intro x h hw
    obtain ⟨h0, h1, h2, h3, h4, h5, h6⟩ := h
    have hw' : Sh.wStF (Sh.wSt k) x ≤ 601 := hw
    unfold Sh.wStF at hw'
    have hl := sumGe Sh.wW (fun y => by unfold Sh.wW; omega) (StF.ways x)
    refine ⟨⟨by unfold maxLen; omega, nmS h1, nmS h2, nmS h3, nmE h4, fun y hy => ⟨by have := (h5 y hy).2.2.2.2; unfold maxLen; omega, nmE (h5 y hy).2.2.1, nmS (h5 y hy).2.2.2.1⟩, by omega⟩, fun r hr y hy => ih y (h6 r hr y hy) ?_⟩
    have a1 : 1 + Sh.sumW (Sh.wSt k) r ≤ Sh.sumW (Sh.wR (Sh.wSt k)) (StF.regions x) := Sh.sumW_mem (Sh.wR (Sh.wSt k)) (StF.regions x) r hr
    have a2 := Sh.sumW_mem (Sh.wSt k) r y hy
    omega
theorem sumLe {α : Type} {f g : α → Nat} (l : List α) (h : ∀ a ∈ l, f a ≤ g a) : sumC f l ≤ Sh.sumW g l := by
  induction l with
  | nil => simp [sumC, Sh.sumW]
  | cons a r ih => rw [sumC, Sh.sumW]; have := h a (by simp); have := ih (fun b hb => h b (by simp [hb])); omega
theorem inLe : ∀ (k : Nat) (x : St k), 1 + cIn k x ≤ Sh.wSt k x := by
  intro k
  induction k with
  | zero => intro x; exact Nat.le_refl _
  | succ k ih =>
    intro x
    show 1 + sumC (sumC fun y => 1 + cIn k y) (StF.regions x) ≤ Sh.wStF (Sh.wSt k) x
    unfold Sh.wStF
    have := sumLe (f := sumC fun y => 1 + cIn k y) (g := Sh.wR (Sh.wSt k)) (StF.regions x) (fun r _ => by
      have := sumLe (f := fun y => 1 + cIn k y) (g := Sh.wSt k) r (fun y _ => ih y)
      unfold Sh.wR; omega)
    omega
theorem nmChart {L : List Lx.Tok} (hL : Wf L) {c : Chart} (h : chart L = .ok c) : NmChart c := by
  obtain ⟨h1, h2, h3⟩ := Sh.chart_w hL h
  have hx : ∀ r ∈ c.regions, ∀ x ∈ r, Sh.wSt 6 x ≤ 601 := fun r hr x hx => by
    have a1 : 1 + Sh.sumW (Sh.wSt 6) r ≤ Sh.sumW (Sh.wR (Sh.wSt 6)) c.regions := Sh.sumW_mem (Sh.wR (Sh.wSt 6)) c.regions r hr
    have a2 := Sh.sumW_mem (Sh.wSt 6) r x hx
    omega
  refine ⟨by omega, fun v hv => by have := (h1 v hv).2; unfold maxLen; omega, fun r hr x hx' => nmSt 6 x (h2 r hr x hx') (hx r hr x hx'), ?_⟩
  have := sumLe (f := cRg 6) (g := Sh.wR (Sh.wSt 6)) c.regions (fun r _ => by
    have := sumLe (f := fun y => 1 + cIn 6 y) (g := Sh.wSt 6) r (fun y _ => inLe 6 y)
    unfold cRg Sh.wR; omega)
  omega
/-- what of the listed variables reading a text asks -/
structure KEnv0 (w : World) : Prop where
  tabs : Tabs w
  marks : Marks w
  big : 12 ≤ w.heap.size
theorem KEnv0.up {w W : World} (h : KEnv0 w) (hb : Below w.heap.size w W) : KEnv0 W :=
  ⟨h.tabs.keep (fun b hb' => hb.block b (Nat.lt_of_lt_of_le hb' h.big)), h.marks.below (Nat.le_refl _) hb, Nat.le_trans h.big hb.size⟩
theorem chartUp {A : Nat → Prop} {c : Chart} {W W' : World} {v : Value} (h : IsChart A W c v) (hb : Below W.heap.size W W') : IsChart A W' c v := by
  have kp : Keep A A W W' := fun b ha hlt => ⟨ha, hb.block b hlt⟩
  obtain ⟨a, n, m, a2, n2, m2, rfl, hv, hr⟩ := h
  exact ⟨a, n, m, a2, n2, m2, rfl, hv.carry kp, hr.carry kp (IsStates.carry kp 6)⟩
theorem resultsQ (tmps : Array Value) (W : World) (e : Nat) (fe : Array Value) (hse : fe.size = 3) (hq : tmps[2]?.getD undef = .pointer (some ⟨e, 0, none⟩)) (he : W.heap[e]? = some (.cells fe 35 (0, 0))) :
    (results Tryz.f9 tmps).run Tryz.prog W = .ok (.tuple #[.agg fe, tmps.getD 3 undef]) W := by
  simp [results, Tryz.results9, hq, asAddr, load25 hse he]
/-- a text draws a chart, or none -/
theorem drawsOr (s : ByteArray) : (∃ l c, Lx.Ok (bs s) l ∧ chart (fin s l) = .ok c) ∨ ¬ ∃ l c, Lx.Ok (bs s) l ∧ chart (fin s l) = .ok c := Classical.em _
end Kx
end Go.Proofs.YtiihgnagjemikaaGreatDoor
/- What is drawn: its numbers fit; no program. -/
namespace Go.Proofs.YtiihgnagjemikaaGreatDoor
open Go.RowKit Px
namespace Kx
theorem nbE {e : E} (h : Sh.TE e) : NbOk e := by
  induction e with
  | nil => trivial
  | node b o a l r ihl ihr =>
    obtain ⟨h1, h2, h3, h4, _, h5, h6⟩ := h
    exact ⟨h3, ihl h5, ihr h6⟩
theorem nbS {l : List Asg} (h : Sh.TS l) : NbSets l := fun a ha => nbE (h a ha).1
theorem nbSt : ∀ (k : Nat) (x : St k), Sh.TSt k x → NbSt k x := by
  intro k
  induction k with
  | zero => intro x _; trivial
  | succ k ih =>
    intro x h
    obtain ⟨h0, h1, h2, h3, h4, h5, h6⟩ := h
    exact ⟨⟨nbS h1, nbS h2, nbS h3, nbE h4, fun y hy => ⟨nbE (h5 y hy).2.2.1, nbS (h5 y hy).2.2.2.1⟩⟩, fun r hr y hy => ih y (h6 r hr y hy)⟩
theorem nbChart {L : List Lx.Tok} (hL : Wf L) {c : Chart} (h : chart L = .ok c) : (∀ r ∈ c.regions, ∀ x ∈ r, NbSt 6 x) ∧ ∀ v ∈ c.vars, N64 v.first := by
  obtain ⟨h1, h2, h3⟩ := Sh.chart_w hL h
  exact ⟨fun r hr x hx => nbSt 6 x (h2 r hr x hx), fun v hv => ⟨(h1 v hv).1.2.2.1, (h1 v hv).1.2.2.2⟩⟩
/-- a chart that is drawn and may be -/
structure RunC (c : Chart) : Prop where
  ok : checkC c = none
  nm : NmChart c
  run : ChartR c
  n64 : ∀ v ∈ c.vars, N64 v.first
theorem runC {s : ByteArray} {l : List Lx.Tok} {c : Chart} (hok : Lx.Ok (bs s) l) (hch : chart (fin s l) = .ok c) (h : checkC c = none) : RunC c :=
  ⟨h, nmChart (wf_ok hok) hch, check_runs h (nmChart (wf_ok hok) hch) (nbChart (wf_ok hok) hch).1, (nbChart (wf_ok hok) hch).2⟩
end Kx
end Go.Proofs.YtiihgnagjemikaaGreatDoor
/- What is drawn, and may run. -/

/- keep's there: of names, one state of each region is taken, and of its regions. -/
namespace Go.Proofs.YtiihgnagjemikaaGreatDoor
open Go.RowKit Px

/-- a slice of texts -/
def IStrs (w : World) (v : Value) (zs : List Str) : Prop :=
  ∃ ad b off cap, v = .slice ad zs.length cap ∧ zs.length ≤ cap ∧ cap ≤ maxLen ∧ (0 < zs.length → ad = some ⟨b, off, none⟩) ∧ ∀ k s, zs[k]? = some s → w.cell? ⟨b, off + k, none⟩ = some (sv s)
theorem IStrs.below {w w' : World} {v : Value} {zs : List Str} (h : IStrs w v zs) (hb : Below w.heap.size w w') : IStrs w' v zs := by
  obtain ⟨ad, b, off, cap, h1, h2, h3, h4, h5⟩ := h
  exact ⟨ad, b, off, cap, h1, h2, h3, h4, fun k s hs => ck_cell hb (h5 k s hs)⟩
theorem RowS.strs {B : Nat} {w : World} {v : Value} {zs : List Str} (h : RowS B w v zs) : IStrs w v zs := by
  have hc := fun g hg => World.ownsRow.cells h (g := g) hg
  obtain ⟨hl, h2⟩ := h
  rcases h2 with ⟨rfl, h0⟩ | ⟨g, cap, cur, rfl, hB, hg, h3, h4, hr⟩
  · exact ⟨none, 0, 0, 0, by rw [h0], by omega, by unfold maxLen; omega, fun h => absurd h (by omega), fun k s hk => by have := (List.getElem?_eq_some_iff.1 hk).1; omega⟩
  · refine ⟨some ⟨g, 0, none⟩, g, 0, cap, rfl, by omega, by omega, fun _ => rfl, fun k s hk => ?_⟩
    have := hc g rfl k (sv s) (by rw [List.getElem?_map, hk]; rfl)
    rw [show (⟨g, 0, none⟩ : Addr).add k = ⟨g, k, none⟩ from by unfold Addr.add; split <;> simp_all] at this
    rw [Nat.zero_add]; exact this
theorem ixQ (ad : Option Addr) (g o n cap k : Nat) (hk : k < n) (ha : 0 < n → ad = some ⟨g, o, none⟩) (w : World) : (Instr.indexAt 69 (.slice ad n cap) (.int .i64 (k : Int))).run Tryz.prog w = .ok (.pointer (some ⟨g, o + k, none⟩)) w := by
  obtain rfl := ha (by omega)
  rw [run_indexAt_slice _ _ _ _ _ _ _ (by kernel_rfl), if_pos ⟨by omega, by omega⟩]
  have e : (sizeOf (Tryz.prog.elem 69)).run Tryz.prog w = .ok 1 w := by kernel_rfl
  rw [e]
  simp [Result.andThen, Addr.add]
  try (intro h; exact h.symm)
theorem strQ {a b : Str} {S T : ByteArray} (h1 : Value.string S = sv a) (h2 : Value.string T = sv b) : (S.toList == T.toList) = decide (a = b) := by
  unfold sv at h1 h2
  injection h1 with h1
  injection h2 with h2
  subst h1
  subst h2
  rw [ByteArray.toList_eq, ByteArray.toList_eq, Bool.eq_iff_iff, beq_iff_eq, decide_eq_true_iff]
theorem zip_at {α β γ : Type} {f : α → β → γ} {l : List α} {m : List β} {i : Nat} {a : α} {b : β} {t : γ} (ha : l[i]? = some a) (hb : m[i]? = some b) (ht : (List.zipWith f l m)[i]? = some t) : t = f a b := by
  rw [List.getElem?_zipWith, ha, hb] at ht
  injection ht with ht
  exact ht.symm
theorem at_len {α β : Type} {l : List α} {m : List β} {i : Nat} {a : α} (h : m.length = l.length) (ha : l[i]? = some a) : ∃ b, m[i]? = some b :=
  ⟨m[i]'(by rw [h]; exact (List.getElem?_eq_some_iff.1 ha).1), by rw [List.getElem?_eq_getElem]⟩
theorem thereF_at {σ ρ : Type} {f : List σ → ρ → List Str} {L : List (StF σ)} {d : RdF ρ} {i : Nat} {s : StF σ} {x : SdF ρ} (h : d.there = some i) (hs : L[i]? = some s) (hx : d.sts[i]? = some x) : thereF f L d = s.name :: (List.zipWith f s.regions x.inside).flatten := by
  unfold thereF
  simp only [h, hs, hx]
end Go.Proofs.YtiihgnagjemikaaGreatDoor
/- The charts that keep's laws draw first: what they draw, and what Check says of them. -/
namespace Go.Proofs.YtiihgnagjemikaaGreatDoor
open Go.RowKit Px
namespace Kx

/-- a text's tokens, one by one -/
def lexF : Nat → List UInt8 → Nat → Option (List Lx.Tok)
  | 0, _, _ => none
  | f + 1, u, p =>
    if (u.drop (Lx.sk false u)).isEmpty then some []
    else if (Lx.rd (u.drop (Lx.sk false u))).1 = 0 ∨ ((Lx.rd (u.drop (Lx.sk false u))).1 = 2 ∧ 18 < (Lx.rd (u.drop (Lx.sk false u))).2) then none
    else match lexF f ((u.drop (Lx.sk false u)).drop (Lx.rd (u.drop (Lx.sk false u))).2) (p + Lx.sk false u + (Lx.rd (u.drop (Lx.sk false u))).2) with
      | none => none
      | some l => some (⟨(Lx.rd (u.drop (Lx.sk false u))).1, (u.drop (Lx.sk false u)).take (Lx.rd (u.drop (Lx.sk false u))).2, p + Lx.sk false u⟩ :: l)
theorem lexF_ok : ∀ (f : Nat) (u : List UInt8) (p : Nat) (l : List Lx.Tok), lexF f u p = some l → ∃ u' p', Lx.Reads u p l u' p' ∧ u'.drop (Lx.sk false u') = [] := by
  intro f
  induction f with
  | zero => intro u p l h; exact absurd h (by simp [lexF])
  | succ f ih =>
    intro u p l h
    rw [lexF] at h
    split at h
    · rename_i he
      injection h with h
      subst h
      exact ⟨u, p, Lx.Reads_nil _ _, by simpa using he⟩
    · rename_i he
      split at h
      · exact absurd h (by simp)
      · rename_i hk
        split at h
        · exact absurd h (by simp)
        · rename_i l' hl
          injection h with h
          subst h
          obtain ⟨u', p', h1, h2⟩ := ih _ _ _ hl
          exact ⟨u', p', ⟨fun e => he (by rw [e]; rfl), rfl, fun e => hk (.inl e), fun e => hk (.inr e), h1⟩, h2⟩
def smallL : List UInt8 := [99, 104, 97, 114, 116, 32, 99, 32, 123, 32, 105, 110, 112, 117, 116, 32, 97, 59, 32, 111, 117, 116, 112, 117, 116, 32, 98, 32, 58, 61, 32, 50, 59, 32, 114, 101, 103, 105, 111, 110, 32, 123, 32, 105, 110, 105, 116, 105, 97, 108, 32, 115, 116, 97, 116, 101, 32, 115, 32, 123, 32, 103, 111, 32, 105, 102, 32, 40, 97, 41, 32, 100, 111, 32, 98, 32, 58, 61, 32, 98, 32, 43, 32, 40, 49, 32, 42, 32, 97, 41, 32, 45, 45, 62, 32, 116, 59, 32, 125, 32, 115, 116, 97, 116, 101, 32, 116, 32, 123, 32, 103, 111, 32, 45, 45, 62, 32, 115, 59, 32, 125, 32, 125, 32, 125]
def smallK : List Lx.Tok := [⟨1, [99, 104, 97, 114, 116], 0⟩, ⟨1, [99], 6⟩, ⟨3, [123], 8⟩, ⟨1, [105, 110, 112, 117, 116], 10⟩, ⟨1, [97], 16⟩, ⟨3, [59], 17⟩, ⟨1, [111, 117, 116, 112, 117, 116], 19⟩, ⟨1, [98], 26⟩, ⟨3, [58, 61], 28⟩, ⟨2, [50], 31⟩, ⟨3, [59], 32⟩, ⟨1, [114, 101, 103, 105, 111, 110], 34⟩, ⟨3, [123], 41⟩, ⟨1, [105, 110, 105, 116, 105, 97, 108], 43⟩, ⟨1, [115, 116, 97, 116, 101], 51⟩, ⟨1, [115], 57⟩, ⟨3, [123], 59⟩, ⟨1, [103, 111], 61⟩, ⟨1, [105, 102], 64⟩, ⟨3, [40], 67⟩, ⟨1, [97], 68⟩, ⟨3, [41], 69⟩, ⟨1, [100, 111], 71⟩, ⟨1, [98], 74⟩, ⟨3, [58, 61], 76⟩, ⟨1, [98], 79⟩, ⟨3, [43], 81⟩, ⟨3, [40], 83⟩, ⟨2, [49], 84⟩, ⟨3, [42], 86⟩, ⟨1, [97], 88⟩, ⟨3, [41], 89⟩, ⟨3, [45, 45, 62], 91⟩, ⟨1, [116], 95⟩, ⟨3, [59], 96⟩, ⟨3, [125], 98⟩, ⟨1, [115, 116, 97, 116, 101], 100⟩, ⟨1, [116], 106⟩, ⟨3, [123], 108⟩, ⟨1, [103, 111], 110⟩, ⟨3, [45, 45, 62], 113⟩, ⟨1, [115], 117⟩, ⟨3, [59], 118⟩, ⟨3, [125], 120⟩, ⟨3, [125], 122⟩, ⟨3, [125], 124⟩]
def smallC : Chart := ⟨[99], [⟨1, [97], 0⟩, ⟨2, [98], 2⟩], [[(⟨[115], true, false, [], [], [], .nil, [⟨0, false, eName 2 [97], 1, [⟨[98], eTwo 6 (eName 2 [98]) (eTwo 8 (eNum 1) (eName 2 [97]))⟩], [116], false⟩], []⟩ : StF (St 5)), (⟨[116], false, false, [], [], [], .nil, [⟨0, false, .nil, 1, [], [115], false⟩], []⟩ : StF (St 5))]]⟩
set_option maxRecDepth 100000 in
theorem small_lex : lexF 60 smallL 0 = some smallK := by kernel_rfl
set_option maxRecDepth 100000 in
theorem small_chart (n : Nat) : chart (smallK ++ [⟨4, [], n⟩]) = .ok smallC := by kernel_rfl
theorem small_ok {s : ByteArray} (h : bs s = smallL) : Lx.Ok (bs s) smallK ∧ chart (fin s smallK) = .ok smallC := by
  refine ⟨⟨by decide, ?_⟩, small_chart _⟩
  rw [h]
  exact lexF_ok _ _ _ _ small_lex
def cycL : List UInt8 := [99, 104, 97, 114, 116, 32, 99, 32, 123, 32, 114, 101, 103, 105, 111, 110, 32, 123, 32, 105, 110, 105, 116, 105, 97, 108, 32, 115, 116, 97, 116, 101, 32, 115, 32, 123, 32, 103, 111, 32, 105, 109, 109, 101, 100, 105, 97, 116, 101, 32, 45, 45, 62, 32, 115, 59, 32, 125, 32, 125, 32, 125]
def cycK : List Lx.Tok := [⟨1, [99, 104, 97, 114, 116], 0⟩, ⟨1, [99], 6⟩, ⟨3, [123], 8⟩, ⟨1, [114, 101, 103, 105, 111, 110], 10⟩, ⟨3, [123], 17⟩, ⟨1, [105, 110, 105, 116, 105, 97, 108], 19⟩, ⟨1, [115, 116, 97, 116, 101], 27⟩, ⟨1, [115], 33⟩, ⟨3, [123], 35⟩, ⟨1, [103, 111], 37⟩, ⟨1, [105, 109, 109, 101, 100, 105, 97, 116, 101], 40⟩, ⟨3, [45, 45, 62], 50⟩, ⟨1, [115], 54⟩, ⟨3, [59], 55⟩, ⟨3, [125], 57⟩, ⟨3, [125], 59⟩, ⟨3, [125], 61⟩]
def cycC : Chart := ⟨[99], [], [[(⟨[115], true, false, [], [], [], .nil, [⟨0, true, .nil, 1, [], [115], false⟩], []⟩ : StF (St 5))]]⟩
set_option maxRecDepth 100000 in
theorem cyc_lex : lexF 60 cycL 0 = some cycK := by kernel_rfl
set_option maxRecDepth 100000 in
theorem cyc_chart (n : Nat) : chart (cycK ++ [⟨4, [], n⟩]) = .ok cycC := by kernel_rfl
theorem cyc_ok {s : ByteArray} (h : bs s = cycL) : Lx.Ok (bs s) cycK ∧ chart (fin s cycK) = .ok cycC := by
  refine ⟨⟨by decide, ?_⟩, cyc_chart _⟩
  rw [h]
  exact lexF_ok _ _ _ _ cyc_lex
set_option maxRecDepth 100000 in
theorem small_check : checkC smallC = none := by kernel_rfl
set_option maxRecDepth 100000 in
theorem cyc_check : checkC cycC = some (11, some 0) := by kernel_rfl
end Kx
end Go.Proofs.YtiihgnagjemikaaGreatDoor
/- keep's chart: what a text draws that may be. -/
namespace Go.Proofs.YtiihgnagjemikaaGreatDoor
open Go.RowKit Px
namespace Kx

theorem put3 {X : World} {fb T : Nat} {x y z : Value} (h : X.heap[fb]? = some (.cells #[x, y, z] T (0, 0))) (a b c : Value) : (((X.setCell ⟨fb, 0, none⟩ a).setCell ⟨fb, 1, none⟩ b).setCell ⟨fb, 2, none⟩ c).heap[fb]? = some (.cells #[a, b, c] T (0, 0)) :=
  ck_set (l := [a, b, z]) (ck_set (l := [a, y, z]) (ck_set (l := [x, y, z]) h 0 a) 1 b) 2 c
theorem below_put3 {w X : World} {fb : Nat} (h : Below w.heap.size w X) (hb : w.heap.size ≤ fb) (a b c : Value) : Below w.heap.size w (((X.setCell ⟨fb, 0, none⟩ a).setCell ⟨fb, 1, none⟩ b).setCell ⟨fb, 2, none⟩ c) :=
  ((h.setCell hb _).setCell hb _).setCell hb _
set_option maxRecDepth 100000 in
set_option maxHeartbeats 4000000 in
/-- of a text that draws a chart -/
theorem chart_drawn {s : ByteArray} {l : List Lx.Tok} {c : Chart} {w : World} (hs : s.size ≤ 1500) (hv : KEnv0 w) (hok : Lx.Ok (bs s) l) (hch : chart (fin s l) = .ok c) :
    Calls Tryz.prog 9 #[.string s] w fun e w' => (checkC c = none ∧ ∃ S a n m a' n' m', e = .returned (.tuple #[.agg #[.string S, .slice a n m, .slice a' n' m'], .bool true]) ∧ Hid (IsChart (fun b => w.heap.size < b) w' c (.agg #[.string S, .slice a n m, .slice a' n' m']) ∧ Below w.heap.size w w')) ∨
      (checkC c ≠ none ∧ e = .returned (.tuple #[.agg #[.string ⟨#[]⟩, .slice none 0 0, .slice none 0 0], .bool false]) ∧ Hid (Below w.heap.size w w')) := by
  have hN := nmChart (wf_ok hok) hch
  obtain ⟨W0, hW0⟩ : ∃ W0, W0 = w.alloc (.cells #[.string ⟨#[]⟩, .slice none 0 0, .slice none 0 0] 35) := ⟨_, rfl⟩
  have hb0 : Below w.heap.size w W0 := by rw [hW0]; exact ck_grown w _
  have hp : Calls Tryz.prog 17 #[.string s] W0 fun e w' => ∃ S a n m a' n' m', e = .returned (.tuple #[.agg #[.string S, .slice a n m, .slice a' n' m'], .nilIface]) ∧ Hid (IsChart (fun b => w.heap.size < b) w' c (.agg #[.string S, .slice a n m, .slice a' n' m']) ∧ Below W0.heap.size W0 w') :=
    (parse_ok s l c W0 (by omega) (hv.up hb0).big (hv.up hb0).tabs (hv.up hb0).marks hok hch).mono fun e w' ⟨v, he, hC, hb⟩ => by
      obtain ⟨a, n, m, a', n', m', rfl, h1, h2⟩ := hC
      have kp : Keep (Ge W0.heap.size) (fun b => w.heap.size < b) w' w' := fun b hb' _ => ⟨by have h3 : W0.heap.size ≤ b := hb'; rw [hW0] at h3; simp at h3; omega, rfl⟩
      exact ⟨_, a, n, m, a', n', m', he, ⟨a, n, m, a', n', m', rfl, h1.carry kp, h2.carry kp (IsStates.carry kp 6)⟩, hb⟩
  have HB0 : Hid (_ ∧ W0.heap[w.heap.size]? = some (.cells #[.string ⟨#[]⟩, .slice none 0 0, .slice none 0 0] 35 (0, 0))) := ⟨hb0, by rw [hW0]; exact ck_new _ _⟩
  have hs1 : ¬ (1500 : Int) < (s.size : Int) := by omega
  have HN : Hid _ := hN
  rw [hW0] at hp HB0
  clear hN hv hok hch hW0 hb0
  go_enter Tryz.func9, Tryz.ntmps9
  go_wp2_with fail
  refine hp.mono ?_
  rintro e w1 ⟨S, a, n, m, a', n', m', rfl, h1⟩
  obtain ⟨W1, hW1⟩ : ∃ W1, W1 = w1.alloc (.cells #[.string S, .slice a n m, .slice a' n' m'] 35) := ⟨_, rfl⟩
  have hb1 : Below w1.heap.size w1 W1 := by rw [hW1]; exact ck_grown w1 _
  have HW1 : Hid (IsChart (fun b => w.heap.size < b) W1 c (.agg #[.string S, .slice a n m, .slice a' n' m']) ∧ Below w.heap.size w W1 ∧ W1.heap[w.heap.size]? = some (.cells #[.string ⟨#[]⟩, .slice none 0 0, .slice none 0 0] 35 (0, 0)) ∧ W1.heap[w1.heap.size]? = some (.cells #[.string S, .slice a n m, .slice a' n' m'] 35 (0, 0))) :=
    ⟨chartUp h1.out.1 hb1, ck_all HB0.out.1 (ck_all h1.out.2 hb1), ck_block (ck_all h1.out.2 hb1) HB0.out.2, by rw [hW1]; exact ck_new _ _⟩
  have hck := check_any HW1.out.1 HN.out
  have x0 := cell_row HW1.out.2.2.2 0 (u := .string S) rfl
  have x1 := cell_row HW1.out.2.2.2 1 (u := .slice a n m) rfl
  have x2 := cell_row HW1.out.2.2.2 2 (u := .slice a' n' m') rfl
  obtain ⟨o, ho⟩ : ∃ o, Hid (checkC c = o) := ⟨_, rfl⟩
  rw [ho.out] at hck
  rw [hW1] at hck x0 x1 x2
  have HWE : Hid _ := hW1
  clear hp hb1 hW1 h1
  unfold ChkOut at hck
  have HKW : Hid (∀ w', Below W1.heap.size W1 w' → IsChart (fun b => w.heap.size < b) w' c (.agg #[.string S, .slice a n m, .slice a' n' m']) ∧ Below w.heap.size w w' ∧ w'.heap[w.heap.size]? = some (.cells #[.string ⟨#[]⟩, .slice none 0 0, .slice none 0 0] 35 (0, 0)) ∧ w'.heap[w1.heap.size]? = some (.cells #[.string S, .slice a n m, .slice a' n' m'] 35 (0, 0))) := fun w' hb => ⟨chartUp HW1.out.1 hb, ck_all HW1.out.2.1 hb, ck_block hb HW1.out.2.2.1, ck_block hb HW1.out.2.2.2⟩
  go_wp2_with fail
  cases o with
  | none =>
    have hc2 : Calls Tryz.prog 18 #[.agg #[.string S, .slice a n m, .slice a' n' m']] (w1.alloc (.cells #[.string S, .slice a n m, .slice a' n' m'] 35)) fun e w' => e = .returned .nilIface ∧ Hid (Below W1.heap.size W1 w') := by
      rw [← HWE.out] at hck ⊢
      exact hck.mono fun e w' ⟨hb, ho⟩ => by
        rcases ho with ⟨_, he⟩ | ⟨_, he, _⟩ | ⟨_, _, _, he, _⟩
        · exact ⟨he, hb⟩
        · simp at he
        · simp at he
    clear hck x0 x1 x2
    refine hc2.mono ?_
    rintro e w2 ⟨rfl, hb2⟩
    obtain ⟨k1, k2, k3, k4⟩ := HKW.out w2 hb2.out
    have x0 := cell_row k4 0 (u := .string S) rfl
    have x1 := cell_row k4 1 (u := .slice a n m) rfl
    have x2 := cell_row k4 2 (u := .slice a' n' m') rfl
    have f0 := cell_row k3 0 (u := .string ⟨#[]⟩) rfl
    have f1 := cell_row k3 1 (u := .slice none 0 0) rfl
    have f2 := cell_row k3 2 (u := .slice none 0 0) rfl
    have z0 := ck_frozen k3 0
    have z1 := ck_frozen k3 1
    have z2 := ck_frozen k3 2
    have HB2 : Hid (_ ∧ _ ∧ _) := ⟨k2, k3, k1⟩
    clear k1 k2 k3 k4 hc2
    go_wp2_with fail
    refine bodyPost_ret (resultsQ _ _ w.heap.size #[.string S, .slice a n m, .slice a' n' m'] rfl rfl (put3 HB2.out.2.1 _ _ _)) rfl ?_
    refine .inl ⟨ho.out, S, a, n, m, a', n', m', rfl, ?_, below_put3 HB2.out.1 (Nat.le_refl _) _ _ _⟩
    obtain ⟨a2, n2, m2, a3, n3, m3, e, q1, q2⟩ := HB2.out.2.2
    have kp : Keep (fun b => w.heap.size < b) (fun b => w.heap.size < b) w2 (((w2.setCell ⟨w.heap.size, 0, none⟩ (.string S)).setCell ⟨w.heap.size, 1, none⟩ (.slice a n m)).setCell ⟨w.heap.size, 2, none⟩ (.slice a' n' m')) := fun b hb' _ => ⟨hb', by
      have hne : b ≠ w.heap.size := by have : w.heap.size < b := hb'; omega
      rw [Below.heap_setCell _ _ _ _ hne, Below.heap_setCell _ _ _ _ hne, Below.heap_setCell _ _ _ _ hne]⟩
    exact ⟨a2, n2, m2, a3, n3, m3, e, q1.carry kp, q2.carry kp (IsStates.carry kp 6)⟩
  | some x =>
    obtain ⟨cc, pl⟩ := x
    have HNE : Hid (checkC c ≠ none) := by rw [Hid, ho.out]; simp
    cases pl with
    | none =>
      have hc2 : Calls Tryz.prog 18 #[.agg #[.string S, .slice a n m, .slice a' n' m']] (w1.alloc (.cells #[.string S, .slice a n m, .slice a' n' m'] 35)) fun e w' => e = .returned (.iface 46 (.int .i64 ((cc : Nat) : Int))) ∧ Hid (Below W1.heap.size W1 w') := by
        rw [← HWE.out] at hck ⊢
        exact hck.mono fun e w' ⟨hb, ho⟩ => by
          rcases ho with ⟨he, _⟩ | ⟨c', he, h1⟩ | ⟨_, _, _, he, _⟩
          · simp at he
          · simp at he
            subst he
            exact ⟨h1, hb⟩
          · simp at he
      clear hck x0 x1 x2
      refine hc2.mono ?_
      rintro e w2 ⟨rfl, hb2⟩
      obtain ⟨k1, k2, k3, k4⟩ := HKW.out w2 hb2.out
      have f0 := cell_row k3 0 (u := .string ⟨#[]⟩) rfl
      have f1 := cell_row k3 1 (u := .slice none 0 0) rfl
      have f2 := cell_row k3 2 (u := .slice none 0 0) rfl
      have z0 := ck_frozen k3 0
      have z1 := ck_frozen k3 1
      have z2 := ck_frozen k3 2
      have HB2 : Hid (_ ∧ _) := ⟨k2, k3⟩
      clear k1 k2 k3 k4 hc2
      go_wp2_with fail
      refine bodyPost_ret (resultsQ _ _ w.heap.size #[.string ⟨#[]⟩, .slice none 0 0, .slice none 0 0] rfl rfl (put3 HB2.out.2 _ _ _)) rfl ?_
      exact .inr ⟨HNE.out, rfl, below_put3 HB2.out.1 (Nat.le_refl _) _ _ _⟩
    | some p =>
      have hc2 : Calls Tryz.prog 18 #[.agg #[.string S, .slice a n m, .slice a' n' m']] (w1.alloc (.cells #[.string S, .slice a n m, .slice a' n' m'] 35)) fun e w' => ∃ g, e = .returned (.iface 45 (.pointer (some ⟨g, 0, none⟩))) ∧ Hid (Below W1.heap.size W1 w') := by
        rw [← HWE.out] at hck ⊢
        exact hck.mono fun e w' ⟨hb, ho⟩ => by
          rcases ho with ⟨he, _⟩ | ⟨c', he, h1⟩ | ⟨c', p', g, he, h1, _⟩
          · simp at he
          · simp at he
          · exact ⟨g, h1, hb⟩
      clear hck x0 x1 x2
      refine hc2.mono ?_
      rintro e w2 ⟨ge, rfl, hb2⟩
      obtain ⟨k1, k2, k3, k4⟩ := HKW.out w2 hb2.out
      have f0 := cell_row k3 0 (u := .string ⟨#[]⟩) rfl
      have f1 := cell_row k3 1 (u := .slice none 0 0) rfl
      have f2 := cell_row k3 2 (u := .slice none 0 0) rfl
      have z0 := ck_frozen k3 0
      have z1 := ck_frozen k3 1
      have z2 := ck_frozen k3 2
      have HB2 : Hid (_ ∧ _) := ⟨k2, k3⟩
      clear k1 k2 k3 k4 hc2
      go_wp2_with fail
      refine bodyPost_ret (resultsQ _ _ w.heap.size #[.string ⟨#[]⟩, .slice none 0 0, .slice none 0 0] rfl rfl (put3 HB2.out.2 _ _ _)) rfl ?_
      exact .inr ⟨HNE.out, rfl, below_put3 HB2.out.1 (Nat.le_refl _) _ _ _⟩
set_option maxRecDepth 100000 in
set_option maxHeartbeats 2000000 in
/-- of a text that draws none, or is too long -/
theorem chart_none {s : ByteArray} {w : World} (hv : KEnv0 w) (hno : s.size ≤ 1500 → ∀ l c, ¬ (Lx.Ok (bs s) l ∧ chart (fin s l) = .ok c)) :
    Calls Tryz.prog 9 #[.string s] w fun e w' => e = .returned (.tuple #[.agg #[.string ⟨#[]⟩, .slice none 0 0, .slice none 0 0], .bool false]) ∧ Hid (Below w.heap.size w w') := by
  have hfz : (w.alloc (.cells #[.string ⟨#[]⟩, .slice none 0 0, .slice none 0 0] 35)).heap[w.heap.size]? = some (.cells #[.string ⟨#[]⟩, .slice none 0 0, .slice none 0 0] 35 (0, 0)) := ck_new _ _
  have f0 := cell_row hfz 0 (u := .string ⟨#[]⟩) rfl
  have f1 := cell_row hfz 1 (u := .slice none 0 0) rfl
  have f2 := cell_row hfz 2 (u := .slice none 0 0) rfl
  have z0 := ck_frozen hfz 0
  have z1 := ck_frozen hfz 1
  have z2 := ck_frozen hfz 2
  have HFZ : Hid _ := hfz
  by_cases hs : s.size ≤ 1500
  · have hs1 : ¬ (1500 : Int) < (s.size : Int) := by omega
    have hb0 : Below w.heap.size w (w.alloc (.cells #[.string ⟨#[]⟩, .slice none 0 0, .slice none 0 0] 35)) := ck_grown w _
    have hp : Calls Tryz.prog 17 #[.string s] (w.alloc (.cells #[.string ⟨#[]⟩, .slice none 0 0, .slice none 0 0] 35)) fun e w' => ∃ g, e = .returned (.tuple #[.agg #[.string ⟨#[]⟩, .slice none 0 0, .slice none 0 0], .iface 45 (.pointer (some ⟨g, 0, none⟩))]) ∧ Hid (Below (w.alloc (.cells #[.string ⟨#[]⟩, .slice none 0 0, .slice none 0 0] 35)).heap.size (w.alloc (.cells #[.string ⟨#[]⟩, .slice none 0 0, .slice none 0 0] 35)) w') := by
      have hv0 := hv.up hb0
      by_cases hl : ∃ l, Lx.Ok (bs s) l
      · obtain ⟨l, hok⟩ := hl
        cases hch : chart (fin s l) with
        | ok c => exact absurd ⟨hok, hch⟩ (hno hs l c)
        | error f => exact (parse_err s l f _ (by omega) hv0.big hv0.tabs hv0.marks hok hch).mono fun e w' ⟨g, he, _, hb⟩ => ⟨g, he, hb⟩
      · exact (parse_bad s _ (by omega) hv0.marks (fun l h => hl ⟨l, h⟩)).mono fun e w' ⟨_, _, g, he, _, _, hb⟩ => ⟨g, he, hb⟩
    clear hv hno hb0 hfz f0 f1 f2 z0 z1 z2
    go_enter Tryz.func9, Tryz.ntmps9
    go_wp2_with fail
    refine hp.mono ?_
    rintro e w1 ⟨g, rfl, hb1⟩
    have hfy : (w1.alloc (.cells #[.string ⟨#[]⟩, .slice none 0 0, .slice none 0 0] 35)).heap[w.heap.size]? = some (.cells #[.string ⟨#[]⟩, .slice none 0 0, .slice none 0 0] 35 (0, 0)) := ck_old (ck_block hb1.out HFZ.out)
    have f0 := cell_row hfy 0 (u := .string ⟨#[]⟩) rfl
    have f1 := cell_row hfy 1 (u := .slice none 0 0) rfl
    have f2 := cell_row hfy 2 (u := .slice none 0 0) rfl
    have z0 := ck_frozen hfy 0
    have z1 := ck_frozen hfy 1
    have z2 := ck_frozen hfy 2
    have HFY : Hid _ := hfy
    clear hfy hp
    go_wp2_with fail
    refine bodyPost_ret (resultsQ _ _ w.heap.size #[.string ⟨#[]⟩, .slice none 0 0, .slice none 0 0] rfl rfl (put3 HFY.out _ _ _)) rfl ?_
    exact ⟨rfl, below_put3 (ck_all (ck_all (ck_grown _ _) hb1.out) (ck_grown _ _)) (Nat.le_refl _) _ _ _⟩
  · have hs1 : (1500 : Int) < (s.size : Int) := by omega
    clear hv hno hs hfz
    go_enter Tryz.func9, Tryz.ntmps9
    go_wp2_with fail
    refine bodyPost_ret (resultsQ _ _ w.heap.size #[.string ⟨#[]⟩, .slice none 0 0, .slice none 0 0] rfl rfl HFZ.out) rfl ?_
    exact ⟨rfl, ck_grown _ _⟩
end Kx
end Go.Proofs.YtiihgnagjemikaaGreatDoor
/- A chart that a text draws, in memory. -/
namespace Go.Proofs.YtiihgnagjemikaaGreatDoor
open Go.RowKit Px
namespace Kx

/-- a chart in memory: its regions are so many -/
theorem chartLen {A : Nat → Prop} {w : World} {c : Chart} {S a a' : Value} (h : IsChart A w c (.agg #[S, a, a'])) : ∃ adr m, a' = .slice adr c.regions.length m := by
  obtain ⟨a0, n0, m0, a1, n1, m1, e, _, hR⟩ := h
  obtain ⟨adr, gr, capr, er, _⟩ := hR.len
  have : a' = .slice a1 n1 m1 := by
    injection e with e
    simp at e
    exact e.2.2
  exact ⟨adr, capr, by rw [this, er]⟩
theorem parseAt {s : ByteArray} {l : List Lx.Tok} {c : Chart} {w : World} (hs : s.size ≤ 1500) (hv : KEnv0 w) (hok : Lx.Ok (bs s) l) (hch : chart (fin s l) = .ok c) :
    Calls Tryz.prog 17 #[.string s] w fun e w' => ∃ S a n m a' n' m', e = .returned (.tuple #[.agg #[.string S, .slice a n m, .slice a' n' m'], .nilIface]) ∧ Hid (IsChart (fun _ => True) w' c (.agg #[.string S, .slice a n m, .slice a' n' m']) ∧ Below w.heap.size w w') :=
  (parse_ok s l c w (by omega) hv.big hv.tabs hv.marks hok hch).mono fun e w' ⟨v, he, hC, hb⟩ => by
    obtain ⟨a, n, m, a', n', m', rfl, h1, h2⟩ := hC
    have kp : Keep (Ge w.heap.size) (fun _ => True) w' w' := fun b _ _ => ⟨trivial, rfl⟩
    exact ⟨_, a, n, m, a', n', m', he, ⟨a, n, m, a', n', m', rfl, h1.carry kp, h2.carry kp (IsStates.carry kp 6)⟩, hb⟩
end Kx
end Go.Proofs.YtiihgnagjemikaaGreatDoor
