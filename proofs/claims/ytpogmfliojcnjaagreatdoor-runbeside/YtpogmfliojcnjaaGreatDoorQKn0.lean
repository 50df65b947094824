import Derived.Test.YtpogmfliojcnjaaGreatDoorQSplit
import Derived.Test.YtpogmfliojcnjaaGreatDoorQPone
import Derived.Test.YtpogmfliojcnjaaGreatDoorQPcatch2
import Derived.Test.YtpogmfliojcnjaaGreatDoorQCc
namespace Go.Proofs.YtpogmfliojcnjaaGreatDoor
open Go.RowKit Px
theorem cells_at (L : List Lx.Tok) : ∀ (i : Nat) (t : Lx.Tok), L[i]? = some t → (cells L)[i * 3]? = some (.int .i64 t.kind) ∧ (cells L)[i * 3 + 1]? = some (.string ⟨t.text.toArray⟩) ∧ (cells L)[i * 3 + 2]? = some (.int .i64 t.place) := by
 induction L with
 | nil => intro i t h; simp at h
 | cons x r ih =>
  intro i t h
  have e : cells (x :: r) = .int .i64 x.kind :: .string ⟨x.text.toArray⟩ :: .int .i64 x.place :: cells r := rfl
  rw [e]
  cases i with
  | zero => simp at h; subst h; simp
  | succ i =>
   have := ih i t (by simpa using h)
   have e1 : (i + 1) * 3 = i * 3 + 1 + 1 + 1 := by omega
   have e2 : (i + 1) * 3 + 1 = i * 3 + 1 + 1 + 1 + 1 := by omega
   have e3 : (i + 1) * 3 + 2 = i * 3 + 2 + 1 + 1 + 1 := by omega
   rw [e2, e3, e1]
   simpa using this
theorem toks_read {w : World} {B E n : Nat} {v : Value} {L : List Lx.Tok} (hn : n = L.length) (h0 : 0 < n) (h : w.ownsRow B E 3 v n (cells L)) :
    ∃ g cap, v = .slice (some ⟨g, 0, none⟩) n cap ∧ B ≤ g ∧ g < w.heap.size ∧ ∀ i t, L[i]? = some t → w.cell? ⟨g, i * 3, none⟩ = some (.int .i64 t.kind) ∧ w.cell? ⟨g, i * 3 + 1, none⟩ = some (.string ⟨t.text.toArray⟩) ∧ w.cell? ⟨g, i * 3 + 2, none⟩ = some (.int .i64 t.place) := by
 have hc := fun g hg => World.ownsRow.cells h (g := g) hg
 have hl := fun g hg => World.ownsRow.lt h g hg
 rcases h.2 with ⟨_, rfl⟩ | ⟨g, cap, cur, rfl, hg, _⟩
 ·omega
 ·refine ⟨g, cap, rfl, hg, (hl g rfl).2, fun i t ht => ?_⟩
  obtain ⟨a, b, c⟩ := cells_at L i t ht
  have ad : ∀ j, (⟨g, 0, none⟩ : Addr).add j = ⟨g, j, none⟩ := fun j => by unfold Addr.add; split <;> simp_all
  have h1 := hc g rfl _ _ a
  have h2 := hc g rfl _ _ b
  have h3 := hc g rfl _ _ c
  rw [ad] at h1 h2 h3
  exact ⟨h1, h2, h3⟩
theorem below_drewN {B : Nat} {a w : World} (h : Below B a w) (n : Nat) : Below B a (w.drewN n) := h.trans ⟨rfl, rfl, rfl, Nat.le_refl _, fun _ _ => rfl⟩
def fin (s : ByteArray) (l : List Lx.Tok) : List Lx.Tok := l ++ [⟨4, [], s.size⟩]
theorem fin_len (s : ByteArray) (l : List Lx.Tok) : (fin s l).length = l.length + 1 := by simp [fin]
theorem split_ok (s : ByteArray) (l : List Lx.Tok) (N : Nat) (hN : N = l.length + 1) (w : World) (hs : s.size ≤ 1000000) (hm : Marks w) (hok : Lx.Ok (bs s) l) :
    Calls Tryz.prog 53 #[.string s] w fun e w' => ∃ g cap, e = .returned (.tuple #[.slice (some ⟨g, 0, none⟩) N cap, .nilIface]) ∧ Below w.heap.size w w' ∧ w.heap.size ≤ g ∧ g < w'.heap.size ∧
     ∀ i t, (fin s l)[i]? = some t → w'.cell? ⟨g, i * 3, none⟩ = some (.int .i64 t.kind) ∧ w'.cell? ⟨g, i * 3 + 1, none⟩ = some (.string ⟨t.text.toArray⟩) ∧ w'.cell? ⟨g, i * 3 + 2, none⟩ = some (.int .i64 t.place) := by
 refine (split_any s w hs hm).mono ?_
 rintro e w' ⟨v, err, rfl, hb, ⟨l', hok', rfl, hown⟩ | ⟨e, q, g, hbad, _⟩⟩
 ·obtain rfl := Lx.Ok_Ok hok hok'
  rw [← hN] at hown
  obtain ⟨g, cap, rfl, h1, h2, h3⟩ := toks_read (L := fin s l) (by rw [hN, fin_len]) (by omega) hown
  exact ⟨g, cap, rfl, hb, h1, h2, h3⟩
 ·exact (Lx.Ok_Bad hok hbad).elim
theorem split_bad (s : ByteArray) (w : World) (hs : s.size ≤ 1000000) (hm : Marks w) (hno : ∀ l, ¬ Lx.Ok (bs s) l) :
    Calls Tryz.prog 53 #[.string s] w fun e w' => ∃ ev q g : Nat, e = .returned (.tuple #[.slice none 0 0, .iface 110 (.pointer (some ⟨g, 0, none⟩))]) ∧ Below w.heap.size w w' ∧ Lx.Bad (bs s) ev q ∧ w'.heap[g]? = some (.cells #[.int .i64 ev, .int .i64 q] 125 (0, 0)) := by
 refine (split_any s w hs hm).mono ?_
 rintro e w' ⟨v, err, rfl, hb, ⟨l', hok', rfl, hown⟩ | ⟨e, q, g, hbad, _, rfl, rfl, _, hh⟩⟩
 ·exact (hno l' hok').elim
 ·exact ⟨e, q, g, rfl, hb, hbad, hh⟩
theorem mem_wh {p : UInt8 → Bool} : ∀ (u : List UInt8) (c : UInt8), c ∈ u.take (Lx.wh p u) → p c = true
 | [], c, h => by simp at h
 | x :: r, c, h => by
  unfold Lx.wh at h
  rw [List.takeWhile_cons] at h
  split at h
  ·next hx =>
   simp only [List.length_cons, List.take_succ_cons, List.mem_cons] at h
   rcases h with rfl | h
   ·exact hx
   ·exact mem_wh r c h
  ·simp at h
theorem rd_two {u : List UInt8} (h : (Lx.rd u).1 = 2) : (∀ c ∈ u.take (Lx.rd u).2, 48 ≤ c.toNat ∧ c.toNat ≤ 57) ∧ u.take (Lx.rd u).2 ≠ [] := by
 cases u with
 | nil => simp [Lx.rd] at h
 | cons c r =>
  have hc : Lx.digit c = true := by
   rw [Lx.rd_cons] at h
   by_cases hc : Lx.digit c = true
   ·exact hc
   ·rw [if_neg hc] at h
    by_cases hw : Lx.word c = true
    ·rw [if_pos hw] at h; simp at h
    ·rw [if_neg hw] at h
     by_cases hm : Lx.mk (c :: r) = 0
     ·rw [if_pos hm] at h; simp at h
     ·rw [if_neg hm] at h; simp at h
  have e : (Lx.rd (c :: r)).2 = Lx.wh Lx.digit (c :: r) := by rw [Lx.rd_cons, if_pos hc]
  rw [e]
  refine ⟨fun d hd => ?_, ?_⟩
  ·have := mem_wh _ _ hd; simpa [Lx.digit] using this
  ·simp [Lx.wh, hc]
theorem reads_each {l : List Lx.Tok} : ∀ {u : List UInt8} {p : Nat} {u1 : List UInt8} {p1 : Nat}, Lx.Reads u p l u1 p1 → ∀ t ∈ l, t.kind ≤ 3 ∧ t.kind ≠ 0 ∧ (t.kind = 2 → (∀ c ∈ t.text, 48 ≤ c.toNat ∧ c.toNat ≤ 57) ∧ t.text.length ≤ 18 ∧ t.text ≠ []) := by
 induction l with
 | nil => intro _ _ _ _ _ t ht; simp at ht
 | cons x r ih =>
  intro u p u1 p1 h t ht
  obtain ⟨a, b, c, d, e⟩ := h
  rcases List.mem_cons.1 ht with rfl | ht
  ·subst b
   refine ⟨Lx.rd_kind _, c, fun h2 => ?_⟩
   have h2' : (Lx.rd (u.drop (Lx.sk false u))).1 = 2 := h2
   refine ⟨(rd_two h2').1, ?_, (rd_two h2').2⟩
   have : (Lx.rd (u.drop (Lx.sk false u))).2 ≤ 18 := Nat.le_of_not_lt fun hl => d ⟨h2', hl⟩
   simp only [List.length_take]; omega
  ·exact ih e t ht
theorem fin_get (s : ByteArray) (l : List Lx.Tok) (k : Nat) : (k < l.length ∧ Px.tok (fin s l) k ∈ l) ∨ (k = l.length ∧ Px.tok (fin s l) k = ⟨4, [], s.size⟩) ∨ (l.length < k ∧ (fin s l)[k]? = none) := by
 rcases Nat.lt_trichotomy k l.length with h | h | h
 ·refine .inl ⟨h, ?_⟩
  simp [Px.tok, fin, List.getD_eq_getElem?_getD, List.getElem?_append_left h, List.getElem?_eq_getElem h]
 ·refine .inr (.inl ⟨h, ?_⟩)
  subst h; simp [Px.tok, fin, List.getD_eq_getElem?_getD]
 ·refine .inr (.inr ⟨h, ?_⟩)
  simp [fin]; omega
theorem tok_none {L : List Lx.Tok} {k : Nat} (h : L[k]? = none) : Px.tok L k = ⟨4, [], 0⟩ := by
 simp [Px.tok, List.getD_eq_getElem?_getD, h]
theorem wf_ok {s : ByteArray} {l : List Lx.Tok} (h : Lx.Ok (bs s) l) : Wf (fin s l) := by
 obtain ⟨hn, u, p, hr, _⟩ := h
 have he := reads_each hr
 have hl : Px.tok (fin s l) ((fin s l).length - 1) = ⟨4, [], s.size⟩ := by
  rcases fin_get s l ((fin s l).length - 1) with h | h | h
  ·have := fin_len s l; omega
  ·exact h.2
  ·have := fin_len s l; omega
 refine ⟨by rw [fin_len]; omega, by rw [fin_len]; omega, by rw [kd, hl], by rw [tx, hl], fun k hk => ?_⟩
 rcases fin_get s l k with h | h | h
 ·exact (he _ h.2).2.2 hk
 ·rw [kd, h.2] at hk; simp at hk
 ·rw [kd, tok_none h.2] at hk; simp at hk
end Go.Proofs.YtpogmfliojcnjaaGreatDoor
namespace Go.Proofs.YtpogmfliojcnjaaGreatDoor
open Go.RowKit Px
theorem parse_open (w : World) : ∃ W, W = (w.alloc (.cells ZC 28)).alloc (.cells #[.nilIface] 37) ∧ Below w.heap.size w W ∧ W.heap.size = w.heap.size + 2 ∧ W.heap[w.heap.size]? = some (.cells ZC 28 (0, 0)) ∧ W.heap[w.heap.size + 1]? = some (.cells #[.nilIface] 37 (0, 0)) := by
 refine ⟨_, rfl, ((Below.refl _ w).alloc (Nat.le_refl _) _).alloc (by simp) _, by simp, ?_, ?_⟩
 ·have := heap_alloc_new w (.cells ZC 28)
  rw [heap_alloc_old _ _ (by simp)]; exact this
 ·have := heap_alloc_new (w.alloc (.cells ZC 28)) (.cells #[.nilIface] 37)
  simpa using this
theorem load44 {W : World} {g : Nat} {v : Value} (hg : W.heap[g]? = some (.cells #[v] 37 (0, 0))) : (loadVar 37 ⟨g, 0, none⟩).run Tryz.prog W = .ok v W := by
 have hc : W.cell? ⟨g, 0, none⟩ = some v := by rw [cell_of_row _ _ _ _ _ _ hg]; rfl
 simp [go_sem, hc]
theorem resultsP (tmps : Array Value) (W : World) (c e : Nat) (fc : Array Value) (v : Value) (hsz : fc.size = 3) (hp : tmps[2]?.getD undef = .pointer (some ⟨c, 0, none⟩)) (hq : tmps[3]?.getD undef = .pointer (some ⟨e, 0, none⟩)) (hc : W.heap[c]? = some (.cells fc 28 (0, 0))) (he : W.heap[e]? = some (.cells #[v] 37 (0, 0))) :
    (results Tryz.f28 tmps).run Tryz.prog W = .ok (.tuple #[.agg fc, v]) W := by
 simp [results, Tryz.results28, hp, hq, asAddr, load25 hsz hc, load44 he]
theorem laid_set {w2 : World} {c e : Nat} {a b d v v' : Value} (hc : w2.heap[c]? = some (.cells ZC 28 (0, 0))) (he : w2.heap[e]? = some (.cells #[v'] 37 (0, 0))) (hne : c ≠ e) :
    ((((w2.setCell ⟨c, 0, none⟩ a).setCell ⟨c, 1, none⟩ b).setCell ⟨c, 2, none⟩ d).setCell ⟨e, 0, none⟩ v).heap[c]? = some (.cells #[a, b, d] 28 (0, 0)) ∧
    ((((w2.setCell ⟨c, 0, none⟩ a).setCell ⟨c, 1, none⟩ b).setCell ⟨c, 2, none⟩ d).setCell ⟨e, 0, none⟩ v).heap[e]? = some (.cells #[v] 37 (0, 0)) ∧
    (∀ k, k ≠ c → k ≠ e → ((((w2.setCell ⟨c, 0, none⟩ a).setCell ⟨c, 1, none⟩ b).setCell ⟨c, 2, none⟩ d).setCell ⟨e, 0, none⟩ v).heap[k]? = w2.heap[k]?) ∧
    (∀ B a0, Below B a0 w2 → B ≤ c → B ≤ e → Below B a0 ((((w2.setCell ⟨c, 0, none⟩ a).setCell ⟨c, 1, none⟩ b).setCell ⟨c, 2, none⟩ d).setCell ⟨e, 0, none⟩ v)) := by
 have h0 := heap_setCell_same w2 c 0 _ _ a hc
 have h1 := heap_setCell_same _ c 1 _ _ b h0
 have h2 := heap_setCell_same _ c 2 _ _ d h1
 have k0 : (((w2.setCell ⟨c, 0, none⟩ a).setCell ⟨c, 1, none⟩ b).setCell ⟨c, 2, none⟩ d).heap[e]? = some (.cells #[v'] 37 (0, 0)) := by
  rw [heap_setCell_other _ _ _ _ (by simpa using hne.symm), heap_setCell_other _ _ _ _ (by simpa using hne.symm), heap_setCell_other _ _ _ _ (by simpa using hne.symm)]; exact he
 refine ⟨?_, ?_, fun k hkc hke => ?_, fun B _ hb hBc hBe => ?_⟩
 ·rw [heap_setCell_other _ _ _ _ (by simpa using hne)]; exact h2
 ·exact heap_setCell_same _ e 0 _ _ v k0
 ·rw [heap_setCell_other _ _ _ _ (by simpa using hke), heap_setCell_other _ _ _ _ (by simpa using hkc), heap_setCell_other _ _ _ _ (by simpa using hkc), heap_setCell_other _ _ _ _ (by simpa using hkc)]
 ·exact (((hb.setCell (by simpa using hBc) _).setCell (by simpa using hBc) _).setCell (by simpa using hBc) _).setCell (by simpa using hBe) _
theorem parse_ps {s : ByteArray} {l : List Lx.Tok} {w W0 w1 : World} {g cap : Nat} (hG : 13 ≤ w.heap.size) (ht : Tabs w) (hok : Lx.Ok (bs s) l) (hb0 : Below w.heap.size w W0) (hz0 : W0.heap.size = w.heap.size + 2) (hb1 : Below W0.heap.size W0 w1) (hg0 : W0.heap.size ≤ g) (hg1 : g < w1.heap.size)
    (hg : ∀ i t, (fin s l)[i]? = some t → w1.cell? ⟨g, i * 3, none⟩ = some (.int .i64 t.kind) ∧ w1.cell? ⟨g, i * 3 + 1, none⟩ = some (.string ⟨t.text.toArray⟩) ∧ w1.cell? ⟨g, i * 3 + 2, none⟩ = some (.int .i64 t.place))
    (c1 : w1.heap[w.heap.size]? = some (.cells ZC 28 (0, 0))) (e1 : w1.heap[w.heap.size + 1]? = some (.cells #[.nilIface] 37 (0, 0))) :
    ∃ W2, W2 = (w1.setCell ⟨w.heap.size + 1, 0, none⟩ .nilIface).alloc (.cells #[.slice (some ⟨g, 0, none⟩) (l.length + 1) cap, .int .i64 0, .int .i64 0, .int .i64 0, .int .i64 0] 113) ∧
     PS ⟨w1.heap.size, g, cap, fin s l⟩ W2 0 0 0 0 ∧ Below w.heap.size w W2 ∧ W2.heap[w.heap.size]? = some (.cells ZC 28 (0, 0)) ∧ W2.heap[w.heap.size + 1]? = some (.cells #[.nilIface] 37 (0, 0)) ∧ W2.heap.size = w1.heap.size + 1 := by
 have hs1 := hb1.size
 have hB1 : Below w.heap.size w w1 := hb0.trans (hb1.mono hb0.size)
 have hB2 : Below w.heap.size w (w1.setCell ⟨w.heap.size + 1, 0, none⟩ .nilIface) := hB1.setCell (by simp) _
 have hz2 : (w1.setCell ⟨w.heap.size + 1, 0, none⟩ .nilIface).heap.size = w1.heap.size := by simp
 have old : ∀ k, k < w1.heap.size → k ≠ w.heap.size + 1 → ((w1.setCell ⟨w.heap.size + 1, 0, none⟩ .nilIface).alloc (.cells #[.slice (some ⟨g, 0, none⟩) (l.length + 1) cap, .int .i64 0, .int .i64 0, .int .i64 0, .int .i64 0] 113)).heap[k]? = w1.heap[k]? := fun k hk hn => by
  rw [heap_alloc_old _ _ (by rw [hz2]; exact hk), heap_setCell_other _ _ _ _ (by simpa using hn)]
 have hwf := wf_ok hok
 refine ⟨_, rfl, ⟨?_, fun k t hk => ?_, ?_, hwf.pos, hwf, hg1, ?_⟩, hB2.alloc hB2.size _, ?_, ?_, by simp⟩
 ·have := heap_alloc_new (w1.setCell ⟨w.heap.size + 1, 0, none⟩ .nilIface) (.cells #[.slice (some ⟨g, 0, none⟩) (l.length + 1) cap, .int .i64 0, .int .i64 0, .int .i64 0, .int .i64 0] 113)
  rw [hz2] at this
  rw [rdC, fin_len]; exact this
 ·have hb := old g hg1 (by omega)
  have := hg k t hk
  rw [World.cell?_of_block (w := w1) (a := ⟨g, k * 3, none⟩) hb, World.cell?_of_block (w := w1) (a := ⟨g, k * 3 + 1, none⟩) hb, World.cell?_of_block (w := w1) (a := ⟨g, k * 3 + 2, none⟩) hb]
  exact this
 ·exact ht.keep (fun b hb => (hB2.alloc hB2.size _).block b (by omega))
 ·show 13 < g; omega
 ·rw [old _ (by omega) (by omega)]; exact c1
 ·rw [heap_alloc_old _ _ (by rw [hz2]; omega)]; exact heap_setCell_same w1 _ 0 _ _ .nilIface e1
set_option maxRecDepth 100000 in
set_option maxHeartbeats 2000000 in
theorem parse_bad (s : ByteArray) (w : World) (hs : s.size ≤ 1000000) (hm : Marks w) (hno : ∀ l, ¬ Lx.Ok (bs s) l) :
    Calls Tryz.prog 28 #[.string s] w fun e w' => ∃ ev q g : Nat, e = .returned (.tuple #[.agg ZC, .iface 110 (.pointer (some ⟨g, 0, none⟩))]) ∧ Lx.Bad (bs s) ev q ∧ w'.heap[g]? = some (.cells #[.int .i64 ev, .int .i64 q] 125 (0, 0)) ∧ Below w.heap.size w w' := by
 have HN : Hid (∀ l, ¬ Lx.Ok (bs s) l) := hno
 clear hno
 have hmf : ∀ (fn : Fn) (first cap : Array Value) (w : World), (Instr.makeFunc fn first cap).run Tryz.prog w = .ok (.func fn first cap) w := fun _ _ _ _ => rfl
 obtain ⟨W0, hW, hb0, hz0, c0, e0⟩ := parse_open w
 have hm0 := hm.below (Nat.le_refl _) hb0
 go_enter_defers Tryz.func28, Tryz.ntmps28
 go_upto_region 1 with fail
 rw [show (w.alloc (.cells #[.string ⟨#[]⟩, .slice none 0 0, .slice none 0 0] 28)).alloc (.cells #[.nilIface] 37) = W0 from hW.symm]
 clear hW
 go_wp2_with (go_at_call 53; refine (split_bad s _ hs hm0 HN.out).mono ?_; rintro e w1 ⟨ev, q, g, rfl, hb1, hbad, hg⟩; have c1 := (hb1.block _ (by omega)).trans c0; have e1 := (hb1.block _ (by omega)).trans e0; obtain ⟨-, e1c⟩ : True ∧ w1.cell? ⟨w.heap.size + 1, 0, none⟩ = some .nilIface := ⟨trivial, by rw [cell_of_row _ _ _ _ _ _ e1]; rfl⟩; have e1z : w1.frozen? ⟨w.heap.size + 1, 0, none⟩ = false := by simp [World.frozen?, e1])
 have hb2 : Below w.heap.size w (w1.setCell ⟨w.heap.size + 1, 0, none⟩ (.iface 110 (.pointer (some ⟨g, 0, none⟩)))) := (hb0.trans (hb1.mono hb0.size)).setCell (by simp) _
 have c2 : (w1.setCell ⟨w.heap.size + 1, 0, none⟩ (.iface 110 (.pointer (some ⟨g, 0, none⟩)))).heap[w.heap.size]? = some (.cells ZC 28 (0, 0)) := by
  rw [heap_setCell_other w1 _ _ _ (by simp)]; exact c1
 have e2 := heap_setCell_same w1 (w.heap.size + 1) 0 _ 37 (.iface 110 (.pointer (some ⟨g, 0, none⟩))) e1
 have hne : g ≠ w.heap.size + 1 := by rintro rfl; rw [e1] at hg; simp at hg
 have hne' : g ≠ w.heap.size := by rintro rfl; rw [c1] at hg; simp [ZC] at hg
 have g2 : (w1.setCell ⟨w.heap.size + 1, 0, none⟩ (.iface 110 (.pointer (some ⟨g, 0, none⟩)))).heap[g]? = some (.cells #[.int .i64 ev, .int .i64 q] 125 (0, 0)) := by
  rw [heap_setCell_other w1 _ _ _ hne]; exact hg
 generalize (w1.setCell ⟨w.heap.size + 1, 0, none⟩ (.iface 110 (.pointer (some ⟨g, 0, none⟩)))) = w2 at hb2 c2 e2 g2 ⊢
 have f0 : w2.cell? ⟨w.heap.size, 0, none⟩ = some (.string ⟨#[]⟩) := by rw [cell_of_row _ _ _ _ _ _ c2]; rfl
 have f1 : w2.cell? ⟨w.heap.size, 1, none⟩ = some (.slice none 0 0) := by rw [cell_of_row _ _ _ _ _ _ c2]; rfl
 have f2 : w2.cell? ⟨w.heap.size, 2, none⟩ = some (.slice none 0 0) := by rw [cell_of_row _ _ _ _ _ _ c2]; rfl
 have fz : ∀ o, w2.frozen? ⟨w.heap.size, o, none⟩ = false := fun o => by simp [World.frozen?, c2]
 have fe : w2.cell? ⟨w.heap.size + 1, 0, none⟩ = some (.iface 110 (.pointer (some ⟨g, 0, none⟩))) := by rw [cell_of_row _ _ _ _ _ _ e2]; rfl
 have fy : w2.frozen? ⟨w.heap.size + 1, 0, none⟩ = false := by simp [World.frozen?, e2]
 obtain ⟨z0, z1, z2, z3⟩ := laid_set (a := .string ⟨#[]⟩) (b := .slice none 0 0) (d := .slice none 0 0) (v := .iface 110 (.pointer (some ⟨g, 0, none⟩))) c2 e2 (by omega)
 go_region
 go_wp2
 exact ⟨_, resultsP _ _ _ _ _ _ rfl rfl rfl z0 z1, _, _, _, rfl, hbad, (z2 g hne' hne).trans g2, (z3 _ _ hb2 (Nat.le_refl _) (by omega)).drew⟩
set_option maxRecDepth 100000 in
set_option maxHeartbeats 2000000 in
theorem parse_err (s : ByteArray) (l : List Lx.Tok) (f : F) (w : World) (hs : s.size ≤ 1000000) (hG : 13 ≤ w.heap.size) (ht : Tabs w) (hm : Marks w) (hok : Lx.Ok (bs s) l) (hch : chart (fin s l) = .error f) :
    Calls Tryz.prog 28 #[.string s] w fun e w' => ∃ q : Nat, e = .returned (.tuple #[.agg ZC, .iface 110 (.pointer (some ⟨q, 0, none⟩))]) ∧ w'.heap[q]? = some (.cells #[.int .i64 f.1, .int .i64 f.2] 125 (0, 0)) ∧ Below w.heap.size w w' := by
 have HN : Hid (Lx.Ok (bs s) l) := hok
 have HC : Hid (chart (fin s l) = .error f) := hch
 clear hok hch
 have hmf : ∀ (fn : Fn) (first cap : Array Value) (w : World), (Instr.makeFunc fn first cap).run Tryz.prog w = .ok (.func fn first cap) w := fun _ _ _ _ => rfl
 obtain ⟨W0, hW, hb0, hz0, c0, e0⟩ := parse_open w
 have hm0 := hm.below (Nat.le_refl _) hb0
 go_enter_defers Tryz.func28, Tryz.ntmps28
 go_upto_region 1 with fail
 rw [show (w.alloc (.cells #[.string ⟨#[]⟩, .slice none 0 0, .slice none 0 0] 28)).alloc (.cells #[.nilIface] 37) = W0 from hW.symm]
 clear hW
 go_wp2_with (first
  | (go_at_call 53; refine (split_ok s l _ rfl _ hs hm0 HN.out).mono ?_; rintro e w1 ⟨g, cap, rfl, hb1, hg0, hg1, hg⟩; have c1 := (hb1.block _ (by omega)).trans c0; have e1 := (hb1.block _ (by omega)).trans e0; obtain ⟨-, e1c⟩ : True ∧ w1.cell? ⟨w.heap.size + 1, 0, none⟩ = some .nilIface := ⟨trivial, by rw [cell_of_row _ _ _ _ _ _ e1]; rfl⟩; have e1z : w1.frozen? ⟨w.heap.size + 1, 0, none⟩ = false := (by simp [World.frozen?, e1]); obtain ⟨W2, hW2, hps, hbW, cW, eW, hzW⟩ := parse_ps (cap := cap) hG ht HN.out hb0 hz0 hb1 hg0 hg1 hg c1 e1; have HW2 : Hid _ := hW2; clear hW2)
  | (go_at_call 55; rw [show (w1.setCell ⟨w.heap.size + 1, 0, none⟩ .nilIface).alloc (.cells #[.slice (some ⟨g, 0, none⟩) (l.length + 1) cap, .int .i64 0, .int .i64 0, .int .i64 0, .int .i64 0] 113) = W2 from HW2.out.symm]; refine (chart_any hps).mono ?_; rintro e w3 h3; rw [show chart (⟨w1.heap.size, g, cap, fin s l⟩ : Ctx).L = _ from HC.out] at h3; obtain ⟨q, rfl, hq, hge, hfr⟩ : Thrown ⟨w1.heap.size, g, cap, fin s l⟩ W2 f e w3 := h3))
 have hs1 := hb1.size
 have c3 := (hfr.block _ (by omega) (by simp; omega)).trans cW
 have e3 := (hfr.block _ (by omega) (by simp; omega)).trans eW
 have hB3 : Below w.heap.size w w3 := hbW.trans (Fr.below (hfr.mono (by omega) (by simp; omega)))
 obtain ⟨z0, z1, z2, z3⟩ := laid_set (a := .string ⟨#[]⟩) (b := .slice none 0 0) (d := .slice none 0 0) (v := .iface 110 (.pointer (some ⟨q, 0, none⟩))) c3 e3 (by omega)
 refine leaves_cons (f := 54) (args := #[.pointer (some ⟨w.heap.size, 0, none⟩), .pointer (some ⟨w.heap.size + 1, 0, none⟩)]) (by simp) (by simp [go_sem]) ?_
 refine (catch_thrown w.heap.size (w.heap.size + 1) q w3 [] (by rw [cell_of_row _ _ _ _ _ _ c3]; rfl) (by rw [cell_of_row _ _ _ _ _ _ c3]; rfl) (by rw [cell_of_row _ _ _ _ _ _ c3]; rfl) (fun o => by simp [World.frozen?, c3]) (by rw [cell_of_row _ _ _ _ _ _ e3]; rfl) (by simp [World.frozen?, e3]) (by omega)).mono ?_
 rintro e u' w'' ⟨rfl, rfl, rfl⟩
 exact ⟨_, resultsP _ _ _ _ _ _ rfl rfl rfl z0 z1, q, rfl, (z2 q (by omega) (by omega)).trans hq, z3 _ _ hB3 (Nat.le_refl _) (by omega)⟩
set_option maxRecDepth 100000 in
set_option maxHeartbeats 2000000 in
theorem parse_ok (s : ByteArray) (l : List Lx.Tok) (c : Chart) (w : World) (hs : s.size ≤ 1000000) (hG : 13 ≤ w.heap.size) (ht : Tabs w) (hm : Marks w) (hok : Lx.Ok (bs s) l) (hch : chart (fin s l) = .ok c) :
    Calls Tryz.prog 28 #[.string s] w fun e w' => ∃ v, e = .returned (.tuple #[v, .nilIface]) ∧ IsChart (Ge w.heap.size) w' c v ∧ Below w.heap.size w w' := by
 have HN : Hid (Lx.Ok (bs s) l) := hok
 have HC : Hid (chart (fin s l) = .ok c) := hch
 clear hok hch
 have hmf : ∀ (fn : Fn) (first cap : Array Value) (w : World), (Instr.makeFunc fn first cap).run Tryz.prog w = .ok (.func fn first cap) w := fun _ _ _ _ => rfl
 obtain ⟨W0, hW, hb0, hz0, c0, e0⟩ := parse_open w
 have hm0 := hm.below (Nat.le_refl _) hb0
 go_enter_defers Tryz.func28, Tryz.ntmps28
 go_upto_region 1 with fail
 rw [show (w.alloc (.cells #[.string ⟨#[]⟩, .slice none 0 0, .slice none 0 0] 28)).alloc (.cells #[.nilIface] 37) = W0 from hW.symm]
 clear hW
 go_wp2_with (first
  | (go_at_call 53; refine (split_ok s l _ rfl _ hs hm0 HN.out).mono ?_; rintro e w1 ⟨g, cap, rfl, hb1, hg0, hg1, hg⟩; have c1 := (hb1.block _ (by omega)).trans c0; have e1 := (hb1.block _ (by omega)).trans e0; obtain ⟨-, e1c⟩ : True ∧ w1.cell? ⟨w.heap.size + 1, 0, none⟩ = some .nilIface := ⟨trivial, by rw [cell_of_row _ _ _ _ _ _ e1]; rfl⟩; have e1z : w1.frozen? ⟨w.heap.size + 1, 0, none⟩ = false := (by simp [World.frozen?, e1]); obtain ⟨W2, hW2, hps, hbW, cW, eW, hzW⟩ := parse_ps (cap := cap) hG ht HN.out hb0 hz0 hb1 hg0 hg1 hg c1 e1; have HW2 : Hid _ := hW2; clear hW2)
  | (go_at_call 55; rw [show (w1.setCell ⟨w.heap.size + 1, 0, none⟩ .nilIface).alloc (.cells #[.slice (some ⟨g, 0, none⟩) (l.length + 1) cap, .int .i64 0, .int .i64 0, .int .i64 0, .int .i64 0] 113) = W2 from HW2.out.symm]; refine (chart_any hps).mono ?_; rintro e w3 h3; rw [show chart (⟨w1.heap.size, g, cap, fin s l⟩ : Ctx).L = _ from HC.out] at h3; obtain ⟨v, rfl, ⟨a1, n1, m1, a2, n2, m2, rfl, d1, d2⟩, hfr⟩ := h3; have hs1 := hb1.size; have c3 := (hfr.block w.heap.size (by omega) (by simp; omega)).trans cW; have e3 := (hfr.block (w.heap.size + 1) (by omega) (by simp; omega)).trans eW; have f0 : w3.cell? ⟨w.heap.size, 0, none⟩ = some (.string ⟨#[]⟩) := by rw [cell_of_row _ _ _ _ _ _ c3]; rfl
     have f1 : w3.cell? ⟨w.heap.size, 1, none⟩ = some (.slice none 0 0) := by rw [cell_of_row _ _ _ _ _ _ c3]; rfl
     have f2 : w3.cell? ⟨w.heap.size, 2, none⟩ = some (.slice none 0 0) := by rw [cell_of_row _ _ _ _ _ _ c3]; rfl
     have fz : ∀ o, w3.frozen? ⟨w.heap.size, o, none⟩ = false := fun o => by simp [World.frozen?, c3]
     have fe : w3.cell? ⟨w.heap.size + 1, 0, none⟩ = some .nilIface := by rw [cell_of_row _ _ _ _ _ _ e3]; rfl
     have fy : w3.frozen? ⟨w.heap.size + 1, 0, none⟩ = false := by simp [World.frozen?, e3]
     rw [sv]))
 have hB3 : Below w.heap.size w w3 := hbW.trans (Fr.below (hfr.mono (by omega) (by simp; omega)))
 obtain ⟨z0, z1, z2, z3⟩ := laid_set (a := .string ⟨c.name.toArray⟩) (b := .slice a1 n1 m1) (d := .slice a2 n2 m2) (v := .nilIface) c3 e3 (by omega)
 refine leaves_cons (f := 54) (args := #[.pointer (some ⟨w.heap.size, 0, none⟩), .pointer (some ⟨w.heap.size + 1, 0, none⟩)]) (by simp) (by simp [go_sem]) ?_
 refine (catch_idle ⟨w.heap.size, 0, none⟩ ⟨w.heap.size + 1, 0, none⟩ _).mono ?_
 rintro e u' w'' ⟨rfl, rfl, rfl⟩
 have kp : Keep (Ge W2.heap.size) (Ge w.heap.size) w3 _ := fun b hb hlt => ⟨by simp [Ge] at *; omega, z2 b (by simp [Ge] at hb; omega) (by simp [Ge] at hb; omega)⟩
 exact ⟨_, resultsP _ _ _ _ _ _ rfl rfl rfl z0 z1, _, rfl, ⟨a1, n1, m1, a2, n2, m2, rfl, d1.carry kp, d2.carry kp (IsStates.carry kp 6)⟩, z3 _ _ hB3 (Nat.le_refl _) (by omega)⟩
end Go.Proofs.YtpogmfliojcnjaaGreatDoor
namespace Go.Proofs.YtpogmfliojcnjaaGreatDoor
open Go.RowKit Px
namespace Kx
theorem nmE {e : E} (h : Sh.TE e) : NmOk e := by
 induction e with
 | nil => trivial
 | node b o a l r ihl ihr =>
  obtain ⟨h1, h2, h3, h4, _, h5, h6⟩ := h
  exact ⟨by unfold maxLen; omega, ihl h5, ihr h6⟩
theorem nmS {l : List Asg} (h : Sh.TS l) : NmSets l := fun a ha => ⟨by have := (h a ha).2; unfold maxLen; omega, nmE (h a ha).1⟩
theorem sumGe {α : Type} (f : α → Nat) (hf : ∀ a, 1 ≤ f a) (l : List α) : l.length ≤ Sh.sumW f l := by
 induction l with
 | nil => simp
 | cons a r ih => rw [Sh.sumW, List.length_cons]; have := hf a; omega
theorem nmSt : ∀ (k : Nat) (x : St k), Sh.TSt k x → Sh.wSt k x ≤ 601 → NmSt k x := by
 intro k
 induction k with
 | zero => intro x _ _; trivial
 | succ k ih =>
  intro x h hw
  obtain ⟨h0, h1, h2, h3, h4, h5, h6⟩ := h
  have hw' : Sh.wStF (Sh.wSt k) x ≤ 601 := hw
  unfold Sh.wStF at hw'
  have hl := sumGe Sh.wW (fun y => by unfold Sh.wW; omega) (StF.ways x)
  refine ⟨⟨by unfold maxLen; omega, nmS h1, nmS h2, nmS h3, nmE h4, fun y hy => ⟨by have := (h5 y hy).2.2.2.2; unfold maxLen; omega, nmE (h5 y hy).2.2.1, nmS (h5 y hy).2.2.2.1⟩, by omega⟩, fun r hr y hy => ih y (h6 r hr y hy) ?_⟩
  have a1 : 1 + Sh.sumW (Sh.wSt k) r ≤ Sh.sumW (Sh.wR (Sh.wSt k)) (StF.regions x) := Sh.sumW_mem (Sh.wR (Sh.wSt k)) (StF.regions x) r hr
  have a2 := Sh.sumW_mem (Sh.wSt k) r y hy
  omega
theorem sumLe {α : Type} {f g : α → Nat} (l : List α) (h : ∀ a ∈ l, f a ≤ g a) : sumC f l ≤ Sh.sumW g l := by
 induction l with
 | nil => simp [sumC, Sh.sumW]
 | cons a r ih => rw [sumC, Sh.sumW]; have := h a (by simp); have := ih (fun b hb => h b (by simp [hb])); omega
theorem inLe : ∀ (k : Nat) (x : St k), 1 + cIn k x ≤ Sh.wSt k x := by
 intro k
 induction k with
 | zero => intro x; exact Nat.le_refl _
 | succ k ih =>
  intro x
  show 1 + sumC (sumC fun y => 1 + cIn k y) (StF.regions x) ≤ Sh.wStF (Sh.wSt k) x
  unfold Sh.wStF
  have := sumLe (f := sumC fun y => 1 + cIn k y) (g := Sh.wR (Sh.wSt k)) (StF.regions x) (fun r _ => by
   have := sumLe (f := fun y => 1 + cIn k y) (g := Sh.wSt k) r (fun y _ => ih y)
   unfold Sh.wR; omega)
  omega
theorem nmChart {L : List Lx.Tok} (hL : Wf L) {c : Chart} (h : chart L = .ok c) : NmChart c := by
 obtain ⟨h1, h2, h3⟩ := Sh.chart_w hL h
 have hx : ∀ r ∈ c.regions, ∀ x ∈ r, Sh.wSt 6 x ≤ 601 := fun r hr x hx => by
  have a1 : 1 + Sh.sumW (Sh.wSt 6) r ≤ Sh.sumW (Sh.wR (Sh.wSt 6)) c.regions := Sh.sumW_mem (Sh.wR (Sh.wSt 6)) c.regions r hr
  have a2 := Sh.sumW_mem (Sh.wSt 6) r x hx
  omega
 refine ⟨by omega, fun v hv => by have := (h1 v hv).2; unfold maxLen; omega, fun r hr x hx' => nmSt 6 x (h2 r hr x hx') (hx r hr x hx'), ?_⟩
 have := sumLe (f := cRg 6) (g := Sh.wR (Sh.wSt 6)) c.regions (fun r _ => by
  have := sumLe (f := fun y => 1 + cIn 6 y) (g := Sh.wSt 6) r (fun y _ => inLe 6 y)
  unfold cRg Sh.wR; omega)
 omega
structure KEnv0 (w : World) : Prop where
 tabs : Tabs w
 marks : Marks w
 big : 13 ≤ w.heap.size
theorem KEnv0.up {w W : World} (h : KEnv0 w) (hb : Below w.heap.size w W) : KEnv0 W :=
 ⟨h.tabs.keep (fun b hb' => hb.block b (Nat.lt_of_lt_of_le hb' h.big)), h.marks.below (Nat.le_refl _) hb, Nat.le_trans h.big hb.size⟩
theorem chartUp {A : Nat → Prop} {c : Chart} {W W' : World} {v : Value} (h : IsChart A W c v) (hb : Below W.heap.size W W') : IsChart A W' c v := by
 have kp : Keep A A W W' := fun b ha hlt => ⟨ha, hb.block b hlt⟩
 obtain ⟨a, n, m, a2, n2, m2, rfl, hv, hr⟩ := h
 exact ⟨a, n, m, a2, n2, m2, rfl, hv.carry kp, hr.carry kp (IsStates.carry kp 6)⟩
theorem resultsQ (tmps : Array Value) (W : World) (e : Nat) (fe : Array Value) (hse : fe.size = 3) (hq : tmps[2]?.getD undef = .pointer (some ⟨e, 0, none⟩)) (he : W.heap[e]? = some (.cells fe 28 (0, 0))) :
    (results Tryz.f8 tmps).run Tryz.prog W = .ok (.tuple #[.agg fe, tmps.getD 3 undef]) W := by
 simp [results, Tryz.results8, hq, asAddr, load25 hse he]
end Kx
end Go.Proofs.YtpogmfliojcnjaaGreatDoor
