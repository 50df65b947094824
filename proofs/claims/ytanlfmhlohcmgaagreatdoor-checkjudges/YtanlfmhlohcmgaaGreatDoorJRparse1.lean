/- Parse: the tokens, then the chart; what is thrown is caught. -/
import Derived.Test.YtanlfmhlohcmgaaGreatDoorJPregion
import Derived.Test.YtanlfmhlohcmgaaGreatDoorJMark2
import Derived.Test.YtanlfmhlohcmgaaGreatDoorJToks
namespace Go.Proofs.YtanlfmhlohcmgaaGreatDoor
open Go.RowKit Px

/-- the two results are laid -/
theorem parse_open (w : World) : ∃ W, W = (w.alloc (.cells ZC 25)).alloc (.cells #[.nilIface] 34) ∧ Below w.heap.size w W ∧ W.heap.size = w.heap.size + 2 ∧ W.heap[w.heap.size]? = some (.cells ZC 25 (0, 0)) ∧ W.heap[w.heap.size + 1]? = some (.cells #[.nilIface] 34 (0, 0)) := by
  refine ⟨_, rfl, ((Below.refl _ w).alloc (Nat.le_refl _) _).alloc (by simp) _, by simp, ?_, ?_⟩
  · have := heap_alloc_new w (.cells ZC 25)
    rw [heap_alloc_old _ _ (by simp)]; exact this
  · have := heap_alloc_new (w.alloc (.cells ZC 25)) (.cells #[.nilIface] 34)
    simpa using this

theorem load44 {W : World} {g : Nat} {v : Value} (hg : W.heap[g]? = some (.cells #[v] 34 (0, 0))) : (loadVar 34 ⟨g, 0, none⟩).run Tryz.prog W = .ok v W := by
  have hc : W.cell? ⟨g, 0, none⟩ = some v := by rw [cell_of_row _ _ _ _ _ _ hg]; rfl
  simp [go_sem, hc]
theorem resultsP (tmps : Array Value) (W : World) (c e : Nat) (fc : Array Value) (v : Value) (hsz : fc.size = 3) (hp : tmps[2]?.getD undef = .pointer (some ⟨c, 0, none⟩)) (hq : tmps[3]?.getD undef = .pointer (some ⟨e, 0, none⟩)) (hc : W.heap[c]? = some (.cells fc 25 (0, 0))) (he : W.heap[e]? = some (.cells #[v] 34 (0, 0))) :
    (results Tryz.f16 tmps).run Tryz.prog W = .ok (.tuple #[.agg fc, v]) W := by
  simp [results, Tryz.results16, hp, hq, asAddr, load25 hsz hc, load44 he]
/-- the two results are set -/
theorem laid_set {w2 : World} {c e : Nat} {a b d v v' : Value} (hc : w2.heap[c]? = some (.cells ZC 25 (0, 0))) (he : w2.heap[e]? = some (.cells #[v'] 34 (0, 0))) (hne : c ≠ e) :
    ((((w2.setCell ⟨c, 0, none⟩ a).setCell ⟨c, 1, none⟩ b).setCell ⟨c, 2, none⟩ d).setCell ⟨e, 0, none⟩ v).heap[c]? = some (.cells #[a, b, d] 25 (0, 0)) ∧
    ((((w2.setCell ⟨c, 0, none⟩ a).setCell ⟨c, 1, none⟩ b).setCell ⟨c, 2, none⟩ d).setCell ⟨e, 0, none⟩ v).heap[e]? = some (.cells #[v] 34 (0, 0)) ∧
    (∀ k, k ≠ c → k ≠ e → ((((w2.setCell ⟨c, 0, none⟩ a).setCell ⟨c, 1, none⟩ b).setCell ⟨c, 2, none⟩ d).setCell ⟨e, 0, none⟩ v).heap[k]? = w2.heap[k]?) ∧
    (∀ B a0, Below B a0 w2 → B ≤ c → B ≤ e → Below B a0 ((((w2.setCell ⟨c, 0, none⟩ a).setCell ⟨c, 1, none⟩ b).setCell ⟨c, 2, none⟩ d).setCell ⟨e, 0, none⟩ v)) := by
  have h0 := heap_setCell_same w2 c 0 _ _ a hc
  have h1 := heap_setCell_same _ c 1 _ _ b h0
  have h2 := heap_setCell_same _ c 2 _ _ d h1
  have k0 : (((w2.setCell ⟨c, 0, none⟩ a).setCell ⟨c, 1, none⟩ b).setCell ⟨c, 2, none⟩ d).heap[e]? = some (.cells #[v'] 34 (0, 0)) := by
    rw [heap_setCell_other _ _ _ _ (by simpa using hne.symm), heap_setCell_other _ _ _ _ (by simpa using hne.symm), heap_setCell_other _ _ _ _ (by simpa using hne.symm)]; exact he
  refine ⟨?_, ?_, fun k hkc hke => ?_, fun B _ hb hBc hBe => ?_⟩
  · rw [heap_setCell_other _ _ _ _ (by simpa using hne)]; exact h2
  · exact heap_setCell_same _ e 0 _ _ v k0
  · rw [heap_setCell_other _ _ _ _ (by simpa using hke), heap_setCell_other _ _ _ _ (by simpa using hkc), heap_setCell_other _ _ _ _ (by simpa using hkc), heap_setCell_other _ _ _ _ (by simpa using hkc)]
  · exact (((hb.setCell (by simpa using hBc) _).setCell (by simpa using hBc) _).setCell (by simpa using hBc) _).setCell (by simpa using hBe) _

/-- the reader is laid -/
theorem parse_ps {s : ByteArray} {l : List Lx.Tok} {w W0 w1 : World} {g cap : Nat} (hG : 13 ≤ w.heap.size) (ht : Tabs w) (hok : Lx.Ok (bs s) l) (hb0 : Below w.heap.size w W0) (hz0 : W0.heap.size = w.heap.size + 2) (hb1 : Below W0.heap.size W0 w1) (hg0 : W0.heap.size ≤ g) (hg1 : g < w1.heap.size)
    (hg : ∀ i t, (fin s l)[i]? = some t → w1.cell? ⟨g, i * 3, none⟩ = some (.int .i64 t.kind) ∧ w1.cell? ⟨g, i * 3 + 1, none⟩ = some (.string ⟨t.text.toArray⟩) ∧ w1.cell? ⟨g, i * 3 + 2, none⟩ = some (.int .i64 t.place))
    (c1 : w1.heap[w.heap.size]? = some (.cells ZC 25 (0, 0))) (e1 : w1.heap[w.heap.size + 1]? = some (.cells #[.nilIface] 34 (0, 0))) :
    ∃ W2, W2 = (w1.setCell ⟨w.heap.size + 1, 0, none⟩ .nilIface).alloc (.cells #[.slice (some ⟨g, 0, none⟩) (l.length + 1) cap, .int .i64 0, .int .i64 0, .int .i64 0, .int .i64 0] 88) ∧
      PS ⟨w1.heap.size, g, cap, fin s l⟩ W2 0 0 0 0 ∧ Below w.heap.size w W2 ∧ W2.heap[w.heap.size]? = some (.cells ZC 25 (0, 0)) ∧ W2.heap[w.heap.size + 1]? = some (.cells #[.nilIface] 34 (0, 0)) ∧ W2.heap.size = w1.heap.size + 1 := by
  have hs1 := hb1.size
  have hB1 : Below w.heap.size w w1 := hb0.trans (hb1.mono hb0.size)
  have hB2 : Below w.heap.size w (w1.setCell ⟨w.heap.size + 1, 0, none⟩ .nilIface) := hB1.setCell (by simp) _
  have hz2 : (w1.setCell ⟨w.heap.size + 1, 0, none⟩ .nilIface).heap.size = w1.heap.size := by simp
  have old : ∀ k, k < w1.heap.size → k ≠ w.heap.size + 1 → ((w1.setCell ⟨w.heap.size + 1, 0, none⟩ .nilIface).alloc (.cells #[.slice (some ⟨g, 0, none⟩) (l.length + 1) cap, .int .i64 0, .int .i64 0, .int .i64 0, .int .i64 0] 88)).heap[k]? = w1.heap[k]? := fun k hk hn => by
    rw [heap_alloc_old _ _ (by rw [hz2]; exact hk), heap_setCell_other _ _ _ _ (by simpa using hn)]
  have hwf := wf_ok hok
  refine ⟨_, rfl, ⟨?_, fun k t hk => ?_, ?_, hwf.pos, hwf, hg1, ?_⟩, hB2.alloc hB2.size _, ?_, ?_, by simp⟩
  · have := heap_alloc_new (w1.setCell ⟨w.heap.size + 1, 0, none⟩ .nilIface) (.cells #[.slice (some ⟨g, 0, none⟩) (l.length + 1) cap, .int .i64 0, .int .i64 0, .int .i64 0, .int .i64 0] 88)
    rw [hz2] at this
    rw [rdC, fin_len]; exact this
  · have hb := old g hg1 (by omega)
    have := hg k t hk
    rw [World.cell?_of_block (w := w1) (a := ⟨g, k * 3, none⟩) hb, World.cell?_of_block (w := w1) (a := ⟨g, k * 3 + 1, none⟩) hb, World.cell?_of_block (w := w1) (a := ⟨g, k * 3 + 2, none⟩) hb]
    exact this
  · exact ht.keep (fun b hb => (hB2.alloc hB2.size _).block b (by omega))
  · show 13 < g; omega
  · rw [old _ (by omega) (by omega)]; exact c1
  · rw [heap_alloc_old _ _ (by rw [hz2]; omega)]; exact heap_setCell_same w1 _ 0 _ _ .nilIface e1

set_option maxRecDepth 100000 in
set_option maxHeartbeats 2000000 in
theorem parse_bad (s : ByteArray) (w : World) (hs : s.size ≤ 1000000) (hm : Marks w) (hno : ∀ l, ¬ Lx.Ok (bs s) l) :
    Calls Tryz.prog 16 #[.string s] w fun e w' => ∃ ev q g : Nat, e = .returned (.tuple #[.agg ZC, .iface 65 (.pointer (some ⟨g, 0, none⟩))]) ∧ Lx.Bad (bs s) ev q ∧ w'.heap[g]? = some (.cells #[.int .i64 ev, .int .i64 q] 66 (0, 0)) ∧ Below w.heap.size w w' := by
  have HN : Hid (∀ l, ¬ Lx.Ok (bs s) l) := hno
  clear hno
  have hmf : ∀ (fn : Fn) (first cap : Array Value) (w : World), (Instr.makeFunc fn first cap).run Tryz.prog w = .ok (.func fn first cap) w := fun _ _ _ _ => rfl
  obtain ⟨W0, hW, hb0, hz0, c0, e0⟩ := parse_open w
  have hm0 := hm.below (Nat.le_refl _) hb0
  go_enter_defers Tryz.func16, Tryz.ntmps16
  go_upto_region 1 with fail
  rw [show (w.alloc (.cells #[.string ⟨#[]⟩, .slice none 0 0, .slice none 0 0] 25)).alloc (.cells #[.nilIface] 34) = W0 from hW.symm]
  clear hW
  go_wp2_with (go_at_call 31; refine (split_bad s _ hs hm0 HN.out).mono ?_; rintro e w1 ⟨ev, q, g, rfl, hb1, hbad, hg⟩; have c1 := (hb1.block _ (by omega)).trans c0; have e1 := (hb1.block _ (by omega)).trans e0; obtain ⟨-, e1c⟩ : True ∧ w1.cell? ⟨w.heap.size + 1, 0, none⟩ = some .nilIface := ⟨trivial, by rw [cell_of_row _ _ _ _ _ _ e1]; rfl⟩; have e1z : w1.frozen? ⟨w.heap.size + 1, 0, none⟩ = false := by simp [World.frozen?, e1])
  have hb2 : Below w.heap.size w (w1.setCell ⟨w.heap.size + 1, 0, none⟩ (.iface 65 (.pointer (some ⟨g, 0, none⟩)))) := (hb0.trans (hb1.mono hb0.size)).setCell (by simp) _
  have c2 : (w1.setCell ⟨w.heap.size + 1, 0, none⟩ (.iface 65 (.pointer (some ⟨g, 0, none⟩)))).heap[w.heap.size]? = some (.cells ZC 25 (0, 0)) := by
    rw [heap_setCell_other w1 _ _ _ (by simp)]; exact c1
  have e2 := heap_setCell_same w1 (w.heap.size + 1) 0 _ 34 (.iface 65 (.pointer (some ⟨g, 0, none⟩))) e1
  have hne : g ≠ w.heap.size + 1 := by rintro rfl; rw [e1] at hg; simp at hg
  have hne' : g ≠ w.heap.size := by rintro rfl; rw [c1] at hg; simp [ZC] at hg
  have g2 : (w1.setCell ⟨w.heap.size + 1, 0, none⟩ (.iface 65 (.pointer (some ⟨g, 0, none⟩)))).heap[g]? = some (.cells #[.int .i64 ev, .int .i64 q] 66 (0, 0)) := by
    rw [heap_setCell_other w1 _ _ _ hne]; exact hg
  generalize (w1.setCell ⟨w.heap.size + 1, 0, none⟩ (.iface 65 (.pointer (some ⟨g, 0, none⟩)))) = w2 at hb2 c2 e2 g2 ⊢
  have f0 : w2.cell? ⟨w.heap.size, 0, none⟩ = some (.string ⟨#[]⟩) := by rw [cell_of_row _ _ _ _ _ _ c2]; rfl
  have f1 : w2.cell? ⟨w.heap.size, 1, none⟩ = some (.slice none 0 0) := by rw [cell_of_row _ _ _ _ _ _ c2]; rfl
  have f2 : w2.cell? ⟨w.heap.size, 2, none⟩ = some (.slice none 0 0) := by rw [cell_of_row _ _ _ _ _ _ c2]; rfl
  have fz : ∀ o, w2.frozen? ⟨w.heap.size, o, none⟩ = false := fun o => by simp [World.frozen?, c2]
  have fe : w2.cell? ⟨w.heap.size + 1, 0, none⟩ = some (.iface 65 (.pointer (some ⟨g, 0, none⟩))) := by rw [cell_of_row _ _ _ _ _ _ e2]; rfl
  have fy : w2.frozen? ⟨w.heap.size + 1, 0, none⟩ = false := by simp [World.frozen?, e2]
  obtain ⟨z0, z1, z2, z3⟩ := laid_set (a := .string ⟨#[]⟩) (b := .slice none 0 0) (d := .slice none 0 0) (v := .iface 65 (.pointer (some ⟨g, 0, none⟩))) c2 e2 (by omega)
  go_region
  go_wp2
  exact ⟨_, resultsP _ _ _ _ _ _ rfl rfl rfl z0 z1, _, _, _, rfl, hbad, (z2 g hne' hne).trans g2, (z3 _ _ hb2 (Nat.le_refl _) (by omega)).drew⟩

set_option maxRecDepth 100000 in
set_option maxHeartbeats 2000000 in
theorem parse_err (s : ByteArray) (l : List Lx.Tok) (f : F) (w : World) (hs : s.size ≤ 1000000) (hG : 13 ≤ w.heap.size) (ht : Tabs w) (hm : Marks w) (hok : Lx.Ok (bs s) l) (hch : chart (fin s l) = .error f) :
    Calls Tryz.prog 16 #[.string s] w fun e w' => ∃ q : Nat, e = .returned (.tuple #[.agg ZC, .iface 65 (.pointer (some ⟨q, 0, none⟩))]) ∧ w'.heap[q]? = some (.cells #[.int .i64 f.1, .int .i64 f.2] 66 (0, 0)) ∧ Below w.heap.size w w' := by
  have HN : Hid (Lx.Ok (bs s) l) := hok
  have HC : Hid (chart (fin s l) = .error f) := hch
  clear hok hch
  have hmf : ∀ (fn : Fn) (first cap : Array Value) (w : World), (Instr.makeFunc fn first cap).run Tryz.prog w = .ok (.func fn first cap) w := fun _ _ _ _ => rfl
  obtain ⟨W0, hW, hb0, hz0, c0, e0⟩ := parse_open w
  have hm0 := hm.below (Nat.le_refl _) hb0
  go_enter_defers Tryz.func16, Tryz.ntmps16
  go_upto_region 1 with fail
  rw [show (w.alloc (.cells #[.string ⟨#[]⟩, .slice none 0 0, .slice none 0 0] 25)).alloc (.cells #[.nilIface] 34) = W0 from hW.symm]
  clear hW
  go_wp2_with (first
    | (go_at_call 31; refine (split_ok s l _ rfl _ hs hm0 HN.out).mono ?_; rintro e w1 ⟨g, cap, rfl, hb1, hg0, hg1, hg⟩; have c1 := (hb1.block _ (by omega)).trans c0; have e1 := (hb1.block _ (by omega)).trans e0; obtain ⟨-, e1c⟩ : True ∧ w1.cell? ⟨w.heap.size + 1, 0, none⟩ = some .nilIface := ⟨trivial, by rw [cell_of_row _ _ _ _ _ _ e1]; rfl⟩; have e1z : w1.frozen? ⟨w.heap.size + 1, 0, none⟩ = false := (by simp [World.frozen?, e1]); obtain ⟨W2, hW2, hps, hbW, cW, eW, hzW⟩ := parse_ps (cap := cap) hG ht HN.out hb0 hz0 hb1 hg0 hg1 hg c1 e1; have HW2 : Hid _ := hW2; clear hW2)
    | (go_at_call 33; rw [show (w1.setCell ⟨w.heap.size + 1, 0, none⟩ .nilIface).alloc (.cells #[.slice (some ⟨g, 0, none⟩) (l.length + 1) cap, .int .i64 0, .int .i64 0, .int .i64 0, .int .i64 0] 88) = W2 from HW2.out.symm]; refine (chart_any hps).mono ?_; rintro e w3 h3; rw [show chart (⟨w1.heap.size, g, cap, fin s l⟩ : Ctx).L = _ from HC.out] at h3; obtain ⟨q, rfl, hq, hge, hfr⟩ : Thrown ⟨w1.heap.size, g, cap, fin s l⟩ W2 f e w3 := h3))
  have hs1 := hb1.size
  have c3 := (hfr.block _ (by omega) (by simp; omega)).trans cW
  have e3 := (hfr.block _ (by omega) (by simp; omega)).trans eW
  have hB3 : Below w.heap.size w w3 := hbW.trans (Fr.below (hfr.mono (by omega) (by simp; omega)))
  obtain ⟨z0, z1, z2, z3⟩ := laid_set (a := .string ⟨#[]⟩) (b := .slice none 0 0) (d := .slice none 0 0) (v := .iface 65 (.pointer (some ⟨q, 0, none⟩))) c3 e3 (by omega)
  refine leaves_cons (f := 32) (args := #[.pointer (some ⟨w.heap.size, 0, none⟩), .pointer (some ⟨w.heap.size + 1, 0, none⟩)]) (by simp) (by simp [go_sem]) ?_
  refine (catch_thrown w.heap.size (w.heap.size + 1) q w3 [] (by rw [cell_of_row _ _ _ _ _ _ c3]; rfl) (by rw [cell_of_row _ _ _ _ _ _ c3]; rfl) (by rw [cell_of_row _ _ _ _ _ _ c3]; rfl) (fun o => by simp [World.frozen?, c3]) (by rw [cell_of_row _ _ _ _ _ _ e3]; rfl) (by simp [World.frozen?, e3]) (by omega)).mono ?_
  rintro e u' w'' ⟨rfl, rfl, rfl⟩
  exact ⟨_, resultsP _ _ _ _ _ _ rfl rfl rfl z0 z1, q, rfl, (z2 q (by omega) (by omega)).trans hq, z3 _ _ hB3 (Nat.le_refl _) (by omega)⟩

set_option maxRecDepth 100000 in
set_option maxHeartbeats 2000000 in
theorem parse_ok (s : ByteArray) (l : List Lx.Tok) (c : Chart) (w : World) (hs : s.size ≤ 1000000) (hG : 13 ≤ w.heap.size) (ht : Tabs w) (hm : Marks w) (hok : Lx.Ok (bs s) l) (hch : chart (fin s l) = .ok c) :
    Calls Tryz.prog 16 #[.string s] w fun e w' => ∃ v, e = .returned (.tuple #[v, .nilIface]) ∧ IsChart (Ge w.heap.size) w' c v ∧ Below w.heap.size w w' := by
  have HN : Hid (Lx.Ok (bs s) l) := hok
  have HC : Hid (chart (fin s l) = .ok c) := hch
  clear hok hch
  have hmf : ∀ (fn : Fn) (first cap : Array Value) (w : World), (Instr.makeFunc fn first cap).run Tryz.prog w = .ok (.func fn first cap) w := fun _ _ _ _ => rfl
  obtain ⟨W0, hW, hb0, hz0, c0, e0⟩ := parse_open w
  have hm0 := hm.below (Nat.le_refl _) hb0
  go_enter_defers Tryz.func16, Tryz.ntmps16
  go_upto_region 1 with fail
  rw [show (w.alloc (.cells #[.string ⟨#[]⟩, .slice none 0 0, .slice none 0 0] 25)).alloc (.cells #[.nilIface] 34) = W0 from hW.symm]
  clear hW
  go_wp2_with (first
    | (go_at_call 31; refine (split_ok s l _ rfl _ hs hm0 HN.out).mono ?_; rintro e w1 ⟨g, cap, rfl, hb1, hg0, hg1, hg⟩; have c1 := (hb1.block _ (by omega)).trans c0; have e1 := (hb1.block _ (by omega)).trans e0; obtain ⟨-, e1c⟩ : True ∧ w1.cell? ⟨w.heap.size + 1, 0, none⟩ = some .nilIface := ⟨trivial, by rw [cell_of_row _ _ _ _ _ _ e1]; rfl⟩; have e1z : w1.frozen? ⟨w.heap.size + 1, 0, none⟩ = false := (by simp [World.frozen?, e1]); obtain ⟨W2, hW2, hps, hbW, cW, eW, hzW⟩ := parse_ps (cap := cap) hG ht HN.out hb0 hz0 hb1 hg0 hg1 hg c1 e1; have HW2 : Hid _ := hW2; clear hW2)
    | (go_at_call 33; rw [show (w1.setCell ⟨w.heap.size + 1, 0, none⟩ .nilIface).alloc (.cells #[.slice (some ⟨g, 0, none⟩) (l.length + 1) cap, .int .i64 0, .int .i64 0, .int .i64 0, .int .i64 0] 88) = W2 from HW2.out.symm]; refine (chart_any hps).mono ?_; rintro e w3 h3; rw [show chart (⟨w1.heap.size, g, cap, fin s l⟩ : Ctx).L = _ from HC.out] at h3; obtain ⟨v, rfl, ⟨a1, n1, m1, a2, n2, m2, rfl, d1, d2⟩, hfr⟩ := h3; have hs1 := hb1.size; have c3 := (hfr.block w.heap.size (by omega) (by simp; omega)).trans cW; have e3 := (hfr.block (w.heap.size + 1) (by omega) (by simp; omega)).trans eW; have f0 : w3.cell? ⟨w.heap.size, 0, none⟩ = some (.string ⟨#[]⟩) := by rw [cell_of_row _ _ _ _ _ _ c3]; rfl
       have f1 : w3.cell? ⟨w.heap.size, 1, none⟩ = some (.slice none 0 0) := by rw [cell_of_row _ _ _ _ _ _ c3]; rfl
       have f2 : w3.cell? ⟨w.heap.size, 2, none⟩ = some (.slice none 0 0) := by rw [cell_of_row _ _ _ _ _ _ c3]; rfl
       have fz : ∀ o, w3.frozen? ⟨w.heap.size, o, none⟩ = false := fun o => by simp [World.frozen?, c3]
       have fe : w3.cell? ⟨w.heap.size + 1, 0, none⟩ = some .nilIface := by rw [cell_of_row _ _ _ _ _ _ e3]; rfl
       have fy : w3.frozen? ⟨w.heap.size + 1, 0, none⟩ = false := by simp [World.frozen?, e3]
       rw [sv]))
  have hB3 : Below w.heap.size w w3 := hbW.trans (Fr.below (hfr.mono (by omega) (by simp; omega)))
  obtain ⟨z0, z1, z2, z3⟩ := laid_set (a := .string ⟨c.name.toArray⟩) (b := .slice a1 n1 m1) (d := .slice a2 n2 m2) (v := .nilIface) c3 e3 (by omega)
  refine leaves_cons (f := 32) (args := #[.pointer (some ⟨w.heap.size, 0, none⟩), .pointer (some ⟨w.heap.size + 1, 0, none⟩)]) (by simp) (by simp [go_sem]) ?_
  refine (catch_idle ⟨w.heap.size, 0, none⟩ ⟨w.heap.size + 1, 0, none⟩ _).mono ?_
  rintro e u' w'' ⟨rfl, rfl, rfl⟩
  have kp : Keep (Ge W2.heap.size) (Ge w.heap.size) w3 _ := fun b hb hlt => ⟨by simp [Ge] at *; omega, z2 b (by simp [Ge] at hb; omega) (by simp [Ge] at hb; omega)⟩
  exact ⟨_, resultsP _ _ _ _ _ _ rfl rfl rfl z0 z1, _, rfl, ⟨a1, n1, m1, a2, n2, m2, rfl, d1.carry kp, d2.carry kp (IsStates.carry kp 6)⟩, z3 _ _ hB3 (Nat.le_refl _) (by omega)⟩
end Go.Proofs.YtanlfmhlohcmgaaGreatDoor
/- The document's own Parse. -/
namespace Go.Proofs.YtanlfmhlohcmgaaGreatDoor
open Go.RowKit Px

theorem Fine.below {w w' : World} (h : Fine w) (hb : Below w.heap.size w w') : Fine w' :=
  ⟨(hb.cell (p := ⟨0, 0, none⟩) (lt_of_cell h.1)).trans h.1, (hb.cell (p := ⟨0, 1, none⟩) (lt_of_cell h.2)).trans h.2⟩
/-- the two results are laid -/
theorem rparse_open (w : World) : ∃ W, W = (w.alloc (.cells ZC 25)).alloc (.cells #[.int .i64 0, .int .i64 0] 28) ∧ Below w.heap.size w W ∧ W.heap.size = w.heap.size + 2 ∧ W.heap[w.heap.size]? = some (.cells ZC 25 (0, 0)) ∧ W.heap[w.heap.size + 1]? = some (.cells #[.int .i64 0, .int .i64 0] 28 (0, 0)) := by
  refine ⟨_, rfl, ((Below.refl _ w).alloc (Nat.le_refl _) _).alloc (by simp) _, by simp, ?_, ?_⟩
  · have := heap_alloc_new w (.cells ZC 25)
    rw [heap_alloc_old _ _ (by simp)]; exact this
  · have := heap_alloc_new (w.alloc (.cells ZC 25)) (.cells #[.int .i64 0, .int .i64 0] 28)
    simpa using this
theorem Tryz.sizeFault : (Tryz.prog.info? 28).map (·.size) = some 2 := by kernel_rfl
theorem load28 {W : World} {g : Nat} {fc : Array Value} (hsz : fc.size = 2) (hg : W.heap[g]? = some (.cells fc 28 (0, 0))) : (loadVar 28 ⟨g, 0, none⟩).run Tryz.prog W = .ok (.agg fc) W :=
  run_loadVar_row (P := Tryz.prog) W g 28 28 fc (0, 0) _ hg Tryz.underlying28 rfl (by rw [hsz]; exact Tryz.sizeFault)
theorem resultsR (tmps : Array Value) (W : World) (c e : Nat) (fc fe : Array Value) (hsz : fc.size = 3) (hse : fe.size = 2) (hp : tmps[2]?.getD undef = .pointer (some ⟨c, 0, none⟩)) (hq : tmps[3]?.getD undef = .pointer (some ⟨e, 0, none⟩)) (hc : W.heap[c]? = some (.cells fc 25 (0, 0))) (he : W.heap[e]? = some (.cells fe 28 (0, 0))) :
    (results Tryz.f21 tmps).run Tryz.prog W = .ok (.tuple #[.agg fc, .agg fe]) W := by
  simp [results, Tryz.results21, hp, hq, asAddr, load25 hsz hc, load28 hse he]
/-- the two results are set -/
theorem rlaid_set {w2 : World} {c e : Nat} {a b d x y x' y' : Value} (hc : w2.heap[c]? = some (.cells ZC 25 (0, 0))) (he : w2.heap[e]? = some (.cells #[x', y'] 28 (0, 0))) (hne : c ≠ e) :
    (((((w2.setCell ⟨c, 0, none⟩ a).setCell ⟨c, 1, none⟩ b).setCell ⟨c, 2, none⟩ d).setCell ⟨e, 0, none⟩ x).setCell ⟨e, 1, none⟩ y).heap[c]? = some (.cells #[a, b, d] 25 (0, 0)) ∧
    (((((w2.setCell ⟨c, 0, none⟩ a).setCell ⟨c, 1, none⟩ b).setCell ⟨c, 2, none⟩ d).setCell ⟨e, 0, none⟩ x).setCell ⟨e, 1, none⟩ y).heap[e]? = some (.cells #[x, y] 28 (0, 0)) ∧
    (∀ k, k ≠ c → k ≠ e → (((((w2.setCell ⟨c, 0, none⟩ a).setCell ⟨c, 1, none⟩ b).setCell ⟨c, 2, none⟩ d).setCell ⟨e, 0, none⟩ x).setCell ⟨e, 1, none⟩ y).heap[k]? = w2.heap[k]?) ∧
    (∀ B a0, Below B a0 w2 → B ≤ c → B ≤ e → Below B a0 (((((w2.setCell ⟨c, 0, none⟩ a).setCell ⟨c, 1, none⟩ b).setCell ⟨c, 2, none⟩ d).setCell ⟨e, 0, none⟩ x).setCell ⟨e, 1, none⟩ y)) := by
  have h0 := heap_setCell_same w2 c 0 _ _ a hc
  have h1 := heap_setCell_same _ c 1 _ _ b h0
  have h2 := heap_setCell_same _ c 2 _ _ d h1
  have k0 : (((w2.setCell ⟨c, 0, none⟩ a).setCell ⟨c, 1, none⟩ b).setCell ⟨c, 2, none⟩ d).heap[e]? = some (.cells #[x', y'] 28 (0, 0)) := by
    rw [heap_setCell_other _ _ _ _ (by simpa using hne.symm), heap_setCell_other _ _ _ _ (by simpa using hne.symm), heap_setCell_other _ _ _ _ (by simpa using hne.symm)]; exact he
  have k1 := heap_setCell_same _ e 0 _ _ x k0
  refine ⟨?_, ?_, fun k hkc hke => ?_, fun B _ hb hBc hBe => ?_⟩
  · rw [heap_setCell_other _ _ _ _ (by simpa using hne), heap_setCell_other _ _ _ _ (by simpa using hne)]; exact h2
  · exact heap_setCell_same _ e 1 _ _ y k1
  · rw [heap_setCell_other _ _ _ _ (by simpa using hke), heap_setCell_other _ _ _ _ (by simpa using hke), heap_setCell_other _ _ _ _ (by simpa using hkc), heap_setCell_other _ _ _ _ (by simpa using hkc), heap_setCell_other _ _ _ _ (by simpa using hkc)]
  · exact ((((hb.setCell (by simpa using hBc) _).setCell (by simpa using hBc) _).setCell (by simpa using hBc) _).setCell (by simpa using hBe) _).setCell (by simpa using hBe) _

set_option maxRecDepth 100000 in
set_option maxHeartbeats 2000000 in
theorem rparse_bad (s : ByteArray) (w : World) (hs : s.size ≤ 1000000) (hf : Fine w) (hno : ∀ l, ¬ Lx.Ok (bs s) l) :
    Calls Tryz.prog 21 #[.string s] w fun e w' => ∃ ev q : Nat, e = .returned (.tuple #[.agg ZC, .agg #[.int .i64 ev, .int .i64 q]]) ∧ Lx.Bad (bs s) ev q ∧ Below w.heap.size w w' := by
  have HN : Hid (∀ l, ¬ Lx.Ok (bs s) l) := hno
  clear hno
  obtain ⟨W0, hW, hb0, hz0, c0, e0⟩ := rparse_open w
  have hf0 : Fine W0 := hf.below hb0
  go_enter Tryz.func21, Tryz.ntmps21
  go_upto_region 1 with fail
  rw [show (w.alloc (.cells #[.string ⟨#[]⟩, .slice none 0 0, .slice none 0 0] 25)).alloc (.cells #[.int .i64 0, .int .i64 0] 28) = W0 from hW.symm]
  clear hW
  go_upto_region 3 with (go_at_call 34; refine (tokens_bad s _ hs hf0 HN.out).mono ?_; rintro e w1 ⟨ev, q, rfl, hb1, hbad⟩; have c1 := (hb1.block _ (by omega)).trans c0; have e1 := (hb1.block _ (by omega)).trans e0; have hf1 : Fine w1 := hf0.below hb1; obtain ⟨g0, g1⟩ := hf1; have hl0 : 0 < w1.heap.size := lt_of_cell g0; have hq1 : ((q : Int) == -1) = false := beq_false_of_ne (by omega))
  have hb2 := (hb0.trans (hb1.mono hb0.size)).alloc (hb0.trans (hb1.mono hb0.size)).size (.cells #[.int .i64 ev, .int .i64 q] 28)
  have hs1 := hb1.size
  have c2 : (w1.alloc (.cells #[.int .i64 ev, .int .i64 q] 28)).heap[w.heap.size]? = _ := (heap_alloc_old _ _ (by omega)).trans c1
  have e2 : (w1.alloc (.cells #[.int .i64 ev, .int .i64 q] 28)).heap[w.heap.size + 1]? = _ := (heap_alloc_old _ _ (by omega)).trans e1
  have x0 : (w1.alloc (.cells #[.int .i64 ev, .int .i64 q] 28)).cell? ⟨w1.heap.size, 0, none⟩ = some (.int .i64 ev) := by simp
  have x1 : (w1.alloc (.cells #[.int .i64 ev, .int .i64 q] 28)).cell? ⟨w1.heap.size, 1, none⟩ = some (.int .i64 q) := by simp
  generalize w1.alloc (.cells #[.int .i64 ev, .int .i64 q] 28) = w2 at hb2 c2 e2 x0 x1 ⊢
  have f0 : w2.cell? ⟨w.heap.size, 0, none⟩ = some (.string ⟨#[]⟩) := by rw [cell_of_row _ _ _ _ _ _ c2]; rfl
  have f1 : w2.cell? ⟨w.heap.size, 1, none⟩ = some (.slice none 0 0) := by rw [cell_of_row _ _ _ _ _ _ c2]; rfl
  have f2 : w2.cell? ⟨w.heap.size, 2, none⟩ = some (.slice none 0 0) := by rw [cell_of_row _ _ _ _ _ _ c2]; rfl
  have fz : ∀ o, w2.frozen? ⟨w.heap.size, o, none⟩ = false := fun o => by simp [World.frozen?, c2]
  have y0 : w2.cell? ⟨w.heap.size + 1, 0, none⟩ = some (.int .i64 0) := by rw [cell_of_row _ _ _ _ _ _ e2]; rfl
  have y1 : w2.cell? ⟨w.heap.size + 1, 1, none⟩ = some (.int .i64 0) := by rw [cell_of_row _ _ _ _ _ _ e2]; rfl
  have fy : ∀ o, w2.frozen? ⟨w.heap.size + 1, o, none⟩ = false := fun o => by simp [World.frozen?, e2]
  have n1 : w1.heap.size ≠ w.heap.size := by omega
  have n2 : w1.heap.size ≠ w.heap.size + 1 := by omega
  obtain ⟨z0, z1, z2, z3⟩ := rlaid_set (a := .string ⟨#[]⟩) (b := .slice none 0 0) (d := .slice none 0 0) (x := .int .i64 ev) (y := .int .i64 q) c2 e2 (by omega)
  go_region
  go_wp2
  exact bodyPost_ret (resultsR _ _ _ _ _ _ rfl rfl rfl rfl z0 z1) rfl ⟨_, _, rfl, hbad, (z3 _ _ hb2 (Nat.le_refl _) (by omega)).drew⟩
end Go.Proofs.YtanlfmhlohcmgaaGreatDoor
/- The document's own Parse: a chart that is being read, where it lies. -/
namespace Go.Proofs.YtanlfmhlohcmgaaGreatDoor
open Go.RowKit Px

/-- a chart that is being read by the document's own reader -/
structure RU (C : Ctx) (w0 : World) (cb : Nat) (w : World) (σ : S) (nm : Str) (vs : List Decl) (rs : List (List (St 6))) : Prop where
  at_ : RS C w σ
  fr : Fr w0.heap.size [] w0 w
  c0 : w.heap[w0.heap.size]? = some (.cells ZC 25 (0, 0))
  e0 : w.heap[w0.heap.size + 1]? = some (.cells #[.int .i64 0, .int .i64 0] 28 (0, 0))
  lo : w0.heap.size + 1 < C.rb
  lc : C.rb < cb
  cu : CUx (cb + 1) cb w nm vs rs
theorem RU.call {C : Ctx} {w0 w w' : World} {cb : Nat} {σ σ' : S} {nm : Str} {vs : List Decl} {rs : List (List (St 6))} (h : RU C w0 cb w σ nm vs rs) (hf : Fr w.heap.size [C.rb] w w') (hr : RS C w' σ') : RU C w0 cb w' σ' nm vs rs := by
  have hlo := h.lo
  have hlc := h.lc
  have hz := lt_of_block h.e0
  obtain ⟨v, r, xv, xr, hU⟩ := h.cu
  refine ⟨hr, h.fr.trans (hf.mono (by omega) (by simp; omega)), ?_, ?_, hlo, hlc, v, r, xv, xr, hU.carry (by simp; omega) (by simp; omega) hf⟩
  · rw [hf.block _ (by omega) (by simp; omega)]; exact h.c0
  · rw [hf.block _ (by omega) (by simp; omega)]; exact h.e0
theorem RU.new {C : Ctx} {w0 w : World} {cb : Nat} {σ : S} {nm : Str} {vs : List Decl} {rs : List (List (St 6))} (h : RU C w0 cb w σ nm vs rs) (o : Obj) : RU C w0 cb (w.alloc o) σ nm vs rs :=
  h.call ((Fr.refl _ _ _).alloc (Nat.le_refl _) _) (h.at_.new o)
theorem RU.drewN {C : Ctx} {w0 w : World} {cb : Nat} {σ : S} {nm : Str} {vs : List Decl} {rs : List (List (St 6))} (h : RU C w0 cb w σ nm vs rs) (n : Nat) : RU C w0 cb (w.drewN n) σ nm vs rs :=
  h.call ((Fr.refl _ _ _).drewN n) (h.at_.same ((Fr.refl _ _ _).drewN n))
theorem RU.grown {C : Ctx} {w0 w w' : World} {cb : Nat} {σ : S} {nm : Str} {vs vs' : List Decl} {rs rs' : List (List (St 6))} (h : RU C w0 cb w σ nm vs rs) (hF : Fr cb [] w w') (hc : CUx (cb + 1) cb w' nm vs' rs') : RU C w0 cb w' σ nm vs' rs' := by
  have hlo := h.lo
  have hlc := h.lc
  refine ⟨h.at_.low hlc hF, h.fr.trans (hF.mono (by omega) (by simp)), ?_, ?_, hlo, hlc, hc⟩
  · rw [hF.block _ (by omega) (by simp)]; exact h.c0
  · rw [hF.block _ (by omega) (by simp)]; exact h.e0
theorem RU.laid {C : Ctx} {w0 w : World} {cb : Nat} {σ : S} {nm : Str} {vs : List Decl} {rs : List (List (St 6))} (h : RU C w0 cb w σ nm vs rs) :
    w.cell? ⟨w0.heap.size, 0, none⟩ = some (.string ⟨#[]⟩) ∧ w.cell? ⟨w0.heap.size, 1, none⟩ = some (.slice none 0 0) ∧ w.cell? ⟨w0.heap.size, 2, none⟩ = some (.slice none 0 0) ∧ (∀ o, w.frozen? ⟨w0.heap.size, o, none⟩ = false) ∧
    w.cell? ⟨w0.heap.size + 1, 0, none⟩ = some (.int .i64 0) ∧ w.cell? ⟨w0.heap.size + 1, 1, none⟩ = some (.int .i64 0) ∧ (∀ o, w.frozen? ⟨w0.heap.size + 1, o, none⟩ = false) ∧ ¬ C.rb = w0.heap.size ∧ ¬ C.rb = w0.heap.size + 1 ∧ ¬ C.rb < w0.heap.size := by
  have := h.lo
  refine ⟨by rw [cell_of_row _ _ _ _ _ _ h.c0]; rfl, by rw [cell_of_row _ _ _ _ _ _ h.c0]; rfl, by rw [cell_of_row _ _ _ _ _ _ h.c0]; rfl, fun o => by simp [World.frozen?, h.c0], by rw [cell_of_row _ _ _ _ _ _ h.e0]; rfl, by rw [cell_of_row _ _ _ _ _ _ h.e0]; rfl, fun o => by simp [World.frozen?, h.e0], by omega, by omega, by omega⟩
theorem RU.ends {C : Ctx} {w0 w : World} {cb i st : Nat} {f : F} {nm : Str} {vs : List Decl} {rs : List (List (St 6))} (h : RU C w0 cb w ⟨i, st, some f⟩ nm vs rs) :
    w.cell? ⟨C.rb, 1, none⟩ = some (.int .i64 f.1) ∧ w.cell? ⟨C.rb, 2, none⟩ = some (.int .i64 f.2) ∧ w.cell? ⟨w0.heap.size, 0, none⟩ = some (.string ⟨#[]⟩) ∧ w.cell? ⟨w0.heap.size, 1, none⟩ = some (.slice none 0 0) ∧ w.cell? ⟨w0.heap.size, 2, none⟩ = some (.slice none 0 0) ∧ (∀ o, w.frozen? ⟨w0.heap.size, o, none⟩ = false) ∧
    w.cell? ⟨w0.heap.size + 1, 0, none⟩ = some (.int .i64 0) ∧ w.cell? ⟨w0.heap.size + 1, 1, none⟩ = some (.int .i64 0) ∧ (∀ o, w.frozen? ⟨w0.heap.size + 1, o, none⟩ = false) ∧ ¬ C.rb = w0.heap.size ∧ ¬ C.rb = w0.heap.size + 1 ∧ ¬ C.rb < w0.heap.size := by
  obtain ⟨n, k, -, -, hr⟩ := h.at_.rd
  obtain ⟨-, c1, c2, -⟩ := cells4 hr
  exact ⟨c1, c2, h.laid⟩
theorem Px.endR_dead {L : List Lx.Tok} (i st : Nat) (f : F) : endR L ⟨i, st, some f⟩ = ⟨i, st, some f⟩ := by
  rw [endR]; split <;> rfl
theorem Px.numberR_lt {L : List Lx.Tok} (wf : Wf L) (σ : S) : (numberR L σ).1 < 1000000000000000000 := by
  rw [numberR]
  split
  · show 0 < _; omega
  · rw [number]
    by_cases hk : kd L σ.i = 2
    · obtain ⟨hd, hl, _⟩ := wf.num σ.i hk
      rw [if_pos hk]
      have h1 := val_lt (tx L σ.i) hd (tx L σ.i).length (Nat.le_refl _)
      rw [List.take_length] at h1
      have h2 : 10 ^ (tx L σ.i).length ≤ 10 ^ 18 := Nat.pow_le_pow_right (by omega) hl
      show val (tx L σ.i) < 1000000000000000000
      omega
    · rw [if_neg hk]; show 0 < _; omega
theorem Px.variableR_lt {L : List Lx.Tok} {n kind i st : Nat} (h : (variableR L n kind ⟨i, st, none⟩).2.bad = none) : n ≠ 20 ∧ i < (variableR L n kind ⟨i, st, none⟩).2.i := by
  by_cases hn : n = 20
  · subst hn; rw [variable_full] at h; exact absurd h (by simp)
  · refine ⟨hn, ?_⟩
    cases hp : variable_ L kind i with
    | error f => rw [(variable_sim n kind hn).err i st f hp] at h; exact absurd h (by simp)
    | ok q =>
      obtain ⟨a, j⟩ := q
      rw [(variable_sim n kind hn).ok i st a j hp]
      exact variable_lt hp
theorem Px.regionR_lt {L : List Lx.Tok} {k i st : Nat} (h : (regionR L k ⟨i, st, none⟩).2.bad = none) : i < (regionR L k ⟨i, st, none⟩).2.i := by
  cases hp : region L k st i with
  | error f => rw [(region_sim k).err i st f hp] at h; exact absurd h (by simp)
  | ok q =>
    obtain ⟨a, c, j⟩ := q
    rw [(region_sim k).ok i st a c j hp]
    exact region_lt _ _ _ _ _ _ hp
/-- the chart is laid, with nothing in it -/
theorem ru_new {C : Ctx} {w0 w : World} {σ : S} {s : Str} (hr : RS C w σ) (hf : Fr w0.heap.size [] w0 w) (c0 : w.heap[w0.heap.size]? = some (.cells ZC 25 (0, 0))) (e0 : w.heap[w0.heap.size + 1]? = some (.cells #[.int .i64 0, .int .i64 0] 28 (0, 0))) (lo : w0.heap.size + 1 < C.rb) :
    RU C w0 w.heap.size (w.alloc (.cells #[.string ⟨s.toArray⟩, .slice none 0 0, .slice none 0 0] 25)) σ s [] [] := by
  have hz := lt_of_block e0
  have hal : Fr w.heap.size [] w (w.alloc (.cells #[.string ⟨s.toArray⟩, .slice none 0 0, .slice none 0 0] 25)) := (Fr.refl _ _ _).alloc (Nat.le_refl _) _
  refine ⟨hr.new _, hf.alloc (by omega) _, ?_, ?_, lo, hr.lts.1, _, _, [], [], heap_alloc_new w _, ⟨?_, ?_, ?_⟩⟩
  · rw [hal.block _ (by omega) (by simp)]; exact c0
  · rw [hal.block _ (by omega) (by simp)]; exact e0
  · intro x hx; simp only [List.mem_cons, List.not_mem_nil, or_false] at hx; rcases hx with rfl | rfl <;> exact World.ownsRow_nil _ _ _ _
  · simp [sDecl, sReg, Value.ownBlock]
  · intro x hx; simp only [List.mem_cons, List.not_mem_nil, or_false] at hx; rcases hx with rfl | rfl <;> rfl
theorem tokens_cap (s : ByteArray) (l : List Lx.Tok) (N : Nat) (hN : N = l.length + 1) (w : World) (hs : s.size ≤ 1000000) (hm : Fine w) (hok : Lx.Ok (bs s) l) :
    Calls Tryz.prog 34 #[.string s] w fun e w' => ∃ g cap, e = .returned (.tuple #[.slice (some ⟨g, 0, none⟩) N cap, .agg #[.int .i64 0, .int .i64 (-1)]]) ∧ Below w.heap.size w w' ∧ w.heap.size ≤ g ∧ g < w'.heap.size ∧ N ≤ cap ∧
      ∀ i t, (fin s l)[i]? = some t → w'.cell? ⟨g, i * 3, none⟩ = some (.int .i64 t.kind) ∧ w'.cell? ⟨g, i * 3 + 1, none⟩ = some (.string ⟨t.text.toArray⟩) ∧ w'.cell? ⟨g, i * 3 + 2, none⟩ = some (.int .i64 t.place) := by
  refine (tokens_any s w hs hm).mono ?_
  rintro e w' ⟨v, f, rfl, hb, ⟨l', hok', rfl, hown⟩ | ⟨e, q, hbad, _⟩⟩
  · obtain rfl := Lx.Ok_Ok hok hok'
    rw [← hN] at hown
    have hcap : ∀ g cap, v = .slice (some ⟨g, 0, none⟩) N cap → N ≤ cap := fun g cap hv => by
      rcases hown.2 with ⟨h1, _⟩ | ⟨g', cap', cur, h1, _, _, h2, _⟩
      · rw [hv] at h1; cases h1
      · rw [hv] at h1; injection h1 with _ _ h1; omega
    obtain ⟨g, cap, rfl, h1, h2, h3⟩ := toks_read (L := fin s l) (by rw [hN, fin_len]) (by omega) hown
    exact ⟨g, cap, rfl, hb, h1, h2, hcap g cap rfl, h3⟩
  · exact (Lx.Ok_Bad hok hbad).elim
/-- the document's reader is laid -/
theorem rparse_rs {s : ByteArray} {l : List Lx.Tok} {w W0 w1 : World} {g cap : Nat} (hok : Lx.Ok (bs s) l) (hb0 : Below w.heap.size w W0) (hz0 : W0.heap.size = w.heap.size + 2) (hb1 : Below W0.heap.size W0 w1) (hg1 : g < w1.heap.size) (hcap : l.length + 1 ≤ cap)
    (hg : ∀ i t, (fin s l)[i]? = some t → w1.cell? ⟨g, i * 3, none⟩ = some (.int .i64 t.kind) ∧ w1.cell? ⟨g, i * 3 + 1, none⟩ = some (.string ⟨t.text.toArray⟩) ∧ w1.cell? ⟨g, i * 3 + 2, none⟩ = some (.int .i64 t.place))
    (c1 : w1.heap[w.heap.size]? = some (.cells ZC 25 (0, 0))) (e1 : w1.heap[w.heap.size + 1]? = some (.cells #[.int .i64 0, .int .i64 0] 28 (0, 0))) :
    ∃ W2, W2 = (w1.alloc (.cells #[.int .i64 0, .int .i64 (-1)] 28)).alloc (.cells #[.slice (some ⟨g, 0, none⟩) (l.length + 1) cap, .int .i64 0, .int .i64 (-1), .int .i64 0] 98) ∧
      RS ⟨w1.heap.size + 1, g, cap, fin s l⟩ W2 ⟨0, 0, none⟩ ∧ Fr w.heap.size [] w W2 ∧ W2.heap[w.heap.size]? = some (.cells ZC 25 (0, 0)) ∧ W2.heap[w.heap.size + 1]? = some (.cells #[.int .i64 0, .int .i64 0] 28 (0, 0)) ∧ W2.heap.size = w1.heap.size + 2 ∧ w.heap.size + 2 ≤ w1.heap.size := by
  have hs1 := hb1.size
  have hB1 : Fr w.heap.size [] w w1 := Fr.of_below (hb0.trans (hb1.mono hb0.size)) []
  have hwf := wf_ok hok
  have hal : Fr w1.heap.size [] w1 ((w1.alloc (.cells #[.int .i64 0, .int .i64 (-1)] 28)).alloc (.cells #[.slice (some ⟨g, 0, none⟩) (l.length + 1) cap, .int .i64 0, .int .i64 (-1), .int .i64 0] 98)) := ((Fr.refl _ _ _).alloc (Nat.le_refl _) _).alloc (by simp) _
  refine ⟨_, rfl, ⟨⟨l.length + 1, cap, ?_, hcap, ?_⟩, fun k t hk => ?_, hwf.pos, hwf, e4_ok hok, Nat.lt_succ_of_lt hg1, fun f hf => absurd hf (by simp), by simp, fun _ => Nat.le_refl _⟩, hB1.trans (hal.mono hB1.size (by simp)), ?_, ?_, by simp, by omega⟩
  · rw [fin_len]; rfl
  · have := heap_alloc_new (w1.alloc (.cells #[.int .i64 0, .int .i64 (-1)] 28)) (.cells #[.slice (some ⟨g, 0, none⟩) (l.length + 1) cap, .int .i64 0, .int .i64 (-1), .int .i64 0] 98)
    simpa [rfC, errV, plV] using this
  · have hb := hal.block g hg1 (by simp)
    have := hg k t hk
    rw [World.cell?_of_block (w := w1) (a := ⟨g, k * 3, none⟩) hb, World.cell?_of_block (w := w1) (a := ⟨g, k * 3 + 1, none⟩) hb, World.cell?_of_block (w := w1) (a := ⟨g, k * 3 + 2, none⟩) hb]
    exact this
  · rw [hal.block _ (by omega) (by simp)]; exact c1
  · rw [hal.block _ (by omega) (by simp)]; exact e1
end Go.Proofs.YtanlfmhlohcmgaaGreatDoor
