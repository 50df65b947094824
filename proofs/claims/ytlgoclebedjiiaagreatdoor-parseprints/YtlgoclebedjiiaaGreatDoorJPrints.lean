/- ParsePrints: the law's walk. -/
import Derived.Test.YtlgoclebedjiiaaGreatDoorJXr7
import Derived.Test.YtlgoclebedjiiaaGreatDoorJBnd2
import Derived.Test.YtlgoclebedjiiaaGreatDoorJDraws2
namespace Go.Proofs.YtlgoclebedjiiaaGreatDoor
open Go.RowKit Go.Lib Go.Sort Px

set_option maxRecDepth 100000 in
set_option maxHeartbeats 2000000 in
/-- of a text that draws no chart -/
theorem prints_off (s : ByteArray) (w : World) (ev q : Int) (hne : ¬ (ev = 0 ∧ q = -1)) (hv : Vars w)
    (hd : Calls Tryz.prog 8 #[.string s] w fun e w' => e = .returned (.tuple #[.agg #[.string ⟨#[]⟩, .slice none 0 0, .slice none 0 0], .agg #[.int .i64 ev, .int .i64 q], .bool true]) ∧ Below w.heap.size w w') :
    Calls Tryz.prog 4 #[.string s] w fun e w' => e = .returned (.bool true) ∧ Below w.heap.size w w' := by
  have hq : ev = 0 → ¬ q = -1 := fun h h' => hne ⟨h, h'⟩
  clear hne
  have hV : Hid (Vars w) := hv
  clear hv
  go_enter Tryz.func4, Tryz.ntmps4
  go_upto_region 2 with (go_at_call 8; refine hd.mono ?_; rintro e w1 ⟨rfl, hb1⟩)
  have hb2 : Hid (Below w.heap.size w ((w1.alloc (.cells #[.string ⟨#[]⟩, .slice none 0 0, .slice none 0 0] 25)).alloc (.cells #[.int .i64 ev, .int .i64 q] 28))) := (hb1.alloc hb1.size _).alloc (by have := hb1.size; simp; omega) _
  have hfb : ((w1.alloc (.cells #[.string ⟨#[]⟩, .slice none 0 0, .slice none 0 0] 25)).alloc (.cells #[.int .i64 ev, .int .i64 q] 28)).heap[w1.heap.size + 1]? = some (.cells #[.int .i64 ev, .int .i64 q] 28 (0, 0)) := by
    have := heap_alloc_new (w1.alloc (.cells #[.string ⟨#[]⟩, .slice none 0 0, .slice none 0 0] 25)) (.cells #[.int .i64 ev, .int .i64 q] 28)
    simpa using this
  generalize (w1.alloc (.cells #[.string ⟨#[]⟩, .slice none 0 0, .slice none 0 0] 25)).alloc (.cells #[.int .i64 ev, .int .i64 q] 28) = W at hb2 hfb ⊢
  obtain ⟨f0, f1⟩ := (hV.out.up hb2.out).fine
  obtain ⟨y0, -⟩ := cel hfb 0 _ rfl
  obtain ⟨y1, -⟩ := cel hfb 1 _ rfl
  by_cases he : ev = 0
  · have hq1 := hq he
    clear hq
    subst he
    go_wp2_with fail
    go_ret
    exact ⟨rfl, hb2.out⟩
  · clear hq
    go_wp2_with fail
    go_ret
    exact ⟨rfl, hb2.out⟩

/-- what is in a row of states, as the law's loop reads it -/
def ExLook (w : World) (r : List (St 6)) (v : Value) : Prop :=
  (r = [] ∧ ∃ ao cap, v = .slice ao 0 cap) ∨ ∃ g cap, v = .slice (some ⟨g, 0, none⟩) r.length cap ∧ r.length ≤ maxLen ∧ ∀ (i : Nat) (a : St 6), r[i]? = some a → ∃ (u : Option Addr) (X : Str), w.cell? ⟨g, i * 9 + 6, none⟩ = some (.pointer u) ∧
    (∀ W1, Below w.heap.size w W1 → Calls Tryz.prog 11 #[.pointer u] W1 fun e w' => e = .returned (.string ⟨X.toArray⟩) ∧ Below W1.heap.size W1 w') ∧
    (∀ W1, Below w.heap.size w W1 → Calls Tryz.prog 12 #[.pointer u, .int .i64 0] W1 fun e w' => e = .returned (.string ⟨X.toArray⟩) ∧ Below W1.heap.size W1 w')
theorem ex_look {A : Nat → Prop} {w : World} {r : List (St 6)} {v : Value} (hE : PEnv w) (hG : ∀ x ∈ r, Px.OkSt 6 x) (hl : ∀ x ∈ r, ∀ least, (exprT (StF.rests x) least).length ≤ 1000000) (h : IsStates A w 6 r v) : ExLook w r v := by
  obtain ⟨xs, hr, hrs⟩ := h
  have hk9 : ∀ (a : StF (St 5)) (c : List Value), StC A w (IsStates A w 5) a c → c.length = 9 := fun a c ⟨_, _, _, _, _, _, hc, _⟩ => by rw [hc]; rfl
  rcases Row.recs hk9 hr hrs with ⟨h, ao, cap, rfl⟩ | ⟨g, cap, rfl, h2, h3, h4, h5, h6⟩
  · exact .inl ⟨h, _, _, rfl⟩
  · refine .inr ⟨g, cap, rfl, h3, fun i a hi => ?_⟩
    obtain ⟨c, hc, hx⟩ := h6 i a hi
    obtain ⟨e3, e4, e5, p, y, e8, rfl, q3, q4, q5, q6, q7, q8⟩ := hc
    obtain ⟨u, rfl⟩ := q6.pt
    have hm := List.mem_of_getElem? hi
    have hg : GoodE (StF.rests a) := (hG a hm).1.2.2.2.1
    have hl0 := hl a hm 0
    exact ⟨u, exprT (StF.rests a) 0, hx 6 _ rfl, fun W1 hb1 => pexpr_any hg (q6.carry (keep_below hb1)) (hE.up hb1) (by omega), fun W1 hb1 => xexpr_ok _ hg A W1 (.pointer u) 0 (q6.carry (keep_below hb1)) (by omega) (hE.up hb1) (by omega)⟩

set_option maxRecDepth 100000 in
set_option maxHeartbeats 4000000 in
theorem prints_ok (s : ByteArray) (w : World) (c : Chart) (PT : Str) (hv : Vars w)
    (hd : Calls Tryz.prog 8 #[.string s] w fun e w1 => ∃ a n m b n' m', e = .returned (.tuple #[.agg #[.string ⟨c.name.toArray⟩, .slice a n m, .slice b n' m'], .agg #[.int .i64 0, .int .i64 (-1)], .bool true]) ∧ Below w.heap.size w w1 ∧
      (∀ W1, Below w1.heap.size w1 W1 → Calls Tryz.prog 9 #[.agg #[.string ⟨c.name.toArray⟩, .slice a n m, .slice b n' m']] W1 fun e w' => e = .returned (.string ⟨PT.toArray⟩) ∧ Below W1.heap.size W1 w') ∧
      (∀ W1, Below w1.heap.size w1 W1 → Calls Tryz.prog 10 #[.agg #[.string ⟨c.name.toArray⟩, .slice a n m, .slice b n' m']] W1 fun e w' => e = .returned (.string ⟨PT.toArray⟩) ∧ Below W1.heap.size W1 w') ∧
      (n' = 0 ∨ ∃ g, b = some ⟨g, 0, none⟩ ∧ n' = c.regions.length ∧ n' ≤ maxLen ∧ ∀ (i : Nat) (r : List (St 6)), c.regions[i]? = some r → ∃ u, w1.cell? ⟨g, i, none⟩ = some u ∧ ExLook w1 r u)) :
    Calls Tryz.prog 4 #[.string s] w fun e w' => e = .returned (.bool true) ∧ Below w.heap.size w w' := by
  have hV : Hid (Vars w) := hv
  clear hv
  go_enter Tryz.func4, Tryz.ntmps4
  go_upto_region 2 with (go_at_call 8; refine hd.mono ?_; rintro e w1 ⟨a, n, m, b, n', cap, rfl, hb1, hp1, hp2, hor⟩; replace hp1 : Hid _ := hp1; replace hp2 : Hid _ := hp2; replace hor : Hid _ := hor)
  rcases hor.out with h0 | ⟨g, rfl, hnn, hm, R⟩
  · subst h0
    clear hor
    obtain ⟨ao, hao⟩ : ∃ ao, Hid (ao = b) := ⟨_, rfl⟩
    rw [← hao.out] at hp1 hp2 ⊢
    have hb2 : Hid (Below w1.heap.size w1 ((w1.alloc (.cells #[.string ⟨c.name.toArray⟩, .slice a n m, .slice ao 0 cap] 25)).alloc (.cells #[.int .i64 0, .int .i64 (-1)] 28))) := ((Below.refl _ w1).alloc (Nat.le_refl _) _).alloc (by simp) _
    have hcb : ((w1.alloc (.cells #[.string ⟨c.name.toArray⟩, .slice a n m, .slice ao 0 cap] 25)).alloc (.cells #[.int .i64 0, .int .i64 (-1)] 28)).heap[w1.heap.size]? = some (.cells #[.string ⟨c.name.toArray⟩, .slice a n m, .slice ao 0 cap] 25 (0, 0)) := by
      rw [heap_alloc_old _ _ (by simp)]; exact heap_alloc_new w1 _
    have hfb : ((w1.alloc (.cells #[.string ⟨c.name.toArray⟩, .slice a n m, .slice ao 0 cap] 25)).alloc (.cells #[.int .i64 0, .int .i64 (-1)] 28)).heap[w1.heap.size + 1]? = some (.cells #[.int .i64 0, .int .i64 (-1)] 28 (0, 0)) := by
      have := heap_alloc_new (w1.alloc (.cells #[.string ⟨c.name.toArray⟩, .slice a n m, .slice ao 0 cap] 25)) (.cells #[.int .i64 0, .int .i64 (-1)] 28)
      simpa using this
    generalize (w1.alloc (.cells #[.string ⟨c.name.toArray⟩, .slice a n m, .slice ao 0 cap] 25)).alloc (.cells #[.int .i64 0, .int .i64 (-1)] 28) = W at hb2 hcb hfb ⊢
    have hbW : Hid (Below w.heap.size w W) := below_up hb1 hb2.out
    have hgl : Hid (w1.heap.size < W.heap.size) := by rw [Hid]; exact (Array.getElem?_eq_some_iff.1 hcb).1
    obtain ⟨gc, hgc⟩ : ∃ g, Hid (g = w1.heap.size) := ⟨_, rfl⟩
    rw [← hgc.out] at hcb hfb hgl ⊢
    have hbx : Hid (∀ wx, Below W.heap.size W wx → wx.heap[gc]? = some (.cells #[.string ⟨c.name.toArray⟩, .slice a n m, .slice ao 0 cap] 25 (0, 0))) := fun wx h => by rw [h.block _ hgl.out]; exact hcb
    have hw1 : Hid (∀ wx, Below W.heap.size W wx → Below w1.heap.size w1 wx) := fun wx h => below_up hb2.out h
    obtain ⟨f0, f1⟩ := (hV.out.up hbW.out).fine
    obtain ⟨y0, -⟩ := cel hfb 0 _ rfl
    obtain ⟨y1, -⟩ := cel hfb 1 _ rfl
    go_upto_region 4 with fail
    clear f0 f1 y0 y1
    have q0 := fun x os => cell_regrown (cel hcb 0 _ rfl).1 x os
    have q1 := fun x os => cell_regrown (cel hcb 1 _ rfl).1 x os
    have q2 := fun x os => cell_regrown (cel hcb 2 _ rfl).1 x os
    have hq1 := fun x os => Calls.regrown_of (hp1.out (grow (redrawn W x) os) (hw1.out _ (below_regrown _ x os)))
    have hq2 := fun x os => Calls.regrown_of (hp2.out (grow (redrawn W x) os) (hw1.out _ (below_regrown _ x os)))
    refine wp_region_quiet_below (by kernel_rfl) (by kernel_rfl) ?_
    repeat (quiet_step (first | (go_at_call 9; exact hq1 _ _) | (go_at_call 10; exact hq2 _ _)))
    refine wpQuiet_nil ?_
    intro _ hw'
    obtain ⟨⟨dq, osq⟩, hw''⟩ := hw'
    subst hw''
    have hB4 : Hid (Below W.heap.size W (grow (redrawn W dq) osq)) := below_regrown _ dq osq
    generalize grow (redrawn W dq) osq = W4 at hB4 ⊢
    clear q0 q1 q2 hq1 hq2
    go_wp2_with fail
    refine wp_loop_rounds 1 ?_
    rw [rounds_succ]
    obtain ⟨z2, -⟩ := cel (hbx.out W4 hB4.out) 2 _ rfl
    go_wp2_with fail
    go_ret
    exact ⟨rfl, below_up hbW.out hB4.out⟩

  · obtain ⟨N, hNe⟩ : ∃ N, Hid (N = n') := ⟨_, rfl⟩
    rw [← hNe.out] at hp1 hp2 hm hnn ⊢
    have hN : Hid (N = c.regions.length) := hnn
    have hN6 : (N : Int) ≤ 9223372036854775807 := by unfold maxLen at hm; omega
    replace R : Hid _ := R
    clear hor hm hnn
    have hb2 : Hid (Below w1.heap.size w1 ((w1.alloc (.cells #[.string ⟨c.name.toArray⟩, .slice a n m, .slice (some ⟨g, 0, none⟩) N cap] 25)).alloc (.cells #[.int .i64 0, .int .i64 (-1)] 28))) := ((Below.refl _ w1).alloc (Nat.le_refl _) _).alloc (by simp) _
    have hcb : ((w1.alloc (.cells #[.string ⟨c.name.toArray⟩, .slice a n m, .slice (some ⟨g, 0, none⟩) N cap] 25)).alloc (.cells #[.int .i64 0, .int .i64 (-1)] 28)).heap[w1.heap.size]? = some (.cells #[.string ⟨c.name.toArray⟩, .slice a n m, .slice (some ⟨g, 0, none⟩) N cap] 25 (0, 0)) := by
      rw [heap_alloc_old _ _ (by simp)]; exact heap_alloc_new w1 _
    have hfb : ((w1.alloc (.cells #[.string ⟨c.name.toArray⟩, .slice a n m, .slice (some ⟨g, 0, none⟩) N cap] 25)).alloc (.cells #[.int .i64 0, .int .i64 (-1)] 28)).heap[w1.heap.size + 1]? = some (.cells #[.int .i64 0, .int .i64 (-1)] 28 (0, 0)) := by
      have := heap_alloc_new (w1.alloc (.cells #[.string ⟨c.name.toArray⟩, .slice a n m, .slice (some ⟨g, 0, none⟩) N cap] 25)) (.cells #[.int .i64 0, .int .i64 (-1)] 28)
      simpa using this
    generalize (w1.alloc (.cells #[.string ⟨c.name.toArray⟩, .slice a n m, .slice (some ⟨g, 0, none⟩) N cap] 25)).alloc (.cells #[.int .i64 0, .int .i64 (-1)] 28) = W at hb2 hcb hfb ⊢
    have hbW : Hid (Below w.heap.size w W) := below_up hb1 hb2.out
    have hgl : Hid (w1.heap.size < W.heap.size) := by rw [Hid]; exact (Array.getElem?_eq_some_iff.1 hcb).1
    obtain ⟨gc, hgc⟩ : ∃ g, Hid (g = w1.heap.size) := ⟨_, rfl⟩
    rw [← hgc.out] at hcb hfb hgl ⊢
    have hbx : Hid (∀ wx, Below W.heap.size W wx → wx.heap[gc]? = some (.cells #[.string ⟨c.name.toArray⟩, .slice a n m, .slice (some ⟨g, 0, none⟩) N cap] 25 (0, 0))) := fun wx h => by rw [h.block _ hgl.out]; exact hcb
    have hw1 : Hid (∀ wx, Below W.heap.size W wx → Below w1.heap.size w1 wx) := fun wx h => below_up hb2.out h
    obtain ⟨f0, f1⟩ := (hV.out.up hbW.out).fine
    obtain ⟨y0, -⟩ := cel hfb 0 _ rfl
    obtain ⟨y1, -⟩ := cel hfb 1 _ rfl
    go_upto_region 4 with fail
    clear f0 f1 y0 y1
    have q0 := fun x os => cell_regrown (cel hcb 0 _ rfl).1 x os
    have q1 := fun x os => cell_regrown (cel hcb 1 _ rfl).1 x os
    have q2 := fun x os => cell_regrown (cel hcb 2 _ rfl).1 x os
    have hq1 := fun x os => Calls.regrown_of (hp1.out (grow (redrawn W x) os) (hw1.out _ (below_regrown _ x os)))
    have hq2 := fun x os => Calls.regrown_of (hp2.out (grow (redrawn W x) os) (hw1.out _ (below_regrown _ x os)))
    refine wp_region_quiet_below (by kernel_rfl) (by kernel_rfl) ?_
    repeat (quiet_step (first | (go_at_call 9; exact hq1 _ _) | (go_at_call 10; exact hq2 _ _)))
    refine wpQuiet_nil ?_
    intro _ hw'
    obtain ⟨⟨dq, osq⟩, hw''⟩ := hw'
    subst hw''
    have hB4 : Hid (Below W.heap.size W (grow (redrawn W dq) osq)) := below_regrown _ dq osq
    generalize grow (redrawn W dq) osq = W4 at hB4 ⊢
    clear q0 q1 q2 hq1 hq2
    go_wp2_with fail
    go_loopg [6] N (fun f i wr => ∃ j : Nat, f = N - j ∧ j ≤ N ∧ i = .int .i64 j ∧ Hid (Below W.heap.size W wr))
    case atStart => exact ⟨0, by omega, by omega, rfl, hB4⟩
    case round =>
      obtain ⟨j, rfl, hj, rfl, hr⟩ := hrel
      obtain ⟨z2, -⟩ := cel (hbx.out wr hr.out) 2 _ rfl
      by_cases hlt : j < N
      · obtain ⟨r, hjr⟩ : ∃ r, Hid (c.regions[j]? = some r) := ⟨c.regions[j]'(by rw [← hN.out]; exact hlt), by rw [Hid, List.getElem?_eq_getElem]⟩
        obtain ⟨u, x0, hu⟩ := R.out j r hjr.out
        have hx0 : Hid (∀ wx, Below W.heap.size W wx → wx.cell? ⟨g, j, none⟩ = some u) := fun wx h => by rw [(hw1.out _ h).cell (block_lt_of_cell x0)]; exact x0
        clear x0
        have hi0 : (0 : Int) ≤ (j : Int) := Int.natCast_nonneg _
        have hi1 : (j : Int) < (N : Int) := by omega
        rcases hu with ⟨hre, ua, uc, rfl⟩ | ⟨g2, uc, rfl, hm2, R2⟩
        · clear hre
          go_wp2_with fail
          refine wp_loop_rounds 1 ?_
          rw [rounds_succ]
          have x0 := hx0.out wr hr.out
          go_wp2_with fail
          go_roundg (N - (j + 1))
          case measure => omega
          case rel => exact ⟨j + 1, rfl, by omega, by go_num, hr⟩
        · obtain ⟨M, hM⟩ : ∃ M, Hid (M = r.length) := ⟨_, rfl⟩
          rw [← hM.out] at hx0 hm2
          have hM6 : (M : Int) ≤ 9223372036854775807 := by unfold maxLen at hm2; omega
          replace R2 : Hid _ := R2
          clear hm2
          go_wp2_with fail
          go_loopg [7] M (fun f i wx => ∃ q : Nat, f = M - q ∧ q ≤ M ∧ i = .int .i64 q ∧ Hid (Below W.heap.size W wx))
          case atStart => exact ⟨0, by omega, by omega, rfl, hr⟩
          case round =>
            obtain ⟨q, rfl, hq, rfl, hrx⟩ := hrel
            obtain ⟨z3, -⟩ := cel (hbx.out wr hrx.out) 2 _ rfl
            have x0 := hx0.out wr hrx.out
            by_cases hlq : q < M
            · obtain ⟨b, hqb⟩ : ∃ b, Hid (r[q]? = some b) := ⟨r[q]'(by rw [← hM.out]; exact hlq), by rw [Hid, List.getElem?_eq_getElem]⟩
              obtain ⟨u, X, x6, hc1, hc2⟩ := R2.out q b hqb.out
              rw [← (hw1.out _ hrx.out).cell (block_lt_of_cell x6)] at x6
              replace hc1 : Hid _ := hc1
              replace hc2 : Hid _ := hc2
              have i0 : (0 : Int) ≤ (q : Int) := Int.natCast_nonneg _
              have i1 : (q : Int) < (M : Int) := by omega
              go_wp2_with (first
                | (go_at_call 11; refine (Calls.mono (hc1.out wr (hw1.out _ hrx.out))) ?_; rintro _ w5 ⟨rfl, hB5⟩; replace hB5 : Hid (Below W.heap.size W w5) := below_up hrx.out hB5)
                | (go_at_call 12; refine (Calls.mono (hc2.out w5 (hw1.out _ hB5.out))) ?_; rintro _ w6 ⟨rfl, hB6⟩; replace hB6 : Hid (Below W.heap.size W w6) := below_up hB5.out hB6))
              go_roundg (M - (q + 1))
              case measure => omega
              case rel => exact ⟨q + 1, rfl, by omega, by go_num, hB6⟩
            · go_wp2_with fail
              go_roundg (N - (j + 1))
              case measure => omega
              case rel => exact ⟨j + 1, rfl, by omega, by go_num, hrx⟩
      · go_wp2_with fail
        go_ret
        exact ⟨rfl, below_up hbW.out hr.out⟩

theorem IsChart.up {A : Nat → Prop} {c : Chart} {W W' : World} {v : Value} (h : IsChart A W c v) (hb : Below W.heap.size W W') : IsChart A W' c v := by
  obtain ⟨a, n, m, a2, n2, m2, rfl, hv, hr⟩ := h
  exact ⟨a, n, m, a2, n2, m2, rfl, hv.carry (keep_below hb), hr.carry (keep_below hb) (IsStates.carry (keep_below hb) 6)⟩
/-- the law: of whatever text -/
theorem parsePrints_any (s : ByteArray) (w : World) (hv : Vars w) (hp : Lib.TabIs Tryz.prog w "internal/strconv.uint64pow10" .u64 Lib.pow10Tab) : Calls Tryz.prog 4 #[.string s] w fun e w' => e = .returned (.bool true) ∧ Below w.heap.size w w' := by
  have hE : PEnv w := ⟨hv.tabs, hp, hv.big⟩
  by_cases hs : s.size ≤ 1500
  · by_cases hok : ∃ l c, Lx.Ok (bs s) l ∧ chart (fin s l) = .ok c
    · obtain ⟨l, c, h1, h2⟩ := hok
      obtain ⟨k1, k2, k3⟩ := chart_w (wf_ok h1) h2
      refine prints_ok s w c (printT c) hv ((draws_ok s l c w hs hv h1 h2).mono ?_)
      rintro e w1 ⟨v, rfl, hc, hb⟩
      have hE1 := hE.up hb
      have hc0 := hc
      obtain ⟨a, n, m, b, n', m', rfl, hvs, hr⟩ := hc
      refine ⟨a, n, m, b, n', m', rfl, hb, fun W1 hb1 => print_any k1 (hc0.up hb1) (hE1.up hb1) (by omega), fun W1 hb1 => xprint_any k1 (hc0.up hb1) (hE1.up hb1) (by omega), ?_⟩
      obtain ⟨xs, hr1, hr2⟩ := hr
      rcases Row.recs (k := 1) (fun a c ⟨u, hc, _⟩ => by rw [hc]; rfl) hr1 hr2 with ⟨h, ao, cap, he⟩ | ⟨g, cap, he, z2, z3, z4, z5, z6⟩
      · injection he with _ he _
        exact .inl he
      · injection he with e1 e2 _
        refine .inr ⟨g, e1, e2, by rw [e2]; exact z3, fun i r hi => ?_⟩
        obtain ⟨c', ⟨u, rfl, hu⟩, hx⟩ := z6 i r hi
        have x0 := hx 0 _ rfl
        rw [Nat.mul_one, Nat.add_zero] at x0
        have hm := List.mem_of_getElem? hi
        exact ⟨u, x0, ex_look hE1 (k1.2 r hm) (k3 r hm) hu⟩
    · obtain ⟨ev, q, h⟩ := draws_bad s w hs hv (fun l c h => hok ⟨l, c, h⟩)
      exact prints_off s w ev q (by omega) hv h
  · exact prints_off s w 4 (-1) (by omega) hv (draws_big s w hs)
end Go.Proofs.YtlgoclebedjiiaaGreatDoor
