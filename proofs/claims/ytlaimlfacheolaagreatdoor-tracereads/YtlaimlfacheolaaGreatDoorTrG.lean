/- chapter 14: the document's reader of ticks. -/
import Derived.Test.YtlaimlfacheolaaGreatDoorTrG0
import Derived.Laws.Tables
namespace Go.Proofs.YtlaimlfacheolaaGreatDoor
open Go.RowKit
attribute [-go_sem] Builtin.append_
namespace Tq
open Nx (Ints lt_of_block)
abbrev ftT : TypeId := 26
theorem ck_set2 {w : World} {g : Nat} {l : List Value} {T : TypeId} {f : Nat × Nat} (h : w.heap[g]? = some (.cells l.toArray T f)) (k : Nat) (x : Value) : (w.setCell ⟨g, k, none⟩ x).heap[g]? = some (.cells (l.set k x).toArray T f) := by
  have hl := lt_of_block h
  have e : w.heap[g] = .cells l.toArray T f := by rw [Array.getElem?_eq_getElem hl] at h; exact Option.some.inj h
  simp only [World.setCell]
  rw [Array.getElem?_eq_getElem (by simpa using hl), Array.getElem_modify]
  simp [e]
theorem ck_frozen {w : World} {g : Nat} {l : Array Value} {T : TypeId} (h : w.heap[g]? = some (.cells l T (0, 0))) (k : Nat) : w.frozen? ⟨g, k, none⟩ = false := by
  simp [World.frozen?, h]
theorem sizeFt : (Tryz.prog.info? ftT).map (·.size) = some 2 := by kernel_rfl
theorem loadFt {W : World} {g : Nat} {a b : Value} (hg : W.heap[g]? = some (.cells #[a, b] ftT (0, 0))) : (loadVar ftT ⟨g, 0, none⟩).run Tryz.prog W = .ok (.agg #[a, b]) W :=
  run_loadVar_row (P := Tryz.prog) W g ftT ftT #[a, b] (0, 0) _ hg Tryz.underlying26 rfl sizeFt
theorem resRT (tmps : Array Value) (W : World) (q : Nat) (a b c : Value) (hp : tmps[3]?.getD undef = .pointer (some ⟨q, 0, none⟩)) (h2 : tmps[2]?.getD undef = a) (hq : W.heap[q]? = some (.cells #[b, c] ftT (0, 0))) :
    (results Tryz.f5 tmps).run Tryz.prog W = .ok (.tuple #[a, .agg #[b, c]]) W := by
  simp [results, Tryz.results5, hp, h2, asAddr, loadFt hq]
theorem resBare (tmps : Array Value) (W : World) (q : Nat) (b c : Value) (hp : tmps[2]?.getD undef = .pointer (some ⟨q, 0, none⟩)) (hq : W.heap[q]? = some (.cells #[b, c] ftT (0, 0))) :
    (results Tryz.f14 tmps).run Tryz.prog W = .ok (.agg #[b, c]) W := by
  simp [results, Tryz.results14, hp, asAddr, loadFt hq]
/-- the two cells of a fault are set -/
theorem set2 {w : World} {q : Nat} {a b : Value} {T : TypeId} (h : w.heap[q]? = some (.cells #[a, b] T (0, 0))) (x y : Value) {W : World} (hW : W = (w.setCell ⟨q, 0, none⟩ x).setCell ⟨q, 1, none⟩ y) :
    W.heap[q]? = some (.cells #[x, y] T (0, 0)) ∧ (∀ k, k ≠ q → W.heap[k]? = w.heap[k]?) ∧ W.heap.size = w.heap.size ∧ (∀ B a, Below B a w → B ≤ q → Below B a W) := by
  have h1 := ck_set2 (l := [a, b]) h 0 x
  have h2 := ck_set2 (l := [x, b]) h1 1 y
  subst hW
  refine ⟨h2, fun k hk => ?_, by simp [World.setCell], fun B a hb hB => ?_⟩
  · rw [Below.heap_setCell _ _ _ _ hk, Below.heap_setCell _ _ _ _ hk]
  · exact (hb.setCell (p := ⟨q, 0, none⟩) hB x).setCell (p := ⟨q, 1, none⟩) hB y
set_option maxRecDepth 100000 in
theorem bare_any (e : Int) (w : World) : Calls Tryz.prog 14 #[.int .i64 e] w fun ev w' => ev = .returned (.agg #[.int .i64 e, .int .i64 (-1)]) ∧ Hid (Below w.heap.size w w') := by
  obtain ⟨U, hU⟩ : ∃ U, U = w.alloc (.cells #[.int .i64 0, .int .i64 0] ftT) := ⟨_, rfl⟩
  have kU : U.heap[w.heap.size]? = some (.cells #[.int .i64 0, .int .i64 0] ftT (0, 0)) := by rw [hU]; exact ck_new w _
  have bU : Below w.heap.size w U := by rw [hU]; exact ck_grown w _
  have rf := fun o => ck_frozen kU o
  have z0 := cell_row kU 0 (u := .int .i64 0) rfl
  have z1 := cell_row kU 1 (u := .int .i64 0) rfl
  obtain ⟨q, hq⟩ : ∃ q, q = w.heap.size := ⟨_, rfl⟩
  have HH : Hid (U.heap[q]? = some (.cells #[.int .i64 0, .int .i64 0] ftT (0, 0)) ∧ Below w.heap.size w U ∧ q = w.heap.size) := ⟨by rw [hq]; exact kU, bU, hq⟩
  rw [← hq] at rf z0 z1
  clear kU bU
  go_enter Tryz.func14, Tryz.ntmps14
  go_upto_region 1 with fail
  rw [← hU, ← hq]
  clear hU hq
  go_wp2_with fail
  obtain ⟨X, hX⟩ : ∃ X, X = (U.setCell ⟨q, 0, none⟩ (.int .i64 e)).setCell ⟨q, 1, none⟩ (.int .i64 (-1)) := ⟨_, rfl⟩
  rw [← hX]
  obtain ⟨y0, _, _, y3⟩ := set2 HH.out.1 _ _ hX
  clear hX
  refine bodyPost_ret (resBare _ X q _ _ rfl y0) rfl ⟨rfl, ?_⟩
  exact y3 _ _ HH.out.2.1 (by have := HH.out.2.2; omega)
/-- what the document's reader makes -/
def RefO (w w' : World) (l : By) (v : Value) (f : Int × Int) : Prop :=
  Below w.heap.size w w' ∧ match readT l with
    | .ok rows => f = (0, -1) ∧ OutR w.heap.size w' v rows
    | .error g => f = g ∧ v = .slice none 0 0
set_option maxRecDepth 100000 in
set_option maxHeartbeats 4000000 in
theorem refRead_nil {w : World} (hF0 : w.cell? ⟨0, 0, none⟩ = some (.int .i64 0)) (hF1 : w.cell? ⟨0, 1, none⟩ = some (.int .i64 (-1))) :
    Calls Tryz.prog 5 #[.string (st [])] w fun e w' => ∃ ad n cap f0 f1, e = .returned (.tuple #[.slice ad n cap, .agg #[.int .i64 f0, .int .i64 f1]]) ∧ Hid (RefO w w' [] (.slice ad n cap) (f0, f1)) := by
  obtain ⟨U, hU⟩ : ∃ U, U = w.alloc (.cells #[.int .i64 0, .int .i64 0] ftT) := ⟨_, rfl⟩
  have kU : U.heap[w.heap.size]? = some (.cells #[.int .i64 0, .int .i64 0] ftT (0, 0)) := by rw [hU]; exact ck_new w _
  have bU : Below w.heap.size w U := by rw [hU]; exact ck_grown w _
  have rf := fun o => ck_frozen kU o
  have z0 := cell_row kU 0 (u := .int .i64 0) rfl
  have z1 := cell_row kU 1 (u := .int .i64 0) rfl
  have f0 := ck_cell bU hF0
  have f1 := ck_cell bU hF1
  obtain ⟨q, hq⟩ : ∃ q, q = w.heap.size := ⟨_, rfl⟩
  have HH : Hid (U.heap[q]? = some (.cells #[.int .i64 0, .int .i64 0] ftT (0, 0)) ∧ Below w.heap.size w U ∧ q = w.heap.size) := ⟨by rw [hq]; exact kU, bU, hq⟩
  rw [← hq] at rf z0 z1
  clear kU bU hF0 hF1
  go_enter Tryz.func5, Tryz.ntmps5
  go_upto_region 1 with fail
  rw [← hU, ← hq]
  clear hU hq
  go_upto_region 3 with fail
  go_region
  all_goals
    go_wp2_with fail
    obtain ⟨X, hX⟩ : ∃ X, X = (U.setCell ⟨q, 0, none⟩ (.int .i64 0)).setCell ⟨q, 1, none⟩ (.int .i64 (-1)) := ⟨_, rfl⟩
    rw [← hX]
    obtain ⟨y0, _, _, y3⟩ := set2 HH.out.1 _ _ hX
    clear hX
    refine bodyPost_ret (resRT _ X.drew q _ _ _ rfl rfl y0) rfl ⟨none, 0, 0, 0, -1, rfl, (y3 _ _ HH.out.2.1 (by have := HH.out.2.2; omega)).drew, ?_⟩
    have : readT [] = .ok [] := by unfold readT; rw [lines_nil]; rfl
    rw [this]
    exact ⟨rfl, OutR.nil _ _⟩
set_option maxRecDepth 100000 in
set_option maxHeartbeats 8000000 in
theorem refRead_any {l : By} (h0 : l ≠ []) (hl : l.length ≤ 40000) {w : World} (hg : GV w) (hF0 : w.cell? ⟨0, 0, none⟩ = some (.int .i64 0)) (hF1 : w.cell? ⟨0, 1, none⟩ = some (.int .i64 (-1))) :
    Calls Tryz.prog 5 #[.string (st l)] w fun e w' => ∃ ad n cap f0 f1, e = .returned (.tuple #[.slice ad n cap, .agg #[.int .i64 f0, .int .i64 f1]]) ∧ Hid (RefO w w' l (.slice ad n cap) (f0, f1)) := by
  obtain ⟨U, hU⟩ : ∃ U, U = w.alloc (.cells #[.int .i64 0, .int .i64 0] ftT) := ⟨_, rfl⟩
  have kU : U.heap[w.heap.size]? = some (.cells #[.int .i64 0, .int .i64 0] ftT (0, 0)) := by rw [hU]; exact ck_new w _
  have bU : Below w.heap.size w U := by rw [hU]; exact ck_grown w _
  have gU : GV U := hg.below bU hg.big
  have hls := refLines_any h0 (by omega) gU
  obtain ⟨q, hq⟩ : ∃ q, q = w.heap.size := ⟨_, rfl⟩
  obtain ⟨s, hs⟩ : ∃ s, s = st l := ⟨_, rfl⟩
  have hemp : s.toList.isEmpty = false := by
    rw [Lib.toList_data, hs]
    simpa using h0
  obtain ⟨ls, hll⟩ : ∃ ls, ls = linesT l := ⟨_, rfl⟩
  obtain ⟨n, hn⟩ : ∃ n, n = ls.length := ⟨_, rfl⟩
  have hn5 : n ≤ 40001 := by rw [hn, hll]; have := ln_len l []; unfold linesT; omega
  have HH : Hid (U.heap[q]? = some (.cells #[.int .i64 0, .int .i64 0] ftT (0, 0)) ∧ Below w.heap.size w U ∧ q = w.heap.size ∧ GV U) := ⟨by rw [hq]; exact kU, bU, hq, gU⟩
  have HL : Hid (ls = linesT l ∧ n = ls.length ∧ (∀ k, k < n → (ls.getD k []).length ≤ 40000)) := ⟨hll, hn, fun k hk => by rw [hll]; exact Nat.le_trans (line_size (by rw [← hll]; omega)) hl⟩
  have HF : Hid (U.cell? ⟨0, 0, none⟩ = some (.int .i64 0) ∧ U.cell? ⟨0, 1, none⟩ = some (.int .i64 (-1))) := ⟨ck_cell bU hF0, ck_cell bU hF1⟩
  rw [← hs, ← hll, ← hn] at hls
  rw [← hs]
  clear kU bU hF0 hF1 gU hg hl h0 hs hll hn
  go_enter Tryz.func5, Tryz.ntmps5
  go_upto_region 1 with fail
  rw [← hU, ← hq]
  clear hU hq
  go_wp2_with (go_at_call 11; refine hls.mono ?_; rintro e w1 ⟨aL, cL, rfl, HLs⟩; clear hls hemp)
  obtain ⟨bL, oL, hLa, hLc⟩ : ∃ bL oL, (0 < n → aL = some ⟨bL, oL, none⟩) ∧ ∀ k, k < n → w1.cell? ⟨bL, oL + k, none⟩ = some (.string (st (ls.getD k []))) := by
    obtain ⟨ad, b, off, cap, he, h1, h2⟩ := HLs.out.1
    injection he with e1 e2 e3
    subst e1
    exact ⟨b, off, fun hp => (h1 (by omega)).1, fun k hk => h2 k (by omega)⟩
  have HC : Hid ((0 < n → aL = some ⟨bL, oL, none⟩) ∧ (∀ k, k < n → w1.cell? ⟨bL, oL + k, none⟩ = some (.string (st (ls.getD k [])))) ∧ Below U.heap.size U w1) := ⟨hLa, hLc, HLs.out.2⟩
  clear hLa hLc HLs
  go_loopw [4, 18] (fun v i wr => ∃ (k : Nat) (rs : List (List Int)), k ≤ n ∧ i = .int .i64 k ∧ Hid (rs.length = k ∧ k ≤ 60 ∧ rdT 0 ls = glue rs (rdT k (ls.drop k)) ∧ OutR w1.heap.size wr v rs ∧ Below w1.heap.size w1 wr)) (fun _ i _ => n - (intOf i).toNat)
  case atStart => exact ⟨0, [], Nat.zero_le _, rfl, rfl, Nat.zero_le _, by rw [List.drop_zero]; cases rdT 0 ls <;> rfl, OutR.nil _ _, Below.refl _ _⟩
  case round =>
    obtain ⟨k, rs, hk, rfl, HR⟩ := hrel
    obtain ⟨a4, c4, hform⟩ := HR.out.2.2.2.1.form
    subst hform
    have HR' : Hid (rs.length = k ∧ k ≤ 60 ∧ rdT 0 ls = glue rs (rdT k (ls.drop k)) ∧ OutR w1.heap.size wr (.slice a4 k c4) rs ∧ Below w1.heap.size w1 wr) := by
      have := HR.out
      exact ⟨this.1, this.2.1, this.2.2.1, by rw [← this.1]; rw [← this.1] at this; exact this.2.2.2.1, this.2.2.2.2⟩
    rw [HR.out.1]
    have hk60 := HR'.out.2.1
    clear HR
    by_cases hlt : k < n
    · have hix := ixStr aL bL oL n cL k hlt HC.out.1
      obtain ⟨x, hx⟩ : ∃ x, x = ls.getD k [] := ⟨_, rfl⟩
      have cx : wr.cell? ⟨bL, oL + k, none⟩ = some (.string (st x)) := by rw [hx]; exact ck_cell HR'.out.2.2.2.2 (HC.out.2.1 k hlt)
      have hxl : x.length ≤ 40000 := by rw [hx]; exact HL.out.2.2 k hlt
      have hgr : GV wr := (HH.out.2.2.2.below HC.out.2.2 HH.out.2.2.2.big).below HR'.out.2.2.2.2 (by have := HH.out.2.2.2.big; have := HC.out.2.2.size; omega)
      have hws := refWords_any (l := x) (by omega) hgr
      obtain ⟨sx, hsx⟩ : ∃ sx, sx = st x := ⟨_, rfl⟩
      obtain ⟨nw, hnw⟩ : ∃ nw, nw = (wordsT x).length := ⟨_, rfl⟩
      have hnw5 : nw ≤ 40001 := by rw [hnw]; have := wl_len x []; unfold wordsT; omega
      rw [← hsx, ← hnw] at hws
      rw [← hsx] at cx
      have HX : Hid (x = ls.getD k [] ∧ GV wr ∧ nw = (wordsT x).length ∧ x.length ≤ 40000) := ⟨hx, hgr, hnw, hxl⟩
      clear hx hsx hgr hxl hnw
      go_wp2_with (go_at_call 12; refine hws.mono ?_; rintro e w2 ⟨aW, cW, rfl, HWs⟩; clear hws)
      obtain ⟨bW, oW, hWa, hWc⟩ : ∃ bW oW, (0 < nw → aW = some ⟨bW, oW, none⟩) ∧ ∀ j, j < nw → w2.cell? ⟨bW, oW + j, none⟩ = some (.string (st ((wordsT x).getD j []))) := by
        obtain ⟨ad, b, off, cap, he, h1, h2⟩ := HWs.out.1
        injection he with e1 e2 e3
        subst e1
        exact ⟨b, off, fun hp => (h1 (by omega)).1, fun k hk => h2 k (by omega)⟩
      have HW : Hid ((0 < nw → aW = some ⟨bW, oW, none⟩) ∧ (∀ j, j < nw → w2.cell? ⟨bW, oW + j, none⟩ = some (.string (st ((wordsT x).getD j [])))) ∧ Below wr.heap.size wr w2 ∧ Below w1.heap.size w1 w2 ∧ OutR w1.heap.size w2 (.slice a4 k c4) rs ∧ GV w2) := ⟨hWa, hWc, HWs.out.2, HR'.out.2.2.2.2.trans (HWs.out.2.mono HR'.out.2.2.2.2.size), HR'.out.2.2.2.1.below HWs.out.2, HX.out.2.1.below HWs.out.2 HX.out.2.1.big⟩
      clear hWa hWc HWs
      go_loopw [7, 26] (fun r j wq => ∃ (m : Nat) (zs : List Int), m ≤ nw ∧ j = .int .i64 m ∧ Hid (numsW ((wordsT x).take m) = some zs ∧ wq.ownsRow w2.heap.size 2 1 r m (zs.map (Value.int .i64)) ∧ Below w2.heap.size w2 wq ∧ zs.length = m)) (fun _ j _ => nw - (intOf j).toNat)
      case atStart => exact ⟨0, [], Nat.zero_le _, rfl, rfl, World.ownsRow_nil _ _ _ _, Below.refl _ _, rfl⟩
      case round =>
        obtain ⟨m, zs, hm, rfl, HI⟩ := hrel
        obtain ⟨a7, c7, hform7⟩ := ownForm HI.out.2.1
        subst hform7
        by_cases hmt : m < nw
        · have hiy := ixStr aW bW oW nw cW m hmt HW.out.1
          obtain ⟨y, hy⟩ : ∃ y, y = (wordsT x).getD m [] := ⟨_, rfl⟩
          have cy : wr.cell? ⟨bW, oW + m, none⟩ = some (.string (st y)) := by rw [hy]; exact ck_cell HI.out.2.2.1 (HW.out.2.1 m hmt)
          have hml : m < (wordsT x).length := by rw [← HX.out.2.2.1]; exact hmt
          have hyl : y.length ≤ 40000 := by rw [hy]; exact Nat.le_trans (word_size hml) HX.out.2.2.2
          have hgq : GV wr := HW.out.2.2.2.2.2.below HI.out.2.2.1 HW.out.2.2.2.2.2.big
          have hnum := refNum_any (x := y) (by omega) hgq
          obtain ⟨sy, hsy⟩ : ∃ sy, sy = st y := ⟨_, rfl⟩
          obtain ⟨ob, hob⟩ : ∃ ob, ob = (numW y).isSome := ⟨_, rfl⟩
          rw [← hsy, ← hob] at hnum
          rw [← hsy] at cy
          have HBq : Hid (Below U.heap.size U wr) := ck_all (ck_all (ck_all HC.out.2.2 HR'.out.2.2.2.2) HW.out.2.2.1) HI.out.2.2.1
          cases hny : numW y with
          | none =>
            obtain rfl : ob = false := by rw [hob, hny]; rfl
            have HY : Hid (numsW (wordsT x) = none) := nums_stop _ m hml (by rw [← hy]; exact hny)
            clear hy hml hyl hgq hsy hob hny hix cx
            go_wp2_with (go_at_call 13; refine hnum.mono ?_; rintro e w3 ⟨nn, rfl, _, h3⟩; clear hnum
                         have kq : w3.heap[q]? = some (.cells #[.int .i64 0, .int .i64 0] ftT (0, 0)) := ck_block (ck_all HBq.out h3.out) HH.out.1
                         have KQ : Hid _ := kq
                         have rf := fun o => ck_frozen kq o
                         have z0 := cell_row kq 0 (u := .int .i64 0) rfl
                         have z1 := cell_row kq 1 (u := .int .i64 0) rfl
                         clear kq)
            obtain ⟨X, hX⟩ : ∃ X, X = (w3.setCell ⟨q, 0, none⟩ (.int .i64 3)).setCell ⟨q, 1, none⟩ (.int .i64 (k : Int)) := ⟨_, rfl⟩
            rw [← hX]
            obtain ⟨y0, _, _, y3⟩ := set2 KQ.out _ _ hX
            clear hX
            refine bodyPost_ret (resRT _ X q _ _ _ rfl rfl y0) rfl ⟨none, 0, 0, 3, (k : Int), rfl, y3 _ _ (ck_all HH.out.2.1 (ck_all HBq.out h3.out)) (by have := HH.out.2.2.1; omega), ?_⟩
            have : readT l = .error (3, (k : Int)) := by
              unfold readT
              rw [← HL.out.1]
              exact rd_form (by rw [← HL.out.2.1]; exact hlt) HR'.out.2.2.1 (by rw [← HX.out.1]; exact HY.out)
            rw [this]
            exact ⟨rfl, rfl⟩
          | some v =>
            obtain rfl : ob = true := by rw [hob, hny]; rfl
            have HY : Hid (numsW ((wordsT x).take (m + 1)) = some (zs ++ [v]) ∧ (∀ u, numW y = some u → u = v)) := ⟨by rw [nums_take hml HI.out.1, ← hy, hny]; rfl, fun u hu => by rw [hny] at hu; exact (Option.some.inj hu).symm⟩
            clear hy hml hyl hgq hsy hob hix cx
            go_wp2_with (go_at_call 13; refine hnum.mono ?_; rintro e w3 ⟨nn, rfl, hnn, h3⟩; clear hnum
                         obtain rfl : nn = v := hnn v hny
                         clear hnn hny
                         obtain ⟨g, cap5, w5, hr, hown5, _, _, hb5⟩ := appV Tryz.underlying36 infoI rfl (by decide) (w := w3) (B := w2.heap.size) (v := .slice a7 m c7) (n := m) (xs := zs.map (Value.int .i64)) (Okeep HI.out.2.1 h3.out) (.int .i64 nn) rfl (Nat.le_trans HI.out.2.2.1.size h3.out.size) (by omega)
                         have H5 : Hid (w5.ownsRow w2.heap.size 2 1 (.slice (some ⟨g, 0, none⟩) (m + 1) cap5) (m + 1) (zs.map (Value.int .i64) ++ [.int .i64 nn]) ∧ Below w2.heap.size w2 w5) := ⟨hown5, (ck_all HI.out.2.2.1 h3.out).trans hb5⟩
                         clear hown5 hb5)
            go_roundw
            case rel => exact ⟨m + 1, zs ++ [nn], by omega, by go_num, HY.out.1, by rw [List.map_append]; exact H5.out.1, H5.out.2, by rw [List.length_append, HI.out.2.2.2]; rfl⟩
            case measure => simp [intOf]; omega
        · obtain rfl : m = nw := by omega
          have HZ : Hid (numsW (wordsT x) = some zs) := by
            have := HI.out.1
            rw [HX.out.2.2.1, List.take_length] at this
            exact this
          have HBq : Hid (Below U.heap.size U wr) := ck_all (ck_all (ck_all HC.out.2.2 HR'.out.2.2.2.2) HW.out.2.2.1) HI.out.2.2.1
          clear hix cx
          by_cases h60 : k = 60
          · have h60' : (60 : Int) ≤ (k : Int) := by omega
            have H60 : Hid (k = 60) := h60
            have hba := bare_any 4 wr
            clear h60
            go_wp2_with (go_at_call 14; refine hba.mono ?_; rintro e w3 ⟨rfl, h3⟩; clear hba
                         have kq : w3.heap[q]? = some (.cells #[.int .i64 0, .int .i64 0] ftT (0, 0)) := ck_block (ck_all HBq.out h3.out) HH.out.1
                         have KQ : Hid _ := kq
                         have rf := fun o => ck_frozen kq o
                         have z0 := cell_row kq 0 (u := .int .i64 0) rfl
                         have z1 := cell_row kq 1 (u := .int .i64 0) rfl
                         clear kq)
            obtain ⟨X, hX⟩ : ∃ X, X = (w3.setCell ⟨q, 0, none⟩ (.int .i64 4)).setCell ⟨q, 1, none⟩ (.int .i64 (-1)) := ⟨_, rfl⟩
            rw [← hX]
            obtain ⟨y0, _, _, y3⟩ := set2 KQ.out _ _ hX
            clear hX
            refine bodyPost_ret (resRT _ X q _ _ _ rfl rfl y0) rfl ⟨none, 0, 0, 4, -1, rfl, y3 _ _ (ck_all HH.out.2.1 (ck_all HBq.out h3.out)) (by have := HH.out.2.2.1; omega), ?_⟩
            have : readT l = .error (4, -1) := by
              unfold readT
              rw [← HL.out.1]
              exact rd_many (by rw [← HL.out.2.1]; exact hlt) HR'.out.2.2.1 (by rw [← HX.out.1]; exact HZ.out) H60.out
            rw [this]
            exact ⟨rfl, rfl⟩
          · have h60' : (k : Int) < 60 := by omega
            have hrow := HR'.out.1
            obtain ⟨gg, cap5, w5, hr, hO5, hb5, _, _⟩ := OutR.more (S := w1.heap.size) (w := wr) (v := .slice a4 k c4) (u := .slice a7 m c7) (rows := rs) (zs := zs) (HW.out.2.2.2.2.1.below HI.out.2.2.1) (by
              have hz := HI.out.2.2.2
              have h1 := ownInts (zs := zs) (by rw [hz]; exact HI.out.2.1)
              refine h1.carry fun b hA hl => ⟨⟨by have := HW.out.2.2.2.1.size; omega, hl, fun e => ?_⟩, rfl⟩
              obtain ⟨xs, hown, _⟩ := HW.out.2.2.2.2.1
              have := (hown.lt b e).2
              omega) (by have := HW.out.2.2.2.1.size; have := HI.out.2.2.1.size; omega) (by omega)
            rw [hrow] at hr hO5
            have H5 : Hid (OutR w1.heap.size w5 (.slice (some ⟨gg, 0, none⟩) (k + 1) cap5) (rs ++ [zs]) ∧ Below w1.heap.size w1 w5 ∧ (rs ++ [zs]).length = k + 1 ∧ rdT 0 ls = glue (rs ++ [zs]) (rdT (k + 1) (ls.drop (k + 1)))) := ⟨hO5, (HW.out.2.2.2.1.trans (HI.out.2.2.1.mono HW.out.2.2.2.1.size)).trans hb5, by rw [List.length_append, hrow]; rfl, rd_step (by rw [← HL.out.2.1]; exact hlt) HR'.out.2.2.1 (by rw [← HX.out.1]; exact HZ.out) h60⟩
            clear hrow hO5 hb5 h60
            go_wp2_with fail
            go_roundw
            case rel => exact ⟨k + 1, rs ++ [zs], by omega, by go_num, H5.out.2.2.1, by omega, H5.out.2.2.2, H5.out.1, H5.out.2.1⟩
            case measure => simp [intOf]; omega
    · obtain rfl : k = n := by omega
      have HBr : Hid (Below U.heap.size U wr) := ck_all HC.out.2.2 HR'.out.2.2.2.2
      have kq : wr.heap[q]? = some (.cells #[.int .i64 0, .int .i64 0] ftT (0, 0)) := ck_block HBr.out HH.out.1
      have KQ : Hid _ := kq
      have rf := fun o => ck_frozen kq o
      have z0 := cell_row kq 0 (u := .int .i64 0) rfl
      have z1 := cell_row kq 1 (u := .int .i64 0) rfl
      have f0 := ck_cell HBr.out HF.out.1
      have f1 := ck_cell HBr.out HF.out.2
      clear kq
      go_upto_region 20 with fail
      go_region
      all_goals
        go_wp2_with fail
        obtain ⟨X, hX⟩ : ∃ X, X = (wr.setCell ⟨q, 0, none⟩ (.int .i64 0)).setCell ⟨q, 1, none⟩ (.int .i64 (-1)) := ⟨_, rfl⟩
        rw [← hX]
        obtain ⟨y0, y1, y2, y3⟩ := set2 KQ.out _ _ hX
        clear hX
        refine bodyPost_ret (resRT _ X.drew q _ _ _ rfl rfl y0) rfl ⟨a4, k, c4, 0, -1, rfl, (y3 _ _ (ck_all HH.out.2.1 HBr.out) (by have := HH.out.2.2.1; omega)).drew, ?_⟩
        have : readT l = .ok rs := by
          unfold readT
          rw [← HL.out.1]
          have := HR'.out.2.2.1
          rw [HL.out.2.1] at this
          exact rd_end this
        rw [this]
        have hqq := HH.out.2.2.1
        have hs1 := HH.out.2.1.size
        have hs2 := HC.out.2.2.size
        have hql := lt_of_block HH.out.1
        exact ⟨rfl, HR'.out.2.2.2.1.keep (by omega) (fun b hb _ => y1 b (by omega)) (by show wr.heap.size ≤ X.heap.size; omega)⟩
end Tq
end Go.Proofs.YtlaimlfacheolaaGreatDoor
