/- chapter 14: the program's lines, gone through. -/
import Derived.Test.YtlaimlfacheolaaGreatDoorTrG
import Derived.RangeFuncBox
import Derived.RangeFuncNested
import Derived.RangeFuncBound
import Derived.RangeFuncCalls
import Derived.RangeFuncLeaves
import Derived.Shelf.Abstract
import Derived.Shelf.RegionOpen
import Derived.OwnWalkIn
import Derived.TacticsInMore
import Derived.LoopNIn
import Derived.LoopIn
namespace Go.Proofs.YtlaimlfacheolaaGreatDoor
open Go.RowKit Go.Shelf
attribute [local go_sem] Oper.semAt_some
namespace Tq
open Nx (Ints lt_of_block)
/-- a line, with its number -/
abbrev XL (ls : List By) := { x : Nat × By // x.1 < ls.length ∧ x.2 = ls.getD x.1 [] }
def xlAt (ls : List By) (j : Nat) (h : j < ls.length) : XL ls := ⟨(j, ls.getD j []), h, rfl⟩
abbrev xlV {ls : List By} (x : XL ls) : Array Value := #[.int .i64 (x.1.1 : Int), .string (st x.1.2)]
/-- the first k of them -/
def preL (ls : List By) : Nat → List (XL ls)
  | 0 => []
  | k + 1 => if h : k < ls.length then preL ls k ++ [xlAt ls k h] else preL ls k
theorem preL_len (ls : List By) : ∀ k, k ≤ ls.length → (preL ls k).length = k
  | 0, _ => rfl
  | k + 1, h => by rw [preL, dif_pos (by omega), List.length_append, preL_len ls k (by omega)]; rfl
/-- the variables are as they were -/
def KpG (W W' : World) : Prop := (∀ b, b < 10 → W'.heap[b]? = W.heap[b]?) ∧ (10 ≤ W.heap.size → 10 ≤ W'.heap.size)
theorem kpG_t {A B C : World} (h : KpG A B) (k : KpG B C) : KpG A C := ⟨fun b hb => (k.1 b hb).trans (h.1 b hb), fun hs => k.2 (h.2 hs)⟩
theorem kpG_b {w : World} (hw : 10 ≤ w.heap.size) (W : World) (l : Nat) (o o' : Obj) (hl : w.heap.size ≤ l) (_ : W.heap[l]? = some o) (_ : o.isCells = false) (_ : o.isWalk = false) : KpG W (W.putObj l o') :=
  ⟨fun b hb => World.putObj_heap_other (by omega), fun hs => by simpa [World.putObj] using hs⟩
theorem GV.kp {W W' : World} (h : GV W) (hk : KpG W W') : GV W' := h.keep hk.1 (hk.2 h.big)
def sSz : Value → Nat
  | .string b => b.size
  | _ => 0
theorem abide_below {β : Type} {B : Nat} {J : β → World → Prop} (hJ : AbidesFrom B J) {s : β} {W W' : World} (h : J s W) (hb : Below W.heap.size W W') : J s W' :=
  hJ s W W' none h ⟨hb.os, hb.tape, hb.output, hb.size, fun k hk _ => hb.block k hk⟩ (fun r e => by cases e)
set_option maxRecDepth 100000 in
set_option maxHeartbeats 4000000 in
theorem lines_in (n : Nat) (hn : 1 ≤ n) (l Bs : Nat) (s : By) (hs : s.length ≤ 40000) (B0 : Nat) (J Jx : List (XL (linesT s)) → World → Prop) (hJ : AbidesFrom B0 J)
    (hY : ∀ pre x W, J pre W → pre.length < (linesT s).length → YieldAt Fence.wide (n - 1) Tryz.prog l (xlV x) W fun e W' =>
      (e = .returned (.bool true) ∧ J (pre ++ [x]) W' ∧ KpG W W') ∨ (e = .returned (.bool false) ∧ Jx (pre ++ [x]) W'))
    (W : World) (hBs : W.cell? ⟨Bs, 0, none⟩ = some (.string (st s))) (hg : GV W) (h0 : J [] W) :
    CallsIn Fence.wide n Tryz.prog 25 #[.func (.yield l) #[] #[], .pointer (some ⟨Bs, 0, none⟩)] W fun e W' => (∃ v, e = .returned v) ∧
      ((∃ ys, ys = preL (linesT s) (linesT s).length ∧ J ys W') ∨ (∃ pre, (∃ k, ∃ h : k < (linesT s).length, pre = preL (linesT s) k ++ [xlAt (linesT s) k h]) ∧ Jx pre W')) := by
  obtain ⟨ss, hss⟩ : ∃ ss, ss = st s := ⟨_, rfl⟩
  have HS : Hid (ss = st s) := hss
  rw [← hss] at hBs
  clear hss
  refine callsIn_of_wp Tryz.func25 rfl trivial ?_ rfl
  simp only [Tryz.ntmps25, List.size_toArray, List.length_cons, List.length_nil, Nat.reduceAdd, Nat.reduceSub, Array.replicate_succ, Array.replicate_zero, List.push_toArray, List.append_toArray, List.nil_append, List.cons_append]
  have h0' : J [] W.drew := abide_below hJ h0 (Below.refl _ W).drew
  have hgd : GV W.drew := hg.below (B := W.heap.size) ((Below.refl _ W).drew) hg.big
  gi_wp2_with fail
  gi_region_with fail
  all_goals
    gi_wp2
    simp only [List.getElem_toArray, List.getElem_cons_succ, List.getElem_cons_zero, Act.put, List.setIfInBounds_toArray, List.set_cons_succ, List.set_cons_zero]
    gi_loopw [3, 4] (fun i r wr => ∃ (k : Nat) (rest : By), k ≤ (linesT s).length ∧ i = .int .i64 k ∧ r = .string (st rest) ∧ J (preL (linesT s) k) wr ∧ Hid (linesT rest = (linesT s).drop k ∧ rest.length ≤ 40000 ∧ KpG W wr)) (fun _ r _ => sSz r)
    case atStart => exact ⟨0, s, Nat.zero_le _, rfl, by rw [HS.out], h0', rfl, hs, fun _ _ => rfl, fun h => h⟩
    case round =>
      obtain ⟨k, rest, hk, rfl, rfl, hJs, HR⟩ := hrel
      by_cases hr : rest = []
      · subst hr
        gi_wp2
        go_end0
        have hkl : (linesT s).length = k := by
          have h1 := congrArg List.length HR.out.1
          rw [lines_nil, List.length_drop] at h1
          simp at h1
          omega
        exact ⟨⟨_, rfl⟩, .inl ⟨_, rfl, by rw [hkl]; exact hJs⟩⟩
      · obtain ⟨h1, h2⟩ := lines_cut hr
        have hklt : k < (linesT s).length := by
          have h3 := congrArg List.length (h1.symm.trans HR.out.1)
          rw [List.length_drop, List.length_cons] at h3
          omega
        have hline : (Lib.cut rest [10]).1 = (linesT s).getD k [] ∧ linesT (Lib.cut rest [10]).2.1 = (linesT s).drop (k + 1) := by
          have h3 := h1.symm.trans HR.out.1
          rw [List.drop_eq_getElem_cons hklt] at h3
          injection h3 with h4 h5
          exact ⟨by rw [h4, List.getD_eq_getElem?_getD, List.getElem?_eq_getElem hklt]; rfl, h5⟩
        have hcut := cut_any (l := rest) (by have := HR.out.2.1; omega) (hg.kp HR.out.2.2)
        obtain ⟨nx, hnx⟩ : ∃ nx, nx = (Lib.cut rest [10]).2.1 := ⟨_, rfl⟩
        obtain ⟨ln, hln⟩ : ∃ ln, ln = (linesT s).getD k [] := ⟨_, rfl⟩
        rw [hline.1, ← hnx, ← hln] at hcut
        have hemp : (st rest).toList.isEmpty = false := by
          rw [Lib.toList_data]
          simpa using hr
        have HN : Hid (linesT nx = (linesT s).drop (k + 1) ∧ nx.length < rest.length ∧ nx.length ≤ 40000 ∧ ln = (linesT s).getD k []) := ⟨by rw [hnx]; exact hline.2, by rw [hnx]; exact h2, by rw [hnx]; have := HR.out.2.1; omega, hln⟩
        have hnk : (linesT s).length ≤ 40001 := by have := ln_len s []; unfold linesT; omega
        obtain ⟨sr, hsr⟩ : ∃ sr, sr = st rest := ⟨_, rfl⟩
        have HSR : Hid (sr.size = rest.length) := by rw [hsr]; exact st_size rest
        rw [← hsr] at hcut hemp ⊢
        clear h1 h2 hline hnx hln hsr
        gi_wp2_with (refine ⟨trivial, ?_⟩; gi_at_call 26; refine (callsIn_wide.2 hcut).mono ?_; rintro e w3 ⟨bb, rfl, h3⟩; clear hcut
                     have hJ3 : J (preL (linesT s) k) w3 := abide_below hJ hJs h3.out
                     obtain ⟨fn, tmps, assign, body, hy, hR⟩ := hY _ (xlAt (linesT s) k hklt) w3 hJ3 (by rw [preL_len _ _ hk]; exact hklt)
                     dsimp only [xlV, xlAt] at hy
                     rw [← HN.out.2.2.2] at hy)
        refine hR.mono ?_
        rintro e W3 (⟨rfl, hJ4, hk3⟩ | ⟨rfl, hJx3⟩)
        · gi_wp2
          go_roundw
          case rel =>
            refine ⟨k + 1, nx, by omega, by go_num, rfl, ?_, HN.out.1, HN.out.2.2.1, ?_⟩
            · rw [preL, dif_pos hklt]; exact hJ4
            · have hb3 := h3.out
              have hG := (hg.kp HR.out.2.2).big
              exact kpG_t (kpG_t HR.out.2.2 ⟨fun b hb => hb3.block b (by omega), fun _ => Nat.le_trans hG hb3.size⟩) hk3
          case measure => simp only [sSz, st_size]; rw [HSR.out]; exact HN.out.2.1
        · gi_wp2
          refine bodyPost_ret (results_none rfl _ _ _) rfl ?_
          exact ⟨⟨_, rfl⟩, .inr ⟨_, ⟨k, hklt, rfl⟩, hJx3⟩⟩
theorem lines_any (s : ByteArray) (w : World) : Calls Tryz.prog 15 #[.string s] w fun e w' => e = .returned (.func (.func 25) #[] #[.pointer (some ⟨w.heap.size, 0, none⟩)]) ∧ w' = w.alloc (.cells #[.string s] 9) := by
  go_enter Tryz.func15, Tryz.ntmps15
  go_wp2
  go_ret
  exact ⟨rfl, rfl⟩
/-- it goes through all of them, or stops -/
theorem lines_stops (n : Nat) (hn : 1 ≤ n) {Bs : Nat} {s : By} (hs : s.length ≤ 40000) {w : World} (hBs : w.cell? ⟨Bs, 0, none⟩ = some (.string (st s))) (hg : GV w) :
    SeqStopsK Fence.wide n Tryz.prog 25 #[.pointer (some ⟨Bs, 0, none⟩)] (fun x : XL (linesT s) => xlV x) KpG (fun ys => ys = preL (linesT s) (linesT s).length) (fun pre => ∃ k, ∃ h : k < (linesT s).length, pre = preL (linesT s) k ++ [xlAt (linesT s) k h]) (linesT s).length w := fun l J Jx W hW hJ _ hY h0 =>
  lines_in n hn l Bs s hs _ J Jx hJ hY W (ck_cell hW hBs) (hg.below hW hg.big) h0
end Tq
end Go.Proofs.YtlaimlfacheolaaGreatDoor
