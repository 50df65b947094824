/- chapter 14: told: a chart is told tick by tick. -/
import Derived.Test.YtiihgnagjemikaaGreatDoorVTrA
import Derived.Test.YtiihgnagjemikaaGreatDoorVPcatch2
import Derived.Test.YtiihgnagjemikaaGreatDoorVVe
import Derived.Laws.Tables
import Derived.RangeFuncBox
import Derived.RangeFuncNested
import Derived.RangeFuncBound
import Derived.RangeFuncCalls
import Derived.RangeFuncLeaves
import Derived.Shelf.Abstract
import Derived.Shelf.RegionOpen
import Derived.OwnWalkIn
import Derived.TacticsInMore
import Derived.LoopNIn
import Derived.LoopIn
import Derived.Lib.ItoaLen
namespace Go.Proofs.YtiihgnagjemikaaGreatDoor
open Go.RowKit Px
attribute [-go_sem] Builtin.append_
namespace Tq
open Nx (Ints lt_of_block)
/-- what a runner tells are numbers -/
theorem outs_64 {A Q : Nat → Prop} {w : World} {c : Chart} {r : Rn} {rb : Nat} {x : RnL} (h : RnM A w c r rb Q x) (hc : ChartR c) : ∀ z ∈ outsC c r, N64 z := by
  intro z hz
  unfold outsC tellC at hz
  obtain ⟨v, hv, rfl⟩ := List.mem_map.1 hz
  exact (h.mn.look (hc.vn v (List.mem_filter.1 hv).1)).2
/-- over what is made from block S on the runner stands -/
theorem rn_over {A Q : Nat → Prop} {S : Nat} {w w' : World} {c : Chart} {r : Rn} {rb : Nat} {x : RnL} (h : RnM A w c r rb Q x) (hb : Below S w w') (hs : w.heap.size ≤ w'.heap.size) (hQ : ∀ b, Q b → b < S) (hA : ∀ b, A b → b < S) : RnM A w' c r rb Q x :=
  h.apart (Q' := fun b => S ≤ b) ⟨hb.os, hb.tape, hb.output, hs, fun b _ hn => hb.block b (by omega)⟩ (fun b hq hn => by have := hQ b hq; omega) (fun b ha hn => by have := hA b ha; omega)
theorem fq_over {Q : Nat → Prop} {S : Nat} {w w' w'' : World} (h : FrQ Q w w') (hS : S = w.heap.size) (hb : Below S w' w'') (hs : w'.heap.size ≤ w''.heap.size) : FrQ Q w w'' :=
  ⟨hb.os.trans h.os, hb.tape.trans h.tape, hb.output.trans h.output, Nat.le_trans h.size hs, fun b hl hq => (hb.block b (by omega)).trans (h.block b hl hq)⟩
set_option maxRecDepth 100000 in
set_option maxHeartbeats 4000000 in
theorem told_any {A Q : Nat → Prop} {wB w : World} {c : Chart} {r0 : Rn} {rb : Nat} {x : RnL} {rows : List (List Int)} {vi : Value} (hc : ChartR c) (hG : ∀ r ∈ c.regions, GdK 6 r) (hst : StandC c r0) (hR : RnM A w c r0 rb Q x)
    (hi : Kx.IRws wB vi rows) (hb : Below wB.heap.size wB w) (hQ : ∀ b, Q b → wB.heap.size ≤ b) (hN : ∀ r ∈ rows, ∀ z ∈ r, N64 z) (hl : rows.length ≤ 1000) :
    Calls Tryz.prog 20 #[.func (.func 21) #[.pointer (some ⟨rb, 0, none⟩)] #[], vi] w fun e w' => ∃ a n m, e = .returned (.slice a n m) ∧ Hid (OutR w.heap.size w' (.slice a n m) (outsR c r0 rows) ∧ (∀ z ∈ outsR c r0 rows, ∀ y ∈ z, N64 y) ∧ Below wB.heap.size wB w') := by
  obtain ⟨ad, bI, oI, cap, rfl, ha, hx⟩ := hi
  obtain ⟨n, hn⟩ : ∃ n, n = rows.length := ⟨_, rfl⟩
  obtain ⟨S, hS⟩ : ∃ S, S = w.heap.size := ⟨_, rfl⟩
  have H : Hid (ChartR c ∧ (∀ r ∈ c.regions, GdK 6 r) ∧ StandC c r0 ∧ n = rows.length ∧ S = w.heap.size ∧ (∀ b, Q b → wB.heap.size ≤ b) ∧ (∀ b, Q b → b < S) ∧ (∀ b, A b → b < S)) := ⟨hc, hG, hst, hn, hS, hQ, fun b hq => by rw [hS]; exact hR.hQ b hq, fun b hA => by rw [hS]; exact (hR.hA b hA).1⟩
  have HI : Hid ((0 < n → ad = some ⟨bI, oI, none⟩) ∧ (∀ (k : Nat) (zs : List Int), rows[k]? = some zs → ∃ a c, wB.cell? ⟨bI, oI + k, none⟩ = some (.slice a zs.length c) ∧ INums wB (.slice a zs.length c) zs) ∧ (∀ r ∈ rows, ∀ z ∈ r, N64 z)) := ⟨by rw [hn]; exact ha, hx, hN⟩
  have H0 : Hid (RnM A w c r0 rb Q x ∧ Below wB.heap.size wB w) := ⟨hR, hb⟩
  rw [← hn] at hl ⊢
  clear hc hG hst hR hb hQ hN ha hx hn
  have hmf : ∀ (fn : Fn) (first cap : Array Value) (w : World), (Instr.makeFunc fn first cap).run Tryz.prog w = .ok (.func fn first cap) w := fun _ _ _ _ => rfl
  go_enter Tryz.func20, Tryz.ntmps20
  go_wp2_with fail
  go_loopw [5, 10] (fun v i wr => ∃ k : Nat, k ≤ n ∧ i = .int .i64 k ∧ Hid (OutR S wr v (outsR c r0 (rows.take k)) ∧ (∀ z ∈ outsR c r0 (rows.take k), ∀ y ∈ z, N64 y) ∧ RnM A wr c (rnAt c r0 (rows.take k)) rb Q x ∧ FrQ Q w wr)) (fun _ i _ => n - (intOf i).toNat)
  case atStart => exact ⟨0, Nat.zero_le _, rfl, OutR.nil _ _, (by intro z hz; rw [List.take_zero] at hz; cases hz), H0.out.1, FrQ.refl _ _⟩
  case round =>
    obtain ⟨k, hk, rfl, HR⟩ := hrel
    obtain ⟨a5, c5, hform⟩ := HR.out.1.form
    have hlen : (outsR c r0 (rows.take k)).length = k := by rw [outs_len, List.length_take]; have := H.out.2.2.2.1; omega
    rw [hlen] at hform
    subst hform
    have HL : Hid ((outsR c r0 (rows.take k)).length = k) := hlen
    clear hlen
    by_cases hlt : k < n
    · have hix := ixRow ad bI oI n cap k hlt HI.out.1
      have hkr : k < rows.length := by rw [← H.out.2.2.2.1]; exact hlt
      obtain ⟨zs, hzs⟩ : ∃ zs, zs = rows.getD k [] := ⟨_, rfl⟩
      have hget : rows[k]? = some zs := by rw [hzs, List.getD_eq_getElem?_getD, List.getElem?_eq_getElem hkr]; rfl
      obtain ⟨aI, cI, hcell, hnums⟩ := HI.out.2.1 k zs hget
      have hbw : Below wB.heap.size wB wr := below_frq H0.out.2 HR.out.2.2.2 H.out.2.2.2.2.2.1 H0.out.2.size
      have hcw : wr.cell? ⟨bI, oI + k, none⟩ = some (.slice aI zs.length cI) := ck_cell hbw hcell
      have hnw : INums wr (.slice aI zs.length cI) zs := INums.below hnums hbw
      obtain ⟨hstep, _⟩ := step_ok H.out.2.1 (stand_at H.out.2.1 (rows.take k) r0 H.out.2.2.1) zs
      have htick := Tick_any HR.out.2.2.1 H.out.1 hnw (fun y hy => HI.out.2.2 zs (List.mem_of_getElem? hget) y hy) hstep
      have HX : Hid (zs = rows.getD k [] ∧ k < rows.length) := ⟨hzs, hkr⟩
      generalize zs.length = zl at hcw htick
      clear hkr hzs hget hcell hnums hbw hnw hstep
      go_wp2_with fail
      refine htick.mono ?_
      rintro e w5 ⟨a6, n6, m6, rfl, h5⟩
      clear htick
      have hO5 : OutR S w5 (.slice a5 k c5) (outsR c r0 (rows.take k)) := HR.out.1.keep (Nat.le_refl _) (fun b hS hlt => h5.out.2.2.block b hlt (fun hq => by have := H.out.2.2.2.2.2.2.1 b hq; omega)) h5.out.2.2.size
      have hf5 : FrQ Q w w5 := HR.out.2.2.2.trans h5.out.2.2
      have hu5 : Ints (fun b => S ≤ b ∧ b < w5.heap.size ∧ (Value.slice a5 k c5).ownBlock ≠ some b) w5 (.slice a6 n6 m6) (outsC c (stepC c zs (rnAt c r0 (rows.take k)))) := by
        refine (ownInts h5.out.2.1).carry fun b hA hl => ⟨⟨?_, hl, fun e => ?_⟩, rfl⟩
        · have h1 := H.out.2.2.2.2.1
          have h2 := HR.out.2.2.2.size
          have h3 := hA.1
          omega
        · obtain ⟨xs, hown, _⟩ := HR.out.1
          have h1 := (hown.lt b e).2
          have h3 := hA.1
          omega
      have hS5 : S ≤ w5.heap.size := by rw [H.out.2.2.2.2.1]; exact hf5.size
      obtain ⟨g, cap5, w6, hr, hO6, hb6, hg6, _⟩ := hO5.more hu5 (own_cap h5.out.2.1) hS5 (by rw [HL.out]; omega)
      rw [HL.out] at hr hO6
      have hs6 : w5.heap.size ≤ w6.heap.size := by have := hg6.size; rw [World.size_alloc] at this; omega
      have H6 : Hid (OutR S w6 (.slice (some ⟨g, 0, none⟩) (k + 1) cap5) (outsR c r0 (rows.take k) ++ [outsC c (stepC c zs (rnAt c r0 (rows.take k)))]) ∧ RnM A w6 c (stepC c zs (rnAt c r0 (rows.take k))) rb Q x ∧ FrQ Q w w6 ∧ ∀ y ∈ outsC c (stepC c zs (rnAt c r0 (rows.take k))), N64 y) :=
        ⟨hO6, rn_over h5.out.1 hb6 hs6 H.out.2.2.2.2.2.2.1 H.out.2.2.2.2.2.2.2, fq_over hf5 H.out.2.2.2.2.1 hb6 hs6, outs_64 h5.out.1 H.out.1⟩
      clear hO5 hf5 hu5 hS5 hO6 hb6 hg6 hs6
      go_wp2_with fail
      go_roundw
      case rel =>
        refine ⟨k + 1, by omega, by go_num, ?_⟩
        have e1 := take_one HX.out.2
        rw [← HX.out.1] at e1
        rw [e1, outs_snoc, rn_snoc]
        refine ⟨H6.out.1, fun z hz => ?_, H6.out.2.1, H6.out.2.2.1⟩
        rcases List.mem_append.1 hz with hz | hz
        · exact HR.out.2.1 z hz
        · rw [List.mem_singleton] at hz
          subst hz
          exact H6.out.2.2.2
      case measure => simp [intOf]; omega
    · obtain rfl : k = n := by omega
      have ht : rows.take k = rows := by rw [H.out.2.2.2.1, List.take_length]
      have hZ : Hid (OutR S wr (.slice a5 k c5) (outsR c r0 rows) ∧ (∀ z ∈ outsR c r0 rows, ∀ y ∈ z, N64 y) ∧ Below wB.heap.size wB wr) := by
        have h1 := HR.out.1
        have h2 := HR.out.2.1
        rw [ht] at h1 h2
        exact ⟨h1, h2, below_frq H0.out.2 HR.out.2.2.2 H.out.2.2.2.2.2.1 H0.out.2.size⟩
      clear ht
      go_wp2_with fail
      go_ret
      exact ⟨_, _, _, rfl, by rw [← H.out.2.2.2.2.1]; exact hZ.out.1, hZ.out.2.1, hZ.out.2.2⟩
end Tq
end Go.Proofs.YtiihgnagjemikaaGreatDoor
/- chapter 14: the document's reader of ticks. -/
namespace Go.Proofs.YtiihgnagjemikaaGreatDoor
open Go.RowKit
attribute [-go_sem] Builtin.append_
namespace Tq
open Nx (Ints lt_of_block)
theorem ck_set2 {w : World} {g : Nat} {l : List Value} {T : TypeId} {f : Nat × Nat} (h : w.heap[g]? = some (.cells l.toArray T f)) (k : Nat) (x : Value) : (w.setCell ⟨g, k, none⟩ x).heap[g]? = some (.cells (l.set k x).toArray T f) := by
  have hl := lt_of_block h
  have e : w.heap[g] = .cells l.toArray T f := by rw [Array.getElem?_eq_getElem hl] at h; exact Option.some.inj h
  simp only [World.setCell]
  rw [Array.getElem?_eq_getElem (by simpa using hl), Array.getElem_modify]
  simp [e]
theorem ck_frozen {w : World} {g : Nat} {l : Array Value} {T : TypeId} (h : w.heap[g]? = some (.cells l T (0, 0))) (k : Nat) : w.frozen? ⟨g, k, none⟩ = false := by
  simp [World.frozen?, h]
/-- the two cells of a fault are set -/
theorem set2 {w : World} {q : Nat} {a b : Value} {T : TypeId} (h : w.heap[q]? = some (.cells #[a, b] T (0, 0))) (x y : Value) {W : World} (hW : W = (w.setCell ⟨q, 0, none⟩ x).setCell ⟨q, 1, none⟩ y) :
    W.heap[q]? = some (.cells #[x, y] T (0, 0)) ∧ (∀ k, k ≠ q → W.heap[k]? = w.heap[k]?) ∧ W.heap.size = w.heap.size ∧ (∀ B a, Below B a w → B ≤ q → Below B a W) := by
  have h1 := ck_set2 (l := [a, b]) h 0 x
  have h2 := ck_set2 (l := [x, b]) h1 1 y
  subst hW
  refine ⟨h2, fun k hk => ?_, by simp [World.setCell], fun B a hb hB => ?_⟩
  · rw [Below.heap_setCell _ _ _ _ hk, Below.heap_setCell _ _ _ _ hk]
  · exact (hb.setCell (p := ⟨q, 0, none⟩) hB x).setCell (p := ⟨q, 1, none⟩) hB y
/-- what the document's reader makes -/
def RefO (w w' : World) (l : By) (v : Value) (f : Int × Int) : Prop :=
  Below w.heap.size w w' ∧ match readT l with
    | .ok rows => f = (0, -1) ∧ OutR w.heap.size w' v rows
    | .error g => f = g ∧ v = .slice none 0 0
end Tq
end Go.Proofs.YtiihgnagjemikaaGreatDoor
/- chapter 14: the program's lines, gone through. -/
namespace Go.Proofs.YtiihgnagjemikaaGreatDoor
open Go.RowKit Go.Shelf
attribute [local go_sem] Oper.semAt_some
namespace Tq
open Nx (Ints lt_of_block)
/-- a line, with its number -/
abbrev XL (ls : List By) := { x : Nat × By // x.1 < ls.length ∧ x.2 = ls.getD x.1 [] }
def xlAt (ls : List By) (j : Nat) (h : j < ls.length) : XL ls := ⟨(j, ls.getD j []), h, rfl⟩
abbrev xlV {ls : List By} (x : XL ls) : Array Value := #[.int .i64 (x.1.1 : Int), .string (st x.1.2)]
/-- the first k of them -/
def preL (ls : List By) : Nat → List (XL ls)
  | 0 => []
  | k + 1 => if h : k < ls.length then preL ls k ++ [xlAt ls k h] else preL ls k
theorem preL_len (ls : List By) : ∀ k, k ≤ ls.length → (preL ls k).length = k
  | 0, _ => rfl
  | k + 1, h => by rw [preL, dif_pos (by omega), List.length_append, preL_len ls k (by omega)]; rfl
/-- the variables are as they were -/
def KpG (W W' : World) : Prop := (∀ b, b < 12 → W'.heap[b]? = W.heap[b]?) ∧ (12 ≤ W.heap.size → 12 ≤ W'.heap.size)
theorem kpG_t {A B C : World} (h : KpG A B) (k : KpG B C) : KpG A C := ⟨fun b hb => (k.1 b hb).trans (h.1 b hb), fun hs => k.2 (h.2 hs)⟩
theorem kpG_b {w : World} (hw : 12 ≤ w.heap.size) (W : World) (l : Nat) (o o' : Obj) (hl : w.heap.size ≤ l) (_ : W.heap[l]? = some o) (_ : o.isCells = false) (_ : o.isWalk = false) : KpG W (W.putObj l o') :=
  ⟨fun b hb => World.putObj_heap_other (by omega), fun hs => by simpa [World.putObj] using hs⟩
theorem GV.kp {W W' : World} (h : GV W) (hk : KpG W W') : GV W' := h.keep hk.1 (hk.2 h.big)
def sSz : Value → Nat
  | .string b => b.size
  | _ => 0
theorem abide_below {β : Type} {B : Nat} {J : β → World → Prop} (hJ : AbidesFrom B J) {s : β} {W W' : World} (h : J s W) (hb : Below W.heap.size W W') : J s W' :=
  hJ s W W' none h ⟨hb.os, hb.tape, hb.output, hb.size, fun k hk _ => hb.block k hk⟩ (fun r e => by cases e)
set_option maxRecDepth 100000 in
set_option maxHeartbeats 4000000 in
theorem lines_in (n : Nat) (hn : 1 ≤ n) (l Bs : Nat) (s : By) (hs : s.length ≤ 40000) (B0 : Nat) (J Jx : List (XL (linesT s)) → World → Prop) (hJ : AbidesFrom B0 J)
    (hY : ∀ pre x W, J pre W → pre.length < (linesT s).length → YieldAt Fence.wide (n - 1) Tryz.prog l (xlV x) W fun e W' =>
      (e = .returned (.bool true) ∧ J (pre ++ [x]) W' ∧ KpG W W') ∨ (e = .returned (.bool false) ∧ Jx (pre ++ [x]) W'))
    (W : World) (hBs : W.cell? ⟨Bs, 0, none⟩ = some (.string (st s))) (hg : GV W) (h0 : J [] W) :
    CallsIn Fence.wide n Tryz.prog 22 #[.func (.yield l) #[] #[], .pointer (some ⟨Bs, 0, none⟩)] W fun e W' => (∃ v, e = .returned v) ∧
      ((∃ ys, ys = preL (linesT s) (linesT s).length ∧ J ys W') ∨ (∃ pre, (∃ k, ∃ h : k < (linesT s).length, pre = preL (linesT s) k ++ [xlAt (linesT s) k h]) ∧ Jx pre W')) := by
  obtain ⟨ss, hss⟩ : ∃ ss, ss = st s := ⟨_, rfl⟩
  have HS : Hid (ss = st s) := hss
  rw [← hss] at hBs
  clear hss
  refine callsIn_of_wp Tryz.func22 rfl trivial ?_ rfl
  simp only [Tryz.ntmps22, List.size_toArray, List.length_cons, List.length_nil, Nat.reduceAdd, Nat.reduceSub, Array.replicate_succ, Array.replicate_zero, List.push_toArray, List.append_toArray, List.nil_append, List.cons_append]
  have h0' : J [] W.drew := abide_below hJ h0 (Below.refl _ W).drew
  have hgd : GV W.drew := hg.below (B := W.heap.size) ((Below.refl _ W).drew) hg.big
  gi_wp2_with fail
  gi_region_with fail
  all_goals
    gi_wp2
    simp only [List.getElem_toArray, List.getElem_cons_succ, List.getElem_cons_zero, Act.put, List.setIfInBounds_toArray, List.set_cons_succ, List.set_cons_zero]
    gi_loopw [3, 4] (fun i r wr => ∃ (k : Nat) (rest : By), k ≤ (linesT s).length ∧ i = .int .i64 k ∧ r = .string (st rest) ∧ J (preL (linesT s) k) wr ∧ Hid (linesT rest = (linesT s).drop k ∧ rest.length ≤ 40000 ∧ KpG W wr)) (fun _ r _ => sSz r)
    case atStart => exact ⟨0, s, Nat.zero_le _, rfl, by rw [HS.out], h0', rfl, hs, fun _ _ => rfl, fun h => h⟩
    case round =>
      obtain ⟨k, rest, hk, rfl, rfl, hJs, HR⟩ := hrel
      by_cases hr : rest = []
      · subst hr
        gi_wp2
        go_end0
        have hkl : (linesT s).length = k := by
          have h1 := congrArg List.length HR.out.1
          rw [lines_nil, List.length_drop] at h1
          simp at h1
          omega
        exact ⟨⟨_, rfl⟩, .inl ⟨_, rfl, by rw [hkl]; exact hJs⟩⟩
      · obtain ⟨h1, h2⟩ := lines_cut hr
        have hklt : k < (linesT s).length := by
          have h3 := congrArg List.length (h1.symm.trans HR.out.1)
          rw [List.length_drop, List.length_cons] at h3
          omega
        have hline : (Lib.cut rest [10]).1 = (linesT s).getD k [] ∧ linesT (Lib.cut rest [10]).2.1 = (linesT s).drop (k + 1) := by
          have h3 := h1.symm.trans HR.out.1
          rw [List.drop_eq_getElem_cons hklt] at h3
          injection h3 with h4 h5
          exact ⟨by rw [h4, List.getD_eq_getElem?_getD, List.getElem?_eq_getElem hklt]; rfl, h5⟩
        have hcut := cut_any (l := rest) (by have := HR.out.2.1; omega) (hg.kp HR.out.2.2)
        obtain ⟨nx, hnx⟩ : ∃ nx, nx = (Lib.cut rest [10]).2.1 := ⟨_, rfl⟩
        obtain ⟨ln, hln⟩ : ∃ ln, ln = (linesT s).getD k [] := ⟨_, rfl⟩
        rw [hline.1, ← hnx, ← hln] at hcut
        have hemp : (st rest).toList.isEmpty = false := by
          rw [Lib.toList_data]
          simpa using hr
        have HN : Hid (linesT nx = (linesT s).drop (k + 1) ∧ nx.length < rest.length ∧ nx.length ≤ 40000 ∧ ln = (linesT s).getD k []) := ⟨by rw [hnx]; exact hline.2, by rw [hnx]; exact h2, by rw [hnx]; have := HR.out.2.1; omega, hln⟩
        have hnk : (linesT s).length ≤ 40001 := by have := ln_len s []; unfold linesT; omega
        obtain ⟨sr, hsr⟩ : ∃ sr, sr = st rest := ⟨_, rfl⟩
        have HSR : Hid (sr.size = rest.length) := by rw [hsr]; exact st_size rest
        rw [← hsr] at hcut hemp ⊢
        clear h1 h2 hline hnx hln hsr
        gi_wp2_with (refine ⟨trivial, ?_⟩; gi_at_call 23; refine (callsIn_wide.2 hcut).mono ?_; rintro e w3 ⟨bb, rfl, h3⟩; clear hcut
                     have hJ3 : J (preL (linesT s) k) w3 := abide_below hJ hJs h3.out
                     obtain ⟨fn, tmps, assign, body, hy, hR⟩ := hY _ (xlAt (linesT s) k hklt) w3 hJ3 (by rw [preL_len _ _ hk]; exact hklt)
                     dsimp only [xlV, xlAt] at hy
                     rw [← HN.out.2.2.2] at hy)
        refine hR.mono ?_
        rintro e W3 (⟨rfl, hJ4, hk3⟩ | ⟨rfl, hJx3⟩)
        · gi_wp2
          go_roundw
          case rel =>
            refine ⟨k + 1, nx, by omega, by go_num, rfl, ?_, HN.out.1, HN.out.2.2.1, ?_⟩
            · rw [preL, dif_pos hklt]; exact hJ4
            · have hb3 := h3.out
              have hG := (hg.kp HR.out.2.2).big
              exact kpG_t (kpG_t HR.out.2.2 ⟨fun b hb => hb3.block b (by omega), fun _ => Nat.le_trans hG hb3.size⟩) hk3
          case measure => simp only [sSz, st_size]; rw [HSR.out]; exact HN.out.2.1
        · gi_wp2
          refine bodyPost_ret (results_none rfl _ _ _) rfl ?_
          exact ⟨⟨_, rfl⟩, .inr ⟨_, ⟨k, hklt, rfl⟩, hJx3⟩⟩
theorem lines_any (s : ByteArray) (w : World) : Calls Tryz.prog 11 #[.string s] w fun e w' => e = .returned (.func (.func 22) #[] #[.pointer (some ⟨w.heap.size, 0, none⟩)]) ∧ w' = w.alloc (.cells #[.string s] 9) := by
  go_enter Tryz.func11, Tryz.ntmps11
  go_wp2
  go_ret
  exact ⟨rfl, rfl⟩
/-- it goes through all of them, or stops -/
theorem lines_stops (n : Nat) (hn : 1 ≤ n) {Bs : Nat} {s : By} (hs : s.length ≤ 40000) {w : World} (hBs : w.cell? ⟨Bs, 0, none⟩ = some (.string (st s))) (hg : GV w) :
    SeqStopsK Fence.wide n Tryz.prog 22 #[.pointer (some ⟨Bs, 0, none⟩)] (fun x : XL (linesT s) => xlV x) KpG (fun ys => ys = preL (linesT s) (linesT s).length) (fun pre => ∃ k, ∃ h : k < (linesT s).length, pre = preL (linesT s) k ++ [xlAt (linesT s) k h]) (linesT s).length w := fun l J Jx W hW hJ _ hY h0 =>
  lines_in n hn l Bs s hs _ J Jx hJ hY W (ck_cell hW hBs) (hg.below hW hg.big) h0
end Tq
end Go.Proofs.YtiihgnagjemikaaGreatDoor
/- chapter 14: what the program's reader holds while it goes through lines. -/
namespace Go.Proofs.YtiihgnagjemikaaGreatDoor
open Go.RowKit Go.Shelf
namespace Tq
open Nx (Ints lt_of_block)
abbrev rrT : TypeId := 22
abbrev erT : TypeId := 26
theorem cells_of {w : World} {b o : Nat} {v : Value} (h : w.cell? ⟨b, o, none⟩ = some v) : ∃ l T f, w.heap[b]? = some (.cells l T f) := by
  obtain ⟨x, hx, hc⟩ := cells_of_cell h
  cases x with
  | cells l T f => exact ⟨l, T, f, hx⟩
  | _ => cases hc
theorem ints_kept {A A' : Nat → Prop} {w w' : World} {v : Value} {zs : List Int} (h : Ints A w v zs) (hA : ∀ b, A b → b < w.heap.size → A' b) (hc : ∀ (b : Nat) l T f, w.heap[b]? = some (.cells l T f) → w'.heap[b]? = w.heap[b]?) : Ints A' w' v zs := by
  obtain ⟨ad, b, off, cap, rfl, h1, h2⟩ := h
  refine ⟨ad, b, off, cap, rfl, fun hp => ?_, fun j hj => ?_⟩
  · obtain ⟨e, ha⟩ := h1 hp
    exact ⟨e, hA b ha (Nx.lt_of_cell (h2 0 hp))⟩
  · obtain ⟨l, T, f, hl⟩ := cells_of (h2 j hj)
    rw [Nx.cell_of_block (hc b l T f hl)]; exact h2 j hj
theorem OutR.kept {S : Nat} {w w' : World} {v : Value} {rows : List (List Int)} (h : OutR S w v rows) (hc : ∀ (b : Nat) l T f, w.heap[b]? = some (.cells l T f) → w'.heap[b]? = w.heap[b]?) (hs : w.heap.size ≤ w'.heap.size) : OutR S w' v rows := by
  obtain ⟨xs, h1, h2⟩ := h
  refine ⟨xs, ⟨h1.1, ?_⟩, fun k hk => ?_⟩
  · rcases h1.2 with h3 | ⟨g, cap, cur, rfl, hB, hg, hr⟩
    · exact .inl h3
    · exact .inr ⟨g, cap, cur, rfl, hB, by rw [hc g _ _ _ hg]; exact hg, hr⟩
  · obtain ⟨u, hu, hcu, hi⟩ := h2 k hk
    exact ⟨u, hu, hcu, ints_kept hi (fun b hA _ => ⟨hA.1, by omega, hA.2.2⟩) hc⟩
theorem OutR.kept' {S S' : Nat} {w w' : World} {v : Value} {rows : List (List Int)} (h : OutR S w v rows) (hS : S' ≤ S) (hc : ∀ (b : Nat) l T f, S ≤ b → w.heap[b]? = some (.cells l T f) → w'.heap[b]? = w.heap[b]?) (hs : w.heap.size ≤ w'.heap.size) : OutR S' w' v rows := by
  obtain ⟨xs, h1, h2⟩ := h
  refine ⟨xs, Omono hS ⟨h1.1, ?_⟩, fun k hk => ?_⟩
  · rcases h1.2 with h3 | ⟨g, cap, cur, rfl, hB, hg, hr⟩
    · exact .inl h3
    · exact .inr ⟨g, cap, cur, rfl, hB, by rw [hc g _ _ _ hB hg]; exact hg, hr⟩
  · obtain ⟨u, hu, hcu, ad, b, off, cap, rfl, h3, h4⟩ := h2 k hk
    refine ⟨_, hu, hcu, ad, b, off, cap, rfl, fun hp => ?_, fun j hj => ?_⟩
    · obtain ⟨e, hA⟩ := h3 hp
      exact ⟨e, by omega, by omega, hA.2.2⟩
    · obtain ⟨e, hA⟩ := h3 (by omega)
      obtain ⟨l, T, f, hl⟩ := cells_of (h4 j hj)
      rw [Nx.cell_of_block (hc b l T f hA.1 hl)]; exact h4 j hj
/-- ahead of a line -/
structure RdI (ls : List By) (w : World) (q : Nat) (pre : List (XL ls)) (W : World) : Prop where
  fine : ∃ rs : List (List Int), pre.map (fun x => numsW (wordsT x.1.2)) = rs.map some ∧ ∃ a c, W.heap[q + 2]? = some (.cells #[.slice a rs.length c] rrT (0, 0)) ∧ OutR (q + 3) W (.slice a rs.length c) rs
  few : ∀ x ∈ pre, x.1.1 ≠ 60
  bel : Below q w W
  res : W.heap[q]? = some (.cells #[.slice none 0 0] rrT (0, 0))
  err : W.heap[q + 1]? = some (.cells #[.nilIface] erT (0, 0))
  big : q + 3 ≤ W.heap.size
/-- what is told, as an error -/
def ErrV (q : Nat) (W : World) (ev : Value) (f : Int × Int) : Prop :=
  (f = (4, -1) ∧ ev = .iface 46 (.int .i64 4)) ∨ ∃ g i : Nat, f = (3, (i : Int)) ∧ q ≤ g ∧ ev = .iface 45 (.pointer (some ⟨g, 0, none⟩)) ∧ W.heap[g]? = some (.cells #[.int .i64 3, .int .i64 (i : Int)] 48 (0, 0))
/-- at a line that ends it -/
structure RdX (ls : List By) (w : World) (q : Nat) (pre : List (XL ls)) (W : World) : Prop where
  fine : ∃ (p0 : List (XL ls)) (x : XL ls) (rs : List (List Int)), pre = p0 ++ [x] ∧ p0.map (fun x => numsW (wordsT x.1.2)) = rs.map some ∧ (∀ x ∈ p0, x.1.1 ≠ 60) ∧
    ∃ ev f, W.heap[q + 1]? = some (.cells #[ev] erT (0, 0)) ∧ ErrV q W ev f ∧ ((numsW (wordsT x.1.2) = none ∧ f = (3, (x.1.1 : Int))) ∨ (∃ t, numsW (wordsT x.1.2) = some t) ∧ x.1.1 = 60 ∧ f = (4, -1))
  bel : Below q w W
  res : W.heap[q]? = some (.cells #[.slice none 0 0] rrT (0, 0))
theorem kept_cells {B : Nat} {W W' : World} {row : Option Nat} (hg : W.grownBy W' row) (hr : ∀ r, row = some r → B ≤ r ∧ ∃ o : Obj, W.heap[r]? = some o ∧ o.isCells = false) : ∀ (b : Nat) l T f, W.heap[b]? = some (.cells l T f) → W'.heap[b]? = W.heap[b]? := fun b l T f hb =>
  hg.block b (lt_of_block hb) fun e => by
    obtain ⟨_, o, ho, hc⟩ := hr b e.symm
    rw [hb] at ho
    injection ho with ho
    subst ho
    cases hc
theorem below_kept {B q : Nat} {w W W' : World} {row : Option Nat} (hq : q ≤ B) (h : Below q w W) (hs : q ≤ W.heap.size) (hg : W.grownBy W' row) (hr : ∀ r, row = some r → B ≤ r ∧ ∃ o : Obj, W.heap[r]? = some o ∧ o.isCells = false) : Below q w W' :=
  ⟨hg.os.trans h.os, hg.tape.trans h.tape, hg.output.trans h.output, Nat.le_trans h.size hg.size, fun k hk => by rw [hg.block k (by omega) (fun e => by have := (hr k e.symm).1; omega)]; exact h.block k hk⟩
theorem rdI_own (ls : List By) (w : World) (q B : Nat) (hq : q + 3 ≤ B) : OwnFrom B (RdI ls w q) := fun pre W W' row hs hg hr => by
  have kc := kept_cells hg hr
  obtain ⟨rs, h1, a, c, h2, h3⟩ := hs.fine
  exact ⟨⟨rs, h1, a, c, by rw [kc _ _ _ _ h2]; exact h2, h3.kept kc hg.size⟩, hs.few, below_kept (B := B) (by omega) hs.bel (by have := hs.big; omega) hg hr, by rw [kc _ _ _ _ hs.res]; exact hs.res, by rw [kc _ _ _ _ hs.err]; exact hs.err, Nat.le_trans hs.big hg.size⟩
theorem rdX_own (ls : List By) (w : World) (q B : Nat) (hq : q + 3 ≤ B) (hw : q ≤ w.heap.size) : OwnFrom B (RdX ls w q) := fun pre W W' row hs hg hr => by
  have kc := kept_cells hg hr
  obtain ⟨p0, x, rs, h1, h2, h3, ev, f, h4, h5, h6⟩ := hs.fine
  refine ⟨⟨p0, x, rs, h1, h2, h3, ev, f, by rw [kc _ _ _ _ h4]; exact h4, ?_, h6⟩, below_kept (B := B) (by omega) hs.bel (Nat.le_trans hw hs.bel.size) hg hr, by rw [kc _ _ _ _ hs.res]; exact hs.res⟩
  rcases h5 with h5 | ⟨g, i, e1, e2, e3, e4⟩
  · exact .inl h5
  · exact .inr ⟨g, i, e1, e2, e3, by rw [kc _ _ _ _ e4]; exact e4⟩
/-- what has come, and what is to come -/
theorem pre_glue (ls : List By) : ∀ (k : Nat), k ≤ ls.length → ∀ rs : List (List Int), (preL ls k).map (fun x => numsW (wordsT x.1.2)) = rs.map some → (∀ x ∈ preL ls k, x.1.1 ≠ 60) → rs.length = k ∧ rdT 0 ls = glue rs (rdT k (ls.drop k))
  | 0, _, rs, h, _ => by
    obtain rfl : rs = [] := by simpa [preL] using h.symm
    exact ⟨rfl, by rw [List.drop_zero]; cases rdT 0 ls <;> rfl⟩
  | k + 1, hk, rs, h, h60 => by
    rw [preL, dif_pos (by omega)] at h h60
    have hlen := congrArg List.length h
    rw [List.length_map, List.length_append, preL_len ls k (by omega), List.length_map, List.length_singleton] at hlen
    obtain ⟨r0, t, rfl⟩ : ∃ r0 t, rs = r0 ++ [t] := by
      rcases List.eq_nil_or_concat rs with rfl | ⟨r0, t, rfl⟩
      · simp at hlen
      · exact ⟨r0, t, by simp⟩
    rw [List.map_append, List.map_append] at h
    obtain ⟨e1, e2⟩ := List.append_inj' h (by simp)
    obtain ⟨i1, i2⟩ := pre_glue ls k (by omega) r0 e1 fun x hx => h60 x (List.mem_append_left _ hx)
    have e3 : numsW (wordsT (ls.getD k [])) = some t := by
      have : [numsW (wordsT (ls.getD k []))] = [some t] := e2
      injection this
    refine ⟨by rw [List.length_append, i1]; rfl, rd_step (by omega) i2 e3 ?_⟩
    exact h60 (xlAt ls k (by omega)) (by simp)
theorem rd_done {ls : List By} {w W : World} {q : Nat} (h : RdI ls w q (preL ls ls.length) W) : ∃ rs a c, rdT 0 ls = .ok rs ∧ W.heap[q + 2]? = some (.cells #[.slice a rs.length c] rrT (0, 0)) ∧ OutR (q + 3) W (.slice a rs.length c) rs := by
  obtain ⟨rs, h1, a, c, h2, h3⟩ := h.fine
  exact ⟨rs, a, c, rd_end (pre_glue ls _ (Nat.le_refl _) rs h1 h.few).2, h2, h3⟩
theorem rd_stop {ls : List By} {w W : World} {q k : Nat} {hk : k < ls.length} (h : RdX ls w q (preL ls k ++ [xlAt ls k hk]) W) : ∃ ev f, rdT 0 ls = .error f ∧ W.heap[q + 1]? = some (.cells #[ev] erT (0, 0)) ∧ ErrV q W ev f := by
  obtain ⟨p0, x, rs, h1, h2, h3, ev, f, h4, h5, h6⟩ := h.fine
  obtain ⟨e1, e2⟩ := List.append_inj' h1 rfl
  have e3 : xlAt ls k hk = x := by injection e2
  subst e1
  subst e3
  obtain ⟨i1, i2⟩ := pre_glue ls k (by omega) rs h2 h3
  refine ⟨ev, f, ?_, h4, h5⟩
  rcases h6 with ⟨h6, rfl⟩ | ⟨⟨t, h6⟩, h7, rfl⟩
  · exact rd_form hk i2 h6
  · exact rd_many hk i2 h6 h7
/-- one more line -/
theorem rdI_more {ls : List By} {w W W' : World} {q : Nat} {pre : List (XL ls)} {x : XL ls} {rs : List (List Int)} {t : List Int} {a : Option Addr} {c : Nat} (h : RdI ls w q pre W) (hrs : pre.map (fun x => numsW (wordsT x.1.2)) = rs.map some) (ht : numsW (wordsT x.1.2) = some t) (h60 : x.1.1 ≠ 60) (hb : Below q w W') (h0 : W'.heap[q]? = W.heap[q]?) (h1 : W'.heap[q + 1]? = W.heap[q + 1]?) (h2 : W'.heap[q + 2]? = some (.cells #[.slice a (rs.length + 1) c] rrT (0, 0))) (ho : OutR (q + 3) W' (.slice a (rs.length + 1) c) (rs ++ [t])) (hs : q + 3 ≤ W'.heap.size) : RdI ls w q (pre ++ [x]) W' := by
  refine ⟨⟨rs ++ [t], ?_, a, c, ?_, ?_⟩, fun y hy => ?_, hb, h0.trans h.res, h1.trans h.err, hs⟩
  · rw [List.map_append, hrs, List.map_append, List.map_singleton, ht]; rfl
  · rw [List.length_append, List.length_singleton]; exact h2
  · rw [List.length_append, List.length_singleton]; exact ho
  · rcases List.mem_append.1 hy with hy | hy
    · exact h.few y hy
    · obtain rfl : y = x := by simpa using hy
      exact h60
end Tq
end Go.Proofs.YtiihgnagjemikaaGreatDoor
/- chapter 14: the program's Read. -/
namespace Go.Proofs.YtiihgnagjemikaaGreatDoor
open Go.RowKit Go.Shelf
attribute [local go_sem] Oper.semAt_some
attribute [-go_sem] Builtin.append_
namespace Tq
open Nx (Ints lt_of_block)
theorem resRead (tmps : Array Value) (W : World) (q : Nat) (a b : Value) (hp : tmps[2]?.getD undef = .pointer (some ⟨q, 0, none⟩)) (h2 : tmps[3]?.getD undef = .pointer (some ⟨q + 1, 0, none⟩)) (ha : W.cell? ⟨q, 0, none⟩ = some a) (hb : W.cell? ⟨q + 1, 0, none⟩ = some b) :
    (results Tryz.f6 tmps).run Tryz.prog W = .ok (.tuple #[a, b]) W := by
  simp [results, Tryz.results6, hp, h2, asAddr, loadVar, Tryz.isAgg22, Tryz.isAgg26, ha, hb]
theorem kf_of {B : Nat} {W W' : World} (hs : W.heap.size ≤ W'.heap.size) (h : ∀ b, b < W.heap.size → (∃ l T f, W.heap[b]? = some (.cells l T f)) ∨ W'.heap[b]? = W.heap[b]?) : KeepsFrom B W W' :=
  ⟨hs, fun k o _ hk ho => by
    rcases h k (lt_of_block hk) with ⟨l, T, f, e⟩ | e
    · rw [hk] at e
      injection e with e
      subst e
      cases ho
    · rw [e]; exact hk⟩
theorem ck_one {w : World} {g : Nat} {a : Value} {T : TypeId} (h : w.heap[g]? = some (.cells #[a] T (0, 0))) (x : Value) : (w.setCell ⟨g, 0, none⟩ x).heap[g]? = some (.cells #[x] T (0, 0)) := ck_set2 (l := [a]) h 0 x
theorem rdX_mk {ls : List By} {w W X V : World} {q : Nat} {pre : List (XL ls)} {x : XL ls} {ev : Value} {f : Int × Int} {rs : List (List Int)} (B : Nat) (hI : RdI ls w q pre W) (hrs : pre.map (fun x => numsW (wordsT x.1.2)) = rs.map some) (bX : Below W.heap.size W X) (hV : V = (X.setCell ⟨q, 0, none⟩ (.slice none 0 0)).setCell ⟨q + 1, 0, none⟩ ev)
    (hev : (f = (4, -1) ∧ ev = .iface 46 (.int .i64 4)) ∨ ∃ g i : Nat, f = (3, (i : Int)) ∧ q + 2 ≤ g ∧ ev = .iface 45 (.pointer (some ⟨g, 0, none⟩)) ∧ X.heap[g]? = some (.cells #[.int .i64 3, .int .i64 (i : Int)] 48 (0, 0)))
    (hc : (numsW (wordsT x.1.2) = none ∧ f = (3, (x.1.1 : Int))) ∨ (∃ t, numsW (wordsT x.1.2) = some t) ∧ x.1.1 = 60 ∧ f = (4, -1)) :
    KeepsFrom B W V ∧ (Code.ret = Code.ret ∧ RdX ls w q (pre ++ [x]) V) := by
  have kq := ck_block bX hI.res
  have ke := ck_block bX hI.err
  have v0 : V.heap[q]? = some (.cells #[.slice none 0 0] rrT (0, 0)) := by
    rw [hV, Below.heap_setCell _ _ _ _ (by show q ≠ q + 1; omega)]
    exact ck_one kq _
  have v1 : V.heap[q + 1]? = some (.cells #[ev] erT (0, 0)) := by
    rw [hV]
    exact ck_one (by rw [Below.heap_setCell _ _ _ _ (by show q + 1 ≠ q; omega)]; exact ke) _
  have vo : ∀ b, b ≠ q → b ≠ q + 1 → V.heap[b]? = X.heap[b]? := fun b h1 h2 => by
    rw [hV, Below.heap_setCell _ _ _ _ h2, Below.heap_setCell _ _ _ _ h1]
  have vs : V.heap.size = X.heap.size := by rw [hV]; simp [World.setCell]
  have vb : Below q X V := by rw [hV]; exact ((Below.refl q X).setCell (p := ⟨q, 0, none⟩) (Nat.le_refl _) _).setCell (p := ⟨q + 1, 0, none⟩) (Nat.le_succ _) _
  refine ⟨kf_of (by rw [vs]; exact bX.size) fun b hb => ?_, rfl, ⟨pre, x, rs, rfl, hrs, hI.few, ev, f, v1, ?_, hc⟩, hI.bel.trans ((bX.mono (by have := hI.big; omega)).trans vb), v0⟩
  · by_cases h1 : b = q
    · subst h1; exact .inl ⟨_, _, _, hI.res⟩
    · by_cases h2 : b = q + 1
      · subst h2; exact .inl ⟨_, _, _, hI.err⟩
      · exact .inr (by rw [vo b h1 h2, bX.block b hb])
  · rcases hev with h | ⟨g, i, e1, e2, e3, e4⟩
    · exact .inl h
    · exact .inr ⟨g, i, e1, by omega, e3, by rw [vo g (by omega) (by omega)]; exact e4⟩
def ReadO (w w' : World) (l : By) (v ev : Value) : Prop :=
  Below w.heap.size w w' ∧ match readT l with
    | .ok rows => ev = .nilIface ∧ OutR w.heap.size w' v rows
    | .error f => v = .slice none 0 0 ∧ ErrV w.heap.size w' ev f
set_option maxRecDepth 100000 in
set_option maxHeartbeats 8000000 in
theorem read_any {l : By} (hl : l.length ≤ 40000) {w : World} (hg : GV w) :
    Calls Tryz.prog 6 #[.string (st l)] w fun e w' => ∃ ad n cap ev, e = .returned (.tuple #[.slice ad n cap, ev]) ∧ Hid (ReadO w w' l (.slice ad n cap) ev) := by
  obtain ⟨q, hq⟩ : ∃ q, q = w.heap.size := ⟨_, rfl⟩
  obtain ⟨U1, hU1⟩ : ∃ U, U = w.alloc (.cells #[.slice none 0 0] rrT) := ⟨_, rfl⟩
  obtain ⟨U2, hU2⟩ : ∃ U, U = U1.alloc (.cells #[.nilIface] erT) := ⟨_, rfl⟩
  obtain ⟨U3, hU3⟩ : ∃ U, U = U2.alloc (.cells #[.slice none 0 0] rrT) := ⟨_, rfl⟩
  obtain ⟨s, hs⟩ : ∃ s, s = st l := ⟨_, rfl⟩
  obtain ⟨U4, hU4⟩ : ∃ U, U = U3.alloc (.cells #[.string s] 9) := ⟨_, rfl⟩
  have s1 : U1.heap.size = q + 1 := by rw [hU1, hq]; simp
  have s2 : U2.heap.size = q + 2 := by rw [hU2]; simp [s1]
  have s3 : U3.heap.size = q + 3 := by rw [hU3]; simp [s2]
  have s4 : U4.heap.size = q + 4 := by rw [hU4]; simp [s3]
  have b1 : Below w.heap.size w U1 := by rw [hU1]; exact ck_grown _ _
  have b2 : Below U1.heap.size U1 U2 := by rw [hU2]; exact ck_grown _ _
  have b3 : Below U2.heap.size U2 U3 := by rw [hU3]; exact ck_grown _ _
  have b4 : Below U3.heap.size U3 U4 := by rw [hU4]; exact ck_grown _ _
  have k0 : U1.heap[q]? = some (.cells #[.slice none 0 0] rrT (0, 0)) := by rw [hU1, hq]; exact ck_new _ _
  have k1 : U2.heap[q + 1]? = some (.cells #[.nilIface] erT (0, 0)) := by rw [← s1, hU2]; exact ck_new _ _
  have k2 : U3.heap[q + 2]? = some (.cells #[.slice none 0 0] rrT (0, 0)) := by rw [← s2, hU3]; exact ck_new _ _
  have k3 : U4.heap[q + 3]? = some (.cells #[.string s] 9 (0, 0)) := by rw [← s3, hU4]; exact ck_new _ _
  have bw : Below w.heap.size w U4 := ck_all b1 (ck_all b2 (ck_all b3 b4))
  have g4 : GV U4 := hg.below bw hg.big
  have h0 : RdI (linesT l) w q [] U4 := ⟨⟨[], rfl, none, 0, ck_block b4 k2, OutR.nil _ _⟩, fun x hx => by simp at hx, by rw [hq]; exact bw, ck_block b4 (ck_block b3 (ck_block b2 k0)), ck_block b4 (ck_block b3 k1), by omega⟩
  have HH : Hid (RdI (linesT l) w q [] U4 ∧ GV U4 ∧ U4.heap.size = q + 4 ∧ q = w.heap.size ∧ U4.cell? ⟨q + 3, 0, none⟩ = some (.string s) ∧ s = st l ∧ l.length ≤ 40000 ∧ 12 ≤ q) := ⟨h0, g4, s4, hq, cell_row k3 0 rfl, hs, hl, by rw [hq]; exact hg.big⟩
  have hli := lines_any s U3
  rw [s3, ← hU4] at hli
  have HU : Hid (U3 = (((w.alloc (.cells #[.slice none 0 0] rrT)).alloc (.cells #[.nilIface] erT)).alloc (.cells #[.slice none 0 0] rrT)) ∧ w.heap.size = q) := ⟨by rw [hU3, hU2, hU1], hq.symm⟩
  rw [← hs]
  clear s1 s2 s3 s4 b1 b2 b3 b4 k0 k1 k2 k3 bw g4 h0 hU1 hU2 hU3 hU4 hq hs hl hg
  refine (callsIn_wide (n := 6)).1 ?_
  refine callsIn_of_wp_marks Tryz.func6 rfl trivial ?_ rfl
  simp only [Tryz.ntmps6, List.size_toArray, List.length_cons, List.length_nil, Nat.reduceAdd, Nat.reduceSub, Array.replicate_succ, Array.replicate_zero, List.push_toArray, List.append_toArray, List.nil_append, List.cons_append]
  gi_wp2_with (refine ⟨trivial, ?_⟩; gi_at_call 11; rw [← HU.out.1]; rw [HU.out.2]; refine (callsIn_wide.2 hli).mono ?_; rintro e w5 ⟨rfl, hw5⟩; obtain rfl := hw5; clear hli)
  rw [show q + 1 + 1 = q + 2 from rfl]
  have hGq := HH.out.2.2.2.2.2.2.2
  have h5s := HH.out.2.2.1
  refine wpIn_rangeFunc_ownG (F := Fence.wide) (n := 6) rfl (by omega) (gf := 22) (lb := #[.pointer (some ⟨q + 3, 0, none⟩)]) rfl trivial (enters_of Tryz.func22 (by kernel_rfl) rfl)
    (lines_stops 5 (by omega) (Bs := q + 3) (s := l) HH.out.2.2.2.2.2.2.1 (w := w5) (by rw [← HH.out.2.2.2.2.2.1]; exact HH.out.2.2.2.2.1) HH.out.2.1)
    kpG_t (kpG_b (by omega)) (Below.refl _ _) (fun _ => rfl)
    (RdI (linesT l) w q) (fun c pre W => c = .ret ∧ RdX (linesT l) w q pre W)
    (rdI_own _ _ _ _ (by omega)) (fun c pre W W' row hs hg hr => ⟨hs.1, rdX_own _ _ _ _ (by omega) (by have := HU.out.2; omega) pre W W' row hs.2 hg hr⟩) HH.out.1
    (fun x => { tmps := #[.string s, undef, .pointer (some ⟨q, 0, none⟩), .pointer (some ⟨q + 1, 0, none⟩), .pointer (some ⟨q + 2, 0, none⟩), .int .i64 (x.1.1 : Int), .string (st x.1.2), undef, undef, .string s, .func (.func 22) #[] #[.pointer (some ⟨q + 3, 0, none⟩)], .int .i64 (x.1.1 : Int), .string (st x.1.2), undef, undef, undef, undef, undef, undef, undef, undef, undef, undef, undef, undef, undef, undef, undef, undef, undef, undef, undef], defers := [] }) ?assign ?body ?done ?stop
  case assign =>
    intro l' x W K hK
    gi_wp2
    exact hK
  case body =>
    rintro l' pre x W hI hlt
    have hxl : x.1.2.length ≤ 40000 := by rw [x.2.2]; exact Nat.le_trans (line_size x.2.1) HH.out.2.2.2.2.2.2.1
    have hgW : GV W := HH.out.2.1.keep (fun b hb => by
      have h1 := HH.out.1.bel
      rw [hI.bel.block b (by omega), h1.block b (by omega)]) (by have := hI.big; omega)
    have hnum := numbers_any (l := x.1.2) (by omega) hgW
    have HX : Hid (RdI (linesT l) w q pre W ∧ x.1.2.length ≤ 40000 ∧ pre.length < (linesT l).length) := ⟨hI, hxl, hlt⟩
    obtain ⟨rs, hrs, a2, c2, k2, ho⟩ := hI.fine
    obtain ⟨i, hi⟩ : ∃ i, i = x.1.1 := ⟨_, rfl⟩
    obtain ⟨sx, hsx⟩ : ∃ sx, sx = st x.1.2 := ⟨_, rfl⟩
    obtain ⟨m, hm⟩ : ∃ m, m = rs.length := ⟨_, rfl⟩
    have HR : Hid (pre.map (fun x => numsW (wordsT x.1.2)) = rs.map some ∧ W.heap[q + 2]? = some (.cells #[.slice a2 rs.length c2] rrT (0, 0)) ∧ OutR (q + 3) W (.slice a2 rs.length c2) rs ∧ m = rs.length ∧ i = x.1.1 ∧ rs.length ≤ 40001) := ⟨hrs, k2, ho, hm, hi, by
      have h1 := congrArg List.length hrs
      rw [List.length_map, List.length_map] at h1
      have h2 := ln_len l []
      have h3 : (linesT l).length ≤ l.length + 1 := h2
      have := HH.out.2.2.2.2.2.2.1
      omega⟩
    have r0 := cell_row hI.res 0 (u := .slice none 0 0) rfl
    have r1 := cell_row hI.err 0 (u := .nilIface) rfl
    have r2 := cell_row k2 0 (u := .slice a2 rs.length c2) rfl
    rw [← hsx] at hnum
    rw [← hm] at r2
    rw [← hi, ← hsx]
    clear hxl hgW hI hrs k2 ho hi hsx hm hlt hGq h5s
    cases hw : numsW (wordsT x.1.2) with
    | none =>
      have HW : Hid (numsW (wordsT x.1.2) = none) := hw
      clear hw
      gi_wp2_with (refine ⟨trivial, ?_⟩; gi_at_call 12; refine (CallsIn.inRound l' (callsIn_wide.2 hnum)).mono ?_; rintro e w3 ⟨a7, n7, c7, b7, rfl, H3⟩; clear hnum
                   obtain rfl : b7 = false := by { have := H3.out.2; rw [HW.out] at this; exact this }
                   have b3 : Below W.heap.size W w3 := H3.out.1
                   obtain ⟨X, hX⟩ : ∃ X, X = w3.alloc (.cells #[.int .i64 3, .int .i64 (i : Int)] 48) := ⟨_, rfl⟩
                   have bX : Below W.heap.size W X := by { rw [hX]; exact ck_all b3 (ck_grown _ _) }
                   have kA : X.heap[w3.heap.size]? = some (.cells #[.int .i64 3, .int .i64 (i : Int)] 48 (0, 0)) := by { rw [hX]; exact ck_new _ _ }
                   have kq := ck_block bX HX.out.1.res
                   have ke := ck_block bX HX.out.1.err
                   have x0 := cell_row kq 0 (u := .slice none 0 0) rfl
                   have x1 := cell_row ke 0 (u := .nilIface) rfl
                   have y0 := fun o => ck_frozen kq o
                   have y1 := fun o => ck_frozen ke o
                   have HA : Hid (Below W.heap.size W X ∧ X.heap[w3.heap.size]? = some (.cells #[.int .i64 3, .int .i64 (i : Int)] 48 (0, 0)) ∧ X.heap[q]? = some (.cells #[.slice none 0 0] rrT (0, 0)) ∧ X.heap[q + 1]? = some (.cells #[.nilIface] erT (0, 0)) ∧ Below W.heap.size W w3) := ⟨bX, kA, kq, ke, b3⟩
                   have HXE : Hid (X = w3.alloc (.cells #[.int .i64 3, .int .i64 (i : Int)] 48)) := hX
                   rw [hX] at x0 x1 y0 y1
                   clear b3 bX kA kq ke hX)
      exact rdX_mk (X := X) (f := (3, (i : Int))) _ HX.out.1 HR.out.1 HA.out.1 (by rw [HXE.out]) (.inr ⟨w3.heap.size, i, rfl, by have := HX.out.1.big; have := HA.out.2.2.2.2.size; omega, rfl, HA.out.2.1⟩) (.inl ⟨HW.out, by rw [HR.out.2.2.2.2.1]⟩)
    | some zs =>
      have HW : Hid (numsW (wordsT x.1.2) = some zs) := hw
      clear hw
      by_cases h60 : i = 60
      · have H60 : Hid (i = 60) := h60
        have h60' : ((i : Int) = 60) := by omega
        clear h60
        gi_wp2_with (refine ⟨trivial, ?_⟩; gi_at_call 12; refine (CallsIn.inRound l' (callsIn_wide.2 hnum)).mono ?_; rintro e w3 ⟨a7, n7, c7, b7, rfl, H3⟩; clear hnum
                     obtain rfl : b7 = true := by { have := H3.out.2; rw [HW.out] at this; exact this.1 }
                     have bX : Below W.heap.size W w3 := H3.out.1
                     have kq := ck_block bX HX.out.1.res
                     have ke := ck_block bX HX.out.1.err
                     have x0 := cell_row kq 0 (u := .slice none 0 0) rfl
                     have x1 := cell_row ke 0 (u := .nilIface) rfl
                     have y0 := fun o => ck_frozen kq o
                     have y1 := fun o => ck_frozen ke o
                     have HA : Hid (Below W.heap.size W w3) := bX
                     clear bX kq ke)
        exact rdX_mk (X := w3) (f := (4, -1)) _ HX.out.1 HR.out.1 HA.out rfl (.inl ⟨rfl, rfl⟩) (.inr ⟨⟨_, HW.out⟩, by rw [← HR.out.2.2.2.2.1]; exact H60.out, rfl⟩)
      · have h60' : ¬ ((i : Int) = 60) := by omega
        have H60 : Hid (i ≠ 60) := h60
        clear h60
        gi_wp2_with (refine ⟨trivial, ?_⟩; gi_at_call 12; refine (CallsIn.inRound l' (callsIn_wide.2 hnum)).mono ?_; rintro e w3 ⟨a7, n7, c7, b7, rfl, H3⟩; clear hnum
                     obtain rfl : b7 = true := by { have := H3.out.2; rw [HW.out] at this; exact this.1 }
                     have bX : Below W.heap.size W w3 := H3.out.1
                     obtain ⟨xs0, hx0, _⟩ := HR.out.2.2.1
                     have hcu := own_cap (v := .slice a7 n7 c7) (by { have := H3.out.2; rw [HW.out] at this; exact this.2 })
                     have hu := ownInts (zs := zs) (by { have := H3.out.2; rw [HW.out] at this; exact this.2 })
                     obtain ⟨g, cap6, w6, hr, hO6, hb6, hg6, hgS⟩ := OutR.more (S := q + 3) (w := w3) (v := .slice a2 rs.length c2) (u := .slice a7 n7 c7) (rows := rs) (zs := zs) (HR.out.2.2.1.below bX) (hu.carry fun b hA hl => ⟨⟨by have := HX.out.1.big; omega, hl, fun e => by have := (hx0.lt b e).2; omega⟩, rfl⟩) hcu (Nat.le_trans HX.out.1.big bX.size) (by have := HR.out.2.2.2.2.2; omega)
                     have hn2 : ∀ b, b < q + 3 → (Value.slice a2 rs.length c2).ownBlock ≠ some b := fun b hb e => by have := (hx0.lt b e).1; omega
                     have k6 : ∀ b, b < q + 3 → w6.heap[b]? = W.heap[b]? := fun b hb => by
                       have := HX.out.1.big
                       rw [hb6.block b hb, bX.block b (by omega)]
                     have ko : ∀ b, b < W.heap.size → (Value.slice a2 rs.length c2).ownBlock ≠ some b → w6.heap[b]? = W.heap[b]? := fun b hb hn => by
                       have := bX.size
                       rw [hg6.block b (by rw [World.size_alloc]; omega) (fun e => hn e.symm), Below.heap_alloc _ _ _ (by omega), bX.block b hb]
                     have kc : ∀ b, (Value.slice a2 rs.length c2).ownBlock = some b → ∃ l T f, W.heap[b]? = some (.cells l T f) := fun b e => by
                       rcases hx0.2 with ⟨h1, _⟩ | ⟨g', cap', cur, h1, _, h3, _⟩
                       · rw [h1] at e; cases e
                       · rw [h1] at e
                         obtain rfl : g' = b := by simpa [Value.ownBlock] using e
                         exact ⟨_, _, _, h3⟩
                     have h2 := (k6 (q + 2) (by omega)).trans HR.out.2.1
                     have x2 := cell_row h2 0 (u := .slice a2 rs.length c2) rfl
                     have y2 := fun o => ck_frozen h2 o
                     have hs6 : w3.heap.size ≤ w6.heap.size := by { have := hg6.size; rw [World.size_alloc] at this; omega }
                     have HA : Hid (OutR (q + 3) w6 (.slice (some ⟨g, 0, none⟩) (rs.length + 1) cap6) (rs ++ [zs]) ∧ Below (q + 3) w3 w6 ∧ Below W.heap.size W w3 ∧ (∀ b, b < q + 3 → w6.heap[b]? = W.heap[b]?) ∧ (∀ b, b < W.heap.size → (Value.slice a2 rs.length c2).ownBlock ≠ some b → w6.heap[b]? = W.heap[b]?) ∧ (∀ b, (Value.slice a2 rs.length c2).ownBlock = some b → ∃ l T f, W.heap[b]? = some (.cells l T f)) ∧ w3.heap.size ≤ w6.heap.size ∧ w6.heap[q + 2]? = some (.cells #[.slice a2 rs.length c2] rrT (0, 0))) := ⟨hO6, hb6, bX, k6, ko, kc, hs6, h2⟩
                     have r2' := ck_cell bX r2
                     rw [← HR.out.2.2.2.1] at hr x2
                     clear r0 r1 r2 bX hO6 hb6 hg6 hgS hn2 k6 ko kc h2 hs6 hx0 hu)
        have hm := HR.out.2.2.2.1
        obtain ⟨V, hV⟩ : ∃ V, V = w6.setCell ⟨q + 2, 0, none⟩ (.slice (some ⟨g, 0, none⟩) (m + 1) cap6) := ⟨_, rfl⟩
        rw [← hV]
        rw [hm] at hV
        have v2 : V.heap[q + 2]? = some (.cells #[.slice (some ⟨g, 0, none⟩) (rs.length + 1) cap6] rrT (0, 0)) := by rw [hV]; exact ck_one HA.out.2.2.2.2.2.2.2 _
        have vo : ∀ b, b ≠ q + 2 → V.heap[b]? = w6.heap[b]? := fun b h1 => by rw [hV, Below.heap_setCell _ _ _ _ h1]
        have vs : V.heap.size = w6.heap.size := by rw [hV]; simp [World.setCell]
        have hbig := HX.out.1.big
        have h3s := HA.out.2.2.1.size
        have h6s := HA.out.2.2.2.2.2.2.1
        have vb : Below q w V := by
          have h1 : Below q W w6 := (HA.out.2.2.1.mono (by omega)).trans (HA.out.2.1.mono (by omega))
          rw [hV]
          exact (HX.out.1.bel.trans h1).setCell (p := ⟨q + 2, 0, none⟩) (by show q ≤ q + 2; omega) _
        refine ⟨kf_of (by omega) fun b hb => ?_, ⟨fun b hb => ?_, fun _ => by have := HH.out.2.2.2.2.2.2.2; omega⟩, rdI_more HX.out.1 HR.out.1 HW.out (by rw [← HR.out.2.2.2.2.1]; exact H60.out) vb (by rw [vo q (by omega), HA.out.2.2.2.1 q (by omega)]) (by rw [vo (q + 1) (by omega), HA.out.2.2.2.1 (q + 1) (by omega)]) v2 (HA.out.1.keep (Nat.le_refl _) (fun b h1 _ => vo b (by omega)) (by omega)) (by omega)⟩
        · by_cases h1 : b = q + 2
          · subst h1; exact .inl ⟨_, _, _, HR.out.2.1⟩
          · by_cases h2 : (Value.slice a2 rs.length c2).ownBlock = some b
            · exact .inl (HA.out.2.2.2.2.2.1 b h2)
            · exact .inr (by rw [vo b h1, HA.out.2.2.2.2.1 b hb h2])
        · have := HH.out.2.2.2.2.2.2.2
          rw [vo b (by omega), HA.out.2.2.2.1 b (by omega)]
  case done =>
    rintro D ys W hD rfl hI hK
    obtain ⟨rs, a2, c2, hrd, k2, ho⟩ := rd_done hI
    have hDs := lt_of_block hK
    have r0 := cell_row hI.res 0 (u := .slice none 0 0) rfl
    have r1 := cell_row hI.err 0 (u := .nilIface) rfl
    have r2 := cell_row k2 0 (u := .slice a2 rs.length c2) rfl
    have y0 := fun o => ck_frozen hI.res o
    have y1 := fun o => ck_frozen hI.err o
    have HX : Hid (RdI (linesT l) w q (preL (linesT l) (linesT l).length) W ∧ W.heap[D]? = some (.deferred (some [])) ∧ w5.heap.size ≤ D ∧ rdT 0 (linesT l) = .ok rs ∧ OutR (q + 3) W (.slice a2 rs.length c2) rs) := ⟨hI, hK, hD, hrd, ho⟩
    obtain ⟨m, hm⟩ : ∃ m, m = rs.length := ⟨_, rfl⟩
    rw [← hm] at r2
    have HM : Hid (m = rs.length) := hm
    clear hI hK hD hrd ho k2 hm hGq h5s hDs
    gi_wp2_with fail
    obtain ⟨V, hV⟩ : ∃ V, V = (W.setCell ⟨q, 0, none⟩ (.slice a2 m c2)).setCell ⟨q + 1, 0, none⟩ .nilIface := ⟨_, rfl⟩
    rw [← hV]
    have hDq := HX.out.2.2.1
    have h5s := HH.out.2.2.1
    have hDl := lt_of_block HX.out.2.1
    have v0 : V.heap[q]? = some (.cells #[.slice a2 m c2] rrT (0, 0)) := by
      rw [hV, Below.heap_setCell _ _ _ _ (by show q ≠ q + 1; omega)]
      exact ck_one HX.out.1.res _
    have v1 : V.heap[q + 1]? = some (.cells #[.nilIface] erT (0, 0)) := by
      rw [hV]
      exact ck_one (by rw [Below.heap_setCell _ _ _ _ (by show q + 1 ≠ q; omega)]; exact HX.out.1.err) _
    have vo : ∀ b, b ≠ q → b ≠ q + 1 → V.heap[b]? = W.heap[b]? := fun b h1 h2 => by
      rw [hV, Below.heap_setCell _ _ _ _ h2, Below.heap_setCell _ _ _ _ h1]
    have vs : V.heap.size = W.heap.size := by rw [hV]; simp [World.setCell]
    have vb : Below q W V := by rw [hV]; exact ((Below.refl q W).setCell (p := ⟨q, 0, none⟩) (Nat.le_refl _) _).setCell (p := ⟨q + 1, 0, none⟩) (Nat.le_succ _) _
    have vD : V.heap[D]? = some (.deferred (some [])) := by rw [vo D (by omega) (by omega)]; exact HX.out.2.1
    clear hV
    have zo : ∀ b, b ≠ D → (V.putObj D (.deferred none)).heap[b]? = V.heap[b]? := fun b h => World.putObj_heap_other (by omega)
    have zs : (V.putObj D (.deferred none)).heap.size = V.heap.size := by simp [World.putObj]
    refine ⟨by simp, .inl ⟨_, _, rfl, run_takeDeferred vD, ?_⟩⟩
    refine ⟨_, resRead _ _ q (.slice a2 m c2) .nilIface rfl rfl (cell_row (by rw [zo q (by omega)]; exact v0) 0 rfl) (cell_row (by rw [zo (q + 1) (by omega)]; exact v1) 0 rfl), a2, m, c2, .nilIface, rfl, ?_, ?_⟩
    · have := (HX.out.1.bel.trans vb).grown (grownBy_putObj' V D (.deferred none)) (by have := HX.out.1.big; omega) (fun b e => by cases e; omega)
      rw [HU.out.2]; exact this
    · have hrd : readT l = .ok rs := HX.out.2.2.2.1
      rw [hrd]
      refine ⟨rfl, ?_⟩
      rw [HU.out.2, HM.out]
      refine HX.out.2.2.2.2.kept' (by omega) (fun b l' T f h1 hb => ?_) (by omega)
      have hbD : b ≠ D := fun e => by rw [e, HX.out.2.1] at hb; cases hb
      rw [zo b hbD, vo b (by omega) (by omega)]
  case stop =>
    rintro D c pre W hD ⟨k, hk, rfl⟩ ⟨rfl, hX⟩ hK
    obtain ⟨ev, f, hrd, k1, he⟩ := rd_stop hX
    have HX : Hid (RdX (linesT l) w q (preL (linesT l) k ++ [xlAt (linesT l) k hk]) W ∧ W.heap[D]? = some (.deferred (some [])) ∧ w5.heap.size ≤ D ∧ rdT 0 (linesT l) = .error f ∧ W.heap[q + 1]? = some (.cells #[ev] erT (0, 0)) ∧ ErrV q W ev f) := ⟨hX, hK, hD, hrd, k1, he⟩
    clear hX hK hD hrd k1 he hGq h5s
    gi_wp2_with fail
    have hDq := HX.out.2.2.1
    have h5s := HH.out.2.2.1
    have hDl := lt_of_block HX.out.2.1
    have zo : ∀ b, b ≠ D → (W.putObj D (.deferred none)).heap[b]? = W.heap[b]? := fun b h => World.putObj_heap_other (by omega)
    refine ⟨by simp, .inl ⟨_, _, rfl, run_takeDeferred HX.out.2.1, ?_⟩⟩
    refine ⟨_, resRead _ _ q (.slice none 0 0) ev rfl rfl (cell_row (by rw [zo q (by omega)]; exact HX.out.1.res) 0 rfl) (cell_row (by rw [zo (q + 1) (by omega)]; exact HX.out.2.2.2.2.1) 0 rfl), none, 0, 0, ev, rfl, ?_, ?_⟩
    · have := HX.out.1.bel.grown (grownBy_putObj' W D (.deferred none)) (by omega) (fun b e => by cases e; omega)
      rw [HU.out.2]; exact this
    · have hrd : readT l = .error f := HX.out.2.2.2.1
      rw [hrd]
      refine ⟨rfl, ?_⟩
      rw [HU.out.2]
      rcases HX.out.2.2.2.2.2 with h | ⟨g, i, e1, e2, e3, e4⟩
      · exact .inl h
      · exact .inr ⟨g, i, e1, e2, e3, by rw [zo g (fun e => by rw [e, HX.out.2.1] at e4; cases e4)]; exact e4⟩
end Tq
end Go.Proofs.YtiihgnagjemikaaGreatDoor
/- chapter 14: how numbers are printed. -/
namespace Go.Proofs.YtiihgnagjemikaaGreatDoor
open Go.RowKit
namespace Tq
open Nx (Ints lt_of_block)
def rowK (l : List Int) : By := (l.flatMap fun n => 32 :: Lib.itoa n).drop 1
def rowT (l : List Int) : By := rowK l ++ [10]
def printT (rows : List (List Int)) : By := rows.flatMap rowT
abbrev I64 (n : Int) : Prop := -9223372036854775808 ≤ n ∧ n ≤ 9223372036854775807
theorem row_first {l : List Int} (h : 0 < l.length) : rowK (l.take 1) = Lib.itoa (l.getD 0 0) := by
  cases l with
  | nil => simp at h
  | cons x t => simp [rowK]
theorem row_more {l : List Int} {j : Nat} (h : j < l.length) (h0 : 0 < j) : rowK (l.take (j + 1)) = rowK (l.take j) ++ (32 :: Lib.itoa (l.getD j 0)) := by
  unfold rowK
  rw [List.take_succ_eq_append_getElem h, List.flatMap_append, List.drop_append_of_le_length]
  · congr 1
    rw [List.flatMap_singleton, List.getD_eq_getElem?_getD, List.getElem?_eq_getElem h]; rfl
  · cases l with
    | nil => simp at h
    | cons x t =>
      obtain ⟨m, rfl⟩ : ∃ m, j = m + 1 := ⟨j - 1, by omega⟩
      simp
theorem print_more {rows : List (List Int)} {k : Nat} (h : k < rows.length) : printT (rows.take (k + 1)) = printT (rows.take k) ++ (rowK (rows.getD k []) ++ [10]) := by
  unfold printT
  rw [List.take_succ_eq_append_getElem h, List.flatMap_append, List.flatMap_singleton, List.getD_eq_getElem?_getD, List.getElem?_eq_getElem h]; rfl
theorem row_len {l : List Int} (h : ∀ j, I64 (l.getD j 0)) : ∀ j, j ≤ l.length → ((l.take j).flatMap fun n => 32 :: Lib.itoa n).length ≤ 22 * j
  | 0, _ => by simp
  | j + 1, hj => by
    have ih := row_len h j (by omega)
    have hn := h j
    have := Lib.itoa_length_le (l.getD j 0) hn.1 hn.2
    rw [List.take_succ_eq_append_getElem (by omega), List.flatMap_append, List.flatMap_singleton, List.length_append, List.length_cons]
    have e : l[j] = l.getD j 0 := by rw [List.getD_eq_getElem?_getD, List.getElem?_eq_getElem (by omega)]; rfl
    rw [e]; omega
theorem rowK_len {l : List Int} (h : ∀ j, I64 (l.getD j 0)) {j : Nat} (hj : j ≤ l.length) : (rowK (l.take j)).length ≤ 22 * j := by
  have := row_len h j hj
  unfold rowK
  rw [List.length_drop]; omega
theorem print_len {rows : List (List Int)} {m : Nat} (h : ∀ k j, I64 ((rows.getD k []).getD j 0)) (hm : ∀ k, k < rows.length → (rows.getD k []).length ≤ m) : ∀ k, k ≤ rows.length → (printT (rows.take k)).length ≤ (22 * m + 1) * k
  | 0, _ => by simp [printT]
  | k + 1, hk => by
    have ih := print_len h hm k (by omega)
    have h1 := rowK_len (h k) (Nat.le_refl (rows.getD k []).length)
    rw [List.take_length] at h1
    have h2 := hm k (by omega)
    rw [print_more (by omega), List.length_append, List.length_append, List.length_singleton, Nat.mul_succ]
    omega
/-- rows of numbers that came in -/
def RowsI (w : World) (v : Value) (rows : List (List Int)) : Prop :=
  ∃ ad b off cap, v = .slice ad rows.length cap ∧ (0 < rows.length → ad = some ⟨b, off, none⟩) ∧ ∀ k, k < rows.length → ∃ u, w.cell? ⟨b, off + k, none⟩ = some u ∧ Ints (fun b => b < w.heap.size) w u (rows.getD k [])
theorem RowsI.below {w w' : World} {v : Value} {rows : List (List Int)} (h : RowsI w v rows) (hb : Below w.heap.size w w') : RowsI w' v rows := by
  obtain ⟨ad, b, off, cap, rfl, h1, h2⟩ := h
  refine ⟨ad, b, off, cap, rfl, h1, fun k hk => ?_⟩
  obtain ⟨u, hu, hi⟩ := h2 k hk
  exact ⟨u, ck_cell hb hu, hi.carry fun b hA hl => ⟨Nat.lt_of_lt_of_le hl hb.size, hb.block b hl⟩⟩
theorem st_app (a b : By) : st a ++ st b = st (a ++ b) := by
  have : (st a ++ st b).data = (st (a ++ b)).data := by simp [st]
  cases h : st a ++ st b
  rw [h] at this
  cases this
  rfl
end Tq
end Go.Proofs.YtiihgnagjemikaaGreatDoor
/- chapter 14: what is printed reads as it was. -/
namespace Go.Proofs.YtiihgnagjemikaaGreatDoor
namespace Tq
open Go.Lib
theorem dig_nat {d : Nat} (h : d < 10) : (UInt8.ofNat (48 + d)).toNat = 48 + d := by
  rw [UInt8.toNat_ofNat']
  omega
theorem pu_snoc (d : Nat) (hd : d < 10) : ∀ (xs : By) (acc v : Nat), parseUint10 acc xs = .ok v → 10 * v + d < 18446744073709551616 → parseUint10 acc (xs ++ [UInt8.ofNat (48 + d)]) = .ok (10 * v + d)
  | [], acc, v, h, hv => by
    simp only [parseUint10] at h
    injection h with h
    subst h
    simp only [List.nil_append, parseUint10, dig_nat hd]
    rw [if_pos (by omega), if_neg (by omega), if_neg (by omega)]
    congr 1
    omega
  | c :: r, acc, v, h, hv => by
    simp only [parseUint10] at h
    simp only [List.cons_append, parseUint10]
    split at h
    · split at h
      · cases h
      · split at h
        · cases h
        · rename_i h1 h2 h3
          rw [if_pos h1, if_neg h2, if_neg h3]
          exact pu_snoc d hd r _ v h hv
    · cases h
theorem pu_dec (u : Nat) (hu : u < 18446744073709551616) : parseUint10 0 (decDigits u) = .ok u := by
  by_cases h : u < 10
  · rw [decDigits, dif_pos h]
    have := pu_snoc u h [] 0 0 rfl (by omega)
    simpa using this
  · rw [decDigits, dif_neg h]
    have := pu_snoc (u % 10) (by omega) (decDigits (u / 10)) 0 (u / 10) (pu_dec (u / 10) (by omega)) (by omega)
    rw [this]
    congr 1
    omega
termination_by u
theorem dec_dig (u : Nat) : ∀ c ∈ decDigits u, 48 ≤ c.toNat ∧ c.toNat ≤ 57 := by
  intro c hc
  by_cases h : u < 10
  · rw [decDigits, dif_pos h, List.mem_singleton] at hc
    rw [hc, dig_nat h]
    omega
  · rw [decDigits, dif_neg h, List.mem_append, List.mem_singleton] at hc
    rcases hc with hc | hc
    · exact dec_dig (u / 10) c hc
    · rw [hc, dig_nat (by omega)]
      omega
termination_by u
theorem dec_ne (u : Nat) : decDigits u ≠ [] := by
  have h1 := decDigits_length u
  have h2 := nDigits_pos u
  intro e
  rw [e] at h1
  simp at h1
  omega
theorem itoa_byte {n : Int} {c : UInt8} (h : c ∈ itoa n) : c.toNat = 45 ∨ (48 ≤ c.toNat ∧ c.toNat ≤ 57) := by
  unfold itoa at h
  split at h
  · rcases List.mem_cons.1 h with h | h
    · exact .inl (by rw [h]; rfl)
    · exact .inr (dec_dig _ c h)
  · exact .inr (dec_dig _ c h)
theorem itoa_ne (n : Int) : itoa n ≠ [] := by
  unfold itoa
  split
  · simp
  · exact dec_ne _
theorem itoa_no {n : Int} {c : UInt8} (h : c.toNat < 45) : c ∉ itoa n := fun hc => by
  have := itoa_byte hc
  omega
theorem parse_itoa {n : Int} (h : I64 n) : parseIntB 64 (itoa n) = .ok n := by
  obtain ⟨h1, h2⟩ := h
  rw [parseIntB_64]
  unfold itoa
  by_cases hn : n < 0
  · rw [if_pos hn]
    have hp : parseMag (decDigits n.natAbs) = .ok n.natAbs := by
      unfold parseMag
      rw [if_neg (dec_ne _), pu_dec _ (by omega)]
    have e45 : (45 : UInt8).toNat = 45 := rfl
    simp only [atoiAll, e45, or_true, if_true, hp]
    rw [if_neg (by simp), if_neg (by omega)]
    simp
    omega
  · rw [if_neg hn]
    have hp : parseMag (decDigits n.toNat) = .ok n.toNat := by
      unfold parseMag
      rw [if_neg (dec_ne _), pu_dec _ (by omega)]
    cases hd : decDigits n.toNat with
    | nil => exact absurd hd (dec_ne _)
    | cons c r =>
      have hc := dec_dig n.toNat c (by rw [hd]; simp)
      rw [hd] at hp
      have n45 : ¬ c.toNat = 45 := by omega
      have n43 : ¬ (c.toNat = 43 ∨ c.toNat = 45) := by omega
      unfold atoiAll
      dsimp only
      rw [if_neg n43, hp]
      dsimp only
      rw [if_neg (by omega), if_neg (by omega), if_neg n45]
      congr 1
      omega
theorem numW_itoa {n : Int} (h : I64 n) : numW (itoa n) = some n := by
  unfold numW
  rw [parse_itoa h]
  simp
theorem nums_itoa : ∀ {l : List Int}, (∀ n ∈ l, I64 n) → numsW (l.map itoa) = some l
  | [], _ => rfl
  | a :: t, h => by
    rw [List.map_cons, numsW, numW_itoa (h a (by simp)), nums_itoa (fun n hn => h n (by simp [hn]))]
theorem wl_more : ∀ (l : List Int) (cur : By), cur ≠ [] → wl cur (l.flatMap fun n => 32 :: itoa n) = cur :: l.map itoa
  | [], cur, h => by simp [wl, h]
  | a :: t, cur, h => by
    rw [List.flatMap_cons, List.cons_append, wl, if_pos rfl, if_neg h, wl_run _ _ _ (itoa_no (by decide)), List.nil_append, wl_more t _ (itoa_ne a), List.map_cons]
theorem words_row (l : List Int) : wordsT (rowK l) = l.map itoa := by
  cases l with
  | nil => rfl
  | cons a t =>
    unfold wordsT rowK
    rw [List.flatMap_cons, List.cons_append, List.drop_succ_cons, List.drop_zero, wl_run _ _ _ (itoa_no (by decide)), List.nil_append, wl_more t _ (itoa_ne a), List.map_cons]
theorem row_no (l : List Int) : (10 : UInt8) ∉ rowK l := by
  unfold rowK
  intro h
  have h2 := List.mem_of_mem_drop h
  obtain ⟨n, _, hn⟩ := List.mem_flatMap.1 h2
  rcases List.mem_cons.1 hn with hn | hn
  · exact absurd hn (by decide)
  · exact itoa_no (by decide) hn
theorem lines_print : ∀ rows : List (List Int), linesT (printT rows) = rows.map rowK
  | [] => rfl
  | r :: t => by
    have ih := lines_print t
    unfold linesT printT at *
    rw [List.flatMap_cons]
    unfold rowT
    rw [List.append_assoc, List.singleton_append, ln_at _ _ _ (row_no r), List.nil_append]
    unfold rowT at ih
    rw [ih, List.map_cons]
theorem rd_rows : ∀ (rows : List (List Int)) (i : Nat), (∀ r ∈ rows, ∀ n ∈ r, I64 n) → i + rows.length ≤ 60 → rdT i (rows.map rowK) = .ok rows
  | [], _, _, _ => rfl
  | r :: t, i, h, hl => by
    rw [List.length_cons] at hl
    rw [List.map_cons, rdT, words_row, nums_itoa (h r (by simp))]
    simp only
    rw [if_neg (by omega), rd_rows t (i + 1) (fun x hx => h x (by simp [hx])) (by omega)]
theorem read_print {rows : List (List Int)} (h : ∀ r ∈ rows, ∀ n ∈ r, I64 n) (hl : rows.length ≤ 60) : readT (printT rows) = .ok rows := by
  unfold readT
  rw [lines_print, rd_rows rows 0 h (by omega)]
end Tq
end Go.Proofs.YtiihgnagjemikaaGreatDoor
