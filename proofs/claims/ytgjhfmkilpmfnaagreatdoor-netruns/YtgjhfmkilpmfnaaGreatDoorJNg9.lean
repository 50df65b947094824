/- NetRuns: what the law calls besides the machines: CheckNet, few; code that is fine. -/
import Derived.Test.YtgjhfmkilpmfnaaGreatDoorJNr5
import Derived.Test.YtgjhfmkilpmfnaaGreatDoorJNl3
import Derived.Test.YtgjhfmkilpmfnaaGreatDoorJNg2
namespace Go.Proofs.YtgjhfmkilpmfnaaGreatDoor
open Go.RowKit
namespace Nx

/-- the document's CheckNet, of whatever code is held -/
theorem cn_any (B : Nat) (n : Nt) (w : World) (vF vI vO vK vN vC : Value) (h : NetV B w n vF vI vO vK vN vC) (hcap : ∃ ad cap, vI = .slice ad n.ins.length cap ∧ n.ins.length ≤ cap) (hs : Small n) (hFine : w.cell? ⟨0, 0, none⟩ = some (.int .i64 0) ∧ w.cell? ⟨0, 1, none⟩ = some (.int .i64 (-1))) :
    Calls Tryz.prog 6 #[.agg #[.int .i64 n.places, vF, vI, vO, vK, vN, vC]] w fun e w' => e = .returned (.agg #[.int .i64 (check n).1, .int .i64 (check n).2]) ∧ Below w.heap.size w w' := by
  obtain ⟨adI, capI, rfl, hc⟩ := hcap
  have hI := h.i; have hO := h.o; have hK := h.k; have hC := h.c
  obtain ⟨adF, _, _, capF, rfl, -, -⟩ := h.f
  obtain ⟨adO, _, _, capO, rfl, -, -⟩ := h.o
  obtain ⟨adK, _, _, capK, rfl, -, -⟩ := h.k
  obtain ⟨adN, _, _, capN, rfl, -, -⟩ := h.m
  obtain ⟨adC, _, _, capC, rfl, -, -⟩ := h.c
  by_cases h0 : n.places < 0
  · have e : check n = (4, -1) := by
      have e : wholeE n = 4 := by unfold wholeE; rw [if_pos (.inl h0)]
      unfold check; rw [e]; rfl
    rw [e]; exact cn_low n w _ _ _ adI adO adK capI capO capK h0 hs.s
  · by_cases hf : (n.first.length : Int) = n.places
    · exact cn_main n w adF adI adO adK adN adC capF capI capO capK capN capC hs hc hFine (by omega) hf hI hO hK hC
    · rw [check_form hs (by omega) hf]; exact cn_form n w adF adI adO adK adN adC capF capI capO capK capN capC hs (by omega) hf


theorem stepsE_all (P : Int) (nums : Nat) (l : List Sp) (i : Nat) (h : (stepsE P nums l i).1 = 0) : ∀ k, k < l.length → stepE P nums (l.getD k sp0) = 0 := by
  induction l generalizing i with
  | nil => intro k hk; simp at hk
  | cons s r ih =>
    rw [stepsE] at h
    split at h
    · rename_i h0
      intro k hk
      cases k with
      | zero => simpa using h0
      | succ k => simpa using ih (i + 1) h k (by simpa using hk)
    · rename_i h0
      exact absurd h h0

/-- code that has no fault is fine at each place -/
theorem fine_of_check (n : Nt) (h : (check n).1 = 0) (hn : ∀ k, F64 (n.nums.getD k 0)) : Fine n n.first.length ∧ (n.first.length : Int) = n.places := by
  unfold check at h
  split at h
  · rename_i hw
    unfold wholeE at hw
    split at hw
    · omega
    split at hw
    · omega
    rename_i hp
    split at hw
    · omega
    rename_i ha
    simp only [Classical.not_not] at hp ha
    obtain ⟨h1, h2, h3⟩ := ha
    have pl : ∀ l : List Int, l.all (isPl n.places) = true → ∀ k, k < l.length → 0 ≤ l.getD k 0 ∧ l.getD k 0 < (n.first.length : Nat) := by
      intro l hl k hk
      have := List.all_eq_true.1 hl (l.getD k 0) (by rw [List.getD_eq_getElem?_getD, List.getElem?_eq_getElem hk]; simp)
      simp [isPl] at this
      simp only [List.getD_eq_getElem?_getD]
      omega
    refine ⟨⟨pl _ h1, pl _ h2, pl _ h3, ?_, hn⟩, hp⟩
    rw [hp]
    exact stepsE_all _ _ _ 0 h
  · rename_i hw
    exact absurd h hw
end Nx
end Go.Proofs.YtgjhfmkilpmfnaaGreatDoor
/- NetRuns: the law's few. -/
namespace Go.Proofs.YtgjhfmkilpmfnaaGreatDoor
open Go.RowKit
namespace Nx

theorem ix27 (ad : Option Addr) (b off n cap k : Nat) (hk : k < n) (ha : 0 < n → ad = some ⟨b, off, none⟩) (w : World) : (Instr.indexAt 27 (.slice ad n cap) (.int .i64 (k : Int))).run Tryz.prog w = .ok (.pointer (some ⟨b, off + k, none⟩)) w := by
  obtain rfl := ha (by omega)
  rw [run_indexAt_slice _ _ _ _ _ _ _ (by kernel_rfl), if_pos ⟨by omega, by omega⟩]
  have e : (sizeOf (Tryz.prog.elem 27)).run Tryz.prog w = .ok 1 w := by kernel_rfl
  rw [e]
  simp [Result.andThen, Addr.add]

theorem few_big (ad : Option Addr) (n cap : Nat) (w : World) (hn : 40 < n) :
    Calls Tryz.prog 5 #[.slice ad n cap] w fun e w' => e = .returned (.bool false) ∧ w' = w := by
  go_enter Tryz.func5, Tryz.ntmps5
  go_wp2
  go_ret
  exact ⟨rfl, rfl⟩

set_option maxHeartbeats 1000000 in
/-- rows of these lengths: few, or not -/
theorem few_any (ad : Option Addr) (n cap b off : Nat) (w : World) (L : Nat → Nat) (hn : n ≤ 40) (ha : 0 < n → ad = some ⟨b, off, none⟩)
    (hc : ∀ k, k < n → ∃ a c, w.cell? ⟨b, off + k, none⟩ = some (.slice a (L k) c)) :
    Calls Tryz.prog 5 #[.slice ad n cap] w fun e w' => (e = .returned (.bool true) ∧ (∀ k, k < n → L k ≤ 30) ∨ e = .returned (.bool false) ∧ ¬ ∀ k, k < n → L k ≤ 30) ∧ w' = w := by
  have HA : Hid (0 < n → ad = some ⟨b, off, none⟩) := ha
  have HC : Hid (∀ k, k < n → ∃ a c, w.cell? ⟨b, off + k, none⟩ = some (.slice a (L k) c)) := hc
  clear ha hc
  go_enter Tryz.func5, Tryz.ntmps5
  go_wp2
  go_loopw [3] (fun i wr => ∃ k : Nat, k ≤ n ∧ i = .int .i64 k ∧ Hid (∀ j, j < k → L j ≤ 30) ∧ wr = w) (fun i _ => n - (intOf i).toNat)
  case atStart => exact ⟨0, Nat.zero_le _, rfl, fun j hj => by omega, rfl⟩
  case round =>
    obtain ⟨k, hk, rfl, HL, hw⟩ := hrel
    obtain rfl := hw
    by_cases hlt : k < n
    · have hix := ix27 ad b off n cap k hlt HA.out
      obtain ⟨a, c, cx⟩ := HC.out k hlt
      obtain ⟨l, hl⟩ : ∃ l, l = L k := ⟨_, rfl⟩
      rw [← hl] at cx
      have HLK : Hid (l = L k) := hl
      clear hl
      by_cases h30 : l ≤ 30
      · go_wp2
        go_roundw
        case rel => exact ⟨k + 1, by omega, by go_num, fun j hj => by
          by_cases e : j = k
          · subst e; rw [← HLK.out]; exact h30
          · exact HL.out j (by omega), by first | trivial | rfl⟩
        case measure => simp [intOf]; omega
      · go_wp2
        go_ret
        exact ⟨.inr ⟨rfl, fun hh => h30 (by rw [HLK.out]; exact hh k hlt)⟩, rfl⟩
    · obtain rfl : k = n := by omega
      go_wp2
      go_ret
      exact ⟨.inl ⟨rfl, HL.out⟩, rfl⟩
end Nx
end Go.Proofs.YtgjhfmkilpmfnaaGreatDoor
/- What net's New answers. -/
namespace Go.Proofs.YtgjhfmkilpmfnaaGreatDoor
open Go.RowKit
namespace Nx

theorem IsErr.nil_iff {B : Nat} {w : World} {v : Value} {f : Nat × Int} (h : IsErr B w v f) : (f.1 = 0 ∧ v = .nilIface) ∨ (f.1 ≠ 0 ∧ ∃ T u, v = .iface T u) := by
  rcases h with ⟨h1, _, h2⟩ | ⟨h1, _, h2⟩ | ⟨h1, g, q, _, _, h2, _⟩
  · exact .inl ⟨h1, h2⟩
  · exact .inr ⟨h1, _, _, h2⟩
  · exact .inr ⟨h1, _, _, h2⟩

set_option maxHeartbeats 400000 in
theorem new_bad (B : Nat) (n : Nt) (w : World) (vF vI vO vK vN vC : Value) (h : NetV B w n vF vI vO vK vN vC) (hB : B ≤ w.heap.size) (hs : Small n) (hw : (check n).1 ≠ 0) :
    Calls Tryz.prog 7 #[.agg #[.int .i64 n.places, vF, vI, vO, vK, vN, vC]] w fun e w' => ∃ v, e = .returned (.tuple #[.pointer none, v]) ∧ IsErr w.heap.size w' v (check n) ∧ Below w.heap.size w w' := by
  have hck : Calls Tryz.prog 17 #[.agg #[.int .i64 n.places, vF, vI, vO, vK, vN, vC]] (w.alloc (.cells #[.int .i64 n.places, vF, vI, vO, vK, vN, vC] 26)) fun e w' => ∃ T u, e = .returned (.iface T u) ∧ Hid (IsErr w.heap.size w' (.iface T u) (check n) ∧ Below w.heap.size w w') := by
    refine (check_any B n _ vF vI vO vK vN vC (h.below ((grown_one w _).mono hB) (Nat.le_refl _)) (Nat.le_trans hB (grown_one w _).size) hs).mono fun e w' ⟨v, he, hi, hb⟩ => ?_
    rcases hi.nil_iff with ⟨h0, _⟩ | ⟨_, T, u, rfl⟩
    · exact absurd h0 hw
    · refine ⟨T, u, he, ?_, ball (grown_one w _) hb⟩
      rcases hi with hi | hi | ⟨h1, g, q, h2, h3, h4, h5⟩
      · exact .inl hi
      · exact .inr (.inl hi)
      · exact .inr (.inr ⟨h1, g, q, h2, Nat.le_trans (grown_one w _).size h3, h4, h5⟩)
  clear h hB hs hw
  go_enter Tryz.func7, Tryz.ntmps7
  go_wp2_with (go_at_call 17; refine hck.mono ?_; rintro e w1 ⟨T, u, rfl, X⟩)
  go_ret2
  exact ⟨_, rfl, X.out.1, X.out.2⟩

set_option maxHeartbeats 1000000 in
theorem new_fine (B : Nat) (n : Nt) (w : World) (vF vI vO vK vN vC : Value) (h : NetV B w n vF vI vO vK vN vC) (hB : B ≤ w.heap.size) (hs : Small n) (hfl : n.first.length ≤ 100000) (hw : (check n).1 = 0) :
    Calls Tryz.prog 7 #[.agg #[.int .i64 n.places, vF, vI, vO, vK, vN, vC]] w fun e w' => ∃ bm g, e = .returned (.tuple #[.pointer (some ⟨bm, 0, none⟩), .nilIface]) ∧ IsM B w' bm g n n.first ∧ w.heap.size ≤ bm ∧ w.heap.size ≤ g ∧ bm < w'.heap.size ∧ Below w.heap.size w w' := by
  have HV : Hid (NetV B w n vF vI vO vK vN vC) := h
  have hck : Calls Tryz.prog 17 #[.agg #[.int .i64 n.places, vF, vI, vO, vK, vN, vC]] (w.alloc (.cells #[.int .i64 n.places, vF, vI, vO, vK, vN, vC] 26)) fun e w' => e = .returned .nilIface ∧
      Hid (Below (w.alloc (.cells #[.int .i64 n.places, vF, vI, vO, vK, vN, vC] 26)).heap.size (w.alloc (.cells #[.int .i64 n.places, vF, vI, vO, vK, vN, vC] 26)) w') := by
    refine (check_any B n _ vF vI vO vK vN vC (h.below ((grown_one w _).mono hB) (Nat.le_refl _)) (Nat.le_trans hB (grown_one w _).size) hs).mono fun e w' ⟨v, he, hi, hb⟩ => ?_
    rcases hi.nil_iff with ⟨_, rfl⟩ | ⟨h1, _⟩
    · exact ⟨he, hb⟩
    · exact absurd hw h1
  have HX : Hid (∀ w1, Below (w.alloc (.cells #[.int .i64 n.places, vF, vI, vO, vK, vN, vC] 26)).heap.size (w.alloc (.cells #[.int .i64 n.places, vF, vI, vO, vK, vN, vC] 26)) w1 → w1.cell? ⟨w.heap.size, 0, none⟩ = some (.int .i64 n.places) ∧ w1.cell? ⟨w.heap.size, 1, none⟩ = some vF ∧ w1.cell? ⟨w.heap.size, 2, none⟩ = some vI ∧ w1.cell? ⟨w.heap.size, 3, none⟩ = some vO ∧ w1.cell? ⟨w.heap.size, 4, none⟩ = some vK ∧ w1.cell? ⟨w.heap.size, 5, none⟩ = some vN ∧ w1.cell? ⟨w.heap.size, 6, none⟩ = some vC ∧
      (Calls Tryz.prog 18 #[vF] w1.drew fun e w' => ∃ ad cap, e = .returned (.slice ad n.first.length cap) ∧ Hid (∃ g, Own w' (.slice ad n.first.length cap) n.first g ∧ w.heap.size ≤ g ∧ g < w'.heap.size ∧ Below w1.heap.size w1 w')) ∧ Hid (Below w.heap.size w w1)) := by
    intro w1 hb
    have hbw : Below w.heap.size w w1 := ball (grown_one w _) hb
    have hlw : w.heap.size < w1.heap.size := by have := hb.size; simp at this; omega
    refine ⟨cell_below hb (by simp), cell_below hb (by simp), cell_below hb (by simp), cell_below hb (by simp), cell_below hb (by simp), cell_below hb (by simp), cell_below hb (by simp), ?_, hbw⟩
    refine (clone64 (A := (· < B)) vF n.first w1.drew ((HV.out.f.carry fun b hl _ => ⟨hl, hbw.block b (Nat.lt_of_lt_of_le hl hB)⟩).carry fun b hl _ => ⟨hl, rfl⟩) hfl).mono fun e w' ⟨v', he, ho, hb'⟩ => ?_
    obtain ⟨g, hg, hgB, hgl, _⟩ := own_of_row ho
    obtain ⟨ad, cap, rfl, -⟩ := id hg
    refine ⟨ad, cap, he, ?_⟩
    have hb2 : Below w1.heap.size w1 w' := (⟨rfl, rfl, rfl, Nat.le_refl _, fun _ _ => rfl⟩ : Below w1.heap.size w1 w1.drew).trans hb'
    by_cases hp : 0 < n.first.length
    · exact ⟨g, hg, Nat.le_trans hbw.size hgB, hgl hp, hb2⟩
    · exact ⟨w.heap.size, ⟨ad, cap, rfl, fun h => absurd h hp⟩, Nat.le_refl _, Nat.lt_of_lt_of_le hlw hb2.size, hb2⟩
  clear h hs hw
  go_enter Tryz.func7, Tryz.ntmps7
  go_wp2_with (go_at_call 17; refine hck.mono ?_; rintro e w1 ⟨rfl, X⟩; obtain ⟨d0, d1, d2, d3, d4, d5, d6, hcl, HBW⟩ := HX.out w1 X.out; clear hck)
  go_region_with (go_at_call 18; refine hcl.mono ?_; rintro e w2 ⟨adp, capp, rfl, Y⟩; have HD : Hid (∀ o, w2.cell? ⟨w.heap.size, o, none⟩ = w1.cell? ⟨w.heap.size, o, none⟩) := (by (intro o; obtain ⟨g, _, _, _, hb2⟩ := Y.out; exact cell_of_block (hb2.block w.heap.size (lt_of_cell d0)) o)); have f0 := (HD.out 0).trans d0; have f1 := (HD.out 1).trans d1; have f2 := (HD.out 2).trans d2; have f3 := (HD.out 3).trans d3; have f4 := (HD.out 4).trans d4; have f5 := (HD.out 5).trans d5; have f6 := (HD.out 6).trans d6)
  all_goals
    go_wp2
    go_ret2
    obtain ⟨g, hg, hgw, hgl, hb2⟩ := Y.out
    have hbw : Below w.heap.size w w2 := ball HBW.out hb2
    have hbA := hbw.alloc hbw.size (.cells (mCells n.places vF vI vO vK vN vC (.slice adp n.first.length capp)) 54)
    have hk : Keep (· < B) (· < B) w (w2.alloc (.cells (mCells n.places vF vI vO vK vN vC (.slice adp n.first.length capp)) 54)) := fun b hl _ => ⟨hl, hbA.block b (Nat.lt_of_lt_of_le hl hB)⟩
    refine ⟨w2.heap.size, g, rfl, ⟨⟨vF, vI, vO, vK, vN, vC, .slice adp n.first.length capp, heap_alloc_new _ _, HV.out.i.carry hk, HV.out.o.carry hk, HV.out.k.carry hk, HV.out.m.carry hk, HV.out.c.carry hk, hg.keep (Below.heap_alloc _ _ _ hgl)⟩, Nat.le_trans hB hbw.size, Nat.le_trans hB hgw, Nat.ne_of_lt hgl, ?_⟩, hbw.size, hgw, ?_, hbA⟩
    · simp; omega
    · simp
end Nx
end Go.Proofs.YtgjhfmkilpmfnaaGreatDoor
/- plain.Place and the laws' is, at what net's Check answers. -/
namespace Go.Proofs.YtgjhfmkilpmfnaaGreatDoor
open Go.RowKit Go.Extern.Stop Go.Stop Go.Extern Nx

set_option maxRecDepth 100000 in
set_option maxHeartbeats 1000000 in
theorem place_nil (w : World) : Calls Tryz.prog 19 #[.nilIface] w fun e w' => e = .returned (.tuple #[.int .i64 0, .int .i64 (-1)]) ∧ w' = w := by
  go_enter Tryz.func19, Tryz.ntmps19
  go_wp2_with (go_at_call 31; refine (tell_nil _).mono ?_; rintro e' w' ⟨rfl, hw⟩; obtain rfl := hw.symm)
  refine wp_loop_rounds 1 ?_
  rw [rounds_succ]
  go_wp2
  go_ret2
  exact ⟨rfl, rfl⟩

theorem Tryz.isAt (v : Value) (x : TypeId) (w : World) : (Instr.typeAssert (.iface 69 v) x 69 true).run Tryz.prog w = .ok (.tuple #[v, .bool true]) w := by kernel_rfl

set_option maxRecDepth 100000 in
set_option maxHeartbeats 1000000 in
theorem place_at (g e q : Nat) (w : World) (hg : ErrType w) (hA : w.heap[g]? = some (.cells #[.int .i64 e, .int .i64 q] 70 (0, 0))) :
    Calls Tryz.prog 19 #[.iface 69 (.pointer (some ⟨g, 0, none⟩))] w fun ev w' => ev = .returned (.tuple #[.int .i64 e, .int .i64 q]) ∧ Below w.heap.size w w' := by
  have hAlt : g < w.heap.size := (Array.getElem?_eq_some_iff.1 hA).1
  have ht := tell_at g e q w hg hA
  have hi := Tryz.isAt
  go_enter Tryz.func19, Tryz.ntmps19
  go_wp2_with (go_at_call 31; refine ht.mono ?_; rintro e' w1 ⟨rfl, hb⟩; have hc1 : w1.cell? ⟨g, 1, none⟩ = some (.int .i64 q) := by (rw [hb.cell (p := ⟨g, 1, none⟩) hAlt, cell_of_row _ _ _ _ _ _ hA]; rfl))
  refine wp_loop_rounds 1 ?_
  rw [rounds_succ]
  go_wp2
  go_quiet (fail)
  go_wp2
  go_ret2
  exact ⟨rfl, hb.trans ⟨rfl, rfl, rfl, Nat.le_refl _, fun _ _ => rfl⟩⟩

set_option maxRecDepth 100000 in
set_option maxHeartbeats 1000000 in
theorem is_nil (w : World) : Calls Tryz.prog 8 #[.nilIface, .agg #[.int .i64 0, .int .i64 (-1)]] w fun e w' => e = .returned (.bool true) ∧ Below w.heap.size w w' := by
  go_enter Tryz.func8, Tryz.ntmps8
  go_wp2_with (go_at_call 19; refine (place_nil _).mono ?_; rintro e' w' ⟨rfl, hw⟩; obtain rfl := hw.symm)
  go_ret
  exact ⟨rfl, (Below.refl _ _).alloc (Nat.le_refl _) _⟩

set_option maxRecDepth 100000 in
set_option maxHeartbeats 1000000 in
theorem is_at (g e q : Nat) (w : World) (hg : ErrType w) (hA : w.heap[g]? = some (.cells #[.int .i64 e, .int .i64 q] 70 (0, 0))) :
    Calls Tryz.prog 8 #[.iface 69 (.pointer (some ⟨g, 0, none⟩)), .agg #[.int .i64 e, .int .i64 q]] w fun ev w' => ev = .returned (.bool true) ∧ Below w.heap.size w w' := by
  have hglt : 1 < w.heap.size := lt_of_cell hg
  have hAlt : g < w.heap.size := (Array.getElem?_eq_some_iff.1 hA).1
  have hg2 : ErrType (w.alloc (.cells #[.int .i64 e, .int .i64 q] 32)) := by
    rw [ErrType, World.cell?_alloc_lt _ _ ⟨1, 0, none⟩ hglt]; exact hg
  have hA2 : (w.alloc (.cells #[.int .i64 e, .int .i64 q] 32)).heap[g]? = some (.cells #[.int .i64 e, .int .i64 q] 70 (0, 0)) := by
    rw [Below.heap_alloc _ _ _ hAlt]; exact hA
  have hp := place_at g e q _ hg2 hA2
  clear hg2 hA2
  have hn0 : ∀ w1, Below (w.alloc (.cells #[.int .i64 e, .int .i64 q] 32)).heap.size (w.alloc (.cells #[.int .i64 e, .int .i64 q] 32)) w1 → w1.cell? ⟨w.heap.size, 0, none⟩ = some (.int .i64 e) ∧ w1.cell? ⟨w.heap.size, 1, none⟩ = some (.int .i64 q) := fun w1 hb => by
    rw [hb.cell (p := ⟨w.heap.size, 0, none⟩) (by simp), hb.cell (p := ⟨w.heap.size, 1, none⟩) (by simp)]
    simp
  go_enter Tryz.func8, Tryz.ntmps8
  go_wp2_with (go_at_call 19; refine hp.mono ?_; rintro e' w1 ⟨rfl, hb⟩; obtain ⟨hc0, hc1⟩ := hn0 w1 hb)
  go_ret
  exact ⟨rfl, ((Below.refl _ _).alloc (Nat.le_refl _) _).trans (hb.mono (by simp))⟩
end Go.Proofs.YtgjhfmkilpmfnaaGreatDoor
/- plain.Place and the laws' is, at an error without a place; and at whatever net's Check answers. -/
namespace Go.Proofs.YtgjhfmkilpmfnaaGreatDoor
open Go.RowKit Go.Extern.Stop Go.Stop Go.Extern Nx

theorem Tryz.isNoAt (e : Int) (x : TypeId) (w : World) : (Instr.typeAssert (.iface 30 (.int .i64 e)) x 69 true).run Tryz.prog w = .ok (.tuple #[.pointer none, .bool false]) w := by kernel_rfl
theorem Tryz.noUnwrap (v : Value) (x : TypeId) (w : World) : (Instr.typeAssert (.iface 30 v) x 73 true).run Tryz.prog w = .ok (.tuple #[.nilIface, .bool false]) w := run_typeAssert_lacksB Tryz.underlying73 (by kernel_rfl) (by kernel_rfl) v x w

set_option maxRecDepth 100000 in
set_option maxHeartbeats 1000000 in
theorem place_err (e : Nat) (w : World) (hg : ErrType w) :
    Calls Tryz.prog 19 #[.iface 30 (.int .i64 e)] w fun ev w' => ev = .returned (.tuple #[.int .i64 e, .int .i64 (-1)]) ∧ Below w.heap.size w w' := by
  have ht := tell_err e w hg
  have hi := Tryz.isNoAt
  have hu := Tryz.noUnwrap
  go_enter Tryz.func19, Tryz.ntmps19
  go_wp2_with (go_at_call 31; refine ht.mono ?_; rintro e' w1 ⟨rfl, hb⟩)
  refine wp_loop_rounds 1 ?_
  rw [rounds_succ]
  go_wp2
  go_ret2
  exact ⟨rfl, hb⟩

set_option maxRecDepth 100000 in
set_option maxHeartbeats 1000000 in
theorem is_err (e : Nat) (w : World) (hg : ErrType w) :
    Calls Tryz.prog 8 #[.iface 30 (.int .i64 e), .agg #[.int .i64 e, .int .i64 (-1)]] w fun ev w' => ev = .returned (.bool true) ∧ Below w.heap.size w w' := by
  have hg2 : ErrType (w.alloc (.cells #[.int .i64 e, .int .i64 (-1)] 32)) := by
    rw [ErrType, World.cell?_alloc_lt _ _ ⟨1, 0, none⟩ (lt_of_cell hg)]; exact hg
  have hp := place_err e _ hg2
  clear hg2
  have hn0 : ∀ w1, Below (w.alloc (.cells #[.int .i64 e, .int .i64 (-1)] 32)).heap.size (w.alloc (.cells #[.int .i64 e, .int .i64 (-1)] 32)) w1 → w1.cell? ⟨w.heap.size, 0, none⟩ = some (.int .i64 e) ∧ w1.cell? ⟨w.heap.size, 1, none⟩ = some (.int .i64 (-1)) := fun w1 hb => by
    rw [hb.cell (p := ⟨w.heap.size, 0, none⟩) (by simp), hb.cell (p := ⟨w.heap.size, 1, none⟩) (by simp)]
    simp
  go_enter Tryz.func8, Tryz.ntmps8
  go_wp2_with (go_at_call 19; refine hp.mono ?_; rintro e' w1 ⟨rfl, hb⟩; obtain ⟨hc0, hc1⟩ := hn0 w1 hb)
  go_ret
  exact ⟨rfl, ((Below.refl _ _).alloc (Nat.le_refl _) _).trans (hb.mono (by simp))⟩

theorem is_isErr {B : Nat} {w : World} {v : Value} {f : Nat × Int} (hg : ErrType w) (h : IsErr B w v f) :
    Calls Tryz.prog 8 #[v, .agg #[.int .i64 f.1, .int .i64 f.2]] w fun ev w' => ev = .returned (.bool true) ∧ Below w.heap.size w w' := by
  rcases h with ⟨h1, h2, rfl⟩ | ⟨_, h2, rfl⟩ | ⟨_, g, q, h2, _, rfl, hA⟩
  · rw [h1, h2]; exact is_nil w
  · rw [h2]; exact is_err f.1 w hg
  · rw [h2]; exact is_at g f.1 q w hg hA
end Go.Proofs.YtgjhfmkilpmfnaaGreatDoor
/- NetRuns: the law's walk, where code is not held, or the ticks are not few, or code may not be. -/
namespace Go.Proofs.YtgjhfmkilpmfnaaGreatDoor
open Go.RowKit
namespace Nx

set_option maxHeartbeats 1000000 in
theorem runs_big (n : Nt) (w : World) (vF vI vO vK vN vC vr : Value) (h : NetV w.heap.size w n vF vI vO vK vN vC) (hn : ¬ Held n) :
    Calls Tryz.prog 3 #[.agg #[.int .i64 n.places, vF, vI, vO, vK, vN, vC], vr] w fun e w' => e = .returned (.bool true) ∧ Below w.heap.size w w' := by
  have hh : Calls Tryz.prog 4 #[.agg #[.int .i64 n.places, vF, vI, vO, vK, vN, vC]] (w.alloc (.cells #[.int .i64 n.places, vF, vI, vO, vK, vN, vC] 26)) fun e w' => e = .returned (.bool false) ∧ Hid (Below w.heap.size w w') :=
    (held_any w.heap.size n _ _ _ _ _ _ _ (h.below (grown_one w _) (Nat.le_refl _))).mono fun e w' ⟨b, he, hb, hw⟩ => by
      have : b = false := by cases b with
        | false => rfl
        | true => exact absurd (hb.1 rfl) hn
      exact ⟨by rw [he, this], ball (grown_one w _) hw⟩
  clear h hn
  go_enter Tryz.func3, Tryz.ntmps3
  go_wp2_with (go_at_call 4; refine hh.mono ?_; rintro e w1 ⟨rfl, X⟩)
  go_ret
  exact ⟨rfl, X.out⟩

/-- the box that holds the code -/
structure RK (w W : World) (n : Nt) (vF vI vO vK vN vC : Value) : Prop where
  box : W.heap[w.heap.size]? = some (.cells #[.int .i64 n.places, vF, vI, vO, vK, vN, vC] 26 (0, 0))
  below : Below w.heap.size w W
theorem RK.next {w W W' : World} {n : Nt} {vF vI vO vK vN vC : Value} (h : RK w W n vF vI vO vK vN vC) (hb : Below W.heap.size W W') : RK w W' n vF vI vO vK vN vC :=
  ⟨by rw [hb.block _ (lt_of_block h.box)]; exact h.box, ball h.below hb⟩
theorem RK.cells {w W : World} {n : Nt} {vF vI vO vK vN vC : Value} (h : RK w W n vF vI vO vK vN vC) : W.cell? ⟨w.heap.size, 0, none⟩ = some (.int .i64 n.places) ∧ W.cell? ⟨w.heap.size, 1, none⟩ = some vF ∧ W.cell? ⟨w.heap.size, 2, none⟩ = some vI ∧ W.cell? ⟨w.heap.size, 3, none⟩ = some vO ∧ W.cell? ⟨w.heap.size, 4, none⟩ = some vK ∧ W.cell? ⟨w.heap.size, 5, none⟩ = some vN ∧ W.cell? ⟨w.heap.size, 6, none⟩ = some vC :=
  ⟨cell_row h.box 0, cell_row h.box 1, cell_row h.box 2, cell_row h.box 3, cell_row h.box 4, cell_row h.box 5, cell_row h.box 6⟩

theorem held_box (n : Nt) (w : World) (vF vI vO vK vN vC : Value) (h : NetV w.heap.size w n vF vI vO vK vN vC) (hn : Held n) :
    Calls Tryz.prog 4 #[.agg #[.int .i64 n.places, vF, vI, vO, vK, vN, vC]] (w.alloc (.cells #[.int .i64 n.places, vF, vI, vO, vK, vN, vC] 26)) fun e w' => e = .returned (.bool true) ∧ Hid (RK w w' n vF vI vO vK vN vC) :=
  (held_any w.heap.size n _ _ _ _ _ _ _ (h.below (grown_one w _) (Nat.le_refl _))).mono fun e w' ⟨b, he, hb, hw⟩ => by
    have : b = true := hb.2 hn
    refine ⟨by rw [he, this], ⟨?_, ball (grown_one w _) hw⟩⟩
    rw [hw.block w.heap.size (by simp)]; exact heap_alloc_new w _

set_option maxHeartbeats 1000000 in
theorem runs_many (n : Nt) (w : World) (vF vI vO vK vN vC vr : Value) (h : NetV w.heap.size w n vF vI vO vK vN vC) (hn : Held n)
    (hf : ∀ w', Below w.heap.size w w' → Calls Tryz.prog 5 #[vr] w' fun e w2 => e = .returned (.bool false) ∧ w2 = w') :
    Calls Tryz.prog 3 #[.agg #[.int .i64 n.places, vF, vI, vO, vK, vN, vC], vr] w fun e w' => e = .returned (.bool true) ∧ Below w.heap.size w w' := by
  have hh := held_box n w vF vI vO vK vN vC h hn
  have HF : Hid (∀ w', Below w.heap.size w w' → Calls Tryz.prog 5 #[vr] w' fun e w2 => e = .returned (.bool false) ∧ w2 = w') := hf
  clear h hn hf
  go_enter Tryz.func3, Tryz.ntmps3
  go_wp2_with (first
    | (go_at_call 4; refine hh.mono ?_; rintro e w1 ⟨rfl, X⟩; clear hh)
    | (go_at_call 5; refine (HF.out w1 X.out.below).mono ?_; rintro e w2 ⟨rfl, hw2⟩; obtain rfl := hw2.symm))
  go_ret
  exact ⟨rfl, X.out.below⟩
end Nx
end Go.Proofs.YtgjhfmkilpmfnaaGreatDoor
/- NetRuns: the law's walk, where code may not be. -/
namespace Go.Proofs.YtgjhfmkilpmfnaaGreatDoor
open Go.RowKit
namespace Nx

theorem newErr (n : Nt) (vF vI vO vK vN vC : Value) (B : Nat) (w3 : World) (hv : NetV B w3 n vF vI vO vK vN vC) (hB : B ≤ w3.heap.size) (hs : Small n) (hbad : (check n).1 ≠ 0) :
    Calls Tryz.prog 7 #[.agg #[.int .i64 n.places, vF, vI, vO, vK, vN, vC]] w3 fun e w' => ∃ T u, e = .returned (.tuple #[.pointer none, .iface T u]) ∧ Hid (IsErr w3.heap.size w' (.iface T u) (check n)) ∧ Hid (Below w3.heap.size w3 w') := by
  refine (new_bad B n w3 vF vI vO vK vN vC hv hB hs hbad).mono fun e w' ⟨v, he, hi, hb⟩ => ?_
  rcases hi.nil_iff with ⟨h0, _⟩ | ⟨_, T, u, rfl⟩
  · exact absurd h0 hbad
  · exact ⟨T, u, he, hi, hb⟩

set_option maxRecDepth 100000 in
set_option maxHeartbeats 4000000 in
theorem runs_bad (n : Nt) (w : World) (vF vI vO vK vN vC vr : Value) (h : NetV w.heap.size w n vF vI vO vK vN vC) (hcap : ∃ ad cap, vI = .slice ad n.ins.length cap ∧ n.ins.length ≤ cap) (hn : Held n) (hE : ErrType w)
    (hFine : w.cell? ⟨0, 0, none⟩ = some (.int .i64 0) ∧ w.cell? ⟨0, 1, none⟩ = some (.int .i64 (-1)))
    (hf : ∀ w', Below w.heap.size w w' → Calls Tryz.prog 5 #[vr] w' fun e w2 => e = .returned (.bool true) ∧ w2 = w') (hbad : (check n).1 ≠ 0) :
    Calls Tryz.prog 3 #[.agg #[.int .i64 n.places, vF, vI, vO, vK, vN, vC], vr] w fun e w' => e = .returned (.bool true) ∧ Below w.heap.size w w' := by
  have hh := held_box n w vF vI vO vK vN vC h hn
  have HF : Hid (∀ w', Below w.heap.size w w' → Calls Tryz.prog 5 #[vr] w' fun e w2 => e = .returned (.bool true) ∧ w2 = w') := hf
  obtain ⟨c1, hc1⟩ : ∃ c1 : Int, c1 = ((check n).1 : Int) := ⟨_, rfl⟩
  obtain ⟨c2, hc2⟩ : ∃ c2 : Int, c2 = (check n).2 := ⟨_, rfl⟩
  have HCN : Hid (∀ w', Below w.heap.size w w' → Calls Tryz.prog 6 #[.agg #[.int .i64 n.places, vF, vI, vO, vK, vN, vC]] w' fun e w2 => e = .returned (.agg #[.int .i64 c1, .int .i64 c2]) ∧ Hid (Below w'.heap.size w' w2)) := by
    intro w' hb
    rw [hc1, hc2]
    exact (cn_any w.heap.size n w' vF vI vO vK vN vC (h.below hb (Nat.le_refl _)) hcap hn.small ⟨cell_below hb hFine.1, cell_below hb hFine.2⟩).mono fun e w2 ⟨he, hb2⟩ => ⟨he, hb2⟩
  have HNW : Hid (∀ w', Below w.heap.size w w' → Calls Tryz.prog 7 #[.agg #[.int .i64 n.places, vF, vI, vO, vK, vN, vC]] w' fun e w2 => ∃ T u, e = .returned (.tuple #[.pointer none, .iface T u]) ∧ Hid (IsErr w'.heap.size w2 (.iface T u) (check n)) ∧ Hid (Below w'.heap.size w' w2)) :=
    fun w' hb => newErr n vF vI vO vK vN vC w.heap.size w' (h.below hb (Nat.le_refl _)) hb.size hn.small hbad
  have HIS : Hid (∀ B w' v, Below w.heap.size w w' → IsErr B w' v (check n) → Calls Tryz.prog 8 #[v, .agg #[.int .i64 c1, .int .i64 c2]] w' fun e w2 => e = .returned (.bool true) ∧ Hid (Below w'.heap.size w' w2)) := by
    intro B w' v hb hi
    rw [hc1, hc2]
    exact (is_isErr (by have := hE; unfold ErrType at *; exact cell_below hb this) hi).mono fun e w2 ⟨he, hb2⟩ => ⟨he, hb2⟩
  have hne : (c1 == 0) = false := by rw [hc1]; simp; omega
  have HFI : Hid (w.cell? ⟨0, 0, none⟩ = some (.int .i64 0) ∧ w.cell? ⟨0, 1, none⟩ = some (.int .i64 (-1))) := hFine
  clear h hn hf hE hbad hc1 hc2 hcap hFine
  go_enter Tryz.func3, Tryz.ntmps3
  go_wp2_with (first
    | (go_at_call 4; refine hh.mono ?_; rintro e w1 ⟨rfl, X⟩; obtain ⟨d0, d1, d2, d3, d4, d5, d6⟩ := X.out.cells; clear hh)
    | (go_at_call 5; refine (HF.out w1 X.out.below).mono ?_; rintro e w2 ⟨rfl, hw2⟩; obtain rfl := hw2.symm)
    | (go_at_call 6; refine (HCN.out w1 X.out.below).mono ?_; rintro e w2 ⟨rfl, hb2⟩
       have X2 : Hid (RK w (w2.alloc (.cells #[.int .i64 c1, .int .i64 c2] 32)) n vF vI vO vK vN vC) := (X.out.next hb2.out).next (grown_one w2 _)
       have F2 : Hid ((w2.alloc (.cells #[.int .i64 c1, .int .i64 c2] 32)).cell? ⟨w2.heap.size, 0, none⟩ = some (.int .i64 c1) ∧ (w2.alloc (.cells #[.int .i64 c1, .int .i64 c2] 32)).cell? ⟨w2.heap.size, 1, none⟩ = some (.int .i64 c2)) := (by constructor <;> simp)
       clear d0 d1 d2 d3 d4 d5 d6
       obtain ⟨d0, d1, d2, d3, d4, d5, d6⟩ := X2.out.cells)
    | (go_at_call 7; refine (HNW.out _ X2.out.below).mono ?_; rintro e w4 ⟨T, u, rfl, I4, B4⟩
       have X4 : Hid (Below w.heap.size w w4) := ball X2.out.below B4.out
       have g0 := cell_below B4.out F2.out.1
       have g1 := cell_below B4.out F2.out.2
       have his := HIS.out _ w4 _ X4.out I4.out
       clear d0 d1 d2 d3 d4 d5 d6)
    | (go_at_call 8; refine his.mono ?_; rintro e w5 ⟨rfl, B5⟩
       have X5 : Hid (Below w.heap.size w w5) := ball X4.out B5.out
       have k0 := cell_below B5.out g0
       have k1 := cell_below B5.out g1
       have y0 := cell_below X5.out HFI.out.1
       have y1 := cell_below X5.out HFI.out.2
       have his2 := HIS.out _ w5 _ X5.out (I4.out.keep (w' := w5) fun b _ hl => B5.out.block b hl)
       clear his)
    | (go_at_call 8; refine his2.mono ?_; rintro e w6 ⟨rfl, B6⟩
       have X6 : Hid (Below w.heap.size w w6) := ball X5.out B6.out
       clear his2))
  go_ret
  exact ⟨rfl, X6.out⟩
end Nx
end Go.Proofs.YtgjhfmkilpmfnaaGreatDoor
/- NetRuns: the program's machine and the document's, side by side. -/
namespace Go.Proofs.YtgjhfmkilpmfnaaGreatDoor
open Go.RowKit
namespace Nx

theorem IsM.keepR {B : Nat} {w w' : World} {bm g : Nat} {n : Nt} {V : List Int} (h : IsM B w bm g n V) (k : Keep (· < B) (· < B) w w') (hb : w'.heap[bm]? = w.heap[bm]?) (hg : w'.heap[g]? = w.heap[g]?) (hs : w.heap.size ≤ w'.heap.size) : IsM B w' bm g n V := by
  obtain ⟨⟨vF, vI, vO, vK, vN, vC, vp, h1, h2, h3, h4, h5, h6, h7⟩, a, b, c, d⟩ := h
  exact ⟨⟨vF, vI, vO, vK, vN, vC, vp, hb.trans h1, h2.carry k, h3.carry k, h4.carry k, h5.carry k, h6.carry k, h7.keep hg⟩, a, b, c, Nat.lt_of_lt_of_le d hs⟩
theorem IsR.keepR {B : Nat} {w w' : World} {bm g m : Nat} {n : Nt} {V : List Int} (h : IsR B w bm g m n V) (k : Keep (· < B) (· < B) w w') (hb : w'.heap[bm]? = w.heap[bm]?) (hg : w'.heap[g]? = w.heap[g]?) : IsR B w' bm g m n V := by
  obtain ⟨⟨vF, vI, vO, vK, vN, vC, h1, h2, h3, h4, h5, h6, h7⟩, a, b, c⟩ := h
  exact ⟨⟨vF, vI, vO, vK, vN, vC, hb.trans h1, h2.carry k, h3.carry k, h4.carry k, h5.carry k, h6.carry k, h7.keep hg⟩, a, b, c⟩
theorem IsM.lt {B : Nat} {w : World} {bm g : Nat} {n : Nt} {V : List Int} (h : IsM B w bm g n V) : bm < w.heap.size := by
  obtain ⟨⟨vF, vI, vO, vK, vN, vC, vp, h1, _⟩, _⟩ := h; exact lt_of_block h1
theorem IsR.lt {B : Nat} {w : World} {bm g m : Nat} {n : Nt} {V : List Int} (h : IsR B w bm g m n V) : bm < w.heap.size ∧ g < w.heap.size := by
  obtain ⟨⟨vF, vI, vO, vK, vN, vC, h1, _, _, _, _, _, h7⟩, _⟩ := h; exact ⟨lt_of_block h1, h7.lt⟩

structure TwoR (B : Nat) (w : World) (bm g br h : Nat) (n : Nt) (V V' : List Int) : Prop where
  m : IsM B w bm g n V
  r : IsR B w br h 100000 n V'
  d1 : br ≠ bm
  d2 : br ≠ g
  d3 : h ≠ bm
  d4 : h ≠ g

def ResR (w : World) (bm g br h : Nat) (v : Value) (zs : List Int) : Prop := Ints (fun b => b ≠ bm ∧ b ≠ g ∧ b ≠ br ∧ b ≠ h) w v zs

theorem TwoR.below {B : Nat} {w w' : World} {bm g br h : Nat} {n : Nt} {V V' : List Int} (t : TwoR B w bm g br h n V V') (hb : Below w.heap.size w w') : TwoR B w' bm g br h n V V' :=
  have k : Keep (· < B) (· < B) w w' := fun b hl hs => ⟨hl, hb.block b hs⟩
  ⟨t.m.keepR k (hb.block _ t.m.lt) (hb.block _ t.m.gl) hb.size, t.r.keepR k (hb.block _ t.r.lt.1) (hb.block _ t.r.lt.2), t.d1, t.d2, t.d3, t.d4⟩
theorem ResR.below {w w' : World} {bm g br h : Nat} {v : Value} {zs : List Int} (t : ResR w bm g br h v zs) (hb : Below w.heap.size w w') : ResR w' bm g br h v zs :=
  Ints.carry t fun b hl hs => ⟨hl, hb.block b hs⟩

theorem tickM (B : Nat) (w : World) (bm g br h : Nat) (n : Nt) (V V' ins : List Int) (vi : Value) (t : TwoR B w bm g br h n V V') (hi : Ints (· < B) w vi ins) (hf : Few n V) :
    Calls Tryz.prog 11 #[.pointer (some ⟨bm, 0, none⟩), vi] w fun e w' => ∃ v, e = .returned v ∧ Hid (∃ g', TwoR B w' bm g' br h n (after n V ins) V' ∧ ResR w' bm g' br h v (tells n V ins) ∧ (∀ u ys, ResR w bm g br h u ys → ResR w' bm g' br h u ys) ∧ Below B w w') := by
  refine (tick_any B n V ins bm g vi w t.m hi hf).mono fun e w' ⟨v, g', he, hM, hr, hF, h1, h2⟩ => ⟨v, he, g', ?_⟩
  have a1 := t.m.lt; have a2 := t.m.gl; have a3 := t.r.lt; have a4 := t.m.hb; have a5 := t.m.hg
  have b1 := t.d1; have b2 := t.d2; have b3 := t.d3; have b4 := t.d4
  have k : Keep (· < B) (· < B) w w' := frKeep hF (by omega) (by intro x hx; simp at hx; omega)
  refine ⟨⟨hM, t.r.keepR k (hF.block _ a3.1 (by simp; omega)) (hF.block _ a3.2 (by simp; omega)), b1, by omega, b3, by omega⟩, ?_, fun u ys hu => ?_, ?_⟩
  · obtain ⟨ad, b, off, cap, e, p, q⟩ := hr
    exact ⟨ad, b, off, cap, e, fun hp => ⟨(p hp).1, by have := (p hp).2; omega⟩, q⟩
  · exact Ints.carry hu fun b hb hs => ⟨⟨hb.1, by omega, hb.2.2.1, hb.2.2.2⟩, hF.block b hs (by simp; exact ⟨hb.1, hb.2.1⟩)⟩
  · exact (hF.mono (X' := []) (by omega) (fun x hx hl => by simp at hx; omega)).below

theorem tickR (B : Nat) (w : World) (bm g br h : Nat) (n : Nt) (V V' ins : List Int) (vi : Value) (t : TwoR B w bm g br h n V V') (hi : Ints (· < B) w vi ins) (hf : Few n V') (hfine : Fine n V'.length) (hins : ∀ k, F64 (ins.getD k 0)) :
    Calls Tryz.prog 12 #[.pointer (some ⟨br, 0, none⟩), vi] w fun e w' => ∃ v, e = .returned v ∧ Hid (∃ h', TwoR B w' bm g br h' n V (after n V' ins) ∧ ResR w' bm g br h' v (tells n V' ins) ∧ (∀ u ys, ResR w bm g br h u ys → ResR w' bm g br h' u ys) ∧ Below B w w') := by
  refine (tickR_any B n V' ins br h vi w t.r hi hf hfine hins t.r.lt.2).mono fun e w' ⟨v, h', he, hM, hr, hF, h1, h2⟩ => ⟨v, he, h', ?_⟩
  have a1 := t.m.lt; have a2 := t.m.gl; have a3 := t.r.lt; have a4 := t.r.hb; have a5 := t.r.hg
  have b1 := t.d1; have b2 := t.d2; have b3 := t.d3; have b4 := t.d4
  have k : Keep (· < B) (· < B) w w' := frKeep hF (by omega) (by intro x hx; simp at hx; omega)
  refine ⟨⟨t.m.keepR k (hF.block _ a1 (by simp; omega)) (hF.block _ a2 (by simp; omega)) hF.size, hM, b1, b2, by omega, by omega⟩, ?_, fun u ys hu => ?_, ?_⟩
  · obtain ⟨ad, b, off, cap, e, p, q⟩ := hr
    exact ⟨ad, b, off, cap, e, fun hp => ⟨(p hp).1, by have := (p hp).2; omega⟩, q⟩
  · exact Ints.carry hu fun b hb hs => ⟨⟨hb.1, hb.2.1, hb.2.2.1, by omega⟩, hF.block b hs (by simp; exact ⟨hb.2.2.1, hb.2.2.2⟩)⟩
  · exact (hF.mono (X' := []) (by omega) (fun x hx hl => by simp at hx; omega)).below
end Nx
end Go.Proofs.YtgjhfmkilpmfnaaGreatDoor
