/- Two charts in memory that are one: the law's comparison says so. -/
import Derived.Test.YtanlfmhlohcmgaaGreatDoorJSame6
import Derived.Shelf.LaysM
import Derived.Shelf.Strconv.Clone
import Derived.Shelf.Strings.Prefix
import Derived.Test.YtanlfmhlohcmgaaGreatDoorProg
import Derived.Laws.EntriesVeiled
namespace Go.Proofs.YtanlfmhlohcmgaaGreatDoor
open Go.RowKit Go.Sort Px

theorem Row.recs' {α : Type} {R : α → List Value → Prop} {A : Nat → Prop} {w : World} {e k : Nat} {v : Value} {l : List α} {xs : List Value} (hk : ∀ a c, R a c → c.length = k) (hr : Row A w e k v l.length xs) (hs : Rows R l xs) :
    ∃ ao cap g, v = .slice ao l.length cap ∧ l.length ≤ maxLen ∧ ∀ (i : Nat) (a : α), l[i]? = some a → ao = some ⟨g, 0, none⟩ ∧ g < w.heap.size ∧ ∃ c, R a c ∧ ∀ (j : Nat) (u : Value), c[j]? = some u → w.cell? ⟨g, i * k + j, none⟩ = some u := by
  rcases Row.recs hk hr hs with ⟨rfl, ao, cap, rfl⟩ | ⟨g, cap, rfl, h2, h3, h4, h5, h6⟩
  · exact ⟨ao, cap, 0, rfl, Nat.zero_le _, fun i a hi => absurd hi (by simp)⟩
  · exact ⟨_, cap, g, rfl, h3, fun i a hi => ⟨rfl, h4, h6 i a hi⟩⟩
theorem IsE.pt {A : Nat → Prop} {w : World} {e : E} {v : Value} (h : IsE A w e v) : ∃ u, v = .pointer u := by
  cases e with
  | nil => exact ⟨none, h⟩
  | node _ _ _ _ _ => obtain ⟨g, _, _, rfl, _⟩ := h; exact ⟨_, rfl⟩
theorem IsSets.sl {A : Nat → Prop} {w : World} {l : List Asg} {v : Value} (h : IsSets A w l v) : ∃ a n c, v = .slice a n c := by
  obtain ⟨xs, hr, hs⟩ := h
  obtain ⟨ao, cap, rfl, _⟩ := hr.read
  exact ⟨_, _, _, rfl⟩
theorem IsWays.read {A : Nat → Prop} {w : World} {l : List Wy} {v : Value} (h : IsWays A w l v) :
    ∃ ao cap g, v = .slice ao l.length cap ∧ l.length ≤ maxLen ∧ ∀ (i : Nat) (a : Wy), l[i]? = some a → ao = some ⟨g, 0, none⟩ ∧ g < w.heap.size ∧ ∃ p q n c, WayAt w g i a (.pointer p) (.slice q n c) ∧ IsE A w a.cond (.pointer p) ∧ IsSets A w a.sets (.slice q n c) := by
  obtain ⟨xs, hr, hs⟩ := h
  obtain ⟨ao, cap, g, h1, h2, h3⟩ := Row.recs' (k := 7) (fun a c ⟨p, q, hc, _⟩ => by rw [hc]; rfl) hr hs
  refine ⟨ao, cap, g, h1, h2, fun i a hi => ?_⟩
  obtain ⟨h4, h5, c, ⟨p, q, rfl, hp, hq⟩, hx⟩ := h3 i a hi
  obtain ⟨u, rfl⟩ := hp.pt
  obtain ⟨qa, qn, qc, rfl⟩ := hq.sl
  exact ⟨h4, h5, u, qa, qn, qc, ⟨fun j u hj => absurd hj (by simp), hx 0 _ rfl, hx 1 _ rfl, hx 2 _ rfl, hx 3 _ rfl, hx 4 _ rfl, hx 5 _ rfl, hx 6 _ rfl⟩, hp, hq⟩

def RegsOk (A A' : Nat → Prop) (k : Nat) : Prop := ∀ (w : World) (l : List (List (St k))) (v v' : Value), IsRegs A w (IsStates A w k) l v → IsRegs A' w (IsStates A' w k) l v' → Alike 42 w v v'
def StateOk (A A' : Nat → Prop) (k : Nat) : Prop := ∀ (w : World) (s : StF (St k)) (c c' : List Value), StC A w (IsStates A w k) s c → StC A' w (IsStates A' w k) s c' → Alike 69 w (.agg c.toArray) (.agg c'.toArray)

theorem state_ok {A A' : Nat → Prop} {k : Nat} (hR : RegsOk A A' k) : StateOk A A' k := by
  intro w s c c' h h' w' hb
  obtain ⟨e, d, l, p, y, r, rfl, h1, h2, h3, h4, h5, h6⟩ := StC.carry (keep_below hb) (IsStates.carry (keep_below hb) k) s c h
  obtain ⟨e', d', l', p', y', r', rfl, h1', h2', h3', h4', h5', h6'⟩ := StC.carry (keep_below hb) (IsStates.carry (keep_below hb) k) s c' h'
  obtain ⟨ao, cap, g, rfl, hm, hy⟩ := h5.read
  obtain ⟨ao', cap', g', rfl, hm', hy'⟩ := h5'.read
  refine same_state w' s.ways _ rfl ⟨s.name.toArray⟩ s.first s.last e d l p e' d' l' p' r r' ao ao' cap cap' g g' hm (same_sets _ _ _ _ h1 h1') (same_sets _ _ _ _ h2 h2') (same_sets _ _ _ _ h3 h3') (same_expr _ _ _ _ h4 h4') (hR _ _ _ _ h6 h6') (fun i a hi => ?_)
  obtain ⟨z1, z2, p, q, n, c, hw, hp, hq⟩ := hy i a hi
  obtain ⟨z1', z2', p', q', n', c', hw', hp', hq'⟩ := hy' i a hi
  exact ⟨z1, z1', z2, z2', p, p', q, n, c, q', n', c', hw, hw', same_expr _ _ _ _ hp hp', same_sets _ _ _ _ hq hq'⟩

theorem regs_walk {k : Nat} {A A' : Nat → Prop} {w : World} {l : List (List (St k))} {v v' : Value} (h : IsRegs A w (IsStates A w k) l v) (h' : IsRegs A' w (IsStates A' w k) l v')
    (hat : ∀ (r : List (St k)) (g g' i : Nat) (u u' : Value), w.cell? ⟨g, i, none⟩ = some u → w.cell? ⟨g', i, none⟩ = some u' → IsStates A w k r u → IsStates A' w k r u' → RegAt w g g' i) :
    Calls Tryz.prog 42 #[v, v'] w (Yes w) := by
  obtain ⟨xs, hr, hs⟩ := h
  obtain ⟨xs', hr', hs'⟩ := h'
  rcases Row.recs (k := 1) (fun a c ⟨u, hc, _⟩ => by rw [hc]; rfl) hr hs with ⟨rfl, ao, cap, rfl⟩ | ⟨g, cap, rfl, h2, h3, h4, h5, h6⟩ <;>
  rcases Row.recs (k := 1) (fun a c ⟨u, hc, _⟩ => by rw [hc]; rfl) hr' hs' with ⟨h7, ao', cap', rfl⟩ | ⟨g', cap', rfl, h2', h3', h4', h5', h6'⟩
  · exact same_regions_nil w ao ao' cap cap'
  · exact absurd h2' (by simp)
  · subst h7; exact absurd h2 (by simp)
  · refine same_regions_some w _ g g' cap cap' h3 h4 h4' (fun i hi => ?_)
    obtain ⟨c, ⟨u, rfl, hu⟩, hx⟩ := h6 i l[i] (List.getElem?_eq_getElem hi)
    obtain ⟨c', ⟨u', rfl, hu'⟩, hx'⟩ := h6' i l[i] (List.getElem?_eq_getElem hi)
    have e1 := hx 0 _ rfl
    have e2 := hx' 0 _ rfl
    rw [Nat.mul_one, Nat.add_zero] at e1 e2
    exact hat l[i] g g' i u u' e1 e2 hu hu'
theorem regs_ok (A A' : Nat → Prop) : ∀ k, RegsOk A A' k := by
  intro k
  induction k with
  | zero =>
    intro w l v v' h h' w' hb
    refine regs_walk (h.carry (keep_below hb) (IsStates.carry (keep_below hb) 0)) (h'.carry (keep_below hb) (IsStates.carry (keep_below hb) 0)) ?_
    rintro r g g' i u u' e1 e2 ⟨rfl, rfl⟩ ⟨_, rfl⟩
    exact ⟨0, none, none, 0, 0, 0, 0, e1, e2, Nat.zero_le _, fun h => absurd h (Nat.lt_irrefl _), fun k hk => absurd hk (Nat.not_lt_zero _)⟩
  | succ k ih =>
    intro w l v v' h h' w' hb
    refine regs_walk (h.carry (keep_below hb) (IsStates.carry (keep_below hb) (k + 1))) (h'.carry (keep_below hb) (IsStates.carry (keep_below hb) (k + 1))) ?_
    intro r g g' i u u' e1 e2 ⟨xs, hr, hs⟩ ⟨xs', hr', hs'⟩
    have hk9 : ∀ (B : Nat → Prop) (a : StF (St k)) (c : List Value), StC B w' (IsStates B w' k) a c → c.length = 9 := fun B a c ⟨_, _, _, _, _, _, hc, _⟩ => by rw [hc]; rfl
    obtain ⟨ao, cap, f, rfl, hm, hq⟩ := Row.recs' (hk9 A) hr hs
    obtain ⟨ao', cap', f', rfl, hm', hq'⟩ := Row.recs' (hk9 A') hr' hs'
    refine ⟨List.length r, ao, ao', cap, cap', f, f', e1, e2, hm, fun h0 => ?_, fun j hj => ?_⟩
    · obtain ⟨z1, z2, _⟩ := hq 0 _ (List.getElem?_eq_getElem h0)
      obtain ⟨z1', z2', _⟩ := hq' 0 _ (List.getElem?_eq_getElem h0)
      exact ⟨z1, z1', z2, z2'⟩
    · obtain ⟨_, _, c, hc, hx⟩ := hq j _ (List.getElem?_eq_getElem hj)
      obtain ⟨_, _, c', hc', hx'⟩ := hq' j _ (List.getElem?_eq_getElem hj)
      have hs9 := state_ok ih w' _ c c' hc hc'
      obtain ⟨e, d, l, p, y, q, rfl, _⟩ := hc
      obtain ⟨e', d', l', p', y', q', rfl, _⟩ := hc'
      exact ⟨_, _, _, _, _, _, _, _, _, _, _, _, _, _, _, _, _, _, ⟨hx 0 _ rfl, hx 1 _ rfl, hx 2 _ rfl, hx 3 _ rfl, hx 4 _ rfl, hx 5 _ rfl, hx 6 _ rfl, hx 7 _ rfl, hx 8 _ rfl⟩, ⟨hx' 0 _ rfl, hx' 1 _ rfl, hx' 2 _ rfl, hx' 3 _ rfl, hx' 4 _ rfl, hx' 5 _ rfl, hx' 6 _ rfl, hx' 7 _ rfl, hx' 8 _ rfl⟩, hs9⟩
theorem IsVars.read {A : Nat → Prop} {w : World} {l : List Decl} {v : Value} (h : IsVars A w l v) :
    ∃ ao cap g, v = .slice ao l.length cap ∧ l.length ≤ maxLen ∧ ∀ (i : Nat) (a : Decl), l[i]? = some a → ao = some ⟨g, 0, none⟩ ∧ g < w.heap.size ∧ w.cell? ⟨g, i * 3, none⟩ = some (.int .i64 a.kind) ∧ w.cell? ⟨g, i * 3 + 1, none⟩ = some (sv a.name) ∧ w.cell? ⟨g, i * 3 + 2, none⟩ = some (.int .i64 a.first) := by
  obtain ⟨xs, hr, hs⟩ := h
  obtain ⟨ao, cap, g, h1, h2, h3⟩ := Row.recs' (k := 3) (fun a c (hc : c = _) => by rw [hc]; rfl) hr hs
  refine ⟨ao, cap, g, h1, h2, fun i a hi => ?_⟩
  obtain ⟨h4, h5, c, hc, hx⟩ := h3 i a hi
  replace hc : c = [.int .i64 a.kind, sv a.name, .int .i64 a.first] := hc
  subst hc
  exact ⟨h4, h5, hx 0 _ rfl, hx 1 _ rfl, hx 2 _ rfl⟩
end Go.Proofs.YtanlfmhlohcmgaaGreatDoor
/- The library's contracts (strings.HasPrefix, Clone) at this program: laid, no walk. -/
namespace Go.Proofs
open Go.Shelf
def Tryz.laysM316_ren : Go.Shelf.Ren := ⟨fun | 316 => 84 | n => n, fun | 9 => 9 | 3 => 3 | 4 => 4 | 37 => 173 | 0 => 0 | 127 => 174 | 5 => 5 | n => n, fun | n => n⟩
theorem Tryz.laysM316 : Go.Proofs.LaysM.n316 Tryz.prog Tryz.laysM316_ren := {
  mixed := by kernel_rfl
  f316 := Tryz.func84.trans (congrArg some (by kernel_rfl))
  t0 := Tryz.underlying0
  a0 := Tryz.isAgg0
  z0 := Tryz.sizeOf0
  v0 := Tryz.zeroValue0
  t3 := Tryz.underlying3
  a3 := Tryz.isAgg3
  z3 := Tryz.sizeOf3
  v3 := Tryz.zeroValue3
  t4 := Tryz.underlying4
  a4 := Tryz.isAgg4
  z4 := Tryz.sizeOf4
  v4 := Tryz.zeroValue4
  t9 := Tryz.underlying9
  a9 := Tryz.isAgg9
  z9 := Tryz.sizeOf9
  v9 := Tryz.zeroValue9
  t37 := Tryz.underlying173
  a37 := Tryz.isAgg173
  z37 := Tryz.sizeOf173
  v37 := Tryz.zeroValue173
  t127 := Tryz.underlying174
  a127 := Tryz.isAgg174
  z127 := Tryz.sizeOf174
  v127 := Tryz.zeroValue174
  t5 := Tryz.underlying5
  a5 := Tryz.isAgg5
  z5 := Tryz.sizeOf5
  v5 := Tryz.zeroValue5
  i0 := by kernel_rfl
  i3 := by kernel_rfl
  i4 := by kernel_rfl
  i5 := by kernel_rfl
  i9 := by kernel_rfl
  i37 := by kernel_rfl
  i127 := by kernel_rfl }
open Go.RowKit in
theorem Tryz.stringslite_Clone (s : ByteArray) (w : World) (hlim : s.size ≤ 281474976710656) :
    Calls Tryz.prog 84 #[.string s] w fun e w' => e = .returned (.string s) ∧ Below w.heap.size w w' := Any.stringslite_Clone Tryz.laysM316 s w hlim
def Tryz.lays99_ren : Go.Shelf.Ren := ⟨fun | 99 => 83 | 206 => 100 | n => n, fun | 9 => 9 | 4 => 4 | 3 => 3 | n => n, fun | n => n⟩
theorem Tryz.lays99 : Go.Proofs.Lays.n99 Tryz.prog Tryz.lays99_ren := {
  mixed := by kernel_rfl
  f99 := Tryz.func83.trans (congrArg some (by kernel_rfl))
  f206 := Tryz.func100.trans (congrArg some (by kernel_rfl))
  t3 := Tryz.underlying3
  a3 := Tryz.isAgg3
  z3 := Tryz.sizeOf3
  v3 := Tryz.zeroValue3
  t4 := Tryz.underlying4
  a4 := Tryz.isAgg4
  z4 := Tryz.sizeOf4
  v4 := Tryz.zeroValue4
  t9 := Tryz.underlying9
  a9 := Tryz.isAgg9
  z9 := Tryz.sizeOf9
  v9 := Tryz.zeroValue9 }
open Go.RowKit Go.Lib in
theorem Tryz.strings_HasPrefix (s p : ByteArray) (w : World) :
    Calls Tryz.prog 83 #[.string s, .string p] w fun e w' => e = .returned (.bool (Lib.hasPrefix s.data.toList p.data.toList)) ∧ w' = w := Any.strings_HasPrefix Tryz.lays99 s p w
end Go.Proofs
/- read: the token that begins at a place. -/
namespace Go.Proofs.YtanlfmhlohcmgaaGreatDoor
open Go.RowKit

def markS (m : List UInt8) : Value := .string ⟨m.toArray⟩
/-- the marks lie where the program laid them -/
def Marks (w : World) : Prop := ∀ i, i < 21 → w.cell? ⟨2, i, none⟩ = some (markS (Lx.marks.getD i []))

set_option maxRecDepth 100000 in
set_option maxHeartbeats 800000 in
theorem fault_any (kind len n : Nat) (w : World) (h1 : kind ≤ 3) (h2 : len ≤ 1000000) (h3 : n ≤ 600) :
    Calls Tryz.prog 50 #[.int .i64 kind, .int .i64 len, .int .i64 n] w fun e w' => e = .returned (.int .i64 (Lx.flt kind len n : Nat)) ∧ w' = w := by
  by_cases h : kind = 0
  · subst h
    go_enter Tryz.func50, Tryz.ntmps50
    go_wp2
    go_ret
    exact ⟨rfl, rfl⟩
  · have hk : ((kind : Int) == 0) = false := by simp; omega
    have hk' : ¬ (kind : Int) = 0 := by omega
    by_cases h4 : kind = 2
    · subst h4
      by_cases h5 : 18 < len
      · go_enter Tryz.func50, Tryz.ntmps50
        go_wp2
        go_ret
        exact ⟨ret_int (by rw [Lx.flt, if_neg (by decide), if_pos ⟨rfl, h5⟩]; rfl), rfl⟩
      · by_cases h6 : 600 ≤ n
        all_goals
          go_enter Tryz.func50, Tryz.ntmps50
          go_wp2
          go_ret
          exact ⟨ret_int (by rw [Lx.flt, if_neg (by decide), if_neg (fun h => h5 h.2)]; first | (rw [if_pos h6]; rfl) | (rw [if_neg h6]; rfl)), rfl⟩
    · have h4' : ((kind : Int) == 2) = false := by simp; omega
      have h4'' : ¬ (kind : Int) = 2 := by omega
      by_cases h6 : 600 ≤ n
      all_goals
        go_enter Tryz.func50, Tryz.ntmps50
        go_wp2
        go_ret
        exact ⟨ret_int (by rw [Lx.flt, if_neg h, if_neg (fun h => h4 h.1)]; first | (rw [if_pos h6]; rfl) | (rw [if_neg h6]; rfl)), rfl⟩

/-- the marks, as an array's cells -/
def MV : Array Value := (Lx.marks.map markS).toArray
theorem MV_size : MV.size = 21 := by decide
theorem load_marks {w : World} (hm : Marks w) : (loadVar 144 ⟨2, 0, none⟩).run Tryz.prog w = .ok (.agg MV) w := by
  have hl := run_loadCells_list (P := Tryz.prog) w ⟨2, 0, none⟩ (Lx.marks.map markS) (fun j v hv => by
    have hadd : (⟨2, 0, none⟩ : Addr).add j = ⟨2, j, none⟩ := by unfold Addr.add; split <;> simp_all
    have hj : j < 21 := by
      have := (List.getElem?_eq_some_iff.1 hv).1; simpa [Lx.marks] using this
    rw [hadd, hm j hj, ← hv]
    simp [List.getD, Lx.marks.getElem?_eq_getElem (show j < Lx.marks.length from hj)])
  have hagg : (isAgg 144).run Tryz.prog w = .ok true w := by kernel_rfl
  have hsz : (sizeOf 144).run Tryz.prog w = .ok 21 w := by kernel_rfl
  have hl' : (loadCells ⟨2, 0, none⟩ 21).run Tryz.prog w = .ok (Lx.marks.map markS).toArray w := hl
  unfold loadVar
  rw [Sem.run_bind, hagg]
  simp only [Result.andThen, if_true, Sem.run_bind, hsz, hl']
  rfl
theorem ix0 (w : World) : (Instr.index 144 (.agg MV) (.int .i64 0)).run Tryz.prog w = .ok (markS (Lx.marks.getD 0 [])) w := by kernel_rfl
theorem ix1 (w : World) : (Instr.index 144 (.agg MV) (.int .i64 1)).run Tryz.prog w = .ok (markS (Lx.marks.getD 1 [])) w := by kernel_rfl
theorem ix2 (w : World) : (Instr.index 144 (.agg MV) (.int .i64 2)).run Tryz.prog w = .ok (markS (Lx.marks.getD 2 [])) w := by kernel_rfl
theorem ix3 (w : World) : (Instr.index 144 (.agg MV) (.int .i64 3)).run Tryz.prog w = .ok (markS (Lx.marks.getD 3 [])) w := by kernel_rfl
theorem ix4 (w : World) : (Instr.index 144 (.agg MV) (.int .i64 4)).run Tryz.prog w = .ok (markS (Lx.marks.getD 4 [])) w := by kernel_rfl
theorem ix5 (w : World) : (Instr.index 144 (.agg MV) (.int .i64 5)).run Tryz.prog w = .ok (markS (Lx.marks.getD 5 [])) w := by kernel_rfl
theorem ix6 (w : World) : (Instr.index 144 (.agg MV) (.int .i64 6)).run Tryz.prog w = .ok (markS (Lx.marks.getD 6 [])) w := by kernel_rfl
theorem ix7 (w : World) : (Instr.index 144 (.agg MV) (.int .i64 7)).run Tryz.prog w = .ok (markS (Lx.marks.getD 7 [])) w := by kernel_rfl
theorem ix8 (w : World) : (Instr.index 144 (.agg MV) (.int .i64 8)).run Tryz.prog w = .ok (markS (Lx.marks.getD 8 [])) w := by kernel_rfl
theorem ix9 (w : World) : (Instr.index 144 (.agg MV) (.int .i64 9)).run Tryz.prog w = .ok (markS (Lx.marks.getD 9 [])) w := by kernel_rfl
theorem ix10 (w : World) : (Instr.index 144 (.agg MV) (.int .i64 10)).run Tryz.prog w = .ok (markS (Lx.marks.getD 10 [])) w := by kernel_rfl
theorem ix11 (w : World) : (Instr.index 144 (.agg MV) (.int .i64 11)).run Tryz.prog w = .ok (markS (Lx.marks.getD 11 [])) w := by kernel_rfl
theorem ix12 (w : World) : (Instr.index 144 (.agg MV) (.int .i64 12)).run Tryz.prog w = .ok (markS (Lx.marks.getD 12 [])) w := by kernel_rfl
theorem ix13 (w : World) : (Instr.index 144 (.agg MV) (.int .i64 13)).run Tryz.prog w = .ok (markS (Lx.marks.getD 13 [])) w := by kernel_rfl
theorem ix14 (w : World) : (Instr.index 144 (.agg MV) (.int .i64 14)).run Tryz.prog w = .ok (markS (Lx.marks.getD 14 [])) w := by kernel_rfl
theorem ix15 (w : World) : (Instr.index 144 (.agg MV) (.int .i64 15)).run Tryz.prog w = .ok (markS (Lx.marks.getD 15 [])) w := by kernel_rfl
theorem ix16 (w : World) : (Instr.index 144 (.agg MV) (.int .i64 16)).run Tryz.prog w = .ok (markS (Lx.marks.getD 16 [])) w := by kernel_rfl
theorem ix17 (w : World) : (Instr.index 144 (.agg MV) (.int .i64 17)).run Tryz.prog w = .ok (markS (Lx.marks.getD 17 [])) w := by kernel_rfl
theorem ix18 (w : World) : (Instr.index 144 (.agg MV) (.int .i64 18)).run Tryz.prog w = .ok (markS (Lx.marks.getD 18 [])) w := by kernel_rfl
theorem ix19 (w : World) : (Instr.index 144 (.agg MV) (.int .i64 19)).run Tryz.prog w = .ok (markS (Lx.marks.getD 19 [])) w := by kernel_rfl
theorem ix20 (w : World) : (Instr.index 144 (.agg MV) (.int .i64 20)).run Tryz.prog w = .ok (markS (Lx.marks.getD 20 [])) w := by kernel_rfl
theorem index_marks (k : Nat) (hk : k < 21) (w : World) : (Instr.index 144 (.agg MV) (.int .i64 k)).run Tryz.prog w = .ok (markS (Lx.marks.getD k [])) w := by
  match k, hk with
  | 0, _ => exact ix0 w
  | 1, _ => exact ix1 w
  | 2, _ => exact ix2 w
  | 3, _ => exact ix3 w
  | 4, _ => exact ix4 w
  | 5, _ => exact ix5 w
  | 6, _ => exact ix6 w
  | 7, _ => exact ix7 w
  | 8, _ => exact ix8 w
  | 9, _ => exact ix9 w
  | 10, _ => exact ix10 w
  | 11, _ => exact ix11 w
  | 12, _ => exact ix12 w
  | 13, _ => exact ix13 w
  | 14, _ => exact ix14 w
  | 15, _ => exact ix15 w
  | 16, _ => exact ix16 w
  | 17, _ => exact ix17 w
  | 18, _ => exact ix18 w
  | 19, _ => exact ix19 w
  | 20, _ => exact ix20 w
  | k + 21, h => omega

theorem bs_extract (s : ByteArray) (a b : Nat) : bs (s.extract a b) = ((bs s).drop a).take (b - a) := by
  show (s.extract a b).data.toList = _
  rw [ByteArray.data_extract, Array.toList_extract]
theorem bs_from (s : ByteArray) (a : Nat) : bs (s.extract a s.size) = (bs s).drop a := by
  rw [bs_extract s a _, List.take_of_length_le (by simp)]
theorem hasPrefix_at (s mb : ByteArray) (a : Nat) (b : Bool) (w : World) (h : (bs mb).isPrefixOf ((bs s).drop a) = b) :
    Calls Tryz.prog 83 #[.string (s.extract a s.size), .string mb] w fun e w' => e = .returned (.bool b) ∧ w' = w := by
  refine (Tryz.strings_HasPrefix (s.extract a s.size) mb w).mono ?_
  rintro e w' ⟨rfl, rfl⟩
  exact ⟨by rw [← h, ← bs_from]; rfl, rfl⟩
theorem marks_drop (k : Nat) (h : k < 21) : Lx.marks.drop k = Lx.marks.getD k [] :: Lx.marks.drop (k + 1) := by
  have hl : k < Lx.marks.length := h
  rw [List.drop_eq_getElem_cons hl, List.getD_eq_getElem?_getD, List.getElem?_eq_getElem hl]; rfl
theorem marks_pos (k : Nat) (h : k < 21) : 0 < (Lx.marks.getD k []).length := by
  have : ∀ k : Fin 21, 0 < (Lx.marks.getD k.val []).length := by decide
  exact this ⟨k, h⟩
theorem rd_mark (u : List UInt8) (c : UInt8) (hc : u.head? = some c) (hd : Lx.digit c = false) (hw : Lx.word c = false) : Lx.rd u = if Lx.mk u = 0 then (0, 0) else (3, Lx.mk u) := by
  cases u with
  | nil => simp at hc
  | cons x r => simp at hc; subst hc; rw [Lx.rd_cons, hd, hw]; rfl
theorem drop_head (s : ByteArray) (a : Nat) (h : a < s.size) : ((bs s).drop a).head? = some s[a] := by
  rw [List.head?_drop]; exact bs_at s a h
/-- a load whose answer is known -/
theorem wpList_load_eq {ops : Array Oper} {rest : List Oper} {o : Oper} {a : Act} {w : World} {Q : Exit → Act → World → Prop} (hgd : o.guard = none) (ty : TypeId) (x : Operand) (ho : o.op = .load ty x)
    (ad : Addr) (hx : a.eval x = .pointer (some ad)) (v : Value) (hl : (loadVar ty ad).run Tryz.prog w = .ok v w) (h : wpList Tryz.prog ops Q rest (a.put o.dst v) w) : wpList Tryz.prog ops Q (o :: rest) a w :=
  wpList_plain hgd fun K hK => by
    unfold Oper.wp execOp
    simp only [ho, hx, Instr.loadAt, Instr.sureAddr, Sem.run_bind, Sem.run_pure, Result.andThen_ok, hl]
    exact hK _ _ h

set_option maxRecDepth 100000 in
set_option maxHeartbeats 1600000 in
theorem read_mark (s : ByteArray) (a : Nat) (w : World) (hs : s.size ≤ 1000000) (ha : a < s.size) (hm : Marks w) (hd : Lx.digit s[a] = false) (hw : Lx.word s[a] = false) :
    Calls Tryz.prog 49 #[.string s, .int .i64 a] w fun e w' => e = .returned (.tuple #[.int .i64 (Lx.rd ((bs s).drop a)).1, .int .i64 ((a + (Lx.rd ((bs s).drop a)).2 : Nat) : Int)]) ∧ w' = w := by
  have hl := load_marks hm
  clear hm
  go_enter Tryz.func49, Tryz.ntmps49
  go_wp2_with (first | (refine wpList_load_eq rfl 144 (.global 2) rfl ⟨2, 0, none⟩ rfl (.agg MV) hl ?_; clear hl) | (go_at_call 81; refine (isDigit_any s[a] _).mono ?_; rintro e w' ⟨rfl, rfl⟩) | (go_at_call 82; refine (isWord_any s[a] _).mono ?_; rintro e w' ⟨rfl, rfl⟩))
  go_loop [25] (fun i => ∃ k : Nat, k ≤ 21 ∧ i = .int .i64 k ∧ Hid (Lx.mk ((bs s).drop a) = Lx.markIn (Lx.marks.drop k) ((bs s).drop a))) (fun i => 21 - (intOf i).toNat)
  case atStart => exact ⟨0, by omega, rfl, rfl⟩
  case round =>
    obtain ⟨k, hk, rfl, hr⟩ := hrel
    by_cases hlt : k < 21
    · obtain ⟨mb, hmb⟩ : ∃ mb : ByteArray, mb = ⟨(Lx.marks.getD k []).toArray⟩ := ⟨_, rfl⟩
      have hix : ∀ w, (Instr.index 144 (.agg MV) (.int .i64 k)).run Tryz.prog w = .ok (.string mb) w := by
        intro w; rw [hmb]; exact index_marks k hlt w
      have HMB : Hid (bs mb = Lx.marks.getD k []) := by
        show _ = _; rw [hmb]
      clear hmb
      have hpos := marks_pos k hlt
      have hlen : mb.size = (Lx.marks.getD k []).length := by rw [← HMB.out]; exact (bs_len mb).symm
      have hd2 := marks_drop k hlt
      have hrd := rd_mark _ _ (drop_head s a ha) hd hw
      by_cases hp : (bs mb).isPrefixOf ((bs s).drop a) = true
      · have hmk : Lx.mk ((bs s).drop a) = mb.size := by
          rw [hr.out, hd2, Lx.markIn, ← HMB.out, if_pos hp, bs_len]
        have hle : mb.size ≤ s.size - a := by
          have := (List.isPrefixOf_iff_prefix.1 hp).length_le; rw [bs_len, List.length_drop, bs_len] at this; exact this
        have H : Hid (Lx.rd ((bs s).drop a) = (3, mb.size)) := by
          show _ = _; rw [hrd, hmk, if_neg (by omega)]
        clear hrd hmk hd2 hpos hlen
        go_wp2_with (go_at_call 83; refine (hasPrefix_at s mb a true _ hp).mono ?_; rintro e w' ⟨rfl, rfl⟩)
        go_ret2
        exact ⟨by rw [H.out]; simp, rfl⟩
      · have hp' : (bs mb).isPrefixOf ((bs s).drop a) = false := Bool.eq_false_iff.2 hp
        have H : Hid (Lx.mk ((bs s).drop a) = Lx.markIn (Lx.marks.drop (k + 1)) ((bs s).drop a)) := by
          show _ = _; rw [hr.out, hd2, Lx.markIn, ← HMB.out, hp']; rfl
        clear hrd hd2 hpos hlen hp
        go_wp2_with (go_at_call 83; refine (hasPrefix_at s mb a false _ hp').mono ?_; rintro e w' ⟨rfl, rfl⟩)
        go_round
        case rel => exact ⟨k + 1, by omega, by go_num, H⟩
        case measure => simp [intOf]; omega
    · have hk21 : k = 21 := by omega
      subst hk21
      have hrd := rd_mark _ _ (drop_head s a ha) hd hw
      have H : Hid (Lx.rd ((bs s).drop a) = (0, 0)) := by
        show _ = _; rw [hrd, hr.out]; rfl
      clear hrd
      go_wp2
      go_ret2
      exact ⟨by rw [H.out]; simp, rfl⟩

set_option maxRecDepth 100000 in
set_option maxHeartbeats 1600000 in
theorem read_any (s : ByteArray) (a : Nat) (w : World) (hs : s.size ≤ 1000000) (ha : a < s.size) (hm : Marks w) :
    Calls Tryz.prog 49 #[.string s, .int .i64 a] w fun e w' => e = .returned (.tuple #[.int .i64 (Lx.rd ((bs s).drop a)).1, .int .i64 ((a + (Lx.rd ((bs s).drop a)).2 : Nat) : Int)]) ∧ w' = w := by
  have hc : (bs s).drop a = s[a] :: (bs s).drop (a + 1) := by
    rw [List.drop_eq_getElem_cons (by rw [bs_len]; exact ha)]; rfl
  by_cases hd : Lx.digit s[a] = true
  · have H : Hid (Lx.rd ((bs s).drop a) = (2, Lx.wh Lx.digit ((bs s).drop a))) := by
      show _ = _; rw [hc, Lx.rd_cons, if_pos hd]
    clear hc
    go_enter Tryz.func49, Tryz.ntmps49
    go_wp2_with (first | (go_at_call 81; refine (isDigit_any s[a] _).mono ?_; rintro e w' ⟨rfl, rfl⟩) | (go_at_call 79; refine (pass_digit s a _ hs (by omega)).mono ?_; rintro e w' ⟨rfl, rfl⟩))
    go_ret2
    exact ⟨by rw [H.out]; rfl, rfl⟩
  · have hd' : Lx.digit s[a] = false := by simpa using hd
    by_cases hw : Lx.word s[a] = true
    · have H : Hid (Lx.rd ((bs s).drop a) = (1, Lx.wh Lx.word ((bs s).drop a))) := by
        show _ = _; rw [hc, Lx.rd_cons, if_neg hd, if_pos hw]
      clear hc hd
      go_enter Tryz.func49, Tryz.ntmps49
      go_wp2_with (first | (go_at_call 81; refine (isDigit_any s[a] _).mono ?_; rintro e w' ⟨rfl, rfl⟩) | (go_at_call 82; refine (isWord_any s[a] _).mono ?_; rintro e w' ⟨rfl, rfl⟩) | (go_at_call 79; refine (pass_word s a _ hs (by omega)).mono ?_; rintro e w' ⟨rfl, rfl⟩))
      go_ret2
      exact ⟨by rw [H.out]; rfl, rfl⟩
    · exact read_mark s a w hs ha hm hd' (by simpa using hw)
end Go.Proofs.YtanlfmhlohcmgaaGreatDoor
