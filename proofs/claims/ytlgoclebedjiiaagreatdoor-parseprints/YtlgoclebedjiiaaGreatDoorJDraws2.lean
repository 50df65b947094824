/- draws: of a text without tokens, of one whose chart is wrong, of a chart. -/
import Derived.Test.YtlgoclebedjiiaaGreatDoorJDraws
import Derived.Test.YtlgoclebedjiiaaGreatDoorJRparse2
namespace Go.Proofs.YtlgoclebedjiiaaGreatDoor
open Go.RowKit Go.Sort Px

theorem Lx.Ok_or_Bad (s : List UInt8) : (∃ l, Lx.Ok s l) ∨ ∃ e q, Lx.Bad s e q := by
  have step : ∀ (l : List Lx.Tok) (u : List UInt8) (p : Nat), Lx.Reads s 0 l u p → l.length ≤ 600 → ((∃ l, Lx.Ok s l) ∨ ∃ e q, Lx.Bad s e q) ∨ (l.length < 600 ∧ ∃ t u' p', Lx.Reads s 0 (l ++ [t]) u' p') := by
    intro l u p h hn
    by_cases hu : u.drop (Lx.sk false u) = []
    · exact .inl (.inl ⟨l, hn, u, p, h, hu⟩)
    · by_cases he : Lx.flt (Lx.rd (u.drop (Lx.sk false u))).1 (Lx.rd (u.drop (Lx.sk false u))).2 l.length = 0
      · have h0 : (Lx.rd (u.drop (Lx.sk false u))).1 ≠ 0 := fun h => by unfold Lx.flt at he; rw [if_pos h] at he; exact absurd he (by decide)
        have h1 : ¬ ((Lx.rd (u.drop (Lx.sk false u))).1 = 2 ∧ 18 < (Lx.rd (u.drop (Lx.sk false u))).2) := fun h => by unfold Lx.flt at he; rw [if_neg h0, if_pos h] at he; exact absurd he (by decide)
        have h2 : ¬ 600 ≤ l.length := fun h => by unfold Lx.flt at he; rw [if_neg h0, if_neg h1, if_pos h] at he; exact absurd he (by decide)
        exact .inr ⟨by omega, _, _, _, Lx.Reads_append h ⟨hu, rfl, h0, h1, rfl, rfl⟩⟩
      · exact .inl (.inr ⟨_, _, l, u, p, h, hn, hu, rfl, rfl, he⟩)
  have key : ∀ (n : Nat) (l : List Lx.Tok) (u : List UInt8) (p : Nat), Lx.Reads s 0 l u p → l.length + n = 600 → (∃ l, Lx.Ok s l) ∨ ∃ e q, Lx.Bad s e q := by
    intro n
    induction n with
    | zero =>
      intro l u p h hn
      rcases step l u p h (by omega) with h | ⟨h, _⟩
      · exact h
      · omega
    | succ n ih =>
      intro l u p h hn
      rcases step l u p h (by omega) with h | ⟨_, t, u', p', h'⟩
      · exact h
      · exact ih _ u' p' h' (by simp; omega)
  exact key 600 [] s 0 (Lx.Reads_nil _ _) (by simp)

/-- what of the listed variables the reading asks -/
structure Vars (w : World) : Prop where
  tabs : Tabs w
  marks : Marks w
  fine : Fine w
  err : ErrType w
  big : 14 ≤ w.heap.size
theorem Vars.up {w W : World} (h : Vars w) (hb : Below w.heap.size w W) : Vars W :=
  ⟨h.tabs.keep (fun b hb' => hb.block b (Nat.lt_of_lt_of_le hb' h.big)), h.marks.below (Nat.le_refl _) hb, h.fine.below hb, h.err.below hb, Nat.le_trans h.big hb.size⟩
theorem isChart_zero (A : Nat → Prop) (w : World) : IsChart A w ⟨[], [], []⟩ (.agg ZC) := by
  refine ⟨none, 0, 0, none, 0, 0, rfl, ⟨[], ⟨World.ownsRow_nil _ _ _ _, fun g hg => absurd hg (by simp [Value.ownBlock])⟩, rfl⟩, ⟨[], ⟨World.ownsRow_nil _ _ _ _, fun g hg => absurd hg (by simp [Value.ownBlock])⟩, rfl⟩⟩
theorem same_charts {A A' : Nat → Prop} {c : Chart} {w : World} {v v' : Value} (h : IsChart A w c v) (h' : IsChart A' w c v') : Alike 28 w v v' := by
  intro w' hb
  obtain ⟨a, n, m, a2, n2, m2, rfl, hv, hr⟩ := h
  obtain ⟨b, k, l, b2, k2, l2, rfl, hv', hr'⟩ := h'
  have hR := (regs_ok A A' 6 w _ _ _ hr hr').up hb
  obtain ⟨ao, cap, g, e1, hm, hx⟩ := (hv.carry (keep_below hb)).read
  obtain ⟨ao', cap', g', e1', hm', hx'⟩ := (hv'.carry (keep_below hb)).read
  rw [e1, e1']
  refine same_chart w' c.vars _ rfl ⟨c.name.toArray⟩ _ _ ao ao' cap cap' g g' hm hR (fun i d hi => ?_)
  obtain ⟨z1, z2, z3, z4, z5⟩ := hx i d hi
  obtain ⟨z1', z2', z3', z4', z5'⟩ := hx' i d hi
  exact ⟨z1, z1', z2, z2', z3, z4, z5, z3', z4', z5'⟩
theorem IsChart.mid {B : Nat} {c : Chart} {W W' : World} {v : Value} (h : IsChart (Ge (B + 2)) W c v) (hm : Mid B W W') : IsChart (Ge (B + 2)) W' c v := by
  have kp : Keep (Ge (B + 2)) (Ge (B + 2)) W W' := fun b hb hl => ⟨hb, hm.2 b hb hl⟩
  obtain ⟨a, n, m, a2, n2, m2, rfl, hv, hr⟩ := h
  exact ⟨a, n, m, a2, n2, m2, rfl, hv.carry kp, hr.carry kp (IsStates.carry kp 6)⟩
theorem IsChart.ge {B B' : Nat} {c : Chart} {W : World} {v : Value} (h : IsChart (Ge B') W c v) (hB : B ≤ B') : IsChart (Ge B) W c v := by
  have kp : Keep (Ge B') (Ge B) W W := fun b hb _ => ⟨Nat.le_trans hB hb, rfl⟩
  obtain ⟨a, n, m, a2, n2, m2, rfl, hv, hr⟩ := h
  exact ⟨a, n, m, a2, n2, m2, rfl, hv.carry kp, hr.carry kp (IsStates.carry kp 6)⟩

/-- an error that lies in memory, with its place -/
def AtErr (ev q : Nat) (W : World) (err : Value) : Prop := ∃ g, err = .iface 87 (.pointer (some ⟨g, 0, none⟩)) ∧ W.heap[g]? = some (.cells #[.int .i64 ev, .int .i64 q] 88 (0, 0))
theorem AtErr.keep {ev q B : Nat} {W W' : World} {err : Value} (h : AtErr ev q W err) (h0 : W.heap[B]? = some (.cells #[.string ⟨#[]⟩, .slice none 0 0, .slice none 0 0] 25 (0, 0))) (hk : ∀ b, b ≠ B → W'.heap[b]? = W.heap[b]?) : AtErr ev q W' err := by
  obtain ⟨g, rfl, hg⟩ := h
  exact ⟨g, rfl, (hk g (by rintro rfl; rw [h0] at hg; simp at hg)).trans hg⟩

theorem draws_ok (s : ByteArray) (l : List Lx.Tok) (c : Chart) (w : World) (hs : s.size ≤ 1500) (hv : Vars w) (hok : Lx.Ok (bs s) l) (hch : chart (fin s l) = .ok c) :
    Calls Tryz.prog 8 #[.string s] w fun e w' => ∃ v, e = .returned (.tuple #[v, .agg #[.int .i64 0, .int .i64 (-1)], .bool true]) ∧ IsChart (Ge (w.heap.size + 2)) w' c v ∧ Below w.heap.size w w' := by
  obtain ⟨hR1, hR2⟩ := chart_ok hch
  refine draws_walk s w hs 0 (-1) (fun W v => IsChart (Ge (w.heap.size + 2)) W c v) (fun _ err => err = .nilIface) ?_ ?_ (fun W W' v h hm => h.mid hm) (fun W v v' h h' => same_charts h h') (fun _ _ _ h _ _ => h) ?_ (fun _ _ h => h)
  · intro W hb hz
    refine (rparse_any s l W (by omega) (hv.up hb).fine hok).mono ?_
    rintro e w' ⟨v, rfl, h1, -, hb'⟩
    have hc := (h1 hR2).ge hz
    rw [hR1] at hc
    obtain ⟨a, n, m, a2, n2, m2, rfl, hx⟩ := hc
    rw [hR2]
    exact ⟨_, _, _, _, _, _, _, rfl, ⟨a, n, m, a2, n2, m2, rfl, hx⟩, hb'⟩
  · intro W hb hz
    refine (parse_ok s l c W (by omega) (hv.up hb).big (hv.up hb).tabs (hv.up hb).marks hok hch).mono ?_
    rintro e w' ⟨v, rfl, h1, hb'⟩
    obtain ⟨a, n, m, a2, n2, m2, rfl, hx⟩ := h1.ge hz
    exact ⟨_, _, _, _, _, _, _, _, rfl, ⟨a, n, m, a2, n2, m2, rfl, hx⟩, rfl, hb'⟩
  · rintro W err rfl _
    exact is_nil W

theorem draws_no {s : ByteArray} {w : World} {ev q : Nat} (hs : s.size ≤ 1500) (hv : Vars w)
    (hR : ∀ W, Below w.heap.size w W → Calls Tryz.prog 27 #[.string s] W fun e w' => e = .returned (.tuple #[.agg ZC, .agg #[.int .i64 ev, .int .i64 q]]) ∧ Below W.heap.size W w')
    (hP : ∀ W, Below w.heap.size w W → Calls Tryz.prog 22 #[.string s] W fun e w' => ∃ err, e = .returned (.tuple #[.agg ZC, err]) ∧ AtErr ev q w' err ∧ Below W.heap.size W w') :
    Calls Tryz.prog 8 #[.string s] w fun e w' => e = .returned (.tuple #[.agg ZC, .agg #[.int .i64 ev, .int .i64 q], .bool true]) ∧ Below w.heap.size w w' := by
  refine (draws_walk s w hs ev q (fun _ v => v = .agg ZC) (AtErr ev q) ?_ ?_ (fun W W' v h _ => h) ?_ (fun W W' err h h0 hk => h.keep h0 hk) ?_ (fun _ _ h => h)).mono ?_
  · intro W hb _
    refine (hR W hb).mono ?_
    rintro e w' ⟨rfl, hb'⟩
    exact ⟨_, _, _, _, _, _, _, rfl, rfl, hb'⟩
  · intro W hb _
    refine (hP W hb).mono ?_
    rintro e w' ⟨err, rfl, he, hb'⟩
    exact ⟨_, _, _, _, _, _, _, _, rfl, rfl, he, hb'⟩
  · rintro W v v' rfl rfl
    exact same_charts (isChart_zero (fun _ => True) W) (isChart_zero (fun _ => True) W)
  · rintro W err ⟨g, rfl, hg⟩ hb
    exact is_at g ev q W (hv.up hb).err hg
  · rintro e w' ⟨v, rfl, rfl, hb⟩
    exact ⟨rfl, hb⟩

/-- of a text that draws nothing: the same error is told -/
theorem draws_bad (s : ByteArray) (w : World) (hs : s.size ≤ 1500) (hv : Vars w) (hno : ∀ l c, ¬ (Lx.Ok (bs s) l ∧ chart (fin s l) = .ok c)) :
    ∃ ev q : Nat, Calls Tryz.prog 8 #[.string s] w fun e w' => e = .returned (.tuple #[.agg ZC, .agg #[.int .i64 ev, .int .i64 q], .bool true]) ∧ Below w.heap.size w w' := by
  rcases Lx.Ok_or_Bad (bs s) with ⟨l, hok⟩ | ⟨ev, q, hbad⟩
  · cases hch : chart (fin s l) with
    | ok c => exact absurd ⟨hok, hch⟩ (hno l c)
    | error f =>
      have hR := chart_err hch
      refine ⟨f.1, f.2, draws_no hs hv (fun W hb => ?_) (fun W hb => ?_)⟩
      · refine (rparse_any s l W (by omega) (hv.up hb).fine hok).mono ?_
        rintro e w' ⟨v, rfl, -, h2, hb'⟩
        obtain rfl := h2 (by rw [hR]; simp)
        rw [hR]
        exact ⟨rfl, hb'⟩
      · refine (parse_err s l f W (by omega) (hv.up hb).big (hv.up hb).tabs (hv.up hb).marks hok hch).mono ?_
        rintro e w' ⟨g, rfl, hg, hb'⟩
        exact ⟨_, rfl, ⟨g, rfl, hg⟩, hb'⟩
  · have hnl : ∀ l, ¬ Lx.Ok (bs s) l := fun l h => Lx.Ok_Bad h hbad
    refine ⟨ev, q, draws_no hs hv (fun W hb => ?_) (fun W hb => ?_)⟩
    · refine (rparse_bad s W (by omega) (hv.up hb).fine hnl).mono ?_
      rintro e w' ⟨ev', q', rfl, hb', hbel⟩
      obtain ⟨rfl, rfl⟩ := Lx.Bad_Bad hbad hb'
      exact ⟨rfl, hbel⟩
    · refine (parse_bad s W (by omega) (hv.up hb).marks hnl).mono ?_
      rintro e w' ⟨ev', q', g, rfl, hb', hg, hbel⟩
      obtain ⟨rfl, rfl⟩ := Lx.Bad_Bad hbad hb'
      exact ⟨_, rfl, ⟨g, rfl, hg⟩, hbel⟩

theorem resultsB (tmps : Array Value) (W : World) (e : Nat) (fe : Array Value) (hse : fe.size = 2) (hq : tmps[2]?.getD undef = .pointer (some ⟨e, 0, none⟩)) (he : W.heap[e]? = some (.cells fe 28 (0, 0))) :
    (results Tryz.f26 tmps).run Tryz.prog W = .ok (.agg fe) W := by
  simp [results, Tryz.results26, hq, asAddr, load28 hse he]
set_option maxRecDepth 100000 in
set_option maxHeartbeats 2000000 in
theorem bare_any (e : Int) (w : World) : Calls Tryz.prog 26 #[.int .i64 e] w fun r w' => r = .returned (.agg #[.int .i64 e, .int .i64 (-1)]) ∧ Below w.heap.size w w' := by
  go_enter Tryz.func26, Tryz.ntmps26
  go_wp2_with fail
  refine bodyPost_ret (resultsB _ _ _ _ rfl rfl (heap_alloc_new _ _)) rfl ?_
  exact ⟨rfl, (Below.refl _ _).alloc (Nat.le_refl _) _⟩

set_option maxRecDepth 100000 in
set_option maxHeartbeats 2000000 in
/-- of a text that is too long -/
theorem draws_big (s : ByteArray) (w : World) (hs : ¬ s.size ≤ 1500) :
    Calls Tryz.prog 8 #[.string s] w fun e w' => e = .returned (.tuple #[.agg ZC, .agg #[.int .i64 4, .int .i64 (-1)], .bool true]) ∧ Below w.heap.size w w' := by
  have hs' : (1500 : Int) < s.size := by omega
  obtain ⟨W0, hW0, hb0, hz0, c0, e0⟩ := draws_open w
  clear hs
  go_enter Tryz.func8, Tryz.ntmps8
  go_upto_region 1 with fail
  rw [show (w.alloc (.cells #[.string ⟨#[]⟩, .slice none 0 0, .slice none 0 0] 25)).alloc (.cells #[.int .i64 0, .int .i64 0] 28) = W0 from hW0.symm]
  clear hW0
  have u0 : W0.cell? ⟨w.heap.size, 0, none⟩ = some (.string ⟨#[]⟩) := by rw [cell_of_row _ _ _ _ _ _ c0]; rfl
  have u1 : W0.cell? ⟨w.heap.size, 1, none⟩ = some (.slice none 0 0) := by rw [cell_of_row _ _ _ _ _ _ c0]; rfl
  have u2 : W0.cell? ⟨w.heap.size, 2, none⟩ = some (.slice none 0 0) := by rw [cell_of_row _ _ _ _ _ _ c0]; rfl
  have u3 : W0.cell? ⟨w.heap.size + 1, 0, none⟩ = some (.int .i64 0) := by rw [cell_of_row _ _ _ _ _ _ e0]; rfl
  have u4 : W0.cell? ⟨w.heap.size + 1, 1, none⟩ = some (.int .i64 0) := by rw [cell_of_row _ _ _ _ _ _ e0]; rfl
  have z0 : ∀ o, W0.frozen? ⟨w.heap.size, o, none⟩ = false := fun o => by simp [World.frozen?, c0]
  have z1 : ∀ o, W0.frozen? ⟨w.heap.size + 1, o, none⟩ = false := fun o => by simp [World.frozen?, e0]
  have yy : ∀ W, Below W0.heap.size W0 W → W.cell? ⟨w.heap.size + 1, 0, none⟩ = some (.int .i64 0) ∧ W.cell? ⟨w.heap.size + 1, 1, none⟩ = some (.int .i64 0) := fun W hb => ⟨(hb.cell (p := ⟨w.heap.size + 1, 0, none⟩) (show w.heap.size + 1 < _ by omega)).trans u3, (hb.cell (p := ⟨w.heap.size + 1, 1, none⟩) (show w.heap.size + 1 < _ by omega)).trans u4⟩
  have HY : Hid _ := yy
  have HS8 : Hid (∀ W, Below W0.heap.size W0 W → (W.cell? ⟨w.heap.size, 0, none⟩ = some (.string ⟨#[]⟩) ∧ W.cell? ⟨w.heap.size, 1, none⟩ = some (.slice none 0 0) ∧ W.cell? ⟨w.heap.size, 2, none⟩ = some (.slice none 0 0) ∧ (∀ o, W.frozen? ⟨w.heap.size, o, none⟩ = false) ∧ (∀ o, W.frozen? ⟨w.heap.size + 1, o, none⟩ = false))) := fun W hb => ⟨(hb.cell (p := ⟨w.heap.size, 0, none⟩) (show w.heap.size < _ by omega)).trans u0, (hb.cell (p := ⟨w.heap.size, 1, none⟩) (show w.heap.size < _ by omega)).trans u1, (hb.cell (p := ⟨w.heap.size, 2, none⟩) (show w.heap.size < _ by omega)).trans u2, fun o => by rw [World.frozen?, hb.block _ (show w.heap.size < _ by omega)]; exact z0 o, fun o => by rw [World.frozen?, hb.block _ (show w.heap.size + 1 < _ by omega)]; exact z1 o⟩
  have hS4 := HS8.out W0.drew (Below.refl _ _).drew
  clear yy u3 u4
  go_wp2_with fail
  go_region_held3 (fun w' => (w'.cell? ⟨w.heap.size, 0, none⟩ = some (.string ⟨#[]⟩) ∧ w'.cell? ⟨w.heap.size, 1, none⟩ = some (.slice none 0 0) ∧ w'.cell? ⟨w.heap.size, 2, none⟩ = some (.slice none 0 0) ∧ (∀ o, w'.frozen? ⟨w.heap.size, o, none⟩ = false) ∧ (∀ o, w'.frozen? ⟨w.heap.size + 1, o, none⟩ = false)))
    (first | (rw [setCell_self t0, setCell_self t1, setCell_self t2]; with_reducible exact hS5) | with_reducible exact hS5 | with_reducible exact hS4 | go_keep)
    (first
      | (go_at_call 26; refine (bare_any 4 _).mono ?_; rintro e w5 ⟨rfl, hb5⟩; have hb05 := ((Below.refl W0.heap.size W0).drew).trans hb5; have hS5 : (w5.cell? ⟨w.heap.size, 0, none⟩ = some (.string ⟨#[]⟩) ∧ w5.cell? ⟨w.heap.size, 1, none⟩ = some (.slice none 0 0) ∧ w5.cell? ⟨w.heap.size, 2, none⟩ = some (.slice none 0 0) ∧ (∀ o, w5.frozen? ⟨w.heap.size, o, none⟩ = false) ∧ (∀ o, w5.frozen? ⟨w.heap.size + 1, o, none⟩ = false)) := (HS8.out _ hb05); have t0 := hS5.1; have t1 := hS5.2.1; have t2 := hS5.2.2.1; obtain ⟨t3, t4⟩ := HY.out _ hb05))
  all_goals
    rw [setCell_self t0, setCell_self t1, setCell_self t2]
    go_wp2_with fail
    have k1 := (hb05.block _ (by omega)).trans e0
    have k2 := heap_setCell_same _ (w.heap.size + 1) 0 _ _ (.int .i64 4) k1
    have k3 := heap_setCell_same _ (w.heap.size + 1) 1 _ _ (.int .i64 (-1)) k2
    refine bodyPost_ret (resultsD _ _ _ _ _ _ _ rfl rfl rfl rfl rfl (((heap_setCell_other _ _ _ _ (by simp)).trans (heap_setCell_other _ _ _ _ (by simp))).trans ((hb05.block _ (by omega)).trans c0)) k3) rfl ?_
    exact ⟨rfl, ((hb0.trans (hb05.mono hb0.size)).setCell (by simp) _).setCell (by simp) _⟩

set_option maxRecDepth 100000 in
set_option maxHeartbeats 2000000 in
/-- the law: of whatever text -/
theorem parseReads_any (s : ByteArray) (w : World) (hv : Vars w) : Calls Tryz.prog 3 #[.string s] w fun e w' => e = .returned (.bool true) ∧ Below w.heap.size w w' := by
  have hd : Calls Tryz.prog 8 #[.string s] w fun e w' => ∃ n a x c b y d ev q, e = .returned (.tuple #[.agg #[.string n, .slice a x c, .slice b y d], .agg #[.int .i64 ev, .int .i64 q], .bool true]) ∧ Below w.heap.size w w' := by
    by_cases hs : s.size ≤ 1500
    · by_cases hok : ∃ l c, Lx.Ok (bs s) l ∧ chart (fin s l) = .ok c
      · obtain ⟨l, c, h1, h2⟩ := hok
        refine (draws_ok s l c w hs hv h1 h2).mono ?_
        rintro e w' ⟨v, rfl, ⟨a, n, m, a2, n2, m2, rfl, _⟩, hb⟩
        exact ⟨_, _, _, _, _, _, _, _, _, rfl, hb⟩
      · obtain ⟨ev, q, h⟩ := draws_bad s w hs hv (fun l c h => hok ⟨l, c, h⟩)
        refine h.mono ?_
        rintro e w' ⟨rfl, hb⟩
        exact ⟨_, _, _, _, _, _, _, _, _, rfl, hb⟩
    · refine (draws_big s w hs).mono ?_
      rintro e w' ⟨rfl, hb⟩
      exact ⟨_, _, _, _, _, _, _, _, _, rfl, hb⟩
  go_enter Tryz.func3, Tryz.ntmps3
  go_wp2_with (go_at_call 8; refine hd.mono ?_; rintro e w1 ⟨n, a, x, c, b, y, d, ev, q, rfl, hb1⟩)
  go_ret
  exact ⟨rfl, (hb1.alloc hb1.size _).alloc (by have := hb1.size; simp; omega) _⟩
end Go.Proofs.YtlgoclebedjiiaaGreatDoor
