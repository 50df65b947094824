/- draws: of a text without tokens, of one whose chart is wrong, of a chart. -/
import Derived.Test.YtanlfmhlohcmgaaGreatDoorJDraws
import Derived.Test.YtanlfmhlohcmgaaGreatDoorJRparse2
import Derived.Test.YtanlfmhlohcmgaaGreatDoorRows
import Derived.ProofKit
import Derived.LaidMore
import Derived.OpenShut
import Derived.ShutString
import Derived.Stop.Joined
import Derived.LaidHandle
import Derived.Lib.LaidTab
import Derived.Test.YtanlfmhlohcmgaaGreatDoorProg
import Derived.Test.YtanlfmhlohcmgaaGreatDoorJSmall
import Derived.WalkKit
import Derived.WalkSpells
import Derived.WalkLawsBesides
import Derived.Laws.EntriesVeiled
namespace Go.Proofs.YtanlfmhlohcmgaaGreatDoor
open Go.RowKit Go.Sort Px

theorem Lx.Ok_or_Bad (s : List UInt8) : (∃ l, Lx.Ok s l) ∨ ∃ e q, Lx.Bad s e q := by
  have step : ∀ (l : List Lx.Tok) (u : List UInt8) (p : Nat), Lx.Reads s 0 l u p → l.length ≤ 600 → ((∃ l, Lx.Ok s l) ∨ ∃ e q, Lx.Bad s e q) ∨ (l.length < 600 ∧ ∃ t u' p', Lx.Reads s 0 (l ++ [t]) u' p') := by
    intro l u p h hn
    by_cases hu : u.drop (Lx.sk false u) = []
    · exact .inl (.inl ⟨l, hn, u, p, h, hu⟩)
    · by_cases he : Lx.flt (Lx.rd (u.drop (Lx.sk false u))).1 (Lx.rd (u.drop (Lx.sk false u))).2 l.length = 0
      · have h0 : (Lx.rd (u.drop (Lx.sk false u))).1 ≠ 0 := fun h => by unfold Lx.flt at he; rw [if_pos h] at he; exact absurd he (by decide)
        have h1 : ¬ ((Lx.rd (u.drop (Lx.sk false u))).1 = 2 ∧ 18 < (Lx.rd (u.drop (Lx.sk false u))).2) := fun h => by unfold Lx.flt at he; rw [if_neg h0, if_pos h] at he; exact absurd he (by decide)
        have h2 : ¬ 600 ≤ l.length := fun h => by unfold Lx.flt at he; rw [if_neg h0, if_neg h1, if_pos h] at he; exact absurd he (by decide)
        exact .inr ⟨by omega, _, _, _, Lx.Reads_append h ⟨hu, rfl, h0, h1, rfl, rfl⟩⟩
      · exact .inl (.inr ⟨_, _, l, u, p, h, hn, hu, rfl, rfl, he⟩)
  have key : ∀ (n : Nat) (l : List Lx.Tok) (u : List UInt8) (p : Nat), Lx.Reads s 0 l u p → l.length + n = 600 → (∃ l, Lx.Ok s l) ∨ ∃ e q, Lx.Bad s e q := by
    intro n
    induction n with
    | zero =>
      intro l u p h hn
      rcases step l u p h (by omega) with h | ⟨h, _⟩
      · exact h
      · omega
    | succ n ih =>
      intro l u p h hn
      rcases step l u p h (by omega) with h | ⟨_, t, u', p', h'⟩
      · exact h
      · exact ih _ u' p' h' (by simp; omega)
  exact key 600 [] s 0 (Lx.Reads_nil _ _) (by simp)

/-- what of the listed variables the reading asks -/
structure Vars (w : World) : Prop where
  tabs : Tabs w
  marks : Marks w
  fine : Fine w
  err : ErrType w
  big : 13 ≤ w.heap.size
theorem Vars.up {w W : World} (h : Vars w) (hb : Below w.heap.size w W) : Vars W :=
  ⟨h.tabs.keep (fun b hb' => hb.block b (Nat.lt_of_lt_of_le hb' h.big)), h.marks.below (Nat.le_refl _) hb, h.fine.below hb, h.err.below hb, Nat.le_trans h.big hb.size⟩
theorem isChart_zero (A : Nat → Prop) (w : World) : IsChart A w ⟨[], [], []⟩ (.agg ZC) := by
  refine ⟨none, 0, 0, none, 0, 0, rfl, ⟨[], ⟨World.ownsRow_nil _ _ _ _, fun g hg => absurd hg (by simp [Value.ownBlock])⟩, rfl⟩, ⟨[], ⟨World.ownsRow_nil _ _ _ _, fun g hg => absurd hg (by simp [Value.ownBlock])⟩, rfl⟩⟩
theorem same_charts {A A' : Nat → Prop} {c : Chart} {w : World} {v v' : Value} (h : IsChart A w c v) (h' : IsChart A' w c v') : Alike 22 w v v' := by
  intro w' hb
  obtain ⟨a, n, m, a2, n2, m2, rfl, hv, hr⟩ := h
  obtain ⟨b, k, l, b2, k2, l2, rfl, hv', hr'⟩ := h'
  have hR := (regs_ok A A' 6 w _ _ _ hr hr').up hb
  obtain ⟨ao, cap, g, e1, hm, hx⟩ := (hv.carry (keep_below hb)).read
  obtain ⟨ao', cap', g', e1', hm', hx'⟩ := (hv'.carry (keep_below hb)).read
  rw [e1, e1']
  refine same_chart w' c.vars _ rfl ⟨c.name.toArray⟩ _ _ ao ao' cap cap' g g' hm hR (fun i d hi => ?_)
  obtain ⟨z1, z2, z3, z4, z5⟩ := hx i d hi
  obtain ⟨z1', z2', z3', z4', z5'⟩ := hx' i d hi
  exact ⟨z1, z1', z2, z2', z3, z4, z5, z3', z4', z5'⟩
theorem IsChart.mid {B : Nat} {c : Chart} {W W' : World} {v : Value} (h : IsChart (Ge (B + 2)) W c v) (hm : Mid B W W') : IsChart (Ge (B + 2)) W' c v := by
  have kp : Keep (Ge (B + 2)) (Ge (B + 2)) W W' := fun b hb hl => ⟨hb, hm.2 b hb hl⟩
  obtain ⟨a, n, m, a2, n2, m2, rfl, hv, hr⟩ := h
  exact ⟨a, n, m, a2, n2, m2, rfl, hv.carry kp, hr.carry kp (IsStates.carry kp 6)⟩
theorem IsChart.ge {B B' : Nat} {c : Chart} {W : World} {v : Value} (h : IsChart (Ge B') W c v) (hB : B ≤ B') : IsChart (Ge B) W c v := by
  have kp : Keep (Ge B') (Ge B) W W := fun b hb _ => ⟨Nat.le_trans hB hb, rfl⟩
  obtain ⟨a, n, m, a2, n2, m2, rfl, hv, hr⟩ := h
  exact ⟨a, n, m, a2, n2, m2, rfl, hv.carry kp, hr.carry kp (IsStates.carry kp 6)⟩

/-- an error that lies in memory, with its place -/
def AtErr (ev q : Nat) (W : World) (err : Value) : Prop := ∃ g, err = .iface 65 (.pointer (some ⟨g, 0, none⟩)) ∧ W.heap[g]? = some (.cells #[.int .i64 ev, .int .i64 q] 66 (0, 0))
theorem AtErr.keep {ev q B : Nat} {W W' : World} {err : Value} (h : AtErr ev q W err) (h0 : W.heap[B]? = some (.cells #[.string ⟨#[]⟩, .slice none 0 0, .slice none 0 0] 25 (0, 0))) (hk : ∀ b, b ≠ B → W'.heap[b]? = W.heap[b]?) : AtErr ev q W' err := by
  obtain ⟨g, rfl, hg⟩ := h
  exact ⟨g, rfl, (hk g (by rintro rfl; rw [h0] at hg; simp at hg)).trans hg⟩

theorem draws_ok (s : ByteArray) (l : List Lx.Tok) (c : Chart) (w : World) (hs : s.size ≤ 1500) (hv : Vars w) (hok : Lx.Ok (bs s) l) (hch : chart (fin s l) = .ok c) :
    Calls Tryz.prog 6 #[.string s] w fun e w' => ∃ v, e = .returned (.tuple #[v, .agg #[.int .i64 0, .int .i64 (-1)], .bool true]) ∧ IsChart (Ge (w.heap.size + 2)) w' c v ∧ Below w.heap.size w w' := by
  obtain ⟨hR1, hR2⟩ := chart_ok hch
  refine draws_walk s w hs 0 (-1) (fun W v => IsChart (Ge (w.heap.size + 2)) W c v) (fun _ err => err = .nilIface) ?_ ?_ (fun W W' v h hm => h.mid hm) (fun W v v' h h' => same_charts h h') (fun _ _ _ h _ _ => h) ?_ (fun _ _ h => h)
  · intro W hb hz
    refine (rparse_any s l W (by omega) (hv.up hb).fine hok).mono ?_
    rintro e w' ⟨v, rfl, h1, -, hb'⟩
    have hc := (h1 hR2).ge hz
    rw [hR1] at hc
    obtain ⟨a, n, m, a2, n2, m2, rfl, hx⟩ := hc
    rw [hR2]
    exact ⟨_, _, _, _, _, _, _, rfl, ⟨a, n, m, a2, n2, m2, rfl, hx⟩, hb'⟩
  · intro W hb hz
    refine (parse_ok s l c W (by omega) (hv.up hb).big (hv.up hb).tabs (hv.up hb).marks hok hch).mono ?_
    rintro e w' ⟨v, rfl, h1, hb'⟩
    obtain ⟨a, n, m, a2, n2, m2, rfl, hx⟩ := h1.ge hz
    exact ⟨_, _, _, _, _, _, _, _, rfl, ⟨a, n, m, a2, n2, m2, rfl, hx⟩, rfl, hb'⟩
  · rintro W err rfl _
    exact is_nil W

theorem draws_no {s : ByteArray} {w : World} {ev q : Nat} (hs : s.size ≤ 1500) (hv : Vars w)
    (hR : ∀ W, Below w.heap.size w W → Calls Tryz.prog 21 #[.string s] W fun e w' => e = .returned (.tuple #[.agg ZC, .agg #[.int .i64 ev, .int .i64 q]]) ∧ Below W.heap.size W w')
    (hP : ∀ W, Below w.heap.size w W → Calls Tryz.prog 16 #[.string s] W fun e w' => ∃ err, e = .returned (.tuple #[.agg ZC, err]) ∧ AtErr ev q w' err ∧ Below W.heap.size W w') :
    Calls Tryz.prog 6 #[.string s] w fun e w' => e = .returned (.tuple #[.agg ZC, .agg #[.int .i64 ev, .int .i64 q], .bool true]) ∧ Below w.heap.size w w' := by
  refine (draws_walk s w hs ev q (fun _ v => v = .agg ZC) (AtErr ev q) ?_ ?_ (fun W W' v h _ => h) ?_ (fun W W' err h h0 hk => h.keep h0 hk) ?_ (fun _ _ h => h)).mono ?_
  · intro W hb _
    refine (hR W hb).mono ?_
    rintro e w' ⟨rfl, hb'⟩
    exact ⟨_, _, _, _, _, _, _, rfl, rfl, hb'⟩
  · intro W hb _
    refine (hP W hb).mono ?_
    rintro e w' ⟨err, rfl, he, hb'⟩
    exact ⟨_, _, _, _, _, _, _, _, rfl, rfl, he, hb'⟩
  · rintro W v v' rfl rfl
    exact same_charts (isChart_zero (fun _ => True) W) (isChart_zero (fun _ => True) W)
  · rintro W err ⟨g, rfl, hg⟩ hb
    exact is_at g ev q W (hv.up hb).err hg
  · rintro e w' ⟨v, rfl, rfl, hb⟩
    exact ⟨rfl, hb⟩

/-- of a text that draws nothing: the same error is told -/
theorem draws_bad (s : ByteArray) (w : World) (hs : s.size ≤ 1500) (hv : Vars w) (hno : ∀ l c, ¬ (Lx.Ok (bs s) l ∧ chart (fin s l) = .ok c)) :
    ∃ ev q : Nat, Calls Tryz.prog 6 #[.string s] w fun e w' => e = .returned (.tuple #[.agg ZC, .agg #[.int .i64 ev, .int .i64 q], .bool true]) ∧ Below w.heap.size w w' := by
  rcases Lx.Ok_or_Bad (bs s) with ⟨l, hok⟩ | ⟨ev, q, hbad⟩
  · cases hch : chart (fin s l) with
    | ok c => exact absurd ⟨hok, hch⟩ (hno l c)
    | error f =>
      have hR := chart_err hch
      refine ⟨f.1, f.2, draws_no hs hv (fun W hb => ?_) (fun W hb => ?_)⟩
      · refine (rparse_any s l W (by omega) (hv.up hb).fine hok).mono ?_
        rintro e w' ⟨v, rfl, -, h2, hb'⟩
        obtain rfl := h2 (by rw [hR]; simp)
        rw [hR]
        exact ⟨rfl, hb'⟩
      · refine (parse_err s l f W (by omega) (hv.up hb).big (hv.up hb).tabs (hv.up hb).marks hok hch).mono ?_
        rintro e w' ⟨g, rfl, hg, hb'⟩
        exact ⟨_, rfl, ⟨g, rfl, hg⟩, hb'⟩
  · have hnl : ∀ l, ¬ Lx.Ok (bs s) l := fun l h => Lx.Ok_Bad h hbad
    refine ⟨ev, q, draws_no hs hv (fun W hb => ?_) (fun W hb => ?_)⟩
    · refine (rparse_bad s W (by omega) (hv.up hb).fine hnl).mono ?_
      rintro e w' ⟨ev', q', rfl, hb', hbel⟩
      obtain ⟨rfl, rfl⟩ := Lx.Bad_Bad hbad hb'
      exact ⟨rfl, hbel⟩
    · refine (parse_bad s W (by omega) (hv.up hb).marks hnl).mono ?_
      rintro e w' ⟨ev', q', g, rfl, hb', hg, hbel⟩
      obtain ⟨rfl, rfl⟩ := Lx.Bad_Bad hbad hb'
      exact ⟨_, rfl, ⟨g, rfl, hg⟩, hbel⟩

theorem resultsB (tmps : Array Value) (W : World) (e : Nat) (fe : Array Value) (hse : fe.size = 2) (hq : tmps[2]?.getD undef = .pointer (some ⟨e, 0, none⟩)) (he : W.heap[e]? = some (.cells fe 28 (0, 0))) :
    (results Tryz.f20 tmps).run Tryz.prog W = .ok (.agg fe) W := by
  simp [results, Tryz.results20, hq, asAddr, load28 hse he]
set_option maxRecDepth 100000 in
set_option maxHeartbeats 2000000 in
theorem bare_any (e : Int) (w : World) : Calls Tryz.prog 20 #[.int .i64 e] w fun r w' => r = .returned (.agg #[.int .i64 e, .int .i64 (-1)]) ∧ Below w.heap.size w w' := by
  go_enter Tryz.func20, Tryz.ntmps20
  go_wp2_with fail
  refine bodyPost_ret (resultsB _ _ _ _ rfl rfl (heap_alloc_new _ _)) rfl ?_
  exact ⟨rfl, (Below.refl _ _).alloc (Nat.le_refl _) _⟩

set_option maxRecDepth 100000 in
set_option maxHeartbeats 2000000 in
/-- of a text that is too long -/
theorem draws_big (s : ByteArray) (w : World) (hs : ¬ s.size ≤ 1500) :
    Calls Tryz.prog 6 #[.string s] w fun e w' => e = .returned (.tuple #[.agg ZC, .agg #[.int .i64 4, .int .i64 (-1)], .bool true]) ∧ Below w.heap.size w w' := by
  have hs' : (1500 : Int) < s.size := by omega
  obtain ⟨W0, hW0, hb0, hz0, c0, e0⟩ := draws_open w
  clear hs
  go_enter Tryz.func6, Tryz.ntmps6
  go_upto_region 1 with fail
  rw [show (w.alloc (.cells #[.string ⟨#[]⟩, .slice none 0 0, .slice none 0 0] 25)).alloc (.cells #[.int .i64 0, .int .i64 0] 28) = W0 from hW0.symm]
  clear hW0
  have u0 : W0.cell? ⟨w.heap.size, 0, none⟩ = some (.string ⟨#[]⟩) := by rw [cell_of_row _ _ _ _ _ _ c0]; rfl
  have u1 : W0.cell? ⟨w.heap.size, 1, none⟩ = some (.slice none 0 0) := by rw [cell_of_row _ _ _ _ _ _ c0]; rfl
  have u2 : W0.cell? ⟨w.heap.size, 2, none⟩ = some (.slice none 0 0) := by rw [cell_of_row _ _ _ _ _ _ c0]; rfl
  have u3 : W0.cell? ⟨w.heap.size + 1, 0, none⟩ = some (.int .i64 0) := by rw [cell_of_row _ _ _ _ _ _ e0]; rfl
  have u4 : W0.cell? ⟨w.heap.size + 1, 1, none⟩ = some (.int .i64 0) := by rw [cell_of_row _ _ _ _ _ _ e0]; rfl
  have z0 : ∀ o, W0.frozen? ⟨w.heap.size, o, none⟩ = false := fun o => by simp [World.frozen?, c0]
  have z1 : ∀ o, W0.frozen? ⟨w.heap.size + 1, o, none⟩ = false := fun o => by simp [World.frozen?, e0]
  have yy : ∀ W, Below W0.heap.size W0 W → W.cell? ⟨w.heap.size + 1, 0, none⟩ = some (.int .i64 0) ∧ W.cell? ⟨w.heap.size + 1, 1, none⟩ = some (.int .i64 0) := fun W hb => ⟨(hb.cell (p := ⟨w.heap.size + 1, 0, none⟩) (show w.heap.size + 1 < _ by omega)).trans u3, (hb.cell (p := ⟨w.heap.size + 1, 1, none⟩) (show w.heap.size + 1 < _ by omega)).trans u4⟩
  have HY : Hid _ := yy
  have HS8 : Hid (∀ W, Below W0.heap.size W0 W → (W.cell? ⟨w.heap.size, 0, none⟩ = some (.string ⟨#[]⟩) ∧ W.cell? ⟨w.heap.size, 1, none⟩ = some (.slice none 0 0) ∧ W.cell? ⟨w.heap.size, 2, none⟩ = some (.slice none 0 0) ∧ (∀ o, W.frozen? ⟨w.heap.size, o, none⟩ = false) ∧ (∀ o, W.frozen? ⟨w.heap.size + 1, o, none⟩ = false))) := fun W hb => ⟨(hb.cell (p := ⟨w.heap.size, 0, none⟩) (show w.heap.size < _ by omega)).trans u0, (hb.cell (p := ⟨w.heap.size, 1, none⟩) (show w.heap.size < _ by omega)).trans u1, (hb.cell (p := ⟨w.heap.size, 2, none⟩) (show w.heap.size < _ by omega)).trans u2, fun o => by rw [World.frozen?, hb.block _ (show w.heap.size < _ by omega)]; exact z0 o, fun o => by rw [World.frozen?, hb.block _ (show w.heap.size + 1 < _ by omega)]; exact z1 o⟩
  have hS4 := HS8.out W0.drew (Below.refl _ _).drew
  clear yy u3 u4
  go_wp2_with fail
  go_region_held3 (fun w' => (w'.cell? ⟨w.heap.size, 0, none⟩ = some (.string ⟨#[]⟩) ∧ w'.cell? ⟨w.heap.size, 1, none⟩ = some (.slice none 0 0) ∧ w'.cell? ⟨w.heap.size, 2, none⟩ = some (.slice none 0 0) ∧ (∀ o, w'.frozen? ⟨w.heap.size, o, none⟩ = false) ∧ (∀ o, w'.frozen? ⟨w.heap.size + 1, o, none⟩ = false)))
    (first | (rw [setCell_self t0, setCell_self t1, setCell_self t2]; with_reducible exact hS5) | with_reducible exact hS5 | with_reducible exact hS4 | go_keep)
    (first
      | (go_at_call 20; refine (bare_any 4 _).mono ?_; rintro e w5 ⟨rfl, hb5⟩; have hb05 := ((Below.refl W0.heap.size W0).drew).trans hb5; have hS5 : (w5.cell? ⟨w.heap.size, 0, none⟩ = some (.string ⟨#[]⟩) ∧ w5.cell? ⟨w.heap.size, 1, none⟩ = some (.slice none 0 0) ∧ w5.cell? ⟨w.heap.size, 2, none⟩ = some (.slice none 0 0) ∧ (∀ o, w5.frozen? ⟨w.heap.size, o, none⟩ = false) ∧ (∀ o, w5.frozen? ⟨w.heap.size + 1, o, none⟩ = false)) := (HS8.out _ hb05); have t0 := hS5.1; have t1 := hS5.2.1; have t2 := hS5.2.2.1; obtain ⟨t3, t4⟩ := HY.out _ hb05))
  all_goals
    rw [setCell_self t0, setCell_self t1, setCell_self t2]
    go_wp2_with fail
    have k1 := (hb05.block _ (by omega)).trans e0
    have k2 := heap_setCell_same _ (w.heap.size + 1) 0 _ _ (.int .i64 4) k1
    have k3 := heap_setCell_same _ (w.heap.size + 1) 1 _ _ (.int .i64 (-1)) k2
    refine bodyPost_ret (resultsD _ _ _ _ _ _ _ rfl rfl rfl rfl rfl (((heap_setCell_other _ _ _ _ (by simp)).trans (heap_setCell_other _ _ _ _ (by simp))).trans ((hb05.block _ (by omega)).trans c0)) k3) rfl ?_
    exact ⟨rfl, ((hb0.trans (hb05.mono hb0.size)).setCell (by simp) _).setCell (by simp) _⟩

end Go.Proofs.YtanlfmhlohcmgaaGreatDoor
/- What the listed variables' readings give the walks: the tables, the marks, Fine, the handle of type error. -/
namespace Go.Proofs.YtanlfmhlohcmgaaGreatDoor
open Go.ChangeShapes Go.WideShapes Go.ChangeAt Go.RowKit Px

theorem ownKn : ownKnob Tryz.prog.godebug = none := by kernel_rfl
theorem laidOut : laidOutB Tryz.prog = true := by kernel_rfl

def fl0 : DataW Unit → List Value
  | .lit (.string s) => [.string ⟨s.toArray⟩]
  | .lit (.int k n) => [.int k n]
  | _ => []
def flA (f : DataW Unit → List Value) : DataW Unit → List Value
  | .agg ps => ps.flatMap f
  | _ => []
/-- what is read of such a type says its cells -/
def Opens (W : World) (t k : Nat) (f : DataW Unit → List Value) : Prop :=
  ∀ fuel cs d p, DataW.trod (fun _ => ()) Tryz.prog W 0 (fun _ => true) false fuel t cs = some (d, p) → cs = f d ∧ cs.length = k
theorem opens_string {W : World} {t : Nat} (hu : Tryz.prog.underlying t = some .string) : Opens W t 1 fl0 := by
  intro fuel cs d p h
  cases fuel with
  | zero => simp [DataW.trod] at h
  | succ fuel =>
    rcases cs with _ | ⟨c, _ | ⟨c', r⟩⟩
    · simp [DataW.trod, hu] at h
    · cases c with
      | string s =>
        simp only [DataW.trod, hu] at h
        split at h
        · have hb := congrArg Prod.fst (Option.some.inj h)
          simp only at hb
          subst hb
          exact ⟨rfl, rfl⟩
        · cases h
      | _ => simp [DataW.trod, hu] at h
    · simp [DataW.trod, hu] at h
theorem opens_int {W : World} {t : Nat} {k : IntKind} (hu : Tryz.prog.underlying t = some (.int k)) : Opens W t 1 fl0 := by
  intro fuel cs d p h
  cases fuel with
  | zero => simp [DataW.trod] at h
  | succ fuel =>
    rcases cs with _ | ⟨c, _ | ⟨c', r⟩⟩
    · simp [DataW.trod, hu] at h
    · cases c with
      | int k' n =>
        simp only [DataW.trod, hu] at h
        split at h
        · rename_i hk
          have hb := congrArg Prod.fst (Option.some.inj h)
          simp only at hb
          subst hb
          rw [hk.1]
          exact ⟨rfl, rfl⟩
        · cases h
      | _ => simp [DataW.trod, hu] at h
    · simp [DataW.trod, hu] at h
/-- pieces one behind the other -/
theorem chunks {k : Nat} {f : DataW Unit → List Value} : ∀ (ds : List (DataW Unit)) (cs : List Value), cs.length = ds.length * k → (∀ i d, ds[i]? = some d → (cs.drop (i * k)).take k = f d) → cs = ds.flatMap f := by
  intro ds
  induction ds with
  | nil => intro cs hl _; simp at hl; simp [hl]
  | cons d r ih =>
    intro cs hl h
    have h0 := h 0 d rfl
    rw [Nat.zero_mul, List.drop_zero] at h0
    have h1 := ih (cs.drop k) (by rw [List.length_drop, hl, List.length_cons, Nat.add_mul]; omega) (fun i d hi => by
      have := h (i + 1) d (by simpa using hi)
      rw [Nat.add_mul, Nat.one_mul, Nat.add_comm, ← List.drop_drop] at this
      exact this)
    rw [List.flatMap_cons, ← h0, ← h1, List.take_append_drop]
theorem opens_array {W : World} {t e n k : Nat} {f : DataW Unit → List Value} (hu : Tryz.prog.underlying t = some (.array n e)) (hce : Tryz.prog.cellsOf e = k) (hct : Tryz.prog.cellsOf t = n * k) (he : Opens W e k f) : Opens W t (n * k) (flA f) := by
  intro fuel cs d p h
  cases fuel with
  | zero => simp [DataW.trod] at h
  | succ fuel =>
    simp only [DataW.trod, hu, hce, hct] at h
    split at h
    · rename_i hl
      obtain ⟨xs, hm, hx⟩ := Option.map_eq_some_iff.1 h
      have hd := congrArg Prod.fst hx
      simp only at hd
      subst hd
      have hxl : xs.length = n := by simpa using Lib.mapM_length hm
      refine ⟨?_, hl⟩
      show cs = (xs.map (·.1)).flatMap f
      refine chunks (k := k) _ cs (by rw [List.length_map, hxl]; exact hl) (fun i d hi => ?_)
      rw [List.getElem?_map, Option.map_eq_some_iff] at hi
      obtain ⟨b, hb, rfl⟩ := hi
      have hin : i < n := by rw [← hxl]; exact (List.getElem?_eq_some_iff.1 hb).1
      obtain ⟨b', hb', hf⟩ := Lib.mapM_at hm i i (by simp [hin])
      obtain rfl : b = b' := Option.some.inj (hb.symm.trans hb')
      exact (he fuel _ b.1 b.2 hf).1
    · cases h
theorem two_of {α : Type} : ∀ (l : List α), l.length = 2 → ∃ x y, l = [x, y]
  | [x, y], _ => ⟨x, y, rfl⟩
theorem opens_two {W : World} {t a b : Nat} {f g : Field} (hu : Tryz.prog.underlying t = some (.struct #[f, g])) (hf : f.type = a ∧ f.offset = 0) (hg : g.type = b ∧ g.offset = 1) (hct : Tryz.prog.cellsOf t = 2) (hca : Tryz.prog.cellsOf a = 1) (hcb : Tryz.prog.cellsOf b = 1) (ha : Opens W a 1 fl0) (hb : Opens W b 1 fl0) : Opens W t 2 (flA fl0) := by
  intro fuel cs d p h
  cases fuel with
  | zero => simp [DataW.trod] at h
  | succ fuel =>
    simp only [DataW.trod, hu, hct] at h
    split at h
    · rename_i hl
      obtain ⟨xs, hm, hx⟩ := Option.map_eq_some_iff.1 h
      obtain ⟨x, y, rfl⟩ : ∃ x y, cs = [x, y] := two_of cs hl
      have hd := congrArg Prod.fst hx
      simp only at hd
      subst hd
      simp only [List.mapM_cons, List.mapM_nil, Option.bind_eq_bind, Option.bind_eq_some_iff, Option.pure_def, Option.some.injEq, hf.1, hf.2, hg.1, hg.2, hca, hcb] at hm
      obtain ⟨b0, hb0, r0, ⟨b1, hb1, r1, rfl, rfl⟩, rfl⟩ := hm
      have e0 := (ha fuel _ b0.1 b0.2 hb0).1
      have e1 := (hb fuel _ b1.1 b1.2 hb1).1
      refine ⟨?_, rfl⟩
      show [x, y] = fl0 b0.1 ++ (fl0 b1.1 ++ [])
      rw [← e0, ← e1]; rfl
    · cases h
theorem laid_mem {W : World} : ∀ {l : List (String × DataW Unit)} {ps : List MemPlace}, DataW.LaidVars Tryz.prog W l ps → ∀ x ∈ l, ∃ g t cs f p, Tryz.prog.globalNamed x.1 = some g ∧ (Tryz.prog.globals[g]?).map (·.type) = some t ∧ W.var? Tryz.prog x.1 = some cs ∧ DataW.trod (fun _ => ()) Tryz.prog W 0 (fun _ => true) false f t cs.toList = some (x.2, p) := by
  intro l
  induction l with
  | nil => intro ps _ x hx; cases hx
  | cons y r ih =>
    intro ps h x hx
    obtain ⟨g, t, cs, f, p, q, h1, h2, h3, h4, h5, _⟩ := h
    rcases List.mem_cons.1 hx with rfl | hx
    · exact ⟨g, t, cs, f, p, h1, h2, h3, h4⟩
    · exact ih h5 x hx
/-- a listed variable of plain data: its cells -/
theorem tab_of {W : World} {l : List (String × DataW Unit)} {ps : List MemPlace} (hl : DataW.LaidVars Tryz.prog W l ps) {n : String} {d : DataW Unit} (hm : (n, d) ∈ l) {g t k : Nat} {f : DataW Unit → List Value} (hg : Tryz.prog.globalNamed n = some g) (ht : (Tryz.prog.globals[g]?).map (·.type) = some t) (ho : Opens W t k f) : TabAt W g (f d) := by
  obtain ⟨g', t', cs, fu, p, h1, h2, h3, h4⟩ := laid_mem hl _ hm
  obtain rfl := Option.some.inj (hg.symm.trans h1)
  obtain rfl := Option.some.inj (ht.symm.trans h2)
  have e := (ho fu _ _ _ h4).1
  intro i v hv
  rw [World.var?_cell hg h3 i, ← Array.getElem?_toList, e]
  exact hv
theorem big_of {W : World} {l : List (String × DataW Unit)} {ps : List MemPlace} (hl : DataW.LaidVars Tryz.prog W l ps) {n : String} {d : DataW Unit} (hm : (n, d) ∈ l) {g : Nat} (hg : Tryz.prog.globalNamed n = some g) : g < W.heap.size := by
  obtain ⟨g', t', cs, fu, p, h1, h2, h3, h4⟩ := laid_mem hl _ hm
  rw [World.var?, hg, Option.bind_some] at h3
  by_cases hlt : g < W.heap.size
  · exact hlt
  · rw [show W.heap[g]? = none from Array.getElem?_eq_none (by omega)] at h3
    simp at h3
theorem op_str {W : World} : Opens W 9 1 fl0 := opens_string Tryz.underlying9
theorem op_int {W : World} : Opens W 3 1 fl0 := opens_int Tryz.underlying3
theorem op_errno {W : World} : Opens W 26 1 fl0 := opens_int Tryz.underlying26
theorem op_fault {W : World} : Opens W 28 2 (flA fl0) := opens_two Tryz.underlying28 ⟨rfl, rfl⟩ ⟨rfl, rfl⟩ (by kernel_rfl) (by kernel_rfl) (by kernel_rfl) op_errno op_int
theorem op_sign {W : World} : Opens W 210 2 (flA fl0) := opens_two Tryz.underlying210 ⟨rfl, rfl⟩ ⟨rfl, rfl⟩ (by kernel_rfl) (by kernel_rfl) (by kernel_rfl) op_str op_int
theorem op_21 {W : World} : Opens W 144 (21 * 1) (flA fl0) := opens_array Tryz.underlying144 (by kernel_rfl) (by kernel_rfl) op_str
theorem op_4 {W : World} : Opens W 146 (4 * 1) (flA fl0) := opens_array Tryz.underlying146 (by kernel_rfl) (by kernel_rfl) op_str
theorem op_3 {W : World} : Opens W 197 (3 * 1) (flA fl0) := opens_array Tryz.underlying197 (by kernel_rfl) (by kernel_rfl) op_str
theorem op_2s {W : World} : Opens W 214 (2 * 2) (flA (flA fl0)) := opens_array Tryz.underlying214 (by kernel_rfl) (by kernel_rfl) op_sign
theorem op_4s {W : World} : Opens W 211 (4 * 2) (flA (flA fl0)) := opens_array Tryz.underlying211 (by kernel_rfl) (by kernel_rfl) op_sign
theorem op_54s {W : World} : Opens W 212 (5 * (4 * 2)) (flA (flA (flA fl0))) := opens_array Tryz.underlying212 (by kernel_rfl) (by kernel_rfl) op_4s
theorem tFine : (Tryz.prog.globals[0]?).map (·.type) = some 28 := by kernel_rfl
theorem gFine : Tryz.prog.globalNamed "clepsydra/clepsydraref.Fine" = some 0 := by kernel_rfl
theorem gMarks : Tryz.prog.globalNamed "clepsydra/lex.marks" = some 2 := by kernel_rfl
theorem gErr : Tryz.prog.globalNamed "errors.errorType" = some 1 := by kernel_rfl
theorem gWords : Tryz.prog.globalNamed "clepsydra/parse.words" = some 4 := by kernel_rfl
theorem gKinds : Tryz.prog.globalNamed "clepsydra/parse.kinds" = some 3 := by kernel_rfl
theorem gLeads : Tryz.prog.globalNamed "clepsydra/parse.leads" = some 5 := by kernel_rfl
theorem gAhead : Tryz.prog.globalNamed "clepsydra/parse.ahead" = some 9 := by kernel_rfl
theorem gBetween : Tryz.prog.globalNamed "clepsydra/parse.between" = some 8 := by kernel_rfl
theorem gRange : Tryz.prog.globalNamed "strconv.ErrRange" = some 7 := by kernel_rfl
theorem nTypes : Tryz.prog.types.size = 256 := by kernel_rfl
theorem rtRow : (Tryz.prog.cutTypes.find? (·.1 == "internal/reflectlite.rtype")).map (·.2) = some 162 := by kernel_rfl
theorem oneRow : ((List.range 256).filter fun t => Tryz.prog.rowNamed t [101, 114, 114, 111, 114]) = [34] := by kernel_rfl
theorem errType_laid {W : World} {l : List (String × DataW Unit)} (h : handlesMet Tryz.prog l W) (hm : ("errors.errorType", Rows.laid_errors_errorType) ∈ l) : ErrType W := by
  obtain ⟨name, u, ty, e1, e2, e3, e4, e5⟩ := h _ hm
  have en : name = [101, 114, 114, 111, 114] := (Option.some.inj e1).symm
  subst en
  obtain rfl := Option.some.inj (rtRow.symm.trans e2)
  have hm : ty ∈ (List.range 256).filter fun t => Tryz.prog.rowNamed t [101, 114, 114, 111, 114] := List.mem_filter.2 ⟨List.mem_range.2 (by rw [← nTypes]; exact e3), e4⟩
  rw [oneRow] at hm
  obtain rfl := List.mem_singleton.1 hm
  have hh : typeHandle Tryz.prog 34 = .pointer (some ⟨13, 34, none⟩) := by kernel_rfl
  rw [hh] at e5
  simpa [ErrType] using World.var?_cell gErr e5 0
theorem marks_of {W : World} (h : TabAt W 2 (Lx.marks.map markS)) : Marks W := by
  intro i hi
  have hl : i < Lx.marks.length := hi
  refine h i _ ?_
  rw [List.getElem?_map, List.getElem?_eq_getElem hl, List.getD_eq_getElem?_getD, List.getElem?_eq_getElem hl]
  rfl
theorem gBits : Tryz.prog.globalNamed "math/bits.deBruijn64tab" = some 12 := by kernel_rfl
/-- what the listed variables hold -/
theorem vars_laid {W : World} {l lh : List (String × DataW Unit)} {ps : List MemPlace} (hl : DataW.LaidVars Tryz.prog W l ps) (hh : handlesMet Tryz.prog lh W) (hE : ("errors.errorType", Rows.laid_errors_errorType) ∈ lh) (hf : Fine W)
    (h1 : ("clepsydra/lex.marks", Rows.laid_clepsydra_lex_marks) ∈ l) (h2 : ("clepsydra/parse.between", Rows.laid_clepsydra_parse_between) ∈ l) (h3 : ("clepsydra/parse.ahead", Rows.laid_clepsydra_parse_ahead) ∈ l) (h4 : ("clepsydra/parse.kinds", Rows.laid_clepsydra_parse_kinds) ∈ l) (h5 : ("clepsydra/parse.leads", Rows.laid_clepsydra_parse_leads) ∈ l) (h6 : ("clepsydra/parse.words", Rows.laid_clepsydra_parse_words) ∈ l) (h7 : ("math/bits.deBruijn64tab", Rows.laid_math_bits_deBruijn64tab) ∈ l) : Vars W :=
  ⟨⟨tab_of hl h6 gWords (by kernel_rfl) op_21, tab_of hl h4 gKinds (by kernel_rfl) op_4, tab_of hl h5 gLeads (by kernel_rfl) op_3, tab_of hl h3 gAhead (by kernel_rfl) op_2s, tab_of hl h2 gBetween (by kernel_rfl) op_54s⟩, marks_of (tab_of hl h1 gMarks (by kernel_rfl) op_21), hf, errType_laid hh hE, big_of hl h7 gBits⟩
theorem fine_of {W : World} {l : List (String × DataW Unit)} {ps : List MemPlace} (hl : DataW.LaidVars Tryz.prog W l ps) (hm : ("clepsydra/clepsydraref.Fine", Rows.laid_clepsydra_clepsydraref_Fine) ∈ l) : Fine W := by
  have h : TabAt W 0 [.int .i64 0, .int .i64 (-1)] := tab_of hl hm gFine tFine op_fault
  exact ⟨h 0 _ rfl, h 1 _ rfl⟩
end Go.Proofs.YtanlfmhlohcmgaaGreatDoor
/- What lies in memory row by row, opened: an address is a letter, whether there is one or none; what an index tells. -/
namespace Go.Proofs.YtanlfmhlohcmgaaGreatDoor
open Go.RowKit Px

theorem cell_row {w : World} {g T : Nat} {cs : Array Value} (h : w.heap[g]? = some (.cells cs T (0, 0))) (j : Nat) {u : Value} (hj : cs[j]? = some u) : w.cell? ⟨g, j, none⟩ = some u := by
  simp [World.cell?, h, hj]
theorem ck_new (w : World) (o : Obj) : (w.alloc o).heap[w.heap.size]? = some o := heap_alloc_new w o
theorem ck_old {w : World} {b : Nat} {o o' : Obj} (h : w.heap[b]? = some o) : (w.alloc o').heap[b]? = some o := by
  rw [Below.heap_alloc _ _ _ (lt_of_block h)]; exact h
theorem ck_grown (w : World) (o : Obj) : Below w.heap.size w (w.alloc o) := (Below.refl _ _).alloc (Nat.le_refl _) _
theorem ck_all {w w' w'' : World} (h : Below w.heap.size w w') (k : Below w'.heap.size w' w'') : Below w.heap.size w w'' := h.trans (k.mono h.size)
theorem ck_cell {w w' : World} (h : Below w.heap.size w w') {a : Addr} {v : Value} (hc : w.cell? a = some v) : w'.cell? a = some v := by
  rw [h.cell (World.block_lt_of_cell? w a hc)]; exact hc
theorem ck_block {w w' : World} (h : Below w.heap.size w w') {b : Nat} {o : Obj} (hb : w.heap[b]? = some o) : w'.heap[b]? = some o := by
  rw [h.block b (lt_of_block hb)]; exact hb

/-- a row of records: its address, and each record's cells -/
theorem Row.open {α : Type} {R : α → List Value → Prop} {A : Nat → Prop} {w : World} {e k : Nat} {v : Value} {l : List α} {xs : List Value} (hk : ∀ a c, R a c → c.length = k) (hr : Row A w e k v l.length xs) (hs : Rows R l xs) :
    ∃ ad g cap, v = .slice ad l.length cap ∧ l.length ≤ maxLen ∧ (0 < l.length → ad = some ⟨g, 0, none⟩ ∧ A g ∧ g < w.heap.size) ∧ ∀ (i : Nat) (a : α), l[i]? = some a → ∃ c, R a c ∧ ∀ (j : Nat) (u : Value), c[j]? = some u → w.cell? ⟨g, i * k + j, none⟩ = some u := by
  have hc := fun g hg => World.ownsRow.cells hr.1 (g := g) hg
  have hl := fun g hg => World.ownsRow.lt hr.1 g hg
  have hA := hr.2
  rcases hr.1.2 with ⟨rfl, h0⟩ | ⟨g, cap, cur, rfl, _, _, h2, h3, _⟩
  · have : l = [] := List.length_eq_zero_iff.1 h0
    subst this
    exact ⟨none, 0, 0, rfl, Nat.zero_le _, fun h => absurd h (by simp), fun i a h => absurd h (by simp)⟩
  · refine ⟨_, g, cap, rfl, by omega, fun _ => ⟨rfl, hA g rfl, (hl g rfl).2⟩, fun i a hi => ?_⟩
    obtain ⟨c, hc', hx⟩ := Rows.get hk hs i a hi
    refine ⟨c, hc', fun j u hj => ?_⟩
    have h1 := hc g rfl _ u (hx j u hj)
    have ad : (⟨g, 0, none⟩ : Addr).add (i * k + j) = ⟨g, i * k + j, none⟩ := by unfold Addr.add; split <;> simp_all
    rw [ad] at h1
    exact h1

theorem ixV (ad : Option Addr) (g n cap k : Nat) (hk : k < n) (ha : 0 < n → ad = some ⟨g, 0, none⟩) (w : World) : (Instr.indexAt 22 (.slice ad n cap) (.int .i64 (k : Int))).run Tryz.prog w = .ok (.pointer (some ⟨g, k * 3, none⟩)) w := by
  obtain rfl := ha (by omega)
  rw [run_indexAt_slice _ _ _ _ _ _ _ (by kernel_rfl), if_pos ⟨by omega, by omega⟩]
  have e : (sizeOf (Tryz.prog.elem 22)).run Tryz.prog w = .ok 3 w := by kernel_rfl
  rw [e]
  simp [Result.andThen, Addr.add]
  try (intro h; exact h.symm)
theorem ixT (ad : Option Addr) (g n cap k : Nat) (hk : k < n) (ha : 0 < n → ad = some ⟨g, 0, none⟩) (w : World) : (Instr.indexAt 39 (.slice ad n cap) (.int .i64 (k : Int))).run Tryz.prog w = .ok (.pointer (some ⟨g, k * 9, none⟩)) w := by
  obtain rfl := ha (by omega)
  rw [run_indexAt_slice _ _ _ _ _ _ _ (by kernel_rfl), if_pos ⟨by omega, by omega⟩]
  have e : (sizeOf (Tryz.prog.elem 39)).run Tryz.prog w = .ok 9 w := by kernel_rfl
  rw [e]
  simp [Result.andThen, Addr.add]
  try (intro h; exact h.symm)
theorem ixS (ad : Option Addr) (g n cap k : Nat) (hk : k < n) (ha : 0 < n → ad = some ⟨g, 0, none⟩) (w : World) : (Instr.indexAt 71 (.slice ad n cap) (.int .i64 (k : Int))).run Tryz.prog w = .ok (.pointer (some ⟨g, k * 2, none⟩)) w := by
  obtain rfl := ha (by omega)
  rw [run_indexAt_slice _ _ _ _ _ _ _ (by kernel_rfl), if_pos ⟨by omega, by omega⟩]
  have e : (sizeOf (Tryz.prog.elem 71)).run Tryz.prog w = .ok 2 w := by kernel_rfl
  rw [e]
  simp [Result.andThen, Addr.add]
  try (intro h; exact h.symm)
theorem ixW (ad : Option Addr) (g n cap k : Nat) (hk : k < n) (ha : 0 < n → ad = some ⟨g, 0, none⟩) (w : World) : (Instr.indexAt 73 (.slice ad n cap) (.int .i64 (k : Int))).run Tryz.prog w = .ok (.pointer (some ⟨g, k * 7, none⟩)) w := by
  obtain rfl := ha (by omega)
  rw [run_indexAt_slice _ _ _ _ _ _ _ (by kernel_rfl), if_pos ⟨by omega, by omega⟩]
  have e : (sizeOf (Tryz.prog.elem 73)).run Tryz.prog w = .ok 7 w := by kernel_rfl
  rw [e]
  simp [Result.andThen, Addr.add]
  try (intro h; exact h.symm)
theorem ixR (ad : Option Addr) (g n cap k : Nat) (hk : k < n) (ha : 0 < n → ad = some ⟨g, 0, none⟩) (w : World) : (Instr.indexAt 23 (.slice ad n cap) (.int .i64 (k : Int))).run Tryz.prog w = .ok (.pointer (some ⟨g, k, none⟩)) w := by
  obtain rfl := ha (by omega)
  rw [run_indexAt_slice _ _ _ _ _ _ _ (by kernel_rfl), if_pos ⟨by omega, by omega⟩]
  have e : (sizeOf (Tryz.prog.elem 23)).run Tryz.prog w = .ok 1 w := by kernel_rfl
  rw [e]
  simp [Result.andThen, Addr.add]
  try (intro h; exact h.symm)
theorem ixI (ad : Option Addr) (g n cap k : Nat) (hk : k < n) (ha : 0 < n → ad = some ⟨g, 0, none⟩) (w : World) : (Instr.indexAt 36 (.slice ad n cap) (.int .i64 (k : Int))).run Tryz.prog w = .ok (.pointer (some ⟨g, k, none⟩)) w := by
  obtain rfl := ha (by omega)
  rw [run_indexAt_slice _ _ _ _ _ _ _ (by kernel_rfl), if_pos ⟨by omega, by omega⟩]
  have e : (sizeOf (Tryz.prog.elem 36)).run Tryz.prog w = .ok 1 w := by kernel_rfl
  rw [e]
  simp [Result.andThen, Addr.add]
  try (intro h; exact h.symm)
end Go.Proofs.YtanlfmhlohcmgaaGreatDoor
