/- draws: of a text without tokens, of one whose chart is wrong, of a chart. -/
import Derived.Test.YtpbfmfhjgghldaaDoorJRparse2
namespace Go.Proofs.YtpbfmfhjgghldaaDoor
open Go.RowKit Go.Sort Px

theorem Lx.Ok_or_Bad (s : List UInt8) : (∃ l, Lx.Ok s l) ∨ ∃ e q, Lx.Bad s e q := by
  have step : ∀ (l : List Lx.Tok) (u : List UInt8) (p : Nat), Lx.Reads s 0 l u p → l.length ≤ 600 → ((∃ l, Lx.Ok s l) ∨ ∃ e q, Lx.Bad s e q) ∨ (l.length < 600 ∧ ∃ t u' p', Lx.Reads s 0 (l ++ [t]) u' p') := by
    intro l u p h hn
    by_cases hu : u.drop (Lx.sk false u) = []
    · exact .inl (.inl ⟨l, hn, u, p, h, hu⟩)
    · by_cases he : Lx.flt (Lx.rd (u.drop (Lx.sk false u))).1 (Lx.rd (u.drop (Lx.sk false u))).2 l.length = 0
      · have h0 : (Lx.rd (u.drop (Lx.sk false u))).1 ≠ 0 := fun h => by unfold Lx.flt at he; rw [if_pos h] at he; exact absurd he (by decide)
        have h1 : ¬ ((Lx.rd (u.drop (Lx.sk false u))).1 = 2 ∧ 18 < (Lx.rd (u.drop (Lx.sk false u))).2) := fun h => by unfold Lx.flt at he; rw [if_neg h0, if_pos h] at he; exact absurd he (by decide)
        have h2 : ¬ 600 ≤ l.length := fun h => by unfold Lx.flt at he; rw [if_neg h0, if_neg h1, if_pos h] at he; exact absurd he (by decide)
        exact .inr ⟨by omega, _, _, _, Lx.Reads_append h ⟨hu, rfl, h0, h1, rfl, rfl⟩⟩
      · exact .inl (.inr ⟨_, _, l, u, p, h, hn, hu, rfl, rfl, he⟩)
  have key : ∀ (n : Nat) (l : List Lx.Tok) (u : List UInt8) (p : Nat), Lx.Reads s 0 l u p → l.length + n = 600 → (∃ l, Lx.Ok s l) ∨ ∃ e q, Lx.Bad s e q := by
    intro n
    induction n with
    | zero =>
      intro l u p h hn
      rcases step l u p h (by omega) with h | ⟨h, _⟩
      · exact h
      · omega
    | succ n ih =>
      intro l u p h hn
      rcases step l u p h (by omega) with h | ⟨_, t, u', p', h'⟩
      · exact h
      · exact ih _ u' p' h' (by simp; omega)
  exact key 600 [] s 0 (Lx.Reads_nil _ _) (by simp)

theorem isChart_zero (A : Nat → Prop) (w : World) : IsChart A w ⟨[], [], []⟩ (.agg ZC) := by
  refine ⟨none, 0, 0, none, 0, 0, rfl, ⟨[], ⟨World.ownsRow_nil _ _ _ _, fun g hg => absurd hg (by simp [Value.ownBlock])⟩, rfl⟩, ⟨[], ⟨World.ownsRow_nil _ _ _ _, fun g hg => absurd hg (by simp [Value.ownBlock])⟩, rfl⟩⟩
theorem IsChart.mid {B : Nat} {c : Chart} {W W' : World} {v : Value} (h : IsChart (Ge (B + 2)) W c v) (hm : Mid B W W') : IsChart (Ge (B + 2)) W' c v := by
  have kp : Keep (Ge (B + 2)) (Ge (B + 2)) W W' := fun b hb hl => ⟨hb, hm.2 b hb hl⟩
  obtain ⟨a, n, m, a2, n2, m2, rfl, hv, hr⟩ := h
  exact ⟨a, n, m, a2, n2, m2, rfl, hv.carry kp, hr.carry kp (IsStates.carry kp 6)⟩
theorem IsChart.ge {B B' : Nat} {c : Chart} {W : World} {v : Value} (h : IsChart (Ge B') W c v) (hB : B ≤ B') : IsChart (Ge B) W c v := by
  have kp : Keep (Ge B') (Ge B) W W := fun b hb _ => ⟨Nat.le_trans hB hb, rfl⟩
  obtain ⟨a, n, m, a2, n2, m2, rfl, hv, hr⟩ := h
  exact ⟨a, n, m, a2, n2, m2, rfl, hv.carry kp, hr.carry kp (IsStates.carry kp 6)⟩

/-- an error that lies in memory, with its place -/
def AtErr (ev q : Nat) (W : World) (err : Value) : Prop := ∃ g, err = .iface 39 (.pointer (some ⟨g, 0, none⟩)) ∧ W.heap[g]? = some (.cells #[.int .i64 ev, .int .i64 q] 63 (0, 0))
theorem AtErr.keep {ev q B : Nat} {W W' : World} {err : Value} (h : AtErr ev q W err) (h0 : W.heap[B]? = some (.cells #[.string ⟨#[]⟩, .slice none 0 0, .slice none 0 0] 26 (0, 0))) (hk : ∀ b, b ≠ B → W'.heap[b]? = W.heap[b]?) : AtErr ev q W' err := by
  obtain ⟨g, rfl, hg⟩ := h
  exact ⟨g, rfl, (hk g (by rintro rfl; rw [h0] at hg; simp at hg)).trans hg⟩

end Go.Proofs.YtpbfmfhjgghldaaDoor
