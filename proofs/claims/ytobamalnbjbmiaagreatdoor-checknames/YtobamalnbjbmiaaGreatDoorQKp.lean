/- The charts that keep's laws draw first: what they draw, and what Check says of them. -/
import Derived.Test.YtobamalnbjbmiaaGreatDoorQLaidK
namespace Go.Proofs.YtobamalnbjbmiaaGreatDoor
open Go.RowKit Px
namespace Kx

/-- a text's tokens, one by one -/
def lexF : Nat → List UInt8 → Nat → Option (List Lx.Tok)
  | 0, _, _ => none
  | f + 1, u, p =>
    if (u.drop (Lx.sk false u)).isEmpty then some []
    else if (Lx.rd (u.drop (Lx.sk false u))).1 = 0 ∨ ((Lx.rd (u.drop (Lx.sk false u))).1 = 2 ∧ 18 < (Lx.rd (u.drop (Lx.sk false u))).2) then none
    else match lexF f ((u.drop (Lx.sk false u)).drop (Lx.rd (u.drop (Lx.sk false u))).2) (p + Lx.sk false u + (Lx.rd (u.drop (Lx.sk false u))).2) with
      | none => none
      | some l => some (⟨(Lx.rd (u.drop (Lx.sk false u))).1, (u.drop (Lx.sk false u)).take (Lx.rd (u.drop (Lx.sk false u))).2, p + Lx.sk false u⟩ :: l)
theorem lexF_ok : ∀ (f : Nat) (u : List UInt8) (p : Nat) (l : List Lx.Tok), lexF f u p = some l → ∃ u' p', Lx.Reads u p l u' p' ∧ u'.drop (Lx.sk false u') = [] := by
  intro f
  induction f with
  | zero => intro u p l h; exact absurd h (by simp [lexF])
  | succ f ih =>
    intro u p l h
    rw [lexF] at h
    split at h
    · rename_i he
      injection h with h
      subst h
      exact ⟨u, p, Lx.Reads_nil _ _, by simpa using he⟩
    · rename_i he
      split at h
      · exact absurd h (by simp)
      · rename_i hk
        split at h
        · exact absurd h (by simp)
        · rename_i l' hl
          injection h with h
          subst h
          obtain ⟨u', p', h1, h2⟩ := ih _ _ _ hl
          exact ⟨u', p', ⟨fun e => he (by rw [e]; rfl), rfl, fun e => hk (.inl e), fun e => hk (.inr e), h1⟩, h2⟩
def smallL : List UInt8 := [99, 104, 97, 114, 116, 32, 99, 32, 123, 32, 105, 110, 112, 117, 116, 32, 97, 59, 32, 111, 117, 116, 112, 117, 116, 32, 98, 32, 58, 61, 32, 50, 59, 32, 114, 101, 103, 105, 111, 110, 32, 123, 32, 105, 110, 105, 116, 105, 97, 108, 32, 115, 116, 97, 116, 101, 32, 115, 32, 123, 32, 103, 111, 32, 105, 102, 32, 40, 97, 41, 32, 100, 111, 32, 98, 32, 58, 61, 32, 98, 32, 43, 32, 40, 49, 32, 42, 32, 97, 41, 32, 45, 45, 62, 32, 116, 59, 32, 125, 32, 115, 116, 97, 116, 101, 32, 116, 32, 123, 32, 103, 111, 32, 45, 45, 62, 32, 115, 59, 32, 125, 32, 125, 32, 125]
def smallK : List Lx.Tok := [⟨1, [99, 104, 97, 114, 116], 0⟩, ⟨1, [99], 6⟩, ⟨3, [123], 8⟩, ⟨1, [105, 110, 112, 117, 116], 10⟩, ⟨1, [97], 16⟩, ⟨3, [59], 17⟩, ⟨1, [111, 117, 116, 112, 117, 116], 19⟩, ⟨1, [98], 26⟩, ⟨3, [58, 61], 28⟩, ⟨2, [50], 31⟩, ⟨3, [59], 32⟩, ⟨1, [114, 101, 103, 105, 111, 110], 34⟩, ⟨3, [123], 41⟩, ⟨1, [105, 110, 105, 116, 105, 97, 108], 43⟩, ⟨1, [115, 116, 97, 116, 101], 51⟩, ⟨1, [115], 57⟩, ⟨3, [123], 59⟩, ⟨1, [103, 111], 61⟩, ⟨1, [105, 102], 64⟩, ⟨3, [40], 67⟩, ⟨1, [97], 68⟩, ⟨3, [41], 69⟩, ⟨1, [100, 111], 71⟩, ⟨1, [98], 74⟩, ⟨3, [58, 61], 76⟩, ⟨1, [98], 79⟩, ⟨3, [43], 81⟩, ⟨3, [40], 83⟩, ⟨2, [49], 84⟩, ⟨3, [42], 86⟩, ⟨1, [97], 88⟩, ⟨3, [41], 89⟩, ⟨3, [45, 45, 62], 91⟩, ⟨1, [116], 95⟩, ⟨3, [59], 96⟩, ⟨3, [125], 98⟩, ⟨1, [115, 116, 97, 116, 101], 100⟩, ⟨1, [116], 106⟩, ⟨3, [123], 108⟩, ⟨1, [103, 111], 110⟩, ⟨3, [45, 45, 62], 113⟩, ⟨1, [115], 117⟩, ⟨3, [59], 118⟩, ⟨3, [125], 120⟩, ⟨3, [125], 122⟩, ⟨3, [125], 124⟩]
def smallC : Chart := ⟨[99], [⟨1, [97], 0⟩, ⟨2, [98], 2⟩], [[(⟨[115], true, false, [], [], [], .nil, [⟨0, false, eName 2 [97], 1, [⟨[98], eTwo 6 (eName 2 [98]) (eTwo 8 (eNum 1) (eName 2 [97]))⟩], [116], false⟩], []⟩ : StF (St 5)), (⟨[116], false, false, [], [], [], .nil, [⟨0, false, .nil, 1, [], [115], false⟩], []⟩ : StF (St 5))]]⟩
set_option maxRecDepth 100000 in
theorem small_lex : lexF 60 smallL 0 = some smallK := by kernel_rfl
set_option maxRecDepth 100000 in
theorem small_chart (n : Nat) : chart (smallK ++ [⟨4, [], n⟩]) = .ok smallC := by kernel_rfl
theorem small_ok {s : ByteArray} (h : bs s = smallL) : Lx.Ok (bs s) smallK ∧ chart (fin s smallK) = .ok smallC := by
  refine ⟨⟨by decide, ?_⟩, small_chart _⟩
  rw [h]
  exact lexF_ok _ _ _ _ small_lex
def cycL : List UInt8 := [99, 104, 97, 114, 116, 32, 99, 32, 123, 32, 114, 101, 103, 105, 111, 110, 32, 123, 32, 105, 110, 105, 116, 105, 97, 108, 32, 115, 116, 97, 116, 101, 32, 115, 32, 123, 32, 103, 111, 32, 105, 109, 109, 101, 100, 105, 97, 116, 101, 32, 45, 45, 62, 32, 115, 59, 32, 125, 32, 125, 32, 125]
def cycK : List Lx.Tok := [⟨1, [99, 104, 97, 114, 116], 0⟩, ⟨1, [99], 6⟩, ⟨3, [123], 8⟩, ⟨1, [114, 101, 103, 105, 111, 110], 10⟩, ⟨3, [123], 17⟩, ⟨1, [105, 110, 105, 116, 105, 97, 108], 19⟩, ⟨1, [115, 116, 97, 116, 101], 27⟩, ⟨1, [115], 33⟩, ⟨3, [123], 35⟩, ⟨1, [103, 111], 37⟩, ⟨1, [105, 109, 109, 101, 100, 105, 97, 116, 101], 40⟩, ⟨3, [45, 45, 62], 50⟩, ⟨1, [115], 54⟩, ⟨3, [59], 55⟩, ⟨3, [125], 57⟩, ⟨3, [125], 59⟩, ⟨3, [125], 61⟩]
def cycC : Chart := ⟨[99], [], [[(⟨[115], true, false, [], [], [], .nil, [⟨0, true, .nil, 1, [], [115], false⟩], []⟩ : StF (St 5))]]⟩
set_option maxRecDepth 100000 in
theorem cyc_lex : lexF 60 cycL 0 = some cycK := by kernel_rfl
set_option maxRecDepth 100000 in
theorem cyc_chart (n : Nat) : chart (cycK ++ [⟨4, [], n⟩]) = .ok cycC := by kernel_rfl
theorem cyc_ok {s : ByteArray} (h : bs s = cycL) : Lx.Ok (bs s) cycK ∧ chart (fin s cycK) = .ok cycC := by
  refine ⟨⟨by decide, ?_⟩, cyc_chart _⟩
  rw [h]
  exact lexF_ok _ _ _ _ cyc_lex
set_option maxRecDepth 100000 in
theorem small_check : checkC smallC = none := by kernel_rfl
set_option maxRecDepth 100000 in
theorem cyc_check : checkC cycC = some (11, some 0) := by kernel_rfl
end Kx
end Go.Proofs.YtobamalnbjbmiaaGreatDoor
/- keep's chart: what a text draws that may be. -/
namespace Go.Proofs.YtobamalnbjbmiaaGreatDoor
open Go.RowKit Px
namespace Kx

theorem put3 {X : World} {fb T : Nat} {x y z : Value} (h : X.heap[fb]? = some (.cells #[x, y, z] T (0, 0))) (a b c : Value) : (((X.setCell ⟨fb, 0, none⟩ a).setCell ⟨fb, 1, none⟩ b).setCell ⟨fb, 2, none⟩ c).heap[fb]? = some (.cells #[a, b, c] T (0, 0)) :=
  ck_set (l := [a, b, z]) (ck_set (l := [a, y, z]) (ck_set (l := [x, y, z]) h 0 a) 1 b) 2 c
theorem below_put3 {w X : World} {fb : Nat} (h : Below w.heap.size w X) (hb : w.heap.size ≤ fb) (a b c : Value) : Below w.heap.size w (((X.setCell ⟨fb, 0, none⟩ a).setCell ⟨fb, 1, none⟩ b).setCell ⟨fb, 2, none⟩ c) :=
  ((h.setCell hb _).setCell hb _).setCell hb _
set_option maxRecDepth 100000 in
set_option maxHeartbeats 4000000 in
/-- of a text that draws a chart -/
theorem chart_drawn {s : ByteArray} {l : List Lx.Tok} {c : Chart} {w : World} (hs : s.size ≤ 1500) (hv : KEnv w) (hok : Lx.Ok (bs s) l) (hch : chart (fin s l) = .ok c) :
    Calls Tryz.prog 20 #[.string s] w fun e w' => (checkC c = none ∧ ∃ S a n m a' n' m', e = .returned (.tuple #[.agg #[.string S, .slice a n m, .slice a' n' m'], .bool true]) ∧ Hid (IsChart (fun b => w.heap.size < b) w' c (.agg #[.string S, .slice a n m, .slice a' n' m']) ∧ Below w.heap.size w w')) ∨
      (checkC c ≠ none ∧ e = .returned (.tuple #[.agg #[.string ⟨#[]⟩, .slice none 0 0, .slice none 0 0], .bool false]) ∧ Hid (Below w.heap.size w w')) := by
  have hN := nmChart (wf_ok hok) hch
  obtain ⟨W0, hW0⟩ : ∃ W0, W0 = w.alloc (.cells #[.string ⟨#[]⟩, .slice none 0 0, .slice none 0 0] 26) := ⟨_, rfl⟩
  have hb0 : Below w.heap.size w W0 := by rw [hW0]; exact ck_grown w _
  have hp : Calls Tryz.prog 13 #[.string s] W0 fun e w' => ∃ S a n m a' n' m', e = .returned (.tuple #[.agg #[.string S, .slice a n m, .slice a' n' m'], .nilIface]) ∧ Hid (IsChart (fun b => w.heap.size < b) w' c (.agg #[.string S, .slice a n m, .slice a' n' m']) ∧ Below W0.heap.size W0 w') :=
    (parse_ok s l c W0 (by omega) (hv.up hb0).big (hv.up hb0).tabs (hv.up hb0).marks hok hch).mono fun e w' ⟨v, he, hC, hb⟩ => by
      obtain ⟨a, n, m, a', n', m', rfl, h1, h2⟩ := hC
      have kp : Keep (Ge W0.heap.size) (fun b => w.heap.size < b) w' w' := fun b hb' _ => ⟨by have h3 : W0.heap.size ≤ b := hb'; rw [hW0] at h3; simp at h3; omega, rfl⟩
      exact ⟨_, a, n, m, a', n', m', he, ⟨a, n, m, a', n', m', rfl, h1.carry kp, h2.carry kp (IsStates.carry kp 6)⟩, hb⟩
  have HB0 : Hid (Below w.heap.size w W0 ∧ W0.heap[w.heap.size]? = some (.cells #[.string ⟨#[]⟩, .slice none 0 0, .slice none 0 0] 26 (0, 0))) := ⟨hb0, by rw [hW0]; exact ck_new _ _⟩
  have hs1 : ¬ (1500 : Int) < (s.size : Int) := by omega
  have HN : Hid (NmChart c) := hN
  rw [hW0] at hp HB0
  clear hN hv hok hch hW0 hb0
  go_enter Tryz.func20, Tryz.ntmps20
  go_wp2_with fail
  refine hp.mono ?_
  rintro e w1 ⟨S, a, n, m, a', n', m', rfl, h1⟩
  obtain ⟨W1, hW1⟩ : ∃ W1, W1 = w1.alloc (.cells #[.string S, .slice a n m, .slice a' n' m'] 26) := ⟨_, rfl⟩
  have hb1 : Below w1.heap.size w1 W1 := by rw [hW1]; exact ck_grown w1 _
  have HW1 : Hid (IsChart (fun b => w.heap.size < b) W1 c (.agg #[.string S, .slice a n m, .slice a' n' m']) ∧ Below w.heap.size w W1 ∧ W1.heap[w.heap.size]? = some (.cells #[.string ⟨#[]⟩, .slice none 0 0, .slice none 0 0] 26 (0, 0)) ∧ W1.heap[w1.heap.size]? = some (.cells #[.string S, .slice a n m, .slice a' n' m'] 26 (0, 0))) :=
    ⟨chartUp h1.out.1 hb1, ck_all HB0.out.1 (ck_all h1.out.2 hb1), ck_block (ck_all h1.out.2 hb1) HB0.out.2, by rw [hW1]; exact ck_new _ _⟩
  have hck := check_any HW1.out.1 HN.out
  have x0 := cell_row HW1.out.2.2.2 0 (u := .string S) rfl
  have x1 := cell_row HW1.out.2.2.2 1 (u := .slice a n m) rfl
  have x2 := cell_row HW1.out.2.2.2 2 (u := .slice a' n' m') rfl
  obtain ⟨o, ho⟩ : ∃ o, Hid (checkC c = o) := ⟨_, rfl⟩
  rw [ho.out] at hck
  rw [hW1] at hck x0 x1 x2
  have HWE : Hid (W1 = _) := hW1
  clear hp hb1 hW1 h1
  unfold ChkOut at hck
  have HKW : Hid (∀ w', Below W1.heap.size W1 w' → IsChart (fun b => w.heap.size < b) w' c (.agg #[.string S, .slice a n m, .slice a' n' m']) ∧ Below w.heap.size w w' ∧ w'.heap[w.heap.size]? = some (.cells #[.string ⟨#[]⟩, .slice none 0 0, .slice none 0 0] 26 (0, 0)) ∧ w'.heap[w1.heap.size]? = some (.cells #[.string S, .slice a n m, .slice a' n' m'] 26 (0, 0))) := fun w' hb => ⟨chartUp HW1.out.1 hb, ck_all HW1.out.2.1 hb, ck_block hb HW1.out.2.2.1, ck_block hb HW1.out.2.2.2⟩
  go_wp2_with fail
  cases o with
  | none =>
    have hc2 : Calls Tryz.prog 17 #[.agg #[.string S, .slice a n m, .slice a' n' m']] (w1.alloc (.cells #[.string S, .slice a n m, .slice a' n' m'] 26)) fun e w' => e = .returned .nilIface ∧ Hid (Below W1.heap.size W1 w') := by
      rw [← HWE.out] at hck ⊢
      exact hck.mono fun e w' ⟨hb, ho⟩ => by
        rcases ho with ⟨_, he⟩ | ⟨_, he, _⟩ | ⟨_, _, _, he, _⟩
        · exact ⟨he, hb⟩
        · simp at he
        · simp at he
    clear hck x0 x1 x2
    refine hc2.mono ?_
    rintro e w2 ⟨rfl, hb2⟩
    obtain ⟨k1, k2, k3, k4⟩ := HKW.out w2 hb2.out
    have x0 := cell_row k4 0 (u := .string S) rfl
    have x1 := cell_row k4 1 (u := .slice a n m) rfl
    have x2 := cell_row k4 2 (u := .slice a' n' m') rfl
    have f0 := cell_row k3 0 (u := .string ⟨#[]⟩) rfl
    have f1 := cell_row k3 1 (u := .slice none 0 0) rfl
    have f2 := cell_row k3 2 (u := .slice none 0 0) rfl
    have z0 := ck_frozen k3 0
    have z1 := ck_frozen k3 1
    have z2 := ck_frozen k3 2
    have HB2 : Hid (Below w.heap.size w w2 ∧ w2.heap[w.heap.size]? = some (.cells #[.string ⟨#[]⟩, .slice none 0 0, .slice none 0 0] 26 (0, 0)) ∧ IsChart (fun b => w.heap.size < b) w2 c (.agg #[.string S, .slice a n m, .slice a' n' m'])) := ⟨k2, k3, k1⟩
    clear k1 k2 k3 k4 hc2
    go_wp2_with fail
    refine bodyPost_ret (resultsQ _ _ w.heap.size #[.string S, .slice a n m, .slice a' n' m'] rfl rfl (put3 HB2.out.2.1 _ _ _)) rfl ?_
    refine .inl ⟨ho.out, S, a, n, m, a', n', m', rfl, ?_, below_put3 HB2.out.1 (Nat.le_refl _) _ _ _⟩
    obtain ⟨a2, n2, m2, a3, n3, m3, e, q1, q2⟩ := HB2.out.2.2
    have kp : Keep (fun b => w.heap.size < b) (fun b => w.heap.size < b) w2 (((w2.setCell ⟨w.heap.size, 0, none⟩ (.string S)).setCell ⟨w.heap.size, 1, none⟩ (.slice a n m)).setCell ⟨w.heap.size, 2, none⟩ (.slice a' n' m')) := fun b hb' _ => ⟨hb', by
      have hne : b ≠ w.heap.size := by have : w.heap.size < b := hb'; omega
      rw [Below.heap_setCell _ _ _ _ hne, Below.heap_setCell _ _ _ _ hne, Below.heap_setCell _ _ _ _ hne]⟩
    exact ⟨a2, n2, m2, a3, n3, m3, e, q1.carry kp, q2.carry kp (IsStates.carry kp 6)⟩
  | some x =>
    obtain ⟨cc, pl⟩ := x
    have HNE : Hid (checkC c ≠ none) := by rw [Hid, ho.out]; simp
    cases pl with
    | none =>
      have hc2 : Calls Tryz.prog 17 #[.agg #[.string S, .slice a n m, .slice a' n' m']] (w1.alloc (.cells #[.string S, .slice a n m, .slice a' n' m'] 26)) fun e w' => e = .returned (.iface 33 (.int .i64 ((cc : Nat) : Int))) ∧ Hid (Below W1.heap.size W1 w') := by
        rw [← HWE.out] at hck ⊢
        exact hck.mono fun e w' ⟨hb, ho⟩ => by
          rcases ho with ⟨he, _⟩ | ⟨c', he, h1⟩ | ⟨_, _, _, he, _⟩
          · simp at he
          · simp at he
            subst he
            exact ⟨h1, hb⟩
          · simp at he
      clear hck x0 x1 x2
      refine hc2.mono ?_
      rintro e w2 ⟨rfl, hb2⟩
      obtain ⟨k1, k2, k3, k4⟩ := HKW.out w2 hb2.out
      have f0 := cell_row k3 0 (u := .string ⟨#[]⟩) rfl
      have f1 := cell_row k3 1 (u := .slice none 0 0) rfl
      have f2 := cell_row k3 2 (u := .slice none 0 0) rfl
      have z0 := ck_frozen k3 0
      have z1 := ck_frozen k3 1
      have z2 := ck_frozen k3 2
      have HB2 : Hid (Below w.heap.size w w2 ∧ w2.heap[w.heap.size]? = some (.cells #[.string ⟨#[]⟩, .slice none 0 0, .slice none 0 0] 26 (0, 0))) := ⟨k2, k3⟩
      clear k1 k2 k3 k4 hc2
      go_wp2_with fail
      refine bodyPost_ret (resultsQ _ _ w.heap.size #[.string ⟨#[]⟩, .slice none 0 0, .slice none 0 0] rfl rfl (put3 HB2.out.2 _ _ _)) rfl ?_
      exact .inr ⟨HNE.out, rfl, below_put3 HB2.out.1 (Nat.le_refl _) _ _ _⟩
    | some p =>
      have hc2 : Calls Tryz.prog 17 #[.agg #[.string S, .slice a n m, .slice a' n' m']] (w1.alloc (.cells #[.string S, .slice a n m, .slice a' n' m'] 26)) fun e w' => ∃ g, e = .returned (.iface 87 (.pointer (some ⟨g, 0, none⟩))) ∧ Hid (Below W1.heap.size W1 w') := by
        rw [← HWE.out] at hck ⊢
        exact hck.mono fun e w' ⟨hb, ho⟩ => by
          rcases ho with ⟨he, _⟩ | ⟨c', he, h1⟩ | ⟨c', p', g, he, h1, _⟩
          · simp at he
          · simp at he
          · exact ⟨g, h1, hb⟩
      clear hck x0 x1 x2
      refine hc2.mono ?_
      rintro e w2 ⟨ge, rfl, hb2⟩
      obtain ⟨k1, k2, k3, k4⟩ := HKW.out w2 hb2.out
      have f0 := cell_row k3 0 (u := .string ⟨#[]⟩) rfl
      have f1 := cell_row k3 1 (u := .slice none 0 0) rfl
      have f2 := cell_row k3 2 (u := .slice none 0 0) rfl
      have z0 := ck_frozen k3 0
      have z1 := ck_frozen k3 1
      have z2 := ck_frozen k3 2
      have HB2 : Hid (Below w.heap.size w w2 ∧ w2.heap[w.heap.size]? = some (.cells #[.string ⟨#[]⟩, .slice none 0 0, .slice none 0 0] 26 (0, 0))) := ⟨k2, k3⟩
      clear k1 k2 k3 k4 hc2
      go_wp2_with fail
      refine bodyPost_ret (resultsQ _ _ w.heap.size #[.string ⟨#[]⟩, .slice none 0 0, .slice none 0 0] rfl rfl (put3 HB2.out.2 _ _ _)) rfl ?_
      exact .inr ⟨HNE.out, rfl, below_put3 HB2.out.1 (Nat.le_refl _) _ _ _⟩
set_option maxRecDepth 100000 in
set_option maxHeartbeats 2000000 in
/-- of a text that draws none, or is too long -/
theorem chart_none {s : ByteArray} {w : World} (hv : KEnv w) (hno : s.size ≤ 1500 → ∀ l c, ¬ (Lx.Ok (bs s) l ∧ chart (fin s l) = .ok c)) :
    Calls Tryz.prog 20 #[.string s] w fun e w' => e = .returned (.tuple #[.agg #[.string ⟨#[]⟩, .slice none 0 0, .slice none 0 0], .bool false]) ∧ Hid (Below w.heap.size w w') := by
  have hfz : (w.alloc (.cells #[.string ⟨#[]⟩, .slice none 0 0, .slice none 0 0] 26)).heap[w.heap.size]? = some (.cells #[.string ⟨#[]⟩, .slice none 0 0, .slice none 0 0] 26 (0, 0)) := ck_new _ _
  have f0 := cell_row hfz 0 (u := .string ⟨#[]⟩) rfl
  have f1 := cell_row hfz 1 (u := .slice none 0 0) rfl
  have f2 := cell_row hfz 2 (u := .slice none 0 0) rfl
  have z0 := ck_frozen hfz 0
  have z1 := ck_frozen hfz 1
  have z2 := ck_frozen hfz 2
  have HFZ : Hid _ := hfz
  by_cases hs : s.size ≤ 1500
  · have hs1 : ¬ (1500 : Int) < (s.size : Int) := by omega
    have hb0 : Below w.heap.size w (w.alloc (.cells #[.string ⟨#[]⟩, .slice none 0 0, .slice none 0 0] 26)) := ck_grown w _
    have hp : Calls Tryz.prog 13 #[.string s] (w.alloc (.cells #[.string ⟨#[]⟩, .slice none 0 0, .slice none 0 0] 26)) fun e w' => ∃ g, e = .returned (.tuple #[.agg #[.string ⟨#[]⟩, .slice none 0 0, .slice none 0 0], .iface 87 (.pointer (some ⟨g, 0, none⟩))]) ∧ Hid (Below (w.alloc (.cells #[.string ⟨#[]⟩, .slice none 0 0, .slice none 0 0] 26)).heap.size (w.alloc (.cells #[.string ⟨#[]⟩, .slice none 0 0, .slice none 0 0] 26)) w') := by
      have hv0 := hv.up hb0
      by_cases hl : ∃ l, Lx.Ok (bs s) l
      · obtain ⟨l, hok⟩ := hl
        cases hch : chart (fin s l) with
        | ok c => exact absurd ⟨hok, hch⟩ (hno hs l c)
        | error f => exact (parse_err s l f _ (by omega) hv0.big hv0.tabs hv0.marks hok hch).mono fun e w' ⟨g, he, _, hb⟩ => ⟨g, he, hb⟩
      · exact (parse_bad s _ (by omega) hv0.marks (fun l h => hl ⟨l, h⟩)).mono fun e w' ⟨_, _, g, he, _, _, hb⟩ => ⟨g, he, hb⟩
    clear hv hno hb0 hfz f0 f1 f2 z0 z1 z2
    go_enter Tryz.func20, Tryz.ntmps20
    go_wp2_with fail
    refine hp.mono ?_
    rintro e w1 ⟨g, rfl, hb1⟩
    have hfy : (w1.alloc (.cells #[.string ⟨#[]⟩, .slice none 0 0, .slice none 0 0] 26)).heap[w.heap.size]? = some (.cells #[.string ⟨#[]⟩, .slice none 0 0, .slice none 0 0] 26 (0, 0)) := ck_old (ck_block hb1.out HFZ.out)
    have f0 := cell_row hfy 0 (u := .string ⟨#[]⟩) rfl
    have f1 := cell_row hfy 1 (u := .slice none 0 0) rfl
    have f2 := cell_row hfy 2 (u := .slice none 0 0) rfl
    have z0 := ck_frozen hfy 0
    have z1 := ck_frozen hfy 1
    have z2 := ck_frozen hfy 2
    have HFY : Hid _ := hfy
    clear hfy hp
    go_wp2_with fail
    refine bodyPost_ret (resultsQ _ _ w.heap.size #[.string ⟨#[]⟩, .slice none 0 0, .slice none 0 0] rfl rfl (put3 HFY.out _ _ _)) rfl ?_
    exact ⟨rfl, below_put3 (ck_all (ck_all (ck_grown _ _) hb1.out) (ck_grown _ _)) (Nat.le_refl _) _ _ _⟩
  · have hs1 : (1500 : Int) < (s.size : Int) := by omega
    clear hv hno hs hfz
    go_enter Tryz.func20, Tryz.ntmps20
    go_wp2_with fail
    refine bodyPost_ret (resultsQ _ _ w.heap.size #[.string ⟨#[]⟩, .slice none 0 0, .slice none 0 0] rfl rfl HFZ.out) rfl ?_
    exact ⟨rfl, ck_grown _ _⟩
end Kx
end Go.Proofs.YtobamalnbjbmiaaGreatDoor
/- keep's judged: the two facts that the laws of chapter 4 ask first. -/
namespace Go.Proofs.YtobamalnbjbmiaaGreatDoor
open Go.RowKit Px
namespace Kx

/-- a chart in memory: its regions are so many -/
theorem chartLen {A : Nat → Prop} {w : World} {c : Chart} {S a a' : Value} (h : IsChart A w c (.agg #[S, a, a'])) : ∃ adr m, a' = .slice adr c.regions.length m := by
  obtain ⟨a0, n0, m0, a1, n1, m1, e, _, hR⟩ := h
  obtain ⟨adr, gr, capr, er, _⟩ := hR.len
  have : a' = .slice a1 n1 m1 := by
    injection e with e
    simp at e
    exact e.2.2
  exact ⟨adr, capr, by rw [this, er]⟩
theorem parseAt {s : ByteArray} {l : List Lx.Tok} {c : Chart} {w : World} (hs : s.size ≤ 1500) (hv : KEnv w) (hok : Lx.Ok (bs s) l) (hch : chart (fin s l) = .ok c) :
    Calls Tryz.prog 13 #[.string s] w fun e w' => ∃ S a n m a' n' m', e = .returned (.tuple #[.agg #[.string S, .slice a n m, .slice a' n' m'], .nilIface]) ∧ Hid (IsChart (fun _ => True) w' c (.agg #[.string S, .slice a n m, .slice a' n' m']) ∧ Below w.heap.size w w') :=
  (parse_ok s l c w (by omega) hv.big hv.tabs hv.marks hok hch).mono fun e w' ⟨v, he, hC, hb⟩ => by
    obtain ⟨a, n, m, a', n', m', rfl, h1, h2⟩ := hC
    have kp : Keep (Ge w.heap.size) (fun _ => True) w' w' := fun b _ _ => ⟨trivial, rfl⟩
    exact ⟨_, a, n, m, a', n', m', he, ⟨a, n, m, a', n', m', rfl, h1.carry kp, h2.carry kp (IsStates.carry kp 6)⟩, hb⟩
set_option maxRecDepth 100000 in
set_option maxHeartbeats 4000000 in
theorem judged_any {w : World} (hv : KEnv w) : Calls Tryz.prog 12 #[] w fun e w' => e = .returned (.bool true) ∧ Hid (Below w.heap.size w w') := by
  obtain ⟨sm, hsm⟩ : ∃ sm : ByteArray, sm = ⟨smallL.toArray⟩ := ⟨_, rfl⟩
  obtain ⟨cy, hcy⟩ : ∃ cy : ByteArray, cy = ⟨cycL.toArray⟩ := ⟨_, rfl⟩
  obtain ⟨hok, hch⟩ := small_ok (s := sm) (by rw [hsm])
  obtain ⟨hok2, hch2⟩ := cyc_ok (s := cy) (by rw [hcy])
  have hsz : sm.size ≤ 1500 := by
    have : sm.size = smallL.length := by rw [hsm]; rfl
    rw [this]; decide
  have hsz2 : cy.size ≤ 1500 := by
    have : cy.size = cycL.length := by rw [hcy]; rfl
    rw [this]; decide
  have hN2 : Hid (NmChart cycC) := nmChart (wf_ok hok2) hch2
  have h1 : Calls Tryz.prog 20 #[.string sm] w fun e w' => ∃ S a n m a' m', e = .returned (.tuple #[.agg #[.string S, .slice a n m, .slice a' 1 m'], .bool true]) ∧ Hid (Below w.heap.size w w') :=
    (chart_drawn hsz hv hok hch).mono fun e w' h => by
      rcases h with ⟨_, S, a, n, m, a', n', m', he, hC⟩ | ⟨hne, _⟩
      · obtain ⟨x, y, hx⟩ := chartLen hC.out.1
        injection hx with q1 q2 q3
        subst q2
        exact ⟨S, a, n, m, a', m', he, hC.out.2⟩
      · exact absurd small_check hne
  have HP : Hid (∀ W, Below w.heap.size w W → Calls Tryz.prog 13 #[.string cy] W fun e w' => ∃ S a n m a' n' m', e = .returned (.tuple #[.agg #[.string S, .slice a n m, .slice a' n' m'], .nilIface]) ∧ Hid (IsChart (fun _ => True) w' cycC (.agg #[.string S, .slice a n m, .slice a' n' m']) ∧ Below W.heap.size W w')) := fun W hb => parseAt hsz2 (hv.up hb) hok2 hch2
  have HV : Hid (KEnv w) := hv
  rw [hsm] at h1
  rw [hcy] at HP
  clear hv hok hch hok2 hch2 hsz hsz2 hsm hcy
  go_enter Tryz.func12, Tryz.ntmps12
  go_wp2_with fail
  refine h1.mono ?_
  rintro e w1 ⟨S, a, n, m, a', m', rfl, hb1⟩
  have hB1 : Hid (Below w.heap.size w (w1.alloc (.cells #[.string S, .slice a n m, .slice a' 1 m'] 26))) := ck_all hb1.out (ck_grown _ _)
  have h2 := HP.out _ hB1.out
  have HN1 : Hid ((w1.alloc (.cells #[.string S, .slice a n m, .slice a' 1 m'] 26)).heap[w1.heap.size]? = some (.cells #[.string S, .slice a n m, .slice a' 1 m'] 26 (0, 0))) := ck_new _ _
  clear h1
  go_wp2_with fail
  refine h2.mono ?_
  rintro e w2 ⟨S2, a2, n2, m2, a3, n3, m3, rfl, hc2⟩
  obtain ⟨W2, hW2⟩ : ∃ W2, W2 = w2.alloc (.cells #[.string S2, .slice a2 n2 m2, .slice a3 n3 m3] 26) := ⟨_, rfl⟩
  have hg2 : Below w2.heap.size w2 W2 := by rw [hW2]; exact ck_grown _ _
  have HB2 : Hid (Below w.heap.size w W2) := ck_all (ck_all hB1.out hc2.out.2) hg2
  have k1 : W2.heap[w1.heap.size]? = some (.cells #[.string S, .slice a n m, .slice a' 1 m'] 26 (0, 0)) := ck_block (ck_all hc2.out.2 hg2) HN1.out
  have k2 : W2.heap[w2.heap.size]? = some (.cells #[.string S2, .slice a2 n2 m2, .slice a3 n3 m3] 26 (0, 0)) := by rw [hW2]; exact ck_new _ _
  have u2 := cell_row k1 2 (u := .slice a' 1 m') rfl
  have x0 := cell_row k2 0 (u := .string S2) rfl
  have x1 := cell_row k2 1 (u := .slice a2 n2 m2) rfl
  have x2 := cell_row k2 2 (u := .slice a3 n3 m3) rfl
  have hck : Calls Tryz.prog 17 #[.agg #[.string S2, .slice a2 n2 m2, .slice a3 n3 m3]] W2 fun e w' => ∃ g, e = .returned (.iface 87 (.pointer (some ⟨g, 0, none⟩))) ∧ Hid (w'.heap[g]? = some (.cells #[.int .i64 ((11 : Nat) : Int), .int .i64 ((0 : Nat) : Int)] 94 (0, 0)) ∧ Below w.heap.size w w') :=
    (check_any (chartUp hc2.out.1 hg2) hN2.out).mono fun e w' ⟨hb, ho⟩ => by
      rw [cyc_check] at ho
      rcases ho with ⟨he, _⟩ | ⟨c', he, _⟩ | ⟨c', p', g, he, h1, h2, _⟩
      · simp at he
      · simp at he
      · simp at he
        obtain ⟨rfl, rfl⟩ := he
        exact ⟨g, h1, h2, ck_all HB2.out hb⟩
  rw [hW2] at hck u2 x0 x1 x2
  clear h2 k1 k2 hg2 hW2
  go_wp2_with fail
  clear u2 x0 x1 x2
  refine hck.mono ?_
  rintro e w3 ⟨g, rfl, h3⟩
  have ht := tell_at g 11 0 w3 (HV.out.up h3.out.2).err h3.out.1
  clear hck
  go_wp2_with fail
  refine ht.mono ?_
  rintro e w4 ⟨rfl, hb4⟩
  have HB4 : Hid _ := hb4
  clear ht hb4
  go_wp2_with fail
  go_ret
  exact ⟨rfl, ck_all h3.out.2 HB4.out⟩
end Kx
end Go.Proofs.YtobamalnbjbmiaaGreatDoor
/- What Place tells of what Check hands back: a function of what is wrong with the chart. -/
namespace Go.Proofs.YtobamalnbjbmiaaGreatDoor
open Go.RowKit Px
namespace Kx
def plc : Option (Nat × Option Nat) → Int × Int
  | none => (0, -1)
  | some (c, none) => ((c : Nat), -1)
  | some (c, some p) => ((c : Nat), (p : Nat))
/-- Check, and what it hands back -/
theorem check_plc {A : Nat → Prop} {w : World} {c : Chart} {v : Value} (h : IsChart A w c v) (hN : NmChart c) (hv : KEnv w) :
    Calls Tryz.prog 17 #[v] w fun e w' => ∃ u, e = .returned u ∧ Hid (Below w.heap.size w w' ∧ Calls Tryz.prog 16 #[u] w' fun e' w'' => e' = .returned (.tuple #[.int .i64 (plc (checkC c)).1, .int .i64 (plc (checkC c)).2]) ∧ Below w'.heap.size w' w'') :=
  (check_any h hN).mono fun e w' ⟨hb, ho⟩ => by
    have hE := (hv.up hb).err
    rcases ho with ⟨h0, he⟩ | ⟨c', h0, he⟩ | ⟨c', p, g, h0, he, hg, _⟩
    · rw [h0]
      exact ⟨_, he, hb, (place_nil w').mono fun e' w'' ⟨h1, h2⟩ => ⟨h1, by rw [h2]; exact Below.refl _ _⟩⟩
    · rw [h0]
      exact ⟨_, he, hb, place_err c' w' hE⟩
    · rw [h0]
      exact ⟨_, he, hb, place_at g c' p w' hE hg⟩
end Kx
end Go.Proofs.YtobamalnbjbmiaaGreatDoor
