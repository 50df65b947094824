/- ParseBack: the small chart that the law draws first: what it draws, how that is printed. -/
import Derived.Test.YtpbfmfhjgghldaaDoorJBk1
import Derived.Test.YtpbfmfhjgghldaaDoorJRparse2
import Derived.BigQuiet
import Derived.Test.YtpbfmfhjgghldaaDoorJLaid
namespace Go.Proofs.YtpbfmfhjgghldaaDoor
open Go.RowKit Go.Sort Px

/-- a text's tokens, one by one -/
def lexF : Nat → List UInt8 → Nat → Option (List Lx.Tok)
  | 0, _, _ => none
  | f + 1, u, p =>
    if (u.drop (Lx.sk false u)).isEmpty then some []
    else if (Lx.rd (u.drop (Lx.sk false u))).1 = 0 ∨ ((Lx.rd (u.drop (Lx.sk false u))).1 = 2 ∧ 18 < (Lx.rd (u.drop (Lx.sk false u))).2) then none
    else match lexF f ((u.drop (Lx.sk false u)).drop (Lx.rd (u.drop (Lx.sk false u))).2) (p + Lx.sk false u + (Lx.rd (u.drop (Lx.sk false u))).2) with
      | none => none
      | some l => some (⟨(Lx.rd (u.drop (Lx.sk false u))).1, (u.drop (Lx.sk false u)).take (Lx.rd (u.drop (Lx.sk false u))).2, p + Lx.sk false u⟩ :: l)
theorem lexF_ok : ∀ (f : Nat) (u : List UInt8) (p : Nat) (l : List Lx.Tok), lexF f u p = some l → ∃ u' p', Lx.Reads u p l u' p' ∧ u'.drop (Lx.sk false u') = [] := by
  intro f
  induction f with
  | zero => intro u p l h; exact absurd h (by simp [lexF])
  | succ f ih =>
    intro u p l h
    rw [lexF] at h
    split at h
    · rename_i he
      injection h with h
      subst h
      exact ⟨u, p, Lx.Reads_nil _ _, by simpa using he⟩
    · rename_i he
      split at h
      · exact absurd h (by simp)
      · rename_i hk
        split at h
        · exact absurd h (by simp)
        · rename_i l' hl
          injection h with h
          subst h
          obtain ⟨u', p', h1, h2⟩ := ih _ _ _ hl
          exact ⟨u', p', ⟨fun e => he (by rw [e]; rfl), rfl, fun e => hk (.inl e), fun e => hk (.inr e), h1⟩, h2⟩
def smallL : List UInt8 := [99, 104, 97, 114, 116, 32, 99, 32, 123, 32, 105, 110, 112, 117, 116, 32, 97, 59, 32, 111, 117, 116, 112, 117, 116, 32, 98, 32, 58, 61, 32, 50, 59, 32, 114, 101, 103, 105, 111, 110, 32, 123, 32, 105, 110, 105, 116, 105, 97, 108, 32, 115, 116, 97, 116, 101, 32, 115, 32, 123, 32, 103, 111, 32, 105, 102, 32, 40, 97, 41, 32, 100, 111, 32, 98, 32, 58, 61, 32, 98, 32, 43, 32, 40, 49, 32, 42, 32, 97, 41, 32, 45, 45, 62, 32, 116, 59, 32, 125, 32, 115, 116, 97, 116, 101, 32, 116, 32, 123, 32, 103, 111, 32, 45, 45, 62, 32, 115, 59, 32, 125, 32, 125, 32, 125]
def smallK : List Lx.Tok := [⟨1, [99, 104, 97, 114, 116], 0⟩, ⟨1, [99], 6⟩, ⟨3, [123], 8⟩, ⟨1, [105, 110, 112, 117, 116], 10⟩, ⟨1, [97], 16⟩, ⟨3, [59], 17⟩, ⟨1, [111, 117, 116, 112, 117, 116], 19⟩, ⟨1, [98], 26⟩, ⟨3, [58, 61], 28⟩, ⟨2, [50], 31⟩, ⟨3, [59], 32⟩, ⟨1, [114, 101, 103, 105, 111, 110], 34⟩, ⟨3, [123], 41⟩, ⟨1, [105, 110, 105, 116, 105, 97, 108], 43⟩, ⟨1, [115, 116, 97, 116, 101], 51⟩, ⟨1, [115], 57⟩, ⟨3, [123], 59⟩, ⟨1, [103, 111], 61⟩, ⟨1, [105, 102], 64⟩, ⟨3, [40], 67⟩, ⟨1, [97], 68⟩, ⟨3, [41], 69⟩, ⟨1, [100, 111], 71⟩, ⟨1, [98], 74⟩, ⟨3, [58, 61], 76⟩, ⟨1, [98], 79⟩, ⟨3, [43], 81⟩, ⟨3, [40], 83⟩, ⟨2, [49], 84⟩, ⟨3, [42], 86⟩, ⟨1, [97], 88⟩, ⟨3, [41], 89⟩, ⟨3, [45, 45, 62], 91⟩, ⟨1, [116], 95⟩, ⟨3, [59], 96⟩, ⟨3, [125], 98⟩, ⟨1, [115, 116, 97, 116, 101], 100⟩, ⟨1, [116], 106⟩, ⟨3, [123], 108⟩, ⟨1, [103, 111], 110⟩, ⟨3, [45, 45, 62], 113⟩, ⟨1, [115], 117⟩, ⟨3, [59], 118⟩, ⟨3, [125], 120⟩, ⟨3, [125], 122⟩, ⟨3, [125], 124⟩]
def smallT : List UInt8 := [99, 104, 97, 114, 116, 32, 99, 32, 123, 10, 32, 32, 105, 110, 112, 117, 116, 32, 97, 59, 10, 32, 32, 111, 117, 116, 112, 117, 116, 32, 98, 32, 58, 61, 32, 50, 59, 10, 32, 32, 114, 101, 103, 105, 111, 110, 32, 123, 10, 32, 32, 32, 32, 105, 110, 105, 116, 105, 97, 108, 32, 115, 116, 97, 116, 101, 32, 115, 32, 123, 10, 32, 32, 32, 32, 32, 32, 103, 111, 32, 105, 102, 32, 97, 32, 100, 111, 32, 98, 32, 58, 61, 32, 98, 32, 43, 32, 49, 32, 42, 32, 97, 32, 45, 45, 62, 32, 116, 59, 10, 32, 32, 32, 32, 125, 10, 32, 32, 32, 32, 115, 116, 97, 116, 101, 32, 116, 32, 123, 10, 32, 32, 32, 32, 32, 32, 103, 111, 32, 45, 45, 62, 32, 115, 59, 10, 32, 32, 32, 32, 125, 10, 32, 32, 125, 10, 125, 10]
def smallC : Chart := ⟨[99], [⟨1, [97], 0⟩, ⟨2, [98], 2⟩], [[(⟨[115], true, false, [], [], [], .nil, [⟨0, false, eName 2 [97], 1, [⟨[98], eTwo 6 (eName 2 [98]) (eTwo 8 (eNum 1) (eName 2 [97]))⟩], [116], false⟩], []⟩ : StF (St 5)), (⟨[116], false, false, [], [], [], .nil, [⟨0, false, .nil, 1, [], [115], false⟩], []⟩ : StF (St 5))]]⟩
set_option maxRecDepth 100000 in
theorem small_lex : lexF 60 smallL 0 = some smallK := by kernel_rfl
set_option maxRecDepth 100000 in
theorem small_chart (n : Nat) : chart (smallK ++ [⟨4, [], n⟩]) = .ok smallC := by kernel_rfl
set_option maxRecDepth 100000 in
theorem small_print : printT smallC = smallT := by kernel_rfl
theorem small_ok {s : ByteArray} (h : bs s = smallL) : Lx.Ok (bs s) smallK ∧ chart (fin s smallK) = .ok smallC := by
  refine ⟨⟨by decide, ?_⟩, small_chart _⟩
  rw [h]
  exact lexF_ok _ _ _ _ small_lex

/-- what of the listed variables the law asks -/
structure BEnv (w : World) : Prop where
  p : PEnv w
  marks : Marks w
theorem BEnv.up {w w' : World} (h : BEnv w) (hb : Below w.heap.size w w') : BEnv w' := ⟨h.p.up hb, h.marks.below (Nat.le_refl _) hb⟩
theorem chart_up {A : Nat → Prop} {c : Chart} {W W' : World} {v : Value} (h : IsChart A W c v) (hb : Below W.heap.size W W') : IsChart A W' c v := by
  have kp : Keep A A W W' := keep_below hb
  obtain ⟨a, n, m, a2, n2, m2, rfl, hv, hr⟩ := h
  exact ⟨a, n, m, a2, n2, m2, rfl, hv.carry kp, hr.carry kp (IsStates.carry kp 6)⟩
theorem grown1 (w : World) (o : Obj) : Below w.heap.size w (w.alloc o) := (Below.refl _ _).alloc (Nat.le_refl _) _

/-- a text that draws a chart: what Parse answers -/
theorem parse_at {s : ByteArray} {l : List Lx.Tok} {c : Chart} (hs : s.size ≤ 1000000) (hok : Lx.Ok (bs s) l) (hch : chart (fin s l) = .ok c) {w : World} (hE : BEnv w) :
    Calls Tryd.prog 5 #[.string s] w fun e w' => ∃ a m a' n' m', e = .returned (.tuple #[.agg #[sv c.name, .slice a c.vars.length m, .slice a' n' m'], .nilIface]) ∧ n' = c.regions.length ∧ Hid (IsChart (fun _ => True) w' c (.agg #[sv c.name, .slice a c.vars.length m, .slice a' n' m']) ∧ Below w.heap.size w w') := by
  refine (parse_ok s l c w hs hE.p.big hE.p.tabs hE.marks hok hch).mono fun e w' ⟨v, he, hc, hb⟩ => ?_
  have hc' : IsChart (fun _ => True) w' c v := by
    have kp : Keep (Ge w.heap.size) (fun _ => True) w' w' := fun b _ _ => ⟨trivial, rfl⟩
    obtain ⟨a, n, m, a2, n2, m2, rfl, hv, hr⟩ := hc
    exact ⟨a, n, m, a2, n2, m2, rfl, hv.carry kp, hr.carry kp (IsStates.carry kp 6)⟩
  obtain ⟨a, n, m, a', n', m', rfl, hv, hr⟩ := id hc'
  obtain ⟨ao, cap, g, e1, _, _⟩ := hv.read
  obtain ⟨rfl, rfl, rfl⟩ : a = ao ∧ n = c.vars.length ∧ m = cap := by simpa using e1
  have hn' : n' = c.regions.length := by
    obtain ⟨xs, hr1, hr2⟩ := hr
    obtain ⟨ao2, cap2, g2, e2, _, _⟩ := Row.recs' (k := 1) (fun a c ⟨u, hc, _⟩ => by rw [hc]; rfl) hr1 hr2
    simp at e2
    exact e2.2.1
  exact ⟨a, m, a', n', m', he, hn', hc', hb⟩

set_option maxRecDepth 100000 in
set_option maxHeartbeats 4000000 in
theorem drawn_any (w : World) (hE : BEnv w) : Calls Tryd.prog 4 #[] w fun e w' => e = .returned (.bool true) ∧ Below w.heap.size w w' := by
  obtain ⟨sm, hsm⟩ : ∃ sm : ByteArray, sm = ⟨smallL.toArray⟩ := ⟨_, rfl⟩
  have hb : bs sm = smallL := by rw [hsm]
  obtain ⟨hok, hch⟩ := small_ok hb
  have hsz : sm.size ≤ 1000000 := by
    have : sm.size = smallL.length := by rw [hsm]; rfl
    rw [this]; decide
  obtain ⟨hG, hl, _⟩ := chart_w (wf_ok hok) hch
  have HP : Hid (∀ w', BEnv w' → Calls Tryd.prog 5 #[.string sm] w' fun e w2 => ∃ a m a' m', e = .returned (.tuple #[.agg #[.string ⟨#[99]⟩, .slice a 2 m, .slice a' 1 m'], .nilIface]) ∧ Hid (IsChart (fun _ => True) w2 smallC (.agg #[.string ⟨#[99]⟩, .slice a 2 m, .slice a' 1 m']) ∧ Below w'.heap.size w' w2)) := fun w' hE' =>
    (parse_at hsz hok hch hE').mono fun e w2 ⟨a, m, a', n', m', he, hn', X⟩ => by
      subst hn'
      exact ⟨a, m, a', m', he, X⟩
  have HW : Hid (∀ w' v, BEnv w' → IsChart (fun _ => True) w' smallC v → Calls Tryd.prog 6 #[v] w' fun e w2 => e = .returned (.string ⟨smallT.toArray⟩) ∧ Hid (Below w'.heap.size w' w2)) := fun w' v hE' hc =>
    (print_any hG hc hE'.p (by omega)).mono fun e w2 ⟨he, hb2⟩ => ⟨by rw [he, small_print], hb2⟩
  have HE : Hid (BEnv w) := hE
  have hparse := HP.out w hE
  rw [hsm] at hparse
  clear hb hok hch hsz hG hl hE hsm
  go_enter Tryd.func4, Tryd.ntmps4
  go_wp2_with (first
    | (go_at_call 5; refine hparse.mono ?_; rintro e w1 ⟨a, m, a', m', rfl, X⟩
       have B1 : Hid (Below w.heap.size w (w1.alloc (.cells #[.string ⟨#[99]⟩, .slice a 2 m, .slice a' 1 m'] 26))) := below_two X.out.2 (grown1 _ _)
       have hpr := HW.out _ _ (HE.out.up B1.out) (chart_up X.out.1 (grown1 w1 (.cells #[.string ⟨#[99]⟩, .slice a 2 m, .slice a' 1 m'] 26)))
       clear hparse)
    | (go_at_call 6; refine hpr.mono ?_; rintro e w2 ⟨rfl, Y⟩))
  go_ret
  exact ⟨rfl, below_two B1.out Y.out⟩
end Go.Proofs.YtpbfmfhjgghldaaDoor
/- ParseBack: the law's walk. -/
namespace Go.Proofs.YtpbfmfhjgghldaaDoor
open Go.RowKit Go.Sort Px

theorem ixDc (ad : Option Addr) (b n cap k : Nat) (hk : k < n) (ha : 0 < n → ad = some ⟨b, 0, none⟩) (w : World) : (Instr.indexAt 23 (.slice ad n cap) (.int .i64 (k : Int))).run Tryd.prog w = .ok (.pointer (some ⟨b, k * 3, none⟩)) w := by
  obtain rfl := ha (by omega)
  rw [run_indexAt_slice _ _ _ _ _ _ _ (by kernel_rfl), if_pos ⟨by omega, by omega⟩]
  have e : (sizeOf (Tryd.prog.elem 23)).run Tryd.prog w = .ok 3 w := by kernel_rfl
  rw [e]
  simp [Result.andThen, Addr.add]
  omega

theorem cell_rowB {w : World} {g : Nat} {l : Array Value} {T : TypeId} {f : Nat × Nat} (h : w.heap[g]? = some (.cells l T f)) (k : Nat) : w.cell? ⟨g, k, none⟩ = l[k]? := by
  simp only [World.cell?, h]
  simp
theorem Lx.Ok_or_Bad' (s : List UInt8) : (∃ l, Lx.Ok s l) ∨ ∀ l, ¬ Lx.Ok s l := by
  by_cases h : ∃ l, Lx.Ok s l
  · exact .inl h
  · exact .inr fun l hl => h ⟨l, hl⟩

set_option maxRecDepth 100000 in
theorem back_big (s : ByteArray) (w : World) (hs : 1500 < s.size) : Calls Tryd.prog 3 #[.string s] w fun e w' => e = .returned (.bool true) ∧ Below w.heap.size w w' := by
  go_enter Tryd.func3, Tryd.ntmps3
  go_wp2
  go_ret
  exact ⟨rfl, Below.refl _ _⟩

set_option maxRecDepth 100000 in
set_option maxHeartbeats 2000000 in
theorem back_none (s : ByteArray) (w : World) (hs : s.size ≤ 1500) (hE : BEnv w)
    (hp : ∀ w', BEnv w' → Calls Tryd.prog 5 #[.string s] w' fun e w2 => ∃ q : Nat, e = .returned (.tuple #[.agg ZC, .iface 39 (.pointer (some ⟨q, 0, none⟩))]) ∧ Hid (Below w'.heap.size w' w2)) :
    Calls Tryd.prog 3 #[.string s] w fun e w' => e = .returned (.bool true) ∧ Below w.heap.size w w' := by
  have hd : Calls Tryd.prog 4 #[] w fun e w' => e = .returned (.bool true) ∧ Hid (Below w.heap.size w w') := (drawn_any w hE).mono fun _ _ ⟨h1, h2⟩ => ⟨h1, h2⟩
  have HP : Hid (∀ w', Below w.heap.size w w' → Calls Tryd.prog 5 #[.string s] w' fun e w2 => ∃ q : Nat, e = .returned (.tuple #[.agg ZC, .iface 39 (.pointer (some ⟨q, 0, none⟩))]) ∧ Hid (Below w'.heap.size w' w2)) := fun w' hb => hp w' (hE.up hb)
  unfold ZC at HP
  clear hp hE
  go_enter Tryd.func3, Tryd.ntmps3
  go_wp2_with (first
    | (go_at_call 4; refine hd.mono ?_; rintro e w1 ⟨rfl, B1⟩; clear hd)
    | (go_at_call 5; refine (HP.out w1 B1.out).mono ?_; rintro e w2 ⟨q, rfl, B2⟩))
  go_ret
  exact ⟨rfl, below_two B1.out (below_two B2.out (grown1 _ _))⟩

set_option maxRecDepth 100000 in
set_option maxHeartbeats 4000000 in
theorem back_ok (s : ByteArray) (l : List Lx.Tok) (c : Chart) (w : World) (hs : s.size ≤ 1500) (hE : BEnv w) (hok : Lx.Ok (bs s) l) (hch : chart (fin s l) = .ok c) :
    Calls Tryd.prog 3 #[.string s] w fun e w' => e = .returned (.bool true) ∧ Below w.heap.size w w' := by
  obtain ⟨hG, hlen, _⟩ := chart_w (wf_ok hok) hch
  obtain ⟨t, ht⟩ : ∃ t : ByteArray, t = ⟨(printT c).toArray⟩ := ⟨_, rfl⟩
  have hbt : bs t = printT c := by rw [ht]
  have htz : t.size ≤ 1000000 := by
    have : t.size = (printT c).length := by rw [ht]; simp [ByteArray.size]
    rw [this]; exact hlen
  obtain ⟨l', hok', hch'⟩ := chart_twice hok hch hbt
  obtain ⟨nm, hnm⟩ : ∃ nm : ByteArray, .string nm = sv c.name := ⟨_, rfl⟩
  obtain ⟨nv, hnv⟩ : ∃ nv, nv = c.vars.length := ⟨_, rfl⟩
  have hd : Calls Tryd.prog 4 #[] w fun e w' => e = .returned (.bool true) ∧ Hid (Below w.heap.size w w') := (drawn_any w hE).mono fun _ _ ⟨h1, h2⟩ => ⟨h1, h2⟩
  have HP1 : Hid (∀ w', Below w.heap.size w w' → Calls Tryd.prog 5 #[.string s] w' fun e w2 => ∃ a m a' n' m', e = .returned (.tuple #[.agg #[.string nm, .slice a nv m, .slice a' n' m'], .nilIface]) ∧ Hid (IsChart (fun _ => True) w2 c (.agg #[.string nm, .slice a nv m, .slice a' n' m']) ∧ Below w'.heap.size w' w2)) := fun w' hb =>
    (parse_at (by omega) hok hch (hE.up hb)).mono fun e w2 ⟨a, m, a', n', m', he, hn', X⟩ => by
      rw [← hnm, ← hnv] at he X
      exact ⟨a, m, a', n', m', he, X⟩
  have HP2 : Hid (∀ w', Below w.heap.size w w' → Calls Tryd.prog 5 #[.string t] w' fun e w2 => ∃ a m a' n' m', e = .returned (.tuple #[.agg #[.string nm, .slice a nv m, .slice a' n' m'], .nilIface]) ∧ Hid (IsChart (fun _ => True) w2 c (.agg #[.string nm, .slice a nv m, .slice a' n' m']) ∧ Below w'.heap.size w' w2)) := fun w' hb =>
    (parse_at htz hok' hch' (hE.up hb)).mono fun e w2 ⟨a, m, a', n', m', he, hn', X⟩ => by
      rw [← hnm, ← hnv] at he X
      exact ⟨a, m, a', n', m', he, X⟩
  have HW : Hid (∀ w' v, Below w.heap.size w w' → IsChart (fun _ => True) w' c v → Calls Tryd.prog 6 #[v] w' fun e w2 => e = .returned (.string t) ∧ Below w'.heap.size w' w2) := fun w' v hb hc =>
    (print_any hG hc (hE.up hb).p (by omega)).mono fun e w2 ⟨he, hb2⟩ => ⟨by rw [he, ht], hb2⟩
  have HCN : Hid (∀ w' a m a' n' m', IsChart (fun _ => True) w' c (.agg #[.string nm, .slice a nv m, .slice a' n' m']) → Calls Tryd.prog 7 #[.slice a' n' m'] w' fun e w2 => e = .returned (.int .i64 (cR 6 c.regions)) ∧ Below w'.heap.size w' w2) := fun w' a m a' n' m' hc => by
    obtain ⟨_, _, _, _, _, _, e, _, hr⟩ := hc
    simp at e
    obtain ⟨_, _, rfl, rfl, rfl⟩ := e
    exact count_any 6 w' _ _ hr
  have HV : Hid (∀ w' a m a' n' m', IsChart (fun _ => True) w' c (.agg #[.string nm, .slice a nv m, .slice a' n' m']) → ∃ g, (0 < nv → a = some ⟨g, 0, none⟩) ∧ nv ≤ 9223372036854775807 ∧ ∀ i, i < nv → w'.cell? ⟨g, i * 3, none⟩ = some (.int .i64 ((c.vars.getD i ⟨0, [], 0⟩).kind : Nat)) ∧ w'.cell? ⟨g, i * 3 + 1, none⟩ = some (sv (c.vars.getD i ⟨0, [], 0⟩).name) ∧ w'.cell? ⟨g, i * 3 + 2, none⟩ = some (.int .i64 (c.vars.getD i ⟨0, [], 0⟩).first)) := fun w' a m a' n' m' hc => by
    obtain ⟨_, _, _, _, _, _, e, hv, _⟩ := hc
    simp at e
    obtain ⟨_, ⟨rfl, rfl, rfl⟩, _⟩ := e
    obtain ⟨ao, cap, g, e1, hm, hx⟩ := hv.read
    simp at e1
    obtain ⟨rfl, _, _⟩ := e1
    unfold maxLen at hm
    refine ⟨g, fun h0 => ?_, by omega, fun i hi => ?_⟩
    · exact (hx 0 _ (List.getElem?_eq_getElem (by omega))).1
    · obtain ⟨_, _, z1, z2, z3⟩ := hx i _ (List.getElem?_eq_getElem (show i < c.vars.length by omega))
      have e : c.vars.getD i ⟨0, [], 0⟩ = c.vars[i] := by simp [List.getD_eq_getElem?_getD, show i < c.vars.length by omega]
      rw [e]; exact ⟨z1, z2, z3⟩
  obtain ⟨cc, hcc⟩ : ∃ cc, cc = cR 6 c.regions := ⟨_, rfl⟩
  rw [← hcc] at HCN
  clear hE hok hch hG hlen ht hbt htz hok' hch' hnm hnv hcc
  go_enter Tryd.func3, Tryd.ntmps3
  have T1 : Hid True := trivial
  go_upto_region 10 with (first
    | (go_at_call 4; refine hd.mono ?_; rintro e w1 ⟨rfl, B1⟩; clear hd)
    | (go_at_call 5; clear T1; refine (HP1.out w1 B1.out).mono ?_; rintro e w2 ⟨a, m, a', n', m', rfl, X2⟩
       have B3 : Hid (Below w.heap.size w (w2.alloc (.cells #[.string nm, .slice a nv m, .slice a' n' m'] 26))) := below_two B1.out (below_two X2.out.2 (grown1 _ _))
       have C3 : Hid (IsChart (fun _ => True) (w2.alloc (.cells #[.string nm, .slice a nv m, .slice a' n' m'] 26)) c (.agg #[.string nm, .slice a nv m, .slice a' n' m'])) := chart_up X2.out.1 (grown1 _ _)
       have hpr := HW.out _ _ B3.out C3.out)
    | (go_at_call 6; refine hpr.mono ?_; rintro e w4 ⟨rfl, hB4⟩
       have B4 : Hid (Below w.heap.size w w4) := below_two B3.out hB4
       have C4 : Hid (IsChart (fun _ => True) w4 c (.agg #[.string nm, .slice a nv m, .slice a' n' m'])) := chart_up C3.out hB4
       have Q4 : Hid (w4.heap[w2.heap.size]? = some (.cells #[.string nm, .slice a nv m, .slice a' n' m'] 26 (0, 0))) := (hB4.block _ (by simp)).trans (heap_alloc_new _ _)
       clear hpr hB4)
    | (go_at_call 5; refine (HP2.out w4 B4.out).mono ?_; rintro e w5 ⟨b, k, b', l', k', rfl, X5⟩))
  obtain ⟨W, hW⟩ : ∃ W, W = w5.alloc (.cells #[.string nm, .slice b nv k, .slice b' l' k'] 26) := ⟨_, rfl⟩
  have hg6 : Below w5.heap.size w5 W := by rw [hW]; exact grown1 _ _
  have hg46 : Below w4.heap.size w4 W := below_two X5.out.2 hg6
  have B6 : Hid (Below w.heap.size w W) := below_two B4.out hg46
  have C6 : Hid (IsChart (fun _ => True) W c (.agg #[.string nm, .slice a nv m, .slice a' n' m'])) := chart_up C4.out hg46
  have D6 : Hid (IsChart (fun _ => True) W c (.agg #[.string nm, .slice b nv k, .slice b' l' k'])) := chart_up X5.out.1 hg6
  have Q6 : Hid (W.heap[w2.heap.size]? = some (.cells #[.string nm, .slice a nv m, .slice a' n' m'] 26 (0, 0))) := (hg46.block _ (lt_of_block Q4.out)).trans Q4.out
  have R6 : Hid (W.heap[w5.heap.size]? = some (.cells #[.string nm, .slice b nv k, .slice b' l' k'] 26 (0, 0))) := by unfold Hid; rw [hW]; exact heap_alloc_new _ _
  have a1 : W.cell? ⟨w2.heap.size, 1, none⟩ = some (.slice a nv m) := cell_rowB Q6.out 1
  have a2 : W.cell? ⟨w2.heap.size, 2, none⟩ = some (.slice a' n' m') := cell_rowB Q6.out 2
  have b0 : W.cell? ⟨w5.heap.size, 0, none⟩ = some (.string nm) := cell_rowB R6.out 0
  have b1 : W.cell? ⟨w5.heap.size, 1, none⟩ = some (.slice b nv k) := cell_rowB R6.out 1
  have b2 : W.cell? ⟨w5.heap.size, 2, none⟩ = some (.slice b' l' k') := cell_rowB R6.out 2
  rw [← hW]
  clear hW hg6 hg46 X5 Q4 C4 B4 B3 C3 X2 B1
  have qa1 := fun x os => cell_regrown a1 x os
  have qa2 := fun x os => cell_regrown a2 x os
  have qb0 := fun x os => cell_regrown b0 x os
  have qb1 := fun x os => cell_regrown b1 x os
  have qb2 := fun x os => cell_regrown b2 x os
  have hq1 := fun x os => Calls.regrown_of (HW.out (grow (redrawn W x) os) _ (below_two B6.out (below_regrown _ x os)) (chart_up D6.out (below_regrown W x os)))
  have hq2 := fun x os => Calls.regrown_of (HCN.out (grow (redrawn W x) os) _ _ _ _ _ (chart_up D6.out (below_regrown W x os)))
  have hq3 := fun x os => Calls.regrown_of (HCN.out (grow (redrawn W x) os) _ _ _ _ _ (chart_up C6.out (below_regrown W x os)))
  refine wp_region_quiet_below (by kernel_rfl) (by kernel_rfl) ?_
  repeat (quiet_step (first | (go_at_call 6; exact hq1 _ _) | (go_at_call 7; with_reducible exact hq2 _ _) | (go_at_call 7; with_reducible exact hq3 _ _)))
  refine wpQuiet_nil ?_
  intro _ hw'
  obtain ⟨⟨dq, osq⟩, hw''⟩ := hw'
  subst hw''
  clear a1 a2 b0 b1 b2 qa1 qa2 qb0 qb1 qb2 hq1 hq2 hq3
  have B7 : Hid (Below W.heap.size W (grow (redrawn W dq) osq)) := below_regrown _ dq osq
  obtain ⟨W7, hW7⟩ : ∃ W7, W7 = grow (redrawn W dq) osq := ⟨_, rfl⟩
  rw [← hW7] at B7 ⊢
  clear hW7
  obtain ⟨ga, ha0, hnv, hav⟩ := HV.out W _ _ _ _ _ C6.out
  obtain ⟨gb, hb0, _, hbv⟩ := HV.out W _ _ _ _ _ D6.out
  have HA0 : Hid (0 < nv → a = some ⟨ga, 0, none⟩) := ha0
  have HB0 : Hid (0 < nv → b = some ⟨gb, 0, none⟩) := hb0
  have HAV : Hid (∀ i, i < nv → W.cell? ⟨ga, i * 3, none⟩ = some (.int .i64 ((c.vars.getD i ⟨0, [], 0⟩).kind : Nat)) ∧ W.cell? ⟨ga, i * 3 + 1, none⟩ = some (sv (c.vars.getD i ⟨0, [], 0⟩).name) ∧ W.cell? ⟨ga, i * 3 + 2, none⟩ = some (.int .i64 (c.vars.getD i ⟨0, [], 0⟩).first)) := hav
  have HBV : Hid (∀ i, i < nv → W.cell? ⟨gb, i * 3, none⟩ = some (.int .i64 ((c.vars.getD i ⟨0, [], 0⟩).kind : Nat)) ∧ W.cell? ⟨gb, i * 3 + 1, none⟩ = some (sv (c.vars.getD i ⟨0, [], 0⟩).name) ∧ W.cell? ⟨gb, i * 3 + 2, none⟩ = some (.int .i64 (c.vars.getD i ⟨0, [], 0⟩).first)) := hbv
  clear ha0 hb0 hav hbv
  go_wp2
  go_loopw [7] (fun i wr => ∃ j : Nat, j ≤ nv ∧ i = .int .i64 j ∧ Hid (Below W.heap.size W wr)) (fun i _ => nv - (intOf i).toNat)
  case atStart => exact ⟨0, Nat.zero_le _, rfl, B7.out⟩
  case round =>
    obtain ⟨j, hj, rfl, HB⟩ := hrel
    have a1 : wr.cell? ⟨w2.heap.size, 1, none⟩ = some (.slice a nv m) := below_cell HB.out (lt_of_block Q6.out) (cell_rowB Q6.out 1)
    by_cases hlt : j < nv
    · have b1 : wr.cell? ⟨w5.heap.size, 1, none⟩ = some (.slice b nv k) := below_cell HB.out (lt_of_block R6.out) (cell_rowB R6.out 1)
      have hi1 := ixDc a ga nv m j hlt HA0.out
      have hi2 := ixDc b gb nv k j hlt HB0.out
      obtain ⟨z1, z2, z3⟩ := HAV.out j hlt
      obtain ⟨y1, y2, y3⟩ := HBV.out j hlt
      have cb : ∀ {g o : Nat} {v : Value}, W.cell? ⟨g, o, none⟩ = some v → wr.cell? ⟨g, o, none⟩ = some v := fun h => below_cell HB.out (lt_of_cell h) h
      replace z1 := cb z1
      replace z2 := cb z2
      replace z3 := cb z3
      replace y1 := cb y1
      replace y2 := cb y2
      replace y3 := cb y3
      obtain ⟨d1, hd1⟩ : ∃ d1 : Int, d1 = ((c.vars.getD j ⟨0, [], 0⟩).kind : Nat) := ⟨_, rfl⟩
      obtain ⟨d2, hd2⟩ : ∃ d2 : ByteArray, .string d2 = sv (c.vars.getD j ⟨0, [], 0⟩).name := ⟨_, rfl⟩
      obtain ⟨d3, hd3⟩ : ∃ d3, d3 = (c.vars.getD j ⟨0, [], 0⟩).first := ⟨_, rfl⟩
      rw [← hd1] at z1 y1
      rw [← hd2] at z2 y2
      rw [← hd3] at z3 y3
      clear cb hd1 hd2 hd3
      go_wp2_with fail
      go_quiet (fail)
      go_wp2_with fail
      go_roundw
      case rel => exact ⟨j + 1, by omega, by go_num, below_two HB.out ⟨rfl, rfl, rfl, Nat.le_refl _, fun _ _ => rfl⟩⟩
      case measure => simp [intOf]; omega
    · go_wp2
      go_ret
      exact ⟨rfl, below_two B6.out HB.out⟩

theorem parseBack_any (s : ByteArray) (w : World) (hE : BEnv w) : Calls Tryd.prog 3 #[.string s] w fun e w' => e = .returned (.bool true) ∧ Below w.heap.size w w' := by
  by_cases hs : s.size ≤ 1500
  · rcases Lx.Ok_or_Bad' (bs s) with ⟨l, hok⟩ | hno
    · cases hch : chart (fin s l) with
      | error f => exact back_none s w hs hE fun w' hE' => (parse_err s l f w' (by omega) hE'.p.big hE'.p.tabs hE'.marks hok hch).mono fun e w2 ⟨q, he, _, hb⟩ => ⟨q, he, hb⟩
      | ok c => exact back_ok s l c w hs hE hok hch
    · exact back_none s w hs hE fun w' hE' => (parse_bad s w' (by omega) hE'.marks hno).mono fun e w2 ⟨_, _, q, he, _, _, hb⟩ => ⟨q, he, hb⟩
  · exact back_big s w (by omega)
end Go.Proofs.YtpbfmfhjgghldaaDoor
/- What the listed variables' readings give ParseBack: the tables, the marks, the powers of ten. -/
namespace Go.Proofs.YtpbfmfhjgghldaaDoor
open Go.ChangeShapes Go.WideShapes Go.ChangeAt Go.RowKit Px

theorem tPowB : (Tryd.prog.globals[3]?).map (·.type) = some 113 := by kernel_rfl
theorem dPowB : (Rows.laid_internal_strconv_uint64pow10 : DataW Unit) = Lib.tabData .u64 Lib.pow10Tab := by kernel_rfl
theorem gBits : Tryd.prog.globalNamed "math/bits.deBruijn64tab" = some 10 := by kernel_rfl
theorem back_laid {W : World} (h : laidMetH Tryd.prog Rows.parseBackRow.laid W) : BEnv W := by
  have h' : laidMet Tryd.prog [("math/bits.deBruijn32tab", Rows.laid_math_bits_deBruijn32tab), ("math/bits.deBruijn64tab", Rows.laid_math_bits_deBruijn64tab), ("internal/strconv.uint64pow10", Rows.laid_internal_strconv_uint64pow10), ("strconv.ErrRange", Rows.laid_strconv_ErrRange), ("strconv.ErrSyntax", Rows.laid_strconv_ErrSyntax), ("clepsydra/lex.marks", Rows.laid_clepsydra_lex_marks), ("clepsydra/parse.between", Rows.laid_clepsydra_parse_between), ("clepsydra/parse.ahead", Rows.laid_clepsydra_parse_ahead), ("clepsydra/parse.kinds", Rows.laid_clepsydra_parse_kinds), ("clepsydra/parse.leads", Rows.laid_clepsydra_parse_leads), ("clepsydra/parse.words", Rows.laid_clepsydra_parse_words)] W := h
  obtain ⟨ps, hl, _⟩ := h'
  have m0 : ∀ (a : String × DataW Unit) (r : List (String × DataW Unit)), a ∈ a :: r := fun a r => List.mem_cons_self
  have m1 : ∀ (a b : String × DataW Unit) (r : List (String × DataW Unit)), b ∈ a :: b :: r := fun a b r => .tail _ (m0 b r)
  have big : 10 < W.heap.size := big_of hl (.tail _ (m0 _ _)) gBits
  refine ⟨⟨⟨tab_of hl (.tail _ (.tail _ (.tail _ (.tail _ (.tail _ (.tail _ (.tail _ (.tail _ (.tail _ (m1 _ _ _)))))))))) gWords (by kernel_rfl) op_21, tab_of hl (.tail _ (.tail _ (.tail _ (.tail _ (.tail _ (.tail _ (.tail _ (.tail _ (m0 _ _))))))))) gKinds (by kernel_rfl) op_4,
    tab_of hl (.tail _ (.tail _ (.tail _ (.tail _ (.tail _ (.tail _ (.tail _ (.tail _ (m1 _ _ _))))))))) gLeads (by kernel_rfl) op_3, tab_of hl (.tail _ (.tail _ (.tail _ (.tail _ (.tail _ (.tail _ (.tail _ (m0 _ _)))))))) gAhead (by kernel_rfl) op_2s,
    tab_of hl (.tail _ (.tail _ (.tail _ (.tail _ (.tail _ (.tail _ (m0 _ _))))))) gBetween (by kernel_rfl) op_54s⟩, ?_, big⟩, marks_of (tab_of hl (.tail _ (.tail _ (.tail _ (.tail _ (.tail _ (m0 _ _)))))) gMarks (by kernel_rfl) op_21)⟩
  obtain ⟨g, t, cs, f, p, h1, h2, h3, h4⟩ := laid_mem hl ("internal/strconv.uint64pow10", Rows.laid_internal_strconv_uint64pow10) (.tail _ (.tail _ (m0 _ _)))
  obtain rfl := Option.some.inj (gPow.symm.trans h1)
  obtain rfl := Option.some.inj (tPowB.symm.trans h2)
  rw [show (("internal/strconv.uint64pow10", Rows.laid_internal_strconv_uint64pow10) : String × DataW Unit).2 = Lib.tabData .u64 Lib.pow10Tab from dPowB] at h4
  have e := Lib.cells_of_tab Tryd.underlying113 Tryd.underlying95 (by kernel_rfl) (by kernel_rfl) h4
  unfold Lib.TabIs
  rw [show W.var? Tryd.prog "internal/strconv.uint64pow10" = some cs from h3, ← e]
end Go.Proofs.YtpbfmfhjgghldaaDoor
