/- RunRests: a chart that is put into a state that always rests: whether it may be, and what it does. -/
import Derived.Test.YtecbilopliblpaaGreatDoorQVcUg4
import Derived.Test.YtecbilopliblpaaGreatDoorQUj
namespace Go.Proofs.YtecbilopliblpaaGreatDoor
open Go.RowKit Px
namespace Px
section
variable {σ σ' : Type} {D : List σ → List σ' → Prop} {vs : List Decl} {R : List σ → Nat → Res} {R' : List σ' → Nat → Res}
theorem regsE_dn (hR : ∀ r r' n m, D r r' → R r n = .ok m → R' r' n = .ok m) : ∀ {rs : List (List σ)} {rs' : List (List σ')} {n m : Nat}, L2r D rs rs' → regsE R rs n = .ok m → regsE R' rs' n = .ok m
  | [], [], _, _, _, h => h
  | [], _ :: _, _, _, h, _ => by have := h.1; simp at this
  | _ :: _, [], _, _, h, _ => by have := h.1; simp at this
  | r :: rs, r' :: rs', n, m, h, k => by
    rw [regsE] at k ⊢
    cases hr : R r n with
    | error x => rw [hr] at k; exact absurd k (by simp)
    | ok q =>
      rw [hr] at k
      rw [hR r r' n q h.cons.1 hr]
      exact regsE_dn hR h.cons.2 k
theorem stateE_dn {ns : List Str} {i : Nat} {s : StF σ} {s' : StF σ'} (h : DnS D s s') : stateE vs ns i s = stateE vs ns i s' := by
  unfold stateE aloneE
  rw [h.name, h.last, h.enter, h.during, h.leave, h.rests, h.ways, h.regions.1]
theorem statesE_dn (hR : ∀ r r' n m, D r r' → R r n = .ok m → R' r' n = .ok m) {ns : List Str} : ∀ {L : List (StF σ)} {L' : List (StF σ')} {i n m : Nat}, L2r (DnS D) L L' → statesE vs R ns L i n = .ok m → statesE vs R' ns L' i n = .ok m
  | [], [], _, _, _, _, h => h
  | [], _ :: _, _, _, _, h, _ => by have := h.1; simp at this
  | _ :: _, [], _, _, _, h, _ => by have := h.1; simp at this
  | s :: L, s' :: L', i, n, m, h, k => by
    rw [statesE] at k ⊢
    rw [← stateE_dn h.cons.1]
    split at k
    · exact absurd k (by simp)
    · rename_i h0
      rw [if_neg h0]
      cases hr : regsE R s.regions (n + 1) with
      | error x => rw [hr] at k; exact absurd k (by simp)
      | ok q =>
        rw [hr] at k
        rw [regsE_dn hR h.cons.1.regions hr]
        exact statesE_dn hR h.cons.2 k
theorem map_dn {α : Type} {f : StF σ → α} {f' : StF σ' → α} (hf : ∀ s s', DnS D s s' → f s = f' s') : ∀ {L : List (StF σ)} {L' : List (StF σ')}, L2r (DnS D) L L' → L.map f = L'.map f'
  | [], [], _ => rfl
  | [], _ :: _, h => by have := h.1; simp at this
  | _ :: _, [], h => by have := h.1; simp at this
  | s :: L, s' :: L', h => by rw [List.map_cons, List.map_cons, hf s s' h.cons.1, map_dn hf h.cons.2]
theorem firsts_map (L : List (StF σ)) : firsts L = ((L.map (·.first)).filter id).length := by
  unfold firsts
  rw [List.filter_map, List.length_map]
  rfl
theorem wholeE_dn {L : List (StF σ)} {L' : List (StF σ')} (h : L2r (DnS D) L L') : wholeE L = wholeE L' := by
  have h1 : firsts L = firsts L' := by rw [firsts_map, firsts_map, map_dn (f := (·.first)) (f' := (·.first)) (fun s s' hs => hs.first) h]
  have h2 : graph L = graph L' := by
    unfold graph
    rw [L2r.names h]
    exact map_dn (fun s s' hs => by rw [hs.ways]) h
  unfold wholeE
  rw [h1, h2]
theorem regF_dn (hR : ∀ r r' n m, D r r' → R r n = .ok m → R' r' n = .ok m) {L : List (StF σ)} {L' : List (StF σ')} {n m : Nat} (h : L2r (DnS D) L L') (k : regF vs R L n = .ok m) : regF vs R' L' n = .ok m := by
  unfold regF at k ⊢
  cases hs : statesE vs R (snames L) L 0 n with
  | error x => rw [hs] at k; exact absurd k (by simp)
  | ok q =>
    rw [hs] at k
    rw [← L2r.names h, statesE_dn hR h hs, ← wholeE_dn h]
    exact k
theorem regsE_up (hR : ∀ r n m, R r n = .ok m → R r (n + 1) = .ok (m + 1)) : ∀ {rs : List (List σ)} {n m : Nat}, regsE R rs n = .ok m → regsE R rs (n + 1) = .ok (m + 1)
  | [], n, m, h => by
    rw [regsE] at h ⊢
    injection h with h
    rw [h]
  | r :: rs, n, m, k => by
    rw [regsE] at k ⊢
    cases hr : R r n with
    | error x => rw [hr] at k; exact absurd k (by simp)
    | ok q =>
      rw [hr] at k
      rw [hR r n q hr]
      exact regsE_up hR k
theorem statesE_up (hR : ∀ r n m, R r n = .ok m → R r (n + 1) = .ok (m + 1)) {ns : List Str} : ∀ {L : List (StF σ)} {i n m : Nat}, statesE vs R ns L i n = .ok m → statesE vs R ns L i (n + 1) = .ok (m + 1)
  | [], i, n, m, h => by
    rw [statesE] at h ⊢
    injection h with h
    rw [h]
  | s :: L, i, n, m, k => by
    rw [statesE] at k ⊢
    split at k
    · exact absurd k (by simp)
    · rename_i h0
      rw [if_neg h0]
      cases hr : regsE R s.regions (n + 1) with
      | error x => rw [hr] at k; exact absurd k (by simp)
      | ok q =>
        rw [hr] at k
        rw [regsE_up hR hr]
        exact statesE_up hR k
theorem regF_up (hR : ∀ r n m, R r n = .ok m → R r (n + 1) = .ok (m + 1)) {L : List (StF σ)} {n m : Nat} (k : regF vs R L n = .ok m) : regF vs R L (n + 1) = .ok (m + 1) := by
  unfold regF at k ⊢
  cases hs : statesE vs R (snames L) L 0 n with
  | error x => rw [hs] at k; exact absurd k (by simp)
  | ok q =>
    rw [hs] at k
    rw [statesE_up hR hs]
    simp only at k ⊢
    split at k
    · exact absurd k (by simp)
    · rename_i h0
      rw [if_neg h0]
      injection k with k
      rw [k]
end
theorem regE_dn {vs : List Decl} : ∀ (k : Nat) (L : List (St (k + 1))) (L' : List (St k)) (n m : Nat), DnK k L L' → regE vs (k + 1) L n = .ok m → regE vs k L' n = .ok m
  | 0, _, _, _, _, h, _ => absurd h id
  | k + 1, _, _, _, _, h, hk => regF_dn (regE_dn k) h hk
theorem regE_up {vs : List Decl} : ∀ (k : Nat) (L : List (St k)) (n m : Nat), regE vs k L n = .ok m → regE vs k L (n + 1) = .ok (m + 1)
  | 0, _, _, _, h => by simp [regE] at h
  | k + 1, _, _, _, h => regF_up (regE_up k) h
/-- a state that always rests, with these regions -/
def wrapS (rs : List (List (St 5))) : StF (St 5) := ⟨[119], true, false, [], [], [], eNum 1, [], rs⟩
def wrapC (c : Chart) (rs : List (List (St 5))) : Chart := ⟨c.name, c.vars, [[wrapS rs]]⟩
theorem wrap_check {c : Chart} {rs : List (List (St 5))} (h : checkC c = none) (hd : L2r (DnK 5) c.regions rs) : checkC (wrapC c rs) = none := by
  unfold checkC at h
  split at h
  · exact absurd h (by simp)
  · rename_i ht
    split at h
    · exact absurd h (by simp)
    · split at h
      · exact absurd h (by simp)
      · rename_i m hm
        have h1 : regsE (regE c.vars 5) rs 1 = .ok (m + 1) := regsE_up (regE_up 5) (regsE_dn (fun r r' n m => regE_dn 5 r r' n m) hd hm)
        have h2 : regF c.vars (regE c.vars 5) [wrapS rs] 0 = .ok (m + 1) := by
          unfold regF
          have hs : statesE c.vars (regE c.vars 5) (snames [wrapS rs]) [wrapS rs] 0 0 = .ok (m + 1) := by
            rw [statesE]
            have h0 : stateE c.vars (snames [wrapS rs]) 0 (wrapS rs) = 0 := rfl
            rw [if_neg (by rw [h0]; simp)]
            show (match regsE (regE c.vars 5) rs 1 with | Except.error x => Except.error x | Except.ok m => statesE c.vars (regE c.vars 5) (snames [wrapS rs]) [] 1 m) = _
            rw [h1]
            rfl
          rw [hs]
          rfl
        have h3 : regsE (regE c.vars 6) (wrapC c rs).regions 0 = .ok (m + 1) := by
          show (match regF c.vars (regE c.vars 5) [wrapS rs] 0 with | Except.error x => Except.error x | Except.ok m => regsE (regE c.vars 6) [] m) = _
          rw [h2]
          rfl
        unfold checkC
        have ht' : twiceF (vnames (wrapC c rs).vars) (wrapC c rs).vars.length 0 = none := ht
        rw [ht']
        simp only
        rw [if_neg (by simp [wrapC])]
        have h3' : regsE (regE (wrapC c rs).vars 6) (wrapC c rs).regions 0 = .ok (m + 1) := h3
        rw [h3']
end Px
end Go.Proofs.YtecbilopliblpaaGreatDoor
/- RunRests: the chart that is put into a state: its memory, its ticks. -/
namespace Go.Proofs.YtecbilopliblpaaGreatDoor
open Go.RowKit Px
namespace Px
theorem sumC_dn {α β : Type} {P : α → β → Prop} {f : α → Nat} {g : β → Nat} (h : ∀ a b, P a b → f a = g b) : ∀ {l : List α} {m : List β}, L2r P l m → sumC f l = sumC g m
  | [], [], _ => rfl
  | [], _ :: _, k => by have := k.1; simp at this
  | _ :: _, [], k => by have := k.1; simp at this
  | a :: l, b :: m, k => by rw [sumC, sumC, h a b k.cons.1, sumC_dn h k.cons.2]
theorem crg_dn : ∀ (k : Nat) (L : List (St (k + 1))) (L' : List (St k)), DnK k L L' → cRg (k + 1) L = cRg k L'
  | 0, _, _, h => absurd h id
  | k + 1, _, _, h => sumC_dn (P := DnS (DnK k)) (fun s s' hs => by
      show 1 + sumC (cRg (k + 1)) s.regions = 1 + sumC (cRg k) s'.regions
      rw [sumC_dn (fun r r' hr => crg_dn k r r' hr) hs.regions]) h
theorem nm_dn : ∀ (k : Nat) (L : List (St (k + 1))) (L' : List (St k)), DnK k L L' → (∀ x ∈ L, NmSt (k + 1) x) → ∀ x' ∈ L', NmSt k x'
  | 0, _, _, h, _, _, _ => absurd h id
  | k + 1, L, L', h, hN, x', hx' => by
    obtain ⟨x, hx, hs⟩ := L2r.mem (P := DnS (DnK k)) (l := (show List (StF (St (k + 1))) from L)) (m := (show List (StF (St k)) from L')) h hx'
    obtain ⟨h1, h2⟩ := hN x hx
    refine ⟨?_, fun r' hr' => ?_⟩
    · unfold NmStF at h1 ⊢
      rw [← hs.name, ← hs.enter, ← hs.during, ← hs.leave, ← hs.rests, ← hs.ways]
      exact h1
    · obtain ⟨r, hr, hrr⟩ := hs.regions.mem hr'
      exact nm_dn k r r' hrr (h2 r hr)
theorem nb_dn : ∀ (k : Nat) (L : List (St (k + 1))) (L' : List (St k)), DnK k L L' → (∀ x ∈ L, NbSt (k + 1) x) → ∀ x' ∈ L', NbSt k x'
  | 0, _, _, h, _, _, _ => absurd h id
  | k + 1, L, L', h, hN, x', hx' => by
    obtain ⟨x, hx, hs⟩ := L2r.mem (P := DnS (DnK k)) (l := (show List (StF (St (k + 1))) from L)) (m := (show List (StF (St k)) from L')) h hx'
    obtain ⟨h1, h2⟩ := hN x hx
    refine ⟨?_, fun r' hr' => ?_⟩
    · unfold NbStF at h1 ⊢
      rw [← hs.enter, ← hs.during, ← hs.leave, ← hs.rests, ← hs.ways]
      exact h1
    · obtain ⟨r, hr, hrr⟩ := hs.regions.mem hr'
      exact nb_dn k r r' hrr (h2 r hr)
theorem rows_dn {α β : Type} {D : α → β → Prop} {P : α → List Value → Prop} {P' : β → List Value → Prop} (h : ∀ a b c, D a b → P a c → P' b c) : ∀ {l : List α} {m : List β} {xs : List Value}, L2r D l m → Rows P l xs → Rows P' m xs
  | [], [], _, _, hr => hr
  | [], _ :: _, _, k, _ => by have := k.1; simp at this
  | _ :: _, [], _, k, _ => by have := k.1; simp at this
  | a :: l, b :: m, xs, k, ⟨c, ys, e, hc, hr⟩ => ⟨c, ys, e, h a b c k.cons.1 hc, rows_dn h k.cons.2 hr⟩
theorem regs_dn {σ σ' : Type} {A : Nat → Prop} {w : World} {D : List σ → List σ' → Prop} {I : List σ → Value → Prop} {I' : List σ' → Value → Prop} (hI : ∀ r r' u, D r r' → I r u → I' r' u) {rs : List (List σ)} {rs' : List (List σ')} {v : Value} (h : L2r D rs rs') (hr : IsRegs A w I rs v) : IsRegs A w I' rs' v := by
  obtain ⟨xs, h1, h2⟩ := hr
  exact ⟨xs, by rw [← h.1]; exact h1, rows_dn (fun r r' c hd ⟨u, e, hu⟩ => ⟨u, e, hI r r' u hd hu⟩) h h2⟩
theorem mem_dn {A : Nat → Prop} {w : World} : ∀ (k : Nat) (L : List (St (k + 1))) (L' : List (St k)) (v : Value), DnK k L L' → IsStates A w (k + 1) L v → IsStates A w k L' v
  | 0, _, _, _, h, _ => absurd h id
  | k + 1, L, L', v, h, ⟨xs, h1, h2⟩ => by
    have h : L2r (DnS (DnK k)) (show List (StF (St (k + 1))) from L) (show List (StF (St k)) from L') := h
    have hl : List.length L = List.length L' := h.1
    refine ⟨xs, by rw [← hl]; exact h1, rows_dn (fun s s' c hs hc => ?_) h h2⟩
    obtain ⟨e, d, l, p, y, r, he, q1, q2, q3, q4, q5, q6⟩ := hc
    refine ⟨e, d, l, p, y, r, ?_, ?_, ?_, ?_, ?_, ?_, regs_dn (fun r r' u => mem_dn k r r' u) hs.regions q6⟩
    · rw [he, hs.name, hs.first, hs.last]
    · rw [← hs.enter]; exact q1
    · rw [← hs.during]; exact q2
    · rw [← hs.leave]; exact q3
    · rw [← hs.rests]; exact q4
    · rw [← hs.ways]; exact q5
theorem fresh_row {w : World} {g e k : Nat} {cs : List Value} (hg : w.heap[g]? = some (.cells cs.toArray e (0, 0))) (hk : cs.length = k) : w.ownsRow 0 e k (.slice (some ⟨g, 0, none⟩) 1 1) 1 cs := by
  refine ⟨by rw [hk, Nat.one_mul], .inr ⟨g, 1, cs.toArray, rfl, Nat.zero_le _, hg, Nat.le_refl _, by unfold maxLen; omega, by simp [hk], ?_⟩⟩
  rw [Nat.one_mul, ← hk]; simp
theorem nil_row (A : Nat → Prop) (w : World) (e k : Nat) : Row A w e k (.slice none 0 0) 0 [] := ⟨World.ownsRow_nil _ _ _ _, fun g hg => by cases hg⟩
theorem wrap_mem {A : Nat → Prop} {w : World} {c : Chart} {rs : List (List (St 5))} {S a v : Value} {ge gs gr : Nat} (hd : L2r (DnK 5) c.regions rs) (hC : IsChart A w c (.agg #[S, a, v])) (hA : A ge ∧ A gs ∧ A gr)
    (he : w.heap[ge]? = some (.cells #[.int .i64 1, .int .i64 1, .string ⟨#[]⟩, .pointer none, .pointer none] 53 (0, 0)))
    (hs : w.heap[gs]? = some (.cells #[.string ⟨#[119]⟩, .bool true, .bool false, .slice none 0 0, .slice none 0 0, .slice none 0 0, .pointer (some ⟨ge, 0, none⟩), .slice none 0 0, v] 57 (0, 0)))
    (hr : w.heap[gr]? = some (.cells #[.slice (some ⟨gs, 0, none⟩) 1 1] 58 (0, 0))) : IsChart A w (wrapC c rs) (.agg #[S, a, .slice (some ⟨gr, 0, none⟩) 1 1]) := by
  obtain ⟨b1, b2, b3, b4, b5, b6, e1, hV, hR⟩ := hC
  have hR' : IsRegs A w (IsStates A w 6) c.regions v := by
    injection e1 with e1
    simp at e1
    obtain ⟨_, _, rfl⟩ := e1
    exact hR
  have hin : IsRegs A w (IsStates A w 5) rs v := regs_dn (fun r r' u => mem_dn 5 r r' u) hd hR'
  have hst : IsStates A w 6 ([wrapS rs] : List (StF (St 5))) (.slice (some ⟨gs, 0, none⟩) 1 1) :=
    ⟨_, ⟨fresh_row hs rfl, fun g hg => by injection hg with hg; rw [← hg]; exact hA.2.1⟩, Rows.one ⟨_, _, _, _, _, _, rfl, ⟨[], nil_row _ _ _ _, rfl⟩, ⟨[], nil_row _ _ _ _, rfl⟩, ⟨[], nil_row _ _ _ _, rfl⟩, ⟨ge, .pointer none, .pointer none, rfl, hA.1, he, rfl, rfl⟩, ⟨[], nil_row _ _ _ _, rfl⟩, hin⟩⟩
  have e2 : (Value.agg #[S, a, .slice (some ⟨gr, 0, none⟩) 1 1]) = .agg #[sv c.name, .slice b1 b2 b3, .slice (some ⟨gr, 0, none⟩) 1 1] := by
    injection e1 with e1
    simp at e1
    obtain ⟨rfl, rfl, _⟩ := e1
    rfl
  exact ⟨b1, b2, b3, _, _, _, e2, hV, ⟨_, ⟨fresh_row hr rfl, fun g hg => by injection hg with hg; rw [← hg]; exact hA.2.2⟩, Rows.one ⟨_, rfl, hst⟩⟩⟩
/-- ticks -/
def wrapD (ds : List (Rd 5)) : Rd 6 := (⟨some 0, none, [⟨[], ds⟩]⟩ : RdF (Rd 5))
theorem allI_enter {was : Env} {rs : List (List (St 6))} : ∀ (fu i : Nat) (n : Env) (ds : List (Rd 6)), (∀ (j : Nat) (d : Rd 6), i ≤ j → ds[j]? = some d → (show RdF (Rd 5) from d).there = none) → allI (tickG was) rs fu i n ds = allI ((OpsK 6).enter was false) rs fu i n ds := by
  intro fu
  induction fu with
  | zero => intro i n ds _; rfl
  | succ fu ih =>
    intro i n ds h
    rw [allI, allI]
    cases hr : rs[i]? with
    | none => rfl
    | some r =>
      cases hd : ds[i]? with
      | none => rfl
      | some d =>
        simp only
        have e : tickG was r n d = (OpsK 6).enter was false r n d := by unfold tickG; rw [if_pos (h i d (Nat.le_refl _) hd)]
        rw [e]
        cases (OpsK 6).enter was false r n d with
        | none => rfl
        | some p =>
          simp only
          exact ih (i + 1) p.1 _ fun j d' hj hd' => by
            rw [List.getElem?_set, if_neg (by omega)] at hd'
            exact h j d' (by omega) hd'
theorem wrap_enter {was n : Env} {rs : List (List (St 5))} {ds : List (Rd 5)} {p : Env × List (Rd 5)} (h : allI ((OpsK 5).enter was false) rs rs.length 0 n ds = some p) : enterR (OpsK 5) was false [wrapS rs] n ⟨none, none, [⟨[], ds⟩]⟩ = some (p.1, ⟨some 0, none, [⟨[], p.2⟩]⟩) := by
  have ha : arriveR (OpsK 5) was [wrapS rs] 0 false n ⟨none, none, [⟨[], ds⟩]⟩ = some (none, p.1, ⟨some 0, none, [⟨[], p.2⟩]⟩) := by
    unfold arriveR
    simp only [List.getElem?_cons_zero]
    have ho : opnW (overs (OpsK 5) (wrapS rs).regions ds) (doS was (wrapS rs).enter n) was askNS (wrapS rs).ways (List.replicate (wrapS rs).ways.length 0) = (none, []) := rfl
    have h' : allI ((OpsK 5).enter was false) (wrapS rs).regions (wrapS rs).regions.length 0 (doS was (wrapS rs).enter n) ds = some p := h
    simp only [ho, h']
    rfl
  show enterAt (OpsK 5) was [wrapS rs] 0 false n ⟨none, none, [⟨[], ds⟩]⟩ = _
  unfold enterAt
  rw [ha]
  rfl
theorem allI_1 {σ ρ : Type} {f : List σ → Env → ρ → Option (Env × ρ)} {r : List σ} {n n' : Env} {d d' : ρ} (h : f r n d = some (n', d')) : allI f [r] 1 0 n [d] = some (n', [d']) := by
  rw [allI]
  simp [h, allI]
theorem wrap_first {c : Chart} {rs : List (List (St 5))} (hd : L2r (DnK 5) c.regions rs) {ins : List Int} {r : Rn} (ht : tickC c ins (newC c) = some r) : ∃ ds, tickC (wrapC c rs) ins (newC (wrapC c rs)) = some ⟨r.now, r.now, [wrapD ds]⟩ ∧ thereC (wrapC c rs) ⟨r.now, r.now, [wrapD ds]⟩ = [119] :: thereC c r := by
  obtain ⟨p, hp, rfl⟩ := tickC_cases ht
  have hp : allI (tickG (firstE c.vars)) c.regions c.regions.length 0 (hearE c.vars ins (firstE c.vars)) (c.regions.map (layD 6)) = some p := hp
  rw [allI_enter _ _ _ _ (fun j d _ hj => by
    obtain ⟨L, _, rfl⟩ := map_at hj
    rfl)] at hp
  have hsim := allI_sim' (Z := fun n n' => n = n') (R := RdK 5) (fun r r' n n' d d' h1 h2 h3 => (opsK_dn 5).enter (firstE c.vars) (firstE c.vars) false r r' n n' d d' h1 rfl h2 h3) hd (n := hearE c.vars ins (firstE c.vars)) rfl (hd.map (Q := RdK 5) fun a b h => lay_dn 5 a b h)
  rcases hsim.out with ⟨e1, _⟩ | ⟨q, q', e1, e2, h1, h2⟩
  · rw [hp] at e1; exact absurd e1 (by simp)
  · rw [hp] at e1
    injection e1 with e1
    subst e1
    refine ⟨q'.2, ?_, ?_⟩
    · have hg : tickG (firstE c.vars) ([wrapS rs] : List (StF (St 5))) (hearE c.vars ins (firstE c.vars)) (layD 6 ([wrapS rs] : List (StF (St 5)))) = some (p.1, wrapD q'.2) := by
        show enterR (OpsK 5) (firstE c.vars) false [wrapS rs] (hearE c.vars ins (firstE c.vars)) ⟨none, none, [⟨[], rs.map (layD 5)⟩]⟩ = some (p.1, (⟨some 0, none, [⟨[], q'.2⟩]⟩ : RdF (Rd 5)))
        rw [wrap_enter e2, h1]
      have ha : allI (tickG (firstE c.vars)) (wrapC c rs).regions (wrapC c rs).regions.length 0 (hearE c.vars ins (firstE c.vars)) (newC (wrapC c rs)).ds = some (p.1, [wrapD q'.2]) := allI_1 hg
      unfold tickC
      show (match allI (tickG (firstE c.vars)) (wrapC c rs).regions (wrapC c rs).regions.length 0 (hearE c.vars ins (firstE c.vars)) (newC (wrapC c rs)).ds with | none => none | some p => some (⟨p.1, p.1, p.2⟩ : Rn)) = _
      rw [ha]
    · show ([119] :: (List.zipWith (thereK 5) rs q'.2).flatten) ++ [] = _
      rw [List.append_nil, ← flat_dn (fun r r' y y' => there_dn 5 r r' y y') hd h2]
      rfl
theorem wrap_rest (c : Chart) (rs : List (List (St 5))) (ins : List Int) (n w : Env) (ds : List (Rd 5)) : tickC (wrapC c rs) ins ⟨n, w, [wrapD ds]⟩ = some ⟨hearE c.vars ins n, hearE c.vars ins n, [wrapD ds]⟩ := by kernel_rfl
end Px
end Go.Proofs.YtecbilopliblpaaGreatDoor
/- keep's there: of names, one state of each region is taken, and of its regions. -/
namespace Go.Proofs.YtecbilopliblpaaGreatDoor
open Go.RowKit Px

/-- a slice of texts -/
def IStrs (w : World) (v : Value) (zs : List Str) : Prop :=
  ∃ ad b off cap, v = .slice ad zs.length cap ∧ zs.length ≤ cap ∧ cap ≤ maxLen ∧ (0 < zs.length → ad = some ⟨b, off, none⟩) ∧ ∀ k s, zs[k]? = some s → w.cell? ⟨b, off + k, none⟩ = some (sv s)
theorem IStrs.below {w w' : World} {v : Value} {zs : List Str} (h : IStrs w v zs) (hb : Below w.heap.size w w') : IStrs w' v zs := by
  obtain ⟨ad, b, off, cap, h1, h2, h3, h4, h5⟩ := h
  exact ⟨ad, b, off, cap, h1, h2, h3, h4, fun k s hs => ck_cell hb (h5 k s hs)⟩
theorem RowS.strs {B : Nat} {w : World} {v : Value} {zs : List Str} (h : RowS B w v zs) : IStrs w v zs := by
  have hc := fun g hg => World.ownsRow.cells h (g := g) hg
  obtain ⟨hl, h2⟩ := h
  rcases h2 with ⟨rfl, h0⟩ | ⟨g, cap, cur, rfl, hB, hg, h3, h4, hr⟩
  · exact ⟨none, 0, 0, 0, by rw [h0], by omega, by unfold maxLen; omega, fun h => absurd h (by omega), fun k s hk => by have := (List.getElem?_eq_some_iff.1 hk).1; omega⟩
  · refine ⟨some ⟨g, 0, none⟩, g, 0, cap, rfl, by omega, by omega, fun _ => rfl, fun k s hk => ?_⟩
    have := hc g rfl k (sv s) (by rw [List.getElem?_map, hk]; rfl)
    rw [show (⟨g, 0, none⟩ : Addr).add k = ⟨g, k, none⟩ from by unfold Addr.add; split <;> simp_all] at this
    rw [Nat.zero_add]; exact this
theorem ixQ (ad : Option Addr) (g o n cap k : Nat) (hk : k < n) (ha : 0 < n → ad = some ⟨g, o, none⟩) (w : World) : (Instr.indexAt 38 (.slice ad n cap) (.int .i64 (k : Int))).run Tryz.prog w = .ok (.pointer (some ⟨g, o + k, none⟩)) w := by
  obtain rfl := ha (by omega)
  rw [run_indexAt_slice _ _ _ _ _ _ _ (by kernel_rfl), if_pos ⟨by omega, by omega⟩]
  have e : (sizeOf (Tryz.prog.elem 38)).run Tryz.prog w = .ok 1 w := by kernel_rfl
  rw [e]
  simp [Result.andThen, Addr.add]
  try (intro h; exact h.symm)
/-- a region in memory whose state that is there is known, with what its regions answer -/
def TakeReg {ρ : Type} (w : World) (r : List (StF ρ)) (a : Option Addr) (t : List Str) : Prop :=
  ∃ gr i0 s0 inner ar n capr, (0 < r.length → a = some ⟨gr, 0, none⟩) ∧ r.length ≤ 1000000 ∧ (∀ j s, r[j]? = some s → w.cell? ⟨gr, j * 9, none⟩ = some (sv s.name)) ∧ Dist (snames r) ∧ r[i0]? = some s0 ∧ t = s0.name :: inner ∧ w.cell? ⟨gr, i0 * 9 + 8, none⟩ = some (.slice ar n capr) ∧
    ∀ w' lv rest, Below w.heap.size w w' → IStrs w' lv (inner ++ rest) → Calls Tryz.prog 17 #[lv, .slice ar n capr] w' fun e w'' => ∃ a n m, e = .returned (.tuple #[.slice a n m, .bool true]) ∧ Hid (IStrs w'' (.slice a n m) rest ∧ Below w'.heap.size w' w'')
theorem strQ {a b : Str} {S T : ByteArray} (h1 : Value.string S = sv a) (h2 : Value.string T = sv b) : (S.toList == T.toList) = decide (a = b) := by
  unfold sv at h1 h2
  injection h1 with h1
  injection h2 with h2
  subst h1
  subst h2
  rw [ByteArray.toList_eq, ByteArray.toList_eq, Bool.eq_iff_iff, beq_iff_eq, decide_eq_true_iff]
set_option maxRecDepth 100000 in
set_option maxHeartbeats 8000000 in
theorem there_at {ρ : Type} {w : World} {ad : Option Addr} {N cap : Nat} {lv : Value} {L : List (List (StF ρ))} {TS : List (List Str)} {rest : List Str} (hn : Hid (N = L.length)) (hNm : N ≤ maxLen) (hts : Hid (TS.length = N))
    (hmem : Hid (∃ g, (0 < N → ad = some ⟨g, 0, none⟩) ∧ ∀ i r t, L[i]? = some r → TS[i]? = some t → ∃ a c, w.cell? ⟨g, i, none⟩ = some (.slice a r.length c) ∧ TakeReg w r a t)) (hl : Hid (IStrs w lv (TS.flatten ++ rest))) :
    Calls Tryz.prog 17 #[lv, .slice ad N cap] w fun e w' => ∃ a n m, e = .returned (.tuple #[.slice a n m, .bool true]) ∧ Hid (IStrs w' (.slice a n m) rest ∧ Below w.heap.size w w') := by
  have hN6 : (N : Int) ≤ 9223372036854775807 := by unfold maxLen at hNm; omega
  obtain ⟨a0, l0, m0, hlv⟩ : ∃ a n m, lv = .slice a n m := by obtain ⟨a, b, o, c, h, _⟩ := hl.out; exact ⟨a, _, c, h⟩
  subst hlv
  clear hNm
  go_enter Tryz.func17, Tryz.ntmps17
  go_wp2_with fail
  go_loopg [0, 6] N (fun f l i wr => ∃ (k : Nat) (al : Option Addr) (nl ml : Nat), f = N - k ∧ k ≤ N ∧ i = .int .i64 (k : Int) ∧ l = .slice al nl ml ∧ Hid (IStrs wr (.slice al nl ml) ((TS.drop k).flatten ++ rest) ∧ Below w.heap.size w wr))
  case atStart => exact ⟨0, a0, l0, m0, by omega, by omega, rfl, rfl, hl.out, Below.refl _ _⟩
  case round =>
    obtain ⟨k, al, nl, ml, rfl, hk, rfl, rfl, hr⟩ := hrel
    obtain ⟨W1, hW1⟩ : ∃ W1, W1 = wr := ⟨_, rfl⟩
    subst hW1
    by_cases hlt : k < N
    · obtain ⟨r, hs⟩ : ∃ r, L[k]? = some r := ⟨L[k]'(by rw [← hn.out]; exact hlt), by rw [List.getElem?_eq_getElem]⟩
      obtain ⟨t, ht⟩ : ∃ t, TS[k]? = some t := ⟨TS[k]'(by rw [hts.out]; exact hlt), by rw [List.getElem?_eq_getElem]⟩
      obtain ⟨g, hg, hg2⟩ := hmem.out
      obtain ⟨a, c, hcell, gr, i0, s0, inner, ar, nr, capr, ha, hlen, hnames, hD, hi0, hT, hc8, hcall⟩ := hg2 k r t hs ht
      have hix := ixR ad g N cap k hlt hg
      have hcw := ck_cell hr.out.2 hcell
      obtain ⟨n, hnr⟩ : ∃ n, n = r.length := ⟨_, rfl⟩
      rw [← hnr] at hcw ha hlen
      have hdrop : (TS.drop k).flatten ++ rest = s0.name :: (inner ++ ((TS.drop (k + 1)).flatten ++ rest)) := by
        obtain ⟨h1, h2⟩ := List.getElem?_eq_some_iff.1 ht
        rw [List.drop_eq_getElem_cons h1, h2, hT]
        simp
      obtain ⟨ad', b, off, cap', e1, q1, q2, q3, q4⟩ := hr.out.1
      rw [hdrop] at e1 q1 q3 q4
      injection e1 with e1 e2 e3
      subst e1
      subst e3
      obtain rfl := q3 (by simp)
      have hnl : nl = (inner ++ ((TS.drop (k + 1)).flatten ++ rest)).length + 1 := by rw [e2]; simp
      have hi0l : i0 < n := by rw [hnr]; exact (List.getElem?_eq_some_iff.1 hi0).1
      have hn6 : (n : Int) ≤ 9223372036854775807 := by omega
      have hh0 := q4 0 s0.name rfl
      obtain ⟨T, hTe⟩ : ∃ T, Value.string T = sv s0.name := ⟨_, rfl⟩
      rw [← hTe, Nat.add_zero] at hh0
      have hixq := ixQ (some ⟨b, off, none⟩) b off nl ml 0 (by omega) (fun _ => rfl)
      rw [Nat.add_zero] at hixq
      have hnl0 : (0 : Int) < (nl : Int) := by omega
      have hnlN : 0 < nl := by omega
      have HCALL : Hid (∀ w' a m nn, Below W1.heap.size W1 w' → nn = nl - 1 → (0 < nn → a = some ⟨b, off + 1, none⟩) → nn ≤ m → m ≤ maxLen → Calls Tryz.prog 17 #[.slice a nn m, .slice ar nr capr] w' fun e w'' => ∃ a n m, e = .returned (.tuple #[.slice a n m, .bool true]) ∧ Hid (IStrs w'' (.slice a n m) ((TS.drop (k + 1)).flatten ++ rest) ∧ Below w.heap.size w w'')) := fun w' a m nn hb he h1 h2 h3 =>
        (hcall w' (.slice a nn m) ((TS.drop (k + 1)).flatten ++ rest) (ck_all hr.out.2 hb) ⟨a, b, off + 1, m, by rw [he, hnl, Nat.add_sub_cancel], by omega, h3, fun hp => h1 (by omega), fun j s hj => ck_cell hb (by rw [Nat.add_assoc, Nat.add_comm 1 j]; exact q4 (j + 1) s hj)⟩).mono fun e w'' ⟨a, n, m, he, h⟩ => ⟨a, n, m, he, h.out.1, ck_all (ck_all hr.out.2 hb) h.out.2⟩
      have HCW : Hid (∀ w', Below w.heap.size w w' → w'.cell? ⟨g, k, none⟩ = some (.slice a n c) ∧ w'.cell? ⟨gr, i0 * 9 + 8, none⟩ = some (.slice ar nr capr)) := fun w' hb => ⟨ck_cell hb (by rw [hnr]; exact hcell), ck_cell hb hc8⟩
      have HNM : Hid (∀ j s, r[j]? = some s → W1.cell? ⟨gr, j * 9, none⟩ = some (sv s.name)) := fun j s hj => ck_cell hr.out.2 (hnames j s hj)
      have HD : Hid (n = r.length ∧ Dist (snames r) ∧ r[i0]? = some s0 ∧ Value.string T = sv s0.name) := ⟨hnr, hD, hi0, hTe⟩
      have HA : Hid (0 < n → a = some ⟨gr, 0, none⟩) := ha
      have hc8w := ck_cell hr.out.2 hc8
      have HW : Hid (W1.cell? ⟨g, k, none⟩ = some (.slice a n c) ∧ W1.cell? ⟨gr, i0 * 9 + 8, none⟩ = some (.slice ar nr capr) ∧ W1.cell? ⟨b, off, none⟩ = some (.string T)) := ⟨hcw, hc8w, hh0⟩
      have HM : Hid (nl - 1 ≤ ml - 1 ∧ ml ≤ maxLen ∧ 1 ≤ nl ∧ nl ≤ ml) := ⟨by rw [List.length_cons] at q1; omega, q2, by omega, by rw [List.length_cons] at q1; omega⟩
      have hml : (nl : Int) ≤ (ml : Int) := by have := HM.out; omega
      have hml6 : (ml : Int) ≤ 9223372036854775807 := by have := HM.out; unfold maxLen at this; omega
      have hnl1 : (1 : Int) ≤ (nl : Int) := by omega
      clear hr hs ht hg hg2 hcell ha hlen hnames hD hi0 hT hc8 hcall hnr hdrop e2 q1 q2 q3 q4 hnl hTe
      go_upto_region 6 with fail
      go_loopg [7, 8] n (fun f kv jv wq => ∃ (q : Nat) (kz : Int), f = n - q ∧ q ≤ n ∧ jv = .int .i64 (q : Int) ∧ kv = .int .i64 kz ∧ Hid (kz = (if i0 < q then (i0 : Int) else -1) ∧ Below W1.heap.size W1 wq))
      case atStart => exact ⟨0, -1, by omega, by omega, rfl, rfl, by simp, Below.refl _ _⟩
      case round =>
        obtain ⟨q, kz, rfl, hq, rfl, rfl, hr2⟩ := hrel
        obtain ⟨v1, v2, v3⟩ := HW.out
        have v1 := ck_cell hr2.out.2 v1
        have v2 := ck_cell hr2.out.2 v2
        have v3 := ck_cell hr2.out.2 v3
        by_cases hq2 : q < n
        · obtain ⟨s, hs⟩ : ∃ s, r[q]? = some s := ⟨r[q]'(by rw [← HD.out.1]; exact hq2), by rw [List.getElem?_eq_getElem]⟩
          have v4 := ck_cell hr2.out.2 (HNM.out q s hs)
          have hixt := ixT a gr n c q hq2 HA.out
          by_cases e : q = i0
          · have hse : s = s0 := by have := HD.out.2.2.1; rw [← e, hs] at this; injection this
            rw [hse, ← HD.out.2.2.2] at v4
            have HE : Hid ((q : Int) = (if i0 < q + 1 then (i0 : Int) else -1) ∧ Below W1.heap.size W1 wr.drew) := ⟨by rw [if_pos (by omega), e], hr2.out.2.drew⟩
            clear hr2 hs hse e v2
            go_upto_region 8 with fail
            go_region
            all_goals
              go_wp2_with fail
              go_roundg (n - (q + 1))
              case measure => omega
              case rel => exact ⟨q + 1, (q : Int), by omega, by omega, by go_num, rfl, HE.out⟩
          · obtain ⟨S, hS⟩ : ∃ S, Value.string S = sv s.name := ⟨_, rfl⟩
            have hne : (S.toList == T.toList) = false := by
              rw [strQ hS HD.out.2.2.2]
              refine decide_eq_false fun h => e (HD.out.2.1.inj (by unfold snames; rw [List.length_map]; exact (List.getElem?_eq_some_iff.1 hs).1) (by unfold snames; rw [List.length_map]; exact (List.getElem?_eq_some_iff.1 HD.out.2.2.1).1) ?_)
              unfold snames
              rw [List.getD_eq_getElem?_getD, List.getElem?_map, hs, List.getD_eq_getElem?_getD, List.getElem?_map, HD.out.2.2.1]
              exact h
            rw [← hS] at v4
            have HE : Hid (kz = (if i0 < q + 1 then (i0 : Int) else -1) ∧ Below W1.heap.size W1 wr.drew) := ⟨by
              rw [hr2.out.1]
              by_cases h : i0 < q
              · rw [if_pos h, if_pos (by omega)]
              · rw [if_neg h, if_neg (by omega)], hr2.out.2.drew⟩
            clear hr2 hs hS e v2
            go_upto_region 8 with fail
            go_region
            all_goals
              go_wp2_with fail
              go_roundg (n - (q + 1))
              case measure => omega
              case rel => exact ⟨q + 1, kz, by omega, by omega, by go_num, rfl, HE.out⟩
        · have hkz : kz = (i0 : Int) := by rw [hr2.out.1, if_pos (by omega)]
          subst hkz
          have hqn : q = n := by omega
          subst hqn
          have hixt := ixT a gr q c i0 hi0l HA.out
          have HB : Hid (Below W1.heap.size W1 wr.drew) := hr2.out.2.drew
          by_cases hm1 : ml = 1
          · subst hm1
            have HCD := HCALL.out wr.drew (some ⟨b, off, none⟩) 0 (nl - 1) HB.out rfl (fun hp => by have := HM.out; omega) (by have := HM.out; omega) (by unfold maxLen; omega)
            clear hr2 v3 HCALL
            go_upto_region 13 with fail
            go_region_held3 (fun W => W.cell? ⟨g, k, none⟩ = some (.slice a q c) ∧ W.cell? ⟨gr, i0 * 9 + 8, none⟩ = some (.slice ar nr capr)) (first | with_reducible exact HQ2.out | go_keep)
              (first | (go_at_call 17; refine HCD.mono ?_; rintro e w2 ⟨a2, n2, m2, rfl, h2⟩; have HQ2 : Hid (w2.cell? ⟨g, k, none⟩ = some (.slice a q c) ∧ w2.cell? ⟨gr, i0 * 9 + 8, none⟩ = some (.slice ar nr capr)) := HCW.out w2 h2.out.2))
            all_goals
              go_wp2_with fail
              go_roundg (N - (k + 1))
              case measure => omega
              case rel => exact ⟨k + 1, a2, n2, m2, rfl, by omega, by go_num, rfl, h2.out⟩
          · have HCD := HCALL.out wr.drew (some ⟨b, off + 1, none⟩) (ml - 1) (nl - 1) HB.out rfl (fun hp => rfl) (by have := HM.out; omega) (by have := HM.out; omega)
            clear hr2 v3 HCALL
            go_upto_region 13 with fail
            go_region_held3 (fun W => W.cell? ⟨g, k, none⟩ = some (.slice a q c) ∧ W.cell? ⟨gr, i0 * 9 + 8, none⟩ = some (.slice ar nr capr)) (first | with_reducible exact HQ2.out | go_keep)
              (first | (go_at_call 17; refine HCD.mono ?_; rintro e w2 ⟨a2, n2, m2, rfl, h2⟩; have HQ2 : Hid (w2.cell? ⟨g, k, none⟩ = some (.slice a q c) ∧ w2.cell? ⟨gr, i0 * 9 + 8, none⟩ = some (.slice ar nr capr)) := HCW.out w2 h2.out.2))
            all_goals
              go_wp2_with fail
              go_roundg (N - (k + 1))
              case measure => omega
              case rel => exact ⟨k + 1, a2, n2, m2, rfl, by omega, by go_num, rfl, h2.out⟩
    · obtain rfl : k = N := by omega
      have h1 := hr.out.1
      rw [← hts.out, List.drop_length] at h1
      have HL : Hid (IStrs W1 (.slice al nl ml) rest ∧ Below w.heap.size w W1) := ⟨h1, hr.out.2⟩
      clear hr h1
      go_wp2_with fail
      go_ret2
      exact ⟨_, _, _, rfl, HL.out⟩
theorem zip_at {α β γ : Type} {f : α → β → γ} {l : List α} {m : List β} {i : Nat} {a : α} {b : β} {t : γ} (ha : l[i]? = some a) (hb : m[i]? = some b) (ht : (List.zipWith f l m)[i]? = some t) : t = f a b := by
  rw [List.getElem?_zipWith, ha, hb] at ht
  injection ht with ht
  exact ht.symm
theorem at_len {α β : Type} {l : List α} {m : List β} {i : Nat} {a : α} (h : m.length = l.length) (ha : l[i]? = some a) : ∃ b, m[i]? = some b :=
  ⟨m[i]'(by rw [h]; exact (List.getElem?_eq_some_iff.1 ha).1), by rw [List.getElem?_eq_getElem]⟩
theorem thereF_at {σ ρ : Type} {f : List σ → ρ → List Str} {L : List (StF σ)} {d : RdF ρ} {i : Nat} {s : StF σ} {x : SdF ρ} (h : d.there = some i) (hs : L[i]? = some s) (hx : d.sts[i]? = some x) : thereF f L d = s.name :: (List.zipWith f s.regions x.inside).flatten := by
  unfold thereF
  simp only [h, hs, hx]
/-- .. at every depth -/
theorem there_all {A : Nat → Prop} : ∀ (k : Nat) (w : World) (rs : List (List (St k))) (ds : List (Rd k)) (lv v : Value) (rest : List Str), IsRegs A w (IsStates A w k) rs v → ds.length = rs.length → (∀ (j : Nat) (r : List (St k)) (d : Rd k), rs[j]? = some r → ds[j]? = some d → LvK k r d) → (∀ r ∈ rs, LayR k r) → IStrs w lv ((List.zipWith (thereK k) rs ds).flatten ++ rest) →
    Calls Tryz.prog 17 #[lv, v] w fun e w' => ∃ a n m, e = .returned (.tuple #[.slice a n m, .bool true]) ∧ Hid (IStrs w' (.slice a n m) rest ∧ Below w.heap.size w w') := by
  intro k
  induction k with
  | zero =>
    intro w rs ds lv v rest hI _ _ hO hl
    obtain ⟨ad, g, cap, rfl, h1, h2, h3⟩ := hI.len
    have hL : rs = [] := by
      cases rs with
      | nil => rfl
      | cons r rs => exact absurd (hO r (by simp)) id
    subst hL
    exact there_at (ρ := Unit) (L := []) (TS := []) rfl h1 rfl ⟨g, fun h => absurd h (by simp), fun i r t h => absurd h (by simp)⟩ hl
  | succ k ih =>
    intro w rs ds lv v rest hI hlen hLv hO hl
    obtain ⟨ad, g, cap, rfl, h1, h2, h3⟩ := hI.len
    refine there_at (ρ := St k) (L := rs) (TS := List.zipWith (thereK (k + 1)) rs ds) rfl h1 (by rw [Hid, List.length_zipWith]; omega) ⟨g, fun hp => (h2 hp).1, fun i r t hi ht => ?_⟩ hl
    have hm := List.mem_of_getElem? hi
    obtain ⟨d, hd⟩ := at_len (α := List (St (k + 1))) hlen hi
    have ht := zip_at (α := List (St (k + 1))) (f := thereK (k + 1)) hi hd ht
    obtain ⟨u, hu, hS⟩ := h3 i r hi
    obtain ⟨a, gr, c, rfl, r1, r2, r3⟩ := IsStates.open hS
    obtain ⟨⟨s1, s2, s3, s4⟩, i0, hth, hJ⟩ := hLv i r d hi hd
    obtain ⟨l1, l2, l3, l4, l5⟩ := hO r hm
    have hi0 : i0 < List.length r := s2 i0 hth
    have e1 : (show List (StF (St k)) from r)[i0]? = some ((show List (StF (St k)) from r)[i0]'hi0) := List.getElem?_eq_getElem _
    have e2 : (show RdF (Rd k) from d).sts[i0]? = some ((show RdF (Rd k) from d).sts[i0]'(by rw [s1]; exact hi0)) := List.getElem?_eq_getElem _
    generalize (show List (StF (St k)) from r)[i0]'hi0 = s0 at e1
    generalize (show RdF (Rd k) from d).sts[i0]'(by rw [s1]; exact hi0) = x0 at e2
    obtain ⟨ve, vd, vl, p, ay, ar, gy, capy, capr, hM, hR⟩ := r3 i0 s0 e1
    have et : thereK (k + 1) r d = s0.name :: (List.zipWith (thereK k) s0.regions x0.inside).flatten := thereF_at (L := r) (d := d) hth e1 e2
    refine ⟨a, c, hu, gr, i0, s0, _, ar, s0.regions.length, capr, fun hp => (r2 hp).1, l4, fun j s hj => ?_, l2, e1, by rw [ht]; exact et, hM.c8, fun w' lv' rest' hb' hl' => ?_⟩
    · obtain ⟨_, _, _, _, _, _, _, _, _, hM', _⟩ := r3 j s hj
      exact hM'.c0
    · have kp : Keep A A w w' := fun b ha hlt => ⟨ha, hb'.block b hlt⟩
      obtain ⟨q1, q2⟩ := s4 i0 s0 x0 e1 e2
      exact ih w' s0.regions x0.inside lv' _ rest' (hR.carry kp (IsStates.carry kp k)) q1 (hJ s0 x0 e1 e2) ((l5 s0 (List.mem_of_getElem? e1)).2.2.2.2) hl'
end Go.Proofs.YtecbilopliblpaaGreatDoor
