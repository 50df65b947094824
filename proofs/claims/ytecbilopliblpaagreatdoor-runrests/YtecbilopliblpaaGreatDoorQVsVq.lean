/- RunRests: a chart that stands one deeper does the same. -/
import Derived.Test.YtecbilopliblpaaGreatDoorQVbVp
import Derived.Test.YtecbilopliblpaaGreatDoorQKs
import Derived.Test.YtecbilopliblpaaGreatDoorQUj
namespace Go.Proofs.YtecbilopliblpaaGreatDoor
open Go.RowKit Px
namespace Px
section
variable {σ σ' ρ ρ' : Type}
/-- the same state, with regions that are the same -/
structure DnS (D : List σ → List σ' → Prop) (s : StF σ) (s' : StF σ') : Prop where
  name : s.name = s'.name
  first : s.first = s'.first
  last : s.last = s'.last
  enter : s.enter = s'.enter
  during : s.during = s'.during
  leave : s.leave = s'.leave
  rests : s.rests = s'.rests
  ways : s.ways = s'.ways
  regions : L2r D s.regions s'.regions
theorem L2r.same {α : Type} {P : α → α → Prop} (h : ∀ a, P a a) (l : List α) : L2r P l l := ⟨rfl, fun i a b ha hb => by rw [ha] at hb; injection hb with hb; rw [← hb]; exact h a⟩
theorem L2r.names {D : List σ → List σ' → Prop} : ∀ {L : List (StF σ)} {L' : List (StF σ')}, L2r (DnS D) L L' → snames L = snames L'
  | [], [], _ => rfl
  | [], _ :: _, h => by have := h.1; simp at this
  | _ :: _, [], h => by have := h.1; simp at this
  | s :: L, s' :: L', h => by
    have := L2r.names h.cons.2
    unfold snames at *
    rw [List.map_cons, List.map_cons, h.cons.1.name, this]
theorem wys_refl (y : Wy) : WyS (fun n n' => n = n') y y := ⟨rfl, rfl, rfl, rfl, rfl, fun n n' w w' h k => by rw [h, k], fun w w' n n' h k => by rw [h, k]⟩
theorem dn_st {D : List σ → List σ' → Prop} {s : StF σ} {s' : StF σ'} (h : DnS D s s') : StS (fun n n' => n = n') D s s' :=
  ⟨h.first, h.last, fun w w' n n' k1 k2 => by rw [h.enter, k1, k2], fun w w' n n' k1 k2 => by rw [h.during, k1, k2], fun w w' n n' k1 k2 => by rw [h.leave, k1, k2], fun n n' w w' k1 k2 => by rw [h.rests, k1, k2], by rw [h.ways]; exact L2r.same wys_refl _, h.regions⟩
theorem dn_gs {D : List σ → List σ' → Prop} {L : List (StF σ)} {L' : List (StF σ')} (h : L2r (DnS D) L L') : GS (fun n n' => n = n') D L L' :=
  ⟨⟨h.1, fun i s s' h1 h2 => dn_st (h.2 i s s' h1 h2)⟩, fun i j s s' y y' h1 h2 k1 k2 => by
    rw [← L2r.names h]
    rw [(h.2 i s s' h1 h2).ways, k2] at k1
    injection k1 with k1
    rw [k1]⟩
theorem SimOps.mono {Z : Env → Env → Prop} {O : Ops σ ρ} {O' : Ops σ' ρ'} {G G2 : List σ → List σ' → Prop} {R : ρ → ρ' → Prop} (h : SimOps Z O O' G R) (hG : ∀ L L', G2 L L' → G L L') : SimOps Z O O' G2 R :=
  ⟨fun L L' d d' hg => h.over L L' d d' (hG L L' hg), fun was was' b L L' n n' d d' hg => h.enter was was' b L L' n n' d d' (hG L L' hg), fun was was' L L' n n' d d' hg => h.go was was' L L' n n' d d' (hG L L' hg), fun was was' L L' n n' d d' hg => h.leave was was' L L' n n' d d' (hG L L' hg)⟩
theorem L2r.choose {α β : Type} {P : α → β → Prop} : ∀ (l : List α), (∀ a ∈ l, ∃ b, P a b) → ∃ m, L2r P l m
  | [], _ => ⟨[], L2r.nil P⟩
  | a :: l, h => by
    obtain ⟨b, hb⟩ := h a (List.mem_cons_self ..)
    obtain ⟨m, hm⟩ := L2r.choose l fun x hx => h x (List.mem_cons_of_mem _ hx)
    exact ⟨b :: m, L2r.mk hb hm⟩
theorem L2r.mem {α β : Type} {P : α → β → Prop} {l : List α} {m : List β} (h : L2r P l m) {b : β} (hb : b ∈ m) : ∃ a ∈ l, P a b := by
  obtain ⟨i, hi, e⟩ := List.getElem_of_mem hb
  rcases h.or i with ⟨_, h2⟩ | ⟨a, b', h1, h2, hp⟩
  · rw [List.getElem?_eq_getElem hi] at h2; exact absurd h2 (by simp)
  · rw [List.getElem?_eq_getElem hi, e] at h2
    injection h2 with h2
    rw [← h2] at hp
    exact ⟨a, List.mem_of_getElem? h1, hp⟩
end
def DnK : (k : Nat) → List (St (k + 1)) → List (St k) → Prop
  | 0 => fun _ _ => False
  | k + 1 => fun L L' => L2r (DnS (DnK k)) (show List (StF (St (k + 1))) from L) (show List (StF (St k)) from L')
def RdK : (k : Nat) → Rd (k + 1) → Rd k → Prop
  | 0 => fun _ _ => False
  | k + 1 => fun d d' => RS2 (RdK k) (show RdF (Rd (k + 1)) from d) (show RdF (Rd k) from d')
theorem opsK_dn : ∀ k, SimOps (fun n n' => n = n') (OpsK (k + 1)) (OpsK k) (DnK k) (RdK k)
  | 0 => ⟨fun _ _ _ _ h => absurd h id, fun _ _ _ _ _ _ _ _ _ h => absurd h id, fun _ _ _ _ _ _ _ _ h => absurd h id, fun _ _ _ _ _ _ _ _ h => absurd h id⟩
  | k + 1 => (opsF_sim (opsK_dn k)).mono fun _ _ h => dn_gs h
/-- how many regions stand in one another -/
def deepF {σ : Type} (f : List (List σ) → Nat) (n : Nat) (r : List (StF σ)) : Nat := r.foldl (fun n s => max n (1 + f s.regions)) (max n 1)
def deepG {σ : Type} (f : List (List σ) → Nat) (rs : List (List (StF σ))) : Nat := rs.foldl (fun n r => deepF f n r) 0
def deepN : (k : Nat) → List (List (St k)) → Nat
  | 0 => fun _ => 0
  | k + 1 => deepG (deepN k)
theorem foldl_ge {α : Type} {f : Nat → α → Nat} (hf : ∀ n a, n ≤ f n a) : ∀ (l : List α) (n : Nat), n ≤ l.foldl f n
  | [], _ => Nat.le_refl _
  | a :: l, n => Nat.le_trans (hf n a) (foldl_ge hf l (f n a))
theorem foldl_mem {α : Type} {f : Nat → α → Nat} (hf : ∀ n a, n ≤ f n a) {g : α → Nat} (hg : ∀ n a, g a ≤ f n a) : ∀ (l : List α) (n : Nat) (a : α), a ∈ l → g a ≤ l.foldl f n
  | [], _, _, h => by cases h
  | b :: l, n, a, h => by
    rw [List.foldl_cons]
    rcases List.mem_cons.1 h with rfl | h
    · exact Nat.le_trans (hg n a) (foldl_ge hf l _)
    · exact foldl_mem hf hg l _ a h
theorem deepF_ge {σ : Type} (f : List (List σ) → Nat) (n : Nat) (r : List (StF σ)) : max n 1 ≤ deepF f n r := foldl_ge (fun _ _ => Nat.le_max_left _ _) r _
theorem deepF_mem {σ : Type} (f : List (List σ) → Nat) (n : Nat) {r : List (StF σ)} {s : StF σ} (h : s ∈ r) : 1 + f s.regions ≤ deepF f n r :=
  foldl_mem (f := fun n (s : StF σ) => max n (1 + f s.regions)) (g := fun s => 1 + f s.regions) (fun _ _ => Nat.le_max_left _ _) (fun _ _ => Nat.le_max_right _ _) r _ s h
theorem deepG_one {σ : Type} (f : List (List σ) → Nat) {rs : List (List (StF σ))} {r : List (StF σ)} (h : r ∈ rs) : 1 ≤ deepG f rs :=
  foldl_mem (f := fun n (r : List (StF σ)) => deepF f n r) (g := fun _ => 1) (fun n r => Nat.le_trans (Nat.le_max_left _ _) (deepF_ge f n r)) (fun n r => Nat.le_trans (Nat.le_max_right _ _) (deepF_ge f n r)) rs 0 r h
theorem deepG_at {σ : Type} (f : List (List σ) → Nat) {r : List (StF σ)} {s : StF σ} (hs : s ∈ r) : ∀ (l : List (List (StF σ))) (n : Nat), r ∈ l → 1 + f s.regions ≤ l.foldl (fun n r => deepF f n r) n
  | [], _, h => by cases h
  | b :: l, n, h => by
    rw [List.foldl_cons]
    rcases List.mem_cons.1 h with rfl | h
    · exact Nat.le_trans (deepF_mem f n hs) (foldl_ge (fun n r => Nat.le_trans (Nat.le_max_left _ _) (deepF_ge f n r)) l _)
    · exact deepG_at f hs l _ h
theorem deepN_mem {k : Nat} {rs : List (List (St (k + 1)))} {r : List (StF (St k))} (h : r ∈ (show List (List (StF (St k))) from rs)) {s : StF (St k)} (hs : s ∈ r) : 1 + deepN k s.regions ≤ deepN (k + 1) rs := deepG_at (deepN k) hs _ 0 h
theorem dn_some : ∀ (k : Nat) (rs : List (List (St (k + 1)))), deepN (k + 1) rs ≤ k → ∃ rs' : List (List (St k)), L2r (DnK k) rs rs'
  | 0, rs, h => by
    cases rs with
    | nil => exact ⟨[], L2r.nil _⟩
    | cons r rs => exact absurd h (by have := deepG_one (deepN 0) (rs := r :: rs) (r := r) (List.mem_cons_self ..); show ¬ deepG (deepN 0) (r :: rs) ≤ 0; omega)
  | k + 1, rs, h => by
    refine L2r.choose rs fun r hr => ?_
    refine L2r.choose (P := DnS (DnK k)) (show List (StF (St (k + 1))) from r) fun s hs => ?_
    have h1 := deepN_mem (k := k + 1) hr hs
    obtain ⟨q, hq⟩ := dn_some k s.regions (by omega)
    exact ⟨⟨s.name, s.first, s.last, s.enter, s.during, s.leave, s.rests, s.ways, q⟩, rfl, rfl, rfl, rfl, rfl, rfl, rfl, rfl, hq⟩
theorem map_at {α β : Type} {f : α → β} {l : List α} {i : Nat} {y : β} (h : (l.map f)[i]? = some y) : ∃ a, l[i]? = some a ∧ y = f a := by
  rw [List.getElem?_map] at h
  cases hl : l[i]? with
  | none => rw [hl] at h; exact absurd h (by simp)
  | some a => rw [hl] at h; simp at h; exact ⟨a, rfl, h.symm⟩
theorem L2r.map {α β α' β' : Type} {P : α → β → Prop} {Q : α' → β' → Prop} {f : α → α'} {g : β → β'} {l : List α} {m : List β} (h : L2r P l m) (hf : ∀ a b, P a b → Q (f a) (g b)) : L2r Q (l.map f) (m.map g) := by
  refine ⟨by rw [List.length_map, List.length_map]; exact h.1, fun i x y hx hy => ?_⟩
  obtain ⟨a, ha, rfl⟩ := map_at hx
  obtain ⟨b, hb, rfl⟩ := map_at hy
  exact hf a b (h.2 i a b ha hb)
theorem lay_dn1 {k : Nat} (ih : ∀ (L : List (St (k + 1))) (L' : List (St k)), DnK k L L' → RdK k (layD (k + 1) L) (layD k L')) {L : List (StF (St (k + 1)))} {L' : List (StF (St k))} (h : L2r (DnS (DnK k)) L L') : RS2 (RdK k) ⟨none, none, L.map fun s => ⟨s.ways.map fun _ => 0, s.regions.map (layD (k + 1))⟩⟩ ⟨none, none, L'.map fun s => ⟨s.ways.map fun _ => 0, s.regions.map (layD k)⟩⟩ :=
  ⟨rfl, rfl, h.map fun s s' hs => ⟨by show List.map _ s.ways = List.map _ s'.ways; rw [hs.ways], hs.regions.map fun r r' hr => ih r r' hr⟩⟩
theorem lay_dn : ∀ (k : Nat) (L : List (St (k + 1))) (L' : List (St k)), DnK k L L' → RdK k (layD (k + 1) L) (layD k L')
  | 0, _, _, h => absurd h id
  | k + 1, _, _, h => lay_dn1 (lay_dn k) h
theorem flat_dn {α β α' β' : Type} {f : α → β → List Str} {f' : α' → β' → List Str} {P : α → α' → Prop} {Q : β → β' → Prop} (h : ∀ a a' b b', P a a' → Q b b' → f a b = f' a' b') : ∀ {l : List α} {l' : List α'} {m : List β} {m' : List β'}, L2r P l l' → L2r Q m m' → (List.zipWith f l m).flatten = (List.zipWith f' l' m').flatten
  | [], [], _, _, _, _ => by simp
  | [], _ :: _, _, _, h, _ => by have := h.1; simp at this
  | _ :: _, [], _, _, h, _ => by have := h.1; simp at this
  | _ :: _, _ :: _, [], [], _, _ => by simp
  | _ :: _, _ :: _, [], _ :: _, _, h => by have := h.1; simp at this
  | _ :: _, _ :: _, _ :: _, [], _, h => by have := h.1; simp at this
  | a :: l, a' :: l', b :: m, b' :: m', k1, k2 => by
    rw [List.zipWith_cons_cons, List.zipWith_cons_cons, List.flatten_cons, List.flatten_cons, h a a' b b' k1.cons.1 k2.cons.1, flat_dn h k1.cons.2 k2.cons.2]
theorem there_dn1 {k : Nat} (ih : ∀ (L : List (St (k + 1))) (L' : List (St k)) (d : Rd (k + 1)) (d' : Rd k), DnK k L L' → RdK k d d' → thereK (k + 1) L d = thereK k L' d') {L : List (StF (St (k + 1)))} {L' : List (StF (St k))} {d : RdF (Rd (k + 1))} {d' : RdF (Rd k)} (h : L2r (DnS (DnK k)) L L') (hd : RS2 (RdK k) d d') : thereF (thereK (k + 1)) L d = thereF (thereK k) L' d' := by
  unfold thereF
  rw [← hd.there]
  cases d.there with
  | none => rfl
  | some i =>
    simp only
    rcases h.or i with ⟨h1, h2⟩ | ⟨s, s', h1, h2, hs⟩
    · simp only [h1, h2]
    · rcases hd.sts.or i with ⟨k1, k2⟩ | ⟨x, x', k1, k2, hx⟩
      · simp only [h1, h2, k1, k2]
      · simp only [h1, h2, k1, k2]
        rw [hs.name, flat_dn (fun r r' y y' => ih r r' y y') hs.regions hx.2]
theorem there_dn : ∀ (k : Nat) (L : List (St (k + 1))) (L' : List (St k)) (d : Rd (k + 1)) (d' : Rd k), DnK k L L' → RdK k d d' → thereK (k + 1) L d = thereK k L' d'
  | 0, _, _, _, _, h, _ => absurd h id
  | k + 1, _, _, _, _, h, hd => there_dn1 (there_dn k) h hd
end Px
end Go.Proofs.YtecbilopliblpaaGreatDoor
/- RunRests: a chart that is put into a state that always rests: whether it may be, and what it does. -/
namespace Go.Proofs.YtecbilopliblpaaGreatDoor
open Go.RowKit Px
namespace Px
section
variable {σ σ' : Type} {D : List σ → List σ' → Prop} {vs : List Decl} {R : List σ → Nat → Res} {R' : List σ' → Nat → Res}
theorem regsE_dn (hR : ∀ r r' n m, D r r' → R r n = .ok m → R' r' n = .ok m) : ∀ {rs : List (List σ)} {rs' : List (List σ')} {n m : Nat}, L2r D rs rs' → regsE R rs n = .ok m → regsE R' rs' n = .ok m
  | [], [], _, _, _, h => h
  | [], _ :: _, _, _, h, _ => by have := h.1; simp at this
  | _ :: _, [], _, _, h, _ => by have := h.1; simp at this
  | r :: rs, r' :: rs', n, m, h, k => by
    rw [regsE] at k ⊢
    cases hr : R r n with
    | error x => rw [hr] at k; exact absurd k (by simp)
    | ok q =>
      rw [hr] at k
      rw [hR r r' n q h.cons.1 hr]
      exact regsE_dn hR h.cons.2 k
theorem stateE_dn {ns : List Str} {i : Nat} {s : StF σ} {s' : StF σ'} (h : DnS D s s') : stateE vs ns i s = stateE vs ns i s' := by
  unfold stateE aloneE
  rw [h.name, h.last, h.enter, h.during, h.leave, h.rests, h.ways, h.regions.1]
theorem statesE_dn (hR : ∀ r r' n m, D r r' → R r n = .ok m → R' r' n = .ok m) {ns : List Str} : ∀ {L : List (StF σ)} {L' : List (StF σ')} {i n m : Nat}, L2r (DnS D) L L' → statesE vs R ns L i n = .ok m → statesE vs R' ns L' i n = .ok m
  | [], [], _, _, _, _, h => h
  | [], _ :: _, _, _, _, h, _ => by have := h.1; simp at this
  | _ :: _, [], _, _, _, h, _ => by have := h.1; simp at this
  | s :: L, s' :: L', i, n, m, h, k => by
    rw [statesE] at k ⊢
    rw [← stateE_dn h.cons.1]
    split at k
    · exact absurd k (by simp)
    · rename_i h0
      rw [if_neg h0]
      cases hr : regsE R s.regions (n + 1) with
      | error x => rw [hr] at k; exact absurd k (by simp)
      | ok q =>
        rw [hr] at k
        rw [regsE_dn hR h.cons.1.regions hr]
        exact statesE_dn hR h.cons.2 k
theorem map_dn {α : Type} {f : StF σ → α} {f' : StF σ' → α} (hf : ∀ s s', DnS D s s' → f s = f' s') : ∀ {L : List (StF σ)} {L' : List (StF σ')}, L2r (DnS D) L L' → L.map f = L'.map f'
  | [], [], _ => rfl
  | [], _ :: _, h => by have := h.1; simp at this
  | _ :: _, [], h => by have := h.1; simp at this
  | s :: L, s' :: L', h => by rw [List.map_cons, List.map_cons, hf s s' h.cons.1, map_dn hf h.cons.2]
theorem firsts_map (L : List (StF σ)) : firsts L = ((L.map (·.first)).filter id).length := by
  unfold firsts
  rw [List.filter_map, List.length_map]
  rfl
theorem wholeE_dn {L : List (StF σ)} {L' : List (StF σ')} (h : L2r (DnS D) L L') : wholeE L = wholeE L' := by
  have h1 : firsts L = firsts L' := by rw [firsts_map, firsts_map, map_dn (f := (·.first)) (f' := (·.first)) (fun s s' hs => hs.first) h]
  have h2 : graph L = graph L' := by
    unfold graph
    rw [L2r.names h]
    exact map_dn (fun s s' hs => by rw [hs.ways]) h
  unfold wholeE
  rw [h1, h2]
theorem regF_dn (hR : ∀ r r' n m, D r r' → R r n = .ok m → R' r' n = .ok m) {L : List (StF σ)} {L' : List (StF σ')} {n m : Nat} (h : L2r (DnS D) L L') (k : regF vs R L n = .ok m) : regF vs R' L' n = .ok m := by
  unfold regF at k ⊢
  cases hs : statesE vs R (snames L) L 0 n with
  | error x => rw [hs] at k; exact absurd k (by simp)
  | ok q =>
    rw [hs] at k
    rw [← L2r.names h, statesE_dn hR h hs, ← wholeE_dn h]
    exact k
theorem regsE_up (hR : ∀ r n m, R r n = .ok m → R r (n + 1) = .ok (m + 1)) : ∀ {rs : List (List σ)} {n m : Nat}, regsE R rs n = .ok m → regsE R rs (n + 1) = .ok (m + 1)
  | [], n, m, h => by
    rw [regsE] at h ⊢
    injection h with h
    rw [h]
  | r :: rs, n, m, k => by
    rw [regsE] at k ⊢
    cases hr : R r n with
    | error x => rw [hr] at k; exact absurd k (by simp)
    | ok q =>
      rw [hr] at k
      rw [hR r n q hr]
      exact regsE_up hR k
theorem statesE_up (hR : ∀ r n m, R r n = .ok m → R r (n + 1) = .ok (m + 1)) {ns : List Str} : ∀ {L : List (StF σ)} {i n m : Nat}, statesE vs R ns L i n = .ok m → statesE vs R ns L i (n + 1) = .ok (m + 1)
  | [], i, n, m, h => by
    rw [statesE] at h ⊢
    injection h with h
    rw [h]
  | s :: L, i, n, m, k => by
    rw [statesE] at k ⊢
    split at k
    · exact absurd k (by simp)
    · rename_i h0
      rw [if_neg h0]
      cases hr : regsE R s.regions (n + 1) with
      | error x => rw [hr] at k; exact absurd k (by simp)
      | ok q =>
        rw [hr] at k
        rw [regsE_up hR hr]
        exact statesE_up hR k
theorem regF_up (hR : ∀ r n m, R r n = .ok m → R r (n + 1) = .ok (m + 1)) {L : List (StF σ)} {n m : Nat} (k : regF vs R L n = .ok m) : regF vs R L (n + 1) = .ok (m + 1) := by
  unfold regF at k ⊢
  cases hs : statesE vs R (snames L) L 0 n with
  | error x => rw [hs] at k; exact absurd k (by simp)
  | ok q =>
    rw [hs] at k
    rw [statesE_up hR hs]
    simp only at k ⊢
    split at k
    · exact absurd k (by simp)
    · rename_i h0
      rw [if_neg h0]
      injection k with k
      rw [k]
end
theorem regE_dn {vs : List Decl} : ∀ (k : Nat) (L : List (St (k + 1))) (L' : List (St k)) (n m : Nat), DnK k L L' → regE vs (k + 1) L n = .ok m → regE vs k L' n = .ok m
  | 0, _, _, _, _, h, _ => absurd h id
  | k + 1, _, _, _, _, h, hk => regF_dn (regE_dn k) h hk
theorem regE_up {vs : List Decl} : ∀ (k : Nat) (L : List (St k)) (n m : Nat), regE vs k L n = .ok m → regE vs k L (n + 1) = .ok (m + 1)
  | 0, _, _, _, h => by simp [regE] at h
  | k + 1, _, _, _, h => regF_up (regE_up k) h
/-- a state that always rests, with these regions -/
def wrapS (rs : List (List (St 5))) : StF (St 5) := ⟨[119], true, false, [], [], [], eNum 1, [], rs⟩
def wrapC (c : Chart) (rs : List (List (St 5))) : Chart := ⟨c.name, c.vars, [[wrapS rs]]⟩
theorem wrap_check {c : Chart} {rs : List (List (St 5))} (h : checkC c = none) (hd : L2r (DnK 5) c.regions rs) : checkC (wrapC c rs) = none := by
  unfold checkC at h
  split at h
  · exact absurd h (by simp)
  · rename_i ht
    split at h
    · exact absurd h (by simp)
    · split at h
      · exact absurd h (by simp)
      · rename_i m hm
        have h1 : regsE (regE c.vars 5) rs 1 = .ok (m + 1) := regsE_up (regE_up 5) (regsE_dn (fun r r' n m => regE_dn 5 r r' n m) hd hm)
        have h2 : regF c.vars (regE c.vars 5) [wrapS rs] 0 = .ok (m + 1) := by
          unfold regF
          have hs : statesE c.vars (regE c.vars 5) (snames [wrapS rs]) [wrapS rs] 0 0 = .ok (m + 1) := by
            rw [statesE]
            have h0 : stateE c.vars (snames [wrapS rs]) 0 (wrapS rs) = 0 := rfl
            rw [if_neg (by rw [h0]; simp)]
            show (match regsE (regE c.vars 5) rs 1 with | Except.error x => Except.error x | Except.ok m => statesE c.vars (regE c.vars 5) (snames [wrapS rs]) [] 1 m) = _
            rw [h1]
            rfl
          rw [hs]
          rfl
        have h3 : regsE (regE c.vars 6) (wrapC c rs).regions 0 = .ok (m + 1) := by
          show (match regF c.vars (regE c.vars 5) [wrapS rs] 0 with | Except.error x => Except.error x | Except.ok m => regsE (regE c.vars 6) [] m) = _
          rw [h2]
          rfl
        unfold checkC
        have ht' : twiceF (vnames (wrapC c rs).vars) (wrapC c rs).vars.length 0 = none := ht
        rw [ht']
        simp only
        rw [if_neg (by simp [wrapC])]
        have h3' : regsE (regE (wrapC c rs).vars 6) (wrapC c rs).regions 0 = .ok (m + 1) := h3
        rw [h3']
end Px
end Go.Proofs.YtecbilopliblpaaGreatDoor
/- RunRests: the chart that is put into a state: its memory, its ticks. -/
namespace Go.Proofs.YtecbilopliblpaaGreatDoor
open Go.RowKit Px
namespace Px
theorem sumC_dn {α β : Type} {P : α → β → Prop} {f : α → Nat} {g : β → Nat} (h : ∀ a b, P a b → f a = g b) : ∀ {l : List α} {m : List β}, L2r P l m → sumC f l = sumC g m
  | [], [], _ => rfl
  | [], _ :: _, k => by have := k.1; simp at this
  | _ :: _, [], k => by have := k.1; simp at this
  | a :: l, b :: m, k => by rw [sumC, sumC, h a b k.cons.1, sumC_dn h k.cons.2]
theorem crg_dn : ∀ (k : Nat) (L : List (St (k + 1))) (L' : List (St k)), DnK k L L' → cRg (k + 1) L = cRg k L'
  | 0, _, _, h => absurd h id
  | k + 1, _, _, h => sumC_dn (P := DnS (DnK k)) (fun s s' hs => by
      show 1 + sumC (cRg (k + 1)) s.regions = 1 + sumC (cRg k) s'.regions
      rw [sumC_dn (fun r r' hr => crg_dn k r r' hr) hs.regions]) h
theorem nm_dn : ∀ (k : Nat) (L : List (St (k + 1))) (L' : List (St k)), DnK k L L' → (∀ x ∈ L, NmSt (k + 1) x) → ∀ x' ∈ L', NmSt k x'
  | 0, _, _, h, _, _, _ => absurd h id
  | k + 1, L, L', h, hN, x', hx' => by
    obtain ⟨x, hx, hs⟩ := L2r.mem (P := DnS (DnK k)) (l := (show List (StF (St (k + 1))) from L)) (m := (show List (StF (St k)) from L')) h hx'
    obtain ⟨h1, h2⟩ := hN x hx
    refine ⟨?_, fun r' hr' => ?_⟩
    · unfold NmStF at h1 ⊢
      rw [← hs.name, ← hs.enter, ← hs.during, ← hs.leave, ← hs.rests, ← hs.ways]
      exact h1
    · obtain ⟨r, hr, hrr⟩ := hs.regions.mem hr'
      exact nm_dn k r r' hrr (h2 r hr)
theorem nb_dn : ∀ (k : Nat) (L : List (St (k + 1))) (L' : List (St k)), DnK k L L' → (∀ x ∈ L, NbSt (k + 1) x) → ∀ x' ∈ L', NbSt k x'
  | 0, _, _, h, _, _, _ => absurd h id
  | k + 1, L, L', h, hN, x', hx' => by
    obtain ⟨x, hx, hs⟩ := L2r.mem (P := DnS (DnK k)) (l := (show List (StF (St (k + 1))) from L)) (m := (show List (StF (St k)) from L')) h hx'
    obtain ⟨h1, h2⟩ := hN x hx
    refine ⟨?_, fun r' hr' => ?_⟩
    · unfold NbStF at h1 ⊢
      rw [← hs.enter, ← hs.during, ← hs.leave, ← hs.rests, ← hs.ways]
      exact h1
    · obtain ⟨r, hr, hrr⟩ := hs.regions.mem hr'
      exact nb_dn k r r' hrr (h2 r hr)
theorem rows_dn {α β : Type} {D : α → β → Prop} {P : α → List Value → Prop} {P' : β → List Value → Prop} (h : ∀ a b c, D a b → P a c → P' b c) : ∀ {l : List α} {m : List β} {xs : List Value}, L2r D l m → Rows P l xs → Rows P' m xs
  | [], [], _, _, hr => hr
  | [], _ :: _, _, k, _ => by have := k.1; simp at this
  | _ :: _, [], _, k, _ => by have := k.1; simp at this
  | a :: l, b :: m, xs, k, ⟨c, ys, e, hc, hr⟩ => ⟨c, ys, e, h a b c k.cons.1 hc, rows_dn h k.cons.2 hr⟩
theorem regs_dn {σ σ' : Type} {A : Nat → Prop} {w : World} {D : List σ → List σ' → Prop} {I : List σ → Value → Prop} {I' : List σ' → Value → Prop} (hI : ∀ r r' u, D r r' → I r u → I' r' u) {rs : List (List σ)} {rs' : List (List σ')} {v : Value} (h : L2r D rs rs') (hr : IsRegs A w I rs v) : IsRegs A w I' rs' v := by
  obtain ⟨xs, h1, h2⟩ := hr
  exact ⟨xs, by rw [← h.1]; exact h1, rows_dn (fun r r' c hd ⟨u, e, hu⟩ => ⟨u, e, hI r r' u hd hu⟩) h h2⟩
theorem mem_dn {A : Nat → Prop} {w : World} : ∀ (k : Nat) (L : List (St (k + 1))) (L' : List (St k)) (v : Value), DnK k L L' → IsStates A w (k + 1) L v → IsStates A w k L' v
  | 0, _, _, _, h, _ => absurd h id
  | k + 1, L, L', v, h, ⟨xs, h1, h2⟩ => by
    have h : L2r (DnS (DnK k)) (show List (StF (St (k + 1))) from L) (show List (StF (St k)) from L') := h
    have hl : List.length L = List.length L' := h.1
    refine ⟨xs, by rw [← hl]; exact h1, rows_dn (fun s s' c hs hc => ?_) h h2⟩
    obtain ⟨e, d, l, p, y, r, he, q1, q2, q3, q4, q5, q6⟩ := hc
    refine ⟨e, d, l, p, y, r, ?_, ?_, ?_, ?_, ?_, ?_, regs_dn (fun r r' u => mem_dn k r r' u) hs.regions q6⟩
    · rw [he, hs.name, hs.first, hs.last]
    · rw [← hs.enter]; exact q1
    · rw [← hs.during]; exact q2
    · rw [← hs.leave]; exact q3
    · rw [← hs.rests]; exact q4
    · rw [← hs.ways]; exact q5
theorem fresh_row {w : World} {g e k : Nat} {cs : List Value} (hg : w.heap[g]? = some (.cells cs.toArray e (0, 0))) (hk : cs.length = k) : w.ownsRow 0 e k (.slice (some ⟨g, 0, none⟩) 1 1) 1 cs := by
  refine ⟨by rw [hk, Nat.one_mul], .inr ⟨g, 1, cs.toArray, rfl, Nat.zero_le _, hg, Nat.le_refl _, by unfold maxLen; omega, by simp [hk], ?_⟩⟩
  rw [Nat.one_mul, ← hk]; simp
theorem nil_row (A : Nat → Prop) (w : World) (e k : Nat) : Row A w e k (.slice none 0 0) 0 [] := ⟨World.ownsRow_nil _ _ _ _, fun g hg => by cases hg⟩
theorem wrap_mem {A : Nat → Prop} {w : World} {c : Chart} {rs : List (List (St 5))} {S a v : Value} {ge gs gr : Nat} (hd : L2r (DnK 5) c.regions rs) (hC : IsChart A w c (.agg #[S, a, v])) (hA : A ge ∧ A gs ∧ A gr)
    (he : w.heap[ge]? = some (.cells #[.int .i64 1, .int .i64 1, .string ⟨#[]⟩, .pointer none, .pointer none] 53 (0, 0)))
    (hs : w.heap[gs]? = some (.cells #[.string ⟨#[119]⟩, .bool true, .bool false, .slice none 0 0, .slice none 0 0, .slice none 0 0, .pointer (some ⟨ge, 0, none⟩), .slice none 0 0, v] 57 (0, 0)))
    (hr : w.heap[gr]? = some (.cells #[.slice (some ⟨gs, 0, none⟩) 1 1] 58 (0, 0))) : IsChart A w (wrapC c rs) (.agg #[S, a, .slice (some ⟨gr, 0, none⟩) 1 1]) := by
  obtain ⟨b1, b2, b3, b4, b5, b6, e1, hV, hR⟩ := hC
  have hR' : IsRegs A w (IsStates A w 6) c.regions v := by
    injection e1 with e1
    simp at e1
    obtain ⟨_, _, rfl⟩ := e1
    exact hR
  have hin : IsRegs A w (IsStates A w 5) rs v := regs_dn (fun r r' u => mem_dn 5 r r' u) hd hR'
  have hst : IsStates A w 6 ([wrapS rs] : List (StF (St 5))) (.slice (some ⟨gs, 0, none⟩) 1 1) :=
    ⟨_, ⟨fresh_row hs rfl, fun g hg => by injection hg with hg; rw [← hg]; exact hA.2.1⟩, Rows.one ⟨_, _, _, _, _, _, rfl, ⟨[], nil_row _ _ _ _, rfl⟩, ⟨[], nil_row _ _ _ _, rfl⟩, ⟨[], nil_row _ _ _ _, rfl⟩, ⟨ge, .pointer none, .pointer none, rfl, hA.1, he, rfl, rfl⟩, ⟨[], nil_row _ _ _ _, rfl⟩, hin⟩⟩
  have e2 : (Value.agg #[S, a, .slice (some ⟨gr, 0, none⟩) 1 1]) = .agg #[sv c.name, .slice b1 b2 b3, .slice (some ⟨gr, 0, none⟩) 1 1] := by
    injection e1 with e1
    simp at e1
    obtain ⟨rfl, rfl, _⟩ := e1
    rfl
  exact ⟨b1, b2, b3, _, _, _, e2, hV, ⟨_, ⟨fresh_row hr rfl, fun g hg => by injection hg with hg; rw [← hg]; exact hA.2.2⟩, Rows.one ⟨_, rfl, hst⟩⟩⟩
/-- ticks -/
def wrapD (ds : List (Rd 5)) : Rd 6 := (⟨some 0, none, [⟨[], ds⟩]⟩ : RdF (Rd 5))
theorem allI_enter {was : Env} {rs : List (List (St 6))} : ∀ (fu i : Nat) (n : Env) (ds : List (Rd 6)), (∀ (j : Nat) (d : Rd 6), i ≤ j → ds[j]? = some d → (show RdF (Rd 5) from d).there = none) → allI (tickG was) rs fu i n ds = allI ((OpsK 6).enter was false) rs fu i n ds := by
  intro fu
  induction fu with
  | zero => intro i n ds _; rfl
  | succ fu ih =>
    intro i n ds h
    rw [allI, allI]
    cases hr : rs[i]? with
    | none => rfl
    | some r =>
      cases hd : ds[i]? with
      | none => rfl
      | some d =>
        simp only
        have e : tickG was r n d = (OpsK 6).enter was false r n d := by unfold tickG; rw [if_pos (h i d (Nat.le_refl _) hd)]
        rw [e]
        cases (OpsK 6).enter was false r n d with
        | none => rfl
        | some p =>
          simp only
          exact ih (i + 1) p.1 _ fun j d' hj hd' => by
            rw [List.getElem?_set, if_neg (by omega)] at hd'
            exact h j d' (by omega) hd'
theorem wrap_enter {was n : Env} {rs : List (List (St 5))} {ds : List (Rd 5)} {p : Env × List (Rd 5)} (h : allI ((OpsK 5).enter was false) rs rs.length 0 n ds = some p) : enterR (OpsK 5) was false [wrapS rs] n ⟨none, none, [⟨[], ds⟩]⟩ = some (p.1, ⟨some 0, none, [⟨[], p.2⟩]⟩) := by
  have ha : arriveR (OpsK 5) was [wrapS rs] 0 false n ⟨none, none, [⟨[], ds⟩]⟩ = some (none, p.1, ⟨some 0, none, [⟨[], p.2⟩]⟩) := by
    unfold arriveR
    simp only [List.getElem?_cons_zero]
    have ho : opnW (overs (OpsK 5) (wrapS rs).regions ds) (doS was (wrapS rs).enter n) was askNS (wrapS rs).ways (List.replicate (wrapS rs).ways.length 0) = (none, []) := rfl
    have h' : allI ((OpsK 5).enter was false) (wrapS rs).regions (wrapS rs).regions.length 0 (doS was (wrapS rs).enter n) ds = some p := h
    simp only [ho, h']
    rfl
  show enterAt (OpsK 5) was [wrapS rs] 0 false n ⟨none, none, [⟨[], ds⟩]⟩ = _
  unfold enterAt
  rw [ha]
  rfl
theorem allI_1 {σ ρ : Type} {f : List σ → Env → ρ → Option (Env × ρ)} {r : List σ} {n n' : Env} {d d' : ρ} (h : f r n d = some (n', d')) : allI f [r] 1 0 n [d] = some (n', [d']) := by
  rw [allI]
  simp [h, allI]
theorem wrap_first {c : Chart} {rs : List (List (St 5))} (hd : L2r (DnK 5) c.regions rs) {ins : List Int} {r : Rn} (ht : tickC c ins (newC c) = some r) : ∃ ds, tickC (wrapC c rs) ins (newC (wrapC c rs)) = some ⟨r.now, r.now, [wrapD ds]⟩ ∧ thereC (wrapC c rs) ⟨r.now, r.now, [wrapD ds]⟩ = [119] :: thereC c r := by
  obtain ⟨p, hp, rfl⟩ := tickC_cases ht
  have hp : allI (tickG (firstE c.vars)) c.regions c.regions.length 0 (hearE c.vars ins (firstE c.vars)) (c.regions.map (layD 6)) = some p := hp
  rw [allI_enter _ _ _ _ (fun j d _ hj => by
    obtain ⟨L, _, rfl⟩ := map_at hj
    rfl)] at hp
  have hsim := allI_sim' (Z := fun n n' => n = n') (R := RdK 5) (fun r r' n n' d d' h1 h2 h3 => (opsK_dn 5).enter (firstE c.vars) (firstE c.vars) false r r' n n' d d' h1 rfl h2 h3) hd (n := hearE c.vars ins (firstE c.vars)) rfl (hd.map (Q := RdK 5) fun a b h => lay_dn 5 a b h)
  rcases hsim.out with ⟨e1, _⟩ | ⟨q, q', e1, e2, h1, h2⟩
  · rw [hp] at e1; exact absurd e1 (by simp)
  · rw [hp] at e1
    injection e1 with e1
    subst e1
    refine ⟨q'.2, ?_, ?_⟩
    · have hg : tickG (firstE c.vars) ([wrapS rs] : List (StF (St 5))) (hearE c.vars ins (firstE c.vars)) (layD 6 ([wrapS rs] : List (StF (St 5)))) = some (p.1, wrapD q'.2) := by
        show enterR (OpsK 5) (firstE c.vars) false [wrapS rs] (hearE c.vars ins (firstE c.vars)) ⟨none, none, [⟨[], rs.map (layD 5)⟩]⟩ = some (p.1, (⟨some 0, none, [⟨[], q'.2⟩]⟩ : RdF (Rd 5)))
        rw [wrap_enter e2, h1]
      have ha : allI (tickG (firstE c.vars)) (wrapC c rs).regions (wrapC c rs).regions.length 0 (hearE c.vars ins (firstE c.vars)) (newC (wrapC c rs)).ds = some (p.1, [wrapD q'.2]) := allI_1 hg
      unfold tickC
      show (match allI (tickG (firstE c.vars)) (wrapC c rs).regions (wrapC c rs).regions.length 0 (hearE c.vars ins (firstE c.vars)) (newC (wrapC c rs)).ds with | none => none | some p => some (⟨p.1, p.1, p.2⟩ : Rn)) = _
      rw [ha]
    · show ([119] :: (List.zipWith (thereK 5) rs q'.2).flatten) ++ [] = _
      rw [List.append_nil, ← flat_dn (fun r r' y y' => there_dn 5 r r' y y') hd h2]
      rfl
theorem wrap_rest (c : Chart) (rs : List (List (St 5))) (ins : List Int) (n w : Env) (ds : List (Rd 5)) : tickC (wrapC c rs) ins ⟨n, w, [wrapD ds]⟩ = some ⟨hearE c.vars ins n, hearE c.vars ins n, [wrapD ds]⟩ := by kernel_rfl
end Px
end Go.Proofs.YtecbilopliblpaaGreatDoor
