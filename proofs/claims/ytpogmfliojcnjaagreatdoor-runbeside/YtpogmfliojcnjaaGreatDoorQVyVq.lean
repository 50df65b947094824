import Derived.Test.YtpogmfliojcnjaaGreatDoorQVbVp
import Derived.Test.YtpogmfliojcnjaaGreatDoorQKj0
namespace Go.Proofs.YtpogmfliojcnjaaGreatDoor
open Go.RowKit Px
namespace Px
section
variable {σ σ' ρ ρ' : Type}
theorem L2r.same {α : Type} {P : α → α → Prop} (h : ∀ a, P a a) (l : List α) : L2r P l l := ⟨rfl, fun i a b ha hb => by rw [ha] at hb; injection hb with hb; rw [← hb]; exact h a⟩
theorem SimOps.mono {Z : Env → Env → Prop} {O : Ops σ ρ} {O' : Ops σ' ρ'} {G G2 : List σ → List σ' → Prop} {R : ρ → ρ' → Prop} (h : SimOps Z O O' G R) (hG : ∀ L L', G2 L L' → G L L') : SimOps Z O O' G2 R :=
 ⟨fun L L' d d' hg => h.over L L' d d' (hG L L' hg), fun was was' b L L' n n' d d' hg => h.enter was was' b L L' n n' d d' (hG L L' hg), fun was was' L L' n n' d d' hg => h.go was was' L L' n n' d d' (hG L L' hg), fun was was' L L' n n' d d' hg => h.leave was was' L L' n n' d d' (hG L L' hg)⟩
end
theorem map_at {α β : Type} {f : α → β} {l : List α} {i : Nat} {y : β} (h : (l.map f)[i]? = some y) : ∃ a, l[i]? = some a ∧ y = f a := by
 rw [List.getElem?_map] at h
 cases hl : l[i]? with
 | none => rw [hl] at h; exact absurd h (by simp)
 | some a => rw [hl] at h; simp at h; exact ⟨a, rfl, h.symm⟩
theorem L2r.map {α β α' β' : Type} {P : α → β → Prop} {Q : α' → β' → Prop} {f : α → α'} {g : β → β'} {l : List α} {m : List β} (h : L2r P l m) (hf : ∀ a b, P a b → Q (f a) (g b)) : L2r Q (l.map f) (m.map g) := by
 refine ⟨by rw [List.length_map, List.length_map]; exact h.1, fun i x y hx hy => ?_⟩
 obtain ⟨a, ha, rfl⟩ := map_at hx
 obtain ⟨b, hb, rfl⟩ := map_at hy
 exact hf a b (h.2 i a b ha hb)
theorem flat_dn {α β α' β' : Type} {f : α → β → List Str} {f' : α' → β' → List Str} {P : α → α' → Prop} {Q : β → β' → Prop} (h : ∀ a a' b b', P a a' → Q b b' → f a b = f' a' b') : ∀ {l : List α} {l' : List α'} {m : List β} {m' : List β'}, L2r P l l' → L2r Q m m' → (List.zipWith f l m).flatten = (List.zipWith f' l' m').flatten
 | [], [], _, _, _, _ => by simp
 | [], _ :: _, _, _, h, _ => by have := h.1; simp at this
 | _ :: _, [], _, _, h, _ => by have := h.1; simp at this
 | _ :: _, _ :: _, [], [], _, _ => by simp
 | _ :: _, _ :: _, [], _ :: _, _, h => by have := h.1; simp at this
 | _ :: _, _ :: _, _ :: _, [], _, h => by have := h.1; simp at this
 | a :: l, a' :: l', b :: m, b' :: m', k1, k2 => by
  rw [List.zipWith_cons_cons, List.zipWith_cons_cons, List.flatten_cons, List.flatten_cons, h a a' b b' k1.cons.1 k2.cons.1, flat_dn h k1.cons.2 k2.cons.2]
end Px
end Go.Proofs.YtpogmfliojcnjaaGreatDoor
namespace Go.Proofs.YtpogmfliojcnjaaGreatDoor
open Go.RowKit Px
namespace Px
section
variable {σ σ' : Type} {D : List σ → List σ' → Prop} {vs : List Decl} {R : List σ → Nat → Res} {R' : List σ' → Nat → Res}
theorem regsE_dn (hR : ∀ r r' n m, D r r' → R r n = .ok m → R' r' n = .ok m) : ∀ {rs : List (List σ)} {rs' : List (List σ')} {n m : Nat}, L2r D rs rs' → regsE R rs n = .ok m → regsE R' rs' n = .ok m
 | [], [], _, _, _, h => h
 | [], _ :: _, _, _, h, _ => by have := h.1; simp at this
 | _ :: _, [], _, _, h, _ => by have := h.1; simp at this
 | r :: rs, r' :: rs', n, m, h, k => by
  rw [regsE] at k ⊢
  cases hr : R r n with
  | error x => rw [hr] at k; exact absurd k (by simp)
  | ok q =>
   rw [hr] at k
   rw [hR r r' n q h.cons.1 hr]
   exact regsE_dn hR h.cons.2 k
theorem firsts_map (L : List (StF σ)) : firsts L = ((L.map (·.first)).filter id).length := by
 unfold firsts
 rw [List.filter_map, List.length_map]
 rfl
theorem regsE_up (hR : ∀ r n m, R r n = .ok m → R r (n + 1) = .ok (m + 1)) : ∀ {rs : List (List σ)} {n m : Nat}, regsE R rs n = .ok m → regsE R rs (n + 1) = .ok (m + 1)
 | [], n, m, h => by
  rw [regsE] at h ⊢
  injection h with h
  rw [h]
 | r :: rs, n, m, k => by
  rw [regsE] at k ⊢
  cases hr : R r n with
  | error x => rw [hr] at k; exact absurd k (by simp)
  | ok q =>
   rw [hr] at k
   rw [hR r n q hr]
   exact regsE_up hR k
theorem statesE_up (hR : ∀ r n m, R r n = .ok m → R r (n + 1) = .ok (m + 1)) {ns : List Str} : ∀ {L : List (StF σ)} {i n m : Nat}, statesE vs R ns L i n = .ok m → statesE vs R ns L i (n + 1) = .ok (m + 1)
 | [], i, n, m, h => by
  rw [statesE] at h ⊢
  injection h with h
  rw [h]
 | s :: L, i, n, m, k => by
  rw [statesE] at k ⊢
  split at k
  ·exact absurd k (by simp)
  ·rename_i h0
   rw [if_neg h0]
   cases hr : regsE R s.regions (n + 1) with
   | error x => rw [hr] at k; exact absurd k (by simp)
   | ok q =>
    rw [hr] at k
    rw [regsE_up hR hr]
    exact statesE_up hR k
theorem regF_up (hR : ∀ r n m, R r n = .ok m → R r (n + 1) = .ok (m + 1)) {L : List (StF σ)} {n m : Nat} (k : regF vs R L n = .ok m) : regF vs R L (n + 1) = .ok (m + 1) := by
 unfold regF at k ⊢
 cases hs : statesE vs R (snames L) L 0 n with
 | error x => rw [hs] at k; exact absurd k (by simp)
 | ok q =>
  rw [hs] at k
  rw [statesE_up hR hs]
  simp only at k ⊢
  split at k
  ·exact absurd k (by simp)
  ·rename_i h0
   rw [if_neg h0]
   injection k with k
   rw [k]
end
theorem regE_up {vs : List Decl} : ∀ (k : Nat) (L : List (St k)) (n m : Nat), regE vs k L n = .ok m → regE vs k L (n + 1) = .ok (m + 1)
 | 0, _, _, _, h => by simp [regE] at h
 | k + 1, _, _, _, h => regF_up (regE_up k) h
end Px
end Go.Proofs.YtpogmfliojcnjaaGreatDoor
namespace Go.Proofs.YtpogmfliojcnjaaGreatDoor
open Go.RowKit Px
namespace Px
def BeE (φ : Str → Str) : E → E → Prop
 | .nil, .nil => True
 | .node _ _ a l r, .node _ _ a' l' r' => a'.code = a.code ∧ a'.num = a.num ∧ (a.code = 2 ∨ a.code = 3 → a'.name = φ a.name) ∧ BeE φ l l' ∧ BeE φ r r'
 | _, _ => False
structure BeA (φ : Str → Str) (a a' : Asg) : Prop where
 name : a'.name = φ a.name
 e : BeE φ a.e a'.e
structure BeW (φ : Str → Str) (y y' : Wy) : Prop where
 kind : y.kind = y'.kind
 now : y.now = y'.now
 times : y.times = y'.times
 back : y.back = y'.back
 goes : y.to = y'.to
 cond : BeE φ y.cond y'.cond
 sets : L2r (BeA φ) y.sets y'.sets
structure BeS {σ σ' : Type} (φ : Str → Str) (D : List σ → List σ' → Prop) (s : StF σ) (s' : StF σ') : Prop where
 name : s.name = s'.name
 first : s.first = s'.first
 last : s.last = s'.last
 enter : L2r (BeA φ) s.enter s'.enter
 during : L2r (BeA φ) s.during s'.during
 leave : L2r (BeA φ) s.leave s'.leave
 rests : BeE φ s.rests s'.rests
 ways : L2r (BeW φ) s.ways s'.ways
 regions : L2r D s.regions s'.regions
def BeK (φ : Str → Str) : (k : Nat) → List (St k) → List (St k) → Prop
 | 0 => fun _ _ => True
 | k + 1 => fun L L' => L2r (BeS φ (BeK φ k)) (show List (StF (St k)) from L) (show List (StF (St k)) from L')
def Zb (φ : Str → Str) (ns : List Str) (n n' : Env) : Prop := ∀ s ∈ ns, n' (φ s) = n s
theorem mem_fnd {ns : List Str} {s : Str} (h : s ∈ ns) : (fnd ns s).isNone = false := by
 cases hf : fnd ns s with
 | some i => rfl
 | none =>
  obtain ⟨j, hj, e⟩ := List.getElem_of_mem h
  exact absurd (by rw [List.getD_eq_getElem?_getD, List.getElem?_eq_getElem hj, e]; rfl) (fnd_none hf j hj)
section
variable {φ : Str → Str} {ns : List Str}
theorem be_no : ∀ {e e' : E}, BeE φ e e' → noE e = noE e'
 | .nil, .nil, _ => rfl
 | .node .., .node .., _ => rfl
 | .nil, .node .., h => absurd h id
 | .node .., .nil, h => absurd h id
theorem be_ev {n n' w w' : Env} (hn : Zb φ ns n n') (hw : Zb φ ns w w') : ∀ {e e' : E}, BeE φ e e' → strangeE ns e = false → evE n w e = evE n' w' e'
 | .nil, .nil, _, _ => rfl
 | .nil, .node .., h, _ => absurd h id
 | .node .., .nil, h, _ => absurd h id
 | .node _ _ a l r, .node _ _ a' l' r', ⟨h1, h2, h3, h4, h5⟩, hs => by
  rw [evE, evE, h1, h2]
  rw [strangeE] at hs
  by_cases e1 : a.code = 1
  ·rw [if_pos e1, if_pos e1]
  ·rw [if_neg e1] at hs
   rw [if_neg e1, if_neg e1]
   by_cases e2 : a.code = 2
   ·rw [if_pos (.inl e2)] at hs
    rw [if_pos e2, if_pos e2, h3 (.inl e2)]
    exact (hn _ (fnd_mem hs)).symm
   ·rw [if_neg e2, if_neg e2]
    by_cases e3 : a.code = 3
    ·rw [if_pos (.inr e3)] at hs
     rw [if_pos e3, if_pos e3, h3 (.inr e3)]
     exact (hw _ (fnd_mem hs)).symm
    ·rw [if_neg e3, if_neg e3]
     rw [if_neg (by rintro (h | h); exact e2 h; exact e3 h)] at hs
     by_cases e4 : a.code = 4 ∨ a.code = 5
     ·rw [if_pos e4] at hs
      rw [if_pos e4, if_pos e4, be_ev hn hw h4 hs]
     ·rw [if_neg e4, Bool.or_eq_false_iff] at hs
      rw [if_neg e4, if_neg e4, be_ev hn hw h4 hs.1, be_ev hn hw h5 hs.2]
theorem be_upd (hφ : ∀ s t, φ s = φ t → s = t) {n n' : Env} (hn : Zb φ ns n n') (s : Str) (x : Int) : Zb φ ns (updE n s x) (updE n' (φ s) x) := fun t ht => by
 unfold updE
 by_cases e : s = t
 ·rw [if_pos e, if_pos (by rw [e])]
 ·rw [if_neg e, if_neg (fun h => e (hφ _ _ h)), hn t ht]
theorem be_do (hφ : ∀ s t, φ s = φ t → s = t) {vs : List Decl} : ∀ {l l' : List Asg}, L2r (BeA φ) l l' → setsE vs l = 0 → SetsS (Zb φ (vnames vs)) l l'
 | [], [], _, _ => fun _ _ _ _ _ hn => hn
 | [], _ :: _, h, _ => by have := h.1; simp at this
 | _ :: _, [], h, _ => by have := h.1; simp at this
 | a :: l, a' :: l', h, hs => fun w w' n n' hw hn => by
  have h0 := setsE_mem hs a (List.mem_cons_self ..)
  have hl : setsE vs l = 0 := by
   rw [setsE, if_neg (by simp [h0])] at hs
   exact hs
  have hst : strangeE (vnames vs) a.e = false := by
   unfold setE at h0
   split at h0
   ·simp at h0
   ·rename_i hx
    simp only [Bool.or_eq_true, not_or, Bool.not_eq_true] at hx
    exact hx.2
  rw [doS, doS, h.cons.1.name, be_ev hn hw h.cons.1.e hst]
  exact be_do hφ h.cons.2 hl w w' _ _ hw (be_upd hφ hn _ _)
end
theorem aloneE_rests {ρ : Type} {vs : List Decl} {ns : List Str} {s : StF ρ} (h : aloneE vs ns s = 0) : strangeE (vnames vs) s.rests = false ∧ waysE vs ns (decide (0 < s.regions.length)) s.ways = 0 ∧ (s.last && (decide (0 < s.ways.length) || decide (0 < s.regions.length))) = false := by
 unfold aloneE at h
 split at h
 ·simp at h
 ·rename_i h0
  split at h
  ·rename_i hx; exact absurd h hx
  ·split at h
   ·rename_i hx; exact absurd h hx
   ·split at h
    ·rename_i hx; exact absurd h hx
    ·split at h
     ·simp at h
     ·rename_i hx
      exact ⟨by simpa using hx, h, by simpa using h0⟩
theorem wayE_cond {vs : List Decl} {ns : List Str} {b : Bool} {y : Wy} (h : wayE vs ns b y = 0) : strangeE (vnames vs) y.cond = false := by
 unfold wayE at h
 split at h
 ·simp at h
 ·split at h
  ·simp at h
  ·split at h
   ·simp at h
   ·rename_i hx; simpa using hx
def GdB (φ : Str → Str) (vs : List Decl) (k : Nat) (L L' : List (St k)) : Prop := BeK φ k L L' ∧ ∃ n m, regE vs k L n = .ok m
theorem L2r.nameB {σ σ' : Type} {φ : Str → Str} {D : List σ → List σ' → Prop} : ∀ {L : List (StF σ)} {L' : List (StF σ')}, L2r (BeS φ D) L L' → snames L = snames L'
 | [], [], _ => rfl
 | [], _ :: _, h => by have := h.1; simp at this
 | _ :: _, [], h => by have := h.1; simp at this
 | s :: L, s' :: L', h => by
  have := L2r.nameB h.cons.2
  unfold snames at *
  rw [List.map_cons, List.map_cons, h.cons.1.name, this]
theorem reg_parts {vs : List Decl} {k : Nat} {L : List (StF (St k))} {n m : Nat} (h : regF vs (regE vs k) L n = .ok m) : ∀ s ∈ L, (∃ i, stateE vs (snames L) i s = 0) ∧ ∀ r ∈ s.regions, ∃ n m, regE vs k r n = .ok m := fun s hs => by
 unfold regF at h
 split at h
 ·exact absurd h (by simp)
 ·rename_i m' hm'
  obtain ⟨hi, n', m'', hq⟩ := statesE_ok hm' s hs
  exact ⟨hi, fun r hr => regsE_ok hq r hr⟩
theorem stateE_alone {ρ : Type} {vs : List Decl} {ns : List Str} {i : Nat} {s : StF ρ} (h : stateE vs ns i s = 0) : aloneE vs ns s = 0 := by
 unfold stateE at h
 split at h
 ·simp at h
 ·exact h
theorem be_gs {φ : Str → Str} (hφ : ∀ s t, φ s = φ t → s = t) {vs : List Decl} {k : Nat} {L L' : List (StF (St k))} (h : L2r (BeS φ (BeK φ k)) L L') {n m : Nat} (hr : regF vs (regE vs k) L n = .ok m) : GS (Zb φ (vnames vs)) (GdB φ vs k) L L' := by
 have hp := reg_parts hr
 refine ⟨⟨h.1, fun i s s' h1 h2 => ?_⟩, fun i j s s' y y' h1 h2 k1 k2 => ?_⟩
 ·have hs := h.2 i s s' h1 h2
  have hm := List.mem_of_getElem? h1
  obtain ⟨⟨i', hi⟩, hin⟩ := hp s hm
  have ha := stateE_alone hi
  obtain ⟨a1, a2, a3, _⟩ := aloneE_parts ha
  obtain ⟨b1, b2, _⟩ := aloneE_rests ha
  refine ⟨hs.first, hs.last, be_do hφ hs.enter a1, be_do hφ hs.during a2, be_do hφ hs.leave a3, fun n n' w w' hn hw => be_ev hn hw hs.rests b1, ⟨hs.ways.1, fun j y y' k1 k2 => ?_⟩, ⟨hs.regions.1, fun j r r' k1 k2 => ⟨hs.regions.2 j r r' k1 k2, hin r (List.mem_of_getElem? k1)⟩⟩⟩
  have hy := hs.ways.2 j y y' k1 k2
  have hw0 := waysE_mem b2 y (List.mem_of_getElem? k1)
  exact ⟨hy.kind, hy.now, hy.times, hy.back, be_no hy.cond, fun n n' w w' hn hw => be_ev hn hw hy.cond (wayE_cond hw0), be_do hφ hy.sets (wayE_sets hw0)⟩
 ·rw [← L2r.nameB h, ((h.2 i s s' h1 h2).ways.2 j y y' k1 k2).goes]
def RdB : (k : Nat) → Rd k → Rd k → Prop
 | 0 => fun _ _ => True
 | k + 1 => fun d d' => RS2 (RdB k) (show RdF (Rd k) from d) (show RdF (Rd k) from d')
theorem opsK_be {φ : Str → Str} (hφ : ∀ s t, φ s = φ t → s = t) (vs : List Decl) : ∀ k, SimOps (Zb φ (vnames vs)) (OpsK k) (OpsK k) (GdB φ vs k) (RdB k)
 | 0 => ⟨fun _ _ _ _ _ _ => rfl, fun _ _ _ _ _ _ _ _ _ _ _ hn _ => ⟨hn, trivial⟩, fun _ _ _ _ _ _ _ _ _ _ hn _ => ⟨hn, trivial⟩, fun _ _ _ _ _ _ _ _ _ _ hn _ => ⟨hn, trivial⟩⟩
 | k + 1 => (opsF_sim (opsK_be hφ vs k)).mono fun _ _ ⟨h, _, _, hr⟩ => be_gs hφ h hr
theorem tickG_be {φ : Str → Str} (hφ : ∀ s t, φ s = φ t → s = t) (vs : List Decl) {was was' : Env} (hw : Zb φ (vnames vs) was was') (L L' : List (St 6)) (n n' : Env) (d d' : Rd 6) (h1 : GdB φ vs 6 L L') (h2 : Zb φ (vnames vs) n n') (h3 : RdB 6 d d') : Sim2 (fun p p' => Zb φ (vnames vs) p.1 p'.1 ∧ RdB 6 p.2 p'.2) (tickG was L n d) (tickG was' L' n' d') := by
 unfold tickG
 have ht : (show RdF (Rd 5) from d).there = (show RdF (Rd 5) from d').there := h3.there
 by_cases h0 : (show RdF (Rd 5) from d).there = none
 ·rw [if_pos h0, if_pos (by rw [← ht]; exact h0)]
  exact (opsK_be hφ vs 6).enter was was' false L L' n n' d d' h1 hw h2 h3
 ·rw [if_neg h0, if_neg (by rw [← ht]; exact h0)]
  exact (opsK_be hφ vs 6).go was was' L L' n n' d d' h1 hw h2 h3
theorem lay_be1 {φ : Str → Str} {k : Nat} (ih : ∀ L L' : List (St k), BeK φ k L L' → RdB k (layD k L) (layD k L')) {L L' : List (StF (St k))} (h : L2r (BeS φ (BeK φ k)) L L') : RS2 (RdB k) ⟨none, none, L.map fun s => ⟨s.ways.map fun _ => 0, s.regions.map (layD k)⟩⟩ ⟨none, none, L'.map fun s => ⟨s.ways.map fun _ => 0, s.regions.map (layD k)⟩⟩ :=
 ⟨rfl, rfl, h.map fun s s' hs => ⟨by show List.map (fun _ => (0 : Int)) s.ways = List.map (fun _ => (0 : Int)) s'.ways; rw [List.map_const', List.map_const', hs.ways.1], hs.regions.map fun r r' hr => ih r r' hr⟩⟩
theorem lay_be {φ : Str → Str} : ∀ (k : Nat) (L L' : List (St k)), BeK φ k L L' → RdB k (layD k L) (layD k L')
 | 0, _, _, _ => trivial
 | k + 1, _, _, h => lay_be1 (lay_be k) h
theorem there_be1 {φ : Str → Str} {k : Nat} (ih : ∀ (L L' : List (St k)) (d d' : Rd k), BeK φ k L L' → RdB k d d' → thereK k L d = thereK k L' d') {L L' : List (StF (St k))} {d d' : RdF (Rd k)} (h : L2r (BeS φ (BeK φ k)) L L') (hd : RS2 (RdB k) d d') : thereF (thereK k) L d = thereF (thereK k) L' d' := by
 unfold thereF
 rw [← hd.there]
 cases d.there with
 | none => rfl
 | some i =>
  simp only
  rcases h.or i with ⟨h1, h2⟩ | ⟨s, s', h1, h2, hs⟩
  ·simp only [h1, h2]
  ·rcases hd.sts.or i with ⟨k1, k2⟩ | ⟨x, x', k1, k2, hx⟩
   ·simp only [h1, h2, k1, k2]
   ·simp only [h1, h2, k1, k2]
    rw [hs.name, flat_dn (fun r r' y y' => ih r r' y y') hs.regions hx.2]
theorem there_be {φ : Str → Str} : ∀ (k : Nat) (L L' : List (St k)) (d d' : Rd k), BeK φ k L L' → RdB k d d' → thereK k L d = thereK k L' d'
 | 0, _, _, _, _, _, _ => rfl
 | k + 1, _, _, _, _, h, hd => there_be1 (there_be k) h hd
section
variable {φ : Str → Str} {vs vs' : List Decl}
def HasV (φ : Str → Str) (vs vs' : List Decl) : Prop := ∀ s ∈ vnames vs, φ s ∈ vnames vs' ∧ vkind vs' (φ s) = vkind vs s
theorem be_strange (hV : HasV φ vs vs') : ∀ {e e' : E}, BeE φ e e' → strangeE (vnames vs) e = false → strangeE (vnames vs') e' = false
 | .nil, .nil, _, _ => rfl
 | .nil, .node .., h, _ => absurd h id
 | .node .., .nil, h, _ => absurd h id
 | .node _ _ a l r, .node _ _ a' l' r', ⟨h1, _, h3, h4, h5⟩, hs => by
  rw [strangeE] at hs ⊢
  rw [h1]
  by_cases e1 : a.code = 1
  ·rw [if_pos e1]
  ·rw [if_neg e1] at hs ⊢
   by_cases e2 : a.code = 2 ∨ a.code = 3
   ·rw [if_pos e2] at hs ⊢
    rw [h3 e2]
    exact mem_fnd (hV _ (fnd_mem hs)).1
   ·rw [if_neg e2] at hs ⊢
    by_cases e4 : a.code = 4 ∨ a.code = 5
    ·rw [if_pos e4] at hs ⊢
     exact be_strange hV h4 hs
    ·rw [if_neg e4, Bool.or_eq_false_iff] at hs
     rw [if_neg e4, be_strange hV h4 hs.1, be_strange hV h5 hs.2]; rfl
theorem be_setE (hV : HasV φ vs vs') {a a' : Asg} (h : BeA φ a a') (h0 : setE vs a = 0) : setE vs' a' = 0 := by
 unfold setE at h0 ⊢
 split at h0
 ·simp at h0
 ·rename_i hx
  simp only [Bool.or_eq_true, not_or, Bool.not_eq_true] at hx
  have hm := hV _ (fnd_mem hx.1)
  split at h0
  ·simp at h0
  ·rename_i hk
   rw [h.name, mem_fnd hm.1, be_strange hV h.e hx.2, hm.2, if_neg (by simp), if_neg hk]
theorem be_setsE (hV : HasV φ vs vs') : ∀ {l l' : List Asg}, L2r (BeA φ) l l' → setsE vs l = 0 → setsE vs' l' = 0
 | [], [], _, _ => rfl
 | [], _ :: _, h, _ => by have := h.1; simp at this
 | _ :: _, [], h, _ => by have := h.1; simp at this
 | a :: l, a' :: l', h, hs => by
  have h0 := setsE_mem hs a (List.mem_cons_self ..)
  rw [setsE, if_neg (by simp [h0])] at hs
  rw [setsE, if_neg (by simp [be_setE hV h.cons.1 h0])]
  exact be_setsE hV h.cons.2 hs
theorem be_wayE (hV : HasV φ vs vs') {ns : List Str} {b : Bool} {y y' : Wy} (h : BeW φ y y') (h0 : wayE vs ns b y = 0) : wayE vs' ns b y' = 0 := by
 have hc := wayE_cond h0
 have hs := wayE_sets h0
 unfold wayE at h0 ⊢
 rw [← h.goes, ← h.kind, ← h.now, ← h.times]
 split at h0
 ·simp at h0
 ·rename_i h1
  split at h0
  ·simp at h0
  ·rename_i h2
   rw [if_neg h1, if_neg h2, be_strange hV h.cond hc, if_neg (by simp)]
   exact be_setsE hV h.sets hs
theorem be_waysE (hV : HasV φ vs vs') {ns : List Str} {b : Bool} : ∀ {l l' : List Wy}, L2r (BeW φ) l l' → waysE vs ns b l = 0 → waysE vs' ns b l' = 0
 | [], [], _, _ => rfl
 | [], _ :: _, h, _ => by have := h.1; simp at this
 | _ :: _, [], h, _ => by have := h.1; simp at this
 | a :: l, a' :: l', h, hs => by
  have h0 := waysE_mem hs a (List.mem_cons_self ..)
  rw [waysE, if_neg (by simp [h0])] at hs
  rw [waysE, if_neg (by simp [be_wayE hV h.cons.1 h0])]
  exact be_waysE hV h.cons.2 hs
variable {σ σ' : Type} {D : List σ → List σ' → Prop} {R : List σ → Nat → Res} {R' : List σ' → Nat → Res}
theorem be_stateE (hV : HasV φ vs vs') {ns : List Str} {i : Nat} {s : StF σ} {s' : StF σ'} (h : BeS φ D s s') (h0 : stateE vs ns i s = 0) : stateE vs' ns i s' = 0 := by
 have ha := stateE_alone h0
 obtain ⟨a1, a2, a3, _⟩ := aloneE_parts ha
 obtain ⟨b1, b2, b3⟩ := aloneE_rests ha
 unfold stateE at h0 ⊢
 rw [← h.name]
 split at h0
 ·simp at h0
 ·rename_i hx
  rw [if_neg hx]
  unfold aloneE
  rw [← h.last, ← h.ways.1, ← h.regions.1, b3, be_setsE hV h.enter a1, be_setsE hV h.during a2, be_setsE hV h.leave a3, be_strange hV h.rests b1]
  simp only [Bool.false_eq_true, if_false, ne_eq, not_true_eq_false]
  exact be_waysE hV h.ways b2
theorem be_statesE (hV : HasV φ vs vs') (hR : ∀ r r' n m, D r r' → R r n = .ok m → R' r' n = .ok m) {ns : List Str} : ∀ {L : List (StF σ)} {L' : List (StF σ')} {i n m : Nat}, L2r (BeS φ D) L L' → statesE vs R ns L i n = .ok m → statesE vs' R' ns L' i n = .ok m
 | [], [], _, _, _, _, h => h
 | [], _ :: _, _, _, _, h, _ => by have := h.1; simp at this
 | _ :: _, [], _, _, _, h, _ => by have := h.1; simp at this
 | s :: L, s' :: L', i, n, m, h, k => by
  rw [statesE] at k ⊢
  split at k
  ·exact absurd k (by simp)
  ·rename_i h0
   have h0 : stateE vs ns i s = 0 := by simpa using h0
   rw [if_neg (by simp [be_stateE hV h.cons.1 h0])]
   cases hr : regsE R s.regions (n + 1) with
   | error x => rw [hr] at k; exact absurd k (by simp)
   | ok q =>
    rw [hr] at k
    rw [regsE_dn hR h.cons.1.regions hr]
    exact be_statesE hV hR h.cons.2 k
theorem be_map {α : Type} {f : StF σ → α} {f' : StF σ' → α} (hf : ∀ s s', BeS φ D s s' → f s = f' s') : ∀ {L : List (StF σ)} {L' : List (StF σ')}, L2r (BeS φ D) L L' → L.map f = L'.map f'
 | [], [], _ => rfl
 | [], _ :: _, h => by have := h.1; simp at this
 | _ :: _, [], h => by have := h.1; simp at this
 | s :: L, s' :: L', h => by rw [List.map_cons, List.map_cons, hf s s' h.cons.1, be_map hf h.cons.2]
theorem be_tos {ns : List Str} : ∀ {l l' : List Wy}, L2r (BeW φ) l l' → tosF ns l = tosF ns l'
 | [], [], _ => rfl
 | [], _ :: _, h => by have := h.1; simp at this
 | _ :: _, [], h => by have := h.1; simp at this
 | a :: l, a' :: l', h => by
  have := be_tos (ns := ns) h.cons.2
  unfold tosF at *
  rw [List.map_cons, List.map_cons, h.cons.1.now, h.cons.1.goes, this]
theorem be_whole {L : List (StF σ)} {L' : List (StF σ')} (h : L2r (BeS φ D) L L') : wholeE L = wholeE L' := by
 have h1 : firsts L = firsts L' := by rw [firsts_map, firsts_map, be_map (f := (·.first)) (f' := (·.first)) (fun s s' hs => hs.first) h]
 have h2 : graph L = graph L' := by
  unfold graph
  rw [L2r.nameB h]
  exact be_map (fun s s' hs => be_tos hs.ways) h
 unfold wholeE
 rw [h1, h2]
theorem be_regF (hV : HasV φ vs vs') (hR : ∀ r r' n m, D r r' → R r n = .ok m → R' r' n = .ok m) {L : List (StF σ)} {L' : List (StF σ')} {n m : Nat} (h : L2r (BeS φ D) L L') (k : regF vs R L n = .ok m) : regF vs' R' L' n = .ok m := by
 unfold regF at k ⊢
 cases hs : statesE vs R (snames L) L 0 n with
 | error x => rw [hs] at k; exact absurd k (by simp)
 | ok q =>
  rw [hs] at k
  rw [← L2r.nameB h, be_statesE hV hR h hs, ← be_whole h]
  exact k
theorem be_regE (hV : HasV φ vs vs') : ∀ (k : Nat) (L L' : List (St k)) (n m : Nat), BeK φ k L L' → regE vs k L n = .ok m → regE vs' k L' n = .ok m
 | 0, _, _, _, _, _, h => by simp [regE] at h
 | k + 1, _, _, _, _, h, hk => be_regF hV (be_regE hV k) h hk
end
end Px
end Go.Proofs.YtpogmfliojcnjaaGreatDoor
