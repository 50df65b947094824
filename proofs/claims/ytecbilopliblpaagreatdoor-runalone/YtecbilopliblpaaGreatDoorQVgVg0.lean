/- keep's few, either way; a text that may run, or none. -/
import Derived.Test.YtecbilopliblpaaGreatDoorQVe
import Derived.Test.YtecbilopliblpaaGreatDoorQKs
namespace Go.Proofs.YtecbilopliblpaaGreatDoor
open Go.RowKit Px
namespace Kx
theorem few_no {w : World} {iv : Value} {zss : List (List Int)} (hI : IRws w iv zss) (h : ¬ Few zss) : Calls Tryz.prog 11 #[iv] w fun e w' => e = .returned (.bool false) ∧ w' = w := (few_any hI).mono fun e w' ⟨h', hw⟩ => ⟨by
    rcases h' with ⟨_, hn⟩ | ⟨he, _⟩
    · exact absurd hn h
    · exact he, hw⟩
theorem few_yes {w : World} {iv : Value} {zss : List (List Int)} (hI : IRws w iv zss) (h : Few zss) : Calls Tryz.prog 11 #[iv] w fun e w' => e = .returned (.bool true) ∧ w' = w := (few_any hI).mono fun e w' ⟨h', hw⟩ => ⟨by
    rcases h' with ⟨he, _⟩ | ⟨_, hn⟩
    · exact he
    · exact absurd h hn, hw⟩
/-- a text that may run, or keep's chart says no -/
theorem may_or (s : ByteArray) : (∃ l c, s.size ≤ 1500 ∧ Lx.Ok (bs s) l ∧ chart (fin s l) = .ok c ∧ checkC c = none) ∨ ∀ w, KEnv0 w → Calls Tryz.prog 13 #[.string s] w fun e w' => e = .returned (.tuple #[.agg #[.string ⟨#[]⟩, .slice none 0 0, .slice none 0 0], .bool false]) ∧ Hid (Below w.heap.size w w') := by
  by_cases h : ∃ l c, s.size ≤ 1500 ∧ Lx.Ok (bs s) l ∧ chart (fin s l) = .ok c
  · obtain ⟨l, c, h1, h2, h3⟩ := h
    by_cases hc : checkC c = none
    · exact .inl ⟨l, c, h1, h2, h3, hc⟩
    · refine .inr fun w hv => (chart_drawn h1 hv h2 h3).mono fun e w' h => ?_
      rcases h with ⟨hn, _⟩ | ⟨_, he, hb⟩
      · exact absurd hn hc
      · exact ⟨he, hb⟩
  · exact .inr fun w hv => chart_none hv fun h1 l c h2 => h ⟨l, c, h1, h2.1, h2.2⟩
end Kx
end Go.Proofs.YtecbilopliblpaaGreatDoor
/- What RunAlone asks: inputs are what they were told; plain mathematics. -/
namespace Go.Proofs.YtecbilopliblpaaGreatDoor
open Go.RowKit Px
namespace Px
/-- variables of these names are as they were -/
def Sm (K : Str → Prop) (n n' : Px.Env) : Prop := ∀ s, K s → n' s = n s
theorem Sm.refl (K : Str → Prop) (n : Px.Env) : Sm K n n := fun _ _ => rfl
theorem Sm.trans {K : Str → Prop} {n n' n'' : Px.Env} (h : Sm K n n') (k : Sm K n' n'') : Sm K n n'' := fun s hs => (k s hs).trans (h s hs)
def NoSet (K : Str → Prop) (l : List Asg) : Prop := ∀ a ∈ l, ¬ K a.name
theorem doS_sm {K : Str → Prop} (was : Px.Env) : ∀ {l : List Asg} (n : Px.Env), NoSet K l → Sm K n (doS was l n)
  | [], n, _ => Sm.refl _ _
  | a :: r, n, h => by
    rw [doS]
    refine Sm.trans (fun s hs => ?_) (doS_sm was _ fun b hb => h b (List.mem_cons_of_mem _ hb))
    unfold updE
    rw [if_neg (fun e => h a (List.mem_cons_self ..) (by rw [e]; exact hs))]
section
variable {σ ρ : Type}
structure OpsSm (K : Str → Prop) (O : Ops σ ρ) (G : List σ → Prop) : Prop where
  enter : ∀ was b L n d p, G L → O.enter was b L n d = some p → Sm K n p.1
  go : ∀ was L n d p, G L → O.go was L n d = some p → Sm K n p.1
  leave : ∀ was L n d p, G L → O.leave was L n d = some p → Sm K n p.1
theorem allI_sm {K : Str → Prop} {G : List σ → Prop} {f : List σ → Px.Env → ρ → Option (Px.Env × ρ)} (hf : ∀ r n d p, G r → f r n d = some p → Sm K n p.1) {rs : List (List σ)} (hG : ∀ r ∈ rs, G r) :
    ∀ (fu i : Nat) (n : Px.Env) (ds : List ρ) (p : Px.Env × List ρ), allI f rs fu i n ds = some p → Sm K n p.1 := by
  intro fu
  induction fu with
  | zero => intro i n ds p h; rw [allI] at h; injection h with h; rw [← h]; exact Sm.refl _ _
  | succ fu ih =>
    intro i n ds p h
    rw [allI] at h
    split at h
    · rename_i r d hr hd
      split at h
      · exact absurd h (by simp)
      · rename_i q hq
        exact (hf r n d q (hG r (List.mem_of_getElem? hr)) hq).trans (ih _ _ _ _ h)
    · exact absurd h (by simp)
/-- no state sets such a variable -/
structure NsF (K : Str → Prop) (G : List σ → Prop) (L : List (StF σ)) : Prop where
  en : ∀ s ∈ L, NoSet K s.enter
  du : ∀ s ∈ L, NoSet K s.during
  le : ∀ s ∈ L, NoSet K s.leave
  wy : ∀ s ∈ L, ∀ y ∈ s.ways, NoSet K y.sets
  inn : ∀ s ∈ L, ∀ r ∈ s.regions, G r
variable {K : Str → Prop} {O : Ops σ ρ} {G : List σ → Prop} {L : List (StF σ)} {d : RdF ρ} {was n : Px.Env}
theorem leaveR_sm (hO : OpsSm K O G) (hG : NsF K G L) {p : Px.Env × RdF ρ} (h : leaveR O was L n d = some p) : Sm K n p.1 := by
  unfold leaveR at h
  split at h
  · injection h with h; rw [← h]; exact Sm.refl _ _
  · split at h
    · rename_i s x hs hx
      split at h
      · exact absurd h (by simp)
      · rename_i q hq
        injection h with h
        rw [← h]
        have hm := List.mem_of_getElem? hs
        exact (allI_sm (fun r n d p => hO.leave was r n d p) (hG.inn s hm) _ _ _ _ _ hq).trans (doS_sm was _ (hG.le s hm))
    · exact absurd h (by simp)
theorem arriveR_sm (hO : OpsSm K O G) (hG : NsF K G L) {i : Nat} {b : Bool} {p : Option Nat × Px.Env × RdF ρ} (h : arriveR O was L i b n d = some p) : Sm K n p.2.1 := by
  unfold arriveR at h
  split at h
  · rename_i s x hs hx
    have hm := List.mem_of_getElem? hs
    have h1 : Sm K n (doS was s.enter n) := doS_sm was n (hG.en s hm)
    simp only at h
    split at h
    · injection h with h; rw [← h]; exact h1
    · split at h
      · exact absurd h (by simp)
      · rename_i q hq
        injection h with h
        rw [← h]
        exact h1.trans (allI_sm (fun r n d p => hO.enter was b r n d p) (hG.inn s hm) _ _ _ _ _ hq)
  · exact absurd h (by simp)
theorem passR_sm (hO : OpsSm K O G) (hG : NsF K G L) {p : Option Nat × Px.Env × RdF ρ} (h : passR O was L n d = some p) : Sm K n p.2.1 := by
  unfold passR at h
  split at h
  · exact absurd h (by simp)
  · split at h
    · rename_i s x hs hx
      have hm := List.mem_of_getElem? hs
      simp only at h
      split at h
      · injection h with h; rw [← h]; exact Sm.refl _ _
      · split at h
        · injection h with h; rw [← h]; exact Sm.refl _ _
        · split at h
          · exact absurd h (by simp)
          · rename_i q hq
            injection h with h
            rw [← h]
            exact (doS_sm was n (hG.du s hm)).trans (allI_sm (fun r n d p => hO.go was r n d p) (hG.inn s hm) _ _ _ _ _ hq)
    · exact absurd h (by simp)
theorem takeR_sm (hO : OpsSm K O G) (hG : NsF K G L) {j : Nat} {p : Option Nat × Px.Env × RdF ρ} (h : takeR O was L j n d = some p) : Sm K n p.2.1 := by
  unfold takeR at h
  split at h
  · exact absurd h (by simp)
  · split at h
    · exact absurd h (by simp)
    · rename_i s hs
      split at h
      · exact absurd h (by simp)
      · rename_i y hy
        split at h
        · exact absurd h (by simp)
        · rename_i q hq
          split at h
          · exact absurd h (by simp)
          · exact ((leaveR_sm hO hG hq).trans (doS_sm was _ (hG.wy s (List.mem_of_getElem? hs) y (List.mem_of_getElem? hy)))).trans (arriveR_sm hO hG h)
theorem followR_sm (hO : OpsSm K O G) (hG : NsF K G L) : ∀ (f : Nat) (w : Option Nat) (n : Px.Env) (d : RdF ρ) (p : Px.Env × RdF ρ), followR O was L f w n d = some p → Sm K n p.1 := by
  intro f
  induction f with
  | zero =>
    intro w n d p h
    cases w with
    | none => rw [followR] at h; injection h with h; rw [← h]; exact Sm.refl _ _
    | some j => rw [followR] at h; exact absurd h (by simp)
  | succ f ih =>
    intro w n d p h
    cases w with
    | none => rw [followR] at h; injection h with h; rw [← h]; exact Sm.refl _ _
    | some j =>
      rw [followR] at h
      split at h
      · exact absurd h (by simp)
      · rename_i q hq
        exact (takeR_sm hO hG hq).trans (ih _ _ _ _ h)
theorem enterAt_sm (hO : OpsSm K O G) (hG : NsF K G L) {i : Nat} {b : Bool} {p : Px.Env × RdF ρ} (h : enterAt O was L i b n d = some p) : Sm K n p.1 := by
  unfold enterAt at h
  split at h
  · exact absurd h (by simp)
  · rename_i q hq
    exact (arriveR_sm hO hG hq).trans (followR_sm hO hG _ _ _ _ _ h)
theorem opsF_sm (hO : OpsSm K O G) : OpsSm K (OpsF O) (NsF K G) := by
  refine ⟨fun was b L n d p hG h => ?_, fun was L n d p hG h => ?_, fun was L n d p hG h => leaveR_sm hO hG h⟩
  · have h : enterR O was b L n d = some p := h
    unfold enterR at h
    split at h
    · exact enterAt_sm hO hG h
    · split at h
      · exact absurd h (by simp)
      · exact enterAt_sm hO hG h
  · have h : goR O was L n d = some p := h
    unfold goR at h
    split at h
    · exact absurd h (by simp)
    · rename_i q hq
      exact (passR_sm hO hG hq).trans (followR_sm hO hG _ _ _ _ _ h)
end
def NsK (K : Str → Prop) : (k : Nat) → List (St k) → Prop
  | 0 => fun _ => True
  | k + 1 => NsF K (NsK K k)
theorem opsK_sm (K : Str → Prop) : ∀ k, OpsSm K (OpsK k) (NsK K k)
  | 0 => ⟨fun _ _ _ _ _ p _ h => by have h : some _ = some p := h; injection h with h; rw [← h]; exact Sm.refl _ _, fun _ _ _ _ p _ h => by have h : some _ = some p := h; injection h with h; rw [← h]; exact Sm.refl _ _, fun _ _ _ _ p _ h => by have h : some _ = some p := h; injection h with h; rw [← h]; exact Sm.refl _ _⟩
  | k + 1 => opsF_sm (opsK_sm K k)
theorem tick_sm {K : Str → Prop} {c : Chart} (hG : ∀ r ∈ c.regions, NsK K 6 r) {ins : List Int} {r r' : Rn} (h : tickC c ins r = some r') : Sm K (hearE c.vars ins r.now) r'.now := by
  unfold tickC at h
  split at h
  · exact absurd h (by simp)
  · rename_i p hp
    injection h with h
    rw [← h]
    refine allI_sm (G := NsK K 6) (fun L n d q hG hq => ?_) hG _ _ _ _ _ hp
    unfold tickG at hq
    split at hq
    · exact (opsK_sm K 6).enter _ _ _ _ _ _ hG hq
    · exact (opsK_sm K 6).go _ _ _ _ _ hG hq
/-- the names of inputs -/
def InN (vs : List Decl) (s : Str) : Prop := ∃ v ∈ vs, v.kind = 1 ∧ v.name = s
theorem vkind_of {vs : List Decl} (hd : Dist (vnames vs)) {v : Decl} (hv : v ∈ vs) : vkind vs v.name = v.kind := by
  obtain ⟨i, hi, he⟩ := List.getElem_of_mem hv
  have hl : i < (vnames vs).length := by unfold vnames; rw [List.length_map]; exact hi
  have hf : fnd (vnames vs) v.name = some i := (hd.fnd hl).2 (by unfold vnames; rw [List.getD_eq_getElem?_getD, List.getElem?_map, List.getElem?_eq_getElem hi, he]; rfl)
  unfold vkind fndI
  rw [hf]
  show (vs.getD i decl0).kind = _
  rw [List.getD_eq_getElem?_getD, List.getElem?_eq_getElem hi, he]; rfl
theorem noSet_of {vs : List Decl} (hd : Dist (vnames vs)) {l : List Asg} (h : setsE vs l = 0) : NoSet (InN vs) l := by
  intro a ha ⟨v, hv, hk, hn⟩
  have h1 := setsE_mem h a ha
  unfold setE at h1
  split at h1
  · simp at h1
  · split at h1
    · simp at h1
    · rename_i h2
      rw [← hn, vkind_of hd hv] at h2
      exact h2 hk
theorem stateE_ns {ρ : Type} {vs : List Decl} (hd : Dist (vnames vs)) {ns : List Str} {i : Nat} {s : StF ρ} (h : stateE vs ns i s = 0) : NoSet (InN vs) s.enter ∧ NoSet (InN vs) s.during ∧ NoSet (InN vs) s.leave ∧ ∀ y ∈ s.ways, NoSet (InN vs) y.sets := by
  have h1 : aloneE vs ns s = 0 := by
    unfold stateE at h
    split at h
    · simp at h
    · exact h
  obtain ⟨a1, a2, a3, b, a4⟩ := aloneE_parts h1
  exact ⟨noSet_of hd a1, noSet_of hd a2, noSet_of hd a3, fun y hy => noSet_of hd (wayE_sets (waysE_mem a4 y hy))⟩
/-- behind twiceF -/
theorem dist_of_twice {ns : List Str} : ∀ (f i : Nat), twiceF ns f i = none → ∀ j, i ≤ j → j < i + f → ¬ fndI ns (ns.getD j []) < j := by
  intro f
  induction f with
  | zero => intro i _ j h1 h2; omega
  | succ f ih =>
    intro i h j h1 h2
    rw [twiceF] at h
    split at h
    · exact absurd h (by simp)
    · rename_i hi
      by_cases e : j = i
      · rw [e]; exact hi
      · exact ih (i + 1) h j (by omega) (by omega)
theorem check_dist {c : Chart} (h : checkC c = none) : Dist (vnames c.vars) := by
  unfold checkC at h
  split at h
  · exact absurd h (by simp)
  · rename_i ht
    intro j hj
    unfold vnames at hj
    rw [List.length_map] at hj
    exact dist_of_twice _ 0 ht j (by omega) (by omega)
/-- what is told of inputs -/
theorem hearE_other : ∀ (vs : List Decl) (ins : List Int) (n : Px.Env) (s : Str), ¬ InN vs s → hearE vs ins n s = n s
  | [], _, _, _, _ => rfl
  | v :: r, ins, n, s, h => by
    rw [hearE]
    have hr : ¬ InN r s := fun ⟨u, hu, hk⟩ => h ⟨u, List.mem_cons_of_mem _ hu, hk⟩
    split
    · rename_i hk
      rw [hearE_other r _ _ s hr]
      unfold updE
      rw [if_neg (fun e => h ⟨v, List.mem_cons_self .., hk, e⟩)]
    · exact hearE_other r _ _ s hr
def cntIn (vs : List Decl) : Nat := (vs.filter fun v => decide (v.kind = 1)).length
theorem cntIn_cons (v : Decl) (r : List Decl) : cntIn (v :: r) = (if v.kind = 1 then 1 else 0) + cntIn r := by
  unfold cntIn
  rw [List.filter_cons]
  by_cases h : v.kind = 1
  · simp [h]; omega
  · simp [h]
theorem hearE_at : ∀ (vs : List Decl) (ins : List Int) (n : Px.Env) (j : Nat) (v : Decl), (∀ (i k : Nat) (a b : Decl), vs[i]? = some a → vs[k]? = some b → a.name = b.name → i = k) → vs[j]? = some v → v.kind = 1 → hearE vs ins n v.name = ins.getD (cntIn (vs.take j)) 0
  | [], _, _, j, v, _, h, _ => by simp at h
  | u :: r, ins, n, j, v, hd, h, hk => by
    have hd' : ∀ (i k : Nat) (a b : Decl), r[i]? = some a → r[k]? = some b → a.name = b.name → i = k := fun i k a b ha hb he => by
      have := hd (i + 1) (k + 1) a b (by simpa using ha) (by simpa using hb) he
      omega
    cases j with
    | zero =>
      simp at h
      subst h
      rw [hearE, if_pos hk]
      rw [hearE_other r _ _ u.name (fun ⟨b, hb, _, he⟩ => by
        obtain ⟨i, hi, e⟩ := List.getElem_of_mem hb
        have := hd 0 (i + 1) u b (by simp) (by rw [List.getElem?_cons_succ, List.getElem?_eq_getElem hi, e]) he.symm
        omega)]
      unfold updE
      rw [if_pos rfl]
      cases ins <;> rfl
    | succ j =>
      have h' : r[j]? = some v := by simpa using h
      rw [hearE, List.take_succ_cons, cntIn_cons]
      split
      · rw [hearE_at r ins.tail _ j v hd' h' hk]
        cases ins with
        | nil => simp
        | cons x y => rw [Nat.add_comm]; rfl
      · rw [hearE_at r ins n j v hd' h' hk, Nat.zero_add]
theorem dist_vars {vs : List Decl} (hd : Dist (vnames vs)) : ∀ (i k : Nat) (a b : Decl), vs[i]? = some a → vs[k]? = some b → a.name = b.name → i = k := fun i k a b ha hb he => by
  refine hd.inj (by unfold vnames; rw [List.length_map]; exact (List.getElem?_eq_some_iff.1 ha).1) (by unfold vnames; rw [List.length_map]; exact (List.getElem?_eq_some_iff.1 hb).1) ?_
  unfold vnames
  rw [List.getD_eq_getElem?_getD, List.getElem?_map, ha, List.getD_eq_getElem?_getD, List.getElem?_map, hb]
  exact he
theorem ns_of {vs : List Decl} (hd : Dist (vnames vs)) : ∀ {k : Nat} {l : List (St k)} {n m : Nat}, regE vs k l n = .ok m → NsK (InN vs) k l
  | 0, _, _, _, _ => trivial
  | k + 1, l, n, m, h => by
    have hr := show regF vs (regE vs k) l n = .ok m from h
    have hst : ∃ m', statesE vs (regE vs k) (snames (ρ := St k) l) l 0 n = .ok m' := by
      unfold regF at hr
      split at hr
      · exact absurd hr (by simp)
      · rename_i m' hm'; exact ⟨m', hm'⟩
    obtain ⟨m', hm'⟩ := hst
    have hs : ∀ s ∈ (show List (StF (St k)) from l), (NoSet (InN vs) s.enter ∧ NoSet (InN vs) s.during ∧ NoSet (InN vs) s.leave ∧ ∀ y ∈ s.ways, NoSet (InN vs) y.sets) ∧ ∀ r ∈ s.regions, NsK (InN vs) k r := fun s hs => by
      obtain ⟨⟨i, hi⟩, n', m'', hq⟩ := statesE_ok hm' s hs
      refine ⟨stateE_ns hd hi, fun r hr' => ?_⟩
      obtain ⟨n1, m1, hq'⟩ := regsE_ok hq r hr'
      exact ns_of hd hq'
    exact ⟨fun s h => (hs s h).1.1, fun s h => (hs s h).1.2.1, fun s h => (hs s h).1.2.2.1, fun s h => (hs s h).1.2.2.2, fun s h => (hs s h).2⟩
theorem check_ns {c : Chart} (h : checkC c = none) : ∀ r ∈ c.regions, NsK (InN c.vars) 6 r := by
  have hd := check_dist h
  unfold checkC at h
  split at h
  · exact absurd h (by simp)
  · split at h
    · exact absurd h (by simp)
    · split at h
      · exact absurd h (by simp)
      · rename_i m hm
        intro r hr
        obtain ⟨n, m, hq⟩ := regsE_ok hm r hr
        exact ns_of hd hq
/-- behind a tick inputs are what they were told -/
theorem ins_told {c : Chart} (h : checkC c = none) {ins : List Int} {r r' : Rn} (ht : tickC c ins r = some r') {j : Nat} {v : Decl} (hj : c.vars[j]? = some v) (hk : v.kind = 1) : r'.now v.name = ins.getD (cntIn (c.vars.take j)) 0 := by
  rw [tick_sm (check_ns h) ht v.name ⟨v, List.mem_of_getElem? hj, hk, rfl⟩]
  exact hearE_at _ _ _ _ _ (dist_vars (check_dist h)) hj hk
theorem tellC_all (vs : List Decl) (n : Px.Env) : tellC (fun _ => true) vs n = vs.map fun v => n v.name := by
  unfold tellC
  rw [List.filter_eq_self.2 (fun _ _ => rfl)]
end Px
end Go.Proofs.YtecbilopliblpaaGreatDoor
/- RunAlone: what is there is there once. -/
namespace Go.Proofs.YtecbilopliblpaaGreatDoor
open Go.RowKit Px
namespace Kx
/-- two runners of one chart, in one state -/
structure TwoU (A Q1 Q2 : Nat → Prop) (W wr : World) (c : Chart) (r : Rn) (rb1 rb2 : Nat) (x1 x2 : RnL) : Prop where
  r1 : RnM A wr c r rb1 Q1 x1
  r2 : RnM A wr c r rb2 Q2 x2
  st : StandC c r
  bel : Below W.heap.size W wr
structure TwoQ (A Q1 Q2 : Nat → Prop) (W : World) : Prop where
  q1 : ∀ b, Q1 b → W.heap.size ≤ b
  q2 : ∀ b, Q2 b → W.heap.size ≤ b
  no : ∀ b, Q1 b → ¬ Q2 b
set_option maxRecDepth 100000 in
set_option maxHeartbeats 8000000 in
theorem runAlone_fine {s : ByteArray} {l : List Lx.Tok} {c : Chart} {w : World} {iv : Value} {zss : List (List Int)} (hs : s.size ≤ 1500) (hv : KEnv0 w) (hok : Lx.Ok (bs s) l) (hch : chart (fin s l) = .ok c) (hck : checkC c = none) (hI : IRws w iv zss) (hfew : Few zss) (h64 : ∀ zs ∈ zss, ∀ y ∈ zs, N64 y) :
    Calls Tryz.prog 3 #[.string s, iv] w fun e w' => e = .returned (.bool true) ∧ Hid (Below w.heap.size w w') := by
  have hC := runC hok hch hck
  have hfw : Calls Tryz.prog 11 #[iv] w fun e w' => e = .returned (.bool true) ∧ w' = w := (few_any hI).mono fun e w' ⟨h, hw⟩ => ⟨by
    rcases h with ⟨he, _⟩ | ⟨_, hn⟩
    · exact he
    · exact absurd hfew hn, hw⟩
  have hran := ran_any hv
  have HCH : Hid (∀ W, Below w.heap.size w W → Calls Tryz.prog 13 #[.string s] W fun e w' => ∃ S a n m a' n' m', e = .returned (.tuple #[.agg #[.string S, .slice a n m, .slice a' n' m'], .bool true]) ∧ Hid (IsChart (fun b => W.heap.size < b) w' c (.agg #[.string S, .slice a n m, .slice a' n' m']) ∧ Below W.heap.size W w')) := fun W hb =>
    (chart_drawn hs (hv.up hb) hok hch).mono fun e w' h => by
      rcases h with ⟨_, S, a, n, m, a', n', m', he, hC⟩ | ⟨hne, _⟩
      · exact ⟨S, a, n, m, a', n', m', he, hC⟩
      · exact absurd hck hne
  obtain ⟨iad, ib, io, ic, rfl, hia, hir⟩ := hI
  obtain ⟨N, hN⟩ : ∃ N, N = zss.length := ⟨_, rfl⟩
  rw [← hN] at hfw hia ⊢
  have hN6 : (N : Int) ≤ 9223372036854775807 := by have := hfew.1; omega
  have H : Hid (RunC c ∧ N = zss.length ∧ (0 < N → iad = some ⟨ib, io, none⟩) ∧ (∀ (k : Nat) (zs : List Int), zss[k]? = some zs → ∃ a c, w.cell? ⟨ib, io + k, none⟩ = some (.slice a zs.length c) ∧ INums w (.slice a zs.length c) zs) ∧ (∀ zs ∈ zss, ∀ y ∈ zs, N64 y) ∧ ∀ zs ∈ zss, zs.length ≤ 30) := ⟨hC, hN, hia, hir, h64, hfew.2⟩
  clear hv hok hch hs hck hC hN hia hir h64 hfew
  go_enter Tryz.func3, Tryz.ntmps3
  go_wp2_with fail
  refine hfw.mono ?_
  rintro e w0 ⟨rfl, hw0⟩
  obtain rfl := hw0.symm
  clear hfw
  go_wp2_with fail
  refine hran.mono ?_
  rintro e w1 ⟨rfl, hb1⟩
  clear hran
  have hch := HCH.out w1 hb1.out
  clear HCH
  go_wp2_with fail
  refine hch.mono ?_
  rintro e w2 ⟨S, a, n, m, a', n', m', rfl, h2⟩
  clear hch
  obtain ⟨W2, hW2⟩ : ∃ W2, W2 = w2.alloc (.cells #[.string S, .slice a n m, .slice a' n' m'] 28) := ⟨_, rfl⟩
  obtain ⟨cb, hcb⟩ : ∃ cb, cb = w2.heap.size := ⟨_, rfl⟩
  have hg2 : Below w2.heap.size w2 W2 := by rw [hW2]; exact ck_grown _ _
  have k2 : W2.heap[cb]? = some (.cells #[.string S, .slice a n m, .slice a' n' m'] 28 (0, 0)) := by rw [hW2, hcb]; exact ck_new _ _
  obtain ⟨A, hA⟩ : ∃ A : Nat → Prop, A = fun b => w1.heap.size < b ∧ b < w2.heap.size := ⟨_, rfl⟩
  have hCh : IsChart A W2 c (.agg #[.string S, .slice a n m, .slice a' n' m']) := by rw [hA]; exact chartUp (chart_in h2.out.1) hg2
  have hAW : ∀ b, A b → b < W2.heap.size := fun b hb => by rw [hA] at hb; exact Nat.lt_of_lt_of_le hb.2 hg2.size
  have hn1 := new_run hCh H.out.1 hAW
  have HW : Hid (IsChart A W2 c (.agg #[.string S, .slice a n m, .slice a' n' m']) ∧ (∀ b, A b → b < W2.heap.size) ∧ W2.heap[cb]? = some (.cells #[.string S, .slice a n m, .slice a' n' m'] 28 (0, 0)) ∧ Below w.heap.size w W2) := ⟨hCh, hAW, k2, ck_all (ck_all hb1.out h2.out.2) hg2⟩
  have x0 := cell_row k2 0 (u := .string S) rfl
  have x1 := cell_row k2 1 (u := .slice a n m) rfl
  have x2 := cell_row k2 2 (u := .slice a' n' m') rfl
  clear h2 hg2 k2 hA hCh hAW hb1
  go_upto_region 8 with fail
  rw [← hcb, ← hW2]
  have HCB : Hid (cb = w2.heap.size) := hcb
  clear hcb hW2
  go_wp2_with fail
  refine hn1.mono ?_
  rintro e w3 ⟨rb1, rfl, h3⟩
  clear hn1
  obtain ⟨⟨Q1, x1', hR1, hQ1⟩, hb3⟩ := h3.out
  have hn2 := new_run (chartUp HW.out.1 hb3) H.out.1 (fun b hb => Nat.lt_of_lt_of_le (HW.out.2.1 b hb) hb3.size)
  have y0 := ck_cell hb3 x0
  have y1 := ck_cell hb3 x1
  have y2 := ck_cell hb3 x2
  have HR1 : Hid (RnM A w3 c (newC c) rb1 Q1 x1' ∧ (∀ b, Q1 b → W2.heap.size ≤ b) ∧ Below W2.heap.size W2 w3) := ⟨hR1, hQ1, hb3⟩
  clear h3 hR1 hQ1 hb3 x0 x1 x2
  go_wp2_with fail
  refine hn2.mono ?_
  rintro e w4 ⟨rb2, rfl, h4⟩
  clear hn2 y0 y1 y2
  obtain ⟨⟨Q2, x2', hR2, hQ2⟩, hb4⟩ := h4.out
  have HQ : Hid (TwoQ A Q1 Q2 W2) := ⟨HR1.out.2.1, fun b hb => Nat.le_trans HR1.out.2.2.size (hQ2 b hb), fun b h1 h2 => by have := HR1.out.1.hQ b h1; have := hQ2 b h2; omega⟩
  have H0 : Hid (TwoU A Q1 Q2 W2 w4 c (newC c) rb1 rb2 x1' x2') := ⟨HR1.out.1.below hb4, hR2, new_stands c, ck_all HR1.out.2.2 hb4⟩
  clear h4 hR2 hQ2 hb4 HR1
  go_wp2_with fail
  go_loopg [11] N (fun f i wr => ∃ (k : Nat) (r : Rn), f = N - k ∧ k ≤ N ∧ i = .int .i64 (k : Int) ∧ Hid (TwoU A Q1 Q2 W2 wr c r rb1 rb2 x1' x2'))
  case atStart => exact ⟨0, newC c, by omega, by omega, rfl, H0.out⟩
  case round =>
    obtain ⟨k, r, rfl, hk, rfl, hr⟩ := hrel
    obtain ⟨W, hW⟩ : ∃ W, W = wr := ⟨_, rfl⟩
    subst hW
    by_cases hlt : k < N
    · obtain ⟨zs, hzs⟩ : ∃ zs, zss[k]? = some zs := ⟨zss[k]'(by rw [← H.out.2.1]; exact hlt), by rw [List.getElem?_eq_getElem]⟩
      obtain ⟨ia, icp, ci, hin⟩ := H.out.2.2.2.1 k zs hzs
      have hmz := List.mem_of_getElem? hzs
      have h64 := H.out.2.2.2.2.1 zs hmz
      have hbW : Below w.heap.size w W := ck_all HW.out.2.2.2 hr.out.bel
      have hix := ixM iad ib io N ic k hlt H.out.2.2.1
      obtain ⟨r', ht, hst, hlv⟩ := tick_ok (check_gd H.out.1.ok H.out.1.nm) hr.out.st zs
      have hci := ck_cell hbW ci
      have hT1 := tick_run hr.out.r1 H.out.1.run (hin.below hbW) h64 ht
      obtain ⟨zl, hzl⟩ : ∃ zl, zl = zs.length := ⟨_, rfl⟩
      rw [← hzl] at hci hT1
      have HK : Hid (zl = zs.length ∧ zl ≤ 30 ∧ tickC c zs r = some r' ∧ StandC c r' ∧ (∀ (j : Nat) (L : List (St 6)) (d : Rd 6), c.regions[j]? = some L → r'.ds[j]? = some d → LvK 6 L d) ∧ (∀ y ∈ zs, N64 y) ∧ w.cell? ⟨ib, io + k, none⟩ = some (.slice ia zl icp) ∧ INums w (.slice ia zl icp) zs) := ⟨hzl, by rw [hzl]; exact H.out.2.2.2.2.2 zs hmz, ht, hst, hlv, h64, by rw [hzl]; exact ci, by rw [hzl]; exact hin⟩
      clear hzs ci hin hmz h64 hbW ht hst hlv hzl
      go_wp2_with fail
      refine hT1.mono ?_
      rintro e w5 ⟨a5, n5, m5, rfl, h5⟩
      clear hT1 hci
      obtain ⟨hR5, _, hf5⟩ := h5.out
      have hR52 := hr.out.r2.apart hf5 (fun b h2 h1 => HQ.out.no b h1 h2) (fun b hb h1 => by have := HQ.out.q1 b h1; have := HW.out.2.1 b hb; omega)
      have hB5 : Below W2.heap.size W2 w5 := below_frq hr.out.bel hf5 HQ.out.q1 hr.out.bel.size
      have hT2 := There_any hR5 H.out.1.run (thereC_len H.out.1.nm r')
      have H5 : Hid (RnM A w5 c r' rb1 Q1 x1' ∧ RnM A w5 c r rb2 Q2 x2' ∧ Below W2.heap.size W2 w5) := ⟨hR5, hR52, hB5⟩
      clear h5 hR5 hf5 hR52 hB5 hr
      go_wp2_with fail
      refine hT2.mono ?_
      rintro e w6 ⟨a6, n6, m6, rfl, h6⟩
      clear hT2
      have hb6 := h6.out.2
      have hB6 : Below W2.heap.size W2 w6 := ck_all H5.out.2.2 hb6
      have y2 : w6.cell? ⟨cb, 2, none⟩ = some (.slice a' n' m') := ck_cell hB6 (cell_row HW.out.2.2.1 2 rfl)
      have hT3 := there_all (A := A) 6 w6 c.regions r'.ds (.slice a6 n6 m6) (.slice a' n' m') [] (by
        obtain ⟨b1, b2, b3, b4, b5, b6, e1, _, e2⟩ := chartUp HW.out.1 hB6
        injection e1 with e1
        simp at e1
        obtain ⟨_, _, rfl, rfl, rfl⟩ := e1
        exact e2) HK.out.2.2.2.1.1 HK.out.2.2.2.2.1 (check_lay H.out.1.ok H.out.1.nm).1 (by rw [List.append_nil]; exact h6.out.1.strs)
      have H6 : Hid (RnM A w6 c r' rb1 Q1 x1' ∧ RnM A w6 c r rb2 Q2 x2' ∧ Below W2.heap.size W2 w6) := ⟨H5.out.1.below hb6, H5.out.2.1.below hb6, hB6⟩
      clear h6 hb6 hB6 H5
      go_wp2_with fail
      refine hT3.mono ?_
      rintro e w7 ⟨a7, n7, m7, rfl, h7⟩
      clear hT3 y2
      obtain rfl : n7 = 0 := by obtain ⟨_, _, _, _, e, _⟩ := h7.out.1; injection e
      have hT4 := Vars_any (H6.out.1.below h7.out.2) H.out.1.run
      have H7 : Hid (RnM A w7 c r' rb1 Q1 x1' ∧ RnM A w7 c r rb2 Q2 x2' ∧ Below W2.heap.size W2 w7) := ⟨H6.out.1.below h7.out.2, H6.out.2.1.below h7.out.2, ck_all H6.out.2.2 h7.out.2⟩
      clear h7 H6
      go_wp2_with fail
      refine hT4.mono ?_
      rintro e w8 ⟨a8, n8, m8, rfl, h8⟩
      clear hT4
      have H8 : Hid (RnM A w8 c r' rb1 Q1 x1' ∧ RnM A w8 c r rb2 Q2 x2' ∧ Below W2.heap.size W2 w8) := ⟨H7.out.1.below h8.out.2, H7.out.2.1.below h8.out.2, ck_all H7.out.2.2 h8.out.2⟩
      have HV : Hid (Row64 w7.heap.size w8 (.slice a8 n8 m8) (tellC (fun _ => true) c.vars r'.now) ∧ (∀ b, Q2 b → b < w7.heap.size)) := ⟨h8.out.1, H7.out.2.1.hQ⟩
      clear h8 H7
      go_wp2_with fail
      have hvs : IsVars A W2 c.vars (.slice a n m) := by
        obtain ⟨b1, b2, b3, b4, b5, b6, e1, e2, _⟩ := HW.out.1
        injection e1 with e1
        simp at e1
        obtain ⟨_, ⟨rfl, rfl, rfl⟩, _⟩ := e1
        exact e2
      obtain ⟨va, vg, vcap, ev, vl, vgp, vcs⟩ := hvs.open2
      injection ev with ev1 ev2 ev3
      subst ev1
      subst ev3
      obtain ⟨b8a, b8, o8, b8c, e8, _, _, h84, h85⟩ := HV.out.1.nums
      injection e8 with e81 e82 e83
      subst e81
      subst e83
      rw [tellC_all, List.length_map] at e82 h84 h85
      rw [← ev2] at e82 vgp vl h84 h85
      subst e82
      have hn6 : (n8 : Int) ≤ 1000000 := by have := H.out.1.run.vl; rw [← ev2] at this; omega
      have HA8 : Hid (0 < n8 → a8 = some ⟨b8, o8, none⟩) := h84
      have HAV : Hid (0 < n8 → a = some ⟨vg, 0, none⟩) := fun hp => (vgp hp).1
      have HN8 : Hid (n8 = c.vars.length) := ev2
      have HVC : Hid (∀ wq, Below w8.heap.size w8 wq → wq.cell? ⟨cb, 1, none⟩ = some (.slice a n8 m) ∧ wq.cell? ⟨ib, io + k, none⟩ = some (.slice ia zl icp) ∧ ∀ (i : Nat) (v : Decl), c.vars[i]? = some v → wq.cell? ⟨vg, i * 3, none⟩ = some (.int .i64 (v.kind : Int)) ∧ wq.cell? ⟨b8, o8 + i, none⟩ = some (.int .i64 (r'.now v.name))) := fun wq hb => by
        have hB := ck_all H8.out.2.2 hb
        refine ⟨ck_cell hB (cell_row HW.out.2.2.1 1 rfl), ck_cell (ck_all HW.out.2.2.2 hB) HK.out.2.2.2.2.2.2.1, fun i v hi => ⟨ck_cell hB (vcs i v hi).1, ck_cell hb ?_⟩⟩
        have hil : i < n8 := by rw [ev2]; exact (List.getElem?_eq_some_iff.1 hi).1
        have := h85 i hil
        rw [List.getD_eq_getElem?_getD, List.getElem?_map, hi] at this
        exact this
      clear hvs vl vgp vcs h84 h85 ev2
      go_loopg [15, 17] n8 (fun f kv jv wq => ∃ (q kc : Nat), f = n8 - q ∧ q ≤ n8 ∧ jv = .int .i64 (q : Int) ∧ kv = .int .i64 (kc : Int) ∧ Hid (kc = cntIn (c.vars.take q) ∧ kc ≤ q ∧ Below w8.heap.size w8 wq))
      case atStart => exact ⟨0, 0, by omega, by omega, rfl, rfl, by simp [cntIn], Nat.le_refl _, Below.refl _ _⟩
      case round =>
        obtain ⟨q, kc, rfl, hq, rfl, rfl, hr⟩ := hrel
        obtain ⟨W9, hW9⟩ : ∃ W, W = wr := ⟨_, rfl⟩
        subst hW9
        obtain ⟨z1, z2, z3⟩ := HVC.out W9 hr.out.2.2
        have hkc6 : (kc : Int) ≤ 1000000 := by have := hr.out.2.1; omega
        by_cases hq2 : q < n8
        · obtain ⟨v, hv⟩ : ∃ v, c.vars[q]? = some v := ⟨c.vars[q]'(by rw [← HN8.out]; exact hq2), by rw [List.getElem?_eq_getElem]⟩
          obtain ⟨z4, z5⟩ := z3 q v hv
          clear z3
          have hixv := ixV a vg n8 m q hq2 HAV.out
          have hcs : cntIn (c.vars.take (q + 1)) = cntIn (c.vars.take q) + if v.kind = 1 then 1 else 0 := by
            rw [List.take_add_one, hv]
            unfold cntIn
            rw [List.filter_append, List.length_append]
            by_cases h : v.kind = 1 <;> simp [h]
          by_cases h1 : v.kind = 1
          · have hx := ins_told H.out.1.ok HK.out.2.2.1 hv h1
            rw [← hr.out.1] at hx
            rw [hx] at z5
            rw [h1] at z4
            have z4' : W9.cell? ⟨vg, q * 3, none⟩ = some (.int .i64 1) := z4
            have hix8 := ixN a8 b8 o8 n8 m8 q hq2 HA8.out
            have HE : Hid (kc + 1 = cntIn (c.vars.take (q + 1)) ∧ kc + 1 ≤ q + 1 ∧ Below w8.heap.size w8 W9) := ⟨by rw [hcs, if_pos h1, hr.out.1], by have := hr.out.2.1; omega, hr.out.2.2⟩
            by_cases hkz : kc < zl
            · obtain ⟨za, zb, zo, zc, ez, _, _, zz1, zz2⟩ := HK.out.2.2.2.2.2.2.2
              rw [← HK.out.1] at ez zz1 zz2
              injection ez with ez1 _ ez3
              subst ez1
              subst ez3
              have hixz := ixN ia zb zo zl icp kc hkz zz1
              have z6 : W9.cell? ⟨zb, zo + kc, none⟩ = some (.int .i64 (zs.getD kc 0)) := ck_cell (ck_all HW.out.2.2.2 (ck_all H8.out.2.2 hr.out.2.2)) (zz2 kc hkz)
              obtain ⟨X, hX⟩ : ∃ X, X = zs.getD kc 0 := ⟨_, rfl⟩
              rw [← hX] at z5 z6
              clear hr z4 hx hX hv hcs h1 zz1 zz2
              go_wp2_with fail
              go_roundg (n8 - (q + 1))
              case measure => omega
              case rel => exact ⟨q + 1, kc + 1, by omega, by omega, by go_num, by go_num, HE.out⟩
            · have hx0 : zs.getD kc 0 = 0 := by rw [List.getD_eq_getElem?_getD, List.getElem?_eq_none (by rw [← HK.out.1]; omega)]; rfl
              rw [hx0] at z5
              have hkz' : (zl : Int) ≤ (kc : Int) := by omega
              clear hr z4 hx hv hcs h1
              go_wp2_with fail
              go_roundg (n8 - (q + 1))
              case measure => omega
              case rel => exact ⟨q + 1, kc + 1, by omega, by omega, by go_num, by go_num, HE.out⟩
          · obtain ⟨kd, hkd⟩ : ∃ kd : Int, kd = (v.kind : Int) := ⟨_, rfl⟩
            rw [← hkd] at z4
            have hk1 : ¬ kd = 1 := by omega
            have HE : Hid (kc = cntIn (c.vars.take (q + 1)) ∧ kc ≤ q + 1 ∧ Below w8.heap.size w8 W9) := ⟨by rw [hcs, if_neg h1, hr.out.1, Nat.add_zero], by have := hr.out.2.1; omega, hr.out.2.2⟩
            clear hr hv hcs h1 hkd z5
            go_wp2_with fail
            go_roundg (n8 - (q + 1))
            case measure => omega
            case rel => exact ⟨q + 1, kc, by omega, by omega, by go_num, by go_num, HE.out⟩
        · obtain rfl : q = n8 := by omega
          have hb9 := hr.out.2.2
          have hT5 := tick_run (H8.out.2.1.below hb9) H.out.1.run (HK.out.2.2.2.2.2.2.2.below (ck_all HW.out.2.2.2 (ck_all H8.out.2.2 hb9))) HK.out.2.2.2.2.2.1 HK.out.2.2.1
          have H9 : Hid (RnM A W9 c r' rb1 Q1 x1' ∧ Below W2.heap.size W2 W9 ∧ FrQ Q2 w8 W9) := ⟨H8.out.1.below hb9, ck_all H8.out.2.2 hb9, FrQ.of_below hb9⟩
          clear hr hb9 z3 H8 HVC
          go_wp2_with fail
          refine hT5.mono ?_
          rintro e w10 ⟨a10, n10, m10, rfl, h10⟩
          clear hT5 z1 z2
          obtain ⟨hR10, _, hf10⟩ := h10.out
          have hT6 := Vars_any hR10 H.out.1.run
          have H10 : Hid (RnM A w10 c r' rb1 Q1 x1' ∧ RnM A w10 c r' rb2 Q2 x2' ∧ Below W2.heap.size W2 w10 ∧ FrQ Q2 w8 w10) := ⟨H9.out.1.apart hf10 HQ.out.no (fun b hb h1 => by have := HQ.out.q2 b h1; have := HW.out.2.1 b hb; omega), hR10, below_frq H9.out.2.1 hf10 HQ.out.q2 H9.out.2.1.size, H9.out.2.2.trans hf10⟩
          clear h10 hR10 hf10 H9
          go_wp2_with fail
          refine hT6.mono ?_
          rintro e w11 ⟨a11, n11, m11, rfl, h11⟩
          clear hT6
          have hb11 := h11.out.2
          have hT7 := same_nums h11.out.1.nums (row_apart HV.out.1 HV.out.2 (H10.out.2.2.2.trans (FrQ.of_below hb11))) (by rw [tellC_all, List.length_map, ← HN8.out]; omega)
          have H11 : Hid (RnM A w11 c r' rb1 Q1 x1' ∧ RnM A w11 c r' rb2 Q2 x2' ∧ Below W2.heap.size W2 w11) := ⟨H10.out.1.below hb11, H10.out.2.1.below hb11, ck_all H10.out.2.2.1 hb11⟩
          clear h11 hb11 H10
          go_wp2_with fail
          refine hT7.mono ?_
          rintro e w12 ⟨rfl, hb12⟩
          clear hT7
          have HE : Hid (TwoU A Q1 Q2 W2 w12 c r' rb1 rb2 x1' x2') := ⟨H11.out.1.below hb12.out, H11.out.2.1.below hb12.out, HK.out.2.2.2.1, ck_all H11.out.2.2 hb12.out⟩
          clear hb12 H11
          go_wp2_with fail
          go_roundg (N - (k + 1))
          case measure => omega
          case rel => exact ⟨k + 1, r', by omega, by omega, by go_num, HE.out⟩
    · obtain rfl : k = N := by omega
      have HB : Hid (Below w.heap.size w W) := ck_all HW.out.2.2.2 hr.out.bel
      clear hr
      go_wp2_with fail
      go_ret
      exact ⟨rfl, HB.out⟩
end Kx
end Go.Proofs.YtecbilopliblpaaGreatDoor
/- RunAlone, of whatever it is handed. -/
namespace Go.Proofs.YtecbilopliblpaaGreatDoor
open Go.RowKit Px
namespace Kx
set_option maxHeartbeats 2000000 in
theorem runAlone_many {s : ByteArray} {w : World} {iv : Value} {zss : List (List Int)} (hI : IRws w iv zss) (h : ¬ Few zss) :
    Calls Tryz.prog 3 #[.string s, iv] w fun e w' => e = .returned (.bool true) ∧ Hid (Below w.heap.size w w') := by
  have hf := few_no hI h
  obtain ⟨iad, ib, io, ic, rfl, _⟩ := hI
  go_enter Tryz.func3, Tryz.ntmps3
  go_wp2_with fail
  refine hf.mono ?_
  rintro e w0 ⟨rfl, hw0⟩
  obtain rfl := hw0.symm
  clear hf
  go_wp2_with fail
  go_ret
  exact ⟨rfl, Below.refl _ _⟩
set_option maxHeartbeats 2000000 in
theorem runAlone_none {s : ByteArray} {w : World} {iv : Value} {zss : List (List Int)} (hI : IRws w iv zss) (h : Few zss) (hv : KEnv0 w) (hn : ∀ w, KEnv0 w → Calls Tryz.prog 13 #[.string s] w fun e w' => e = .returned (.tuple #[.agg #[.string ⟨#[]⟩, .slice none 0 0, .slice none 0 0], .bool false]) ∧ Hid (Below w.heap.size w w')) :
    Calls Tryz.prog 3 #[.string s, iv] w fun e w' => e = .returned (.bool true) ∧ Hid (Below w.heap.size w w') := by
  have hf := few_yes hI h
  have hr := ran_any hv
  have HN : Hid (∀ w', Below w.heap.size w w' → Calls Tryz.prog 13 #[.string s] w' fun e w'' => e = .returned (.tuple #[.agg #[.string ⟨#[]⟩, .slice none 0 0, .slice none 0 0], .bool false]) ∧ Hid (Below w'.heap.size w' w'')) := fun w' hb => hn w' (hv.up hb)
  obtain ⟨iad, ib, io, ic, rfl, _⟩ := hI
  clear hv hn
  go_enter Tryz.func3, Tryz.ntmps3
  go_wp2_with fail
  refine hf.mono ?_
  rintro e w0 ⟨rfl, hw0⟩
  obtain rfl := hw0.symm
  clear hf
  go_wp2_with fail
  refine hr.mono ?_
  rintro e w1 ⟨rfl, hb1⟩
  clear hr
  have hc := HN.out w1 hb1.out
  clear HN
  go_wp2_with fail
  refine hc.mono ?_
  rintro e w2 ⟨rfl, hb2⟩
  clear hc
  have HB : Hid (Below w.heap.size w (w2.alloc (.cells #[.string ⟨#[]⟩, .slice none 0 0, .slice none 0 0] 28))) := ck_all (ck_all hb1.out hb2.out) (ck_grown _ _)
  go_wp2_with fail
  go_ret
  exact ⟨rfl, HB.out⟩
theorem runAlone_any (s : ByteArray) {w : World} {iv : Value} {zss : List (List Int)} (hv : KEnv0 w) (hI : IRws w iv zss) (h64 : ∀ zs ∈ zss, ∀ y ∈ zs, N64 y) :
    Calls Tryz.prog 3 #[.string s, iv] w fun e w' => e = .returned (.bool true) ∧ Hid (Below w.heap.size w w') := by
  by_cases hf : Few zss
  · rcases may_or s with ⟨l, c, h1, h2, h3, h4⟩ | hn
    · exact runAlone_fine h1 hv h2 h3 h4 hI hf h64
    · exact runAlone_none hI hf hv hn
  · exact runAlone_many hI hf
end Kx
end Go.Proofs.YtecbilopliblpaaGreatDoor
