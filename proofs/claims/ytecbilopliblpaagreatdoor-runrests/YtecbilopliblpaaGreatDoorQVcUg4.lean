/- A tick of a chart that may be comes to an end. -/
import Derived.Test.YtecbilopliblpaaGreatDoorQUg3
import Derived.Test.YtecbilopliblpaaGreatDoorQVpLaidU
import Derived.Test.YtecbilopliblpaaGreatDoorQKn0
namespace Go.Proofs.YtecbilopliblpaaGreatDoor
open Go.RowKit Px
namespace Px
section
variable {σ ρ : Type} {O : Ops σ ρ} {G : List σ → Prop} {I J : List σ → ρ → Prop} {L : List (StF σ)} {d : RdF ρ}
/-- a region that may run -/
structure GdF (G : List σ → Prop) (L : List (StF σ)) : Prop where
  inn : ∀ s ∈ L, ∀ r ∈ s.regions, G r
  fst : ∃ fi, firstI L = some fi ∧ fi < L.length
  tos : ∀ s ∈ L, ∀ y ∈ s.ways, ∃ t, fnd (snames L) y.to = some t
  ord : ∃ o, orderG (graph L) = some o
theorem fnd_lt {L : List (StF σ)} {s : Str} {t : Nat} (h : fnd (snames L) s = some t) : t < L.length := by
  have := (fnd_some h).1
  unfold snames at this
  rwa [List.length_map] at this
theorem takeR_ok (hO : OpsOk O G I J) (hG : GdF G L) (was n : Px.Env) (h : ShF I L d) {i j : Nat} {s : StF σ} {y : Wy} (ht : d.there = some i) (hs : L[i]? = some s) (hy : s.ways[j]? = some y) :
    ∃ t p, fnd (snames L) y.to = some t ∧ takeR O was L j n d = some p ∧ ShF I L p.2.2 ∧ p.2.2.there = some t ∧ (p.1 = none → LvF I J L p.2.2) ∧ ∀ j, p.1 = some j → ∃ s y, L[t]? = some s ∧ s.ways[j]? = some y ∧ y.now = true := by
  obtain ⟨t, hf⟩ := hG.tos s (List.mem_of_getElem? hs) y (List.mem_of_getElem? hy)
  obtain ⟨p, hp, hp2⟩ := leaveR_ok hO hG.inn was n h
  obtain ⟨q, hq, hq2⟩ := arriveR_ok hO hG.inn was (doS was y.sets p.1) y.back hp2 (fnd_lt hf)
  refine ⟨t, q, hf, ?_, hq2⟩
  unfold takeR
  simp only [ht, hs, hy, hp, hf, hq]
theorem followR_none (was : Px.Env) (f : Nat) (n : Px.Env) (d : RdF ρ) : followR O was L f none n d = some (n, d) := by cases f <;> rfl
theorem graph_now {i j t : Nat} {s : StF σ} {y : Wy} (hs : L[i]? = some s) (hy : s.ways[j]? = some y) (hn : y.now = true) (hf : fnd (snames L) y.to = some t) : some t ∈ (graph L).getD i [] := by
  unfold graph
  rw [List.getD_eq_getElem?_getD, List.getElem?_map, hs]
  show some t ∈ tosF (snames L) s.ways
  unfold tosF
  exact List.mem_map.2 ⟨y, List.mem_of_getElem? hy, by rw [if_pos hn, hf]⟩
theorem followR_now (hO : OpsOk O G I J) (hG : GdF G L) (was : Px.Env) {o : List Nat} (ho : orderG (graph L) = some o) : ∀ (f : Nat) (i j p : Nat) (n : Px.Env) (d : RdF ρ) (s : StF σ) (y : Wy), ShF I L d → d.there = some i → L[i]? = some s → s.ways[j]? = some y → y.now = true → posK o o.length i = some p → L.length ≤ f + p →
    ∃ q, followR O was L f (some j) n d = some q ∧ LvF I J L q.2 := by
  obtain ⟨o1, _, _, o2, o3⟩ := order_fair ho
  rw [graph_len] at o1 o2 o3
  intro f
  induction f with
  | zero =>
    intro i j p n d s y _ _ _ _ _ hp hl
    have := (posK_some hp).1
    omega
  | succ f ih =>
    intro i j p n d s y h ht hs hy hn hp hl
    obtain ⟨t, q, hf, hq, q1, q2, q3, q4⟩ := takeR_ok hO hG was n h ht hs hy
    rw [followR, hq]
    show ∃ q', followR O was L f q.1 q.2.1 q.2.2 = some q' ∧ _
    cases hw : q.1 with
    | none => rw [followR_none]; exact ⟨_, rfl, q3 hw⟩
    | some j' =>
      obtain ⟨s', y', s1, s2, s3⟩ := q4 j' hw
      have hil : i < L.length := (List.getElem?_eq_some_iff.1 hs).1
      obtain ⟨p', hp'⟩ := o2 t (fnd_lt hf)
      have := o3 i t hil (fnd_lt hf) (graph_now hs hy hn hf) p p' hp hp'
      exact ih t j' p' _ _ s' y' q1 q2 s1 s2 s3 hp' (by omega)
theorem follow_of (hO : OpsOk O G I J) (hG : GdF G L) (was : Px.Env) {f i : Nat} {w : Option Nat} {n : Px.Env} (hf : L.length ≤ f) (h : ShF I L d) (ht : d.there = some i) (h0 : w = none → LvF I J L d) (h1 : ∀ j, w = some j → ∃ s y, L[i]? = some s ∧ s.ways[j]? = some y ∧ y.now = true) : ∃ q, followR O was L f w n d = some q ∧ LvF I J L q.2 := by
  cases w with
  | none => rw [followR_none]; exact ⟨_, rfl, h0 rfl⟩
  | some j =>
    obtain ⟨o, ho⟩ := hG.ord
    obtain ⟨s, y, s1, s2, s3⟩ := h1 j rfl
    obtain ⟨_, _, _, o2, _⟩ := order_fair ho
    obtain ⟨p, hp⟩ := o2 i (by rw [graph_len]; exact (List.getElem?_eq_some_iff.1 s1).1)
    exact followR_now hO hG was ho f i j p n d s y h ht s1 s2 s3 hp (by omega)
theorem enterAt_ok (hO : OpsOk O G I J) (hG : GdF G L) (was n : Px.Env) (b : Bool) (h : ShF I L d) {i : Nat} (hi : i < L.length) : ∃ q, enterAt O was L i b n d = some q ∧ LvF I J L q.2 := by
  obtain ⟨p, hp, p1, p2, p3, p4⟩ := arriveR_ok hO hG.inn was n b h hi
  unfold enterAt
  simp only [hp]
  exact follow_of hO hG was (by omega) p1 p2 p3 p4
theorem enterR_ok (hO : OpsOk O G I J) (hG : GdF G L) (was n : Px.Env) (b : Bool) (h : ShF I L d) : ∃ q, enterR O was b L n d = some q ∧ LvF I J L q.2 := by
  obtain ⟨fi, f1, f2⟩ := hG.fst
  unfold enterR
  split
  · rename_i i hw; exact enterAt_ok hO hG was n true h (h.2.2.1 i hw)
  · rw [f1]; exact enterAt_ok hO hG was n false h f2
theorem passR_ok (hO : OpsOk O G I J) (hG : GdF G L) (was n : Px.Env) (h : LvF I J L d) :
    ∃ i p, passR O was L n d = some p ∧ ShF I L p.2.2 ∧ p.2.2.there = some i ∧ (p.1 = none → LvF I J L p.2.2) ∧ ∀ j, p.1 = some j → ∃ s y, L[i]? = some s ∧ s.ways[j]? = some y := by
  obtain ⟨h, i, ht, hJ⟩ := h
  have hi := h.2.1 i ht
  have e1 : L[i]? = some (L[i]'hi) := List.getElem?_eq_getElem _
  have hl : i < d.sts.length := by rw [h.1]; exact hi
  have e2 : d.sts[i]? = some (d.sts[i]'hl) := List.getElem?_eq_getElem _
  obtain ⟨a1, a2⟩ := h.2.2.2 i _ _ e1 e2
  have hsh : ∀ so ins, ins.length = (L[i]'hi).regions.length → (∀ (j : Nat) (r : List σ) (y : ρ), (L[i]'hi).regions[j]? = some r → ins[j]? = some y → J r y) → LvF I J L ⟨some i, d.was, d.sts.set i ⟨so, ins⟩⟩ := fun so ins hil hin =>
    ⟨h.put (t := some i) (u := d.was) (x := ⟨so, ins⟩) e1 ⟨hil, fun j r y hr hy => hO.ij _ _ (hin j r y hr hy)⟩ (fun i' h => by injection h with h; omega) h.2.2.1, i, rfl, fun s x hs hx j r y hr hy => by
      simp only [List.getElem?_set, if_pos, hl] at hx
      injection hx with hx
      rw [e1] at hs
      injection hs with hs
      rw [← hx] at hy
      rw [← hs] at hr
      exact hin j r y hr hy⟩
  refine ⟨i, ?_⟩
  unfold passR
  simp only [ht, e1, e2]
  split
  · rename_i j hj
    have hh := fun so => hsh so _ a1 (hJ _ _ e1 e2)
    refine ⟨_, rfl, (hh _).1, rfl, fun h => by simp at h, fun j' hj' => ?_⟩
    injection hj' with hj'
    subst hj'
    obtain ⟨y, hy, _⟩ := opnI_some hj
    exact ⟨_, y, rfl, hy⟩
  · split
    · have hh := fun so => hsh so _ a1 (hJ _ _ e1 e2)
      exact ⟨_, rfl, (hh _).1, rfl, fun _ => hh _, fun j' hj' => by simp at hj'⟩
    · obtain ⟨p, hp, p1, p2⟩ := allI_all (fun r n d => hO.go was r n d) (hG.inn _ (List.mem_of_getElem? e1)) (doS was (L[i]'hi).during n) a1 (hJ _ _ e1 e2)
      simp only [hp]
      have hh := fun so => hsh so p.2 p1 p2
      refine ⟨_, rfl, (hh _).1, rfl, fun _ => hh _, fun j' hj' => ?_⟩
      obtain ⟨y, hy, _⟩ := opnI_some hj'
      exact ⟨_, y, rfl, hy⟩
theorem goR_ok (hO : OpsOk O G I J) (hG : GdF G L) (was n : Px.Env) (h : LvF I J L d) : ∃ q, goR O was L n d = some q ∧ LvF I J L q.2 := by
  obtain ⟨i, p, hp, p1, p2, p3, p4⟩ := passR_ok hO hG was n h
  unfold goR
  simp only [hp]
  cases hw : p.1 with
  | none => rw [followR_none]; exact ⟨_, rfl, p3 hw⟩
  | some j =>
    obtain ⟨s, y, s1, s2⟩ := p4 j hw
    obtain ⟨t, q, hf, hq, q1, q2, q3, q4⟩ := takeR_ok hO hG was p.2.1 p1 p2 s1 s2
    rw [followR, hq]
    show ∃ q', followR O was L (L.length + 1) q.1 q.2.1 q.2.2 = some q' ∧ _
    exact follow_of hO hG was (by omega) q1 q2 q3 q4
theorem opsF_ok (hO : OpsOk O G I J) : OpsOk (OpsF O) (GdF G) (ShF I) (LvF I J) :=
  ⟨fun _ _ h => h.1, fun was b _ n _ hG h => enterR_ok hO hG was n b h, fun was _ n _ hG h => goR_ok hO hG was n h, fun was _ n _ hG h => leaveR_ok hO hG.inn was n h⟩
end
def GdK : (k : Nat) → List (St k) → Prop
  | 0 => fun _ => True
  | k + 1 => GdF (GdK k)
def ShK : (k : Nat) → List (St k) → Rd k → Prop
  | 0 => fun _ _ => True
  | k + 1 => ShF (ShK k)
def LvK : (k : Nat) → List (St k) → Rd k → Prop
  | 0 => fun _ _ => True
  | k + 1 => LvF (ShK k) (LvK k)
theorem opsK_ok : ∀ k, OpsOk (OpsK k) (GdK k) (ShK k) (LvK k)
  | 0 => ⟨fun _ _ _ => trivial, fun _ _ _ _ _ _ _ => ⟨_, rfl, trivial⟩, fun _ _ _ _ _ _ => ⟨_, rfl, trivial⟩, fun _ _ _ _ _ _ => ⟨_, rfl, trivial⟩⟩
  | k + 1 => opsF_ok (opsK_ok k)
end Px
end Go.Proofs.YtecbilopliblpaaGreatDoor
/- A chart that may be: every tick comes to an end. -/
namespace Go.Proofs.YtecbilopliblpaaGreatDoor
open Go.RowKit Px
namespace Px
theorem gd_of : ∀ {k : Nat} {l : List (St k)}, OrdAll k l → LayR k l → GdK k l
  | 0, _, _, _ => trivial
  | k + 1, l, ho, hl => by
    obtain ⟨⟨o, h1, _, _⟩, h2⟩ := ho
    obtain ⟨l1, _, l3, _, l5⟩ := hl
    obtain ⟨fi, f1, f2⟩ := fst_some l1
    exact ⟨fun s hs r hr => gd_of (h2 s hs r hr) ((l5 s hs).2.2.2.2 r hr), ⟨fi, f1, f2⟩, l3, ⟨o, h1⟩⟩
theorem layD_sh1 {k : Nat} (ih : ∀ l : List (St k), ShK k l (layD k l)) (l : List (StF (St k))) : ShF (ShK k) l ⟨none, none, l.map fun s => ⟨s.ways.map fun _ => 0, s.regions.map (layD k)⟩⟩ := by
  refine ⟨List.length_map _, fun i h => absurd h (by simp), fun i h => absurd h (by simp), fun i s x hs hx => ?_⟩
  have hx' : (l.map fun s : StF (St k) => (⟨s.ways.map fun _ => (0 : Int), s.regions.map (layD k)⟩ : SdF (Rd k)))[i]? = some x := hx
  rw [List.getElem?_map, hs] at hx'
  injection hx' with hx'
  subst hx'
  refine ⟨List.length_map _, fun j r y hr hy => ?_⟩
  have hy' : (s.regions.map (layD k))[j]? = some y := hy
  rw [List.getElem?_map, hr] at hy'
  injection hy' with hy'
  subst hy'
  exact ih r
theorem layD_sh : ∀ (k : Nat) (l : List (St k)), ShK k l (layD k l)
  | 0, _ => trivial
  | k + 1, l => layD_sh1 (layD_sh k) l
/-- how a chart stands between two ticks -/
def StandR (L : List (St 6)) (d : Rd 6) : Prop := ShK 6 L d ∧ ((show RdF (Rd 5) from d).there = none ∨ LvK 6 L d)
def StandC (c : Chart) (r : Rn) : Prop := r.ds.length = c.regions.length ∧ ∀ (j : Nat) (L : List (St 6)) (d : Rd 6), c.regions[j]? = some L → r.ds[j]? = some d → StandR L d
theorem new_stands (c : Chart) : StandC c (newC c) := by
  refine ⟨List.length_map _, fun j L d hj hd => ?_⟩
  have hd' : (c.regions.map (layD 6))[j]? = some d := hd
  rw [List.getElem?_map, hj] at hd'
  injection hd' with hd'
  subst hd'
  exact ⟨layD_sh 6 L, .inl rfl⟩
theorem tickG_ok (was : Px.Env) (L : List (St 6)) (n : Px.Env) (d : Rd 6) (hG : GdK 6 L) (h : StandR L d) : ∃ p, tickG was L n d = some p ∧ LvK 6 L p.2 := by
  unfold tickG
  split
  · exact (opsK_ok 6).enter was false L n d hG h.1
  · rename_i ht
    exact (opsK_ok 6).go was L n d hG (h.2.resolve_left ht)
/-- a tick: every region has a state that is there behind it -/
theorem tick_ok {c : Chart} (hG : ∀ r ∈ c.regions, GdK 6 r) {r : Rn} (h : StandC c r) (ins : List Int) : ∃ r', tickC c ins r = some r' ∧ StandC c r' ∧ ∀ (j : Nat) (L : List (St 6)) (d : Rd 6), c.regions[j]? = some L → r'.ds[j]? = some d → LvK 6 L d := by
  obtain ⟨p, hp, p1, p2⟩ := allI_all (f := tickG r.was) (G := GdK 6) (P := StandR) (P' := LvK 6) (fun L n d hG h => tickG_ok r.was L n d hG h) hG (hearE c.vars ins r.now) h.1 h.2
  refine ⟨⟨p.1, p.1, p.2⟩, ?_, ⟨p1, fun j L d hj hd => ⟨(opsK_ok 6).ij L d (p2 j L d hj hd), .inr (p2 j L d hj hd)⟩⟩, p2⟩
  unfold tickC
  rw [hp]
theorem check_gd {c : Chart} (h : checkC c = none) (hN : NmChart c) : ∀ r ∈ c.regions, GdK 6 r := fun r hr => gd_of (check_all h r hr) ((check_lay h hN).1 r hr)
end Px
end Go.Proofs.YtecbilopliblpaaGreatDoor
/- What RunAlone asks: inputs are what they were told; plain mathematics. -/
namespace Go.Proofs.YtecbilopliblpaaGreatDoor
open Go.RowKit Px
namespace Px
/-- variables of these names are as they were -/
def Sm (K : Str → Prop) (n n' : Px.Env) : Prop := ∀ s, K s → n' s = n s
theorem Sm.refl (K : Str → Prop) (n : Px.Env) : Sm K n n := fun _ _ => rfl
theorem Sm.trans {K : Str → Prop} {n n' n'' : Px.Env} (h : Sm K n n') (k : Sm K n' n'') : Sm K n n'' := fun s hs => (k s hs).trans (h s hs)
def NoSet (K : Str → Prop) (l : List Asg) : Prop := ∀ a ∈ l, ¬ K a.name
theorem doS_sm {K : Str → Prop} (was : Px.Env) : ∀ {l : List Asg} (n : Px.Env), NoSet K l → Sm K n (doS was l n)
  | [], n, _ => Sm.refl _ _
  | a :: r, n, h => by
    rw [doS]
    refine Sm.trans (fun s hs => ?_) (doS_sm was _ fun b hb => h b (List.mem_cons_of_mem _ hb))
    unfold updE
    rw [if_neg (fun e => h a (List.mem_cons_self ..) (by rw [e]; exact hs))]
section
variable {σ ρ : Type}
structure OpsSm (K : Str → Prop) (O : Ops σ ρ) (G : List σ → Prop) : Prop where
  enter : ∀ was b L n d p, G L → O.enter was b L n d = some p → Sm K n p.1
  go : ∀ was L n d p, G L → O.go was L n d = some p → Sm K n p.1
  leave : ∀ was L n d p, G L → O.leave was L n d = some p → Sm K n p.1
theorem allI_sm {K : Str → Prop} {G : List σ → Prop} {f : List σ → Px.Env → ρ → Option (Px.Env × ρ)} (hf : ∀ r n d p, G r → f r n d = some p → Sm K n p.1) {rs : List (List σ)} (hG : ∀ r ∈ rs, G r) :
    ∀ (fu i : Nat) (n : Px.Env) (ds : List ρ) (p : Px.Env × List ρ), allI f rs fu i n ds = some p → Sm K n p.1 := by
  intro fu
  induction fu with
  | zero => intro i n ds p h; rw [allI] at h; injection h with h; rw [← h]; exact Sm.refl _ _
  | succ fu ih =>
    intro i n ds p h
    rw [allI] at h
    split at h
    · rename_i r d hr hd
      split at h
      · exact absurd h (by simp)
      · rename_i q hq
        exact (hf r n d q (hG r (List.mem_of_getElem? hr)) hq).trans (ih _ _ _ _ h)
    · exact absurd h (by simp)
/-- no state sets such a variable -/
structure NsF (K : Str → Prop) (G : List σ → Prop) (L : List (StF σ)) : Prop where
  en : ∀ s ∈ L, NoSet K s.enter
  du : ∀ s ∈ L, NoSet K s.during
  le : ∀ s ∈ L, NoSet K s.leave
  wy : ∀ s ∈ L, ∀ y ∈ s.ways, NoSet K y.sets
  inn : ∀ s ∈ L, ∀ r ∈ s.regions, G r
variable {K : Str → Prop} {O : Ops σ ρ} {G : List σ → Prop} {L : List (StF σ)} {d : RdF ρ} {was n : Px.Env}
theorem leaveR_sm (hO : OpsSm K O G) (hG : NsF K G L) {p : Px.Env × RdF ρ} (h : leaveR O was L n d = some p) : Sm K n p.1 := by
  unfold leaveR at h
  split at h
  · injection h with h; rw [← h]; exact Sm.refl _ _
  · split at h
    · rename_i s x hs hx
      split at h
      · exact absurd h (by simp)
      · rename_i q hq
        injection h with h
        rw [← h]
        have hm := List.mem_of_getElem? hs
        exact (allI_sm (fun r n d p => hO.leave was r n d p) (hG.inn s hm) _ _ _ _ _ hq).trans (doS_sm was _ (hG.le s hm))
    · exact absurd h (by simp)
theorem arriveR_sm (hO : OpsSm K O G) (hG : NsF K G L) {i : Nat} {b : Bool} {p : Option Nat × Px.Env × RdF ρ} (h : arriveR O was L i b n d = some p) : Sm K n p.2.1 := by
  unfold arriveR at h
  split at h
  · rename_i s x hs hx
    have hm := List.mem_of_getElem? hs
    have h1 : Sm K n (doS was s.enter n) := doS_sm was n (hG.en s hm)
    simp only at h
    split at h
    · injection h with h; rw [← h]; exact h1
    · split at h
      · exact absurd h (by simp)
      · rename_i q hq
        injection h with h
        rw [← h]
        exact h1.trans (allI_sm (fun r n d p => hO.enter was b r n d p) (hG.inn s hm) _ _ _ _ _ hq)
  · exact absurd h (by simp)
theorem passR_sm (hO : OpsSm K O G) (hG : NsF K G L) {p : Option Nat × Px.Env × RdF ρ} (h : passR O was L n d = some p) : Sm K n p.2.1 := by
  unfold passR at h
  split at h
  · exact absurd h (by simp)
  · split at h
    · rename_i s x hs hx
      have hm := List.mem_of_getElem? hs
      simp only at h
      split at h
      · injection h with h; rw [← h]; exact Sm.refl _ _
      · split at h
        · injection h with h; rw [← h]; exact Sm.refl _ _
        · split at h
          · exact absurd h (by simp)
          · rename_i q hq
            injection h with h
            rw [← h]
            exact (doS_sm was n (hG.du s hm)).trans (allI_sm (fun r n d p => hO.go was r n d p) (hG.inn s hm) _ _ _ _ _ hq)
    · exact absurd h (by simp)
theorem takeR_sm (hO : OpsSm K O G) (hG : NsF K G L) {j : Nat} {p : Option Nat × Px.Env × RdF ρ} (h : takeR O was L j n d = some p) : Sm K n p.2.1 := by
  unfold takeR at h
  split at h
  · exact absurd h (by simp)
  · split at h
    · exact absurd h (by simp)
    · rename_i s hs
      split at h
      · exact absurd h (by simp)
      · rename_i y hy
        split at h
        · exact absurd h (by simp)
        · rename_i q hq
          split at h
          · exact absurd h (by simp)
          · exact ((leaveR_sm hO hG hq).trans (doS_sm was _ (hG.wy s (List.mem_of_getElem? hs) y (List.mem_of_getElem? hy)))).trans (arriveR_sm hO hG h)
theorem followR_sm (hO : OpsSm K O G) (hG : NsF K G L) : ∀ (f : Nat) (w : Option Nat) (n : Px.Env) (d : RdF ρ) (p : Px.Env × RdF ρ), followR O was L f w n d = some p → Sm K n p.1 := by
  intro f
  induction f with
  | zero =>
    intro w n d p h
    cases w with
    | none => rw [followR] at h; injection h with h; rw [← h]; exact Sm.refl _ _
    | some j => rw [followR] at h; exact absurd h (by simp)
  | succ f ih =>
    intro w n d p h
    cases w with
    | none => rw [followR] at h; injection h with h; rw [← h]; exact Sm.refl _ _
    | some j =>
      rw [followR] at h
      split at h
      · exact absurd h (by simp)
      · rename_i q hq
        exact (takeR_sm hO hG hq).trans (ih _ _ _ _ h)
theorem enterAt_sm (hO : OpsSm K O G) (hG : NsF K G L) {i : Nat} {b : Bool} {p : Px.Env × RdF ρ} (h : enterAt O was L i b n d = some p) : Sm K n p.1 := by
  unfold enterAt at h
  split at h
  · exact absurd h (by simp)
  · rename_i q hq
    exact (arriveR_sm hO hG hq).trans (followR_sm hO hG _ _ _ _ _ h)
theorem opsF_sm (hO : OpsSm K O G) : OpsSm K (OpsF O) (NsF K G) := by
  refine ⟨fun was b L n d p hG h => ?_, fun was L n d p hG h => ?_, fun was L n d p hG h => leaveR_sm hO hG h⟩
  · have h : enterR O was b L n d = some p := h
    unfold enterR at h
    split at h
    · exact enterAt_sm hO hG h
    · split at h
      · exact absurd h (by simp)
      · exact enterAt_sm hO hG h
  · have h : goR O was L n d = some p := h
    unfold goR at h
    split at h
    · exact absurd h (by simp)
    · rename_i q hq
      exact (passR_sm hO hG hq).trans (followR_sm hO hG _ _ _ _ _ h)
end
def NsK (K : Str → Prop) : (k : Nat) → List (St k) → Prop
  | 0 => fun _ => True
  | k + 1 => NsF K (NsK K k)
theorem opsK_sm (K : Str → Prop) : ∀ k, OpsSm K (OpsK k) (NsK K k)
  | 0 => ⟨fun _ _ _ _ _ p _ h => by have h : some _ = some p := h; injection h with h; rw [← h]; exact Sm.refl _ _, fun _ _ _ _ p _ h => by have h : some _ = some p := h; injection h with h; rw [← h]; exact Sm.refl _ _, fun _ _ _ _ p _ h => by have h : some _ = some p := h; injection h with h; rw [← h]; exact Sm.refl _ _⟩
  | k + 1 => opsF_sm (opsK_sm K k)
theorem tick_sm {K : Str → Prop} {c : Chart} (hG : ∀ r ∈ c.regions, NsK K 6 r) {ins : List Int} {r r' : Rn} (h : tickC c ins r = some r') : Sm K (hearE c.vars ins r.now) r'.now := by
  unfold tickC at h
  split at h
  · exact absurd h (by simp)
  · rename_i p hp
    injection h with h
    rw [← h]
    refine allI_sm (G := NsK K 6) (fun L n d q hG hq => ?_) hG _ _ _ _ _ hp
    unfold tickG at hq
    split at hq
    · exact (opsK_sm K 6).enter _ _ _ _ _ _ hG hq
    · exact (opsK_sm K 6).go _ _ _ _ _ hG hq
/-- the names of inputs -/
def InN (vs : List Decl) (s : Str) : Prop := ∃ v ∈ vs, v.kind = 1 ∧ v.name = s
theorem vkind_of {vs : List Decl} (hd : Dist (vnames vs)) {v : Decl} (hv : v ∈ vs) : vkind vs v.name = v.kind := by
  obtain ⟨i, hi, he⟩ := List.getElem_of_mem hv
  have hl : i < (vnames vs).length := by unfold vnames; rw [List.length_map]; exact hi
  have hf : fnd (vnames vs) v.name = some i := (hd.fnd hl).2 (by unfold vnames; rw [List.getD_eq_getElem?_getD, List.getElem?_map, List.getElem?_eq_getElem hi, he]; rfl)
  unfold vkind fndI
  rw [hf]
  show (vs.getD i decl0).kind = _
  rw [List.getD_eq_getElem?_getD, List.getElem?_eq_getElem hi, he]; rfl
theorem noSet_of {vs : List Decl} (hd : Dist (vnames vs)) {l : List Asg} (h : setsE vs l = 0) : NoSet (InN vs) l := by
  intro a ha ⟨v, hv, hk, hn⟩
  have h1 := setsE_mem h a ha
  unfold setE at h1
  split at h1
  · simp at h1
  · split at h1
    · simp at h1
    · rename_i h2
      rw [← hn, vkind_of hd hv] at h2
      exact h2 hk
theorem stateE_ns {ρ : Type} {vs : List Decl} (hd : Dist (vnames vs)) {ns : List Str} {i : Nat} {s : StF ρ} (h : stateE vs ns i s = 0) : NoSet (InN vs) s.enter ∧ NoSet (InN vs) s.during ∧ NoSet (InN vs) s.leave ∧ ∀ y ∈ s.ways, NoSet (InN vs) y.sets := by
  have h1 : aloneE vs ns s = 0 := by
    unfold stateE at h
    split at h
    · simp at h
    · exact h
  obtain ⟨a1, a2, a3, b, a4⟩ := aloneE_parts h1
  exact ⟨noSet_of hd a1, noSet_of hd a2, noSet_of hd a3, fun y hy => noSet_of hd (wayE_sets (waysE_mem a4 y hy))⟩
/-- behind twiceF -/
theorem dist_of_twice {ns : List Str} : ∀ (f i : Nat), twiceF ns f i = none → ∀ j, i ≤ j → j < i + f → ¬ fndI ns (ns.getD j []) < j := by
  intro f
  induction f with
  | zero => intro i _ j h1 h2; omega
  | succ f ih =>
    intro i h j h1 h2
    rw [twiceF] at h
    split at h
    · exact absurd h (by simp)
    · rename_i hi
      by_cases e : j = i
      · rw [e]; exact hi
      · exact ih (i + 1) h j (by omega) (by omega)
theorem check_dist {c : Chart} (h : checkC c = none) : Dist (vnames c.vars) := by
  unfold checkC at h
  split at h
  · exact absurd h (by simp)
  · rename_i ht
    intro j hj
    unfold vnames at hj
    rw [List.length_map] at hj
    exact dist_of_twice _ 0 ht j (by omega) (by omega)
/-- what is told of inputs -/
theorem hearE_other : ∀ (vs : List Decl) (ins : List Int) (n : Px.Env) (s : Str), ¬ InN vs s → hearE vs ins n s = n s
  | [], _, _, _, _ => rfl
  | v :: r, ins, n, s, h => by
    rw [hearE]
    have hr : ¬ InN r s := fun ⟨u, hu, hk⟩ => h ⟨u, List.mem_cons_of_mem _ hu, hk⟩
    split
    · rename_i hk
      rw [hearE_other r _ _ s hr]
      unfold updE
      rw [if_neg (fun e => h ⟨v, List.mem_cons_self .., hk, e⟩)]
    · exact hearE_other r _ _ s hr
def cntIn (vs : List Decl) : Nat := (vs.filter fun v => decide (v.kind = 1)).length
theorem cntIn_cons (v : Decl) (r : List Decl) : cntIn (v :: r) = (if v.kind = 1 then 1 else 0) + cntIn r := by
  unfold cntIn
  rw [List.filter_cons]
  by_cases h : v.kind = 1
  · simp [h]; omega
  · simp [h]
theorem hearE_at : ∀ (vs : List Decl) (ins : List Int) (n : Px.Env) (j : Nat) (v : Decl), (∀ (i k : Nat) (a b : Decl), vs[i]? = some a → vs[k]? = some b → a.name = b.name → i = k) → vs[j]? = some v → v.kind = 1 → hearE vs ins n v.name = ins.getD (cntIn (vs.take j)) 0
  | [], _, _, j, v, _, h, _ => by simp at h
  | u :: r, ins, n, j, v, hd, h, hk => by
    have hd' : ∀ (i k : Nat) (a b : Decl), r[i]? = some a → r[k]? = some b → a.name = b.name → i = k := fun i k a b ha hb he => by
      have := hd (i + 1) (k + 1) a b (by simpa using ha) (by simpa using hb) he
      omega
    cases j with
    | zero =>
      simp at h
      subst h
      rw [hearE, if_pos hk]
      rw [hearE_other r _ _ u.name (fun ⟨b, hb, _, he⟩ => by
        obtain ⟨i, hi, e⟩ := List.getElem_of_mem hb
        have := hd 0 (i + 1) u b (by simp) (by rw [List.getElem?_cons_succ, List.getElem?_eq_getElem hi, e]) he.symm
        omega)]
      unfold updE
      rw [if_pos rfl]
      cases ins <;> rfl
    | succ j =>
      have h' : r[j]? = some v := by simpa using h
      rw [hearE, List.take_succ_cons, cntIn_cons]
      split
      · rw [hearE_at r ins.tail _ j v hd' h' hk]
        cases ins with
        | nil => simp
        | cons x y => rw [Nat.add_comm]; rfl
      · rw [hearE_at r ins n j v hd' h' hk, Nat.zero_add]
theorem dist_vars {vs : List Decl} (hd : Dist (vnames vs)) : ∀ (i k : Nat) (a b : Decl), vs[i]? = some a → vs[k]? = some b → a.name = b.name → i = k := fun i k a b ha hb he => by
  refine hd.inj (by unfold vnames; rw [List.length_map]; exact (List.getElem?_eq_some_iff.1 ha).1) (by unfold vnames; rw [List.length_map]; exact (List.getElem?_eq_some_iff.1 hb).1) ?_
  unfold vnames
  rw [List.getD_eq_getElem?_getD, List.getElem?_map, ha, List.getD_eq_getElem?_getD, List.getElem?_map, hb]
  exact he
theorem ns_of {vs : List Decl} (hd : Dist (vnames vs)) : ∀ {k : Nat} {l : List (St k)} {n m : Nat}, regE vs k l n = .ok m → NsK (InN vs) k l
  | 0, _, _, _, _ => trivial
  | k + 1, l, n, m, h => by
    have hr := show regF vs (regE vs k) l n = .ok m from h
    have hst : ∃ m', statesE vs (regE vs k) (snames (ρ := St k) l) l 0 n = .ok m' := by
      unfold regF at hr
      split at hr
      · exact absurd hr (by simp)
      · rename_i m' hm'; exact ⟨m', hm'⟩
    obtain ⟨m', hm'⟩ := hst
    have hs : ∀ s ∈ (show List (StF (St k)) from l), (NoSet (InN vs) s.enter ∧ NoSet (InN vs) s.during ∧ NoSet (InN vs) s.leave ∧ ∀ y ∈ s.ways, NoSet (InN vs) y.sets) ∧ ∀ r ∈ s.regions, NsK (InN vs) k r := fun s hs => by
      obtain ⟨⟨i, hi⟩, n', m'', hq⟩ := statesE_ok hm' s hs
      refine ⟨stateE_ns hd hi, fun r hr' => ?_⟩
      obtain ⟨n1, m1, hq'⟩ := regsE_ok hq r hr'
      exact ns_of hd hq'
    exact ⟨fun s h => (hs s h).1.1, fun s h => (hs s h).1.2.1, fun s h => (hs s h).1.2.2.1, fun s h => (hs s h).1.2.2.2, fun s h => (hs s h).2⟩
theorem check_ns {c : Chart} (h : checkC c = none) : ∀ r ∈ c.regions, NsK (InN c.vars) 6 r := by
  have hd := check_dist h
  unfold checkC at h
  split at h
  · exact absurd h (by simp)
  · split at h
    · exact absurd h (by simp)
    · split at h
      · exact absurd h (by simp)
      · rename_i m hm
        intro r hr
        obtain ⟨n, m, hq⟩ := regsE_ok hm r hr
        exact ns_of hd hq
/-- behind a tick inputs are what they were told -/
theorem ins_told {c : Chart} (h : checkC c = none) {ins : List Int} {r r' : Rn} (ht : tickC c ins r = some r') {j : Nat} {v : Decl} (hj : c.vars[j]? = some v) (hk : v.kind = 1) : r'.now v.name = ins.getD (cntIn (c.vars.take j)) 0 := by
  rw [tick_sm (check_ns h) ht v.name ⟨v, List.mem_of_getElem? hj, hk, rfl⟩]
  exact hearE_at _ _ _ _ _ (dist_vars (check_dist h)) hj hk
theorem tellC_all (vs : List Decl) (n : Px.Env) : tellC (fun _ => true) vs n = vs.map fun v => n v.name := by
  unfold tellC
  rw [List.filter_eq_self.2 (fun _ _ => rfl)]
end Px
end Go.Proofs.YtecbilopliblpaaGreatDoor
/- RunRests: a chart that stands one deeper does the same. -/
namespace Go.Proofs.YtecbilopliblpaaGreatDoor
open Go.RowKit Px
namespace Px
section
variable {σ σ' ρ ρ' : Type}
/-- the same state, with regions that are the same -/
structure DnS (D : List σ → List σ' → Prop) (s : StF σ) (s' : StF σ') : Prop where
  name : s.name = s'.name
  first : s.first = s'.first
  last : s.last = s'.last
  enter : s.enter = s'.enter
  during : s.during = s'.during
  leave : s.leave = s'.leave
  rests : s.rests = s'.rests
  ways : s.ways = s'.ways
  regions : L2r D s.regions s'.regions
theorem L2r.same {α : Type} {P : α → α → Prop} (h : ∀ a, P a a) (l : List α) : L2r P l l := ⟨rfl, fun i a b ha hb => by rw [ha] at hb; injection hb with hb; rw [← hb]; exact h a⟩
theorem L2r.names {D : List σ → List σ' → Prop} : ∀ {L : List (StF σ)} {L' : List (StF σ')}, L2r (DnS D) L L' → snames L = snames L'
  | [], [], _ => rfl
  | [], _ :: _, h => by have := h.1; simp at this
  | _ :: _, [], h => by have := h.1; simp at this
  | s :: L, s' :: L', h => by
    have := L2r.names h.cons.2
    unfold snames at *
    rw [List.map_cons, List.map_cons, h.cons.1.name, this]
theorem wys_refl (y : Wy) : WyS (fun n n' => n = n') y y := ⟨rfl, rfl, rfl, rfl, rfl, fun n n' w w' h k => by rw [h, k], fun w w' n n' h k => by rw [h, k]⟩
theorem dn_st {D : List σ → List σ' → Prop} {s : StF σ} {s' : StF σ'} (h : DnS D s s') : StS (fun n n' => n = n') D s s' :=
  ⟨h.first, h.last, fun w w' n n' k1 k2 => by rw [h.enter, k1, k2], fun w w' n n' k1 k2 => by rw [h.during, k1, k2], fun w w' n n' k1 k2 => by rw [h.leave, k1, k2], fun n n' w w' k1 k2 => by rw [h.rests, k1, k2], by rw [h.ways]; exact L2r.same wys_refl _, h.regions⟩
theorem dn_gs {D : List σ → List σ' → Prop} {L : List (StF σ)} {L' : List (StF σ')} (h : L2r (DnS D) L L') : GS (fun n n' => n = n') D L L' :=
  ⟨⟨h.1, fun i s s' h1 h2 => dn_st (h.2 i s s' h1 h2)⟩, fun i j s s' y y' h1 h2 k1 k2 => by
    rw [← L2r.names h]
    rw [(h.2 i s s' h1 h2).ways, k2] at k1
    injection k1 with k1
    rw [k1]⟩
theorem SimOps.mono {Z : Env → Env → Prop} {O : Ops σ ρ} {O' : Ops σ' ρ'} {G G2 : List σ → List σ' → Prop} {R : ρ → ρ' → Prop} (h : SimOps Z O O' G R) (hG : ∀ L L', G2 L L' → G L L') : SimOps Z O O' G2 R :=
  ⟨fun L L' d d' hg => h.over L L' d d' (hG L L' hg), fun was was' b L L' n n' d d' hg => h.enter was was' b L L' n n' d d' (hG L L' hg), fun was was' L L' n n' d d' hg => h.go was was' L L' n n' d d' (hG L L' hg), fun was was' L L' n n' d d' hg => h.leave was was' L L' n n' d d' (hG L L' hg)⟩
theorem L2r.choose {α β : Type} {P : α → β → Prop} : ∀ (l : List α), (∀ a ∈ l, ∃ b, P a b) → ∃ m, L2r P l m
  | [], _ => ⟨[], L2r.nil P⟩
  | a :: l, h => by
    obtain ⟨b, hb⟩ := h a (List.mem_cons_self ..)
    obtain ⟨m, hm⟩ := L2r.choose l fun x hx => h x (List.mem_cons_of_mem _ hx)
    exact ⟨b :: m, L2r.mk hb hm⟩
theorem L2r.mem {α β : Type} {P : α → β → Prop} {l : List α} {m : List β} (h : L2r P l m) {b : β} (hb : b ∈ m) : ∃ a ∈ l, P a b := by
  obtain ⟨i, hi, e⟩ := List.getElem_of_mem hb
  rcases h.or i with ⟨_, h2⟩ | ⟨a, b', h1, h2, hp⟩
  · rw [List.getElem?_eq_getElem hi] at h2; exact absurd h2 (by simp)
  · rw [List.getElem?_eq_getElem hi, e] at h2
    injection h2 with h2
    rw [← h2] at hp
    exact ⟨a, List.mem_of_getElem? h1, hp⟩
end
def DnK : (k : Nat) → List (St (k + 1)) → List (St k) → Prop
  | 0 => fun _ _ => False
  | k + 1 => fun L L' => L2r (DnS (DnK k)) (show List (StF (St (k + 1))) from L) (show List (StF (St k)) from L')
def RdK : (k : Nat) → Rd (k + 1) → Rd k → Prop
  | 0 => fun _ _ => False
  | k + 1 => fun d d' => RS2 (RdK k) (show RdF (Rd (k + 1)) from d) (show RdF (Rd k) from d')
theorem opsK_dn : ∀ k, SimOps (fun n n' => n = n') (OpsK (k + 1)) (OpsK k) (DnK k) (RdK k)
  | 0 => ⟨fun _ _ _ _ h => absurd h id, fun _ _ _ _ _ _ _ _ _ h => absurd h id, fun _ _ _ _ _ _ _ _ h => absurd h id, fun _ _ _ _ _ _ _ _ h => absurd h id⟩
  | k + 1 => (opsF_sim (opsK_dn k)).mono fun _ _ h => dn_gs h
/-- how many regions stand in one another -/
def deepF {σ : Type} (f : List (List σ) → Nat) (n : Nat) (r : List (StF σ)) : Nat := r.foldl (fun n s => max n (1 + f s.regions)) (max n 1)
def deepG {σ : Type} (f : List (List σ) → Nat) (rs : List (List (StF σ))) : Nat := rs.foldl (fun n r => deepF f n r) 0
def deepN : (k : Nat) → List (List (St k)) → Nat
  | 0 => fun _ => 0
  | k + 1 => deepG (deepN k)
theorem foldl_ge {α : Type} {f : Nat → α → Nat} (hf : ∀ n a, n ≤ f n a) : ∀ (l : List α) (n : Nat), n ≤ l.foldl f n
  | [], _ => Nat.le_refl _
  | a :: l, n => Nat.le_trans (hf n a) (foldl_ge hf l (f n a))
theorem foldl_mem {α : Type} {f : Nat → α → Nat} (hf : ∀ n a, n ≤ f n a) {g : α → Nat} (hg : ∀ n a, g a ≤ f n a) : ∀ (l : List α) (n : Nat) (a : α), a ∈ l → g a ≤ l.foldl f n
  | [], _, _, h => by cases h
  | b :: l, n, a, h => by
    rw [List.foldl_cons]
    rcases List.mem_cons.1 h with rfl | h
    · exact Nat.le_trans (hg n a) (foldl_ge hf l _)
    · exact foldl_mem hf hg l _ a h
theorem deepF_ge {σ : Type} (f : List (List σ) → Nat) (n : Nat) (r : List (StF σ)) : max n 1 ≤ deepF f n r := foldl_ge (fun _ _ => Nat.le_max_left _ _) r _
theorem deepF_mem {σ : Type} (f : List (List σ) → Nat) (n : Nat) {r : List (StF σ)} {s : StF σ} (h : s ∈ r) : 1 + f s.regions ≤ deepF f n r :=
  foldl_mem (f := fun n (s : StF σ) => max n (1 + f s.regions)) (g := fun s => 1 + f s.regions) (fun _ _ => Nat.le_max_left _ _) (fun _ _ => Nat.le_max_right _ _) r _ s h
theorem deepG_one {σ : Type} (f : List (List σ) → Nat) {rs : List (List (StF σ))} {r : List (StF σ)} (h : r ∈ rs) : 1 ≤ deepG f rs :=
  foldl_mem (f := fun n (r : List (StF σ)) => deepF f n r) (g := fun _ => 1) (fun n r => Nat.le_trans (Nat.le_max_left _ _) (deepF_ge f n r)) (fun n r => Nat.le_trans (Nat.le_max_right _ _) (deepF_ge f n r)) rs 0 r h
theorem deepG_at {σ : Type} (f : List (List σ) → Nat) {r : List (StF σ)} {s : StF σ} (hs : s ∈ r) : ∀ (l : List (List (StF σ))) (n : Nat), r ∈ l → 1 + f s.regions ≤ l.foldl (fun n r => deepF f n r) n
  | [], _, h => by cases h
  | b :: l, n, h => by
    rw [List.foldl_cons]
    rcases List.mem_cons.1 h with rfl | h
    · exact Nat.le_trans (deepF_mem f n hs) (foldl_ge (fun n r => Nat.le_trans (Nat.le_max_left _ _) (deepF_ge f n r)) l _)
    · exact deepG_at f hs l _ h
theorem deepN_mem {k : Nat} {rs : List (List (St (k + 1)))} {r : List (StF (St k))} (h : r ∈ (show List (List (StF (St k))) from rs)) {s : StF (St k)} (hs : s ∈ r) : 1 + deepN k s.regions ≤ deepN (k + 1) rs := deepG_at (deepN k) hs _ 0 h
theorem dn_some : ∀ (k : Nat) (rs : List (List (St (k + 1)))), deepN (k + 1) rs ≤ k → ∃ rs' : List (List (St k)), L2r (DnK k) rs rs'
  | 0, rs, h => by
    cases rs with
    | nil => exact ⟨[], L2r.nil _⟩
    | cons r rs => exact absurd h (by have := deepG_one (deepN 0) (rs := r :: rs) (r := r) (List.mem_cons_self ..); show ¬ deepG (deepN 0) (r :: rs) ≤ 0; omega)
  | k + 1, rs, h => by
    refine L2r.choose rs fun r hr => ?_
    refine L2r.choose (P := DnS (DnK k)) (show List (StF (St (k + 1))) from r) fun s hs => ?_
    have h1 := deepN_mem (k := k + 1) hr hs
    obtain ⟨q, hq⟩ := dn_some k s.regions (by omega)
    exact ⟨⟨s.name, s.first, s.last, s.enter, s.during, s.leave, s.rests, s.ways, q⟩, rfl, rfl, rfl, rfl, rfl, rfl, rfl, rfl, hq⟩
theorem map_at {α β : Type} {f : α → β} {l : List α} {i : Nat} {y : β} (h : (l.map f)[i]? = some y) : ∃ a, l[i]? = some a ∧ y = f a := by
  rw [List.getElem?_map] at h
  cases hl : l[i]? with
  | none => rw [hl] at h; exact absurd h (by simp)
  | some a => rw [hl] at h; simp at h; exact ⟨a, rfl, h.symm⟩
theorem L2r.map {α β α' β' : Type} {P : α → β → Prop} {Q : α' → β' → Prop} {f : α → α'} {g : β → β'} {l : List α} {m : List β} (h : L2r P l m) (hf : ∀ a b, P a b → Q (f a) (g b)) : L2r Q (l.map f) (m.map g) := by
  refine ⟨by rw [List.length_map, List.length_map]; exact h.1, fun i x y hx hy => ?_⟩
  obtain ⟨a, ha, rfl⟩ := map_at hx
  obtain ⟨b, hb, rfl⟩ := map_at hy
  exact hf a b (h.2 i a b ha hb)
theorem lay_dn1 {k : Nat} (ih : ∀ (L : List (St (k + 1))) (L' : List (St k)), DnK k L L' → RdK k (layD (k + 1) L) (layD k L')) {L : List (StF (St (k + 1)))} {L' : List (StF (St k))} (h : L2r (DnS (DnK k)) L L') : RS2 (RdK k) ⟨none, none, L.map fun s => ⟨s.ways.map fun _ => 0, s.regions.map (layD (k + 1))⟩⟩ ⟨none, none, L'.map fun s => ⟨s.ways.map fun _ => 0, s.regions.map (layD k)⟩⟩ :=
  ⟨rfl, rfl, h.map fun s s' hs => ⟨by show List.map _ s.ways = List.map _ s'.ways; rw [hs.ways], hs.regions.map fun r r' hr => ih r r' hr⟩⟩
theorem lay_dn : ∀ (k : Nat) (L : List (St (k + 1))) (L' : List (St k)), DnK k L L' → RdK k (layD (k + 1) L) (layD k L')
  | 0, _, _, h => absurd h id
  | k + 1, _, _, h => lay_dn1 (lay_dn k) h
theorem flat_dn {α β α' β' : Type} {f : α → β → List Str} {f' : α' → β' → List Str} {P : α → α' → Prop} {Q : β → β' → Prop} (h : ∀ a a' b b', P a a' → Q b b' → f a b = f' a' b') : ∀ {l : List α} {l' : List α'} {m : List β} {m' : List β'}, L2r P l l' → L2r Q m m' → (List.zipWith f l m).flatten = (List.zipWith f' l' m').flatten
  | [], [], _, _, _, _ => by simp
  | [], _ :: _, _, _, h, _ => by have := h.1; simp at this
  | _ :: _, [], _, _, h, _ => by have := h.1; simp at this
  | _ :: _, _ :: _, [], [], _, _ => by simp
  | _ :: _, _ :: _, [], _ :: _, _, h => by have := h.1; simp at this
  | _ :: _, _ :: _, _ :: _, [], _, h => by have := h.1; simp at this
  | a :: l, a' :: l', b :: m, b' :: m', k1, k2 => by
    rw [List.zipWith_cons_cons, List.zipWith_cons_cons, List.flatten_cons, List.flatten_cons, h a a' b b' k1.cons.1 k2.cons.1, flat_dn h k1.cons.2 k2.cons.2]
theorem there_dn1 {k : Nat} (ih : ∀ (L : List (St (k + 1))) (L' : List (St k)) (d : Rd (k + 1)) (d' : Rd k), DnK k L L' → RdK k d d' → thereK (k + 1) L d = thereK k L' d') {L : List (StF (St (k + 1)))} {L' : List (StF (St k))} {d : RdF (Rd (k + 1))} {d' : RdF (Rd k)} (h : L2r (DnS (DnK k)) L L') (hd : RS2 (RdK k) d d') : thereF (thereK (k + 1)) L d = thereF (thereK k) L' d' := by
  unfold thereF
  rw [← hd.there]
  cases d.there with
  | none => rfl
  | some i =>
    simp only
    rcases h.or i with ⟨h1, h2⟩ | ⟨s, s', h1, h2, hs⟩
    · simp only [h1, h2]
    · rcases hd.sts.or i with ⟨k1, k2⟩ | ⟨x, x', k1, k2, hx⟩
      · simp only [h1, h2, k1, k2]
      · simp only [h1, h2, k1, k2]
        rw [hs.name, flat_dn (fun r r' y y' => ih r r' y y') hs.regions hx.2]
theorem there_dn : ∀ (k : Nat) (L : List (St (k + 1))) (L' : List (St k)) (d : Rd (k + 1)) (d' : Rd k), DnK k L L' → RdK k d d' → thereK (k + 1) L d = thereK k L' d'
  | 0, _, _, _, _, h, _ => absurd h id
  | k + 1, _, _, _, _, h, hd => there_dn1 (there_dn k) h hd
end Px
end Go.Proofs.YtecbilopliblpaaGreatDoor
/- What is drawn: its numbers fit. -/
namespace Go.Proofs.YtecbilopliblpaaGreatDoor
open Go.RowKit Px
namespace Kx
theorem nbE {e : E} (h : Sh.TE e) : NbOk e := by
  induction e with
  | nil => trivial
  | node b o a l r ihl ihr =>
    obtain ⟨h1, h2, h3, h4, _, h5, h6⟩ := h
    exact ⟨h3, ihl h5, ihr h6⟩
theorem nbS {l : List Asg} (h : Sh.TS l) : NbSets l := fun a ha => nbE (h a ha).1
theorem nbSt : ∀ (k : Nat) (x : St k), Sh.TSt k x → NbSt k x := by
  intro k
  induction k with
  | zero => intro x _; trivial
  | succ k ih =>
    intro x h
    obtain ⟨h0, h1, h2, h3, h4, h5, h6⟩ := h
    exact ⟨⟨nbS h1, nbS h2, nbS h3, nbE h4, fun y hy => ⟨nbE (h5 y hy).2.2.1, nbS (h5 y hy).2.2.2.1⟩⟩, fun r hr y hy => ih y (h6 r hr y hy)⟩
theorem nbChart {L : List Lx.Tok} (hL : Wf L) {c : Chart} (h : chart L = .ok c) : (∀ r ∈ c.regions, ∀ x ∈ r, NbSt 6 x) ∧ ∀ v ∈ c.vars, N64 v.first := by
  obtain ⟨h1, h2, h3⟩ := Sh.chart_w hL h
  exact ⟨fun r hr x hx => nbSt 6 x (h2 r hr x hx), fun v hv => ⟨(h1 v hv).1.2.2.1, (h1 v hv).1.2.2.2⟩⟩
/-- a chart that is drawn and may be -/
structure RunC (c : Chart) : Prop where
  ok : checkC c = none
  nm : NmChart c
  run : ChartR c
  n64 : ∀ v ∈ c.vars, N64 v.first
theorem runC {s : ByteArray} {l : List Lx.Tok} {c : Chart} (hok : Lx.Ok (bs s) l) (hch : chart (fin s l) = .ok c) (h : checkC c = none) : RunC c :=
  ⟨h, nmChart (wf_ok hok) hch, check_runs h (nmChart (wf_ok hok) hch) (nbChart (wf_ok hok) hch).1, (nbChart (wf_ok hok) hch).2⟩
end Kx
end Go.Proofs.YtecbilopliblpaaGreatDoor
