import Derived.Test.YtpogmfliojcnjaaGreatDoorQVyVq
import Derived.Test.YtpogmfliojcnjaaGreatDoorQKn0
namespace Go.Proofs.YtpogmfliojcnjaaGreatDoor
open Go.RowKit Px
namespace Px
def apN (s : Str) : Str := 113 :: s
theorem apN_inj (s t : Str) (h : apN s = apN t) : s = t := by injection h
def apE : E → E
 | .nil => .nil
 | .node _ _ a l r => .node 0 0 ⟨a.code, a.num, if a.code = 2 ∨ a.code = 3 then apN a.name else []⟩ (apE l) (apE r)
def apA (a : Asg) : Asg := ⟨apN a.name, apE a.e⟩
def apW (y : Wy) : Wy := ⟨y.kind, y.now, apE y.cond, y.times, y.sets.map apA, y.to, y.back⟩
def apF {σ : Type} (f : List σ → List σ) (s : StF σ) : StF σ := ⟨s.name, s.first, s.last, s.enter.map apA, s.during.map apA, s.leave.map apA, apE s.rests, s.ways.map apW, s.regions.map f⟩
def apR : (k : Nat) → List (St k) → List (St k)
 | 0 => fun L => L
 | k + 1 => fun L => List.map (apF (apR k)) (show List (StF (St k)) from L)
def apV (v : Decl) : Decl := ⟨v.kind, apN v.name, v.first⟩
def besC (c d : Chart) : Chart := ⟨c.name, c.vars ++ d.vars.map apV, c.regions ++ d.regions.map (apR 6)⟩
theorem L2r.img {α β : Type} {P : α → β → Prop} {f : α → β} (l : List α) (h : ∀ a ∈ l, P a (f a)) : L2r P l (l.map f) :=
 ⟨by rw [List.length_map], fun i a b ha hb => by
  obtain ⟨a', ha', rfl⟩ := map_at hb
  rw [ha] at ha'
  injection ha' with ha'
  rw [← ha']; exact h a (List.mem_of_getElem? ha)⟩
theorem ap_e : ∀ e : E, BeE apN e (apE e)
 | .nil => trivial
 | .node _ _ a l r => ⟨rfl, rfl, fun h => by show (if _ then _ else _) = _; rw [if_pos h], ap_e l, ap_e r⟩
theorem ap_a (a : Asg) : BeA apN a (apA a) := ⟨rfl, ap_e _⟩
theorem ap_w (y : Wy) : BeW apN y (apW y) := ⟨rfl, rfl, rfl, rfl, rfl, ap_e _, L2r.img _ fun a _ => ap_a a⟩
theorem ap_k : ∀ (k : Nat) (L : List (St k)), BeK apN k L (apR k L)
 | 0, _ => trivial
 | k + 1, L => L2r.img (P := BeS apN (BeK apN k)) (f := apF (apR k)) (show List (StF (St k)) from L) fun _ _ => ⟨rfl, rfl, rfl, L2r.img _ fun a _ => ap_a a, L2r.img _ fun a _ => ap_a a, L2r.img _ fun a _ => ap_a a, ap_e _, L2r.img _ fun y _ => ap_w y, L2r.img _ fun r _ => ap_k k r⟩
theorem id_e : ∀ e : E, BeE id e e
 | .nil => trivial
 | .node _ _ _ l r => ⟨rfl, rfl, fun _ => rfl, id_e l, id_e r⟩
theorem id_a (a : Asg) : BeA id a a := ⟨rfl, id_e _⟩
theorem id_w (y : Wy) : BeW id y y := ⟨rfl, rfl, rfl, rfl, rfl, id_e _, L2r.same id_a _⟩
theorem id_k : ∀ (k : Nat) (L : List (St k)), BeK id k L L
 | 0, _ => trivial
 | k + 1, L => L2r.same (P := BeS id (BeK id k)) (fun _ => ⟨rfl, rfl, rfl, L2r.same id_a _, L2r.same id_a _, L2r.same id_a _, id_e _, L2r.same id_w _, L2r.same (id_k k) _⟩) (show List (StF (St k)) from L)
theorem dist_pw {ns : List Str} : Dist ns ↔ ns.Pairwise (· ≠ ·) := by
 constructor
 ·intro h
  rw [List.pairwise_iff_getElem]
  intro i j hi hj hij he
  have := h.inj hi hj (by rw [List.getD_eq_getElem?_getD, List.getElem?_eq_getElem hi, List.getD_eq_getElem?_getD, List.getElem?_eq_getElem hj, he])
  omega
 ·intro h i hi hlt
  rw [List.pairwise_iff_getElem] at h
  unfold fndI at hlt
  cases hf : fnd ns (ns.getD i []) with
  | none => exact fnd_none hf i hi rfl
  | some k =>
   rw [hf] at hlt
   obtain ⟨h1, h2, _⟩ := fnd_some hf
   have hk : k < i := by simp at hlt; omega
   refine h k i h1 hi hk ?_
   rw [List.getD_eq_getElem?_getD, List.getElem?_eq_getElem h1, List.getD_eq_getElem?_getD, List.getElem?_eq_getElem hi] at h2
   exact h2
theorem vnames_app (a b : List Decl) : vnames (a ++ b) = vnames a ++ vnames b := by unfold vnames; rw [List.map_append]
theorem vnames_ap (b : List Decl) : vnames (b.map apV) = (vnames b).map apN := by unfold vnames; rw [List.map_map, List.map_map]; rfl
def Apart (c d : Chart) : Prop := ∀ s ∈ vnames c.vars, ∀ t ∈ vnames d.vars, s ≠ apN t
theorem bes_dist {c d : Chart} (hc : Dist (vnames c.vars)) (hd : Dist (vnames d.vars)) (ha : Apart c d) : Dist (vnames (besC c d).vars) := by
 show Dist (vnames (c.vars ++ d.vars.map apV))
 rw [vnames_app, vnames_ap, dist_pw, List.pairwise_append, List.pairwise_map]
 refine ⟨dist_pw.1 hc, (dist_pw.1 hd).imp fun h e => h (apN_inj _ _ e), fun s hs t ht e => ?_⟩
 obtain ⟨t', ht', rfl⟩ := List.mem_map.1 ht
 exact ha s hs t' ht' e
theorem ap_dist {d : Chart} (hd : Dist (vnames d.vars)) : Dist (vnames (d.vars.map apV)) := by
 rw [vnames_ap, dist_pw, List.pairwise_map]
 exact (dist_pw.1 hd).imp fun h e => h (apN_inj _ _ e)
theorem has_of {φ : Str → Str} {vs vs' : List Decl} (hd : Dist (vnames vs)) (hd' : Dist (vnames vs')) (h : ∀ v ∈ vs, ∃ v' ∈ vs', v'.name = φ v.name ∧ v'.kind = v.kind) : HasV φ vs vs' := fun s hs => by
 obtain ⟨v, hv, rfl⟩ := List.mem_map.1 hs
 obtain ⟨v', hv', h1, h2⟩ := h v hv
 rw [← h1]
 exact ⟨List.mem_map.2 ⟨v', hv', rfl⟩, by rw [vkind_of hd' hv', vkind_of hd hv, h2]⟩
theorem has_1 {c d : Chart} (hc : Dist (vnames c.vars)) (hb : Dist (vnames (besC c d).vars)) : HasV id c.vars (besC c d).vars := has_of hc hb fun v hv => ⟨v, List.mem_append.2 (.inl hv), rfl, rfl⟩
theorem has_2 {c d : Chart} (hd : Dist (vnames d.vars)) (hb : Dist (vnames (besC c d).vars)) : HasV apN d.vars (besC c d).vars := has_of hd hb fun v hv => ⟨apV v, List.mem_append.2 (.inr (List.mem_map.2 ⟨v, hv, rfl⟩)), rfl, rfl⟩
theorem has_3 {d : Chart} (hd : Dist (vnames d.vars)) : HasV apN d.vars (d.vars.map apV) := has_of hd (ap_dist hd) fun v hv => ⟨apV v, List.mem_map.2 ⟨v, hv, rfl⟩, rfl, rfl⟩
theorem check_regs {c : Chart} (h : checkC c = none) : c.regions ≠ [] ∧ ∃ m, regsE (regE c.vars 6) c.regions 0 = .ok m := by
 unfold checkC at h
 split at h
 ·exact absurd h (by simp)
 ·split at h
  ·exact absurd h (by simp)
  ·rename_i h0
   split at h
   ·exact absurd h (by simp)
   ·rename_i m hm; exact ⟨h0, m, hm⟩
theorem check_of {c : Chart} (hd : Dist (vnames c.vars)) (h0 : c.regions ≠ []) {m : Nat} (h : regsE (regE c.vars 6) c.regions 0 = .ok m) : checkC c = none := by
 unfold checkC
 rw [twiceF_none (vnames c.vars) c.vars.length 0 (fun j _ hj => hd j (by unfold vnames; rw [List.length_map]; omega))]
 simp only
 rw [if_neg h0, h]
theorem regsE_app {ρ : Type} {R : List ρ → Nat → Res} {b : List (List ρ)} {m q : Nat} : ∀ {a : List (List ρ)} {n : Nat}, regsE R a n = .ok m → regsE R b m = .ok q → regsE R (a ++ b) n = .ok q
 | [], n, h, k => by
  rw [regsE] at h
  injection h with h
  rw [h]; exact k
 | r :: a, n, h, k => by
  rw [List.cons_append, regsE]
  rw [regsE] at h
  cases hr : R r n with
  | error x => rw [hr] at h; exact absurd h (by simp)
  | ok p =>
   rw [hr] at h
   exact regsE_app h k
theorem regsE_add {vs : List Decl} {rs : List (List (St 6))} {m : Nat} (h : regsE (regE vs 6) rs 0 = .ok m) : ∀ j, regsE (regE vs 6) rs j = .ok (m + j)
 | 0 => h
 | j + 1 => regsE_up (regE_up 6) (regsE_add h j)
theorem bes_check {c d : Chart} (hc : checkC c = none) (hd : checkC d = none) (ha : Apart c d) : checkC (besC c d) = none := by
 have hb := bes_dist (check_dist hc) (check_dist hd) ha
 obtain ⟨h0, m, hm⟩ := check_regs hc
 obtain ⟨_, q, hq⟩ := check_regs hd
 refine check_of (m := q + m) hb (by show c.regions ++ _ ≠ []; simp [h0]) (regsE_app (m := m) ?_ ?_)
 ·exact regsE_dn (D := BeK id 6) (be_regE (has_1 (check_dist hc) hb) 6) (L2r.same (id_k 6) _) hm
 ·exact regsE_dn (D := BeK apN 6) (be_regE (has_2 (check_dist hd) hb) 6) (L2r.img _ fun r _ => ap_k 6 r) (regsE_add hq m)
theorem noSet_off {vs : List Decl} {K : Str → Prop} (hK : ∀ s, K s → s ∉ vnames vs) {l : List Asg} (h : setsE vs l = 0) : NoSet K l := fun a ha hk => by
 have h1 := setsE_mem h a ha
 unfold setE at h1
 split at h1
 ·simp at h1
 ·rename_i hx
  simp only [Bool.or_eq_true, not_or, Bool.not_eq_true] at hx
  exact hK _ hk (fnd_mem hx.1)
theorem ns_off {vs : List Decl} {K : Str → Prop} (hK : ∀ s, K s → s ∉ vnames vs) : ∀ {k : Nat} {l : List (St k)} {n m : Nat}, regE vs k l n = .ok m → NsK K k l
 | 0, _, _, _, _ => trivial
 | k + 1, l, n, m, h => by
  have hp := reg_parts (L := (show List (StF (St k)) from l)) (show regF vs (regE vs k) l n = .ok m from h)
  have ha : ∀ s ∈ (show List (StF (St k)) from l), ∃ ns, aloneE vs ns s = 0 := fun s hs => by
   obtain ⟨⟨i, hi⟩, _⟩ := hp s hs
   exact ⟨_, stateE_alone hi⟩
  refine ⟨fun s hs => ?_, fun s hs => ?_, fun s hs => ?_, fun s hs y hy => ?_, fun s hs r hr => ?_⟩
  ·obtain ⟨_, h1⟩ := ha s hs; exact noSet_off hK (aloneE_parts h1).1
  ·obtain ⟨_, h1⟩ := ha s hs; exact noSet_off hK (aloneE_parts h1).2.1
  ·obtain ⟨_, h1⟩ := ha s hs; exact noSet_off hK (aloneE_parts h1).2.2.1
  ·obtain ⟨_, h1⟩ := ha s hs
   obtain ⟨_, h2⟩ := (aloneE_parts h1).2.2.2
   exact noSet_off hK (wayE_sets (waysE_mem h2 y hy))
  ·obtain ⟨n', m', h2⟩ := (hp s hs).2 r hr
   exact ns_off hK h2
theorem tickG_sm {K : Str → Prop} {was n : Env} {L : List (St 6)} {d : Rd 6} {p : Env × Rd 6} (hG : NsK K 6 L) (h : tickG was L n d = some p) : Sm K n p.1 := by
 unfold tickG at h
 split at h
 ·exact (opsK_sm K 6).enter _ _ _ _ _ _ hG h
 ·exact (opsK_sm K 6).go _ _ _ _ _ hG h
section
variable {σ ρ : Type} {f : List σ → Env → ρ → Option (Env × ρ)}
theorem allI_front {a b : List (List σ)} {db : List ρ} : ∀ (fu i : Nat) (n : Env) (da : List ρ) (p : Env × List ρ), i + fu ≤ a.length → da.length = a.length → allI f a fu i n da = some p → allI f (a ++ b) fu i n (da ++ db) = some (p.1, p.2 ++ db) := by
 intro fu
 induction fu with
 | zero => intro i n da p _ _ h; rw [allI] at h ⊢; injection h with h; rw [← h]
 | succ fu ih =>
  intro i n da p hi hl h
  rw [allI] at h ⊢
  rw [List.getElem?_append_left (by omega), List.getElem?_append_left (by omega)]
  split at h
  ·rename_i r d hr hd
   split at h
   ·exact absurd h (by simp)
   ·rename_i q hq
    try simp only [hq]
    rw [List.set_append_left _ _ (by omega)]
    exact ih (i + 1) q.1 _ p (by omega) (by rw [List.length_set]; exact hl) h
  ·exact absurd h (by simp)
theorem allI_back {a b : List (List σ)} {da : List ρ} (hl : da.length = a.length) : ∀ (fu i : Nat) (n : Env) (db : List ρ) (p : Env × List ρ), allI f b fu i n db = some p → allI f (a ++ b) fu (a.length + i) n (da ++ db) = some (p.1, da ++ p.2) := by
 intro fu
 induction fu with
 | zero => intro i n db p h; rw [allI] at h ⊢; injection h with h; rw [← h]
 | succ fu ih =>
  intro i n db p h
  rw [allI] at h ⊢
  rw [List.getElem?_append_right (by omega), List.getElem?_append_right (by omega), hl, Nat.add_sub_cancel_left]
  split at h
  ·rename_i r d hr hd
   split at h
   ·exact absurd h (by simp)
   ·rename_i q hq
    try simp only [hq]
    rw [List.set_append_right _ _ (by omega), hl, Nat.add_sub_cancel_left]
    exact ih (i + 1) q.1 _ p h
  ·exact absurd h (by simp)
theorem allI_cut {rs : List (List σ)} {f2 : Nat} {q : Env × List ρ} : ∀ (f1 i : Nat) (n : Env) (ds : List ρ) (p : Env × List ρ), allI f rs f1 i n ds = some p → allI f rs f2 (i + f1) p.1 p.2 = some q → allI f rs (f1 + f2) i n ds = some q := by
 intro f1
 induction f1 with
 | zero => intro i n ds p h k; rw [allI] at h; injection h with h; rw [← h] at k; rw [Nat.zero_add]; exact k
 | succ f1 ih =>
  intro i n ds p h k
  rw [Nat.add_right_comm, allI]
  rw [allI] at h
  split at h
  ·rename_i r d hr hd
   split at h
   ·exact absurd h (by simp)
   ·rename_i x hx
    try simp only [hr, hd, hx]
    exact ih (i + 1) x.1 _ p h (by rw [show i + 1 + f1 = i + (f1 + 1) from by omega]; exact k)
  ·exact absurd h (by simp)
theorem allI_app {a b : List (List σ)} {n : Env} {da db : List ρ} {p q : Env × List ρ} (hl : da.length = a.length) (hp : p.2.length = a.length) (h : allI f a a.length 0 n da = some p) (k : allI f b b.length 0 p.1 db = some q) : allI f (a ++ b) (a ++ b).length 0 n (da ++ db) = some (q.1, p.2 ++ q.2) := by
 rw [List.length_append]
 refine allI_cut a.length 0 n (da ++ db) (p.1, p.2 ++ db) (allI_front _ _ _ _ _ (by omega) hl h) ?_
 rw [Nat.zero_add]
 have := allI_back hp b.length 0 p.1 db q k
 rw [Nat.add_zero] at this
 exact this
end
theorem hear_app : ∀ (v u : List Decl) (ins : List Int) (n : Env), hearE (v ++ u) ins n = hearE u (ins.drop (cntIn v)) (hearE v ins n)
 | [], u, ins, n => rfl
 | x :: v, u, ins, n => by
  rw [List.cons_append, hearE, hearE, cntIn_cons]
  split
  ·rw [hear_app v u, List.drop_tail, Nat.add_comm 1]
  ·rw [hear_app v u, Nat.zero_add]
theorem hear_pad : ∀ (v : List Decl) (ins jns : List Int) (n : Env), (∀ j, j < cntIn v → ins.getD j 0 = jns.getD j 0) → hearE v ins n = hearE v jns n
 | [], _, _, _, _ => rfl
 | x :: v, ins, jns, n, h => by
  rw [hearE, hearE]
  rw [cntIn_cons] at h
  split
  ·rename_i hk
   rw [if_pos hk] at h
   have h0 : ins.headD 0 = jns.headD 0 := by
    have := h 0 (by omega)
    cases ins <;> cases jns <;> simp at this ⊢ <;> exact this
   rw [h0]
   refine hear_pad v _ _ _ fun j hj => ?_
   have := h (j + 1) (by omega)
   cases ins <;> cases jns <;> simp at this ⊢ <;> exact this
  ·rename_i hk
   rw [if_neg hk, Nat.zero_add] at h
   exact hear_pad v _ _ _ h
theorem hear_1 {ns : List Str} : ∀ (v : List Decl) (ins : List Int) (n n' : Env), Zb id ns n n' → Zb id ns (hearE v ins n) (hearE v ins n')
 | [], _, _, _, h => h
 | x :: v, ins, n, n', h => by
  rw [hearE, hearE]
  split
  ·exact hear_1 v _ _ _ (be_upd (φ := id) (fun _ _ h => h) h _ _)
  ·exact hear_1 v _ _ _ h
theorem hear_2 {ns : List Str} : ∀ (v : List Decl) (ins : List Int) (n n' : Env), Zb apN ns n n' → Zb apN ns (hearE v ins n) (hearE (v.map apV) ins n')
 | [], _, _, _, h => h
 | x :: v, ins, n, n', h => by
  rw [List.map_cons, hearE, hearE]
  show Zb apN ns (if x.kind = 1 then _ else _) (if x.kind = 1 then _ else _)
  split
  ·exact hear_2 v _ _ _ (be_upd apN_inj h _ _)
  ·exact hear_2 v _ _ _ h
theorem hear_off {v : List Decl} {s : Str} (h : s ∉ vnames v) (ins : List Int) (n : Env) : hearE v ins n s = n s :=
 hearE_other v ins n s fun ⟨u, hu, _, he⟩ => h (List.mem_map.2 ⟨u, hu, he⟩)
structure BesD (c d : Chart) (r q z : Rn) : Prop where
 now1 : Zb id (vnames c.vars) r.now z.now
 was1 : Zb id (vnames c.vars) r.was z.was
 now2 : Zb apN (vnames d.vars) q.now z.now
 was2 : Zb apN (vnames d.vars) q.was z.was
 ds : ∃ d1 d2, z.ds = d1 ++ d2 ∧ L2r (RdB 6) r.ds d1 ∧ L2r (RdB 6) q.ds d2
 len1 : r.ds.length = c.regions.length
 len2 : q.ds.length = d.regions.length
theorem allI_len {σ ρ : Type} {f : List σ → Env → ρ → Option (Env × ρ)} {rs : List (List σ)} : ∀ (fu i : Nat) (n : Env) (ds : List ρ) (p : Env × List ρ), allI f rs fu i n ds = some p → p.2.length = ds.length := by
 intro fu
 induction fu with
 | zero => intro i n ds p h; rw [allI] at h; injection h with h; rw [← h]
 | succ fu ih =>
  intro i n ds p h
  rw [allI] at h
  split at h
  ·split at h
   ·exact absurd h (by simp)
   ·have := ih _ _ _ _ h
    rw [List.length_set] at this
    exact this
  ·exact absurd h (by simp)
theorem bes_tick {c d : Chart} (hc : checkC c = none) (hd : checkC d = none) (ha : Apart c d) {a b ins : List Int} (h1 : ∀ j, j < cntIn c.vars → a.getD j 0 = ins.getD j 0) (h2 : ins.drop (cntIn c.vars) = b) {r q z r1 q1 : Rn} (hz : BesD c d r q z) (hr : tickC c a r = some r1) (hq : tickC d b q = some q1) : ∃ z1, tickC (besC c d) ins z = some z1 ∧ BesD c d r1 q1 z1 := by
 obtain ⟨p, hp, rfl⟩ := tickC_cases hr
 obtain ⟨o, ho, rfl⟩ := tickC_cases hq
 obtain ⟨d1, d2, hds, hd1, hd2⟩ := hz.ds
 have hoff1 : ∀ s ∈ vnames c.vars, s ∉ vnames (d.vars.map apV) := fun s hs h => by
  rw [vnames_ap] at h
  obtain ⟨t, ht, e⟩ := List.mem_map.1 h
  exact ha s hs t ht e.symm
 have hoff2 : ∀ s ∈ vnames d.vars, apN s ∉ vnames c.vars := fun s hs h => ha _ h s hs rfl
 have hrc : ∀ L ∈ c.regions, ∃ n m, regE c.vars 6 L n = .ok m := fun L hL => by
  obtain ⟨_, m, hm⟩ := check_regs hc
  exact regsE_ok hm L hL
 have hrd : ∀ L ∈ d.regions, ∃ n m, regE d.vars 6 L n = .ok m := fun L hL => by
  obtain ⟨_, m, hm⟩ := check_regs hd
  exact regsE_ok hm L hL
 have e0 : hearE (besC c d).vars ins z.now = hearE (d.vars.map apV) b (hearE c.vars a z.now) := by
  show hearE (c.vars ++ d.vars.map apV) ins z.now = _
  rw [hear_app, h2, hear_pad c.vars a ins z.now h1]
 have n1 : Zb id (vnames c.vars) (hearE c.vars a r.now) (hearE (besC c d).vars ins z.now) := fun s hs => by
  rw [e0]
  show hearE (d.vars.map apV) b (hearE c.vars a z.now) s = _
  rw [hear_off (hoff1 s hs)]
  exact hear_1 c.vars a _ _ hz.now1 s hs
 have n2 : Zb apN (vnames d.vars) (hearE d.vars b q.now) (hearE (besC c d).vars ins z.now) := by
  rw [e0]
  exact hear_2 d.vars b _ _ fun s hs => by rw [hear_off (hoff2 s hs)]; exact hz.now2 s hs
 have s1 := allI_sim' (Z := Zb id (vnames c.vars)) (G := GdB id c.vars 6) (R := RdB 6) (f := tickG r.was) (f' := tickG z.was) (fun L L' n n' x x' g1 g2 g3 => tickG_be (fun _ _ h => h) c.vars hz.was1 L L' n n' x x' g1 g2 g3) (rs := c.regions) (rs' := c.regions) ⟨rfl, fun i L L' g1 g2 => by rw [g1] at g2; injection g2 with g2; rw [← g2]; exact ⟨id_k 6 L, hrc L (List.mem_of_getElem? g1)⟩⟩ n1 hd1
 rcases s1.out with ⟨e1, _⟩ | ⟨p0, p', e1, e2, k1, k2⟩
 ·rw [hp] at e1; exact absurd e1 (by simp)
 rw [hp] at e1
 injection e1 with e1
 subst e1
 have m1 : Sm (fun s => ∃ t ∈ vnames d.vars, s = apN t) (hearE (besC c d).vars ins z.now) p'.1 := allI_sm (G := NsK (fun s => ∃ t ∈ vnames d.vars, s = apN t) 6) (fun L n x y g1 g2 => tickG_sm g1 g2) (fun L hL => by
  obtain ⟨_, _, hm⟩ := hrc L hL
  exact ns_off (fun s ⟨t, ht, e⟩ => by rw [e]; exact hoff2 t ht) hm) _ _ _ _ _ e2
 have n2' : Zb apN (vnames d.vars) (hearE d.vars b q.now) p'.1 := fun s hs => by rw [m1 _ ⟨s, hs, rfl⟩]; exact n2 s hs
 have s2 := allI_sim' (Z := Zb apN (vnames d.vars)) (G := GdB apN d.vars 6) (R := RdB 6) (f := tickG q.was) (f' := tickG z.was) (fun L L' n n' x x' g1 g2 g3 => tickG_be apN_inj d.vars hz.was2 L L' n n' x x' g1 g2 g3) (rs := d.regions) (rs' := d.regions.map (apR 6)) (L2r.img _ fun L hL => ⟨ap_k 6 L, hrd L hL⟩) n2' hd2
 rcases s2.out with ⟨e3, _⟩ | ⟨o0, o', e3, e4, k3, k4⟩
 ·rw [ho] at e3; exact absurd e3 (by simp)
 rw [ho] at e3
 injection e3 with e3
 subst e3
 have m2 : Sm (fun s => s ∈ vnames c.vars) p'.1 o'.1 := allI_sm (G := NsK (fun s => s ∈ vnames c.vars) 6) (fun L n x y g1 g2 => tickG_sm g1 g2) (fun L' hL' => by
  obtain ⟨L, hL, rfl⟩ := List.mem_map.1 hL'
  obtain ⟨n, m, hm⟩ := hrd L hL
  exact ns_off (vs := d.vars.map apV) hoff1 (be_regE (has_3 (check_dist hd)) 6 L _ n m (ap_k 6 L) hm)) _ _ _ _ _ e4
 have l1 : d1.length = c.regions.length := by rw [← hd1.1]; exact hz.len1
 have hall : allI (tickG z.was) (besC c d).regions (besC c d).regions.length 0 (hearE (besC c d).vars ins z.now) z.ds = some (o'.1, p'.2 ++ o'.2) := by
  rw [hds]
  exact allI_app l1 (by rw [allI_len _ _ _ _ _ e2]; exact l1) e2 e4
 refine ⟨⟨o'.1, o'.1, p'.2 ++ o'.2⟩, ?_, ?_⟩
 ·unfold tickC
  rw [hall]
 ·have q1 : Zb id (vnames c.vars) p.1 o'.1 := fun s hs => by
   show o'.1 s = _
   rw [m2 s hs]; exact k1 s hs
  exact ⟨q1, q1, k3, k3, ⟨_, _, rfl, k2, k4⟩, by show p.2.length = _; rw [allI_len _ _ _ _ _ hp]; exact hz.len1, by show o.2.length = _; rw [allI_len _ _ _ _ _ ho]; exact hz.len2⟩
theorem tell_ap {vs : List Decl} {p : Nat → Bool} {n n' : Env} : ∀ {l : List Decl}, (∀ v ∈ l, v ∈ vs) → Zb apN (vnames vs) n n' → tellC p (l.map apV) n' = tellC p l n
 | [], _, _ => rfl
 | v :: l, hl, h => by
  have ih := tell_ap (p := p) (l := l) (fun u hu => hl u (List.mem_cons_of_mem _ hu)) h
  unfold tellC at *
  rw [List.map_cons, List.filter_cons, List.filter_cons]
  show List.map _ (if p v.kind = true then _ else _) = _
  split
  ·rw [List.map_cons, List.map_cons, ih]
   exact congrArg (· :: _) (h v.name (List.mem_map.2 ⟨v, hl v (List.mem_cons_self ..), rfl⟩))
  ·exact ih
theorem tell_id {vs : List Decl} {p : Nat → Bool} {n n' : Env} : ∀ {l : List Decl}, (∀ v ∈ l, v ∈ vs) → Zb id (vnames vs) n n' → tellC p l n' = tellC p l n
 | [], _, _ => rfl
 | v :: l, hl, h => by
  have ih := tell_id (p := p) (l := l) (fun u hu => hl u (List.mem_cons_of_mem _ hu)) h
  unfold tellC at *
  rw [List.filter_cons]
  split
  ·rw [List.map_cons, List.map_cons, ih]
   exact congrArg (· :: _) (h v.name (List.mem_map.2 ⟨v, hl v (List.mem_cons_self ..), rfl⟩))
  ·exact ih
theorem bes_outs {c d : Chart} {r q z : Rn} (h : BesD c d r q z) : outsC (besC c d) z = outsC c r ++ outsC d q := by
 unfold outsC
 rw [← tell_id (vs := c.vars) (fun _ h => h) h.now1, ← tell_ap (vs := d.vars) (fun _ h => h) h.now2]
 unfold tellC
 rw [← List.map_append, ← List.filter_append]
 rfl
theorem bes_there {c d : Chart} {r q z : Rn} (h : BesD c d r q z) : thereC (besC c d) z = thereC c r ++ thereC d q := by
 obtain ⟨d1, d2, hds, hd1, hd2⟩ := h.ds
 unfold thereC
 show (List.zipWith (thereK 6) (c.regions ++ d.regions.map (apR 6)) z.ds).flatten = _
 rw [hds, List.zipWith_append (by rw [← hd1.1]; exact h.len1.symm), List.flatten_append]
 rw [flat_dn (fun L L' x x' => there_be 6 L L' x x') (L2r.same (id_k 6) c.regions) hd1, flat_dn (fun L L' x x' => there_be 6 L L' x x') (L2r.img d.regions fun L _ => ap_k 6 L) hd2]
theorem first_at : ∀ (vs : List Decl) (n0 : Env) (i : Nat) (v : Decl), (∀ (i k : Nat) (a b : Decl), vs[i]? = some a → vs[k]? = some b → a.name = b.name → i = k) → vs[i]? = some v → vs.foldl (fun n v => updE n v.name v.first) n0 v.name = v.first := by
 intro vs
 induction vs with
 | nil => intro n0 i v _ h; simp at h
 | cons u vs ih =>
  intro n0 i v hd h
  rw [List.foldl_cons]
  have hd' : ∀ (i k : Nat) (a b : Decl), vs[i]? = some a → vs[k]? = some b → a.name = b.name → i = k := fun i k a b ha hb he => by
   have := hd (i + 1) (k + 1) a b (by simpa using ha) (by simpa using hb) he
   omega
  cases i with
  | succ i => exact ih _ i v hd' (by simpa using h)
  | zero =>
   simp at h
   subst h
   have hoff : ∀ (l : List Decl) (n : Env), (∀ b ∈ l, b.name ≠ u.name) → l.foldl (fun n v => updE n v.name v.first) n u.name = n u.name := by
    intro l
    induction l with
    | nil => intro n _; rfl
    | cons b l ihl =>
     intro n hb
     rw [List.foldl_cons, ihl _ fun x hx => hb x (List.mem_cons_of_mem _ hx)]
     unfold updE
     rw [if_neg (hb b (List.mem_cons_self ..))]
   rw [hoff vs _ fun b hb he => by
    obtain ⟨j, hj, e⟩ := List.getElem_of_mem hb
    have := hd 0 (j + 1) u b (by simp) (by rw [List.getElem?_cons_succ, List.getElem?_eq_getElem hj, e]) he.symm
    omega]
   unfold updE
   rw [if_pos rfl]
theorem first_mem {vs : List Decl} (hd : Dist (vnames vs)) {v : Decl} (hv : v ∈ vs) : firstE vs v.name = v.first := by
 obtain ⟨i, hi, e⟩ := List.getElem_of_mem hv
 exact first_at vs _ i v (dist_vars hd) (by rw [List.getElem?_eq_getElem hi, e])
theorem bes_new {c d : Chart} (hc : checkC c = none) (hd : checkC d = none) (ha : Apart c d) : BesD c d (newC c) (newC d) (newC (besC c d)) := by
 have hb := bes_dist (check_dist hc) (check_dist hd) ha
 have n1 : Zb id (vnames c.vars) (firstE c.vars) (firstE (besC c d).vars) := fun s hs => by
  obtain ⟨v, hv, rfl⟩ := List.mem_map.1 hs
  show firstE (besC c d).vars v.name = _
  rw [first_mem hb (v := v) (List.mem_append.2 (.inl hv)), first_mem (check_dist hc) hv]
 have n2 : Zb apN (vnames d.vars) (firstE d.vars) (firstE (besC c d).vars) := fun s hs => by
  obtain ⟨v, hv, rfl⟩ := List.mem_map.1 hs
  have := first_mem hb (v := apV v) (List.mem_append.2 (.inr (List.mem_map.2 ⟨v, hv, rfl⟩)))
  rw [first_mem (check_dist hd) hv]
  exact this
 refine ⟨n1, n1, n2, n2, ⟨c.regions.map (layD 6), (d.regions.map (apR 6)).map (layD 6), ?_, ?_, ?_⟩, List.length_map _, List.length_map _⟩
 ·show (c.regions ++ d.regions.map (apR 6)).map (layD 6) = _
  rw [List.map_append]
 ·exact (L2r.same (id_k 6) c.regions).map fun a b h => lay_be 6 a b h
 ·exact (L2r.img (P := BeK apN 6) d.regions fun L _ => ap_k 6 L).map fun a b h => lay_be 6 a b h
end Px
end Go.Proofs.YtpogmfliojcnjaaGreatDoor
namespace Go.Proofs.YtpogmfliojcnjaaGreatDoor
open Px
namespace Kx
section
variable {ρ : Type}
end
end Kx
end Go.Proofs.YtpogmfliojcnjaaGreatDoor
