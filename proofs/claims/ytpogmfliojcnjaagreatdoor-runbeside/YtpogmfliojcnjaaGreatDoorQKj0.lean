import Derived.Test.YtpogmfliojcnjaaGreatDoorQUg3
import Derived.Test.YtpogmfliojcnjaaGreatDoorQKn0
import Derived.Test.YtpogmfliojcnjaaGreatDoorQUj
namespace Go.Proofs.YtpogmfliojcnjaaGreatDoor
open Go.RowKit Px
namespace Px
section
variable {σ ρ : Type} {O : Ops σ ρ} {G : List σ → Prop} {I J : List σ → ρ → Prop} {L : List (StF σ)} {d : RdF ρ}
structure GdF (G : List σ → Prop) (L : List (StF σ)) : Prop where
 inn : ∀ s ∈ L, ∀ r ∈ s.regions, G r
 fst : ∃ fi, firstI L = some fi ∧ fi < L.length
 tos : ∀ s ∈ L, ∀ y ∈ s.ways, ∃ t, fnd (snames L) y.to = some t
 ord : ∃ o, orderG (graph L) = some o
theorem fnd_lt {L : List (StF σ)} {s : Str} {t : Nat} (h : fnd (snames L) s = some t) : t < L.length := by
 have := (fnd_some h).1
 unfold snames at this
 rwa [List.length_map] at this
theorem takeR_ok (hO : OpsOk O G I J) (hG : GdF G L) (was n : Px.Env) (h : ShF I L d) {i j : Nat} {s : StF σ} {y : Wy} (ht : d.there = some i) (hs : L[i]? = some s) (hy : s.ways[j]? = some y) :
    ∃ t p, fnd (snames L) y.to = some t ∧ takeR O was L j n d = some p ∧ ShF I L p.2.2 ∧ p.2.2.there = some t ∧ (p.1 = none → LvF I J L p.2.2) ∧ ∀ j, p.1 = some j → ∃ s y, L[t]? = some s ∧ s.ways[j]? = some y ∧ y.now = true := by
 obtain ⟨t, hf⟩ := hG.tos s (List.mem_of_getElem? hs) y (List.mem_of_getElem? hy)
 obtain ⟨p, hp, hp2⟩ := leaveR_ok hO hG.inn was n h
 obtain ⟨q, hq, hq2⟩ := arriveR_ok hO hG.inn was (doS was y.sets p.1) y.back hp2 (fnd_lt hf)
 refine ⟨t, q, hf, ?_, hq2⟩
 unfold takeR
 simp only [ht, hs, hy, hp, hf, hq]
theorem followR_none (was : Px.Env) (f : Nat) (n : Px.Env) (d : RdF ρ) : followR O was L f none n d = some (n, d) := by cases f <;> rfl
theorem graph_now {i j t : Nat} {s : StF σ} {y : Wy} (hs : L[i]? = some s) (hy : s.ways[j]? = some y) (hn : y.now = true) (hf : fnd (snames L) y.to = some t) : some t ∈ (graph L).getD i [] := by
 unfold graph
 rw [List.getD_eq_getElem?_getD, List.getElem?_map, hs]
 show some t ∈ tosF (snames L) s.ways
 unfold tosF
 exact List.mem_map.2 ⟨y, List.mem_of_getElem? hy, by rw [if_pos hn, hf]⟩
theorem followR_now (hO : OpsOk O G I J) (hG : GdF G L) (was : Px.Env) {o : List Nat} (ho : orderG (graph L) = some o) : ∀ (f : Nat) (i j p : Nat) (n : Px.Env) (d : RdF ρ) (s : StF σ) (y : Wy), ShF I L d → d.there = some i → L[i]? = some s → s.ways[j]? = some y → y.now = true → posK o o.length i = some p → L.length ≤ f + p →
    ∃ q, followR O was L f (some j) n d = some q ∧ LvF I J L q.2 := by
 obtain ⟨o1, _, _, o2, o3⟩ := order_fair ho
 rw [graph_len] at o1 o2 o3
 intro f
 induction f with
 | zero =>
  intro i j p n d s y _ _ _ _ _ hp hl
  have := (posK_some hp).1
  omega
 | succ f ih =>
  intro i j p n d s y h ht hs hy hn hp hl
  obtain ⟨t, q, hf, hq, q1, q2, q3, q4⟩ := takeR_ok hO hG was n h ht hs hy
  rw [followR, hq]
  show ∃ q', followR O was L f q.1 q.2.1 q.2.2 = some q' ∧ _
  cases hw : q.1 with
  | none => rw [followR_none]; exact ⟨_, rfl, q3 hw⟩
  | some j' =>
   obtain ⟨s', y', s1, s2, s3⟩ := q4 j' hw
   have hil : i < L.length := (List.getElem?_eq_some_iff.1 hs).1
   obtain ⟨p', hp'⟩ := o2 t (fnd_lt hf)
   have := o3 i t hil (fnd_lt hf) (graph_now hs hy hn hf) p p' hp hp'
   exact ih t j' p' _ _ s' y' q1 q2 s1 s2 s3 hp' (by omega)
theorem follow_of (hO : OpsOk O G I J) (hG : GdF G L) (was : Px.Env) {f i : Nat} {w : Option Nat} {n : Px.Env} (hf : L.length ≤ f) (h : ShF I L d) (ht : d.there = some i) (h0 : w = none → LvF I J L d) (h1 : ∀ j, w = some j → ∃ s y, L[i]? = some s ∧ s.ways[j]? = some y ∧ y.now = true) : ∃ q, followR O was L f w n d = some q ∧ LvF I J L q.2 := by
 cases w with
 | none => rw [followR_none]; exact ⟨_, rfl, h0 rfl⟩
 | some j =>
  obtain ⟨o, ho⟩ := hG.ord
  obtain ⟨s, y, s1, s2, s3⟩ := h1 j rfl
  obtain ⟨_, _, _, o2, _⟩ := order_fair ho
  obtain ⟨p, hp⟩ := o2 i (by rw [graph_len]; exact (List.getElem?_eq_some_iff.1 s1).1)
  exact followR_now hO hG was ho f i j p n d s y h ht s1 s2 s3 hp (by omega)
theorem enterAt_ok (hO : OpsOk O G I J) (hG : GdF G L) (was n : Px.Env) (b : Bool) (h : ShF I L d) {i : Nat} (hi : i < L.length) : ∃ q, enterAt O was L i b n d = some q ∧ LvF I J L q.2 := by
 obtain ⟨p, hp, p1, p2, p3, p4⟩ := arriveR_ok hO hG.inn was n b h hi
 unfold enterAt
 simp only [hp]
 exact follow_of hO hG was (by omega) p1 p2 p3 p4
theorem enterR_ok (hO : OpsOk O G I J) (hG : GdF G L) (was n : Px.Env) (b : Bool) (h : ShF I L d) : ∃ q, enterR O was b L n d = some q ∧ LvF I J L q.2 := by
 obtain ⟨fi, f1, f2⟩ := hG.fst
 unfold enterR
 split
 ·rename_i i hw; exact enterAt_ok hO hG was n true h (h.2.2.1 i hw)
 ·rw [f1]; exact enterAt_ok hO hG was n false h f2
theorem passR_ok (hO : OpsOk O G I J) (hG : GdF G L) (was n : Px.Env) (h : LvF I J L d) :
    ∃ i p, passR O was L n d = some p ∧ ShF I L p.2.2 ∧ p.2.2.there = some i ∧ (p.1 = none → LvF I J L p.2.2) ∧ ∀ j, p.1 = some j → ∃ s y, L[i]? = some s ∧ s.ways[j]? = some y := by
 obtain ⟨h, i, ht, hJ⟩ := h
 have hi := h.2.1 i ht
 have e1 : L[i]? = some (L[i]'hi) := List.getElem?_eq_getElem _
 have hl : i < d.sts.length := by rw [h.1]; exact hi
 have e2 : d.sts[i]? = some (d.sts[i]'hl) := List.getElem?_eq_getElem _
 obtain ⟨a1, a2⟩ := h.2.2.2 i _ _ e1 e2
 have hsh : ∀ so ins, ins.length = (L[i]'hi).regions.length → (∀ (j : Nat) (r : List σ) (y : ρ), (L[i]'hi).regions[j]? = some r → ins[j]? = some y → J r y) → LvF I J L ⟨some i, d.was, d.sts.set i ⟨so, ins⟩⟩ := fun so ins hil hin =>
  ⟨h.put (t := some i) (u := d.was) (x := ⟨so, ins⟩) e1 ⟨hil, fun j r y hr hy => hO.ij _ _ (hin j r y hr hy)⟩ (fun i' h => by injection h with h; omega) h.2.2.1, i, rfl, fun s x hs hx j r y hr hy => by
   simp only [List.getElem?_set, if_pos, hl] at hx
   injection hx with hx
   rw [e1] at hs
   injection hs with hs
   rw [← hx] at hy
   rw [← hs] at hr
   exact hin j r y hr hy⟩
 refine ⟨i, ?_⟩
 unfold passR
 simp only [ht, e1, e2]
 split
 ·rename_i j hj
  have hh := fun so => hsh so _ a1 (hJ _ _ e1 e2)
  refine ⟨_, rfl, (hh _).1, rfl, fun h => by simp at h, fun j' hj' => ?_⟩
  injection hj' with hj'
  subst hj'
  obtain ⟨y, hy, _⟩ := opnI_some hj
  exact ⟨_, y, rfl, hy⟩
 ·split
  ·have hh := fun so => hsh so _ a1 (hJ _ _ e1 e2)
   exact ⟨_, rfl, (hh _).1, rfl, fun _ => hh _, fun j' hj' => by simp at hj'⟩
  ·obtain ⟨p, hp, p1, p2⟩ := allI_all (fun r n d => hO.go was r n d) (hG.inn _ (List.mem_of_getElem? e1)) (doS was (L[i]'hi).during n) a1 (hJ _ _ e1 e2)
   simp only [hp]
   have hh := fun so => hsh so p.2 p1 p2
   refine ⟨_, rfl, (hh _).1, rfl, fun _ => hh _, fun j' hj' => ?_⟩
   obtain ⟨y, hy, _⟩ := opnI_some hj'
   exact ⟨_, y, rfl, hy⟩
theorem goR_ok (hO : OpsOk O G I J) (hG : GdF G L) (was n : Px.Env) (h : LvF I J L d) : ∃ q, goR O was L n d = some q ∧ LvF I J L q.2 := by
 obtain ⟨i, p, hp, p1, p2, p3, p4⟩ := passR_ok hO hG was n h
 unfold goR
 simp only [hp]
 cases hw : p.1 with
 | none => rw [followR_none]; exact ⟨_, rfl, p3 hw⟩
 | some j =>
  obtain ⟨s, y, s1, s2⟩ := p4 j hw
  obtain ⟨t, q, hf, hq, q1, q2, q3, q4⟩ := takeR_ok hO hG was p.2.1 p1 p2 s1 s2
  rw [followR, hq]
  show ∃ q', followR O was L (L.length + 1) q.1 q.2.1 q.2.2 = some q' ∧ _
  exact follow_of hO hG was (by omega) q1 q2 q3 q4
theorem opsF_ok (hO : OpsOk O G I J) : OpsOk (OpsF O) (GdF G) (ShF I) (LvF I J) :=
 ⟨fun _ _ h => h.1, fun was b _ n _ hG h => enterR_ok hO hG was n b h, fun was _ n _ hG h => goR_ok hO hG was n h, fun was _ n _ hG h => leaveR_ok hO hG.inn was n h⟩
end
def GdK : (k : Nat) → List (St k) → Prop
 | 0 => fun _ => True
 | k + 1 => GdF (GdK k)
def ShK : (k : Nat) → List (St k) → Rd k → Prop
 | 0 => fun _ _ => True
 | k + 1 => ShF (ShK k)
def LvK : (k : Nat) → List (St k) → Rd k → Prop
 | 0 => fun _ _ => True
 | k + 1 => LvF (ShK k) (LvK k)
theorem opsK_ok : ∀ k, OpsOk (OpsK k) (GdK k) (ShK k) (LvK k)
 | 0 => ⟨fun _ _ _ => trivial, fun _ _ _ _ _ _ _ => ⟨_, rfl, trivial⟩, fun _ _ _ _ _ _ => ⟨_, rfl, trivial⟩, fun _ _ _ _ _ _ => ⟨_, rfl, trivial⟩⟩
 | k + 1 => opsF_ok (opsK_ok k)
end Px
end Go.Proofs.YtpogmfliojcnjaaGreatDoor
namespace Go.Proofs.YtpogmfliojcnjaaGreatDoor
open Go.RowKit Px
namespace Px
theorem gd_of : ∀ {k : Nat} {l : List (St k)}, OrdAll k l → LayR k l → GdK k l
 | 0, _, _, _ => trivial
 | k + 1, l, ho, hl => by
  obtain ⟨⟨o, h1, _, _⟩, h2⟩ := ho
  obtain ⟨l1, _, l3, _, l5⟩ := hl
  obtain ⟨fi, f1, f2⟩ := fst_some l1
  exact ⟨fun s hs r hr => gd_of (h2 s hs r hr) ((l5 s hs).2.2.2.2 r hr), ⟨fi, f1, f2⟩, l3, ⟨o, h1⟩⟩
theorem layD_sh1 {k : Nat} (ih : ∀ l : List (St k), ShK k l (layD k l)) (l : List (StF (St k))) : ShF (ShK k) l ⟨none, none, l.map fun s => ⟨s.ways.map fun _ => 0, s.regions.map (layD k)⟩⟩ := by
 refine ⟨List.length_map _, fun i h => absurd h (by simp), fun i h => absurd h (by simp), fun i s x hs hx => ?_⟩
 have hx' : (l.map fun s : StF (St k) => (⟨s.ways.map fun _ => (0 : Int), s.regions.map (layD k)⟩ : SdF (Rd k)))[i]? = some x := hx
 rw [List.getElem?_map, hs] at hx'
 injection hx' with hx'
 subst hx'
 refine ⟨List.length_map _, fun j r y hr hy => ?_⟩
 have hy' : (s.regions.map (layD k))[j]? = some y := hy
 rw [List.getElem?_map, hr] at hy'
 injection hy' with hy'
 subst hy'
 exact ih r
theorem layD_sh : ∀ (k : Nat) (l : List (St k)), ShK k l (layD k l)
 | 0, _ => trivial
 | k + 1, l => layD_sh1 (layD_sh k) l
def StandR (L : List (St 6)) (d : Rd 6) : Prop := ShK 6 L d ∧ ((show RdF (Rd 5) from d).there = none ∨ LvK 6 L d)
def StandC (c : Chart) (r : Rn) : Prop := r.ds.length = c.regions.length ∧ ∀ (j : Nat) (L : List (St 6)) (d : Rd 6), c.regions[j]? = some L → r.ds[j]? = some d → StandR L d
theorem new_stands (c : Chart) : StandC c (newC c) := by
 refine ⟨List.length_map _, fun j L d hj hd => ?_⟩
 have hd' : (c.regions.map (layD 6))[j]? = some d := hd
 rw [List.getElem?_map, hj] at hd'
 injection hd' with hd'
 subst hd'
 exact ⟨layD_sh 6 L, .inl rfl⟩
theorem tickG_ok (was : Px.Env) (L : List (St 6)) (n : Px.Env) (d : Rd 6) (hG : GdK 6 L) (h : StandR L d) : ∃ p, tickG was L n d = some p ∧ LvK 6 L p.2 := by
 unfold tickG
 split
 ·exact (opsK_ok 6).enter was false L n d hG h.1
 ·rename_i ht
  exact (opsK_ok 6).go was L n d hG (h.2.resolve_left ht)
theorem tick_ok {c : Chart} (hG : ∀ r ∈ c.regions, GdK 6 r) {r : Rn} (h : StandC c r) (ins : List Int) : ∃ r', tickC c ins r = some r' ∧ StandC c r' ∧ ∀ (j : Nat) (L : List (St 6)) (d : Rd 6), c.regions[j]? = some L → r'.ds[j]? = some d → LvK 6 L d := by
 obtain ⟨p, hp, p1, p2⟩ := allI_all (f := tickG r.was) (G := GdK 6) (P := StandR) (P' := LvK 6) (fun L n d hG h => tickG_ok r.was L n d hG h) hG (hearE c.vars ins r.now) h.1 h.2
 refine ⟨⟨p.1, p.1, p.2⟩, ?_, ⟨p1, fun j L d hj hd => ⟨(opsK_ok 6).ij L d (p2 j L d hj hd), .inr (p2 j L d hj hd)⟩⟩, p2⟩
 unfold tickC
 rw [hp]
theorem check_gd {c : Chart} (h : checkC c = none) (hN : NmChart c) : ∀ r ∈ c.regions, GdK 6 r := fun r hr => gd_of (check_all h r hr) ((check_lay h hN).1 r hr)
end Px
end Go.Proofs.YtpogmfliojcnjaaGreatDoor
namespace Go.Proofs.YtpogmfliojcnjaaGreatDoor
open Go.RowKit Px
namespace Kx
theorem nbE {e : E} (h : Sh.TE e) : NbOk e := by
 induction e with
 | nil => trivial
 | node b o a l r ihl ihr =>
  obtain ⟨h1, h2, h3, h4, _, h5, h6⟩ := h
  exact ⟨h3, ihl h5, ihr h6⟩
theorem nbS {l : List Asg} (h : Sh.TS l) : NbSets l := fun a ha => nbE (h a ha).1
theorem nbSt : ∀ (k : Nat) (x : St k), Sh.TSt k x → NbSt k x := by
 intro k
 induction k with
 | zero => intro x _; trivial
 | succ k ih =>
  intro x h
  obtain ⟨h0, h1, h2, h3, h4, h5, h6⟩ := h
  exact ⟨⟨nbS h1, nbS h2, nbS h3, nbE h4, fun y hy => ⟨nbE (h5 y hy).2.2.1, nbS (h5 y hy).2.2.2.1⟩⟩, fun r hr y hy => ih y (h6 r hr y hy)⟩
theorem nbChart {L : List Lx.Tok} (hL : Wf L) {c : Chart} (h : chart L = .ok c) : (∀ r ∈ c.regions, ∀ x ∈ r, NbSt 6 x) ∧ ∀ v ∈ c.vars, N64 v.first := by
 obtain ⟨h1, h2, h3⟩ := Sh.chart_w hL h
 exact ⟨fun r hr x hx => nbSt 6 x (h2 r hr x hx), fun v hv => ⟨(h1 v hv).1.2.2.1, (h1 v hv).1.2.2.2⟩⟩
structure RunC (c : Chart) : Prop where
 ok : checkC c = none
 nm : NmChart c
 run : ChartR c
 n64 : ∀ v ∈ c.vars, N64 v.first
theorem runC {s : ByteArray} {l : List Lx.Tok} {c : Chart} (hok : Lx.Ok (bs s) l) (hch : chart (fin s l) = .ok c) (h : checkC c = none) : RunC c :=
 ⟨h, nmChart (wf_ok hok) hch, check_runs h (nmChart (wf_ok hok) hch) (nbChart (wf_ok hok) hch).1, (nbChart (wf_ok hok) hch).2⟩
end Kx
end Go.Proofs.YtpogmfliojcnjaaGreatDoor
namespace Go.Proofs.YtpogmfliojcnjaaGreatDoor
open Go.RowKit Px
def IStrs (w : World) (v : Value) (zs : List Str) : Prop :=
 ∃ ad b off cap, v = .slice ad zs.length cap ∧ zs.length ≤ cap ∧ cap ≤ maxLen ∧ (0 < zs.length → ad = some ⟨b, off, none⟩) ∧ ∀ k s, zs[k]? = some s → w.cell? ⟨b, off + k, none⟩ = some (sv s)
theorem RowS.strs {B : Nat} {w : World} {v : Value} {zs : List Str} (h : RowS B w v zs) : IStrs w v zs := by
 have hc := fun g hg => World.ownsRow.cells h (g := g) hg
 obtain ⟨hl, h2⟩ := h
 rcases h2 with ⟨rfl, h0⟩ | ⟨g, cap, cur, rfl, hB, hg, h3, h4, hr⟩
 ·exact ⟨none, 0, 0, 0, by rw [h0], by omega, by unfold maxLen; omega, fun h => absurd h (by omega), fun k s hk => by have := (List.getElem?_eq_some_iff.1 hk).1; omega⟩
 ·refine ⟨some ⟨g, 0, none⟩, g, 0, cap, rfl, by omega, by omega, fun _ => rfl, fun k s hk => ?_⟩
  have := hc g rfl k (sv s) (by rw [List.getElem?_map, hk]; rfl)
  rw [show (⟨g, 0, none⟩ : Addr).add k = ⟨g, k, none⟩ from by unfold Addr.add; split <;> simp_all] at this
  rw [Nat.zero_add]; exact this
theorem strQ {a b : Str} {S T : ByteArray} (h1 : Value.string S = sv a) (h2 : Value.string T = sv b) : (S.toList == T.toList) = decide (a = b) := by
 unfold sv at h1 h2
 injection h1 with h1
 injection h2 with h2
 subst h1
 subst h2
 rw [ByteArray.toList_eq, ByteArray.toList_eq, Bool.eq_iff_iff, beq_iff_eq, decide_eq_true_iff]
end Go.Proofs.YtpogmfliojcnjaaGreatDoor
namespace Go.Proofs.YtpogmfliojcnjaaGreatDoor
open Go.RowKit Px
namespace Kx
def lexF : Nat → List UInt8 → Nat → Option (List Lx.Tok)
 | 0, _, _ => none
 | f + 1, u, p =>
  if (u.drop (Lx.sk false u)).isEmpty then some []
  else if (Lx.rd (u.drop (Lx.sk false u))).1 = 0 ∨ ((Lx.rd (u.drop (Lx.sk false u))).1 = 2 ∧ 18 < (Lx.rd (u.drop (Lx.sk false u))).2) then none
  else match lexF f ((u.drop (Lx.sk false u)).drop (Lx.rd (u.drop (Lx.sk false u))).2) (p + Lx.sk false u + (Lx.rd (u.drop (Lx.sk false u))).2) with
   | none => none
   | some l => some (⟨(Lx.rd (u.drop (Lx.sk false u))).1, (u.drop (Lx.sk false u)).take (Lx.rd (u.drop (Lx.sk false u))).2, p + Lx.sk false u⟩ :: l)
theorem lexF_ok : ∀ (f : Nat) (u : List UInt8) (p : Nat) (l : List Lx.Tok), lexF f u p = some l → ∃ u' p', Lx.Reads u p l u' p' ∧ u'.drop (Lx.sk false u') = [] := by
 intro f
 induction f with
 | zero => intro u p l h; exact absurd h (by simp [lexF])
 | succ f ih =>
  intro u p l h
  rw [lexF] at h
  split at h
  ·rename_i he
   injection h with h
   subst h
   exact ⟨u, p, Lx.Reads_nil _ _, by simpa using he⟩
  ·rename_i he
   split at h
   ·exact absurd h (by simp)
   ·rename_i hk
    split at h
    ·exact absurd h (by simp)
    ·rename_i l' hl
     injection h with h
     subst h
     obtain ⟨u', p', h1, h2⟩ := ih _ _ _ hl
     exact ⟨u', p', ⟨fun e => he (by rw [e]; rfl), rfl, fun e => hk (.inl e), fun e => hk (.inr e), h1⟩, h2⟩
def smallL : List UInt8 := [99, 104, 97, 114, 116, 32, 99, 32, 123, 32, 105, 110, 112, 117, 116, 32, 97, 59, 32, 111, 117, 116, 112, 117, 116, 32, 98, 32, 58, 61, 32, 50, 59, 32, 114, 101, 103, 105, 111, 110, 32, 123, 32, 105, 110, 105, 116, 105, 97, 108, 32, 115, 116, 97, 116, 101, 32, 115, 32, 123, 32, 103, 111, 32, 105, 102, 32, 40, 97, 41, 32, 100, 111, 32, 98, 32, 58, 61, 32, 98, 32, 43, 32, 40, 49, 32, 42, 32, 97, 41, 32, 45, 45, 62, 32, 116, 59, 32, 125, 32, 115, 116, 97, 116, 101, 32, 116, 32, 123, 32, 103, 111, 32, 45, 45, 62, 32, 115, 59, 32, 125, 32, 125, 32, 125]
def smallK : List Lx.Tok := [⟨1, [99, 104, 97, 114, 116], 0⟩, ⟨1, [99], 6⟩, ⟨3, [123], 8⟩, ⟨1, [105, 110, 112, 117, 116], 10⟩, ⟨1, [97], 16⟩, ⟨3, [59], 17⟩, ⟨1, [111, 117, 116, 112, 117, 116], 19⟩, ⟨1, [98], 26⟩, ⟨3, [58, 61], 28⟩, ⟨2, [50], 31⟩, ⟨3, [59], 32⟩, ⟨1, [114, 101, 103, 105, 111, 110], 34⟩, ⟨3, [123], 41⟩, ⟨1, [105, 110, 105, 116, 105, 97, 108], 43⟩, ⟨1, [115, 116, 97, 116, 101], 51⟩, ⟨1, [115], 57⟩, ⟨3, [123], 59⟩, ⟨1, [103, 111], 61⟩, ⟨1, [105, 102], 64⟩, ⟨3, [40], 67⟩, ⟨1, [97], 68⟩, ⟨3, [41], 69⟩, ⟨1, [100, 111], 71⟩, ⟨1, [98], 74⟩, ⟨3, [58, 61], 76⟩, ⟨1, [98], 79⟩, ⟨3, [43], 81⟩, ⟨3, [40], 83⟩, ⟨2, [49], 84⟩, ⟨3, [42], 86⟩, ⟨1, [97], 88⟩, ⟨3, [41], 89⟩, ⟨3, [45, 45, 62], 91⟩, ⟨1, [116], 95⟩, ⟨3, [59], 96⟩, ⟨3, [125], 98⟩, ⟨1, [115, 116, 97, 116, 101], 100⟩, ⟨1, [116], 106⟩, ⟨3, [123], 108⟩, ⟨1, [103, 111], 110⟩, ⟨3, [45, 45, 62], 113⟩, ⟨1, [115], 117⟩, ⟨3, [59], 118⟩, ⟨3, [125], 120⟩, ⟨3, [125], 122⟩, ⟨3, [125], 124⟩]
def smallC : Chart := ⟨[99], [⟨1, [97], 0⟩, ⟨2, [98], 2⟩], [[(⟨[115], true, false, [], [], [], .nil, [⟨0, false, eName 2 [97], 1, [⟨[98], eTwo 6 (eName 2 [98]) (eTwo 8 (eNum 1) (eName 2 [97]))⟩], [116], false⟩], []⟩ : StF (St 5)), (⟨[116], false, false, [], [], [], .nil, [⟨0, false, .nil, 1, [], [115], false⟩], []⟩ : StF (St 5))]]⟩
set_option maxRecDepth 100000 in
theorem small_lex : lexF 60 smallL 0 = some smallK := by kernel_rfl
set_option maxRecDepth 100000 in
theorem small_chart (n : Nat) : chart (smallK ++ [⟨4, [], n⟩]) = .ok smallC := by kernel_rfl
theorem small_ok {s : ByteArray} (h : bs s = smallL) : Lx.Ok (bs s) smallK ∧ chart (fin s smallK) = .ok smallC := by
 refine ⟨⟨by decide, ?_⟩, small_chart _⟩
 rw [h]
 exact lexF_ok _ _ _ _ small_lex
set_option maxRecDepth 100000 in
theorem small_check : checkC smallC = none := by kernel_rfl
end Kx
end Go.Proofs.YtpogmfliojcnjaaGreatDoor
namespace Go.Proofs.YtpogmfliojcnjaaGreatDoor
open Go.RowKit Px
namespace Kx
theorem put3 {X : World} {fb T : Nat} {x y z : Value} (h : X.heap[fb]? = some (.cells #[x, y, z] T (0, 0))) (a b c : Value) : (((X.setCell ⟨fb, 0, none⟩ a).setCell ⟨fb, 1, none⟩ b).setCell ⟨fb, 2, none⟩ c).heap[fb]? = some (.cells #[a, b, c] T (0, 0)) :=
 ck_set (l := [a, b, z]) (ck_set (l := [a, y, z]) (ck_set (l := [x, y, z]) h 0 a) 1 b) 2 c
theorem below_put3 {w X : World} {fb : Nat} (h : Below w.heap.size w X) (hb : w.heap.size ≤ fb) (a b c : Value) : Below w.heap.size w (((X.setCell ⟨fb, 0, none⟩ a).setCell ⟨fb, 1, none⟩ b).setCell ⟨fb, 2, none⟩ c) :=
 ((h.setCell hb _).setCell hb _).setCell hb _
set_option maxRecDepth 100000 in
set_option maxHeartbeats 4000000 in
theorem chart_drawn {s : ByteArray} {l : List Lx.Tok} {c : Chart} {w : World} (hs : s.size ≤ 1500) (hv : KEnv0 w) (hok : Lx.Ok (bs s) l) (hch : chart (fin s l) = .ok c) :
    Calls Tryz.prog 8 #[.string s] w fun e w' => (checkC c = none ∧ ∃ S a n m a' n' m', e = .returned (.tuple #[.agg #[.string S, .slice a n m, .slice a' n' m'], .bool true]) ∧ Hid (IsChart (fun b => w.heap.size < b) w' c (.agg #[.string S, .slice a n m, .slice a' n' m']) ∧ Below w.heap.size w w')) ∨
     (checkC c ≠ none ∧ e = .returned (.tuple #[.agg #[.string ⟨#[]⟩, .slice none 0 0, .slice none 0 0], .bool false]) ∧ Hid (Below w.heap.size w w')) := by
 have hN := nmChart (wf_ok hok) hch
 obtain ⟨W0, hW0⟩ : ∃ W0, W0 = w.alloc (.cells #[.string ⟨#[]⟩, .slice none 0 0, .slice none 0 0] 28) := ⟨_, rfl⟩
 have hb0 : Below w.heap.size w W0 := by rw [hW0]; exact ck_grown w _
 have hp : Calls Tryz.prog 28 #[.string s] W0 fun e w' => ∃ S a n m a' n' m', e = .returned (.tuple #[.agg #[.string S, .slice a n m, .slice a' n' m'], .nilIface]) ∧ Hid (IsChart (fun b => w.heap.size < b) w' c (.agg #[.string S, .slice a n m, .slice a' n' m']) ∧ Below W0.heap.size W0 w') :=
  (parse_ok s l c W0 (by omega) (hv.up hb0).big (hv.up hb0).tabs (hv.up hb0).marks hok hch).mono fun e w' ⟨v, he, hC, hb⟩ => by
   obtain ⟨a, n, m, a', n', m', rfl, h1, h2⟩ := hC
   have kp : Keep (Ge W0.heap.size) (fun b => w.heap.size < b) w' w' := fun b hb' _ => ⟨by have h3 : W0.heap.size ≤ b := hb'; rw [hW0] at h3; simp at h3; omega, rfl⟩
   exact ⟨_, a, n, m, a', n', m', he, ⟨a, n, m, a', n', m', rfl, h1.carry kp, h2.carry kp (IsStates.carry kp 6)⟩, hb⟩
 have HB0 : Hid (Below w.heap.size w W0 ∧ W0.heap[w.heap.size]? = some (.cells #[.string ⟨#[]⟩, .slice none 0 0, .slice none 0 0] 28 (0, 0))) := ⟨hb0, by rw [hW0]; exact ck_new _ _⟩
 have hs1 : ¬ (1500 : Int) < (s.size : Int) := by omega
 have HN : Hid (NmChart c) := hN
 rw [hW0] at hp HB0
 clear hN hv hok hch hW0 hb0
 go_enter Tryz.func8, Tryz.ntmps8
 go_wp2_with fail
 refine hp.mono ?_
 rintro e w1 ⟨S, a, n, m, a', n', m', rfl, h1⟩
 obtain ⟨W1, hW1⟩ : ∃ W1, W1 = w1.alloc (.cells #[.string S, .slice a n m, .slice a' n' m'] 28) := ⟨_, rfl⟩
 have hb1 : Below w1.heap.size w1 W1 := by rw [hW1]; exact ck_grown w1 _
 have HW1 : Hid (IsChart (fun b => w.heap.size < b) W1 c (.agg #[.string S, .slice a n m, .slice a' n' m']) ∧ Below w.heap.size w W1 ∧ W1.heap[w.heap.size]? = some (.cells #[.string ⟨#[]⟩, .slice none 0 0, .slice none 0 0] 28 (0, 0)) ∧ W1.heap[w1.heap.size]? = some (.cells #[.string S, .slice a n m, .slice a' n' m'] 28 (0, 0))) :=
  ⟨chartUp h1.out.1 hb1, ck_all HB0.out.1 (ck_all h1.out.2 hb1), ck_block (ck_all h1.out.2 hb1) HB0.out.2, by rw [hW1]; exact ck_new _ _⟩
 have hck := check_any HW1.out.1 HN.out
 have x0 := cell_row HW1.out.2.2.2 0 (u := .string S) rfl
 have x1 := cell_row HW1.out.2.2.2 1 (u := .slice a n m) rfl
 have x2 := cell_row HW1.out.2.2.2 2 (u := .slice a' n' m') rfl
 obtain ⟨o, ho⟩ : ∃ o, Hid (checkC c = o) := ⟨_, rfl⟩
 rw [ho.out] at hck
 rw [hW1] at hck x0 x1 x2
 have HWE : Hid (W1 = _) := hW1
 clear hp hb1 hW1 h1
 unfold ChkOut at hck
 have HKW : Hid (∀ w', Below W1.heap.size W1 w' → IsChart (fun b => w.heap.size < b) w' c (.agg #[.string S, .slice a n m, .slice a' n' m']) ∧ Below w.heap.size w w' ∧ w'.heap[w.heap.size]? = some (.cells #[.string ⟨#[]⟩, .slice none 0 0, .slice none 0 0] 28 (0, 0)) ∧ w'.heap[w1.heap.size]? = some (.cells #[.string S, .slice a n m, .slice a' n' m'] 28 (0, 0))) := fun w' hb => ⟨chartUp HW1.out.1 hb, ck_all HW1.out.2.1 hb, ck_block hb HW1.out.2.2.1, ck_block hb HW1.out.2.2.2⟩
 go_wp2_with fail
 cases o with
 | none =>
  have hc2 : Calls Tryz.prog 31 #[.agg #[.string S, .slice a n m, .slice a' n' m']] (w1.alloc (.cells #[.string S, .slice a n m, .slice a' n' m'] 28)) fun e w' => e = .returned .nilIface ∧ Hid (Below W1.heap.size W1 w') := by
   rw [← HWE.out] at hck ⊢
   exact hck.mono fun e w' ⟨hb, ho⟩ => by
    rcases ho with ⟨_, he⟩ | ⟨_, he, _⟩ | ⟨_, _, _, he, _⟩
    ·exact ⟨he, hb⟩
    ·simp at he
    ·simp at he
  clear hck x0 x1 x2
  refine hc2.mono ?_
  rintro e w2 ⟨rfl, hb2⟩
  obtain ⟨k1, k2, k3, k4⟩ := HKW.out w2 hb2.out
  have x0 := cell_row k4 0 (u := .string S) rfl
  have x1 := cell_row k4 1 (u := .slice a n m) rfl
  have x2 := cell_row k4 2 (u := .slice a' n' m') rfl
  have f0 := cell_row k3 0 (u := .string ⟨#[]⟩) rfl
  have f1 := cell_row k3 1 (u := .slice none 0 0) rfl
  have f2 := cell_row k3 2 (u := .slice none 0 0) rfl
  have z0 := ck_frozen k3 0
  have z1 := ck_frozen k3 1
  have z2 := ck_frozen k3 2
  have HB2 : Hid (Below w.heap.size w w2 ∧ w2.heap[w.heap.size]? = some (.cells #[.string ⟨#[]⟩, .slice none 0 0, .slice none 0 0] 28 (0, 0)) ∧ IsChart (fun b => w.heap.size < b) w2 c (.agg #[.string S, .slice a n m, .slice a' n' m'])) := ⟨k2, k3, k1⟩
  clear k1 k2 k3 k4 hc2
  go_wp2_with fail
  refine bodyPost_ret (resultsQ _ _ w.heap.size #[.string S, .slice a n m, .slice a' n' m'] rfl rfl (put3 HB2.out.2.1 _ _ _)) rfl ?_
  refine .inl ⟨ho.out, S, a, n, m, a', n', m', rfl, ?_, below_put3 HB2.out.1 (Nat.le_refl _) _ _ _⟩
  obtain ⟨a2, n2, m2, a3, n3, m3, e, q1, q2⟩ := HB2.out.2.2
  have kp : Keep (fun b => w.heap.size < b) (fun b => w.heap.size < b) w2 (((w2.setCell ⟨w.heap.size, 0, none⟩ (.string S)).setCell ⟨w.heap.size, 1, none⟩ (.slice a n m)).setCell ⟨w.heap.size, 2, none⟩ (.slice a' n' m')) := fun b hb' _ => ⟨hb', by
   have hne : b ≠ w.heap.size := by have : w.heap.size < b := hb'; omega
   rw [Below.heap_setCell _ _ _ _ hne, Below.heap_setCell _ _ _ _ hne, Below.heap_setCell _ _ _ _ hne]⟩
  exact ⟨a2, n2, m2, a3, n3, m3, e, q1.carry kp, q2.carry kp (IsStates.carry kp 6)⟩
 | some x =>
  obtain ⟨cc, pl⟩ := x
  have HNE : Hid (checkC c ≠ none) := by rw [Hid, ho.out]; simp
  cases pl with
  | none =>
   have hc2 : Calls Tryz.prog 31 #[.agg #[.string S, .slice a n m, .slice a' n' m']] (w1.alloc (.cells #[.string S, .slice a n m, .slice a' n' m'] 28)) fun e w' => e = .returned (.iface 47 (.int .i64 ((cc : Nat) : Int))) ∧ Hid (Below W1.heap.size W1 w') := by
    rw [← HWE.out] at hck ⊢
    exact hck.mono fun e w' ⟨hb, ho⟩ => by
     rcases ho with ⟨he, _⟩ | ⟨c', he, h1⟩ | ⟨_, _, _, he, _⟩
     ·simp at he
     ·simp at he
      subst he
      exact ⟨h1, hb⟩
     ·simp at he
   clear hck x0 x1 x2
   refine hc2.mono ?_
   rintro e w2 ⟨rfl, hb2⟩
   obtain ⟨k1, k2, k3, k4⟩ := HKW.out w2 hb2.out
   have f0 := cell_row k3 0 (u := .string ⟨#[]⟩) rfl
   have f1 := cell_row k3 1 (u := .slice none 0 0) rfl
   have f2 := cell_row k3 2 (u := .slice none 0 0) rfl
   have z0 := ck_frozen k3 0
   have z1 := ck_frozen k3 1
   have z2 := ck_frozen k3 2
   have HB2 : Hid (Below w.heap.size w w2 ∧ w2.heap[w.heap.size]? = some (.cells #[.string ⟨#[]⟩, .slice none 0 0, .slice none 0 0] 28 (0, 0))) := ⟨k2, k3⟩
   clear k1 k2 k3 k4 hc2
   go_wp2_with fail
   refine bodyPost_ret (resultsQ _ _ w.heap.size #[.string ⟨#[]⟩, .slice none 0 0, .slice none 0 0] rfl rfl (put3 HB2.out.2 _ _ _)) rfl ?_
   exact .inr ⟨HNE.out, rfl, below_put3 HB2.out.1 (Nat.le_refl _) _ _ _⟩
  | some p =>
   have hc2 : Calls Tryz.prog 31 #[.agg #[.string S, .slice a n m, .slice a' n' m']] (w1.alloc (.cells #[.string S, .slice a n m, .slice a' n' m'] 28)) fun e w' => ∃ g, e = .returned (.iface 110 (.pointer (some ⟨g, 0, none⟩))) ∧ Hid (Below W1.heap.size W1 w') := by
    rw [← HWE.out] at hck ⊢
    exact hck.mono fun e w' ⟨hb, ho⟩ => by
     rcases ho with ⟨he, _⟩ | ⟨c', he, h1⟩ | ⟨c', p', g, he, h1, _⟩
     ·simp at he
     ·simp at he
     ·exact ⟨g, h1, hb⟩
   clear hck x0 x1 x2
   refine hc2.mono ?_
   rintro e w2 ⟨ge, rfl, hb2⟩
   obtain ⟨k1, k2, k3, k4⟩ := HKW.out w2 hb2.out
   have f0 := cell_row k3 0 (u := .string ⟨#[]⟩) rfl
   have f1 := cell_row k3 1 (u := .slice none 0 0) rfl
   have f2 := cell_row k3 2 (u := .slice none 0 0) rfl
   have z0 := ck_frozen k3 0
   have z1 := ck_frozen k3 1
   have z2 := ck_frozen k3 2
   have HB2 : Hid (Below w.heap.size w w2 ∧ w2.heap[w.heap.size]? = some (.cells #[.string ⟨#[]⟩, .slice none 0 0, .slice none 0 0] 28 (0, 0))) := ⟨k2, k3⟩
   clear k1 k2 k3 k4 hc2
   go_wp2_with fail
   refine bodyPost_ret (resultsQ _ _ w.heap.size #[.string ⟨#[]⟩, .slice none 0 0, .slice none 0 0] rfl rfl (put3 HB2.out.2 _ _ _)) rfl ?_
   exact .inr ⟨HNE.out, rfl, below_put3 HB2.out.1 (Nat.le_refl _) _ _ _⟩
set_option maxRecDepth 100000 in
set_option maxHeartbeats 2000000 in
theorem chart_none {s : ByteArray} {w : World} (hv : KEnv0 w) (hno : s.size ≤ 1500 → ∀ l c, ¬ (Lx.Ok (bs s) l ∧ chart (fin s l) = .ok c)) :
    Calls Tryz.prog 8 #[.string s] w fun e w' => e = .returned (.tuple #[.agg #[.string ⟨#[]⟩, .slice none 0 0, .slice none 0 0], .bool false]) ∧ Hid (Below w.heap.size w w') := by
 have hfz : (w.alloc (.cells #[.string ⟨#[]⟩, .slice none 0 0, .slice none 0 0] 28)).heap[w.heap.size]? = some (.cells #[.string ⟨#[]⟩, .slice none 0 0, .slice none 0 0] 28 (0, 0)) := ck_new _ _
 have f0 := cell_row hfz 0 (u := .string ⟨#[]⟩) rfl
 have f1 := cell_row hfz 1 (u := .slice none 0 0) rfl
 have f2 := cell_row hfz 2 (u := .slice none 0 0) rfl
 have z0 := ck_frozen hfz 0
 have z1 := ck_frozen hfz 1
 have z2 := ck_frozen hfz 2
 have HFZ : Hid _ := hfz
 by_cases hs : s.size ≤ 1500
 ·have hs1 : ¬ (1500 : Int) < (s.size : Int) := by omega
  have hb0 : Below w.heap.size w (w.alloc (.cells #[.string ⟨#[]⟩, .slice none 0 0, .slice none 0 0] 28)) := ck_grown w _
  have hp : Calls Tryz.prog 28 #[.string s] (w.alloc (.cells #[.string ⟨#[]⟩, .slice none 0 0, .slice none 0 0] 28)) fun e w' => ∃ g, e = .returned (.tuple #[.agg #[.string ⟨#[]⟩, .slice none 0 0, .slice none 0 0], .iface 110 (.pointer (some ⟨g, 0, none⟩))]) ∧ Hid (Below (w.alloc (.cells #[.string ⟨#[]⟩, .slice none 0 0, .slice none 0 0] 28)).heap.size (w.alloc (.cells #[.string ⟨#[]⟩, .slice none 0 0, .slice none 0 0] 28)) w') := by
   have hv0 := hv.up hb0
   by_cases hl : ∃ l, Lx.Ok (bs s) l
   ·obtain ⟨l, hok⟩ := hl
    cases hch : chart (fin s l) with
    | ok c => exact absurd ⟨hok, hch⟩ (hno hs l c)
    | error f => exact (parse_err s l f _ (by omega) hv0.big hv0.tabs hv0.marks hok hch).mono fun e w' ⟨g, he, _, hb⟩ => ⟨g, he, hb⟩
   ·exact (parse_bad s _ (by omega) hv0.marks (fun l h => hl ⟨l, h⟩)).mono fun e w' ⟨_, _, g, he, _, _, hb⟩ => ⟨g, he, hb⟩
  clear hv hno hb0 hfz f0 f1 f2 z0 z1 z2
  go_enter Tryz.func8, Tryz.ntmps8
  go_wp2_with fail
  refine hp.mono ?_
  rintro e w1 ⟨g, rfl, hb1⟩
  have hfy : (w1.alloc (.cells #[.string ⟨#[]⟩, .slice none 0 0, .slice none 0 0] 28)).heap[w.heap.size]? = some (.cells #[.string ⟨#[]⟩, .slice none 0 0, .slice none 0 0] 28 (0, 0)) := ck_old (ck_block hb1.out HFZ.out)
  have f0 := cell_row hfy 0 (u := .string ⟨#[]⟩) rfl
  have f1 := cell_row hfy 1 (u := .slice none 0 0) rfl
  have f2 := cell_row hfy 2 (u := .slice none 0 0) rfl
  have z0 := ck_frozen hfy 0
  have z1 := ck_frozen hfy 1
  have z2 := ck_frozen hfy 2
  have HFY : Hid _ := hfy
  clear hfy hp
  go_wp2_with fail
  refine bodyPost_ret (resultsQ _ _ w.heap.size #[.string ⟨#[]⟩, .slice none 0 0, .slice none 0 0] rfl rfl (put3 HFY.out _ _ _)) rfl ?_
  exact ⟨rfl, below_put3 (ck_all (ck_all (ck_grown _ _) hb1.out) (ck_grown _ _)) (Nat.le_refl _) _ _ _⟩
 ·have hs1 : (1500 : Int) < (s.size : Int) := by omega
  clear hv hno hs hfz
  go_enter Tryz.func8, Tryz.ntmps8
  go_wp2_with fail
  refine bodyPost_ret (resultsQ _ _ w.heap.size #[.string ⟨#[]⟩, .slice none 0 0, .slice none 0 0] rfl rfl HFZ.out) rfl ?_
  exact ⟨rfl, ck_grown _ _⟩
end Kx
end Go.Proofs.YtpogmfliojcnjaaGreatDoor
namespace Go.Proofs.YtpogmfliojcnjaaGreatDoor
open Go.RowKit Px
namespace Kx
end Kx
end Go.Proofs.YtpogmfliojcnjaaGreatDoor
