/- A tick of a chart that may be comes to an end. -/
import Derived.Test.YtecbilopliblpaaGreatDoorQUg3
import Derived.Test.YtecbilopliblpaaGreatDoorQKn0
import Derived.Test.YtecbilopliblpaaGreatDoorQUj
namespace Go.Proofs.YtecbilopliblpaaGreatDoor
open Go.RowKit Px
namespace Px
section
variable {σ ρ : Type} {O : Ops σ ρ} {G : List σ → Prop} {I J : List σ → ρ → Prop} {L : List (StF σ)} {d : RdF ρ}
/-- a region that may run -/
structure GdF (G : List σ → Prop) (L : List (StF σ)) : Prop where
  inn : ∀ s ∈ L, ∀ r ∈ s.regions, G r
  fst : ∃ fi, firstI L = some fi ∧ fi < L.length
  tos : ∀ s ∈ L, ∀ y ∈ s.ways, ∃ t, fnd (snames L) y.to = some t
  ord : ∃ o, orderG (graph L) = some o
theorem fnd_lt {L : List (StF σ)} {s : Str} {t : Nat} (h : fnd (snames L) s = some t) : t < L.length := by
  have := (fnd_some h).1
  unfold snames at this
  rwa [List.length_map] at this
theorem takeR_ok (hO : OpsOk O G I J) (hG : GdF G L) (was n : Px.Env) (h : ShF I L d) {i j : Nat} {s : StF σ} {y : Wy} (ht : d.there = some i) (hs : L[i]? = some s) (hy : s.ways[j]? = some y) :
    ∃ t p, fnd (snames L) y.to = some t ∧ takeR O was L j n d = some p ∧ ShF I L p.2.2 ∧ p.2.2.there = some t ∧ (p.1 = none → LvF I J L p.2.2) ∧ ∀ j, p.1 = some j → ∃ s y, L[t]? = some s ∧ s.ways[j]? = some y ∧ y.now = true := by
  obtain ⟨t, hf⟩ := hG.tos s (List.mem_of_getElem? hs) y (List.mem_of_getElem? hy)
  obtain ⟨p, hp, hp2⟩ := leaveR_ok hO hG.inn was n h
  obtain ⟨q, hq, hq2⟩ := arriveR_ok hO hG.inn was (doS was y.sets p.1) y.back hp2 (fnd_lt hf)
  refine ⟨t, q, hf, ?_, hq2⟩
  unfold takeR
  simp only [ht, hs, hy, hp, hf, hq]
theorem followR_none (was : Px.Env) (f : Nat) (n : Px.Env) (d : RdF ρ) : followR O was L f none n d = some (n, d) := by cases f <;> rfl
theorem graph_now {i j t : Nat} {s : StF σ} {y : Wy} (hs : L[i]? = some s) (hy : s.ways[j]? = some y) (hn : y.now = true) (hf : fnd (snames L) y.to = some t) : some t ∈ (graph L).getD i [] := by
  unfold graph
  rw [List.getD_eq_getElem?_getD, List.getElem?_map, hs]
  show some t ∈ tosF (snames L) s.ways
  unfold tosF
  exact List.mem_map.2 ⟨y, List.mem_of_getElem? hy, by rw [if_pos hn, hf]⟩
theorem followR_now (hO : OpsOk O G I J) (hG : GdF G L) (was : Px.Env) {o : List Nat} (ho : orderG (graph L) = some o) : ∀ (f : Nat) (i j p : Nat) (n : Px.Env) (d : RdF ρ) (s : StF σ) (y : Wy), ShF I L d → d.there = some i → L[i]? = some s → s.ways[j]? = some y → y.now = true → posK o o.length i = some p → L.length ≤ f + p →
    ∃ q, followR O was L f (some j) n d = some q ∧ LvF I J L q.2 := by
  obtain ⟨o1, _, _, o2, o3⟩ := order_fair ho
  rw [graph_len] at o1 o2 o3
  intro f
  induction f with
  | zero =>
    intro i j p n d s y _ _ _ _ _ hp hl
    have := (posK_some hp).1
    omega
  | succ f ih =>
    intro i j p n d s y h ht hs hy hn hp hl
    obtain ⟨t, q, hf, hq, q1, q2, q3, q4⟩ := takeR_ok hO hG was n h ht hs hy
    rw [followR, hq]
    show ∃ q', followR O was L f q.1 q.2.1 q.2.2 = some q' ∧ _
    cases hw : q.1 with
    | none => rw [followR_none]; exact ⟨_, rfl, q3 hw⟩
    | some j' =>
      obtain ⟨s', y', s1, s2, s3⟩ := q4 j' hw
      have hil : i < L.length := (List.getElem?_eq_some_iff.1 hs).1
      obtain ⟨p', hp'⟩ := o2 t (fnd_lt hf)
      have := o3 i t hil (fnd_lt hf) (graph_now hs hy hn hf) p p' hp hp'
      exact ih t j' p' _ _ s' y' q1 q2 s1 s2 s3 hp' (by omega)
theorem follow_of (hO : OpsOk O G I J) (hG : GdF G L) (was : Px.Env) {f i : Nat} {w : Option Nat} {n : Px.Env} (hf : L.length ≤ f) (h : ShF I L d) (ht : d.there = some i) (h0 : w = none → LvF I J L d) (h1 : ∀ j, w = some j → ∃ s y, L[i]? = some s ∧ s.ways[j]? = some y ∧ y.now = true) : ∃ q, followR O was L f w n d = some q ∧ LvF I J L q.2 := by
  cases w with
  | none => rw [followR_none]; exact ⟨_, rfl, h0 rfl⟩
  | some j =>
    obtain ⟨o, ho⟩ := hG.ord
    obtain ⟨s, y, s1, s2, s3⟩ := h1 j rfl
    obtain ⟨_, _, _, o2, _⟩ := order_fair ho
    obtain ⟨p, hp⟩ := o2 i (by rw [graph_len]; exact (List.getElem?_eq_some_iff.1 s1).1)
    exact followR_now hO hG was ho f i j p n d s y h ht s1 s2 s3 hp (by omega)
theorem enterAt_ok (hO : OpsOk O G I J) (hG : GdF G L) (was n : Px.Env) (b : Bool) (h : ShF I L d) {i : Nat} (hi : i < L.length) : ∃ q, enterAt O was L i b n d = some q ∧ LvF I J L q.2 := by
  obtain ⟨p, hp, p1, p2, p3, p4⟩ := arriveR_ok hO hG.inn was n b h hi
  unfold enterAt
  simp only [hp]
  exact follow_of hO hG was (by omega) p1 p2 p3 p4
theorem enterR_ok (hO : OpsOk O G I J) (hG : GdF G L) (was n : Px.Env) (b : Bool) (h : ShF I L d) : ∃ q, enterR O was b L n d = some q ∧ LvF I J L q.2 := by
  obtain ⟨fi, f1, f2⟩ := hG.fst
  unfold enterR
  split
  · rename_i i hw; exact enterAt_ok hO hG was n true h (h.2.2.1 i hw)
  · rw [f1]; exact enterAt_ok hO hG was n false h f2
theorem passR_ok (hO : OpsOk O G I J) (hG : GdF G L) (was n : Px.Env) (h : LvF I J L d) :
    ∃ i p, passR O was L n d = some p ∧ ShF I L p.2.2 ∧ p.2.2.there = some i ∧ (p.1 = none → LvF I J L p.2.2) ∧ ∀ j, p.1 = some j → ∃ s y, L[i]? = some s ∧ s.ways[j]? = some y := by
  obtain ⟨h, i, ht, hJ⟩ := h
  have hi := h.2.1 i ht
  have e1 : L[i]? = some (L[i]'hi) := List.getElem?_eq_getElem _
  have hl : i < d.sts.length := by rw [h.1]; exact hi
  have e2 : d.sts[i]? = some (d.sts[i]'hl) := List.getElem?_eq_getElem _
  obtain ⟨a1, a2⟩ := h.2.2.2 i _ _ e1 e2
  have hsh : ∀ so ins, ins.length = (L[i]'hi).regions.length → (∀ (j : Nat) (r : List σ) (y : ρ), (L[i]'hi).regions[j]? = some r → ins[j]? = some y → J r y) → LvF I J L ⟨some i, d.was, d.sts.set i ⟨so, ins⟩⟩ := fun so ins hil hin =>
    ⟨h.put (t := some i) (u := d.was) (x := ⟨so, ins⟩) e1 ⟨hil, fun j r y hr hy => hO.ij _ _ (hin j r y hr hy)⟩ (fun i' h => by injection h with h; omega) h.2.2.1, i, rfl, fun s x hs hx j r y hr hy => by
      simp only [List.getElem?_set, if_pos, hl] at hx
      injection hx with hx
      rw [e1] at hs
      injection hs with hs
      rw [← hx] at hy
      rw [← hs] at hr
      exact hin j r y hr hy⟩
  refine ⟨i, ?_⟩
  unfold passR
  simp only [ht, e1, e2]
  split
  · rename_i j hj
    have hh := fun so => hsh so _ a1 (hJ _ _ e1 e2)
    refine ⟨_, rfl, (hh _).1, rfl, fun h => by simp at h, fun j' hj' => ?_⟩
    injection hj' with hj'
    subst hj'
    obtain ⟨y, hy, _⟩ := opnI_some hj
    exact ⟨_, y, rfl, hy⟩
  · split
    · have hh := fun so => hsh so _ a1 (hJ _ _ e1 e2)
      exact ⟨_, rfl, (hh _).1, rfl, fun _ => hh _, fun j' hj' => by simp at hj'⟩
    · obtain ⟨p, hp, p1, p2⟩ := allI_all (fun r n d => hO.go was r n d) (hG.inn _ (List.mem_of_getElem? e1)) (doS was (L[i]'hi).during n) a1 (hJ _ _ e1 e2)
      simp only [hp]
      have hh := fun so => hsh so p.2 p1 p2
      refine ⟨_, rfl, (hh _).1, rfl, fun _ => hh _, fun j' hj' => ?_⟩
      obtain ⟨y, hy, _⟩ := opnI_some hj'
      exact ⟨_, y, rfl, hy⟩
theorem goR_ok (hO : OpsOk O G I J) (hG : GdF G L) (was n : Px.Env) (h : LvF I J L d) : ∃ q, goR O was L n d = some q ∧ LvF I J L q.2 := by
  obtain ⟨i, p, hp, p1, p2, p3, p4⟩ := passR_ok hO hG was n h
  unfold goR
  simp only [hp]
  cases hw : p.1 with
  | none => rw [followR_none]; exact ⟨_, rfl, p3 hw⟩
  | some j =>
    obtain ⟨s, y, s1, s2⟩ := p4 j hw
    obtain ⟨t, q, hf, hq, q1, q2, q3, q4⟩ := takeR_ok hO hG was p.2.1 p1 p2 s1 s2
    rw [followR, hq]
    show ∃ q', followR O was L (L.length + 1) q.1 q.2.1 q.2.2 = some q' ∧ _
    exact follow_of hO hG was (by omega) q1 q2 q3 q4
theorem opsF_ok (hO : OpsOk O G I J) : OpsOk (OpsF O) (GdF G) (ShF I) (LvF I J) :=
  ⟨fun _ _ h => h.1, fun was b _ n _ hG h => enterR_ok hO hG was n b h, fun was _ n _ hG h => goR_ok hO hG was n h, fun was _ n _ hG h => leaveR_ok hO hG.inn was n h⟩
end
def GdK : (k : Nat) → List (St k) → Prop
  | 0 => fun _ => True
  | k + 1 => GdF (GdK k)
def ShK : (k : Nat) → List (St k) → Rd k → Prop
  | 0 => fun _ _ => True
  | k + 1 => ShF (ShK k)
def LvK : (k : Nat) → List (St k) → Rd k → Prop
  | 0 => fun _ _ => True
  | k + 1 => LvF (ShK k) (LvK k)
theorem opsK_ok : ∀ k, OpsOk (OpsK k) (GdK k) (ShK k) (LvK k)
  | 0 => ⟨fun _ _ _ => trivial, fun _ _ _ _ _ _ _ => ⟨_, rfl, trivial⟩, fun _ _ _ _ _ _ => ⟨_, rfl, trivial⟩, fun _ _ _ _ _ _ => ⟨_, rfl, trivial⟩⟩
  | k + 1 => opsF_ok (opsK_ok k)
end Px
end Go.Proofs.YtecbilopliblpaaGreatDoor
/- A chart that may be: every tick comes to an end. -/
namespace Go.Proofs.YtecbilopliblpaaGreatDoor
open Go.RowKit Px
namespace Px
theorem gd_of : ∀ {k : Nat} {l : List (St k)}, OrdAll k l → LayR k l → GdK k l
  | 0, _, _, _ => trivial
  | k + 1, l, ho, hl => by
    obtain ⟨⟨o, h1, _, _⟩, h2⟩ := ho
    obtain ⟨l1, _, l3, _, l5⟩ := hl
    obtain ⟨fi, f1, f2⟩ := fst_some l1
    exact ⟨fun s hs r hr => gd_of (h2 s hs r hr) ((l5 s hs).2.2.2.2 r hr), ⟨fi, f1, f2⟩, l3, ⟨o, h1⟩⟩
theorem layD_sh1 {k : Nat} (ih : ∀ l : List (St k), ShK k l (layD k l)) (l : List (StF (St k))) : ShF (ShK k) l ⟨none, none, l.map fun s => ⟨s.ways.map fun _ => 0, s.regions.map (layD k)⟩⟩ := by
  refine ⟨List.length_map _, fun i h => absurd h (by simp), fun i h => absurd h (by simp), fun i s x hs hx => ?_⟩
  have hx' : (l.map fun s : StF (St k) => (⟨s.ways.map fun _ => (0 : Int), s.regions.map (layD k)⟩ : SdF (Rd k)))[i]? = some x := hx
  rw [List.getElem?_map, hs] at hx'
  injection hx' with hx'
  subst hx'
  refine ⟨List.length_map _, fun j r y hr hy => ?_⟩
  have hy' : (s.regions.map (layD k))[j]? = some y := hy
  rw [List.getElem?_map, hr] at hy'
  injection hy' with hy'
  subst hy'
  exact ih r
theorem layD_sh : ∀ (k : Nat) (l : List (St k)), ShK k l (layD k l)
  | 0, _ => trivial
  | k + 1, l => layD_sh1 (layD_sh k) l
/-- how a chart stands between two ticks -/
def StandR (L : List (St 6)) (d : Rd 6) : Prop := ShK 6 L d ∧ ((show RdF (Rd 5) from d).there = none ∨ LvK 6 L d)
def StandC (c : Chart) (r : Rn) : Prop := r.ds.length = c.regions.length ∧ ∀ (j : Nat) (L : List (St 6)) (d : Rd 6), c.regions[j]? = some L → r.ds[j]? = some d → StandR L d
theorem new_stands (c : Chart) : StandC c (newC c) := by
  refine ⟨List.length_map _, fun j L d hj hd => ?_⟩
  have hd' : (c.regions.map (layD 6))[j]? = some d := hd
  rw [List.getElem?_map, hj] at hd'
  injection hd' with hd'
  subst hd'
  exact ⟨layD_sh 6 L, .inl rfl⟩
theorem tickG_ok (was : Px.Env) (L : List (St 6)) (n : Px.Env) (d : Rd 6) (hG : GdK 6 L) (h : StandR L d) : ∃ p, tickG was L n d = some p ∧ LvK 6 L p.2 := by
  unfold tickG
  split
  · exact (opsK_ok 6).enter was false L n d hG h.1
  · rename_i ht
    exact (opsK_ok 6).go was L n d hG (h.2.resolve_left ht)
/-- a tick: every region has a state that is there behind it -/
theorem tick_ok {c : Chart} (hG : ∀ r ∈ c.regions, GdK 6 r) {r : Rn} (h : StandC c r) (ins : List Int) : ∃ r', tickC c ins r = some r' ∧ StandC c r' ∧ ∀ (j : Nat) (L : List (St 6)) (d : Rd 6), c.regions[j]? = some L → r'.ds[j]? = some d → LvK 6 L d := by
  obtain ⟨p, hp, p1, p2⟩ := allI_all (f := tickG r.was) (G := GdK 6) (P := StandR) (P' := LvK 6) (fun L n d hG h => tickG_ok r.was L n d hG h) hG (hearE c.vars ins r.now) h.1 h.2
  refine ⟨⟨p.1, p.1, p.2⟩, ?_, ⟨p1, fun j L d hj hd => ⟨(opsK_ok 6).ij L d (p2 j L d hj hd), .inr (p2 j L d hj hd)⟩⟩, p2⟩
  unfold tickC
  rw [hp]
theorem check_gd {c : Chart} (h : checkC c = none) (hN : NmChart c) : ∀ r ∈ c.regions, GdK 6 r := fun r hr => gd_of (check_all h r hr) ((check_lay h hN).1 r hr)
end Px
end Go.Proofs.YtecbilopliblpaaGreatDoor
/- What is drawn: its numbers fit. -/
namespace Go.Proofs.YtecbilopliblpaaGreatDoor
open Go.RowKit Px
namespace Kx
theorem nbE {e : E} (h : Sh.TE e) : NbOk e := by
  induction e with
  | nil => trivial
  | node b o a l r ihl ihr =>
    obtain ⟨h1, h2, h3, h4, _, h5, h6⟩ := h
    exact ⟨h3, ihl h5, ihr h6⟩
theorem nbS {l : List Asg} (h : Sh.TS l) : NbSets l := fun a ha => nbE (h a ha).1
theorem nbSt : ∀ (k : Nat) (x : St k), Sh.TSt k x → NbSt k x := by
  intro k
  induction k with
  | zero => intro x _; trivial
  | succ k ih =>
    intro x h
    obtain ⟨h0, h1, h2, h3, h4, h5, h6⟩ := h
    exact ⟨⟨nbS h1, nbS h2, nbS h3, nbE h4, fun y hy => ⟨nbE (h5 y hy).2.2.1, nbS (h5 y hy).2.2.2.1⟩⟩, fun r hr y hy => ih y (h6 r hr y hy)⟩
theorem nbChart {L : List Lx.Tok} (hL : Wf L) {c : Chart} (h : chart L = .ok c) : (∀ r ∈ c.regions, ∀ x ∈ r, NbSt 6 x) ∧ ∀ v ∈ c.vars, N64 v.first := by
  obtain ⟨h1, h2, h3⟩ := Sh.chart_w hL h
  exact ⟨fun r hr x hx => nbSt 6 x (h2 r hr x hx), fun v hv => ⟨(h1 v hv).1.2.2.1, (h1 v hv).1.2.2.2⟩⟩
/-- a chart that is drawn and may be -/
structure RunC (c : Chart) : Prop where
  ok : checkC c = none
  nm : NmChart c
  run : ChartR c
  n64 : ∀ v ∈ c.vars, N64 v.first
theorem runC {s : ByteArray} {l : List Lx.Tok} {c : Chart} (hok : Lx.Ok (bs s) l) (hch : chart (fin s l) = .ok c) (h : checkC c = none) : RunC c :=
  ⟨h, nmChart (wf_ok hok) hch, check_runs h (nmChart (wf_ok hok) hch) (nbChart (wf_ok hok) hch).1, (nbChart (wf_ok hok) hch).2⟩
end Kx
end Go.Proofs.YtecbilopliblpaaGreatDoor
/- keep's there: of names, one state of each region is taken, and of its regions. -/
namespace Go.Proofs.YtecbilopliblpaaGreatDoor
open Go.RowKit Px

/-- a slice of texts -/
def IStrs (w : World) (v : Value) (zs : List Str) : Prop :=
  ∃ ad b off cap, v = .slice ad zs.length cap ∧ zs.length ≤ cap ∧ cap ≤ maxLen ∧ (0 < zs.length → ad = some ⟨b, off, none⟩) ∧ ∀ k s, zs[k]? = some s → w.cell? ⟨b, off + k, none⟩ = some (sv s)
theorem IStrs.below {w w' : World} {v : Value} {zs : List Str} (h : IStrs w v zs) (hb : Below w.heap.size w w') : IStrs w' v zs := by
  obtain ⟨ad, b, off, cap, h1, h2, h3, h4, h5⟩ := h
  exact ⟨ad, b, off, cap, h1, h2, h3, h4, fun k s hs => ck_cell hb (h5 k s hs)⟩
theorem RowS.strs {B : Nat} {w : World} {v : Value} {zs : List Str} (h : RowS B w v zs) : IStrs w v zs := by
  have hc := fun g hg => World.ownsRow.cells h (g := g) hg
  obtain ⟨hl, h2⟩ := h
  rcases h2 with ⟨rfl, h0⟩ | ⟨g, cap, cur, rfl, hB, hg, h3, h4, hr⟩
  · exact ⟨none, 0, 0, 0, by rw [h0], by omega, by unfold maxLen; omega, fun h => absurd h (by omega), fun k s hk => by have := (List.getElem?_eq_some_iff.1 hk).1; omega⟩
  · refine ⟨some ⟨g, 0, none⟩, g, 0, cap, rfl, by omega, by omega, fun _ => rfl, fun k s hk => ?_⟩
    have := hc g rfl k (sv s) (by rw [List.getElem?_map, hk]; rfl)
    rw [show (⟨g, 0, none⟩ : Addr).add k = ⟨g, k, none⟩ from by unfold Addr.add; split <;> simp_all] at this
    rw [Nat.zero_add]; exact this
theorem ixQ (ad : Option Addr) (g o n cap k : Nat) (hk : k < n) (ha : 0 < n → ad = some ⟨g, o, none⟩) (w : World) : (Instr.indexAt 38 (.slice ad n cap) (.int .i64 (k : Int))).run Tryz.prog w = .ok (.pointer (some ⟨g, o + k, none⟩)) w := by
  obtain rfl := ha (by omega)
  rw [run_indexAt_slice _ _ _ _ _ _ _ (by kernel_rfl), if_pos ⟨by omega, by omega⟩]
  have e : (sizeOf (Tryz.prog.elem 38)).run Tryz.prog w = .ok 1 w := by kernel_rfl
  rw [e]
  simp [Result.andThen, Addr.add]
  try (intro h; exact h.symm)
/-- a region in memory whose state that is there is known, with what its regions answer -/
def TakeReg {ρ : Type} (w : World) (r : List (StF ρ)) (a : Option Addr) (t : List Str) : Prop :=
  ∃ gr i0 s0 inner ar n capr, (0 < r.length → a = some ⟨gr, 0, none⟩) ∧ r.length ≤ 1000000 ∧ (∀ j s, r[j]? = some s → w.cell? ⟨gr, j * 9, none⟩ = some (sv s.name)) ∧ Dist (snames r) ∧ r[i0]? = some s0 ∧ t = s0.name :: inner ∧ w.cell? ⟨gr, i0 * 9 + 8, none⟩ = some (.slice ar n capr) ∧
    ∀ w' lv rest, Below w.heap.size w w' → IStrs w' lv (inner ++ rest) → Calls Tryz.prog 17 #[lv, .slice ar n capr] w' fun e w'' => ∃ a n m, e = .returned (.tuple #[.slice a n m, .bool true]) ∧ Hid (IStrs w'' (.slice a n m) rest ∧ Below w'.heap.size w' w'')
theorem strQ {a b : Str} {S T : ByteArray} (h1 : Value.string S = sv a) (h2 : Value.string T = sv b) : (S.toList == T.toList) = decide (a = b) := by
  unfold sv at h1 h2
  injection h1 with h1
  injection h2 with h2
  subst h1
  subst h2
  rw [ByteArray.toList_eq, ByteArray.toList_eq, Bool.eq_iff_iff, beq_iff_eq, decide_eq_true_iff]
set_option maxRecDepth 100000 in
set_option maxHeartbeats 8000000 in
theorem there_at {ρ : Type} {w : World} {ad : Option Addr} {N cap : Nat} {lv : Value} {L : List (List (StF ρ))} {TS : List (List Str)} {rest : List Str} (hn : Hid (N = L.length)) (hNm : N ≤ maxLen) (hts : Hid (TS.length = N))
    (hmem : Hid (∃ g, (0 < N → ad = some ⟨g, 0, none⟩) ∧ ∀ i r t, L[i]? = some r → TS[i]? = some t → ∃ a c, w.cell? ⟨g, i, none⟩ = some (.slice a r.length c) ∧ TakeReg w r a t)) (hl : Hid (IStrs w lv (TS.flatten ++ rest))) :
    Calls Tryz.prog 17 #[lv, .slice ad N cap] w fun e w' => ∃ a n m, e = .returned (.tuple #[.slice a n m, .bool true]) ∧ Hid (IStrs w' (.slice a n m) rest ∧ Below w.heap.size w w') := by
  have hN6 : (N : Int) ≤ 9223372036854775807 := by unfold maxLen at hNm; omega
  obtain ⟨a0, l0, m0, hlv⟩ : ∃ a n m, lv = .slice a n m := by obtain ⟨a, b, o, c, h, _⟩ := hl.out; exact ⟨a, _, c, h⟩
  subst hlv
  clear hNm
  go_enter Tryz.func17, Tryz.ntmps17
  go_wp2_with fail
  go_loopg [0, 6] N (fun f l i wr => ∃ (k : Nat) (al : Option Addr) (nl ml : Nat), f = N - k ∧ k ≤ N ∧ i = .int .i64 (k : Int) ∧ l = .slice al nl ml ∧ Hid (IStrs wr (.slice al nl ml) ((TS.drop k).flatten ++ rest) ∧ Below w.heap.size w wr))
  case atStart => exact ⟨0, a0, l0, m0, by omega, by omega, rfl, rfl, hl.out, Below.refl _ _⟩
  case round =>
    obtain ⟨k, al, nl, ml, rfl, hk, rfl, rfl, hr⟩ := hrel
    obtain ⟨W1, hW1⟩ : ∃ W1, W1 = wr := ⟨_, rfl⟩
    subst hW1
    by_cases hlt : k < N
    · obtain ⟨r, hs⟩ : ∃ r, L[k]? = some r := ⟨L[k]'(by rw [← hn.out]; exact hlt), by rw [List.getElem?_eq_getElem]⟩
      obtain ⟨t, ht⟩ : ∃ t, TS[k]? = some t := ⟨TS[k]'(by rw [hts.out]; exact hlt), by rw [List.getElem?_eq_getElem]⟩
      obtain ⟨g, hg, hg2⟩ := hmem.out
      obtain ⟨a, c, hcell, gr, i0, s0, inner, ar, nr, capr, ha, hlen, hnames, hD, hi0, hT, hc8, hcall⟩ := hg2 k r t hs ht
      have hix := ixR ad g N cap k hlt hg
      have hcw := ck_cell hr.out.2 hcell
      obtain ⟨n, hnr⟩ : ∃ n, n = r.length := ⟨_, rfl⟩
      rw [← hnr] at hcw ha hlen
      have hdrop : (TS.drop k).flatten ++ rest = s0.name :: (inner ++ ((TS.drop (k + 1)).flatten ++ rest)) := by
        obtain ⟨h1, h2⟩ := List.getElem?_eq_some_iff.1 ht
        rw [List.drop_eq_getElem_cons h1, h2, hT]
        simp
      obtain ⟨ad', b, off, cap', e1, q1, q2, q3, q4⟩ := hr.out.1
      rw [hdrop] at e1 q1 q3 q4
      injection e1 with e1 e2 e3
      subst e1
      subst e3
      obtain rfl := q3 (by simp)
      have hnl : nl = (inner ++ ((TS.drop (k + 1)).flatten ++ rest)).length + 1 := by rw [e2]; simp
      have hi0l : i0 < n := by rw [hnr]; exact (List.getElem?_eq_some_iff.1 hi0).1
      have hn6 : (n : Int) ≤ 9223372036854775807 := by omega
      have hh0 := q4 0 s0.name rfl
      obtain ⟨T, hTe⟩ : ∃ T, Value.string T = sv s0.name := ⟨_, rfl⟩
      rw [← hTe, Nat.add_zero] at hh0
      have hixq := ixQ (some ⟨b, off, none⟩) b off nl ml 0 (by omega) (fun _ => rfl)
      rw [Nat.add_zero] at hixq
      have hnl0 : (0 : Int) < (nl : Int) := by omega
      have hnlN : 0 < nl := by omega
      have HCALL : Hid (∀ w' a m nn, Below W1.heap.size W1 w' → nn = nl - 1 → (0 < nn → a = some ⟨b, off + 1, none⟩) → nn ≤ m → m ≤ maxLen → Calls Tryz.prog 17 #[.slice a nn m, .slice ar nr capr] w' fun e w'' => ∃ a n m, e = .returned (.tuple #[.slice a n m, .bool true]) ∧ Hid (IStrs w'' (.slice a n m) ((TS.drop (k + 1)).flatten ++ rest) ∧ Below w.heap.size w w'')) := fun w' a m nn hb he h1 h2 h3 =>
        (hcall w' (.slice a nn m) ((TS.drop (k + 1)).flatten ++ rest) (ck_all hr.out.2 hb) ⟨a, b, off + 1, m, by rw [he, hnl, Nat.add_sub_cancel], by omega, h3, fun hp => h1 (by omega), fun j s hj => ck_cell hb (by rw [Nat.add_assoc, Nat.add_comm 1 j]; exact q4 (j + 1) s hj)⟩).mono fun e w'' ⟨a, n, m, he, h⟩ => ⟨a, n, m, he, h.out.1, ck_all (ck_all hr.out.2 hb) h.out.2⟩
      have HCW : Hid (∀ w', Below w.heap.size w w' → w'.cell? ⟨g, k, none⟩ = some (.slice a n c) ∧ w'.cell? ⟨gr, i0 * 9 + 8, none⟩ = some (.slice ar nr capr)) := fun w' hb => ⟨ck_cell hb (by rw [hnr]; exact hcell), ck_cell hb hc8⟩
      have HNM : Hid (∀ j s, r[j]? = some s → W1.cell? ⟨gr, j * 9, none⟩ = some (sv s.name)) := fun j s hj => ck_cell hr.out.2 (hnames j s hj)
      have HD : Hid (n = r.length ∧ Dist (snames r) ∧ r[i0]? = some s0 ∧ Value.string T = sv s0.name) := ⟨hnr, hD, hi0, hTe⟩
      have HA : Hid (0 < n → a = some ⟨gr, 0, none⟩) := ha
      have hc8w := ck_cell hr.out.2 hc8
      have HW : Hid (W1.cell? ⟨g, k, none⟩ = some (.slice a n c) ∧ W1.cell? ⟨gr, i0 * 9 + 8, none⟩ = some (.slice ar nr capr) ∧ W1.cell? ⟨b, off, none⟩ = some (.string T)) := ⟨hcw, hc8w, hh0⟩
      have HM : Hid (nl - 1 ≤ ml - 1 ∧ ml ≤ maxLen ∧ 1 ≤ nl ∧ nl ≤ ml) := ⟨by rw [List.length_cons] at q1; omega, q2, by omega, by rw [List.length_cons] at q1; omega⟩
      have hml : (nl : Int) ≤ (ml : Int) := by have := HM.out; omega
      have hml6 : (ml : Int) ≤ 9223372036854775807 := by have := HM.out; unfold maxLen at this; omega
      have hnl1 : (1 : Int) ≤ (nl : Int) := by omega
      clear hr hs ht hg hg2 hcell ha hlen hnames hD hi0 hT hc8 hcall hnr hdrop e2 q1 q2 q3 q4 hnl hTe
      go_upto_region 6 with fail
      go_loopg [7, 8] n (fun f kv jv wq => ∃ (q : Nat) (kz : Int), f = n - q ∧ q ≤ n ∧ jv = .int .i64 (q : Int) ∧ kv = .int .i64 kz ∧ Hid (kz = (if i0 < q then (i0 : Int) else -1) ∧ Below W1.heap.size W1 wq))
      case atStart => exact ⟨0, -1, by omega, by omega, rfl, rfl, by simp, Below.refl _ _⟩
      case round =>
        obtain ⟨q, kz, rfl, hq, rfl, rfl, hr2⟩ := hrel
        obtain ⟨v1, v2, v3⟩ := HW.out
        have v1 := ck_cell hr2.out.2 v1
        have v2 := ck_cell hr2.out.2 v2
        have v3 := ck_cell hr2.out.2 v3
        by_cases hq2 : q < n
        · obtain ⟨s, hs⟩ : ∃ s, r[q]? = some s := ⟨r[q]'(by rw [← HD.out.1]; exact hq2), by rw [List.getElem?_eq_getElem]⟩
          have v4 := ck_cell hr2.out.2 (HNM.out q s hs)
          have hixt := ixT a gr n c q hq2 HA.out
          by_cases e : q = i0
          · have hse : s = s0 := by have := HD.out.2.2.1; rw [← e, hs] at this; injection this
            rw [hse, ← HD.out.2.2.2] at v4
            have HE : Hid ((q : Int) = (if i0 < q + 1 then (i0 : Int) else -1) ∧ Below W1.heap.size W1 wr.drew) := ⟨by rw [if_pos (by omega), e], hr2.out.2.drew⟩
            clear hr2 hs hse e v2
            go_upto_region 8 with fail
            go_region
            all_goals
              go_wp2_with fail
              go_roundg (n - (q + 1))
              case measure => omega
              case rel => exact ⟨q + 1, (q : Int), by omega, by omega, by go_num, rfl, HE.out⟩
          · obtain ⟨S, hS⟩ : ∃ S, Value.string S = sv s.name := ⟨_, rfl⟩
            have hne : (S.toList == T.toList) = false := by
              rw [strQ hS HD.out.2.2.2]
              refine decide_eq_false fun h => e (HD.out.2.1.inj (by unfold snames; rw [List.length_map]; exact (List.getElem?_eq_some_iff.1 hs).1) (by unfold snames; rw [List.length_map]; exact (List.getElem?_eq_some_iff.1 HD.out.2.2.1).1) ?_)
              unfold snames
              rw [List.getD_eq_getElem?_getD, List.getElem?_map, hs, List.getD_eq_getElem?_getD, List.getElem?_map, HD.out.2.2.1]
              exact h
            rw [← hS] at v4
            have HE : Hid (kz = (if i0 < q + 1 then (i0 : Int) else -1) ∧ Below W1.heap.size W1 wr.drew) := ⟨by
              rw [hr2.out.1]
              by_cases h : i0 < q
              · rw [if_pos h, if_pos (by omega)]
              · rw [if_neg h, if_neg (by omega)], hr2.out.2.drew⟩
            clear hr2 hs hS e v2
            go_upto_region 8 with fail
            go_region
            all_goals
              go_wp2_with fail
              go_roundg (n - (q + 1))
              case measure => omega
              case rel => exact ⟨q + 1, kz, by omega, by omega, by go_num, rfl, HE.out⟩
        · have hkz : kz = (i0 : Int) := by rw [hr2.out.1, if_pos (by omega)]
          subst hkz
          have hqn : q = n := by omega
          subst hqn
          have hixt := ixT a gr q c i0 hi0l HA.out
          have HB : Hid (Below W1.heap.size W1 wr.drew) := hr2.out.2.drew
          by_cases hm1 : ml = 1
          · subst hm1
            have HCD := HCALL.out wr.drew (some ⟨b, off, none⟩) 0 (nl - 1) HB.out rfl (fun hp => by have := HM.out; omega) (by have := HM.out; omega) (by unfold maxLen; omega)
            clear hr2 v3 HCALL
            go_upto_region 13 with fail
            go_region_held3 (fun W => W.cell? ⟨g, k, none⟩ = some (.slice a q c) ∧ W.cell? ⟨gr, i0 * 9 + 8, none⟩ = some (.slice ar nr capr)) (first | with_reducible exact HQ2.out | go_keep)
              (first | (go_at_call 17; refine HCD.mono ?_; rintro e w2 ⟨a2, n2, m2, rfl, h2⟩; have HQ2 : Hid (w2.cell? ⟨g, k, none⟩ = some (.slice a q c) ∧ w2.cell? ⟨gr, i0 * 9 + 8, none⟩ = some (.slice ar nr capr)) := HCW.out w2 h2.out.2))
            all_goals
              go_wp2_with fail
              go_roundg (N - (k + 1))
              case measure => omega
              case rel => exact ⟨k + 1, a2, n2, m2, rfl, by omega, by go_num, rfl, h2.out⟩
          · have HCD := HCALL.out wr.drew (some ⟨b, off + 1, none⟩) (ml - 1) (nl - 1) HB.out rfl (fun hp => rfl) (by have := HM.out; omega) (by have := HM.out; omega)
            clear hr2 v3 HCALL
            go_upto_region 13 with fail
            go_region_held3 (fun W => W.cell? ⟨g, k, none⟩ = some (.slice a q c) ∧ W.cell? ⟨gr, i0 * 9 + 8, none⟩ = some (.slice ar nr capr)) (first | with_reducible exact HQ2.out | go_keep)
              (first | (go_at_call 17; refine HCD.mono ?_; rintro e w2 ⟨a2, n2, m2, rfl, h2⟩; have HQ2 : Hid (w2.cell? ⟨g, k, none⟩ = some (.slice a q c) ∧ w2.cell? ⟨gr, i0 * 9 + 8, none⟩ = some (.slice ar nr capr)) := HCW.out w2 h2.out.2))
            all_goals
              go_wp2_with fail
              go_roundg (N - (k + 1))
              case measure => omega
              case rel => exact ⟨k + 1, a2, n2, m2, rfl, by omega, by go_num, rfl, h2.out⟩
    · obtain rfl : k = N := by omega
      have h1 := hr.out.1
      rw [← hts.out, List.drop_length] at h1
      have HL : Hid (IStrs W1 (.slice al nl ml) rest ∧ Below w.heap.size w W1) := ⟨h1, hr.out.2⟩
      clear hr h1
      go_wp2_with fail
      go_ret2
      exact ⟨_, _, _, rfl, HL.out⟩
theorem zip_at {α β γ : Type} {f : α → β → γ} {l : List α} {m : List β} {i : Nat} {a : α} {b : β} {t : γ} (ha : l[i]? = some a) (hb : m[i]? = some b) (ht : (List.zipWith f l m)[i]? = some t) : t = f a b := by
  rw [List.getElem?_zipWith, ha, hb] at ht
  injection ht with ht
  exact ht.symm
theorem at_len {α β : Type} {l : List α} {m : List β} {i : Nat} {a : α} (h : m.length = l.length) (ha : l[i]? = some a) : ∃ b, m[i]? = some b :=
  ⟨m[i]'(by rw [h]; exact (List.getElem?_eq_some_iff.1 ha).1), by rw [List.getElem?_eq_getElem]⟩
theorem thereF_at {σ ρ : Type} {f : List σ → ρ → List Str} {L : List (StF σ)} {d : RdF ρ} {i : Nat} {s : StF σ} {x : SdF ρ} (h : d.there = some i) (hs : L[i]? = some s) (hx : d.sts[i]? = some x) : thereF f L d = s.name :: (List.zipWith f s.regions x.inside).flatten := by
  unfold thereF
  simp only [h, hs, hx]
/-- .. at every depth -/
theorem there_all {A : Nat → Prop} : ∀ (k : Nat) (w : World) (rs : List (List (St k))) (ds : List (Rd k)) (lv v : Value) (rest : List Str), IsRegs A w (IsStates A w k) rs v → ds.length = rs.length → (∀ (j : Nat) (r : List (St k)) (d : Rd k), rs[j]? = some r → ds[j]? = some d → LvK k r d) → (∀ r ∈ rs, LayR k r) → IStrs w lv ((List.zipWith (thereK k) rs ds).flatten ++ rest) →
    Calls Tryz.prog 17 #[lv, v] w fun e w' => ∃ a n m, e = .returned (.tuple #[.slice a n m, .bool true]) ∧ Hid (IStrs w' (.slice a n m) rest ∧ Below w.heap.size w w') := by
  intro k
  induction k with
  | zero =>
    intro w rs ds lv v rest hI _ _ hO hl
    obtain ⟨ad, g, cap, rfl, h1, h2, h3⟩ := hI.len
    have hL : rs = [] := by
      cases rs with
      | nil => rfl
      | cons r rs => exact absurd (hO r (by simp)) id
    subst hL
    exact there_at (ρ := Unit) (L := []) (TS := []) rfl h1 rfl ⟨g, fun h => absurd h (by simp), fun i r t h => absurd h (by simp)⟩ hl
  | succ k ih =>
    intro w rs ds lv v rest hI hlen hLv hO hl
    obtain ⟨ad, g, cap, rfl, h1, h2, h3⟩ := hI.len
    refine there_at (ρ := St k) (L := rs) (TS := List.zipWith (thereK (k + 1)) rs ds) rfl h1 (by rw [Hid, List.length_zipWith]; omega) ⟨g, fun hp => (h2 hp).1, fun i r t hi ht => ?_⟩ hl
    have hm := List.mem_of_getElem? hi
    obtain ⟨d, hd⟩ := at_len (α := List (St (k + 1))) hlen hi
    have ht := zip_at (α := List (St (k + 1))) (f := thereK (k + 1)) hi hd ht
    obtain ⟨u, hu, hS⟩ := h3 i r hi
    obtain ⟨a, gr, c, rfl, r1, r2, r3⟩ := IsStates.open hS
    obtain ⟨⟨s1, s2, s3, s4⟩, i0, hth, hJ⟩ := hLv i r d hi hd
    obtain ⟨l1, l2, l3, l4, l5⟩ := hO r hm
    have hi0 : i0 < List.length r := s2 i0 hth
    have e1 : (show List (StF (St k)) from r)[i0]? = some ((show List (StF (St k)) from r)[i0]'hi0) := List.getElem?_eq_getElem _
    have e2 : (show RdF (Rd k) from d).sts[i0]? = some ((show RdF (Rd k) from d).sts[i0]'(by rw [s1]; exact hi0)) := List.getElem?_eq_getElem _
    generalize (show List (StF (St k)) from r)[i0]'hi0 = s0 at e1
    generalize (show RdF (Rd k) from d).sts[i0]'(by rw [s1]; exact hi0) = x0 at e2
    obtain ⟨ve, vd, vl, p, ay, ar, gy, capy, capr, hM, hR⟩ := r3 i0 s0 e1
    have et : thereK (k + 1) r d = s0.name :: (List.zipWith (thereK k) s0.regions x0.inside).flatten := thereF_at (L := r) (d := d) hth e1 e2
    refine ⟨a, c, hu, gr, i0, s0, _, ar, s0.regions.length, capr, fun hp => (r2 hp).1, l4, fun j s hj => ?_, l2, e1, by rw [ht]; exact et, hM.c8, fun w' lv' rest' hb' hl' => ?_⟩
    · obtain ⟨_, _, _, _, _, _, _, _, _, hM', _⟩ := r3 j s hj
      exact hM'.c0
    · have kp : Keep A A w w' := fun b ha hlt => ⟨ha, hb'.block b hlt⟩
      obtain ⟨q1, q2⟩ := s4 i0 s0 x0 e1 e2
      exact ih w' s0.regions x0.inside lv' _ rest' (hR.carry kp (IsStates.carry kp k)) q1 (hJ s0 x0 e1 e2) ((l5 s0 (List.mem_of_getElem? e1)).2.2.2.2) hl'
end Go.Proofs.YtecbilopliblpaaGreatDoor
/- The charts that keep's laws draw first: what they draw, and what Check says of them. -/
namespace Go.Proofs.YtecbilopliblpaaGreatDoor
open Go.RowKit Px
namespace Kx

/-- a text's tokens, one by one -/
def lexF : Nat → List UInt8 → Nat → Option (List Lx.Tok)
  | 0, _, _ => none
  | f + 1, u, p =>
    if (u.drop (Lx.sk false u)).isEmpty then some []
    else if (Lx.rd (u.drop (Lx.sk false u))).1 = 0 ∨ ((Lx.rd (u.drop (Lx.sk false u))).1 = 2 ∧ 18 < (Lx.rd (u.drop (Lx.sk false u))).2) then none
    else match lexF f ((u.drop (Lx.sk false u)).drop (Lx.rd (u.drop (Lx.sk false u))).2) (p + Lx.sk false u + (Lx.rd (u.drop (Lx.sk false u))).2) with
      | none => none
      | some l => some (⟨(Lx.rd (u.drop (Lx.sk false u))).1, (u.drop (Lx.sk false u)).take (Lx.rd (u.drop (Lx.sk false u))).2, p + Lx.sk false u⟩ :: l)
theorem lexF_ok : ∀ (f : Nat) (u : List UInt8) (p : Nat) (l : List Lx.Tok), lexF f u p = some l → ∃ u' p', Lx.Reads u p l u' p' ∧ u'.drop (Lx.sk false u') = [] := by
  intro f
  induction f with
  | zero => intro u p l h; exact absurd h (by simp [lexF])
  | succ f ih =>
    intro u p l h
    rw [lexF] at h
    split at h
    · rename_i he
      injection h with h
      subst h
      exact ⟨u, p, Lx.Reads_nil _ _, by simpa using he⟩
    · rename_i he
      split at h
      · exact absurd h (by simp)
      · rename_i hk
        split at h
        · exact absurd h (by simp)
        · rename_i l' hl
          injection h with h
          subst h
          obtain ⟨u', p', h1, h2⟩ := ih _ _ _ hl
          exact ⟨u', p', ⟨fun e => he (by rw [e]; rfl), rfl, fun e => hk (.inl e), fun e => hk (.inr e), h1⟩, h2⟩
def smallL : List UInt8 := [99, 104, 97, 114, 116, 32, 99, 32, 123, 32, 105, 110, 112, 117, 116, 32, 97, 59, 32, 111, 117, 116, 112, 117, 116, 32, 98, 32, 58, 61, 32, 50, 59, 32, 114, 101, 103, 105, 111, 110, 32, 123, 32, 105, 110, 105, 116, 105, 97, 108, 32, 115, 116, 97, 116, 101, 32, 115, 32, 123, 32, 103, 111, 32, 105, 102, 32, 40, 97, 41, 32, 100, 111, 32, 98, 32, 58, 61, 32, 98, 32, 43, 32, 40, 49, 32, 42, 32, 97, 41, 32, 45, 45, 62, 32, 116, 59, 32, 125, 32, 115, 116, 97, 116, 101, 32, 116, 32, 123, 32, 103, 111, 32, 45, 45, 62, 32, 115, 59, 32, 125, 32, 125, 32, 125]
def smallK : List Lx.Tok := [⟨1, [99, 104, 97, 114, 116], 0⟩, ⟨1, [99], 6⟩, ⟨3, [123], 8⟩, ⟨1, [105, 110, 112, 117, 116], 10⟩, ⟨1, [97], 16⟩, ⟨3, [59], 17⟩, ⟨1, [111, 117, 116, 112, 117, 116], 19⟩, ⟨1, [98], 26⟩, ⟨3, [58, 61], 28⟩, ⟨2, [50], 31⟩, ⟨3, [59], 32⟩, ⟨1, [114, 101, 103, 105, 111, 110], 34⟩, ⟨3, [123], 41⟩, ⟨1, [105, 110, 105, 116, 105, 97, 108], 43⟩, ⟨1, [115, 116, 97, 116, 101], 51⟩, ⟨1, [115], 57⟩, ⟨3, [123], 59⟩, ⟨1, [103, 111], 61⟩, ⟨1, [105, 102], 64⟩, ⟨3, [40], 67⟩, ⟨1, [97], 68⟩, ⟨3, [41], 69⟩, ⟨1, [100, 111], 71⟩, ⟨1, [98], 74⟩, ⟨3, [58, 61], 76⟩, ⟨1, [98], 79⟩, ⟨3, [43], 81⟩, ⟨3, [40], 83⟩, ⟨2, [49], 84⟩, ⟨3, [42], 86⟩, ⟨1, [97], 88⟩, ⟨3, [41], 89⟩, ⟨3, [45, 45, 62], 91⟩, ⟨1, [116], 95⟩, ⟨3, [59], 96⟩, ⟨3, [125], 98⟩, ⟨1, [115, 116, 97, 116, 101], 100⟩, ⟨1, [116], 106⟩, ⟨3, [123], 108⟩, ⟨1, [103, 111], 110⟩, ⟨3, [45, 45, 62], 113⟩, ⟨1, [115], 117⟩, ⟨3, [59], 118⟩, ⟨3, [125], 120⟩, ⟨3, [125], 122⟩, ⟨3, [125], 124⟩]
def smallC : Chart := ⟨[99], [⟨1, [97], 0⟩, ⟨2, [98], 2⟩], [[(⟨[115], true, false, [], [], [], .nil, [⟨0, false, eName 2 [97], 1, [⟨[98], eTwo 6 (eName 2 [98]) (eTwo 8 (eNum 1) (eName 2 [97]))⟩], [116], false⟩], []⟩ : StF (St 5)), (⟨[116], false, false, [], [], [], .nil, [⟨0, false, .nil, 1, [], [115], false⟩], []⟩ : StF (St 5))]]⟩
set_option maxRecDepth 100000 in
theorem small_lex : lexF 60 smallL 0 = some smallK := by kernel_rfl
set_option maxRecDepth 100000 in
theorem small_chart (n : Nat) : chart (smallK ++ [⟨4, [], n⟩]) = .ok smallC := by kernel_rfl
theorem small_ok {s : ByteArray} (h : bs s = smallL) : Lx.Ok (bs s) smallK ∧ chart (fin s smallK) = .ok smallC := by
  refine ⟨⟨by decide, ?_⟩, small_chart _⟩
  rw [h]
  exact lexF_ok _ _ _ _ small_lex
def cycL : List UInt8 := [99, 104, 97, 114, 116, 32, 99, 32, 123, 32, 114, 101, 103, 105, 111, 110, 32, 123, 32, 105, 110, 105, 116, 105, 97, 108, 32, 115, 116, 97, 116, 101, 32, 115, 32, 123, 32, 103, 111, 32, 105, 109, 109, 101, 100, 105, 97, 116, 101, 32, 45, 45, 62, 32, 115, 59, 32, 125, 32, 125, 32, 125]
def cycK : List Lx.Tok := [⟨1, [99, 104, 97, 114, 116], 0⟩, ⟨1, [99], 6⟩, ⟨3, [123], 8⟩, ⟨1, [114, 101, 103, 105, 111, 110], 10⟩, ⟨3, [123], 17⟩, ⟨1, [105, 110, 105, 116, 105, 97, 108], 19⟩, ⟨1, [115, 116, 97, 116, 101], 27⟩, ⟨1, [115], 33⟩, ⟨3, [123], 35⟩, ⟨1, [103, 111], 37⟩, ⟨1, [105, 109, 109, 101, 100, 105, 97, 116, 101], 40⟩, ⟨3, [45, 45, 62], 50⟩, ⟨1, [115], 54⟩, ⟨3, [59], 55⟩, ⟨3, [125], 57⟩, ⟨3, [125], 59⟩, ⟨3, [125], 61⟩]
def cycC : Chart := ⟨[99], [], [[(⟨[115], true, false, [], [], [], .nil, [⟨0, true, .nil, 1, [], [115], false⟩], []⟩ : StF (St 5))]]⟩
set_option maxRecDepth 100000 in
theorem cyc_lex : lexF 60 cycL 0 = some cycK := by kernel_rfl
set_option maxRecDepth 100000 in
theorem cyc_chart (n : Nat) : chart (cycK ++ [⟨4, [], n⟩]) = .ok cycC := by kernel_rfl
theorem cyc_ok {s : ByteArray} (h : bs s = cycL) : Lx.Ok (bs s) cycK ∧ chart (fin s cycK) = .ok cycC := by
  refine ⟨⟨by decide, ?_⟩, cyc_chart _⟩
  rw [h]
  exact lexF_ok _ _ _ _ cyc_lex
set_option maxRecDepth 100000 in
theorem small_check : checkC smallC = none := by kernel_rfl
set_option maxRecDepth 100000 in
theorem cyc_check : checkC cycC = some (11, some 0) := by kernel_rfl
end Kx
end Go.Proofs.YtecbilopliblpaaGreatDoor
