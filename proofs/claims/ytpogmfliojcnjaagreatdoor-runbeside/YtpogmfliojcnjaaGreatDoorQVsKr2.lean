import Derived.Test.YtpogmfliojcnjaaGreatDoorQKr
import Derived.Test.YtpogmfliojcnjaaGreatDoorQWa
import Derived.Test.YtpogmfliojcnjaaGreatDoorQWd
import Derived.Test.YtpogmfliojcnjaaGreatDoorQUj
import Derived.Deep.AppendSrc
import Derived.Maps.AppendAt
import Derived.Test.YtpogmfliojcnjaaGreatDoorQKj0
import Derived.Test.YtpogmfliojcnjaaGreatDoorQVe
import Derived.Test.YtpogmfliojcnjaaGreatDoorQVyVq
namespace Go.Proofs.YtpogmfliojcnjaaGreatDoor
open Go.RowKit Px
namespace Kx
end Kx
end Go.Proofs.YtpogmfliojcnjaaGreatDoor
namespace Go.Proofs.YtpogmfliojcnjaaGreatDoor
open Go.RowKit Px
namespace Kx
theorem Rows.of_map {α β : Type} {R : β → List Value → Prop} {R' : α → List Value → Prop} {f : α → β} : ∀ {l : List α} {xs : List Value}, (∀ a ∈ l, ∀ c, R (f a) c → R' a c) → Rows R (l.map f) xs → Rows R' l xs := by
 intro l
 induction l with
 | nil => intro xs _ h; exact h
 | cons a r ih =>
  intro xs hR h
  obtain ⟨c, ys, rfl, hc, hr⟩ := h
  exact ⟨c, ys, rfl, hR a (by simp) c hc, ih (fun b hb => hR b (by simp [hb])) hr⟩
theorem sumW_len {α : Type} {f : α → Nat} (hf : ∀ a, 1 ≤ f a) : ∀ l : List α, l.length ≤ Sh.sumW f l := by
 intro l
 induction l with
 | nil => simp [Sh.sumW]
 | cons a r ih => rw [List.length_cons, Sh.sumW]; have := hf a; omega
theorem isStates_zero {A : Nat → Prop} {w : World} {l : List (St 0)} {v : Value} (h : IsStates A w 0 l v) : l = [] ∧ v = .slice none 0 0 := h
end Kx
end Go.Proofs.YtpogmfliojcnjaaGreatDoor
namespace Go.Proofs.YtpogmfliojcnjaaGreatDoor
open Go.RowKit Px
namespace Kx
def ApOk (k : Nat) : Prop := ∀ (A : Nat → Prop) (w : World) (L : List (List (St k))) (v : Value), IsRegs A w (IsStates A w k) L v → (∀ r ∈ L, ∀ x ∈ r, Sh.TSt k x) → Sh.sumW (Sh.wR (Sh.wSt k)) L ≤ 601 →
 Calls Tryz.prog 10 #[v] w fun e w' => ∃ a n m, e = .returned (.slice a n m) ∧ Hid (IsRegs (fun b => A b ∨ w.heap.size ≤ b) w' (IsStates (fun b => A b ∨ w.heap.size ≤ b) w' k) (L.map (apR k)) (.slice a n m) ∧ Below w.heap.size w w')
theorem ap_zero : ApOk 0 := by
 intro A w L v hI _ hw
 have hlen : L.length ≤ 601 := Nat.le_trans (sumW_len (f := Sh.wR (Sh.wSt 0)) (fun a => by unfold Sh.wR; omega) L) hw
 obtain ⟨ad, g, cap, rfl, h1, h2, h3⟩ := hI.len
 have hnil : ∀ r ∈ L, r = [] := fun r hr => by
  obtain ⟨i, hi⟩ := List.getElem?_of_mem hr
  obtain ⟨u, _, hS⟩ := h3 i r hi
  exact (isStates_zero hS).1
 have hc := apr_at (ρ := Unit) (A := fun b => A b ∧ b < w.heap.size) (w := w) (fr := id) (J := fun _ _ _ _ => True) (fun _ _ _ _ => trivial) (fun b hb => hb.2) (ad := ad) (N := L.length) (cap := cap) (L := L.map fun _ => ([] : List (StF Unit))) (by rw [Hid, List.length_map]) (by omega)
  ⟨g, fun hp => (h2 hp).1, fun i r hi => by
   rw [List.getElem?_map] at hi
   cases hL : L[i]? with
   | none => rw [hL] at hi; simp at hi
   | some q =>
    rw [hL] at hi
    simp at hi
    subst hi
    obtain ⟨u, hu, hS⟩ := h3 i q hL
    obtain ⟨rfl, rfl⟩ := isStates_zero hS
    exact ⟨none, 0, hu, 0, fun h => absurd h (by simp), by simp, fun i s h => absurd h (by simp)⟩⟩
 refine hc.mono ?_
 rintro e w' ⟨a, n, m, rfl, h⟩
 obtain ⟨⟨xs, hr, hs⟩, hb⟩ := h.out
 refine ⟨a, n, m, rfl, ⟨xs, ?_, ?_⟩, hb⟩
 ·rw [List.length_map] at hr ⊢
  exact hr.carry fun b hb _ => ⟨by rcases hb with h | h; exact .inl h.1; exact .inr h, rfl⟩
 ·rw [show L.map (apR 0) = L from List.map_id'' (fun _ => rfl) L]
  rw [List.map_map] at hs
  refine Rows.of_map (fun r hr c hc => ?_) hs
  obtain ⟨u, hcu, hu⟩ := hc
  exact ⟨u, hcu, hnil r hr, hu.2 rfl⟩
theorem ap_succ (k : Nat) (ih : ApOk k) : ApOk (k + 1) := by
 intro A w L v hI hT hw
 have hlen : L.length ≤ 601 := Nat.le_trans (sumW_len (f := Sh.wR (Sh.wSt (k + 1))) (fun a => by unfold Sh.wR; omega) L) hw
 have kA : Keep A (fun b => A b ∧ b < w.heap.size) w w := fun b hb hlt => ⟨⟨hb, hlt⟩, rfl⟩
 have hI := hI.carry kA (IsStates.carry kA (k + 1))
 obtain ⟨ad, g, cap, rfl, h1, h2, h3⟩ := hI.len
 have hc := apr_at (ρ := St k) (A := fun b => A b ∧ b < w.heap.size) (w := w) (fr := apR k) (J := fun A w => IsStates A w k) (fun kp l v h => IsStates.carry kp k l v h) (fun b hb => hb.2) (ad := ad) (N := L.length) (cap := cap) (L := L) rfl (by omega)
  ⟨g, fun hp => (h2 hp).1, fun i r hi => by
   have hm := List.mem_of_getElem? hi
   obtain ⟨u, hu, hS⟩ := h3 i r hi
   obtain ⟨a, gr, c, rfl, r1, r2, r3⟩ := IsStates.open hS
   have hwr : 1 + Sh.sumW (Sh.wSt (k + 1)) r ≤ 601 := Nat.le_trans (Sh.sumW_mem (Sh.wR (Sh.wSt (k + 1))) L r hm) hw
   have hrl : List.length r ≤ Sh.sumW (Sh.wSt (k + 1)) r := sumW_len (f := Sh.wSt (k + 1)) (fun s => by show 1 ≤ Sh.wStF (Sh.wSt k) s; unfold Sh.wStF; omega) r
   refine ⟨a, c, hu, gr, fun hp => (r2 hp).1, by omega, fun i s hi' => ?_⟩
   have hms := List.mem_of_getElem? hi'
   obtain ⟨ve, vd, vl, p, ay, ar, gy, capy, capr, hM, hR⟩ := r3 i s hi'
   have hws : Sh.wStF (Sh.wSt k) s ≤ Sh.sumW (Sh.wSt (k + 1)) r := Sh.sumW_mem (Sh.wSt (k + 1)) r s hms
   unfold Sh.wStF at hws
   have hwy : s.ways.length ≤ Sh.sumW Sh.wW s.ways := sumW_len (fun y => by unfold Sh.wW; omega) _
   obtain ⟨t0, t1, t2, t3, t4, t5, t6⟩ := hT r hm s hms
   have l1 := Sh.wS_len s.enter
   have l2 := Sh.wS_len s.during
   have l3 := Sh.wS_len s.leave
   refine ⟨ve, vd, vl, p, ay, ar, gy, capy, capr, hM, ⟨t1, by omega⟩, ⟨t2, by omega⟩, ⟨t3, by omega⟩, t4, fun y hy => ?_, by omega, fun w' hb' => ?_⟩
   ·have hy1 : Sh.wW y ≤ Sh.sumW Sh.wW s.ways := Sh.sumW_mem Sh.wW s.ways y hy
    have hy2 : 1 + Sh.wE y.cond + Sh.wS y.sets ≤ Sh.sumW Sh.wW s.ways := hy1
    have l4 := Sh.wS_len y.sets
    exact ⟨(t5 y hy).2.2.1, (t5 y hy).2.2.2.1, by omega⟩
   ·have kp : Keep (fun b => A b ∧ b < w.heap.size) (fun b => A b ∧ b < w.heap.size) w w' := fun b ha hlt => ⟨ha, hb'.block b hlt⟩
    exact ih _ w' s.regions _ (hR.carry kp (IsStates.carry kp k)) t6 (by omega)⟩
 refine hc.mono ?_
 rintro e w' ⟨a, n, m, rfl, h⟩
 obtain ⟨⟨xs, hr, hs⟩, hb⟩ := h.out
 have k2 : Keep (fun b => (A b ∧ b < w.heap.size) ∨ w.heap.size ≤ b) (fun b => A b ∨ w.heap.size ≤ b) w' w' := fun b hb _ => ⟨by rcases hb with h | h; exact .inl h.1; exact .inr h, rfl⟩
 refine ⟨a, n, m, rfl, ⟨xs, ?_, ?_⟩, hb⟩
 ·rw [List.length_map]
  exact hr.carry k2
 ·refine Rows.map (fun r c hc => ?_) hs
  obtain ⟨u, hcu, hu⟩ := hc
  exact ⟨u, hcu, IsStates.carry k2 (k + 1) r u hu.1⟩
theorem ap_all : ∀ k, ApOk k
 | 0 => ap_zero
 | k + 1 => ap_succ k (ap_all k)
end Kx
end Go.Proofs.YtpogmfliojcnjaaGreatDoor
namespace Go.Proofs.YtpogmfliojcnjaaGreatDoor
open Go.RowKit Px
def SrcC (w : World) (size : Nat) (vx : Value) (m : Nat) (news : List Value) : Prop :=
 (∃ c, vx = .slice none 0 c ∧ m = 0 ∧ news = []) ∨ ∃ ad c, vx = .slice (some ad) m c ∧ news.length = m * size ∧ (∀ j u, news[j]? = some u → w.cell? (ad.add j) = some u) ∧ ∀ u ∈ news, u.oneCell' = true
theorem src_own {w : World} {B e size n : Nat} {v : Value} {xs : List Value} (h : w.ownsRow B e size v n xs) (h1 : ∀ u ∈ xs, u.oneCell' = true) : SrcC w size v n xs := by
 have hc := fun g hg => World.ownsRow.cells h (g := g) hg
 obtain ⟨hl, h2⟩ := h
 rcases h2 with ⟨rfl, h0⟩ | ⟨g, cap, cur, rfl, _⟩
 ·exact .inl ⟨0, rfl, h0, List.eq_nil_of_length_eq_zero (by rw [hl, h0]; simp)⟩
 ·exact .inr ⟨_, cap, rfl, hl, hc g rfl, h1⟩
theorem src_nums {w : World} {v : Value} {zs : List Int} (h : INums w v zs) : SrcC w 1 v zs.length (zs.map (Value.int .i64)) := by
 obtain ⟨ad, b, off, cap, rfl, _, _, ha, hc⟩ := h
 have one : ∀ u ∈ zs.map (Value.int .i64), u.oneCell' = true := fun u hu => by
  obtain ⟨x, _, rfl⟩ := List.mem_map.1 hu
  rfl
 cases ad with
 | none =>
  have h0 : zs = [] := by
   rcases zs with _ | ⟨z, zs⟩
   ·rfl
   ·exact absurd (ha (by simp)) (by simp)
  subst h0
  exact .inl ⟨cap, rfl, rfl, rfl⟩
 | some ad =>
  refine .inr ⟨ad, cap, rfl, by simp, fun j u hu => ?_, one⟩
  rw [List.getElem?_map] at hu
  obtain ⟨x, hx, rfl⟩ := Option.map_eq_some_iff.1 hu
  have hlt := (List.getElem?_eq_some_iff.1 hx).1
  have e := ha (by omega)
  injection e with e
  subst e
  have := hc j hlt
  rw [List.getD_eq_getElem?_getD, hx] at this
  rw [Addr.add_lit]
  exact this
theorem run_app {P : Program} (w : World) (base : Nat) (t ty e : TypeId) (i : TypeInfo) (z : Value) (size bytes : Nat) (ht : P.underlying t = some (.slice e)) (hi : P.info? e = some i) (hz : i.zero = some z)
    (hsize : i.size = size) (hby : i.bytes = bytes) (hzs : z.cells.size = size) (hsz : 0 < size) {g n cap : Nat} {xs : List Value} (hown : w.ownsRow base e size (.slice (some ⟨g, 0, none⟩) n cap) n xs)
    {vx : Value} {m : Nat} {news : List Value} (hs : SrcC w size vx m news) (h63 : n + m ≤ maxLen) (hbytes : (n + m) * bytes ≤ 140737488355328) (hbase : base ≤ w.heap.size) :
    ∃ g' cap' w', (Builtin.append_ #[t, t] ty #[.slice (some ⟨g, 0, none⟩) n cap, vx]).run P w = .ok (.slice (some ⟨g', 0, none⟩) (n + m) cap') w' ∧ w'.ownsRow base e size (.slice (some ⟨g', 0, none⟩) (n + m) cap') (n + m) (xs ++ news) ∧ w.grownBy w' (some g) ∧ (g' = g ∨ g' = w.heap.size) := by
 rcases hs with ⟨c, rfl, rfl, rfl⟩ | ⟨ad, c, rfl, hl, hc, h1⟩
 ·subst hsize
  have hnc : n + 0 ≤ cap := by
   obtain ⟨_, h2⟩ := hown
   rcases h2 with ⟨h, _⟩ | ⟨g', cap', cur, h, _, _, h3, _⟩
   ·injection h with h; exact absurd h (by simp)
   ·injection h with _ _ h; omega
  have hr := run_append_room_src (P := P) w t t ty e i ht hi g 0 n cap (.slice none 0 c) 0 [] (Src.ofNil w ht c) hnc (fun j hj => absurd hj (by simp)) (fun j hj => absurd hj (by simp))
  refine ⟨g, cap, w, ?_, by simpa using hown, ⟨rfl, rfl, rfl, Nat.le_refl _, fun _ _ _ => rfl⟩, .inl rfl⟩
  rw [hr]
  rfl
 ·obtain ⟨v', w', hr, h2, h3, h4, h5⟩ := run_append_own_at (P := P) w base t ty e i z size bytes ht hi hz hsize hby hzs hsz _ n xs hown ad m c news hl hc h1 h63 hbytes hbase
  have h2' := h2
  obtain ⟨_, h6⟩ := h2'
  rcases h6 with ⟨hv, _⟩ | ⟨g', cap', cur, hv, _⟩
  ·have := (h4.1 hv).1
   injection this with this
   exact absurd this (by simp)
  ·subst hv
   refine ⟨g', cap', w', hr, h2, h3, ?_⟩
   rcases h5 with h | h
   ·injection h with h; exact .inl h
   ·injection h with h; exact .inr h
theorem step_app {P : Program} {w : World} {ops : Array Oper} {o : Oper} {a : Act} {K : Act → World → Prop} {Q : Exit → Act → World → Prop} {E : Prop} (hgd : o.guard = none) (s x : Operand) (t : TypeId)
    (ho : o.op = .call { callee := .builtin .append, args := #[s, x], argTypes := #[t, t] }) (base : Nat) (e : TypeId) (i : TypeInfo) (z : Value) (size bytes : Nat) (ht : P.underlying t = some (.slice e)) (hi : P.info? e = some i) (hz : i.zero = some z)
    (hsize : i.size = size) (hby : i.bytes = bytes) (hzs : z.cells.size = size) (hsz : 0 < size) {g n cap : Nat} {xs : List Value} (hs : a.eval s = .slice (some ⟨g, 0, none⟩) n cap) (hown : w.ownsRow base e size (.slice (some ⟨g, 0, none⟩) n cap) n xs)
    {vx : Value} {m : Nat} {news : List Value} (hx : a.eval x = vx) (hsr : SrcC w size vx m news) (h63 : n + m ≤ maxLen) (hbytes : (n + m) * bytes ≤ 140737488355328) (hbase : base ≤ w.heap.size)
    (h : ∀ g' cap' w', w'.ownsRow base e size (.slice (some ⟨g', 0, none⟩) (n + m) cap') (n + m) (xs ++ news) → w.grownBy w' (some g) → (g' = g ∨ g' = w.heap.size) → K (a.put o.dst (.slice (some ⟨g', 0, none⟩) (n + m) cap')) w') :
    if Region.wanted o (yielded ops a.tmps) = true then Oper.wp P o a w K Q else E := by
 obtain ⟨g', cap', w', hr, h1, h2, h3⟩ := run_app (P := P) w base t o.type e i z size bytes ht hi hz hsize hby hzs hsz hown hsr h63 hbytes hbase
 exact step_app_u hgd s x t ho _ _ _ hs hx hr (h g' cap' w' h1 h2 h3)
theorem wpList_app {P : Program} {w : World} {ops : Array Oper} {rest : List Oper} {o : Oper} {a : Act} {Q : Exit → Act → World → Prop} (hgd : o.guard = none) (s x : Operand) (t : TypeId)
    (ho : o.op = .call { callee := .builtin .append, args := #[s, x], argTypes := #[t, t] }) (base : Nat) (e : TypeId) (i : TypeInfo) (z : Value) (size bytes : Nat) (ht : P.underlying t = some (.slice e)) (hi : P.info? e = some i) (hz : i.zero = some z)
    (hsize : i.size = size) (hby : i.bytes = bytes) (hzs : z.cells.size = size) (hsz : 0 < size) {g n cap : Nat} {xs : List Value} (hs : a.eval s = .slice (some ⟨g, 0, none⟩) n cap) (hown : w.ownsRow base e size (.slice (some ⟨g, 0, none⟩) n cap) n xs)
    {vx : Value} {m : Nat} {news : List Value} (hx : a.eval x = vx) (hsr : SrcC w size vx m news) (h63 : n + m ≤ maxLen) (hbytes : (n + m) * bytes ≤ 140737488355328) (hbase : base ≤ w.heap.size)
    (h : ∀ g' cap' w', w'.ownsRow base e size (.slice (some ⟨g', 0, none⟩) (n + m) cap') (n + m) (xs ++ news) → w.grownBy w' (some g) → (g' = g ∨ g' = w.heap.size) → wpList P ops Q rest (a.put o.dst (.slice (some ⟨g', 0, none⟩) (n + m) cap')) w') :
    wpList P ops Q (o :: rest) a w := by
 obtain ⟨g', cap', w', hr, h1, h2, h3⟩ := run_app (P := P) w base t o.type e i z size bytes ht hi hz hsize hby hzs hsz hown hsr h63 hbytes hbase
 refine wpList_plain hgd fun K hK => ?_
 unfold Oper.wp execOp
 simp only [ho, resolve, invoke, builtin, Sem.run_bind, Sem.run_pure, Result.andThen_ok, List.map_toArray, List.map_cons, List.map_nil, hs, hx, hr]
 exact hK _ _ (h g' cap' w' h1 h2 h3)
theorem frq_grown {w w' : World} {g : Nat} (h : w.grownBy w' (some g)) : FrQ (fun b => b = g) w w' := ⟨h.os, h.tape, h.output, h.size, fun b hb hq => h.block b hb (fun e => hq (by injection e))⟩
theorem below_grown {w w' : World} {g B : Nat} (h : w.grownBy w' (some g)) (hB : B ≤ g) (hs : B ≤ w.heap.size) : Below B w w' := ⟨h.os, h.tape, h.output, h.size, fun b hb => h.block b (Nat.lt_of_lt_of_le hb hs) (fun e => by injection e with e; omega)⟩
end Go.Proofs.YtpogmfliojcnjaaGreatDoor
namespace Go.Proofs.YtpogmfliojcnjaaGreatDoor
open Go.RowKit Px
namespace Kx
theorem ap_te : ∀ {e : E}, Sh.TE e → NmOk (apE e) ∧ NbOk (apE e)
 | .nil, _ => ⟨trivial, trivial⟩
 | .node _ _ a l r, ⟨_, _, h3, h4, _, h5, h6⟩ => by
  have hl := ap_te h5
  have hr := ap_te h6
  refine ⟨⟨?_, hl.1, hr.1⟩, h3, hl.2, hr.2⟩
  show (if a.code = 2 ∨ a.code = 3 then apN a.name else []).length ≤ maxLen
  split
  ·unfold apN maxLen; rw [List.length_cons]; omega
  ·unfold maxLen; simp
theorem ap_ts {l : List Asg} (h : Sh.TS l) : NmSets (l.map apA) ∧ NbSets (l.map apA) := by
 constructor
 ·intro a' ha'
  obtain ⟨a, ha, rfl⟩ := List.mem_map.1 ha'
  exact ⟨by have := (h a ha).2; show (apN a.name).length ≤ maxLen; unfold apN maxLen; rw [List.length_cons]; omega, (ap_te (h a ha).1).1⟩
 ·intro a' ha'
  obtain ⟨a, ha, rfl⟩ := List.mem_map.1 ha'
  exact (ap_te (h a ha).1).2
theorem ap_st : ∀ (k : Nat) (L : List (St k)), (∀ x ∈ L, Sh.TSt k x ∧ Sh.wSt k x ≤ 601) → ∀ x' ∈ apR k L, NmSt k x' ∧ NbSt k x'
 | 0, _, _, _, _ => ⟨trivial, trivial⟩
 | k + 1, L, h, x', hx' => by
  obtain ⟨x, hx, rfl⟩ := List.mem_map.1 (show x' ∈ List.map (apF (apR k)) (show List (StF (St k)) from L) from hx')
  obtain ⟨⟨h0, h1, h2, h3, h4, h5, h6⟩, hw⟩ := h x hx
  have hw' : Sh.wStF (Sh.wSt k) x ≤ 601 := hw
  unfold Sh.wStF at hw'
  have hl := sumGe Sh.wW (fun y => by unfold Sh.wW; omega) (StF.ways x)
  have hin : ∀ r' ∈ (StF.regions x).map (apR k), ∀ y' ∈ r', NmSt k y' ∧ NbSt k y' := fun r' hr' y' hy' => by
   obtain ⟨r, hr, rfl⟩ := List.mem_map.1 hr'
   refine ap_st k r (fun y hy => ⟨h6 r hr y hy, ?_⟩) y' hy'
   have a1 : 1 + Sh.sumW (Sh.wSt k) r ≤ Sh.sumW (Sh.wR (Sh.wSt k)) (StF.regions x) := Sh.sumW_mem (Sh.wR (Sh.wSt k)) (StF.regions x) r hr
   have a2 := Sh.sumW_mem (Sh.wSt k) r y hy
   omega
  refine ⟨⟨⟨by show (StF.name x).length ≤ maxLen; unfold maxLen; omega, (ap_ts h1).1, (ap_ts h2).1, (ap_ts h3).1, (ap_te h4).1, fun y' hy' => ?_, by show ((StF.ways x).map apW).length ≤ 1000000; rw [List.length_map]; omega⟩, fun r hr y hy => (hin r hr y hy).1⟩, ⟨⟨(ap_ts h1).2, (ap_ts h2).2, (ap_ts h3).2, (ap_te h4).2, fun y' hy' => ?_⟩, fun r hr y hy => (hin r hr y hy).2⟩⟩
  ·obtain ⟨y, hy, rfl⟩ := List.mem_map.1 hy'
   exact ⟨by have := (h5 y hy).2.2.2.2; show y.to.length ≤ maxLen; unfold maxLen; omega, (ap_te (h5 y hy).2.2.1).1, (ap_ts (h5 y hy).2.2.2.1).1⟩
  ·obtain ⟨y, hy, rfl⟩ := List.mem_map.1 hy'
   exact ⟨(ap_te (h5 y hy).2.2.1).2, (ap_ts (h5 y hy).2.2.2.1).2⟩
theorem sumC_app {α : Type} (f : α → Nat) (l m : List α) : sumC f (l ++ m) = sumC f l + sumC f m := by
 induction l with
 | nil => simp [sumC]
 | cons a r ih => rw [List.cons_append, sumC, sumC, ih]; omega
theorem sumC_mp {α β : Type} {f : β → Nat} {g : α → Nat} {h : α → β} (l : List α) (e : ∀ a ∈ l, f (h a) = g a) : sumC f (l.map h) = sumC g l := by
 induction l with
 | nil => rfl
 | cons a r ih => rw [List.map_cons, sumC, sumC, e a (List.mem_cons_self ..), ih fun b hb => e b (List.mem_cons_of_mem _ hb)]
theorem crg_ap : ∀ (k : Nat) (L : List (St k)), cRg k (apR k L) = cRg k L
 | 0, _ => rfl
 | k + 1, L => by
  show sumC (fun x => 1 + cIn (k + 1) x) (List.map (apF (apR k)) (show List (StF (St k)) from L)) = sumC (fun x => 1 + cIn (k + 1) x) L
  refine sumC_mp (g := fun x => 1 + cIn (k + 1) x) _ fun s _ => ?_
  show 1 + sumC (cRg k) (s.regions.map (apR k)) = 1 + sumC (cRg k) s.regions
  rw [sumC_mp (g := cRg k) _ fun r _ => crg_ap k r]
theorem bes_runC {s t : ByteArray} {l m : List Lx.Tok} {c d : Chart} (hs : Lx.Ok (bs s) l) (hc : chart (fin s l) = .ok c) (ht : Lx.Ok (bs t) m) (hd : chart (fin t m) = .ok d) (oc : checkC c = none) (od : checkC d = none) (ha : Apart c d) (hv : c.vars.length + d.vars.length ≤ 20) : RunC (besC c d) := by
 obtain ⟨c1, c2, c3⟩ := Sh.chart_w (wf_ok hs) hc
 obtain ⟨d1, d2, d3⟩ := Sh.chart_w (wf_ok ht) hd
 have rc := runC hs hc oc
 have rd := runC ht hd od
 have hx : ∀ r ∈ d.regions, ∀ x ∈ r, Sh.TSt 6 x ∧ Sh.wSt 6 x ≤ 601 := fun r hr x hx => by
  have a1 : 1 + Sh.sumW (Sh.wSt 6) r ≤ Sh.sumW (Sh.wR (Sh.wSt 6)) d.regions := Sh.sumW_mem (Sh.wR (Sh.wSt 6)) d.regions r hr
  have a2 := Sh.sumW_mem (Sh.wSt 6) r x hx
  exact ⟨d2 r hr x hx, by omega⟩
 have hok := bes_check oc od ha
 have sm : ∀ c : Chart, Sh.sumW (Sh.wR (Sh.wSt 6)) c.regions ≤ 601 → sumC (cRg 6) c.regions ≤ 601 := fun c hc => by
  have := sumLe (f := cRg 6) (g := Sh.wR (Sh.wSt 6)) c.regions (fun r _ => by
   have := sumLe (f := fun y => 1 + cIn 6 y) (g := Sh.wSt 6) r (fun y _ => inLe 6 y)
   unfold cRg Sh.wR; omega)
  omega
 have nm : NmChart (besC c d) := by
  refine ⟨?_, fun v hv' => ?_, fun r hr x hx' => ?_, ?_⟩
  ·show (c.vars ++ d.vars.map apV).length ≤ 1000000
   rw [List.length_append, List.length_map]; omega
  ·rcases List.mem_append.1 (show v ∈ c.vars ++ d.vars.map apV from hv') with h | h
   ·exact rc.nm.names v h
   ·obtain ⟨u, hu, rfl⟩ := List.mem_map.1 h
    have := (d1 u hu).2
    show (apN u.name).length ≤ maxLen
    unfold apN maxLen; rw [List.length_cons]; omega
  ·rcases List.mem_append.1 (show r ∈ c.regions ++ d.regions.map (apR 6) from hr) with h | h
   ·exact rc.nm.sts r h x hx'
   ·obtain ⟨q, hq, rfl⟩ := List.mem_map.1 h
    exact (ap_st 6 q (hx q hq) x hx').1
  ·show sumC (cRg 6) (c.regions ++ d.regions.map (apR 6)) ≤ 1000000
   rw [sumC_app, sumC_mp (g := cRg 6) _ fun r _ => crg_ap 6 r]
   have := sm c (by omega)
   have := sm d (by omega)
   omega
 refine ⟨hok, nm, check_runs hok nm fun r hr x hx' => ?_, fun v hv' => ?_⟩
 ·rcases List.mem_append.1 (show r ∈ c.regions ++ d.regions.map (apR 6) from hr) with h | h
  ·exact (nbChart (wf_ok hs) hc).1 r h x hx'
  ·obtain ⟨q, hq, rfl⟩ := List.mem_map.1 h
   exact (ap_st 6 q (hx q hq) x hx').2
 ·rcases List.mem_append.1 (show v ∈ c.vars ++ d.vars.map apV from hv') with h | h
  ·exact rc.n64 v h
  ·obtain ⟨u, hu, rfl⟩ := List.mem_map.1 h
   exact rd.n64 u hu
end Kx
end Go.Proofs.YtpogmfliojcnjaaGreatDoor
namespace Go.Proofs.YtpogmfliojcnjaaGreatDoor
open Go.RowKit Px
namespace Kx
theorem few_no {w : World} {iv : Value} {zss : List (List Int)} (hI : IRws w iv zss) (h : ¬ Few zss) : Calls Tryz.prog 6 #[iv] w fun e w' => e = .returned (.bool false) ∧ w' = w := (few_any hI).mono fun e w' ⟨h', hw⟩ => ⟨by
    rcases h' with ⟨_, hn⟩ | ⟨he, _⟩
    ·exact absurd hn h
    ·exact he, hw⟩
theorem few_yes {w : World} {iv : Value} {zss : List (List Int)} (hI : IRws w iv zss) (h : Few zss) : Calls Tryz.prog 6 #[iv] w fun e w' => e = .returned (.bool true) ∧ w' = w := (few_any hI).mono fun e w' ⟨h', hw⟩ => ⟨by
    rcases h' with ⟨he, _⟩ | ⟨_, hn⟩
    ·exact he
    ·exact absurd h hn, hw⟩
theorem may_or (s : ByteArray) : (∃ l c, s.size ≤ 1500 ∧ Lx.Ok (bs s) l ∧ chart (fin s l) = .ok c ∧ checkC c = none) ∨ ∀ w, KEnv0 w → Calls Tryz.prog 8 #[.string s] w fun e w' => e = .returned (.tuple #[.agg #[.string ⟨#[]⟩, .slice none 0 0, .slice none 0 0], .bool false]) ∧ Hid (Below w.heap.size w w') := by
 by_cases h : ∃ l c, s.size ≤ 1500 ∧ Lx.Ok (bs s) l ∧ chart (fin s l) = .ok c
 ·obtain ⟨l, c, h1, h2, h3⟩ := h
  by_cases hc : checkC c = none
  ·exact .inl ⟨l, c, h1, h2, h3, hc⟩
  ·refine .inr fun w hv => (chart_drawn h1 hv h2 h3).mono fun e w' h => ?_
   rcases h with ⟨hn, _⟩ | ⟨_, he, hb⟩
   ·exact absurd hn hc
   ·exact ⟨he, hb⟩
 ·exact .inr fun w hv => chart_none hv fun h1 l c h2 => h ⟨l, c, h1, h2.1, h2.2⟩
end Kx
end Go.Proofs.YtpogmfliojcnjaaGreatDoor
namespace Go.Proofs.YtpogmfliojcnjaaGreatDoor
open Go.RowKit Px
namespace Px
end Px
end Go.Proofs.YtpogmfliojcnjaaGreatDoor
