import Derived.Test.YtpogmfliojcnjaaGreatDoorQVsKr2
import Derived.Test.YtpogmfliojcnjaaGreatDoorQKj0
import Derived.Deep.DeepCutAuto
namespace Go.Proofs.YtpogmfliojcnjaaGreatDoor
open Go.RowKit Px
namespace Kx
def AskReg {ρ : Type} (F : Nat) (K : StF ρ → Int → Prop) (w : World) (r : List (StF ρ)) (a : Option Addr) : Prop :=
 ∃ gr, (0 < r.length → a = some ⟨gr, 0, none⟩) ∧ r.length ≤ 1000000 ∧ ∀ (j : Nat) (s : StF ρ), r[j]? = some s → ∃ ar nr capr ay ny cy, w.cell? ⟨gr, j * 9 + 8, none⟩ = some (.slice ar nr capr) ∧ w.cell? ⟨gr, j * 9 + 7, none⟩ = some (.slice ay ny cy) ∧
  ∀ w', Below w.heap.size w w' → Calls Tryz.prog F #[.slice ar nr capr] w' fun e w'' => ∃ x : Int, e = .returned (.int .i64 x) ∧ Hid (K s x ∧ Below w'.heap.size w' w'')
set_option maxRecDepth 100000 in
set_option maxHeartbeats 8000000 in
theorem count_at {ρ : Type} {w : World} {ad : Option Addr} {N cap : Nat} {L : List (List (StF ρ))} (hn : Hid (N = L.length)) (hNm : N ≤ maxLen)
    (hmem : Hid (∃ g, (0 < N → ad = some ⟨g, 0, none⟩) ∧ ∀ i r, L[i]? = some r → ∃ a c, w.cell? ⟨g, i, none⟩ = some (.slice a r.length c) ∧ AskReg 9 (fun _ _ => True) w r a)) :
    Calls Tryz.prog 9 #[.slice ad N cap] w fun e w' => ∃ x : Int, e = .returned (.int .i64 x) ∧ Hid (True ∧ Below w.heap.size w w') := by
 have hN6 : (N : Int) ≤ 9223372036854775807 := by unfold maxLen at hNm; omega
 clear hNm
 go_enter Tryz.func9, Tryz.ntmps9
 go_wp2_with fail
 go_loopg [3, 4] N (fun f' nv i wr => ∃ (k : Nat) (x : Int), f' = N - k ∧ k ≤ N ∧ i = .int .i64 (k : Int) ∧ nv = .int .i64 x ∧ Hid (Below w.heap.size w wr))
 case atStart => exact ⟨0, 0, by omega, by omega, rfl, rfl, Below.refl _ _⟩
 case round =>
  obtain ⟨k, x, rfl, hk, rfl, rfl, hr⟩ := hrel
  obtain ⟨W1, hW1⟩ : ∃ W1, W1 = wr := ⟨_, rfl⟩
  subst hW1
  by_cases hlt : k < N
  ·obtain ⟨r, hs⟩ : ∃ r, L[k]? = some r := ⟨L[k]'(by rw [← hn.out]; exact hlt), by rw [List.getElem?_eq_getElem]⟩
   obtain ⟨g, hg, hg2⟩ := hmem.out
   obtain ⟨a, c, hcell, gr, ha, hlen, hin⟩ := hg2 k r hs
   have hix := ixR ad g N cap k hlt hg
   have hcw := ck_cell hr.out hcell
   obtain ⟨n, hnr⟩ : ∃ n, n = r.length := ⟨_, rfl⟩
   rw [← hnr] at hcw ha hlen
   have hn6 : (n : Int) ≤ 9223372036854775807 := by omega
   have HC : Hid (∀ W, Below W1.heap.size W1 W → W.cell? ⟨g, k, none⟩ = some (.slice a n c)) := fun W hb => ck_cell hb hcw
   have HIN : Hid (∀ (j : Nat), j < n → ∃ ar nr capr ay ny cy, w.cell? ⟨gr, j * 9 + 8, none⟩ = some (.slice ar nr capr) ∧ w.cell? ⟨gr, j * 9 + 7, none⟩ = some (.slice ay ny cy) ∧ ∀ w', Below w.heap.size w w' → Calls Tryz.prog 9 #[.slice ar nr capr] w' fun e w'' => ∃ x : Int, e = .returned (.int .i64 x) ∧ Hid (True ∧ Below w'.heap.size w' w'')) := fun j hj => hin j (r[j]'(by rw [← hnr]; exact hj)) (List.getElem?_eq_getElem _)
   have HA : Hid (0 < n → a = some ⟨gr, 0, none⟩) := ha
   have HB1 : Hid (Below w.heap.size w W1) := hr.out
   clear hr hs hg hg2 hcell hin ha hnr hcw
   go_upto_region 6 with fail
   go_loopg [3, 5] n (fun f' nv jv wq => ∃ (j : Nat) (x : Int), f' = n - j ∧ j ≤ n ∧ jv = .int .i64 (j : Int) ∧ nv = .int .i64 x ∧ Hid (Below W1.heap.size W1 wq))
   case atStart => exact ⟨0, x, by omega, by omega, rfl, rfl, Below.refl _ _⟩
   case round =>
    obtain ⟨j, q, rfl, hj, rfl, rfl, hr⟩ := hrel
    obtain ⟨W2, hW2⟩ : ∃ W2, W2 = wr := ⟨_, rfl⟩
    subst hW2
    have z1 := HC.out W2 hr.out
    by_cases hj2 : j < n
    ·obtain ⟨ar, nr, capr, ay, ny, cy, h8, h7, hcall⟩ := HIN.out j hj2
     have hB2 := ck_all HB1.out hr.out
     have z2 := ck_cell hB2 h8
     have z3 := ck_cell hB2 h7
     have hixt := ixT a gr n c j hj2 HA.out
     have hc2 := hcall W2.drew hB2.drew
     have HQ : Hid (∀ w', Below W2.drew.heap.size W2.drew w' → (w'.cell? ⟨g, k, none⟩ = some (.slice a n c) ∧ w'.cell? ⟨gr, j * 9 + 7, none⟩ = some (.slice ay ny cy) ∧ w'.cell? ⟨gr, j * 9 + 8, none⟩ = some (.slice ar nr capr)) ∧ Below W1.heap.size W1 w') := fun w' hb => by
      have hb' : Below W2.heap.size W2 w' := ck_all ((Below.refl _ _).drew) hb
      exact ⟨⟨ck_cell hb' z1, ck_cell hb' z3, ck_cell hb' z2⟩, ck_all hr.out hb'⟩
     clear hr h8 h7 hcall hB2
     go_upto_region 8 with fail
     go_region_held3 (fun W => W.cell? ⟨g, k, none⟩ = some (.slice a n c) ∧ W.cell? ⟨gr, j * 9 + 7, none⟩ = some (.slice ay ny cy) ∧ W.cell? ⟨gr, j * 9 + 8, none⟩ = some (.slice ar nr capr)) (first | with_reducible exact HQ2.out.1 | go_keep)
      (first | (go_at_call 9; refine hc2.mono ?_; rintro e w3 ⟨xx, rfl, h3⟩; have HQ2 : Hid ((w3.cell? ⟨g, k, none⟩ = some (.slice a n c) ∧ w3.cell? ⟨gr, j * 9 + 7, none⟩ = some (.slice ay ny cy) ∧ w3.cell? ⟨gr, j * 9 + 8, none⟩ = some (.slice ar nr capr)) ∧ Below W1.heap.size W1 w3) := HQ.out w3 h3.out.2))
     all_goals
      go_wp2_with fail
      go_roundg (n - (j + 1))
      case measure => omega
      case rel => exact ⟨j + 1, _, by omega, by omega, by go_num, rfl, HQ2.out.2⟩
    ·obtain rfl : j = n := by omega
     have HE : Hid (Below w.heap.size w W2) := ck_all HB1.out hr.out
     clear hr
     go_wp2_with fail
     go_roundg (N - (k + 1))
     case measure => omega
     case rel => exact ⟨k + 1, q, by omega, by omega, by go_num, rfl, HE.out⟩
  ·obtain rfl : k = N := by omega
   have HE : Hid (True ∧ Below w.heap.size w W1) := ⟨trivial, hr.out⟩
   clear hr
   go_wp2_with fail
   go_ret
   exact ⟨_, rfl, HE.out⟩
theorem askReg_of {A : Nat → Prop} {F : Nat} {k : Nat} {K : StF (St k) → Int → Prop} {w : World} {r : List (StF (St k))} {u : Value} (hS : IsStates A w (k + 1) r u) (hL : List.length r ≤ 1000000)
    (hin : ∀ s ∈ r, ∀ w' v, IsRegs A w' (IsStates A w' k) s.regions v → Calls Tryz.prog F #[v] w' fun e w'' => ∃ x : Int, e = .returned (.int .i64 x) ∧ Hid (K s x ∧ Below w'.heap.size w' w'')) : ∃ a c, u = .slice a r.length c ∧ AskReg F K w r a := by
 obtain ⟨a, gr, c, rfl, r1, r2, r3⟩ := IsStates.open hS
 refine ⟨a, c, rfl, gr, fun hp => (r2 hp).1, hL, fun j s hj => ?_⟩
 obtain ⟨ve, vd, vl, p, ay, ar, gy, capy, capr, hM, hR⟩ := r3 j s hj
 refine ⟨ar, s.regions.length, capr, ay, s.ways.length, capy, hM.c8, hM.c7, fun w' hb => hin s (List.mem_of_getElem? hj) w' _ ?_⟩
 have kp : Keep A A w w' := fun b ha hlt => ⟨ha, hb.block b hlt⟩
 exact hR.carry kp (IsStates.carry kp k)
theorem count_all {A : Nat → Prop} : ∀ (k : Nat) (w : World) (L : List (List (St k))) (v : Value), IsRegs A w (IsStates A w k) L v → (∀ r ∈ L, LayR k r) →
    Calls Tryz.prog 9 #[v] w fun e w' => ∃ x : Int, e = .returned (.int .i64 x) ∧ Hid (True ∧ Below w.heap.size w w') := by
 intro k
 induction k with
 | zero =>
  intro w L v hI hO
  obtain ⟨ad, g, cap, rfl, h1, h2, h3⟩ := hI.len
  have hL : L = [] := by
   cases L with
   | nil => rfl
   | cons r rs => exact absurd (hO r (by simp)) id
  subst hL
  exact count_at (ρ := Unit) (L := []) rfl h1 ⟨g, fun h => absurd h (by simp), fun i r h => absurd h (by simp)⟩
 | succ k ih =>
  intro w L v hI hO
  obtain ⟨ad, g, cap, rfl, h1, h2, h3⟩ := hI.len
  refine count_at (ρ := St k) (L := L) rfl h1 ⟨g, fun hp => (h2 hp).1, fun i r hi => ?_⟩
  have hm := List.mem_of_getElem? hi
  obtain ⟨u, hu, hS⟩ := h3 i r hi
  obtain ⟨l1, l2, l3, l4, l5⟩ := hO r hm
  obtain ⟨a, c, rfl, hA⟩ := askReg_of (F := 9) (K := fun _ _ => True) hS l4 (fun s hs w' v hv => ih w' s.regions v hv ((l5 s hs).2.2.2.2))
  exact ⟨a, c, hu, hA⟩
end Kx
end Go.Proofs.YtpogmfliojcnjaaGreatDoor
namespace Go.Proofs.YtpogmfliojcnjaaGreatDoor
open Go.RowKit Px
namespace Kx
theorem decl_one : ∀ (l : List Decl) (xs : List Value), Rows DeclC l xs → ∀ u ∈ xs, u.oneCell' = true := by
 intro l
 induction l with
 | nil => intro xs h; rw [show xs = [] from h]; intro u hu; cases hu
 | cons a r ih =>
  intro xs h u hu
  obtain ⟨c, ys, rfl, hc, hr⟩ := h
  rcases List.mem_append.1 hu with hu | hu
  ·rw [show c = _ from hc] at hu
   simp at hu
   rcases hu with rfl | rfl | rfl <;> rfl
  ·exact ih ys hr u hu
theorem reg_one {A : Nat → Prop} {w : World} : ∀ (L : List (List (St 6))) (xs : List Value), Rows (RegC (IsStates A w 6)) L xs → ∀ u ∈ xs, u.oneCell' = true := by
 intro L
 induction L with
 | nil => intro xs h; rw [show xs = [] from h]; intro u hu; cases hu
 | cons a r ih =>
  intro xs h u hu
  obtain ⟨c, ys, rfl, ⟨v, rfl, hv⟩, hr⟩ := h
  rcases List.mem_append.1 hu with hu | hu
  ·simp at hu
   subst hu
   obtain ⟨a', gr, c', rfl, _⟩ := IsStates.open hv
   rfl
  ·exact ih ys hr u hu
theorem own_low {w : World} {B B' e size n : Nat} {v : Value} {xs : List Value} (h : w.ownsRow B e size v n xs) (hb : B' ≤ B) : w.ownsRow B' e size v n xs :=
 ⟨h.1, h.2.imp id fun ⟨g, cap, cur, h1, h2, h3⟩ => ⟨g, cap, cur, h1, Nat.le_trans hb h2, h3⟩⟩
theorem own_keep {w w' : World} {B e size n : Nat} {v : Value} {xs : List Value} (h : w.ownsRow B e size v n xs) (hk : ∀ g, v.ownBlock = some g → w'.heap[g]? = w.heap[g]?) : w'.ownsRow B e size v n xs := by
 refine ⟨h.1, ?_⟩
 rcases h.2 with h | ⟨g, cap, cur, rfl, h2, h3, h4⟩
 ·exact .inl h
 ·exact .inr ⟨g, cap, cur, rfl, h2, by rw [hk g rfl]; exact h3, h4⟩
theorem bes_mem {c d : Chart} {V : World} {A : Nat → Prop} {S : ByteArray} {gv cv gr cr N1 N2 B1 B2 : Nat} {xv xr : List Value} (hS : Value.string S = sv c.name)
    (hv : V.ownsRow B1 33 3 (.slice (some ⟨gv, 0, none⟩) N1 cv) N1 xv) (h1 : N1 = (c.vars ++ d.vars.map apV).length) (hrv : Rows DeclC (c.vars ++ d.vars.map apV) xv)
    (hr : V.ownsRow B2 64 1 (.slice (some ⟨gr, 0, none⟩) N2 cr) N2 xr) (h2 : N2 = (c.regions ++ d.regions.map (apR 6)).length) (hrr : Rows (RegC (IsStates A V 6)) (c.regions ++ d.regions.map (apR 6)) xr) (a1 : A gv) (a2 : A gr) :
    IsChart A V (besC c d) (.agg #[.string S, .slice (some ⟨gv, 0, none⟩) N1 cv, .slice (some ⟨gr, 0, none⟩) N2 cr]) := by
 refine ⟨_, _, _, _, _, _, by rw [hS]; rfl, ⟨xv, ⟨?_, fun g hg => ?_⟩, hrv⟩, ⟨xr, ⟨?_, fun g hg => ?_⟩, hrr⟩⟩
 ·show V.ownsRow 0 _ 3 _ (c.vars ++ d.vars.map apV).length xv
  rw [← h1]; exact own_low hv (Nat.zero_le _)
 ·injection hg with hg; rw [← hg]; exact a1
 ·show V.ownsRow 0 _ 1 _ (c.regions ++ d.regions.map (apR 6)).length xr
  rw [← h2]; exact own_low hr (Nat.zero_le _)
 ·injection hg with hg; rw [← hg]; exact a2
structure BothI (c d : Chart) (W4 : World) (bb : Nat) (S : ByteArray) (vr : Value) (k : Nat) (wr : World) : Prop where
 mem : ∃ g cap xs, wr.heap[bb]? = some (.cells #[.string S, .slice (some ⟨g, 0, none⟩) (c.vars.length + k) cap, vr] 28 (0, 0)) ∧ wr.ownsRow (bb + 1) 33 3 (.slice (some ⟨g, 0, none⟩) (c.vars.length + k) cap) (c.vars.length + k) xs ∧ Rows DeclC (c.vars ++ (d.vars.take k).map apV) xs
 bel : Below W4.heap.size W4 wr
 ap : ∀ s ∈ vnames c.vars, ∀ t ∈ vnames (d.vars.take k), s ≠ apN t
theorem BothI.low {c d : Chart} {W4 : World} {bb : Nat} {S : ByteArray} {vr : Value} {k : Nat} {wr wq : World} (h : BothI c d W4 bb S vr k wr) (hb : Below wr.heap.size wr wq) : BothI c d W4 bb S vr k wq := by
 obtain ⟨g, cap, xs, h1, h2, h3⟩ := h.mem
 exact ⟨⟨g, cap, xs, ck_block hb h1, own_keep h2 (fun q hq => hb.block q (h2.lt q hq).2), h3⟩, ck_all h.bel hb, h.ap⟩
theorem vnames_take {vs : List Decl} {k : Nat} {v : Decl} (h : vs[k]? = some v) : vnames (vs.take (k + 1)) = vnames (vs.take k) ++ [v.name] := by
 unfold vnames
 rw [List.take_add_one, h, List.map_append]
 rfl
end Kx
end Go.Proofs.YtpogmfliojcnjaaGreatDoor
namespace Go.Proofs.YtpogmfliojcnjaaGreatDoor
open Go.RowKit Px
namespace Kx
theorem chart_reg {A : Nat → Prop} {w : World} {c : Chart} {S : ByteArray} {a a' : Option Addr} {n m n' m' : Nat} (h : IsChart A w c (.agg #[.string S, .slice a n m, .slice a' n' m'])) : Value.string S = sv c.name ∧ IsVars A w c.vars (.slice a n m) ∧ IsRegs A w (IsStates A w 6) c.regions (.slice a' n' m') := by
 obtain ⟨b1, b2, b3, b4, b5, b6, e1, e2, e3⟩ := h
 injection e1 with e1
 simp at e1
 obtain ⟨h1, ⟨rfl, rfl, rfl⟩, rfl, rfl, rfl⟩ := e1
 exact ⟨h1, e2, e3⟩
structure TwoC (A1 A2 : Nat → Prop) (W : World) (c d : Chart) (cb db : Nat) (S S' : ByteArray) (a a' b b' : Option Addr) (n m n' m' p q p' q' : Nat) : Prop where
 c1 : IsChart A1 W c (.agg #[.string S, .slice a n m, .slice a' n' m'])
 c2 : IsChart A2 W d (.agg #[.string S', .slice b p q, .slice b' p' q'])
 b1 : W.heap[cb]? = some (.cells #[.string S, .slice a n m, .slice a' n' m'] 28 (0, 0))
 b2 : W.heap[db]? = some (.cells #[.string S', .slice b p q, .slice b' p' q'] 28 (0, 0))
 l1 : ∀ x, A1 x → x < W.heap.size
 l2 : ∀ x, A2 x → x < W.heap.size
theorem TwoC.low {A1 A2 : Nat → Prop} {W W' : World} {c d : Chart} {cb db : Nat} {S S' : ByteArray} {a a' b b' : Option Addr} {n m n' m' p q p' q' : Nat} (h : TwoC A1 A2 W c d cb db S S' a a' b b' n m n' m' p q p' q') (hb : Below W.heap.size W W') : TwoC A1 A2 W' c d cb db S S' a a' b b' n m n' m' p q p' q' :=
 ⟨chartUp h.c1 hb, chartUp h.c2 hb, ck_block hb h.b1, ck_block hb h.b2, fun x hx => Nat.lt_of_lt_of_le (h.l1 x hx) hb.size, fun x hx => Nat.lt_of_lt_of_le (h.l2 x hx) hb.size⟩
def BesideL : Prop := ∀ (s t : ByteArray) (l m : List Lx.Tok) (c d : Chart) (w : World) (iv jv : Value) (zss yss : List (List Int)), s.size ≤ 1500 → t.size ≤ 1500 → KEnv0 w → Lx.Ok (bs s) l → chart (fin s l) = .ok c → checkC c = none → Lx.Ok (bs t) m → chart (fin t m) = .ok d → checkC d = none → IRws w iv zss → IRws w jv yss → Few zss → Few yss → (∀ zs ∈ zss, ∀ y ∈ zs, N64 y) → (∀ zs ∈ yss, ∀ y ∈ zs, N64 y) → Calls Tryz.prog 3 #[.string s, .string t, iv, jv] w fun e w' => e = .returned (.bool true) ∧ Hid (Below w.heap.size w w')
set_option maxRecDepth 100000 in
set_option maxHeartbeats 16000000 in
def beside_a := PLift.up (show PLift (_ : Prop) → BesideL from fun owed => by
 intro s t l m c d w iv jv zss yss hs ht hv hok hch hck hok2 hch2 hck2 hI hJ hf1 hf2 h64 h64'
 have hC := runC hok hch hck
 have hD := runC hok2 hch2 hck2
 have hfw := few_yes hI hf1
 have hfw2 := few_yes hJ hf2
 have hran := ran_any hv
 have HCH : Hid (∀ (s : ByteArray) (l : List Lx.Tok) (c : Chart), s.size ≤ 1500 → Lx.Ok (bs s) l → chart (fin s l) = .ok c → checkC c = none → ∀ W, Below w.heap.size w W → Calls Tryz.prog 8 #[.string s] W fun e w' => ∃ S a n m a' n' m', e = .returned (.tuple #[.agg #[.string S, .slice a n m, .slice a' n' m'], .bool true]) ∧ Hid (IsChart (fun b => W.heap.size < b) w' c (.agg #[.string S, .slice a n m, .slice a' n' m']) ∧ Below W.heap.size W w')) := fun s l c hs hok hch hck W hb =>
  (chart_drawn hs (hv.up hb) hok hch).mono fun e w' h => by
   rcases h with ⟨_, S, a, n, m, a', n', m', he, hC⟩ | ⟨hne, _⟩
   ·exact ⟨S, a, n, m, a', n', m', he, hC⟩
   ·exact absurd hck hne
 have HC1 := HCH.out s l c hs hok hch hck
 have HC2 := HCH.out t m d ht hok2 hch2 hck2
 have HC1 : Hid _ := HC1
 have HC2 : Hid _ := HC2
 have HB : Hid (∀ (_ : Apart c d) (_ : c.vars.length + d.vars.length ≤ 20), RunC (besC c d)) := fun ha hl => bes_runC hok hch hok2 hch2 hck hck2 ha hl
 have HT : Hid ((∀ r ∈ d.regions, ∀ x ∈ r, Sh.TSt 6 x) ∧ Sh.sumW (Sh.wR (Sh.wSt 6)) d.regions ≤ 601 ∧ c.vars.length + Sh.sumW (Sh.wR (Sh.wSt 6)) c.regions ≤ 601 ∧ ∀ v ∈ d.vars, Sh.TD v) := by
  obtain ⟨h1, h2, h3⟩ := Sh.chart_w (wf_ok hok2) hch2
  obtain ⟨_, _, h4⟩ := Sh.chart_w (wf_ok hok) hch
  exact ⟨h2, by omega, h4, h1⟩
 have HI : Hid (IRws w iv zss ∧ IRws w jv yss) := ⟨hI, hJ⟩
 obtain ⟨iad, ib, io, ic, rfl, hia, hir⟩ := hI
 obtain ⟨jad, jb, jo, jc, rfl, hja, hjr⟩ := hJ
 obtain ⟨N, hN⟩ : ∃ N, N = zss.length := ⟨_, rfl⟩
 obtain ⟨M, hM⟩ : ∃ M, M = yss.length := ⟨_, rfl⟩
 rw [← hN] at hfw HI ⊢
 rw [← hM] at hfw2 HI ⊢
 have hN6 : (N : Int) ≤ 40 := by have := hf1.1; omega
 have hM6 : (M : Int) ≤ 40 := by have := hf2.1; omega
 have H : Hid ((RunC c ∧ RunC d) ∧ (N = zss.length ∧ M = yss.length) ∧ (IRws w (.slice iad N ic) zss ∧ IRws w (.slice jad M jc) yss) ∧ ((∀ zs ∈ zss, ∀ y ∈ zs, N64 y) ∧ ∀ zs ∈ yss, ∀ y ∈ zs, N64 y) ∧ (∀ zs ∈ zss, zs.length ≤ 30) ∧ ∀ zs ∈ yss, zs.length ≤ 30) := ⟨⟨hC, hD⟩, ⟨hN, hM⟩, HI.out, ⟨h64, h64'⟩, hf1.2, hf2.2⟩
 clear hv hok hch hs hck hok2 hch2 ht hck2 hC hD hN hM hia hir hja hjr h64 h64' hf1 hf2 HI HCH
 go_enter Tryz.func3, Tryz.ntmps3
 go_wp2_with fail
 refine hfw.mono ?_
 rintro e w0 ⟨rfl, hw0⟩
 obtain rfl := hw0.symm
 clear hfw
 go_wp2_with fail
 refine hfw2.mono ?_
 rintro e w0 ⟨rfl, hw0⟩
 obtain rfl := hw0.symm
 clear hfw2
 go_wp2_with fail
 refine hran.mono ?_
 rintro e w1 ⟨rfl, hb1⟩
 clear hran
 have hch := HC1.out w1 hb1.out
 clear HC1
 go_wp2_with fail
 refine hch.mono ?_
 rintro e w2 ⟨S, a, n, m, a', n', m', rfl, h2⟩
 clear hch
 obtain ⟨W2, hW2⟩ : ∃ W2, W2 = w2.alloc (.cells #[.string S, .slice a n m, .slice a' n' m'] 28) := ⟨_, rfl⟩
 obtain ⟨cb, hcb⟩ : ∃ cb, cb = w2.heap.size := ⟨_, rfl⟩
 have hg2 : Below w2.heap.size w2 W2 := by rw [hW2]; exact ck_grown _ _
 have k2 : W2.heap[cb]? = some (.cells #[.string S, .slice a n m, .slice a' n' m'] 28 (0, 0)) := by rw [hW2, hcb]; exact ck_new _ _
 have hB2 : Below w.heap.size w W2 := ck_all (ck_all hb1.out h2.out.2) hg2
 have hCh : IsChart (fun b => w1.heap.size < b ∧ b < w2.heap.size) W2 c (.agg #[.string S, .slice a n m, .slice a' n' m']) := chartUp (chart_in h2.out.1) hg2
 obtain ⟨A1, hA1⟩ : ∃ A : Nat → Prop, A = fun b => w1.heap.size < b ∧ b < w2.heap.size := ⟨_, rfl⟩
 rw [← hA1] at hCh
 have hAW : ∀ b, A1 b → b < W2.heap.size := fun b hb => by rw [hA1] at hb; exact Nat.lt_of_lt_of_le hb.2 hg2.size
 have HW2 : Hid (IsChart A1 W2 c (.agg #[.string S, .slice a n m, .slice a' n' m']) ∧ (∀ b, A1 b → b < W2.heap.size) ∧ W2.heap[cb]? = some (.cells #[.string S, .slice a n m, .slice a' n' m'] 28 (0, 0)) ∧ Below w.heap.size w W2) := ⟨hCh, hAW, k2, hB2⟩
 have hch := HC2.out W2 hB2
 clear h2 hg2 k2 hA1 hCh hAW hb1 hB2 HC2
 go_upto_region 6 with fail
 rw [← hcb, ← hW2]
 clear hcb hW2
 go_wp2_with fail
 refine hch.mono ?_
 rintro e w3 ⟨S', b, p, q, b', p', q', rfl, h3⟩
 clear hch
 obtain ⟨W3, hW3⟩ : ∃ W3, W3 = w3.alloc (.cells #[.string S', .slice b p q, .slice b' p' q'] 28) := ⟨_, rfl⟩
 obtain ⟨db, hdb⟩ : ∃ db, db = w3.heap.size := ⟨_, rfl⟩
 have hg3 : Below w3.heap.size w3 W3 := by rw [hW3]; exact ck_grown _ _
 have k3 : W3.heap[db]? = some (.cells #[.string S', .slice b p q, .slice b' p' q'] 28 (0, 0)) := by rw [hW3, hdb]; exact ck_new _ _
 have hB23 : Below W2.heap.size W2 W3 := ck_all h3.out.2 hg3
 have hCh : IsChart (fun b => W2.heap.size < b ∧ b < w3.heap.size) W3 d (.agg #[.string S', .slice b p q, .slice b' p' q']) := chartUp (chart_in h3.out.1) hg3
 obtain ⟨A2, hA2⟩ : ∃ A : Nat → Prop, A = fun b => W2.heap.size < b ∧ b < w3.heap.size := ⟨_, rfl⟩
 rw [← hA2] at hCh
 have HW : Hid (TwoC A1 A2 W3 c d cb db S S' a a' b b' n m n' m' p q p' q' ∧ Below w.heap.size w W3) := ⟨⟨chartUp HW2.out.1 hB23, hCh, ck_block hB23 HW2.out.2.2.1, k3, fun x hx => Nat.lt_of_lt_of_le (HW2.out.2.1 x hx) hB23.size, fun x hx => by rw [hA2] at hx; exact Nat.lt_of_lt_of_le hx.2 hg3.size⟩, ck_all HW2.out.2.2.2 hB23⟩
 clear h3 hg3 k3 hA2 hCh hB23 HW2
 go_upto_region 7 with fail
 rw [← hdb, ← hW3]
 clear hdb hW3
 have hx1 := cell_row HW.out.1.b1 1 (u := .slice a n m) rfl
 have hx2 := cell_row HW.out.1.b1 2 (u := .slice a' n' m') rfl
 have hy1 := cell_row HW.out.1.b2 1 (u := .slice b p q) rfl
 have hy2 := cell_row HW.out.1.b2 2 (u := .slice b' p' q') rfl
 have HN : Hid (n = c.vars.length ∧ p = d.vars.length) := by
  obtain ⟨_, h1, _⟩ := chart_reg HW.out.1.c1
  obtain ⟨_, h2, _⟩ := chart_reg HW.out.1.c2
  obtain ⟨_, _, _, e1, _⟩ := h1.open2
  obtain ⟨_, _, _, e2, _⟩ := h2.open2
  injection e1 with _ e1
  injection e2 with _ e2
  exact ⟨e1, e2⟩
 have hn6 : (n : Int) ≤ 601 := by have := HT.out.2.2.1; have := HN.out.1; omega
 have hp6 : (p : Int) ≤ 1000000 := by have := H.out.1.2.run.vl; have := HN.out.2; omega
 have hwr : IntKind.i64.wrap ((n : Int) + (p : Int)) = (n : Int) + (p : Int) := by rw [IntKind.wrap_i64]; omega
 by_cases h20 : 20 < n + p
 ·have h20' : (20 : Int) < (n : Int) + (p : Int) := by omega
  have HB9 : Hid (∀ q, Below w.heap.size w (W3.drewN q)) := fun q => below_drewN HW.out.2 q
  go_quiet (fail)
  all_goals
   go_wp2_with fail
   go_ret
   exact ⟨rfl, HB9.out _⟩
 ·have HCN : Hid (∀ W, Below W3.heap.size W3 W → (Calls Tryz.prog 9 #[.slice a' n' m'] W fun e w' => ∃ x : Int, e = .returned (.int .i64 x) ∧ Hid (True ∧ Below W.heap.size W w')) ∧ (Calls Tryz.prog 9 #[.slice b' p' q'] W fun e w' => ∃ x : Int, e = .returned (.int .i64 x) ∧ Hid (True ∧ Below W.heap.size W w'))) := fun W hb =>
   ⟨count_all (A := A1) 6 W c.regions _ (chart_reg (chartUp HW.out.1.c1 hb)).2.2 (check_lay H.out.1.1.ok H.out.1.1.nm).1, count_all (A := A2) 6 W d.regions _ (chart_reg (chartUp HW.out.1.c2 hb)).2.2 (check_lay H.out.1.2.ok H.out.1.2.nm).1⟩
  have HKP : Hid (∀ W, Below W3.heap.size W3 W → Below W3.heap.size W3 W ∧ W.cell? ⟨cb, 1, none⟩ = some (.slice a n m) ∧ W.cell? ⟨cb, 2, none⟩ = some (.slice a' n' m') ∧ W.cell? ⟨db, 1, none⟩ = some (.slice b p q) ∧ W.cell? ⟨db, 2, none⟩ = some (.slice b' p' q')) := fun W hb =>
   ⟨hb, ck_cell hb hx1, ck_cell hb hx2, ck_cell hb hy1, ck_cell hb hy2⟩
  have hdr : Below W3.heap.size W3 W3.drew := (Below.refl _ _).drew
  have T1 : Hid True := trivial
  have T2 : Hid True := trivial
  have h20' : ¬ (20 : Int) < (n : Int) + (p : Int) := by omega
  have H20 : Hid (n + p ≤ 20) := by have := h20; exact Nat.le_of_not_lt this
  clear hx1 hx2 hy1 hy2 h20
  go_region_held3 (fun W => Below W3.heap.size W3 W ∧ W.cell? ⟨cb, 1, none⟩ = some (.slice a n m) ∧ W.cell? ⟨cb, 2, none⟩ = some (.slice a' n' m') ∧ W.cell? ⟨db, 1, none⟩ = some (.slice b p q) ∧ W.cell? ⟨db, 2, none⟩ = some (.slice b' p' q'))
   ((refine HKP.out _ ?_; first | (with_reducible exact hdr) | (with_reducible exact hk2) | (with_reducible exact hk1)))
   ((first
    | (go_at_call 9; clear T1; (with_reducible refine Calls.mono (HCN.out _ ?_).1 ?_); (with_reducible exact hdr); rintro e q1 ⟨x1, rfl, g1⟩; have hk1 : Below W3.heap.size W3 q1 := ck_all hdr g1.out.2)
    | (go_at_call 9; clear T2; (with_reducible refine Calls.mono (HCN.out _ ?_).2 ?_); (with_reducible exact hk1); rintro e q2 ⟨x2, rfl, g2⟩; have hk2 : Below W3.heap.size W3 q2 := ck_all hk1 g2.out.2)))
  obtain ⟨xx, hxx⟩ : ∃ xx, xx = IntKind.i64.wrap (x1 + x2) := ⟨_, rfl⟩
  rw [← hxx]
  have HK2 : Hid (Below W3.heap.size W3 q2) := hk2
  clear hxx g1 g2 hk1 hk2 hdr HKP HCN
  by_cases h24 : (24 : Int) < xx
  ·have HB9 : Hid (Below w.heap.size w q2) := ck_all HW.out.2 HK2.out
   go_wp2_with fail
   go_ret
   exact ⟨rfl, HB9.out⟩
  ·have HV : Hid (TwoC A1 A2 q2 c d cb db S S' a a' b b' n m n' m' p q p' q' ∧ Below w.heap.size w q2) := ⟨HW.out.1.low HK2.out, ck_all HW.out.2 HK2.out⟩
   clear HW HK2 hn6 hp6 hwr h20'
   go_upto_region 9 with fail
   clear h24
   revert hN6 hM6 H HB HT HN H20 HV
   revert xx x1 x2 q2 W3 w3 cb db A1 A2 S a n m a' n' m' S' b p q b' p' q'
   revert iad ib io ic jad jb jo jc N M zss yss c d
   revert w s t
   rename_i K0
   revert K0
   exact owed.down)
end Kx
end Go.Proofs.YtpogmfliojcnjaaGreatDoor
