/- Plain mathematics of renaming: each state's name and each way's goal gets the same letter ahead: what is wrong with a chart is the same; no program. -/
import Derived.Test.YtobamalnbjbmiaaGreatDoorQLaidK
import Derived.Test.YtobamalnbjbmiaaGreatDoorQCw
namespace Go.Proofs.YtobamalnbjbmiaaGreatDoor
open Px
namespace Kx

def renN (s : Str) : Str := 120 :: s
def renW (y : Wy) : Wy := ⟨y.kind, y.now, y.cond, y.times, y.sets, renN y.to, y.back⟩
section
variable {ρ : Type}
def renF (f : List ρ → List ρ) (s : StF ρ) : StF ρ := { s with name := renN s.name, ways := s.ways.map renW, regions := s.regions.map f }
theorem fnd_ren (ns : List Str) (s : Str) : fnd (ns.map renN) (renN s) = fnd ns s := by
  induction ns with
  | nil => rfl
  | cons a r ih =>
    rw [List.map_cons, fnd, fnd, ih]
    have : renN a = renN s ↔ a = s := by simp [renN]
    simp only [this]
theorem fndI_ren (ns : List Str) (s : Str) : fndI (ns.map renN) (renN s) = fndI ns s := by unfold fndI; rw [fnd_ren]
theorem wayE_ren (vs : List Decl) (ns : List Str) (b : Bool) (y : Wy) : wayE vs (ns.map renN) b (renW y) = wayE vs ns b y := by
  unfold wayE
  rw [show (renW y).to = renN y.to from rfl, fnd_ren]
  rfl
theorem waysE_ren (vs : List Decl) (ns : List Str) (b : Bool) : ∀ l : List Wy, waysE vs (ns.map renN) b (l.map renW) = waysE vs ns b l := by
  intro l
  induction l with
  | nil => rfl
  | cons a r ih => rw [List.map_cons, waysE, waysE, wayE_ren, ih]
theorem stateE_ren (vs : List Decl) (ns : List Str) (f : List ρ → List ρ) (i : Nat) (s : StF ρ) : stateE vs (ns.map renN) i (renF f s) = stateE vs ns i s := by
  unfold stateE aloneE
  rw [show (renF f s).name = renN s.name from rfl, fndI_ren]
  have e1 : (renF f s).ways = s.ways.map renW := rfl
  have e2 : (renF f s).regions = s.regions.map f := rfl
  rw [e1, e2, List.length_map, List.length_map, waysE_ren]
  rfl
theorem snames_ren (f : List ρ → List ρ) (l : List (StF ρ)) : snames (l.map (renF f)) = (snames l).map renN := by
  unfold snames
  rw [List.map_map, List.map_map]; rfl
theorem tosF_ren (ns : List Str) (ys : List Wy) : tosF (ns.map renN) (ys.map renW) = tosF ns ys := by
  unfold tosF
  rw [List.map_map]
  apply List.map_congr_left
  intro y _
  show (if (renW y).now then fnd (ns.map renN) (renN y.to) else none) = _
  rw [fnd_ren]; rfl
theorem graph_ren (f : List ρ → List ρ) (l : List (StF ρ)) : graph (l.map (renF f)) = graph l := by
  unfold graph
  rw [List.map_map, snames_ren]
  apply List.map_congr_left
  intro s _
  exact tosF_ren _ _
theorem firsts_ren (f : List ρ → List ρ) (l : List (StF ρ)) : firsts (l.map (renF f)) = firsts l := by
  unfold firsts
  rw [List.filter_map, List.length_map]; rfl
theorem wholeE_ren (f : List ρ → List ρ) (l : List (StF ρ)) : wholeE (l.map (renF f)) = wholeE l := by
  unfold wholeE; rw [firsts_ren, graph_ren]
theorem regsE_ren {R : List ρ → Nat → Res} {f : List ρ → List ρ} (h : ∀ r n, R (f r) n = R r n) : ∀ (l : List (List ρ)) (n : Nat), regsE R (l.map f) n = regsE R l n := by
  intro l
  induction l with
  | nil => intro n; rfl
  | cons r rs ih =>
    intro n
    rw [List.map_cons, regsE, regsE, h]
    cases R r n with
    | error x => rfl
    | ok m => exact ih m
theorem statesE_ren {vs : List Decl} {R : List ρ → Nat → Res} {f : List ρ → List ρ} (h : ∀ r n, R (f r) n = R r n) (ns : List Str) : ∀ (l : List (StF ρ)) (i n : Nat), statesE vs R (ns.map renN) (l.map (renF f)) i n = statesE vs R ns l i n := by
  intro l
  induction l with
  | nil => intro i n; rfl
  | cons s r ih =>
    intro i n
    rw [List.map_cons, statesE, statesE, stateE_ren, show (renF f s).regions = s.regions.map f from rfl, regsE_ren h]
    cases regsE R s.regions (n + 1) with
    | error x => rfl
    | ok m => simp only [ih]
theorem regF_ren {vs : List Decl} {R : List ρ → Nat → Res} {f : List ρ → List ρ} (h : ∀ r n, R (f r) n = R r n) (l : List (StF ρ)) (n : Nat) : regF vs R (l.map (renF f)) n = regF vs R l n := by
  unfold regF
  rw [snames_ren, statesE_ren h, wholeE_ren]
end
def renR : (k : Nat) → List (St k) → List (St k)
  | 0 => fun l => l
  | k + 1 => fun l => List.map (renF (renR k)) l
theorem regE_ren (vs : List Decl) : ∀ (k : Nat) (l : List (St k)) (n : Nat), regE vs k (renR k l) n = regE vs k l n := by
  intro k
  induction k with
  | zero => intro l n; rfl
  | succ k ih => intro l n; exact regF_ren ih l n
def renC (c : Chart) : Chart := { c with regions := c.regions.map (renR 6) }
theorem checkC_ren (c : Chart) : checkC (renC c) = checkC c := by
  unfold checkC
  rw [show (renC c).vars = c.vars from rfl, show (renC c).regions = c.regions.map (renR 6) from rfl, regsE_ren (regE_ren c.vars 6)]
  simp only [List.map_eq_nil_iff]
/- what is asked of it -/
theorem sumC_map {α β : Type} (f : β → Nat) (g : α → β) (l : List α) : sumC f (l.map g) = sumC (fun a => f (g a)) l := by
  induction l with
  | nil => rfl
  | cons a r ih => rw [List.map_cons, sumC, sumC, ih]
theorem sumC_same {α : Type} {f g : α → Nat} (h : ∀ a, f a = g a) (l : List α) : sumC f l = sumC g l := by
  have : f = g := funext h
  rw [this]
theorem cRg_ren : ∀ (k : Nat) (r : List (St k)), cRg k (renR k r) = cRg k r := by
  intro k
  induction k with
  | zero => intro r; rfl
  | succ k ih =>
    intro r
    refine (sumC_map (fun x => 1 + cIn (k + 1) x) (renF (renR k)) r).trans ?_
    refine sumC_same (fun x => ?_) r
    show 1 + sumC (cRg k) (List.map (renR k) (StF.regions x)) = 1 + sumC (cRg k) (StF.regions x)
    rw [sumC_map, sumC_same (fun r => ih r)]
theorem nmSt_ren : ∀ (k : Nat) (r : List (St k)), (∀ x ∈ r, Sh.TSt k x) → (∀ x ∈ r, NmSt k x) → ∀ x ∈ renR k r, NmSt k x := by
  intro k
  induction k with
  | zero => intro r _ _ x _; trivial
  | succ k ih =>
    intro r hT hN x hx
    obtain ⟨s, hs, rfl⟩ := List.mem_map.1 (show x ∈ List.map (renF (renR k)) r from hx)
    obtain ⟨t0, t1, t2, t3, t4, t5, t6⟩ := hT s hs
    obtain ⟨⟨n0, n1, n2, n3, n4, n5, n6⟩, n7⟩ := hN s hs
    refine ⟨⟨?_, n1, n2, n3, n4, ?_, ?_⟩, ?_⟩
    · show (renN s.name).length ≤ maxLen
      unfold renN maxLen; rw [List.length_cons]; omega
    · intro y hy
      obtain ⟨y', hy', rfl⟩ := List.mem_map.1 (show y ∈ (StF.ways s).map renW from hy)
      obtain ⟨a1, a2, a3⟩ := n5 y' hy'
      have := (t5 y' hy').2.2.2.2
      exact ⟨by show (renN y'.to).length ≤ maxLen; unfold renN maxLen; rw [List.length_cons]; omega, a2, a3⟩
    · show ((StF.ways s).map renW).length ≤ 1000000
      rw [List.length_map]; exact n6
    · intro q hq
      obtain ⟨q', hq', rfl⟩ := List.mem_map.1 (show q ∈ (StF.regions s).map (renR k) from hq)
      exact ih q' (t6 q' hq') (n7 q' hq')
theorem nmChart_ren {L : List Lx.Tok} (hL : Wf L) {c : Chart} (h : chart L = .ok c) : NmChart (renC c) := by
  have hN := nmChart hL h
  obtain ⟨h1, h2, h3⟩ := Sh.chart_w hL h
  refine ⟨hN.vars, hN.names, fun r hr => ?_, ?_⟩
  · obtain ⟨r', hr', rfl⟩ := List.mem_map.1 (show r ∈ c.regions.map (renR 6) from hr)
    exact nmSt_ren 6 r' (h2 r' hr') (hN.sts r' hr')
  · show sumC (cRg 6) (c.regions.map (renR 6)) ≤ 1000000
    rw [sumC_map, sumC_same (fun r => cRg_ren 6 r)]
    exact hN.many
end Kx
end Go.Proofs.YtobamalnbjbmiaaGreatDoor
/- keep's long: it answers, whatever it answers. -/
namespace Go.Proofs.YtobamalnbjbmiaaGreatDoor
open Go.RowKit Px
namespace Kx

/-- a region in memory, with what its states' own regions answer -/
def LongReg {ρ : Type} (w : World) (r : List (StF ρ)) (a : Option Addr) : Prop :=
  ∃ gr, (0 < r.length → a = some ⟨gr, 0, none⟩) ∧ r.length ≤ 1000000 ∧ ∀ i s, r[i]? = some s → ∃ c1 c2 ve vd vl p ay gy capy ar n capr, w.cell? ⟨gr, i * 9, none⟩ = some (sv s.name) ∧ w.cell? ⟨gr, i * 9 + 1, none⟩ = some (.bool c1) ∧ w.cell? ⟨gr, i * 9 + 2, none⟩ = some (.bool c2) ∧
    w.cell? ⟨gr, i * 9 + 3, none⟩ = some ve ∧ w.cell? ⟨gr, i * 9 + 4, none⟩ = some vd ∧ w.cell? ⟨gr, i * 9 + 5, none⟩ = some vl ∧ w.cell? ⟨gr, i * 9 + 6, none⟩ = some (.pointer p) ∧ w.cell? ⟨gr, i * 9 + 7, none⟩ = some (.slice ay s.ways.length capy) ∧ w.cell? ⟨gr, i * 9 + 8, none⟩ = some (.slice ar n capr) ∧
    (∃ a b c, ve = .slice a b c) ∧ (∃ a b c, vd = .slice a b c) ∧ (∃ a b c, vl = .slice a b c) ∧ s.ways.length ≤ 1000000 ∧ (0 < s.ways.length → ay = some ⟨gy, 0, none⟩) ∧ WaysAt w gy s.ways ∧
    ∀ w', Below w.heap.size w w' → Calls Tryz.prog 14 #[.slice ar n capr] w' fun e w'' => ∃ b, e = .returned (.bool b) ∧ Hid (Below w'.heap.size w' w'')

set_option maxRecDepth 100000 in
set_option maxHeartbeats 4000000 in
theorem long_at {ρ : Type} {w : World} {ad : Option Addr} {N cap : Nat} {L : List (List (StF ρ))} (hn : Hid (N = L.length)) (hNm : N ≤ maxLen)
    (hmem : Hid (∃ g, (0 < N → ad = some ⟨g, 0, none⟩) ∧ ∀ i r, L[i]? = some r → ∃ a c, w.cell? ⟨g, i, none⟩ = some (.slice a r.length c) ∧ LongReg w r a)) :
    Calls Tryz.prog 14 #[.slice ad N cap] w fun e w' => ∃ b, e = .returned (.bool b) ∧ Hid (Below w.heap.size w w') := by
  have hN6 : (N : Int) ≤ 9223372036854775807 := by unfold maxLen at hNm; omega
  clear hNm
  go_enter Tryz.func14, Tryz.ntmps14
  go_wp2_with fail
  go_loopg [3] N (fun f i wr => ∃ k : Nat, f = N - k ∧ k ≤ N ∧ i = .int .i64 (k : Int) ∧ Hid (Below w.heap.size w wr))
  case atStart => exact ⟨0, by omega, by omega, rfl, Below.refl _ _⟩
  case round =>
    obtain ⟨k, rfl, hk, rfl, hr⟩ := hrel
    by_cases hlt : k < N
    · obtain ⟨r, hs⟩ : ∃ r, L[k]? = some r := ⟨L[k]'(by rw [← hn.out]; exact hlt), by rw [List.getElem?_eq_getElem]⟩
      obtain ⟨g, hg, hg2⟩ := hmem.out
      obtain ⟨a, c, hcell, gr, ha, hlen, hin⟩ := hg2 k r hs
      have hix := ixR ad g N cap k hlt hg
      obtain ⟨n, hnr⟩ : ∃ n, n = r.length := ⟨_, rfl⟩
      rw [← hnr] at hcell ha hlen
      have HC : Hid (w.cell? ⟨g, k, none⟩ = some (.slice a n c)) := hcell
      have HNR : Hid (n = r.length) := hnr
      have HIN : Hid (∀ i s, r[i]? = some s → _) := hin
      have HA : Hid (0 < n → a = some ⟨gr, 0, none⟩) := ha
      have HB0 : Hid (Below w.heap.size w wr) := hr.out
      clear hr hs hg hg2 hcell ha hin hnr
      go_wp2_with fail
      go_loopg [4] n (fun f i wr => ∃ p : Nat, f = n - p ∧ p ≤ n ∧ i = .int .i64 (p : Int) ∧ Hid (Below w.heap.size w wr))
      case atStart => exact ⟨0, by omega, by omega, rfl, HB0.out⟩
      case round =>
        obtain ⟨p, rfl, hp, rfl, hr⟩ := hrel
        have cc := ck_cell hr.out HC.out
        by_cases hlt2 : p < n
        · obtain ⟨s, hs⟩ : ∃ s, r[p]? = some s := ⟨r[p]'(by rw [← HNR.out]; exact hlt2), by rw [List.getElem?_eq_getElem]⟩
          obtain ⟨d1, d2, ve, vd, vl, pp, ay, gy, capy, ar, nr, capr, c0, c1, c2, c3, c4, c5, c6, c7, c8, ⟨v1, v2, v3, rfl⟩, ⟨v4, v5, v6, rfl⟩, ⟨v7, v8, v9, rfl⟩, hw1, hw2, hw3, hcl⟩ := HIN.out p s hs
          obtain ⟨S, hS⟩ : ∃ S, Value.string S = sv s.name := ⟨_, rfl⟩
          obtain ⟨M, hM⟩ : ∃ M, M = s.ways.length := ⟨_, rfl⟩
          rw [← hS] at c0
          rw [← hM] at c7 hw1 hw2
          have hit := ixT a gr n c p hlt2 HA.out
          have c0 := ck_cell hr.out c0
          have c1 := ck_cell hr.out c1
          have c2 := ck_cell hr.out c2
          have c3 := ck_cell hr.out c3
          have c4 := ck_cell hr.out c4
          have c5 := ck_cell hr.out c5
          have c6 := ck_cell hr.out c6
          have c7 := ck_cell hr.out c7
          have c8 := ck_cell hr.out c8
          obtain ⟨X, hX⟩ : ∃ X, X = wr.alloc (.cells #[.string S, .bool d1, .bool d2, .slice v1 v2 v3, .slice v4 v5 v6, .slice v7 v8 v9, .pointer pp, .slice ay M capy, .slice ar nr capr] 65) := ⟨_, rfl⟩
          have hk := ck_new wr (.cells #[.string S, .bool d1, .bool d2, .slice v1 v2 v3, .slice v4 v5 v6, .slice v7 v8 v9, .pointer pp, .slice ay M capy, .slice ar nr capr] 65)
          rw [← hX] at hk
          have z0 := cell_row hk 0 (u := .string S) rfl
          have z8 := cell_row hk 8 (u := .slice ar nr capr) rfl
          have HBX : Hid (Below w.heap.size w X) := by rw [hX]; exact ck_all hr.out (ck_grown _ _)
          have HK : Hid (X.heap[wr.heap.size]? = some (.cells #[.string S, .bool d1, .bool d2, .slice v1 v2 v3, .slice v4 v5 v6, .slice v7 v8 v9, .pointer pp, .slice ay M capy, .slice ar nr capr] 65 (0, 0))) := hk
          have HW : Hid (M = s.ways.length ∧ (0 < M → ay = some ⟨gy, 0, none⟩) ∧ WaysAt w gy s.ways) := ⟨hM, hw2, hw3⟩
          have hcall := hcl X HBX.out
          have HXE : Hid (X = _) := hX
          rw [hX] at z0 z8 hcall
          clear hr hs hS hM hw2 hw3 hcl hX hk
          by_cases h12 : (12 : Int) ≤ (S.size : Int)
          · go_wp2_with fail
            go_ret
            exact ⟨_, rfl, by rw [← HXE.out]; exact HBX.out⟩
          · go_wp2_with fail
            clear cc hix hit c0 c1 c2 c3 c4 c5 c6 c7 c8 z0 z8
            refine hcall.mono ?_
            rintro e w3 ⟨b, rfl, hb3⟩
            have HB3 : Hid (Below w.heap.size w w3 ∧ w3.heap[wr.heap.size]? = some (.cells #[.string S, .bool d1, .bool d2, .slice v1 v2 v3, .slice v4 v5 v6, .slice v7 v8 v9, .pointer pp, .slice ay M capy, .slice ar nr capr] 65 (0, 0))) := by
              have := hb3.out
              rw [← HXE.out] at this
              exact ⟨ck_all HBX.out this, ck_block this HK.out⟩
            clear hcall hb3 HBX HK HXE
            cases b with
            | true =>
              go_wp2_with fail
              go_ret
              exact ⟨_, rfl, HB3.out.1⟩
            | false =>
              obtain ⟨q, hq⟩ : ∃ q, q = wr.heap.size := ⟨_, rfl⟩
              rw [← hq] at HB3 ⊢
              clear hq
              go_wp2_with fail
              go_loopg [6] M (fun f i wr => ∃ m : Nat, f = M - m ∧ m ≤ M ∧ i = .int .i64 (m : Int) ∧ wr = w3)
              case atStart => exact ⟨0, by omega, by omega, rfl, rfl⟩
              case round =>
                obtain ⟨m, rfl, hm, rfl, rfl⟩ := hrel
                have z7 := cell_row HB3.out.2 7 (u := .slice ay M capy) rfl
                by_cases hltm : m < M
                · obtain ⟨y, hy⟩ : ∃ y, s.ways[m]? = some y := ⟨s.ways[m]'(by rw [← HW.out.1]; exact hltm), by rw [List.getElem?_eq_getElem]⟩
                  have hiw := ixW ay gy M capy m hltm HW.out.2.1
                  obtain ⟨_, _, _, _, _, _, _, y5, _⟩ := HW.out.2.2 m y hy
                  obtain ⟨T, hT⟩ : ∃ T, Value.string T = sv y.to := ⟨_, rfl⟩
                  rw [← hT] at y5
                  have y5 := ck_cell HB3.out.1 y5
                  clear hy hT
                  by_cases h13 : (12 : Int) ≤ (T.size : Int)
                  · go_wp2_with fail
                    go_ret
                    exact ⟨_, rfl, HB3.out.1⟩
                  · go_wp2_with fail
                    go_roundg (M - (m + 1))
                    case measure => omega
                    case rel => exact ⟨m + 1, rfl, by omega, by go_num, rfl⟩
                · obtain rfl : M = m := by omega
                  go_wp2_with fail
                  go_roundg (n - (p + 1))
                  case measure => omega
                  case rel => exact ⟨p + 1, rfl, by omega, by go_num, HB3.out.1⟩
        · obtain rfl : n = p := by omega
          have HB1 : Hid (Below w.heap.size w wr) := hr.out
          clear hr
          go_wp2_with fail
          go_roundg (N - (k + 1))
          case measure => omega
          case rel => exact ⟨k + 1, rfl, by omega, by go_num, HB1.out⟩
    · obtain rfl : k = N := by omega
      go_wp2_with fail
      go_ret
      exact ⟨_, rfl, hr.out⟩
/-- regions at a depth -/
theorem long_all {A : Nat → Prop} : ∀ (k : Nat) (w : World) (L : List (List (St k))) (v : Value), IsRegs A w (IsStates A w k) L v → (∀ r ∈ L, ∀ x ∈ r, NmSt k x) → sumC (cRg k) L ≤ 1000000 →
    Calls Tryz.prog 14 #[v] w fun e w' => ∃ b, e = .returned (.bool b) ∧ Hid (Below w.heap.size w w') := by
  intro k
  induction k with
  | zero =>
    intro w L v hI _ _
    obtain ⟨ad, g, cap, rfl, h1, h2, h3⟩ := hI.len
    refine long_at (ρ := Unit) (L := L.map fun _ => []) (by rw [Hid, List.length_map]) h1 ⟨g, fun hp => (h2 hp).1, fun i r hi => ?_⟩
    rw [List.getElem?_map] at hi
    cases hL : L[i]? with
    | none => rw [hL] at hi; simp at hi
    | some q =>
      rw [hL] at hi
      simp at hi
      subst hi
      obtain ⟨u, hu, hS⟩ := h3 i q hL
      obtain ⟨rfl, rfl⟩ := hS
      exact ⟨none, 0, hu, 0, fun h => absurd h (by simp), by simp, fun i s h => absurd h (by simp)⟩
  | succ k ih =>
    intro w L v hI hN hb
    obtain ⟨ad, g, cap, rfl, h1, h2, h3⟩ := hI.len
    refine long_at (ρ := St k) (L := L) rfl h1 ⟨g, fun hp => (h2 hp).1, fun i r hi => ?_⟩
    have hm := List.mem_of_getElem? hi
    obtain ⟨u, hu, hS⟩ := h3 i r hi
    obtain ⟨a, gr, c, rfl, r1, r2, r3⟩ := IsStates.open hS
    have hbr : sumC (fun x => 1 + cIn (k + 1) x) r ≤ 1000000 := Nat.le_trans (sumC_mem (cRg (k + 1)) hm) hb
    have hl : List.length r ≤ 1000000 := Nat.le_trans (sumC_len (fun x => cIn (k + 1) x) r) hbr
    have hst : StsAt w gr r := StM.sts (A := A) (fun hp => (r2 hp).2) (fun i s hi => by obtain ⟨e1, e2, e3, e4, e5, e6, e7, e8, e9, h, _⟩ := r3 i s hi; exact ⟨e1, e2, e3, e4, e5, e6, e7, e8, e9, h⟩) (fun s hs => (hN r hm s hs).1)
    refine ⟨a, c, hu, gr, fun hp => (r2 hp).1, hl, fun i s hi' => ?_⟩
    have hms := List.mem_of_getElem? hi'
    obtain ⟨ve, vd, vl, p, ay, ar, gy, capy, capr, hM, hR⟩ := r3 i s hi'
    obtain ⟨_, _, _, _, hw, ay', gy', capy', q7, q8, q9⟩ := hst i s hi'
    have e := hM.c7
    rw [q7] at e
    injection e with e
    injection e with e1 e2 e3
    subst e1; subst e3
    refine ⟨s.first, s.last, ve, vd, vl, p, ay', gy', capy', ar, s.regions.length, capr, hM.c0, hM.c1, hM.c2, hM.c3, hM.c4, hM.c5, hM.c6, hM.c7, hM.c8, hM.he.sl', hM.hd.sl', hM.hl.sl', hw, fun hp => (q8 hp).1, q9, fun w' hb' => ?_⟩
    have kp : Keep A A w w' := fun b ha hlt => ⟨ha, hb'.block b hlt⟩
    refine ih w' s.regions _ (hR.carry kp (IsStates.carry kp k)) ((hN r hm s hms).2) ?_
    have hx : 1 + cIn (k + 1) s ≤ sumC (fun x => 1 + cIn (k + 1) x) r := sumC_mem (fun x => 1 + cIn (k + 1) x) hms
    have hc : cIn (k + 1) s = sumC (cRg k) s.regions := rfl
    omega
end Kx
end Go.Proofs.YtobamalnbjbmiaaGreatDoor
