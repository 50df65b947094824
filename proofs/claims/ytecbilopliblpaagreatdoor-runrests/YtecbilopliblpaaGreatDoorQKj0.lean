/- keep's deep: how many regions stand in one another; keep's count answers a number. -/
import Derived.Test.YtecbilopliblpaaGreatDoorQVaVr
import Derived.Test.YtecbilopliblpaaGreatDoorQKn0
namespace Go.Proofs.YtecbilopliblpaaGreatDoor
open Go.RowKit Px
namespace Kx
/-- a region in memory, with what is answered of its states' regions -/
def AskReg {ρ : Type} (F : Nat) (K : StF ρ → Int → Prop) (w : World) (r : List (StF ρ)) (a : Option Addr) : Prop :=
  ∃ gr, (0 < r.length → a = some ⟨gr, 0, none⟩) ∧ r.length ≤ 1000000 ∧ ∀ (j : Nat) (s : StF ρ), r[j]? = some s → ∃ ar nr capr ay ny cy, w.cell? ⟨gr, j * 9 + 8, none⟩ = some (.slice ar nr capr) ∧ w.cell? ⟨gr, j * 9 + 7, none⟩ = some (.slice ay ny cy) ∧
    ∀ w', Below w.heap.size w w' → Calls Tryz.prog F #[.slice ar nr capr] w' fun e w'' => ∃ x : Int, e = .returned (.int .i64 x) ∧ Hid (K s x ∧ Below w'.heap.size w' w'')
def deepL {ρ : Type} (f : List (List ρ) → Nat) (n : Nat) (r : List (StF ρ)) : Nat := r.foldl (fun n s => max n (1 + f s.regions)) n
theorem deepL_le {ρ : Type} {f : List (List ρ) → Nat} {r : List (StF ρ)} {b : Nat} (h : ∀ s ∈ r, f s.regions ≤ b) : ∀ n, n ≤ b + 1 → deepL f n r ≤ b + 1 := by
  induction r with
  | nil => intro n hn; exact hn
  | cons s r ih =>
    intro n hn
    unfold deepL
    rw [List.foldl_cons]
    exact ih (fun x hx => h x (List.mem_cons_of_mem _ hx)) _ (by have := h s (List.mem_cons_self ..); omega)
set_option maxRecDepth 100000 in
set_option maxHeartbeats 8000000 in
theorem deep_at {ρ : Type} {w : World} {ad : Option Addr} {N cap : Nat} {L : List (List (StF ρ))} (f : List (List ρ) → Nat) (hf : Hid (∀ r ∈ L, ∀ s ∈ r, f s.regions ≤ 99)) (hn : Hid (N = L.length)) (hNm : N ≤ maxLen)
    (hmem : Hid (∃ g, (0 < N → ad = some ⟨g, 0, none⟩) ∧ ∀ i r, L[i]? = some r → ∃ a c, w.cell? ⟨g, i, none⟩ = some (.slice a r.length c) ∧ AskReg 23 (fun s x => x = (f s.regions : Nat)) w r a)) :
    Calls Tryz.prog 23 #[.slice ad N cap] w fun e w' => ∃ x : Int, e = .returned (.int .i64 x) ∧ Hid (x = (deepG f L : Nat) ∧ Below w.heap.size w w') := by
  have hN6 : (N : Int) ≤ 9223372036854775807 := by unfold maxLen at hNm; omega
  clear hNm
  go_enter Tryz.func23, Tryz.ntmps23
  go_wp2_with fail
  go_loopg [3, 4] N (fun f' nv i wr => ∃ (k m : Nat), f' = N - k ∧ k ≤ N ∧ i = .int .i64 (k : Int) ∧ nv = .int .i64 (m : Int) ∧ Hid (m = (L.take k).foldl (fun n r => deepF f n r) 0 ∧ m ≤ 100 ∧ Below w.heap.size w wr))
  case atStart => exact ⟨0, 0, by omega, by omega, rfl, rfl, rfl, by omega, Below.refl _ _⟩
  case round =>
    obtain ⟨k, m, rfl, hk, rfl, rfl, hr⟩ := hrel
    obtain ⟨W1, hW1⟩ : ∃ W1, W1 = wr := ⟨_, rfl⟩
    subst hW1
    by_cases hlt : k < N
    · obtain ⟨r, hs⟩ : ∃ r, L[k]? = some r := ⟨L[k]'(by rw [← hn.out]; exact hlt), by rw [List.getElem?_eq_getElem]⟩
      obtain ⟨g, hg, hg2⟩ := hmem.out
      obtain ⟨a, c, hcell, gr, ha, hlen, hin⟩ := hg2 k r hs
      have hix := ixR ad g N cap k hlt hg
      have hcw := ck_cell hr.out.2.2 hcell
      obtain ⟨n, hnr⟩ : ∃ n, n = r.length := ⟨_, rfl⟩
      rw [← hnr] at hcw ha hlen
      have hn6 : (n : Int) ≤ 9223372036854775807 := by omega
      have hm6 : (m : Int) ≤ 100 := by have := hr.out.2.1; omega
      obtain ⟨m1, hm1⟩ : ∃ m1 : Nat, m1 = max m 1 := ⟨_, rfl⟩
      have HM : Hid (m1 = max m 1 ∧ m = (L.take k).foldl (fun n r => deepF f n r) 0 ∧ L[k]? = some r ∧ n = r.length ∧ m ≤ 100) := ⟨hm1, hr.out.1, hs, hnr, hr.out.2.1⟩
      have HC : Hid (∀ W, Below W1.heap.size W1 W → W.cell? ⟨g, k, none⟩ = some (.slice a n c)) := fun W hb => ck_cell hb hcw
      have HIN : Hid (∀ (j : Nat) (s : StF ρ), r[j]? = some s → ∃ ar nr capr, w.cell? ⟨gr, j * 9 + 8, none⟩ = some (.slice ar nr capr) ∧ ∀ w', Below w.heap.size w w' → Calls Tryz.prog 23 #[.slice ar nr capr] w' fun e w'' => ∃ x : Int, e = .returned (.int .i64 x) ∧ Hid (x = (f s.regions : Nat) ∧ Below w'.heap.size w' w'')) := fun j s hj => by
        obtain ⟨ar, nr, capr, _, _, _, h1, _, h2⟩ := hin j s hj
        exact ⟨ar, nr, capr, h1, h2⟩
      have HA : Hid (0 < n → a = some ⟨gr, 0, none⟩) := ha
      have HB1 : Hid (Below w.heap.size w W1) := hr.out.2.2
      have hmx : max (m : Int) 1 = (m1 : Int) := by omega
      clear hr hs hg hg2 hcell hin ha hnr hcw hm1
      go_upto_region 7 with fail
      go_loopg [3, 5] n (fun f' nv jv wq => ∃ (j q : Nat), f' = n - j ∧ j ≤ n ∧ jv = .int .i64 (j : Int) ∧ nv = .int .i64 (q : Int) ∧ Hid (q = deepL f m1 (r.take j) ∧ q ≤ 100 ∧ Below W1.heap.size W1 wq))
      case atStart => exact ⟨0, m1, by omega, by omega, rfl, rfl, rfl, by have := HM.out.1; have := HM.out.2.2.2.2; omega, Below.refl _ _⟩
      case round =>
        obtain ⟨j, q, rfl, hj, rfl, rfl, hr⟩ := hrel
        obtain ⟨W2, hW2⟩ : ∃ W2, W2 = wr := ⟨_, rfl⟩
        subst hW2
        have z1 := HC.out W2 hr.out.2.2
        by_cases hj2 : j < n
        · obtain ⟨s, hs⟩ : ∃ s, r[j]? = some s := ⟨r[j]'(by rw [← HM.out.2.2.2.1]; exact hj2), by rw [List.getElem?_eq_getElem]⟩
          obtain ⟨ar, nr, capr, h8, hcall⟩ := HIN.out j s hs
          have hB2 := ck_all HB1.out hr.out.2.2
          have z2 := ck_cell hB2 h8
          have hixt := ixT a gr n c j hj2 HA.out
          have hc2 := hcall W2 hB2
          obtain ⟨y, hy⟩ : ∃ y, y = f s.regions := ⟨_, rfl⟩
          have hy99 : y ≤ 99 := by rw [hy]; exact hf.out r (List.mem_of_getElem? HM.out.2.2.1) s (List.mem_of_getElem? hs)
          obtain ⟨q1, hq1⟩ : ∃ q1 : Nat, q1 = max q (1 + y) := ⟨_, rfl⟩
          have hmx2 : max (q : Int) (1 + (y : Int)) = (q1 : Int) := by omega
          have HE : Hid (∀ w', Below W2.heap.size W2 w' → q1 = deepL f m1 (r.take (j + 1)) ∧ q1 ≤ 100 ∧ Below W1.heap.size W1 w') := fun w' hb => ⟨by
            rw [List.take_add_one, hs]
            unfold deepL
            rw [List.foldl_append, hq1, hy, hr.out.1]
            rfl, by have := hr.out.2.1; omega, ck_all hr.out.2.2 hb⟩
          have hy6 : (y : Int) ≤ 99 := by omega
          have HY : Hid (y = f s.regions) := hy
          clear hr hs h8 hcall hB2 hq1 hy hy99
          go_wp2_with fail
          refine hc2.mono ?_
          rintro e w3 ⟨xx, rfl, h3⟩
          clear hc2 z1 z2
          obtain ⟨e3, hb3⟩ := h3.out
          rw [← HY.out] at e3
          subst e3
          have HE3 := HE.out w3 hb3
          have HF : Hid (q1 = deepL f m1 (r.take (j + 1)) ∧ q1 ≤ 100 ∧ Below W1.heap.size W1 w3) := HE3
          clear h3 hb3 HE HE3 HY
          go_wp2_with fail
          go_roundg (n - (j + 1))
          case measure => omega
          case rel => exact ⟨j + 1, q1, by omega, by omega, by go_num, by go_num, HF.out⟩
        · obtain rfl : j = n := by omega
          have HE : Hid (q = (L.take (k + 1)).foldl (fun n r => deepF f n r) 0 ∧ q ≤ 100 ∧ Below w.heap.size w W2) := ⟨by
            rw [List.take_add_one, HM.out.2.2.1, hr.out.1, HM.out.2.2.2.1, List.take_length, HM.out.1, HM.out.2.1]
            rw [List.foldl_append]
            rfl, hr.out.2.1, ck_all HB1.out hr.out.2.2⟩
          clear hr
          go_wp2_with fail
          go_roundg (N - (k + 1))
          case measure => omega
          case rel => exact ⟨k + 1, q, by omega, by omega, by go_num, rfl, HE.out⟩
    · obtain rfl : k = N := by omega
      have HE : Hid ((m : Int) = (deepG f L : Nat) ∧ Below w.heap.size w W1) := ⟨by rw [hr.out.1, hn.out, List.take_length]; rfl, hr.out.2.2⟩
      clear hr
      go_wp2_with fail
      go_ret
      exact ⟨_, rfl, HE.out⟩
set_option maxRecDepth 100000 in
set_option maxHeartbeats 8000000 in
theorem count_at {ρ : Type} {w : World} {ad : Option Addr} {N cap : Nat} {L : List (List (StF ρ))} (hn : Hid (N = L.length)) (hNm : N ≤ maxLen)
    (hmem : Hid (∃ g, (0 < N → ad = some ⟨g, 0, none⟩) ∧ ∀ i r, L[i]? = some r → ∃ a c, w.cell? ⟨g, i, none⟩ = some (.slice a r.length c) ∧ AskReg 20 (fun _ _ => True) w r a)) :
    Calls Tryz.prog 20 #[.slice ad N cap] w fun e w' => ∃ x : Int, e = .returned (.int .i64 x) ∧ Hid (True ∧ Below w.heap.size w w') := by
  have hN6 : (N : Int) ≤ 9223372036854775807 := by unfold maxLen at hNm; omega
  clear hNm
  go_enter Tryz.func20, Tryz.ntmps20
  go_wp2_with fail
  go_loopg [3, 4] N (fun f' nv i wr => ∃ (k : Nat) (x : Int), f' = N - k ∧ k ≤ N ∧ i = .int .i64 (k : Int) ∧ nv = .int .i64 x ∧ Hid (Below w.heap.size w wr))
  case atStart => exact ⟨0, 0, by omega, by omega, rfl, rfl, Below.refl _ _⟩
  case round =>
    obtain ⟨k, x, rfl, hk, rfl, rfl, hr⟩ := hrel
    obtain ⟨W1, hW1⟩ : ∃ W1, W1 = wr := ⟨_, rfl⟩
    subst hW1
    by_cases hlt : k < N
    · obtain ⟨r, hs⟩ : ∃ r, L[k]? = some r := ⟨L[k]'(by rw [← hn.out]; exact hlt), by rw [List.getElem?_eq_getElem]⟩
      obtain ⟨g, hg, hg2⟩ := hmem.out
      obtain ⟨a, c, hcell, gr, ha, hlen, hin⟩ := hg2 k r hs
      have hix := ixR ad g N cap k hlt hg
      have hcw := ck_cell hr.out hcell
      obtain ⟨n, hnr⟩ : ∃ n, n = r.length := ⟨_, rfl⟩
      rw [← hnr] at hcw ha hlen
      have hn6 : (n : Int) ≤ 9223372036854775807 := by omega
      have HC : Hid (∀ W, Below W1.heap.size W1 W → W.cell? ⟨g, k, none⟩ = some (.slice a n c)) := fun W hb => ck_cell hb hcw
      have HIN : Hid (∀ (j : Nat), j < n → ∃ ar nr capr ay ny cy, w.cell? ⟨gr, j * 9 + 8, none⟩ = some (.slice ar nr capr) ∧ w.cell? ⟨gr, j * 9 + 7, none⟩ = some (.slice ay ny cy) ∧ ∀ w', Below w.heap.size w w' → Calls Tryz.prog 20 #[.slice ar nr capr] w' fun e w'' => ∃ x : Int, e = .returned (.int .i64 x) ∧ Hid (True ∧ Below w'.heap.size w' w'')) := fun j hj => hin j (r[j]'(by rw [← hnr]; exact hj)) (List.getElem?_eq_getElem _)
      have HA : Hid (0 < n → a = some ⟨gr, 0, none⟩) := ha
      have HB1 : Hid (Below w.heap.size w W1) := hr.out
      clear hr hs hg hg2 hcell hin ha hnr hcw
      go_upto_region 6 with fail
      go_loopg [3, 5] n (fun f' nv jv wq => ∃ (j : Nat) (x : Int), f' = n - j ∧ j ≤ n ∧ jv = .int .i64 (j : Int) ∧ nv = .int .i64 x ∧ Hid (Below W1.heap.size W1 wq))
      case atStart => exact ⟨0, x, by omega, by omega, rfl, rfl, Below.refl _ _⟩
      case round =>
        obtain ⟨j, q, rfl, hj, rfl, rfl, hr⟩ := hrel
        obtain ⟨W2, hW2⟩ : ∃ W2, W2 = wr := ⟨_, rfl⟩
        subst hW2
        have z1 := HC.out W2 hr.out
        by_cases hj2 : j < n
        · obtain ⟨ar, nr, capr, ay, ny, cy, h8, h7, hcall⟩ := HIN.out j hj2
          have hB2 := ck_all HB1.out hr.out
          have z2 := ck_cell hB2 h8
          have z3 := ck_cell hB2 h7
          have hixt := ixT a gr n c j hj2 HA.out
          have hc2 := hcall W2.drew hB2.drew
          have HQ : Hid (∀ w', Below W2.drew.heap.size W2.drew w' → (w'.cell? ⟨g, k, none⟩ = some (.slice a n c) ∧ w'.cell? ⟨gr, j * 9 + 7, none⟩ = some (.slice ay ny cy) ∧ w'.cell? ⟨gr, j * 9 + 8, none⟩ = some (.slice ar nr capr)) ∧ Below W1.heap.size W1 w') := fun w' hb => by
            have hb' : Below W2.heap.size W2 w' := ck_all ((Below.refl _ _).drew) hb
            exact ⟨⟨ck_cell hb' z1, ck_cell hb' z3, ck_cell hb' z2⟩, ck_all hr.out hb'⟩
          clear hr h8 h7 hcall hB2
          go_upto_region 8 with fail
          go_region_held3 (fun W => W.cell? ⟨g, k, none⟩ = some (.slice a n c) ∧ W.cell? ⟨gr, j * 9 + 7, none⟩ = some (.slice ay ny cy) ∧ W.cell? ⟨gr, j * 9 + 8, none⟩ = some (.slice ar nr capr)) (first | with_reducible exact HQ2.out.1 | go_keep)
            (first | (go_at_call 20; refine hc2.mono ?_; rintro e w3 ⟨xx, rfl, h3⟩; have HQ2 : Hid ((w3.cell? ⟨g, k, none⟩ = some (.slice a n c) ∧ w3.cell? ⟨gr, j * 9 + 7, none⟩ = some (.slice ay ny cy) ∧ w3.cell? ⟨gr, j * 9 + 8, none⟩ = some (.slice ar nr capr)) ∧ Below W1.heap.size W1 w3) := HQ.out w3 h3.out.2))
          all_goals
            go_wp2_with fail
            go_roundg (n - (j + 1))
            case measure => omega
            case rel => exact ⟨j + 1, _, by omega, by omega, by go_num, rfl, HQ2.out.2⟩
        · obtain rfl : j = n := by omega
          have HE : Hid (Below w.heap.size w W2) := ck_all HB1.out hr.out
          clear hr
          go_wp2_with fail
          go_roundg (N - (k + 1))
          case measure => omega
          case rel => exact ⟨k + 1, q, by omega, by omega, by go_num, rfl, HE.out⟩
    · obtain rfl : k = N := by omega
      have HE : Hid (True ∧ Below w.heap.size w W1) := ⟨trivial, hr.out⟩
      clear hr
      go_wp2_with fail
      go_ret
      exact ⟨_, rfl, HE.out⟩
theorem deepF_le {ρ : Type} {f : List (List ρ) → Nat} {r : List (StF ρ)} {b : Nat} (h : ∀ s ∈ r, f s.regions ≤ b) (n : Nat) (hn : n ≤ b + 1) : deepF f n r ≤ b + 1 := deepL_le h _ (by omega)
theorem deepG_le {ρ : Type} {f : List (List ρ) → Nat} {b : Nat} (h : ∀ rs, f rs ≤ b) (L : List (List (StF ρ))) : deepG f L ≤ b + 1 := by
  have key : ∀ (l : List (List (StF ρ))) (n : Nat), n ≤ b + 1 → l.foldl (fun n r => deepF f n r) n ≤ b + 1 := by
    intro l
    induction l with
    | nil => intro n hn; exact hn
    | cons r l ih => intro n hn; rw [List.foldl_cons]; exact ih _ (deepF_le (fun s _ => h s.regions) n hn)
  exact key L 0 (by omega)
theorem deepN_le : ∀ (k : Nat) (rs : List (List (St k))), deepN k rs ≤ k
  | 0, _ => Nat.le_refl _
  | k + 1, rs => deepG_le (deepN_le k) rs
theorem askReg_of {A : Nat → Prop} {F : Nat} {k : Nat} {K : StF (St k) → Int → Prop} {w : World} {r : List (StF (St k))} {u : Value} (hS : IsStates A w (k + 1) r u) (hL : List.length r ≤ 1000000)
    (hin : ∀ s ∈ r, ∀ w' v, IsRegs A w' (IsStates A w' k) s.regions v → Calls Tryz.prog F #[v] w' fun e w'' => ∃ x : Int, e = .returned (.int .i64 x) ∧ Hid (K s x ∧ Below w'.heap.size w' w'')) : ∃ a c, u = .slice a r.length c ∧ AskReg F K w r a := by
  obtain ⟨a, gr, c, rfl, r1, r2, r3⟩ := IsStates.open hS
  refine ⟨a, c, rfl, gr, fun hp => (r2 hp).1, hL, fun j s hj => ?_⟩
  obtain ⟨ve, vd, vl, p, ay, ar, gy, capy, capr, hM, hR⟩ := r3 j s hj
  refine ⟨ar, s.regions.length, capr, ay, s.ways.length, capy, hM.c8, hM.c7, fun w' hb => hin s (List.mem_of_getElem? hj) w' _ ?_⟩
  have kp : Keep A A w w' := fun b ha hlt => ⟨ha, hb.block b hlt⟩
  exact hR.carry kp (IsStates.carry kp k)
theorem deep_all {A : Nat → Prop} : ∀ (k : Nat), k ≤ 6 → ∀ (w : World) (L : List (List (St k))) (v : Value), IsRegs A w (IsStates A w k) L v → (∀ r ∈ L, LayR k r) →
    Calls Tryz.prog 23 #[v] w fun e w' => ∃ x : Int, e = .returned (.int .i64 x) ∧ Hid (x = (deepN k L : Nat) ∧ Below w.heap.size w w') := by
  intro k
  induction k with
  | zero =>
    intro _ w L v hI hO
    obtain ⟨ad, g, cap, rfl, h1, h2, h3⟩ := hI.len
    have hL : L = [] := by
      cases L with
      | nil => rfl
      | cons r rs => exact absurd (hO r (by simp)) id
    subst hL
    exact deep_at (ρ := Unit) (L := []) (fun _ => 0) (fun r hr => by cases hr) rfl h1 ⟨g, fun h => absurd h (by simp), fun i r h => absurd h (by simp)⟩
  | succ k ih =>
    intro hk w L v hI hO
    obtain ⟨ad, g, cap, rfl, h1, h2, h3⟩ := hI.len
    refine deep_at (ρ := St k) (L := L) (deepN k) (fun r hr s hs => Nat.le_trans (deepN_le k _) (by omega)) rfl h1 ⟨g, fun hp => (h2 hp).1, fun i r hi => ?_⟩
    have hm := List.mem_of_getElem? hi
    obtain ⟨u, hu, hS⟩ := h3 i r hi
    obtain ⟨l1, l2, l3, l4, l5⟩ := hO r hm
    obtain ⟨a, c, rfl, hA⟩ := askReg_of (F := 23) (K := fun s x => x = (deepN k s.regions : Nat)) hS l4 (fun s hs w' v hv => ih (by omega) w' s.regions v hv ((l5 s hs).2.2.2.2))
    exact ⟨a, c, hu, hA⟩
theorem count_all {A : Nat → Prop} : ∀ (k : Nat) (w : World) (L : List (List (St k))) (v : Value), IsRegs A w (IsStates A w k) L v → (∀ r ∈ L, LayR k r) →
    Calls Tryz.prog 20 #[v] w fun e w' => ∃ x : Int, e = .returned (.int .i64 x) ∧ Hid (True ∧ Below w.heap.size w w') := by
  intro k
  induction k with
  | zero =>
    intro w L v hI hO
    obtain ⟨ad, g, cap, rfl, h1, h2, h3⟩ := hI.len
    have hL : L = [] := by
      cases L with
      | nil => rfl
      | cons r rs => exact absurd (hO r (by simp)) id
    subst hL
    exact count_at (ρ := Unit) (L := []) rfl h1 ⟨g, fun h => absurd h (by simp), fun i r h => absurd h (by simp)⟩
  | succ k ih =>
    intro w L v hI hO
    obtain ⟨ad, g, cap, rfl, h1, h2, h3⟩ := hI.len
    refine count_at (ρ := St k) (L := L) rfl h1 ⟨g, fun hp => (h2 hp).1, fun i r hi => ?_⟩
    have hm := List.mem_of_getElem? hi
    obtain ⟨u, hu, hS⟩ := h3 i r hi
    obtain ⟨l1, l2, l3, l4, l5⟩ := hO r hm
    obtain ⟨a, c, rfl, hA⟩ := askReg_of (F := 20) (K := fun _ _ => True) hS l4 (fun s hs w' v hv => ih w' s.regions v hv ((l5 s hs).2.2.2.2))
    exact ⟨a, c, hu, hA⟩
end Kx
end Go.Proofs.YtecbilopliblpaaGreatDoor
/- The charts that keep's laws draw first: what they draw, and what Check says of them. -/
namespace Go.Proofs.YtecbilopliblpaaGreatDoor
open Go.RowKit Px
namespace Kx

/-- a text's tokens, one by one -/
def lexF : Nat → List UInt8 → Nat → Option (List Lx.Tok)
  | 0, _, _ => none
  | f + 1, u, p =>
    if (u.drop (Lx.sk false u)).isEmpty then some []
    else if (Lx.rd (u.drop (Lx.sk false u))).1 = 0 ∨ ((Lx.rd (u.drop (Lx.sk false u))).1 = 2 ∧ 18 < (Lx.rd (u.drop (Lx.sk false u))).2) then none
    else match lexF f ((u.drop (Lx.sk false u)).drop (Lx.rd (u.drop (Lx.sk false u))).2) (p + Lx.sk false u + (Lx.rd (u.drop (Lx.sk false u))).2) with
      | none => none
      | some l => some (⟨(Lx.rd (u.drop (Lx.sk false u))).1, (u.drop (Lx.sk false u)).take (Lx.rd (u.drop (Lx.sk false u))).2, p + Lx.sk false u⟩ :: l)
theorem lexF_ok : ∀ (f : Nat) (u : List UInt8) (p : Nat) (l : List Lx.Tok), lexF f u p = some l → ∃ u' p', Lx.Reads u p l u' p' ∧ u'.drop (Lx.sk false u') = [] := by
  intro f
  induction f with
  | zero => intro u p l h; exact absurd h (by simp [lexF])
  | succ f ih =>
    intro u p l h
    rw [lexF] at h
    split at h
    · rename_i he
      injection h with h
      subst h
      exact ⟨u, p, Lx.Reads_nil _ _, by simpa using he⟩
    · rename_i he
      split at h
      · exact absurd h (by simp)
      · rename_i hk
        split at h
        · exact absurd h (by simp)
        · rename_i l' hl
          injection h with h
          subst h
          obtain ⟨u', p', h1, h2⟩ := ih _ _ _ hl
          exact ⟨u', p', ⟨fun e => he (by rw [e]; rfl), rfl, fun e => hk (.inl e), fun e => hk (.inr e), h1⟩, h2⟩
def smallL : List UInt8 := [99, 104, 97, 114, 116, 32, 99, 32, 123, 32, 105, 110, 112, 117, 116, 32, 97, 59, 32, 111, 117, 116, 112, 117, 116, 32, 98, 32, 58, 61, 32, 50, 59, 32, 114, 101, 103, 105, 111, 110, 32, 123, 32, 105, 110, 105, 116, 105, 97, 108, 32, 115, 116, 97, 116, 101, 32, 115, 32, 123, 32, 103, 111, 32, 105, 102, 32, 40, 97, 41, 32, 100, 111, 32, 98, 32, 58, 61, 32, 98, 32, 43, 32, 40, 49, 32, 42, 32, 97, 41, 32, 45, 45, 62, 32, 116, 59, 32, 125, 32, 115, 116, 97, 116, 101, 32, 116, 32, 123, 32, 103, 111, 32, 45, 45, 62, 32, 115, 59, 32, 125, 32, 125, 32, 125]
def smallK : List Lx.Tok := [⟨1, [99, 104, 97, 114, 116], 0⟩, ⟨1, [99], 6⟩, ⟨3, [123], 8⟩, ⟨1, [105, 110, 112, 117, 116], 10⟩, ⟨1, [97], 16⟩, ⟨3, [59], 17⟩, ⟨1, [111, 117, 116, 112, 117, 116], 19⟩, ⟨1, [98], 26⟩, ⟨3, [58, 61], 28⟩, ⟨2, [50], 31⟩, ⟨3, [59], 32⟩, ⟨1, [114, 101, 103, 105, 111, 110], 34⟩, ⟨3, [123], 41⟩, ⟨1, [105, 110, 105, 116, 105, 97, 108], 43⟩, ⟨1, [115, 116, 97, 116, 101], 51⟩, ⟨1, [115], 57⟩, ⟨3, [123], 59⟩, ⟨1, [103, 111], 61⟩, ⟨1, [105, 102], 64⟩, ⟨3, [40], 67⟩, ⟨1, [97], 68⟩, ⟨3, [41], 69⟩, ⟨1, [100, 111], 71⟩, ⟨1, [98], 74⟩, ⟨3, [58, 61], 76⟩, ⟨1, [98], 79⟩, ⟨3, [43], 81⟩, ⟨3, [40], 83⟩, ⟨2, [49], 84⟩, ⟨3, [42], 86⟩, ⟨1, [97], 88⟩, ⟨3, [41], 89⟩, ⟨3, [45, 45, 62], 91⟩, ⟨1, [116], 95⟩, ⟨3, [59], 96⟩, ⟨3, [125], 98⟩, ⟨1, [115, 116, 97, 116, 101], 100⟩, ⟨1, [116], 106⟩, ⟨3, [123], 108⟩, ⟨1, [103, 111], 110⟩, ⟨3, [45, 45, 62], 113⟩, ⟨1, [115], 117⟩, ⟨3, [59], 118⟩, ⟨3, [125], 120⟩, ⟨3, [125], 122⟩, ⟨3, [125], 124⟩]
def smallC : Chart := ⟨[99], [⟨1, [97], 0⟩, ⟨2, [98], 2⟩], [[(⟨[115], true, false, [], [], [], .nil, [⟨0, false, eName 2 [97], 1, [⟨[98], eTwo 6 (eName 2 [98]) (eTwo 8 (eNum 1) (eName 2 [97]))⟩], [116], false⟩], []⟩ : StF (St 5)), (⟨[116], false, false, [], [], [], .nil, [⟨0, false, .nil, 1, [], [115], false⟩], []⟩ : StF (St 5))]]⟩
set_option maxRecDepth 100000 in
theorem small_lex : lexF 60 smallL 0 = some smallK := by kernel_rfl
set_option maxRecDepth 100000 in
theorem small_chart (n : Nat) : chart (smallK ++ [⟨4, [], n⟩]) = .ok smallC := by kernel_rfl
theorem small_ok {s : ByteArray} (h : bs s = smallL) : Lx.Ok (bs s) smallK ∧ chart (fin s smallK) = .ok smallC := by
  refine ⟨⟨by decide, ?_⟩, small_chart _⟩
  rw [h]
  exact lexF_ok _ _ _ _ small_lex
def cycL : List UInt8 := [99, 104, 97, 114, 116, 32, 99, 32, 123, 32, 114, 101, 103, 105, 111, 110, 32, 123, 32, 105, 110, 105, 116, 105, 97, 108, 32, 115, 116, 97, 116, 101, 32, 115, 32, 123, 32, 103, 111, 32, 105, 109, 109, 101, 100, 105, 97, 116, 101, 32, 45, 45, 62, 32, 115, 59, 32, 125, 32, 125, 32, 125]
def cycK : List Lx.Tok := [⟨1, [99, 104, 97, 114, 116], 0⟩, ⟨1, [99], 6⟩, ⟨3, [123], 8⟩, ⟨1, [114, 101, 103, 105, 111, 110], 10⟩, ⟨3, [123], 17⟩, ⟨1, [105, 110, 105, 116, 105, 97, 108], 19⟩, ⟨1, [115, 116, 97, 116, 101], 27⟩, ⟨1, [115], 33⟩, ⟨3, [123], 35⟩, ⟨1, [103, 111], 37⟩, ⟨1, [105, 109, 109, 101, 100, 105, 97, 116, 101], 40⟩, ⟨3, [45, 45, 62], 50⟩, ⟨1, [115], 54⟩, ⟨3, [59], 55⟩, ⟨3, [125], 57⟩, ⟨3, [125], 59⟩, ⟨3, [125], 61⟩]
def cycC : Chart := ⟨[99], [], [[(⟨[115], true, false, [], [], [], .nil, [⟨0, true, .nil, 1, [], [115], false⟩], []⟩ : StF (St 5))]]⟩
set_option maxRecDepth 100000 in
theorem cyc_lex : lexF 60 cycL 0 = some cycK := by kernel_rfl
set_option maxRecDepth 100000 in
theorem cyc_chart (n : Nat) : chart (cycK ++ [⟨4, [], n⟩]) = .ok cycC := by kernel_rfl
theorem cyc_ok {s : ByteArray} (h : bs s = cycL) : Lx.Ok (bs s) cycK ∧ chart (fin s cycK) = .ok cycC := by
  refine ⟨⟨by decide, ?_⟩, cyc_chart _⟩
  rw [h]
  exact lexF_ok _ _ _ _ cyc_lex
set_option maxRecDepth 100000 in
theorem small_check : checkC smallC = none := by kernel_rfl
set_option maxRecDepth 100000 in
theorem cyc_check : checkC cycC = some (11, some 0) := by kernel_rfl
end Kx
end Go.Proofs.YtecbilopliblpaaGreatDoor
/- keep's chart: what a text draws that may be. -/
namespace Go.Proofs.YtecbilopliblpaaGreatDoor
open Go.RowKit Px
namespace Kx

theorem put3 {X : World} {fb T : Nat} {x y z : Value} (h : X.heap[fb]? = some (.cells #[x, y, z] T (0, 0))) (a b c : Value) : (((X.setCell ⟨fb, 0, none⟩ a).setCell ⟨fb, 1, none⟩ b).setCell ⟨fb, 2, none⟩ c).heap[fb]? = some (.cells #[a, b, c] T (0, 0)) :=
  ck_set (l := [a, b, z]) (ck_set (l := [a, y, z]) (ck_set (l := [x, y, z]) h 0 a) 1 b) 2 c
theorem below_put3 {w X : World} {fb : Nat} (h : Below w.heap.size w X) (hb : w.heap.size ≤ fb) (a b c : Value) : Below w.heap.size w (((X.setCell ⟨fb, 0, none⟩ a).setCell ⟨fb, 1, none⟩ b).setCell ⟨fb, 2, none⟩ c) :=
  ((h.setCell hb _).setCell hb _).setCell hb _
set_option maxRecDepth 100000 in
set_option maxHeartbeats 4000000 in
/-- of a text that draws a chart -/
theorem chart_drawn {s : ByteArray} {l : List Lx.Tok} {c : Chart} {w : World} (hs : s.size ≤ 1500) (hv : KEnv0 w) (hok : Lx.Ok (bs s) l) (hch : chart (fin s l) = .ok c) :
    Calls Tryz.prog 13 #[.string s] w fun e w' => (checkC c = none ∧ ∃ S a n m a' n' m', e = .returned (.tuple #[.agg #[.string S, .slice a n m, .slice a' n' m'], .bool true]) ∧ Hid (IsChart (fun b => w.heap.size < b) w' c (.agg #[.string S, .slice a n m, .slice a' n' m']) ∧ Below w.heap.size w w')) ∨
      (checkC c ≠ none ∧ e = .returned (.tuple #[.agg #[.string ⟨#[]⟩, .slice none 0 0, .slice none 0 0], .bool false]) ∧ Hid (Below w.heap.size w w')) := by
  have hN := nmChart (wf_ok hok) hch
  obtain ⟨W0, hW0⟩ : ∃ W0, W0 = w.alloc (.cells #[.string ⟨#[]⟩, .slice none 0 0, .slice none 0 0] 28) := ⟨_, rfl⟩
  have hb0 : Below w.heap.size w W0 := by rw [hW0]; exact ck_grown w _
  have hp : Calls Tryz.prog 25 #[.string s] W0 fun e w' => ∃ S a n m a' n' m', e = .returned (.tuple #[.agg #[.string S, .slice a n m, .slice a' n' m'], .nilIface]) ∧ Hid (IsChart (fun b => w.heap.size < b) w' c (.agg #[.string S, .slice a n m, .slice a' n' m']) ∧ Below W0.heap.size W0 w') :=
    (parse_ok s l c W0 (by omega) (hv.up hb0).big (hv.up hb0).tabs (hv.up hb0).marks hok hch).mono fun e w' ⟨v, he, hC, hb⟩ => by
      obtain ⟨a, n, m, a', n', m', rfl, h1, h2⟩ := hC
      have kp : Keep (Ge W0.heap.size) (fun b => w.heap.size < b) w' w' := fun b hb' _ => ⟨by have h3 : W0.heap.size ≤ b := hb'; rw [hW0] at h3; simp at h3; omega, rfl⟩
      exact ⟨_, a, n, m, a', n', m', he, ⟨a, n, m, a', n', m', rfl, h1.carry kp, h2.carry kp (IsStates.carry kp 6)⟩, hb⟩
  have HB0 : Hid (Below w.heap.size w W0 ∧ W0.heap[w.heap.size]? = some (.cells #[.string ⟨#[]⟩, .slice none 0 0, .slice none 0 0] 28 (0, 0))) := ⟨hb0, by rw [hW0]; exact ck_new _ _⟩
  have hs1 : ¬ (1500 : Int) < (s.size : Int) := by omega
  have HN : Hid (NmChart c) := hN
  rw [hW0] at hp HB0
  clear hN hv hok hch hW0 hb0
  go_enter Tryz.func13, Tryz.ntmps13
  go_wp2_with fail
  refine hp.mono ?_
  rintro e w1 ⟨S, a, n, m, a', n', m', rfl, h1⟩
  obtain ⟨W1, hW1⟩ : ∃ W1, W1 = w1.alloc (.cells #[.string S, .slice a n m, .slice a' n' m'] 28) := ⟨_, rfl⟩
  have hb1 : Below w1.heap.size w1 W1 := by rw [hW1]; exact ck_grown w1 _
  have HW1 : Hid (IsChart (fun b => w.heap.size < b) W1 c (.agg #[.string S, .slice a n m, .slice a' n' m']) ∧ Below w.heap.size w W1 ∧ W1.heap[w.heap.size]? = some (.cells #[.string ⟨#[]⟩, .slice none 0 0, .slice none 0 0] 28 (0, 0)) ∧ W1.heap[w1.heap.size]? = some (.cells #[.string S, .slice a n m, .slice a' n' m'] 28 (0, 0))) :=
    ⟨chartUp h1.out.1 hb1, ck_all HB0.out.1 (ck_all h1.out.2 hb1), ck_block (ck_all h1.out.2 hb1) HB0.out.2, by rw [hW1]; exact ck_new _ _⟩
  have hck := check_any HW1.out.1 HN.out
  have x0 := cell_row HW1.out.2.2.2 0 (u := .string S) rfl
  have x1 := cell_row HW1.out.2.2.2 1 (u := .slice a n m) rfl
  have x2 := cell_row HW1.out.2.2.2 2 (u := .slice a' n' m') rfl
  obtain ⟨o, ho⟩ : ∃ o, Hid (checkC c = o) := ⟨_, rfl⟩
  rw [ho.out] at hck
  rw [hW1] at hck x0 x1 x2
  have HWE : Hid (W1 = _) := hW1
  clear hp hb1 hW1 h1
  unfold ChkOut at hck
  have HKW : Hid (∀ w', Below W1.heap.size W1 w' → IsChart (fun b => w.heap.size < b) w' c (.agg #[.string S, .slice a n m, .slice a' n' m']) ∧ Below w.heap.size w w' ∧ w'.heap[w.heap.size]? = some (.cells #[.string ⟨#[]⟩, .slice none 0 0, .slice none 0 0] 28 (0, 0)) ∧ w'.heap[w1.heap.size]? = some (.cells #[.string S, .slice a n m, .slice a' n' m'] 28 (0, 0))) := fun w' hb => ⟨chartUp HW1.out.1 hb, ck_all HW1.out.2.1 hb, ck_block hb HW1.out.2.2.1, ck_block hb HW1.out.2.2.2⟩
  go_wp2_with fail
  cases o with
  | none =>
    have hc2 : Calls Tryz.prog 40 #[.agg #[.string S, .slice a n m, .slice a' n' m']] (w1.alloc (.cells #[.string S, .slice a n m, .slice a' n' m'] 28)) fun e w' => e = .returned .nilIface ∧ Hid (Below W1.heap.size W1 w') := by
      rw [← HWE.out] at hck ⊢
      exact hck.mono fun e w' ⟨hb, ho⟩ => by
        rcases ho with ⟨_, he⟩ | ⟨_, he, _⟩ | ⟨_, _, _, he, _⟩
        · exact ⟨he, hb⟩
        · simp at he
        · simp at he
    clear hck x0 x1 x2
    refine hc2.mono ?_
    rintro e w2 ⟨rfl, hb2⟩
    obtain ⟨k1, k2, k3, k4⟩ := HKW.out w2 hb2.out
    have x0 := cell_row k4 0 (u := .string S) rfl
    have x1 := cell_row k4 1 (u := .slice a n m) rfl
    have x2 := cell_row k4 2 (u := .slice a' n' m') rfl
    have f0 := cell_row k3 0 (u := .string ⟨#[]⟩) rfl
    have f1 := cell_row k3 1 (u := .slice none 0 0) rfl
    have f2 := cell_row k3 2 (u := .slice none 0 0) rfl
    have z0 := ck_frozen k3 0
    have z1 := ck_frozen k3 1
    have z2 := ck_frozen k3 2
    have HB2 : Hid (Below w.heap.size w w2 ∧ w2.heap[w.heap.size]? = some (.cells #[.string ⟨#[]⟩, .slice none 0 0, .slice none 0 0] 28 (0, 0)) ∧ IsChart (fun b => w.heap.size < b) w2 c (.agg #[.string S, .slice a n m, .slice a' n' m'])) := ⟨k2, k3, k1⟩
    clear k1 k2 k3 k4 hc2
    go_wp2_with fail
    refine bodyPost_ret (resultsQ _ _ w.heap.size #[.string S, .slice a n m, .slice a' n' m'] rfl rfl (put3 HB2.out.2.1 _ _ _)) rfl ?_
    refine .inl ⟨ho.out, S, a, n, m, a', n', m', rfl, ?_, below_put3 HB2.out.1 (Nat.le_refl _) _ _ _⟩
    obtain ⟨a2, n2, m2, a3, n3, m3, e, q1, q2⟩ := HB2.out.2.2
    have kp : Keep (fun b => w.heap.size < b) (fun b => w.heap.size < b) w2 (((w2.setCell ⟨w.heap.size, 0, none⟩ (.string S)).setCell ⟨w.heap.size, 1, none⟩ (.slice a n m)).setCell ⟨w.heap.size, 2, none⟩ (.slice a' n' m')) := fun b hb' _ => ⟨hb', by
      have hne : b ≠ w.heap.size := by have : w.heap.size < b := hb'; omega
      rw [Below.heap_setCell _ _ _ _ hne, Below.heap_setCell _ _ _ _ hne, Below.heap_setCell _ _ _ _ hne]⟩
    exact ⟨a2, n2, m2, a3, n3, m3, e, q1.carry kp, q2.carry kp (IsStates.carry kp 6)⟩
  | some x =>
    obtain ⟨cc, pl⟩ := x
    have HNE : Hid (checkC c ≠ none) := by rw [Hid, ho.out]; simp
    cases pl with
    | none =>
      have hc2 : Calls Tryz.prog 40 #[.agg #[.string S, .slice a n m, .slice a' n' m']] (w1.alloc (.cells #[.string S, .slice a n m, .slice a' n' m'] 28)) fun e w' => e = .returned (.iface 67 (.int .i64 ((cc : Nat) : Int))) ∧ Hid (Below W1.heap.size W1 w') := by
        rw [← HWE.out] at hck ⊢
        exact hck.mono fun e w' ⟨hb, ho⟩ => by
          rcases ho with ⟨he, _⟩ | ⟨c', he, h1⟩ | ⟨_, _, _, he, _⟩
          · simp at he
          · simp at he
            subst he
            exact ⟨h1, hb⟩
          · simp at he
      clear hck x0 x1 x2
      refine hc2.mono ?_
      rintro e w2 ⟨rfl, hb2⟩
      obtain ⟨k1, k2, k3, k4⟩ := HKW.out w2 hb2.out
      have f0 := cell_row k3 0 (u := .string ⟨#[]⟩) rfl
      have f1 := cell_row k3 1 (u := .slice none 0 0) rfl
      have f2 := cell_row k3 2 (u := .slice none 0 0) rfl
      have z0 := ck_frozen k3 0
      have z1 := ck_frozen k3 1
      have z2 := ck_frozen k3 2
      have HB2 : Hid (Below w.heap.size w w2 ∧ w2.heap[w.heap.size]? = some (.cells #[.string ⟨#[]⟩, .slice none 0 0, .slice none 0 0] 28 (0, 0))) := ⟨k2, k3⟩
      clear k1 k2 k3 k4 hc2
      go_wp2_with fail
      refine bodyPost_ret (resultsQ _ _ w.heap.size #[.string ⟨#[]⟩, .slice none 0 0, .slice none 0 0] rfl rfl (put3 HB2.out.2 _ _ _)) rfl ?_
      exact .inr ⟨HNE.out, rfl, below_put3 HB2.out.1 (Nat.le_refl _) _ _ _⟩
    | some p =>
      have hc2 : Calls Tryz.prog 40 #[.agg #[.string S, .slice a n m, .slice a' n' m']] (w1.alloc (.cells #[.string S, .slice a n m, .slice a' n' m'] 28)) fun e w' => ∃ g, e = .returned (.iface 105 (.pointer (some ⟨g, 0, none⟩))) ∧ Hid (Below W1.heap.size W1 w') := by
        rw [← HWE.out] at hck ⊢
        exact hck.mono fun e w' ⟨hb, ho⟩ => by
          rcases ho with ⟨he, _⟩ | ⟨c', he, h1⟩ | ⟨c', p', g, he, h1, _⟩
          · simp at he
          · simp at he
          · exact ⟨g, h1, hb⟩
      clear hck x0 x1 x2
      refine hc2.mono ?_
      rintro e w2 ⟨ge, rfl, hb2⟩
      obtain ⟨k1, k2, k3, k4⟩ := HKW.out w2 hb2.out
      have f0 := cell_row k3 0 (u := .string ⟨#[]⟩) rfl
      have f1 := cell_row k3 1 (u := .slice none 0 0) rfl
      have f2 := cell_row k3 2 (u := .slice none 0 0) rfl
      have z0 := ck_frozen k3 0
      have z1 := ck_frozen k3 1
      have z2 := ck_frozen k3 2
      have HB2 : Hid (Below w.heap.size w w2 ∧ w2.heap[w.heap.size]? = some (.cells #[.string ⟨#[]⟩, .slice none 0 0, .slice none 0 0] 28 (0, 0))) := ⟨k2, k3⟩
      clear k1 k2 k3 k4 hc2
      go_wp2_with fail
      refine bodyPost_ret (resultsQ _ _ w.heap.size #[.string ⟨#[]⟩, .slice none 0 0, .slice none 0 0] rfl rfl (put3 HB2.out.2 _ _ _)) rfl ?_
      exact .inr ⟨HNE.out, rfl, below_put3 HB2.out.1 (Nat.le_refl _) _ _ _⟩
set_option maxRecDepth 100000 in
set_option maxHeartbeats 2000000 in
/-- of a text that draws none, or is too long -/
theorem chart_none {s : ByteArray} {w : World} (hv : KEnv0 w) (hno : s.size ≤ 1500 → ∀ l c, ¬ (Lx.Ok (bs s) l ∧ chart (fin s l) = .ok c)) :
    Calls Tryz.prog 13 #[.string s] w fun e w' => e = .returned (.tuple #[.agg #[.string ⟨#[]⟩, .slice none 0 0, .slice none 0 0], .bool false]) ∧ Hid (Below w.heap.size w w') := by
  have hfz : (w.alloc (.cells #[.string ⟨#[]⟩, .slice none 0 0, .slice none 0 0] 28)).heap[w.heap.size]? = some (.cells #[.string ⟨#[]⟩, .slice none 0 0, .slice none 0 0] 28 (0, 0)) := ck_new _ _
  have f0 := cell_row hfz 0 (u := .string ⟨#[]⟩) rfl
  have f1 := cell_row hfz 1 (u := .slice none 0 0) rfl
  have f2 := cell_row hfz 2 (u := .slice none 0 0) rfl
  have z0 := ck_frozen hfz 0
  have z1 := ck_frozen hfz 1
  have z2 := ck_frozen hfz 2
  have HFZ : Hid _ := hfz
  by_cases hs : s.size ≤ 1500
  · have hs1 : ¬ (1500 : Int) < (s.size : Int) := by omega
    have hb0 : Below w.heap.size w (w.alloc (.cells #[.string ⟨#[]⟩, .slice none 0 0, .slice none 0 0] 28)) := ck_grown w _
    have hp : Calls Tryz.prog 25 #[.string s] (w.alloc (.cells #[.string ⟨#[]⟩, .slice none 0 0, .slice none 0 0] 28)) fun e w' => ∃ g, e = .returned (.tuple #[.agg #[.string ⟨#[]⟩, .slice none 0 0, .slice none 0 0], .iface 105 (.pointer (some ⟨g, 0, none⟩))]) ∧ Hid (Below (w.alloc (.cells #[.string ⟨#[]⟩, .slice none 0 0, .slice none 0 0] 28)).heap.size (w.alloc (.cells #[.string ⟨#[]⟩, .slice none 0 0, .slice none 0 0] 28)) w') := by
      have hv0 := hv.up hb0
      by_cases hl : ∃ l, Lx.Ok (bs s) l
      · obtain ⟨l, hok⟩ := hl
        cases hch : chart (fin s l) with
        | ok c => exact absurd ⟨hok, hch⟩ (hno hs l c)
        | error f => exact (parse_err s l f _ (by omega) hv0.big hv0.tabs hv0.marks hok hch).mono fun e w' ⟨g, he, _, hb⟩ => ⟨g, he, hb⟩
      · exact (parse_bad s _ (by omega) hv0.marks (fun l h => hl ⟨l, h⟩)).mono fun e w' ⟨_, _, g, he, _, _, hb⟩ => ⟨g, he, hb⟩
    clear hv hno hb0 hfz f0 f1 f2 z0 z1 z2
    go_enter Tryz.func13, Tryz.ntmps13
    go_wp2_with fail
    refine hp.mono ?_
    rintro e w1 ⟨g, rfl, hb1⟩
    have hfy : (w1.alloc (.cells #[.string ⟨#[]⟩, .slice none 0 0, .slice none 0 0] 28)).heap[w.heap.size]? = some (.cells #[.string ⟨#[]⟩, .slice none 0 0, .slice none 0 0] 28 (0, 0)) := ck_old (ck_block hb1.out HFZ.out)
    have f0 := cell_row hfy 0 (u := .string ⟨#[]⟩) rfl
    have f1 := cell_row hfy 1 (u := .slice none 0 0) rfl
    have f2 := cell_row hfy 2 (u := .slice none 0 0) rfl
    have z0 := ck_frozen hfy 0
    have z1 := ck_frozen hfy 1
    have z2 := ck_frozen hfy 2
    have HFY : Hid _ := hfy
    clear hfy hp
    go_wp2_with fail
    refine bodyPost_ret (resultsQ _ _ w.heap.size #[.string ⟨#[]⟩, .slice none 0 0, .slice none 0 0] rfl rfl (put3 HFY.out _ _ _)) rfl ?_
    exact ⟨rfl, below_put3 (ck_all (ck_all (ck_grown _ _) hb1.out) (ck_grown _ _)) (Nat.le_refl _) _ _ _⟩
  · have hs1 : (1500 : Int) < (s.size : Int) := by omega
    clear hv hno hs hfz
    go_enter Tryz.func13, Tryz.ntmps13
    go_wp2_with fail
    refine bodyPost_ret (resultsQ _ _ w.heap.size #[.string ⟨#[]⟩, .slice none 0 0, .slice none 0 0] rfl rfl HFZ.out) rfl ?_
    exact ⟨rfl, ck_grown _ _⟩
end Kx
end Go.Proofs.YtecbilopliblpaaGreatDoor
/- A chart that a text draws, in memory. -/
namespace Go.Proofs.YtecbilopliblpaaGreatDoor
open Go.RowKit Px
namespace Kx

/-- a chart in memory: its regions are so many -/
theorem chartLen {A : Nat → Prop} {w : World} {c : Chart} {S a a' : Value} (h : IsChart A w c (.agg #[S, a, a'])) : ∃ adr m, a' = .slice adr c.regions.length m := by
  obtain ⟨a0, n0, m0, a1, n1, m1, e, _, hR⟩ := h
  obtain ⟨adr, gr, capr, er, _⟩ := hR.len
  have : a' = .slice a1 n1 m1 := by
    injection e with e
    simp at e
    exact e.2.2
  exact ⟨adr, capr, by rw [this, er]⟩
theorem parseAt {s : ByteArray} {l : List Lx.Tok} {c : Chart} {w : World} (hs : s.size ≤ 1500) (hv : KEnv0 w) (hok : Lx.Ok (bs s) l) (hch : chart (fin s l) = .ok c) :
    Calls Tryz.prog 25 #[.string s] w fun e w' => ∃ S a n m a' n' m', e = .returned (.tuple #[.agg #[.string S, .slice a n m, .slice a' n' m'], .nilIface]) ∧ Hid (IsChart (fun _ => True) w' c (.agg #[.string S, .slice a n m, .slice a' n' m']) ∧ Below w.heap.size w w') :=
  (parse_ok s l c w (by omega) hv.big hv.tabs hv.marks hok hch).mono fun e w' ⟨v, he, hC, hb⟩ => by
    obtain ⟨a, n, m, a', n', m', rfl, h1, h2⟩ := hC
    have kp : Keep (Ge w.heap.size) (fun _ => True) w' w' := fun b _ _ => ⟨trivial, rfl⟩
    exact ⟨_, a, n, m, a', n', m', he, ⟨a, n, m, a', n', m', rfl, h1.carry kp, h2.carry kp (IsStates.carry kp 6)⟩, hb⟩
end Kx
end Go.Proofs.YtecbilopliblpaaGreatDoor
