/- keep's deep: how many regions stand in one another; keep's count answers a number. -/
import Derived.Test.YtecbilopliblpaaGreatDoorQVsVq
import Derived.Test.YtecbilopliblpaaGreatDoorQKs
import Derived.Test.YtecbilopliblpaaGreatDoorQVe
namespace Go.Proofs.YtecbilopliblpaaGreatDoor
open Go.RowKit Px
namespace Kx
/-- a region in memory, with what is answered of its states' regions -/
def AskReg {ρ : Type} (F : Nat) (K : StF ρ → Int → Prop) (w : World) (r : List (StF ρ)) (a : Option Addr) : Prop :=
  ∃ gr, (0 < r.length → a = some ⟨gr, 0, none⟩) ∧ r.length ≤ 1000000 ∧ ∀ (j : Nat) (s : StF ρ), r[j]? = some s → ∃ ar nr capr ay ny cy, w.cell? ⟨gr, j * 9 + 8, none⟩ = some (.slice ar nr capr) ∧ w.cell? ⟨gr, j * 9 + 7, none⟩ = some (.slice ay ny cy) ∧
    ∀ w', Below w.heap.size w w' → Calls Tryz.prog F #[.slice ar nr capr] w' fun e w'' => ∃ x : Int, e = .returned (.int .i64 x) ∧ Hid (K s x ∧ Below w'.heap.size w' w'')
def deepL {ρ : Type} (f : List (List ρ) → Nat) (n : Nat) (r : List (StF ρ)) : Nat := r.foldl (fun n s => max n (1 + f s.regions)) n
theorem deepL_le {ρ : Type} {f : List (List ρ) → Nat} {r : List (StF ρ)} {b : Nat} (h : ∀ s ∈ r, f s.regions ≤ b) : ∀ n, n ≤ b + 1 → deepL f n r ≤ b + 1 := by
  induction r with
  | nil => intro n hn; exact hn
  | cons s r ih =>
    intro n hn
    unfold deepL
    rw [List.foldl_cons]
    exact ih (fun x hx => h x (List.mem_cons_of_mem _ hx)) _ (by have := h s (List.mem_cons_self ..); omega)
set_option maxRecDepth 100000 in
set_option maxHeartbeats 8000000 in
theorem deep_at {ρ : Type} {w : World} {ad : Option Addr} {N cap : Nat} {L : List (List (StF ρ))} (f : List (List ρ) → Nat) (hf : Hid (∀ r ∈ L, ∀ s ∈ r, f s.regions ≤ 99)) (hn : Hid (N = L.length)) (hNm : N ≤ maxLen)
    (hmem : Hid (∃ g, (0 < N → ad = some ⟨g, 0, none⟩) ∧ ∀ i r, L[i]? = some r → ∃ a c, w.cell? ⟨g, i, none⟩ = some (.slice a r.length c) ∧ AskReg 23 (fun s x => x = (f s.regions : Nat)) w r a)) :
    Calls Tryz.prog 23 #[.slice ad N cap] w fun e w' => ∃ x : Int, e = .returned (.int .i64 x) ∧ Hid (x = (deepG f L : Nat) ∧ Below w.heap.size w w') := by
  have hN6 : (N : Int) ≤ 9223372036854775807 := by unfold maxLen at hNm; omega
  clear hNm
  go_enter Tryz.func23, Tryz.ntmps23
  go_wp2_with fail
  go_loopg [3, 4] N (fun f' nv i wr => ∃ (k m : Nat), f' = N - k ∧ k ≤ N ∧ i = .int .i64 (k : Int) ∧ nv = .int .i64 (m : Int) ∧ Hid (m = (L.take k).foldl (fun n r => deepF f n r) 0 ∧ m ≤ 100 ∧ Below w.heap.size w wr))
  case atStart => exact ⟨0, 0, by omega, by omega, rfl, rfl, rfl, by omega, Below.refl _ _⟩
  case round =>
    obtain ⟨k, m, rfl, hk, rfl, rfl, hr⟩ := hrel
    obtain ⟨W1, hW1⟩ : ∃ W1, W1 = wr := ⟨_, rfl⟩
    subst hW1
    by_cases hlt : k < N
    · obtain ⟨r, hs⟩ : ∃ r, L[k]? = some r := ⟨L[k]'(by rw [← hn.out]; exact hlt), by rw [List.getElem?_eq_getElem]⟩
      obtain ⟨g, hg, hg2⟩ := hmem.out
      obtain ⟨a, c, hcell, gr, ha, hlen, hin⟩ := hg2 k r hs
      have hix := ixR ad g N cap k hlt hg
      have hcw := ck_cell hr.out.2.2 hcell
      obtain ⟨n, hnr⟩ : ∃ n, n = r.length := ⟨_, rfl⟩
      rw [← hnr] at hcw ha hlen
      have hn6 : (n : Int) ≤ 9223372036854775807 := by omega
      have hm6 : (m : Int) ≤ 100 := by have := hr.out.2.1; omega
      obtain ⟨m1, hm1⟩ : ∃ m1 : Nat, m1 = max m 1 := ⟨_, rfl⟩
      have HM : Hid (m1 = max m 1 ∧ m = (L.take k).foldl (fun n r => deepF f n r) 0 ∧ L[k]? = some r ∧ n = r.length ∧ m ≤ 100) := ⟨hm1, hr.out.1, hs, hnr, hr.out.2.1⟩
      have HC : Hid (∀ W, Below W1.heap.size W1 W → W.cell? ⟨g, k, none⟩ = some (.slice a n c)) := fun W hb => ck_cell hb hcw
      have HIN : Hid (∀ (j : Nat) (s : StF ρ), r[j]? = some s → ∃ ar nr capr, w.cell? ⟨gr, j * 9 + 8, none⟩ = some (.slice ar nr capr) ∧ ∀ w', Below w.heap.size w w' → Calls Tryz.prog 23 #[.slice ar nr capr] w' fun e w'' => ∃ x : Int, e = .returned (.int .i64 x) ∧ Hid (x = (f s.regions : Nat) ∧ Below w'.heap.size w' w'')) := fun j s hj => by
        obtain ⟨ar, nr, capr, _, _, _, h1, _, h2⟩ := hin j s hj
        exact ⟨ar, nr, capr, h1, h2⟩
      have HA : Hid (0 < n → a = some ⟨gr, 0, none⟩) := ha
      have HB1 : Hid (Below w.heap.size w W1) := hr.out.2.2
      have hmx : max (m : Int) 1 = (m1 : Int) := by omega
      clear hr hs hg hg2 hcell hin ha hnr hcw hm1
      go_upto_region 7 with fail
      go_loopg [3, 5] n (fun f' nv jv wq => ∃ (j q : Nat), f' = n - j ∧ j ≤ n ∧ jv = .int .i64 (j : Int) ∧ nv = .int .i64 (q : Int) ∧ Hid (q = deepL f m1 (r.take j) ∧ q ≤ 100 ∧ Below W1.heap.size W1 wq))
      case atStart => exact ⟨0, m1, by omega, by omega, rfl, rfl, rfl, by have := HM.out.1; have := HM.out.2.2.2.2; omega, Below.refl _ _⟩
      case round =>
        obtain ⟨j, q, rfl, hj, rfl, rfl, hr⟩ := hrel
        obtain ⟨W2, hW2⟩ : ∃ W2, W2 = wr := ⟨_, rfl⟩
        subst hW2
        have z1 := HC.out W2 hr.out.2.2
        by_cases hj2 : j < n
        · obtain ⟨s, hs⟩ : ∃ s, r[j]? = some s := ⟨r[j]'(by rw [← HM.out.2.2.2.1]; exact hj2), by rw [List.getElem?_eq_getElem]⟩
          obtain ⟨ar, nr, capr, h8, hcall⟩ := HIN.out j s hs
          have hB2 := ck_all HB1.out hr.out.2.2
          have z2 := ck_cell hB2 h8
          have hixt := ixT a gr n c j hj2 HA.out
          have hc2 := hcall W2 hB2
          obtain ⟨y, hy⟩ : ∃ y, y = f s.regions := ⟨_, rfl⟩
          have hy99 : y ≤ 99 := by rw [hy]; exact hf.out r (List.mem_of_getElem? HM.out.2.2.1) s (List.mem_of_getElem? hs)
          obtain ⟨q1, hq1⟩ : ∃ q1 : Nat, q1 = max q (1 + y) := ⟨_, rfl⟩
          have hmx2 : max (q : Int) (1 + (y : Int)) = (q1 : Int) := by omega
          have HE : Hid (∀ w', Below W2.heap.size W2 w' → q1 = deepL f m1 (r.take (j + 1)) ∧ q1 ≤ 100 ∧ Below W1.heap.size W1 w') := fun w' hb => ⟨by
            rw [List.take_add_one, hs]
            unfold deepL
            rw [List.foldl_append, hq1, hy, hr.out.1]
            rfl, by have := hr.out.2.1; omega, ck_all hr.out.2.2 hb⟩
          have hy6 : (y : Int) ≤ 99 := by omega
          have HY : Hid (y = f s.regions) := hy
          clear hr hs h8 hcall hB2 hq1 hy hy99
          go_wp2_with fail
          refine hc2.mono ?_
          rintro e w3 ⟨xx, rfl, h3⟩
          clear hc2 z1 z2
          obtain ⟨e3, hb3⟩ := h3.out
          rw [← HY.out] at e3
          subst e3
          have HE3 := HE.out w3 hb3
          have HF : Hid (q1 = deepL f m1 (r.take (j + 1)) ∧ q1 ≤ 100 ∧ Below W1.heap.size W1 w3) := HE3
          clear h3 hb3 HE HE3 HY
          go_wp2_with fail
          go_roundg (n - (j + 1))
          case measure => omega
          case rel => exact ⟨j + 1, q1, by omega, by omega, by go_num, by go_num, HF.out⟩
        · obtain rfl : j = n := by omega
          have HE : Hid (q = (L.take (k + 1)).foldl (fun n r => deepF f n r) 0 ∧ q ≤ 100 ∧ Below w.heap.size w W2) := ⟨by
            rw [List.take_add_one, HM.out.2.2.1, hr.out.1, HM.out.2.2.2.1, List.take_length, HM.out.1, HM.out.2.1]
            rw [List.foldl_append]
            rfl, hr.out.2.1, ck_all HB1.out hr.out.2.2⟩
          clear hr
          go_wp2_with fail
          go_roundg (N - (k + 1))
          case measure => omega
          case rel => exact ⟨k + 1, q, by omega, by omega, by go_num, rfl, HE.out⟩
    · obtain rfl : k = N := by omega
      have HE : Hid ((m : Int) = (deepG f L : Nat) ∧ Below w.heap.size w W1) := ⟨by rw [hr.out.1, hn.out, List.take_length]; rfl, hr.out.2.2⟩
      clear hr
      go_wp2_with fail
      go_ret
      exact ⟨_, rfl, HE.out⟩
set_option maxRecDepth 100000 in
set_option maxHeartbeats 8000000 in
theorem count_at {ρ : Type} {w : World} {ad : Option Addr} {N cap : Nat} {L : List (List (StF ρ))} (hn : Hid (N = L.length)) (hNm : N ≤ maxLen)
    (hmem : Hid (∃ g, (0 < N → ad = some ⟨g, 0, none⟩) ∧ ∀ i r, L[i]? = some r → ∃ a c, w.cell? ⟨g, i, none⟩ = some (.slice a r.length c) ∧ AskReg 20 (fun _ _ => True) w r a)) :
    Calls Tryz.prog 20 #[.slice ad N cap] w fun e w' => ∃ x : Int, e = .returned (.int .i64 x) ∧ Hid (True ∧ Below w.heap.size w w') := by
  have hN6 : (N : Int) ≤ 9223372036854775807 := by unfold maxLen at hNm; omega
  clear hNm
  go_enter Tryz.func20, Tryz.ntmps20
  go_wp2_with fail
  go_loopg [3, 4] N (fun f' nv i wr => ∃ (k : Nat) (x : Int), f' = N - k ∧ k ≤ N ∧ i = .int .i64 (k : Int) ∧ nv = .int .i64 x ∧ Hid (Below w.heap.size w wr))
  case atStart => exact ⟨0, 0, by omega, by omega, rfl, rfl, Below.refl _ _⟩
  case round =>
    obtain ⟨k, x, rfl, hk, rfl, rfl, hr⟩ := hrel
    obtain ⟨W1, hW1⟩ : ∃ W1, W1 = wr := ⟨_, rfl⟩
    subst hW1
    by_cases hlt : k < N
    · obtain ⟨r, hs⟩ : ∃ r, L[k]? = some r := ⟨L[k]'(by rw [← hn.out]; exact hlt), by rw [List.getElem?_eq_getElem]⟩
      obtain ⟨g, hg, hg2⟩ := hmem.out
      obtain ⟨a, c, hcell, gr, ha, hlen, hin⟩ := hg2 k r hs
      have hix := ixR ad g N cap k hlt hg
      have hcw := ck_cell hr.out hcell
      obtain ⟨n, hnr⟩ : ∃ n, n = r.length := ⟨_, rfl⟩
      rw [← hnr] at hcw ha hlen
      have hn6 : (n : Int) ≤ 9223372036854775807 := by omega
      have HC : Hid (∀ W, Below W1.heap.size W1 W → W.cell? ⟨g, k, none⟩ = some (.slice a n c)) := fun W hb => ck_cell hb hcw
      have HIN : Hid (∀ (j : Nat), j < n → ∃ ar nr capr ay ny cy, w.cell? ⟨gr, j * 9 + 8, none⟩ = some (.slice ar nr capr) ∧ w.cell? ⟨gr, j * 9 + 7, none⟩ = some (.slice ay ny cy) ∧ ∀ w', Below w.heap.size w w' → Calls Tryz.prog 20 #[.slice ar nr capr] w' fun e w'' => ∃ x : Int, e = .returned (.int .i64 x) ∧ Hid (True ∧ Below w'.heap.size w' w'')) := fun j hj => hin j (r[j]'(by rw [← hnr]; exact hj)) (List.getElem?_eq_getElem _)
      have HA : Hid (0 < n → a = some ⟨gr, 0, none⟩) := ha
      have HB1 : Hid (Below w.heap.size w W1) := hr.out
      clear hr hs hg hg2 hcell hin ha hnr hcw
      go_upto_region 6 with fail
      go_loopg [3, 5] n (fun f' nv jv wq => ∃ (j : Nat) (x : Int), f' = n - j ∧ j ≤ n ∧ jv = .int .i64 (j : Int) ∧ nv = .int .i64 x ∧ Hid (Below W1.heap.size W1 wq))
      case atStart => exact ⟨0, x, by omega, by omega, rfl, rfl, Below.refl _ _⟩
      case round =>
        obtain ⟨j, q, rfl, hj, rfl, rfl, hr⟩ := hrel
        obtain ⟨W2, hW2⟩ : ∃ W2, W2 = wr := ⟨_, rfl⟩
        subst hW2
        have z1 := HC.out W2 hr.out
        by_cases hj2 : j < n
        · obtain ⟨ar, nr, capr, ay, ny, cy, h8, h7, hcall⟩ := HIN.out j hj2
          have hB2 := ck_all HB1.out hr.out
          have z2 := ck_cell hB2 h8
          have z3 := ck_cell hB2 h7
          have hixt := ixT a gr n c j hj2 HA.out
          have hc2 := hcall W2.drew hB2.drew
          have HQ : Hid (∀ w', Below W2.drew.heap.size W2.drew w' → (w'.cell? ⟨g, k, none⟩ = some (.slice a n c) ∧ w'.cell? ⟨gr, j * 9 + 7, none⟩ = some (.slice ay ny cy) ∧ w'.cell? ⟨gr, j * 9 + 8, none⟩ = some (.slice ar nr capr)) ∧ Below W1.heap.size W1 w') := fun w' hb => by
            have hb' : Below W2.heap.size W2 w' := ck_all ((Below.refl _ _).drew) hb
            exact ⟨⟨ck_cell hb' z1, ck_cell hb' z3, ck_cell hb' z2⟩, ck_all hr.out hb'⟩
          clear hr h8 h7 hcall hB2
          go_upto_region 8 with fail
          go_region_held3 (fun W => W.cell? ⟨g, k, none⟩ = some (.slice a n c) ∧ W.cell? ⟨gr, j * 9 + 7, none⟩ = some (.slice ay ny cy) ∧ W.cell? ⟨gr, j * 9 + 8, none⟩ = some (.slice ar nr capr)) (first | with_reducible exact HQ2.out.1 | go_keep)
            (first | (go_at_call 20; refine hc2.mono ?_; rintro e w3 ⟨xx, rfl, h3⟩; have HQ2 : Hid ((w3.cell? ⟨g, k, none⟩ = some (.slice a n c) ∧ w3.cell? ⟨gr, j * 9 + 7, none⟩ = some (.slice ay ny cy) ∧ w3.cell? ⟨gr, j * 9 + 8, none⟩ = some (.slice ar nr capr)) ∧ Below W1.heap.size W1 w3) := HQ.out w3 h3.out.2))
          all_goals
            go_wp2_with fail
            go_roundg (n - (j + 1))
            case measure => omega
            case rel => exact ⟨j + 1, _, by omega, by omega, by go_num, rfl, HQ2.out.2⟩
        · obtain rfl : j = n := by omega
          have HE : Hid (Below w.heap.size w W2) := ck_all HB1.out hr.out
          clear hr
          go_wp2_with fail
          go_roundg (N - (k + 1))
          case measure => omega
          case rel => exact ⟨k + 1, q, by omega, by omega, by go_num, rfl, HE.out⟩
    · obtain rfl : k = N := by omega
      have HE : Hid (True ∧ Below w.heap.size w W1) := ⟨trivial, hr.out⟩
      clear hr
      go_wp2_with fail
      go_ret
      exact ⟨_, rfl, HE.out⟩
theorem deepF_le {ρ : Type} {f : List (List ρ) → Nat} {r : List (StF ρ)} {b : Nat} (h : ∀ s ∈ r, f s.regions ≤ b) (n : Nat) (hn : n ≤ b + 1) : deepF f n r ≤ b + 1 := deepL_le h _ (by omega)
theorem deepG_le {ρ : Type} {f : List (List ρ) → Nat} {b : Nat} (h : ∀ rs, f rs ≤ b) (L : List (List (StF ρ))) : deepG f L ≤ b + 1 := by
  have key : ∀ (l : List (List (StF ρ))) (n : Nat), n ≤ b + 1 → l.foldl (fun n r => deepF f n r) n ≤ b + 1 := by
    intro l
    induction l with
    | nil => intro n hn; exact hn
    | cons r l ih => intro n hn; rw [List.foldl_cons]; exact ih _ (deepF_le (fun s _ => h s.regions) n hn)
  exact key L 0 (by omega)
theorem deepN_le : ∀ (k : Nat) (rs : List (List (St k))), deepN k rs ≤ k
  | 0, _ => Nat.le_refl _
  | k + 1, rs => deepG_le (deepN_le k) rs
theorem askReg_of {A : Nat → Prop} {F : Nat} {k : Nat} {K : StF (St k) → Int → Prop} {w : World} {r : List (StF (St k))} {u : Value} (hS : IsStates A w (k + 1) r u) (hL : List.length r ≤ 1000000)
    (hin : ∀ s ∈ r, ∀ w' v, IsRegs A w' (IsStates A w' k) s.regions v → Calls Tryz.prog F #[v] w' fun e w'' => ∃ x : Int, e = .returned (.int .i64 x) ∧ Hid (K s x ∧ Below w'.heap.size w' w'')) : ∃ a c, u = .slice a r.length c ∧ AskReg F K w r a := by
  obtain ⟨a, gr, c, rfl, r1, r2, r3⟩ := IsStates.open hS
  refine ⟨a, c, rfl, gr, fun hp => (r2 hp).1, hL, fun j s hj => ?_⟩
  obtain ⟨ve, vd, vl, p, ay, ar, gy, capy, capr, hM, hR⟩ := r3 j s hj
  refine ⟨ar, s.regions.length, capr, ay, s.ways.length, capy, hM.c8, hM.c7, fun w' hb => hin s (List.mem_of_getElem? hj) w' _ ?_⟩
  have kp : Keep A A w w' := fun b ha hlt => ⟨ha, hb.block b hlt⟩
  exact hR.carry kp (IsStates.carry kp k)
theorem deep_all {A : Nat → Prop} : ∀ (k : Nat), k ≤ 6 → ∀ (w : World) (L : List (List (St k))) (v : Value), IsRegs A w (IsStates A w k) L v → (∀ r ∈ L, LayR k r) →
    Calls Tryz.prog 23 #[v] w fun e w' => ∃ x : Int, e = .returned (.int .i64 x) ∧ Hid (x = (deepN k L : Nat) ∧ Below w.heap.size w w') := by
  intro k
  induction k with
  | zero =>
    intro _ w L v hI hO
    obtain ⟨ad, g, cap, rfl, h1, h2, h3⟩ := hI.len
    have hL : L = [] := by
      cases L with
      | nil => rfl
      | cons r rs => exact absurd (hO r (by simp)) id
    subst hL
    exact deep_at (ρ := Unit) (L := []) (fun _ => 0) (fun r hr => by cases hr) rfl h1 ⟨g, fun h => absurd h (by simp), fun i r h => absurd h (by simp)⟩
  | succ k ih =>
    intro hk w L v hI hO
    obtain ⟨ad, g, cap, rfl, h1, h2, h3⟩ := hI.len
    refine deep_at (ρ := St k) (L := L) (deepN k) (fun r hr s hs => Nat.le_trans (deepN_le k _) (by omega)) rfl h1 ⟨g, fun hp => (h2 hp).1, fun i r hi => ?_⟩
    have hm := List.mem_of_getElem? hi
    obtain ⟨u, hu, hS⟩ := h3 i r hi
    obtain ⟨l1, l2, l3, l4, l5⟩ := hO r hm
    obtain ⟨a, c, rfl, hA⟩ := askReg_of (F := 23) (K := fun s x => x = (deepN k s.regions : Nat)) hS l4 (fun s hs w' v hv => ih (by omega) w' s.regions v hv ((l5 s hs).2.2.2.2))
    exact ⟨a, c, hu, hA⟩
theorem count_all {A : Nat → Prop} : ∀ (k : Nat) (w : World) (L : List (List (St k))) (v : Value), IsRegs A w (IsStates A w k) L v → (∀ r ∈ L, LayR k r) →
    Calls Tryz.prog 20 #[v] w fun e w' => ∃ x : Int, e = .returned (.int .i64 x) ∧ Hid (True ∧ Below w.heap.size w w') := by
  intro k
  induction k with
  | zero =>
    intro w L v hI hO
    obtain ⟨ad, g, cap, rfl, h1, h2, h3⟩ := hI.len
    have hL : L = [] := by
      cases L with
      | nil => rfl
      | cons r rs => exact absurd (hO r (by simp)) id
    subst hL
    exact count_at (ρ := Unit) (L := []) rfl h1 ⟨g, fun h => absurd h (by simp), fun i r h => absurd h (by simp)⟩
  | succ k ih =>
    intro w L v hI hO
    obtain ⟨ad, g, cap, rfl, h1, h2, h3⟩ := hI.len
    refine count_at (ρ := St k) (L := L) rfl h1 ⟨g, fun hp => (h2 hp).1, fun i r hi => ?_⟩
    have hm := List.mem_of_getElem? hi
    obtain ⟨u, hu, hS⟩ := h3 i r hi
    obtain ⟨l1, l2, l3, l4, l5⟩ := hO r hm
    obtain ⟨a, c, rfl, hA⟩ := askReg_of (F := 20) (K := fun _ _ => True) hS l4 (fun s hs w' v hv => ih w' s.regions v hv ((l5 s hs).2.2.2.2))
    exact ⟨a, c, hu, hA⟩
end Kx
end Go.Proofs.YtecbilopliblpaaGreatDoor
/- keep's few, either way; a text that may run, or none. -/
namespace Go.Proofs.YtecbilopliblpaaGreatDoor
open Go.RowKit Px
namespace Kx
theorem few_no {w : World} {iv : Value} {zss : List (List Int)} (hI : IRws w iv zss) (h : ¬ Few zss) : Calls Tryz.prog 11 #[iv] w fun e w' => e = .returned (.bool false) ∧ w' = w := (few_any hI).mono fun e w' ⟨h', hw⟩ => ⟨by
    rcases h' with ⟨_, hn⟩ | ⟨he, _⟩
    · exact absurd hn h
    · exact he, hw⟩
theorem few_yes {w : World} {iv : Value} {zss : List (List Int)} (hI : IRws w iv zss) (h : Few zss) : Calls Tryz.prog 11 #[iv] w fun e w' => e = .returned (.bool true) ∧ w' = w := (few_any hI).mono fun e w' ⟨h', hw⟩ => ⟨by
    rcases h' with ⟨he, _⟩ | ⟨_, hn⟩
    · exact he
    · exact absurd h hn, hw⟩
/-- a text that may run, or keep's chart says no -/
theorem may_or (s : ByteArray) : (∃ l c, s.size ≤ 1500 ∧ Lx.Ok (bs s) l ∧ chart (fin s l) = .ok c ∧ checkC c = none) ∨ ∀ w, KEnv0 w → Calls Tryz.prog 13 #[.string s] w fun e w' => e = .returned (.tuple #[.agg #[.string ⟨#[]⟩, .slice none 0 0, .slice none 0 0], .bool false]) ∧ Hid (Below w.heap.size w w') := by
  by_cases h : ∃ l c, s.size ≤ 1500 ∧ Lx.Ok (bs s) l ∧ chart (fin s l) = .ok c
  · obtain ⟨l, c, h1, h2, h3⟩ := h
    by_cases hc : checkC c = none
    · exact .inl ⟨l, c, h1, h2, h3, hc⟩
    · refine .inr fun w hv => (chart_drawn h1 hv h2 h3).mono fun e w' h => ?_
      rcases h with ⟨hn, _⟩ | ⟨_, he, hb⟩
      · exact absurd hn hc
      · exact ⟨he, hb⟩
  · exact .inr fun w hv => chart_none hv fun h1 l c h2 => h ⟨l, c, h1, h2.1, h2.2⟩
end Kx
end Go.Proofs.YtecbilopliblpaaGreatDoor
/- RunRests: what the law asks of variables; the chart that rests may run. -/
namespace Go.Proofs.YtecbilopliblpaaGreatDoor
open Go.RowKit Px
namespace Kx
/-- all but inputs are the same -/
def Same1 (vs : List Decl) (n n1 : Px.Env) : Prop := ∀ v ∈ vs, v.kind ≠ 1 → n v.name = n1 v.name
theorem not_in {vs : List Decl} (hd : Dist (vnames vs)) {v : Decl} (hv : v ∈ vs) (hk : v.kind ≠ 1) : ¬ InN vs v.name := fun ⟨u, hu, k1, k2⟩ => by
  have h1 := vkind_of hd hv
  have h2 := vkind_of hd hu
  rw [k2] at h2
  rw [h1] at h2
  exact hk (by rw [h2, k1])
theorem hear_same {vs : List Decl} (hd : Dist (vnames vs)) {n n1 : Px.Env} (h : Same1 vs n n1) (ins : List Int) : Same1 vs (hearE vs ins n) n1 := fun v hv hk => by
  rw [hearE_other vs ins n v.name (not_in hd hv hk)]
  exact h v hv hk
theorem tell_same {vs : List Decl} {n n1 : Px.Env} (h : Same1 vs n n1) : tellC (fun k => decide (k = 2)) vs n = tellC (fun k => decide (k = 2)) vs n1 := by
  unfold tellC
  refine List.map_congr_left fun v hv => ?_
  rw [List.mem_filter] at hv
  have h2 : v.kind = 2 := by simpa using hv.2
  exact h v hv.1 (by omega)
theorem many601 {L : List Lx.Tok} (hL : Wf L) {c : Chart} (h : chart L = .ok c) : sumC (cRg 6) c.regions ≤ 601 := by
  obtain ⟨h1, h2, h3⟩ := Sh.chart_w hL h
  have := sumLe (f := cRg 6) (g := Sh.wR (Sh.wSt 6)) c.regions (fun r _ => by
    have := sumLe (f := fun y => 1 + cIn 6 y) (g := Sh.wSt 6) r (fun y _ => inLe 6 y)
    unfold cRg Sh.wR; omega)
  omega
theorem wrap_only {c : Chart} {rs : List (List (St 5))} {r : List (St 6)} (hr : r ∈ (wrapC c rs).regions) {x : St 6} (hx : x ∈ r) : x = (show St 6 from wrapS rs) := by
  have h1 : r = (show List (St 6) from ([wrapS rs] : List (StF (St 5)))) := List.mem_singleton.1 hr
  rw [h1] at hx
  exact List.mem_singleton.1 hx
theorem nmS_nil : NmSets [] := fun a ha => by cases ha
theorem nbS_nil : NbSets [] := fun a ha => by cases ha
theorem len_le {l : List UInt8} (h : l.length ≤ 1) : l.length ≤ maxLen := by unfold maxLen; omega
theorem wrap_nm (rs : List (List (St 5))) : NmStF (wrapS rs) :=
  ⟨len_le (l := [119]) (by decide), nmS_nil, nmS_nil, nmS_nil, ⟨len_le (l := []) (by decide), trivial, trivial⟩, fun y hy => (by cases hy), Nat.zero_le _⟩
theorem wrap_nb (rs : List (List (St 5))) : NbStF (wrapS rs) :=
  ⟨nbS_nil, nbS_nil, nbS_nil, ⟨⟨by show (-9223372036854775808 : Int) ≤ 1; omega, by show (1 : Int) ≤ 9223372036854775807; omega⟩, trivial, trivial⟩, fun y hy => by cases hy⟩
theorem wrap_run {s : ByteArray} {l : List Lx.Tok} {c : Chart} {rs : List (List (St 5))} (hok : Lx.Ok (bs s) l) (hch : chart (fin s l) = .ok c) (h : checkC c = none) (hd : L2r (DnK 5) c.regions rs) : RunC (wrapC c rs) := by
  have hN := nmChart (wf_ok hok) hch
  have hB := nbChart (wf_ok hok) hch
  have hm := many601 (wf_ok hok) hch
  have hc := wrap_check h hd
  have hst : ∀ r ∈ rs, ∀ x ∈ r, NmSt 5 x ∧ NbSt 5 x := fun r hr x hx => by
    obtain ⟨r0, hr0, hrr⟩ := hd.mem hr
    exact ⟨nm_dn 5 r0 r hrr (hN.sts r0 hr0) x hx, nb_dn 5 r0 r hrr (hB.1 r0 hr0) x hx⟩
  have hN' : NmChart (wrapC c rs) := by
    refine ⟨hN.vars, hN.names, fun r hr x hx => ?_, ?_⟩
    · obtain rfl := wrap_only hr hx
      exact ⟨wrap_nm rs, fun r hr y hy => (hst r hr y hy).1⟩
    · have e : sumC (cRg 6) c.regions = sumC (cRg 5) rs := sumC_dn (fun r r' hr => crg_dn 5 r r' hr) hd
      show (1 + sumC (cRg 5) rs + 0) + 0 ≤ 1000000
      rw [← e]
      omega
  refine ⟨hc, hN', check_runs hc hN' fun r hr x hx => ?_, hB.2⟩
  obtain rfl := wrap_only hr hx
  exact ⟨wrap_nb rs, fun r hr y hy => (hst r hr y hy).2⟩
theorem FrQ.wide {Q Q' : Nat → Prop} {w w' : World} (h : FrQ Q w w') (hQ : ∀ b, Q b → Q' b) : FrQ Q' w w' := ⟨h.os, h.tape, h.output, h.size, fun b hb hq => h.block b hb (fun e => hq (hQ b e))⟩
/-- the chart that rests, between two ticks -/
structure RestI (c : Chart) (rs : List (List (St 5))) (A2 Q2 : Nat → Prop) (W wr : World) (n1 : Px.Env) (r : Rn) (rb2 : Nat) (x2 : RnL) (fv vv : Value) : Prop where
  run : RnM A2 wr (wrapC c rs) r rb2 Q2 x2
  st : ∃ n w ds, r = ⟨n, w, [wrapD ds]⟩ ∧ Same1 c.vars n n1
  first : ∀ w'', FrQ Q2 wr w'' → INums w'' fv (tellC (fun k => decide (k = 2)) c.vars n1)
  vars : ∀ w'', FrQ Q2 wr w'' → INums w'' vv (c.vars.map fun v => n1 v.name)
  bel : Below W.heap.size W wr
theorem tell_len (p : Nat → Bool) (vs : List Decl) (n : Px.Env) : (tellC p vs n).length ≤ vs.length := by
  unfold tellC
  rw [List.length_map]
  exact List.length_filter_le _ _
end Kx
end Go.Proofs.YtecbilopliblpaaGreatDoor
