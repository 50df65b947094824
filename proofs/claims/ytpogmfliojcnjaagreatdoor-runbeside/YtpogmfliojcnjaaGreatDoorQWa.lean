/- keep's renamed: what it hands back. -/
import Derived.Test.YtpogmfliojcnjaaGreatDoorQKr
import Derived.Test.YtpogmfliojcnjaaGreatDoorQCs4
import Derived.Test.YtpogmfliojcnjaaGreatDoorQPpart
import Derived.Test.YtpogmfliojcnjaaGreatDoorQRreg0
import Derived.Deep.DeepCutAuto
import Derived.Maps.AppendAt
namespace Go.Proofs.YtpogmfliojcnjaaGreatDoor
open Go.RowKit Px
namespace Kx

/-- blocks of what is read, and new ones that a value does not own -/
def NewNot (A : Nat → Prop) (B : Nat) (v : Value) (b : Nat) : Prop := (A b ∨ B ≤ b) ∧ v.ownBlock ≠ some b
/-- a row of one's own that grows -/
structure RowAt {α : Type} (R : (Nat → Prop) → World → α → List Value → Prop) (A : Nat → Prop) (B e size : Nat) (w : World) (l : List α) (v : Value) (xs : List Value) : Prop where
  own : w.ownsRow B e size v l.length xs
  rows : Rows (R (NewNot A B v) w) l xs
def Carries {α : Type} (R : (Nat → Prop) → World → α → List Value → Prop) : Prop := ∀ {A A' : Nat → Prop} {w w' : World}, Keep A A' w w' → ∀ a c, R A w a c → R A' w' a c
section
variable {α : Type} {R : (Nat → Prop) → World → α → List Value → Prop} {A : Nat → Prop} {B e size : Nat} {w w' : World} {l : List α} {v : Value} {xs : List Value}
theorem ownLow (h : w.ownsRow B e size v l.length xs) (hb : Below w.heap.size w w') : w'.ownsRow B e size v l.length xs :=
  own_keep (A := fun _ => True) (A' := fun _ => True) h (fun _ _ => trivial) fun b _ hlt => ⟨trivial, hb.block b hlt⟩
theorem RowAt.nil : RowAt R A B e size w [] (.slice none 0 0) [] := ⟨World.ownsRow_nil _ _ _ _, rfl⟩
theorem RowAt.low (hR : Carries R) (h : RowAt R A B e size w l v xs) (hb : Below w.heap.size w w') : RowAt R A B e size w' l v xs :=
  ⟨ownLow h.own hb, h.rows.map (hR fun b hb' hlt => ⟨hb', hb.block b hlt⟩)⟩
theorem RowAt.done (hR : Carries R) (h : RowAt R A B e size w l v xs) : Row (fun b => A b ∨ B ≤ b) w e size v l.length xs ∧ Rows (R (fun b => A b ∨ B ≤ b) w) l xs :=
  ⟨⟨own_base0 h.own, fun g hg => .inr (h.own.lt g hg).1⟩, h.rows.map (hR fun _ hb _ => ⟨hb.1, rfl⟩)⟩
theorem RowAt.step (hR : Carries R) (hA : ∀ b, A b → b < B) {wr w5 w6 : World} {o : Obj} {a : α} {c : List Value} {v' : Value} (h : RowAt R A B e size wr l v xs) (hB : B ≤ wr.heap.size) (hb : Below wr.heap.size wr w5) (he : R (fun b => A b ∨ wr.heap.size ≤ b) w5 a c)
    (hown : w6.ownsRow B e size v' (l.length + 1) (xs ++ c)) (hg : (w5.alloc o).grownBy w6 v.ownBlock) (hat : v'.ownBlock = v.ownBlock ∨ v'.ownBlock = some (w5.alloc o).heap.size) :
    RowAt R A B e size w6 (l ++ [a]) v' (xs ++ c) ∧ Below B wr w6 := by
  have hs5 := hb.size
  have hsz : (w5.alloc o).heap.size = w5.heap.size + 1 := by simp
  have hvl : ∀ g, v.ownBlock = some g → B ≤ g ∧ g < wr.heap.size := fun g hg => h.own.lt g hg
  have k1 : Keep (NewNot A B v) (NewNot A B v') wr w6 := fun b hb' hlt => by
    refine ⟨⟨hb'.1, ?_⟩, ?_⟩
    · rcases hat with e | e
      · rw [e]; exact hb'.2
      · rw [e]; intro e'; injection e' with e'; omega
    · rw [hg.block b (by omega) (fun e => hb'.2 e.symm), Below.heap_alloc _ _ _ (by omega), hb.block b hlt]
  have k2 : Keep (fun b => A b ∨ wr.heap.size ≤ b) (NewNot A B v') w5 w6 := fun b hb' hlt => by
    have hne : v.ownBlock ≠ some b := fun e => by
      have := hvl b e
      rcases hb' with h1 | h1
      · have := hA b h1; omega
      · omega
    refine ⟨⟨by rcases hb' with h1 | h1; exact .inl h1; exact .inr (by omega), ?_⟩, ?_⟩
    · rcases hat with e | e
      · rw [e]; exact hne
      · rw [e]; intro e'; injection e' with e'; omega
    · rw [hg.block b (by omega) (fun e => hne e.symm), Below.heap_alloc _ _ _ (by omega)]
  refine ⟨⟨by rw [List.length_append]; exact hown, (h.rows.map (hR k1)).append (Rows.one (hR k2 _ _ he))⟩, ?_⟩
  exact ((hb.mono hB).alloc (by omega) o).grown hg (by omega) (fun k hk => (hvl k hk).1)
end
theorem cells_new (w : World) (l : List Value) (t : TypeId) : ∀ j u, l[j]? = some u → (w.alloc (.cells l.toArray t)).cell? ((⟨w.heap.size, 0, none⟩ : Addr).add j) = some u := by
  intro j u hj
  have hk := ck_new w (.cells l.toArray t)
  have e : (⟨w.heap.size, 0, none⟩ : Addr).add j = ⟨w.heap.size, j, none⟩ := by unfold Addr.add; split <;> simp_all
  rw [e]
  exact cell_row hk j (by simpa using hj)
section
variable {ρ : Type}
/-- regions of regions, in blocks -/
abbrev JFam (ρ : Type) := (Nat → Prop) → World → List ρ → Value → Prop
def JCarries (J : JFam ρ) : Prop := ∀ {A A' : Nat → Prop} {w w' : World}, Keep A A' w w' → ∀ l v, J A w l v → J A' w' l v
/-- a region, in blocks -/
def RJ (J : JFam ρ) (A : Nat → Prop) (w : World) (l : List (StF ρ)) (v : Value) : Prop := (∃ xs, Row A w 69 9 v l.length xs ∧ Rows (StC A w (J A w)) l xs) ∧ (l = [] → v = .slice none 0 0)
theorem RJ.carry {J : JFam ρ} (hJ : JCarries J) {A A' : Nat → Prop} {w w' : World} (k : Keep A A' w w') (l : List (StF ρ)) (v : Value) (h : RJ J A w l v) : RJ J A' w' l v := by
  obtain ⟨⟨xs, hr, hs⟩, h0⟩ := h
  exact ⟨⟨xs, hr.carry k, hs.map (StC.carry k (hJ k))⟩, h0⟩
def ROut (J : JFam ρ) (A : Nat → Prop) (w : World) (r : List (StF ρ)) (c : List Value) : Prop := RegC (RJ J A w) r c
theorem rout_carries {J : JFam ρ} (hJ : JCarries J) : Carries (ROut J) := fun k _ _ ⟨u, hc, hu⟩ => ⟨u, hc, hu.carry hJ k _ _⟩
def RSt (J : JFam ρ) (A : Nat → Prop) (w : World) (s : StF ρ) (c : List Value) : Prop := StC A w (J A w) s c
theorem rst_carries {J : JFam ρ} (hJ : JCarries J) : Carries (RSt J) := fun k _ _ h => StC.carry k (hJ k) _ _ h
theorem rway_carries : Carries WayC := fun k _ _ h => WayC.carry k _ _ h
/-- a region in memory, with what its states' own regions come to -/
def RenReg (A : Nat → Prop) (w : World) (f : List ρ → List ρ) (J : JFam ρ) (r : List (StF ρ)) (a : Option Addr) : Prop :=
  ∃ gr, (0 < r.length → a = some ⟨gr, 0, none⟩) ∧ r.length ≤ 1000000 ∧ ∀ i s, r[i]? = some s → ∃ ve vd vl p ay ar gy capy capr, StM A w gr i s ve vd vl p ay ar gy capy capr ∧ s.name.length ≤ 12 ∧ (∀ y ∈ s.ways, y.to.length ≤ 12) ∧ s.ways.length ≤ 1000000 ∧
    ∀ w', Below w.heap.size w w' → Calls Tryz.prog 30 #[.slice ar s.regions.length capr] w' fun e w'' => ∃ a n m, e = .returned (.slice a n m) ∧ Hid (IsRegs (fun b => A b ∨ w'.heap.size ≤ b) w'' (J (fun b => A b ∨ w'.heap.size ≤ b) w'') (s.regions.map f) (.slice a n m) ∧ Below w'.heap.size w' w'')
theorem take_map_snoc {α β : Type} (g : α → β) {l : List α} {k : Nat} {a : α} (h : l[k]? = some a) : (l.take (k + 1)).map g = (l.take k).map g ++ [g a] := by
  rw [List.take_add_one, h, List.map_append]; rfl
theorem ren_sv (S : ByteArray) (s : Str) (h : Value.string S = sv s) : Value.string ((⟨#[120]⟩ : ByteArray) ++ S) = sv (renN s) := by
  unfold sv at h ⊢
  injection h with h
  rw [h, ByteArray.mk_append_mk]
  simp [renN]
end
theorem take_map_len {α β : Type} (g : α → β) {l : List α} {k N : Nat} (hN : N = l.length) (hk : k ≤ N) : ((l.take k).map g).length = k := by
  rw [List.length_map, List.length_take]; omega
theorem RowAt.shape {α β : Type} {R : (Nat → Prop) → World → β → List Value → Prop} {A : Nat → Prop} {B e size : Nat} {w : World} {g : α → β} {l : List α} {k N : Nat} {v : Value} {xs : List Value} (h : RowAt R A B e size w ((l.take k).map g) v xs) (hN : N = l.length) (hk : k ≤ N) : ∃ ao cap, v = .slice ao k cap := by
  have := owns_shape h.own
  rwa [take_map_len g hN hk] at this
theorem RowAt.own' {α β : Type} {R : (Nat → Prop) → World → β → List Value → Prop} {A : Nat → Prop} {B e size : Nat} {w : World} {g : α → β} {l : List α} {k N : Nat} {v : Value} {xs : List Value} (h : RowAt R A B e size w ((l.take k).map g) v xs) (hN : N = l.length) (hk : k ≤ N) : w.ownsRow B e size v k xs := by
  have := h.own
  rwa [take_map_len g hN hk] at this
set_option maxRecDepth 100000 in
set_option maxHeartbeats 8000000 in
theorem ren_at {ρ : Type} {A : Nat → Prop} {w : World} {fr : List ρ → List ρ} {J : JFam ρ} (hJ : JCarries J) (hA : Hid (∀ b, A b → b < w.heap.size)) {ad : Option Addr} {N cap : Nat} {L : List (List (StF ρ))} (hn : Hid (N = L.length)) (hNm : N ≤ 1000000)
    (hmem : Hid (∃ g, (0 < N → ad = some ⟨g, 0, none⟩) ∧ ∀ i r, L[i]? = some r → ∃ a c, w.cell? ⟨g, i, none⟩ = some (.slice a r.length c) ∧ RenReg A w fr J r a)) :
    Calls Tryz.prog 30 #[.slice ad N cap] w fun e w' => ∃ a n m, e = .returned (.slice a n m) ∧ Hid ((∃ xs, Row (fun b => A b ∨ w.heap.size ≤ b) w' 64 1 (.slice a n m) L.length xs ∧ Rows (ROut J (fun b => A b ∨ w.heap.size ≤ b) w') (L.map (List.map (renF fr))) xs) ∧ Below w.heap.size w w') := by
  have HJ : Hid (JCarries J) := hJ
  obtain ⟨iR, hiR, hR0, hR1, hR2⟩ := info_parts Tryz.info64
  obtain ⟨iS, hiS, hS0, hS1, hS2⟩ := info_parts Tryz.infoState
  obtain ⟨iW, hiW, hW0, hW1, hW2⟩ := info_parts Tryz.info73
  clear hJ
  go_enter Tryz.func30, Tryz.ntmps30
  go_wp2_with fail
  go_loopg [3, 4] N (fun fu out i wr => ∃ (k : Nat) (xs : List Value), fu = N - k ∧ k ≤ N ∧ i = .int .i64 (k : Int) ∧ Hid (RowAt (ROut J) A w.heap.size 64 1 wr ((L.take k).map (List.map (renF fr))) out xs ∧ Below w.heap.size w wr))
  case atStart => exact ⟨0, [], by omega, by omega, rfl, RowAt.nil, Below.refl _ _⟩
  case round =>
    obtain ⟨k, xs, rfl, hk, rfl, hr⟩ := hrel
    obtain ⟨ao, co, e⟩ := hr.out.1.shape hn.out hk
    subst e
    obtain ⟨w1, rfl⟩ : ∃ w1, w1 = wr := ⟨wr, rfl⟩
    by_cases hlt : k < N
    · obtain ⟨r, hs⟩ : ∃ r, L[k]? = some r := ⟨L[k]'(by rw [← hn.out]; exact hlt), by rw [List.getElem?_eq_getElem]⟩
      obtain ⟨g, hg, hg2⟩ := hmem.out
      obtain ⟨a, c, hcell, gr, ha, hlen, hin⟩ := hg2 k r hs
      have hix := ixR ad g N cap k hlt hg
      obtain ⟨n, hnr⟩ : ∃ n, n = r.length := ⟨_, rfl⟩
      rw [← hnr] at hcell ha hlen
      have HC : Hid (w.cell? ⟨g, k, none⟩ = some (.slice a n c)) := hcell
      have HNR : Hid (n = r.length ∧ L[k]? = some r) := ⟨hnr, hs⟩
      have HIN : Hid (∀ i s, r[i]? = some s → _) := hin
      have HA : Hid (0 < n → a = some ⟨gr, 0, none⟩) := ha
      have HR : Hid (RowAt (ROut J) A w.heap.size 64 1 w1 ((L.take k).map (List.map (renF fr))) (.slice ao k co) xs ∧ Below w.heap.size w w1) := hr.out
      clear hr hs hg hg2 hcell ha hin hnr
      go_wp2_with fail
      go_loopg [5, 6] n (fun fu rv i wr => ∃ (p : Nat) (ys : List Value), fu = n - p ∧ p ≤ n ∧ i = .int .i64 (p : Int) ∧ Hid (RowAt (RSt J) A w1.heap.size 69 9 wr ((r.take p).map (renF fr)) rv ys ∧ Below w1.heap.size w1 wr ∧ (p = 0 → rv = .slice none 0 0)))
      case atStart => exact ⟨0, [], by omega, by omega, rfl, RowAt.nil, Below.refl _ _, fun _ => rfl⟩
      case round =>
        obtain ⟨p, ys, rfl, hp, rfl, hr⟩ := hrel
        obtain ⟨a5, k5, e⟩ := hr.out.1.shape HNR.out.1 hp
        subst e
        obtain ⟨w2, rfl⟩ : ∃ w2, w2 = wr := ⟨wr, rfl⟩
        have hbw := ck_all HR.out.2 hr.out.2.1
        have cc := ck_cell hbw HC.out
        by_cases hlt2 : p < n
        · obtain ⟨s, hs⟩ : ∃ s, r[p]? = some s := ⟨r[p]'(by rw [← HNR.out.1]; exact hlt2), by rw [List.getElem?_eq_getElem]⟩
          obtain ⟨ve, vd, vl, pp, ay, ar, gy, capy, capr, hM, hnm, hto, hwl, hcl⟩ := HIN.out p s hs
          have HMM : Hid (StM A w gr p s ve vd vl pp ay ar gy capy capr) := hM
          have hM := hM.below hbw
          obtain ⟨v1, v2, v3, rfl⟩ := hM.he.sl'
          obtain ⟨v4, v5, v6, rfl⟩ := hM.hd.sl'
          obtain ⟨v7, v8, v9, rfl⟩ := hM.hl.sl'
          obtain ⟨S, hS⟩ : ∃ S, Value.string S = sv s.name := ⟨_, rfl⟩
          obtain ⟨M, hML⟩ : ∃ M, M = s.ways.length := ⟨_, rfl⟩
          obtain ⟨nr, hnr⟩ : ∃ nr, nr = s.regions.length := ⟨_, rfl⟩
          obtain ⟨d1, hd1⟩ : ∃ d1, d1 = s.first := ⟨_, rfl⟩
          obtain ⟨d2, hd2⟩ : ∃ d2, d2 = s.last := ⟨_, rfl⟩
          have hit := ixT a gr n c p hlt2 HA.out
          have c0 := hM.c0
          have c1 := hM.c1
          have c2 := hM.c2
          have c3 := hM.c3
          have c4 := hM.c4
          have c5 := hM.c5
          have c6 := hM.c6
          have c7 := hM.c7
          have c8 := hM.c8
          rw [← hS] at c0
          rw [← hd1] at c1
          rw [← hd2] at c2
          rw [← hML] at c7 hwl
          rw [← hnr] at c8
          obtain ⟨q, hq⟩ : ∃ q, q = w2.heap.size := ⟨_, rfl⟩
          obtain ⟨X, hX⟩ : ∃ X, X = w2.alloc (.cells #[.string ((⟨#[120]⟩ : ByteArray) ++ S), .bool d1, .bool d2, .slice v1 v2 v3, .slice v4 v5 v6, .slice v7 v8 v9, .pointer pp, .slice ay M capy, .slice ar nr capr] 69) := ⟨_, rfl⟩
          have hkx : X.heap[q]? = some (.cells #[.string ((⟨#[120]⟩ : ByteArray) ++ S), .bool d1, .bool d2, .slice v1 v2 v3, .slice v4 v5 v6, .slice v7 v8 v9, .pointer pp, .slice ay M capy, .slice ar nr capr] 69 (0, 0)) := by rw [hX, hq]; exact ck_new w2 _
          have hbx : Below w2.heap.size w2 X := by rw [hX]; exact ck_grown _ _
          have hxs : X.heap.size = w2.heap.size + 1 := by rw [hX]; simp
          have HX : Hid (X.heap[q]? = some (.cells #[.string ((⟨#[120]⟩ : ByteArray) ++ S), .bool d1, .bool d2, .slice v1 v2 v3, .slice v4 v5 v6, .slice v7 v8 v9, .pointer pp, .slice ay M capy, .slice ar nr capr] 69 (0, 0)) ∧ Below w2.heap.size w2 X ∧ X.heap.size = w2.heap.size + 1 ∧ q = w2.heap.size) := ⟨hkx, hbx, hxs, hq⟩
          have HS : Hid (Value.string S = sv s.name ∧ M = s.ways.length ∧ nr = s.regions.length ∧ d1 = s.first ∧ d2 = s.last ∧ r[p]? = some s) := ⟨hS, hML, hnr, hd1, hd2, hs⟩
          have HTO : Hid (∀ y ∈ s.ways, y.to.length ≤ 12) := hto
          have HCL : Hid (∀ w', Below w.heap.size w w' → Calls Tryz.prog 30 #[.slice ar nr capr] w' fun e w'' => ∃ a n m, e = .returned (.slice a n m) ∧ Hid (IsRegs (fun b => A b ∨ w'.heap.size ≤ b) w'' (J (fun b => A b ∨ w'.heap.size ≤ b) w'') (s.regions.map fr) (.slice a n m) ∧ Below w'.heap.size w' w'')) := by rw [hnr]; exact hcl
          have HR2 : Hid (RowAt (RSt J) A w1.heap.size 69 9 w2 ((r.take p).map (renF fr)) (.slice a5 p k5) ys ∧ Below w1.heap.size w1 w2 ∧ Below w.heap.size w w2) := ⟨hr.out.1, hr.out.2.1, hbw⟩
          have hSz : S.size ≤ 12 := by have : S.size = s.name.length := by { unfold sv at hS; injection hS with hS; rw [hS]; rfl }; omega
          have hadd : ¬ 9223372036854775807 < 1 + S.size := by omega
          clear hr hs hS hML hnr hd1 hd2 hto hcl hkx hbx hxs hnm hM hbw hSz
          go_upto_region 11 with fail
          rw [← hX, ← hq]
          clear hit c0 c1 c2 c3 c4 c5 c6 c7 c8 cc hX hq hadd
          go_wp2_with fail
          go_loopg [8, 9] M (fun fu wv i wr => ∃ (m : Nat) (zs : List Value), fu = M - m ∧ m ≤ M ∧ i = .int .i64 (m : Int) ∧ Hid (RowAt WayC A X.heap.size 73 7 wr ((s.ways.take m).map renW) wv zs ∧ Below X.heap.size X wr))
          case atStart => exact ⟨0, [], by omega, by omega, rfl, RowAt.nil, Below.refl _ _⟩
          case round =>
            obtain ⟨m, zs, rfl, hm, rfl, hr⟩ := hrel
            obtain ⟨a8, k8, e⟩ := hr.out.1.shape HS.out.2.1 hm
            subst e
            obtain ⟨w3, rfl⟩ : ∃ w3, w3 = wr := ⟨wr, rfl⟩
            have hkq := ck_block hr.out.2 HX.out.1
            have z7 := cell_row hkq 7 (u := .slice ay M capy) rfl
            have hb3 : Below w.heap.size w w3 := ck_all (ck_all HR2.out.2.2 HX.out.2.1) hr.out.2
            by_cases hltm : m < M
            · obtain ⟨y, hy⟩ : ∃ y, s.ways[m]? = some y := ⟨s.ways[m]'(by rw [← HS.out.2.1]; exact hltm), by rw [List.getElem?_eq_getElem]⟩
              obtain ⟨py, qy, hWM⟩ := HMM.out.hw.2.2 m y hy
              have hW3 := hWM.below hb3
              obtain ⟨y0, y1, y2, y3, y4, y5, y6, y7, y8⟩ := hW3
              obtain ⟨b1, b2, b3, rfl⟩ := y8.sl'
              have HW3 : Hid (IsE A w3 y.cond (.pointer py) ∧ IsSets A w3 y.sets (.slice b1 b2 b3)) := ⟨y7, y8⟩
              have hiw := ixW ay gy M capy m hltm (fun hp => by rw [HS.out.2.1] at hp; exact (HMM.out.hw.2.1 hp).1)
              obtain ⟨T, hT⟩ : ∃ T, Value.string T = sv y.to := ⟨_, rfl⟩
              obtain ⟨kd, hkd⟩ : ∃ kd : Int, kd = (y.kind : Int) := ⟨_, rfl⟩
              obtain ⟨tm, htm⟩ : ∃ tm : Int, tm = (y.times : Int) := ⟨_, rfl⟩
              obtain ⟨e1, he1⟩ : ∃ e1, e1 = y.now := ⟨_, rfl⟩
              obtain ⟨e2, he2⟩ : ∃ e2, e2 = y.back := ⟨_, rfl⟩
              rw [← hkd] at y0
              rw [← he1] at y1
              rw [← htm] at y3
              rw [← hT] at y5
              rw [← he2] at y6
              have hTz : T.size ≤ 12 := by
                have h1 := HTO.out y (List.mem_of_getElem? hy)
                have : T.size = y.to.length := by { unfold sv at hT; injection hT with hT; rw [hT]; rfl }
                omega
              have hadd : ¬ 9223372036854775807 < 1 + T.size := by omega
              obtain ⟨Z, hZ⟩ : ∃ Z, Z = w3.alloc (.cells #[.int .i64 kd, .bool e1, .pointer py, .int .i64 tm, .slice b1 b2 b3, .string ((⟨#[120]⟩ : ByteArray) ++ T), .bool e2] 73) := ⟨_, rfl⟩
              obtain ⟨q2, hq2⟩ : ∃ q2, q2 = w3.heap.size := ⟨_, rfl⟩
              have hkz : Z.heap[q2]? = some (.cells #[.int .i64 kd, .bool e1, .pointer py, .int .i64 tm, .slice b1 b2 b3, .string ((⟨#[120]⟩ : ByteArray) ++ T), .bool e2] 73 (0, 0)) := by rw [hZ, hq2]; exact ck_new w3 _
              have hbz : Below w3.heap.size w3 Z := by rw [hZ]; exact ck_grown _ _
              have HE : Hid (WayC (fun b => A b ∨ w3.heap.size ≤ b) Z (renW y) [.int .i64 kd, .bool e1, .pointer py, .int .i64 tm, .slice b1 b2 b3, .string ((⟨#[120]⟩ : ByteArray) ++ T), .bool e2]) := by
                refine ⟨.pointer py, .slice b1 b2 b3, ?_, HW3.out.1.carry fun b hb hlt => ⟨.inl hb, hbz.block b hlt⟩, HW3.out.2.carry fun b hb hlt => ⟨.inl hb, hbz.block b hlt⟩⟩
                rw [ren_sv T y.to hT, hkd, htm, he1, he2]
                rfl
              have HR3 : Hid (RowAt WayC A X.heap.size 73 7 w3 ((s.ways.take m).map renW) (.slice a8 m k8) zs ∧ Below X.heap.size X w3 ∧ Below w3.heap.size w3 Z ∧ s.ways[m]? = some y) := ⟨hr.out.1, hr.out.2, hbz, hy⟩
              have hown : Z.ownsRow X.heap.size 73 7 (.slice a8 m k8) m zs := (hr.out.1.low rway_carries hbz).own' HS.out.2.1 hm
              have hxz : X.heap.size ≤ Z.heap.size := Nat.le_trans hr.out.2.size hbz.size
              clear hr hy hT hkd htm he1 he2 hTz hbz hWM y7 y8 hkq hb3
              go_upto_region 17 with fail
              rw [← hZ, ← hq2]
              have x0 := cell_row hkz 0 (u := .int .i64 kd) rfl
              have x1 := cell_row hkz 1 (u := .bool e1) rfl
              have x2 := cell_row hkz 2 (u := .pointer py) rfl
              have x3 := cell_row hkz 3 (u := .int .i64 tm) rfl
              have x4 := cell_row hkz 4 (u := .slice b1 b2 b3) rfl
              have x5 := cell_row hkz 5 (u := .string ((⟨#[120]⟩ : ByteArray) ++ T)) rfl
              have x6 := cell_row hkz 6 (u := .bool e2) rfl
              clear hZ hq2 y0 y1 y2 y3 y4 y5 y6 hiw z7 hadd hkz
              go_wp2_with (at_builtin; refine wpList_append_own_at _ rfl (.tmp 53) (.tmp 55) 67 rfl X.heap.size 73 iW _ 7 80 Tryz.underlying67 hiW hW0 hW1 hW2 rfl (by decide) _ _ _ rfl (hown.alloc _) ⟨Z.heap.size, 0, none⟩ 1 1 [.int .i64 kd, .bool e1, .pointer py, .int .i64 tm, .slice b1 b2 b3, .string ((⟨#[120]⟩ : ByteArray) ++ T), .bool e2] rfl rfl (cells_new _ _ _) (by intro u hu; simp at hu; rcases hu with rfl | rfl | rfl | rfl | rfl | rfl | rfl <;> rfl) (by unfold maxLen; omega) (by omega) (by simp; omega) ?_; intro v5 w5 hown5 hgrow _ hat)
              go_roundg (M - (m + 1))
              case measure => omega
              case rel =>
                have hst := HR3.out.1.step rway_carries (fun b hb => Nat.lt_of_lt_of_le (hA.out b hb) (Nat.le_trans HR2.out.2.2.size HX.out.2.1.size)) HR3.out.2.1.size HR3.out.2.2.1 HE.out (by rw [take_map_len renW HS.out.2.1 hm]; exact hown5) hgrow hat
                exact ⟨m + 1, _, rfl, by omega, by go_num, by rw [take_map_snoc renW HR3.out.2.2.2]; exact hst.1, HR3.out.2.1.trans hst.2⟩
            · obtain rfl : M = m := by omega
              have z8 := cell_row hkq 8 (u := .slice ar nr capr) rfl
              have hcall := HCL.out w3 hb3
              have HR3 : Hid (RowAt WayC A X.heap.size 73 7 w3 ((s.ways.take M).map renW) (.slice a8 M k8) zs ∧ Below X.heap.size X w3 ∧ w3.heap[q]? = some (.cells #[.string ((⟨#[120]⟩ : ByteArray) ++ S), .bool d1, .bool d2, .slice v1 v2 v3, .slice v4 v5 v6, .slice v7 v8 v9, .pointer pp, .slice ay M capy, .slice ar nr capr] 69 (0, 0)) ∧ Below w.heap.size w w3) := ⟨hr.out.1, hr.out.2, hkq, hb3⟩
              clear hr hkq hb3
              go_upto_region 18 with fail
              clear z7
              go_wp2_with fail
              clear z8
              refine hcall.mono ?_
              rintro e w4 ⟨ra, rn, rm, rfl, h4⟩
              have hk4 := ck_block h4.out.2 HR3.out.2.2.1
              have f7 := ck_frozen hk4 7
              have f8 := ck_frozen hk4 8
              have g7 := cell_row hk4 7 (u := .slice ay M capy) rfl
              have g8 := cell_row hk4 8 (u := .slice ar nr capr) rfl
              obtain ⟨W9, hW9⟩ : ∃ W9, W9 = (w4.setCell ⟨q, 7, none⟩ (.slice a8 M k8)).setCell ⟨q, 8, none⟩ (.slice ra rn rm) := ⟨_, rfl⟩
              have hk9 : W9.heap[q]? = some (.cells #[.string ((⟨#[120]⟩ : ByteArray) ++ S), .bool d1, .bool d2, .slice v1 v2 v3, .slice v4 v5 v6, .slice v7 v8 v9, .pointer pp, .slice a8 M k8, .slice ra rn rm] 69 (0, 0)) := by rw [hW9]; exact ck_set (l := [.string ((⟨#[120]⟩ : ByteArray) ++ S), .bool d1, .bool d2, .slice v1 v2 v3, .slice v4 v5 v6, .slice v7 v8 v9, .pointer pp, .slice a8 M k8, .slice ar nr capr]) (ck_set (l := [.string ((⟨#[120]⟩ : ByteArray) ++ S), .bool d1, .bool d2, .slice v1 v2 v3, .slice v4 v5 v6, .slice v7 v8 v9, .pointer pp, .slice ay M capy, .slice ar nr capr]) hk4 7 _) 8 _
              have hqq : w2.heap.size ≤ q ∧ q < X.heap.size ∧ w.heap.size ≤ w2.heap.size ∧ X.heap.size ≤ w3.heap.size ∧ w3.heap.size ≤ w4.heap.size := ⟨by rw [HX.out.2.2.2]; exact Nat.le_refl _, lt_of_block HX.out.1, HR2.out.2.2.size, HR3.out.2.1.size, h4.out.2.size⟩
              have ko : ∀ b, b ≠ q → W9.heap[b]? = w4.heap[b]? := fun b hb => by rw [hW9, Below.heap_setCell _ _ _ _ hb, Below.heap_setCell _ _ _ _ hb]
              have hb29 : Below w2.heap.size w2 W9 := by
                have h1 : Below w2.heap.size w2 w4 := ck_all (ck_all HX.out.2.1 HR3.out.2.1) h4.out.2
                rw [hW9]
                exact (h1.setCell (p := ⟨q, 7, none⟩) hqq.1 _).setCell (p := ⟨q, 8, none⟩) hqq.1 _
              have hb09 : Below w.heap.size w W9 := ck_all HR2.out.2.2 hb29
              have HE : Hid (RSt J (fun b => A b ∨ w2.heap.size ≤ b) W9 (renF fr s) [.string ((⟨#[120]⟩ : ByteArray) ++ S), .bool d1, .bool d2, .slice v1 v2 v3, .slice v4 v5 v6, .slice v7 v8 v9, .pointer pp, .slice a8 M k8, .slice ra rn rm]) := by
                have kA : Keep A (fun b => A b ∨ w2.heap.size ≤ b) w W9 := fun b hb hlt => ⟨.inl hb, hb09.block b hlt⟩
                have hAq : ∀ b, A b → b < w.heap.size := hA.out
                have kW : Keep (fun b => A b ∨ X.heap.size ≤ b) (fun b => A b ∨ w2.heap.size ≤ b) w3 W9 := fun b hb hlt => by
                  refine ⟨by rcases hb with h | h; exact .inl h; exact .inr (by omega), ?_⟩
                  rw [ko b (by rcases hb with h | h; have := hAq b h; omega; omega), h4.out.2.block b hlt]
                have kR : Keep (fun b => A b ∨ w3.heap.size ≤ b) (fun b => A b ∨ w2.heap.size ≤ b) w4 W9 := fun b hb hlt => by
                  refine ⟨by rcases hb with h | h; exact .inl h; exact .inr (by omega), ?_⟩
                  rw [ko b (by rcases hb with h | h; have := hAq b h; omega; omega)]
                have hwy := HR3.out.1.done rway_carries
                rw [HS.out.2.1, List.take_length] at hwy
                refine ⟨.slice v1 v2 v3, .slice v4 v5 v6, .slice v7 v8 v9, .pointer pp, .slice a8 M k8, .slice ra rn rm, ?_, HMM.out.he.carry kA, HMM.out.hd.carry kA, HMM.out.hl.carry kA, HMM.out.hp.carry kA, ?_, ?_⟩
                · rw [ren_sv S s.name HS.out.1, HS.out.2.2.2.1, HS.out.2.2.2.2.1]
                  rfl
                · rw [HS.out.2.1]
                  exact IsWays.carry kW ⟨zs, hwy.1, hwy.2⟩
                · exact h4.out.1.carry kR (HJ.out kR)
              have hown : W9.ownsRow w1.heap.size 69 9 (.slice a5 p k5) p ys := (HR2.out.1.low (rst_carries HJ.out) hb29).own' HNR.out.1 (by omega)
              have HB9 : Hid (Below w2.heap.size w2 W9) := hb29
              have h19 : w1.heap.size ≤ W9.heap.size := Nat.le_trans HR2.out.2.1.size hb29.size
              clear hcall h4 hk4 hqq ko hb29 hb09
              go_upto_region 19 with fail
              rw [← hW9]
              have x0 := cell_row hk9 0 (u := .string ((⟨#[120]⟩ : ByteArray) ++ S)) rfl
              have x1 := cell_row hk9 1 (u := .bool d1) rfl
              have x2 := cell_row hk9 2 (u := .bool d2) rfl
              have x3 := cell_row hk9 3 (u := .slice v1 v2 v3) rfl
              have x4 := cell_row hk9 4 (u := .slice v4 v5 v6) rfl
              have x5 := cell_row hk9 5 (u := .slice v7 v8 v9) rfl
              have x6 := cell_row hk9 6 (u := .pointer pp) rfl
              have x7 := cell_row hk9 7 (u := .slice a8 M k8) rfl
              have x8 := cell_row hk9 8 (u := .slice ra rn rm) rfl
              clear f7 f8 g7 g8 hW9 hk9
              go_wp2_with (at_builtin; refine wpList_append_own_at _ rfl (.tmp 63) (.tmp 65) 64 rfl w1.heap.size 69 iS _ 9 152 Tryz.underlying64 hiS hS0 hS1 hS2 rfl (by decide) _ _ _ rfl (hown.alloc _) ⟨W9.heap.size, 0, none⟩ 1 1 [.string ((⟨#[120]⟩ : ByteArray) ++ S), .bool d1, .bool d2, .slice v1 v2 v3, .slice v4 v5 v6, .slice v7 v8 v9, .pointer pp, .slice a8 M k8, .slice ra rn rm] rfl rfl (cells_new _ _ _) (by intro u hu; simp at hu; rcases hu with rfl | rfl | rfl | rfl | rfl | rfl | rfl | rfl | rfl <;> rfl) (by unfold maxLen; omega) (by omega) (by simp; omega) ?_; intro v5' w5 hown5 hgrow _ hat)
              go_roundg (n - (p + 1))
              case measure => omega
              case rel =>
                have hst := HR2.out.1.step (rst_carries HJ.out) (fun b hb => Nat.lt_of_lt_of_le (hA.out b hb) HR.out.2.size) HR2.out.2.1.size HB9.out HE.out (by rw [take_map_len (renF fr) HNR.out.1 (by omega)]; exact hown5) hgrow hat
                exact ⟨p + 1, _, rfl, by omega, by go_num, by rw [take_map_snoc (renF fr) HS.out.2.2.2.2.2]; exact hst.1, HR2.out.2.1.trans hst.2, fun h => absurd h (by omega)⟩
        · obtain rfl : n = p := by omega
          have HE : Hid (ROut J (fun b => A b ∨ w1.heap.size ≤ b) w2 (r.map (renF fr)) [.slice a5 n k5]) := by
            have hd := hr.out.1.done (rst_carries HJ.out)
            have htk : r.take n = r := by rw [HNR.out.1, List.take_length]
            rw [htk] at hd
            refine ⟨_, rfl, ⟨ys, hd.1, hd.2⟩, fun he => hr.out.2.2 ?_⟩
            rw [HNR.out.1]
            exact List.length_eq_zero_iff.2 (List.map_eq_nil_iff.1 he)
          have HB2 : Hid (Below w1.heap.size w1 w2) := hr.out.2.1
          have hown : w2.ownsRow w.heap.size 64 1 (.slice ao k co) k xs := (HR.out.1.low (rout_carries HJ.out) hr.out.2.1).own' hn.out hk
          have h02 : w.heap.size ≤ w2.heap.size := hbw.size
          clear hr hbw
          go_wp2_with (at_builtin; refine wpList_append_own_at _ rfl (.tmp 67) (.tmp 69) 26 rfl w.heap.size 64 iR _ 1 24 Tryz.underlying26 hiR hR0 hR1 hR2 rfl (by decide) _ _ _ rfl (hown.alloc _) ⟨w2.heap.size, 0, none⟩ 1 1 [.slice a5 n k5] rfl rfl (cells_new _ _ _) (by intro u hu; simp at hu; subst hu; rfl) (by unfold maxLen; omega) (by omega) (by simp; omega) ?_; intro v5' w5 hown5 hgrow _ hat)
          go_roundg (N - (k + 1))
          case measure => omega
          case rel =>
            have hst := HR.out.1.step (rout_carries HJ.out) hA.out HR.out.2.size HB2.out HE.out (by rw [take_map_len _ hn.out hk]; exact hown5) hgrow hat
            exact ⟨k + 1, _, rfl, by omega, by go_num, by rw [take_map_snoc _ HNR.out.2]; exact hst.1, HR.out.2.trans hst.2⟩
    · obtain rfl : k = N := by omega
      have hd := hr.out.1.done (rout_carries HJ.out)
      have hb := hr.out.2
      rw [hn.out, List.take_length] at hd
      rw [List.length_map] at hd
      have HD : Hid _ := And.intro hd hb
      clear hd hb hr
      go_wp2_with fail
      go_ret
      exact ⟨_, _, _, rfl, ⟨xs, by rw [hn.out]; exact HD.out.1.1, HD.out.1.2⟩, HD.out.2⟩
end Kx
end Go.Proofs.YtpogmfliojcnjaaGreatDoor
/- keep's apart: an expression of variables with a letter more ahead. -/
namespace Go.Proofs.YtpogmfliojcnjaaGreatDoor
open Go.RowKit Px
namespace Kx
/-- what apart hands back: all of it is new -/
def ApOut (e : E) (w : World) (r : Ending) (w' : World) : Prop := ∃ u, r = .returned (.pointer u) ∧ Hid (IsE (fun b => w.heap.size ≤ b) w' (apE e) (.pointer u) ∧ Below w.heap.size w w')
theorem ap_sv (S : ByteArray) (s : Str) (h : Value.string S = sv s) : Value.string ((⟨#[113]⟩ : ByteArray) ++ S) = sv (apN s) := by
  unfold sv at h ⊢
  injection h with h
  rw [h, ByteArray.mk_append_mk]
  simp [apN]
theorem apart_nil (w : World) : Calls Tryz.prog 33 #[.pointer none] w (ApOut .nil w) := by
  go_enter Tryz.func33, Tryz.ntmps33
  go_wp2_with fail
  go_ret
  exact ⟨none, rfl, rfl, Below.refl _ _⟩
set_option maxRecDepth 100000 in
set_option maxHeartbeats 8000000 in
theorem apart_node {w : World} {g : Nat} {cd nu : Int} {N : ByteArray} {p q : Option Addr} {l r : E} (hg : w.heap[g]? = some (.cells #[.int .i64 cd, .int .i64 nu, .string N, .pointer p, .pointer q] 132 (0, 0))) (hN : N.size ≤ 12) {NN : ByteArray} (hNN : Hid (NN = if cd = 2 ∨ cd = 3 then (⟨#[113]⟩ : ByteArray) ++ N else ⟨#[]⟩))
    (hl : Hid (∀ W, Below w.heap.size w W → Calls Tryz.prog 33 #[.pointer p] W (ApOut l W))) (hr : Hid (∀ W, Below w.heap.size w W → Calls Tryz.prog 33 #[.pointer q] W (ApOut r W))) :
    Calls Tryz.prog 33 #[.pointer (some ⟨g, 0, none⟩)] w fun e w' => ∃ g', e = .returned (.pointer (some ⟨g', 0, none⟩)) ∧ Hid (w.heap.size ≤ g' ∧ (∃ x y, w'.heap[g']? = some (.cells #[.int .i64 cd, .int .i64 nu, .string NN, .pointer x, .pointer y] 132 (0, 0)) ∧ IsE (fun b => w.heap.size ≤ b) w' (apE l) (.pointer x) ∧ IsE (fun b => w.heap.size ≤ b) w' (apE r) (.pointer y)) ∧ Below w.heap.size w w') := by
  have HC : Hid (∀ W, Below w.heap.size w W → W.cell? ⟨g, 0, none⟩ = some (.int .i64 cd) ∧ W.cell? ⟨g, 1, none⟩ = some (.int .i64 nu) ∧ W.cell? ⟨g, 2, none⟩ = some (.string N) ∧ W.cell? ⟨g, 3, none⟩ = some (.pointer p) ∧ W.cell? ⟨g, 4, none⟩ = some (.pointer q)) := fun W hW => ⟨ck_cell hW (cell_row hg 0 rfl), ck_cell hW (cell_row hg 1 rfl), ck_cell hW (cell_row hg 2 rfl), ck_cell hW (cell_row hg 3 rfl), ck_cell hW (cell_row hg 4 rfl)⟩
  have hbd : Below w.heap.size w w.drew := (Below.refl _ _).drew
  have hadd : ¬ 9223372036854775807 < 1 + N.size := by omega
  obtain ⟨c0, c1, c2, c3, c4⟩ := HC.out w.drew hbd
  have hcl := hl.out w.drew hbd
  unfold ApOut at hcl
  have HD : Hid (∀ W, Below w.drew.heap.size w.drew W → Below w.heap.size w W) := fun W hW => ck_all hbd hW
  clear hl hg hbd hN
  go_enter Tryz.func33, Tryz.ntmps33
  go_upto_region 3 with fail
  go_cut [3] (fun s3 wx => ∃ g' x y, s3 = .pointer (some ⟨g', 0, none⟩) ∧ Hid (w.heap.size ≤ g' ∧ wx.heap[g']? = some (.cells #[.int .i64 cd, .int .i64 nu, .string ⟨#[]⟩, .pointer x, .pointer y] 132 (0, 0)) ∧ IsE (fun b => w.heap.size ≤ b ∧ b ≠ g') wx (apE l) (.pointer x) ∧ IsE (fun b => w.heap.size ≤ b ∧ b ≠ g') wx (apE r) (.pointer y) ∧ Below w.heap.size w wx))
  case first =>
    have T1 : Hid True := trivial
    have T2 : Hid True := trivial
    go_region_held3 (fun W => W.cell? ⟨g, 0, none⟩ = some (.int .i64 cd) ∧ W.cell? ⟨g, 1, none⟩ = some (.int .i64 nu) ∧ W.cell? ⟨g, 3, none⟩ = some (.pointer p) ∧ W.cell? ⟨g, 4, none⟩ = some (.pointer q)) (first | with_reducible exact HQ4.out | with_reducible exact HQ3.out | go_keep)
      (first
        | (clear T1; go_at_call 33; refine hcl.mono ?_; rintro e w3 ⟨x, rfl, h3⟩; have hb3 : Below w.heap.size w w3 := HD.out w3 h3.out.2; have HQ3 : Hid (w3.cell? ⟨g, 0, none⟩ = some (.int .i64 cd) ∧ w3.cell? ⟨g, 1, none⟩ = some (.int .i64 nu) ∧ w3.cell? ⟨g, 3, none⟩ = some (.pointer p) ∧ w3.cell? ⟨g, 4, none⟩ = some (.pointer q)) := ⟨(HC.out w3 hb3).1, (HC.out w3 hb3).2.1, (HC.out w3 hb3).2.2.2.1, (HC.out w3 hb3).2.2.2.2⟩; have hcr := hr.out w3 hb3; unfold ApOut at hcr)
        | (clear T2; go_at_call 33; refine hcr.mono ?_; rintro e w4 ⟨y, rfl, h4⟩; have hb4 : Below w.heap.size w w4 := ck_all hb3 h4.out.2; have HQ4 : Hid (w4.cell? ⟨g, 0, none⟩ = some (.int .i64 cd) ∧ w4.cell? ⟨g, 1, none⟩ = some (.int .i64 nu) ∧ w4.cell? ⟨g, 3, none⟩ = some (.pointer p) ∧ w4.cell? ⟨g, 4, none⟩ = some (.pointer q)) := ⟨(HC.out w4 hb4).1, (HC.out w4 hb4).2.1, (HC.out w4 hb4).2.2.2.1, (HC.out w4 hb4).2.2.2.2⟩))
    all_goals
      go_wp2_with fail
      go_meet
      case rel =>
        have hs3 : w.heap.size ≤ w3.heap.size := hb3.size
        have hs4 : w3.heap.size ≤ w4.heap.size := h4.out.2.size
        refine ⟨w4.heap.size, x, y, rfl, by omega, ck_new w4 _, h3.out.1.carry fun b hb hlt => ⟨⟨hb, by omega⟩, ?_⟩, h4.out.1.carry fun b hb hlt => ⟨⟨Nat.le_trans hs3 hb, by omega⟩, ?_⟩, ck_all hb4 (ck_grown _ _)⟩
        · rw [Below.heap_alloc _ _ _ (by omega), h4.out.2.block b hlt]
        · rw [Below.heap_alloc _ _ _ hlt]
  case rest =>
    obtain ⟨g', x, y, rfl, h⟩ := hcut
    clear c0 c1 c2 c3 c4 hcl
    obtain ⟨c0, c1, c2, c3, c4⟩ := HC.out wc h.out.2.2.2.2
    have d2 := cell_row h.out.2.1 2 (u := .string ⟨#[]⟩) rfl
    have f2 := ck_frozen h.out.2.1 2
    have hne : ∀ b, (w.heap.size ≤ b ∧ b ≠ g') → b ≠ g' := fun _ hb => hb.2
    obtain ⟨X, hX⟩ : ∃ X, X = wc.setCell ⟨g', 2, none⟩ (.string ((⟨#[113]⟩ : ByteArray) ++ N)) := ⟨_, rfl⟩
    have HX : Hid (w.heap.size ≤ g' ∧ (∃ x y, X.heap[g']? = some (.cells #[.int .i64 cd, .int .i64 nu, .string ((⟨#[113]⟩ : ByteArray) ++ N), .pointer x, .pointer y] 132 (0, 0)) ∧ IsE (fun b => w.heap.size ≤ b) X (apE l) (.pointer x) ∧ IsE (fun b => w.heap.size ≤ b) X (apE r) (.pointer y)) ∧ Below w.heap.size w X) := by
      have kp : Keep (fun b => w.heap.size ≤ b ∧ b ≠ g') (fun b => w.heap.size ≤ b) wc X := fun b hb _ => ⟨hb.1, by rw [hX, Below.heap_setCell _ _ _ _ hb.2]⟩
      refine ⟨h.out.1, ⟨x, y, ?_, h.out.2.2.1.carry kp, h.out.2.2.2.1.carry kp⟩, ?_⟩
      · rw [hX]; exact ck_set (l := [.int .i64 cd, .int .i64 nu, .string ⟨#[]⟩, .pointer x, .pointer y]) h.out.2.1 2 _
      · rw [hX]; exact h.out.2.2.2.2.setCell (p := ⟨g', 2, none⟩) h.out.1 _
    have HY : Hid (w.heap.size ≤ g' ∧ (∃ x y, wc.heap[g']? = some (.cells #[.int .i64 cd, .int .i64 nu, .string ⟨#[]⟩, .pointer x, .pointer y] 132 (0, 0)) ∧ IsE (fun b => w.heap.size ≤ b) wc (apE l) (.pointer x) ∧ IsE (fun b => w.heap.size ≤ b) wc (apE r) (.pointer y)) ∧ Below w.heap.size w wc) :=
      ⟨h.out.1, ⟨x, y, h.out.2.1, h.out.2.2.1.carry fun b hb _ => ⟨hb.1, rfl⟩, h.out.2.2.2.1.carry fun b hb _ => ⟨hb.1, rfl⟩⟩, h.out.2.2.2.2⟩
    clear h hne
    by_cases e2 : cd = 2
    · have t2 : (cd == 2) = true := by simpa using e2
      have HE : Hid (cd = 2) := e2
      clear e2
      go_wp2_with fail
      go_ret
      rw [← hX]
      have hn := hNN.out
      rw [if_pos (.inl HE.out)] at hn
      rw [hn]
      exact ⟨g', rfl, HX.out⟩
    · have t2 : (cd == 2) = false := by simpa using e2
      by_cases e3 : cd = 3
      · have t3 : (cd == 3) = true := by simpa using e3
        have HE : Hid (cd = 3) := e3
        clear e2 e3
        go_wp2_with fail
        go_ret
        rw [← hX]
        have hn := hNN.out
        rw [if_pos (.inr HE.out)] at hn
        rw [hn]
        exact ⟨g', rfl, HX.out⟩
      · have t3 : (cd == 3) = false := by simpa using e3
        have HE : Hid (¬ (cd = 2 ∨ cd = 3)) := by rintro (h | h); exact e2 h; exact e3 h
        clear e2 e3
        go_wp2_with fail
        go_ret
        have hn := hNN.out
        rw [if_neg HE.out] at hn
        rw [hn]
        exact ⟨g', rfl, HY.out⟩
theorem apart_all : ∀ (e : E) (A : Nat → Prop) (w : World) (v : Value), Sh.TE e → IsE A w e v → Calls Tryz.prog 33 #[v] w (ApOut e w) := by
  intro e
  induction e with
  | nil =>
    intro A w v _ hv
    obtain rfl : v = .pointer none := hv
    exact apart_nil w
  | node b o a l r ihl ihr =>
    intro A w v hT hv
    obtain ⟨_, _, _, hn, _, hl, hr⟩ := hT
    obtain ⟨g, lv, rv, rfl, _, hg, il, ir⟩ := hv
    obtain ⟨p, rfl⟩ := il.ptr
    obtain ⟨q, rfl⟩ := ir.ptr
    obtain ⟨N, hN⟩ : ∃ N, Value.string N = sv a.name := ⟨_, rfl⟩
    have hNs : N.size ≤ 12 := by have : N.size = a.name.length := by { unfold sv at hN; injection hN with hN; rw [hN]; rfl }; omega
    rw [← hN] at hg
    refine (apart_node hg hNs (NN := if (a.code : Int) = 2 ∨ (a.code : Int) = 3 then (⟨#[113]⟩ : ByteArray) ++ N else ⟨#[]⟩) rfl (fun W hW => ihl A W _ hl (il.carry fun b hb hlt => ⟨hb, hW.block b hlt⟩)) (fun W hW => ihr A W _ hr (ir.carry fun b hb hlt => ⟨hb, hW.block b hlt⟩))).mono ?_
    rintro e w' ⟨g', rfl, h⟩
    obtain ⟨h1, ⟨x, y, h2, h3, h4⟩, h5⟩ := h.out
    refine ⟨_, rfl, ⟨g', .pointer x, .pointer y, rfl, h1, ?_, h3, h4⟩, h5⟩
    rw [h2]
    have e : Value.string (if (a.code : Int) = 2 ∨ (a.code : Int) = 3 then (⟨#[113]⟩ : ByteArray) ++ N else ⟨#[]⟩) = sv (if a.code = 2 ∨ a.code = 3 then apN a.name else []) := by
      by_cases hc : a.code = 2 ∨ a.code = 3
      · rw [if_pos hc, if_pos (by omega), ap_sv N a.name hN]
      · rw [if_neg hc, if_neg (by omega)]; rfl
    rw [e]
end Kx
end Go.Proofs.YtpogmfliojcnjaaGreatDoor
