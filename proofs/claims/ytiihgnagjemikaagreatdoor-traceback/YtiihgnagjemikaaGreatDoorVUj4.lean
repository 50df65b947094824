/- A region that is laid: its ways. -/
import Derived.Test.YtiihgnagjemikaaGreatDoorVUj2
import Derived.Test.YtiihgnagjemikaaGreatDoorVUn2
namespace Go.Proofs.YtiihgnagjemikaaGreatDoor
open Go.RowKit Px

/-- a way that was laid, as its cells -/
def WayL (A : Nat → Prop) (w : World) (ns : List Str) (gS : Nat) (y : Wy) (c : List Value) : Prop :=
  ∃ p q t, c = [.int .i64 (y.kind : Int), .bool y.now, .pointer p, .int .i64 (y.times : Int), q, sv y.to, .bool y.back, .pointer (some ⟨gS, t * 11, none⟩), .int .i64 0] ∧ IsE A w y.cond (.pointer p) ∧ IsSets A w y.sets q ∧ fnd ns y.to = some t
def cntW {σ : Type} (s : StF σ) (i i' jw : Nat) : Nat := if i' < i then s.ways.length else if i' = i then jw else 0
structure L2 (A : Nat → Prop) {k : Nat} (w wr : World) (L : List (StF (St k))) (gR gS mb i jw : Nat) (role : Nat → Role) (ad10 : Nat → Option Addr) (cap10 : Nat → Nat) (gI : Nat → Nat) (gr : Nat → Nat → Nat) (gW : Nat → Nat) (ad9 : Nat → Option Addr) (cap9 : Nat → Nat) (Bi : Nat) (xs : List Value) : Prop where
  bel : Below w.heap.size w wr
  reg : wr.heap[gR]? = some (.cells #[pS gS (firstI L), .pointer none, .pointer none] 101 (0, 0))
  map : MapF wr mb L.length (namK (snames L) L.length)
  fz : ∀ o, wr.frozen? ⟨gS, o, none⟩ = false
  cells : ∀ i' s, L[i']? = some s → ∃ ve vd vl p yv rv, (∀ j u, [sv s.name, .bool s.first, .bool s.last, ve, vd, vl, .pointer p, yv, rv, .slice (ad9 i') (cntW s i i' jw) (cap9 i'), .slice (ad10 i') s.regions.length (cap10 i')][j]? = some u → wr.cell? ⟨gS, i' * 11 + j, none⟩ = some u) ∧ IsSets A w s.enter ve ∧ IsSets A w s.during vd ∧ IsSets A w s.leave vl ∧ IsE A w s.rests (.pointer p)
  ins : ∀ i' s, L[i']? = some s → (0 < s.regions.length → ad10 i' = some ⟨gI i', 0, none⟩ ∧ w.heap.size ≤ gI i' ∧ gI i' < Bi ∧ role (gI i') = Role.ins i') ∧ ∀ j r, s.regions[j]? = some r → wr.cell? ⟨gI i', j, none⟩ = some (.pointer (some ⟨gr i' j, 0, none⟩)) ∧ RegM A k wr (fun b => w.heap.size ≤ b ∧ b < wr.heap.size ∧ role b = Role.inner i' j) r (layD k r) (gr i' j)
  wdone : ∀ i' s, i' < i → L[i']? = some s → (0 < s.ways.length → ad9 i' = some ⟨gW i', 0, none⟩ ∧ w.heap.size ≤ gW i' ∧ gW i' < Bi ∧ role (gW i') = Role.ways i') ∧ ∀ j y, s.ways[j]? = some y → WMem A wr (snames L) gS (gW i') j y 0
  nil9 : ∀ i' s, i < i' → L[i']? = some s → ad9 i' = none ∧ cap9 i' = 0
  cur : ∀ s, L[i]? = some s → wr.ownsRow Bi 182 9 (.slice (ad9 i) jw (cap9 i)) jw xs ∧ Rows (WayL A w (snames L) gS) (s.ways.take jw) xs
  rb : ∀ b, Bi ≤ b → role b = Role.ways i
  rg : role gR = Role.reg
  rs : role gS = Role.sts
  rm : role mb = Role.junk
  bR : w.heap.size ≤ gR
  bS : w.heap.size ≤ gS
  lR : gR < Bi
  lS : gS < Bi
  lM : mb < Bi
  lB : Bi ≤ wr.heap.size
  lw : w.heap.size ≤ Bi
section
variable {A : Nat → Prop} {k : Nat} {w wr : World} {L : List (StF (St k))} {gR gS mb i jw : Nat} {role : Nat → Role} {ad10 : Nat → Option Addr} {cap10 : Nat → Nat} {gI : Nat → Nat} {gr : Nat → Nat → Nat} {gW : Nat → Nat} {ad9 : Nat → Option Addr} {cap9 : Nat → Nat} {Bi : Nat} {xs : List Value}
theorem L1.ways (h : L1 A w wr L gR gS mb L.length role ad10 cap10 gI gr) : ∃ role', L2 A w wr L gR gS mb 0 0 role' ad10 cap10 gI gr (fun _ => 0) (fun _ => none) (fun _ => 0) wr.heap.size [] := by
  have lR := lt_of_block h.reg
  have lM := h.map.lt
  have hb := h.bel.size
  refine ⟨fun b => if b < wr.heap.size then role b else Role.ways 0, h.bel, by have := h.reg; rwa [List.take_length] at this, h.map, h.fz, fun i' s hs => ?_, fun i' s hs => ?_, fun i' s hi => absurd hi (by omega), fun _ _ _ _ => ⟨rfl, rfl⟩, fun s hs => ⟨World.ownsRow_nil _ _ _ _, rfl⟩, fun b hb => if_neg (by omega), ?_, ?_, ?_, h.bR, h.bS, lR, h.ls, lM, Nat.le_refl _, hb⟩
  · have hl : i' < L.length := (List.getElem?_eq_some_iff.1 hs).1
    obtain ⟨ve, vd, vl, p, yv, rv, hc, hh⟩ := h.done i' s hl hs
    refine ⟨ve, vd, vl, p, yv, rv, fun j u hj => ?_, hh⟩
    have e : cntW s 0 i' 0 = 0 := by unfold cntW; rw [if_neg (by omega)]; split <;> rfl
    rw [e] at hj
    exact hc j u hj
  · have hl : i' < L.length := (List.getElem?_eq_some_iff.1 hs).1
    obtain ⟨a1, a2⟩ := h.ins i' s hl hs
    refine ⟨fun hp => ?_, fun j r hj => ⟨(a2 j r hj).1, RegM.mono k (fun b hb => ⟨hb.1, hb.2.1, by rw [if_pos hb.2.1]; exact hb.2.2⟩) (a2 j r hj).2⟩⟩
    obtain ⟨q1, q2, q3, q4⟩ := a1 hp
    exact ⟨q1, q2, q3, by rw [if_pos q3]; exact q4⟩
  · show (if gR < wr.heap.size then role gR else _) = _
    rw [if_pos lR]; exact h.rg
  · show (if gS < wr.heap.size then role gS else _) = _
    rw [if_pos h.ls]; exact h.rs
  · show (if mb < wr.heap.size then role mb else _) = _
    rw [if_pos lM]; exact h.rm
/-- a row of ways, as ways that run -/
theorem row_ways {s : StF (St k)} {v : Value} {n : Nat} (hbel : Below w.heap.size w wr) (hown : wr.ownsRow Bi 182 9 v n xs) (hrows : Rows (WayL A w (snames L) gS) s.ways xs) {g : Nat} (hg : v.ownBlock = some g) : ∀ j y, s.ways[j]? = some y → WMem A wr (snames L) gS g j y 0 := by
  intro j y hj
  have hc := fun q u hu => World.ownsRow.cells hown (g := g) hg q u hu
  have hfz : ∀ o, wr.frozen? ⟨g, o, none⟩ = false := fun o => by
    rcases hown.2 with ⟨e, _⟩ | ⟨g', cap, cur, e, _, hgg, _⟩
    · rw [e] at hg; exact absurd hg (by simp [Value.ownBlock])
    · rw [e] at hg
      injection hg with hg
      rw [← hg]
      exact ck_frozen hgg o
  have kp : Keep A A w wr := fun b hb hlt => ⟨hb, hbel.block b hlt⟩
  obtain ⟨c, ⟨p, q, t, rfl, h1, h2, h3⟩, hx⟩ := Rows.get (k := 9) (fun a c ⟨p, q, t, hc, _⟩ => by rw [hc]; rfl) hrows j y hj
  have hcell : ∀ m u, [Value.int .i64 (y.kind : Int), .bool y.now, .pointer p, .int .i64 (y.times : Int), q, sv y.to, .bool y.back, .pointer (some ⟨gS, t * 11, none⟩), .int .i64 0][m]? = some u → wr.cell? ⟨g, j * 9 + m, none⟩ = some u := fun m u hu => by
    have := hc _ u (hx m u hu)
    have ad : (⟨g, 0, none⟩ : Addr).add (j * 9 + m) = ⟨g, j * 9 + m, none⟩ := by unfold Addr.add; split <;> simp_all
    rw [ad] at this
    exact this
  exact ⟨⟨p, q, hcell 0 _ rfl, hcell 1 _ rfl, hcell 2 _ rfl, hcell 3 _ rfl, hcell 4 _ rfl, hcell 5 _ rfl, hcell 6 _ rfl, h1.carry kp, h2.carry kp⟩, ⟨t, h3, hcell 7 _ rfl⟩, hcell 8 _ rfl, hfz _⟩
theorem L2.next {s : StF (St k)} (h : L2 A w wr L gR gS mb i jw role ad10 cap10 gI gr gW ad9 cap9 Bi xs) (hs : L[i]? = some s) (hj : jw = s.ways.length) :
    ∃ role' gW', L2 A w wr L gR gS mb (i + 1) 0 role' ad10 cap10 gI gr gW' ad9 cap9 wr.heap.size [] := by
  obtain ⟨hown, hrows⟩ := h.cur s hs
  have hB := h.lB
  have hlw := h.lw
  have ht : s.ways.take jw = s.ways := by rw [hj, List.take_length]
  rw [ht] at hrows
  have hro : ∀ b, b < wr.heap.size → (if b < wr.heap.size then role b else Role.ways (i + 1)) = role b := fun b hb => if_pos hb
  refine ⟨fun b => if b < wr.heap.size then role b else Role.ways (i + 1), fun i' => if i' = i then ((Value.slice (ad9 i) jw (cap9 i)).ownBlock.getD 0) else gW i', h.bel, h.reg, h.map, h.fz, fun i' s' hs' => ?_, fun i' s' hs' => ?_, fun i' s' hi' hs' => ?_, fun i' s' hi' hs' => h.nil9 i' s' (by omega) hs', fun s' hs' => ?_, fun b hb => if_neg (by omega), ?_, ?_, ?_, h.bR, h.bS, by have := h.lR; omega, by have := h.lS; omega, by have := h.lM; omega, Nat.le_refl _, by omega⟩
  · obtain ⟨ve, vd, vl, p, yv, rv, hc, hh⟩ := h.cells i' s' hs'
    refine ⟨ve, vd, vl, p, yv, rv, fun j u hju => hc j u ?_, hh⟩
    have e : cntW s' (i + 1) i' 0 = cntW s' i i' jw := by
      unfold cntW
      by_cases h1 : i' < i
      · rw [if_pos (by omega), if_pos h1]
      · by_cases h2 : i' = i
        · subst h2
          rw [hs] at hs'
          injection hs' with hs'
          subst hs'
          rw [if_pos (by omega), if_neg (by omega), if_pos rfl, hj]
        · rw [if_neg (by omega), if_neg h1, if_neg h2]
          split <;> rfl
    rw [← e]; exact hju
  · obtain ⟨a1, a2⟩ := h.ins i' s' hs'
    refine ⟨fun hp => ?_, fun j r hjr => ⟨(a2 j r hjr).1, RegM.mono k (fun b hb => ⟨hb.1, hb.2.1, by rw [hro b hb.2.1]; exact hb.2.2⟩) (a2 j r hjr).2⟩⟩
    obtain ⟨q1, q2, q3, q4⟩ := a1 hp
    exact ⟨q1, q2, by omega, by rw [hro _ (by omega)]; exact q4⟩
  · by_cases e : i' = i
    · subst e
      rw [hs] at hs'
      injection hs' with hs'
      subst hs'
      simp only [if_pos]
      have hob : 0 < s.ways.length → ∃ g cap, ad9 i' = some ⟨g, 0, none⟩ ∧ (Value.slice (ad9 i') jw (cap9 i')).ownBlock = some g ∧ cap = cap := fun hp => by
        rcases hown.2 with ⟨e, h0⟩ | ⟨g', cap, cur, e, _⟩
        · omega
        · injection e with e1 e2 e3
          exact ⟨g', 0, e1, by rw [e1]; rfl, rfl⟩
      refine ⟨fun hp => ?_, fun j y hy => ?_⟩
      · obtain ⟨g', _, e1, e2, _⟩ := hob hp
        obtain ⟨l1, l2⟩ := hown.lt g' e2
        rw [e2]
        exact ⟨e1, by simp only [Option.getD_some]; omega, by simp only [Option.getD_some]; omega, by simp only [Option.getD_some]; rw [hro _ l2]; exact h.rb _ l1⟩
      · obtain ⟨g', _, e1, e2, _⟩ := hob (by have := (List.getElem?_eq_some_iff.1 hy).1; omega)
        rw [e2]
        exact row_ways h.bel hown hrows e2 j y hy
    · simp only [if_neg e]
      obtain ⟨a1, a2⟩ := h.wdone i' s' (by omega) hs'
      refine ⟨fun hp => ?_, a2⟩
      obtain ⟨q1, q2, q3, q4⟩ := a1 hp
      exact ⟨q1, q2, by omega, by rw [hro _ (by omega)]; exact q4⟩
  · obtain ⟨e1, e2⟩ := h.nil9 (i + 1) s' (by omega) hs'
    rw [e1, e2]
    exact ⟨World.ownsRow_nil _ _ _ _, rfl⟩
  · show (if gR < wr.heap.size then role gR else _) = _
    rw [hro _ (by have := h.lR; omega)]; exact h.rg
  · show (if gS < wr.heap.size then role gS else _) = _
    rw [hro _ (by have := h.lS; omega)]; exact h.rs
  · show (if mb < wr.heap.size then role mb else _) = _
    rw [hro _ (by have := h.lM; omega)]; exact h.rm
theorem L2.step {s : StF (St k)} {y : Wy} {rec : List Value} {X Y w5 W6 : World} {o o2 : Obj} {a5 : Option Addr} {c5 : Nat} (hA : ∀ b, A b → b < w.heap.size) (h : L2 A w wr L gR gS mb i jw role ad10 cap10 gI gr gW ad9 cap9 Bi xs) (hs : L[i]? = some s) (hy : s.ways[jw]? = some y) (hrec : WayL A w (snames L) gS y rec)
    (hX : X.heap = (wr.alloc o).heap ∧ X.os = wr.os ∧ X.tape = wr.tape ∧ X.output = wr.output) (hY : Y.heap = (X.alloc o2).heap ∧ Y.os = X.os ∧ Y.tape = X.tape ∧ Y.output = X.output) (hg : Y.grownBy w5 (Value.slice (ad9 i) jw (cap9 i)).ownBlock) (hown5 : w5.ownsRow Bi 182 9 (.slice a5 (jw + 1) c5) (jw + 1) (xs ++ rec)) (hW : W6 = w5.setCell ⟨gS, i * 11 + 9, none⟩ (.slice a5 (jw + 1) c5)) :
    L2 A w W6 L gR gS mb i (jw + 1) role ad10 cap10 gI gr gW (fun i' => if i' = i then a5 else ad9 i') (fun i' => if i' = i then c5 else cap9 i') Bi (xs ++ rec) := by
  obtain ⟨hown, hrows⟩ := h.cur s hs
  obtain ⟨x1, x2, x3, x4⟩ := hX
  obtain ⟨y1, y2, y3, y4⟩ := hY
  have sX : X.heap.size = wr.heap.size + 1 := by rw [x1]; simp
  have sY : Y.heap.size = wr.heap.size + 2 := by rw [y1]; simp; omega
  have s5 := hg.size
  have s6 : W6.heap.size = w5.heap.size := by rw [hW]; simp [World.setCell]
  have hob : ∀ b, (Value.slice (ad9 i) jw (cap9 i)).ownBlock = some b → Bi ≤ b := fun b hb => (hown.lt b hb).1
  have hlB := h.lB; have hlS := h.lS; have hlR := h.lR; have hlM := h.lM; have hlw := h.lw; have hbS := h.bS; have hbl := h.bel.size
  have b6 : ∀ b, b ≠ gS → W6.heap[b]? = w5.heap[b]? := fun b hb => by rw [hW]; exact Below.heap_setCell _ _ _ _ hb
  have bY : ∀ b, b < wr.heap.size → Y.heap[b]? = wr.heap[b]? := fun b hb => by
    have e1 : Y.heap[b]? = X.heap[b]? := by rw [y1]; exact Below.heap_alloc _ _ _ (by omega)
    have e2 : X.heap[b]? = wr.heap[b]? := by rw [x1]; exact Below.heap_alloc _ _ _ hb
    rw [e1, e2]
  have b5 : ∀ b, b < wr.heap.size → (Value.slice (ad9 i) jw (cap9 i)).ownBlock ≠ some b → w5.heap[b]? = wr.heap[b]? := fun b hb hne => by rw [hg.block b (by omega) (fun e => hne e.symm), bY b hb]
  have blow : ∀ b, b < Bi → b ≠ gS → W6.heap[b]? = wr.heap[b]? := fun b hb hne => by rw [b6 b hne, b5 b (by omega) (fun e => by have := hob b e; omega)]
  have hAo : ∀ b, A b → W6.heap[b]? = wr.heap[b]? := fun b hb => by have := hA b hb; exact blow b (by omega) (by omega)
  have h5S : w5.heap[gS]? = wr.heap[gS]? := b5 gS (by omega) (fun e => by have := hob gS e; omega)
  have c5S : ∀ o', w5.cell? ⟨gS, o', none⟩ = wr.cell? ⟨gS, o', none⟩ := fun o' => World.cell?_of_block (w := wr) (a := ⟨gS, o', none⟩) h5S
  have nRS : gR ≠ gS := fun e => by have := h.rs; rw [← e, h.rg] at this; simp at this
  have nSM : mb ≠ gS := fun e => by have := h.rs; rw [← e, h.rm] at this; simp at this
  have he6 : W6.os = w5.os ∧ W6.tape = w5.tape ∧ W6.output = w5.output := by rw [hW]; exact ⟨rfl, rfl, rfl⟩
  refine ⟨⟨by rw [he6.1, hg.os, y2, x2]; exact h.bel.os, by rw [he6.2.1, hg.tape, y3, x3]; exact h.bel.tape, by rw [he6.2.2, hg.output, y4, x4]; exact h.bel.output, by omega, fun b hb => by rw [blow b (by omega) (by omega), h.bel.block b hb]⟩, by rw [blow gR hlR nRS]; exact h.reg, h.map.keep (blow mb hlM nSM), ?_, ?_, ?_, ?_, ?_, ?_, h.rb, h.rg, h.rs, h.rm, h.bR, h.bS, hlR, hlS, hlM, by omega, hlw⟩
  · intro o'
    have e5 : w5.frozen? ⟨gS, o', none⟩ = wr.frozen? ⟨gS, o', none⟩ := by simp only [World.frozen?, h5S]
    rw [hW, World.frozen?_setCell, e5]; exact h.fz o'
  · intro i' s' hs'
    obtain ⟨ve, vd, vl, p, yv, rv, hc, hh⟩ := h.cells i' s' hs'
    refine ⟨ve, vd, vl, p, yv, rv, fun j u hj => ?_, hh⟩
    have hj11 : j < 11 := by simpa using (List.getElem?_eq_some_iff.1 hj).1
    by_cases e : i' = i
    · subst e
      rw [hs] at hs'
      injection hs' with hs'
      subst hs'
      simp only [if_pos] at hj
      have ec : cntW s i' i' (jw + 1) = jw + 1 := by unfold cntW; rw [if_neg (by omega), if_pos rfl]
      have ec0 : cntW s i' i' jw = jw := by unfold cntW; rw [if_neg (by omega), if_pos rfl]
      rw [ec] at hj
      rw [ec0] at hc
      by_cases e9 : j = 9
      · subst e9
        simp at hj
        rw [hW, ← hj]
        have h9 := hc 9 _ rfl
        rw [← c5S] at h9
        exact sc_same h9
      · rw [hW, sc_off (by omega), c5S]
        refine hc j u ?_
        match j, hj11, e9, hj with
        | 0, _, _, hj => exact hj
        | 1, _, _, hj => exact hj
        | 2, _, _, hj => exact hj
        | 3, _, _, hj => exact hj
        | 4, _, _, hj => exact hj
        | 5, _, _, hj => exact hj
        | 6, _, _, hj => exact hj
        | 7, _, _, hj => exact hj
        | 8, _, _, hj => exact hj
        | 10, _, _, hj => exact hj
    · simp only [if_neg e] at hj
      have ec : cntW s' i i' (jw + 1) = cntW s' i i' jw := by unfold cntW; rw [if_neg e, if_neg e]
      rw [ec] at hj
      rw [hW, sc_off (by omega), c5S]
      exact hc j u hj
  · intro i' s' hs'
    obtain ⟨a1, a2⟩ := h.ins i' s' hs'
    refine ⟨a1, fun j r hj => ?_⟩
    obtain ⟨c1, c2⟩ := a2 j r hj
    have hlt : j < s'.regions.length := (List.getElem?_eq_some_iff.1 hj).1
    obtain ⟨q1, q2, q3, q4⟩ := a1 (by omega)
    refine ⟨by rw [World.cell?_of_block (w := wr) (a := ⟨gI i', j, none⟩) (blow _ q3 (fun e => by have := h.rs; rw [← e, q4] at this; simp at this))]; exact c1, ?_⟩
    refine RegM.mono k (fun b hb => ⟨hb.1, by omega, hb.2.2⟩) (RegM.keep k c2 (fun b hb _ => hAo b hb) (fun b hb => ?_))
    rw [b6 b (fun e => by have := h.rs; rw [← e, hb.2.2] at this; simp at this), b5 b hb.2.1 (fun e => by have := h.rb b (hob b e); rw [hb.2.2] at this; simp at this)]
  · intro i' s' hi' hs'
    have e : i' ≠ i := by omega
    simp only [if_neg e]
    obtain ⟨a1, a2⟩ := h.wdone i' s' hi' hs'
    refine ⟨a1, fun j y' hy' => ?_⟩
    have hlt : j < s'.ways.length := (List.getElem?_eq_some_iff.1 hy').1
    obtain ⟨q1, q2, q3, q4⟩ := a1 (by omega)
    exact (a2 j y' hy').keep (fun b hb _ => hAo b hb) (blow _ q3 (fun e => by have := h.rs; rw [← e, q4] at this; simp at this))
  · intro i' s' hi' hs'
    have e : i' ≠ i := by omega
    simp only [if_neg e]
    exact h.nil9 i' s' hi' hs'
  · intro s' hs'
    rw [hs] at hs'
    injection hs' with hs'
    subst hs'
    simp only [if_pos]
    refine ⟨own_keep (A := fun b => b ≠ gS) (A' := fun _ => True) hown5 (fun g hg' => ?_) (fun b hb _ => ⟨trivial, b6 b hb⟩), ?_⟩
    · have := (hown5.lt g hg').1; omega
    · rw [List.take_add_one, hy]
      exact hrows.append (Rows.one hrec)
theorem L2.done (h : L2 A w wr L gR gS mb L.length jw role ad10 cap10 gI gr gW ad9 cap9 Bi xs) (h1 : firsts L = 1) : RegM A (k + 1) wr (fun b => w.heap.size ≤ b ∧ b < wr.heap.size) L (layD (k + 1) L) gR := by
  obtain ⟨fi, hfi, hfl⟩ := fst_some h1
  have hlB := h.lB; have hlS := h.lS; have hlR := h.lR
  have kp : Keep A A w wr := fun b hb hlt => ⟨hb, h.bel.block b hlt⟩
  refine ⟨⟨gS, gW, gI, gr, role, fi⟩, ⟨?_, hfi, ⟨⟨h.bR, Nat.lt_of_lt_of_le hlR hlB⟩, h.rg⟩, ⟨⟨h.bS, Nat.lt_of_lt_of_le hlS hlB⟩, h.rs⟩, ?_, fun i hi => ?_, fun i hi => ?_, fun i s x hs hx => ?_⟩⟩
  · have := h.reg; rw [hfi] at this; exact this
  · show (List.map _ L).length = _
    rw [List.length_map]
  · exact absurd (show (none : Option Nat) = some i from hi) (by simp)
  · exact absurd (show (none : Option Nat) = some i from hi) (by simp)
  · have hx' : (List.map (fun s : StF (St k) => (⟨s.ways.map fun _ => (0 : Int), s.regions.map (layD k)⟩ : SdF (Rd k))) L)[i]? = some x := hx
    rw [List.getElem?_map, hs] at hx'
    injection hx' with hx'
    subst hx'
    have hl : i < L.length := (List.getElem?_eq_some_iff.1 hs).1
    obtain ⟨ve, vd, vl, p, yv, rv, hc, e1, e2, e3, e4⟩ := h.cells i s hs
    have ec : cntW s L.length i jw = s.ways.length := by unfold cntW; rw [if_pos hl]
    rw [ec] at hc
    obtain ⟨w1, w2⟩ := h.wdone i s hl hs
    obtain ⟨i1, i2⟩ := h.ins i s hs
    refine ⟨hc 0 _ rfl, hc 2 _ rfl, ⟨ve, hc 3 _ rfl, e1.carry kp⟩, ⟨vd, hc 4 _ rfl, e2.carry kp⟩, ⟨vl, hc 5 _ rfl, e3.carry kp⟩, ⟨p, hc 6 _ rfl, e4.carry kp⟩, ⟨_, _, hc 9 _ rfl, fun hp => ?_⟩, by simp, fun j y c hy hcc => ?_, ⟨_, _, hc 10 _ rfl, fun hp => ?_⟩, by simp, fun j r d hr hd => ?_⟩
    · obtain ⟨q1, q2, q3, q4⟩ := w1 hp
      exact ⟨q1, ⟨q2, Nat.lt_of_lt_of_le q3 hlB⟩, q4⟩
    · rw [List.getElem?_map, hy] at hcc
      injection hcc with hcc
      subst hcc
      exact w2 j y hy
    · obtain ⟨q1, q2, q3, q4⟩ := i1 hp
      exact ⟨q1, ⟨q2, Nat.lt_of_lt_of_le q3 hlB⟩, q4⟩
    · rw [List.getElem?_map, hr] at hd
      injection hd with hd
      subst hd
      obtain ⟨c1, c2⟩ := i2 j r hr
      exact ⟨c1, RegM.mono k (fun b hb => ⟨⟨hb.1, hb.2.1⟩, hb.2.2⟩) c2⟩
end
end Go.Proofs.YtiihgnagjemikaaGreatDoor
/- The runner's lay: a way is added. -/
namespace Go.Proofs.YtiihgnagjemikaaGreatDoor
open Go.RowKit Px

theorem Tryz.uInfoWay : (Tryz.prog.info? 182).map (fun i => (i.zero, i.size, i.bytes)) = some (some (.agg #[.int .i64 0, .bool false, .pointer none, .int .i64 0, .slice none 0 0, .string ⟨#[]⟩, .bool false, .pointer none, .int .i64 0]), 9, 96) := by kernel_rfl
theorem appW (B : Nat) (w : World) (v : Value) (n : Nat) (xs rec : List Value) (q : Nat) (h : w.ownsRow B 182 9 v n xs) (hl : rec.length = 9) (hq : ∀ j u, rec[j]? = some u → w.cell? ⟨q, j, none⟩ = some u) (h1 : ∀ u ∈ rec, u.oneCell' = true) (hB : B ≤ w.heap.size) (hn : n ≤ 1000000) :
    ∃ g cap w', (Builtin.append_ #[176, 176] 176 #[v, .slice (some ⟨q, 0, none⟩) 1 1]).run Tryz.prog w = .ok (.slice (some ⟨g, 0, none⟩) (n + 1) cap) w' ∧ w'.ownsRow B 182 9 (.slice (some ⟨g, 0, none⟩) (n + 1) cap) (n + 1) (xs ++ rec) ∧ w.grownBy w' v.ownBlock := by
  obtain ⟨i0, hi, hz0, hz1, hz2⟩ := info_parts Tryz.uInfoWay
  obtain ⟨g, cap, w', hr, h2, h3, h4, h5⟩ := run_append_lies (P := Tryz.prog) w 176 176 B 182 i0 _ 9 96 Tryz.underlying176 hi hz0 hz1 hz2 rfl (by decide) v n _ h ⟨q, 0, none⟩ 1 1 rec (by omega)
    (fun j u hu => by
      have ad : (⟨q, 0, none⟩ : Addr).add j = ⟨q, j, none⟩ := by unfold Addr.add; split <;> simp_all
      rw [ad]; exact hq j u hu)
    h1 (by omega) (by unfold maxLen; omega) (by omega) hB _ rfl
  exact ⟨g, cap, w', hr, h2, h3⟩
section
variable {A : Nat → Prop} {k : Nat} {w wr : World} {L : List (StF (St k))} {gR gS mb i jw : Nat} {role : Nat → Role} {ad10 : Nat → Option Addr} {cap10 : Nat → Nat} {gI : Nat → Nat} {gr : Nat → Nat → Nat} {gW : Nat → Nat} {ad9 : Nat → Option Addr} {cap9 : Nat → Nat} {Bi : Nat} {xs : List Value}
theorem L2.alloc (hA : ∀ b, A b → b < w.heap.size) (h : L2 A w wr L gR gS mb i jw role ad10 cap10 gI gr gW ad9 cap9 Bi xs) (o : Obj) : L2 A w (wr.alloc o) L gR gS mb i jw role ad10 cap10 gI gr gW ad9 cap9 Bi xs := by
  have bk : ∀ b, b < wr.heap.size → (wr.alloc o).heap[b]? = wr.heap[b]? := fun b hb => Below.heap_alloc _ _ _ hb
  have sz : (wr.alloc o).heap.size = wr.heap.size + 1 := by simp
  have hlB := h.lB; have hlS := h.lS; have hlR := h.lR; have hlM := h.lM; have hlw := h.lw; have hbl := h.bel.size
  have hAo : ∀ b, A b → (wr.alloc o).heap[b]? = wr.heap[b]? := fun b hb => bk b (by have := hA b hb; omega)
  refine ⟨h.bel.alloc hbl o, by rw [bk gR (by omega)]; exact h.reg, h.map.keep (bk mb (by omega)), fun o' => ?_, fun i' s hs => ?_, fun i' s hs => ?_, fun i' s hi hs => ?_, h.nil9, fun s hs => ⟨(h.cur s hs).1.alloc o, (h.cur s hs).2⟩, h.rb, h.rg, h.rs, h.rm, h.bR, h.bS, hlR, hlS, hlM, by omega, hlw⟩
  · rw [World.frozen?_of_block (w := wr) (a := ⟨gS, o', none⟩) (bk gS (by omega))]; exact h.fz o'
  · obtain ⟨ve, vd, vl, p, yv, rv, hc, hh⟩ := h.cells i' s hs
    refine ⟨ve, vd, vl, p, yv, rv, fun j u hj => ?_, hh⟩
    rw [World.cell?_of_block (w := wr) (a := ⟨gS, i' * 11 + j, none⟩) (bk gS (by omega))]; exact hc j u hj
  · obtain ⟨a1, a2⟩ := h.ins i' s hs
    refine ⟨a1, fun j r hj => ?_⟩
    obtain ⟨c1, c2⟩ := a2 j r hj
    have hlt : j < s.regions.length := (List.getElem?_eq_some_iff.1 hj).1
    obtain ⟨q1, q2, q3, q4⟩ := a1 (by omega)
    refine ⟨by rw [World.cell?_of_block (w := wr) (a := ⟨gI i', j, none⟩) (bk _ (by show gI i' < _; omega))]; exact c1, ?_⟩
    exact RegM.mono k (fun b hb => ⟨hb.1, by omega, hb.2.2⟩) (RegM.keep k c2 (fun b hb _ => hAo b hb) (fun b hb => bk b hb.2.1))
  · obtain ⟨a1, a2⟩ := h.wdone i' s hi hs
    refine ⟨a1, fun j y' hy' => ?_⟩
    have hlt : j < s.ways.length := (List.getElem?_eq_some_iff.1 hy').1
    obtain ⟨q1, q2, q3, q4⟩ := a1 (by omega)
    exact (a2 j y' hy').keep (fun b hb _ => hAo b hb) (bk _ (by omega))
end
end Go.Proofs.YtiihgnagjemikaaGreatDoor
