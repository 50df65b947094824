/- Plain mathematics: each piece that is read goes on. -/
import Derived.Test.YtobamalnbjbmiaaGreatDoorQPpart
import Derived.Test.YtobamalnbjbmiaaGreatDoorQPpart2
namespace Go.Proofs.YtobamalnbjbmiaaGreatDoor
open Go.RowKit Px

theorem semi_lt {L : List Lx.Tok} {i m : Nat} (h : semi L i = .ok m) : i < m := by
  rw [semi] at h
  split at h
  · injection h with h; omega
  · exact absurd h (by simp)
theorem opt_le (L : List Lx.Tok) (k : Str) (i : Nat) : i ≤ opt L k i := by unfold opt; split <;> omega
theorem part_lt {L : List Lx.Tok} {ρ : Type} {reg : Nat → Nat → Except F (List ρ × Nat × Nat)} (hr : ∀ c i l c' j, reg c i = .ok (l, c', j) → i < j) {s s' : StF ρ} {c i c' j : Nat} (h : Px.part L ρ reg s c i = .ok (some (s', c', j))) : i < j := by
  rw [Px.part] at h
  split at h
  · split at h
    · exact absurd h (by simp)
    · rename_i hy
      have := way_lt hy
      injection h with h; injection h with h; injection h with _ h; injection h with _ h; omega
  · split at h
    · split at h
      · exact absurd h (by simp)
      · rename_i hy
        have := hr _ _ _ _ _ hy
        injection h with h; injection h with h; injection h with _ h; injection h with _ h; omega
    · split at h
      · split at h
        · exact absurd h (by simp)
        · rename_i hy
          have h1 := (sets_len _ _ _ _ _ hy).1
          simp at h1
          split at h
          · exact absurd h (by simp)
          · rename_i hm
            have := semi_lt hm
            injection h with h; injection h with h; injection h with _ h; injection h with _ h; omega
      · split at h
        · split at h
          · exact absurd h (by simp)
          · rename_i hy
            have h1 := (sets_len _ _ _ _ _ hy).1
            simp at h1
            split at h
            · exact absurd h (by simp)
            · rename_i hm
              have := semi_lt hm
              injection h with h; injection h with h; injection h with _ h; injection h with _ h; omega
        · split at h
          · split at h
            · exact absurd h (by simp)
            · rename_i hy
              have h1 := (sets_len _ _ _ _ _ hy).1
              simp at h1
              split at h
              · exact absurd h (by simp)
              · rename_i hm
                have := semi_lt hm
                injection h with h; injection h with h; injection h with _ h; injection h with _ h; omega
          · split at h
            · split at h
              · split at h
                · exact absurd h (by simp)
                · rename_i hy
                  have h1 := expr_lt hy
                  split at h
                  · exact absurd h (by simp)
                  · rename_i hm
                    have := semi_lt hm
                    injection h with h; injection h with h; injection h with _ h; injection h with _ h; omega
              · exact absurd h (by simp)
            · exact absurd h (by simp)
theorem parts_le {L : List Lx.Tok} {ρ : Type} {reg : Nat → Nat → Except F (List ρ × Nat × Nat)} (hr : ∀ c i l c' j, reg c i = .ok (l, c', j) → i < j) : ∀ (f : Nat) (s : StF ρ) (c i : Nat) (s' : StF ρ) (c' j : Nat), parts L ρ reg f s c i = .ok (s', c', j) → i ≤ j := by
  intro f
  induction f with
  | zero => intro s c i s' c' j h; rw [parts] at h; injection h with h; injection h with _ h; injection h with _ h; omega
  | succ f ih =>
    intro s c i s' c' j h
    rw [parts] at h
    split at h
    · exact absurd h (by simp)
    · split at h
      · injection h with h; injection h with _ h; injection h with _ h; omega
      · exact absurd h (by simp)
    · rename_i hp
      have h1 := part_lt hr hp
      have h2 := ih _ _ _ _ _ _ h
      omega
theorem state_lt {L : List Lx.Tok} {ρ : Type} {reg : Nat → Nat → Except F (List ρ × Nat × Nat)} (hr : ∀ c i l c' j, reg c i = .ok (l, c', j) → i < j) {fi la : Bool} {c i c' j : Nat} {s : StF ρ} (h : state L ρ reg fi la c i = .ok (s, c', j)) : i < j := by
  rw [state] at h
  split at h
  · split at h
    · exact absurd h (by simp)
    · split at h
      · exact absurd h (by simp)
      · split at h
        · injection h with h; injection h with _ h; injection h with _ h; omega
        · split at h
          · have := parts_le hr _ _ _ _ _ _ _ h; omega
          · exact absurd h (by simp)
  · exact absurd h (by simp)
theorem states_le {L : List Lx.Tok} {ρ : Type} {reg : Nat → Nat → Except F (List ρ × Nat × Nat)} (hr : ∀ c i l c' j, reg c i = .ok (l, c', j) → i < j) : ∀ (f : Nat) (l : List (StF ρ)) (c i : Nat) (l' : List (StF ρ)) (c' j : Nat), states L ρ reg f l c i = .ok (l', c', j) → i ≤ j := by
  intro f
  induction f with
  | zero => intro l c i l' c' j h; rw [states] at h; injection h with h; injection h with _ h; injection h with _ h; omega
  | succ f ih =>
    intro l c i l' c' j h
    rw [states] at h
    split at h
    · split at h
      · exact absurd h (by simp)
      · rename_i hs
        have h1 := state_lt hr hs
        have h2 := ih _ _ _ _ _ _ h
        have h3 := opt_le L kInitial i
        have h4 := opt_le L kFinal (opt L kInitial i)
        omega
    · split at h
      · injection h with h; injection h with _ h; injection h with _ h; omega
      · exact absurd h (by simp)
theorem region_lt {L : List Lx.Tok} : ∀ (k c i : Nat) (l : List (St k)) (c' j : Nat), region L k c i = .ok (l, c', j) → i < j := by
  intro k
  induction k with
  | zero => intro c i l c' j h; rw [region] at h; exact absurd h (by simp)
  | succ k ih =>
    intro c i l c' j h
    have h' : (if tx L i = kOpen then states L (St k) (region L k) L.length [] c (i + 1) else .error (3, pl L i)) = .ok (l, c', j) := h
    by_cases ho : tx L i = kOpen
    · rw [if_pos ho] at h'
      have := states_le ih _ _ _ _ _ _ _ h'; omega
    · rw [if_neg ho] at h'
      exact absurd h' (by simp)
end Go.Proofs.YtobamalnbjbmiaaGreatDoor
/- braced around the parts of a state: the closure is met by its contract. -/
namespace Go.Proofs.YtobamalnbjbmiaaGreatDoor
open Go.RowKit Px

set_option maxRecDepth 100000 in
set_option maxHeartbeats 2000000 in
theorem braced134 {C : Ctx} {w : World} {i st ins : Nat} {c1 c2 : Value} (h : PS C w i st ins 0) (R : Ending → World → Prop) (Inv : Nat → World → Prop) (Fin : World → Prop) (g0 : Nat)
    (herr : tx C.L i ≠ kOpen → ∀ e w', Thrown C w (3, pl C.L i) e w' → R e w')
    (hstart : tx C.L i = kOpen → ∀ w1, PS C w1 (i + 1) st ins 0 → Fr w.heap.size [C.rb] w w1 → Inv g0 w1)
    (hround : ∀ g w1, Inv g w1 → Calls Tryz.prog 173 #[c1, c2] w1 fun e w2 => (e = .returned (.bool true) ∧ ∃ g', g' < g ∧ Inv g' w2) ∨ (e = .returned (.bool false) ∧ Fin w2) ∨ (∃ ch, e = .panicked ch ∧ R e w2))
    (hfin : ∀ w2, Fin w2 → ∃ j st', PS C w2 j st' ins 0 ∧ (tx C.L j ≠ kShut → ∀ e w3, Thrown C w2 (3, pl C.L j) e w3 → R e w3) ∧ (tx C.L j = kShut → ∀ w3, PS C w3 (j + 1) st' ins 0 → Fr w2.heap.size [C.rb] w2 w3 → R (.returned (.tuple #[])) w3)) :
    Calls Tryz.prog 83 #[.pointer (some ⟨C.rb, 0, none⟩), .func (.func 173) #[] #[c1, c2]] w R := by
  have HE : Hid _ := herr
  have HS : Hid _ := hstart
  have HR : Hid _ := hround
  have HF : Hid _ := hfin
  clear herr hstart hround hfin
  go_enter Tryz.func83, Tryz.ntmps83
  go_wp2_with (go_at_call 81; refine (need_any h ⟨#[123]⟩ kOpen rfl (by decide)).mono ?_; rintro e w1 h1; rcases h1.cases with ⟨f, hr1, q, rfl, hq⟩ | ⟨_, v1, hr1, rfl, ⟨rfl, hp1⟩, hf1⟩; (· exact ⟨rfl, HE.out (need_bad hr1).1 _ _ (by rw [← (need_bad hr1).2]; exact ⟨q, rfl, hq⟩)⟩))
  have hI : Hid (Inv g0 w1) := HS.out (need_ok hr1) w1 hp1 hf1
  go_loopg [] g0 (fun g wr => Hid (Inv g wr))
  case atStart => exact hI
  case round =>
    go_wp2_with fail
    refine (HR.out _ _ hrel.out).mono ?_
    rintro e w2 (⟨rfl, g', hg', hi'⟩ | ⟨rfl, hfn⟩ | ⟨ch, rfl, hR⟩)
    · go_wp2_with fail
      go_roundg g'
      case measure => exact hg'
      case rel => exact hi'
    · obtain ⟨j, st', hp2, hb1, hb2⟩ := HF.out w2 hfn
      have HB1 : Hid _ := hb1
      have HB2 : Hid _ := hb2
      clear hb1 hb2
      go_wp2_with (go_at_call 81; refine (need_any hp2 ⟨#[125]⟩ kShut rfl (by decide)).mono ?_; rintro e w3 h3; rcases h3.cases with ⟨f, hr3, q, rfl, hq⟩ | ⟨_, v3, hr3, rfl, ⟨rfl, hp3⟩, hf3⟩; (· exact ⟨rfl, HB1.out (need_bad hr3).1 _ _ (by rw [← (need_bad hr3).2]; exact ⟨q, rfl, hq⟩)⟩))
      go_end0
      exact HB2.out (need_ok hr3) w3 hp3 hf3
    · exact ⟨rfl, hR⟩
end Go.Proofs.YtobamalnbjbmiaaGreatDoor
/- state: what stands behind initial and final. -/
namespace Go.Proofs.YtobamalnbjbmiaaGreatDoor
open Go.RowKit Px

theorem OutX.cases {B : Nat} {X : List Nat} {α : Type} {ok : α → Value → World → Prop} {w : World} {r : Except F α} {e : Ending} {w' : World} (h : OutX B X ok w r e w') : (∃ f, Hid (r = .error f) ∧ ThrownX B X w f e w') ∨ (∃ a v, Hid (r = .ok a) ∧ e = .returned v ∧ ok a v w' ∧ Fr B X w w') := by
  cases r with
  | error f => exact .inl ⟨f, rfl, h⟩
  | ok a => obtain ⟨v, h1, h2, h3⟩ := h; exact .inr ⟨a, v, rfl, h1, h2, h3⟩
theorem ThrownX.up {B : Nat} {X : List Nat} {w w1 w' : World} {f : F} {e : Ending} (h : ThrownX B X w1 f e w') (hf : Fr B X w w1) : ThrownX B X w f e w' := by
  obtain ⟨q, h1, h2, h3, h4⟩ := h
  exact ⟨q, h1, h2, Nat.le_trans hf.size h3, hf.trans h4⟩
/-- the two variables that the closure holds -/
structure Boxes (C : Ctx) (B sb ba bb : Nat) (w : World) : Prop where
  a : w.cell? ⟨ba, 0, none⟩ = some (.pointer (some ⟨C.rb, 0, none⟩))
  b : w.cell? ⟨bb, 0, none⟩ = some (.pointer (some ⟨sb, 0, none⟩))
  la : ba < B
  lb : bb < B
  na : ba ∉ [C.rb, sb]
  nb : bb ∉ [C.rb, sb]
theorem Boxes.carry {C : Ctx} {B sb ba bb : Nat} {w w' : World} (h : Boxes C B sb ba bb w) (hf : Fr B [C.rb, sb] w w') : Boxes C B sb ba bb w' :=
  ⟨by rw [hf.cell (p := ⟨ba, 0, none⟩) h.la h.na]; exact h.a, by rw [hf.cell (p := ⟨bb, 0, none⟩) h.lb h.nb]; exact h.b, h.la, h.lb, h.na, h.nb⟩

set_option maxRecDepth 100000 in
set_option maxHeartbeats 2000000 in
theorem state1_any {C : Ctx} {k B sb ins i c ba bb : Nat} {w : World} {s : StF (St k)} (h : PS C w i c ins 0) (hE : Env C B sb w) (hS : SUx k B sb w s) (hb : Bd i s) (hR : Region C k) (hk : ins + k = 6) (hx : Boxes C B sb ba bb w) :
    Calls Tryz.prog 173 #[.pointer (some ⟨ba, 0, none⟩), .pointer (some ⟨bb, 0, none⟩)] w (OutX B [C.rb, sb] (PartOk C k B sb ins i c s) w (Px.part C.L (St k) (region C.L k) s c i)) := by
  have x1 := hx.a
  have x2 := hx.b
  have hp := part_any h hE hS hb hR hk (region_lt k)
  go_enter Tryz.func173, Tryz.ntmps173
  go_wp2_with (go_at_call 174; refine hp.mono ?_; rintro e w1 h1; rcases h1.cases with ⟨f, hr, q, rfl, hq⟩ | ⟨a, v, hr, rfl, hv, hf⟩; (· exact ⟨rfl, by rw [hr.out]; exact ⟨q, rfl, hq⟩⟩))
  go_ret
  rw [hr.out]
  exact ⟨v, rfl, hv, hf⟩

def StOk (C : Ctx) (k B sb ins : Nat) (x : StF (St k) × Nat × Nat) (v : Value) (w' : World) : Prop := v = .tuple #[] ∧ PS C w' x.2.2 x.2.1 ins 0 ∧ SUx k B sb w' x.1
theorem Env.carry {C : Ctx} {B sb : Nat} {w w' : World} (h : Env C B sb w) (hs : w.heap.size ≤ w'.heap.size) : Env C B sb w' := ⟨h.hrb, h.hsb, h.hne, Nat.le_trans h.hB hs⟩

theorem brace_state {C : Ctx} {k B sb ins i c ba bb : Nat} {w : World} {s : StF (St k)} (h : PS C w i c ins 0) (hE : Env C B sb w) (hS : SUx k B sb w s) (hb : Bd i s) (hR : Region C k) (hk : ins + k = 6) (hx : Boxes C B sb ba bb w) :
    Calls Tryz.prog 83 #[.pointer (some ⟨C.rb, 0, none⟩), .func (.func 173) #[] #[.pointer (some ⟨ba, 0, none⟩), .pointer (some ⟨bb, 0, none⟩)]] w
      (OutX B [C.rb, sb] (StOk C k B sb ins) w (if tx C.L i = kOpen then parts C.L (St k) (region C.L k) C.L.length s c (i + 1) else .error (3, pl C.L i))) := by
  obtain ⟨RES, hRES⟩ : ∃ RES, RES = (if tx C.L i = kOpen then parts C.L (St k) (region C.L k) C.L.length s c (i + 1) else .error (3, pl C.L i)) := ⟨_, rfl⟩
  rw [← hRES]
  have hX : ∀ x ∈ [C.rb], x < B := by have := hE.hrb; simp; omega
  have hsn : sb ∉ [C.rb] := by have := hE.hne; simp; omega
  have carS : ∀ {w1 w2 : World} {s1 : StF (St k)}, SUx k B sb w1 s1 → Fr w1.heap.size [C.rb] w1 w2 → SUx k B sb w2 s1 := by
    rintro w1 w2 s1 ⟨e, d, l, p, y, r, xe, xd, xl, xy, xr, hs⟩ hf
    exact ⟨e, d, l, p, y, r, xe, xd, xl, xy, xr, hs.carry hX hsn hf⟩
  refine braced134 h _ (fun g w1 => ∃ (s1 : StF (St k)) (c1 j : Nat), RES = parts C.L (St k) (region C.L k) g s1 c1 j ∧ C.L.length ≤ g + j ∧ Bd j s1 ∧ PS C w1 j c1 ins 0 ∧ SUx k B sb w1 s1 ∧ Fr B [C.rb, sb] w w1)
    (fun w2 => ∃ (s1 : StF (St k)) (c1 j : Nat), RES = (if tx C.L j = kShut then .ok (s1, c1, j + 1) else .error (3, pl C.L j)) ∧ PS C w2 j c1 ins 0 ∧ SUx k B sb w2 s1 ∧ Fr B [C.rb, sb] w w2) C.L.length ?_ ?_ ?_ ?_
  · intro hn e w' ht
    rw [hRES, if_neg hn]
    exact ht.x (Fr.refl _ _ _) hE.hB (by simp)
  · intro ho w1 hp1 hf1
    refine ⟨s, c, i + 1, by rw [hRES, if_pos ho], by omega, ⟨by have := hb.e; omega, by have := hb.d; omega, by have := hb.l; omega, by have := hb.y; omega, by have := hb.r; omega⟩, hp1, carS hS hf1, hf1.x hE.hB⟩
  · rintro g w1 ⟨s1, c1, j, hr1, hg, hb1, hp1, hS1, hf1⟩
    obtain ⟨g', rfl⟩ : ∃ g', g = g' + 1 := ⟨g - 1, by have := hp1.lt; omega⟩
    refine (state1_any hp1 (hE.carry hf1.size) hS1 hb1 hR hk (hx.carry hf1)).mono ?_
    rintro e w2 h2
    rcases h2.cases with ⟨f, hr2, ht⟩ | ⟨o, v, hr2, rfl, hv, hf2⟩
    · refine .inr (.inr ?_)
      obtain ⟨q, rfl, hq⟩ := ht
      refine ⟨_, rfl, ?_⟩
      rw [hr1, parts, hr2.out]
      exact ThrownX.up ⟨q, rfl, hq⟩ hf1
    · cases o with
      | none =>
        obtain ⟨rfl, hp2, hS2⟩ := hv
        exact .inr (.inl ⟨rfl, s1, c1, j, by rw [hr1, parts, hr2.out], hp2, hS2, hf1.trans hf2⟩)
      | some x =>
        obtain ⟨s2, c2, j2⟩ := x
        obtain ⟨rfl, hlt, hb2, hp2, hS2⟩ := hv
        exact .inl ⟨rfl, g', by omega, s2, c2, j2, by rw [hr1, parts, hr2.out], by omega, hb2, hp2, hS2, hf1.trans hf2⟩
  · rintro w2 ⟨s1, c1, j, hr1, hp1, hS1, hf1⟩
    refine ⟨j, c1, hp1, fun hn e w3 ht => ?_, fun ho w3 hp3 hf3 => ?_⟩
    · rw [hr1, if_neg hn]
      exact ht.x hf1 (Nat.le_trans hE.hB hf1.size) (by simp)
    · rw [hr1, if_pos ho]
      exact ⟨_, rfl, ⟨rfl, hp3, carS hS1 hf3⟩, hf1.trans (hf3.x (Nat.le_trans hE.hB hf1.size))⟩

/-- nothing has been read of a state but its name -/
theorem SU.start {k B sb : Nat} {w : World} {nm : Str} {fi la : Bool} (h : w.heap[sb]? = some (.cells (stA nm fi la (.slice none 0 0) (.slice none 0 0) (.slice none 0 0) (.pointer none) (.slice none 0 0) (.slice none 0 0)) 65 (0, 0))) :
    SU k B sb w ⟨nm, fi, la, [], [], [], .nil, [], []⟩ (.slice none 0 0) (.slice none 0 0) (.slice none 0 0) (.pointer none) (.slice none 0 0) (.slice none 0 0) [] [] [] [] [] := by
  refine ⟨h, ⟨fun x hx => ?_, ?_, fun x hx => ?_⟩⟩
  · simp only [stSlots, List.mem_cons, List.not_mem_nil, or_false] at hx
    rcases hx with rfl | rfl | rfl | rfl | rfl | rfl <;> exact World.ownsRow_nil _ _ _ _
  · simp [stSlots, sSet, sExp, sWay, sReg, Value.ownBlock]
  · simp only [stSlots, List.mem_cons, List.not_mem_nil, or_false] at hx
    rcases hx with rfl | rfl | rfl | rfl | rfl | rfl <;> rfl
end Go.Proofs.YtobamalnbjbmiaaGreatDoor
