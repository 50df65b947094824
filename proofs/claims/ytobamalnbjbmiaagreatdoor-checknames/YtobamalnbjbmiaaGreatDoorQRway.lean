/- The document's own reader: way. -/
import Derived.Test.YtobamalnbjbmiaaGreatDoorQRsets
import Derived.Test.YtobamalnbjbmiaaGreatDoorQPway
import Derived.Deep.DeepCutAuto
namespace Go.Proofs.YtobamalnbjbmiaaGreatDoor
open Go.RowKit Px

/-- a way that is being read: where it lies -/
structure WU (C : Ctx) (w0 w : World) (σ : S) (kind n : Nat) (b : Bool) (pp ao : Option Addr) (x y : Nat) (s : Str) (c : Bool) (e : E) (l : List Asg) : Prop where
  rs : RS C w σ
  fr : Fr w0.heap.size [C.rb] w0 w
  r0 : w.heap[w0.heap.size]? = some (.cells Z82 93 (0, 0))
  k : w.heap[w0.heap.size + 1]? = some (.cells (Y82 kind n b (.pointer pp) (.slice ao x y) ⟨s.toArray⟩ c) 93 (0, 0))
  lo : C.rb < w0.heap.size
  ie : IsE (Ge (w0.heap.size + 2)) w e (.pointer pp)
  is : IsSets (Ge (w0.heap.size + 2)) w l (.slice ao x y)
section
variable {C : Ctx} {w0 w w' : World} {σ σ' : S} {kind n : Nat} {b : Bool} {pp ao : Option Addr} {x y : Nat} {s : Str} {c : Bool} {e : E} {l : List Asg}
theorem WU.call (h : WU C w0 w σ kind n b pp ao x y s c e l) (hf : Fr w.heap.size [C.rb] w w') (hr : RS C w' σ') : WU C w0 w' σ' kind n b pp ao x y s c e l := by
  have hlo := h.lo
  have hX : ∀ z ∈ [C.rb], z < w0.heap.size + 2 := by simp; omega
  exact ⟨hr, h.fr.up' hf (Nat.le_of_lt (lt_of_block h.r0)), hf.stays h.r0 hlo, hf.stays h.k (by omega), hlo, h.ie.carry (keepX hX hf), h.is.carry (keepX hX hf)⟩
theorem WU.new (h : WU C w0 w σ kind n b pp ao x y s c e l) (o : Obj) : WU C w0 (w.alloc o) σ kind n b pp ao x y s c e l :=
  h.call ((Fr.refl _ _ _).alloc (Nat.le_refl _) _) (h.rs.new o)
theorem WU.put (h : WU C w0 w σ kind n b pp ao x y s c e l) (o : Nat) (v : Value) {n' : Nat} {b' : Bool} {pp' ao' : Option Addr} {x' y' : Nat} {s' : Str} {c' : Bool} {e' : E} {l' : List Asg}
    (he : (Y82 kind n b (.pointer pp) (.slice ao x y) ⟨s.toArray⟩ c).setIfInBounds o v = Y82 kind n' b' (.pointer pp') (.slice ao' x' y') ⟨s'.toArray⟩ c') (hie : IsE (Ge (w0.heap.size + 2)) w e' (.pointer pp')) (his : IsSets (Ge (w0.heap.size + 2)) w l' (.slice ao' x' y')) :
    WU C w0 (w.setCell ⟨w0.heap.size + 1, o, none⟩ v) σ kind n' b' pp' ao' x' y' s' c' e' l' := by
  have hlo := h.lo
  have hz := lt_of_block h.k
  have hf := fr_put w (w0.heap.size + 1) o v
  have hX : ∀ z ∈ [w0.heap.size + 1], z < w0.heap.size + 2 := by simp
  refine ⟨h.rs.low (B := w0.heap.size) hlo ((Fr.refl _ _ _).setCell (.inl (by simp)) _), h.fr.setCell (.inl (by simp)) _, ?_, ?_, hlo, hie.carry (keepX hX hf), his.carry (keepX hX hf)⟩
  · rw [hf.block _ (by omega) (by simp)]; exact h.r0
  · rw [heap_setCell_same w _ o _ 93 _ h.k, he]
theorem WU.cel (h : WU C w0 w σ kind n b pp ao x y s c e l) : (∀ (o : Nat) (v : Value), (Y82 kind n b (.pointer pp) (.slice ao x y) ⟨s.toArray⟩ c)[o]? = some v → w.cell? ⟨w0.heap.size + 1, o, none⟩ = some v) ∧ ∀ o, w.frozen? ⟨w0.heap.size + 1, o, none⟩ = false :=
  ⟨fun o v hv => by rw [cell_of_row _ _ _ _ _ _ h.k]; exact hv, fun o => by simp [World.frozen?, h.k]⟩
end
theorem RS.failAt {C : Ctx} {w : World} {i st : Nat} (h : RS C w ⟨i, st, none⟩) (e p : Nat) (he : e ≠ 0) :
    RS C ((w.setCell ⟨C.rb, 1, none⟩ (.int .i64 e)).setCell ⟨C.rb, 2, none⟩ (.int .i64 p)) ⟨i, st, some (e, p)⟩ ∧ Fr w.heap.size [C.rb] w ((w.setCell ⟨C.rb, 1, none⟩ (.int .i64 e)).setCell ⟨C.rb, 2, none⟩ (.int .i64 p)) := by
  obtain ⟨n, k, hn, hk, hr⟩ := h.rd
  have hf : Fr w.heap.size [C.rb] w ((w.setCell ⟨C.rb, 1, none⟩ (.int .i64 e)).setCell ⟨C.rb, 2, none⟩ (.int .i64 p)) := ((Fr.refl _ _ _).setCell (.inr (by simp)) _).setCell (.inr (by simp)) _
  refine ⟨h.keep (σ' := ⟨i, st, some (e, p)⟩) hf hn hk ?_ h.lt (fun f hf => by injection hf with hf; subst hf; exact he) h.sb (fun h => absurd h (by simp)), hf⟩
  have h1 := heap_setCell_same w C.rb 1 _ 180 (.int .i64 e) hr
  rw [heap_setCell_same _ C.rb 2 _ 180 _ h1]; rfl
/-- what the reader reads where it stands -/
theorem RS.reads {C : Ctx} {w : World} {σ : S} (h : RS C w σ) : ∃ (n k : Nat), (0 : Int) < (n : Int) ∧ w.cell? ⟨C.rb, 0, none⟩ = some (.slice (some ⟨C.g, σ.i * 3, none⟩) n k) ∧ w.cell? ⟨C.g, σ.i * 3, none⟩ = some (.int .i64 (kd C.L σ.i)) ∧ w.cell? ⟨C.g, σ.i * 3 + 1, none⟩ = some (.string ⟨(tx C.L σ.i).toArray⟩) ∧ w.cell? ⟨C.g, σ.i * 3 + 2, none⟩ = some (.int .i64 (pl C.L σ.i)) := by
  obtain ⟨n, k, hn, hk, hr⟩ := h.rd
  have := h.lt
  exact ⟨n, k, by omega, (cells4 hr).1, h.now⟩
def OkWR (w : World) (a : Wy) (v : Value) (w' : World) : Prop := ∃ p q, v = .agg (wayA a p q) ∧ IsE (Ge w.heap.size) w' a.cond p ∧ IsSets (Ge w.heap.size) w' a.sets q
theorem resultsRW (tmps : Array Value) (W : World) (g : Nat) (fc : Array Value) (hsz : fc.size = 7) (hp : tmps.getD 4 undef = .pointer (some ⟨g, 0, none⟩)) (hg : W.heap[g]? = some (.cells fc 93 (0, 0))) :
    (results Tryz.f187 tmps).run Tryz.prog W = .ok (.agg fc) W := by
  have hp' : tmps[4]?.getD undef = .pointer (some ⟨g, 0, none⟩) := by simpa using hp
  simp [results, Tryz.results187, hp', asAddr, load82 hsz hg]
theorem Px.wayR_eq {L : List Lx.Tok} {kind n : Nat} {σ σ2 σ3 σ5 : S} {e : E} {l : List Asg} {s : Str} (hc : condR L (tk L σ kImm) = (n, e, σ2)) (hd : doesR L σ2 = (l, σ3)) (hn : nameR L (must L σ3 kArrow) = (s, σ5)) : wayR L kind σ = (⟨kind, see L σ kImm, e, n, l, s, see L σ5 kHist⟩, must L (tk L σ5 kHist) kSemi) := by
  rw [wayR, hc, hd, tailR, hn]
theorem wu_new {C : Ctx} {w0 : World} {σ : S} (h : RS C w0 σ) (kind : Nat) : WU C w0 ((w0.alloc (.cells Z82 93)).alloc (.cells (Y82 kind 1 false (.pointer none) (.slice none 0 0) ⟨#[]⟩ false) 93)) σ kind 1 false none none 0 0 [] false .nil [] := by
  have hf : Fr w0.heap.size [] w0 ((w0.alloc (.cells Z82 93)).alloc (.cells (Y82 kind 1 false (.pointer none) (.slice none 0 0) ⟨#[]⟩ false) 93)) := ((Fr.refl _ _ _).alloc (Nat.le_refl _) _).alloc (by simp) _
  refine ⟨h.same hf, hf.wide, ?_, ?_, h.lts.1, rfl, isSets_nil _ _⟩
  · rw [Below.heap_alloc _ _ _ (by simp)]; exact heap_alloc_new _ _
  · have := heap_alloc_new (w0.alloc (.cells Z82 93)) (.cells (Y82 kind 1 false (.pointer none) (.slice none 0 0) ⟨#[]⟩ false) 93)
    simpa using this

set_option maxRecDepth 100000 in
set_option maxHeartbeats 8000000 in
theorem r_way {C : Ctx} {w : World} {σ : S} (h : RS C w σ) (kind : Nat) : Calls Tryz.prog 187 #[.pointer (some ⟨C.rb, 0, none⟩), .int .i64 kind] w (ROut C (OkWR w) w (wayR C.L kind σ)) := by
  have hU0 := wu_new h kind
  obtain ⟨b1, hb1⟩ : ∃ x, Hid (x = see C.L σ kImm) := ⟨_, rfl⟩
  obtain ⟨σ1, hσ1⟩ : ∃ x, Hid (x = tk C.L σ kImm) := ⟨_, rfl⟩
  obtain ⟨b2, hb2⟩ : ∃ x, Hid (x = see C.L σ1 kIf) := ⟨_, rfl⟩
  obtain ⟨σ2, hσ2⟩ : ∃ x, Hid (x = tk C.L σ1 kIf) := ⟨_, rfl⟩
  have c1 := takeS hU0.rs ⟨#[105, 109, 109, 101, 100, 105, 97, 116, 101]⟩ (by decide) (b := b1) (σ' := σ1) hb1.out.symm hσ1.out.symm
  have c2 : ∀ w1, RS C w1 σ1 → Calls Tryz.prog 103 #[.pointer (some ⟨C.rb, 0, none⟩), .string ⟨#[105, 102]⟩] w1 fun e w' => e = .returned (.bool b2) ∧ RS C w' σ2 ∧ Fr w1.heap.size [C.rb] w1 w' := fun w1 h1 => takeS h1 ⟨#[105, 102]⟩ (by decide) hb2.out.symm hσ2.out.symm
  have T1 : Hid True := trivial
  have T2 : Hid True := trivial
  go_enter Tryz.func187, Tryz.ntmps187
  go_upto_if 14 with (first
    | (go_at_call 103; clear T1; refine c1.mono ?_; rintro e w1 ⟨rfl, h1, hf1⟩; have hU1 := hU0.call hf1 h1; have k1 := hU1.cel.1 1 _ rfl; have z1 := hU1.cel.2 1; have hU2 := hU1.put 1 (.bool b1) rfl hU1.ie hU1.is)
    | (go_at_call 103; clear T2; refine (c2 _ hU2.rs).mono ?_; rintro e w2 ⟨rfl, h2, hf2⟩; have hU3 := hU2.call hf2 h2))
  go_cut [] (fun wc => Hid (∃ (n : Nat) (e : E) (pp : Option Addr) (σ3 : S), condR C.L σ1 = (n, e, σ3) ∧ WU C w wc σ3 kind n b1 pp none 0 0 [] false e []))
  case first =>
    cases b2 with
    | false =>
      have HC : Hid (condR C.L σ1 = (1, .nil, σ2)) := by rw [Hid, condR, if_neg (by rw [← hb2.out]; simp), hσ2.out, tk, if_neg (by rw [← hb2.out]; simp)]
      go_wp2_with fail
      go_meet
      exact ⟨1, .nil, none, σ2, HC.out, hU3⟩
    | true =>
      obtain ⟨b3, hb3⟩ : ∃ x, Hid (x = see C.L σ2 kCount) := ⟨_, rfl⟩
      obtain ⟨σ3, hσ3⟩ : ∃ x, Hid (x = tk C.L σ2 kCount) := ⟨_, rfl⟩
      have c3 := takeS hU3.rs ⟨#[99, 111, 117, 110, 116]⟩ (by decide) (b := b3) (σ' := σ3) hb3.out.symm hσ3.out.symm
      go_upto_if 16 with (go_at_call 103; refine c3.mono ?_; rintro e w3 ⟨rfl, h3, hf3⟩; have hU4 := hU3.call hf3 h3)
      go_cut [] (fun wc => Hid (∃ (n : Nat) (σ4 : S), (if b3 = true then timesR C.L σ3 else (1, σ2)) = (n, σ4) ∧ WU C w wc σ4 kind n b1 none none 0 0 [] false .nil []))
      case first =>
        cases b3 with
        | false =>
          have H3 : Hid (σ3 = σ2) := by rw [Hid, hσ3.out, tk, if_neg (by rw [← hb3.out]; simp)]
          go_wp2_with fail
          go_meet
          exact ⟨1, σ3, by rw [H3.out]; rfl, hU4⟩
        | true =>
          obtain ⟨nn, hnn⟩ : ∃ x, Hid (x = (numberR C.L σ3).1) := ⟨_, rfl⟩
          obtain ⟨σn, hσn⟩ : ∃ x, Hid (x = (numberR C.L σ3).2) := ⟨_, rfl⟩
          obtain ⟨r1, r2, r3, r4, r5, r6, r7⟩ := hU4.rs.reads
          have hU5 := hU4.new (.cells #[.int .i64 (kd C.L σ3.i), .string ⟨(tx C.L σ3.i).toArray⟩, .int .i64 (pl C.L σ3.i)] 183)
          have hb5 := tok_blk w3 (.int .i64 (kd C.L σ3.i)) (.string ⟨(tx C.L σ3.i).toArray⟩) (.int .i64 (pl C.L σ3.i)) 183
          have hw3 : Hid (w.heap.size + 2 ≤ w3.heap.size) := by have := lt_of_block hU4.k; rw [Hid]; omega
          have hlo := hU4.lo
          have c4 : ∀ w5, RS C w5 σ3 → Calls Tryz.prog 105 #[.pointer (some ⟨C.rb, 0, none⟩)] w5 (ROut C (fun (n : Nat) v _ => v = .int .i64 n) w5 (nn, σn)) := fun w5 h5 => by rw [hnn.out, hσn.out]; exact r_number h5
          have HT : Hid (timesR C.L σ3 = if σn.bad.isNone = true ∧ (nn < 1 ∨ 1000 < nn) then (nn, ⟨σn.i, σn.st, some (4, pl C.L σ3.i)⟩) else (nn, σn)) := by rw [Hid, timesR, hnn.out, hσn.out]
          obtain ⟨i9, st9, b9⟩ := σn
          cases b9 with
          | some f =>
            go_wp2_with (first
              | (go_at_call 105; refine (c4 _ hU5.rs).mono ?_; rintro e w6 ⟨v6, rfl, hv6, h6, hf6⟩; subst hv6; have hU6 := hU5.call hf6 h6)
              | (go_at_call 102; refine (r_ok hU6.rs).mono ?_; rintro e' w' ⟨rfl, hw⟩; obtain rfl := hw.symm; have k3 := hU6.cel.1 3 _ rfl; have z3 := hU6.cel.2 3))
            go_meet
            exact ⟨nn, ⟨i9, st9, some f⟩, (if_pos trivial).trans (HT.out.trans (if_neg (by simp))), hU6.put 3 (.int .i64 nn) rfl hU6.ie hU6.is⟩
          | none =>
            have hne1 : ¬ w.heap.size + 1 = C.rb := by omega
            have hne2 : ¬ C.rb = w.heap.size + 1 := by omega
            by_cases hn1 : nn < 1
            · have hi1 : (nn : Int) < 1 := by omega
              have HB : Hid (timesR C.L σ3 = (nn, ⟨i9, st9, some (4, pl C.L σ3.i)⟩)) := by rw [Hid, HT.out, if_pos ⟨rfl, .inl hn1⟩]
              go_wp2_with (first
                | (go_at_call 105; refine (c4 _ hU5.rs).mono ?_; rintro e w6 ⟨v6, rfl, hv6, h6, hf6⟩; subst hv6; have hU6 := hU5.call hf6 h6; have hb6 := hf6.stays hb5 (by have := hw3.out; omega); obtain ⟨t0, t1, t2⟩ := cells3 hb6; obtain ⟨h7, hf7⟩ := h6.failAt 4 (pl C.L σ3.i) (by decide); have hU7 := hU6.call hf7 h7; have k3 := hU6.cel.1 3 _ rfl; have z3 := hU6.cel.2 3; obtain ⟨n9, k9, -, -, hr9⟩ := h6.rd; obtain ⟨-, y1, y2, -, yz⟩ := cells4 hr9; have yz1 := yz 1; have yz2 := yz 2; clear yz hr9)
                | (go_at_call 102; refine (r_ok hU6.rs).mono ?_; rintro e' w' ⟨rfl, hw⟩; obtain rfl := hw.symm))
              go_meet
              exact ⟨nn, ⟨i9, st9, some (4, pl C.L σ3.i)⟩, (if_pos trivial).trans HB.out, hU7.put 3 (.int .i64 nn) rfl hU7.ie hU7.is⟩
            · have hi1 : ¬ (nn : Int) < 1 := by omega
              by_cases hn2 : 1000 < nn
              · have hi2 : (1000 : Int) < (nn : Int) := by omega
                have HB : Hid (timesR C.L σ3 = (nn, ⟨i9, st9, some (4, pl C.L σ3.i)⟩)) := by rw [Hid, HT.out, if_pos ⟨rfl, .inr hn2⟩]
                go_wp2_with (first
                  | (go_at_call 105; refine (c4 _ hU5.rs).mono ?_; rintro e w6 ⟨v6, rfl, hv6, h6, hf6⟩; subst hv6; have hU6 := hU5.call hf6 h6; have hb6 := hf6.stays hb5 (by have := hw3.out; omega); obtain ⟨t0, t1, t2⟩ := cells3 hb6; obtain ⟨h7, hf7⟩ := h6.failAt 4 (pl C.L σ3.i) (by decide); have hU7 := hU6.call hf7 h7; have k3 := hU6.cel.1 3 _ rfl; have z3 := hU6.cel.2 3; obtain ⟨n9, k9, -, -, hr9⟩ := h6.rd; obtain ⟨-, y1, y2, -, yz⟩ := cells4 hr9; have yz1 := yz 1; have yz2 := yz 2; clear yz hr9)
                  | (go_at_call 102; refine (r_ok hU6.rs).mono ?_; rintro e' w' ⟨rfl, hw⟩; obtain rfl := hw.symm))
                go_meet
                exact ⟨nn, ⟨i9, st9, some (4, pl C.L σ3.i)⟩, (if_pos trivial).trans HB.out, hU7.put 3 (.int .i64 nn) rfl hU7.ie hU7.is⟩
              · have hi2 : ¬ (1000 : Int) < (nn : Int) := by omega
                have HB : Hid (timesR C.L σ3 = (nn, ⟨i9, st9, none⟩)) := by rw [Hid, HT.out, if_neg (by omega)]
                go_wp2_with (first
                  | (go_at_call 105; refine (c4 _ hU5.rs).mono ?_; rintro e w6 ⟨v6, rfl, hv6, h6, hf6⟩; subst hv6; have hU6 := hU5.call hf6 h6; have k3 := hU6.cel.1 3 _ rfl; have z3 := hU6.cel.2 3)
                  | (go_at_call 102; refine (r_ok hU6.rs).mono ?_; rintro e' w' ⟨rfl, hw⟩; obtain rfl := hw.symm))
                go_meet
                exact ⟨nn, ⟨i9, st9, none⟩, (if_pos trivial).trans HB.out, hU6.put 3 (.int .i64 nn) rfl hU6.ie hU6.is⟩
      case rest =>
        obtain ⟨n4, σ4, hc4, hU8⟩ := hcut.out
        obtain ⟨e4, he4⟩ : ∃ x, Hid (x = (exprR C.L 7 σ4).1) := ⟨_, rfl⟩
        obtain ⟨σ5, hσ5⟩ : ∃ x, Hid (x = (exprR C.L 7 σ4).2) := ⟨_, rfl⟩
        have c5 : Calls Tryz.prog 186 #[.pointer (some ⟨C.rb, 0, none⟩), .int .i64 0] wc (ROut C (fun e v w' => IsE (Ge wc.heap.size) w' e v) wc (e4, σ5)) := by rw [he4.out, hσ5.out]; exact r_expr0 wc σ4 hU8.rs
        have HC : Hid (condR C.L σ1 = (n4, e4, σ5)) := by
          rw [Hid, condR, if_pos hb2.out.symm, ← hσ2.out]
          cases b3 with
          | true =>
            rw [if_pos hb3.out.symm, ← hσ3.out]
            have hc4' : timesR C.L σ3 = (n4, σ4) := hc4
            rw [hc4', he4.out, hσ5.out]
          | false =>
            rw [if_neg (by rw [← hb3.out]; simp)]
            have hc4' : (1, σ2) = (n4, σ4) := hc4
            injection hc4' with a1 a2
            rw [a1, a2, he4.out, hσ5.out]
        have hwc : Hid (w.heap.size + 2 ≤ wc.heap.size) := by have := lt_of_block hU8.k; rw [Hid]; omega
        clear hcut hc4
        go_wp2_with (go_at_call 186; refine c5.mono ?_; rintro e w6 ⟨v6, rfl, hv6, h6, hf6⟩; obtain ⟨p6, rfl⟩ := hv6.ptr; have hU9 := hU8.call hf6 h6; have k2 := hU9.cel.1 2 _ rfl; have z2 := hU9.cel.2 2)
        go_meet
        exact ⟨n4, e4, p6, σ5, HC.out, hU9.put 2 (.pointer p6) rfl (hv6.ge hwc.out) hU9.is⟩
  case rest =>
    obtain ⟨n4, e4, pp, σ3, hc, hU⟩ := hcut.out
    clear hcut
    have HC : Hid (condR C.L (tk C.L σ kImm) = (n4, e4, σ3)) := by rw [Hid, ← hσ1.out]; exact hc
    obtain ⟨b5, hb5⟩ : ∃ x, Hid (x = see C.L σ3 kDo) := ⟨_, rfl⟩
    obtain ⟨σ4, hσ4⟩ : ∃ x, Hid (x = tk C.L σ3 kDo) := ⟨_, rfl⟩
    have c5 := takeS hU.rs ⟨#[100, 111]⟩ (by decide) (b := b5) (σ' := σ4) hb5.out.symm hσ4.out.symm
    clear hc
    go_upto_if 47 with (go_at_call 103; refine c5.mono ?_; rintro e w3 ⟨rfl, h3, hf3⟩; have hU1 := hU.call hf3 h3)
    go_cut [] (fun wc => Hid (∃ (l : List Asg) (σ5 : S) (ao : Option Addr) (x y : Nat), doesR C.L σ3 = (l, σ5) ∧ WU C w wc σ5 kind n4 b1 pp ao x y [] false e4 l))
    case first =>
      cases b5 with
      | false =>
        have HC2 : Hid (doesR C.L σ3 = ([], σ4)) := by rw [Hid, doesR, if_neg (by rw [← hb5.out]; simp), hσ4.out, tk, if_neg (by rw [← hb5.out]; simp)]
        go_wp2_with fail
        go_meet
        exact ⟨[], σ4, none, 0, 0, HC2.out, hU1⟩
      | true =>
        obtain ⟨l6, hl6⟩ : ∃ x, Hid (x = (setsR C.L C.L.length [] σ4).1) := ⟨_, rfl⟩
        obtain ⟨σ6, hσ6⟩ : ∃ x, Hid (x = (setsR C.L C.L.length [] σ4).2) := ⟨_, rfl⟩
        have c6 : Calls Tryz.prog 185 #[.pointer (some ⟨C.rb, 0, none⟩)] w3 (ROut C (OkR w3) w3 (l6, σ6)) := by rw [hl6.out, hσ6.out]; exact r_sets hU1.rs
        have HC2 : Hid (doesR C.L σ3 = (l6, σ6)) := by rw [Hid, doesR, if_pos hb5.out.symm, ← hσ4.out, hl6.out, hσ6.out]
        have hwc : Hid (w.heap.size + 2 ≤ w3.heap.size) := by have := lt_of_block hU1.k; rw [Hid]; omega
        go_wp2_with (go_at_call 185; refine c6.mono ?_; rintro e w6 ⟨v6, rfl, ⟨⟨xs6, hS6⟩, -⟩, h6, hf6⟩; obtain ⟨ao6, cap6, rfl⟩ := owns_shape hS6.own; have hU2 := hU1.call hf6 h6; have k4 := hU2.cel.1 4 _ rfl; have z4 := hU2.cel.2 4)
        go_meet
        exact ⟨l6, σ6, ao6, l6.length, cap6, HC2.out, hU2.put 4 (.slice ao6 l6.length cap6) rfl hU2.ie (hS6.done.ge hwc.out)⟩
    case rest =>
      obtain ⟨l5, σ5, ao, x, y, hd, hU2⟩ := hcut.out
      have HD : Hid (doesR C.L σ3 = (l5, σ5)) := hd
      clear hcut hd
      obtain ⟨σ6, hσ6⟩ : ∃ x, Hid (x = must C.L σ5 kArrow) := ⟨_, rfl⟩
      obtain ⟨s7, hs7⟩ : ∃ x, Hid (x = (nameR C.L σ6).1) := ⟨_, rfl⟩
      obtain ⟨σ7, hσ7⟩ : ∃ x, Hid (x = (nameR C.L σ6).2) := ⟨_, rfl⟩
      obtain ⟨b8, hb8⟩ : ∃ x, Hid (x = see C.L σ7 kHist) := ⟨_, rfl⟩
      obtain ⟨σ8, hσ8⟩ : ∃ x, Hid (x = tk C.L σ7 kHist) := ⟨_, rfl⟩
      obtain ⟨σ9, hσ9⟩ : ∃ x, Hid (x = must C.L σ8 kSemi) := ⟨_, rfl⟩
      have H : Hid (wayR C.L kind σ = (⟨kind, b1, e4, n4, l5, s7, b8⟩, σ9)) := by
        rw [Hid, wayR_eq HC.out HD.out (s := s7) (σ5 := σ7) (by rw [← hσ6.out, hs7.out, hσ7.out]), hσ9.out, hσ8.out, hb8.out, hb1.out]
      have c6 : Calls Tryz.prog 100 #[.pointer (some ⟨C.rb, 0, none⟩), .string ⟨#[45, 45, 62]⟩] wc fun e w' => e = .returned (.tuple #[]) ∧ RS C w' σ6 ∧ Fr wc.heap.size [C.rb] wc w' := by rw [hσ6.out]; exact r_must hU2.rs ⟨#[45, 45, 62]⟩ (by decide)
      have c7 : ∀ w6, RS C w6 σ6 → Calls Tryz.prog 101 #[.pointer (some ⟨C.rb, 0, none⟩)] w6 (ROut C (fun s v _ => v = sv s) w6 (s7, σ7)) := fun w6 h6 => by rw [hs7.out, hσ7.out]; exact r_name h6
      have c8 : ∀ w7, RS C w7 σ7 → Calls Tryz.prog 103 #[.pointer (some ⟨C.rb, 0, none⟩), .string ⟨#[104, 105, 115, 116, 111, 114, 121]⟩] w7 fun e w' => e = .returned (.bool b8) ∧ RS C w' σ8 ∧ Fr w7.heap.size [C.rb] w7 w' := fun w7 h7 => takeS h7 ⟨#[104, 105, 115, 116, 111, 114, 121]⟩ (by decide) hb8.out.symm hσ8.out.symm
      have c9 : ∀ w8, RS C w8 σ8 → Calls Tryz.prog 100 #[.pointer (some ⟨C.rb, 0, none⟩), .string ⟨#[59]⟩] w8 fun e w' => e = .returned (.tuple #[]) ∧ RS C w' σ9 ∧ Fr w8.heap.size [C.rb] w8 w' := fun w8 h8 => by rw [hσ9.out]; exact r_must h8 ⟨#[59]⟩ (by decide)
      have T3 : Hid True := trivial
      go_wp2_with (first
        | (go_at_call 100; clear T3; refine c6.mono ?_; rintro e w6 ⟨rfl, h6, hf6⟩; have hU3 := hU2.call hf6 h6)
        | (go_at_call 101; refine (c7 _ hU3.rs).mono ?_; rintro e w7 ⟨v7, rfl, hv7, h7, hf7⟩; subst hv7; rw [sv]; have hU4 := hU3.call hf7 h7; have k5 := hU4.cel.1 5 _ rfl; have z5 := hU4.cel.2 5; have hU5 := hU4.put 5 (.string ⟨s7.toArray⟩) (s' := s7) rfl hU4.ie hU4.is)
        | (go_at_call 103; refine (c8 _ hU5.rs).mono ?_; rintro e w8 ⟨rfl, h8, hf8⟩; have hU6 := hU5.call hf8 h8; have k6 := hU6.cel.1 6 _ rfl; have z6 := hU6.cel.2 6; have hU7 := hU6.put 6 (.bool b8) rfl hU6.ie hU6.is)
        | (go_at_call 100; refine (c9 _ hU7.rs).mono ?_; rintro e w9 ⟨rfl, h9, hf9⟩; have hU8 := hU7.call hf9 h9)
        | (refine wpList_load_eq rfl 93 (.tmp 5) rfl ⟨w.heap.size + 1, 0, none⟩ rfl (.agg (Y82 kind n4 b1 (.pointer pp) (.slice ao x y) ⟨s7.toArray⟩ b8)) (load82 rfl hU8.k) ?_)
        | (refine wpList_store_row rfl 93 (.tmp 4) (.tmp 61) rfl w.heap.size (Y82 kind n4 b1 (.pointer pp) (.slice ao x y) ⟨s7.toArray⟩ b8) rfl rfl 93 _ hU8.r0 Tryz.size93 rfl (seven_one _ _ _ _ _ _ _ _ _) ?_))
      refine bodyPost_ret (resultsRW _ _ w.heap.size (Y82 kind n4 b1 (.pointer pp) (.slice ao x y) ⟨s7.toArray⟩ b8) rfl rfl (setRow_heap _ _ _ _ _ _ hU8.r0)) rfl ?_
      have hfr := fr_row w9 w.heap.size (Y82 kind n4 b1 (.pointer pp) (.slice ao x y) ⟨s7.toArray⟩ b8)
      have hX : ∀ z ∈ [w.heap.size], z < w.heap.size + 2 := by simp
      rw [H.out]
      refine ⟨_, rfl, ⟨.pointer pp, .slice ao x y, rfl, (hU8.ie.carry (keepX hX hfr)).ge (by omega), (hU8.is.carry (keepX hX hfr)).ge (by omega)⟩, ?_, ?_⟩
      · exact hU8.rs.low (B := w.heap.size) hU8.lo ((Fr.refl _ _ _).row (.inl (Nat.le_refl _)) _)
      · exact hU8.fr.row (.inl (Nat.le_refl _)) _
end Go.Proofs.YtobamalnbjbmiaaGreatDoor
