/- chart: braced around the function in it, and chart whole. -/
import Derived.Test.YtanlfmhlohcmgaaGreatDoorJPchart
import Derived.Deep.QuietTactic
import Derived.BigQuiet
import Derived.Test.YtanlfmhlohcmgaaGreatDoorJRsets
namespace Go.Proofs.YtanlfmhlohcmgaaGreatDoor
open Go.RowKit Px

theorem item_err {L : List Lx.Tok} {g c i : Nat} {vs : List Decl} {rs : List (List (St 6))} {f : F} (h : stepI L vs rs c i = .error f) : items L (g + 1) vs rs c i = .error f := by
  rw [stepI] at h
  rw [items]
  by_cases hk : kindOf (tx L i) ≠ 0
  · rw [if_pos hk] at h ⊢
    by_cases h2 : 20 ≤ vs.length
    · rw [if_pos h2] at h ⊢; injection h with h; subst h; rfl
    · rw [if_neg h2] at h ⊢
      split at h
      · rename_i hs; injection h with h; subst h; rw [hs]
      · exact absurd h (by simp)
  · rw [if_neg hk] at h ⊢
    by_cases hr : tx L i = kRegion
    · rw [if_pos hr] at h ⊢
      split at h
      · rename_i hs; injection h with h; subst h; rw [hs]
      · exact absurd h (by simp)
    · rw [if_neg hr] at h; exact absurd h (by simp)
theorem item_some {L : List Lx.Tok} {g c i c' j : Nat} {vs vs' : List Decl} {rs rs' : List (List (St 6))} (h : stepI L vs rs c i = .ok (some (vs', rs', c', j))) : items L (g + 1) vs rs c i = items L g vs' rs' c' j := by
  rw [stepI] at h
  rw [items]
  by_cases hk : kindOf (tx L i) ≠ 0
  · rw [if_pos hk] at h ⊢
    by_cases h2 : 20 ≤ vs.length
    · rw [if_pos h2] at h; exact absurd h (by simp)
    · rw [if_neg h2] at h ⊢
      split at h
      · exact absurd h (by simp)
      · rename_i hs
        rw [hs]
        injection h with h; injection h with h; injection h with e1 h; injection h with e2 h; injection h with e3 e4; subst e1; subst e2; subst e3; subst e4
        rfl
  · rw [if_neg hk] at h ⊢
    by_cases hr : tx L i = kRegion
    · rw [if_pos hr] at h ⊢
      split at h
      · exact absurd h (by simp)
      · rename_i hs
        rw [hs]
        injection h with h; injection h with h; injection h with e1 h; injection h with e2 h; injection h with e3 e4; subst e1; subst e2; subst e3; subst e4
        rfl
    · rw [if_neg hr] at h; exact absurd h (by simp)
theorem item_none {L : List Lx.Tok} {g c i : Nat} {vs : List Decl} {rs : List (List (St 6))} (h : stepI L vs rs c i = .ok none) : items L (g + 1) vs rs c i = if tx L i = kShut then .ok (vs, rs, i + 1) else .error (3, pl L i) := by
  rw [stepI] at h
  rw [items]
  by_cases hk : kindOf (tx L i) ≠ 0
  · rw [if_pos hk] at h
    by_cases h2 : 20 ≤ vs.length
    · rw [if_pos h2] at h; exact absurd h (by simp)
    · rw [if_neg h2] at h
      split at h
      · exact absurd h (by simp)
      · exact absurd h (by simp)
  · rw [if_neg hk] at h ⊢
    by_cases hr : tx L i = kRegion
    · rw [if_pos hr] at h
      split at h
      · exact absurd h (by simp)
      · exact absurd h (by simp)
    · rw [if_neg hr]
def ChOk (C : Ctx) (B ba cb : Nat) (nm : Str) (x : List Decl × List (List (St 6)) × Nat) (v : Value) (w' : World) : Prop := v = .tuple #[] ∧ (∃ c', PS C w' x.2.2 c' 0 0) ∧ CE C B ba cb w' ∧ CUx B cb w' nm x.1 x.2.1
theorem brace_chart {C : Ctx} {B ba cb i c : Nat} {w : World} {nm : Str} (h : PS C w i c 0 0) (hE : CE C B ba cb w) (hU : CUx B cb w nm [] []) :
    Calls Tryz.prog 54 #[.pointer (some ⟨C.rb, 0, none⟩), .func (.func 55) #[] #[.pointer (some ⟨ba, 0, none⟩), .pointer (some ⟨cb, 0, none⟩)]] w
      (OutX B [C.rb, cb] (ChOk C B ba cb nm) w (if tx C.L i = kOpen then items C.L C.L.length [] [] c (i + 1) else .error (3, pl C.L i))) := by
  obtain ⟨RES, hRES⟩ : ∃ RES, RES = (if tx C.L i = kOpen then items C.L C.L.length [] [] c (i + 1) else .error (3, pl C.L i)) := ⟨_, rfl⟩
  rw [← hRES]
  have hX : ∀ x ∈ [C.rb], x < B := by have := hE.lr; simp; omega
  have hne' : cb ∉ [C.rb] := by have := hE.nc; simp; omega
  have carU : ∀ {w1 w2 : World} {vs : List Decl} {rs : List (List (St 6))}, CUx B cb w1 nm vs rs → Fr w1.heap.size [C.rb] w1 w2 → CUx B cb w2 nm vs rs := by
    rintro w1 w2 vs rs ⟨v, r, xv, xr, hu⟩ hf
    exact ⟨v, r, xv, xr, hu.carry hX hne' hf⟩
  have lowE : ∀ {w1 w2 : World}, CE C B ba cb w1 → Fr w1.heap.size [C.rb] w1 w2 → CE C B ba cb w2 := fun h1 hf => h1.low (hf.mono h1.hB (by simp))
  refine braced_chart h _ (fun g w1 => ∃ (vs : List Decl) (rs : List (List (St 6))) (c1 j : Nat), RES = items C.L g vs rs c1 j ∧ C.L.length ≤ g + j ∧ vs.length ≤ 20 ∧ rs.length ≤ j ∧ PS C w1 j c1 0 0 ∧ CE C B ba cb w1 ∧ CUx B cb w1 nm vs rs ∧ Fr B [C.rb, cb] w w1)
    (fun w2 => ∃ (vs : List Decl) (rs : List (List (St 6))) (c1 j : Nat), RES = (if tx C.L j = kShut then .ok (vs, rs, j + 1) else .error (3, pl C.L j)) ∧ PS C w2 j c1 0 0 ∧ CE C B ba cb w2 ∧ CUx B cb w2 nm vs rs ∧ Fr B [C.rb, cb] w w2) C.L.length ?_ ?_ ?_ ?_
  · intro hn e w' ht
    rw [hRES, if_neg hn]
    exact ht.x (Fr.refl _ _ _) hE.hB (by simp)
  · intro ho w1 hp1 hf1
    exact ⟨[], [], c, i + 1, by rw [hRES, if_pos ho], by omega, by simp, by simp, hp1, lowE hE hf1, carU hU hf1, hf1.x hE.hB⟩
  · rintro g w1 ⟨vs, rs, c1, j, hr1, hg, hv1, hrj, hp1, hE1, hU1, hf1⟩
    obtain ⟨g', rfl⟩ : ∃ g', g = g' + 1 := ⟨g - 1, by have := hp1.lt; omega⟩
    refine (chart1_any hp1 hE1 hU1 hv1 hrj).mono ?_
    rintro e w2 h2
    rcases h2.cases with ⟨f, hr2, ht⟩ | ⟨o, v, hr2, rfl, hv, hf2⟩
    · refine .inr (.inr ?_)
      obtain ⟨q, rfl, hq⟩ := ht
      refine ⟨_, rfl, ?_⟩
      rw [hr1, item_err hr2.out]
      exact ThrownX.up ⟨q, rfl, hq⟩ hf1
    · cases o with
      | none =>
        obtain ⟨rfl, hp2, hE2, hU2⟩ := hv
        exact .inr (.inl ⟨rfl, vs, rs, c1, j, by rw [hr1, item_none hr2.out], hp2, hE2, hU2, hf1.trans hf2⟩)
      | some x =>
        obtain ⟨vs2, rs2, c2, j2⟩ := x
        obtain ⟨rfl, hlt, hl2, hl3, hp2, hE2, hU2⟩ := hv
        exact .inl ⟨rfl, g', by omega, vs2, rs2, c2, j2, by rw [hr1, item_some hr2.out], by omega, hl2, hl3, hp2, hE2, hU2, hf1.trans hf2⟩
  · rintro w2 ⟨vs, rs, c1, j, hr1, hp1, hE1, hU1, hf1⟩
    refine ⟨j, c1, hp1, fun hn e w3 ht => ?_, fun ho w3 hp3 hf3 => ?_⟩
    · rw [hr1, if_neg hn]
      exact ht.x hf1 (Nat.le_trans hE.hB hf1.size) (by simp)
    · rw [hr1, if_pos ho]
      exact ⟨_, rfl, ⟨rfl, ⟨c1, hp3⟩, lowE hE1 hf3, carU hU1 hf3⟩, hf1.trans (hf3.x (Nat.le_trans hE.hB hf1.size))⟩

theorem Tryz.sizeChart : (Tryz.prog.info? 25).map (·.size) = some 3 := by kernel_rfl
theorem load25 {W : World} {g : Nat} {fc : Array Value} (hsz : fc.size = 3) (hg : W.heap[g]? = some (.cells fc 25 (0, 0))) : (loadVar 25 ⟨g, 0, none⟩).run Tryz.prog W = .ok (.agg fc) W :=
  run_loadVar_row (P := Tryz.prog) W g 25 25 fc (0, 0) _ hg Tryz.underlying25 rfl (by rw [hsz]; exact Tryz.sizeChart)
theorem resultsC (tmps : Array Value) (W : World) (g : Nat) (fc : Array Value) (hsz : fc.size = 3) (hp : tmps.getD 2 undef = .pointer (some ⟨g, 0, none⟩)) (hg : W.heap[g]? = some (.cells fc 25 (0, 0))) :
    (results Tryz.f33 tmps).run Tryz.prog W = .ok (.agg fc) W := by
  have hp' : tmps[2]?.getD undef = .pointer (some ⟨g, 0, none⟩) := by simpa using hp
  simp [results, Tryz.results33, hp', asAddr, load25 hsz hg]
/-- a chart in memory -/
def IsChart (A : Nat → Prop) (w : World) (c : Chart) (v : Value) : Prop := ∃ a n m a' n' m', v = .agg #[sv c.name, .slice a n m, .slice a' n' m'] ∧ IsVars A w c.vars (.slice a n m) ∧ IsRegs A w (IsStates A w 6) c.regions (.slice a' n' m')
theorem CU.done {B cb : Nat} {w : World} {nm : Str} {vs : List Decl} {rs : List (List (St 6))} {v r : Value} {xv xr : List Value} (h : CU B cb w nm vs rs v r xv xr) : IsVars (Ge B) w vs v ∧ IsRegs (Ge B) w (IsStates (Ge B) w 6) rs r := by
  have kp : Keep (Nots B [sDecl vs v xv, sReg 6 rs r xr]) (Ge B) w w := fun b hb _ => ⟨hb.1, rfl⟩
  have o := h.good.own
  have hs := h.good.has
  have ow : ∀ x ∈ [sDecl vs v xv, sReg 6 rs r xr], Row (Ge B) w x.t x.sz x.v x.n x.xs := fun x hx => ⟨own_base0 (o x hx), fun g hg => ((o x hx).lt g hg).1⟩
  exact ⟨⟨xv, ow (sDecl vs v xv) (by simp), hs (sDecl vs v xv) (by simp)⟩, ⟨xr, ow (sReg 6 rs r xr) (by simp), cReg kp _ _ _ _ (hs (sReg 6 rs r xr) (by simp))⟩⟩

theorem chart_brace_err {L : List Lx.Tok} {s : Str} {f : F} (h1 : tx L 0 = kChart) (h2 : nm L 1 = .ok s) (h : (if tx L 2 = kOpen then items L L.length [] [] 0 3 else .error (3, pl L 2)) = .error f) : chart L = .error f := by
  rw [chart, if_pos h1, h2]
  simp only
  by_cases ho : tx L 2 = kOpen
  · rw [if_pos ho] at h ⊢; rw [h]
  · rw [if_neg ho] at h ⊢; injection h with h; subst h; rfl
theorem chart_brace_ok {L : List Lx.Tok} {s : Str} {vs : List Decl} {rs : List (List (St 6))} {i : Nat} (h1 : tx L 0 = kChart) (h2 : nm L 1 = .ok s) (h : (if tx L 2 = kOpen then items L L.length [] [] 0 3 else .error (3, pl L 2)) = .ok (vs, rs, i)) : chart L = if kd L i = 4 then .ok ⟨s, vs, rs⟩ else .error (3, pl L i) := by
  rw [chart, if_pos h1, h2]
  simp only
  by_cases ho : tx L 2 = kOpen
  · rw [if_pos ho] at h ⊢; rw [h]
  · rw [if_neg ho] at h; exact absurd h (by simp)
abbrev ZC : Array Value := #[.string ⟨#[]⟩, .slice none 0 0, .slice none 0 0]
set_option maxRecDepth 100000 in
set_option maxHeartbeats 8000000 in
theorem chart_any {C : Ctx} {w : World} (h : PS C w 0 0 0 0) : Calls Tryz.prog 33 #[.pointer (some ⟨C.rb, 0, none⟩)] w (Out C (fun c v w' => IsChart (Ge w.heap.size) w' c v) w (chart C.L)) := by
  have hC := h.lts.1
  have hmf : ∀ (fn : Fn) (first cap : Array Value) (w : World), (Instr.makeFunc fn first cap).run Tryz.prog w = .ok (.func fn first cap) w := fun _ _ _ _ => rfl
  obtain ⟨hpa, hfa⟩ := h.alloc (.cells #[.pointer (some ⟨C.rb, 0, none⟩)] 120)
  obtain ⟨hp0, hfb⟩ := hpa.alloc (.cells ZC 25)
  have hF0 := hfa.up hfb
  have hz0 : ((w.alloc (.cells #[.pointer (some ⟨C.rb, 0, none⟩)] 120)).alloc (.cells ZC 25)).heap.size = w.heap.size + 2 := by simp
  have x0 : ((w.alloc (.cells #[.pointer (some ⟨C.rb, 0, none⟩)] 120)).alloc (.cells ZC 25)).cell? ⟨w.heap.size, 0, none⟩ = some (.pointer (some ⟨C.rb, 0, none⟩)) := by simp
  have r0 : ((w.alloc (.cells #[.pointer (some ⟨C.rb, 0, none⟩)] 120)).alloc (.cells ZC 25)).heap[w.heap.size + 1]? = some (.cells ZC 25 (0, 0)) := by
    have := heap_alloc_new (w.alloc (.cells #[.pointer (some ⟨C.rb, 0, none⟩)] 120)) (.cells ZC 25)
    simpa using this
  go_enter Tryz.func33, Tryz.ntmps33
  go_upto_region 1 with fail
  generalize ((w.alloc (.cells #[.pointer (some ⟨C.rb, 0, none⟩)] 120)).alloc (.cells ZC 25)) = W0 at hp0 hfb hF0 hz0 x0 r0 ⊢
  have HCX : Hid (∀ (W W' : World), W.cell? ⟨w.heap.size, 0, none⟩ = some (.pointer (some ⟨C.rb, 0, none⟩)) → w.heap.size < W.heap.size → Fr W.heap.size [C.rb] W W' → W'.cell? ⟨w.heap.size, 0, none⟩ = some (.pointer (some ⟨C.rb, 0, none⟩))) := fun W W' h1 h2 hf => by rw [hf.cell (p := ⟨w.heap.size, 0, none⟩) h2 (by simp; omega)]; exact h1
  go_wp2_with (first
    | (go_at_call 52; refine (need_any hp0 ⟨#[99, 104, 97, 114, 116]⟩ kChart rfl (by decide)).mono ?_; rintro e w1 h1; rcases h1.cases with ⟨f, hr1, q, rfl, hq⟩ | ⟨_, v1, hr1, rfl, ⟨rfl, hp1⟩, hf1⟩; (· exact ⟨rfl, by rw [chart, if_neg (need_bad hr1).1, ← (need_bad hr1).2]; exact Thrown.up hF0 ⟨q, rfl, hq⟩⟩); have x1 := HCX.out _ _ x0 (by omega) hf1; have hz1 := hf1.size; have r1 := hf1.stays r0 (by omega))
    | (go_at_call 53; refine (name_any hp1).mono ?_; rintro e w2 h2; rcases h2.cases with ⟨f, hr2, q, rfl, hq⟩ | ⟨s2, v2, hr2, rfl, ⟨rfl, hp2⟩, hf2⟩; (· exact ⟨rfl, by rw [chart, if_pos (need_ok hr1), hr2.out]; exact Thrown.up (hF0.up hf1) ⟨q, rfl, hq⟩⟩); rw [sv]; have x2 := HCX.out _ _ x1 (by omega) hf2; have hz2 := hf2.size; have r2 := hf2.stays r1 (by omega); obtain ⟨hp3, hf3⟩ := hp2.alloc (.cells #[.string ⟨s2.toArray⟩, .slice none 0 0, .slice none 0 0] 25); have x3 := HCX.out _ _ x2 (by omega) hf3; have r3 := hf3.stays r2 (by omega); have b3 := heap_alloc_new w2 (.cells #[.string ⟨s2.toArray⟩, .slice none 0 0, .slice none 0 0] 25); have hF3 := ((hF0.up hf1).up hf2).up hf3; have hE3 : CE C (w2.heap.size + 1) w.heap.size w2.heap.size (w2.alloc (.cells #[.string ⟨s2.toArray⟩, .slice none 0 0, .slice none 0 0] 25)) := ⟨x3, by omega, by omega, hC, by omega, by omega, by omega, lt_of_block b3⟩; have hU3 : CUx (w2.heap.size + 1) w2.heap.size (w2.alloc (.cells #[.string ⟨s2.toArray⟩, .slice none 0 0, .slice none 0 0] 25)) s2 [] [] := ⟨_, _, [], [], b3, ⟨by intro x hx; simp only [List.mem_cons, List.not_mem_nil, or_false] at hx; rcases hx with rfl | rfl <;> exact World.ownsRow_nil _ _ _ _, by simp [sDecl, sReg, Value.ownBlock], by intro x hx; simp only [List.mem_cons, List.not_mem_nil, or_false] at hx; rcases hx with rfl | rfl <;> rfl⟩⟩; have hbr := brace_chart hp3 hE3 hU3; have hz3 := hF3.size; have HTH : Hid (∀ f e w5, ThrownX (w2.heap.size + 1) [C.rb, w2.heap.size] (w2.alloc (.cells #[.string ⟨s2.toArray⟩, .slice none 0 0, .slice none 0 0] 25)) f e w5 → Thrown C w f e w5) := (fun f e w5 ⟨q, h1, h2, h3, h4⟩ => ⟨q, h1, h2, Nat.le_trans hz3 h3, hF3.trans (h4.mono (by omega) (by intro x hx hlt; simp at hx ⊢; omega))⟩))
    | (go_at_call 54; refine hbr.mono ?_; rintro e w5 h5; rcases h5.cases with ⟨f, hr5, q, rfl, hq⟩ | ⟨⟨vs5, rs5, j5⟩, v5, hr5, rfl, ⟨rfl, ⟨c5, hp5⟩, hE5, v5', r5, xv5, xr5, hU5⟩, hf5⟩; (· exact ⟨rfl, by rw [chart_brace_err (need_ok hr1) hr2.out hr5.out]; exact HTH.out _ _ _ ⟨q, rfl, hq⟩⟩); have x5 := hE5.a))
  have HSP : Hid (chart C.L = if kd C.L j5 = 4 then .ok ⟨s2, vs5, rs5⟩ else .error (3, pl C.L j5)) := chart_brace_ok (need_ok hr1) hr2.out hr5.out
  have hF5 : Fr w.heap.size [C.rb] w w5 := hF3.trans (hf5.mono (by omega) (by intro x hx hlt; simp at hx ⊢; omega))
  have r5' : w5.heap[w.heap.size + 1]? = some (.cells ZC 25 (0, 0)) := by rw [hf5.block (w.heap.size + 1) (by omega) (by simp; omega)]; exact r3
  obtain ⟨q0, q1, -⟩ := hp5.cells
  obtain ⟨t0, -, -⟩ := hp5.now
  have hi0 : (0 : Int) ≤ (j5 : Int) := Int.natCast_nonneg _
  have hi1 : (j5 : Int) < (C.L.length : Int) := by have := hp5.lt; omega
  have hdr : ∀ n, Fr w5.heap.size [] w5 (w5.drewN n) := fun n => (Fr.refl _ _ _).drewN n
  by_cases hk : kd C.L j5 = 4
  · have hk4 : (((kd C.L j5 : Nat) : Int) != 4) = false := by simp; omega
    have HE : Hid (chart C.L = .ok ⟨s2, vs5, rs5⟩) := by rw [Hid, HSP.out, if_pos hk]
    clear hk
    have o1 : w5.ownsRow (w2.heap.size + 1) 60 3 v5' vs5.length xv5 := hU5.good.own (sDecl vs5 v5' xv5) (by simp)
    have o2 : w5.ownsRow (w2.heap.size + 1) 39 1 r5 rs5.length xr5 := hU5.good.own (sReg 6 rs5 r5 xr5) (by simp)
    obtain ⟨a1, m1, rfl⟩ := owns_shape o1
    obtain ⟨a2, m2, rfl⟩ := owns_shape o2
    go_quiet (fail)
    have hUq := hU5.carry (X := []) (by simp) (by simp) (hdr nq)
    have hFq : Fr w.heap.size [C.rb] w (w5.drewN nq) := hF5.up (hdr nq).wide
    have rq : (w5.drewN nq).heap[w.heap.size + 1]? = some (.cells ZC 25 (0, 0)) := by rw [(hdr nq).block _ (lt_of_block r5') (by simp)]; exact r5'
    have hz5 := hf5.size
    generalize w5.drewN nq = w6 at hUq hFq rq ⊢
    go_wp2_with (first
      | (refine wpList_load_eq rfl 25 (.tmp 3) rfl ⟨w2.heap.size, 0, none⟩ rfl (.agg #[sv s2, .slice a1 vs5.length m1, .slice a2 rs5.length m2]) (load25 rfl hUq.at_) ?_)
      | (refine wpList_store_row rfl 25 (.tmp 2) (.tmp 26) rfl (w.heap.size + 1) #[sv s2, .slice a1 vs5.length m1, .slice a2 rs5.length m2] rfl rfl 25 _ rq Tryz.sizeChart rfl (by simp [Value.oneCell', sv]) ?_))
    refine bodyPost_ret (resultsC _ _ (w.heap.size + 1) #[sv s2, .slice a1 vs5.length m1, .slice a2 rs5.length m2] rfl rfl (setRow_heap _ _ _ _ _ _ rq)) rfl ?_
    rw [HE.out]
    obtain ⟨d1, d2⟩ := hUq.done
    have hfr := fr_row w6 (w.heap.size + 1) #[sv s2, .slice a1 vs5.length m1, .slice a2 rs5.length m2]
    have kp : Keep (Ge (w2.heap.size + 1)) (Ge w.heap.size) w6 (w6.setRow (w.heap.size + 1) #[sv s2, .slice a1 vs5.length m1, .slice a2 rs5.length m2]) := fun b hb hlt => ⟨by simp [Ge] at *; omega, hfr.block b hlt (by simp [Ge] at *; omega)⟩
    exact ⟨_, rfl, ⟨a1, _, m1, a2, _, m2, rfl, d1.carry kp, d2.carry kp (IsStates.carry kp 6)⟩, hFq.row (.inl (by omega)) _⟩
  · have hk4 : (((kd C.L j5 : Nat) : Int) != 4) = true := by simp; omega
    have HE : Hid (chart C.L = .error (3, pl C.L j5)) := by rw [Hid, HSP.out, if_neg hk]
    clear hk
    go_quiet (fail)
    have hpq := hp5.same (hdr nq)
    have xq := HCX.out _ _ x5 (by have := hF5.size; have := hf5.size; have := lt_of_block r5'; omega) (hdr nq).wide
    go_wp2_with (go_at_call 62; refine (throw_any hpq 3).mono ?_; rintro e w6 ⟨q, rfl, hq⟩; exact ⟨rfl, by rw [HE.out]; exact Thrown.up (hF5.up (hdr nq).wide) ⟨q, rfl, hq⟩⟩)
end Go.Proofs.YtanlfmhlohcmgaaGreatDoor
/- the document's own answer: how long the mark is that stands first. -/
namespace Go.Proofs.YtanlfmhlohcmgaaGreatDoor
open Go.RowKit

/-- by lengths, the longest first -/
def byLen : Nat → List UInt8 → Nat
  | 0, _ => 0
  | n + 1, u => if u.length < n + 1 then byLen n u else if Lx.marks.contains (u.take (n + 1)) then n + 1 else byLen n u

theorem prefix_take (m u : List UInt8) (n : Nat) (hn : m.length = n) : m.isPrefixOf u = (decide (n ≤ u.length) && (u.take n == m)) := by
  rw [Bool.eq_iff_iff]
  simp only [List.isPrefixOf_iff_prefix, Bool.and_eq_true, decide_eq_true_eq, beq_iff_eq]
  constructor
  · intro h; refine ⟨hn ▸ h.length_le, ?_⟩; rw [← hn]; exact (List.prefix_iff_eq_take.1 h).symm
  · rintro ⟨_, h2⟩; rw [← h2]; exact List.take_prefix n u

theorem markIn_same (M : List (List UInt8)) (n : Nat) (h : ∀ m ∈ M, m.length = n) (R : List (List UInt8)) (u : List UInt8) :
    Lx.markIn (M ++ R) u = if decide (n ≤ u.length) && M.contains (u.take n) then n else Lx.markIn R u := by
  induction M with
  | nil => simp
  | cons m r ih =>
    have hm := h m (by simp)
    rw [List.cons_append, Lx.markIn, prefix_take m u n hm, ih (fun x hx => h x (by simp [hx])), hm]
    by_cases h1 : n ≤ u.length
    · by_cases h2 : u.take n = m
      · simp [h1, h2]
      · simp only [h1, decide_true, Bool.true_and, beq_iff_eq, h2, if_false, List.contains_cons]
        have h3 : (List.take n u == m) = false := by simpa using h2
        rw [h3, Bool.false_or]
    · simp [h1]

theorem contains_len (A B : List (List UInt8)) (x : List UInt8) (h : ∀ m ∈ A, m.length ≠ x.length) : (A ++ B).contains x = B.contains x := by
  rw [Bool.eq_iff_iff]
  simp only [List.contains_iff_mem, List.mem_append]
  constructor
  · rintro (h1 | h1)
    · exact absurd rfl (h x h1)
    · exact h1
  · exact .inr

theorem mk_byLen (u : List UInt8) : Lx.mk u = byLen 3 u := by
  have e : Lx.marks = [[45, 45, 62]] ++ ([[58, 61], [61, 61], [33, 61], [60, 61], [38, 38], [124, 124]] ++ ([[60], [43], [45], [42], [47], [37], [33], [40], [41], [123], [125], [59], [58], [44]] ++ [])) := rfl
  unfold Lx.mk
  rw [e, markIn_same _ 3 (by decide), markIn_same _ 2 (by decide), markIn_same _ 1 (by decide)]
  simp only [byLen, Lx.markIn]
  have c3 : 3 ≤ u.length → Lx.marks.contains (u.take 3) = [[45, 45, 62]].contains (u.take 3) := by
    intro h
    have hl : (u.take 3).length = 3 := by rw [List.length_take]; omega
    rw [Bool.eq_iff_iff]; simp only [List.contains_iff_mem, Lx.marks, List.mem_cons, List.not_mem_nil, or_false]
    constructor
    · rintro (h | h | h | h | h | h | h | h | h | h | h | h | h | h | h | h | h | h | h | h | h) <;> first | exact h | (rw [h] at hl; simp at hl)
    · exact .inl
  have c2 : 2 ≤ u.length → Lx.marks.contains (u.take 2) = [[58, 61], [61, 61], [33, 61], [60, 61], [38, 38], [124, 124]].contains (u.take 2) := by
    intro h
    have hl : (u.take 2).length = 2 := by rw [List.length_take]; omega
    rw [Bool.eq_iff_iff]; simp only [List.contains_iff_mem, Lx.marks, List.mem_cons, List.not_mem_nil, or_false]
    constructor
    · rintro (h | h | h | h | h | h | h | h | h | h | h | h | h | h | h | h | h | h | h | h | h) <;> first | (simp [h]; done) | (rw [h] at hl; simp at hl)
    · rintro (h | h | h | h | h | h) <;> simp [h]
  have c1 : 1 ≤ u.length → Lx.marks.contains (u.take 1) = [[60], [43], [45], [42], [47], [37], [33], [40], [41], [123], [125], [59], [58], [44]].contains (u.take 1) := by
    intro h
    have hl : (u.take 1).length = 1 := by rw [List.length_take]; omega
    rw [Bool.eq_iff_iff]; simp only [List.contains_iff_mem, Lx.marks, List.mem_cons, List.not_mem_nil, or_false]
    constructor
    · rintro (h | h | h | h | h | h | h | h | h | h | h | h | h | h | h | h | h | h | h | h | h) <;> first | (simp [h]; done) | (rw [h] at hl; simp at hl)
    · rintro (h | h | h | h | h | h | h | h | h | h | h | h | h | h) <;> simp [h]
  by_cases h3 : 3 ≤ u.length
  · rw [c3 h3, c2 (by omega), c1 (by omega)]
    simp [h3, show 2 ≤ u.length by omega, show 1 ≤ u.length by omega, show ¬ u.length < 3 by omega, show ¬ u.length < 2 by omega, show ¬ u.length < 1 by omega]
  · by_cases h2 : 2 ≤ u.length
    · rw [c2 h2, c1 (by omega)]
      simp [h3, h2, show 1 ≤ u.length by omega, show u.length < 3 by omega, show ¬ u.length < 2 by omega, show ¬ u.length < 1 by omega]
    · by_cases h1 : 1 ≤ u.length
      · rw [c1 h1]
        simp [h3, h2, h1, show u.length < 3 by omega, show u.length < 2 by omega, show ¬ u.length < 1 by omega]
      · simp [h3, h2, h1, show u.length < 3 by omega, show u.length < 2 by omega, show u.length < 1 by omega]
end Go.Proofs.YtanlfmhlohcmgaaGreatDoor
/- the document's own answer, mark: its walk. -/
namespace Go.Proofs.YtanlfmhlohcmgaaGreatDoor
open Go.RowKit

theorem byLen_pos (n : Nat) (u : List UInt8) (h : 0 < n) : byLen n u = if u.length < n then byLen (n - 1) u else if Lx.marks.contains (u.take n) then n else byLen (n - 1) u := by
  obtain ⟨m, rfl⟩ : ∃ m, n = m + 1 := ⟨n - 1, by omega⟩
  rfl
theorem lits_at (k : Nat) (hk : k < 21) : ∃ mb : ByteArray, Hid (bs mb = Lx.marks.getD k []) ∧ ∀ w : World, (Instr.index 144 (.agg #[.string ⟨#[45, 45, 62]⟩, .string ⟨#[58, 61]⟩, .string ⟨#[61, 61]⟩, .string ⟨#[33, 61]⟩, .string ⟨#[60, 61]⟩, .string ⟨#[38, 38]⟩, .string ⟨#[124, 124]⟩, .string ⟨#[60]⟩, .string ⟨#[43]⟩, .string ⟨#[45]⟩, .string ⟨#[42]⟩, .string ⟨#[47]⟩, .string ⟨#[37]⟩, .string ⟨#[33]⟩, .string ⟨#[40]⟩, .string ⟨#[41]⟩, .string ⟨#[123]⟩, .string ⟨#[125]⟩, .string ⟨#[59]⟩, .string ⟨#[58]⟩, .string ⟨#[44]⟩]) (.int .i64 k)).run Tryz.prog w = .ok (.string mb) w :=
  ⟨⟨(Lx.marks.getD k []).toArray⟩, rfl, fun w => index_marks k hk w⟩

theorem cut_eq (s mb : ByteArray) (n : Nat) : ((s.extract 0 n).toList == mb.toList) = decide (bs mb = (bs s).take n) := by
  rw [ByteArray.toList_eq, ByteArray.toList_eq, Bool.eq_iff_iff]
  simp only [beq_iff_eq, decide_eq_true_eq]
  have h := bs_extract s 0 n
  rw [List.drop_zero, Nat.sub_zero] at h
  constructor
  · intro h2; rw [← h]; exact h2.symm
  · intro h2; rw [← h] at h2; exact h2.symm
theorem marks_mem (k : Nat) (h : k < 21) : Lx.marks.contains (Lx.marks.getD k []) = true := by
  have : ∀ k : Fin 21, Lx.marks.contains (Lx.marks.getD k.val []) = true := by decide
  exact this ⟨k, h⟩
theorem marks_not (x : List UInt8) (h : ∀ j, j < 21 → Lx.marks.getD j [] ≠ x) : Lx.marks.contains x = false := by
  rw [Bool.eq_false_iff]
  intro hc
  obtain ⟨j, hj, he⟩ := List.getElem_of_mem (List.contains_iff_mem.1 hc)
  exact h j hj (by rw [List.getD_eq_getElem?_getD, List.getElem?_eq_getElem hj]; exact he)
set_option maxRecDepth 100000 in
set_option maxHeartbeats 1000000 in
theorem mark_any (s : ByteArray) (w : World) :
    Calls Tryz.prog 65 #[.string s] w fun e w' => e = .returned (.int .i64 (Lx.mk (bs s) : Nat)) ∧ w' = w := by
  go_enter Tryz.func65, Tryz.ntmps65
  go_wp2
  go_loop [3] (fun i => ∃ n : Nat, n ≤ 3 ∧ i = .int .i64 n ∧ Hid (Lx.mk (bs s) = byLen n (bs s))) (fun i => (intOf i).toNat)
  case atStart => exact ⟨3, by omega, rfl, mk_byLen _⟩
  case round =>
    obtain ⟨n, hn, rfl, hr⟩ := hrel
    by_cases hn0 : 0 < n
    · by_cases hlt : s.size < n
      · have H : Hid (Lx.mk (bs s) = byLen (n - 1) (bs s)) := by
          show _ = _; rw [hr.out, byLen_pos n _ hn0, if_pos (by rw [bs_len]; exact hlt)]
        go_wp2
        go_round
        case rel => exact ⟨n - 1, by omega, by go_num, H⟩
        case measure => simp [intOf]; omega
      · have hr2 : Hid (Lx.mk (bs s) = if Lx.marks.contains ((bs s).take n) then n else byLen (n - 1) (bs s)) := by
          show _ = _; rw [hr.out, byLen_pos n _ hn0, if_neg (by rw [bs_len]; exact hlt)]
        go_wp2
        go_loop [15] (fun i => ∃ k : Nat, k ≤ 21 ∧ i = .int .i64 k ∧ Hid (∀ j, j < k → Lx.marks.getD j [] ≠ (bs s).take n)) (fun i => 21 - (intOf i).toNat)
        case atStart => exact ⟨0, by omega, rfl, fun j hj => absurd hj (by omega)⟩
        case round =>
          obtain ⟨k, hk, rfl, hj⟩ := hrel
          by_cases hlt2 : k < 21
          · obtain ⟨mb, HMB, hix⟩ := lits_at k hlt2
            by_cases heq : bs mb = (bs s).take n
            · have ht : ((s.extract 0 n).toList == mb.toList) = true := by rw [cut_eq]; exact decide_eq_true heq
              have H : Hid (Lx.mk (bs s) = n) := by
                show _ = _; rw [hr2.out, ← heq, HMB.out, marks_mem k hlt2]; rfl
              clear heq
              go_wp2
              go_ret
              exact ⟨ret_int (by rw [H.out]), rfl⟩
            · have ht : ((s.extract 0 n).toList == mb.toList) = false := by rw [cut_eq]; exact decide_eq_false heq
              have H : Hid (∀ j, j < k + 1 → Lx.marks.getD j [] ≠ (bs s).take n) := by
                intro j hjk
                by_cases e : j = k
                · subst e; rw [← HMB.out]; exact heq
                · exact hj.out j (by omega)
              clear heq
              go_wp2
              go_round
              case rel => exact ⟨k + 1, by omega, by go_num, H⟩
              case measure => simp [intOf]; omega
          · have hk21 : k = 21 := by omega
            subst hk21
            have H : Hid (Lx.mk (bs s) = byLen (n - 1) (bs s)) := by
              show _ = _; rw [hr2.out, marks_not _ hj.out]; rfl
            go_wp2
            go_round
            case rel => exact ⟨n - 1, by omega, by go_num, H⟩
            case measure => simp [intOf]; omega
    · have h0 : n = 0 := by omega
      subst h0
      go_wp2
      go_ret
      exact ⟨ret_int (by rw [hr.out]; rfl), rfl⟩
end Go.Proofs.YtanlfmhlohcmgaaGreatDoor
