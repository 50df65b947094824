/- chart: braced around the function in it, and chart whole. -/
import Derived.Test.YtobamalnbjbmiaaGreatDoorQPchart
import Derived.Deep.QuietTactic
import Derived.BigQuiet
namespace Go.Proofs.YtobamalnbjbmiaaGreatDoor
open Go.RowKit Px

theorem item_err {L : List Lx.Tok} {g c i : Nat} {vs : List Decl} {rs : List (List (St 6))} {f : F} (h : stepI L vs rs c i = .error f) : items L (g + 1) vs rs c i = .error f := by
  rw [stepI] at h
  rw [items]
  by_cases hk : kindOf (tx L i) ≠ 0
  · rw [if_pos hk] at h ⊢
    by_cases h2 : 20 ≤ vs.length
    · rw [if_pos h2] at h ⊢; injection h with h; subst h; rfl
    · rw [if_neg h2] at h ⊢
      split at h
      · rename_i hs; injection h with h; subst h; rw [hs]
      · exact absurd h (by simp)
  · rw [if_neg hk] at h ⊢
    by_cases hr : tx L i = kRegion
    · rw [if_pos hr] at h ⊢
      split at h
      · rename_i hs; injection h with h; subst h; rw [hs]
      · exact absurd h (by simp)
    · rw [if_neg hr] at h; exact absurd h (by simp)
theorem item_some {L : List Lx.Tok} {g c i c' j : Nat} {vs vs' : List Decl} {rs rs' : List (List (St 6))} (h : stepI L vs rs c i = .ok (some (vs', rs', c', j))) : items L (g + 1) vs rs c i = items L g vs' rs' c' j := by
  rw [stepI] at h
  rw [items]
  by_cases hk : kindOf (tx L i) ≠ 0
  · rw [if_pos hk] at h ⊢
    by_cases h2 : 20 ≤ vs.length
    · rw [if_pos h2] at h; exact absurd h (by simp)
    · rw [if_neg h2] at h ⊢
      split at h
      · exact absurd h (by simp)
      · rename_i hs
        rw [hs]
        injection h with h; injection h with h; injection h with e1 h; injection h with e2 h; injection h with e3 e4; subst e1; subst e2; subst e3; subst e4
        rfl
  · rw [if_neg hk] at h ⊢
    by_cases hr : tx L i = kRegion
    · rw [if_pos hr] at h ⊢
      split at h
      · exact absurd h (by simp)
      · rename_i hs
        rw [hs]
        injection h with h; injection h with h; injection h with e1 h; injection h with e2 h; injection h with e3 e4; subst e1; subst e2; subst e3; subst e4
        rfl
    · rw [if_neg hr] at h; exact absurd h (by simp)
theorem item_none {L : List Lx.Tok} {g c i : Nat} {vs : List Decl} {rs : List (List (St 6))} (h : stepI L vs rs c i = .ok none) : items L (g + 1) vs rs c i = if tx L i = kShut then .ok (vs, rs, i + 1) else .error (3, pl L i) := by
  rw [stepI] at h
  rw [items]
  by_cases hk : kindOf (tx L i) ≠ 0
  · rw [if_pos hk] at h
    by_cases h2 : 20 ≤ vs.length
    · rw [if_pos h2] at h; exact absurd h (by simp)
    · rw [if_neg h2] at h
      split at h
      · exact absurd h (by simp)
      · exact absurd h (by simp)
  · rw [if_neg hk] at h ⊢
    by_cases hr : tx L i = kRegion
    · rw [if_pos hr] at h
      split at h
      · exact absurd h (by simp)
      · exact absurd h (by simp)
    · rw [if_neg hr]
def ChOk (C : Ctx) (B ba cb : Nat) (nm : Str) (x : List Decl × List (List (St 6)) × Nat) (v : Value) (w' : World) : Prop := v = .tuple #[] ∧ (∃ c', PS C w' x.2.2 c' 0 0) ∧ CE C B ba cb w' ∧ CUx B cb w' nm x.1 x.2.1
theorem brace_chart {C : Ctx} {B ba cb i c : Nat} {w : World} {nm : Str} (h : PS C w i c 0 0) (hE : CE C B ba cb w) (hU : CUx B cb w nm [] []) :
    Calls Tryz.prog 83 #[.pointer (some ⟨C.rb, 0, none⟩), .func (.func 84) #[] #[.pointer (some ⟨ba, 0, none⟩), .pointer (some ⟨cb, 0, none⟩)]] w
      (OutX B [C.rb, cb] (ChOk C B ba cb nm) w (if tx C.L i = kOpen then items C.L C.L.length [] [] c (i + 1) else .error (3, pl C.L i))) := by
  obtain ⟨RES, hRES⟩ : ∃ RES, RES = (if tx C.L i = kOpen then items C.L C.L.length [] [] c (i + 1) else .error (3, pl C.L i)) := ⟨_, rfl⟩
  rw [← hRES]
  have hX : ∀ x ∈ [C.rb], x < B := by have := hE.lr; simp; omega
  have hne' : cb ∉ [C.rb] := by have := hE.nc; simp; omega
  have carU : ∀ {w1 w2 : World} {vs : List Decl} {rs : List (List (St 6))}, CUx B cb w1 nm vs rs → Fr w1.heap.size [C.rb] w1 w2 → CUx B cb w2 nm vs rs := by
    rintro w1 w2 vs rs ⟨v, r, xv, xr, hu⟩ hf
    exact ⟨v, r, xv, xr, hu.carry hX hne' hf⟩
  have lowE : ∀ {w1 w2 : World}, CE C B ba cb w1 → Fr w1.heap.size [C.rb] w1 w2 → CE C B ba cb w2 := fun h1 hf => h1.low (hf.mono h1.hB (by simp))
  refine braced_chart h _ (fun g w1 => ∃ (vs : List Decl) (rs : List (List (St 6))) (c1 j : Nat), RES = items C.L g vs rs c1 j ∧ C.L.length ≤ g + j ∧ vs.length ≤ 20 ∧ rs.length ≤ j ∧ PS C w1 j c1 0 0 ∧ CE C B ba cb w1 ∧ CUx B cb w1 nm vs rs ∧ Fr B [C.rb, cb] w w1)
    (fun w2 => ∃ (vs : List Decl) (rs : List (List (St 6))) (c1 j : Nat), RES = (if tx C.L j = kShut then .ok (vs, rs, j + 1) else .error (3, pl C.L j)) ∧ PS C w2 j c1 0 0 ∧ CE C B ba cb w2 ∧ CUx B cb w2 nm vs rs ∧ Fr B [C.rb, cb] w w2) C.L.length ?_ ?_ ?_ ?_
  · intro hn e w' ht
    rw [hRES, if_neg hn]
    exact ht.x (Fr.refl _ _ _) hE.hB (by simp)
  · intro ho w1 hp1 hf1
    exact ⟨[], [], c, i + 1, by rw [hRES, if_pos ho], by omega, by simp, by simp, hp1, lowE hE hf1, carU hU hf1, hf1.x hE.hB⟩
  · rintro g w1 ⟨vs, rs, c1, j, hr1, hg, hv1, hrj, hp1, hE1, hU1, hf1⟩
    obtain ⟨g', rfl⟩ : ∃ g', g = g' + 1 := ⟨g - 1, by have := hp1.lt; omega⟩
    refine (chart1_any hp1 hE1 hU1 hv1 hrj).mono ?_
    rintro e w2 h2
    rcases h2.cases with ⟨f, hr2, ht⟩ | ⟨o, v, hr2, rfl, hv, hf2⟩
    · refine .inr (.inr ?_)
      obtain ⟨q, rfl, hq⟩ := ht
      refine ⟨_, rfl, ?_⟩
      rw [hr1, item_err hr2.out]
      exact ThrownX.up ⟨q, rfl, hq⟩ hf1
    · cases o with
      | none =>
        obtain ⟨rfl, hp2, hE2, hU2⟩ := hv
        exact .inr (.inl ⟨rfl, vs, rs, c1, j, by rw [hr1, item_none hr2.out], hp2, hE2, hU2, hf1.trans hf2⟩)
      | some x =>
        obtain ⟨vs2, rs2, c2, j2⟩ := x
        obtain ⟨rfl, hlt, hl2, hl3, hp2, hE2, hU2⟩ := hv
        exact .inl ⟨rfl, g', by omega, vs2, rs2, c2, j2, by rw [hr1, item_some hr2.out], by omega, hl2, hl3, hp2, hE2, hU2, hf1.trans hf2⟩
  · rintro w2 ⟨vs, rs, c1, j, hr1, hp1, hE1, hU1, hf1⟩
    refine ⟨j, c1, hp1, fun hn e w3 ht => ?_, fun ho w3 hp3 hf3 => ?_⟩
    · rw [hr1, if_neg hn]
      exact ht.x hf1 (Nat.le_trans hE.hB hf1.size) (by simp)
    · rw [hr1, if_pos ho]
      exact ⟨_, rfl, ⟨rfl, ⟨c1, hp3⟩, lowE hE1 hf3, carU hU1 hf3⟩, hf1.trans (hf3.x (Nat.le_trans hE.hB hf1.size))⟩

theorem Tryz.sizeChart : (Tryz.prog.info? 26).map (·.size) = some 3 := by kernel_rfl
theorem load25 {W : World} {g : Nat} {fc : Array Value} (hsz : fc.size = 3) (hg : W.heap[g]? = some (.cells fc 26 (0, 0))) : (loadVar 26 ⟨g, 0, none⟩).run Tryz.prog W = .ok (.agg fc) W :=
  run_loadVar_row (P := Tryz.prog) W g 26 26 fc (0, 0) _ hg Tryz.underlying26 rfl (by rw [hsz]; exact Tryz.sizeChart)
theorem resultsC (tmps : Array Value) (W : World) (g : Nat) (fc : Array Value) (hsz : fc.size = 3) (hp : tmps.getD 2 undef = .pointer (some ⟨g, 0, none⟩)) (hg : W.heap[g]? = some (.cells fc 26 (0, 0))) :
    (results Tryz.f47 tmps).run Tryz.prog W = .ok (.agg fc) W := by
  have hp' : tmps[2]?.getD undef = .pointer (some ⟨g, 0, none⟩) := by simpa using hp
  simp [results, Tryz.results47, hp', asAddr, load25 hsz hg]
/-- a chart in memory -/
def IsChart (A : Nat → Prop) (w : World) (c : Chart) (v : Value) : Prop := ∃ a n m a' n' m', v = .agg #[sv c.name, .slice a n m, .slice a' n' m'] ∧ IsVars A w c.vars (.slice a n m) ∧ IsRegs A w (IsStates A w 6) c.regions (.slice a' n' m')
theorem CU.done {B cb : Nat} {w : World} {nm : Str} {vs : List Decl} {rs : List (List (St 6))} {v r : Value} {xv xr : List Value} (h : CU B cb w nm vs rs v r xv xr) : IsVars (Ge B) w vs v ∧ IsRegs (Ge B) w (IsStates (Ge B) w 6) rs r := by
  have kp : Keep (Nots B [sDecl vs v xv, sReg 6 rs r xr]) (Ge B) w w := fun b hb _ => ⟨hb.1, rfl⟩
  have o := h.good.own
  have hs := h.good.has
  have ow : ∀ x ∈ [sDecl vs v xv, sReg 6 rs r xr], Row (Ge B) w x.t x.sz x.v x.n x.xs := fun x hx => ⟨own_base0 (o x hx), fun g hg => ((o x hx).lt g hg).1⟩
  exact ⟨⟨xv, ow (sDecl vs v xv) (by simp), hs (sDecl vs v xv) (by simp)⟩, ⟨xr, ow (sReg 6 rs r xr) (by simp), cReg kp _ _ _ _ (hs (sReg 6 rs r xr) (by simp))⟩⟩

theorem chart_brace_err {L : List Lx.Tok} {s : Str} {f : F} (h1 : tx L 0 = kChart) (h2 : nm L 1 = .ok s) (h : (if tx L 2 = kOpen then items L L.length [] [] 0 3 else .error (3, pl L 2)) = .error f) : chart L = .error f := by
  rw [chart, if_pos h1, h2]
  simp only
  by_cases ho : tx L 2 = kOpen
  · rw [if_pos ho] at h ⊢; rw [h]
  · rw [if_neg ho] at h ⊢; injection h with h; subst h; rfl
theorem chart_brace_ok {L : List Lx.Tok} {s : Str} {vs : List Decl} {rs : List (List (St 6))} {i : Nat} (h1 : tx L 0 = kChart) (h2 : nm L 1 = .ok s) (h : (if tx L 2 = kOpen then items L L.length [] [] 0 3 else .error (3, pl L 2)) = .ok (vs, rs, i)) : chart L = if kd L i = 4 then .ok ⟨s, vs, rs⟩ else .error (3, pl L i) := by
  rw [chart, if_pos h1, h2]
  simp only
  by_cases ho : tx L 2 = kOpen
  · rw [if_pos ho] at h ⊢; rw [h]
  · rw [if_neg ho] at h; exact absurd h (by simp)
abbrev ZC : Array Value := #[.string ⟨#[]⟩, .slice none 0 0, .slice none 0 0]
set_option maxRecDepth 100000 in
set_option maxHeartbeats 8000000 in
theorem chart_any {C : Ctx} {w : World} (h : PS C w 0 0 0 0) : Calls Tryz.prog 47 #[.pointer (some ⟨C.rb, 0, none⟩)] w (Out C (fun c v w' => IsChart (Ge w.heap.size) w' c v) w (chart C.L)) := by
  have hC := h.lts.1
  have hmf : ∀ (fn : Fn) (first cap : Array Value) (w : World), (Instr.makeFunc fn first cap).run Tryz.prog w = .ok (.func fn first cap) w := fun _ _ _ _ => rfl
  obtain ⟨hpa, hfa⟩ := h.alloc (.cells #[.pointer (some ⟨C.rb, 0, none⟩)] 153)
  obtain ⟨hp0, hfb⟩ := hpa.alloc (.cells ZC 26)
  have hF0 := hfa.up hfb
  have hz0 : ((w.alloc (.cells #[.pointer (some ⟨C.rb, 0, none⟩)] 153)).alloc (.cells ZC 26)).heap.size = w.heap.size + 2 := by simp
  have x0 : ((w.alloc (.cells #[.pointer (some ⟨C.rb, 0, none⟩)] 153)).alloc (.cells ZC 26)).cell? ⟨w.heap.size, 0, none⟩ = some (.pointer (some ⟨C.rb, 0, none⟩)) := by simp
  have r0 : ((w.alloc (.cells #[.pointer (some ⟨C.rb, 0, none⟩)] 153)).alloc (.cells ZC 26)).heap[w.heap.size + 1]? = some (.cells ZC 26 (0, 0)) := by
    have := heap_alloc_new (w.alloc (.cells #[.pointer (some ⟨C.rb, 0, none⟩)] 153)) (.cells ZC 26)
    simpa using this
  go_enter Tryz.func47, Tryz.ntmps47
  go_upto_region 1 with fail
  generalize ((w.alloc (.cells #[.pointer (some ⟨C.rb, 0, none⟩)] 153)).alloc (.cells ZC 26)) = W0 at hp0 hfb hF0 hz0 x0 r0 ⊢
  have HCX : Hid (∀ (W W' : World), W.cell? ⟨w.heap.size, 0, none⟩ = some (.pointer (some ⟨C.rb, 0, none⟩)) → w.heap.size < W.heap.size → Fr W.heap.size [C.rb] W W' → W'.cell? ⟨w.heap.size, 0, none⟩ = some (.pointer (some ⟨C.rb, 0, none⟩))) := fun W W' h1 h2 hf => by rw [hf.cell (p := ⟨w.heap.size, 0, none⟩) h2 (by simp; omega)]; exact h1
  go_wp2_with (first
    | (go_at_call 81; refine (need_any hp0 ⟨#[99, 104, 97, 114, 116]⟩ kChart rfl (by decide)).mono ?_; rintro e w1 h1; rcases h1.cases with ⟨f, hr1, q, rfl, hq⟩ | ⟨_, v1, hr1, rfl, ⟨rfl, hp1⟩, hf1⟩; (· exact ⟨rfl, by rw [chart, if_neg (need_bad hr1).1, ← (need_bad hr1).2]; exact Thrown.up hF0 ⟨q, rfl, hq⟩⟩); have x1 := HCX.out _ _ x0 (by omega) hf1; have hz1 := hf1.size; have r1 := hf1.stays r0 (by omega))
    | (go_at_call 82; refine (name_any hp1).mono ?_; rintro e w2 h2; rcases h2.cases with ⟨f, hr2, q, rfl, hq⟩ | ⟨s2, v2, hr2, rfl, ⟨rfl, hp2⟩, hf2⟩; (· exact ⟨rfl, by rw [chart, if_pos (need_ok hr1), hr2.out]; exact Thrown.up (hF0.up hf1) ⟨q, rfl, hq⟩⟩); rw [sv]; have x2 := HCX.out _ _ x1 (by omega) hf2; have hz2 := hf2.size; have r2 := hf2.stays r1 (by omega); obtain ⟨hp3, hf3⟩ := hp2.alloc (.cells #[.string ⟨s2.toArray⟩, .slice none 0 0, .slice none 0 0] 26); have x3 := HCX.out _ _ x2 (by omega) hf3; have r3 := hf3.stays r2 (by omega); have b3 := heap_alloc_new w2 (.cells #[.string ⟨s2.toArray⟩, .slice none 0 0, .slice none 0 0] 26); have hF3 := ((hF0.up hf1).up hf2).up hf3; have hE3 : CE C (w2.heap.size + 1) w.heap.size w2.heap.size (w2.alloc (.cells #[.string ⟨s2.toArray⟩, .slice none 0 0, .slice none 0 0] 26)) := ⟨x3, by omega, by omega, hC, by omega, by omega, by omega, lt_of_block b3⟩; have hU3 : CUx (w2.heap.size + 1) w2.heap.size (w2.alloc (.cells #[.string ⟨s2.toArray⟩, .slice none 0 0, .slice none 0 0] 26)) s2 [] [] := ⟨_, _, [], [], b3, ⟨by intro x hx; simp only [List.mem_cons, List.not_mem_nil, or_false] at hx; rcases hx with rfl | rfl <;> exact World.ownsRow_nil _ _ _ _, by simp [sDecl, sReg, Value.ownBlock], by intro x hx; simp only [List.mem_cons, List.not_mem_nil, or_false] at hx; rcases hx with rfl | rfl <;> rfl⟩⟩; have hbr := brace_chart hp3 hE3 hU3; have hz3 := hF3.size; have HTH : Hid (∀ f e w5, ThrownX (w2.heap.size + 1) [C.rb, w2.heap.size] (w2.alloc (.cells #[.string ⟨s2.toArray⟩, .slice none 0 0, .slice none 0 0] 26)) f e w5 → Thrown C w f e w5) := (fun f e w5 ⟨q, h1, h2, h3, h4⟩ => ⟨q, h1, h2, Nat.le_trans hz3 h3, hF3.trans (h4.mono (by omega) (by intro x hx hlt; simp at hx ⊢; omega))⟩))
    | (go_at_call 83; refine hbr.mono ?_; rintro e w5 h5; rcases h5.cases with ⟨f, hr5, q, rfl, hq⟩ | ⟨⟨vs5, rs5, j5⟩, v5, hr5, rfl, ⟨rfl, ⟨c5, hp5⟩, hE5, v5', r5, xv5, xr5, hU5⟩, hf5⟩; (· exact ⟨rfl, by rw [chart_brace_err (need_ok hr1) hr2.out hr5.out]; exact HTH.out _ _ _ ⟨q, rfl, hq⟩⟩); have x5 := hE5.a))
  have HSP : Hid (chart C.L = if kd C.L j5 = 4 then .ok ⟨s2, vs5, rs5⟩ else .error (3, pl C.L j5)) := chart_brace_ok (need_ok hr1) hr2.out hr5.out
  have hF5 : Fr w.heap.size [C.rb] w w5 := hF3.trans (hf5.mono (by omega) (by intro x hx hlt; simp at hx ⊢; omega))
  have r5' : w5.heap[w.heap.size + 1]? = some (.cells ZC 26 (0, 0)) := by rw [hf5.block (w.heap.size + 1) (by omega) (by simp; omega)]; exact r3
  obtain ⟨q0, q1, -⟩ := hp5.cells
  obtain ⟨t0, -, -⟩ := hp5.now
  have hi0 : (0 : Int) ≤ (j5 : Int) := Int.natCast_nonneg _
  have hi1 : (j5 : Int) < (C.L.length : Int) := by have := hp5.lt; omega
  have hdr : ∀ n, Fr w5.heap.size [] w5 (w5.drewN n) := fun n => (Fr.refl _ _ _).drewN n
  by_cases hk : kd C.L j5 = 4
  · have hk4 : (((kd C.L j5 : Nat) : Int) != 4) = false := by simp; omega
    have HE : Hid (chart C.L = .ok ⟨s2, vs5, rs5⟩) := by rw [Hid, HSP.out, if_pos hk]
    clear hk
    have o1 : w5.ownsRow (w2.heap.size + 1) 53 3 v5' vs5.length xv5 := hU5.good.own (sDecl vs5 v5' xv5) (by simp)
    have o2 : w5.ownsRow (w2.heap.size + 1) 66 1 r5 rs5.length xr5 := hU5.good.own (sReg 6 rs5 r5 xr5) (by simp)
    obtain ⟨a1, m1, rfl⟩ := owns_shape o1
    obtain ⟨a2, m2, rfl⟩ := owns_shape o2
    go_quiet (fail)
    have hUq := hU5.carry (X := []) (by simp) (by simp) (hdr nq)
    have hFq : Fr w.heap.size [C.rb] w (w5.drewN nq) := hF5.up (hdr nq).wide
    have rq : (w5.drewN nq).heap[w.heap.size + 1]? = some (.cells ZC 26 (0, 0)) := by rw [(hdr nq).block _ (lt_of_block r5') (by simp)]; exact r5'
    have hz5 := hf5.size
    generalize w5.drewN nq = w6 at hUq hFq rq ⊢
    go_wp2_with (first
      | (refine wpList_load_eq rfl 26 (.tmp 3) rfl ⟨w2.heap.size, 0, none⟩ rfl (.agg #[sv s2, .slice a1 vs5.length m1, .slice a2 rs5.length m2]) (load25 rfl hUq.at_) ?_)
      | (refine wpList_store_row rfl 26 (.tmp 2) (.tmp 26) rfl (w.heap.size + 1) #[sv s2, .slice a1 vs5.length m1, .slice a2 rs5.length m2] rfl rfl 26 _ rq Tryz.sizeChart rfl (by simp [Value.oneCell', sv]) ?_))
    refine bodyPost_ret (resultsC _ _ (w.heap.size + 1) #[sv s2, .slice a1 vs5.length m1, .slice a2 rs5.length m2] rfl rfl (setRow_heap _ _ _ _ _ _ rq)) rfl ?_
    rw [HE.out]
    obtain ⟨d1, d2⟩ := hUq.done
    have hfr := fr_row w6 (w.heap.size + 1) #[sv s2, .slice a1 vs5.length m1, .slice a2 rs5.length m2]
    have kp : Keep (Ge (w2.heap.size + 1)) (Ge w.heap.size) w6 (w6.setRow (w.heap.size + 1) #[sv s2, .slice a1 vs5.length m1, .slice a2 rs5.length m2]) := fun b hb hlt => ⟨by simp [Ge] at *; omega, hfr.block b hlt (by simp [Ge] at *; omega)⟩
    exact ⟨_, rfl, ⟨a1, _, m1, a2, _, m2, rfl, d1.carry kp, d2.carry kp (IsStates.carry kp 6)⟩, hFq.row (.inl (by omega)) _⟩
  · have hk4 : (((kd C.L j5 : Nat) : Int) != 4) = true := by simp; omega
    have HE : Hid (chart C.L = .error (3, pl C.L j5)) := by rw [Hid, HSP.out, if_neg hk]
    clear hk
    go_quiet (fail)
    have hpq := hp5.same (hdr nq)
    have xq := HCX.out _ _ x5 (by have := hF5.size; have := hf5.size; have := lt_of_block r5'; omega) (hdr nq).wide
    go_wp2_with (go_at_call 91; refine (throw_any hpq 3).mono ?_; rintro e w6 ⟨q, rfl, hq⟩; exact ⟨rfl, by rw [HE.out]; exact Thrown.up (hF5.up (hdr nq).wide) ⟨q, rfl, hq⟩⟩)
end Go.Proofs.YtobamalnbjbmiaaGreatDoor
