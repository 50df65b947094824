import Derived.Test.YtpogmfliojcnjaaGreatDoorQPchart
import Derived.Deep.QuietTactic
import Derived.BigQuiet
import Derived.Test.YtpogmfliojcnjaaGreatDoorQShelf
namespace Go.Proofs.YtpogmfliojcnjaaGreatDoor
open Go.RowKit Px
theorem item_err {L : List Lx.Tok} {g c i : Nat} {vs : List Decl} {rs : List (List (St 6))} {f : F} (h : stepI L vs rs c i = .error f) : items L (g + 1) vs rs c i = .error f := by
 rw [stepI] at h
 rw [items]
 by_cases hk : kindOf (tx L i) ≠ 0
 ·rw [if_pos hk] at h ⊢
  by_cases h2 : 20 ≤ vs.length
  ·rw [if_pos h2] at h ⊢; injection h with h; subst h; rfl
  ·rw [if_neg h2] at h ⊢
   split at h
   ·rename_i hs; injection h with h; subst h; rw [hs]
   ·exact absurd h (by simp)
 ·rw [if_neg hk] at h ⊢
  by_cases hr : tx L i = kRegion
  ·rw [if_pos hr] at h ⊢
   split at h
   ·rename_i hs; injection h with h; subst h; rw [hs]
   ·exact absurd h (by simp)
  ·rw [if_neg hr] at h; exact absurd h (by simp)
theorem item_some {L : List Lx.Tok} {g c i c' j : Nat} {vs vs' : List Decl} {rs rs' : List (List (St 6))} (h : stepI L vs rs c i = .ok (some (vs', rs', c', j))) : items L (g + 1) vs rs c i = items L g vs' rs' c' j := by
 rw [stepI] at h
 rw [items]
 by_cases hk : kindOf (tx L i) ≠ 0
 ·rw [if_pos hk] at h ⊢
  by_cases h2 : 20 ≤ vs.length
  ·rw [if_pos h2] at h; exact absurd h (by simp)
  ·rw [if_neg h2] at h ⊢
   split at h
   ·exact absurd h (by simp)
   ·rename_i hs
    rw [hs]
    injection h with h; injection h with h; injection h with e1 h; injection h with e2 h; injection h with e3 e4; subst e1; subst e2; subst e3; subst e4
    rfl
 ·rw [if_neg hk] at h ⊢
  by_cases hr : tx L i = kRegion
  ·rw [if_pos hr] at h ⊢
   split at h
   ·exact absurd h (by simp)
   ·rename_i hs
    rw [hs]
    injection h with h; injection h with h; injection h with e1 h; injection h with e2 h; injection h with e3 e4; subst e1; subst e2; subst e3; subst e4
    rfl
  ·rw [if_neg hr] at h; exact absurd h (by simp)
theorem item_none {L : List Lx.Tok} {g c i : Nat} {vs : List Decl} {rs : List (List (St 6))} (h : stepI L vs rs c i = .ok none) : items L (g + 1) vs rs c i = if tx L i = kShut then .ok (vs, rs, i + 1) else .error (3, pl L i) := by
 rw [stepI] at h
 rw [items]
 by_cases hk : kindOf (tx L i) ≠ 0
 ·rw [if_pos hk] at h
  by_cases h2 : 20 ≤ vs.length
  ·rw [if_pos h2] at h; exact absurd h (by simp)
  ·rw [if_neg h2] at h
   split at h
   ·exact absurd h (by simp)
   ·exact absurd h (by simp)
 ·rw [if_neg hk] at h ⊢
  by_cases hr : tx L i = kRegion
  ·rw [if_pos hr] at h
   split at h
   ·exact absurd h (by simp)
   ·exact absurd h (by simp)
  ·rw [if_neg hr]
def ChOk (C : Ctx) (B ba cb : Nat) (nm : Str) (x : List Decl × List (List (St 6)) × Nat) (v : Value) (w' : World) : Prop := v = .tuple #[] ∧ (∃ c', PS C w' x.2.2 c' 0 0) ∧ CE C B ba cb w' ∧ CUx B cb w' nm x.1 x.2.1
theorem brace_chart {C : Ctx} {B ba cb i c : Nat} {w : World} {nm : Str} (h : PS C w i c 0 0) (hE : CE C B ba cb w) (hU : CUx B cb w nm [] []) :
    Calls Tryz.prog 94 #[.pointer (some ⟨C.rb, 0, none⟩), .func (.func 95) #[] #[.pointer (some ⟨ba, 0, none⟩), .pointer (some ⟨cb, 0, none⟩)]] w
     (OutX B [C.rb, cb] (ChOk C B ba cb nm) w (if tx C.L i = kOpen then items C.L C.L.length [] [] c (i + 1) else .error (3, pl C.L i))) := by
 obtain ⟨RES, hRES⟩ : ∃ RES, RES = (if tx C.L i = kOpen then items C.L C.L.length [] [] c (i + 1) else .error (3, pl C.L i)) := ⟨_, rfl⟩
 rw [← hRES]
 have hX : ∀ x ∈ [C.rb], x < B := by have := hE.lr; simp; omega
 have hne' : cb ∉ [C.rb] := by have := hE.nc; simp; omega
 have carU : ∀ {w1 w2 : World} {vs : List Decl} {rs : List (List (St 6))}, CUx B cb w1 nm vs rs → Fr w1.heap.size [C.rb] w1 w2 → CUx B cb w2 nm vs rs := by
  rintro w1 w2 vs rs ⟨v, r, xv, xr, hu⟩ hf
  exact ⟨v, r, xv, xr, hu.carry hX hne' hf⟩
 have lowE : ∀ {w1 w2 : World}, CE C B ba cb w1 → Fr w1.heap.size [C.rb] w1 w2 → CE C B ba cb w2 := fun h1 hf => h1.low (hf.mono h1.hB (by simp))
 refine braced_chart h _ (fun g w1 => ∃ (vs : List Decl) (rs : List (List (St 6))) (c1 j : Nat), RES = items C.L g vs rs c1 j ∧ C.L.length ≤ g + j ∧ vs.length ≤ 20 ∧ rs.length ≤ j ∧ PS C w1 j c1 0 0 ∧ CE C B ba cb w1 ∧ CUx B cb w1 nm vs rs ∧ Fr B [C.rb, cb] w w1)
  (fun w2 => ∃ (vs : List Decl) (rs : List (List (St 6))) (c1 j : Nat), RES = (if tx C.L j = kShut then .ok (vs, rs, j + 1) else .error (3, pl C.L j)) ∧ PS C w2 j c1 0 0 ∧ CE C B ba cb w2 ∧ CUx B cb w2 nm vs rs ∧ Fr B [C.rb, cb] w w2) C.L.length ?_ ?_ ?_ ?_
 ·intro hn e w' ht
  rw [hRES, if_neg hn]
  exact ht.x (Fr.refl _ _ _) hE.hB (by simp)
 ·intro ho w1 hp1 hf1
  exact ⟨[], [], c, i + 1, by rw [hRES, if_pos ho], by omega, by simp, by simp, hp1, lowE hE hf1, carU hU hf1, hf1.x hE.hB⟩
 ·rintro g w1 ⟨vs, rs, c1, j, hr1, hg, hv1, hrj, hp1, hE1, hU1, hf1⟩
  obtain ⟨g', rfl⟩ : ∃ g', g = g' + 1 := ⟨g - 1, by have := hp1.lt; omega⟩
  refine (chart1_any hp1 hE1 hU1 hv1 hrj).mono ?_
  rintro e w2 h2
  rcases h2.cases with ⟨f, hr2, ht⟩ | ⟨o, v, hr2, rfl, hv, hf2⟩
  ·refine .inr (.inr ?_)
   obtain ⟨q, rfl, hq⟩ := ht
   refine ⟨_, rfl, ?_⟩
   rw [hr1, item_err hr2.out]
   exact ThrownX.up ⟨q, rfl, hq⟩ hf1
  ·cases o with
   | none =>
    obtain ⟨rfl, hp2, hE2, hU2⟩ := hv
    exact .inr (.inl ⟨rfl, vs, rs, c1, j, by rw [hr1, item_none hr2.out], hp2, hE2, hU2, hf1.trans hf2⟩)
   | some x =>
    obtain ⟨vs2, rs2, c2, j2⟩ := x
    obtain ⟨rfl, hlt, hl2, hl3, hp2, hE2, hU2⟩ := hv
    exact .inl ⟨rfl, g', by omega, vs2, rs2, c2, j2, by rw [hr1, item_some hr2.out], by omega, hl2, hl3, hp2, hE2, hU2, hf1.trans hf2⟩
 ·rintro w2 ⟨vs, rs, c1, j, hr1, hp1, hE1, hU1, hf1⟩
  refine ⟨j, c1, hp1, fun hn e w3 ht => ?_, fun ho w3 hp3 hf3 => ?_⟩
  ·rw [hr1, if_neg hn]
   exact ht.x hf1 (Nat.le_trans hE.hB hf1.size) (by simp)
  ·rw [hr1, if_pos ho]
   exact ⟨_, rfl, ⟨rfl, ⟨c1, hp3⟩, lowE hE1 hf3, carU hU1 hf3⟩, hf1.trans (hf3.x (Nat.le_trans hE.hB hf1.size))⟩
theorem Tryz.sizeChart : (Tryz.prog.info? 28).map (·.size) = some 3 := by kernel_rfl
theorem load25 {W : World} {g : Nat} {fc : Array Value} (hsz : fc.size = 3) (hg : W.heap[g]? = some (.cells fc 28 (0, 0))) : (loadVar 28 ⟨g, 0, none⟩).run Tryz.prog W = .ok (.agg fc) W :=
 run_loadVar_row (P := Tryz.prog) W g 28 28 fc (0, 0) _ hg Tryz.underlying28 rfl (by rw [hsz]; exact Tryz.sizeChart)
theorem resultsC (tmps : Array Value) (W : World) (g : Nat) (fc : Array Value) (hsz : fc.size = 3) (hp : tmps.getD 2 undef = .pointer (some ⟨g, 0, none⟩)) (hg : W.heap[g]? = some (.cells fc 28 (0, 0))) :
    (results Tryz.f55 tmps).run Tryz.prog W = .ok (.agg fc) W := by
 have hp' : tmps[2]?.getD undef = .pointer (some ⟨g, 0, none⟩) := by simpa using hp
 simp [results, Tryz.results55, hp', asAddr, load25 hsz hg]
def IsChart (A : Nat → Prop) (w : World) (c : Chart) (v : Value) : Prop := ∃ a n m a' n' m', v = .agg #[sv c.name, .slice a n m, .slice a' n' m'] ∧ IsVars A w c.vars (.slice a n m) ∧ IsRegs A w (IsStates A w 6) c.regions (.slice a' n' m')
theorem CU.done {B cb : Nat} {w : World} {nm : Str} {vs : List Decl} {rs : List (List (St 6))} {v r : Value} {xv xr : List Value} (h : CU B cb w nm vs rs v r xv xr) : IsVars (Ge B) w vs v ∧ IsRegs (Ge B) w (IsStates (Ge B) w 6) rs r := by
 have kp : Keep (Nots B [sDecl vs v xv, sReg 6 rs r xr]) (Ge B) w w := fun b hb _ => ⟨hb.1, rfl⟩
 have o := h.good.own
 have hs := h.good.has
 have ow : ∀ x ∈ [sDecl vs v xv, sReg 6 rs r xr], Row (Ge B) w x.t x.sz x.v x.n x.xs := fun x hx => ⟨own_base0 (o x hx), fun g hg => ((o x hx).lt g hg).1⟩
 exact ⟨⟨xv, ow (sDecl vs v xv) (by simp), hs (sDecl vs v xv) (by simp)⟩, ⟨xr, ow (sReg 6 rs r xr) (by simp), cReg kp _ _ _ _ (hs (sReg 6 rs r xr) (by simp))⟩⟩
theorem chart_brace_err {L : List Lx.Tok} {s : Str} {f : F} (h1 : tx L 0 = kChart) (h2 : nm L 1 = .ok s) (h : (if tx L 2 = kOpen then items L L.length [] [] 0 3 else .error (3, pl L 2)) = .error f) : chart L = .error f := by
 rw [chart, if_pos h1, h2]
 simp only
 by_cases ho : tx L 2 = kOpen
 ·rw [if_pos ho] at h ⊢; rw [h]
 ·rw [if_neg ho] at h ⊢; injection h with h; subst h; rfl
theorem chart_brace_ok {L : List Lx.Tok} {s : Str} {vs : List Decl} {rs : List (List (St 6))} {i : Nat} (h1 : tx L 0 = kChart) (h2 : nm L 1 = .ok s) (h : (if tx L 2 = kOpen then items L L.length [] [] 0 3 else .error (3, pl L 2)) = .ok (vs, rs, i)) : chart L = if kd L i = 4 then .ok ⟨s, vs, rs⟩ else .error (3, pl L i) := by
 rw [chart, if_pos h1, h2]
 simp only
 by_cases ho : tx L 2 = kOpen
 ·rw [if_pos ho] at h ⊢; rw [h]
 ·rw [if_neg ho] at h; exact absurd h (by simp)
abbrev ZC : Array Value := #[.string ⟨#[]⟩, .slice none 0 0, .slice none 0 0]
set_option maxRecDepth 100000 in
set_option maxHeartbeats 8000000 in
theorem chart_any {C : Ctx} {w : World} (h : PS C w 0 0 0 0) : Calls Tryz.prog 55 #[.pointer (some ⟨C.rb, 0, none⟩)] w (Out C (fun c v w' => IsChart (Ge w.heap.size) w' c v) w (chart C.L)) := by
 have hC := h.lts.1
 have hmf : ∀ (fn : Fn) (first cap : Array Value) (w : World), (Instr.makeFunc fn first cap).run Tryz.prog w = .ok (.func fn first cap) w := fun _ _ _ _ => rfl
 obtain ⟨hpa, hfa⟩ := h.alloc (.cells #[.pointer (some ⟨C.rb, 0, none⟩)] 176)
 obtain ⟨hp0, hfb⟩ := hpa.alloc (.cells ZC 28)
 have hF0 := hfa.up hfb
 have hz0 : ((w.alloc (.cells #[.pointer (some ⟨C.rb, 0, none⟩)] 176)).alloc (.cells ZC 28)).heap.size = w.heap.size + 2 := by simp
 have x0 : ((w.alloc (.cells #[.pointer (some ⟨C.rb, 0, none⟩)] 176)).alloc (.cells ZC 28)).cell? ⟨w.heap.size, 0, none⟩ = some (.pointer (some ⟨C.rb, 0, none⟩)) := by simp
 have r0 : ((w.alloc (.cells #[.pointer (some ⟨C.rb, 0, none⟩)] 176)).alloc (.cells ZC 28)).heap[w.heap.size + 1]? = some (.cells ZC 28 (0, 0)) := by
  have := heap_alloc_new (w.alloc (.cells #[.pointer (some ⟨C.rb, 0, none⟩)] 176)) (.cells ZC 28)
  simpa using this
 go_enter Tryz.func55, Tryz.ntmps55
 go_upto_region 1 with fail
 generalize ((w.alloc (.cells #[.pointer (some ⟨C.rb, 0, none⟩)] 176)).alloc (.cells ZC 28)) = W0 at hp0 hfb hF0 hz0 x0 r0 ⊢
 have HCX : Hid (∀ (W W' : World), W.cell? ⟨w.heap.size, 0, none⟩ = some (.pointer (some ⟨C.rb, 0, none⟩)) → w.heap.size < W.heap.size → Fr W.heap.size [C.rb] W W' → W'.cell? ⟨w.heap.size, 0, none⟩ = some (.pointer (some ⟨C.rb, 0, none⟩))) := fun W W' h1 h2 hf => by rw [hf.cell (p := ⟨w.heap.size, 0, none⟩) h2 (by simp; omega)]; exact h1
 go_wp2_with (first
  | (go_at_call 92; refine (need_any hp0 ⟨#[99, 104, 97, 114, 116]⟩ kChart rfl (by decide)).mono ?_; rintro e w1 h1; rcases h1.cases with ⟨f, hr1, q, rfl, hq⟩ | ⟨_, v1, hr1, rfl, ⟨rfl, hp1⟩, hf1⟩; (· exact ⟨rfl, by rw [chart, if_neg (need_bad hr1).1, ← (need_bad hr1).2]; exact Thrown.up hF0 ⟨q, rfl, hq⟩⟩); have x1 := HCX.out _ _ x0 (by omega) hf1; have hz1 := hf1.size; have r1 := hf1.stays r0 (by omega))
  | (go_at_call 93; refine (name_any hp1).mono ?_; rintro e w2 h2; rcases h2.cases with ⟨f, hr2, q, rfl, hq⟩ | ⟨s2, v2, hr2, rfl, ⟨rfl, hp2⟩, hf2⟩; (· exact ⟨rfl, by rw [chart, if_pos (need_ok hr1), hr2.out]; exact Thrown.up (hF0.up hf1) ⟨q, rfl, hq⟩⟩); rw [sv]; have x2 := HCX.out _ _ x1 (by omega) hf2; have hz2 := hf2.size; have r2 := hf2.stays r1 (by omega); obtain ⟨hp3, hf3⟩ := hp2.alloc (.cells #[.string ⟨s2.toArray⟩, .slice none 0 0, .slice none 0 0] 28); have x3 := HCX.out _ _ x2 (by omega) hf3; have r3 := hf3.stays r2 (by omega); have b3 := heap_alloc_new w2 (.cells #[.string ⟨s2.toArray⟩, .slice none 0 0, .slice none 0 0] 28); have hF3 := ((hF0.up hf1).up hf2).up hf3; have hE3 : CE C (w2.heap.size + 1) w.heap.size w2.heap.size (w2.alloc (.cells #[.string ⟨s2.toArray⟩, .slice none 0 0, .slice none 0 0] 28)) := ⟨x3, by omega, by omega, hC, by omega, by omega, by omega, lt_of_block b3⟩; have hU3 : CUx (w2.heap.size + 1) w2.heap.size (w2.alloc (.cells #[.string ⟨s2.toArray⟩, .slice none 0 0, .slice none 0 0] 28)) s2 [] [] := ⟨_, _, [], [], b3, ⟨by intro x hx; simp only [List.mem_cons, List.not_mem_nil, or_false] at hx; rcases hx with rfl | rfl <;> exact World.ownsRow_nil _ _ _ _, by simp [sDecl, sReg, Value.ownBlock], by intro x hx; simp only [List.mem_cons, List.not_mem_nil, or_false] at hx; rcases hx with rfl | rfl <;> rfl⟩⟩; have hbr := brace_chart hp3 hE3 hU3; have hz3 := hF3.size; have HTH : Hid (∀ f e w5, ThrownX (w2.heap.size + 1) [C.rb, w2.heap.size] (w2.alloc (.cells #[.string ⟨s2.toArray⟩, .slice none 0 0, .slice none 0 0] 28)) f e w5 → Thrown C w f e w5) := (fun f e w5 ⟨q, h1, h2, h3, h4⟩ => ⟨q, h1, h2, Nat.le_trans hz3 h3, hF3.trans (h4.mono (by omega) (by intro x hx hlt; simp at hx ⊢; omega))⟩))
  | (go_at_call 94; refine hbr.mono ?_; rintro e w5 h5; rcases h5.cases with ⟨f, hr5, q, rfl, hq⟩ | ⟨⟨vs5, rs5, j5⟩, v5, hr5, rfl, ⟨rfl, ⟨c5, hp5⟩, hE5, v5', r5, xv5, xr5, hU5⟩, hf5⟩; (· exact ⟨rfl, by rw [chart_brace_err (need_ok hr1) hr2.out hr5.out]; exact HTH.out _ _ _ ⟨q, rfl, hq⟩⟩); have x5 := hE5.a))
 have HSP : Hid (chart C.L = if kd C.L j5 = 4 then .ok ⟨s2, vs5, rs5⟩ else .error (3, pl C.L j5)) := chart_brace_ok (need_ok hr1) hr2.out hr5.out
 have hF5 : Fr w.heap.size [C.rb] w w5 := hF3.trans (hf5.mono (by omega) (by intro x hx hlt; simp at hx ⊢; omega))
 have r5' : w5.heap[w.heap.size + 1]? = some (.cells ZC 28 (0, 0)) := by rw [hf5.block (w.heap.size + 1) (by omega) (by simp; omega)]; exact r3
 obtain ⟨q0, q1, -⟩ := hp5.cells
 obtain ⟨t0, -, -⟩ := hp5.now
 have hi0 : (0 : Int) ≤ (j5 : Int) := Int.natCast_nonneg _
 have hi1 : (j5 : Int) < (C.L.length : Int) := by have := hp5.lt; omega
 have hdr : ∀ n, Fr w5.heap.size [] w5 (w5.drewN n) := fun n => (Fr.refl _ _ _).drewN n
 by_cases hk : kd C.L j5 = 4
 ·have hk4 : (((kd C.L j5 : Nat) : Int) != 4) = false := by simp; omega
  have HE : Hid (chart C.L = .ok ⟨s2, vs5, rs5⟩) := by rw [Hid, HSP.out, if_pos hk]
  clear hk
  have o1 : w5.ownsRow (w2.heap.size + 1) 33 3 v5' vs5.length xv5 := hU5.good.own (sDecl vs5 v5' xv5) (by simp)
  have o2 : w5.ownsRow (w2.heap.size + 1) 64 1 r5 rs5.length xr5 := hU5.good.own (sReg 6 rs5 r5 xr5) (by simp)
  obtain ⟨a1, m1, rfl⟩ := owns_shape o1
  obtain ⟨a2, m2, rfl⟩ := owns_shape o2
  go_quiet (fail)
  have hUq := hU5.carry (X := []) (by simp) (by simp) (hdr nq)
  have hFq : Fr w.heap.size [C.rb] w (w5.drewN nq) := hF5.up (hdr nq).wide
  have rq : (w5.drewN nq).heap[w.heap.size + 1]? = some (.cells ZC 28 (0, 0)) := by rw [(hdr nq).block _ (lt_of_block r5') (by simp)]; exact r5'
  have hz5 := hf5.size
  generalize w5.drewN nq = w6 at hUq hFq rq ⊢
  go_wp2_with (first
   | (refine wpList_load_eq rfl 28 (.tmp 3) rfl ⟨w2.heap.size, 0, none⟩ rfl (.agg #[sv s2, .slice a1 vs5.length m1, .slice a2 rs5.length m2]) (load25 rfl hUq.at_) ?_)
   | (refine wpList_store_row rfl 28 (.tmp 2) (.tmp 26) rfl (w.heap.size + 1) #[sv s2, .slice a1 vs5.length m1, .slice a2 rs5.length m2] rfl rfl 28 _ rq Tryz.sizeChart rfl (by simp [Value.oneCell', sv]) ?_))
  refine bodyPost_ret (resultsC _ _ (w.heap.size + 1) #[sv s2, .slice a1 vs5.length m1, .slice a2 rs5.length m2] rfl rfl (setRow_heap _ _ _ _ _ _ rq)) rfl ?_
  rw [HE.out]
  obtain ⟨d1, d2⟩ := hUq.done
  have hfr := fr_row w6 (w.heap.size + 1) #[sv s2, .slice a1 vs5.length m1, .slice a2 rs5.length m2]
  have kp : Keep (Ge (w2.heap.size + 1)) (Ge w.heap.size) w6 (w6.setRow (w.heap.size + 1) #[sv s2, .slice a1 vs5.length m1, .slice a2 rs5.length m2]) := fun b hb hlt => ⟨by simp [Ge] at *; omega, hfr.block b hlt (by simp [Ge] at *; omega)⟩
  exact ⟨_, rfl, ⟨a1, _, m1, a2, _, m2, rfl, d1.carry kp, d2.carry kp (IsStates.carry kp 6)⟩, hFq.row (.inl (by omega)) _⟩
 ·have hk4 : (((kd C.L j5 : Nat) : Int) != 4) = true := by simp; omega
  have HE : Hid (chart C.L = .error (3, pl C.L j5)) := by rw [Hid, HSP.out, if_neg hk]
  clear hk
  go_quiet (fail)
  have hpq := hp5.same (hdr nq)
  have xq := HCX.out _ _ x5 (by have := hF5.size; have := hf5.size; have := lt_of_block r5'; omega) (hdr nq).wide
  go_wp2_with (go_at_call 102; refine (throw_any hpq 3).mono ?_; rintro e w6 ⟨q, rfl, hq⟩; exact ⟨rfl, by rw [HE.out]; exact Thrown.up (hF5.up (hdr nq).wide) ⟨q, rfl, hq⟩⟩)
end Go.Proofs.YtpogmfliojcnjaaGreatDoor
namespace Go.Proofs.YtpogmfliojcnjaaGreatDoor
open Go.RowKit Px
theorem IsVars.open {A : Nat → Prop} {w : World} {l : List Decl} {v : Value} (h : IsVars A w l v) :
    ∃ ad g cap, v = .slice ad l.length cap ∧ l.length ≤ maxLen ∧ (0 < l.length → ad = some ⟨g, 0, none⟩ ∧ g < w.heap.size) ∧ ∀ (i : Nat) (d : Decl), l[i]? = some d → w.cell? ⟨g, i * 3, none⟩ = some (.int .i64 (d.kind : Int)) ∧ w.cell? ⟨g, i * 3 + 1, none⟩ = some (sv d.name) ∧ w.cell? ⟨g, i * 3 + 2, none⟩ = some (.int .i64 d.first) := by
 obtain ⟨xs, hr, hs⟩ := h
 obtain ⟨ad, g, cap, h1, h2, h3, h4⟩ := Row.open (k := 3) (fun a c hc => by rw [show c = _ from hc]; rfl) hr hs
 refine ⟨ad, g, cap, h1, h2, fun hp => ⟨(h3 hp).1, (h3 hp).2.2⟩, fun i a hi => ?_⟩
 obtain ⟨c, hc, hx⟩ := h4 i a hi
 obtain rfl : c = _ := hc
 exact ⟨hx 0 _ rfl, hx 1 _ rfl, hx 2 _ rfl⟩
theorem ck_new2 (w : World) (o o' : Obj) : ((w.alloc o).alloc o').heap[w.heap.size + 1]? = some o' := by
 have e : w.heap.size + 1 = (w.alloc o).heap.size := by simp
 rw [e]; exact ck_new _ _
structure NmChart (c : Chart) : Prop where
 vars : c.vars.length ≤ 1000000
 names : ∀ v ∈ c.vars, v.name.length ≤ maxLen
 sts : ∀ r ∈ c.regions, ∀ x ∈ r, NmSt 6 x
 many : sumC (cRg 6) c.regions ≤ 1000000
def ChkOut (o : Option (Nat × Option Nat)) (w : World) (e : Ending) (w' : World) : Prop :=
 Below w.heap.size w w' ∧ ((o = none ∧ e = .returned .nilIface) ∨ (∃ c, o = some (c, none) ∧ e = .returned (.iface 47 (.int .i64 ((c : Nat) : Int)))) ∨ ∃ c p g, o = some (c, some p) ∧ e = .returned (.iface 110 (.pointer (some ⟨g, 0, none⟩))) ∧ w'.heap[g]? = some (.cells #[.int .i64 ((c : Nat) : Int), .int .i64 ((p : Nat) : Int)] 125 (0, 0)) ∧ w.heap.size ≤ g)
theorem twiceF_none (ns : List Str) : ∀ (f i : Nat), (∀ j, i ≤ j → j < i + f → ¬ fndI ns (ns.getD j []) < j) → twiceF ns f i = none := by
 intro f
 induction f with
 | zero => intro i _; rfl
 | succ f ih =>
  intro i h
  rw [twiceF, if_neg (h i (Nat.le_refl _) (by omega))]
  exact ih (i + 1) fun j h1 h2 => h j (by omega) (by omega)
theorem twiceF_some (ns : List Str) : ∀ (f i k : Nat), i ≤ k → k < i + f → fndI ns (ns.getD k []) < k → (∀ j, i ≤ j → j < k → ¬ fndI ns (ns.getD j []) < j) → twiceF ns f i = some k := by
 intro f
 induction f with
 | zero => intro i k h1 h2; omega
 | succ f ih =>
  intro i k h1 h2 hk h
  rw [twiceF]
  by_cases e : i = k
  ·subst e; rw [if_pos hk]
  ·rw [if_neg (h i (Nat.le_refl _) (by omega))]
   exact ih (i + 1) k (by omega) (by omega) hk fun j h3 h4 => h j (by omega) h4
theorem vnames_at {vs : List Decl} {i : Nat} {d : Decl} (h : vs[i]? = some d) : (vnames vs).getD i [] = d.name := by
 rw [vnames, List.getD_eq_getElem?_getD, List.getElem?_map, h]; rfl
theorem checkC_run (c : Chart) (h1 : twiceF (vnames c.vars) c.vars.length 0 = none) (h2 : c.regions ≠ []) : checkC c = match regsE (regE c.vars 6) c.regions 0 with
    | .error (e, p) => some (e, some p)
    | .ok _ => none := by
 unfold checkC; rw [h1]
 show (if c.regions = [] then _ else _) = _
 rw [if_neg h2]
 cases regsE (regE c.vars 6) c.regions 0 with
 | error x => cases x; rfl
 | ok _ => rfl
set_option maxRecDepth 100000 in
set_option maxHeartbeats 4000000 in
theorem check_any {A : Nat → Prop} {w : World} {c : Chart} {v : Value} (h : IsChart A w c v) (hN : NmChart c) : Calls Tryz.prog 31 #[v] w (ChkOut (checkC c) w) := by
 have hmf : ∀ (fn : Fn) (first cap : Array Value) (w : World), (Instr.makeFunc fn first cap).run Tryz.prog w = .ok (.func fn first cap) w := fun _ _ _ _ => rfl
 obtain ⟨a0, n0, m0, a1, n1, m1, rfl, hV, hR⟩ := h
 obtain ⟨adv, gv, capv, ev, v1, v2, v3⟩ := hV.open
 injection ev with e1 e2 e3
 subst e1; subst e2; subst e3
 obtain ⟨adr, gr, capr, er, r1, -, -⟩ := hR.len
 injection er with e1 e2 e3
 subst e1; subst e2; subst e3
 obtain ⟨S, hS⟩ : ∃ S, sv c.name = .string S := ⟨_, rfl⟩
 rw [hS]
 obtain ⟨M, hM⟩ : ∃ M, Hid (c.vars.length = M) := ⟨_, rfl⟩
 have hMx : M ≤ 1000000 := by rw [← hM.out]; exact hN.vars
 have hMl : Hid (M = (vnames c.vars).length) := by rw [Hid, vnames, List.length_map]; exact hM.out.symm
 have HV : Hid (∀ (i : Nat) (d : Decl), c.vars[i]? = some d → w.cell? ⟨gv, i * 3, none⟩ = some (.int .i64 (d.kind : Int)) ∧ w.cell? ⟨gv, i * 3 + 1, none⟩ = some (sv d.name) ∧ w.cell? ⟨gv, i * 3 + 2, none⟩ = some (.int .i64 d.first)) := v3
 rw [hM.out] at v2 ⊢
 have HA : Hid (0 < M → a0 = some ⟨gv, 0, none⟩ ∧ gv < w.heap.size) := v2
 have HR : Hid (IsRegs A w (IsStates A w 6) c.regions (.slice a1 c.regions.length m1)) := hR
 have HNC : Hid (NmChart c) := hN
 have hat : ∀ i, i < M → ∃ d, c.vars[i]? = some d := fun i hi => ⟨c.vars[i]'(by rw [hM.out]; exact hi), List.getElem?_eq_getElem _⟩
 have hln : Hid (∀ i, i < M → ((vnames c.vars).getD i []).length ≤ maxLen) := fun i hi => by
  obtain ⟨d, hd⟩ := hat i hi
  rw [vnames_at hd]
  exact HNC.out.names d (List.mem_of_getElem? hd)
 obtain ⟨O, hO⟩ : ∃ O, O = Obj.cells #[.string S, .slice a0 M m0, .slice a1 c.regions.length m1] 28 := ⟨_, rfl⟩
 have hbx : (w.alloc O).heap[w.heap.size]? = some (.cells #[.string S, .slice a0 M m0, .slice a1 c.regions.length m1] 28 (0, 0)) := by rw [ck_new, hO]
 have hcall := finder_any 62 (.inl rfl) w.heap.size (vnames c.vars) M hMl hMx hln (w.alloc O) (fun X i hX hi => by
  obtain ⟨d, hd⟩ := hat i hi
  rw [vnames_at hd]
  exact name_var (ck_cell hX (cell_row hbx 1 rfl)) hi (fun h => (HA.out h).1) (ck_cell hX (ck_cell (ck_grown w O) (HV.out i d hd).2.1)))
 have HB0 : Hid (Below w.heap.size w (w.alloc O) ∧ (w.alloc O).heap[w.heap.size]? = some (.cells #[.string S, .slice a0 M m0, .slice a1 c.regions.length m1] 28 (0, 0))) := ⟨ck_grown w O, hbx⟩
 rw [hO] at hcall HB0
 clear hV hR v1 v2 v3 hN hat hO hbx hS
 obtain ⟨NR, hNR⟩ : ∃ NR, Hid (c.regions.length = NR) := ⟨_, rfl⟩
 rw [hNR.out] at hcall HB0 r1 HR ⊢
 go_enter Tryz.func31, Tryz.ntmps31
 go_upto_region 2 with (refine hcall.mono ?_; rintro e w1 ⟨f, rfl, ⟨pb, mb, nm, rfl, hpb, hmb⟩, hb⟩; have HF : Hid ((w1.heap[pb]? = some (.cells #[.map (some mb)] 96 (0, 0)) ∧ MapF w1 mb nm (fnd (vnames c.vars))) ∧ Below w.heap.size w w1 ∧ w1.heap[w.heap.size]? = some (.cells #[.string S, .slice a0 M m0, .slice a1 NR m1] 28 (0, 0))) := ⟨⟨hpb, hmb⟩, ck_all HB0.out.1 hb, ck_block hb HB0.out.2⟩; clear hpb hmb hb)
 clear hcall
 have d1 := cell_row HF.out.2.2 1 (u := .slice a0 M m0) rfl
 go_wp2_with fail
 clear d1
 go_loopg [15] M (fun f i wr => ∃ k : Nat, f = M - k ∧ k ≤ M ∧ i = .int .i64 (k : Int) ∧ Hid (Below w1.heap.size w1 wr ∧ ∀ j, j < k → ¬ fndI (vnames c.vars) ((vnames c.vars).getD j []) < j))
 case atStart => exact ⟨0, by omega, by omega, rfl, Below.refl _ _, fun j hj => absurd hj (by omega)⟩
 case round =>
  obtain ⟨k, rfl, hk, rfl, hr⟩ := hrel
  obtain ⟨hBr, hno⟩ := hr.out
  have HBR : Hid (Below w1.heap.size w1 wr) := hBr
  have HNO : Hid (∀ j, j < k → ¬ fndI (vnames c.vars) ((vnames c.vars).getD j []) < j) := hno
  clear hr hno
  by_cases hlt : k < M
  ·obtain ⟨d, hd⟩ : ∃ d, c.vars[k]? = some d := ⟨c.vars[k]'(by rw [hM.out]; exact hlt), List.getElem?_eq_getElem _⟩
   have hnm := vnames_at hd
   have hBw : Below w.heap.size w wr := ck_all HF.out.2.1 hBr
   obtain ⟨x0, x1, x2⟩ := HV.out k d hd
   have y0 := ck_cell hBw x0
   have y1 := ck_cell hBw x1
   have y2 := ck_cell hBw x2
   have hix := ixV a0 gv M m0 k hlt (fun h => (HA.out h).1)
   have hlen : d.name.length ≤ maxLen := HNC.out.names d (List.mem_of_getElem? hd)
   have hfind := fun o => find_any (w := wr.alloc o) (s := d.name) (ck_old (ck_block hBr HF.out.1.1)) ((HF.out.1.2.below hBr).below (ck_grown wr o)) hlen
   obtain ⟨I, hI⟩ : ∃ I, Hid (fndI (vnames c.vars) ((vnames c.vars).getD k []) = I) := ⟨_, rfl⟩
   rw [← hnm] at hfind
   rw [hI.out] at hfind
   rw [hnm] at hfind
   obtain ⟨T, hT⟩ : ∃ T, sv d.name = .string T := ⟨_, rfl⟩
   rw [hT] at hfind y1
   have hcall := hfind (.cells #[.int .i64 (d.kind : Int), .string T, .int .i64 d.first] 33)
   clear hfind x0 x1 x2 hT hlen hd hnm hBw hBr
   by_cases hi : I < (k : Int)
   ·have HE : Hid (checkC c = some (9, some k)) := by
     have : twiceF (vnames c.vars) c.vars.length 0 = some k := twiceF_some _ _ 0 k (by omega) (by rw [hM.out]; omega) (by rw [hI.out]; exact hi) (fun j _ hj => HNO.out j hj)
     unfold Hid checkC; rw [this]
    go_wp2_with (refine hcall.mono ?_; rintro e w' ⟨rfl, rfl⟩)
    go_ret
    refine ⟨ck_all HF.out.2.1 (ck_all HBR.out (ck_all (ck_grown _ _) (ck_grown _ _))), .inr (.inr ⟨9, k, _, HE.out, rfl, ck_new2 _ _ _, ?_⟩)⟩
    have := HF.out.2.1.size
    have := HBR.out.size
    simp; omega
   ·go_wp2_with (refine hcall.mono ?_; rintro e w' ⟨rfl, rfl⟩)
    go_roundg (M - (k + 1))
    case measure => omega
    case rel =>
     refine ⟨k + 1, rfl, by omega, by go_num, ck_all HBR.out (ck_grown _ _), fun j hj => ?_⟩
     by_cases e : j = k
     ·subst e; rw [hI.out]; exact hi
     ·exact HNO.out j (by omega)
  ·obtain rfl : k = M := by omega
   have HT : Hid (twiceF (vnames c.vars) c.vars.length 0 = none) := twiceF_none _ _ _ fun j _ hj => HNO.out j (by rw [hM.out] at hj; omega)
   have e1 := cell_row (ck_block hBr HF.out.2.2) 1 (u := .slice a0 k m0) rfl
   have e2 := cell_row (ck_block hBr HF.out.2.2) 2 (u := .slice a1 NR m1) rfl
   by_cases h0 : NR = 0
   ·subst h0
    have HE : Hid (checkC c = some (8, none)) := by
     have : c.regions = [] := List.length_eq_zero_iff.1 hNR.out
     unfold Hid checkC; rw [HT.out, this]; rfl
    clear hBr
    go_wp2_with fail
    go_ret
    exact ⟨ck_all HF.out.2.1 HBR.out, .inr (.inl ⟨8, HE.out, rfl⟩)⟩
   ·have hz1 : ¬ (NR : Int) = 0 := by omega
    have hz2 : ((NR : Int) == 0) = false := by simp; omega
    have hrn : c.regions ≠ [] := fun e => h0 (by rw [← hNR.out, e]; rfl)
    have HE : Hid (checkC c = _) := checkC_run c HT.out hrn
    obtain ⟨O, hO⟩ : ∃ O, O = Obj.cells #[.slice a0 k m0, .func (.func 108) #[] #[.pointer (some ⟨pb, 0, none⟩)], .int .i64 0] 127 := ⟨_, rfl⟩
    have hBO : Below w.heap.size w (wr.alloc O) := ck_all HF.out.2.1 (ck_all HBR.out (ck_grown wr O))
    have lp := lt_of_block (ck_block hBr HF.out.1.1)
    have lm := (HF.out.1.2.below hBr).lt
    have lw : w.heap.size ≤ wr.heap.size := Nat.le_trans HF.out.2.1.size HBR.out.size
    have hC : CkAt (wr.alloc O) wr.heap.size pb mb nm gv a0 m0 c.vars 0 := by
     refine ⟨by rw [ck_new, hO, hM.out]; rfl, ck_old (ck_block hBr HF.out.1.1), (HF.out.1.2.below hBr).below (ck_grown wr O), fun hp => ?_, fun i d hi => ck_cell hBO (HV.out i d hi).1, by omega, by omega, fun hp => ?_⟩
     ·rw [hM.out] at hp
      exact ⟨(HA.out hp).1, Nat.lt_of_lt_of_le (HA.out hp).2 hBO.size⟩
     ·rw [hM.out] at hp
      have := (HA.out hp).2; omega
    have hRg : IsRegs (· < w.heap.size) (wr.alloc O) (IsStates (· < w.heap.size) (wr.alloc O) 6) c.regions (.slice a1 NR m1) := by
     have hK : Keep A (· < w.heap.size) w (wr.alloc O) := fun x _ hlt => ⟨hlt, hBO.block x hlt⟩
     exact HR.out.carry hK (IsStates.carry hK 6)
    have hcall := ckregs_of (A := (· < w.heap.size)) (fun x hx e => by have : x < w.heap.size := hx; omega) (reg_all (A := (· < w.heap.size)) (fun x hx e => by have : x < w.heap.size := hx; omega) 6) (wr.alloc O) c.regions (.slice a1 NR m1) 0 hC hRg HNC.out.sts (by have := HNC.out.many; omega)
    have HBO : Hid (Below w.heap.size w (wr.alloc O) ∧ w.heap.size ≤ wr.heap.size) := ⟨hBO, lw⟩
    have e2' := ck_cell (ck_grown wr O) e2
    rw [hO] at hcall HBO e2'
    clear hC hRg hBO lp lm lw hO hBr
    unfold RegOut at hcall
    have hsub : ∀ w', Fr (wr.alloc (.cells #[.slice a0 k m0, .func (.func 108) #[] #[.pointer (some ⟨pb, 0, none⟩)], .int .i64 0] 127)).heap.size [wr.heap.size] (wr.alloc (.cells #[.slice a0 k m0, .func (.func 108) #[] #[.pointer (some ⟨pb, 0, none⟩)], .int .i64 0] 127)) w' → Below w.heap.size w w' := fun w' hF =>
     HBO.out.1.trans ((hF.mono HBO.out.1.size (X' := []) (fun x hx h => by have := HBO.out.2; simp at hx; omega)).below)
    have HSB : Hid _ := hsub
    clear hsub
    cases hrs : regsE (regE c.vars 6) c.regions 0 with
    | error x =>
     obtain ⟨cc, pl⟩ := x
     rw [hrs] at HE hcall
     have hI2 : Calls Tryz.prog 63 #[.pointer (some ⟨wr.heap.size, 0, none⟩), .slice a1 NR m1] (wr.alloc (.cells #[.slice a0 k m0, .func (.func 108) #[] #[.pointer (some ⟨pb, 0, none⟩)], .int .i64 0] 127)) fun e w'' => ∃ g, e = .returned (.iface 110 (.pointer (some ⟨g, 0, none⟩))) ∧ Hid (w''.heap[g]? = some (.cells #[.int .i64 ((cc : Nat) : Int), .int .i64 ((pl : Nat) : Int)] 125 (0, 0)) ∧ wr.heap.size ≤ g ∧ Below w.heap.size w w'') := hcall.mono fun e w'' ⟨hF, ho⟩ => by
      rcases ho with ⟨_, he, _⟩ | ⟨c', p', g', he, h1, h2, h3⟩
      ·simp at he
      ·injection he with he
       injection he with e1 e2
       subst e1; subst e2
       exact ⟨g', h1, h2, by simp at h3; omega, HSB.out _ hF⟩
     clear hcall
     go_wp2_with (refine hI2.mono ?_; rintro e w'' ⟨ge, rfl, hge⟩)
     go_ret
     exact ⟨hge.out.2.2, .inr (.inr ⟨cc, pl, ge, HE.out, rfl, hge.out.1, Nat.le_trans HBO.out.2 hge.out.2.1⟩)⟩
    | ok m2 =>
     rw [hrs] at HE hcall
     have hI2 : Calls Tryz.prog 63 #[.pointer (some ⟨wr.heap.size, 0, none⟩), .slice a1 NR m1] (wr.alloc (.cells #[.slice a0 k m0, .func (.func 108) #[] #[.pointer (some ⟨pb, 0, none⟩)], .int .i64 0] 127)) fun e w'' => e = .returned .nilIface ∧ Hid (Below w.heap.size w w'') := hcall.mono fun e w'' ⟨hF, ho⟩ => by
      rcases ho with ⟨m', he, h1, h2⟩ | ⟨_, _, _, he, _⟩
      ·exact ⟨h1, HSB.out _ hF⟩
      ·simp at he
     clear hcall
     go_wp2_with (refine hI2.mono ?_; rintro e w'' ⟨rfl, hge⟩)
     go_ret
     exact ⟨hge.out, .inl ⟨HE.out, rfl⟩⟩
end Go.Proofs.YtpogmfliojcnjaaGreatDoor
