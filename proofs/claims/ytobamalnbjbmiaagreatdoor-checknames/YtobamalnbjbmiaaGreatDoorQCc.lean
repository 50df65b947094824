/- The program's Check. -/
import Derived.Test.YtobamalnbjbmiaaGreatDoorQCg2
import Derived.Test.YtobamalnbjbmiaaGreatDoorQPchart2
namespace Go.Proofs.YtobamalnbjbmiaaGreatDoor
open Go.RowKit Px

theorem IsVars.open {A : Nat → Prop} {w : World} {l : List Decl} {v : Value} (h : IsVars A w l v) :
    ∃ ad g cap, v = .slice ad l.length cap ∧ l.length ≤ maxLen ∧ (0 < l.length → ad = some ⟨g, 0, none⟩ ∧ g < w.heap.size) ∧ ∀ (i : Nat) (d : Decl), l[i]? = some d → w.cell? ⟨g, i * 3, none⟩ = some (.int .i64 (d.kind : Int)) ∧ w.cell? ⟨g, i * 3 + 1, none⟩ = some (sv d.name) ∧ w.cell? ⟨g, i * 3 + 2, none⟩ = some (.int .i64 d.first) := by
  obtain ⟨xs, hr, hs⟩ := h
  obtain ⟨ad, g, cap, h1, h2, h3, h4⟩ := Row.open (k := 3) (fun a c hc => by rw [show c = _ from hc]; rfl) hr hs
  refine ⟨ad, g, cap, h1, h2, fun hp => ⟨(h3 hp).1, (h3 hp).2.2⟩, fun i a hi => ?_⟩
  obtain ⟨c, hc, hx⟩ := h4 i a hi
  obtain rfl : c = _ := hc
  exact ⟨hx 0 _ rfl, hx 1 _ rfl, hx 2 _ rfl⟩
theorem ck_new2 (w : World) (o o' : Obj) : ((w.alloc o).alloc o').heap[w.heap.size + 1]? = some o' := by
  have e : w.heap.size + 1 = (w.alloc o).heap.size := by simp
  rw [e]; exact ck_new _ _
/-- what is asked of a chart -/
structure NmChart (c : Chart) : Prop where
  vars : c.vars.length ≤ 1000000
  names : ∀ v ∈ c.vars, v.name.length ≤ maxLen
  sts : ∀ r ∈ c.regions, ∀ x ∈ r, NmSt 6 x
  many : sumC (cRg 6) c.regions ≤ 1000000
/-- an error as Check hands it back -/
def ChkOut (o : Option (Nat × Option Nat)) (w : World) (e : Ending) (w' : World) : Prop :=
  Below w.heap.size w w' ∧ ((o = none ∧ e = .returned .nilIface) ∨ (∃ c, o = some (c, none) ∧ e = .returned (.iface 33 (.int .i64 ((c : Nat) : Int)))) ∨ ∃ c p g, o = some (c, some p) ∧ e = .returned (.iface 87 (.pointer (some ⟨g, 0, none⟩))) ∧ w'.heap[g]? = some (.cells #[.int .i64 ((c : Nat) : Int), .int .i64 ((p : Nat) : Int)] 94 (0, 0)) ∧ w.heap.size ≤ g)
theorem twiceF_none (ns : List Str) : ∀ (f i : Nat), (∀ j, i ≤ j → j < i + f → ¬ fndI ns (ns.getD j []) < j) → twiceF ns f i = none := by
  intro f
  induction f with
  | zero => intro i _; rfl
  | succ f ih =>
    intro i h
    rw [twiceF, if_neg (h i (Nat.le_refl _) (by omega))]
    exact ih (i + 1) fun j h1 h2 => h j (by omega) (by omega)
theorem twiceF_some (ns : List Str) : ∀ (f i k : Nat), i ≤ k → k < i + f → fndI ns (ns.getD k []) < k → (∀ j, i ≤ j → j < k → ¬ fndI ns (ns.getD j []) < j) → twiceF ns f i = some k := by
  intro f
  induction f with
  | zero => intro i k h1 h2; omega
  | succ f ih =>
    intro i k h1 h2 hk h
    rw [twiceF]
    by_cases e : i = k
    · subst e; rw [if_pos hk]
    · rw [if_neg (h i (Nat.le_refl _) (by omega))]
      exact ih (i + 1) k (by omega) (by omega) hk fun j h3 h4 => h j (by omega) h4
theorem vnames_at {vs : List Decl} {i : Nat} {d : Decl} (h : vs[i]? = some d) : (vnames vs).getD i [] = d.name := by
  rw [vnames, List.getD_eq_getElem?_getD, List.getElem?_map, h]; rfl
theorem checkC_run (c : Chart) (h1 : twiceF (vnames c.vars) c.vars.length 0 = none) (h2 : c.regions ≠ []) : checkC c = match regsE (regE c.vars 6) c.regions 0 with
    | .error (e, p) => some (e, some p)
    | .ok _ => none := by
  unfold checkC; rw [h1]
  show (if c.regions = [] then _ else _) = _
  rw [if_neg h2]
  cases regsE (regE c.vars 6) c.regions 0 with
  | error x => cases x; rfl
  | ok _ => rfl

set_option maxRecDepth 100000 in
set_option maxHeartbeats 4000000 in
theorem check_any {A : Nat → Prop} {w : World} {c : Chart} {v : Value} (h : IsChart A w c v) (hN : NmChart c) : Calls Tryz.prog 17 #[v] w (ChkOut (checkC c) w) := by
  have hmf : ∀ (fn : Fn) (first cap : Array Value) (w : World), (Instr.makeFunc fn first cap).run Tryz.prog w = .ok (.func fn first cap) w := fun _ _ _ _ => rfl
  obtain ⟨a0, n0, m0, a1, n1, m1, rfl, hV, hR⟩ := h
  obtain ⟨adv, gv, capv, ev, v1, v2, v3⟩ := hV.open
  injection ev with e1 e2 e3
  subst e1; subst e2; subst e3
  obtain ⟨adr, gr, capr, er, r1, -, -⟩ := hR.len
  injection er with e1 e2 e3
  subst e1; subst e2; subst e3
  obtain ⟨S, hS⟩ : ∃ S, sv c.name = .string S := ⟨_, rfl⟩
  rw [hS]
  obtain ⟨M, hM⟩ : ∃ M, Hid (c.vars.length = M) := ⟨_, rfl⟩
  have hMx : M ≤ 1000000 := by rw [← hM.out]; exact hN.vars
  have hMl : Hid (M = (vnames c.vars).length) := by rw [Hid, vnames, List.length_map]; exact hM.out.symm
  have HV : Hid (∀ (i : Nat) (d : Decl), c.vars[i]? = some d → w.cell? ⟨gv, i * 3, none⟩ = some (.int .i64 (d.kind : Int)) ∧ w.cell? ⟨gv, i * 3 + 1, none⟩ = some (sv d.name) ∧ w.cell? ⟨gv, i * 3 + 2, none⟩ = some (.int .i64 d.first)) := v3
  rw [hM.out] at v2 ⊢
  have HA : Hid (0 < M → a0 = some ⟨gv, 0, none⟩ ∧ gv < w.heap.size) := v2
  have HR : Hid (IsRegs A w (IsStates A w 6) c.regions (.slice a1 c.regions.length m1)) := hR
  have HNC : Hid (NmChart c) := hN
  have hat : ∀ i, i < M → ∃ d, c.vars[i]? = some d := fun i hi => ⟨c.vars[i]'(by rw [hM.out]; exact hi), List.getElem?_eq_getElem _⟩
  have hln : Hid (∀ i, i < M → ((vnames c.vars).getD i []).length ≤ maxLen) := fun i hi => by
    obtain ⟨d, hd⟩ := hat i hi
    rw [vnames_at hd]
    exact HNC.out.names d (List.mem_of_getElem? hd)
  obtain ⟨O, hO⟩ : ∃ O, O = Obj.cells #[.string S, .slice a0 M m0, .slice a1 c.regions.length m1] 26 := ⟨_, rfl⟩
  have hbx : (w.alloc O).heap[w.heap.size]? = some (.cells #[.string S, .slice a0 M m0, .slice a1 c.regions.length m1] 26 (0, 0)) := by rw [ck_new, hO]
  have hcall := finder_any 49 (.inl rfl) w.heap.size (vnames c.vars) M hMl hMx hln (w.alloc O) (fun X i hX hi => by
    obtain ⟨d, hd⟩ := hat i hi
    rw [vnames_at hd]
    exact name_var (ck_cell hX (cell_row hbx 1 rfl)) hi (fun h => (HA.out h).1) (ck_cell hX (ck_cell (ck_grown w O) (HV.out i d hd).2.1)))
  have HB0 : Hid (Below w.heap.size w (w.alloc O) ∧ (w.alloc O).heap[w.heap.size]? = some (.cells #[.string S, .slice a0 M m0, .slice a1 c.regions.length m1] 26 (0, 0))) := ⟨ck_grown w O, hbx⟩
  rw [hO] at hcall HB0
  clear hV hR v1 v2 v3 hN hat hO hbx hS
  obtain ⟨NR, hNR⟩ : ∃ NR, Hid (c.regions.length = NR) := ⟨_, rfl⟩
  rw [hNR.out] at hcall HB0 r1 HR ⊢
  go_enter Tryz.func17, Tryz.ntmps17
  go_upto_region 2 with (refine hcall.mono ?_; rintro e w1 ⟨f, rfl, ⟨pb, mb, nm, rfl, hpb, hmb⟩, hb⟩; have HF : Hid ((w1.heap[pb]? = some (.cells #[.map (some mb)] 129 (0, 0)) ∧ MapF w1 mb nm (fnd (vnames c.vars))) ∧ Below w.heap.size w w1 ∧ w1.heap[w.heap.size]? = some (.cells #[.string S, .slice a0 M m0, .slice a1 NR m1] 26 (0, 0))) := ⟨⟨hpb, hmb⟩, ck_all HB0.out.1 hb, ck_block hb HB0.out.2⟩; clear hpb hmb hb)
  clear hcall
  have d1 := cell_row HF.out.2.2 1 (u := .slice a0 M m0) rfl
  go_wp2_with fail
  clear d1
  go_loopg [15] M (fun f i wr => ∃ k : Nat, f = M - k ∧ k ≤ M ∧ i = .int .i64 (k : Int) ∧ Hid (Below w1.heap.size w1 wr ∧ ∀ j, j < k → ¬ fndI (vnames c.vars) ((vnames c.vars).getD j []) < j))
  case atStart => exact ⟨0, by omega, by omega, rfl, Below.refl _ _, fun j hj => absurd hj (by omega)⟩
  case round =>
    obtain ⟨k, rfl, hk, rfl, hr⟩ := hrel
    obtain ⟨hBr, hno⟩ := hr.out
    have HBR : Hid (Below w1.heap.size w1 wr) := hBr
    have HNO : Hid (∀ j, j < k → ¬ fndI (vnames c.vars) ((vnames c.vars).getD j []) < j) := hno
    clear hr hno
    by_cases hlt : k < M
    · obtain ⟨d, hd⟩ : ∃ d, c.vars[k]? = some d := ⟨c.vars[k]'(by rw [hM.out]; exact hlt), List.getElem?_eq_getElem _⟩
      have hnm := vnames_at hd
      have hBw : Below w.heap.size w wr := ck_all HF.out.2.1 hBr
      obtain ⟨x0, x1, x2⟩ := HV.out k d hd
      have y0 := ck_cell hBw x0
      have y1 := ck_cell hBw x1
      have y2 := ck_cell hBw x2
      have hix := ixV a0 gv M m0 k hlt (fun h => (HA.out h).1)
      have hlen : d.name.length ≤ maxLen := HNC.out.names d (List.mem_of_getElem? hd)
      have hfind := fun o => find_any (w := wr.alloc o) (s := d.name) (ck_old (ck_block hBr HF.out.1.1)) ((HF.out.1.2.below hBr).below (ck_grown wr o)) hlen
      obtain ⟨I, hI⟩ : ∃ I, Hid (fndI (vnames c.vars) ((vnames c.vars).getD k []) = I) := ⟨_, rfl⟩
      rw [← hnm] at hfind
      rw [hI.out] at hfind
      rw [hnm] at hfind
      obtain ⟨T, hT⟩ : ∃ T, sv d.name = .string T := ⟨_, rfl⟩
      rw [hT] at hfind y1
      have hcall := hfind (.cells #[.int .i64 (d.kind : Int), .string T, .int .i64 d.first] 53)
      clear hfind x0 x1 x2 hT hlen hd hnm hBw hBr
      by_cases hi : I < (k : Int)
      · have HE : Hid (checkC c = some (9, some k)) := by
          have : twiceF (vnames c.vars) c.vars.length 0 = some k := twiceF_some _ _ 0 k (by omega) (by rw [hM.out]; omega) (by rw [hI.out]; exact hi) (fun j _ hj => HNO.out j hj)
          unfold Hid checkC; rw [this]
        go_wp2_with (refine hcall.mono ?_; rintro e w' ⟨rfl, rfl⟩)
        go_ret
        refine ⟨ck_all HF.out.2.1 (ck_all HBR.out (ck_all (ck_grown _ _) (ck_grown _ _))), .inr (.inr ⟨9, k, _, HE.out, rfl, ck_new2 _ _ _, ?_⟩)⟩
        have := HF.out.2.1.size
        have := HBR.out.size
        simp; omega
      · go_wp2_with (refine hcall.mono ?_; rintro e w' ⟨rfl, rfl⟩)
        go_roundg (M - (k + 1))
        case measure => omega
        case rel =>
          refine ⟨k + 1, rfl, by omega, by go_num, ck_all HBR.out (ck_grown _ _), fun j hj => ?_⟩
          by_cases e : j = k
          · subst e; rw [hI.out]; exact hi
          · exact HNO.out j (by omega)
    · obtain rfl : k = M := by omega
      have HT : Hid (twiceF (vnames c.vars) c.vars.length 0 = none) := twiceF_none _ _ _ fun j _ hj => HNO.out j (by rw [hM.out] at hj; omega)
      have e1 := cell_row (ck_block hBr HF.out.2.2) 1 (u := .slice a0 k m0) rfl
      have e2 := cell_row (ck_block hBr HF.out.2.2) 2 (u := .slice a1 NR m1) rfl
      by_cases h0 : NR = 0
      · subst h0
        have HE : Hid (checkC c = some (8, none)) := by
          have : c.regions = [] := List.length_eq_zero_iff.1 hNR.out
          unfold Hid checkC; rw [HT.out, this]; rfl
        clear hBr
        go_wp2_with fail
        go_ret
        exact ⟨ck_all HF.out.2.1 HBR.out, .inr (.inl ⟨8, HE.out, rfl⟩)⟩
      · have hz1 : ¬ (NR : Int) = 0 := by omega
        have hz2 : ((NR : Int) == 0) = false := by simp; omega
        have hrn : c.regions ≠ [] := fun e => h0 (by rw [← hNR.out, e]; rfl)
        have HE : Hid (checkC c = _) := checkC_run c HT.out hrn
        obtain ⟨O, hO⟩ : ∃ O, O = Obj.cells #[.slice a0 k m0, .func (.func 92) #[] #[.pointer (some ⟨pb, 0, none⟩)], .int .i64 0] 101 := ⟨_, rfl⟩
        have hBO : Below w.heap.size w (wr.alloc O) := ck_all HF.out.2.1 (ck_all HBR.out (ck_grown wr O))
        have lp := lt_of_block (ck_block hBr HF.out.1.1)
        have lm := (HF.out.1.2.below hBr).lt
        have lw : w.heap.size ≤ wr.heap.size := Nat.le_trans HF.out.2.1.size HBR.out.size
        have hC : CkAt (wr.alloc O) wr.heap.size pb mb nm gv a0 m0 c.vars 0 := by
          refine ⟨by rw [ck_new, hO, hM.out]; rfl, ck_old (ck_block hBr HF.out.1.1), (HF.out.1.2.below hBr).below (ck_grown wr O), fun hp => ?_, fun i d hi => ck_cell hBO (HV.out i d hi).1, by omega, by omega, fun hp => ?_⟩
          · rw [hM.out] at hp
            exact ⟨(HA.out hp).1, Nat.lt_of_lt_of_le (HA.out hp).2 hBO.size⟩
          · rw [hM.out] at hp
            have := (HA.out hp).2; omega
        have hRg : IsRegs (· < w.heap.size) (wr.alloc O) (IsStates (· < w.heap.size) (wr.alloc O) 6) c.regions (.slice a1 NR m1) := by
          have hK : Keep A (· < w.heap.size) w (wr.alloc O) := fun x _ hlt => ⟨hlt, hBO.block x hlt⟩
          exact HR.out.carry hK (IsStates.carry hK 6)
        have hcall := ckregs_of (A := (· < w.heap.size)) (fun x hx e => by have : x < w.heap.size := hx; omega) (reg_all (A := (· < w.heap.size)) (fun x hx e => by have : x < w.heap.size := hx; omega) 6) (wr.alloc O) c.regions (.slice a1 NR m1) 0 hC hRg HNC.out.sts (by have := HNC.out.many; omega)
        have HBO : Hid (Below w.heap.size w (wr.alloc O) ∧ w.heap.size ≤ wr.heap.size) := ⟨hBO, lw⟩
        have e2' := ck_cell (ck_grown wr O) e2
        rw [hO] at hcall HBO e2'
        clear hC hRg hBO lp lm lw hO hBr
        unfold RegOut at hcall
        have hsub : ∀ w', Fr (wr.alloc (.cells #[.slice a0 k m0, .func (.func 92) #[] #[.pointer (some ⟨pb, 0, none⟩)], .int .i64 0] 101)).heap.size [wr.heap.size] (wr.alloc (.cells #[.slice a0 k m0, .func (.func 92) #[] #[.pointer (some ⟨pb, 0, none⟩)], .int .i64 0] 101)) w' → Below w.heap.size w w' := fun w' hF =>
          HBO.out.1.trans ((hF.mono HBO.out.1.size (X' := []) (fun x hx h => by have := HBO.out.2; simp at hx; omega)).below)
        have HSB : Hid _ := hsub
        clear hsub
        cases hrs : regsE (regE c.vars 6) c.regions 0 with
        | error x =>
          obtain ⟨cc, pl⟩ := x
          rw [hrs] at HE hcall
          have hI2 : Calls Tryz.prog 50 #[.pointer (some ⟨wr.heap.size, 0, none⟩), .slice a1 NR m1] (wr.alloc (.cells #[.slice a0 k m0, .func (.func 92) #[] #[.pointer (some ⟨pb, 0, none⟩)], .int .i64 0] 101)) fun e w'' => ∃ g, e = .returned (.iface 87 (.pointer (some ⟨g, 0, none⟩))) ∧ Hid (w''.heap[g]? = some (.cells #[.int .i64 ((cc : Nat) : Int), .int .i64 ((pl : Nat) : Int)] 94 (0, 0)) ∧ wr.heap.size ≤ g ∧ Below w.heap.size w w'') := hcall.mono fun e w'' ⟨hF, ho⟩ => by
            rcases ho with ⟨_, he, _⟩ | ⟨c', p', g', he, h1, h2, h3⟩
            · simp at he
            · injection he with he
              injection he with e1 e2
              subst e1; subst e2
              exact ⟨g', h1, h2, by simp at h3; omega, HSB.out _ hF⟩
          clear hcall
          go_wp2_with (refine hI2.mono ?_; rintro e w'' ⟨ge, rfl, hge⟩)
          go_ret
          exact ⟨hge.out.2.2, .inr (.inr ⟨cc, pl, ge, HE.out, rfl, hge.out.1, Nat.le_trans HBO.out.2 hge.out.2.1⟩)⟩
        | ok m2 =>
          rw [hrs] at HE hcall
          have hI2 : Calls Tryz.prog 50 #[.pointer (some ⟨wr.heap.size, 0, none⟩), .slice a1 NR m1] (wr.alloc (.cells #[.slice a0 k m0, .func (.func 92) #[] #[.pointer (some ⟨pb, 0, none⟩)], .int .i64 0] 101)) fun e w'' => e = .returned .nilIface ∧ Hid (Below w.heap.size w w'') := hcall.mono fun e w'' ⟨hF, ho⟩ => by
            rcases ho with ⟨m', he, h1, h2⟩ | ⟨_, _, _, he, _⟩
            · exact ⟨h1, HSB.out _ hF⟩
            · simp at he
          clear hcall
          go_wp2_with (refine hI2.mono ?_; rintro e w'' ⟨rfl, hge⟩)
          go_ret
          exact ⟨hge.out, .inl ⟨HE.out, rfl⟩⟩
end Go.Proofs.YtobamalnbjbmiaaGreatDoor
