/- The program's Check. -/
import Derived.Test.YtanlfmhlohcmgaaGreatDoorJCg2
import Derived.Test.YtanlfmhlohcmgaaGreatDoorJMark2
import Derived.Test.YtanlfmhlohcmgaaGreatDoorJJr2
namespace Go.Proofs.YtanlfmhlohcmgaaGreatDoor
open Go.RowKit Px

theorem IsVars.open {A : Nat → Prop} {w : World} {l : List Decl} {v : Value} (h : IsVars A w l v) :
    ∃ ad g cap, v = .slice ad l.length cap ∧ l.length ≤ maxLen ∧ (0 < l.length → ad = some ⟨g, 0, none⟩ ∧ g < w.heap.size) ∧ ∀ (i : Nat) (d : Decl), l[i]? = some d → w.cell? ⟨g, i * 3, none⟩ = some (.int .i64 (d.kind : Int)) ∧ w.cell? ⟨g, i * 3 + 1, none⟩ = some (sv d.name) ∧ w.cell? ⟨g, i * 3 + 2, none⟩ = some (.int .i64 d.first) := by
  obtain ⟨xs, hr, hs⟩ := h
  obtain ⟨ad, g, cap, h1, h2, h3, h4⟩ := Row.open (k := 3) (fun a c hc => by rw [show c = _ from hc]; rfl) hr hs
  refine ⟨ad, g, cap, h1, h2, fun hp => ⟨(h3 hp).1, (h3 hp).2.2⟩, fun i a hi => ?_⟩
  obtain ⟨c, hc, hx⟩ := h4 i a hi
  obtain rfl : c = _ := hc
  exact ⟨hx 0 _ rfl, hx 1 _ rfl, hx 2 _ rfl⟩
theorem ck_new2 (w : World) (o o' : Obj) : ((w.alloc o).alloc o').heap[w.heap.size + 1]? = some o' := by
  have e : w.heap.size + 1 = (w.alloc o).heap.size := by simp
  rw [e]; exact ck_new _ _
/-- what is asked of a chart -/
structure NmChart (c : Chart) : Prop where
  vars : c.vars.length ≤ 1000000
  names : ∀ v ∈ c.vars, v.name.length ≤ maxLen
  sts : ∀ r ∈ c.regions, ∀ x ∈ r, NmSt 6 x
  many : sumC (cRg 6) c.regions ≤ 1000000
/-- an error as Check hands it back -/
def ChkOut (o : Option (Nat × Option Nat)) (w : World) (e : Ending) (w' : World) : Prop :=
  Below w.heap.size w w' ∧ ((o = none ∧ e = .returned .nilIface) ∨ (∃ c, o = some (c, none) ∧ e = .returned (.iface 26 (.int .i64 ((c : Nat) : Int)))) ∨ ∃ c p g, o = some (c, some p) ∧ e = .returned (.iface 65 (.pointer (some ⟨g, 0, none⟩))) ∧ w'.heap[g]? = some (.cells #[.int .i64 ((c : Nat) : Int), .int .i64 ((p : Nat) : Int)] 66 (0, 0)) ∧ w.heap.size ≤ g)
theorem twiceF_none (ns : List Str) : ∀ (f i : Nat), (∀ j, i ≤ j → j < i + f → ¬ fndI ns (ns.getD j []) < j) → twiceF ns f i = none := by
  intro f
  induction f with
  | zero => intro i _; rfl
  | succ f ih =>
    intro i h
    rw [twiceF, if_neg (h i (Nat.le_refl _) (by omega))]
    exact ih (i + 1) fun j h1 h2 => h j (by omega) (by omega)
theorem twiceF_some (ns : List Str) : ∀ (f i k : Nat), i ≤ k → k < i + f → fndI ns (ns.getD k []) < k → (∀ j, i ≤ j → j < k → ¬ fndI ns (ns.getD j []) < j) → twiceF ns f i = some k := by
  intro f
  induction f with
  | zero => intro i k h1 h2; omega
  | succ f ih =>
    intro i k h1 h2 hk h
    rw [twiceF]
    by_cases e : i = k
    · subst e; rw [if_pos hk]
    · rw [if_neg (h i (Nat.le_refl _) (by omega))]
      exact ih (i + 1) k (by omega) (by omega) hk fun j h3 h4 => h j (by omega) h4
theorem vnames_at {vs : List Decl} {i : Nat} {d : Decl} (h : vs[i]? = some d) : (vnames vs).getD i [] = d.name := by
  rw [vnames, List.getD_eq_getElem?_getD, List.getElem?_map, h]; rfl
theorem checkC_run (c : Chart) (h1 : twiceF (vnames c.vars) c.vars.length 0 = none) (h2 : c.regions ≠ []) : checkC c = match regsE (regE c.vars 6) c.regions 0 with
    | .error (e, p) => some (e, some p)
    | .ok _ => none := by
  unfold checkC; rw [h1]
  show (if c.regions = [] then _ else _) = _
  rw [if_neg h2]
  cases regsE (regE c.vars 6) c.regions 0 with
  | error x => cases x; rfl
  | ok _ => rfl

set_option maxRecDepth 100000 in
set_option maxHeartbeats 4000000 in
theorem check_any {A : Nat → Prop} {w : World} {c : Chart} {v : Value} (h : IsChart A w c v) (hN : NmChart c) : Calls Tryz.prog 9 #[v] w (ChkOut (checkC c) w) := by
  have hmf : ∀ (fn : Fn) (first cap : Array Value) (w : World), (Instr.makeFunc fn first cap).run Tryz.prog w = .ok (.func fn first cap) w := fun _ _ _ _ => rfl
  obtain ⟨a0, n0, m0, a1, n1, m1, rfl, hV, hR⟩ := h
  obtain ⟨adv, gv, capv, ev, v1, v2, v3⟩ := hV.open
  injection ev with e1 e2 e3
  subst e1; subst e2; subst e3
  obtain ⟨adr, gr, capr, er, r1, -, -⟩ := hR.len
  injection er with e1 e2 e3
  subst e1; subst e2; subst e3
  obtain ⟨S, hS⟩ : ∃ S, sv c.name = .string S := ⟨_, rfl⟩
  rw [hS]
  obtain ⟨M, hM⟩ : ∃ M, Hid (c.vars.length = M) := ⟨_, rfl⟩
  have hMx : M ≤ 1000000 := by rw [← hM.out]; exact hN.vars
  have hMl : Hid (M = (vnames c.vars).length) := by rw [Hid, vnames, List.length_map]; exact hM.out.symm
  have HV : Hid (∀ (i : Nat) (d : Decl), c.vars[i]? = some d → w.cell? ⟨gv, i * 3, none⟩ = some (.int .i64 (d.kind : Int)) ∧ w.cell? ⟨gv, i * 3 + 1, none⟩ = some (sv d.name) ∧ w.cell? ⟨gv, i * 3 + 2, none⟩ = some (.int .i64 d.first)) := v3
  rw [hM.out] at v2 ⊢
  have HA : Hid (0 < M → a0 = some ⟨gv, 0, none⟩ ∧ gv < w.heap.size) := v2
  have HR : Hid (IsRegs A w (IsStates A w 6) c.regions (.slice a1 c.regions.length m1)) := hR
  have HNC : Hid (NmChart c) := hN
  have hat : ∀ i, i < M → ∃ d, c.vars[i]? = some d := fun i hi => ⟨c.vars[i]'(by rw [hM.out]; exact hi), List.getElem?_eq_getElem _⟩
  have hln : Hid (∀ i, i < M → ((vnames c.vars).getD i []).length ≤ maxLen) := fun i hi => by
    obtain ⟨d, hd⟩ := hat i hi
    rw [vnames_at hd]
    exact HNC.out.names d (List.mem_of_getElem? hd)
  obtain ⟨O, hO⟩ : ∃ O, O = Obj.cells #[.string S, .slice a0 M m0, .slice a1 c.regions.length m1] 25 := ⟨_, rfl⟩
  have hbx : (w.alloc O).heap[w.heap.size]? = some (.cells #[.string S, .slice a0 M m0, .slice a1 c.regions.length m1] 25 (0, 0)) := by rw [ck_new, hO]
  have hcall := finder_any 25 (.inl rfl) w.heap.size (vnames c.vars) M hMl hMx hln (w.alloc O) (fun X i hX hi => by
    obtain ⟨d, hd⟩ := hat i hi
    rw [vnames_at hd]
    exact name_var (ck_cell hX (cell_row hbx 1 rfl)) hi (fun h => (HA.out h).1) (ck_cell hX (ck_cell (ck_grown w O) (HV.out i d hd).2.1)))
  have HB0 : Hid (Below w.heap.size w (w.alloc O) ∧ (w.alloc O).heap[w.heap.size]? = some (.cells #[.string S, .slice a0 M m0, .slice a1 c.regions.length m1] 25 (0, 0))) := ⟨ck_grown w O, hbx⟩
  rw [hO] at hcall HB0
  clear hV hR v1 v2 v3 hN hat hO hbx hS
  obtain ⟨NR, hNR⟩ : ∃ NR, Hid (c.regions.length = NR) := ⟨_, rfl⟩
  rw [hNR.out] at hcall HB0 r1 HR ⊢
  go_enter Tryz.func9, Tryz.ntmps9
  go_upto_region 2 with (refine hcall.mono ?_; rintro e w1 ⟨f, rfl, ⟨pb, mb, nm, rfl, hpb, hmb⟩, hb⟩; have HF : Hid ((w1.heap[pb]? = some (.cells #[.map (some mb)] 56 (0, 0)) ∧ MapF w1 mb nm (fnd (vnames c.vars))) ∧ Below w.heap.size w w1 ∧ w1.heap[w.heap.size]? = some (.cells #[.string S, .slice a0 M m0, .slice a1 NR m1] 25 (0, 0))) := ⟨⟨hpb, hmb⟩, ck_all HB0.out.1 hb, ck_block hb HB0.out.2⟩; clear hpb hmb hb)
  clear hcall
  have d1 := cell_row HF.out.2.2 1 (u := .slice a0 M m0) rfl
  go_wp2_with fail
  clear d1
  go_loopg [15] M (fun f i wr => ∃ k : Nat, f = M - k ∧ k ≤ M ∧ i = .int .i64 (k : Int) ∧ Hid (Below w1.heap.size w1 wr ∧ ∀ j, j < k → ¬ fndI (vnames c.vars) ((vnames c.vars).getD j []) < j))
  case atStart => exact ⟨0, by omega, by omega, rfl, Below.refl _ _, fun j hj => absurd hj (by omega)⟩
  case round =>
    obtain ⟨k, rfl, hk, rfl, hr⟩ := hrel
    obtain ⟨hBr, hno⟩ := hr.out
    have HBR : Hid (Below w1.heap.size w1 wr) := hBr
    have HNO : Hid (∀ j, j < k → ¬ fndI (vnames c.vars) ((vnames c.vars).getD j []) < j) := hno
    clear hr hno
    by_cases hlt : k < M
    · obtain ⟨d, hd⟩ : ∃ d, c.vars[k]? = some d := ⟨c.vars[k]'(by rw [hM.out]; exact hlt), List.getElem?_eq_getElem _⟩
      have hnm := vnames_at hd
      have hBw : Below w.heap.size w wr := ck_all HF.out.2.1 hBr
      obtain ⟨x0, x1, x2⟩ := HV.out k d hd
      have y0 := ck_cell hBw x0
      have y1 := ck_cell hBw x1
      have y2 := ck_cell hBw x2
      have hix := ixV a0 gv M m0 k hlt (fun h => (HA.out h).1)
      have hlen : d.name.length ≤ maxLen := HNC.out.names d (List.mem_of_getElem? hd)
      have hfind := fun o => find_any (w := wr.alloc o) (s := d.name) (ck_old (ck_block hBr HF.out.1.1)) ((HF.out.1.2.below hBr).below (ck_grown wr o)) hlen
      obtain ⟨I, hI⟩ : ∃ I, Hid (fndI (vnames c.vars) ((vnames c.vars).getD k []) = I) := ⟨_, rfl⟩
      rw [← hnm] at hfind
      rw [hI.out] at hfind
      rw [hnm] at hfind
      obtain ⟨T, hT⟩ : ∃ T, sv d.name = .string T := ⟨_, rfl⟩
      rw [hT] at hfind y1
      have hcall := hfind (.cells #[.int .i64 (d.kind : Int), .string T, .int .i64 d.first] 60)
      clear hfind x0 x1 x2 hT hlen hd hnm hBw hBr
      by_cases hi : I < (k : Int)
      · have HE : Hid (checkC c = some (9, some k)) := by
          have : twiceF (vnames c.vars) c.vars.length 0 = some k := twiceF_some _ _ 0 k (by omega) (by rw [hM.out]; omega) (by rw [hI.out]; exact hi) (fun j _ hj => HNO.out j hj)
          unfold Hid checkC; rw [this]
        go_wp2_with (refine hcall.mono ?_; rintro e w' ⟨rfl, rfl⟩)
        go_ret
        refine ⟨ck_all HF.out.2.1 (ck_all HBR.out (ck_all (ck_grown _ _) (ck_grown _ _))), .inr (.inr ⟨9, k, _, HE.out, rfl, ck_new2 _ _ _, ?_⟩)⟩
        have := HF.out.2.1.size
        have := HBR.out.size
        simp; omega
      · go_wp2_with (refine hcall.mono ?_; rintro e w' ⟨rfl, rfl⟩)
        go_roundg (M - (k + 1))
        case measure => omega
        case rel =>
          refine ⟨k + 1, rfl, by omega, by go_num, ck_all HBR.out (ck_grown _ _), fun j hj => ?_⟩
          by_cases e : j = k
          · subst e; rw [hI.out]; exact hi
          · exact HNO.out j (by omega)
    · obtain rfl : k = M := by omega
      have HT : Hid (twiceF (vnames c.vars) c.vars.length 0 = none) := twiceF_none _ _ _ fun j _ hj => HNO.out j (by rw [hM.out] at hj; omega)
      have e1 := cell_row (ck_block hBr HF.out.2.2) 1 (u := .slice a0 k m0) rfl
      have e2 := cell_row (ck_block hBr HF.out.2.2) 2 (u := .slice a1 NR m1) rfl
      by_cases h0 : NR = 0
      · subst h0
        have HE : Hid (checkC c = some (8, none)) := by
          have : c.regions = [] := List.length_eq_zero_iff.1 hNR.out
          unfold Hid checkC; rw [HT.out, this]; rfl
        clear hBr
        go_wp2_with fail
        go_ret
        exact ⟨ck_all HF.out.2.1 HBR.out, .inr (.inl ⟨8, HE.out, rfl⟩)⟩
      · have hz1 : ¬ (NR : Int) = 0 := by omega
        have hz2 : ((NR : Int) == 0) = false := by simp; omega
        have hrn : c.regions ≠ [] := fun e => h0 (by rw [← hNR.out, e]; rfl)
        have HE : Hid (checkC c = _) := checkC_run c HT.out hrn
        obtain ⟨O, hO⟩ : ∃ O, O = Obj.cells #[.slice a0 k m0, .func (.func 44) #[] #[.pointer (some ⟨pb, 0, none⟩)], .int .i64 0] 68 := ⟨_, rfl⟩
        have hBO : Below w.heap.size w (wr.alloc O) := ck_all HF.out.2.1 (ck_all HBR.out (ck_grown wr O))
        have lp := lt_of_block (ck_block hBr HF.out.1.1)
        have lm := (HF.out.1.2.below hBr).lt
        have lw : w.heap.size ≤ wr.heap.size := Nat.le_trans HF.out.2.1.size HBR.out.size
        have hC : CkAt (wr.alloc O) wr.heap.size pb mb nm gv a0 m0 c.vars 0 := by
          refine ⟨by rw [ck_new, hO, hM.out]; rfl, ck_old (ck_block hBr HF.out.1.1), (HF.out.1.2.below hBr).below (ck_grown wr O), fun hp => ?_, fun i d hi => ck_cell hBO (HV.out i d hi).1, by omega, by omega, fun hp => ?_⟩
          · rw [hM.out] at hp
            exact ⟨(HA.out hp).1, Nat.lt_of_lt_of_le (HA.out hp).2 hBO.size⟩
          · rw [hM.out] at hp
            have := (HA.out hp).2; omega
        have hRg : IsRegs (· < w.heap.size) (wr.alloc O) (IsStates (· < w.heap.size) (wr.alloc O) 6) c.regions (.slice a1 NR m1) := by
          have hK : Keep A (· < w.heap.size) w (wr.alloc O) := fun x _ hlt => ⟨hlt, hBO.block x hlt⟩
          exact HR.out.carry hK (IsStates.carry hK 6)
        have hcall := ckregs_of (A := (· < w.heap.size)) (fun x hx e => by have : x < w.heap.size := hx; omega) (reg_all (A := (· < w.heap.size)) (fun x hx e => by have : x < w.heap.size := hx; omega) 6) (wr.alloc O) c.regions (.slice a1 NR m1) 0 hC hRg HNC.out.sts (by have := HNC.out.many; omega)
        have HBO : Hid (Below w.heap.size w (wr.alloc O) ∧ w.heap.size ≤ wr.heap.size) := ⟨hBO, lw⟩
        have e2' := ck_cell (ck_grown wr O) e2
        rw [hO] at hcall HBO e2'
        clear hC hRg hBO lp lm lw hO hBr
        unfold RegOut at hcall
        have hsub : ∀ w', Fr (wr.alloc (.cells #[.slice a0 k m0, .func (.func 44) #[] #[.pointer (some ⟨pb, 0, none⟩)], .int .i64 0] 68)).heap.size [wr.heap.size] (wr.alloc (.cells #[.slice a0 k m0, .func (.func 44) #[] #[.pointer (some ⟨pb, 0, none⟩)], .int .i64 0] 68)) w' → Below w.heap.size w w' := fun w' hF =>
          HBO.out.1.trans ((hF.mono HBO.out.1.size (X' := []) (fun x hx h => by have := HBO.out.2; simp at hx; omega)).below)
        have HSB : Hid _ := hsub
        clear hsub
        cases hrs : regsE (regE c.vars 6) c.regions 0 with
        | error x =>
          obtain ⟨cc, pl⟩ := x
          rw [hrs] at HE hcall
          have hI2 : Calls Tryz.prog 26 #[.pointer (some ⟨wr.heap.size, 0, none⟩), .slice a1 NR m1] (wr.alloc (.cells #[.slice a0 k m0, .func (.func 44) #[] #[.pointer (some ⟨pb, 0, none⟩)], .int .i64 0] 68)) fun e w'' => ∃ g, e = .returned (.iface 65 (.pointer (some ⟨g, 0, none⟩))) ∧ Hid (w''.heap[g]? = some (.cells #[.int .i64 ((cc : Nat) : Int), .int .i64 ((pl : Nat) : Int)] 66 (0, 0)) ∧ wr.heap.size ≤ g ∧ Below w.heap.size w w'') := hcall.mono fun e w'' ⟨hF, ho⟩ => by
            rcases ho with ⟨_, he, _⟩ | ⟨c', p', g', he, h1, h2, h3⟩
            · simp at he
            · injection he with he
              injection he with e1 e2
              subst e1; subst e2
              exact ⟨g', h1, h2, by simp at h3; omega, HSB.out _ hF⟩
          clear hcall
          go_wp2_with (refine hI2.mono ?_; rintro e w'' ⟨ge, rfl, hge⟩)
          go_ret
          exact ⟨hge.out.2.2, .inr (.inr ⟨cc, pl, ge, HE.out, rfl, hge.out.1, Nat.le_trans HBO.out.2 hge.out.2.1⟩)⟩
        | ok m2 =>
          rw [hrs] at HE hcall
          have hI2 : Calls Tryz.prog 26 #[.pointer (some ⟨wr.heap.size, 0, none⟩), .slice a1 NR m1] (wr.alloc (.cells #[.slice a0 k m0, .func (.func 44) #[] #[.pointer (some ⟨pb, 0, none⟩)], .int .i64 0] 68)) fun e w'' => e = .returned .nilIface ∧ Hid (Below w.heap.size w w'') := hcall.mono fun e w'' ⟨hF, ho⟩ => by
            rcases ho with ⟨m', he, h1, h2⟩ | ⟨_, _, _, he, _⟩
            · exact ⟨h1, HSB.out _ hF⟩
            · simp at he
          clear hcall
          go_wp2_with (refine hI2.mono ?_; rintro e w'' ⟨rfl, hge⟩)
          go_ret
          exact ⟨hge.out, .inl ⟨HE.out, rfl⟩⟩
end Go.Proofs.YtanlfmhlohcmgaaGreatDoor
/- The document's Check. -/
namespace Go.Proofs.YtanlfmhlohcmgaaGreatDoor
open Go.RowKit Px

/-- shapes of expressions, at every depth -/
def ShSt : (k : Nat) → St k → Prop
  | 0 => fun _ => True
  | k + 1 => fun s => ShStF s ∧ ∀ r ∈ StF.regions s, ∀ x ∈ r, ShSt k x
section
variable {jb mk nm : Nat} {vs : List Decl}
def JRegOk (jb mk nm : Nat) (vs : List Decl) (A : Nat → Prop) (k : Nat) : Prop := ∀ (w : World) (l : List (St k)) (v : Value) (n : Nat), JdAt w jb mk nm vs n → Fine w → IsStates A w k l v → (∀ x ∈ l, NmSt k x ∧ ShSt k x) → n + cRg k l ≤ 1000000 →
  Calls Tryz.prog 23 #[.pointer (some ⟨jb, 0, none⟩), v] w (JOut jb mk nm vs (regE vs k l n) w)
theorem jreg_all {A : Nat → Prop} (hA : ∀ x, A x → x ≠ jb) : ∀ k, JRegOk jb mk nm vs A k := by
  intro k
  induction k with
  | zero =>
    intro w l v n hC hf hI _ hb
    obtain ⟨rfl, rfl⟩ := hI
    have := jregion_at (ρ := Unit) (cap := 0) (ad := none) (l := []) (N := 0) (R := fun _ n => .ok n) (A := fun _ => True) (I := fun _ _ _ => True) hC hf (fun _ => 0) rfl ⟨0, fun h => absurd h (by omega), ⟨Nat.le_refl _, Nat.zero_le _⟩, fun i s h => absurd h (by simp)⟩ (fun s h => absurd h (by simp)) (fun s h => absurd h (by simp)) (by rw [Hid, sumC]; have : n + cRg 0 ([] : List (St 0)) ≤ 1000000 := hb; omega) (by omega) (fun _ s _ _ _ h => absurd h (by simp))
    exact this
  | succ k ih =>
    intro w l v n hC hf hI hN hb
    obtain ⟨a, b, c, rfl⟩ := hI.csl
    obtain ⟨rfl, hM⟩ := IsStates.memF hA hI
    have hl : List.length l ≤ 1000000 := by
      have := sumC_len (fun x => cIn (k + 1) x) l
      have hb' : n + sumC (fun x => 1 + cIn (k + 1) x) l ≤ 1000000 := hb
      omega
    exact jregion_at (ρ := St k) (A := A) (R := regE vs k) (I := fun w' => IsStates A w' k) hC hf (cRg k) rfl hM (fun s hs => ⟨(hN s hs).1.1, (hN s hs).2.1⟩) (fun s _ r _ n m h => regE_count k r n m h) hb hl (fun w' s r v m hs hr hF hv hC' hm => ih w' r v m hC' (hf.fr hC hF) hv (fun x hx => ⟨(hN s hs).1.2 r hr x hx, (hN s hs).2.2 r hr x hx⟩) hm)
end
/-- a fault, as the document tells it -/
def fltV (o : Option (Nat × Option Nat)) : Value := match o with
  | none => .agg #[.int .i64 0, .int .i64 (-1)]
  | some (c, none) => .agg #[.int .i64 ((c : Nat) : Int), .int .i64 (-1)]
  | some (c, some p) => .agg #[.int .i64 ((c : Nat) : Int), .int .i64 ((p : Nat) : Int)]
theorem resultsK (tmps : Array Value) (W : World) (e : Nat) (fe : Array Value) (hse : fe.size = 2) (hq : tmps[2]?.getD undef = .pointer (some ⟨e, 0, none⟩)) (he : W.heap[e]? = some (.cells fe 28 (0, 0))) :
    (results Tryz.f7 tmps).run Tryz.prog W = .ok (.agg fe) W := by
  simp [results, Tryz.results7, hq, asAddr, load28 hse he]
theorem vnames_take (vs : List Decl) (k : Nat) : vnames (vs.take k) = (vnames vs).take k := by unfold vnames; rw [List.map_take]
theorem fnd_take_lt {l : List Str} {k : Nat} (hk : k < l.length) : ((fnd (l.take k) (l.getD k [])).isSome = true) ↔ fndI l (l.getD k []) < k := by
  rw [twice_iff l k hk]
  constructor
  · intro h
    cases hf : fnd (l.take k) (l.getD k []) with
    | none => rw [hf] at h; simp at h
    | some i =>
      obtain ⟨h1, h2, _⟩ := fnd_some hf
      rw [List.length_take] at h1
      refine ⟨i, by omega, ?_⟩
      rw [← h2, List.getD_eq_getElem?_getD, List.getD_eq_getElem?_getD, List.getElem?_take_of_lt (by omega)]
  · rintro ⟨j, hj, he⟩
    cases hf : fnd (l.take k) (l.getD k []) with
    | none =>
      refine absurd ?_ (fnd_none hf j (by rw [List.length_take]; omega))
      rw [← he, List.getD_eq_getElem?_getD, List.getD_eq_getElem?_getD, List.getElem?_take_of_lt hj]
    | some i => rfl
theorem fnd_append_one (l : List Str) (a s : Str) (h : fnd l a = none) : fnd (l ++ [a]) s = if a = s then some l.length else fnd l s := by
  by_cases e : a = s
  · subst e
    rw [if_pos rfl]
    exact fnd_of (by simp) (by simp) fun j hj => by
      rw [List.getD_eq_getElem?_getD, List.getElem?_append_left hj, ← List.getD_eq_getElem?_getD]
      exact fnd_none h j hj
  · rw [if_neg e]
    cases hf : fnd l s with
    | none =>
      cases hg : fnd (l ++ [a]) s with
      | none => rfl
      | some i =>
        obtain ⟨h1, h2, _⟩ := fnd_some hg
        rw [List.length_append, List.length_singleton] at h1
        by_cases hi : i < l.length
        · rw [List.getD_eq_getElem?_getD, List.getElem?_append_left hi, ← List.getD_eq_getElem?_getD] at h2
          exact absurd h2 (fnd_none hf i hi)
        · obtain rfl : i = l.length := by omega
          simp at h2
          exact absurd h2 e
    | some i =>
      obtain ⟨h1, h2, h3⟩ := fnd_some hf
      refine fnd_of (by simp; omega) ?_ fun j hj => ?_
      · rw [List.getD_eq_getElem?_getD, List.getElem?_append_left h1, ← List.getD_eq_getElem?_getD]; exact h2
      · rw [List.getD_eq_getElem?_getD, List.getElem?_append_left (by omega), ← List.getD_eq_getElem?_getD]; exact h3 j hj
theorem kf_step {vs : List Decl} {k : Nat} {d : Decl} (hd : vs[k]? = some d) (h : fnd (vnames (vs.take k)) d.name = none) (s : Str) : kf (vs.take (k + 1)) s = if d.name = s then some d.kind else kf (vs.take k) s := by
  have e1 : vs.take (k + 1) = vs.take k ++ [d] := by rw [List.take_add_one, hd]; rfl
  have hk := (List.getElem?_eq_some_iff.1 hd).1
  have hl : (vs.take k).length = k := by rw [List.length_take]; omega
  have e2 : vnames (vs.take k ++ [d]) = vnames (vs.take k) ++ [d.name] := by unfold vnames; rw [List.map_append]; rfl
  unfold kf
  rw [e1, e2, fnd_append_one _ _ _ h]
  by_cases e : d.name = s
  · rw [if_pos e, if_pos e]
    have e3 : (vnames (vs.take k)).length = k := by unfold vnames; rw [List.length_map, hl]
    rw [e3, Option.map_some, List.getD_eq_getElem?_getD, List.getElem?_append_right (by omega), hl]
    simp
  · rw [if_neg e, if_neg e]
    cases hf : fnd (vnames (vs.take k)) s with
    | none => rfl
    | some i =>
      have hi := (fnd_some hf).1
      unfold vnames at hi
      rw [List.length_map] at hi
      simp only [Option.map_some]
      rw [List.getD_eq_getElem?_getD, List.getElem?_append_left hi, ← List.getD_eq_getElem?_getD]
end Go.Proofs.YtanlfmhlohcmgaaGreatDoor
/- The document's Check, walked. -/
namespace Go.Proofs.YtanlfmhlohcmgaaGreatDoor
open Go.RowKit Px

theorem mkmap0 (w : World) : (Instr.makeMap 56 none).run Tryz.prog w = .ok (.map (some w.heap.size)) (w.alloc (.map #[] 0)) := by kernel_rfl
theorem ckb_drewN {B : Nat} {w X : World} (h : Below B w X) (n : Nat) : Below B w (X.drewN n) := ⟨h.os, h.tape, h.output, h.size, h.block⟩
/-- what is asked of a chart, besides -/
structure ShChart (c : Chart) : Prop where
  kinds : ∀ v ∈ c.vars, 1 ≤ v.kind ∧ v.kind ≤ 3
  sts : ∀ r ∈ c.regions, ∀ x ∈ r, ShSt 6 x
set_option maxRecDepth 100000 in
set_option maxHeartbeats 8000000 in
theorem rcheck_any {A : Nat → Prop} {w : World} {c : Chart} {v : Value} (h : IsChart A w c v) (hN : NmChart c) (hSh : ShChart c) (hfi : Fine w) : Calls Tryz.prog 7 #[v] w fun e w' => e = .returned (fltV (checkC c)) ∧ Below w.heap.size w w' := by
  obtain ⟨a0, n0, m0, a1, n1, m1, rfl, hV, hR⟩ := h
  obtain ⟨adv, gv, capv, ev, v1, v2, v3⟩ := hV.open
  injection ev with e1 e2 e3
  subst e1; subst e2; subst e3
  obtain ⟨adr, gr, capr, er, r1, r2, r3⟩ := hR.openA
  injection er with e1 e2 e3
  subst e1; subst e2; subst e3
  obtain ⟨S, hS⟩ : ∃ S, sv c.name = .string S := ⟨_, rfl⟩
  rw [hS]
  obtain ⟨M, hM⟩ : ∃ M, Hid (c.vars.length = M) := ⟨_, rfl⟩
  obtain ⟨NR, hNR⟩ : ∃ NR, Hid (c.regions.length = NR) := ⟨_, rfl⟩
  have hMx : M ≤ 1000000 := by rw [← hM.out]; exact hN.vars
  have HV : Hid (∀ (i : Nat) (d : Decl), c.vars[i]? = some d → w.cell? ⟨gv, i * 3, none⟩ = some (.int .i64 (d.kind : Int)) ∧ w.cell? ⟨gv, i * 3 + 1, none⟩ = some (sv d.name) ∧ w.cell? ⟨gv, i * 3 + 2, none⟩ = some (.int .i64 d.first)) := v3
  have HA : Hid (0 < c.vars.length → a0 = some ⟨gv, 0, none⟩ ∧ gv < w.heap.size) := v2
  have HRG : Hid ((0 < c.regions.length → a1 = some ⟨gr, 0, none⟩ ∧ A gr ∧ gr < w.heap.size) ∧ c.regions.length ≤ maxLen ∧ ∀ (i : Nat) (r : List (St 6)), c.regions[i]? = some r → ∃ u, w.cell? ⟨gr, i, none⟩ = some u ∧ IsStates A w 6 r u) := ⟨r2, r1, r3⟩
  rw [hM.out, hNR.out]
  have HNC : Hid (NmChart c ∧ ShChart c ∧ Fine w) := ⟨hN, hSh, hfi⟩
  have hmk := mkmap0
  clear hV hR v1 v2 v3 hN hSh hfi hS r1 r2 r3
  go_enter Tryz.func7, Tryz.ntmps7
  go_upto_region 2 with fail
  obtain ⟨W, hW⟩ : ∃ W, W = ((((w.alloc (.cells #[.string S, .slice a0 M m0, .slice a1 NR m1] 25)).alloc (.cells #[.int .i64 0, .int .i64 0] 28)).alloc (.map #[] 0)).alloc (.cells #[.map (some (w.heap.size + 1 + 1)), .int .i64 0] 58)) := ⟨_, rfl⟩
  obtain ⟨jb, hjb⟩ : ∃ jb, jb = w.heap.size + 1 + 1 + 1 := ⟨_, rfl⟩
  obtain ⟨mk, hmkk⟩ : ∃ mk, mk = w.heap.size + 1 + 1 := ⟨_, rfl⟩
  obtain ⟨fb, hfb⟩ : ∃ fb, fb = w.heap.size + 1 := ⟨_, rfl⟩
  obtain ⟨cb, hcb⟩ : ∃ cb, cb = w.heap.size := ⟨_, rfl⟩
  have HW : Hid (MapF W mk 0 (kf (c.vars.take 0)) ∧ W.heap[jb]? = some (.cells #[.map (some mk), .int .i64 0] 58 (0, 0)) ∧ W.heap[fb]? = some (.cells #[.int .i64 0, .int .i64 0] 28 (0, 0)) ∧ W.heap[cb]? = some (.cells #[.string S, .slice a0 M m0, .slice a1 NR m1] 25 (0, 0)) ∧ Below w.heap.size w W) := by
    refine ⟨?_, ?_, ?_, ?_, ?_⟩
    · have h0 := mapF_made ((w.alloc (.cells #[.string S, .slice a0 M m0, .slice a1 NR m1] 25)).alloc (.cells #[.int .i64 0, .int .i64 0] 28))
      have e : ((w.alloc (.cells #[.string S, .slice a0 M m0, .slice a1 NR m1] 25)).alloc (.cells #[.int .i64 0, .int .i64 0] 28)).heap.size = mk := by rw [hmkk]; simp
      rw [e] at h0
      have h1 := h0.below (ck_grown _ (.cells #[.map (some (w.heap.size + 1 + 1)), .int .i64 0] 58))
      rw [← hW] at h1
      exact h1.like fun s => rfl
    · rw [hW, hjb, hmkk]
      have e : w.heap.size + 1 + 1 + 1 = (((w.alloc (.cells #[.string S, .slice a0 M m0, .slice a1 NR m1] 25)).alloc (.cells #[.int .i64 0, .int .i64 0] 28)).alloc (.map #[] 0)).heap.size := by simp
      rw [e]; exact ck_new _ _
    · rw [hW, hfb]; exact ck_old (ck_old (ck_new2 _ _ _))
    · rw [hW, hcb]; exact ck_old (ck_old (ck_old (ck_new _ _)))
    · rw [hW]; exact ((((Below.refl _ _).alloc (Nat.le_refl _) _).alloc (by simp) _).alloc (by simp; omega) _).alloc (by simp; omega) _
  have HNE : Hid (w.heap.size ≤ cb ∧ cb < fb ∧ fb < mk ∧ mk < jb) := by unfold Hid; omega
  rw [← hW, ← hjb, ← hmkk, ← hfb, ← hcb]
  clear hW hjb hmkk hfb hcb hmk
  have d1 := cell_row HW.out.2.2.2.1 1 (u := .slice a0 M m0) rfl
  go_wp2_with fail
  clear d1
  go_loopg [15] M (fun f i wr => ∃ k : Nat, f = M - k ∧ k ≤ M ∧ i = .int .i64 (k : Int) ∧ Hid (MapF wr mk k (kf (c.vars.take k)) ∧ wr.heap[jb]? = some (.cells #[.map (some mk), .int .i64 0] 58 (0, 0)) ∧ wr.heap[fb]? = some (.cells #[.int .i64 0, .int .i64 0] 28 (0, 0)) ∧ wr.heap[cb]? = some (.cells #[.string S, .slice a0 M m0, .slice a1 NR m1] 25 (0, 0)) ∧ Below w.heap.size w wr ∧ ∀ j, j < k → ¬ fndI (vnames c.vars) ((vnames c.vars).getD j []) < j))
  case atStart =>
    obtain ⟨x1, x2, x3, x4, x5⟩ := HW.out
    exact ⟨0, by omega, by omega, rfl, x1, x2, x3, x4, x5, fun j hj => absurd hj (by omega)⟩
  case round =>
    obtain ⟨k, rfl, hk, rfl, hr⟩ := hrel
    obtain ⟨hmp, hjx, hfx, hcx, hBw, hno⟩ := hr.out
    clear hr
    by_cases hlt : k < M
    · obtain ⟨d, hd⟩ : ∃ d, c.vars[k]? = some d := ⟨c.vars[k]'(by rw [hM.out]; exact hlt), List.getElem?_eq_getElem _⟩
      have hnm := vnames_at hd
      obtain ⟨x0, x1, x2⟩ := HV.out k d hd
      have y0 := ck_cell hBw x0
      have y1 := ck_cell hBw x1
      have y2 := ck_cell hBw x2
      have hix := ixV a0 gv M m0 k hlt (fun h => (HA.out (by rw [hM.out]; exact h)).1)
      have hlen : d.name.length ≤ maxLen := HNC.out.1.names d (List.mem_of_getElem? hd)
      have hkd := HNC.out.2.1.kinds d (List.mem_of_getElem? hd)
      obtain ⟨T, hT⟩ : ∃ T, sv d.name = .string T := ⟨_, rfl⟩
      have hlk : ∀ nq : Nat, (Instr.lookup 56 (.map (some mk)) (sv d.name) false).run Tryz.prog ((wr.alloc (.cells #[.int .i64 (d.kind : Int), .string T, .int .i64 d.first] 60)).drewN nq) = .ok (.int .i64 (((kf (c.vars.take k) d.name).getD 0 : Nat) : Int)) ((wr.alloc (.cells #[.int .i64 (d.kind : Int), .string T, .int .i64 d.first] 60)).drewN nq) := fun nq => ((hmp.below (ck_grown wr (.cells #[.int .i64 (d.kind : Int), .string T, .int .i64 d.first] 60))).keep (w' := (wr.alloc (.cells #[.int .i64 (d.kind : Int), .string T, .int .i64 d.first] 60)).drewN nq) rfl).look1 hlen
      have hkp := kf_pos (vs := c.vars.take k) (fun v hv => HNC.out.2.1.kinds v (List.mem_of_mem_take hv)) d.name
      have hft := fnd_take_lt (l := vnames c.vars) (k := k) (by unfold vnames; rw [List.length_map, hM.out]; exact hlt)
      rw [hnm, ← vnames_take] at hft
      have j0 := cell_row (ck_old (o' := (.cells #[.int .i64 (d.kind : Int), .string T, .int .i64 d.first] 60)) hjx) 0 (u := .map (some mk)) rfl
      obtain ⟨K, hK⟩ : ∃ K, Hid ((kf (c.vars.take k) d.name).getD 0 = K) := ⟨_, rfl⟩
      rw [hK.out] at hlk hkp
      rw [hT] at hlk y1
      have HR : Hid (MapF wr mk k (kf (c.vars.take k)) ∧ wr.heap[jb]? = some (.cells #[.map (some mk), .int .i64 0] 58 (0, 0)) ∧ wr.heap[fb]? = some (.cells #[.int .i64 0, .int .i64 0] 28 (0, 0)) ∧ wr.heap[cb]? = some (.cells #[.string S, .slice a0 M m0, .slice a1 NR m1] 25 (0, 0)) ∧ Below w.heap.size w wr ∧ ∀ j, j < k → ¬ fndI (vnames c.vars) ((vnames c.vars).getD j []) < j) := ⟨hmp, hjx, hfx, hcx, hBw, hno⟩
      have HTT : Hid (sv d.name = .string T ∧ d.name.length ≤ maxLen ∧ c.vars[k]? = some d ∧ d.kind ≤ 3) := ⟨hT, hlen, hd, hkd.2⟩
      clear hmp hjx hfx hcx hBw hno x0 x1 x2 hT hlen hd hkd
      by_cases hK0 : 0 < K
      · have HE : Hid (checkC c = some (9, some k)) := by
          have : twiceF (vnames c.vars) c.vars.length 0 = some k := twiceF_some _ _ 0 k (by omega) (by rw [hM.out]; omega) (by rw [hnm]; exact hft.1 (hkp.1 hK0)) (fun j _ hj => HR.out.2.2.2.2.2 j hj)
          unfold Hid checkC; rw [this]
        have hK1 : (0 : Int) < (K : Int) := by omega
        have hfz : (wr.alloc (.cells #[.int .i64 (d.kind : Int), .string T, .int .i64 d.first] 60)).heap[fb]? = some (.cells #[.int .i64 0, .int .i64 0] 28 (0, 0)) := ck_old HR.out.2.2.1
        have f0 := cell_row hfz 0 (u := .int .i64 0) rfl
        have f1 := cell_row hfz 1 (u := .int .i64 0) rfl
        have z0 := ck_frozen hfz 0
        have z1 := ck_frozen hfz 1
        have HFZ : Hid _ := hfz
        clear hft hkp hnm hfz
        go_upto_region 5 with fail
        go_quiet (fail)
        go_wp2_with fail
        have hB5 := ckb_drewN (ck_all HR.out.2.2.2.2.1 (ck_grown wr (.cells #[.int .i64 (d.kind : Int), .string T, .int .i64 d.first] 60))) nq
        refine bodyPost_ret (resultsK _ _ fb #[.int .i64 9, .int .i64 (k : Int)] rfl rfl (put2 (X := (wr.alloc (.cells #[.int .i64 (d.kind : Int), .string T, .int .i64 d.first] 60)).drewN nq) HFZ.out _ _)) rfl ?_
        exact ⟨by rw [HE.out]; rfl, (hB5.setCell (by have := HNE.out; simp; omega) _).setCell (by have := HNE.out; simp; omega) _⟩
      · obtain rfl : K = 0 := by omega
        rw [show ((0 : Nat) : Int) = 0 from rfl] at hlk
        have hnf : fnd (vnames (c.vars.take k)) d.name = none := by
          cases hf : fnd (vnames (c.vars.take k)) d.name with
          | none => rfl
          | some i => have := hkp.2 (by rw [hf]; rfl); omega
        have HNT : Hid (¬ fndI (vnames c.vars) ((vnames c.vars).getD k []) < k) := by
          intro hx
          rw [hnm] at hx
          have := hft.2 hx
          rw [hnf] at this
          simp at this
        have HKF : Hid (∀ s, kf (c.vars.take (k + 1)) s = if d.name = s then some d.kind else kf (c.vars.take k) s) := fun s => kf_step HTT.out.2.2.1 hnf s
        clear hft hkp hnm hnf
        go_upto_region 5 with fail
        go_quiet (fail)
        go_upto_region 7 with fail
        obtain ⟨X, hX⟩ : ∃ X, X = (wr.alloc (.cells #[.int .i64 (d.kind : Int), .string T, .int .i64 d.first] 60)).drewN nq := ⟨_, rfl⟩
        have hhp : ∀ b : Nat, X.heap[b]? = (wr.alloc (.cells #[.int .i64 (d.kind : Int), .string T, .int .i64 d.first] 60)).heap[b]? := fun b => by rw [hX]; rfl
        have hsz : X.heap.size = wr.heap.size + 1 := by rw [hX]; show (wr.alloc (.cells #[.int .i64 (d.kind : Int), .string T, .int .i64 d.first] 60)).heap.size = _; simp
        have hBX : Below w.heap.size w X := by rw [hX]; exact ckb_drewN (ck_all HR.out.2.2.2.2.1 (ck_grown wr (.cells #[.int .i64 (d.kind : Int), .string T, .int .i64 d.first] 60))) nq
        have hMX : MapF X.drew mk k (kf (c.vars.take k)) := (HR.out.1.below (ck_grown wr (.cells #[.int .i64 (d.kind : Int), .string T, .int .i64 d.first] 60))).keep (hhp mk)
        obtain ⟨w2, hrun, hM2, hgr⟩ := hMX.put (by unfold maxLen; omega) HTT.out.2.1 (i := d.kind) (by have := HTT.out.2.2.2; omega)
        rw [HTT.out.1] at hrun
        have e0 : X.cell? ⟨jb, 0, none⟩ = some (.map (some mk)) := cell_row ((hhp jb).trans (ck_old HR.out.2.1)) 0 rfl
        have hlx : X.heap[wr.heap.size]? = some (.cells #[.int .i64 (d.kind : Int), .string T, .int .i64 d.first] 60) := (hhp _).trans (ck_new _ _)
        have e1 := cell_row hlx 0 (u := .int .i64 (d.kind : Int)) rfl
        have e2 := cell_row hlx 1 (u := .string T) rfl
        have lmk := HR.out.1.lt
        have H2 : Hid (MapF w2 mk (k + 1) (kf (c.vars.take (k + 1))) ∧ w2.heap[jb]? = some (.cells #[.map (some mk), .int .i64 0] 58 (0, 0)) ∧ w2.heap[fb]? = some (.cells #[.int .i64 0, .int .i64 0] 28 (0, 0)) ∧ w2.heap[cb]? = some (.cells #[.string S, .slice a0 M m0, .slice a1 NR m1] 25 (0, 0)) ∧ Below w.heap.size w w2) := by
          have hk2 : ∀ b : Nat, b ≠ mk → b < wr.heap.size → w2.heap[b]? = wr.heap[b]? := fun b hb hl => by
            rw [hgr.block b (by show b < X.heap.size; omega) (by simpa using hb)]
            show X.heap[b]? = _
            rw [hhp b, Below.heap_alloc _ _ _ hl]
          have hne := HNE.out
          refine ⟨hM2.like fun s => (HKF.out s).symm, ?_, ?_, ?_, ?_⟩
          · rw [hk2 jb (by omega) (lt_of_block HR.out.2.1)]; exact HR.out.2.1
          · rw [hk2 fb (by omega) (lt_of_block HR.out.2.2.1)]; exact HR.out.2.2.1
          · rw [hk2 cb (by omega) (lt_of_block HR.out.2.2.2.1)]; exact HR.out.2.2.2.1
          · refine hBX.drew.grown hgr hBX.size (fun b hb => ?_)
            cases hb; omega
        rw [← hX]
        clear hX hhp hBX hMX hM2 hgr hlx lmk hlk j0 y0 y1 y2 hix
        go_region_with (fail)
        all_goals
          go_wp2_with fail
          go_roundg (M - (k + 1))
          case measure => omega
          case rel =>
            obtain ⟨u1, u2, u3, u4, u5⟩ := H2.out
            refine ⟨k + 1, rfl, by omega, by go_num, u1, u2, u3, u4, u5, fun j hj => ?_⟩
            by_cases e : j = k
            · subst e; exact HNT.out
            · exact HR.out.2.2.2.2.2 j (by omega)
    · obtain rfl : k = M := by omega
      have HT : Hid (twiceF (vnames c.vars) c.vars.length 0 = none) := twiceF_none _ _ _ fun j _ hj => hno j (by rw [hM.out] at hj; omega)
      have hne := HNE.out
      have e2 := cell_row hcx 2 (u := .slice a1 NR m1) rfl
      have hJ : JdAt wr jb mk k c.vars 0 := by
        refine ⟨hjx, ?_, HNC.out.2.1.kinds, by omega⟩
        rw [show c.vars.take k = c.vars by rw [← hM.out]; exact List.take_length] at hmp
        exact hmp
      have HR : Hid (JdAt wr jb mk k c.vars 0 ∧ wr.heap[fb]? = some (.cells #[.int .i64 0, .int .i64 0] 28 (0, 0)) ∧ wr.heap[cb]? = some (.cells #[.string S, .slice a0 k m0, .slice a1 NR m1] 25 (0, 0)) ∧ Below w.heap.size w wr ∧ Fine wr) := ⟨hJ, hfx, hcx, hBw, HNC.out.2.2.below hBw⟩
      clear hmp hjx hfx hcx hBw hno hJ hne
      by_cases h0 : NR = 0
      · subst h0
        have HE : Hid (checkC c = some (8, none)) := by
          have : c.regions = [] := List.length_eq_zero_iff.1 hNR.out
          unfold Hid checkC; rw [HT.out, this]; rfl
        have hbare := bare_any 8 wr
        have f0 := cell_row HR.out.2.1 0 (u := .int .i64 0) rfl
        have z0 := ck_frozen HR.out.2.1 0
        go_wp2_with (refine hbare.mono ?_; rintro e w6 ⟨rfl, hb6⟩; have g0 := ck_block hb6 HR.out.2.1; have f0' := cell_row g0 0 (u := .int .i64 0) rfl; have f1' := cell_row g0 1 (u := .int .i64 0) rfl; have z0' := ck_frozen g0 0; have z1' := ck_frozen g0 1; have H6 : Hid (w6.heap[fb]? = some (.cells #[.int .i64 0, .int .i64 0] 28 (0, 0)) ∧ Below w.heap.size w w6) := ⟨g0, ck_all HR.out.2.2.2.1 hb6⟩; clear g0)
        refine bodyPost_ret (resultsK _ _ fb #[.int .i64 8, .int .i64 (-1)] rfl rfl (put2 H6.out.1 _ _)) rfl ?_
        exact ⟨by rw [HE.out]; rfl, (H6.out.2.setCell (by have := HNE.out; simp; omega) _).setCell (by have := HNE.out; simp; omega) _⟩
      · have hz1 : ¬ (NR : Int) = 0 := by omega
        have hz2 : ((NR : Int) == 0) = false := by simp; omega
        have hrn : c.regions ≠ [] := fun e => h0 (by rw [← hNR.out, e]; rfl)
        have HE : Hid (checkC c = _) := checkC_run c HT.out hrn
        have hNR6 : (NR : Int) ≤ 9223372036854775807 := by have := HRG.out.2.1; rw [hNR.out] at this; unfold maxLen at this; omega
        go_wp2_with fail
        clear e2
        obtain ⟨W2, hW2⟩ : ∃ W2, W2 = wr := ⟨_, rfl⟩
        rw [← hW2] at HR ⊢
        clear hW2
        go_loopg [47] NR (fun f i wr => ∃ q : Nat, f = NR - q ∧ q ≤ NR ∧ i = .int .i64 (q : Int) ∧ Hid (∃ m2, JdAt wr jb mk k c.vars m2 ∧ Fr W2.heap.size [jb] W2 wr ∧ regsE (regE c.vars 6) c.regions 0 = regsE (regE c.vars 6) (c.regions.drop q) m2 ∧ m2 + sumC (cRg 6) (c.regions.drop q) ≤ 1000000))
        case atStart => exact ⟨0, by omega, by omega, rfl, 0, HR.out.1, Fr.refl _ _ _, rfl, by have := HNC.out.1.many; rw [List.drop_zero]; omega⟩
        case round =>
          obtain ⟨q, rfl, hq, rfl, hr⟩ := hrel
          obtain ⟨m2, hJ2, hF2, hst2, hsum2⟩ := hr.out
          clear hr
          have HKW : Hid (∀ w', Fr W2.heap.size [jb] W2 w' → Below w.heap.size w w' ∧ w'.heap[fb]? = some (.cells #[.int .i64 0, .int .i64 0] 28 (0, 0)) ∧ Fine w') := fun w' hF => by
            have hne := HNE.out
            refine ⟨HR.out.2.2.2.1.trans ((hF.mono HR.out.2.2.2.1.size (X' := []) (fun x hx h => by simp at hx; omega)).below), ?_, HR.out.2.2.2.2.fr HR.out.1 hF⟩
            rw [hF.block fb (lt_of_block HR.out.2.1) (by simp; omega)]; exact HR.out.2.1
          by_cases hlq : q < NR
          · obtain ⟨r, hrr⟩ : ∃ r, c.regions[q]? = some r := ⟨c.regions[q]'(by rw [hNR.out]; exact hlq), by rw [List.getElem?_eq_getElem]⟩
            have hrm := List.mem_of_getElem? hrr
            rw [sumC_drop _ hrr] at hsum2
            rw [regsE_at hrr] at hst2
            obtain ⟨u, hu, hIu⟩ := HRG.out.2.2 q r hrr
            obtain ⟨va, vb, vc, rfl⟩ := hIu.csl
            obtain ⟨hBr, hfr, hfi⟩ := HKW.out wr hF2
            have hK : Keep A (· < w.heap.size) w wr := fun x _ hl => ⟨hl, hBr.block x hl⟩
            have cu := ck_cell hBr hu
            have hcall := jreg_all (A := (· < w.heap.size)) (fun x hx e => by have : x < w.heap.size := hx; have := HNE.out; omega) 6 wr r (.slice va vb vc) m2 hJ2 hfi (IsStates.carry hK 6 r _ hIu) (fun x hx => ⟨HNC.out.1.sts r hrm x hx, HNC.out.2.1.sts r hrm x hx⟩) (by omega)
            have hix := ixR a1 gr NR m1 q hlq (fun h => (HRG.out.1 (by rw [hNR.out]; exact h)).1)
            have hcsr := regE_count (vs := c.vars) 6 r m2
            have HF2 : Hid (Fr W2.heap.size [jb] W2 wr) := hF2
            have HSU2 : Hid (m2 + (cRg 6 r + sumC (cRg 6) (c.regions.drop (q + 1))) ≤ 1000000) := hsum2
            have HS3 : Hid (regsE (regE c.vars 6) c.regions 0 = _) := hst2
            clear hJ2 hF2 hst2 hsum2 hrr hrm hIu hK hBr hfr hfi hu
            cases hrs : regE c.vars 6 r m2 with
            | error x =>
              obtain ⟨cc, pl⟩ := x
              rw [hrs] at HS3 hcall
              have HEE : Hid (checkC c = some (cc, some pl)) := by
                have h3 : regsE (regE c.vars 6) c.regions 0 = .error (cc, pl) := HS3.out
                rw [Hid, HE.out, h3]
              have hI2 : Calls Tryz.prog 23 #[.pointer (some ⟨jb, 0, none⟩), .slice va vb vc] wr fun e w'' => e = .returned (.agg #[.int .i64 ((cc : Nat) : Int), .int .i64 ((pl : Nat) : Int)]) ∧ Hid (Fr wr.heap.size [jb] wr w'') := hcall.mono fun e w'' ⟨hF, ho⟩ => by
                rcases ho with ⟨_, he, _⟩ | ⟨c', p', he, h1⟩
                · simp at he
                · injection he with he
                  injection he with e1 e2
                  subst e1; subst e2
                  exact ⟨h1, hF⟩
              have hp1 : ¬ ((pl : Nat) : Int) = -1 := by omega
              have hp2 : (((pl : Nat) : Int) == -1) = false := by simp
              clear hcall
              go_wp2_with (refine hI2.mono ?_; rintro e w5 ⟨rfl, hF5⟩; obtain ⟨g2, g4, fi0, fi1⟩ := HKW.out w5 (fr_on' HF2.out hF5.out); have gi0 := ck_cell (ck_grown w5 (.cells #[.int .i64 ((cc : Nat) : Int), .int .i64 ((pl : Nat) : Int)] 28)) fi0; have gi1 := ck_cell (ck_grown w5 (.cells #[.int .i64 ((cc : Nat) : Int), .int .i64 ((pl : Nat) : Int)] 28)) fi1; have hfz : (w5.alloc (.cells #[.int .i64 ((cc : Nat) : Int), .int .i64 ((pl : Nat) : Int)] 28)).heap[fb]? = some (.cells #[.int .i64 0, .int .i64 0] 28 (0, 0)) := ck_old g4; have f0 := cell_row hfz 0 (u := .int .i64 0) rfl; have f1 := cell_row hfz 1 (u := .int .i64 0) rfl; have z0 := ck_frozen hfz 0; have z1 := ck_frozen hfz 1; have H5 : Hid (Below w.heap.size w w5) := g2; have HFZ : Hid _ := hfz; clear g2 g4 hfz fi0 fi1)
              refine bodyPost_ret (resultsK _ _ fb #[.int .i64 ((cc : Nat) : Int), .int .i64 ((pl : Nat) : Int)] rfl rfl (put2 HFZ.out _ _)) rfl ?_
              exact ⟨by rw [HEE.out]; rfl, ((H5.out.alloc H5.out.size _).setCell (by have := HNE.out; simp; omega) _).setCell (by have := HNE.out; simp; omega) _⟩
            | ok m3 =>
              rw [hrs] at HS3 hcall
              have hm3 := hcsr m3 hrs
              have hI2 : Calls Tryz.prog 23 #[.pointer (some ⟨jb, 0, none⟩), .slice va vb vc] wr fun e w'' => e = .returned (.agg #[.int .i64 0, .int .i64 (-1)]) ∧ Hid (JdAt w'' jb mk k c.vars m3 ∧ Fr wr.heap.size [jb] wr w'') := hcall.mono fun e w'' ⟨hF, ho⟩ => by
                rcases ho with ⟨m', he, h1, h2⟩ | ⟨_, _, he, _⟩
                · injection he with he
                  subst he
                  exact ⟨h1, h2, hF⟩
                · simp at he
              clear hcall
              go_wp2_with (refine hI2.mono ?_; rintro e w5 ⟨rfl, hF5⟩; obtain ⟨g2, g4, fi0, fi1⟩ := HKW.out w5 (fr_on' HF2.out hF5.out.2); have gi0 := ck_cell (ck_grown w5 (.cells #[.int .i64 0, .int .i64 (-1)] 28)) fi0; have gi1 := ck_cell (ck_grown w5 (.cells #[.int .i64 0, .int .i64 (-1)] 28)) fi1; clear g2 g4 fi0 fi1)
              go_roundg (NR - (q + 1))
              case measure => omega
              case rel => exact ⟨q + 1, rfl, by omega, by go_num, m3, hF5.out.1.below (ck_grown _ _), (fr_on' HF2.out hF5.out.2).alloc (Nat.le_trans HF2.out.size hF5.out.2.size) _, HS3.out, by have := HSU2.out; omega⟩
          · obtain rfl : q = NR := by omega
            rw [show c.regions.drop q = [] by rw [← hNR.out]; exact List.drop_length, regsE] at hst2
            have HEE : Hid (checkC c = none) := by rw [Hid, HE.out, hst2]
            obtain ⟨g2, g4, fi0, fi1⟩ := HKW.out wr hF2
            have f0 := cell_row g4 0 (u := .int .i64 0) rfl
            have f1 := cell_row g4 1 (u := .int .i64 0) rfl
            have z0 := ck_frozen g4 0
            have z1 := ck_frozen g4 1
            have H5 : Hid (Below w.heap.size w wr ∧ wr.heap[fb]? = some (.cells #[.int .i64 0, .int .i64 0] 28 (0, 0))) := ⟨g2, g4⟩
            clear hJ2 hF2 hst2 hsum2 g2 g4
            go_wp2_with fail
            refine bodyPost_ret (resultsK _ _ fb #[.int .i64 0, .int .i64 (-1)] rfl rfl (put2 H5.out.2 _ _)) rfl ?_
            exact ⟨by rw [HEE.out]; rfl, (H5.out.1.setCell (by have := HNE.out; simp; omega) _).setCell (by have := HNE.out; simp; omega) _⟩
end Go.Proofs.YtanlfmhlohcmgaaGreatDoor
