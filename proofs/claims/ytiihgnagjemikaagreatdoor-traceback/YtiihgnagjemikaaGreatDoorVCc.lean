/- chart: the function in it. -/
import Derived.Test.YtiihgnagjemikaaGreatDoorVPregion2
import Derived.Deep.QuietTactic
import Derived.BigQuiet
import Derived.Test.YtiihgnagjemikaaGreatDoorVPint
namespace Go.Proofs.YtiihgnagjemikaaGreatDoor
open Go.RowKit Px

theorem Tryz.infoDecl : (Tryz.prog.info? 86).map (fun i => (i.zero, i.size, i.bytes)) = some (some (.agg #[.int .i64 0, .string ⟨#[]⟩, .int .i64 0]), 3, 32) := by kernel_rfl
/-- a chart that is being read: where it lies -/
structure CU (B cb : Nat) (w : World) (nm : Str) (vs : List Decl) (rs : List (List (St 6))) (v r : Value) (xv xr : List Value) : Prop where
  at_ : w.heap[cb]? = some (.cells #[sv nm, v, r] 35 (0, 0))
  good : Good B w [sDecl vs v xv, sReg 6 rs r xr]
theorem cuCarries (vs : List Decl) (rs : List (List (St 6))) (v r : Value) (xv xr : List Value) : Carries [sDecl vs v xv, sReg 6 rs r xr] := by
  intro x hx A A' w w' kp
  simp only [List.mem_cons, List.not_mem_nil, or_false] at hx
  rcases hx with rfl | rfl
  · exact fun h => h
  · exact cReg kp _ _ _ _
theorem CU.carry {B cb : Nat} {X : List Nat} {w w' : World} {nm : Str} {vs : List Decl} {rs : List (List (St 6))} {v r : Value} {xv xr : List Value} (h : CU B cb w nm vs rs v r xv xr) (hX : ∀ x ∈ X, x < B) (hs : cb ∉ X) (hf : Fr w.heap.size X w w') : CU B cb w' nm vs rs v r xv xr :=
  ⟨by rw [hf.block cb (lt_of_block h.at_) hs]; exact h.at_, h.good.carry (cuCarries _ _ _ _ _ _) hX hf⟩
theorem CU.lts {B cb : Nat} {w : World} {nm : Str} {vs : List Decl} {rs : List (List (St 6))} {v r : Value} {xv xr : List Value} (h : CU B cb w nm vs rs v r xv xr) : ∀ x ∈ [sDecl vs v xv, sReg 6 rs r xr], ∀ g, x.v.ownBlock = some g → g < w.heap.size := fun x hx g hg => (h.good.block x hx g hg).2
theorem CU.grow_vars {B cb : Nat} {w4 w5 : World} {nm : Str} {vs : List Decl} {rs : List (List (St 6))} {v r v' : Value} {xv xr cs : List Value} {a : Decl} (h : CU B cb w4 nm vs rs v r xv xr) (hcb : cb < B)
    (ha : DeclC a cs) (hown : w5.ownsRow B 86 3 v' ((vs ++ [a]).length) (xv ++ cs)) (hg : w4.grownBy w5 v.ownBlock) (hat : v'.ownBlock = v.ownBlock ∨ v'.ownBlock = some w4.heap.size) :
    CU B cb (w5.setCell ⟨cb, 1, none⟩ v') nm (vs ++ [a]) rs v' r (xv ++ cs) xr := by
  have hgd : Good B w4 ([] ++ sDecl vs v xv :: [sReg 6 rs r xr]) := h.good
  have hc : Carries ([] ++ sDecl vs v xv :: [sReg 6 rs r xr]) := cuCarries vs rs v r xv xr
  have hold : Rows DeclC vs xv := hgd.has (sDecl vs v xv) (by simp)
  have hnew := hgd.grow (s' := sDecl (vs ++ [a]) v' (xv ++ cs)) hc hg hat hown (Rows.append hold (Rows.one ha))
  have hput := fr_put w5 cb 1 v'
  have hcb4 := lt_of_block h.at_
  refine ⟨?_, Good.carry (X := [cb]) hnew (cuCarries (vs ++ [a]) rs v' r (xv ++ cs) xr) (by simp; exact hcb) hput⟩
  have hat5 : w5.heap[cb]? = some (.cells #[sv nm, v, r] 35 (0, 0)) := by
    rw [hg.block cb hcb4 (fun e1 => by have := ((h.good.own (sDecl vs v xv) (by simp)).lt cb e1.symm).1; omega)]; exact h.at_
  rw [heap_setCell_same w5 cb 1 _ 35 _ hat5]; rfl
theorem CU.grow_regions {B cb n : Nat} {w4 w5 : World} {nm : Str} {vs : List Decl} {rs : List (List (St 6))} {v r v' u : Value} {xv xr : List Value} {a : List (St 6)} (h : CU B cb w4 nm vs rs v r xv xr) (hcb : cb < B) (hB : B ≤ n) (hn : ∀ x ∈ [sDecl vs v xv, sReg 6 rs r xr], ∀ g, x.v.ownBlock = some g → g < n)
    (ha : IsStates (Ge n) w4 6 a u) (hown : w5.ownsRow B 133 1 v' ((rs ++ [a]).length) (xr ++ [u])) (hg : w4.grownBy w5 r.ownBlock) (hat : v'.ownBlock = r.ownBlock ∨ v'.ownBlock = some w4.heap.size) :
    CU B cb (w5.setCell ⟨cb, 2, none⟩ v') nm vs (rs ++ [a]) v v' xv (xr ++ [u]) := by
  have hgd : Good B w4 ([sDecl vs v xv] ++ sReg 6 rs r xr :: []) := h.good
  have hc : Carries ([sDecl vs v xv] ++ sReg 6 rs r xr :: []) := cuCarries vs rs v r xv xr
  have kN := keepNew (s' := sReg 6 (rs ++ [a]) v' (xr ++ [u])) hgd hn hB hg hat
  have ha2 : RegC (IsStates (Nots B ([sDecl vs v xv] ++ sReg 6 (rs ++ [a]) v' (xr ++ [u]) :: [])) w5 6) a [u] := ⟨u, rfl, IsStates.carry kN 6 _ _ ha⟩
  have hold := cReg (keepGrow (B := B) (l1 := [sDecl vs v xv]) (l2 := []) (s := sReg 6 rs r xr) (s' := sReg 6 (rs ++ [a]) v' (xr ++ [u])) hg hat) _ _ _ _ (hgd.has (sReg 6 rs r xr) (by simp))
  have hnew := hgd.grow (s' := sReg 6 (rs ++ [a]) v' (xr ++ [u])) hc hg hat hown (Rows.append hold (Rows.one ha2))
  have hput := fr_put w5 cb 2 v'
  have hcb4 := lt_of_block h.at_
  refine ⟨?_, Good.carry (X := [cb]) hnew (cuCarries vs (rs ++ [a]) v v' xv (xr ++ [u])) (by simp; exact hcb) hput⟩
  have hat5 : w5.heap[cb]? = some (.cells #[sv nm, v, r] 35 (0, 0)) := by
    rw [hg.block cb hcb4 (fun e1 => by have := ((h.good.own (sReg 6 rs r xr) (by simp)).lt cb e1.symm).1; omega)]; exact h.at_
  rw [heap_setCell_same w5 cb 2 _ 35 _ hat5]; rfl
/-- one item more of a chart; none: none stands there -/
def stepI (L : List Lx.Tok) (vs : List Decl) (rs : List (List (St 6))) (c i : Nat) : Except F (Option (List Decl × List (List (St 6)) × Nat × Nat)) :=
  if kindOf (tx L i) ≠ 0 then
    if 20 ≤ vs.length then .error (4, pl L (i + 1))
    else match variable_ L (kindOf (tx L i)) (i + 1) with
      | .error x => .error x
      | .ok (v, j) => .ok (some (vs ++ [v], rs, c, j))
  else if tx L i = kRegion then
    match region L 6 c (i + 1) with
    | .error x => .error x
    | .ok (l, c', j) => .ok (some (vs, rs ++ [l], c', j))
  else .ok none
/-- what the function in chart holds -/
structure CE (C : Ctx) (B ba cb : Nat) (w : World) : Prop where
  a : w.cell? ⟨ba, 0, none⟩ = some (.pointer (some ⟨C.rb, 0, none⟩))
  la : ba < B
  lc : cb < B
  na : C.rb < ba
  nc : C.rb < cb
  nac : ba ≠ cb
  lr : C.rb < B
  hB : B ≤ w.heap.size
theorem CE.low {C : Ctx} {B ba cb : Nat} {w w' : World} (h : CE C B ba cb w) (hf : Fr B [C.rb, cb] w w') : CE C B ba cb w' := by
  have h1 := h.na
  have h2 := h.nac
  exact ⟨by rw [hf.cell (p := ⟨ba, 0, none⟩) h.la (by simp; omega)]; exact h.a, h.la, h.lc, h1, h.nc, h2, h.lr, Nat.le_trans h.hB hf.size⟩
def CUx (B cb : Nat) (w : World) (nm : Str) (vs : List Decl) (rs : List (List (St 6))) : Prop := ∃ v r xv xr, CU B cb w nm vs rs v r xv xr
def ItOk (C : Ctx) (B ba cb i c : Nat) (nm : Str) (vs : List Decl) (rs : List (List (St 6))) : Option (List Decl × List (List (St 6)) × Nat × Nat) → Value → World → Prop
  | none, v, w' => v = .bool false ∧ PS C w' i c 0 0 ∧ CE C B ba cb w' ∧ CUx B cb w' nm vs rs
  | some (vs', rs', c', j), v, w' => v = .bool true ∧ i < j ∧ vs'.length ≤ 20 ∧ rs'.length ≤ j ∧ PS C w' j c' 0 0 ∧ CE C B ba cb w' ∧ CUx B cb w' nm vs' rs'
theorem first_le {L : List Lx.Tok} {i j : Nat} {n : Int} (h : first L i = .ok (n, j)) : i ≤ j := by
  rw [first] at h
  split at h
  · split at h
    · split at h
      · exact absurd h (by simp)
      · injection h with h; injection h with _ h; omega
    · split at h
      · exact absurd h (by simp)
      · injection h with h; injection h with _ h; omega
  · injection h with h; injection h with _ h; omega
theorem variable_lt {L : List Lx.Tok} {kind i j : Nat} {v : Decl} (h : variable_ L kind i = .ok (v, j)) : i < j := by
  rw [variable_] at h
  split at h
  · exact absurd h (by simp)
  · split at h
    · exact absurd h (by simp)
    · rename_i hf
      have := first_le hf
      split at h
      · injection h with h; injection h with _ h; omega
      · exact absurd h (by simp)
theorem kindOf_is {C : Ctx} {w : World} {i st ins und : Nat} (h : PS C w i st ins und) (tb : ByteArray) (n : Nat) (ho : Hid (kindOf (bs tb) = n)) : Calls Tryz.prog 61 #[.string tb] w fun e w' => e = .returned (.int .i64 n) ∧ w' = w := by
  refine (kindOf_any tb w h.tab).mono ?_
  rintro e w' ⟨rfl, rfl⟩
  exact ⟨by rw [ho.out], rfl⟩

set_option maxRecDepth 100000 in
set_option maxHeartbeats 8000000 in
theorem chart1_none {C : Ctx} {B ba cb : Nat} {w : World} {i c : Nat} {nm : Str} {vs : List Decl} {rs : List (List (St 6))} (h : PS C w i c 0 0) (hE : CE C B ba cb w) (hU : CUx B cb w nm vs rs) (hv : vs.length ≤ 20) (hr : rs.length ≤ i) (hk : kindOf (tx C.L i) = 0) (hn : tx C.L i ≠ kRegion) : Calls Tryz.prog 60 #[.pointer (some ⟨ba, 0, none⟩), .pointer (some ⟨cb, 0, none⟩)] w (OutX B [C.rb, cb] (ItOk C B ba cb i c nm vs rs) w (stepI C.L vs rs c i)) := by
  have _ := hv
  have _ := hr
  obtain ⟨v, r, xv, xr, hU⟩ := hU
  have hl6 := h.wf.len
  have hil := h.lt
  have hx := hE.a
  have hba := Nat.lt_of_lt_of_le hE.la hE.hB
  have hEB := hE.hB
  have hErb := hE.lr
  have hEcb := hE.lc
  have hEnc := hE.nc
  have hEna := hE.na
  have hEac := hE.nac
  have hne' : cb ∉ [C.rb] := by simp; omega
  have hX : ∀ x ∈ [C.rb], x < B := by simp; omega
  have HCX : Hid (∀ (W W' : World), W.cell? ⟨ba, 0, none⟩ = some (.pointer (some ⟨C.rb, 0, none⟩)) → ba < W.heap.size → Fr W.heap.size [C.rb] W W' → W'.cell? ⟨ba, 0, none⟩ = some (.pointer (some ⟨C.rb, 0, none⟩))) := fun W W' h1 h2 hf => by rw [hf.cell (p := ⟨ba, 0, none⟩) h2 (by simp; omega)]; exact h1
  obtain ⟨tb, htb⟩ : ∃ tb : ByteArray, Hid (bs tb = tx C.L i) := ⟨⟨(tx C.L i).toArray⟩, rfl⟩
  have hk0 : Hid (kindOf (bs tb) = 0) := by rw [Hid, htb.out]; exact hk
  have HN : Hid _ := hn
  have HSP : Hid (stepI C.L vs rs c i = .ok none) := by rw [Hid, stepI, if_neg (by rw [hk]; simp), if_neg hn]
  clear hk hn
  go_enter Tryz.func60, Tryz.ntmps60
  go_wp2_with (first
    | (go_at_call 62; refine (text_is h tb htb).mono ?_; rintro e1 w1 ⟨rfl, hp1, hf1⟩; have hx1 := HCX.out _ _ hx hba hf1.wide; have hz1 := hf1.size)
    | (go_at_call 61; refine (kindOf_is hp1 tb 0 hk0).mono ?_; rintro e1 w2 ⟨rfl, hw2⟩; obtain rfl := hw2.symm)
    | (go_at_call 65; refine (take_no hp1 ⟨#[114, 101, 103, 105, 111, 110]⟩ HN.out).mono ?_; rintro e1 w3 ⟨rfl, hp3, hf3⟩))
  go_ret
  rw [HSP.out]
  have hF : Fr w.heap.size [C.rb] w w3 := (hf1.wide).up hf3.wide
  exact ⟨_, rfl, ⟨rfl, hp3, hE.low (hF.mono hE.hB (by simp)), _, _, _, _, hU.carry hX hne' hF⟩, hF.mono hE.hB (by simp)⟩

set_option maxRecDepth 100000 in
set_option maxHeartbeats 8000000 in
theorem chart1_full {C : Ctx} {B ba cb : Nat} {w : World} {i c : Nat} {nm : Str} {vs : List Decl} {rs : List (List (St 6))} (h : PS C w i c 0 0) (hE : CE C B ba cb w) (hU : CUx B cb w nm vs rs) (hv : vs.length ≤ 20) (hr : rs.length ≤ i) (hk : kindOf (tx C.L i) ≠ 0) (hf20 : 20 ≤ vs.length) : Calls Tryz.prog 60 #[.pointer (some ⟨ba, 0, none⟩), .pointer (some ⟨cb, 0, none⟩)] w (OutX B [C.rb, cb] (ItOk C B ba cb i c nm vs rs) w (stepI C.L vs rs c i)) := by
  have _ := hv
  have _ := hr
  obtain ⟨v, r, xv, xr, hU⟩ := hU
  have hl6 := h.wf.len
  have hil := h.lt
  have hx := hE.a
  have hba := Nat.lt_of_lt_of_le hE.la hE.hB
  have hEB := hE.hB
  have hErb := hE.lr
  have hEcb := hE.lc
  have hEnc := hE.nc
  have hEna := hE.na
  have hEac := hE.nac
  have hne' : cb ∉ [C.rb] := by simp; omega
  have hX : ∀ x ∈ [C.rb], x < B := by simp; omega
  have HCX : Hid (∀ (W W' : World), W.cell? ⟨ba, 0, none⟩ = some (.pointer (some ⟨C.rb, 0, none⟩)) → ba < W.heap.size → Fr W.heap.size [C.rb] W W' → W'.cell? ⟨ba, 0, none⟩ = some (.pointer (some ⟨C.rb, 0, none⟩))) := fun W W' h1 h2 hf => by rw [hf.cell (p := ⟨ba, 0, none⟩) h2 (by simp; omega)]; exact h1
  obtain ⟨tb, htb⟩ : ∃ tb : ByteArray, Hid (bs tb = tx C.L i) := ⟨⟨(tx C.L i).toArray⟩, rfl⟩
  obtain ⟨kd, hkd⟩ : ∃ x, Hid (kindOf (bs tb) = x) := ⟨_, rfl⟩
  have hk1 : kd ≠ 0 := by rw [← hkd.out, htb.out]; exact hk
  have hk2 : (((kd : Nat) : Int) != 0) = true := by simp; omega
  have hne0 : tx C.L i ≠ [] := fun e => by rw [e] at hk; exact hk (by decide)
  have hnx := h.wf.next h.lt hne0
  have HSP : Hid (stepI C.L vs rs c i = .error (4, pl C.L (i + 1))) := by rw [Hid, stepI, if_pos hk, if_pos hf20]
  have hov : w.ownsRow B 86 3 v vs.length xv := hU.good.own (sDecl vs v xv) (by simp)
  obtain ⟨ao, cap, rfl⟩ := owns_shape hov
  clear hk hne0
  go_enter Tryz.func60, Tryz.ntmps60
  go_wp2_with (first
    | (go_at_call 62; refine (text_is h tb htb).mono ?_; rintro e1 w1 ⟨rfl, hp1, hf1⟩; have hx1 := HCX.out _ _ hx hba hf1.wide; have hz1 := hf1.size)
    | (go_at_call 61; refine (kindOf_is hp1 tb kd hkd).mono ?_; rintro e1 w2 ⟨rfl, hw2⟩; obtain rfl := hw2.symm; obtain ⟨-, d1, -⟩ := hp1.cells; have z1 := hp1.frozen 1; obtain ⟨hp2, hf2⟩ := hp1.step hnx; have hF2 := (hf1.wide (X := [C.rb])).up hf2; have hU2 := hU.carry hX hne' hF2; have hx2 := HCX.out _ _ hx hba hF2; obtain ⟨y2, -⟩ := cel hU2.at_ 1 (Value.slice ao vs.length cap) rfl; have hB2 := hF2.size)
    | (go_at_call 63; refine (bound_bad hp2 vs.length 20 hf20).mono ?_; rintro e1 w3 ⟨q, rfl, hq⟩; exact ⟨rfl, by rw [HSP.out]; exact Thrown.x ⟨q, rfl, hq⟩ (hF2.mono hE.hB (by simp)) (by omega) (by simp)⟩))

set_option maxRecDepth 100000 in
set_option maxHeartbeats 8000000 in
theorem chart1_var {C : Ctx} {B ba cb : Nat} {w : World} {i c : Nat} {nm : Str} {vs : List Decl} {rs : List (List (St 6))} (h : PS C w i c 0 0) (hE : CE C B ba cb w) (hU : CUx B cb w nm vs rs) (hv : vs.length ≤ 20) (hr : rs.length ≤ i) (hk : kindOf (tx C.L i) ≠ 0) (hf20 : ¬ 20 ≤ vs.length) : Calls Tryz.prog 60 #[.pointer (some ⟨ba, 0, none⟩), .pointer (some ⟨cb, 0, none⟩)] w (OutX B [C.rb, cb] (ItOk C B ba cb i c nm vs rs) w (stepI C.L vs rs c i)) := by
  have _ := hv
  have _ := hr
  obtain ⟨v, r, xv, xr, hU⟩ := hU
  have hl6 := h.wf.len
  have hil := h.lt
  have hx := hE.a
  have hba := Nat.lt_of_lt_of_le hE.la hE.hB
  have hEB := hE.hB
  have hErb := hE.lr
  have hEcb := hE.lc
  have hEnc := hE.nc
  have hEna := hE.na
  have hEac := hE.nac
  have hne' : cb ∉ [C.rb] := by simp; omega
  have hX : ∀ x ∈ [C.rb], x < B := by simp; omega
  have HCX : Hid (∀ (W W' : World), W.cell? ⟨ba, 0, none⟩ = some (.pointer (some ⟨C.rb, 0, none⟩)) → ba < W.heap.size → Fr W.heap.size [C.rb] W W' → W'.cell? ⟨ba, 0, none⟩ = some (.pointer (some ⟨C.rb, 0, none⟩))) := fun W W' h1 h2 hf => by rw [hf.cell (p := ⟨ba, 0, none⟩) h2 (by simp; omega)]; exact h1
  obtain ⟨tb, htb⟩ : ∃ tb : ByteArray, Hid (bs tb = tx C.L i) := ⟨⟨(tx C.L i).toArray⟩, rfl⟩
  obtain ⟨i0, hi, hz0, hz1', hz2⟩ := info_parts Tryz.infoDecl
  obtain ⟨kd, hkd⟩ : ∃ x, Hid (kindOf (bs tb) = x) := ⟨_, rfl⟩
  have hk1 : kd ≠ 0 := by rw [← hkd.out, htb.out]; exact hk
  have hk2 : (((kd : Nat) : Int) != 0) = true := by simp; omega
  have hne0 : tx C.L i ≠ [] := fun e => by rw [e] at hk; exact hk (by decide)
  have hnx := h.wf.next h.lt hne0
  have HKD : Hid (kindOf (tx C.L i) = kd) := by rw [Hid, ← htb.out]; exact hkd.out
  have HSE : ∀ f, Hid (variable_ C.L kd (i + 1) = .error f) → Hid (stepI C.L vs rs c i = .error f) := fun f hr => by rw [Hid, stepI, if_pos hk, if_neg (by omega), HKD.out, hr.out]
  have HSO : ∀ x j, Hid (variable_ C.L kd (i + 1) = .ok (x, j)) → Hid (stepI C.L vs rs c i = .ok (some (vs ++ [x], rs, c, j))) := fun x j hr => by rw [Hid, stepI, if_pos hk, if_neg (by omega), HKD.out, hr.out]
  have hov : w.ownsRow B 86 3 v vs.length xv := hU.good.own (sDecl vs v xv) (by simp)
  obtain ⟨ao, cap, rfl⟩ := owns_shape hov
  clear hk hne0
  go_enter Tryz.func60, Tryz.ntmps60
  go_upto_region 6 with (first
    | (go_at_call 62; refine (text_is h tb htb).mono ?_; rintro e1 w1 ⟨rfl, hp1, hf1⟩; have hx1 := HCX.out _ _ hx hba hf1.wide; have hz1 := hf1.size)
    | (go_at_call 61; refine (kindOf_is hp1 tb kd hkd).mono ?_; rintro e1 w2 ⟨rfl, hw2⟩; obtain rfl := hw2.symm; obtain ⟨-, d1, -⟩ := hp1.cells; have z1 := hp1.frozen 1; obtain ⟨hp2, hf2⟩ := hp1.step hnx; have hF2 := (hf1.wide (X := [C.rb])).up hf2; have hU2 := hU.carry hX hne' hF2; have hx2 := HCX.out _ _ hx hba hF2; obtain ⟨y2, -⟩ := cel hU2.at_ 1 (Value.slice ao vs.length cap) rfl; have hB2 := hF2.size)
    | (go_at_call 63; refine (bound_ok (C := C) vs.length 20 (by omega)).mono ?_; rintro e1 w3 ⟨rfl, hw3⟩; obtain rfl := hw3.symm))
  clear d1 z1
  generalize (w1.setCell ⟨C.rb, 1, none⟩ (.int .i64 ((i : Int) + 1))) = w2 at hp2 hf2 hF2 hU2 hx2 y2 hB2 ⊢
  have hdr : Fr w2.heap.size [] w2 w2.drew := (Fr.refl _ _ _).drew
  have hp3' := hp2.same hdr
  have hB2' := Nat.le_trans hEB hF2.size
  go_region_law
    (first
      | (refine step_append_lies _ (by rfl) _ _ _ (by rfl) B 86 i0 _ 3 32 Tryz.underlying32 hi hz0 hz1' hz2 rfl (by omega) (Value.slice ao vs.length cap) vs.length xv (by rfl) (hA4.good.own (sDecl vs _ xv) (by simp))
            ⟨w4'.heap.size, 0, none⟩ 1 1 [.int .i64 a4.kind, sv a4.name, .int .i64 a4.first] (by rfl) (by rfl) (World.news_of_block (fr := (0, 0)) (heap_alloc_new w4' _)) (by intro x hx; simp [sv] at hx; rcases hx with rfl | rfl | rfl <;> rfl)
            (by omega) (by unfold maxLen; omega) (by omega) (by simp; omega) (w4'.heap.size + 1) (by simp) ?_
         intro gg cap' w5' hown5 hgrow hat hlt5
         have hgo : ∀ g, (Value.slice ao vs.length cap).ownBlock = some g → B ≤ g := fun g hg => ((hA4.good.own (sDecl vs _ xv) (by simp)).lt g hg).1
         have hU5 := CU.grow_vars (a := a4) hA4 hEcb rfl (by rw [List.length_append]; exact hown5) hgrow (by rcases hat with e1 | e1; exact .inl e1.symm; exact .inr (by rw [e1]; simp [Value.ownBlock]))
         have hF5 : Fr B [C.rb, cb] w w5' := (((hF4.mono hEB (by simp)).alloc hB4 _).grown hgrow (by simp; omega) (fun g hg => .inl (hgo g hg)))
         have hp5' : PS C w5' j4 c 0 0 := hp4'.low hErb (((Fr.refl B [] w4').alloc hB4 _).grown hgrow (by simp; omega) (fun g hg => .inl (hgo g hg)))
         have hb5 : w5'.heap[cb]? = some (.cells #[sv nm, Value.slice ao vs.length cap, r] 35 (0, 0)) := by
           rw [hgrow.block cb (by simp; omega) (fun e1 => by have := hgo _ e1.symm; omega)]; exact hA4.at_
         obtain ⟨y5, zy5⟩ := cel hb5 1 (Value.slice ao vs.length cap) rfl)
      | (go_simp
         go_at_call 64
         refine (variable_any hp3' kd).mono ?_
         rintro e1 w4' h4
         rcases h4.cases with ⟨f, hr4, q, rfl, hq⟩ | ⟨⟨a4, j4⟩, v4, hr4, rfl, ⟨hv4, hp4'⟩, hf4'⟩
         · exact ⟨rfl, by rw [(HSE _ hr4).out]; exact Thrown.x ⟨q, rfl, hq⟩ ((hF2.mono hEB (by simp)).drew) hB2' (by simp)⟩
         subst hv4
         have hU4 := hU2.carry hX hne' (hdr.wide.up hf4')
         have hF4 := hF2.up (hdr.wide.up hf4')
         have hx4 := HCX.out _ _ hx hba hF4
         obtain ⟨y4, zy4⟩ := cel hU4.at_ 1 (Value.slice ao vs.length cap) rfl
         have hl4 := lt_of_block hU4.at_
         have hB4 := Nat.le_trans hEB hF4.size
         have hj4 := variable_lt hr4.out
         have hal : Fr w4'.heap.size [] w4' (w4'.alloc (.cells #[.int .i64 a4.kind, .string ⟨a4.name.toArray⟩, .int .i64 a4.first] 86)) := (Fr.refl _ _ _).alloc (Nat.le_refl _) _
         have hA4 := hU4.carry (X := []) (by simp) (by simp) hal
         simp only [sv] at hA4 ⊢))
  all_goals
    go_wp2_with fail
    go_ret
    rw [(HSO _ _ hr4).out]
    have hF6 := hF5.setCell (p := ⟨cb, 1, none⟩) (.inr (by simp)) (.slice (some ⟨gg, 0, none⟩) (vs.length + 1) cap')
    exact ⟨_, rfl, ⟨rfl, by omega, by simp; omega, by omega, hp5'.put hEnc _ _, hE.low hF6, _, _, _, _, hU5⟩, hF6⟩

set_option maxRecDepth 100000 in
set_option maxHeartbeats 8000000 in
theorem chart1_reg {C : Ctx} {B ba cb : Nat} {w : World} {i c : Nat} {nm : Str} {vs : List Decl} {rs : List (List (St 6))} (h : PS C w i c 0 0) (hE : CE C B ba cb w) (hU : CUx B cb w nm vs rs) (hv : vs.length ≤ 20) (hr : rs.length ≤ i) (hk : kindOf (tx C.L i) = 0) (hn : tx C.L i = kRegion) : Calls Tryz.prog 60 #[.pointer (some ⟨ba, 0, none⟩), .pointer (some ⟨cb, 0, none⟩)] w (OutX B [C.rb, cb] (ItOk C B ba cb i c nm vs rs) w (stepI C.L vs rs c i)) := by
  have _ := hv
  have _ := hr
  obtain ⟨v, r, xv, xr, hU⟩ := hU
  have hl6 := h.wf.len
  have hil := h.lt
  have hx := hE.a
  have hba := Nat.lt_of_lt_of_le hE.la hE.hB
  have hEB := hE.hB
  have hErb := hE.lr
  have hEcb := hE.lc
  have hEnc := hE.nc
  have hEna := hE.na
  have hEac := hE.nac
  have hne' : cb ∉ [C.rb] := by simp; omega
  have hX : ∀ x ∈ [C.rb], x < B := by simp; omega
  have HCX : Hid (∀ (W W' : World), W.cell? ⟨ba, 0, none⟩ = some (.pointer (some ⟨C.rb, 0, none⟩)) → ba < W.heap.size → Fr W.heap.size [C.rb] W W' → W'.cell? ⟨ba, 0, none⟩ = some (.pointer (some ⟨C.rb, 0, none⟩))) := fun W W' h1 h2 hf => by rw [hf.cell (p := ⟨ba, 0, none⟩) h2 (by simp; omega)]; exact h1
  obtain ⟨tb, htb⟩ : ∃ tb : ByteArray, Hid (bs tb = tx C.L i) := ⟨⟨(tx C.L i).toArray⟩, rfl⟩
  obtain ⟨i0, hi, hz0, hz1', hz2⟩ := info_parts Tryz.info133
  have hk0 : Hid (kindOf (bs tb) = 0) := by rw [Hid, htb.out]; exact hk
  have HY : Hid _ := hn
  have HSE : ∀ f, Hid (region C.L 6 c (i + 1) = .error f) → Hid (stepI C.L vs rs c i = .error f) := fun f hr => by rw [Hid, stepI, if_neg (by rw [hk]; simp), if_pos hn, hr.out]
  have HSO : ∀ x c' j, Hid (region C.L 6 c (i + 1) = .ok (x, c', j)) → Hid (stepI C.L vs rs c i = .ok (some (vs, rs ++ [x], c', j))) := fun x c' j hr => by rw [Hid, stepI, if_neg (by rw [hk]; simp), if_pos hn, hr.out]
  have hor : w.ownsRow B 133 1 r rs.length xr := hU.good.own (sReg 6 rs r xr) (by simp)
  obtain ⟨ao, cap, rfl⟩ := owns_shape hor
  clear hk hn
  go_enter Tryz.func60, Tryz.ntmps60
  go_upto_region 8 with (first
    | (go_at_call 62; refine (text_is h tb htb).mono ?_; rintro e1 w1 ⟨rfl, hp1, hf1⟩; have hx1 := HCX.out _ _ hx hba hf1.wide; have hz1 := hf1.size)
    | (go_at_call 61; refine (kindOf_is hp1 tb 0 hk0).mono ?_; rintro e1 w2 ⟨rfl, hw2⟩; obtain rfl := hw2.symm)
    | (go_at_call 65; refine (take_yes hp1 ⟨#[114, 101, 103, 105, 111, 110]⟩ HY.out (by decide)).mono ?_; rintro e1 w2 ⟨rfl, hp2, hf2⟩; have hF2 := (hf1.wide (X := [C.rb])).up hf2; have hU2 := hU.carry hX hne' hF2; have hx2 := HCX.out _ _ hx hba hF2; obtain ⟨y2, -⟩ := cel hU2.at_ 2 (Value.slice ao rs.length cap) rfl; have hB2 := hF2.size))
  have hdr : Fr w2.heap.size [] w2 w2.drew := (Fr.refl _ _ _).drew
  have hp3' := hp2.same hdr
  have hB2' := Nat.le_trans hEB hF2.size
  go_region_law
    (first
      | (refine step_append_lies _ (by rfl) _ _ _ (by rfl) B 133 i0 _ 1 24 Tryz.underlying33 hi hz0 hz1' hz2 rfl (by omega) (Value.slice ao rs.length cap) rs.length xr (by rfl) (hA4.good.own (sReg 6 rs _ xr) (by simp))
            ⟨w4'.heap.size, 0, none⟩ 1 1 [.slice ao4 n4 cap4] (by rfl) (by rfl) (cell_one_new w4' _ 133) (by intro u hu; simp at hu; subst hu; rfl)
            (by omega) (by unfold maxLen; omega) (by omega) (by simp; omega) (w4'.heap.size + 1) (by simp) ?_
         intro gg cap' w5' hown5 hgrow hat hlt5
         have hgo : ∀ g, (Value.slice ao rs.length cap).ownBlock = some g → B ≤ g := fun g hg => ((hA4.good.own (sReg 6 rs _ xr) (by simp)).lt g hg).1
         have hU5 := CU.grow_regions (a := a4) (u := .slice ao4 n4 cap4) hA4 hEcb hB2' hU2.lts (IsStates.carry (keepX (X := []) (by simp) hal) 6 _ _ hv4) (by rw [List.length_append]; exact hown5) hgrow (by rcases hat with e1 | e1; exact .inl e1.symm; exact .inr (by rw [e1]; simp [Value.ownBlock]))
         have hF5 : Fr B [C.rb, cb] w w5' := (((hF4.mono hEB (by simp)).alloc hB4 _).grown hgrow (by simp; omega) (fun g hg => .inl (hgo g hg)))
         have hp5' : PS C w5' j4 c4 0 0 := hp4'.low hErb (((Fr.refl B [] w4').alloc hB4 _).grown hgrow (by simp; omega) (fun g hg => .inl (hgo g hg)))
         have hb5 : w5'.heap[cb]? = some (.cells #[sv nm, v, Value.slice ao rs.length cap] 35 (0, 0)) := by
           rw [hgrow.block cb (by simp; omega) (fun e1 => by have := hgo _ e1.symm; omega)]; exact hA4.at_
         obtain ⟨y5, zy5⟩ := cel hb5 2 (Value.slice ao rs.length cap) rfl)
      | (go_simp
         go_at_call 66
         refine (region_any 6 _ (i + 1) c 0 rfl hp3').mono ?_
         rintro e1 w4' h4
         rcases h4.cases with ⟨f, hr4, q, rfl, hq⟩ | ⟨⟨a4, c4, j4⟩, v4, hr4, rfl, ⟨hv4, hp4'⟩, hf4'⟩
         · exact ⟨rfl, by rw [(HSE _ hr4).out]; exact Thrown.x ⟨q, rfl, hq⟩ ((hF2.mono hEB (by simp)).drew) hB2' (by simp)⟩
         obtain ⟨ao4, n4, cap4, rfl⟩ := IsStates.shape hv4
         have hU4 := hU2.carry hX hne' (hdr.wide.up hf4')
         have hF4 := hF2.up (hdr.wide.up hf4')
         have hx4 := HCX.out _ _ hx hba hF4
         obtain ⟨y4, zy4⟩ := cel hU4.at_ 2 (Value.slice ao rs.length cap) rfl
         have hl4 := lt_of_block hU4.at_
         have hB4 := Nat.le_trans hEB hF4.size
         have hj4 := region_lt _ _ _ _ _ _ hr4.out
         have hal : Fr w4'.heap.size [] w4' (w4'.alloc (.cells #[.slice ao4 n4 cap4] 133)) := (Fr.refl _ _ _).alloc (Nat.le_refl _) _
         have hA4 := hU4.carry (X := []) (by simp) (by simp) hal))
  all_goals
    go_wp2_with fail
    go_ret
    rw [(HSO _ _ _ hr4).out]
    have hF6 := hF5.setCell (p := ⟨cb, 2, none⟩) (.inr (by simp)) (.slice (some ⟨gg, 0, none⟩) (rs.length + 1) cap')
    exact ⟨_, rfl, ⟨rfl, by omega, by omega, by simp; omega, hp5'.put hEnc _ _, hE.low hF6, _, _, _, _, hU5⟩, hF6⟩

theorem chart1_any {C : Ctx} {B ba cb : Nat} {w : World} {i c : Nat} {nm : Str} {vs : List Decl} {rs : List (List (St 6))} (h : PS C w i c 0 0) (hE : CE C B ba cb w) (hU : CUx B cb w nm vs rs) (hv : vs.length ≤ 20) (hr : rs.length ≤ i) : Calls Tryz.prog 60 #[.pointer (some ⟨ba, 0, none⟩), .pointer (some ⟨cb, 0, none⟩)] w (OutX B [C.rb, cb] (ItOk C B ba cb i c nm vs rs) w (stepI C.L vs rs c i)) := by
  by_cases hk : kindOf (tx C.L i) ≠ 0
  · by_cases hf : 20 ≤ vs.length
    · exact chart1_full h hE hU hv hr hk hf
    · exact chart1_var h hE hU hv hr hk hf
  · have hk' : kindOf (tx C.L i) = 0 := by simpa using hk
    by_cases hn : tx C.L i = kRegion
    · exact chart1_reg h hE hU hv hr hk' hn
    · exact chart1_none h hE hU hv hr hk' hn
end Go.Proofs.YtiihgnagjemikaaGreatDoor
/- chart: braced around the function in it, and chart whole. -/
namespace Go.Proofs.YtiihgnagjemikaaGreatDoor
open Go.RowKit Px

theorem item_err {L : List Lx.Tok} {g c i : Nat} {vs : List Decl} {rs : List (List (St 6))} {f : F} (h : stepI L vs rs c i = .error f) : items L (g + 1) vs rs c i = .error f := by
  rw [stepI] at h
  rw [items]
  by_cases hk : kindOf (tx L i) ≠ 0
  · rw [if_pos hk] at h ⊢
    by_cases h2 : 20 ≤ vs.length
    · rw [if_pos h2] at h ⊢; injection h with h; subst h; rfl
    · rw [if_neg h2] at h ⊢
      split at h
      · rename_i hs; injection h with h; subst h; rw [hs]
      · exact absurd h (by simp)
  · rw [if_neg hk] at h ⊢
    by_cases hr : tx L i = kRegion
    · rw [if_pos hr] at h ⊢
      split at h
      · rename_i hs; injection h with h; subst h; rw [hs]
      · exact absurd h (by simp)
    · rw [if_neg hr] at h; exact absurd h (by simp)
theorem item_some {L : List Lx.Tok} {g c i c' j : Nat} {vs vs' : List Decl} {rs rs' : List (List (St 6))} (h : stepI L vs rs c i = .ok (some (vs', rs', c', j))) : items L (g + 1) vs rs c i = items L g vs' rs' c' j := by
  rw [stepI] at h
  rw [items]
  by_cases hk : kindOf (tx L i) ≠ 0
  · rw [if_pos hk] at h ⊢
    by_cases h2 : 20 ≤ vs.length
    · rw [if_pos h2] at h; exact absurd h (by simp)
    · rw [if_neg h2] at h ⊢
      split at h
      · exact absurd h (by simp)
      · rename_i hs
        rw [hs]
        injection h with h; injection h with h; injection h with e1 h; injection h with e2 h; injection h with e3 e4; subst e1; subst e2; subst e3; subst e4
        rfl
  · rw [if_neg hk] at h ⊢
    by_cases hr : tx L i = kRegion
    · rw [if_pos hr] at h ⊢
      split at h
      · exact absurd h (by simp)
      · rename_i hs
        rw [hs]
        injection h with h; injection h with h; injection h with e1 h; injection h with e2 h; injection h with e3 e4; subst e1; subst e2; subst e3; subst e4
        rfl
    · rw [if_neg hr] at h; exact absurd h (by simp)
theorem item_none {L : List Lx.Tok} {g c i : Nat} {vs : List Decl} {rs : List (List (St 6))} (h : stepI L vs rs c i = .ok none) : items L (g + 1) vs rs c i = if tx L i = kShut then .ok (vs, rs, i + 1) else .error (3, pl L i) := by
  rw [stepI] at h
  rw [items]
  by_cases hk : kindOf (tx L i) ≠ 0
  · rw [if_pos hk] at h
    by_cases h2 : 20 ≤ vs.length
    · rw [if_pos h2] at h; exact absurd h (by simp)
    · rw [if_neg h2] at h
      split at h
      · exact absurd h (by simp)
      · exact absurd h (by simp)
  · rw [if_neg hk] at h ⊢
    by_cases hr : tx L i = kRegion
    · rw [if_pos hr] at h
      split at h
      · exact absurd h (by simp)
      · exact absurd h (by simp)
    · rw [if_neg hr]
def ChOk (C : Ctx) (B ba cb : Nat) (nm : Str) (x : List Decl × List (List (St 6)) × Nat) (v : Value) (w' : World) : Prop := v = .tuple #[] ∧ (∃ c', PS C w' x.2.2 c' 0 0) ∧ CE C B ba cb w' ∧ CUx B cb w' nm x.1 x.2.1
theorem brace_chart {C : Ctx} {B ba cb i c : Nat} {w : World} {nm : Str} (h : PS C w i c 0 0) (hE : CE C B ba cb w) (hU : CUx B cb w nm [] []) :
    Calls Tryz.prog 59 #[.pointer (some ⟨C.rb, 0, none⟩), .func (.func 60) #[] #[.pointer (some ⟨ba, 0, none⟩), .pointer (some ⟨cb, 0, none⟩)]] w
      (OutX B [C.rb, cb] (ChOk C B ba cb nm) w (if tx C.L i = kOpen then items C.L C.L.length [] [] c (i + 1) else .error (3, pl C.L i))) := by
  obtain ⟨RES, hRES⟩ : ∃ RES, RES = (if tx C.L i = kOpen then items C.L C.L.length [] [] c (i + 1) else .error (3, pl C.L i)) := ⟨_, rfl⟩
  rw [← hRES]
  have hX : ∀ x ∈ [C.rb], x < B := by have := hE.lr; simp; omega
  have hne' : cb ∉ [C.rb] := by have := hE.nc; simp; omega
  have carU : ∀ {w1 w2 : World} {vs : List Decl} {rs : List (List (St 6))}, CUx B cb w1 nm vs rs → Fr w1.heap.size [C.rb] w1 w2 → CUx B cb w2 nm vs rs := by
    rintro w1 w2 vs rs ⟨v, r, xv, xr, hu⟩ hf
    exact ⟨v, r, xv, xr, hu.carry hX hne' hf⟩
  have lowE : ∀ {w1 w2 : World}, CE C B ba cb w1 → Fr w1.heap.size [C.rb] w1 w2 → CE C B ba cb w2 := fun h1 hf => h1.low (hf.mono h1.hB (by simp))
  refine braced_chart h _ (fun g w1 => ∃ (vs : List Decl) (rs : List (List (St 6))) (c1 j : Nat), RES = items C.L g vs rs c1 j ∧ C.L.length ≤ g + j ∧ vs.length ≤ 20 ∧ rs.length ≤ j ∧ PS C w1 j c1 0 0 ∧ CE C B ba cb w1 ∧ CUx B cb w1 nm vs rs ∧ Fr B [C.rb, cb] w w1)
    (fun w2 => ∃ (vs : List Decl) (rs : List (List (St 6))) (c1 j : Nat), RES = (if tx C.L j = kShut then .ok (vs, rs, j + 1) else .error (3, pl C.L j)) ∧ PS C w2 j c1 0 0 ∧ CE C B ba cb w2 ∧ CUx B cb w2 nm vs rs ∧ Fr B [C.rb, cb] w w2) C.L.length ?_ ?_ ?_ ?_
  · intro hn e w' ht
    rw [hRES, if_neg hn]
    exact ht.x (Fr.refl _ _ _) hE.hB (by simp)
  · intro ho w1 hp1 hf1
    exact ⟨[], [], c, i + 1, by rw [hRES, if_pos ho], by omega, by simp, by simp, hp1, lowE hE hf1, carU hU hf1, hf1.x hE.hB⟩
  · rintro g w1 ⟨vs, rs, c1, j, hr1, hg, hv1, hrj, hp1, hE1, hU1, hf1⟩
    obtain ⟨g', rfl⟩ : ∃ g', g = g' + 1 := ⟨g - 1, by have := hp1.lt; omega⟩
    refine (chart1_any hp1 hE1 hU1 hv1 hrj).mono ?_
    rintro e w2 h2
    rcases h2.cases with ⟨f, hr2, ht⟩ | ⟨o, v, hr2, rfl, hv, hf2⟩
    · refine .inr (.inr ?_)
      obtain ⟨q, rfl, hq⟩ := ht
      refine ⟨_, rfl, ?_⟩
      rw [hr1, item_err hr2.out]
      exact ThrownX.up ⟨q, rfl, hq⟩ hf1
    · cases o with
      | none =>
        obtain ⟨rfl, hp2, hE2, hU2⟩ := hv
        exact .inr (.inl ⟨rfl, vs, rs, c1, j, by rw [hr1, item_none hr2.out], hp2, hE2, hU2, hf1.trans hf2⟩)
      | some x =>
        obtain ⟨vs2, rs2, c2, j2⟩ := x
        obtain ⟨rfl, hlt, hl2, hl3, hp2, hE2, hU2⟩ := hv
        exact .inl ⟨rfl, g', by omega, vs2, rs2, c2, j2, by rw [hr1, item_some hr2.out], by omega, hl2, hl3, hp2, hE2, hU2, hf1.trans hf2⟩
  · rintro w2 ⟨vs, rs, c1, j, hr1, hp1, hE1, hU1, hf1⟩
    refine ⟨j, c1, hp1, fun hn e w3 ht => ?_, fun ho w3 hp3 hf3 => ?_⟩
    · rw [hr1, if_neg hn]
      exact ht.x hf1 (Nat.le_trans hE.hB hf1.size) (by simp)
    · rw [hr1, if_pos ho]
      exact ⟨_, rfl, ⟨rfl, ⟨c1, hp3⟩, lowE hE1 hf3, carU hU1 hf3⟩, hf1.trans (hf3.x (Nat.le_trans hE.hB hf1.size))⟩

theorem Tryz.sizeChart : (Tryz.prog.info? 35).map (·.size) = some 3 := by kernel_rfl
theorem load25 {W : World} {g : Nat} {fc : Array Value} (hsz : fc.size = 3) (hg : W.heap[g]? = some (.cells fc 35 (0, 0))) : (loadVar 35 ⟨g, 0, none⟩).run Tryz.prog W = .ok (.agg fc) W :=
  run_loadVar_row (P := Tryz.prog) W g 35 35 fc (0, 0) _ hg Tryz.underlying35 rfl (by rw [hsz]; exact Tryz.sizeChart)
theorem resultsC (tmps : Array Value) (W : World) (g : Nat) (fc : Array Value) (hsz : fc.size = 3) (hp : tmps.getD 2 undef = .pointer (some ⟨g, 0, none⟩)) (hg : W.heap[g]? = some (.cells fc 35 (0, 0))) :
    (results Tryz.f32 tmps).run Tryz.prog W = .ok (.agg fc) W := by
  have hp' : tmps[2]?.getD undef = .pointer (some ⟨g, 0, none⟩) := by simpa using hp
  simp [results, Tryz.results32, hp', asAddr, load25 hsz hg]
/-- a chart in memory -/
def IsChart (A : Nat → Prop) (w : World) (c : Chart) (v : Value) : Prop := ∃ a n m a' n' m', v = .agg #[sv c.name, .slice a n m, .slice a' n' m'] ∧ IsVars A w c.vars (.slice a n m) ∧ IsRegs A w (IsStates A w 6) c.regions (.slice a' n' m')
theorem CU.done {B cb : Nat} {w : World} {nm : Str} {vs : List Decl} {rs : List (List (St 6))} {v r : Value} {xv xr : List Value} (h : CU B cb w nm vs rs v r xv xr) : IsVars (Ge B) w vs v ∧ IsRegs (Ge B) w (IsStates (Ge B) w 6) rs r := by
  have kp : Keep (Nots B [sDecl vs v xv, sReg 6 rs r xr]) (Ge B) w w := fun b hb _ => ⟨hb.1, rfl⟩
  have o := h.good.own
  have hs := h.good.has
  have ow : ∀ x ∈ [sDecl vs v xv, sReg 6 rs r xr], Row (Ge B) w x.t x.sz x.v x.n x.xs := fun x hx => ⟨own_base0 (o x hx), fun g hg => ((o x hx).lt g hg).1⟩
  exact ⟨⟨xv, ow (sDecl vs v xv) (by simp), hs (sDecl vs v xv) (by simp)⟩, ⟨xr, ow (sReg 6 rs r xr) (by simp), cReg kp _ _ _ _ (hs (sReg 6 rs r xr) (by simp))⟩⟩

theorem chart_brace_err {L : List Lx.Tok} {s : Str} {f : F} (h1 : tx L 0 = kChart) (h2 : nm L 1 = .ok s) (h : (if tx L 2 = kOpen then items L L.length [] [] 0 3 else .error (3, pl L 2)) = .error f) : chart L = .error f := by
  rw [chart, if_pos h1, h2]
  simp only
  by_cases ho : tx L 2 = kOpen
  · rw [if_pos ho] at h ⊢; rw [h]
  · rw [if_neg ho] at h ⊢; injection h with h; subst h; rfl
theorem chart_brace_ok {L : List Lx.Tok} {s : Str} {vs : List Decl} {rs : List (List (St 6))} {i : Nat} (h1 : tx L 0 = kChart) (h2 : nm L 1 = .ok s) (h : (if tx L 2 = kOpen then items L L.length [] [] 0 3 else .error (3, pl L 2)) = .ok (vs, rs, i)) : chart L = if kd L i = 4 then .ok ⟨s, vs, rs⟩ else .error (3, pl L i) := by
  rw [chart, if_pos h1, h2]
  simp only
  by_cases ho : tx L 2 = kOpen
  · rw [if_pos ho] at h ⊢; rw [h]
  · rw [if_neg ho] at h; exact absurd h (by simp)
abbrev ZC : Array Value := #[.string ⟨#[]⟩, .slice none 0 0, .slice none 0 0]
set_option maxRecDepth 100000 in
set_option maxHeartbeats 8000000 in
theorem chart_any {C : Ctx} {w : World} (h : PS C w 0 0 0 0) : Calls Tryz.prog 32 #[.pointer (some ⟨C.rb, 0, none⟩)] w (Out C (fun c v w' => IsChart (Ge w.heap.size) w' c v) w (chart C.L)) := by
  have hC := h.lts.1
  have hmf : ∀ (fn : Fn) (first cap : Array Value) (w : World), (Instr.makeFunc fn first cap).run Tryz.prog w = .ok (.func fn first cap) w := fun _ _ _ _ => rfl
  obtain ⟨hpa, hfa⟩ := h.alloc (.cells #[.pointer (some ⟨C.rb, 0, none⟩)] 127)
  obtain ⟨hp0, hfb⟩ := hpa.alloc (.cells ZC 35)
  have hF0 := hfa.up hfb
  have hz0 : ((w.alloc (.cells #[.pointer (some ⟨C.rb, 0, none⟩)] 127)).alloc (.cells ZC 35)).heap.size = w.heap.size + 2 := by simp
  have x0 : ((w.alloc (.cells #[.pointer (some ⟨C.rb, 0, none⟩)] 127)).alloc (.cells ZC 35)).cell? ⟨w.heap.size, 0, none⟩ = some (.pointer (some ⟨C.rb, 0, none⟩)) := by simp
  have r0 : ((w.alloc (.cells #[.pointer (some ⟨C.rb, 0, none⟩)] 127)).alloc (.cells ZC 35)).heap[w.heap.size + 1]? = some (.cells ZC 35 (0, 0)) := by
    have := heap_alloc_new (w.alloc (.cells #[.pointer (some ⟨C.rb, 0, none⟩)] 127)) (.cells ZC 35)
    simpa using this
  go_enter Tryz.func32, Tryz.ntmps32
  go_upto_region 1 with fail
  generalize ((w.alloc (.cells #[.pointer (some ⟨C.rb, 0, none⟩)] 127)).alloc (.cells ZC 35)) = W0 at hp0 hfb hF0 hz0 x0 r0 ⊢
  have HCX : Hid (∀ (W W' : World), W.cell? ⟨w.heap.size, 0, none⟩ = some (.pointer (some ⟨C.rb, 0, none⟩)) → w.heap.size < W.heap.size → Fr W.heap.size [C.rb] W W' → W'.cell? ⟨w.heap.size, 0, none⟩ = some (.pointer (some ⟨C.rb, 0, none⟩))) := fun W W' h1 h2 hf => by rw [hf.cell (p := ⟨w.heap.size, 0, none⟩) h2 (by simp; omega)]; exact h1
  go_wp2_with (first
    | (go_at_call 57; refine (need_any hp0 ⟨#[99, 104, 97, 114, 116]⟩ kChart rfl (by decide)).mono ?_; rintro e w1 h1; rcases h1.cases with ⟨f, hr1, q, rfl, hq⟩ | ⟨_, v1, hr1, rfl, ⟨rfl, hp1⟩, hf1⟩; (· exact ⟨rfl, by rw [chart, if_neg (need_bad hr1).1, ← (need_bad hr1).2]; exact Thrown.up hF0 ⟨q, rfl, hq⟩⟩); have x1 := HCX.out _ _ x0 (by omega) hf1; have hz1 := hf1.size; have r1 := hf1.stays r0 (by omega))
    | (go_at_call 58; refine (name_any hp1).mono ?_; rintro e w2 h2; rcases h2.cases with ⟨f, hr2, q, rfl, hq⟩ | ⟨s2, v2, hr2, rfl, ⟨rfl, hp2⟩, hf2⟩; (· exact ⟨rfl, by rw [chart, if_pos (need_ok hr1), hr2.out]; exact Thrown.up (hF0.up hf1) ⟨q, rfl, hq⟩⟩); rw [sv]; have x2 := HCX.out _ _ x1 (by omega) hf2; have hz2 := hf2.size; have r2 := hf2.stays r1 (by omega); obtain ⟨hp3, hf3⟩ := hp2.alloc (.cells #[.string ⟨s2.toArray⟩, .slice none 0 0, .slice none 0 0] 35); have x3 := HCX.out _ _ x2 (by omega) hf3; have r3 := hf3.stays r2 (by omega); have b3 := heap_alloc_new w2 (.cells #[.string ⟨s2.toArray⟩, .slice none 0 0, .slice none 0 0] 35); have hF3 := ((hF0.up hf1).up hf2).up hf3; have hE3 : CE C (w2.heap.size + 1) w.heap.size w2.heap.size (w2.alloc (.cells #[.string ⟨s2.toArray⟩, .slice none 0 0, .slice none 0 0] 35)) := ⟨x3, by omega, by omega, hC, by omega, by omega, by omega, lt_of_block b3⟩; have hU3 : CUx (w2.heap.size + 1) w2.heap.size (w2.alloc (.cells #[.string ⟨s2.toArray⟩, .slice none 0 0, .slice none 0 0] 35)) s2 [] [] := ⟨_, _, [], [], b3, ⟨by intro x hx; simp only [List.mem_cons, List.not_mem_nil, or_false] at hx; rcases hx with rfl | rfl <;> exact World.ownsRow_nil _ _ _ _, by simp [sDecl, sReg, Value.ownBlock], by intro x hx; simp only [List.mem_cons, List.not_mem_nil, or_false] at hx; rcases hx with rfl | rfl <;> rfl⟩⟩; have hbr := brace_chart hp3 hE3 hU3; have hz3 := hF3.size; have HTH : Hid (∀ f e w5, ThrownX (w2.heap.size + 1) [C.rb, w2.heap.size] (w2.alloc (.cells #[.string ⟨s2.toArray⟩, .slice none 0 0, .slice none 0 0] 35)) f e w5 → Thrown C w f e w5) := (fun f e w5 ⟨q, h1, h2, h3, h4⟩ => ⟨q, h1, h2, Nat.le_trans hz3 h3, hF3.trans (h4.mono (by omega) (by intro x hx hlt; simp at hx ⊢; omega))⟩))
    | (go_at_call 59; refine hbr.mono ?_; rintro e w5 h5; rcases h5.cases with ⟨f, hr5, q, rfl, hq⟩ | ⟨⟨vs5, rs5, j5⟩, v5, hr5, rfl, ⟨rfl, ⟨c5, hp5⟩, hE5, v5', r5, xv5, xr5, hU5⟩, hf5⟩; (· exact ⟨rfl, by rw [chart_brace_err (need_ok hr1) hr2.out hr5.out]; exact HTH.out _ _ _ ⟨q, rfl, hq⟩⟩); have x5 := hE5.a))
  have HSP : Hid _ := chart_brace_ok (need_ok hr1) hr2.out hr5.out
  have hF5 : Fr w.heap.size [C.rb] w w5 := hF3.trans (hf5.mono (by omega) (by intro x hx hlt; simp at hx ⊢; omega))
  have r5' : w5.heap[w.heap.size + 1]? = some (.cells ZC 35 (0, 0)) := by rw [hf5.block (w.heap.size + 1) (by omega) (by simp; omega)]; exact r3
  obtain ⟨q0, q1, -⟩ := hp5.cells
  obtain ⟨t0, -, -⟩ := hp5.now
  have hi0 : (0 : Int) ≤ (j5 : Int) := Int.natCast_nonneg _
  have hi1 : (j5 : Int) < (C.L.length : Int) := by have := hp5.lt; omega
  have hdr : ∀ n, Fr w5.heap.size [] w5 (w5.drewN n) := fun n => (Fr.refl _ _ _).drewN n
  by_cases hk : kd C.L j5 = 4
  · have hk4 : (((kd C.L j5 : Nat) : Int) != 4) = false := by simp; omega
    have HE : Hid (chart C.L = .ok ⟨s2, vs5, rs5⟩) := by rw [Hid, HSP.out, if_pos hk]
    clear hk
    have o1 : w5.ownsRow (w2.heap.size + 1) 86 3 v5' vs5.length xv5 := hU5.good.own (sDecl vs5 v5' xv5) (by simp)
    have o2 : w5.ownsRow (w2.heap.size + 1) 133 1 r5 rs5.length xr5 := hU5.good.own (sReg 6 rs5 r5 xr5) (by simp)
    obtain ⟨a1, m1, rfl⟩ := owns_shape o1
    obtain ⟨a2, m2, rfl⟩ := owns_shape o2
    go_quiet (fail)
    have hUq := hU5.carry (X := []) (by simp) (by simp) (hdr nq)
    have hFq : Fr w.heap.size [C.rb] w (w5.drewN nq) := hF5.up (hdr nq).wide
    have rq : (w5.drewN nq).heap[w.heap.size + 1]? = some (.cells ZC 35 (0, 0)) := by rw [(hdr nq).block _ (lt_of_block r5') (by simp)]; exact r5'
    have hz5 := hf5.size
    generalize w5.drewN nq = w6 at hUq hFq rq ⊢
    go_wp2_with (first
      | (refine wpList_load_eq rfl 35 (.tmp 3) rfl ⟨w2.heap.size, 0, none⟩ rfl (.agg #[sv s2, .slice a1 vs5.length m1, .slice a2 rs5.length m2]) (load25 rfl hUq.at_) ?_)
      | (refine wpList_store_row rfl 35 (.tmp 2) (.tmp 26) rfl (w.heap.size + 1) #[sv s2, .slice a1 vs5.length m1, .slice a2 rs5.length m2] rfl rfl 35 _ rq Tryz.sizeChart rfl (by simp [Value.oneCell', sv]) ?_))
    refine bodyPost_ret (resultsC _ _ (w.heap.size + 1) #[sv s2, .slice a1 vs5.length m1, .slice a2 rs5.length m2] rfl rfl (setRow_heap _ _ _ _ _ _ rq)) rfl ?_
    rw [HE.out]
    obtain ⟨d1, d2⟩ := hUq.done
    have hfr := fr_row w6 (w.heap.size + 1) #[sv s2, .slice a1 vs5.length m1, .slice a2 rs5.length m2]
    have kp : Keep (Ge (w2.heap.size + 1)) (Ge w.heap.size) w6 (w6.setRow (w.heap.size + 1) #[sv s2, .slice a1 vs5.length m1, .slice a2 rs5.length m2]) := fun b hb hlt => ⟨by simp [Ge] at *; omega, hfr.block b hlt (by simp [Ge] at *; omega)⟩
    exact ⟨_, rfl, ⟨a1, _, m1, a2, _, m2, rfl, d1.carry kp, d2.carry kp (IsStates.carry kp 6)⟩, hFq.row (.inl (by omega)) _⟩
  · have hk4 : (((kd C.L j5 : Nat) : Int) != 4) = true := by simp; omega
    have HE : Hid (chart C.L = .error (3, pl C.L j5)) := by rw [Hid, HSP.out, if_neg hk]
    clear hk
    go_quiet (fail)
    have hpq := hp5.same (hdr nq)
    have xq := HCX.out _ _ x5 (by have := hF5.size; have := hf5.size; have := lt_of_block r5'; omega) (hdr nq).wide
    go_wp2_with (go_at_call 67; refine (throw_any hpq 3).mono ?_; rintro e w6 ⟨q, rfl, hq⟩; exact ⟨rfl, by rw [HE.out]; exact Thrown.up (hF5.up (hdr nq).wide) ⟨q, rfl, hq⟩⟩)
end Go.Proofs.YtiihgnagjemikaaGreatDoor
/- The program's Check. -/
namespace Go.Proofs.YtiihgnagjemikaaGreatDoor
open Go.RowKit Px

theorem IsVars.open {A : Nat → Prop} {w : World} {l : List Decl} {v : Value} (h : IsVars A w l v) :
    ∃ ad g cap, v = .slice ad l.length cap ∧ l.length ≤ maxLen ∧ (0 < l.length → ad = some ⟨g, 0, none⟩ ∧ g < w.heap.size) ∧ ∀ (i : Nat) (d : Decl), l[i]? = some d → w.cell? ⟨g, i * 3, none⟩ = some (.int .i64 (d.kind : Int)) ∧ w.cell? ⟨g, i * 3 + 1, none⟩ = some (sv d.name) ∧ w.cell? ⟨g, i * 3 + 2, none⟩ = some (.int .i64 d.first) := by
  obtain ⟨xs, hr, hs⟩ := h
  obtain ⟨ad, g, cap, h1, h2, h3, h4⟩ := Row.open (k := 3) (fun a c hc => by rw [show c = _ from hc]; rfl) hr hs
  refine ⟨ad, g, cap, h1, h2, fun hp => ⟨(h3 hp).1, (h3 hp).2.2⟩, fun i a hi => ?_⟩
  obtain ⟨c, hc, hx⟩ := h4 i a hi
  obtain rfl : c = _ := hc
  exact ⟨hx 0 _ rfl, hx 1 _ rfl, hx 2 _ rfl⟩
theorem ck_new2 (w : World) (o o' : Obj) : ((w.alloc o).alloc o').heap[w.heap.size + 1]? = some o' := by
  have e : w.heap.size + 1 = (w.alloc o).heap.size := by simp
  rw [e]; exact ck_new _ _
/-- what is asked of a chart -/
structure NmChart (c : Chart) : Prop where
  vars : c.vars.length ≤ 1000000
  names : ∀ v ∈ c.vars, v.name.length ≤ maxLen
  sts : ∀ r ∈ c.regions, ∀ x ∈ r, NmSt 6 x
  many : sumC (cRg 6) c.regions ≤ 1000000
/-- an error as Check hands it back -/
def ChkOut (o : Option (Nat × Option Nat)) (w : World) (e : Ending) (w' : World) : Prop :=
  Below w.heap.size w w' ∧ ((o = none ∧ e = .returned .nilIface) ∨ (∃ c, o = some (c, none) ∧ e = .returned (.iface 46 (.int .i64 ((c : Nat) : Int)))) ∨ ∃ c p g, o = some (c, some p) ∧ e = .returned (.iface 45 (.pointer (some ⟨g, 0, none⟩))) ∧ w'.heap[g]? = some (.cells #[.int .i64 ((c : Nat) : Int), .int .i64 ((p : Nat) : Int)] 48 (0, 0)) ∧ w.heap.size ≤ g)
theorem twiceF_none (ns : List Str) : ∀ (f i : Nat), (∀ j, i ≤ j → j < i + f → ¬ fndI ns (ns.getD j []) < j) → twiceF ns f i = none := by
  intro f
  induction f with
  | zero => intro i _; rfl
  | succ f ih =>
    intro i h
    rw [twiceF, if_neg (h i (Nat.le_refl _) (by omega))]
    exact ih (i + 1) fun j h1 h2 => h j (by omega) (by omega)
theorem twiceF_some (ns : List Str) : ∀ (f i k : Nat), i ≤ k → k < i + f → fndI ns (ns.getD k []) < k → (∀ j, i ≤ j → j < k → ¬ fndI ns (ns.getD j []) < j) → twiceF ns f i = some k := by
  intro f
  induction f with
  | zero => intro i k h1 h2; omega
  | succ f ih =>
    intro i k h1 h2 hk h
    rw [twiceF]
    by_cases e : i = k
    · subst e; rw [if_pos hk]
    · rw [if_neg (h i (Nat.le_refl _) (by omega))]
      exact ih (i + 1) k (by omega) (by omega) hk fun j h3 h4 => h j (by omega) h4
theorem vnames_at {vs : List Decl} {i : Nat} {d : Decl} (h : vs[i]? = some d) : (vnames vs).getD i [] = d.name := by
  rw [vnames, List.getD_eq_getElem?_getD, List.getElem?_map, h]; rfl
theorem checkC_run (c : Chart) (h1 : twiceF (vnames c.vars) c.vars.length 0 = none) (h2 : c.regions ≠ []) : checkC c = match regsE (regE c.vars 6) c.regions 0 with
    | .error (e, p) => some (e, some p)
    | .ok _ => none := by
  unfold checkC; rw [h1]
  show (if c.regions = [] then _ else _) = _
  rw [if_neg h2]
  cases regsE (regE c.vars 6) c.regions 0 with
  | error x => cases x; rfl
  | ok _ => rfl

set_option maxRecDepth 100000 in
set_option maxHeartbeats 4000000 in
theorem check_any {A : Nat → Prop} {w : World} {c : Chart} {v : Value} (h : IsChart A w c v) (hN : NmChart c) : Calls Tryz.prog 18 #[v] w (ChkOut (checkC c) w) := by
  have hmf : ∀ (fn : Fn) (first cap : Array Value) (w : World), (Instr.makeFunc fn first cap).run Tryz.prog w = .ok (.func fn first cap) w := fun _ _ _ _ => rfl
  obtain ⟨a0, n0, m0, a1, n1, m1, rfl, hV, hR⟩ := h
  obtain ⟨adv, gv, capv, ev, v1, v2, v3⟩ := hV.open
  injection ev with e1 e2 e3
  subst e1; subst e2; subst e3
  obtain ⟨adr, gr, capr, er, r1, -, -⟩ := hR.len
  injection er with e1 e2 e3
  subst e1; subst e2; subst e3
  obtain ⟨S, hS⟩ : ∃ S, sv c.name = .string S := ⟨_, rfl⟩
  rw [hS]
  obtain ⟨M, hM⟩ : ∃ M, Hid (c.vars.length = M) := ⟨_, rfl⟩
  have hMx : M ≤ 1000000 := by rw [← hM.out]; exact hN.vars
  have hMl : Hid (M = (vnames c.vars).length) := by rw [Hid, vnames, List.length_map]; exact hM.out.symm
  have HV : Hid (∀ (i : Nat) (d : Decl), c.vars[i]? = some d → w.cell? ⟨gv, i * 3, none⟩ = some (.int .i64 (d.kind : Int)) ∧ w.cell? ⟨gv, i * 3 + 1, none⟩ = some (sv d.name) ∧ w.cell? ⟨gv, i * 3 + 2, none⟩ = some (.int .i64 d.first)) := v3
  rw [hM.out] at v2 ⊢
  have HA : Hid (0 < M → a0 = some ⟨gv, 0, none⟩ ∧ gv < w.heap.size) := v2
  have HR : Hid (IsRegs A w (IsStates A w 6) c.regions (.slice a1 c.regions.length m1)) := hR
  have HNC : Hid (NmChart c) := hN
  have hat : ∀ i, i < M → ∃ d, c.vars[i]? = some d := fun i hi => ⟨c.vars[i]'(by rw [hM.out]; exact hi), List.getElem?_eq_getElem _⟩
  have hln : Hid (∀ i, i < M → ((vnames c.vars).getD i []).length ≤ maxLen) := fun i hi => by
    obtain ⟨d, hd⟩ := hat i hi
    rw [vnames_at hd]
    exact HNC.out.names d (List.mem_of_getElem? hd)
  obtain ⟨O, hO⟩ : ∃ O, O = Obj.cells #[.string S, .slice a0 M m0, .slice a1 c.regions.length m1] 35 := ⟨_, rfl⟩
  have hbx : (w.alloc O).heap[w.heap.size]? = some (.cells #[.string S, .slice a0 M m0, .slice a1 c.regions.length m1] 35 (0, 0)) := by rw [ck_new, hO]
  have hcall := finder_any 34 (.inl rfl) w.heap.size (vnames c.vars) M hMl hMx hln (w.alloc O) (fun X i hX hi => by
    obtain ⟨d, hd⟩ := hat i hi
    rw [vnames_at hd]
    exact name_var (ck_cell hX (cell_row hbx 1 rfl)) hi (fun h => (HA.out h).1) (ck_cell hX (ck_cell (ck_grown w O) (HV.out i d hd).2.1)))
  have HB0 : Hid (Below w.heap.size w (w.alloc O) ∧ (w.alloc O).heap[w.heap.size]? = some (.cells #[.string S, .slice a0 M m0, .slice a1 c.regions.length m1] 35 (0, 0))) := ⟨ck_grown w O, hbx⟩
  rw [hO] at hcall HB0
  clear hV hR v1 v2 v3 hN hat hO hbx hS
  obtain ⟨NR, hNR⟩ : ∃ NR, Hid (c.regions.length = NR) := ⟨_, rfl⟩
  rw [hNR.out] at hcall HB0 r1 HR ⊢
  go_enter Tryz.func18, Tryz.ntmps18
  go_upto_region 2 with (refine hcall.mono ?_; rintro e w1 ⟨f, rfl, ⟨pb, mb, nm, rfl, hpb, hmb⟩, hb⟩; have HF : Hid ((w1.heap[pb]? = some (.cells #[.map (some mb)] 136 (0, 0)) ∧ MapF w1 mb nm (fnd (vnames c.vars))) ∧ Below w.heap.size w w1 ∧ w1.heap[w.heap.size]? = some (.cells #[.string S, .slice a0 M m0, .slice a1 NR m1] 35 (0, 0))) := ⟨⟨hpb, hmb⟩, ck_all HB0.out.1 hb, ck_block hb HB0.out.2⟩; clear hpb hmb hb)
  clear hcall
  have d1 := cell_row HF.out.2.2 1 (u := .slice a0 M m0) rfl
  go_wp2_with fail
  clear d1
  go_loopg [15] M (fun f i wr => ∃ k : Nat, f = M - k ∧ k ≤ M ∧ i = .int .i64 (k : Int) ∧ Hid (Below w1.heap.size w1 wr ∧ ∀ j, j < k → ¬ fndI (vnames c.vars) ((vnames c.vars).getD j []) < j))
  case atStart => exact ⟨0, by omega, by omega, rfl, Below.refl _ _, fun j hj => absurd hj (by omega)⟩
  case round =>
    obtain ⟨k, rfl, hk, rfl, hr⟩ := hrel
    obtain ⟨hBr, hno⟩ := hr.out
    have HBR : Hid (Below w1.heap.size w1 wr) := hBr
    have HNO : Hid (∀ j, j < k → ¬ fndI (vnames c.vars) ((vnames c.vars).getD j []) < j) := hno
    clear hr hno
    by_cases hlt : k < M
    · obtain ⟨d, hd⟩ : ∃ d, c.vars[k]? = some d := ⟨c.vars[k]'(by rw [hM.out]; exact hlt), List.getElem?_eq_getElem _⟩
      have hnm := vnames_at hd
      have hBw : Below w.heap.size w wr := ck_all HF.out.2.1 hBr
      obtain ⟨x0, x1, x2⟩ := HV.out k d hd
      have y0 := ck_cell hBw x0
      have y1 := ck_cell hBw x1
      have y2 := ck_cell hBw x2
      have hix := ixV a0 gv M m0 k hlt (fun h => (HA.out h).1)
      have hlen : d.name.length ≤ maxLen := HNC.out.names d (List.mem_of_getElem? hd)
      have hfind := fun o => find_any (w := wr.alloc o) (s := d.name) (ck_old (ck_block hBr HF.out.1.1)) ((HF.out.1.2.below hBr).below (ck_grown wr o)) hlen
      obtain ⟨I, hI⟩ : ∃ I, Hid (fndI (vnames c.vars) ((vnames c.vars).getD k []) = I) := ⟨_, rfl⟩
      rw [← hnm] at hfind
      rw [hI.out] at hfind
      rw [hnm] at hfind
      obtain ⟨T, hT⟩ : ∃ T, sv d.name = .string T := ⟨_, rfl⟩
      rw [hT] at hfind y1
      have hcall := hfind (.cells #[.int .i64 (d.kind : Int), .string T, .int .i64 d.first] 86)
      clear hfind x0 x1 x2 hT hlen hd hnm hBw hBr
      by_cases hi : I < (k : Int)
      · have HE : Hid (checkC c = some (9, some k)) := by
          have : twiceF (vnames c.vars) c.vars.length 0 = some k := twiceF_some _ _ 0 k (by omega) (by rw [hM.out]; omega) (by rw [hI.out]; exact hi) (fun j _ hj => HNO.out j hj)
          unfold Hid checkC; rw [this]
        go_wp2_with (refine hcall.mono ?_; rintro e w' ⟨rfl, rfl⟩)
        go_ret
        refine ⟨ck_all HF.out.2.1 (ck_all HBR.out (ck_all (ck_grown _ _) (ck_grown _ _))), .inr (.inr ⟨9, k, _, HE.out, rfl, ck_new2 _ _ _, ?_⟩)⟩
        have := HF.out.2.1.size
        have := HBR.out.size
        simp; omega
      · go_wp2_with (refine hcall.mono ?_; rintro e w' ⟨rfl, rfl⟩)
        go_roundg (M - (k + 1))
        case measure => omega
        case rel =>
          refine ⟨k + 1, rfl, by omega, by go_num, ck_all HBR.out (ck_grown _ _), fun j hj => ?_⟩
          by_cases e : j = k
          · subst e; rw [hI.out]; exact hi
          · exact HNO.out j (by omega)
    · obtain rfl : k = M := by omega
      have HT : Hid (twiceF (vnames c.vars) c.vars.length 0 = none) := twiceF_none _ _ _ fun j _ hj => HNO.out j (by rw [hM.out] at hj; omega)
      have e1 := cell_row (ck_block hBr HF.out.2.2) 1 (u := .slice a0 k m0) rfl
      have e2 := cell_row (ck_block hBr HF.out.2.2) 2 (u := .slice a1 NR m1) rfl
      by_cases h0 : NR = 0
      · subst h0
        have HE : Hid (checkC c = some (8, none)) := by
          have : c.regions = [] := List.length_eq_zero_iff.1 hNR.out
          unfold Hid checkC; rw [HT.out, this]; rfl
        clear hBr
        go_wp2_with fail
        go_ret
        exact ⟨ck_all HF.out.2.1 HBR.out, .inr (.inl ⟨8, HE.out, rfl⟩)⟩
      · have hz1 : ¬ (NR : Int) = 0 := by omega
        have hz2 : ((NR : Int) == 0) = false := by simp; omega
        have hrn : c.regions ≠ [] := fun e => h0 (by rw [← hNR.out, e]; rfl)
        have HE : Hid (checkC c = _) := checkC_run c HT.out hrn
        obtain ⟨O, hO⟩ : ∃ O, O = Obj.cells #[.slice a0 k m0, .func (.func 68) #[] #[.pointer (some ⟨pb, 0, none⟩)], .int .i64 0] 89 := ⟨_, rfl⟩
        have hBO : Below w.heap.size w (wr.alloc O) := ck_all HF.out.2.1 (ck_all HBR.out (ck_grown wr O))
        have lp := lt_of_block (ck_block hBr HF.out.1.1)
        have lm := (HF.out.1.2.below hBr).lt
        have lw : w.heap.size ≤ wr.heap.size := Nat.le_trans HF.out.2.1.size HBR.out.size
        have hC : CkAt (wr.alloc O) wr.heap.size pb mb nm gv a0 m0 c.vars 0 := by
          refine ⟨by rw [ck_new, hO, hM.out]; rfl, ck_old (ck_block hBr HF.out.1.1), (HF.out.1.2.below hBr).below (ck_grown wr O), fun hp => ?_, fun i d hi => ck_cell hBO (HV.out i d hi).1, by omega, by omega, fun hp => ?_⟩
          · rw [hM.out] at hp
            exact ⟨(HA.out hp).1, Nat.lt_of_lt_of_le (HA.out hp).2 hBO.size⟩
          · rw [hM.out] at hp
            have := (HA.out hp).2; omega
        have hRg : IsRegs (· < w.heap.size) (wr.alloc O) (IsStates (· < w.heap.size) (wr.alloc O) 6) c.regions (.slice a1 NR m1) := by
          have hK : Keep A (· < w.heap.size) w (wr.alloc O) := fun x _ hlt => ⟨hlt, hBO.block x hlt⟩
          exact HR.out.carry hK (IsStates.carry hK 6)
        have hcall := ckregs_of (A := (· < w.heap.size)) (fun x hx e => by have : x < w.heap.size := hx; omega) (reg_all (A := (· < w.heap.size)) (fun x hx e => by have : x < w.heap.size := hx; omega) 6) (wr.alloc O) c.regions (.slice a1 NR m1) 0 hC hRg HNC.out.sts (by have := HNC.out.many; omega)
        have HBO : Hid (_ ∧ _) := ⟨hBO, lw⟩
        have e2' := ck_cell (ck_grown wr O) e2
        rw [hO] at hcall HBO e2'
        clear hC hRg hBO lp lm lw hO hBr
        unfold RegOut at hcall
        have hsub : ∀ w', Fr (wr.alloc (.cells #[.slice a0 k m0, .func (.func 68) #[] #[.pointer (some ⟨pb, 0, none⟩)], .int .i64 0] 89)).heap.size [wr.heap.size] (wr.alloc (.cells #[.slice a0 k m0, .func (.func 68) #[] #[.pointer (some ⟨pb, 0, none⟩)], .int .i64 0] 89)) w' → Below w.heap.size w w' := fun w' hF =>
          HBO.out.1.trans ((hF.mono HBO.out.1.size (X' := []) (fun x hx h => by have := HBO.out.2; simp at hx; omega)).below)
        have HSB : Hid _ := hsub
        clear hsub
        cases hrs : regsE (regE c.vars 6) c.regions 0 with
        | error x =>
          obtain ⟨cc, pl⟩ := x
          rw [hrs] at HE hcall
          have hI2 : Calls Tryz.prog 35 #[.pointer (some ⟨wr.heap.size, 0, none⟩), .slice a1 NR m1] (wr.alloc (.cells #[.slice a0 k m0, .func (.func 68) #[] #[.pointer (some ⟨pb, 0, none⟩)], .int .i64 0] 89)) fun e w'' => ∃ g, e = .returned (.iface 45 (.pointer (some ⟨g, 0, none⟩))) ∧ Hid (w''.heap[g]? = some (.cells #[.int .i64 ((cc : Nat) : Int), .int .i64 ((pl : Nat) : Int)] 48 (0, 0)) ∧ wr.heap.size ≤ g ∧ Below w.heap.size w w'') := hcall.mono fun e w'' ⟨hF, ho⟩ => by
            rcases ho with ⟨_, he, _⟩ | ⟨c', p', g', he, h1, h2, h3⟩
            · simp at he
            · injection he with he
              injection he with e1 e2
              subst e1; subst e2
              exact ⟨g', h1, h2, by simp at h3; omega, HSB.out _ hF⟩
          clear hcall
          go_wp2_with (refine hI2.mono ?_; rintro e w'' ⟨ge, rfl, hge⟩)
          go_ret
          exact ⟨hge.out.2.2, .inr (.inr ⟨cc, pl, ge, HE.out, rfl, hge.out.1, Nat.le_trans HBO.out.2 hge.out.2.1⟩)⟩
        | ok m2 =>
          rw [hrs] at HE hcall
          have hI2 : Calls Tryz.prog 35 #[.pointer (some ⟨wr.heap.size, 0, none⟩), .slice a1 NR m1] (wr.alloc (.cells #[.slice a0 k m0, .func (.func 68) #[] #[.pointer (some ⟨pb, 0, none⟩)], .int .i64 0] 89)) fun e w'' => e = .returned .nilIface ∧ Hid (Below w.heap.size w w'') := hcall.mono fun e w'' ⟨hF, ho⟩ => by
            rcases ho with ⟨m', he, h1, h2⟩ | ⟨_, _, _, he, _⟩
            · exact ⟨h1, HSB.out _ hF⟩
            · simp at he
          clear hcall
          go_wp2_with (refine hI2.mono ?_; rintro e w'' ⟨rfl, hge⟩)
          go_ret
          exact ⟨hge.out, .inl ⟨HE.out, rfl⟩⟩
end Go.Proofs.YtiihgnagjemikaaGreatDoor
