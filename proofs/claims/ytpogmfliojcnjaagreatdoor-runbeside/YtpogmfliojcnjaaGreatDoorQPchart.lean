import Derived.Test.YtpogmfliojcnjaaGreatDoorQPregion2
namespace Go.Proofs.YtpogmfliojcnjaaGreatDoor
open Go.RowKit Px
theorem Tryz.infoDecl : (Tryz.prog.info? 33).map (fun i => (i.zero, i.size, i.bytes)) = some (some (.agg #[.int .i64 0, .string ⟨#[]⟩, .int .i64 0]), 3, 32) := by kernel_rfl
structure CU (B cb : Nat) (w : World) (nm : Str) (vs : List Decl) (rs : List (List (St 6))) (v r : Value) (xv xr : List Value) : Prop where
 at_ : w.heap[cb]? = some (.cells #[sv nm, v, r] 28 (0, 0))
 good : Good B w [sDecl vs v xv, sReg 6 rs r xr]
theorem cuCarries (vs : List Decl) (rs : List (List (St 6))) (v r : Value) (xv xr : List Value) : Carries [sDecl vs v xv, sReg 6 rs r xr] := by
 intro x hx A A' w w' kp
 simp only [List.mem_cons, List.not_mem_nil, or_false] at hx
 rcases hx with rfl | rfl
 ·exact fun h => h
 ·exact cReg kp _ _ _ _
theorem CU.carry {B cb : Nat} {X : List Nat} {w w' : World} {nm : Str} {vs : List Decl} {rs : List (List (St 6))} {v r : Value} {xv xr : List Value} (h : CU B cb w nm vs rs v r xv xr) (hX : ∀ x ∈ X, x < B) (hs : cb ∉ X) (hf : Fr w.heap.size X w w') : CU B cb w' nm vs rs v r xv xr :=
 ⟨by rw [hf.block cb (lt_of_block h.at_) hs]; exact h.at_, h.good.carry (cuCarries _ _ _ _ _ _) hX hf⟩
theorem CU.lts {B cb : Nat} {w : World} {nm : Str} {vs : List Decl} {rs : List (List (St 6))} {v r : Value} {xv xr : List Value} (h : CU B cb w nm vs rs v r xv xr) : ∀ x ∈ [sDecl vs v xv, sReg 6 rs r xr], ∀ g, x.v.ownBlock = some g → g < w.heap.size := fun x hx g hg => (h.good.block x hx g hg).2
theorem CU.grow_vars {B cb : Nat} {w4 w5 : World} {nm : Str} {vs : List Decl} {rs : List (List (St 6))} {v r v' : Value} {xv xr cs : List Value} {a : Decl} (h : CU B cb w4 nm vs rs v r xv xr) (hcb : cb < B)
    (ha : DeclC a cs) (hown : w5.ownsRow B 33 3 v' ((vs ++ [a]).length) (xv ++ cs)) (hg : w4.grownBy w5 v.ownBlock) (hat : v'.ownBlock = v.ownBlock ∨ v'.ownBlock = some w4.heap.size) :
    CU B cb (w5.setCell ⟨cb, 1, none⟩ v') nm (vs ++ [a]) rs v' r (xv ++ cs) xr := by
 have hgd : Good B w4 ([] ++ sDecl vs v xv :: [sReg 6 rs r xr]) := h.good
 have hc : Carries ([] ++ sDecl vs v xv :: [sReg 6 rs r xr]) := cuCarries vs rs v r xv xr
 have hold : Rows DeclC vs xv := hgd.has (sDecl vs v xv) (by simp)
 have hnew := hgd.grow (s' := sDecl (vs ++ [a]) v' (xv ++ cs)) hc hg hat hown (Rows.append hold (Rows.one ha))
 have hput := fr_put w5 cb 1 v'
 have hcb4 := lt_of_block h.at_
 refine ⟨?_, Good.carry (X := [cb]) hnew (cuCarries (vs ++ [a]) rs v' r (xv ++ cs) xr) (by simp; exact hcb) hput⟩
 have hat5 : w5.heap[cb]? = some (.cells #[sv nm, v, r] 28 (0, 0)) := by
  rw [hg.block cb hcb4 (fun e1 => by have := ((h.good.own (sDecl vs v xv) (by simp)).lt cb e1.symm).1; omega)]; exact h.at_
 rw [heap_setCell_same w5 cb 1 _ 28 _ hat5]; rfl
theorem CU.grow_regions {B cb n : Nat} {w4 w5 : World} {nm : Str} {vs : List Decl} {rs : List (List (St 6))} {v r v' u : Value} {xv xr : List Value} {a : List (St 6)} (h : CU B cb w4 nm vs rs v r xv xr) (hcb : cb < B) (hB : B ≤ n) (hn : ∀ x ∈ [sDecl vs v xv, sReg 6 rs r xr], ∀ g, x.v.ownBlock = some g → g < n)
    (ha : IsStates (Ge n) w4 6 a u) (hown : w5.ownsRow B 64 1 v' ((rs ++ [a]).length) (xr ++ [u])) (hg : w4.grownBy w5 r.ownBlock) (hat : v'.ownBlock = r.ownBlock ∨ v'.ownBlock = some w4.heap.size) :
    CU B cb (w5.setCell ⟨cb, 2, none⟩ v') nm vs (rs ++ [a]) v v' xv (xr ++ [u]) := by
 have hgd : Good B w4 ([sDecl vs v xv] ++ sReg 6 rs r xr :: []) := h.good
 have hc : Carries ([sDecl vs v xv] ++ sReg 6 rs r xr :: []) := cuCarries vs rs v r xv xr
 have kN := keepNew (s' := sReg 6 (rs ++ [a]) v' (xr ++ [u])) hgd hn hB hg hat
 have ha2 : RegC (IsStates (Nots B ([sDecl vs v xv] ++ sReg 6 (rs ++ [a]) v' (xr ++ [u]) :: [])) w5 6) a [u] := ⟨u, rfl, IsStates.carry kN 6 _ _ ha⟩
 have hold := cReg (keepGrow (B := B) (l1 := [sDecl vs v xv]) (l2 := []) (s := sReg 6 rs r xr) (s' := sReg 6 (rs ++ [a]) v' (xr ++ [u])) hg hat) _ _ _ _ (hgd.has (sReg 6 rs r xr) (by simp))
 have hnew := hgd.grow (s' := sReg 6 (rs ++ [a]) v' (xr ++ [u])) hc hg hat hown (Rows.append hold (Rows.one ha2))
 have hput := fr_put w5 cb 2 v'
 have hcb4 := lt_of_block h.at_
 refine ⟨?_, Good.carry (X := [cb]) hnew (cuCarries vs (rs ++ [a]) v v' xv (xr ++ [u])) (by simp; exact hcb) hput⟩
 have hat5 : w5.heap[cb]? = some (.cells #[sv nm, v, r] 28 (0, 0)) := by
  rw [hg.block cb hcb4 (fun e1 => by have := ((h.good.own (sReg 6 rs r xr) (by simp)).lt cb e1.symm).1; omega)]; exact h.at_
 rw [heap_setCell_same w5 cb 2 _ 28 _ hat5]; rfl
def stepI (L : List Lx.Tok) (vs : List Decl) (rs : List (List (St 6))) (c i : Nat) : Except F (Option (List Decl × List (List (St 6)) × Nat × Nat)) :=
 if kindOf (tx L i) ≠ 0 then
  if 20 ≤ vs.length then .error (4, pl L (i + 1))
  else match variable_ L (kindOf (tx L i)) (i + 1) with
   | .error x => .error x
   | .ok (v, j) => .ok (some (vs ++ [v], rs, c, j))
 else if tx L i = kRegion then
  match region L 6 c (i + 1) with
  | .error x => .error x
  | .ok (l, c', j) => .ok (some (vs, rs ++ [l], c', j))
 else .ok none
structure CE (C : Ctx) (B ba cb : Nat) (w : World) : Prop where
 a : w.cell? ⟨ba, 0, none⟩ = some (.pointer (some ⟨C.rb, 0, none⟩))
 la : ba < B
 lc : cb < B
 na : C.rb < ba
 nc : C.rb < cb
 nac : ba ≠ cb
 lr : C.rb < B
 hB : B ≤ w.heap.size
theorem CE.low {C : Ctx} {B ba cb : Nat} {w w' : World} (h : CE C B ba cb w) (hf : Fr B [C.rb, cb] w w') : CE C B ba cb w' := by
 have h1 := h.na
 have h2 := h.nac
 exact ⟨by rw [hf.cell (p := ⟨ba, 0, none⟩) h.la (by simp; omega)]; exact h.a, h.la, h.lc, h1, h.nc, h2, h.lr, Nat.le_trans h.hB hf.size⟩
def CUx (B cb : Nat) (w : World) (nm : Str) (vs : List Decl) (rs : List (List (St 6))) : Prop := ∃ v r xv xr, CU B cb w nm vs rs v r xv xr
def ItOk (C : Ctx) (B ba cb i c : Nat) (nm : Str) (vs : List Decl) (rs : List (List (St 6))) : Option (List Decl × List (List (St 6)) × Nat × Nat) → Value → World → Prop
 | none, v, w' => v = .bool false ∧ PS C w' i c 0 0 ∧ CE C B ba cb w' ∧ CUx B cb w' nm vs rs
 | some (vs', rs', c', j), v, w' => v = .bool true ∧ i < j ∧ vs'.length ≤ 20 ∧ rs'.length ≤ j ∧ PS C w' j c' 0 0 ∧ CE C B ba cb w' ∧ CUx B cb w' nm vs' rs'
theorem first_le {L : List Lx.Tok} {i j : Nat} {n : Int} (h : first L i = .ok (n, j)) : i ≤ j := by
 rw [first] at h
 split at h
 ·split at h
  ·split at h
   ·exact absurd h (by simp)
   ·injection h with h; injection h with _ h; omega
  ·split at h
   ·exact absurd h (by simp)
   ·injection h with h; injection h with _ h; omega
 ·injection h with h; injection h with _ h; omega
theorem variable_lt {L : List Lx.Tok} {kind i j : Nat} {v : Decl} (h : variable_ L kind i = .ok (v, j)) : i < j := by
 rw [variable_] at h
 split at h
 ·exact absurd h (by simp)
 ·split at h
  ·exact absurd h (by simp)
  ·rename_i hf
   have := first_le hf
   split at h
   ·injection h with h; injection h with _ h; omega
   ·exact absurd h (by simp)
theorem kindOf_is {C : Ctx} {w : World} {i st ins und : Nat} (h : PS C w i st ins und) (tb : ByteArray) (n : Nat) (ho : Hid (kindOf (bs tb) = n)) : Calls Tryz.prog 96 #[.string tb] w fun e w' => e = .returned (.int .i64 n) ∧ w' = w := by
 refine (kindOf_any tb w h.tab).mono ?_
 rintro e w' ⟨rfl, rfl⟩
 exact ⟨by rw [ho.out], rfl⟩
set_option maxRecDepth 100000 in
set_option maxHeartbeats 8000000 in
theorem chart1_none {C : Ctx} {B ba cb : Nat} {w : World} {i c : Nat} {nm : Str} {vs : List Decl} {rs : List (List (St 6))} (h : PS C w i c 0 0) (hE : CE C B ba cb w) (hU : CUx B cb w nm vs rs) (hv : vs.length ≤ 20) (hr : rs.length ≤ i) (hk : kindOf (tx C.L i) = 0) (hn : tx C.L i ≠ kRegion) : Calls Tryz.prog 95 #[.pointer (some ⟨ba, 0, none⟩), .pointer (some ⟨cb, 0, none⟩)] w (OutX B [C.rb, cb] (ItOk C B ba cb i c nm vs rs) w (stepI C.L vs rs c i)) := by
 have _ := hv
 have _ := hr
 obtain ⟨v, r, xv, xr, hU⟩ := hU
 have hl6 := h.wf.len
 have hil := h.lt
 have hx := hE.a
 have hba : ba < w.heap.size := Nat.lt_of_lt_of_le hE.la hE.hB
 have hEB := hE.hB
 have hErb := hE.lr
 have hEcb := hE.lc
 have hEnc := hE.nc
 have hEna := hE.na
 have hEac := hE.nac
 have hne' : cb ∉ [C.rb] := by simp; omega
 have hX : ∀ x ∈ [C.rb], x < B := by simp; omega
 have HCX : Hid (∀ (W W' : World), W.cell? ⟨ba, 0, none⟩ = some (.pointer (some ⟨C.rb, 0, none⟩)) → ba < W.heap.size → Fr W.heap.size [C.rb] W W' → W'.cell? ⟨ba, 0, none⟩ = some (.pointer (some ⟨C.rb, 0, none⟩))) := fun W W' h1 h2 hf => by rw [hf.cell (p := ⟨ba, 0, none⟩) h2 (by simp; omega)]; exact h1
 obtain ⟨tb, htb⟩ : ∃ tb : ByteArray, Hid (bs tb = tx C.L i) := ⟨⟨(tx C.L i).toArray⟩, rfl⟩
 have hk0 : Hid (kindOf (bs tb) = 0) := by rw [Hid, htb.out]; exact hk
 have HN : Hid (tx C.L i ≠ bs ⟨#[114, 101, 103, 105, 111, 110]⟩) := hn
 have HSP : Hid (stepI C.L vs rs c i = .ok none) := by rw [Hid, stepI, if_neg (by rw [hk]; simp), if_neg hn]
 clear hk hn
 go_enter Tryz.func95, Tryz.ntmps95
 go_wp2_with (first
  | (go_at_call 97; refine (text_is h tb htb).mono ?_; rintro e1 w1 ⟨rfl, hp1, hf1⟩; have hx1 := HCX.out _ _ hx hba hf1.wide; have hz1 := hf1.size)
  | (go_at_call 96; refine (kindOf_is hp1 tb 0 hk0).mono ?_; rintro e1 w2 ⟨rfl, hw2⟩; obtain rfl := hw2.symm)
  | (go_at_call 100; refine (take_no hp1 ⟨#[114, 101, 103, 105, 111, 110]⟩ HN.out).mono ?_; rintro e1 w3 ⟨rfl, hp3, hf3⟩))
 go_ret
 rw [HSP.out]
 have hF : Fr w.heap.size [C.rb] w w3 := (hf1.wide).up hf3.wide
 exact ⟨_, rfl, ⟨rfl, hp3, hE.low (hF.mono hE.hB (by simp)), _, _, _, _, hU.carry hX hne' hF⟩, hF.mono hE.hB (by simp)⟩
set_option maxRecDepth 100000 in
set_option maxHeartbeats 8000000 in
theorem chart1_full {C : Ctx} {B ba cb : Nat} {w : World} {i c : Nat} {nm : Str} {vs : List Decl} {rs : List (List (St 6))} (h : PS C w i c 0 0) (hE : CE C B ba cb w) (hU : CUx B cb w nm vs rs) (hv : vs.length ≤ 20) (hr : rs.length ≤ i) (hk : kindOf (tx C.L i) ≠ 0) (hf20 : 20 ≤ vs.length) : Calls Tryz.prog 95 #[.pointer (some ⟨ba, 0, none⟩), .pointer (some ⟨cb, 0, none⟩)] w (OutX B [C.rb, cb] (ItOk C B ba cb i c nm vs rs) w (stepI C.L vs rs c i)) := by
 have _ := hv
 have _ := hr
 obtain ⟨v, r, xv, xr, hU⟩ := hU
 have hl6 := h.wf.len
 have hil := h.lt
 have hx := hE.a
 have hba : ba < w.heap.size := Nat.lt_of_lt_of_le hE.la hE.hB
 have hEB := hE.hB
 have hErb := hE.lr
 have hEcb := hE.lc
 have hEnc := hE.nc
 have hEna := hE.na
 have hEac := hE.nac
 have hne' : cb ∉ [C.rb] := by simp; omega
 have hX : ∀ x ∈ [C.rb], x < B := by simp; omega
 have HCX : Hid (∀ (W W' : World), W.cell? ⟨ba, 0, none⟩ = some (.pointer (some ⟨C.rb, 0, none⟩)) → ba < W.heap.size → Fr W.heap.size [C.rb] W W' → W'.cell? ⟨ba, 0, none⟩ = some (.pointer (some ⟨C.rb, 0, none⟩))) := fun W W' h1 h2 hf => by rw [hf.cell (p := ⟨ba, 0, none⟩) h2 (by simp; omega)]; exact h1
 obtain ⟨tb, htb⟩ : ∃ tb : ByteArray, Hid (bs tb = tx C.L i) := ⟨⟨(tx C.L i).toArray⟩, rfl⟩
 obtain ⟨kd, hkd⟩ : ∃ x, Hid (kindOf (bs tb) = x) := ⟨_, rfl⟩
 have hk1 : kd ≠ 0 := by rw [← hkd.out, htb.out]; exact hk
 have hk2 : (((kd : Nat) : Int) != 0) = true := by simp; omega
 have hne0 : tx C.L i ≠ [] := fun e => by rw [e] at hk; exact hk (by decide)
 have hnx := h.wf.next h.lt hne0
 have HSP : Hid (stepI C.L vs rs c i = .error (4, pl C.L (i + 1))) := by rw [Hid, stepI, if_pos hk, if_pos hf20]
 have hov : w.ownsRow B 33 3 v vs.length xv := hU.good.own (sDecl vs v xv) (by simp)
 obtain ⟨ao, cap, rfl⟩ := owns_shape hov
 clear hk hne0
 go_enter Tryz.func95, Tryz.ntmps95
 go_wp2_with (first
  | (go_at_call 97; refine (text_is h tb htb).mono ?_; rintro e1 w1 ⟨rfl, hp1, hf1⟩; have hx1 := HCX.out _ _ hx hba hf1.wide; have hz1 := hf1.size)
  | (go_at_call 96; refine (kindOf_is hp1 tb kd hkd).mono ?_; rintro e1 w2 ⟨rfl, hw2⟩; obtain rfl := hw2.symm; obtain ⟨-, d1, -⟩ := hp1.cells; have z1 := hp1.frozen 1; obtain ⟨hp2, hf2⟩ := hp1.step hnx; have hF2 := (hf1.wide (X := [C.rb])).up hf2; have hU2 := hU.carry hX hne' hF2; have hx2 := HCX.out _ _ hx hba hF2; obtain ⟨y2, -⟩ := cel hU2.at_ 1 (Value.slice ao vs.length cap) rfl; have hB2 := hF2.size)
  | (go_at_call 98; refine (bound_bad hp2 vs.length 20 hf20).mono ?_; rintro e1 w3 ⟨q, rfl, hq⟩; exact ⟨rfl, by rw [HSP.out]; exact Thrown.x ⟨q, rfl, hq⟩ (hF2.mono hE.hB (by simp)) (by omega) (by simp)⟩))
set_option maxRecDepth 100000 in
set_option maxHeartbeats 8000000 in
theorem chart1_var {C : Ctx} {B ba cb : Nat} {w : World} {i c : Nat} {nm : Str} {vs : List Decl} {rs : List (List (St 6))} (h : PS C w i c 0 0) (hE : CE C B ba cb w) (hU : CUx B cb w nm vs rs) (hv : vs.length ≤ 20) (hr : rs.length ≤ i) (hk : kindOf (tx C.L i) ≠ 0) (hf20 : ¬ 20 ≤ vs.length) : Calls Tryz.prog 95 #[.pointer (some ⟨ba, 0, none⟩), .pointer (some ⟨cb, 0, none⟩)] w (OutX B [C.rb, cb] (ItOk C B ba cb i c nm vs rs) w (stepI C.L vs rs c i)) := by
 have _ := hv
 have _ := hr
 obtain ⟨v, r, xv, xr, hU⟩ := hU
 have hl6 := h.wf.len
 have hil := h.lt
 have hx := hE.a
 have hba : ba < w.heap.size := Nat.lt_of_lt_of_le hE.la hE.hB
 have hEB := hE.hB
 have hErb := hE.lr
 have hEcb := hE.lc
 have hEnc := hE.nc
 have hEna := hE.na
 have hEac := hE.nac
 have hne' : cb ∉ [C.rb] := by simp; omega
 have hX : ∀ x ∈ [C.rb], x < B := by simp; omega
 have HCX : Hid (∀ (W W' : World), W.cell? ⟨ba, 0, none⟩ = some (.pointer (some ⟨C.rb, 0, none⟩)) → ba < W.heap.size → Fr W.heap.size [C.rb] W W' → W'.cell? ⟨ba, 0, none⟩ = some (.pointer (some ⟨C.rb, 0, none⟩))) := fun W W' h1 h2 hf => by rw [hf.cell (p := ⟨ba, 0, none⟩) h2 (by simp; omega)]; exact h1
 obtain ⟨tb, htb⟩ : ∃ tb : ByteArray, Hid (bs tb = tx C.L i) := ⟨⟨(tx C.L i).toArray⟩, rfl⟩
 obtain ⟨i0, hi, hz0, hz1', hz2⟩ := info_parts Tryz.infoDecl
 obtain ⟨kd, hkd⟩ : ∃ x, Hid (kindOf (bs tb) = x) := ⟨_, rfl⟩
 have hk1 : kd ≠ 0 := by rw [← hkd.out, htb.out]; exact hk
 have hk2 : (((kd : Nat) : Int) != 0) = true := by simp; omega
 have hne0 : tx C.L i ≠ [] := fun e => by rw [e] at hk; exact hk (by decide)
 have hnx := h.wf.next h.lt hne0
 have HKD : Hid (kindOf (tx C.L i) = kd) := by rw [Hid, ← htb.out]; exact hkd.out
 have HSE : ∀ f, Hid (variable_ C.L kd (i + 1) = .error f) → Hid (stepI C.L vs rs c i = .error f) := fun f hr => by rw [Hid, stepI, if_pos hk, if_neg (by omega), HKD.out, hr.out]
 have HSO : ∀ x j, Hid (variable_ C.L kd (i + 1) = .ok (x, j)) → Hid (stepI C.L vs rs c i = .ok (some (vs ++ [x], rs, c, j))) := fun x j hr => by rw [Hid, stepI, if_pos hk, if_neg (by omega), HKD.out, hr.out]
 have hov : w.ownsRow B 33 3 v vs.length xv := hU.good.own (sDecl vs v xv) (by simp)
 obtain ⟨ao, cap, rfl⟩ := owns_shape hov
 clear hk hne0
 go_enter Tryz.func95, Tryz.ntmps95
 go_upto_region 6 with (first
  | (go_at_call 97; refine (text_is h tb htb).mono ?_; rintro e1 w1 ⟨rfl, hp1, hf1⟩; have hx1 := HCX.out _ _ hx hba hf1.wide; have hz1 := hf1.size)
  | (go_at_call 96; refine (kindOf_is hp1 tb kd hkd).mono ?_; rintro e1 w2 ⟨rfl, hw2⟩; obtain rfl := hw2.symm; obtain ⟨-, d1, -⟩ := hp1.cells; have z1 := hp1.frozen 1; obtain ⟨hp2, hf2⟩ := hp1.step hnx; have hF2 := (hf1.wide (X := [C.rb])).up hf2; have hU2 := hU.carry hX hne' hF2; have hx2 := HCX.out _ _ hx hba hF2; obtain ⟨y2, -⟩ := cel hU2.at_ 1 (Value.slice ao vs.length cap) rfl; have hB2 := hF2.size)
  | (go_at_call 98; refine (bound_ok (C := C) vs.length 20 (by omega)).mono ?_; rintro e1 w3 ⟨rfl, hw3⟩; obtain rfl := hw3.symm))
 clear d1 z1
 generalize (w1.setCell ⟨C.rb, 1, none⟩ (.int .i64 ((i : Int) + 1))) = w2 at hp2 hf2 hF2 hU2 hx2 y2 hB2 ⊢
 have hdr : Fr w2.heap.size [] w2 w2.drew := (Fr.refl _ _ _).drew
 have hp3' := hp2.same hdr
 have hB2' : B ≤ w2.heap.size := Nat.le_trans hEB hF2.size
 go_region_law
  (first
   | (refine step_append_lies _ (by rfl) _ _ _ (by rfl) B 33 i0 _ 3 32 Tryz.underlying25 hi hz0 hz1' hz2 rfl (by omega) (Value.slice ao vs.length cap) vs.length xv (by rfl) (hA4.good.own (sDecl vs _ xv) (by simp))
         ⟨w4'.heap.size, 0, none⟩ 1 1 [.int .i64 a4.kind, sv a4.name, .int .i64 a4.first] (by rfl) (by rfl) (World.news_of_block (fr := (0, 0)) (heap_alloc_new w4' _)) (by intro x hx; simp [sv] at hx; rcases hx with rfl | rfl | rfl <;> rfl)
         (by omega) (by unfold maxLen; omega) (by omega) (by simp; omega) (w4'.heap.size + 1) (by simp) ?_
      intro gg cap' w5' hown5 hgrow hat hlt5
      have hgo : ∀ g, (Value.slice ao vs.length cap).ownBlock = some g → B ≤ g := fun g hg => ((hA4.good.own (sDecl vs _ xv) (by simp)).lt g hg).1
      have hU5 := CU.grow_vars (a := a4) hA4 hEcb rfl (by rw [List.length_append]; exact hown5) hgrow (by rcases hat with e1 | e1; exact .inl e1.symm; exact .inr (by rw [e1]; simp [Value.ownBlock]))
      have hF5 : Fr B [C.rb, cb] w w5' := (((hF4.mono hEB (by simp)).alloc hB4 _).grown hgrow (by simp; omega) (fun g hg => .inl (hgo g hg)))
      have hp5' : PS C w5' j4 c 0 0 := hp4'.low hErb (((Fr.refl B [] w4').alloc hB4 _).grown hgrow (by simp; omega) (fun g hg => .inl (hgo g hg)))
      have hb5 : w5'.heap[cb]? = some (.cells #[sv nm, Value.slice ao vs.length cap, r] 28 (0, 0)) := by
       rw [hgrow.block cb (by simp; omega) (fun e1 => by have := hgo _ e1.symm; omega)]; exact hA4.at_
      obtain ⟨y5, zy5⟩ := cel hb5 1 (Value.slice ao vs.length cap) rfl)
   | (go_simp
      go_at_call 99
      refine (variable_any hp3' kd).mono ?_
      rintro e1 w4' h4
      rcases h4.cases with ⟨f, hr4, q, rfl, hq⟩ | ⟨⟨a4, j4⟩, v4, hr4, rfl, ⟨hv4, hp4'⟩, hf4'⟩
      ·exact ⟨rfl, by rw [(HSE _ hr4).out]; exact Thrown.x ⟨q, rfl, hq⟩ ((hF2.mono hEB (by simp)).drew) hB2' (by simp)⟩
      subst hv4
      have hU4 := hU2.carry hX hne' (hdr.wide.up hf4')
      have hF4 : Fr w.heap.size [C.rb] w w4' := hF2.up (hdr.wide.up hf4')
      have hx4 := HCX.out _ _ hx hba hF4
      obtain ⟨y4, zy4⟩ := cel hU4.at_ 1 (Value.slice ao vs.length cap) rfl
      have hl4 := lt_of_block hU4.at_
      have hB4 : B ≤ w4'.heap.size := Nat.le_trans hEB hF4.size
      have hj4 := variable_lt hr4.out
      have hal : Fr w4'.heap.size [] w4' (w4'.alloc (.cells #[.int .i64 a4.kind, .string ⟨a4.name.toArray⟩, .int .i64 a4.first] 33)) := (Fr.refl _ _ _).alloc (Nat.le_refl _) _
      have hA4 := hU4.carry (X := []) (by simp) (by simp) hal
      simp only [sv] at hA4 ⊢))
 all_goals
  go_wp2_with fail
  go_ret
  rw [(HSO _ _ hr4).out]
  have hF6 := hF5.setCell (p := ⟨cb, 1, none⟩) (.inr (by simp)) (.slice (some ⟨gg, 0, none⟩) (vs.length + 1) cap')
  exact ⟨_, rfl, ⟨rfl, by omega, by simp; omega, by omega, hp5'.put hEnc _ _, hE.low hF6, _, _, _, _, hU5⟩, hF6⟩
set_option maxRecDepth 100000 in
set_option maxHeartbeats 8000000 in
theorem chart1_reg {C : Ctx} {B ba cb : Nat} {w : World} {i c : Nat} {nm : Str} {vs : List Decl} {rs : List (List (St 6))} (h : PS C w i c 0 0) (hE : CE C B ba cb w) (hU : CUx B cb w nm vs rs) (hv : vs.length ≤ 20) (hr : rs.length ≤ i) (hk : kindOf (tx C.L i) = 0) (hn : tx C.L i = kRegion) : Calls Tryz.prog 95 #[.pointer (some ⟨ba, 0, none⟩), .pointer (some ⟨cb, 0, none⟩)] w (OutX B [C.rb, cb] (ItOk C B ba cb i c nm vs rs) w (stepI C.L vs rs c i)) := by
 have _ := hv
 have _ := hr
 obtain ⟨v, r, xv, xr, hU⟩ := hU
 have hl6 := h.wf.len
 have hil := h.lt
 have hx := hE.a
 have hba : ba < w.heap.size := Nat.lt_of_lt_of_le hE.la hE.hB
 have hEB := hE.hB
 have hErb := hE.lr
 have hEcb := hE.lc
 have hEnc := hE.nc
 have hEna := hE.na
 have hEac := hE.nac
 have hne' : cb ∉ [C.rb] := by simp; omega
 have hX : ∀ x ∈ [C.rb], x < B := by simp; omega
 have HCX : Hid (∀ (W W' : World), W.cell? ⟨ba, 0, none⟩ = some (.pointer (some ⟨C.rb, 0, none⟩)) → ba < W.heap.size → Fr W.heap.size [C.rb] W W' → W'.cell? ⟨ba, 0, none⟩ = some (.pointer (some ⟨C.rb, 0, none⟩))) := fun W W' h1 h2 hf => by rw [hf.cell (p := ⟨ba, 0, none⟩) h2 (by simp; omega)]; exact h1
 obtain ⟨tb, htb⟩ : ∃ tb : ByteArray, Hid (bs tb = tx C.L i) := ⟨⟨(tx C.L i).toArray⟩, rfl⟩
 obtain ⟨i0, hi, hz0, hz1', hz2⟩ := info_parts Tryz.info64
 have hk0 : Hid (kindOf (bs tb) = 0) := by rw [Hid, htb.out]; exact hk
 have HY : Hid (tx C.L i = bs ⟨#[114, 101, 103, 105, 111, 110]⟩) := hn
 have HSE : ∀ f, Hid (region C.L 6 c (i + 1) = .error f) → Hid (stepI C.L vs rs c i = .error f) := fun f hr => by rw [Hid, stepI, if_neg (by rw [hk]; simp), if_pos hn, hr.out]
 have HSO : ∀ x c' j, Hid (region C.L 6 c (i + 1) = .ok (x, c', j)) → Hid (stepI C.L vs rs c i = .ok (some (vs, rs ++ [x], c', j))) := fun x c' j hr => by rw [Hid, stepI, if_neg (by rw [hk]; simp), if_pos hn, hr.out]
 have hor : w.ownsRow B 64 1 r rs.length xr := hU.good.own (sReg 6 rs r xr) (by simp)
 obtain ⟨ao, cap, rfl⟩ := owns_shape hor
 clear hk hn
 go_enter Tryz.func95, Tryz.ntmps95
 go_upto_region 8 with (first
  | (go_at_call 97; refine (text_is h tb htb).mono ?_; rintro e1 w1 ⟨rfl, hp1, hf1⟩; have hx1 := HCX.out _ _ hx hba hf1.wide; have hz1 := hf1.size)
  | (go_at_call 96; refine (kindOf_is hp1 tb 0 hk0).mono ?_; rintro e1 w2 ⟨rfl, hw2⟩; obtain rfl := hw2.symm)
  | (go_at_call 100; refine (take_yes hp1 ⟨#[114, 101, 103, 105, 111, 110]⟩ HY.out (by decide)).mono ?_; rintro e1 w2 ⟨rfl, hp2, hf2⟩; have hF2 := (hf1.wide (X := [C.rb])).up hf2; have hU2 := hU.carry hX hne' hF2; have hx2 := HCX.out _ _ hx hba hF2; obtain ⟨y2, -⟩ := cel hU2.at_ 2 (Value.slice ao rs.length cap) rfl; have hB2 := hF2.size))
 have hdr : Fr w2.heap.size [] w2 w2.drew := (Fr.refl _ _ _).drew
 have hp3' := hp2.same hdr
 have hB2' : B ≤ w2.heap.size := Nat.le_trans hEB hF2.size
 go_region_law
  (first
   | (refine step_append_lies _ (by rfl) _ _ _ (by rfl) B 64 i0 _ 1 24 Tryz.underlying26 hi hz0 hz1' hz2 rfl (by omega) (Value.slice ao rs.length cap) rs.length xr (by rfl) (hA4.good.own (sReg 6 rs _ xr) (by simp))
         ⟨w4'.heap.size, 0, none⟩ 1 1 [.slice ao4 n4 cap4] (by rfl) (by rfl) (cell_one_new w4' _ 64) (by intro u hu; simp at hu; subst hu; rfl)
         (by omega) (by unfold maxLen; omega) (by omega) (by simp; omega) (w4'.heap.size + 1) (by simp) ?_
      intro gg cap' w5' hown5 hgrow hat hlt5
      have hgo : ∀ g, (Value.slice ao rs.length cap).ownBlock = some g → B ≤ g := fun g hg => ((hA4.good.own (sReg 6 rs _ xr) (by simp)).lt g hg).1
      have hU5 := CU.grow_regions (a := a4) (u := .slice ao4 n4 cap4) hA4 hEcb hB2' hU2.lts (IsStates.carry (keepX (X := []) (by simp) hal) 6 _ _ hv4) (by rw [List.length_append]; exact hown5) hgrow (by rcases hat with e1 | e1; exact .inl e1.symm; exact .inr (by rw [e1]; simp [Value.ownBlock]))
      have hF5 : Fr B [C.rb, cb] w w5' := (((hF4.mono hEB (by simp)).alloc hB4 _).grown hgrow (by simp; omega) (fun g hg => .inl (hgo g hg)))
      have hp5' : PS C w5' j4 c4 0 0 := hp4'.low hErb (((Fr.refl B [] w4').alloc hB4 _).grown hgrow (by simp; omega) (fun g hg => .inl (hgo g hg)))
      have hb5 : w5'.heap[cb]? = some (.cells #[sv nm, v, Value.slice ao rs.length cap] 28 (0, 0)) := by
       rw [hgrow.block cb (by simp; omega) (fun e1 => by have := hgo _ e1.symm; omega)]; exact hA4.at_
      obtain ⟨y5, zy5⟩ := cel hb5 2 (Value.slice ao rs.length cap) rfl)
   | (go_simp
      go_at_call 101
      refine (region_any 6 _ (i + 1) c 0 rfl hp3').mono ?_
      rintro e1 w4' h4
      rcases h4.cases with ⟨f, hr4, q, rfl, hq⟩ | ⟨⟨a4, c4, j4⟩, v4, hr4, rfl, ⟨hv4, hp4'⟩, hf4'⟩
      ·exact ⟨rfl, by rw [(HSE _ hr4).out]; exact Thrown.x ⟨q, rfl, hq⟩ ((hF2.mono hEB (by simp)).drew) hB2' (by simp)⟩
      obtain ⟨ao4, n4, cap4, rfl⟩ := IsStates.shape hv4
      have hU4 := hU2.carry hX hne' (hdr.wide.up hf4')
      have hF4 : Fr w.heap.size [C.rb] w w4' := hF2.up (hdr.wide.up hf4')
      have hx4 := HCX.out _ _ hx hba hF4
      obtain ⟨y4, zy4⟩ := cel hU4.at_ 2 (Value.slice ao rs.length cap) rfl
      have hl4 := lt_of_block hU4.at_
      have hB4 : B ≤ w4'.heap.size := Nat.le_trans hEB hF4.size
      have hj4 := region_lt _ _ _ _ _ _ hr4.out
      have hal : Fr w4'.heap.size [] w4' (w4'.alloc (.cells #[.slice ao4 n4 cap4] 64)) := (Fr.refl _ _ _).alloc (Nat.le_refl _) _
      have hA4 := hU4.carry (X := []) (by simp) (by simp) hal))
 all_goals
  go_wp2_with fail
  go_ret
  rw [(HSO _ _ _ hr4).out]
  have hF6 := hF5.setCell (p := ⟨cb, 2, none⟩) (.inr (by simp)) (.slice (some ⟨gg, 0, none⟩) (rs.length + 1) cap')
  exact ⟨_, rfl, ⟨rfl, by omega, by omega, by simp; omega, hp5'.put hEnc _ _, hE.low hF6, _, _, _, _, hU5⟩, hF6⟩
theorem chart1_any {C : Ctx} {B ba cb : Nat} {w : World} {i c : Nat} {nm : Str} {vs : List Decl} {rs : List (List (St 6))} (h : PS C w i c 0 0) (hE : CE C B ba cb w) (hU : CUx B cb w nm vs rs) (hv : vs.length ≤ 20) (hr : rs.length ≤ i) : Calls Tryz.prog 95 #[.pointer (some ⟨ba, 0, none⟩), .pointer (some ⟨cb, 0, none⟩)] w (OutX B [C.rb, cb] (ItOk C B ba cb i c nm vs rs) w (stepI C.L vs rs c i)) := by
 by_cases hk : kindOf (tx C.L i) ≠ 0
 ·by_cases hf : 20 ≤ vs.length
  ·exact chart1_full h hE hU hv hr hk hf
  ·exact chart1_var h hE hU hv hr hk hf
 ·have hk' : kindOf (tx C.L i) = 0 := by simpa using hk
  by_cases hn : tx C.L i = kRegion
  ·exact chart1_reg h hE hU hv hr hk' hn
  ·exact chart1_none h hE hU hv hr hk' hn
end Go.Proofs.YtpogmfliojcnjaaGreatDoor
