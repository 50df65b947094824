/- The runner's New: a chart ahead of its first tick. -/
import Derived.Test.YtiihgnagjemikaaGreatDoorVUj5
import Derived.Test.YtiihgnagjemikaaGreatDoorVUn2
import Derived.Test.YtiihgnagjemikaaGreatDoorVCc
import Derived.Test.YtiihgnagjemikaaGreatDoorVUk
import Derived.Test.YtiihgnagjemikaaGreatDoorVCe2
import Derived.Test.YtiihgnagjemikaaGreatDoorVUj2
import Derived.Lib.FieldsP
import Derived.Lib.SplitLaws
import Derived.Lib.CutLaws
import Derived.Lib.ParseIntBTie
import Derived.Lib.ItoaNum
import Derived.Lib.SpaceUEq
import Derived.Lib.FieldsLaws
namespace Go.Proofs.YtiihgnagjemikaaGreatDoor
open Go.RowKit Px

theorem mkmapE (M : Int) (w : World) : (Instr.makeMap 91 (some (.int .i64 M))).run Tryz.prog w = .ok (.map (some w.heap.size)) (w.alloc (.map #[] 0)) := by kernel_rfl
theorem MapE.ns {w : World} {b m : Nat} {ns ns' : List Str} {f : Str → Int} (h : MapE w b m ns f) (hs : ∀ s, s ∈ ns ↔ s ∈ ns') : MapE w b m ns' f := by
  obtain ⟨D, h1, h2, h3, h4, h5⟩ := h
  exact ⟨D, h1, h2, fun s hs' => h3 s ((hs s).2 hs'), fun s h => (hs s).1 (h4 s h), h5⟩
theorem firstE_take {vs : List Decl} {k : Nat} {v : Decl} (h : vs[k]? = some v) : firstE (vs.take (k + 1)) = updE (firstE (vs.take k)) v.name v.first := by
  unfold firstE
  rw [List.take_add_one, h, List.foldl_append]
  rfl
/-- what is made is a chart that runs -/
theorem rn_new {A : Nat → Prop} {w wr w3 w4 w5 : World} {c : Chart} {vv : Value} {bn m cap4 gI : Nat} {ad4 : Option Addr} {gr rol : Nat → Nat} (hA : ∀ b, A b → b < w.heap.size) (hV : IsVars A w c.vars vv) (hb : Below w.heap.size w wr) (hbn : w.heap.size ≤ bn) (hm : m ≤ 1000000)
    (hcl : MapE w3 wr.heap.size m (vnames c.vars) (firstE c.vars)) (hcn : MapE w3 bn m (vnames c.vars) (firstE c.vars)) (hbl : bn < wr.heap.size) (hb3 : Below wr.heap.size wr w3) (hL : LaidR A 6 w3 w4 c.regions ad4 gI gr rol) (hb4 : Below w3.heap.size w3 w4)
    (h5 : w5 = w4.alloc (.cells #[vv, .map (some bn), .map (some wr.heap.size), .slice ad4 c.regions.length cap4] 96)) :
    (∃ Q x, RnM A w5 c (newC c) w4.heap.size Q x ∧ ∀ b, Q b → w.heap.size ≤ b) ∧ Below w.heap.size w w5 := by
  have hb5 : Below w4.heap.size w4 w5 := by rw [h5]; exact ck_grown _ _
  have hbw : Below w.heap.size w w5 := ck_all (ck_all (ck_all hb hb3) hb4) hb5
  have s5 : w5.heap.size = w4.heap.size + 1 := by rw [h5]; simp
  have s1 := hb.size; have s3 := hb3.size; have s4 := hb4.size
  have lw : wr.heap.size < w3.heap.size := hcl.lt
  refine ⟨⟨fun b => w.heap.size ≤ b ∧ b < w5.heap.size, ⟨bn, wr.heap.size, m, gI, gr, fun b => if b = w4.heap.size then 0 else if b = bn then 1 else if b = wr.heap.size then 2 else 3 + rol b⟩, ?_, fun b hb' => hb'.1⟩, hbw⟩
  have hgI : 0 < c.regions.length → (if gI = w4.heap.size then 0 else if gI = bn then 1 else if gI = wr.heap.size then 2 else 3 + rol gI) = 3 := fun hp => by
    obtain ⟨_, q1, q2, q3⟩ := hL.had hp
    rw [if_neg (by omega), if_neg (by omega), if_neg (by omega), q3]
  refine ⟨⟨vv, ad4, cap4, by rw [h5]; exact ck_new _ _, hV.carry fun b hb' hlt => ⟨hb', hbw.block b hlt⟩, fun hp => ⟨(hL.had hp).1, ⟨?_, ?_⟩, hgI hp⟩⟩, (hcn.below hb4).below hb5, (hcl.below hb4).below hb5, hm, ⟨⟨?_, ?_⟩, if_pos rfl⟩, ⟨⟨hbn, ?_⟩, ?_⟩, ⟨⟨?_, ?_⟩, ?_⟩, fun b hb' => ⟨?_, ?_⟩, fun b hb' => hb'.2, ?_, fun j L d hj hd => ?_⟩
  · show w.heap.size ≤ gI; have := (hL.had hp).2.1; omega
  · show gI < _; have := (hL.had hp).2.2.1; omega
  · omega
  · omega
  · show bn < _; omega
  · show (if bn = w4.heap.size then 0 else if bn = bn then 1 else _) = 1
    rw [if_neg (by omega), if_pos rfl]
  · show w.heap.size ≤ wr.heap.size; omega
  · show wr.heap.size < _; omega
  · show (if wr.heap.size = w4.heap.size then 0 else if wr.heap.size = bn then 1 else if wr.heap.size = wr.heap.size then 2 else _) = 2
    rw [if_neg (by omega), if_neg (by omega), if_pos rfl]
  · have := hA b hb'; omega
  · rintro ⟨h1, _⟩; have := hA b hb'; omega
  · show (List.map _ _).length = _; rw [List.length_map]
  · have hd' : (c.regions.map (layD 6))[j]? = some d := hd
    rw [List.getElem?_map, hj] at hd'
    injection hd' with hd'
    subst hd'
    obtain ⟨q1, q2⟩ := hL.reg j L hj
    refine ⟨ck_cell hb5 q1, RegM.mono 6 (fun b hb' => ⟨⟨?_, ?_⟩, ?_⟩) (RegM.keep 6 q2 (fun b hb' hlt => hb5.block b hlt) (fun b hb' => hb5.block b hb'.2.1))⟩
    · have := hb'.1; omega
    · have := hb'.2.1; omega
    · have h1 := hb'.1; have h2 := hb'.2.1
      show (if b = w4.heap.size then 0 else if b = bn then 1 else if b = wr.heap.size then 2 else 3 + rol b) = 4 + j
      rw [if_neg (by omega), if_neg (by omega), if_neg (by omega), hb'.2.2]; omega
set_option maxRecDepth 100000 in
set_option maxHeartbeats 16000000 in
theorem New_any {A : Nat → Prop} {w : World} {c : Chart} {v : Value} (h : IsChart A w c v) (hN : NmChart c) (hok : checkC c = none) (hA : ∀ b, A b → b < w.heap.size) (h64 : ∀ v ∈ c.vars, N64 v.first) (hrl : c.regions.length ≤ 1000000) (hlay : ∀ r ∈ c.regions, LayR 6 r) :
    Calls Tryz.prog 19 #[v] w fun e w' => ∃ rb, e = .returned (.tuple #[.pointer (some ⟨rb, 0, none⟩), .nilIface]) ∧ Hid ((∃ Q x, RnM A w' c (newC c) rb Q x ∧ ∀ b, Q b → w.heap.size ≤ b) ∧ Below w.heap.size w w') := by
  obtain ⟨a0, n0, m0, a1, n1, m1, rfl, hV, hR⟩ := h
  obtain ⟨S, hS⟩ : ∃ S, Value.string S = sv c.name := ⟨_, rfl⟩
  rw [← hS]
  obtain ⟨ad, g, cap, ev, hmx, hg, hcs⟩ := hV.open2
  injection ev with e1 e2 e3
  subst e1
  subst e3
  obtain ⟨X, hX⟩ : ∃ X, X = w.alloc (.cells #[.string S, .slice a0 n0 m0, .slice a1 n1 m1] 35) := ⟨_, rfl⟩
  obtain ⟨cb, hcb⟩ : ∃ cb, cb = w.heap.size := ⟨_, rfl⟩
  have hkx : X.heap[cb]? = some (.cells #[.string S, .slice a0 n0 m0, .slice a1 n1 m1] 35 (0, 0)) := by rw [hX, hcb]; exact ck_new _ _
  have hbx : Below w.heap.size w X := by rw [hX]; exact ck_grown _ _
  have hchk : Calls Tryz.prog 18 #[.agg #[.string S, .slice a0 n0 m0, .slice a1 n1 m1]] X fun e w' => e = .returned .nilIface ∧ Hid (Below X.heap.size X w') := by
    refine (check_any (A := A) (w := X) (c := c) ⟨a0, n0, m0, a1, n1, m1, by rw [hS], hV.carry fun b hb hlt => ⟨hb, hbx.block b hlt⟩, hR.carry (fun b hb hlt => ⟨hb, hbx.block b hlt⟩) (IsStates.carry (fun b hb hlt => ⟨hb, hbx.block b hlt⟩) 6)⟩ hN).mono ?_
    rintro e w' ⟨hb, hh⟩
    rcases hh with ⟨_, he⟩ | ⟨c', hc, _⟩ | ⟨c', p', g', hc, _⟩
    · exact ⟨he, hb⟩
    · rw [hok] at hc; cases hc
    · rw [hok] at hc; cases hc
  have HC : Hid (∀ W, Below X.heap.size X W → W.cell? ⟨cb, 1, none⟩ = some (.slice a0 n0 m0) ∧ W.cell? ⟨cb, 2, none⟩ = some (.slice a1 n1 m1)) := fun W hW => ⟨ck_cell hW (cell_row hkx 1 rfl), ck_cell hW (cell_row hkx 2 rfl)⟩
  have HB : Hid (Below w.heap.size w X) := hbx
  have HN0 : Hid (n0 = c.vars.length) := e2
  have HNm : Hid (NmChart c) := hN
  have HA : Hid (∀ b, A b → b < w.heap.size) := hA
  have H64 : Hid (∀ v ∈ c.vars, N64 v.first) := h64
  have HV : Hid (IsVars A w c.vars (.slice a0 n0 m0)) := hV
  have HG : Hid (0 < n0 → a0 = some ⟨g, 0, none⟩) := fun hp => (hg (by omega)).1
  have HCS : Hid (∀ (i : Nat) (a : Decl), c.vars[i]? = some a → w.cell? ⟨g, i * 3, none⟩ = some (.int .i64 (a.kind : Int)) ∧ w.cell? ⟨g, i * 3 + 1, none⟩ = some (sv a.name) ∧ w.cell? ⟨g, i * 3 + 2, none⟩ = some (.int .i64 a.first)) := hcs
  have HLA : Hid (∀ W, Below w.heap.size w W → Calls Tryz.prog 37 #[.slice a1 n1 m1] W fun e w' => ∃ ad n cap, e = .returned (.slice ad n cap) ∧ Hid (n = c.regions.length ∧ (∃ gI gr rol, LaidR A 6 W w' c.regions ad gI gr rol) ∧ Below W.heap.size W w')) := fun W hW => layAll_any (lay_ok A 6) (fun b hb => Nat.lt_of_lt_of_le (hA b hb) hW.size) (hR.carry (fun b hb hlt => ⟨hb, hW.block b hlt⟩) (IsStates.carry (fun b hb hlt => ⟨hb, hW.block b hlt⟩) 6)) hlay hrl
  have hn6 : (n0 : Int) ≤ 1000000 := by have := hN.vars; omega
  have hmm := mkmapE (n0 : Int)
  clear hN hok hA h64 hrl hlay hV hR hg hcs hkx hbx e2 hmx hS
  go_enter Tryz.func19, Tryz.ntmps19
  go_upto_region 1 with fail
  rw [← hX, ← hcb]
  have c0 : X.cell? ⟨cb, 0, none⟩ = some (.string S) := by rw [hX, hcb]; exact cell_row (ck_new _ _) 0 rfl
  obtain ⟨c1, c2⟩ := HC.out X (Below.refl _ _)
  have HCB : Hid (cb = w.heap.size) := hcb
  clear hX hcb
  go_wp2_with (refine hchk.mono ?_; rintro e w1 ⟨rfl, hb1⟩; obtain ⟨d1, d2⟩ := HC.out w1 hb1.out; obtain ⟨d3, d4⟩ := HC.out (w1.alloc (.map #[] 0)) (ck_all hb1.out (ck_grown _ _)))
  have HB1 : Hid (Below w.heap.size w w1 ∧ Below X.heap.size X w1) := ⟨ck_all HB.out hb1.out, hb1.out⟩
  have HM0 : Hid (MapE (w1.alloc (.map #[] 0)) w1.heap.size 0 [] (fun _ => 0)) := mapE_made w1
  clear hchk c0 c1 c2 d1 d2 d3 d4 hmm hb1
  obtain ⟨W2, hW2⟩ : ∃ W2, W2 = w1.alloc (.map #[] 0) := ⟨_, rfl⟩
  obtain ⟨bn, hbn⟩ : ∃ bn, bn = w1.heap.size := ⟨_, rfl⟩
  rw [← hW2, ← hbn] at HM0 ⊢
  have HB2 : Hid (Below w1.heap.size w1 W2 ∧ bn = w1.heap.size) := ⟨by rw [hW2]; exact ck_grown _ _, hbn⟩
  clear hW2 hbn
  go_loopg [20] n0 (fun f iv wr => ∃ k : Nat, f = n0 - k ∧ k ≤ n0 ∧ iv = .int .i64 (k : Int) ∧ Hid (MapE wr bn k (vnames (c.vars.take k)) (firstE (c.vars.take k)) ∧ Below w1.heap.size w1 wr))
  case atStart => exact ⟨0, by omega, by omega, rfl, HM0.out, HB2.out.1⟩
  case round =>
    clear HM0
    obtain ⟨k, rfl, hk, rfl, hr⟩ := hrel
    by_cases hlt : k < n0
    · obtain ⟨v, hv⟩ : ∃ v, c.vars[k]? = some v := ⟨c.vars[k]'(by rw [← HN0.out]; exact hlt), by rw [List.getElem?_eq_getElem]⟩
      obtain ⟨c0, c1, c2⟩ := HCS.out k v hv
      have hbw := ck_all HB1.out.1 hr.out.2
      have c0 := ck_cell hbw c0
      have c1 := ck_cell hbw c1
      have c2 := ck_cell hbw c2
      have hix := ixV a0 g n0 m0 k hlt HG.out
      obtain ⟨T, hT⟩ : ∃ T, Value.string T = sv v.name := ⟨_, rfl⟩
      obtain ⟨kd, hkd⟩ : ∃ kd : Int, kd = (v.kind : Int) := ⟨_, rfl⟩
      obtain ⟨fi, hfi⟩ : ∃ fi : Int, fi = v.first := ⟨_, rfl⟩
      rw [← hkd] at c0
      rw [← hT] at c1
      rw [← hfi] at c2
      have hbo : Below wr.heap.size wr (wr.alloc (.cells #[.int .i64 kd, .string T, .int .i64 fi] 86)) := ck_grown _ _
      obtain ⟨W3, hrun, hM3, hg3⟩ := (hr.out.1.below hbo).add (by omega) (HNm.out.names v (List.mem_of_getElem? hv)) (H64.out v (List.mem_of_getElem? hv))
      rw [← hT, ← hfi] at hrun
      have HE : Hid (MapE W3 bn (k + 1) (vnames (c.vars.take (k + 1))) (firstE (c.vars.take (k + 1))) ∧ Below w1.heap.size w1 W3) := by
        refine ⟨?_, (ck_all hr.out.2 hbo).grown hg3 (ck_all hr.out.2 hbo).size (fun b hb => by cases hb; rw [HB2.out.2]; exact Nat.le_refl _)⟩
        rw [firstE_take hv]
        refine hM3.ns fun s => ?_
        unfold vnames
        rw [List.take_add_one, hv, List.map_append]
        simp [or_comm]
      clear hr hv hbw hT hkd hfi hbo hM3 hg3
      go_wp2_with fail
      go_roundg (n0 - (k + 1))
      case measure => omega
      case rel => exact ⟨k + 1, by omega, by omega, by go_num, HE.out⟩
    · have ek : n0 = k := by omega
      subst ek
      have hM : MapE wr bn n0 (vnames c.vars) (firstE c.vars) := by have h := hr.out.1; rw [HN0.out, List.take_length] at h; rw [HN0.out]; exact h
      have hbX : Below X.heap.size X wr := ck_all HB1.out.2 hr.out.2
      have hbw : Below w.heap.size w wr := ck_all HB1.out.1 hr.out.2
      have hclone := mclone_any (w := wr.drew) (b := bn) (m := n0) (ns := vnames c.vars) (f := firstE c.vars) hM
      obtain ⟨c1, c2⟩ := HC.out wr.drew hbX.drew
      have HF : Hid (∀ w3 w4 ad4 n4 cap4, (MapE w3 wr.heap.size n0 (vnames c.vars) (firstE c.vars) ∧ MapE w3 bn n0 (vnames c.vars) (firstE c.vars) ∧ Below wr.heap.size wr w3) → (n4 = c.regions.length ∧ (∃ gI gr rol, LaidR A 6 w3 w4 c.regions ad4 gI gr rol) ∧ Below w3.heap.size w3 w4) → (∃ Q x, RnM A (w4.alloc (.cells #[.slice a0 n0 m0, .map (some bn), .map (some wr.heap.size), .slice ad4 n4 cap4] 96)) c (newC c) w4.heap.size Q x ∧ ∀ b, Q b → w.heap.size ≤ b) ∧ Below w.heap.size w (w4.alloc (.cells #[.slice a0 n0 m0, .map (some bn), .map (some wr.heap.size), .slice ad4 n4 cap4] 96))) := by
        rintro w3 w4 ad4 n4 cap4 ⟨p1, p2, p3⟩ ⟨q1, ⟨gI, gr, rol, q2⟩, q3⟩
        subst q1
        exact rn_new HA.out HV.out hbw (by rw [HB2.out.2]; exact HB1.out.1.size) (by omega) p1 p2 hM.lt p3 q2 q3 rfl
      have HK : Hid (∀ W, Below wr.heap.size wr W → Below X.heap.size X W ∧ Below w.heap.size w W) := fun W hW => ⟨ck_all hbX hW, ck_all hbw hW⟩
      have HD : Hid (∀ W, Below wr.drew.heap.size wr.drew W → Below wr.heap.size wr W) := fun W hW => ck_all ((Below.refl _ _).drew) hW
      clear hr hM hbX hbw
      go_upto_region 10 with fail
      go_region_held3 (fun W => W.cell? ⟨cb, 1, none⟩ = some (.slice a0 n0 m0) ∧ W.cell? ⟨cb, 2, none⟩ = some (.slice a1 n1 m1)) (first | with_reducible exact HQ5.out | with_reducible exact HQ4.out | with_reducible exact HQ3.out | go_keep)
        (first
          | (go_at_call 36; refine hclone.mono ?_; rintro e w3 ⟨rfl, hcl⟩; have hb3 : Below wr.heap.size wr w3 := HD.out w3 hcl.out.2.2; have HQ3 : Hid (w3.cell? ⟨cb, 1, none⟩ = some (.slice a0 n0 m0) ∧ w3.cell? ⟨cb, 2, none⟩ = some (.slice a1 n1 m1)) := HC.out w3 (HK.out w3 hb3).1; have hlay3 := HLA.out w3 (HK.out w3 hb3).2)
          | (go_at_call 37; refine hlay3.mono ?_; rintro e w4 ⟨ad4, n4, cap4, rfl, hla4⟩; have hb4 : Below wr.heap.size wr w4 := ck_all hb3 hla4.out.2.2; have HQ4 : Hid (w4.cell? ⟨cb, 1, none⟩ = some (.slice a0 n0 m0) ∧ w4.cell? ⟨cb, 2, none⟩ = some (.slice a1 n1 m1)) := HC.out w4 (HK.out w4 hb4).1; have HQ5 : Hid ((w4.alloc (.cells #[.slice a0 n0 m0, .map (some bn), .map (some wr.heap.size), .slice ad4 n4 cap4] 96)).cell? ⟨cb, 1, none⟩ = some (.slice a0 n0 m0) ∧ (w4.alloc (.cells #[.slice a0 n0 m0, .map (some bn), .map (some wr.heap.size), .slice ad4 n4 cap4] 96)).cell? ⟨cb, 2, none⟩ = some (.slice a1 n1 m1)) := HC.out _ (HK.out _ (ck_all hb4 (ck_grown _ _))).1))
      all_goals
        go_wp2_with fail
        go_ret2
        exact ⟨_, rfl, HF.out w3 w4 ad4 n4 cap4 ⟨hcl.out.1, hcl.out.2.1, hb3⟩ hla4.out⟩
end Go.Proofs.YtiihgnagjemikaaGreatDoor
/- The runner's New: a chart that may not be: check's error is handed on. -/
namespace Go.Proofs.YtiihgnagjemikaaGreatDoor
open Go.RowKit Px

set_option maxRecDepth 100000 in
set_option maxHeartbeats 16000000 in
theorem New_bare {A : Nat → Prop} {w : World} {c : Chart} {v : Value} {o : Nat} (h : IsChart A w c v) (hN : NmChart c) (hbad : checkC c = some (o, none)) :
    Calls Tryz.prog 19 #[v] w fun e w' => e = .returned (.tuple #[.pointer none, .iface 46 (.int .i64 ((o : Nat) : Int))]) ∧ Hid (Below w.heap.size w w') := by
  obtain ⟨a0, n0, m0, a1, n1, m1, rfl, hV, hR⟩ := h
  obtain ⟨S, hS⟩ : ∃ S, Value.string S = sv c.name := ⟨_, rfl⟩
  rw [← hS]
  obtain ⟨X, hX⟩ : ∃ X, X = w.alloc (.cells #[.string S, .slice a0 n0 m0, .slice a1 n1 m1] 35) := ⟨_, rfl⟩
  obtain ⟨cb, hcb⟩ : ∃ cb, cb = w.heap.size := ⟨_, rfl⟩
  have hkx : X.heap[cb]? = some (.cells #[.string S, .slice a0 n0 m0, .slice a1 n1 m1] 35 (0, 0)) := by rw [hX, hcb]; exact ck_new _ _
  have hbx : Below w.heap.size w X := by rw [hX]; exact ck_grown _ _
  have hchk : Calls Tryz.prog 18 #[.agg #[.string S, .slice a0 n0 m0, .slice a1 n1 m1]] X fun e w' => e = .returned (.iface 46 (.int .i64 ((o : Nat) : Int))) ∧ Hid (Below w.heap.size w w') := by
    refine (check_any (A := A) (w := X) (c := c) ⟨a0, n0, m0, a1, n1, m1, by rw [hS], hV.carry fun b hb hlt => ⟨hb, hbx.block b hlt⟩, hR.carry (fun b hb hlt => ⟨hb, hbx.block b hlt⟩) (IsStates.carry (fun b hb hlt => ⟨hb, hbx.block b hlt⟩) 6)⟩ hN).mono ?_
    rintro e w' ⟨hb, hh⟩
    rw [hbad] at hh
    rcases hh with ⟨hc, _⟩ | ⟨c', hc, he⟩ | ⟨c', p', g', hc, he⟩
    · cases hc
    · injection hc with hc
      injection hc with h1 _
      rw [h1]
      exact ⟨he, ck_all hbx hb⟩
    · injection hc with hc
      injection hc with _ h2
      cases h2
  have c0 : X.cell? ⟨cb, 0, none⟩ = some (.string S) := cell_row hkx 0 rfl
  have c1 : X.cell? ⟨cb, 1, none⟩ = some (.slice a0 n0 m0) := cell_row hkx 1 rfl
  have c2 : X.cell? ⟨cb, 2, none⟩ = some (.slice a1 n1 m1) := cell_row hkx 2 rfl
  have HS : Hid (w.heap.size ≤ X.heap.size) := hbx.size
  clear hN hbad hV hR hkx hbx hS
  go_enter Tryz.func19, Tryz.ntmps19
  go_upto_region 1 with fail
  rw [← hX, ← hcb]
  clear hX hcb
  go_wp2_with (refine hchk.mono ?_; rintro e w1 ⟨rfl, hb1⟩)
  go_ret2
  exact ⟨rfl, hb1.out⟩
set_option maxRecDepth 100000 in
set_option maxHeartbeats 16000000 in
theorem New_at {A : Nat → Prop} {w : World} {c : Chart} {v : Value} {o p : Nat} (h : IsChart A w c v) (hN : NmChart c) (hbad : checkC c = some (o, some p)) :
    Calls Tryz.prog 19 #[v] w fun e w' => ∃ g, e = .returned (.tuple #[.pointer none, .iface 45 (.pointer (some ⟨g, 0, none⟩))]) ∧ Hid (Below w.heap.size w w' ∧ w'.heap[g]? = some (.cells #[.int .i64 ((o : Nat) : Int), .int .i64 ((p : Nat) : Int)] 48 (0, 0)) ∧ w.heap.size ≤ g) := by
  obtain ⟨a0, n0, m0, a1, n1, m1, rfl, hV, hR⟩ := h
  obtain ⟨S, hS⟩ : ∃ S, Value.string S = sv c.name := ⟨_, rfl⟩
  rw [← hS]
  obtain ⟨X, hX⟩ : ∃ X, X = w.alloc (.cells #[.string S, .slice a0 n0 m0, .slice a1 n1 m1] 35) := ⟨_, rfl⟩
  obtain ⟨cb, hcb⟩ : ∃ cb, cb = w.heap.size := ⟨_, rfl⟩
  have hkx : X.heap[cb]? = some (.cells #[.string S, .slice a0 n0 m0, .slice a1 n1 m1] 35 (0, 0)) := by rw [hX, hcb]; exact ck_new _ _
  have hbx : Below w.heap.size w X := by rw [hX]; exact ck_grown _ _
  have hchk : Calls Tryz.prog 18 #[.agg #[.string S, .slice a0 n0 m0, .slice a1 n1 m1]] X fun e w' => ∃ g, e = .returned (.iface 45 (.pointer (some ⟨g, 0, none⟩))) ∧ Hid (Below w.heap.size w w' ∧ w'.heap[g]? = some (.cells #[.int .i64 ((o : Nat) : Int), .int .i64 ((p : Nat) : Int)] 48 (0, 0)) ∧ w.heap.size ≤ g) := by
    refine (check_any (A := A) (w := X) (c := c) ⟨a0, n0, m0, a1, n1, m1, by rw [hS], hV.carry fun b hb hlt => ⟨hb, hbx.block b hlt⟩, hR.carry (fun b hb hlt => ⟨hb, hbx.block b hlt⟩) (IsStates.carry (fun b hb hlt => ⟨hb, hbx.block b hlt⟩) 6)⟩ hN).mono ?_
    rintro e w' ⟨hb, hh⟩
    rw [hbad] at hh
    rcases hh with ⟨hc, _⟩ | ⟨c', hc, he⟩ | ⟨c', p', g', hc, he⟩
    · cases hc
    · injection hc with hc
      injection hc with _ h2
      cases h2
    · injection hc with hc
      injection hc with h1 h2
      injection h2 with h2
      rw [h1, h2]
      exact ⟨g', he.1, ck_all hbx hb, he.2.1, Nat.le_trans hbx.size he.2.2⟩
  have c0 : X.cell? ⟨cb, 0, none⟩ = some (.string S) := cell_row hkx 0 rfl
  have c1 : X.cell? ⟨cb, 1, none⟩ = some (.slice a0 n0 m0) := cell_row hkx 1 rfl
  have c2 : X.cell? ⟨cb, 2, none⟩ = some (.slice a1 n1 m1) := cell_row hkx 2 rfl
  have HS : Hid (w.heap.size ≤ X.heap.size) := hbx.size
  clear hN hbad hV hR hkx hbx hS
  go_enter Tryz.func19, Tryz.ntmps19
  go_upto_region 1 with fail
  rw [← hX, ← hcb]
  clear hX hcb
  go_wp2_with (refine hchk.mono ?_; rintro e w1 ⟨g, rfl, hb1⟩)
  go_ret2
  exact ⟨g, rfl, hb1.out⟩
end Go.Proofs.YtiihgnagjemikaaGreatDoor
/- A chart that may be may be laid, and may run; no program. -/
namespace Go.Proofs.YtiihgnagjemikaaGreatDoor
open Go.RowKit Px

theorem regF_first {ρ : Type} {vs : List Decl} {R : List ρ → Nat → Res} {l : List (StF ρ)} {n m : Nat} (h : regF vs R l n = .ok m) : firsts l = 1 := by
  unfold regF at h
  split at h
  · exact absurd h (by simp)
  · split at h
    · exact absurd h (by simp)
    · rename_i hw
      have hw : wholeE l = 0 := by omega
      unfold wholeE at hw
      split at hw
      · simp at hw
      · split at hw
        · simp at hw
        · omega
theorem sumC_ones {α : Type} {f : α → Nat} : ∀ {l : List α}, (∀ a ∈ l, 1 ≤ f a) → l.length ≤ sumC f l
  | [], _ => Nat.le_refl _
  | a :: r, h => by
    have h1 := h a (List.mem_cons_self ..)
    have h2 := sumC_ones (l := r) fun b hb => h b (List.mem_cons_of_mem _ hb)
    rw [sumC, List.length_cons]; omega
theorem regE_some {vs : List Decl} : ∀ {k : Nat} {l : List (St k)} {n m : Nat}, regE vs k l n = .ok m → 1 ≤ cRg k l
  | 0, l, n, m, h => by simp [regE] at h
  | k + 1, l, n, m, h => by
    have h1 := regF_first (show regF vs (regE vs k) l n = .ok m from h)
    have h2 : (List.filter (fun s : StF (St k) => s.first) l).length ≤ l.length := List.length_filter_le _ _
    have h3 : l.length ≤ cRg (k + 1) l := sumC_len (cIn (k + 1)) l
    unfold firsts at h1
    omega
theorem lay_of {vs : List Decl} : ∀ {k : Nat} {l : List (St k)} {n m : Nat}, regE vs k l n = .ok m → (∀ x ∈ l, NmSt k x) → cRg k l ≤ 1000000 → LayR k l
  | 0, l, n, m, h, _, _ => by simp [regE] at h
  | k + 1, l, n, m, h, hN, hc => by
    have hr := show regF vs (regE vs k) l n = .ok m from h
    obtain ⟨⟨o, _, hd, ht⟩, hs⟩ := regF_ok hr
    have h3 : l.length ≤ cRg (k + 1) l := sumC_len (cIn (k + 1)) l
    refine ⟨regF_first hr, hd, ht, by omega, fun s hs' => ?_⟩
    obtain ⟨hn, hi⟩ := hN s hs'
    obtain ⟨n1, _, _, _, _, n2, n3⟩ := hn
    have h4 : 1 + cIn (k + 1) s ≤ cRg (k + 1) l := sumC_mem (fun x : St (k + 1) => 1 + cIn (k + 1) x) hs'
    have h5 : cIn (k + 1) s = sumC (cRg k) (StF.regions s) := rfl
    obtain ⟨n', m', hq⟩ := hs s hs'
    have h6 : (StF.regions s).length ≤ sumC (cRg k) (StF.regions s) := sumC_ones fun r hr => by
      obtain ⟨n', m', hq'⟩ := regsE_ok hq r hr
      exact regE_some hq'
    refine ⟨n1, n3, by omega, fun y hy => (n2 y hy).1, fun r hr => ?_⟩
    obtain ⟨n', m', hq'⟩ := regsE_ok hq r hr
    have h7 := sumC_mem (cRg k) hr
    exact lay_of hq' (hi r hr) (by omega)
theorem check_lay {c : Chart} (h : checkC c = none) (hN : NmChart c) : (∀ r ∈ c.regions, LayR 6 r) ∧ c.regions.length ≤ 1000000 := by
  unfold checkC at h
  split at h
  · exact absurd h (by simp)
  · split at h
    · exact absurd h (by simp)
    · split at h
      · exact absurd h (by simp)
      · rename_i m hm
        refine ⟨fun r hr => ?_, ?_⟩
        · obtain ⟨n, m, hq⟩ := regsE_ok hm r hr
          have := sumC_mem (cRg 6) hr
          have := hN.many
          exact lay_of hq (hN.sts r hr) (by omega)
        · have := sumC_ones (f := cRg 6) (l := c.regions) fun r hr => by
            obtain ⟨n, m, hq⟩ := regsE_ok hm r hr
            exact regE_some hq
          have := hN.many
          omega
/-- the numbers of an expression fit -/
def NbOk : E → Prop
  | .nil => True
  | .node _ _ a l r => N64 a.num ∧ NbOk l ∧ NbOk r
def NbSets (l : List Asg) : Prop := ∀ a ∈ l, NbOk a.e
def NbStF {ρ : Type} (s : StF ρ) : Prop := NbSets s.enter ∧ NbSets s.during ∧ NbSets s.leave ∧ NbOk s.rests ∧ ∀ y ∈ s.ways, NbOk y.cond ∧ NbSets y.sets
def NbSt : (k : Nat) → St k → Prop
  | 0 => fun _ => True
  | k + 1 => fun s => NbStF s ∧ ∀ r ∈ StF.regions s, ∀ x ∈ r, NbSt k x
theorem NuOk.of : ∀ {e : E}, NmOk e → NbOk e → NuOk e
  | .nil, _, _ => trivial
  | .node _ _ _ _ _, h, k => ⟨h.1, k.1, NuOk.of h.2.1 k.2.1, NuOk.of h.2.2 k.2.2⟩
theorem fnd_mem {ns : List Str} {s : Str} (h : (fnd ns s).isNone = false) : s ∈ ns := by
  cases hf : fnd ns s with
  | none => rw [hf] at h; simp at h
  | some i =>
    obtain ⟨h1, h2, _⟩ := fnd_some hf
    rw [← h2, List.getD_eq_getElem?_getD, List.getElem?_eq_getElem h1]
    exact List.getElem_mem h1
theorem setsE_mem {vs : List Decl} : ∀ {l : List Asg}, setsE vs l = 0 → ∀ a ∈ l, setE vs a = 0
  | [], _, a, h => by simp at h
  | b :: r, h, a, ha => by
    rw [setsE] at h
    split at h
    · rename_i hb; exact absurd h hb
    · rename_i hb
      rcases List.mem_cons.1 ha with rfl | ha
      · omega
      · exact setsE_mem h a ha
theorem setsR_of {vs : List Decl} {l : List Asg} (h : setsE vs l = 0) (hn : NmSets l) (hb : NbSets l) : SetsR (vnames vs) l := fun a ha => by
  have h1 := setsE_mem h a ha
  unfold setE at h1
  split at h1
  · simp at h1
  · rename_i h2
    simp only [Bool.or_eq_true, not_or, Bool.not_eq_true] at h2
    exact ⟨fnd_mem h2.1, (hn a ha).1, NuOk.of (hn a ha).2 (hb a ha)⟩
theorem waysE_mem {vs : List Decl} {ns : List Str} {b : Bool} : ∀ {l : List Wy}, waysE vs ns b l = 0 → ∀ y ∈ l, wayE vs ns b y = 0
  | [], _, y, h => by simp at h
  | z :: r, h, y, hy => by
    rw [waysE] at h
    split at h
    · rename_i hb; exact absurd h hb
    · rename_i hb
      rcases List.mem_cons.1 hy with rfl | hy
      · omega
      · exact waysE_mem h y hy
theorem wayE_sets {vs : List Decl} {ns : List Str} {b : Bool} {y : Wy} (h : wayE vs ns b y = 0) : setsE vs y.sets = 0 := by
  unfold wayE at h
  split at h
  · simp at h
  · split at h
    · simp at h
    · split at h
      · simp at h
      · exact h
theorem aloneE_parts {ρ : Type} {vs : List Decl} {ns : List Str} {s : StF ρ} (h : aloneE vs ns s = 0) : setsE vs s.enter = 0 ∧ setsE vs s.during = 0 ∧ setsE vs s.leave = 0 ∧ ∃ b, waysE vs ns b s.ways = 0 := by
  unfold aloneE at h
  split at h
  · simp at h
  · split at h
    · rename_i hb; exact absurd h hb
    · split at h
      · rename_i hb; exact absurd h hb
      · split at h
        · rename_i hb; exact absurd h hb
        · split at h
          · simp at h
          · exact ⟨by omega, by omega, by omega, _, h⟩
theorem stR_of {ρ : Type} {vs : List Decl} {ns : List Str} {i : Nat} {s : StF ρ} (h : stateE vs ns i s = 0) (hn : NmStF s) (hb : NbStF s) (hr : s.regions.length ≤ maxLen) : StR (vnames vs) s := by
  unfold stateE at h
  split at h
  · simp at h
  · obtain ⟨a1, a2, a3, b, a4⟩ := aloneE_parts h
    obtain ⟨_, n1, n2, n3, n4, n5, n6⟩ := hn
    obtain ⟨b1, b2, b3, b4, b5⟩ := hb
    exact ⟨setsR_of a1 n1 b1, setsR_of a2 n2 b2, setsR_of a3 n3 b3, NuOk.of n4 b4, fun y hy => ⟨NuOk.of (n5 y hy).2.1 (b5 y hy).1, setsR_of (wayE_sets (waysE_mem a4 y hy)) (n5 y hy).2.2 (b5 y hy).2⟩, by unfold maxLen; omega, hr⟩
theorem stAll_of {vs : List Decl} : ∀ {k : Nat} {l : List (St k)} {n m : Nat}, regE vs k l n = .ok m → (∀ x ∈ l, NmSt k x) → (∀ x ∈ l, NbSt k x) → LayR k l → StAll (vnames vs) k l
  | 0, _, _, _, _, _, _, _ => trivial
  | k + 1, l, n, m, h, hN, hB, hL => by
    have hr := show regF vs (regE vs k) l n = .ok m from h
    obtain ⟨_, _, _, _, hl⟩ := hL
    intro s hs
    have hst : ∃ m', statesE vs (regE vs k) (snames (ρ := St k) l) l 0 n = .ok m' := by
      unfold regF at hr
      split at hr
      · exact absurd hr (by simp)
      · rename_i m' hm'; exact ⟨m', hm'⟩
    obtain ⟨m', hm'⟩ := hst
    obtain ⟨⟨i, hi⟩, n', m'', hq⟩ := statesE_ok hm' s hs
    obtain ⟨_, _, l3, _, l5⟩ := hl s hs
    refine ⟨stR_of hi (hN s hs).1 (hB s hs).1 (by unfold maxLen; omega), fun r hr' => ?_⟩
    obtain ⟨n1, m1, hq'⟩ := regsE_ok hq r hr'
    exact stAll_of hq' ((hN s hs).2 r hr') ((hB s hs).2 r hr') (l5 r hr')
theorem check_runs {c : Chart} (h : checkC c = none) (hN : NmChart c) (hB : ∀ r ∈ c.regions, ∀ x ∈ r, NbSt 6 x) : ChartR c := by
  obtain ⟨h1, h2⟩ := check_lay h hN
  refine ⟨hN.vars, hN.names, by unfold maxLen; omega, ?_⟩
  unfold checkC at h
  split at h
  · exact absurd h (by simp)
  · split at h
    · exact absurd h (by simp)
    · split at h
      · exact absurd h (by simp)
      · rename_i m hm
        intro r hr
        obtain ⟨n, m, hq⟩ := regsE_ok hm r hr
        exact stAll_of hq (hN.sts r hr) (hB r hr) (h1 r hr)
end Go.Proofs.YtiihgnagjemikaaGreatDoor
/- A chart that may be may be laid. -/
namespace Go.Proofs.YtiihgnagjemikaaGreatDoor
open Go.RowKit Px

/-- New of a chart that may be -/
theorem New_ok {A : Nat → Prop} {w : World} {c : Chart} {v : Value} (h : IsChart A w c v) (hN : NmChart c) (hok : checkC c = none) (hA : ∀ b, A b → b < w.heap.size) (h64 : ∀ v ∈ c.vars, N64 v.first) :
    Calls Tryz.prog 19 #[v] w fun e w' => ∃ rb, e = .returned (.tuple #[.pointer (some ⟨rb, 0, none⟩), .nilIface]) ∧ Hid ((∃ Q x, RnM A w' c (newC c) rb Q x ∧ ∀ b, Q b → w.heap.size ≤ b) ∧ Below w.heap.size w w') :=
  New_any h hN hok hA h64 (check_lay hok hN).2 (check_lay hok hN).1
end Go.Proofs.YtiihgnagjemikaaGreatDoor
/- A chart that may be, and whose numbers fit, may run. -/
namespace Go.Proofs.YtiihgnagjemikaaGreatDoor
open Go.RowKit Px

end Go.Proofs.YtiihgnagjemikaaGreatDoor
/- A region whose ways at once lead on in the order: what is done with it comes to an end. -/
namespace Go.Proofs.YtiihgnagjemikaaGreatDoor
open Go.RowKit Px
namespace Px
section
variable {σ ρ : Type}
/-- the same with each of some regions -/
theorem allI_ok {f : List σ → Px.Env → ρ → Option (Px.Env × ρ)} {G : List σ → Prop} {P P' : List σ → ρ → Prop} (hf : ∀ r n d, G r → P r d → ∃ p, f r n d = some p ∧ P' r p.2) {rs : List (List σ)} (hG : ∀ r ∈ rs, G r) :
    ∀ (fu i : Nat) (n : Px.Env) (ds : List ρ), i + fu = rs.length → ds.length = rs.length → (∀ (j : Nat) (r : List σ) (y : ρ), i ≤ j → rs[j]? = some r → ds[j]? = some y → P r y) → (∀ (j : Nat) (r : List σ) (y : ρ), j < i → rs[j]? = some r → ds[j]? = some y → P' r y) →
      ∃ p, allI f rs fu i n ds = some p ∧ p.2.length = rs.length ∧ ∀ (j : Nat) (r : List σ) (y : ρ), rs[j]? = some r → p.2[j]? = some y → P' r y := by
  intro fu
  induction fu with
  | zero => intro i n ds hi hl _ h2; exact ⟨(n, ds), rfl, hl, fun j r y hr hy => h2 j r y (by have := (List.getElem?_eq_some_iff.1 hr).1; omega) hr hy⟩
  | succ fu ih =>
    intro i n ds hi hl h1 h2
    have e1 : rs[i]? = some (rs[i]'(by omega)) := List.getElem?_eq_getElem _
    have e2 : ds[i]? = some (ds[i]'(by omega)) := List.getElem?_eq_getElem _
    obtain ⟨p, hp, hP⟩ := hf _ n _ (hG _ (List.mem_of_getElem? e1)) (h1 i _ _ (Nat.le_refl _) e1 e2)
    rw [allI, e1, e2]
    simp only [hp]
    refine ih (i + 1) p.1 (ds.set i p.2) (by omega) (by rw [List.length_set]; exact hl) (fun j r y hj hr hy => ?_) (fun j r y hj hr hy => ?_)
    · rw [List.getElem?_set, if_neg (by omega)] at hy
      exact h1 j r y (by omega) hr hy
    · rw [List.getElem?_set] at hy
      by_cases e : i = j
      · subst e
        rw [if_pos rfl, if_pos (by omega)] at hy
        injection hy with hy
        rw [e1] at hr
        injection hr with hr
        rw [← hy, ← hr]; exact hP
      · rw [if_neg e] at hy
        exact h2 j r y (by omega) hr hy
theorem allI_all {f : List σ → Px.Env → ρ → Option (Px.Env × ρ)} {G : List σ → Prop} {P P' : List σ → ρ → Prop} (hf : ∀ r n d, G r → P r d → ∃ p, f r n d = some p ∧ P' r p.2) {rs : List (List σ)} (hG : ∀ r ∈ rs, G r) (n : Px.Env) {ds : List ρ} (hl : ds.length = rs.length) (h : ∀ (j : Nat) (r : List σ) (y : ρ), rs[j]? = some r → ds[j]? = some y → P r y) :
    ∃ p, allI f rs rs.length 0 n ds = some p ∧ p.2.length = rs.length ∧ ∀ (j : Nat) (r : List σ) (y : ρ), rs[j]? = some r → p.2[j]? = some y → P' r y :=
  allI_ok hf hG _ 0 n ds (by omega) hl (fun j r y _ => h j r y) (fun j _ _ hj => absurd hj (by omega))
/-- a way that is open is one of those that are asked -/
theorem opnI_some {ov : Bool} {now was : Px.Env} {asked : Wy → Bool} {ys : List Wy} : ∀ {f i : Nat} {cs : List Int} {j : Nat}, (opnI ov now was asked ys f i cs).1 = some j → ∃ y, ys[j]? = some y ∧ asked y = true := by
  intro f
  induction f with
  | zero => intro i cs j h; simp [opnI] at h
  | succ f ih =>
    intro i cs j h
    rw [opnI] at h
    split at h
    · simp at h
    · rename_i y hy
      split at h
      · rename_i ha
        simp only [Bool.and_eq_true] at ha
        split at h
        · injection h with h
          subst h
          exact ⟨y, hy, ha.1⟩
        · exact ih h
      · exact ih h
/-- what a region's data are like -/
def ShF (I : List σ → ρ → Prop) (L : List (StF σ)) (d : RdF ρ) : Prop :=
  d.sts.length = L.length ∧ (∀ i, d.there = some i → i < L.length) ∧ (∀ i, d.was = some i → i < L.length) ∧ ∀ (i : Nat) (s : StF σ) (x : SdF ρ), L[i]? = some s → d.sts[i]? = some x → x.inside.length = s.regions.length ∧ ∀ (j : Nat) (r : List σ) (y : ρ), s.regions[j]? = some r → x.inside[j]? = some y → I r y
/-- .. and some state is there, whose regions are likewise -/
def LvF (I J : List σ → ρ → Prop) (L : List (StF σ)) (d : RdF ρ) : Prop :=
  ShF I L d ∧ ∃ i, d.there = some i ∧ ∀ (s : StF σ) (x : SdF ρ), L[i]? = some s → d.sts[i]? = some x → ∀ (j : Nat) (r : List σ) (y : ρ), s.regions[j]? = some r → x.inside[j]? = some y → J r y
structure OpsOk (O : Ops σ ρ) (G : List σ → Prop) (I J : List σ → ρ → Prop) : Prop where
  ij : ∀ L d, J L d → I L d
  enter : ∀ was b L n d, G L → I L d → ∃ p, O.enter was b L n d = some p ∧ J L p.2
  go : ∀ was L n d, G L → J L d → ∃ p, O.go was L n d = some p ∧ J L p.2
  leave : ∀ was L n d, G L → I L d → ∃ p, O.leave was L n d = some p ∧ I L p.2
/-- a state's data are set -/
theorem ShF.put {I : List σ → ρ → Prop} {L : List (StF σ)} {d : RdF ρ} (h : ShF I L d) {i : Nat} {s : StF σ} (hs : L[i]? = some s) {x : SdF ρ} (hx : x.inside.length = s.regions.length ∧ ∀ (j : Nat) (r : List σ) (y : ρ), s.regions[j]? = some r → x.inside[j]? = some y → I r y) {t u : Option Nat} (ht : ∀ i, t = some i → i < L.length) (hu : ∀ i, u = some i → i < L.length) : ShF I L ⟨t, u, d.sts.set i x⟩ := by
  refine ⟨by show (d.sts.set i x).length = _; rw [List.length_set]; exact h.1, ht, hu, fun i' s' x' hs' hx' => ?_⟩
  have hx' : (d.sts.set i x)[i']? = some x' := hx'
  rw [List.getElem?_set] at hx'
  by_cases e : i = i'
  · subst e
    have hl : i < d.sts.length := by rw [h.1]; exact (List.getElem?_eq_some_iff.1 hs).1
    rw [if_pos rfl, if_pos hl] at hx'
    injection hx' with hx'
    rw [hs] at hs'
    injection hs' with hs'
    rw [← hx', ← hs']; exact hx
  · rw [if_neg e] at hx'
    exact h.2.2.2 i' s' x' hs' hx'
variable {O : Ops σ ρ} {G : List σ → Prop} {I J : List σ → ρ → Prop} {L : List (StF σ)} {d : RdF ρ}
theorem leaveR_ok (hO : OpsOk O G I J) (hG : ∀ s ∈ L, ∀ r ∈ s.regions, G r) (was n : Px.Env) (h : ShF I L d) : ∃ p, leaveR O was L n d = some p ∧ ShF I L p.2 := by
  unfold leaveR
  cases ht : d.there with
  | none => exact ⟨_, rfl, h⟩
  | some i =>
    have hi := h.2.1 i ht
    have e1 : L[i]? = some (L[i]'hi) := List.getElem?_eq_getElem _
    have e2 : d.sts[i]? = some (d.sts[i]'(by rw [h.1]; exact hi)) := List.getElem?_eq_getElem _
    obtain ⟨a1, a2⟩ := h.2.2.2 i _ _ e1 e2
    obtain ⟨p, hp, p1, p2⟩ := allI_all (fun r n d => hO.leave was r n d) (hG _ (List.mem_of_getElem? e1)) n a1 a2
    simp only [e1, e2, hp]
    exact ⟨_, rfl, h.put (t := none) (u := some i) (x := ⟨_, p.2⟩) e1 ⟨p1, p2⟩ (fun _ h => by simp at h) (fun i' h => by injection h with h; omega)⟩
/-- after what arrives: the way that is open leads at once, or all is there -/
theorem arriveR_ok (hO : OpsOk O G I J) (hG : ∀ s ∈ L, ∀ r ∈ s.regions, G r) (was n : Px.Env) (b : Bool) (h : ShF I L d) {i : Nat} (hi : i < L.length) :
    ∃ p, arriveR O was L i b n d = some p ∧ ShF I L p.2.2 ∧ p.2.2.there = some i ∧ (p.1 = none → LvF I J L p.2.2) ∧ ∀ j, p.1 = some j → ∃ s y, L[i]? = some s ∧ s.ways[j]? = some y ∧ y.now = true := by
  have e1 : L[i]? = some (L[i]'hi) := List.getElem?_eq_getElem _
  have e2 : d.sts[i]? = some (d.sts[i]'(by rw [h.1]; exact hi)) := List.getElem?_eq_getElem _
  obtain ⟨a1, a2⟩ := h.2.2.2 i _ _ e1 e2
  unfold arriveR
  simp only [e1, e2]
  split
  · rename_i j hj
    have hsh : ∀ so, ShF I L ⟨some i, d.was, d.sts.set i ⟨so, (d.sts[i]'(by rw [h.1]; exact hi)).inside⟩⟩ := fun so => h.put (t := some i) (u := d.was) (x := ⟨so, (d.sts[i]'(by rw [h.1]; exact hi)).inside⟩) e1 ⟨a1, a2⟩ (fun i' h => by injection h with h; omega) h.2.2.1
    refine ⟨_, rfl, hsh _, rfl, fun h => by simp at h, fun j' hj' => ?_⟩
    injection hj' with hj'
    subst hj'
    obtain ⟨y, hy, ha⟩ := opnI_some hj
    unfold askNS at ha
    simp only [Bool.and_eq_true] at ha
    exact ⟨_, y, rfl, hy, ha.1⟩
  · obtain ⟨p, hp, p1, p2⟩ := allI_all (fun r n d => hO.enter was b r n d) (hG _ (List.mem_of_getElem? e1)) (doS was (L[i]'hi).enter n) a1 a2
    simp only [hp]
    have hsh : ∀ so, ShF I L ⟨some i, d.was, d.sts.set i ⟨so, p.2⟩⟩ := fun so => h.put (t := some i) (u := d.was) (x := ⟨so, p.2⟩) e1 ⟨p1, fun j r y hr hy => hO.ij _ _ (p2 j r y hr hy)⟩ (fun i' h => by injection h with h; omega) h.2.2.1
    refine ⟨_, rfl, hsh _, rfl, fun _ => ⟨hsh _, i, rfl, fun s x hs hx j r y hr hy => ?_⟩, fun j' hj' => ?_⟩
    · have hl : i < d.sts.length := by rw [h.1]; exact hi
      simp only [List.getElem?_set, if_pos, hl] at hx
      injection hx with hx
      rw [e1] at hs
      injection hs with hs
      rw [← hx] at hy
      rw [← hs] at hr
      exact p2 j r y hr hy
    · obtain ⟨y, hy, ha⟩ := opnI_some hj'
      unfold askNW at ha
      simp only [Bool.and_eq_true] at ha
      exact ⟨_, y, rfl, hy, ha.1⟩
end
end Px
end Go.Proofs.YtiihgnagjemikaaGreatDoor
/- A tick of a chart that may be comes to an end. -/
namespace Go.Proofs.YtiihgnagjemikaaGreatDoor
open Go.RowKit Px
namespace Px
section
variable {σ ρ : Type} {O : Ops σ ρ} {G : List σ → Prop} {I J : List σ → ρ → Prop} {L : List (StF σ)} {d : RdF ρ}
/-- a region that may run -/
structure GdF (G : List σ → Prop) (L : List (StF σ)) : Prop where
  inn : ∀ s ∈ L, ∀ r ∈ s.regions, G r
  fst : ∃ fi, firstI L = some fi ∧ fi < L.length
  tos : ∀ s ∈ L, ∀ y ∈ s.ways, ∃ t, fnd (snames L) y.to = some t
  ord : ∃ o, orderG (graph L) = some o
theorem fnd_lt {L : List (StF σ)} {s : Str} {t : Nat} (h : fnd (snames L) s = some t) : t < L.length := by
  have := (fnd_some h).1
  unfold snames at this
  rwa [List.length_map] at this
theorem takeR_ok (hO : OpsOk O G I J) (hG : GdF G L) (was n : Px.Env) (h : ShF I L d) {i j : Nat} {s : StF σ} {y : Wy} (ht : d.there = some i) (hs : L[i]? = some s) (hy : s.ways[j]? = some y) :
    ∃ t p, fnd (snames L) y.to = some t ∧ takeR O was L j n d = some p ∧ ShF I L p.2.2 ∧ p.2.2.there = some t ∧ (p.1 = none → LvF I J L p.2.2) ∧ ∀ j, p.1 = some j → ∃ s y, L[t]? = some s ∧ s.ways[j]? = some y ∧ y.now = true := by
  obtain ⟨t, hf⟩ := hG.tos s (List.mem_of_getElem? hs) y (List.mem_of_getElem? hy)
  obtain ⟨p, hp, hp2⟩ := leaveR_ok hO hG.inn was n h
  obtain ⟨q, hq, hq2⟩ := arriveR_ok hO hG.inn was (doS was y.sets p.1) y.back hp2 (fnd_lt hf)
  refine ⟨t, q, hf, ?_, hq2⟩
  unfold takeR
  simp only [ht, hs, hy, hp, hf, hq]
theorem followR_none (was : Px.Env) (f : Nat) (n : Px.Env) (d : RdF ρ) : followR O was L f none n d = some (n, d) := by cases f <;> rfl
theorem graph_now {i j t : Nat} {s : StF σ} {y : Wy} (hs : L[i]? = some s) (hy : s.ways[j]? = some y) (hn : y.now = true) (hf : fnd (snames L) y.to = some t) : some t ∈ (graph L).getD i [] := by
  unfold graph
  rw [List.getD_eq_getElem?_getD, List.getElem?_map, hs]
  show some t ∈ tosF (snames L) s.ways
  unfold tosF
  exact List.mem_map.2 ⟨y, List.mem_of_getElem? hy, by rw [if_pos hn, hf]⟩
theorem followR_now (hO : OpsOk O G I J) (hG : GdF G L) (was : Px.Env) {o : List Nat} (ho : orderG (graph L) = some o) : ∀ (f : Nat) (i j p : Nat) (n : Px.Env) (d : RdF ρ) (s : StF σ) (y : Wy), ShF I L d → d.there = some i → L[i]? = some s → s.ways[j]? = some y → y.now = true → posK o o.length i = some p → L.length ≤ f + p →
    ∃ q, followR O was L f (some j) n d = some q ∧ LvF I J L q.2 := by
  obtain ⟨o1, _, _, o2, o3⟩ := order_fair ho
  rw [graph_len] at o1 o2 o3
  intro f
  induction f with
  | zero =>
    intro i j p n d s y _ _ _ _ _ hp hl
    have := (posK_some hp).1
    omega
  | succ f ih =>
    intro i j p n d s y h ht hs hy hn hp hl
    obtain ⟨t, q, hf, hq, q1, q2, q3, q4⟩ := takeR_ok hO hG was n h ht hs hy
    rw [followR, hq]
    show ∃ q', followR O was L f q.1 q.2.1 q.2.2 = some q' ∧ _
    cases hw : q.1 with
    | none => rw [followR_none]; exact ⟨_, rfl, q3 hw⟩
    | some j' =>
      obtain ⟨s', y', s1, s2, s3⟩ := q4 j' hw
      have hil : i < L.length := (List.getElem?_eq_some_iff.1 hs).1
      obtain ⟨p', hp'⟩ := o2 t (fnd_lt hf)
      have := o3 i t hil (fnd_lt hf) (graph_now hs hy hn hf) p p' hp hp'
      exact ih t j' p' _ _ s' y' q1 q2 s1 s2 s3 hp' (by omega)
theorem follow_of (hO : OpsOk O G I J) (hG : GdF G L) (was : Px.Env) {f i : Nat} {w : Option Nat} {n : Px.Env} (hf : L.length ≤ f) (h : ShF I L d) (ht : d.there = some i) (h0 : w = none → LvF I J L d) (h1 : ∀ j, w = some j → ∃ s y, L[i]? = some s ∧ s.ways[j]? = some y ∧ y.now = true) : ∃ q, followR O was L f w n d = some q ∧ LvF I J L q.2 := by
  cases w with
  | none => rw [followR_none]; exact ⟨_, rfl, h0 rfl⟩
  | some j =>
    obtain ⟨o, ho⟩ := hG.ord
    obtain ⟨s, y, s1, s2, s3⟩ := h1 j rfl
    obtain ⟨_, _, _, o2, _⟩ := order_fair ho
    obtain ⟨p, hp⟩ := o2 i (by rw [graph_len]; exact (List.getElem?_eq_some_iff.1 s1).1)
    exact followR_now hO hG was ho f i j p n d s y h ht s1 s2 s3 hp (by omega)
theorem enterAt_ok (hO : OpsOk O G I J) (hG : GdF G L) (was n : Px.Env) (b : Bool) (h : ShF I L d) {i : Nat} (hi : i < L.length) : ∃ q, enterAt O was L i b n d = some q ∧ LvF I J L q.2 := by
  obtain ⟨p, hp, p1, p2, p3, p4⟩ := arriveR_ok hO hG.inn was n b h hi
  unfold enterAt
  simp only [hp]
  exact follow_of hO hG was (by omega) p1 p2 p3 p4
theorem enterR_ok (hO : OpsOk O G I J) (hG : GdF G L) (was n : Px.Env) (b : Bool) (h : ShF I L d) : ∃ q, enterR O was b L n d = some q ∧ LvF I J L q.2 := by
  obtain ⟨fi, f1, f2⟩ := hG.fst
  unfold enterR
  split
  · rename_i i hw; exact enterAt_ok hO hG was n true h (h.2.2.1 i hw)
  · rw [f1]; exact enterAt_ok hO hG was n false h f2
theorem passR_ok (hO : OpsOk O G I J) (hG : GdF G L) (was n : Px.Env) (h : LvF I J L d) :
    ∃ i p, passR O was L n d = some p ∧ ShF I L p.2.2 ∧ p.2.2.there = some i ∧ (p.1 = none → LvF I J L p.2.2) ∧ ∀ j, p.1 = some j → ∃ s y, L[i]? = some s ∧ s.ways[j]? = some y := by
  obtain ⟨h, i, ht, hJ⟩ := h
  have hi := h.2.1 i ht
  have e1 : L[i]? = some (L[i]'hi) := List.getElem?_eq_getElem _
  have hl : i < d.sts.length := by rw [h.1]; exact hi
  have e2 : d.sts[i]? = some (d.sts[i]'hl) := List.getElem?_eq_getElem _
  obtain ⟨a1, a2⟩ := h.2.2.2 i _ _ e1 e2
  have hsh : ∀ so ins, ins.length = (L[i]'hi).regions.length → (∀ (j : Nat) (r : List σ) (y : ρ), (L[i]'hi).regions[j]? = some r → ins[j]? = some y → J r y) → LvF I J L ⟨some i, d.was, d.sts.set i ⟨so, ins⟩⟩ := fun so ins hil hin =>
    ⟨h.put (t := some i) (u := d.was) (x := ⟨so, ins⟩) e1 ⟨hil, fun j r y hr hy => hO.ij _ _ (hin j r y hr hy)⟩ (fun i' h => by injection h with h; omega) h.2.2.1, i, rfl, fun s x hs hx j r y hr hy => by
      simp only [List.getElem?_set, if_pos, hl] at hx
      injection hx with hx
      rw [e1] at hs
      injection hs with hs
      rw [← hx] at hy
      rw [← hs] at hr
      exact hin j r y hr hy⟩
  refine ⟨i, ?_⟩
  unfold passR
  simp only [ht, e1, e2]
  split
  · rename_i j hj
    have hh := fun so => hsh so _ a1 (hJ _ _ e1 e2)
    refine ⟨_, rfl, (hh _).1, rfl, fun h => by simp at h, fun j' hj' => ?_⟩
    injection hj' with hj'
    subst hj'
    obtain ⟨y, hy, _⟩ := opnI_some hj
    exact ⟨_, y, rfl, hy⟩
  · split
    · have hh := fun so => hsh so _ a1 (hJ _ _ e1 e2)
      exact ⟨_, rfl, (hh _).1, rfl, fun _ => hh _, fun j' hj' => by simp at hj'⟩
    · obtain ⟨p, hp, p1, p2⟩ := allI_all (fun r n d => hO.go was r n d) (hG.inn _ (List.mem_of_getElem? e1)) (doS was (L[i]'hi).during n) a1 (hJ _ _ e1 e2)
      simp only [hp]
      have hh := fun so => hsh so p.2 p1 p2
      refine ⟨_, rfl, (hh _).1, rfl, fun _ => hh _, fun j' hj' => ?_⟩
      obtain ⟨y, hy, _⟩ := opnI_some hj'
      exact ⟨_, y, rfl, hy⟩
theorem goR_ok (hO : OpsOk O G I J) (hG : GdF G L) (was n : Px.Env) (h : LvF I J L d) : ∃ q, goR O was L n d = some q ∧ LvF I J L q.2 := by
  obtain ⟨i, p, hp, p1, p2, p3, p4⟩ := passR_ok hO hG was n h
  unfold goR
  simp only [hp]
  cases hw : p.1 with
  | none => rw [followR_none]; exact ⟨_, rfl, p3 hw⟩
  | some j =>
    obtain ⟨s, y, s1, s2⟩ := p4 j hw
    obtain ⟨t, q, hf, hq, q1, q2, q3, q4⟩ := takeR_ok hO hG was p.2.1 p1 p2 s1 s2
    rw [followR, hq]
    show ∃ q', followR O was L (L.length + 1) q.1 q.2.1 q.2.2 = some q' ∧ _
    exact follow_of hO hG was (by omega) q1 q2 q3 q4
theorem opsF_ok (hO : OpsOk O G I J) : OpsOk (OpsF O) (GdF G) (ShF I) (LvF I J) :=
  ⟨fun _ _ h => h.1, fun was b _ n _ hG h => enterR_ok hO hG was n b h, fun was _ n _ hG h => goR_ok hO hG was n h, fun was _ n _ hG h => leaveR_ok hO hG.inn was n h⟩
end
def GdK : (k : Nat) → List (St k) → Prop
  | 0 => fun _ => True
  | k + 1 => GdF (GdK k)
def ShK : (k : Nat) → List (St k) → Rd k → Prop
  | 0 => fun _ _ => True
  | k + 1 => ShF (ShK k)
def LvK : (k : Nat) → List (St k) → Rd k → Prop
  | 0 => fun _ _ => True
  | k + 1 => LvF (ShK k) (LvK k)
theorem opsK_ok : ∀ k, OpsOk (OpsK k) (GdK k) (ShK k) (LvK k)
  | 0 => ⟨fun _ _ _ => trivial, fun _ _ _ _ _ _ _ => ⟨_, rfl, trivial⟩, fun _ _ _ _ _ _ => ⟨_, rfl, trivial⟩, fun _ _ _ _ _ _ => ⟨_, rfl, trivial⟩⟩
  | k + 1 => opsF_ok (opsK_ok k)
end Px
end Go.Proofs.YtiihgnagjemikaaGreatDoor
/- A chart that may be: every tick comes to an end. -/
namespace Go.Proofs.YtiihgnagjemikaaGreatDoor
open Go.RowKit Px
namespace Px
theorem gd_of : ∀ {k : Nat} {l : List (St k)}, OrdAll k l → LayR k l → GdK k l
  | 0, _, _, _ => trivial
  | k + 1, l, ho, hl => by
    obtain ⟨⟨o, h1, _, _⟩, h2⟩ := ho
    obtain ⟨l1, _, l3, _, l5⟩ := hl
    obtain ⟨fi, f1, f2⟩ := fst_some l1
    exact ⟨fun s hs r hr => gd_of (h2 s hs r hr) ((l5 s hs).2.2.2.2 r hr), ⟨fi, f1, f2⟩, l3, ⟨o, h1⟩⟩
theorem layD_sh1 {k : Nat} (ih : ∀ l : List (St k), ShK k l (layD k l)) (l : List (StF (St k))) : ShF (ShK k) l ⟨none, none, l.map fun s => ⟨s.ways.map fun _ => 0, s.regions.map (layD k)⟩⟩ := by
  refine ⟨List.length_map _, fun i h => absurd h (by simp), fun i h => absurd h (by simp), fun i s x hs hx => ?_⟩
  have hx' : (l.map fun s : StF (St k) => (⟨s.ways.map fun _ => (0 : Int), s.regions.map (layD k)⟩ : SdF (Rd k)))[i]? = some x := hx
  rw [List.getElem?_map, hs] at hx'
  injection hx' with hx'
  subst hx'
  refine ⟨List.length_map _, fun j r y hr hy => ?_⟩
  have hy' : (s.regions.map (layD k))[j]? = some y := hy
  rw [List.getElem?_map, hr] at hy'
  injection hy' with hy'
  subst hy'
  exact ih r
theorem layD_sh : ∀ (k : Nat) (l : List (St k)), ShK k l (layD k l)
  | 0, _ => trivial
  | k + 1, l => layD_sh1 (layD_sh k) l
/-- how a chart stands between two ticks -/
def StandR (L : List (St 6)) (d : Rd 6) : Prop := ShK 6 L d ∧ ((show RdF (Rd 5) from d).there = none ∨ LvK 6 L d)
def StandC (c : Chart) (r : Rn) : Prop := r.ds.length = c.regions.length ∧ ∀ (j : Nat) (L : List (St 6)) (d : Rd 6), c.regions[j]? = some L → r.ds[j]? = some d → StandR L d
theorem new_stands (c : Chart) : StandC c (newC c) := by
  refine ⟨List.length_map _, fun j L d hj hd => ?_⟩
  have hd' : (c.regions.map (layD 6))[j]? = some d := hd
  rw [List.getElem?_map, hj] at hd'
  injection hd' with hd'
  subst hd'
  exact ⟨layD_sh 6 L, .inl rfl⟩
theorem tickG_ok (was : Px.Env) (L : List (St 6)) (n : Px.Env) (d : Rd 6) (hG : GdK 6 L) (h : StandR L d) : ∃ p, tickG was L n d = some p ∧ LvK 6 L p.2 := by
  unfold tickG
  split
  · exact (opsK_ok 6).enter was false L n d hG h.1
  · rename_i ht
    exact (opsK_ok 6).go was L n d hG (h.2.resolve_left ht)
/-- a tick: every region has a state that is there behind it -/
theorem tick_ok {c : Chart} (hG : ∀ r ∈ c.regions, GdK 6 r) {r : Rn} (h : StandC c r) (ins : List Int) : ∃ r', tickC c ins r = some r' ∧ StandC c r' ∧ ∀ (j : Nat) (L : List (St 6)) (d : Rd 6), c.regions[j]? = some L → r'.ds[j]? = some d → LvK 6 L d := by
  obtain ⟨p, hp, p1, p2⟩ := allI_all (f := tickG r.was) (G := GdK 6) (P := StandR) (P' := LvK 6) (fun L n d hG h => tickG_ok r.was L n d hG h) hG (hearE c.vars ins r.now) h.1 h.2
  refine ⟨⟨p.1, p.1, p.2⟩, ?_, ⟨p1, fun j L d hj hd => ⟨(opsK_ok 6).ij L d (p2 j L d hj hd), .inr (p2 j L d hj hd)⟩⟩, p2⟩
  unfold tickC
  rw [hp]
theorem check_gd {c : Chart} (h : checkC c = none) (hN : NmChart c) : ∀ r ∈ c.regions, GdK 6 r := fun r hr => gd_of (check_all h r hr) ((check_lay h hN).1 r hr)
end Px
end Go.Proofs.YtiihgnagjemikaaGreatDoor
/- chapter 14: what a chart tells, tick by tick. -/
namespace Go.Proofs.YtiihgnagjemikaaGreatDoor
open Go.RowKit Px
namespace Tq
/-- one tick -/
def stepC (c : Chart) (i : List Int) (r : Rn) : Rn := (tickC c i r).getD r
def rnAt (c : Chart) : Rn → List (List Int) → Rn
  | r, [] => r
  | r, i :: t => rnAt c (stepC c i r) t
def outsR (c : Chart) : Rn → List (List Int) → List (List Int)
  | _, [] => []
  | r, i :: t => outsC c (stepC c i r) :: outsR c (stepC c i r) t
theorem step_ok {c : Chart} (hG : ∀ r ∈ c.regions, GdK 6 r) {r : Rn} (h : StandC c r) (i : List Int) : tickC c i r = some (stepC c i r) ∧ StandC c (stepC c i r) := by
  obtain ⟨r', h1, h2, _⟩ := tick_ok hG h i
  unfold stepC
  rw [h1]
  exact ⟨rfl, h2⟩
theorem stand_at {c : Chart} (hG : ∀ r ∈ c.regions, GdK 6 r) : ∀ (l : List (List Int)) (r : Rn), StandC c r → StandC c (rnAt c r l)
  | [], _, h => h
  | i :: t, _, h => stand_at hG t _ (step_ok hG h i).2
theorem rn_snoc (c : Chart) (i : List Int) : ∀ (l : List (List Int)) (r : Rn), rnAt c r (l ++ [i]) = stepC c i (rnAt c r l)
  | [], _ => rfl
  | _ :: t, _ => rn_snoc c i t _
theorem outs_snoc (c : Chart) (i : List Int) : ∀ (l : List (List Int)) (r : Rn), outsR c r (l ++ [i]) = outsR c r l ++ [outsC c (stepC c i (rnAt c r l))]
  | [], _ => rfl
  | _ :: t, _ => by rw [List.cons_append, outsR, outsR, outs_snoc c i t]; rfl
theorem outs_len (c : Chart) : ∀ (l : List (List Int)) (r : Rn), (outsR c r l).length = l.length
  | [], _ => rfl
  | _ :: t, _ => by rw [outsR, List.length_cons, outs_len c t, List.length_cons]
theorem outs_take (c : Chart) (b : List (List Int)) : ∀ (a : List (List Int)) (r : Rn), (outsR c r (a ++ b)).take a.length = outsR c r a
  | [], r => by rw [List.length_nil, List.take_zero]; rfl
  | _ :: t, _ => by rw [List.cons_append, outsR, List.length_cons, List.take_succ_cons, outs_take c b t]; rfl
theorem outs_row (c : Chart) {P : List Int → Prop} (h : ∀ r, P (outsC c r)) : ∀ (l : List (List Int)) (r : Rn), ∀ z ∈ outsR c r l, P z
  | [], _, _, hz => by cases hz
  | _ :: t, _, z, hz => by
    rw [outsR, List.mem_cons] at hz
    rcases hz with rfl | hz
    · exact h _
    · exact outs_row c h t _ z hz
theorem outsC_len (c : Chart) (r : Rn) : (outsC c r).length ≤ c.vars.length := by
  unfold outsC tellC
  rw [List.length_map]
  exact List.length_filter_le _ _
theorem take_one {l : List (List Int)} {k : Nat} (hk : k < l.length) : l.take (k + 1) = l.take k ++ [l.getD k []] := by
  rw [List.take_add_one, List.getD_eq_getElem?_getD, List.getElem?_eq_getElem hk]
  rfl
end Tq
end Go.Proofs.YtiihgnagjemikaaGreatDoor
/- chapter 14, plain: lines, words, numbers. -/
namespace Go.Proofs.YtiihgnagjemikaaGreatDoor
namespace Tq
open Go.Lib
abbrev By := List UInt8
/-- cut at each c -/
def spl (c : UInt8) : By → By → List By
  | cur, [] => [cur]
  | cur, b :: t => if b = c then cur :: spl c [] t else spl c (cur ++ [b]) t
/-- words, with blanks between -/
def wl : By → By → List By
  | cur, [] => if cur = [] then [] else [cur]
  | cur, b :: t => if b = 32 then (if cur = [] then wl [] t else cur :: wl [] t) else wl (cur ++ [b]) t
/-- lines; a line feed at the end begins none -/
def lnL : By → By → List By
  | cur, [] => if cur = [] then [] else [cur]
  | cur, b :: t => if b = 10 then cur :: lnL [] t else lnL (cur ++ [b]) t
def wordsT (l : By) : List By := wl [] l
def linesT (l : By) : List By := lnL [] l
/-- what stands at the first c -/
theorem ix_one (c : UInt8) : ∀ l : By, (index l [c] = -1 ∧ c ∉ l) ∨ ∃ i : Nat, index l [c] = i ∧ l = l.take i ++ c :: l.drop (i + 1) ∧ c ∉ l.take i
  | [] => .inl ⟨rfl, by simp⟩
  | b :: t => by
    by_cases hb : b = c
    · subst hb
      exact .inr ⟨0, by rw [index]; simp [List.isPrefixOf], by simp, by simp⟩
    · have hp : ([c] : List UInt8).isPrefixOf (b :: t) = false := by simp [List.isPrefixOf, Ne.symm hb]
      have hix : index (b :: t) [c] = if index t [c] == -1 then -1 else index t [c] + 1 := by rw [index, hp]; simp
      rcases ix_one c t with ⟨h, hn⟩ | ⟨i, h, he, hn⟩
      · exact .inl ⟨by rw [hix, h]; rfl, by simp [hn, Ne.symm hb]⟩
      · refine .inr ⟨i + 1, ?_, ?_, ?_⟩
        · rw [hix, h, if_neg (by simp <;> omega)]; omega
        · simpa using he
        · simp [hn, Ne.symm hb]
theorem spl_no {c : UInt8} : ∀ (x cur : By), c ∉ x → spl c cur x = [cur ++ x]
  | [], cur, _ => by simp [spl]
  | b :: t, cur, h => by
    rw [spl, if_neg (fun e => h (by simp [e])), spl_no t _ (fun e => h (by simp [e]))]; simp
theorem spl_at {c : UInt8} : ∀ (x cur r : By), c ∉ x → spl c cur (x ++ c :: r) = (cur ++ x) :: spl c [] r
  | [], cur, r, _ => by simp [spl]
  | b :: t, cur, r, h => by
    rw [List.cons_append, spl, if_neg (fun e => h (by simp [e])), spl_at t _ r (fun e => h (by simp [e]))]; simp
theorem ln_no : ∀ (x cur : By), (10 : UInt8) ∉ x → lnL cur x = if cur ++ x = [] then [] else [cur ++ x]
  | [], cur, _ => by simp [lnL]
  | b :: t, cur, h => by
    rw [lnL, if_neg (fun e => h (by simp [e])), ln_no t _ (fun e => h (by simp [e]))]; simp
theorem ln_at : ∀ (x cur r : By), (10 : UInt8) ∉ x → lnL cur (x ++ 10 :: r) = (cur ++ x) :: lnL [] r
  | [], cur, r, _ => by simp [lnL]
  | b :: t, cur, r, h => by
    rw [List.cons_append, lnL, if_neg (fun e => h (by simp [e])), ln_at t _ r (fun e => h (by simp [e]))]; simp
/-- strings.Split at one byte -/
theorem split_spl (c : UInt8) : ∀ (n : Nat) (l : By), l.length ≤ n → splitK [c] 0 (count l [c]) l = spl c [] l
  | n, l, hl => by
    rcases ix_one c l with ⟨h, hn⟩ | ⟨i, h, he, hn⟩
    · rw [count_miss h, spl_no l [] hn]; rfl
    · have hi : i < l.length := by
        have := congrArg List.length he
        simp at this; omega
      rw [count_hit (by simp) h, show 1 + count (l.drop (i + [c].length)) [c] = count (l.drop (i + 1)) [c] + 1 by rw [Nat.add_comm]; rfl]
      rw [splitK, if_neg (by rw [h]; simp), h]
      cases n with
      | zero => omega
      | succ n =>
        have ih := split_spl c n (l.drop (i + 1)) (by simp <;> omega)
        conv => rhs; rw [he, spl_at _ _ _ hn]
        simp only [Int.toNat_natCast, Nat.add_zero, List.length_singleton, List.nil_append]
        rw [ih]
/-- the program's way through lines -/
theorem lines_cut {l : By} (hl : l ≠ []) : linesT l = (cut l [10]).1 :: linesT (cut l [10]).2.1 ∧ (cut l [10]).2.1.length < l.length := by
  have h0 : 0 < l.length := List.length_pos_iff.2 hl
  unfold linesT cut
  rcases ix_one 10 l with ⟨h, hn⟩ | ⟨i, h, he, hn⟩
  · rw [if_neg (by omega), ln_no l [] hn]
    simp only [List.nil_append, if_neg hl]
    exact ⟨by simp [lnL], h0⟩
  · rw [if_pos (by omega), h]
    refine ⟨?_, by simp; omega⟩
    conv => lhs; rw [he, ln_at _ _ _ hn]
    simp
theorem lines_nil : linesT [] = [] := by simp [linesT, lnL]
/-- without the last one, if that is empty -/
def dropE (l : List By) : List By := if l.getLast? = some [] then l.dropLast else l
theorem spl_ne (c : UInt8) : ∀ (s cur : By), spl c cur s ≠ []
  | [], cur => by simp [spl]
  | b :: t, cur => by
    rw [spl]; split
    · simp
    · exact spl_ne c t _
theorem ln_drop : ∀ (s cur : By), lnL cur s = dropE (spl 10 cur s)
  | [], cur => by
    by_cases h : cur = [] <;> simp [lnL, spl, dropE, h]
  | b :: t, cur => by
    rw [lnL, spl]
    split
    · have hne := spl_ne 10 t []
      rw [ln_drop t []]
      unfold dropE
      obtain ⟨x, y, e⟩ := List.exists_cons_of_ne_nil hne
      rw [e, List.getLast?_cons_cons]
      split
      · rw [List.dropLast_cons_cons]
      · rfl
    · exact ln_drop t _
theorem ln_nil : ∀ (s cur : By), lnL cur s = [] → cur = [] ∧ s = []
  | [], cur, h => by
    by_cases hc : cur = []
    · exact ⟨hc, rfl⟩
    · simp [lnL, hc] at h
  | b :: t, cur, h => by
    rw [lnL] at h
    split at h
    · simp at h
    · have := (ln_nil t _ h).1; simp at this
/-- the document's lines -/
theorem lines_split {s : By} (hs : s ≠ []) : linesT s = if 1 < (spl 10 [] s).length ∧ (spl 10 [] s).getLast? = some [] then (spl 10 [] s).dropLast else spl 10 [] s := by
  have h := ln_drop s []
  unfold linesT
  by_cases h1 : 1 < (spl 10 [] s).length
  · rw [h]; unfold dropE; simp [h1]
  · rw [if_neg (fun e => h1 e.1), h]
    unfold dropE
    rw [if_neg]
    intro e
    have hne := spl_ne 10 s []
    obtain ⟨x, y, e2⟩ := List.exists_cons_of_ne_nil hne
    rw [e2] at h1 e
    have : y = [] := by
      cases y with
      | nil => rfl
      | cons _ _ => simp at h1
    subst this
    have hx : x = [] := by simpa using e
    rw [hx] at e2
    have : lnL [] s = [] := by rw [h, e2]; simp [dropE]
    exact hs (ln_nil s [] this).2
/-- the document's words -/
theorem words_split : ∀ (s cur : By), (spl 32 cur s).filter (fun x => decide (x ≠ [])) = wl cur s
  | [], cur => by
    by_cases h : cur = [] <;> simp [spl, wl, h]
  | b :: t, cur => by
    rw [spl, wl]
    split
    · rw [List.filter_cons, words_split t []]
      by_cases h : cur = [] <;> simp [h]
    · exact words_split t _
theorem wl_run : ∀ (x cur r : By), (32 : UInt8) ∉ x → wl cur (x ++ r) = wl (cur ++ x) r
  | [], cur, r, _ => by simp
  | b :: t, cur, r, h => by
    rw [List.cons_append, wl, if_neg (fun e => h (by simp [e])), wl_run t _ r (fun e => h (by simp [e]))]; simp
end Tq
end Go.Proofs.YtiihgnagjemikaaGreatDoor
