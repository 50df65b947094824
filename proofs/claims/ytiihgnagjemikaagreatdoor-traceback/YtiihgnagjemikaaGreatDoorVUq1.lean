/- The runner's look at ways: what is over, what is asked, what is open. -/
import Derived.Test.YtiihgnagjemikaaGreatDoorVUc
namespace Go.Proofs.YtiihgnagjemikaaGreatDoor
open Go.RowKit Px

theorem ixG (ad : Option Addr) (g n cap k : Nat) (hk : k < n) (ha : 0 < n → ad = some ⟨g, 0, none⟩) (w : World) : (Instr.indexAt 93 (.slice ad n cap) (.int .i64 (k : Int))).run Tryz.prog w = .ok (.pointer (some ⟨g, k, none⟩)) w := by
  obtain rfl := ha (by omega)
  rw [run_indexAt_slice _ _ _ _ _ _ _ (by kernel_rfl), if_pos ⟨by omega, by omega⟩]
  have e : (sizeOf (Tryz.prog.elem 93)).run Tryz.prog w = .ok 1 w := by kernel_rfl
  rw [e]
  simp [Result.andThen, Addr.add]
  try (intro h; exact h.symm)
theorem ixY (ad : Option Addr) (g n cap k : Nat) (hk : k < n) (ha : 0 < n → ad = some ⟨g, 0, none⟩) (w : World) : (Instr.indexAt 176 (.slice ad n cap) (.int .i64 (k : Int))).run Tryz.prog w = .ok (.pointer (some ⟨g, k * 9, none⟩)) w := by
  obtain rfl := ha (by omega)
  rw [run_indexAt_slice _ _ _ _ _ _ _ (by kernel_rfl), if_pos ⟨by omega, by omega⟩]
  have e : (sizeOf (Tryz.prog.elem 176)).run Tryz.prog w = .ok 9 w := by kernel_rfl
  rw [e]
  simp [Result.andThen, Addr.add]
  try (intro h; exact h.symm)
theorem ixZ (ad : Option Addr) (g n cap k : Nat) (hk : k < n) (ha : 0 < n → ad = some ⟨g, 0, none⟩) (w : World) : (Instr.indexAt 175 (.slice ad n cap) (.int .i64 (k : Int))).run Tryz.prog w = .ok (.pointer (some ⟨g, k * 11, none⟩)) w := by
  obtain rfl := ha (by omega)
  rw [run_indexAt_slice _ _ _ _ _ _ _ (by kernel_rfl), if_pos ⟨by omega, by omega⟩]
  have e : (sizeOf (Tryz.prog.elem 175)).run Tryz.prog w = .ok 11 w := by kernel_rfl
  rw [e]
  simp [Result.andThen, Addr.add]
  try (intro h; exact h.symm)
section
variable {A : Nat → Prop} {w w' : World} {rb bn bw m : Nat} {ns : List Str} {now was : Px.Env}
set_option maxRecDepth 100000 in
set_option maxHeartbeats 2000000 in
theorem over_any {bx gS o n cap gI : Nat} {ad : Option Addr} {gr : Nat → Nat} {bl : List Bool} (hb : w.cell? ⟨bx, 0, none⟩ = some (.pointer (some ⟨gS, o, none⟩))) (h10 : w.cell? ⟨gS, o + 10, none⟩ = some (.slice ad n cap)) (hn : Hid (n = bl.length)) (hmx : n ≤ maxLen) (had : 0 < n → ad = some ⟨gI, 0, none⟩)
    (hj : Hid (∀ j b, bl[j]? = some b → w.cell? ⟨gI, j, none⟩ = some (.pointer (some ⟨gr j, 0, none⟩)) ∧ OverM w (gr j) b)) :
    Calls Tryz.prog 126 #[.pointer (some ⟨bx, 0, none⟩)] w fun e w' => e = .returned (.bool (bl.all id)) ∧ w' = w := by
  have hN6 : (n : Int) ≤ 9223372036854775807 := by unfold maxLen at hmx; omega
  have HAD : Hid (0 < n → ad = some ⟨gI, 0, none⟩) := had
  clear hmx had
  go_enter Tryz.func126, Tryz.ntmps126
  go_wp2_with fail
  go_loopg [9] n (fun f i wr => ∃ k : Nat, f = n - k ∧ k ≤ n ∧ i = .int .i64 (k : Int) ∧ Hid (wr = w ∧ (bl.take k).all id = true))
  case atStart => exact ⟨0, by omega, by omega, rfl, rfl, rfl⟩
  case round =>
    obtain ⟨k, rfl, hk, rfl, hr⟩ := hrel
    obtain ⟨rfl, hall⟩ := hr.out
    by_cases hlt : k < n
    · obtain ⟨b, hbk⟩ : ∃ b, bl[k]? = some b := ⟨bl[k]'(by rw [← hn.out]; exact hlt), by rw [List.getElem?_eq_getElem]⟩
      obtain ⟨c1, hov⟩ := hj.out k b hbk
      have hix := ixG ad gI n cap k hlt HAD.out
      have HT : Hid ((bl.take (k + 1)).all id = b) := by rw [Hid, List.take_add_one, hbk, List.all_append, hall]; simp
      have HF : Hid (b = false → bl.all id = false) := fun e => by
        rw [List.all_eq_false]
        exact ⟨b, List.mem_of_getElem? hbk, by rw [e]; simp⟩
      clear hr hall hbk
      rcases hov with ⟨c2, rfl⟩ | ⟨gS', i', c2, c3⟩
      · have HB : Hid (bl.all id = false) := HF.out rfl
        clear HF
        go_wp2_with fail
        go_ret
        exact ⟨by rw [HB.out]; rfl, rfl⟩
      · cases b with
        | false =>
          have HB : Hid (bl.all id = false) := HF.out rfl
          clear HF
          go_wp2_with fail
          go_ret
          exact ⟨by rw [HB.out]; rfl, rfl⟩
        | true =>
          clear HF
          go_wp2_with fail
          go_roundg (n - (k + 1))
          case measure => omega
          case rel => exact ⟨k + 1, rfl, by omega, by go_num, rfl, HT.out⟩
    · obtain rfl : k = n := by omega
      rw [hn.out, List.take_length] at hall
      have HALL : Hid (bl.all id = true) := hall
      clear hall hr
      go_wp2_with fail
      go_ret
      exact ⟨by rw [HALL.out]; rfl, rfl⟩
theorem askNS_any {g o : Nat} {y : Wy} (c0 : w.cell? ⟨g, o, none⟩ = some (.int .i64 (y.kind : Int))) (c1 : w.cell? ⟨g, o + 1, none⟩ = some (.bool y.now)) :
    Calls Tryz.prog 103 #[.pointer (some ⟨g, o, none⟩)] w fun e w' => e = .returned (.bool (askNS y)) ∧ w' = w := by
  have e : askNS y = (y.now && decide ((y.kind : Int) = 1)) := by unfold askNS; congr 1; simp; omega
  rw [e]
  generalize (y.kind : Int) = kd at c0 ⊢
  generalize y.now = b at c1 ⊢
  clear e
  cases b with
  | false =>
    go_enter Tryz.func103, Tryz.ntmps103
    go_wp2_with fail
    go_ret
    exact ⟨rfl, rfl⟩
  | true =>
    go_enter Tryz.func103, Tryz.ntmps103
    go_wp2_with fail
    go_ret
    exact ⟨by simp; rfl, rfl⟩
theorem askNW_any {g o : Nat} {y : Wy} (c0 : w.cell? ⟨g, o, none⟩ = some (.int .i64 (y.kind : Int))) (c1 : w.cell? ⟨g, o + 1, none⟩ = some (.bool y.now)) :
    Calls Tryz.prog 104 #[.pointer (some ⟨g, o, none⟩)] w fun e w' => e = .returned (.bool (askNW y)) ∧ w' = w := by
  have e : askNW y = (y.now && !decide ((y.kind : Int) = 1)) := by unfold askNW; congr 2; simp; omega
  rw [e]
  generalize (y.kind : Int) = kd at c0 ⊢
  generalize y.now = b at c1 ⊢
  clear e
  cases b with
  | false =>
    go_enter Tryz.func104, Tryz.ntmps104
    go_wp2_with fail
    go_ret
    exact ⟨rfl, rfl⟩
  | true =>
    go_enter Tryz.func104, Tryz.ntmps104
    go_wp2_with fail
    go_ret
    exact ⟨by simp [bne]; rfl, rfl⟩
theorem askS_any {g o : Nat} {y : Wy} (c0 : w.cell? ⟨g, o, none⟩ = some (.int .i64 (y.kind : Int))) :
    Calls Tryz.prog 105 #[.pointer (some ⟨g, o, none⟩)] w fun e w' => e = .returned (.bool (askS y)) ∧ w' = w := by
  have e : askS y = decide ((y.kind : Int) = 1) := by unfold askS; simp; omega
  rw [e]
  generalize (y.kind : Int) = kd at c0 ⊢
  clear e
  go_enter Tryz.func105, Tryz.ntmps105
  go_wp2_with fail
  go_ret
  exact ⟨by simp; rfl, rfl⟩
theorem askW_any' {g o : Nat} {y : Wy} (c0 : w.cell? ⟨g, o, none⟩ = some (.int .i64 (y.kind : Int))) :
    Calls Tryz.prog 107 #[.pointer (some ⟨g, o, none⟩)] w fun e w' => e = .returned (.bool (askW y)) ∧ w' = w := by
  have e : askW y = !decide ((y.kind : Int) = 1) := by unfold askW; congr 1; simp; omega
  rw [e]
  generalize (y.kind : Int) = kd at c0 ⊢
  clear e
  go_enter Tryz.func107, Tryz.ntmps107
  go_wp2_with fail
  go_ret
  exact ⟨by simp [bne]; rfl, rfl⟩
end
end Go.Proofs.YtiihgnagjemikaaGreatDoor
/- The runner's look at ways: whether one is open, and how often it was so. -/
namespace Go.Proofs.YtiihgnagjemikaaGreatDoor
open Go.RowKit Px

/-- what isOpen does: so: whether it is so -/
def OpenTo (so : Bool) (c tm : Int) (gW j : Nat) (w : World) (r : Ending) (w' : World) : Prop :=
  ∃ (W : World) (nq : Nat), Hid (Below w.heap.size w W) ∧ ((so = false ∧ r = .returned (.bool false) ∧ w' = W) ∨ (so = true ∧ r = .returned (.bool (decide (tm ≤ wrap64 (c + 1)))) ∧ w' = (W.setCell ⟨gW, j * 9 + 8, none⟩ (.int .i64 (wrap64 (c + 1)))).drewN nq))
def ovV (bx : Nat) : Value := .func (.func 126) #[] #[.pointer (some ⟨bx, 0, none⟩)]
theorem sc_same {w : World} {a : Addr} {v u : Value} (h : w.cell? a = some u) : (w.setCell a v).cell? a = some v := World.cell?_setCell_same' w a v (by rw [h]; rfl)
theorem sc_off {w : World} {b o o' : Nat} {v : Value} (h : o ≠ o') : (w.setCell ⟨b, o, none⟩ v).cell? ⟨b, o', none⟩ = w.cell? ⟨b, o', none⟩ := by
  apply World.cell?_setCell_other
  intro e
  injection e with _ e
  exact h e
section
variable {A : Nat → Prop} {w w' : World} {rb bn bw m : Nat} {ns : List Str} {now was : Px.Env}
set_option maxRecDepth 100000 in
set_option maxHeartbeats 4000000 in
theorem isOpen_any {gS gW j bx : Nat} {ys : List Str} {y : Wy} {c : Int} {ov : Bool} (hy : WMem A w ys gS gW j y c) (hn : NuOk y.cond) (h : RunV w rb bn bw m ns now was)
    (hov : ∀ W, Below w.heap.size w W → Calls Tryz.prog 126 #[.pointer (some ⟨bx, 0, none⟩)] W fun e w' => e = .returned (.bool ov) ∧ w' = W) :
    Calls Tryz.prog 127 #[.pointer (some ⟨rb, 0, none⟩), .pointer (some ⟨gW, j * 9, none⟩), ovV bx] w (OpenTo (isSo ov now was y) c (y.times : Int) gW j w) := by
  obtain ⟨⟨p, q, c0, -, c2, c3, -, -, -, he, -⟩, -, c8, f8⟩ := hy
  have HC : Hid (∀ W, Below w.heap.size w W → W.cell? ⟨gW, j * 9 + 8, none⟩ = some (.int .i64 c) ∧ W.frozen? ⟨gW, j * 9 + 8, none⟩ = false ∧ W.cell? ⟨gW, j * 9 + 3, none⟩ = some (.int .i64 (y.times : Int))) := fun W hW =>
    ⟨ck_cell hW c8, by
      have e : W.heap[gW]? = w.heap[gW]? := hW.block gW (World.block_lt_of_cell? w _ c8)
      have : W.frozen? ⟨gW, j * 9 + 8, none⟩ = w.frozen? ⟨gW, j * 9 + 8, none⟩ := by simp only [World.frozen?, e]
      rw [this]; exact f8, ck_cell hW c3⟩
  have hev := ueval_any hn he h
  have hov := hov w (Below.refl _ _)
  have hwr : IntKind.i64.wrap (c + 1) = wrap64 (c + 1) := Go.IntWalk.i64_left _
  unfold EvTo at hev
  obtain ⟨x, hx⟩ : ∃ x, x = evE now was y.cond := ⟨_, rfl⟩
  rw [← hx] at hev
  have HP : Hid (noE y.cond = p.isNone) := by
    cases hc : y.cond with
    | nil => rw [hc] at he; injection he with he; rw [Hid, he]; rfl
    | node _ _ _ _ _ => rw [hc] at he; obtain ⟨g', _, _, e, _⟩ := he; injection e with e; rw [Hid, e]; rfl
  have HS : Hid (isSo ov now was y = ((!decide (y.kind = 2) || ov) && (p.isNone || decide (x ≠ 0)))) := by rw [Hid, isSo, HP.out, hx]
  obtain ⟨kd, hkd⟩ : ∃ kd : Int, kd = (y.kind : Int) := ⟨_, rfl⟩
  have HK : Hid (kd = (y.kind : Int)) := hkd
  rw [← hkd] at c0
  obtain ⟨tm, htm⟩ : ∃ tm : Int, tm = (y.times : Int) := ⟨_, rfl⟩
  rw [← htm] at HC ⊢
  unfold ovV
  clear h he hn hx HP hkd c3 c8 f8 htm
  by_cases hk : kd = 2
  · cases ov with
    | false =>
      have HE : Hid (isSo false now was y = false) := by rw [Hid, HS.out]; have := HK.out; simp; omega
      rw [HE.out]
      clear HS HK HE hev hwr HC
      subst hk
      go_enter Tryz.func127, Tryz.ntmps127
      go_wp2_with (refine hov.mono ?_; rintro e w' ⟨rfl, rfl⟩)
      go_ret
      exact ⟨_, 0, Below.refl _ _, .inl ⟨rfl, rfl, rfl⟩⟩
    | true =>
      subst hk
      cases p with
      | none =>
        have HE : Hid (isSo true now was y = true) := by rw [Hid, HS.out]; simp
        rw [HE.out]
        clear HS HK HE hev
        go_enter Tryz.func127, Tryz.ntmps127
        go_upto_region 5 with (go_at_call 126; refine hov.mono ?_; rintro e w' ⟨rfl, hw'⟩; obtain rfl := hw'.symm)
        clear hov
        obtain ⟨s8, z8, s3⟩ := HC.out w (Below.refl _ _)
        obtain ⟨X, hX⟩ : ∃ X, X = w.setCell ⟨gW, j * 9 + 8, none⟩ (.int .i64 (wrap64 (c + 1))) := ⟨_, rfl⟩
        have x8 : X.cell? ⟨gW, j * 9 + 8, none⟩ = some (.int .i64 (wrap64 (c + 1))) := by rw [hX]; exact sc_same s8
        have x3 : X.cell? ⟨gW, j * 9 + 3, none⟩ = some (.int .i64 tm) := by rw [hX, sc_off (by omega)]; exact s3
        have HX : Hid (X = _) := hX
        clear s3 HC
        go_upto_region 6 with fail
        rw [← hX]
        clear hX s8 z8 hwr
        go_quiet (fail)
        go_wp2_with fail
        go_ret
        exact ⟨w, nq, (Below.refl _ _), .inr ⟨rfl, rfl, by rw [← HX.out]⟩⟩
      | some p =>
        by_cases hx0 : x = 0
        · have HE : Hid (isSo true now was y = false) := by rw [Hid, HS.out]; simp [hx0]
          rw [HE.out]
          clear HS HK HE hwr HC
          subst hx0
          go_enter Tryz.func127, Tryz.ntmps127
          go_wp2_with (first | (go_at_call 106; refine hev.mono ?_; rintro e w1 ⟨rfl, hr⟩) | (go_at_call 126; refine hov.mono ?_; rintro e w' ⟨rfl, hw'⟩; obtain rfl := hw'.symm))
          go_ret
          exact ⟨_, 0, hr.out, .inl ⟨rfl, rfl, rfl⟩⟩
        · have HE : Hid (isSo true now was y = true) := by rw [Hid, HS.out]; simp [hx0]
          rw [HE.out]
          clear HS HK HE
          have hx1 : (x == 0) = false := by simpa using hx0
          go_enter Tryz.func127, Tryz.ntmps127
          go_upto_region 5 with (first | (go_at_call 106; refine hev.mono ?_; rintro e w1 ⟨rfl, hr⟩) | (go_at_call 126; refine hov.mono ?_; rintro e w' ⟨rfl, hw'⟩; obtain rfl := hw'.symm))
          clear hov hev
          obtain ⟨s8, z8, s3⟩ := HC.out w1 hr.out
          obtain ⟨X, hX⟩ : ∃ X, X = w1.setCell ⟨gW, j * 9 + 8, none⟩ (.int .i64 (wrap64 (c + 1))) := ⟨_, rfl⟩
          have x8 : X.cell? ⟨gW, j * 9 + 8, none⟩ = some (.int .i64 (wrap64 (c + 1))) := by rw [hX]; exact sc_same s8
          have x3 : X.cell? ⟨gW, j * 9 + 3, none⟩ = some (.int .i64 tm) := by rw [hX, sc_off (by omega)]; exact s3
          have HX : Hid (X = _) := hX
          clear s3 HC
          go_upto_region 6 with fail
          rw [← hX]
          clear hX s8 z8 hwr
          go_quiet (fail)
          go_wp2_with fail
          go_ret
          exact ⟨w1, nq, hr.out, .inr ⟨rfl, rfl, by rw [← HX.out]⟩⟩
  · have hk1 : (kd == 2) = false := by simpa using hk
    have hk2 : ¬ y.kind = 2 := by have := HK.out; omega
    cases p with
    | none =>
      have HE : Hid (isSo ov now was y = true) := by rw [Hid, HS.out]; simp only [hk2, decide_false, Bool.not_false, Bool.true_or, Bool.true_and]; simp
      rw [HE.out]
      clear HS HK HE hev
      go_enter Tryz.func127, Tryz.ntmps127
      go_upto_region 5 with (fail)
      clear hov
      obtain ⟨s8, z8, s3⟩ := HC.out w (Below.refl _ _)
      obtain ⟨X, hX⟩ : ∃ X, X = w.setCell ⟨gW, j * 9 + 8, none⟩ (.int .i64 (wrap64 (c + 1))) := ⟨_, rfl⟩
      have x8 : X.cell? ⟨gW, j * 9 + 8, none⟩ = some (.int .i64 (wrap64 (c + 1))) := by rw [hX]; exact sc_same s8
      have x3 : X.cell? ⟨gW, j * 9 + 3, none⟩ = some (.int .i64 tm) := by rw [hX, sc_off (by omega)]; exact s3
      have HX : Hid (X = _) := hX
      clear s3 HC
      go_upto_region 6 with fail
      rw [← hX]
      clear hX s8 z8 hwr
      go_quiet (fail)
      go_wp2_with fail
      go_ret
      exact ⟨w, nq, (Below.refl _ _), .inr ⟨rfl, rfl, by rw [← HX.out]⟩⟩
    | some p =>
      by_cases hx0 : x = 0
      · have HE : Hid (isSo ov now was y = false) := by rw [Hid, HS.out]; simp [hx0]
        rw [HE.out]
        clear HS HK HE hwr HC
        subst hx0
        go_enter Tryz.func127, Tryz.ntmps127
        go_wp2_with (first | (go_at_call 106; refine hev.mono ?_; rintro e w1 ⟨rfl, hr⟩) | (fail))
        go_ret
        exact ⟨_, 0, hr.out, .inl ⟨rfl, rfl, rfl⟩⟩
      · have HE : Hid (isSo ov now was y = true) := by rw [Hid, HS.out]; simp only [hk2, decide_false, Bool.not_false, Bool.true_or, Bool.true_and]; simp [hx0]
        rw [HE.out]
        clear HS HK HE
        have hx1 : (x == 0) = false := by simpa using hx0
        go_enter Tryz.func127, Tryz.ntmps127
        go_upto_region 5 with (first | (go_at_call 106; refine hev.mono ?_; rintro e w1 ⟨rfl, hr⟩) | (fail))
        clear hov hev
        obtain ⟨s8, z8, s3⟩ := HC.out w1 hr.out
        obtain ⟨X, hX⟩ : ∃ X, X = w1.setCell ⟨gW, j * 9 + 8, none⟩ (.int .i64 (wrap64 (c + 1))) := ⟨_, rfl⟩
        have x8 : X.cell? ⟨gW, j * 9 + 8, none⟩ = some (.int .i64 (wrap64 (c + 1))) := by rw [hX]; exact sc_same s8
        have x3 : X.cell? ⟨gW, j * 9 + 3, none⟩ = some (.int .i64 tm) := by rw [hX, sc_off (by omega)]; exact s3
        have HX : Hid (X = _) := hX
        clear s3 HC
        go_upto_region 6 with fail
        rw [← hX]
        clear hX s8 z8 hwr
        go_quiet (fail)
        go_wp2_with fail
        go_ret
        exact ⟨w1, nq, hr.out, .inr ⟨rfl, rfl, by rw [← HX.out]⟩⟩
end
end Go.Proofs.YtiihgnagjemikaaGreatDoor
/- The runner's look at ways: the first one that is open. -/
namespace Go.Proofs.YtiihgnagjemikaaGreatDoor
open Go.RowKit Px

/-- a state's ways, as they run -/
def WaysM (A : Nat → Prop) (w : World) (ns : List Str) (gS gW : Nat) (ys : List Wy) (cs : List Int) : Prop := cs.length = ys.length ∧ ∀ j y c, ys[j]? = some y → cs[j]? = some c → WMem A w ns gS gW j y c
section
variable {A : Nat → Prop} {w w' : World} {rb bn bw m : Nat} {ns ls : List Str} {now was : Px.Env}
theorem cell_far {w : World} {b o b' o' : Nat} {v : Value} (h : b ≠ b') : (w.setCell ⟨b, o, none⟩ v).cell? ⟨b', o', none⟩ = w.cell? ⟨b', o', none⟩ := World.cell?_setCell_far w _ _ v h
theorem WMem.put {gS gW j k : Nat} {y : Wy} {c c' : Int} (h : WMem A w ls gS gW j y c) (hA : ∀ b, A b → b ≠ gW) : WMem A (w.setCell ⟨gW, k * 9 + 8, none⟩ (.int .i64 c')) ls gS gW j y (if j = k then c' else c) := by
  obtain ⟨⟨p, q, h0, h1, h2, h3, h4, h5, h6, h7, h8⟩, ⟨t, ht, h9⟩, h10, h11⟩ := h
  have kp : Keep A A w (w.setCell ⟨gW, k * 9 + 8, none⟩ (.int .i64 c')) := fun b hb _ => ⟨hb, Below.heap_setCell _ _ _ _ (hA b hb)⟩
  refine ⟨⟨p, q, by rw [sc_off (by omega)]; exact h0, by rw [sc_off (by omega)]; exact h1, by rw [sc_off (by omega)]; exact h2, by rw [sc_off (by omega)]; exact h3, by rw [sc_off (by omega)]; exact h4, by rw [sc_off (by omega)]; exact h5, by rw [sc_off (by omega)]; exact h6, h7.carry kp, h8.carry kp⟩, ⟨t, ht, by rw [sc_off (by omega)]; exact h9⟩, ?_, by rw [World.frozen?_setCell]; exact h11⟩
  split
  · rename_i e; subst e; exact sc_same h10
  · rw [sc_off (by omega)]; exact h10
theorem WaysM.put {gS gW k : Nat} {ys : List Wy} {cs : List Int} {c' : Int} (h : WaysM A w ls gS gW ys cs) (hA : ∀ b, A b → b ≠ gW) : WaysM A (w.setCell ⟨gW, k * 9 + 8, none⟩ (.int .i64 c')) ls gS gW ys (cs.set k c') := by
  refine ⟨by rw [List.length_set]; exact h.1, fun j y c hy hc => ?_⟩
  have hj : j < cs.length := by have := (List.getElem?_eq_some_iff.1 hc).1; rwa [List.length_set] at this
  have h0 := h.2 j y _ hy (List.getElem?_eq_getElem hj)
  have := h0.put (k := k) (c' := c') hA
  rw [List.getElem?_set] at hc
  by_cases e : j = k
  · subst e
    rw [if_pos rfl] at this hc
    simp [hj] at hc
    rw [← hc]; exact this
  · rw [if_neg e] at this
    rw [if_neg (fun h => e h.symm), List.getElem?_eq_getElem hj] at hc
    injection hc with hc
    rw [← hc]; exact this
theorem WaysM.keep {gS gW : Nat} {ys : List Wy} {cs : List Int} (h : WaysM A w ls gS gW ys cs) (hA : ∀ b, A b → b < w.heap.size → w'.heap[b]? = w.heap[b]?) (hW : 0 < ys.length → w'.heap[gW]? = w.heap[gW]?) : WaysM A w' ls gS gW ys cs :=
  ⟨h.1, fun j y c hy hc => (h.2 j y c hy hc).keep hA (hW (by have := (List.getElem?_eq_some_iff.1 hy).1; omega))⟩
/-- what open hands back -/
def wP (gW : Nat) : Option Nat → Value
  | none => .pointer none
  | some j => .pointer (some ⟨gW, j * 9, none⟩)
theorem opnI_at {ov : Bool} {ask : Wy → Bool} {ys : List Wy} {f k : Nat} {cs : List Int} {y : Wy} (hy : ys[k]? = some y) : opnI ov now was ask ys (f + 1) k cs = if ask y && isSo ov now was y then (if (y.times : Int) ≤ wrap64 (cs.getD k 0 + 1) then (some k, cs.set k (wrap64 (cs.getD k 0 + 1))) else opnI ov now was ask ys f (k + 1) (cs.set k (wrap64 (cs.getD k 0 + 1)))) else opnI ov now was ask ys f (k + 1) cs := by
  rw [opnI, hy]
end
end Go.Proofs.YtiihgnagjemikaaGreatDoor
/- What runs, as it changes: a region's own block, a state's ways, what is inside. -/
namespace Go.Proofs.YtiihgnagjemikaaGreatDoor
open Go.RowKit Px

/-- a state, another one in its place -/
def withS {ρ : Type} (d : RdF ρ) (i : Nat) (x : SdF ρ) : RdF ρ := ⟨d.there, d.was, d.sts.set i x⟩
theorem withS_at {ρ : Type} {d : RdF ρ} {i : Nat} (x : SdF ρ) (hi : i < d.sts.length) : (withS d i x).sts[i]? = some x := by simp [withS, hi]
theorem withS_other {ρ : Type} {d : RdF ρ} {i j : Nat} (x : SdF ρ) (h : i ≠ j) : (withS d i x).sts[j]? = d.sts[j]? := by simp [withS, h]
theorem withS_self {ρ : Type} {d : RdF ρ} {i : Nat} {x : SdF ρ} (h : d.sts[i]? = some x) : withS d i x = d := by
  obtain ⟨hi, rfl⟩ := List.getElem?_eq_some_iff.1 h
  unfold withS
  rw [List.set_getElem_self]
theorem withS_withS {ρ : Type} (d : RdF ρ) (i : Nat) (x y : SdF ρ) : withS (withS d i x) i y = withS d i y := by simp [withS]
section
variable {A P : Nat → Prop} {w w' : World} {k g bn : Nat} {L : List (StF (St k))} {d d' : RdF (Rd k)} {l : Lie}
theorem RMem.keepBut (h : RMem A w (RegM A k w) P L d g l) (hA : ∀ b, A b → b < w.heap.size → w'.heap[b]? = w.heap[b]?) (hP : ∀ b, P b → b ≠ g → w'.heap[b]? = w.heap[b]?)
    (hg : w'.heap[g]? = some (.cells #[pS l.gS (some l.fi), pS l.gS d'.there, pS l.gS d'.was] 101 (0, 0))) (hs : d'.sts = d.sts) (ht : ∀ i, d'.there = some i → i < L.length) (hw : ∀ i, d'.was = some i → i < L.length) : RMem A w' (RegM A k w') P L d' g l := by
  refine ⟨hg, h.hf, h.pg, h.ps, by rw [hs]; exact h.len, ht, hw, fun i s x hi hx => ?_⟩
  rw [hs] at hx
  have hm := h.st i s x hi hx
  have hr := h.pg.2
  refine hm.keep hA (hP _ h.ps.1 fun e => ?_) (fun hl => ?_) (fun hl => ?_) (fun j r d0 _ _ hR => RegM.keep k hR hA fun b hb => hP b hb.1 fun e => ?_)
  · have := h.ps.2; rw [e, hr] at this; simp at this
  · obtain ⟨_, _, _, h1⟩ := hm.wy
    refine hP _ (h1 hl).2.1 fun e => ?_
    have := (h1 hl).2.2; rw [e, hr] at this; simp at this
  · obtain ⟨_, _, _, h1⟩ := hm.iy
    refine hP _ (h1 hl).2.1 fun e => ?_
    have := (h1 hl).2.2; rw [e, hr] at this; simp at this
  · have := hb.2; rw [e, hr] at this; simp at this
theorem RMem.keep (h : RMem A w (RegM A k w) P L d g l) (hA : ∀ b, A b → b < w.heap.size → w'.heap[b]? = w.heap[b]?) (hP : ∀ b, P b → w'.heap[b]? = w.heap[b]?) : RMem A w' (RegM A k w') P L d g l :=
  h.keepBut hA (fun b hb _ => hP b hb) (by rw [hP g h.pg.1]; exact h.hg) rfl h.th h.wa
/-- the variables alone have changed -/
theorem RMem.vars {Q : Nat → Prop} {rb bw : Nat} (h : RMem A w (RegM A k w) P L d g l) (hS : Sep A P w rb bn bw) (hf : FrP Q bn w w') (hQ : ∀ b, P b → ¬ Q b) (hQA : ∀ b, A b → ¬ Q b) : RMem A w' (RegM A k w') P L d g l :=
  h.keep (fun b hb hlt => hf.block b hlt (hQA b hb) (hS.a b hb).2.2) (fun b hb => hf.block b (hS.p b hb).1 (hQ b hb) (hS.p b hb).2.2.1)
/-- how often ways were so has changed -/
theorem RMem.ways {rb bw i : Nat} {s : StF (St k)} {x : SdF (Rd k)} {cs : List Int} (h : RMem A w (RegM A k w) P L d g l) (hS : Sep A P w rb bn bw) (hi : L[i]? = some s) (hx : d.sts[i]? = some x) (hf : FrP (fun b => 0 < s.ways.length ∧ b = l.gW i) bn w w') (hW : WaysM A w' (snames L) l.gS (l.gW i) s.ways cs) :
    RMem A w' (RegM A k w') P L (withS d i ⟨cs, x.inside⟩) g l := by
  have hm0 := h.st i s x hi hx
  obtain ⟨_, _, _, hwy⟩ := hm0.wy
  have hrole : 0 < s.ways.length → l.role (l.gW i) = Role.ways i := fun hl => (hwy hl).2.2
  have hA : ∀ b, A b → b < w.heap.size → w'.heap[b]? = w.heap[b]? := fun b hb hlt => hf.block b hlt (fun e => (hS.a b hb).2.1 (e.2 ▸ (hwy e.1).2.1)) (hS.a b hb).2.2
  have hP : ∀ b, P b → (0 < s.ways.length → l.role b ≠ Role.ways i) → w'.heap[b]? = w.heap[b]? := fun b hb hr => hf.block b (hS.p b hb).1 (fun e => hr e.1 (e.2 ▸ hrole e.1)) (hS.p b hb).2.2.1
  have hxl : i < d.sts.length := (List.getElem?_eq_some_iff.1 hx).1
  refine ⟨by rw [hP g h.pg.1 (fun _ => by rw [h.pg.2]; simp)]; exact h.hg, h.hf, h.pg, h.ps, by rw [← h.len]; simp [withS], h.th, h.wa, fun i' s' x' hi' hx' => ?_⟩
  by_cases e : i = i'
  · subst e
    rw [withS_at _ hxl] at hx'
    injection hx' with hx'
    subst hx'
    rw [hi] at hi'
    injection hi' with hi'
    subst hi'
    have hc : ∀ {o : Nat} {v : Value}, w.cell? ⟨l.gS, o, none⟩ = some v → w'.cell? ⟨l.gS, o, none⟩ = some v := fun {o v} hv => by rw [World.cell?_of_block (w := w) (a := ⟨l.gS, o, none⟩) (hP _ h.ps.1 (fun _ => by rw [h.ps.2]; simp))]; exact hv
    have kp : Keep A A w w' := fun b hb hlt => ⟨hb, hA b hb hlt⟩
    obtain ⟨c0, c2, ⟨ve, e1, e2⟩, ⟨vd, d1, d2⟩, ⟨vl, l1, l2⟩, ⟨p, p1, p2⟩, ⟨aw, cw, w1, w2⟩, wl, wm, ⟨ai, ci, i1, i2⟩, il, im⟩ := hm0
    refine ⟨hc c0, hc c2, ⟨ve, hc e1, e2.carry kp⟩, ⟨vd, hc d1, d2.carry kp⟩, ⟨vl, hc l1, l2.carry kp⟩, ⟨p, hc p1, p2.carry kp⟩, ⟨aw, cw, hc w1, w2⟩, hW.1, hW.2, ⟨ai, ci, hc i1, i2⟩, il, fun j r d0 hr hd => ?_⟩
    have hlt : j < s.regions.length := (List.getElem?_eq_some_iff.1 hr).1
    obtain ⟨q1, q2⟩ := im j r d0 hr hd
    have hi2 := i2 (by omega)
    refine ⟨by rw [World.cell?_of_block (w := w) (a := ⟨l.gI i, j, none⟩) (hP _ hi2.2.1 (fun _ => by rw [hi2.2.2]; simp))]; exact q1, RegM.keep k q2 hA fun b hb => hP b hb.1 (fun _ => by rw [hb.2]; simp)⟩
  · rw [withS_other _ e] at hx'
    have hm := h.st i' s' x' hi' hx'
    refine hm.keep hA (hP _ h.ps.1 (fun _ => by rw [h.ps.2]; simp)) (fun hl => ?_) (fun hl => ?_) (fun j r d0 _ _ hR => RegM.keep k hR hA fun b hb => hP b hb.1 (fun _ => by rw [hb.2]; simp))
    · obtain ⟨_, _, _, h1⟩ := hm.wy
      exact hP _ (h1 hl).2.1 (fun _ => by rw [(h1 hl).2.2]; simp; omega)
    · obtain ⟨_, _, _, h1⟩ := hm.iy
      exact hP _ (h1 hl).2.1 (fun _ => by rw [(h1 hl).2.2]; simp)
/-- what is inside has changed -/
theorem RMem.inner {rb bw i j : Nat} {s : StF (St k)} {x : SdF (Rd k)} {r : List (St k)} {e e' : Rd k} (h : RMem A w (RegM A k w) P L d g l) (hS : Sep A P w rb bn bw) (hi : L[i]? = some s) (hx : d.sts[i]? = some x) (hr : s.regions[j]? = some r) (he : x.inside[j]? = some e)
    (hf : FrP (fun b => P b ∧ l.role b = Role.inner i j) bn w w') (hR : RegM A k w' (fun b => P b ∧ l.role b = Role.inner i j) r e' (l.gr i j)) :
    RMem A w' (RegM A k w') P L (withS d i ⟨x.so, x.inside.set j e'⟩) g l := by
  have hA : ∀ b, A b → b < w.heap.size → w'.heap[b]? = w.heap[b]? := fun b hb hlt => hf.block b hlt (fun e => (hS.a b hb).2.1 e.1) (hS.a b hb).2.2
  have hP : ∀ b, P b → l.role b ≠ Role.inner i j → w'.heap[b]? = w.heap[b]? := fun b hb hr => hf.block b (hS.p b hb).1 (fun e => hr e.2) (hS.p b hb).2.2.1
  have hxl : i < d.sts.length := (List.getElem?_eq_some_iff.1 hx).1
  refine ⟨by rw [hP g h.pg.1 (by rw [h.pg.2]; simp)]; exact h.hg, h.hf, h.pg, h.ps, by rw [← h.len]; simp [withS], h.th, h.wa, fun i' s' x' hi' hx' => ?_⟩
  have hgS := hP _ h.ps.1 (by rw [h.ps.2]; simp)
  by_cases e0 : i = i'
  · subst e0
    rw [withS_at _ hxl] at hx'
    injection hx' with hx'
    subst hx'
    rw [hi] at hi'
    injection hi' with hi'
    subst hi'
    have hm0 := h.st i s x hi hx
    have hc : ∀ {o : Nat} {v : Value}, w.cell? ⟨l.gS, o, none⟩ = some v → w'.cell? ⟨l.gS, o, none⟩ = some v := fun {o v} hv => by rw [World.cell?_of_block (w := w) (a := ⟨l.gS, o, none⟩) hgS]; exact hv
    have kp : Keep A A w w' := fun b hb hlt => ⟨hb, hA b hb hlt⟩
    obtain ⟨c0, c2, ⟨ve, e1, e2⟩, ⟨vd, d1, d2⟩, ⟨vl, l1, l2⟩, ⟨p, p1, p2⟩, ⟨aw, cw, w1, w2⟩, wl, wm, ⟨ai, ci, i1, i2⟩, il, im⟩ := hm0
    refine ⟨hc c0, hc c2, ⟨ve, hc e1, e2.carry kp⟩, ⟨vd, hc d1, d2.carry kp⟩, ⟨vl, hc l1, l2.carry kp⟩, ⟨p, hc p1, p2.carry kp⟩, ⟨aw, cw, hc w1, w2⟩, wl, fun q y c hy hc' => ?_, ⟨ai, ci, hc i1, i2⟩, by simpa using il, fun q r' d0 hr' hd => ?_⟩
    · have hlt : q < s.ways.length := (List.getElem?_eq_some_iff.1 hy).1
      have hw2 := w2 (by omega)
      exact (wm q y c hy hc').keep hA (hP _ hw2.2.1 (by rw [hw2.2.2]; simp))
    · have hlt : q < s.regions.length := (List.getElem?_eq_some_iff.1 hr').1
      have hi2 := i2 (by omega)
      have hgI := hP _ hi2.2.1 (by rw [hi2.2.2]; simp)
      by_cases eq : j = q
      · subst eq
        rw [hr] at hr'
        injection hr' with hr'
        subst hr'
        obtain ⟨q1, _⟩ := im j r e hr he
        have hjl : j < x.inside.length := (List.getElem?_eq_some_iff.1 he).1
        simp [hjl] at hd
        subst hd
        exact ⟨by rw [World.cell?_of_block (w := w) (a := ⟨l.gI i, j, none⟩) hgI]; exact q1, hR⟩
      · rw [List.getElem?_set, if_neg eq] at hd
        obtain ⟨q1, q2⟩ := im q r' d0 hr' hd
        exact ⟨by rw [World.cell?_of_block (w := w) (a := ⟨l.gI i, q, none⟩) hgI]; exact q1, RegM.keep k q2 hA fun b hb => hP b hb.1 (by rw [hb.2]; simp; omega)⟩
  · rw [withS_other _ e0] at hx'
    have hm := h.st i' s' x' hi' hx'
    refine hm.keep hA hgS (fun hl => ?_) (fun hl => ?_) (fun q r' d0 _ _ hR' => RegM.keep k hR' hA fun b hb => hP b hb.1 (by rw [hb.2]; simp; omega))
    · obtain ⟨_, _, _, h1⟩ := hm.wy
      exact hP _ (h1 hl).2.1 (by rw [(h1 hl).2.2]; simp)
    · obtain ⟨_, _, _, h1⟩ := hm.iy
      exact hP _ (h1 hl).2.1 (by rw [(h1 hl).2.2]; simp)
end
end Go.Proofs.YtiihgnagjemikaaGreatDoor
/- The runner's leave, of a region at any depth. -/
namespace Go.Proofs.YtiihgnagjemikaaGreatDoor
open Go.RowKit Px

/-- what is done with a region -/
def RegTo (A : Nat → Prop) (k : Nat) (P : Nat → Prop) (rb bn bw m : Nat) (ns : List Str) (was : Px.Env) (w : World) (L : List (St k)) (g : Nat) (now' : Px.Env) (d' : Rd k) (e : Ending) (w' : World) : Prop :=
  e = .returned (.tuple #[]) ∧ Hid (RegM A k w' P L d' g ∧ RunV w' rb bn bw m ns now' was ∧ FrP P bn w w')
/-- .. whose parts lie where they lay -/
def LieTo (A P : Nat → Prop) {k : Nat} (rb bn bw m : Nat) (ns : List Str) (was : Px.Env) (w : World) (L : List (StF (St k))) (g : Nat) (l : Lie) (now' : Px.Env) (d' : RdF (Rd k)) (e : Ending) (w' : World) : Prop :=
  e = .returned (.tuple #[]) ∧ Hid (RMem A w' (RegM A k w') P L d' g l ∧ RunV w' rb bn bw m ns now' was ∧ FrP P bn w w')
def LeaveOk (A : Nat → Prop) (k : Nat) : Prop := ∀ {P : Nat → Prop} {w : World} {rb bn bw m : Nat} {ns : List Str} {now was now' : Px.Env} {L : List (St k)} {d d' : Rd k} {g : Nat}, RegM A k w P L d g → StAll ns k L → Sep A P w rb bn bw → RunV w rb bn bw m ns now was → (OpsK k).leave was L now d = some (now', d') →
  Calls Tryz.prog 100 #[.pointer (some ⟨rb, 0, none⟩), .pointer (some ⟨g, 0, none⟩)] w (RegTo A k P rb bn bw m ns was w L g now' d')
theorem allI_step {σ ρ : Type} {f : List σ → Px.Env → ρ → Option (Px.Env × ρ)} {rs : List (List σ)} {fu j : Nat} {n : Px.Env} {ds : List ρ} {p : Px.Env × List ρ} {r : List σ} (h : allI f rs (fu + 1) j n ds = some p) (hr : rs[j]? = some r) :
    ∃ dj q, ds[j]? = some dj ∧ f r n dj = some q ∧ allI f rs fu (j + 1) q.1 (ds.set j q.2) = some p := by
  rw [allI, hr] at h
  cases hd : ds[j]? with
  | none => rw [hd] at h; exact absurd h (by simp)
  | some dj =>
    rw [hd] at h
    simp only at h
    cases hf : f r n dj with
    | none => rw [hf] at h; exact absurd h (by simp)
    | some q => rw [hf] at h; exact ⟨dj, q, rfl, hf, h⟩
section
variable {A P : Nat → Prop} {w w' : World} {k g rb bn bw m : Nat} {ns : List Str} {now was : Px.Env} {L : List (StF (St k))} {d : RdF (Rd k)} {l : Lie}
/-- the chart and the runner's own blocks, where sets are done -/
theorem Sep.chart (h : Sep A P w rb bn bw) : ∀ b, A b → b < w.heap.size ∧ b ≠ bn := fun b hb => ⟨(h.a b hb).1, (h.a b hb).2.2⟩
set_option maxRecDepth 100000 in
set_option maxHeartbeats 8000000 in
theorem leave_succ (ih : LeaveOk A k) {now' : Px.Env} {d' : RdF (Rd k)} (h : RMem A w (RegM A k w) P L d g l) (hst : ∀ s ∈ L, StR ns s ∧ ∀ r ∈ s.regions, StAll ns k r) (hS : Sep A P w rb bn bw) (hv : RunV w rb bn bw m ns now was) (hl : leaveR (OpsK k) was L now d = some (now', d')) :
    Calls Tryz.prog 100 #[.pointer (some ⟨rb, 0, none⟩), .pointer (some ⟨g, 0, none⟩)] w (LieTo A P rb bn bw m ns was w L g l now' d') := by
  have hcT := cell_row h.hg 1 (u := pS l.gS d.there) rfl
  cases ht : d.there with
  | none =>
    rw [ht] at hcT
    rw [leaveR, ht] at hl
    injection hl with hl
    injection hl with h1 h2
    subst h1 h2
    have HF : Hid (RMem A w (RegM A k w) P L d g l ∧ RunV w rb bn bw m ns now was) := ⟨h, hv⟩
    have hc1 : w.cell? ⟨g, 1, none⟩ = some (.pointer none) := hcT
    clear hcT
    clear h hst hS hv ht ih
    go_enter Tryz.func100, Tryz.ntmps100
    go_wp2_with fail
    go_end0
    exact ⟨rfl, HF.out.1, HF.out.2, FrP.refl _ _ _⟩
  | some i =>
    rw [ht] at hcT
    rw [leaveR, ht] at hl
    simp only at hl
    have hil := h.th i ht
    obtain ⟨s, hs⟩ : ∃ s, L[i]? = some s := ⟨_, List.getElem?_eq_getElem hil⟩
    obtain ⟨x, hx⟩ : ∃ x, d.sts[i]? = some x := ⟨_, List.getElem?_eq_getElem (by rw [h.len]; exact hil)⟩
    rw [hs, hx] at hl
    simp only at hl
    cases hall : allI ((OpsK k).leave was) s.regions s.regions.length 0 now x.inside with
    | none => rw [hall] at hl; exact absurd hl (by simp)
    | some p =>
      rw [hall] at hl
      injection hl with hl
      injection hl with h1 h2
      subst h1 h2
      obtain ⟨n, hn⟩ : ∃ n, n = s.regions.length := ⟨_, rfl⟩
      have hsr := (hst s (List.mem_of_getElem? hs)).1
      have hm := h.st i s x hs hx
      obtain ⟨ai, ci, ci10, hai⟩ := hm.iy
      rw [← hn] at ci10 hai
      have hN6 : (n : Int) ≤ 9223372036854775807 := by have := hsr.il; unfold maxLen at this; omega
      obtain ⟨o, ho⟩ : ∃ o, o = i * 11 := ⟨_, rfl⟩
      have hc1 : w.cell? ⟨g, 1, none⟩ = some (.pointer (some ⟨l.gS, o, none⟩)) := by rw [ho]; exact hcT
      clear hcT
      rw [← ho] at ci10
      have HI : Hid (L[i]? = some s ∧ d.sts[i]? = some x ∧ i < L.length ∧ n = s.regions.length ∧ o = i * 11 ∧ i < d.sts.length) := ⟨hs, hx, hil, hn, ho, by rw [h.len]; exact hil⟩
      have HAI : Hid (0 < n → ai = some ⟨l.gI i, 0, none⟩) := fun hp => (hai hp).1
      have HS : Hid (Sep A P w rb bn bw) := hS
      have HST : Hid (∀ s ∈ L, StR ns s ∧ ∀ r ∈ s.regions, StAll ns k r) := hst
      have HIH : Hid (LeaveOk A k) := ih
      have H0 : Hid (allI ((OpsK k).leave was) s.regions (n - 0) 0 now x.inside = some p ∧ RMem A w (RegM A k w) P L (withS d i ⟨x.so, x.inside⟩) g l ∧ RunV w rb bn bw m ns now was ∧ FrP P bn w w) := ⟨by rw [Nat.sub_zero, hn]; exact hall, by rw [withS_self hx]; exact h, hv, FrP.refl _ _ _⟩
      clear h hst hS hv ht ih hs hx hil hn ho hall hai hm hsr
      go_enter Tryz.func100, Tryz.ntmps100
      go_wp2_with fail
      go_loopg [18] n (fun f i' wr => ∃ (j : Nat) (nj : Px.Env) (ins : List (Rd k)), f = n - j ∧ j ≤ n ∧ i' = .int .i64 (j : Int) ∧ Hid (allI ((OpsK k).leave was) s.regions (n - j) j nj ins = some p ∧ RMem A wr (RegM A k wr) P L (withS d i ⟨x.so, ins⟩) g l ∧ RunV wr rb bn bw m ns nj was ∧ FrP P bn w wr))
      case atStart => exact ⟨0, now, x.inside, by omega, by omega, rfl, H0.out⟩
      case round =>
        obtain ⟨j, nj, ins, rfl, hj, rfl, hr⟩ := hrel
        obtain ⟨hr1, hr2, hr3, hr4⟩ := hr.out
        have hm := hr2.st i s ⟨x.so, ins⟩ HI.out.1 (withS_at _ HI.out.2.2.2.2.2)
        by_cases hlt : j < n
        · obtain ⟨r, hrj⟩ : ∃ r, s.regions[j]? = some r := ⟨s.regions[j]'(by rw [← HI.out.2.2.2.1]; exact hlt), by rw [List.getElem?_eq_getElem]⟩
          rw [show n - j = n - (j + 1) + 1 by omega] at hr1
          obtain ⟨dj, q, hd, hq, hnx⟩ := allI_step hr1 hrj
          obtain ⟨cj, hRj⟩ := hm.im j r dj hrj hd
          have hix := ixG ai (l.gI i) n ci j hlt HAI.out
          have hcall := HIH.out hRj ((HST.out s (List.mem_of_getElem? HI.out.1)).2 r (List.mem_of_getElem? hrj)) ((HS.out.up hr4.size).sub fun b hb => hb.1) hr3 hq
          unfold RegTo at hcall
          have HN : Hid (∀ w', RegM A k w' (fun b => P b ∧ l.role b = Role.inner i j) r q.2 (l.gr i j) ∧ RunV w' rb bn bw m ns q.1 was ∧ FrP (fun b => P b ∧ l.role b = Role.inner i j) bn wr w' → allI ((OpsK k).leave was) s.regions (n - (j + 1)) (j + 1) q.1 (ins.set j q.2) = some p ∧ RMem A w' (RegM A k w') P L (withS d i ⟨x.so, ins.set j q.2⟩) g l ∧ RunV w' rb bn bw m ns q.1 was ∧ FrP P bn w w') := fun w' ⟨a1, a2, a3⟩ => by
            have := hr2.inner (HS.out.up hr4.size) HI.out.1 (withS_at _ HI.out.2.2.2.2.2) hrj hd a3 a1
            rw [withS_withS] at this
            exact ⟨hnx, this, a2, hr4.trans (a3.wide fun b hb => hb.1)⟩
          clear hr hr1 hr2 hr3 hr4 hm hrj hd hq hnx hRj
          go_wp2_with (refine hcall.mono ?_; rintro e w5 ⟨rfl, h5⟩)
          go_roundg (n - (j + 1))
          case measure => omega
          case rel => exact ⟨j + 1, q.1, ins.set j q.2, rfl, by omega, by go_num, HN.out w5 h5.out⟩
        · obtain rfl : j = n := by omega
          rw [Nat.sub_self, allI] at hr1
          injection hr1 with hr1
          subst hr1
          obtain ⟨vl, c5, hvl⟩ := hm.le
          rw [← HI.out.2.2.2.2.1] at c5
          have hdo := do_any (HST.out s (List.mem_of_getElem? HI.out.1)).1.le hvl hr3 (HS.out.up hr4.size).chart HS.out.rn HS.out.wn
          have HG : Hid (RMem A wr (RegM A k wr) P L (withS d i ⟨x.so, ins⟩) g l ∧ FrP P bn w wr) := ⟨hr2, hr4⟩
          obtain ⟨va, vn, vc, rfl⟩ := hvl.sl'
          clear hr hr2 hr3 hr4 hm hvl
          go_upto_region 7 with fail
          go_wp2_with fail
          refine hdo.mono ?_
          rintro e w2 ⟨rfl, h2⟩
          obtain ⟨hv2, hf2⟩ := h2.out
          have hR2 := HG.out.1.vars (HS.out.up HG.out.2.size) hf2 (fun _ _ h => h) (fun _ _ h => h)
          have k1 := cell_row hR2.hg 1 rfl
          have k2 := cell_row hR2.hg 2 rfl
          have f1 := ck_frozen hR2.hg 1
          have f2 := ck_frozen hR2.hg 2
          obtain ⟨W, hW⟩ : ∃ W, W = (w2.setCell ⟨g, 1, none⟩ (.pointer none)).setCell ⟨g, 2, none⟩ (.pointer (some ⟨l.gS, o, none⟩)) := ⟨_, rfl⟩
          have hkW : W.heap[g]? = some (.cells #[pS l.gS (some l.fi), pS l.gS none, pS l.gS (some i)] 101 (0, 0)) := by
            rw [hW, HI.out.2.2.2.2.1]
            exact ck_set (l := [pS l.gS (some l.fi), pS l.gS none, pS l.gS d.was]) (ck_set (l := [pS l.gS (some l.fi), pS l.gS d.there, pS l.gS d.was]) hR2.hg 1 _) 2 _
          have hko : ∀ b, b ≠ g → W.heap[b]? = w2.heap[b]? := fun b hb => by rw [hW, Below.heap_setCell _ _ _ _ hb, Below.heap_setCell _ _ _ _ hb]
          have hfW : FrP P bn w2 W := by
            rw [hW]
            exact ((FrP.refl _ _ _).setCell (p := ⟨g, 1, none⟩) hR2.pg.1 _).setCell (p := ⟨g, 2, none⟩) hR2.pg.1 _
          have hSw := HS.out.up (Nat.le_trans HG.out.2.size hf2.size)
          have HW : Hid (RMem A W (RegM A k W) P L (⟨none, some i, d.sts.set i ⟨x.so, ins⟩⟩ : RdF (Rd k)) g l ∧ RunV W rb bn bw m ns (doS was s.leave nj) was ∧ FrP P bn w W) := by
            refine ⟨hR2.keepBut (d' := ⟨none, some i, d.sts.set i ⟨x.so, ins⟩⟩) (fun b hb hlt => hko b (fun e => (hSw.a b hb).2.1 (e ▸ hR2.pg.1))) (fun b _ hb => hko b hb) hkW rfl (fun _ h => by cases h) (fun i' h => by injection h with h; rw [← h]; exact HI.out.2.2.1), ?_, (HG.out.2.trans (hf2.wide fun _ h => h.elim)).trans hfW⟩
            exact hv2.fr hfW ⟨fun e => (hSw.p rb e).2.1 rfl, hSw.rn⟩ ⟨fun e => (hSw.p bw e).2.2.2 rfl, hSw.wn⟩ (hv2.mn.keep (hko bn (fun e => (hSw.p g hR2.pg.1).2.2.1 e.symm)))
          rw [hW] at HW
          clear hdo h2 hv2 hf2 hR2 hW hkW hko hfW hSw
          go_wp2_with fail
          go_end0
          exact ⟨rfl, HW.out⟩
end
theorem leave_ok (A : Nat → Prop) : ∀ k, LeaveOk A k
  | 0 => fun h => h.elim
  | k + 1 => fun h hst hS hv hl => by
    obtain ⟨l, h⟩ := h
    exact (leave_succ (leave_ok A k) h hst hS hv hl).mono fun e w' ⟨he, hh⟩ => ⟨he, ⟨l, hh.out.1⟩, hh.out.2⟩
end Go.Proofs.YtiihgnagjemikaaGreatDoor
/- The runner's look at ways: the first one that is open, of those that are asked: strong, at once. -/
namespace Go.Proofs.YtiihgnagjemikaaGreatDoor
open Go.RowKit Px
section
variable {A : Nat → Prop} {w w' : World} {rb bn bw m : Nat} {ns ls : List Str} {now was : Px.Env}
set_option maxRecDepth 100000 in
set_option maxHeartbeats 8000000 in
theorem open_NS {gS gW o M cap : Nat} {ad : Option Addr} {ys : List Wy} {cs : List Int} {ov : Bool}
    (hF : ∀ (W : World) (g o : Nat) (y : Wy), W.cell? ⟨g, o, none⟩ = some (.int .i64 (y.kind : Int)) → W.cell? ⟨g, o + 1, none⟩ = some (.bool y.now) → Calls Tryz.prog 103 #[.pointer (some ⟨g, o, none⟩)] W fun e w' => e = .returned (.bool (askNS y)) ∧ w' = W)
    (h9 : w.cell? ⟨gS, o + 9, none⟩ = some (.slice ad M cap)) (hM : M = ys.length) (hmx : M ≤ maxLen) (had : 0 < M → ad = some ⟨gW, 0, none⟩) (hW : WaysM A w ls gS gW ys cs) (hNu : ∀ y ∈ ys, NuOk y.cond) (h : RunV w rb bn bw m ns now was)
    (hne : 0 < M → gW ≠ rb ∧ gW ≠ bn ∧ gW ≠ bw ∧ gW ≠ gS ∧ gW < w.heap.size) (hsn : gS ≠ bn) (hrn : rb ≠ bn) (hwn : bw ≠ bn) (hA : ∀ b, A b → b < w.heap.size ∧ b ≠ bn ∧ (0 < M → b ≠ gW))
    (hov : ∀ (bx : Nat) (W : World), FrP (fun b => 0 < M ∧ b = gW) bn w W → W.cell? ⟨bx, 0, none⟩ = some (.pointer (some ⟨gS, o, none⟩)) → Calls Tryz.prog 126 #[.pointer (some ⟨bx, 0, none⟩)] W fun e w' => e = .returned (.bool ov) ∧ w' = W) :
    Calls Tryz.prog 102 #[.pointer (some ⟨rb, 0, none⟩), .pointer (some ⟨gS, o, none⟩), .func (.func 103) #[] #[]] w fun e w' => e = .returned (wP gW (opnW ov now was askNS ys cs).1) ∧ Hid (WaysM A w' ls gS gW ys (opnW ov now was askNS ys cs).2 ∧ FrP (fun b => 0 < M ∧ b = gW) bn w w' ∧ RunV w' rb bn bw m ns now was) := by
  have hmf : ∀ (fn : Fn) (first cap : Array Value) (w : World), (Instr.makeFunc fn first cap).run Tryz.prog w = .ok (.func fn first cap) w := fun _ _ _ _ => rfl
  have hN6 : (M : Int) ≤ 9223372036854775807 := by unfold maxLen at hmx; omega
  obtain ⟨X, hX⟩ : ∃ X, X = w.alloc (.cells #[.pointer (some ⟨gS, o, none⟩)] 99) := ⟨_, rfl⟩
  obtain ⟨bx, hbx⟩ : ∃ bx, bx = w.heap.size := ⟨_, rfl⟩
  have hbX : Below w.heap.size w X := by rw [hX]; exact ck_grown _ _
  have hkX : X.heap[bx]? = some (.cells #[.pointer (some ⟨gS, o, none⟩)] 99 (0, 0)) := by rw [hX, hbx]; exact ck_new _ _
  have HBX : Hid (∀ W, FrP (fun b => 0 < M ∧ b = gW) bn X W → W.cell? ⟨bx, 0, none⟩ = some (.pointer (some ⟨gS, o, none⟩)) ∧ W.cell? ⟨gS, o + 9, none⟩ = some (.slice ad M cap)) := fun W hW => by
    have hbl := h.mn.lt
    refine ⟨hW.cell (cell_row hkX 0 rfl) (fun e => by have := (hne e.1).2.2.2.2; have := e.2; simp only at this; omega) (by show bx ≠ bn; omega), hW.cell (ck_cell hbX h9) (fun e => (hne e.1).2.2.2.1 e.2.symm) hsn⟩
  have HV : Hid (∀ W, FrP (fun b => 0 < M ∧ b = gW) bn X W → W.heap[bn]? = X.heap[bn]? → RunV W rb bn bw m ns now was) := fun W hW hb => by
    have h1 := h.below hbX
    exact h1.fr hW ⟨fun e => (hne e.1).1 e.2.symm, hrn⟩ ⟨fun e => (hne e.1).2.2.1 e.2.symm, hwn⟩ (h1.mn.keep hb)
  have HW0 : Hid (WaysM A X ls gS gW ys cs) := hW.keep (fun b _ hlt => hbX.block b hlt) (fun hp => hbX.block gW (hne (by omega)).2.2.2.2)
  have HA : Hid (∀ b, A b → b < w.heap.size ∧ b ≠ bn ∧ (0 < M → b ≠ gW)) := hA
  have HF : Hid (∀ (W : World) (g o : Nat) (y : Wy), W.cell? ⟨g, o, none⟩ = some (.int .i64 (y.kind : Int)) → W.cell? ⟨g, o + 1, none⟩ = some (.bool y.now) → Calls Tryz.prog 103 #[.pointer (some ⟨g, o, none⟩)] W fun e w' => e = .returned (.bool (askNS y)) ∧ w' = W) := hF
  have HOV : Hid (∀ W, FrP (fun b => 0 < M ∧ b = gW) bn X W → Calls Tryz.prog 126 #[.pointer (some ⟨bx, 0, none⟩)] W fun e w' => e = .returned (.bool ov) ∧ w' = W) := fun W hW => hov bx W ((FrP.of_below hbX).trans hW) (HBX.out W hW).1
  have HNE : Hid (0 < M → gW ≠ rb ∧ gW ≠ bn ∧ gW ≠ bw ∧ gW ≠ gS ∧ gW < w.heap.size) := hne
  have HNU : Hid (∀ y ∈ ys, NuOk y.cond) := hNu
  have HAD : Hid (0 < M → ad = some ⟨gW, 0, none⟩) := had
  have HM : Hid (M = ys.length) := hM
  have HB0 : Hid (Below w.heap.size w X) := hbX
  obtain ⟨x0, x9⟩ := HBX.out X (FrP.refl _ _ _)
  obtain ⟨R, hR⟩ : ∃ R, R = opnW ov now was askNS ys cs := ⟨_, rfl⟩
  have HR : Hid (R = opnI ov now was askNS ys M 0 cs) := by rw [Hid, hR, opnW, hM]
  rw [← hR]
  clear hF hW hNu h hne hsn hrn hwn hA hov hbX hkX hM hmx had h9 hR
  rw [hX] at x0 x9
  rw [hbx] at x0
  go_enter Tryz.func102, Tryz.ntmps102
  go_wp2_with fail
  rw [← hX, ← hbx]
  clear x0 x9 hX hbx
  go_loopg [16] M (fun f i wr => ∃ (k : Nat) (ds : List Int), f = M - k ∧ k ≤ M ∧ i = .int .i64 (k : Int) ∧ Hid (R = opnI ov now was askNS ys (M - k) k ds ∧ WaysM A wr ls gS gW ys ds ∧ FrP (fun b => 0 < M ∧ b = gW) bn X wr ∧ wr.heap[bn]? = X.heap[bn]?))
  case atStart => exact ⟨0, cs, by omega, by omega, rfl, HR.out, HW0.out, FrP.refl _ _ _, rfl⟩
  case round =>
    obtain ⟨k, ds, rfl, hk, rfl, hr⟩ := hrel
    obtain ⟨hr1, hr2, hr3, hr4⟩ := hr.out
    by_cases hlt : k < M
    · obtain ⟨y, hy⟩ : ∃ y, ys[k]? = some y := ⟨ys[k]'(by rw [← HM.out]; exact hlt), by rw [List.getElem?_eq_getElem]⟩
      obtain ⟨c, hc⟩ : ∃ c, ds[k]? = some c := ⟨ds[k]'(by rw [hr2.1, ← HM.out]; exact hlt), by rw [List.getElem?_eq_getElem]⟩
      have hcd : ds.getD k 0 = c := by rw [List.getD_eq_getElem?_getD, hc]; rfl
      have hwm := hr2.2 k y c hy hc
      have hop := opnI_at (now := now) (was := was) (ov := ov) (ask := askNS) (f := M - (k + 1)) (cs := ds) hy
      rw [show M - (k + 1) + 1 = M - k by omega, hcd, ← hr1] at hop
      obtain ⟨z0, z9⟩ := HBX.out wr hr3
      have hix := ixY ad gW M cap k hlt HAD.out
      obtain ⟨⟨p, q, y0, y1, _⟩, _⟩ := hwm
      have hask := HF.out wr gW (k * 9) y y0 y1
      have hrv := HV.out wr hr3 hr4
      have hio := isOpen_any (bx := bx) (hr2.2 k y c hy hc) (HNU.out y (List.mem_of_getElem? hy)) hrv (fun W hW => HOV.out W (hr3.trans (FrP.of_below hW)))
      have HG : Hid (WaysM A wr ls gS gW ys ds ∧ FrP (fun b => 0 < M ∧ b = gW) bn X wr ∧ wr.heap[bn]? = X.heap[bn]? ∧ RunV wr rb bn bw m ns now was) := ⟨hr2, hr3, hr4, hrv⟩
      obtain ⟨tm, htm⟩ : ∃ tm : Int, tm = (y.times : Int) := ⟨_, rfl⟩
      rw [← htm] at hop hio
      unfold ovV at hio
      unfold OpenTo at hio
      have HNK : Hid (∀ W, Below wr.heap.size wr W → WaysM A W ls gS gW ys ds ∧ FrP (fun b => 0 < M ∧ b = gW) bn X W ∧ W.heap[bn]? = X.heap[bn]?) := fun W hW =>
        ⟨hr2.keep (fun b _ hl => hW.block b hl) (fun _ => hW.block gW (Nat.lt_of_lt_of_le (HNE.out (by omega)).2.2.2.2 (Nat.le_trans HB0.out.size hr3.size))), hr3.trans (FrP.of_below hW), by rw [hW.block bn hrv.mn.lt]; exact hr4⟩
      have HPUT : Hid (∀ W nq, Below wr.heap.size wr W → WaysM A ((W.setCell ⟨gW, k * 9 + 8, none⟩ (.int .i64 (wrap64 (c + 1)))).drewN nq) ls gS gW ys (ds.set k (wrap64 (c + 1))) ∧ FrP (fun b => 0 < M ∧ b = gW) bn X ((W.setCell ⟨gW, k * 9 + 8, none⟩ (.int .i64 (wrap64 (c + 1)))).drewN nq) ∧ ((W.setCell ⟨gW, k * 9 + 8, none⟩ (.int .i64 (wrap64 (c + 1)))).drewN nq).heap[bn]? = X.heap[bn]?) := fun W nq hW => by
        obtain ⟨a1, a2, a3⟩ := HNK.out W hW
        refine ⟨(a1.put (k := k) (c' := wrap64 (c + 1)) (fun b hb => (HA.out b hb).2.2 (by omega))).keep (fun _ _ _ => rfl) (fun _ => rfl), ?_, ?_⟩
        · exact (a2.setCell (p := ⟨gW, k * 9 + 8, none⟩) ⟨by omega, rfl⟩ _).trans ⟨rfl, rfl, rfl, Nat.le_refl _, fun _ _ _ _ => rfl⟩
        · show (W.setCell ⟨gW, k * 9 + 8, none⟩ _).heap[bn]? = _
          rw [Below.heap_setCell _ _ _ _ (fun e => (HNE.out (by omega)).2.1 e.symm)]; exact a3
      clear hr hr1 hr2 hr3 hr4 hy hc hcd hrv htm
      cases hak : askNS y with
      | false =>
        rw [hak] at hask hop
        rw [Bool.false_and, if_neg (by simp)] at hop
        have HOP : Hid (R = opnI ov now was askNS ys (M - (k + 1)) (k + 1) ds) := hop
        clear hop hak hio HNK HPUT
        go_wp2_with (refine hask.mono ?_; rintro e w' ⟨rfl, hw'⟩; obtain rfl := hw'.symm)
        go_roundg (M - (k + 1))
        case measure => omega
        case rel => exact ⟨k + 1, ds, rfl, by omega, by go_num, HOP.out, HG.out.1, HG.out.2.1, HG.out.2.2.1⟩
      | true =>
        rw [hak] at hask hop
        rw [Bool.true_and] at hop
        cases hso : isSo ov now was y with
        | false =>
          rw [hso] at hio hop
          rw [if_neg (by simp)] at hop
          have HOP : Hid (R = opnI ov now was askNS ys (M - (k + 1)) (k + 1) ds) := hop
          clear hop hak hso HPUT
          go_wp2_with (first
            | (go_at_call 127; refine hio.mono ?_; rintro e w1 ⟨W, nq, hB, ⟨-, rfl, hw1⟩ | ⟨hn, -⟩⟩; rotate_left; (· exact absurd hn (by simp)); obtain rfl := hw1.symm)
            | (refine hask.mono ?_; rintro e w' ⟨rfl, hw'⟩; obtain rfl := hw'.symm))
          go_roundg (M - (k + 1))
          case measure => omega
          case rel => obtain ⟨a1, a2, a3⟩ := HNK.out W hB.out; exact ⟨k + 1, ds, rfl, by omega, by go_num, HOP.out, a1, a2, a3⟩
        | true =>
          rw [hso] at hio hop
          rw [if_pos rfl] at hop
          by_cases htt : tm ≤ wrap64 (c + 1)
          · rw [if_pos htt] at hop
            have HOP : Hid (R = (some k, ds.set k (wrap64 (c + 1)))) := hop
            rw [show decide (tm ≤ wrap64 (c + 1)) = true from decide_eq_true htt] at hio
            clear hop hak hso HNK htt
            go_wp2_with (first
              | (go_at_call 127; refine hio.mono ?_; rintro e w1 ⟨W, nq, hB, ⟨hn, -⟩ | ⟨-, rfl, hw1⟩⟩; (· exact absurd hn (by simp)))
              | (refine hask.mono ?_; rintro e w' ⟨rfl, hw'⟩; obtain rfl := hw'.symm))
            go_ret
            obtain ⟨a1, a2, a3⟩ := HPUT.out W nq hB.out
            exact ⟨by rw [HOP.out]; rfl, by rw [HOP.out]; exact a1, (FrP.of_below HB0.out).trans a2, HV.out _ a2 a3⟩
          · rw [if_neg htt] at hop
            have HOP : Hid (R = opnI ov now was askNS ys (M - (k + 1)) (k + 1) (ds.set k (wrap64 (c + 1)))) := hop
            rw [show decide (tm ≤ wrap64 (c + 1)) = false from decide_eq_false htt] at hio
            clear hop hak hso HNK htt
            go_wp2_with (first
              | (go_at_call 127; refine hio.mono ?_; rintro e w1 ⟨W, nq, hB, ⟨hn, -⟩ | ⟨-, rfl, hw1⟩⟩; (· exact absurd hn (by simp)))
              | (refine hask.mono ?_; rintro e w' ⟨rfl, hw'⟩; obtain rfl := hw'.symm))
            go_roundg (M - (k + 1))
            case measure => omega
            case rel =>
              obtain ⟨a1, a2, a3⟩ := HPUT.out W nq hB.out
              exact ⟨k + 1, _, rfl, by omega, by go_num, HOP.out, a1, a2, a3⟩
    · obtain rfl : k = M := by omega
      rw [Nat.sub_self, opnI] at hr1
      have HFIN : Hid (R = (none, ds) ∧ WaysM A wr ls gS gW ys ds ∧ FrP (fun b => 0 < k ∧ b = gW) bn w wr ∧ RunV wr rb bn bw m ns now was) := ⟨hr1, hr2, (FrP.of_below HB0.out).trans hr3, HV.out wr hr3 hr4⟩
      clear hr hr1 hr2 hr3 hr4
      go_wp2_with fail
      go_ret
      exact ⟨by rw [HFIN.out.1]; rfl, by rw [HFIN.out.1]; exact HFIN.out.2.1, HFIN.out.2.2⟩
end
end Go.Proofs.YtiihgnagjemikaaGreatDoor
