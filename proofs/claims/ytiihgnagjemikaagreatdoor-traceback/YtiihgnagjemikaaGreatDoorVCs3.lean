/- The program's look at an expression's names: Eval, whole; strange. -/
import Derived.Test.YtiihgnagjemikaaGreatDoorVCe2
namespace Go.Proofs.YtiihgnagjemikaaGreatDoor
open Go.RowKit Px

section
variable {A : Nat → Prop} {fb kb ck pb mb nm : Nat} {ns : List Str}
theorem ck_keepE (hA : ∀ x, A x → x ≠ fb) {w w' : World} (hF : Fr w.heap.size [fb] w w') {e : E} {v : Value} (h : IsE A w e v) : IsE A w' e v :=
  h.carry (hF.keep fun x hx => by simpa using hA x hx)
theorem fr_on' {X : List Nat} {W wr w' : World} (h : Fr W.heap.size X W wr) (k : Fr wr.heap.size X wr w') : Fr W.heap.size X W w' := h.trans (k.mono h.size (fun _ hx _ => hx))
/-- what is read while the closure writes -/
theorem fr_cells {w w' : World} (hF : Fr w.heap.size [fb] w w') {x : Nat} (hx : x ≠ fb) {o : Nat} {v : Value} (hc : w.cell? ⟨x, o, none⟩ = some v) : w'.cell? ⟨x, o, none⟩ = some v := by
  rw [hF.cell (p := ⟨x, o, none⟩) (World.block_lt_of_cell? w _ hc) (by simpa using hx)]; exact hc

set_option maxHeartbeats 4000000 in
theorem eval_one (hA : ∀ x, A x → x ≠ fb) (w : World) (b : Bool) {g : Nat} {c n : Int} (hc : c = 4 ∨ c = 5) {S : Value} {l : E} {lv rv : Value} (hgA : A g) (hg : w.heap[g]? = some (.cells #[.int .i64 c, .int .i64 n, S, lv, rv] 222 (0, 0))) (hl : IsE A w l lv) (ih : EvOk A fb kb ck pb mb nm ns l) (h : LookAt w fb kb ck pb mb nm ns b) : Calls Tryz.prog 128 #[.pointer (some ⟨g, 0, none⟩), .agg #[lookV fb kb, lookV fb kb]] w (LookOut fb kb ck pb mb nm ns (b || strangeE ns l) w) := by
  obtain ⟨O, hO⟩ : ∃ O, O = Obj.cells #[lookV fb kb, lookV fb kb] 208 := ⟨_, rfl⟩
  have hbO := ck_grown w O
  have hbD := hbO.drew
  have hcall := ih (w.alloc O).drew lv b (hl.carry fun x hx hlt => ⟨hx, hbD.block x hlt⟩) (h.below hbD)
  have hlf := lt_of_block h.found
  obtain ⟨p, rfl⟩ : ∃ p, lv = .pointer p := by
    cases l with
    | nil => exact ⟨none, hl⟩
    | node _ _ _ _ _ => obtain ⟨g', _, _, e, _⟩ := hl; exact ⟨_, e⟩
  have k0 : (w.alloc O).heap[w.heap.size]? = some (.cells #[lookV fb kb, lookV fb kb] 208 (0, 0)) := by rw [ck_new, hO]
  have e0 := cell_row k0 0 (u := lookV fb kb) rfl
  have e1 := cell_row k0 1 (u := lookV fb kb) rfl
  have c0 := cell_row (ck_old (o' := O) hg) 0 (u := .int .i64 c) rfl
  have c3 := cell_row (ck_old (o' := O) hg) 3 (u := .pointer p) rfl
  have HP : Hid (∀ w', Fr (w.alloc O).drew.heap.size [fb] (w.alloc O).drew w' → w'.cell? ⟨g, 0, none⟩ = some (.int .i64 c) ∧ w'.cell? ⟨g, 3, none⟩ = some (.pointer p) ∧ w'.cell? ⟨w.heap.size, 0, none⟩ = some (lookV fb kb) ∧ w'.cell? ⟨w.heap.size, 1, none⟩ = some (lookV fb kb)) := fun w' hF =>
    ⟨fr_cells hF (hA g hgA) c0, fr_cells hF (hA g hgA) c3, fr_cells hF (by omega) e0, fr_cells hF (by omega) e1⟩
  obtain ⟨b', hb'⟩ : ∃ b', b' = (b || strangeE ns l) := ⟨_, rfl⟩
  rw [← hb'] at hcall ⊢
  have HB : Hid _ := hbD
  have hone := one_any
  unfold lookV at hO hcall e0 e1 HP ⊢
  unfold LookOut at hcall
  rw [hO] at hcall e0 e1 c0 c3 HB HP
  clear h hg hb' hbO hbD k0 hO hl ih hlf
  rcases hc with rfl | rfl
  · go_enter Tryz.func128, Tryz.ntmps128
    go_wp2_with fail
    go_region_held3 (fun w' => w'.cell? ⟨g, 0, none⟩ = some (.int .i64 4) ∧ w'.cell? ⟨g, 3, none⟩ = some (.pointer p) ∧ w'.cell? ⟨w.heap.size, 0, none⟩ = some (.func (.func 138) #[] #[.pointer (some ⟨fb, 0, none⟩), .pointer (some ⟨kb, 0, none⟩)]) ∧ w'.cell? ⟨w.heap.size, 1, none⟩ = some (.func (.func 138) #[] #[.pointer (some ⟨fb, 0, none⟩), .pointer (some ⟨kb, 0, none⟩)])) (first | exact HP.out _ hr.out.1 | go_keep)
      (first
        | (go_at_call 128; refine hcall.mono ?_; rintro e w1 ⟨x, rfl, hr⟩)
        | (go_at_call 142; refine (hone _ _ _).mono ?_; rintro e w2 ⟨rfl, rfl⟩))
    all_goals
      go_wp2_with fail
      go_ret
      exact ⟨_, rfl, frBelow' HB.out hr.out.1, hr.out.2⟩
  · go_enter Tryz.func128, Tryz.ntmps128
    go_wp2_with fail
    go_region_held3 (fun w' => w'.cell? ⟨g, 0, none⟩ = some (.int .i64 5) ∧ w'.cell? ⟨g, 3, none⟩ = some (.pointer p) ∧ w'.cell? ⟨w.heap.size, 0, none⟩ = some (.func (.func 138) #[] #[.pointer (some ⟨fb, 0, none⟩), .pointer (some ⟨kb, 0, none⟩)]) ∧ w'.cell? ⟨w.heap.size, 1, none⟩ = some (.func (.func 138) #[] #[.pointer (some ⟨fb, 0, none⟩), .pointer (some ⟨kb, 0, none⟩)])) (first | exact HP.out _ hr.out.1 | go_keep)
      (first
        | (go_at_call 128; refine hcall.mono ?_; rintro e w1 ⟨x, rfl, hr⟩)
        | (go_at_call 142; refine (hone _ _ _).mono ?_; rintro e w2 ⟨rfl, rfl⟩))
    all_goals
      go_wp2_with fail
      go_ret
      exact ⟨_, rfl, frBelow' HB.out hr.out.1, hr.out.2⟩
set_option maxHeartbeats 8000000 in
theorem eval_two (hA : ∀ x, A x → x ≠ fb) (w : World) (b : Bool) {g : Nat} {c n : Int} (hc : c ≠ 1 ∧ c ≠ 2 ∧ c ≠ 3 ∧ c ≠ 4 ∧ c ≠ 5) {S : Value} {l r : E} {lv rv : Value} (hgA : A g) (hg : w.heap[g]? = some (.cells #[.int .i64 c, .int .i64 n, S, lv, rv] 222 (0, 0))) (hl : IsE A w l lv) (hr : IsE A w r rv) (ihl : EvOk A fb kb ck pb mb nm ns l) (ihr : EvOk A fb kb ck pb mb nm ns r) (h : LookAt w fb kb ck pb mb nm ns b) : Calls Tryz.prog 128 #[.pointer (some ⟨g, 0, none⟩), .agg #[lookV fb kb, lookV fb kb]] w (LookOut fb kb ck pb mb nm ns (b || (strangeE ns l || strangeE ns r)) w) := by
  obtain ⟨O, hO⟩ : ∃ O, O = Obj.cells #[lookV fb kb, lookV fb kb] 208 := ⟨_, rfl⟩
  have hbO := ck_grown w O
  have hbD := hbO.drew
  have hcall := ihl (w.alloc O).drew lv b (hl.carry fun x hx hlt => ⟨hx, hbD.block x hlt⟩) (h.below hbD)
  have HR : Hid (IsE A (w.alloc O).drew r rv ∧ _) := ⟨hr.carry fun x hx hlt => ⟨hx, hbD.block x hlt⟩, ihr⟩
  have hlf := lt_of_block h.found
  obtain ⟨p, rfl⟩ : ∃ p, lv = .pointer p := by
    cases l with
    | nil => exact ⟨none, hl⟩
    | node _ _ _ _ _ => obtain ⟨g', _, _, e, _⟩ := hl; exact ⟨_, e⟩
  obtain ⟨q, rfl⟩ : ∃ q, rv = .pointer q := by
    cases r with
    | nil => exact ⟨none, hr⟩
    | node _ _ _ _ _ => obtain ⟨g', _, _, e, _⟩ := hr; exact ⟨_, e⟩
  have k0 : (w.alloc O).heap[w.heap.size]? = some (.cells #[lookV fb kb, lookV fb kb] 208 (0, 0)) := by rw [ck_new, hO]
  have e0 := cell_row k0 0 (u := lookV fb kb) rfl
  have e1 := cell_row k0 1 (u := lookV fb kb) rfl
  have c0 := cell_row (ck_old (o' := O) hg) 0 (u := .int .i64 c) rfl
  have c3 := cell_row (ck_old (o' := O) hg) 3 (u := .pointer p) rfl
  have c4 := cell_row (ck_old (o' := O) hg) 4 (u := .pointer q) rfl
  have HP : Hid (∀ w', Fr (w.alloc O).drew.heap.size [fb] (w.alloc O).drew w' → w'.cell? ⟨g, 0, none⟩ = some (.int .i64 c) ∧ w'.cell? ⟨g, 4, none⟩ = some (.pointer q) ∧ w'.cell? ⟨w.heap.size, 0, none⟩ = some (lookV fb kb) ∧ w'.cell? ⟨w.heap.size, 1, none⟩ = some (lookV fb kb)) := fun w' hF =>
    ⟨fr_cells hF (hA g hgA) c0, fr_cells hF (hA g hgA) c4, fr_cells hF (by omega) e0, fr_cells hF (by omega) e1⟩
  obtain ⟨b1, hb1⟩ : ∃ b1, b1 = (b || strangeE ns l) := ⟨_, rfl⟩
  obtain ⟨b2, hb2⟩ : ∃ b2, b2 = (b || (strangeE ns l || strangeE ns r)) := ⟨_, rfl⟩
  have HB2 : Hid (b2 = (b1 || strangeE ns r)) := by rw [Hid, hb2, hb1, Bool.or_assoc]
  rw [← hb1] at hcall
  rw [← hb2]
  have HB : Hid _ := hbD
  have HKA : Hid _ := hA
  obtain ⟨c1', c2', c3', c4', c5'⟩ := hc
  have t1 : (c == 1) = false := by simpa using c1'
  have t2 : (c == 2) = false := by simpa using c2'
  have t3 : (c == 3) = false := by simpa using c3'
  have t4 : (c == 4) = false := by simpa using c4'
  have t5 : (c == 5) = false := by simpa using c5'
  have htwo := two_any
  unfold LookOut at hcall
  unfold lookV at hO hcall e0 e1 HP ⊢
  rw [hO] at hcall e0 e1 c0 c3 HB HP HR
  clear h hg hb1 hb2 hbO hbD k0 hO hl hr ihl ihr hlf c4 hA hgA
  go_enter Tryz.func128, Tryz.ntmps128
  go_upto_region 13 with fail
  clear t1 t2 t3 t4 t5 c1' c2' c3' c4' c5'
  go_cut [5] (fun s5 wx => ∃ x, s5 = .int .i64 x ∧ Hid (Fr (w.alloc (.cells #[.func (.func 138) #[] #[.pointer (some ⟨fb, 0, none⟩), .pointer (some ⟨kb, 0, none⟩)], .func (.func 138) #[] #[.pointer (some ⟨fb, 0, none⟩), .pointer (some ⟨kb, 0, none⟩)]] 208)).drew.heap.size [fb] (w.alloc (.cells #[.func (.func 138) #[] #[.pointer (some ⟨fb, 0, none⟩), .pointer (some ⟨kb, 0, none⟩)], .func (.func 138) #[] #[.pointer (some ⟨fb, 0, none⟩), .pointer (some ⟨kb, 0, none⟩)]] 208)).drew wx ∧ LookAt wx fb kb ck pb mb nm ns b1))
  case first =>
    go_region_with (refine hcall.mono ?_; rintro e w' ⟨x, rfl, hr⟩)
    all_goals
      go_wp2_with fail
      go_meet
      case rel => exact ⟨x, rfl, hr.out⟩
  case rest =>
    obtain ⟨x, rfl, hx⟩ := hcut
    clear hcall e0 e1 c0 c3
    obtain ⟨d0, d4, f0, f1⟩ := HP.out wc hx.out.1
    have hFd := hx.out.1.drew
    have hcall := HR.out.2 wc.drew (.pointer q) b1 (ck_keepE HKA.out hFd HR.out.1) (hx.out.2.below ((Below.refl _ _).drew))
    rw [← HB2.out] at hcall
    unfold LookOut at hcall
    unfold lookV at hcall
    have HFD : Hid _ := hFd
    clear hFd
    go_upto_region 14 with fail
    go_cut [6] (fun s6 wx => ∃ x, s6 = .int .i64 x ∧ Hid (Fr w.heap.size [fb] w wx ∧ LookAt wx fb kb ck pb mb nm ns b2 ∧ wx.cell? ⟨g, 0, none⟩ = some (.int .i64 c)))
    case first =>
      go_region_with (refine hcall.mono ?_; rintro e w' ⟨y, rfl, hr⟩)
      all_goals
        go_wp2_with fail
        go_meet
        case rel =>
          have hF2 := fr_on' HFD.out hr.out.1
          exact ⟨y, rfl, frBelow' HB.out hF2, hr.out.2, (HP.out _ hF2).1⟩
    case rest =>
      obtain ⟨y, rfl, hy⟩ := hcut
      have g0 := hy.out.2.2
      clear hcall d0 d4 f0 f1
      go_wp2_with (refine (htwo _ _ _ _).mono ?_; rintro e w' ⟨rfl, rfl⟩)
      go_ret
      exact ⟨_, rfl, hy.out.1.alloc hy.out.1.size _, hy.out.2.1.below (ck_grown _ _)⟩
theorem eval_all (hA : ∀ x, A x → x ≠ fb) : ∀ e, NmOk e → EvOk A fb kb ck pb mb nm ns e := by
  intro e
  induction e with
  | nil =>
    intro _ w v b hv h
    obtain rfl : v = .pointer none := hv
    rw [strangeE, Bool.or_false]
    exact eval_nil w b h
  | node b0 o a l r ihl ihr =>
    intro hn w v b hv h
    obtain ⟨n1, n2, n3⟩ := hn
    obtain ⟨g, lv, rv, rfl, hga, hg, hl, hr⟩ := hv
    rw [strangeE]
    by_cases c1 : a.code = 1
    · rw [if_pos c1, Bool.or_false]
      rw [c1] at hg
      exact eval_num w b hg h
    · rw [if_neg c1]
      by_cases c2 : a.code = 2 ∨ a.code = 3
      · rw [if_pos c2]
        exact eval_name w b (by omega) n1 hg h
      · rw [if_neg c2]
        by_cases c4 : a.code = 4 ∨ a.code = 5
        · rw [if_pos c4]
          exact eval_one hA w b (by omega) hga hg hl (ihl n2) h
        · rw [if_neg c4]
          exact eval_two hA w b ⟨by omega, by omega, by omega, by omega, by omega⟩ hga hg hl hr (ihl n2) (ihr n3) h
end
end Go.Proofs.YtiihgnagjemikaaGreatDoor
/- The program's eval: what an expression comes to, by what variables are, and were. -/
namespace Go.Proofs.YtiihgnagjemikaaGreatDoor
open Go.RowKit Px

/-- the closures that tell what variables are, and were -/
def nowV (bx : Nat) : Value := .func (.func 129) #[] #[.pointer (some ⟨bx, 0, none⟩)]
def wasV (bx : Nat) : Value := .func (.func 130) #[] #[.pointer (some ⟨bx, 0, none⟩)]
/-- a runner's variables -/
structure RunV (w : World) (rb bn bw m : Nat) (ns : List Str) (now was : Px.Env) : Prop where
  hn : w.cell? ⟨rb, 1, none⟩ = some (.map (some bn))
  hw : w.cell? ⟨rb, 2, none⟩ = some (.map (some bw))
  mn : MapE w bn m ns now
  mw : MapE w bw m ns was
  hm : m ≤ 1000000
/-- .. and a box that holds it -/
def BoxV (w : World) (bx rb bn bw m : Nat) (ns : List Str) (now was : Px.Env) : Prop := w.cell? ⟨bx, 0, none⟩ = some (.pointer (some ⟨rb, 0, none⟩)) ∧ RunV w rb bn bw m ns now was
section
variable {A : Nat → Prop} {w w' : World} {bx rb bn bw m : Nat} {ns : List Str} {now was : Px.Env}
theorem RunV.below (h : RunV w rb bn bw m ns now was) (hb : Below w.heap.size w w') : RunV w' rb bn bw m ns now was :=
  ⟨ck_cell hb h.hn, ck_cell hb h.hw, h.mn.below hb, h.mw.below hb, h.hm⟩
theorem BoxV.below (h : BoxV w bx rb bn bw m ns now was) (hb : Below w.heap.size w w') : BoxV w' bx rb bn bw m ns now was := ⟨ck_cell hb h.1, h.2.below hb⟩
theorem tell1_any {s : Str} (h : BoxV w bx rb bn bw m ns now was) (hs : s.length ≤ maxLen) :
    Calls Tryz.prog 129 #[sv s, .pointer (some ⟨bx, 0, none⟩)] w fun e w' => e = .returned (.int .i64 (now s)) ∧ w' = w := by
  have c0 := h.1
  have c1 := h.2.hn
  have hl := (h.2.mn.look hs).1
  generalize sv s = S at hl ⊢
  clear h
  go_enter Tryz.func129, Tryz.ntmps129
  go_wp2_with fail
  go_ret
  exact ⟨rfl, rfl⟩
theorem tell2_any {s : Str} (h : BoxV w bx rb bn bw m ns now was) (hs : s.length ≤ maxLen) :
    Calls Tryz.prog 130 #[sv s, .pointer (some ⟨bx, 0, none⟩)] w fun e w' => e = .returned (.int .i64 (was s)) ∧ w' = w := by
  have c0 := h.1
  have c1 := h.2.hw
  have hl := (h.2.mw.look hs).1
  generalize sv s = S at hl ⊢
  clear h
  go_enter Tryz.func130, Tryz.ntmps130
  go_wp2_with fail
  go_ret
  exact ⟨rfl, rfl⟩
theorem nn1 (x : Value) (w : World) : (binOp BinOp.eql 206 (.func (.func 129) #[] #[x]) .nilFunc).run Tryz.prog w = .ok (.bool false) w := by kernel_rfl
theorem nn2 (x : Value) (w : World) : (binOp BinOp.eql 206 (.func (.func 130) #[] #[x]) .nilFunc).run Tryz.prog w = .ok (.bool false) w := by kernel_rfl
theorem askN_any {s : Str} (h : BoxV w bx rb bn bw m ns now was) (hs : s.length ≤ maxLen) :
    Calls Tryz.prog 141 #[nowV bx, sv s] w fun e w' => e = .returned (.int .i64 (now s)) ∧ Hid (Below w.heap.size w w') := by
  have hmf : ∀ (fn : Fn) (first cap : Array Value) (w : World), (Instr.makeFunc fn first cap).run Tryz.prog w = .ok (.func fn first cap) w := fun _ _ _ _ => rfl
  have q0 := nn1
  have hcall := tell1_any (h.below (ck_grown w (.cells #[.int .i64 0] 2))) hs
  clear h
  unfold nowV
  generalize now s = x at hcall ⊢
  generalize sv s = S at hcall ⊢
  go_enter_defers Tryz.func141, Tryz.ntmps141
  go_wp2_with (refine hcall.mono ?_; rintro e w' ⟨rfl, rfl⟩)
  refine leaves_cons (f := 146) (args := #[.pointer (some ⟨w.heap.size, 0, none⟩)]) (by simp) (by simp [go_sem]) ?_
  refine (ck_catch ⟨w.heap.size, 0, none⟩ _).mono ?_
  rintro e u' w'' ⟨rfl, rfl, rfl⟩
  have hfin : Hid (Below w.heap.size w (w.alloc (.cells #[.int .i64 x] 2))) := ck_grown w _
  simp [Leaves, settle, results, Tryz.results141, go_sem]
  exact hfin
theorem askW_any {s : Str} (h : BoxV w bx rb bn bw m ns now was) (hs : s.length ≤ maxLen) :
    Calls Tryz.prog 141 #[wasV bx, sv s] w fun e w' => e = .returned (.int .i64 (was s)) ∧ Hid (Below w.heap.size w w') := by
  have hmf : ∀ (fn : Fn) (first cap : Array Value) (w : World), (Instr.makeFunc fn first cap).run Tryz.prog w = .ok (.func fn first cap) w := fun _ _ _ _ => rfl
  have q0 := nn2
  have hcall := tell2_any (h.below (ck_grown w (.cells #[.int .i64 0] 2))) hs
  clear h
  unfold wasV
  generalize was s = x at hcall ⊢
  generalize sv s = S at hcall ⊢
  go_enter_defers Tryz.func141, Tryz.ntmps141
  go_wp2_with (refine hcall.mono ?_; rintro e w' ⟨rfl, rfl⟩)
  refine leaves_cons (f := 146) (args := #[.pointer (some ⟨w.heap.size, 0, none⟩)]) (by simp) (by simp [go_sem]) ?_
  refine (ck_catch ⟨w.heap.size, 0, none⟩ _).mono ?_
  rintro e u' w'' ⟨rfl, rfl, rfl⟩
  have hfin : Hid (Below w.heap.size w (w.alloc (.cells #[.int .i64 x] 2))) := ck_grown w _
  simp [Leaves, settle, results, Tryz.results141, go_sem]
  exact hfin
/-- what Eval is asked for -/
def EvTo (x : Int) (w : World) (r : Ending) (w' : World) : Prop := r = .returned (.int .i64 x) ∧ Hid (Below w.heap.size w w')
def EvR (A : Nat → Prop) (bx rb bn bw m : Nat) (ns : List Str) (now was : Px.Env) (e : E) : Prop := ∀ (w : World) (v : Value), IsE A w e v → BoxV w bx rb bn bw m ns now was →
  Calls Tryz.prog 128 #[v, .agg #[nowV bx, wasV bx]] w (EvTo (evE now was e) w)
theorem evr_nil (w : World) : Calls Tryz.prog 128 #[.pointer none, .agg #[nowV bx, wasV bx]] w (EvTo 0 w) := by
  unfold nowV wasV
  go_enter Tryz.func128, Tryz.ntmps128
  go_wp2_with fail
  go_ret
  exact ⟨rfl, ck_grown w _⟩
set_option maxHeartbeats 1000000 in
theorem evr_num (w : World) {g : Nat} {n : Int} {S : Value} {lv rv : Value} (hg : w.heap[g]? = some (.cells #[.int .i64 1, .int .i64 n, S, lv, rv] 222 (0, 0))) : Calls Tryz.prog 128 #[.pointer (some ⟨g, 0, none⟩), .agg #[nowV bx, wasV bx]] w (EvTo n w) := by
  have c0 := fun o => cell_row (ck_old (o' := o) hg) 0 (u := .int .i64 1) rfl
  have c1 := fun o => cell_row (ck_old (o' := o) hg) 1 (u := .int .i64 n) rfl
  clear hg
  unfold nowV wasV
  go_enter Tryz.func128, Tryz.ntmps128
  go_wp2_with fail
  go_ret
  exact ⟨rfl, ck_grown w _⟩
set_option maxHeartbeats 2000000 in
theorem evr_name (w : World) {g : Nat} {c n : Int} (hc : c = 2 ∨ c = 3) {s : Str} (hs : s.length ≤ maxLen) {lv rv : Value} (hg : w.heap[g]? = some (.cells #[.int .i64 c, .int .i64 n, sv s, lv, rv] 222 (0, 0))) (h : BoxV w bx rb bn bw m ns now was) : Calls Tryz.prog 128 #[.pointer (some ⟨g, 0, none⟩), .agg #[nowV bx, wasV bx]] w (EvTo (if c = 2 then now s else was s) w) := by
  obtain ⟨O, hO⟩ : ∃ O, O = Obj.cells #[nowV bx, wasV bx] 208 := ⟨_, rfl⟩
  have hbO : Below w.heap.size w (w.alloc O) := ck_grown w O
  have hbD : Below w.heap.size w (w.alloc O).drew := hbO.drew
  have hcN := askN_any (h.below hbD) hs
  have hcW := askW_any (h.below hbD) hs
  have k0 : (w.alloc O).heap[w.heap.size]? = some (.cells #[nowV bx, wasV bx] 208 (0, 0)) := by rw [ck_new, hO]
  have e0 := cell_row k0 0 (u := nowV bx) rfl
  have e1 := cell_row k0 1 (u := wasV bx) rfl
  have c0 := cell_row (ck_old (o' := O) hg) 0 (u := .int .i64 c) rfl
  have c2 := cell_row (ck_old (o' := O) hg) 2 (u := sv s) rfl
  have HB : Hid (Below w.heap.size w (w.alloc O).drew) := hbD
  generalize sv s = S at hcN hcW c2
  generalize now s = x at hcN ⊢
  generalize was s = y at hcW ⊢
  unfold nowV wasV at hO ⊢
  unfold nowV at hcN e0
  unfold wasV at hcW e1
  rw [hO] at hcN hcW e0 e1 c0 c2 HB
  clear h hg hbO hbD k0 hO hs
  rcases hc with rfl | rfl
  · rw [if_pos rfl]
    go_enter Tryz.func128, Tryz.ntmps128
    go_wp2_with fail
    go_region_with (refine hcN.mono ?_; rintro e w' ⟨rfl, hr⟩)
    all_goals
      go_wp2_with fail
      go_ret
      exact ⟨rfl, ck_all HB.out hr.out⟩
  · rw [if_neg (by omega)]
    go_enter Tryz.func128, Tryz.ntmps128
    go_wp2_with fail
    go_region_with (refine hcW.mono ?_; rintro e w' ⟨rfl, hr⟩)
    all_goals
      go_wp2_with fail
      go_ret
      exact ⟨rfl, ck_all HB.out hr.out⟩
set_option maxHeartbeats 4000000 in
theorem evr_one (w : World) {g : Nat} {c n : Int} (hc : c = 4 ∨ c = 5) {S : Value} {l : E} {lv rv : Value} (hg : w.heap[g]? = some (.cells #[.int .i64 c, .int .i64 n, S, lv, rv] 222 (0, 0))) (hl : IsE A w l lv) (ih : EvR A bx rb bn bw m ns now was l) (h : BoxV w bx rb bn bw m ns now was) : Calls Tryz.prog 128 #[.pointer (some ⟨g, 0, none⟩), .agg #[nowV bx, wasV bx]] w (EvTo (vOne c (evE now was l)) w) := by
  obtain ⟨O, hO⟩ : ∃ O, O = Obj.cells #[nowV bx, wasV bx] 208 := ⟨_, rfl⟩
  have hbO : Below w.heap.size w (w.alloc O) := ck_grown w O
  have hbD : Below w.heap.size w (w.alloc O).drew := hbO.drew
  have hcall := ih (w.alloc O).drew lv (hl.carry fun x hx hlt => ⟨hx, hbD.block x hlt⟩) (h.below hbD)
  obtain ⟨p, rfl⟩ : ∃ p, lv = .pointer p := by
    cases l with
    | nil => exact ⟨none, hl⟩
    | node _ _ _ _ _ => obtain ⟨g', _, _, e, _⟩ := hl; exact ⟨_, e⟩
  have k0 : (w.alloc O).heap[w.heap.size]? = some (.cells #[nowV bx, wasV bx] 208 (0, 0)) := by rw [ck_new, hO]
  have e0 := cell_row k0 0 (u := nowV bx) rfl
  have e1 := cell_row k0 1 (u := wasV bx) rfl
  have c0 := cell_row (ck_old (o' := O) hg) 0 (u := .int .i64 c) rfl
  have c3 := cell_row (ck_old (o' := O) hg) 3 (u := .pointer p) rfl
  have HP : Hid (∀ w', Below (w.alloc O).drew.heap.size (w.alloc O).drew w' → w'.cell? ⟨g, 0, none⟩ = some (.int .i64 c) ∧ w'.cell? ⟨g, 3, none⟩ = some (.pointer p) ∧ w'.cell? ⟨w.heap.size, 0, none⟩ = some (nowV bx) ∧ w'.cell? ⟨w.heap.size, 1, none⟩ = some (wasV bx)) := fun w' hF =>
    ⟨ck_cell hF c0, ck_cell hF c3, ck_cell hF e0, ck_cell hF e1⟩
  have HB : Hid (Below w.heap.size w (w.alloc O).drew) := hbD
  have hone := one_any
  unfold EvTo at hcall
  generalize evE now was l = x at hcall ⊢
  unfold nowV wasV at hO hcall HP ⊢
  unfold nowV at e0
  unfold wasV at e1
  rw [hO] at hcall e0 e1 c0 c3 HB HP
  clear h hg hbO hbD k0 hO hl ih
  rcases hc with rfl | rfl
  · go_enter Tryz.func128, Tryz.ntmps128
    go_wp2_with fail
    go_region_held3 (fun w' => w'.cell? ⟨g, 0, none⟩ = some (.int .i64 4) ∧ w'.cell? ⟨g, 3, none⟩ = some (.pointer p) ∧ w'.cell? ⟨w.heap.size, 0, none⟩ = some (Value.func (.func 129) #[] #[.pointer (some ⟨bx, 0, none⟩)]) ∧ w'.cell? ⟨w.heap.size, 1, none⟩ = some (Value.func (.func 130) #[] #[.pointer (some ⟨bx, 0, none⟩)])) (first | exact HP.out _ hr.out | go_keep)
      (first
        | (go_at_call 128; refine hcall.mono ?_; rintro e w1 ⟨rfl, hr⟩)
        | (go_at_call 142; refine (hone _ _ _).mono ?_; rintro e w2 ⟨rfl, rfl⟩))
    all_goals
      go_wp2_with fail
      go_ret
      exact ⟨rfl, ck_all HB.out hr.out⟩
  · go_enter Tryz.func128, Tryz.ntmps128
    go_wp2_with fail
    go_region_held3 (fun w' => w'.cell? ⟨g, 0, none⟩ = some (.int .i64 5) ∧ w'.cell? ⟨g, 3, none⟩ = some (.pointer p) ∧ w'.cell? ⟨w.heap.size, 0, none⟩ = some (Value.func (.func 129) #[] #[.pointer (some ⟨bx, 0, none⟩)]) ∧ w'.cell? ⟨w.heap.size, 1, none⟩ = some (Value.func (.func 130) #[] #[.pointer (some ⟨bx, 0, none⟩)])) (first | exact HP.out _ hr.out | go_keep)
      (first
        | (go_at_call 128; refine hcall.mono ?_; rintro e w1 ⟨rfl, hr⟩)
        | (go_at_call 142; refine (hone _ _ _).mono ?_; rintro e w2 ⟨rfl, rfl⟩))
    all_goals
      go_wp2_with fail
      go_ret
      exact ⟨rfl, ck_all HB.out hr.out⟩
set_option maxHeartbeats 8000000 in
theorem evr_two (w : World) {g : Nat} {c n : Int} (hc : c ≠ 1 ∧ c ≠ 2 ∧ c ≠ 3 ∧ c ≠ 4 ∧ c ≠ 5) {S : Value} {l r : E} {lv rv : Value} (hg : w.heap[g]? = some (.cells #[.int .i64 c, .int .i64 n, S, lv, rv] 222 (0, 0))) (hl : IsE A w l lv) (hr : IsE A w r rv) (ihl : EvR A bx rb bn bw m ns now was l) (ihr : EvR A bx rb bn bw m ns now was r) (h : BoxV w bx rb bn bw m ns now was) : Calls Tryz.prog 128 #[.pointer (some ⟨g, 0, none⟩), .agg #[nowV bx, wasV bx]] w (EvTo (vTwo c (evE now was l) (evE now was r)) w) := by
  obtain ⟨O, hO⟩ : ∃ O, O = Obj.cells #[nowV bx, wasV bx] 208 := ⟨_, rfl⟩
  have hbO : Below w.heap.size w (w.alloc O) := ck_grown w O
  have hbD : Below w.heap.size w (w.alloc O).drew := hbO.drew
  have hcall := ihl (w.alloc O).drew lv (hl.carry fun x hx hlt => ⟨hx, hbD.block x hlt⟩) (h.below hbD)
  have HR : Hid (IsE A (w.alloc O).drew r rv ∧ EvR A bx rb bn bw m ns now was r ∧ BoxV (w.alloc O).drew bx rb bn bw m ns now was) := ⟨hr.carry fun x hx hlt => ⟨hx, hbD.block x hlt⟩, ihr, h.below hbD⟩
  obtain ⟨p, rfl⟩ : ∃ p, lv = .pointer p := by
    cases l with
    | nil => exact ⟨none, hl⟩
    | node _ _ _ _ _ => obtain ⟨g', _, _, e, _⟩ := hl; exact ⟨_, e⟩
  obtain ⟨q, rfl⟩ : ∃ q, rv = .pointer q := by
    cases r with
    | nil => exact ⟨none, hr⟩
    | node _ _ _ _ _ => obtain ⟨g', _, _, e, _⟩ := hr; exact ⟨_, e⟩
  have k0 : (w.alloc O).heap[w.heap.size]? = some (.cells #[nowV bx, wasV bx] 208 (0, 0)) := by rw [ck_new, hO]
  have e0 := cell_row k0 0 (u := nowV bx) rfl
  have e1 := cell_row k0 1 (u := wasV bx) rfl
  have c0 := cell_row (ck_old (o' := O) hg) 0 (u := .int .i64 c) rfl
  have c3 := cell_row (ck_old (o' := O) hg) 3 (u := .pointer p) rfl
  have c4 := cell_row (ck_old (o' := O) hg) 4 (u := .pointer q) rfl
  have HP : Hid (∀ w', Below (w.alloc O).drew.heap.size (w.alloc O).drew w' → w'.cell? ⟨g, 0, none⟩ = some (.int .i64 c) ∧ w'.cell? ⟨g, 4, none⟩ = some (.pointer q) ∧ w'.cell? ⟨w.heap.size, 0, none⟩ = some (nowV bx) ∧ w'.cell? ⟨w.heap.size, 1, none⟩ = some (wasV bx)) := fun w' hF =>
    ⟨ck_cell hF c0, ck_cell hF c4, ck_cell hF e0, ck_cell hF e1⟩
  have HB : Hid (Below w.heap.size w (w.alloc O).drew) := hbD
  obtain ⟨c1', c2', c3', c4', c5'⟩ := hc
  have t1 : (c == 1) = false := by simpa using c1'
  have t2 : (c == 2) = false := by simpa using c2'
  have t3 : (c == 3) = false := by simpa using c3'
  have t4 : (c == 4) = false := by simpa using c4'
  have t5 : (c == 5) = false := by simpa using c5'
  have htwo := two_any
  unfold EvTo at hcall
  obtain ⟨x, hx⟩ : ∃ x, x = evE now was l := ⟨_, rfl⟩
  obtain ⟨y, hy⟩ : ∃ y, y = evE now was r := ⟨_, rfl⟩
  rw [← hx] at hcall ⊢
  rw [← hy]
  have HY : Hid (y = evE now was r) := hy
  unfold nowV wasV at hO hcall HP ⊢
  unfold nowV at e0
  unfold wasV at e1
  rw [hO] at hcall e0 e1 c0 c3 HB HP HR
  clear h hg hbO hbD k0 hO hl hr ihl ihr c4 hx hy
  go_enter Tryz.func128, Tryz.ntmps128
  go_upto_region 13 with fail
  clear t1 t2 t3 t4 t5 c1' c2' c3' c4' c5'
  go_cut [5] (fun s5 wx => s5 = .int .i64 x ∧ Hid (Below (w.alloc (.cells #[Value.func (.func 129) #[] #[.pointer (some ⟨bx, 0, none⟩)], Value.func (.func 130) #[] #[.pointer (some ⟨bx, 0, none⟩)]] 208)).drew.heap.size (w.alloc (.cells #[Value.func (.func 129) #[] #[.pointer (some ⟨bx, 0, none⟩)], Value.func (.func 130) #[] #[.pointer (some ⟨bx, 0, none⟩)]] 208)).drew wx))
  case first =>
    go_region_with (refine hcall.mono ?_; rintro e w' ⟨rfl, hr⟩)
    all_goals
      go_wp2_with fail
      go_meet
      case rel => exact ⟨rfl, hr.out⟩
  case rest =>
    obtain ⟨rfl, hx⟩ := hcut
    clear hcall e0 e1 c0 c3
    obtain ⟨d0, d4, f0, f1⟩ := HP.out wc hx.out
    have hFd : Below (w.alloc (.cells #[Value.func (.func 129) #[] #[.pointer (some ⟨bx, 0, none⟩)], Value.func (.func 130) #[] #[.pointer (some ⟨bx, 0, none⟩)]] 208)).drew.heap.size (w.alloc (.cells #[Value.func (.func 129) #[] #[.pointer (some ⟨bx, 0, none⟩)], Value.func (.func 130) #[] #[.pointer (some ⟨bx, 0, none⟩)]] 208)).drew wc.drew := hx.out.drew
    have hcall := HR.out.2.1 wc.drew (.pointer q) (HR.out.1.carry fun x hx hlt => ⟨hx, hFd.block x hlt⟩) (HR.out.2.2.below hFd)
    rw [← HY.out] at hcall
    unfold EvTo at hcall
    unfold nowV wasV at hcall
    have HFD : Hid (Below (w.alloc (.cells #[Value.func (.func 129) #[] #[.pointer (some ⟨bx, 0, none⟩)], Value.func (.func 130) #[] #[.pointer (some ⟨bx, 0, none⟩)]] 208)).drew.heap.size (w.alloc (.cells #[Value.func (.func 129) #[] #[.pointer (some ⟨bx, 0, none⟩)], Value.func (.func 130) #[] #[.pointer (some ⟨bx, 0, none⟩)]] 208)).drew wc.drew) := hFd
    clear hFd
    go_upto_region 14 with fail
    go_cut [6] (fun s6 wx => s6 = .int .i64 y ∧ Hid (Below w.heap.size w wx ∧ wx.cell? ⟨g, 0, none⟩ = some (.int .i64 c)))
    case first =>
      go_region_with (refine hcall.mono ?_; rintro e w' ⟨rfl, hr⟩)
      all_goals
        go_wp2_with fail
        go_meet
        case rel =>
          have hF2 := ck_all HFD.out hr.out
          exact ⟨rfl, ck_all HB.out hF2, (HP.out _ hF2).1⟩
    case rest =>
      obtain ⟨rfl, hy⟩ := hcut
      have g0 := hy.out.2
      clear hcall d0 d4 f0 f1
      go_wp2_with (refine (htwo _ _ _ _).mono ?_; rintro e w' ⟨rfl, rfl⟩)
      go_ret
      exact ⟨rfl, hy.out.1.alloc hy.out.1.size _⟩
theorem evr_all : ∀ e, NuOk e → EvR A bx rb bn bw m ns now was e := by
  intro e
  induction e with
  | nil =>
    intro _ w v hv h
    obtain rfl : v = .pointer none := hv
    exact evr_nil w
  | node b0 o a l r ihl ihr =>
    intro hn w v hv h
    obtain ⟨n1, _, n2, n3⟩ := hn
    obtain ⟨g, lv, rv, rfl, hga, hg, hl, hr⟩ := hv
    rw [evE]
    by_cases c1 : a.code = 1
    · rw [if_pos c1]
      rw [c1] at hg
      exact evr_num w hg
    · rw [if_neg c1]
      by_cases c2 : a.code = 2
      · rw [if_pos c2]
        have := evr_name w (c := (a.code : Int)) (by omega) n1 hg h
        rwa [if_pos (by omega)] at this
      · rw [if_neg c2]
        by_cases c3 : a.code = 3
        · rw [if_pos c3]
          have := evr_name w (c := (a.code : Int)) (by omega) n1 hg h
          rwa [if_neg (by omega)] at this
        · rw [if_neg c3]
          by_cases c4 : a.code = 4 ∨ a.code = 5
          · rw [if_pos c4]
            exact evr_one w (by omega) hg hl (ihl n2) h
          · rw [if_neg c4]
            exact evr_two w ⟨by omega, by omega, by omega, by omega, by omega⟩ hg hl hr (ihl n2) (ihr n3) h
/-- the runner's eval -/
theorem ueval_any {e : E} {v : Value} (hn : NuOk e) (he : IsE A w e v) (h : RunV w rb bn bw m ns now was) :
    Calls Tryz.prog 106 #[.pointer (some ⟨rb, 0, none⟩), v] w (EvTo (evE now was e) w) := by
  have hmf : ∀ (fn : Fn) (first cap : Array Value) (w : World), (Instr.makeFunc fn first cap).run Tryz.prog w = .ok (.func fn first cap) w := fun _ _ _ _ => rfl
  obtain ⟨p, rfl⟩ : ∃ p, v = .pointer p := by
    cases e with
    | nil => exact ⟨none, he⟩
    | node _ _ _ _ _ => obtain ⟨g', _, _, e, _⟩ := he; exact ⟨_, e⟩
  obtain ⟨W, hW⟩ : ∃ W, W = w.alloc (.cells #[.pointer (some ⟨rb, 0, none⟩)] 61) := ⟨_, rfl⟩
  have hb : Below w.heap.size w W := by rw [hW]; exact ck_grown w _
  have hk : W.heap[w.heap.size]? = some (.cells #[.pointer (some ⟨rb, 0, none⟩)] 61 (0, 0)) := by rw [hW]; exact ck_new w _
  have hcall := evr_all (A := A) e hn W (.pointer p) (he.carry fun x hx hlt => ⟨hx, hb.block x hlt⟩) (bx := w.heap.size) ⟨cell_row hk 0 rfl, h.below hb⟩
  have HB : Hid (Below w.heap.size w W) := hb
  unfold EvTo at hcall
  unfold nowV wasV at hcall
  generalize evE now was e = x at hcall ⊢
  rw [hW] at hcall HB
  clear hW hb hk h he hn
  go_enter Tryz.func106, Tryz.ntmps106
  go_wp2_with (refine hcall.mono ?_; rintro e w' ⟨rfl, hr⟩)
  go_ret
  exact ⟨rfl, ck_all HB.out hr.out⟩
theorem evE_n64 (hN : ∀ s : Str, s.length ≤ maxLen → N64 (now s)) (hW : ∀ s : Str, s.length ≤ maxLen → N64 (was s)) : ∀ e, NuOk e → N64 (evE now was e) := by
  intro e
  induction e with
  | nil => intro _; exact N64.zero
  | node b0 o a l r ihl ihr =>
    intro hn
    obtain ⟨n1, n0, n2, n3⟩ := hn
    rw [evE]
    repeat' split
    · exact n0
    · exact hN _ n1
    · exact hW _ n1
    · exact vOne_n64 _ _
    · exact vTwo_n64 (ihr n3)
end
end Go.Proofs.YtiihgnagjemikaaGreatDoor
/- The program's checker: strange names, what is set. -/
namespace Go.Proofs.YtiihgnagjemikaaGreatDoor
open Go.RowKit Px

/-- the checker, as it lies: it has come to n states -/
structure CkAt (w : World) (ck pb mb nm gv : Nat) (adv : Option Addr) (capv : Nat) (vs : List Decl) (n : Nat) : Prop where
  box : w.heap[ck]? = some (.cells #[.slice adv vs.length capv, .func (.func 68) #[] #[.pointer (some ⟨pb, 0, none⟩)], .int .i64 (n : Int)] 89 (0, 0))
  hpb : w.heap[pb]? = some (.cells #[.map (some mb)] 136 (0, 0))
  hmb : MapF w mb nm (fnd (vnames vs))
  hv : 0 < vs.length → adv = some ⟨gv, 0, none⟩ ∧ gv < w.heap.size
  hk : ∀ i d, vs[i]? = some d → w.cell? ⟨gv, i * 3, none⟩ = some (.int .i64 (d.kind : Int))
  ne : ck ≠ pb ∧ ck ≠ mb ∧ (0 < vs.length → ck ≠ gv)
section
variable {ck pb mb nm gv : Nat} {adv : Option Addr} {capv : Nat} {vs : List Decl}
theorem CkAt.below {w w' : World} {n : Nat} (h : CkAt w ck pb mb nm gv adv capv vs n) (hb : Below w.heap.size w w') : CkAt w' ck pb mb nm gv adv capv vs n :=
  ⟨ck_block hb h.box, ck_block hb h.hpb, h.hmb.below hb, fun hp => ⟨(h.hv hp).1, Nat.lt_of_lt_of_le (h.hv hp).2 hb.size⟩, fun i d hi => ck_cell hb (h.hk i d hi), h.ne⟩
set_option maxRecDepth 100000 in
set_option maxHeartbeats 1000000 in
theorem strange_any {w : World} {n : Nat} (h : CkAt w ck pb mb nm gv adv capv vs n) {e : E} {v : Value} {A : Nat → Prop} (he : IsE A w e v) (hN : NmOk e) :
    Calls Tryz.prog 123 #[.pointer (some ⟨ck, 0, none⟩), v] w fun r w' => r = .returned (.bool (strangeE (vnames vs) e)) ∧ Below w.heap.size w w' := by
  have hmf : ∀ (fn : Fn) (first cap : Array Value) (w : World), (Instr.makeFunc fn first cap).run Tryz.prog w = .ok (.func fn first cap) w := fun _ _ _ _ => rfl
  obtain ⟨p, rfl⟩ : ∃ p, v = .pointer p := by
    cases e with
    | nil => exact ⟨none, he⟩
    | node _ _ _ _ _ => obtain ⟨g', _, _, e, _⟩ := he; exact ⟨_, e⟩
  have he' : IsE (· < w.heap.size) w e (.pointer p) := he.carry fun x _ hlt => ⟨hlt, rfl⟩
  obtain ⟨W, hW⟩ : ∃ W, W = (w.alloc (.cells #[.pointer (some ⟨ck, 0, none⟩)] 138)).alloc (.cells #[.bool false] 4) := ⟨_, rfl⟩
  have hb1 : Below w.heap.size w W := by rw [hW]; exact ((Below.refl _ _).alloc (Nat.le_refl _) _).alloc (by simp) _
  have h1 : W.heap[w.heap.size]? = some (.cells #[.pointer (some ⟨ck, 0, none⟩)] 138 (0, 0)) := by rw [hW]; exact ck_old (ck_new w _)
  have h2 : W.heap[w.heap.size + 1]? = some (.cells #[.bool false] 4 (0, 0)) := by
    rw [hW]
    have e : w.heap.size + 1 = (w.alloc (.cells #[.pointer (some ⟨ck, 0, none⟩)] 138)).heap.size := by simp
    rw [e]; exact ck_new _ _
  have l1 := lt_of_block h.box
  have l2 := lt_of_block h.hpb
  have l3 := h.hmb.lt
  have hL : LookAt W (w.heap.size + 1) w.heap.size ck pb mb nm (vnames vs) false := ⟨h2, cell_row h1 0 rfl, ck_cell hb1 (cell_row h.box 1 rfl), ck_block hb1 h.hpb, h.hmb.below hb1, by omega⟩
  have hcall := eval_all (A := (· < w.heap.size)) (fb := w.heap.size + 1) (kb := w.heap.size) (fun x hx e => by have : x < w.heap.size := hx; omega) e hN W (.pointer p) false (he'.carry fun x hx hlt => ⟨hx, hb1.block x hx⟩) hL
  rw [Bool.false_or] at hcall
  unfold LookOut at hcall
  unfold lookV at hcall
  have HB : Hid _ := hb1
  rw [hW] at hcall HB
  clear h he he' hW hb1 h1 h2 l1 l2 l3 hL
  go_enter Tryz.func123, Tryz.ntmps123
  go_wp2_with (refine hcall.mono ?_; rintro e w' ⟨x, rfl, hr⟩; have cf := cell_row hr.out.2.found 0 (u := .bool (strangeE (vnames vs) e)) rfl)
  go_ret
  refine ⟨rfl, HB.out.trans ?_⟩
  exact (hr.out.1.mono HB.out.size (X' := []) (fun x hx hl => by simp at hx; omega)).below
end
end Go.Proofs.YtiihgnagjemikaaGreatDoor
/- The program's checker: what is set. -/
namespace Go.Proofs.YtiihgnagjemikaaGreatDoor
open Go.RowKit Px

def NmSets (l : List Asg) : Prop := ∀ a ∈ l, a.name.length ≤ maxLen ∧ NmOk a.e
theorem setsE_zero {vs : List Decl} {l : List Asg} (k : Nat) (hz : ∀ j a, j < k → l[j]? = some a → setE vs a = 0) : setsE vs l = setsE vs (l.drop k) := by
  induction k generalizing l with
  | zero => rfl
  | succ k ih =>
    cases l with
    | nil => rfl
    | cons a r =>
      rw [setsE, if_neg (by simpa using hz 0 a (by omega) rfl), List.drop_succ_cons]
      exact ih fun j a' hj ha => hz (j + 1) a' (by omega) (by simpa using ha)
theorem setsE_at {vs : List Decl} {l : List Asg} {k : Nat} {a : Asg} (hz : ∀ j a, j < k → l[j]? = some a → setE vs a = 0) (ha : l[k]? = some a) (hne : setE vs a ≠ 0) : setsE vs l = setE vs a := by
  rw [setsE_zero k hz]
  have : l.drop k = a :: l.drop (k + 1) := by
    obtain ⟨hk, rfl⟩ := List.getElem?_eq_some_iff.1 ha
    exact List.drop_eq_getElem_cons hk
  rw [this, setsE, if_pos hne]
theorem setsE_all {vs : List Decl} {l : List Asg} (hz : ∀ j a, j < l.length → l[j]? = some a → setE vs a = 0) : setsE vs l = 0 := by
  rw [setsE_zero l.length hz, List.drop_length]; rfl
theorem decl_kind {vs : List Decl} {s : Str} {t : Nat} (h : fnd (vnames vs) s = some t) : ∃ d, vs[t]? = some d ∧ vkind vs s = d.kind := by
  have ht := (fnd_some h).1
  rw [vnames, List.length_map] at ht
  refine ⟨vs[t], List.getElem?_eq_getElem ht, ?_⟩
  unfold vkind fndI
  rw [h]
  simp [List.getD_eq_getElem?_getD, List.getElem?_eq_getElem ht]
section
variable {ck pb mb nm gv : Nat} {adv : Option Addr} {capv : Nat} {vs : List Decl}
set_option maxRecDepth 100000 in
set_option maxHeartbeats 4000000 in
theorem sets_at {w : World} {n : Nat} (h : CkAt w ck pb mb nm gv adv capv vs n) {l : List Asg} {ad : Option Addr} {g N cap : Nat} {A : Nat → Prop} (hN : Hid (N = l.length)) (hm : N ≤ maxLen) (ha : 0 < N → ad = some ⟨g, 0, none⟩ ∧ g < w.heap.size) (hNm : NmSets l)
    (R : Hid (∀ (i : Nat) (a : Asg), l[i]? = some a → ∃ p, w.cell? ⟨g, i * 2, none⟩ = some (sv a.name) ∧ w.cell? ⟨g, i * 2 + 1, none⟩ = some (.pointer p) ∧ IsE A w a.e (.pointer p))) :
    Calls Tryz.prog 122 #[.pointer (some ⟨ck, 0, none⟩), .slice ad N cap] w fun r w' => r = .returned (.int .i64 ((setsE vs l : Nat) : Int)) ∧ Below w.heap.size w w' := by
  have hN6 : (N : Int) ≤ 9223372036854775807 := by unfold maxLen at hm; omega
  have HC : Hid (CkAt w ck pb mb nm gv adv capv vs n) := h
  have HA : Hid (0 < N → ad = some ⟨g, 0, none⟩ ∧ g < w.heap.size) := ha
  have HNM : Hid (NmSets l) := hNm
  clear h ha hNm hm
  go_enter Tryz.func122, Tryz.ntmps122
  go_wp2_with fail
  go_loopg [10] N (fun f i wr => ∃ k : Nat, f = N - k ∧ k ≤ N ∧ i = .int .i64 (k : Int) ∧ Hid (Below w.heap.size w wr ∧ ∀ j a, j < k → l[j]? = some a → setE vs a = 0))
  case atStart => exact ⟨0, by omega, by omega, rfl, Below.refl _ _, fun j a hj => absurd hj (by omega)⟩
  case round =>
    obtain ⟨k, rfl, hk, rfl, hr⟩ := hrel
    by_cases hlt : k < N
    · obtain ⟨a, hak⟩ : ∃ a, Hid (l[k]? = some a) := ⟨l[k]'(by rw [← hN.out]; exact hlt), by rw [Hid, List.getElem?_eq_getElem]⟩
      obtain ⟨p, x0, x1, hp⟩ := R.out k a hak.out
      have hix := ixS ad g N cap k hlt (fun h => (HA.out h).1)
      have y0 := ck_cell hr.out.1 x0
      have y1 := ck_cell hr.out.1 x1
      obtain ⟨LO, hLO⟩ : ∃ LO, LO = Obj.cells #[sv a.name, .pointer p] 203 := ⟨_, rfl⟩
      have hbL : Below w.heap.size w (wr.alloc LO) := ck_all hr.out.1 (ck_grown wr LO)
      have hC := HC.out.below hbL.drew
      have HC2 : Hid (CkAt (wr.alloc LO).drew ck pb mb nm gv adv capv vs n) := hC
      obtain ⟨n1, n2⟩ := HNM.out a (List.mem_of_getElem? hak.out)
      have hf := find_any (s := a.name) hC.hpb hC.hmb n1
      have hst := strange_any hC (hp.carry fun x hx hlt => ⟨hx, hbL.drew.block x hlt⟩) n2
      have c1 : (wr.alloc LO).drew.cell? ⟨ck, 1, none⟩ = some (.func (.func 68) #[] #[.pointer (some ⟨pb, 0, none⟩)]) := cell_row hC.box 1 rfl
      have HBL : Hid (Below w.heap.size w (wr.alloc LO).drew) := hbL.drew
      have k0 : (wr.alloc LO).heap[wr.heap.size]? = some (.cells #[sv a.name, .pointer p] 203 (0, 0)) := by rw [ck_new, hLO]
      have l0 := cell_row k0 0 (u := sv a.name) rfl
      have l1 := cell_row k0 1 (u := .pointer p) rfl
      obtain ⟨S, hS⟩ : ∃ S, sv a.name = .string S := ⟨_, rfl⟩
      rw [hS] at y0 hf hLO l0
      obtain ⟨b, hb⟩ : ∃ b, Hid (strangeE (vnames vs) a.e = b) := ⟨_, rfl⟩
      rw [hb.out] at hst
      have HZ : Hid (∀ j a, j < k → l[j]? = some a → setE vs a = 0) := hr.out.2
      rw [hLO] at HBL hf hst HC2 c1 l0 l1
      clear hbL hC x0 x1 hp n1 n2 hLO hS hr k0
      obtain ⟨I, hI⟩ : ∃ I, Hid (I = fndI (vnames vs) a.name) := ⟨_, rfl⟩
      rw [← hI.out] at hf
      go_upto_region 4 with fail
      go_cut [7] (fun s7 wx => Hid (s7 = .int .i64 I ∧ wx = (wr.alloc (.cells #[.string S, .pointer p] 203)).drew))
      case first =>
        go_region_with (refine hf.mono ?_; rintro e w' ⟨rfl, rfl⟩)
        all_goals
          go_wp2_with fail
          go_meet
          case rel => exact ⟨rfl, rfl⟩
      case rest =>
        obtain ⟨hs7, hwc⟩ := hcut.out
        subst hs7
        subst hwc
        clear hcut y0 y1 hix hf
        cases hfn : fnd (vnames vs) a.name with
        | none =>
          have e : I = -1 := by rw [hI.out]; unfold fndI; rw [hfn]
          subst e
          have HE : Hid (setsE vs l = 5) := by
            have : setE vs a = 5 := by unfold setE; rw [hfn]; rfl
            rw [Hid, setsE_at HZ.out hak.out (by rw [this]; simp), this]
          clear hfn hst
          go_wp2_with fail
          go_ret
          exact ⟨by rw [HE.out]; rfl, HBL.out⟩
        | some t =>
          have e : I = (t : Int) := by rw [hI.out]; unfold fndI; rw [hfn]
          subst e
          have hti : ¬ (t : Int) < 0 := by omega
          cases b with
          | true =>
            have HE : Hid (setsE vs l = 5) := by
              have : setE vs a = 5 := by unfold setE; rw [hfn, hb.out]; rfl
              rw [Hid, setsE_at HZ.out hak.out (by rw [this]; simp), this]
            clear hfn
            go_wp2_with (refine hst.mono ?_; rintro e w' ⟨rfl, hw⟩)
            go_ret
            exact ⟨by rw [HE.out]; rfl, ck_all HBL.out hw⟩
          | false =>
            obtain ⟨d, hd, hkd⟩ := decl_kind hfn
            have htv := (List.getElem?_eq_some_iff.1 hd).1
            have HST : Hid (∀ w', Below (wr.alloc (.cells #[.string S, .pointer p] 203)).drew.heap.size (wr.alloc (.cells #[.string S, .pointer p] 203)).drew w' → w'.cell? ⟨ck, 0, none⟩ = some (.slice adv vs.length capv) ∧ w'.cell? ⟨gv, t * 3, none⟩ = some (.int .i64 (d.kind : Int))) := fun w' hw =>
              ⟨ck_cell hw (cell_row HC2.out.box 0 rfl), ck_cell hw (HC2.out.hk t d hd)⟩
            have hixv := ixV adv gv vs.length capv t htv (fun h => (HC2.out.hv h).1)
            by_cases hk1 : d.kind = 1
            · have HE : Hid (setsE vs l = 1) := by
                have : setE vs a = 1 := by unfold setE; rw [hfn, hb.out, hkd, hk1]; rfl
                rw [Hid, setsE_at HZ.out hak.out (by rw [this]; simp), this]
              rw [hk1] at HST
              clear hfn hd hkd htv hk1
              go_wp2_with (refine hst.mono ?_; rintro e w' ⟨rfl, hw⟩; obtain ⟨d0, d1⟩ := HST.out w' hw)
              go_ret
              exact ⟨by rw [HE.out]; rfl, ck_all HBL.out hw⟩
            · have HE : Hid (setE vs a = 0) := by
                unfold setE; rw [hfn, hb.out, hkd, if_neg hk1]; rfl
              have hk2 : ¬ ((d.kind : Nat) : Int) = 1 := by omega
              have hk3 : (((d.kind : Nat) : Int) == 1) = false := by simp; omega
              clear hfn hd hkd htv hk1
              go_wp2_with (refine hst.mono ?_; rintro e w' ⟨rfl, hw⟩; obtain ⟨d0, d1⟩ := HST.out w' hw)
              go_roundg (N - (k + 1))
              case measure => omega
              case rel =>
                refine ⟨k + 1, rfl, by omega, by go_num, ck_all HBL.out hw, fun j a' hj ha' => ?_⟩
                by_cases e : j = k
                · subst e
                  have := hak.out
                  rw [ha'] at this
                  injection this with this
                  subst this
                  exact HE.out
                · exact HZ.out j a' (by omega) ha'
    · obtain rfl : k = N := by omega
      have HE : Hid (setsE vs l = 0) := setsE_all (by rw [← hN.out]; exact hr.out.2)
      have HB : Hid (Below w.heap.size w wr) := hr.out.1
      clear hr
      go_wp2_with fail
      go_ret
      exact ⟨by rw [HE.out]; rfl, HB.out⟩
end
end Go.Proofs.YtiihgnagjemikaaGreatDoor
/- The program's checker: a way. -/
namespace Go.Proofs.YtiihgnagjemikaaGreatDoor
open Go.RowKit Px

theorem IsE.pt' {A : Nat → Prop} {w : World} {e : E} {v : Value} (h : IsE A w e v) : ∃ u, v = .pointer u := by
  cases e with
  | nil => exact ⟨none, h⟩
  | node _ _ _ _ _ => obtain ⟨g', _, _, e, _⟩ := h; exact ⟨_, e⟩
theorem IsSets.open {A : Nat → Prop} {w : World} {l : List Asg} {v : Value} (h : IsSets A w l v) :
    ∃ ad g cap, v = .slice ad l.length cap ∧ l.length ≤ maxLen ∧ (0 < l.length → ad = some ⟨g, 0, none⟩ ∧ g < w.heap.size) ∧ ∀ (i : Nat) (a : Asg), l[i]? = some a → ∃ p, w.cell? ⟨g, i * 2, none⟩ = some (sv a.name) ∧ w.cell? ⟨g, i * 2 + 1, none⟩ = some (.pointer p) ∧ IsE A w a.e (.pointer p) := by
  obtain ⟨xs, hr, hs⟩ := h
  obtain ⟨ad, g, cap, h1, h2, h3, h4⟩ := Row.open (k := 2) (fun a c ⟨p, hc, _⟩ => by rw [hc]; rfl) hr hs
  refine ⟨ad, g, cap, h1, h2, fun hp => ⟨(h3 hp).1, (h3 hp).2.2⟩, fun i a hi => ?_⟩
  obtain ⟨c, ⟨p, rfl, hp⟩, hx⟩ := h4 i a hi
  obtain ⟨u, rfl⟩ := hp.pt'
  exact ⟨u, hx 0 _ rfl, hx 1 _ rfl, hp⟩
section
variable {ck pb mb nm gv : Nat} {adv : Option Addr} {capv : Nat} {vs : List Decl}
theorem cksets_any {w : World} {n : Nat} (h : CkAt w ck pb mb nm gv adv capv vs n) {l : List Asg} {v : Value} {A : Nat → Prop} (hl : IsSets A w l v) (hNm : NmSets l) :
    Calls Tryz.prog 122 #[.pointer (some ⟨ck, 0, none⟩), v] w fun r w' => r = .returned (.int .i64 ((setsE vs l : Nat) : Int)) ∧ Below w.heap.size w w' := by
  obtain ⟨ad, g, cap, rfl, h2, h3, h4⟩ := hl.open
  exact sets_at h rfl h2 h3 hNm h4
def NmWay (y : Wy) : Prop := y.to.length ≤ maxLen ∧ NmOk y.cond ∧ NmSets y.sets
set_option maxRecDepth 100000 in
set_option maxHeartbeats 4000000 in
theorem ckway_any {w : World} {n : Nat} (h : CkAt w ck pb mb nm gv adv capv vs n) {y : Wy} {ns : List Str} {gy o pb2 mb2 nm2 : Nat} {p : Option Addr} {q : Value} {A : Nat → Prop} (inside : Bool)
    (c0 : w.cell? ⟨gy, o, none⟩ = some (.int .i64 (y.kind : Int))) (c1 : w.cell? ⟨gy, o + 1, none⟩ = some (.bool y.now)) (c2 : w.cell? ⟨gy, o + 2, none⟩ = some (.pointer p)) (c3 : w.cell? ⟨gy, o + 3, none⟩ = some (.int .i64 (y.times : Int))) (c4 : w.cell? ⟨gy, o + 4, none⟩ = some q) (c5 : w.cell? ⟨gy, o + 5, none⟩ = some (sv y.to))
    (he : IsE A w y.cond (.pointer p)) (hs : IsSets A w y.sets q) (hN : NmWay y)
    (hp2 : w.heap[pb2]? = some (.cells #[.map (some mb2)] 136 (0, 0))) (hm2 : MapF w mb2 nm2 (fnd ns)) :
    Calls Tryz.prog 124 #[.pointer (some ⟨ck, 0, none⟩), .pointer (some ⟨gy, o, none⟩), .bool inside, .func (.func 68) #[] #[.pointer (some ⟨pb2, 0, none⟩)]] w fun r w' => r = .returned (.int .i64 ((wayE vs ns inside y : Nat) : Int)) ∧ Below w.heap.size w w' := by
  obtain ⟨n1, n2, n3⟩ := hN
  have hf := find_any (s := y.to) hp2 hm2 n1
  have hst := strange_any h he n2
  have HSE : Hid (∀ w', Below w.heap.size w w' → Calls Tryz.prog 122 #[.pointer (some ⟨ck, 0, none⟩), q] w' fun r w'' => r = .returned (.int .i64 ((setsE vs y.sets : Nat) : Int)) ∧ Below w'.heap.size w' w'') := fun w' hb =>
    cksets_any (h.below hb) (hs.carry fun x hx hlt => ⟨hx, hb.block x hlt⟩) n3
  have HC4 : Hid (∀ w', Below w.heap.size w w' → w'.cell? ⟨gy, o + 4, none⟩ = some q) := fun w' hb => ck_cell hb c4
  clear h he hs hp2 hm2 n1 n2 n3 c4
  obtain ⟨S, hS⟩ : ∃ S, sv y.to = S := ⟨_, rfl⟩
  rw [hS] at c5 hf
  clear hS
  obtain ⟨B, hB⟩ : ∃ B, Hid ((((decide (y.kind = 2) && !inside) || (y.now && decide (1 < y.times)))) = B) := ⟨_, rfl⟩
  obtain ⟨Z, hZ⟩ : ∃ Z, Hid (strangeE (vnames vs) y.cond = Z) := ⟨_, rfl⟩
  rw [hZ.out] at hst
  cases hfn : fnd ns y.to with
  | none =>
    have e : fndI ns y.to = -1 := by unfold fndI; rw [hfn]
    rw [e] at hf
    have HE : Hid (wayE vs ns inside y = 7) := by unfold Hid wayE; rw [hfn]; rfl
    clear e hfn hst
    go_enter Tryz.func124, Tryz.ntmps124
    go_wp2_with (refine hf.mono ?_; rintro e w' ⟨rfl, rfl⟩)
    go_ret
    exact ⟨by rw [HE.out]; rfl, Below.refl _ _⟩
  | some t =>
    have e : fndI ns y.to = (t : Int) := by unfold fndI; rw [hfn]
    rw [e] at hf
    have hti : ¬ (t : Int) < 0 := by omega
    have HE : Hid (wayE vs ns inside y = if B then 6 else if Z then 5 else setsE vs y.sets) := by unfold Hid wayE; rw [hfn, hB.out, hZ.out]; rfl
    clear e hfn
    go_enter Tryz.func124, Tryz.ntmps124
    go_upto_region 3 with (refine hf.mono ?_; rintro e w' ⟨rfl, hw'⟩; obtain rfl := hw'.symm)
    clear hf hti
    go_cut [37] (fun s wx => Hid (s = .bool B ∧ wx = w))
    case first =>
      obtain ⟨nw, hnw⟩ : ∃ nw, Hid (y.now = nw) := ⟨_, rfl⟩
      rw [hnw.out] at c1
      by_cases hk : y.kind = 2
      · rw [hk] at c0
        cases inside with
        | false =>
          have hBt : B = true := by rw [← hB.out, hk]; rfl
          subst hBt
          go_wp2_with fail
          go_meet
          case rel => exact ⟨rfl, rfl⟩
        | true =>
          cases nw with
          | false =>
            have hBt : B = false := by rw [← hB.out, hk, hnw.out]; rfl
            subst hBt
            go_wp2_with fail
            go_meet
            case rel => exact ⟨rfl, rfl⟩
          | true =>
            by_cases ht : 1 < y.times
            · have hBt : B = true := by rw [← hB.out, hk, hnw.out]; simp [ht]
              subst hBt
              have ht' : (1 : Int) < (y.times : Int) := by omega
              clear ht
              go_wp2_with fail
              go_meet
              case rel => exact ⟨rfl, rfl⟩
            · have hBt : B = false := by rw [← hB.out, hk, hnw.out]; simp [ht]
              subst hBt
              have ht' : ¬ (1 : Int) < (y.times : Int) := by omega
              clear ht
              go_wp2_with fail
              go_meet
              case rel => exact ⟨rfl, rfl⟩
      · have hk2 : ¬ (y.kind : Int) = 2 := by omega
        have hk3 : ((y.kind : Int) == 2) = false := by simp; omega
        cases nw with
        | false =>
          have hBt : B = false := by rw [← hB.out, hnw.out]; simp [hk]
          subst hBt
          go_wp2_with fail
          go_meet
          case rel => exact ⟨rfl, rfl⟩
        | true =>
          by_cases ht : 1 < y.times
          · have hBt : B = true := by rw [← hB.out, hnw.out]; simp [ht]
            subst hBt
            have ht' : (1 : Int) < (y.times : Int) := by omega
            clear ht
            go_wp2_with fail
            go_meet
            case rel => exact ⟨rfl, rfl⟩
          · have hBt : B = false := by rw [← hB.out, hnw.out]; simp [ht, hk]
            subst hBt
            have ht' : ¬ (1 : Int) < (y.times : Int) := by omega
            clear ht
            go_wp2_with fail
            go_meet
            case rel => exact ⟨rfl, rfl⟩
    case rest =>
      obtain ⟨hs, hw⟩ := hcut.out
      subst hs
      subst hw
      clear hcut c0 c1 c3 c5 hB hZ
      cases B with
      | true =>
        rw [if_pos rfl] at HE
        go_wp2_with fail
        go_ret
        exact ⟨by rw [HE.out]; rfl, Below.refl _ _⟩
      | false =>
        rw [if_neg (by simp)] at HE
        cases Z with
        | true =>
          rw [if_pos rfl] at HE
          go_wp2_with (refine hst.mono ?_; rintro e w' ⟨rfl, hw⟩)
          go_ret
          exact ⟨by rw [HE.out]; rfl, hw⟩
        | false =>
          rw [if_neg (by simp)] at HE
          obtain ⟨M, hM⟩ : ∃ M, Hid (setsE vs y.sets = M) := ⟨_, rfl⟩
          rw [hM.out] at HE HSE
          go_wp2_with (first
            | (go_at_call 123; refine hst.mono ?_; rintro e w' ⟨rfl, hw⟩; have c4' := HC4.out w' hw)
            | (go_at_call 122; refine (HSE.out w' hw).mono ?_; rintro e w'' ⟨rfl, hw2⟩))
          go_ret
          exact ⟨by rw [HE.out]; rfl, ck_all hw hw2⟩
end
end Go.Proofs.YtiihgnagjemikaaGreatDoor
