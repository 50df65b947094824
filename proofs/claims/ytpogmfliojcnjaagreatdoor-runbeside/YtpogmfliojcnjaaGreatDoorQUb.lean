import Derived.Test.YtpogmfliojcnjaaGreatDoorQUk
import Derived.Test.YtpogmfliojcnjaaGreatDoorQCs
import Derived.Test.YtpogmfliojcnjaaGreatDoorQCs4
namespace Go.Proofs.YtpogmfliojcnjaaGreatDoor
open Go.RowKit Px
def nowV (bx : Nat) : Value := .func (.func 156) #[] #[.pointer (some ⟨bx, 0, none⟩)]
def wasV (bx : Nat) : Value := .func (.func 157) #[] #[.pointer (some ⟨bx, 0, none⟩)]
structure RunV (w : World) (rb bn bw m : Nat) (ns : List Str) (now was : Px.Env) : Prop where
 hn : w.cell? ⟨rb, 1, none⟩ = some (.map (some bn))
 hw : w.cell? ⟨rb, 2, none⟩ = some (.map (some bw))
 mn : MapE w bn m ns now
 mw : MapE w bw m ns was
 hm : m ≤ 1000000
def BoxV (w : World) (bx rb bn bw m : Nat) (ns : List Str) (now was : Px.Env) : Prop := w.cell? ⟨bx, 0, none⟩ = some (.pointer (some ⟨rb, 0, none⟩)) ∧ RunV w rb bn bw m ns now was
section
variable {A : Nat → Prop} {w w' : World} {bx rb bn bw m : Nat} {ns : List Str} {now was : Px.Env}
theorem RunV.below (h : RunV w rb bn bw m ns now was) (hb : Below w.heap.size w w') : RunV w' rb bn bw m ns now was :=
 ⟨ck_cell hb h.hn, ck_cell hb h.hw, h.mn.below hb, h.mw.below hb, h.hm⟩
theorem BoxV.below (h : BoxV w bx rb bn bw m ns now was) (hb : Below w.heap.size w w') : BoxV w' bx rb bn bw m ns now was := ⟨ck_cell hb h.1, h.2.below hb⟩
theorem tell1_any {s : Str} (h : BoxV w bx rb bn bw m ns now was) (hs : s.length ≤ maxLen) :
    Calls Tryz.prog 156 #[sv s, .pointer (some ⟨bx, 0, none⟩)] w fun e w' => e = .returned (.int .i64 (now s)) ∧ w' = w := by
 have c0 := h.1
 have c1 := h.2.hn
 have hl := (h.2.mn.look hs).1
 generalize sv s = S at hl ⊢
 clear h
 go_enter Tryz.func156, Tryz.ntmps156
 go_wp2_with fail
 go_ret
 exact ⟨rfl, rfl⟩
theorem tell2_any {s : Str} (h : BoxV w bx rb bn bw m ns now was) (hs : s.length ≤ maxLen) :
    Calls Tryz.prog 157 #[sv s, .pointer (some ⟨bx, 0, none⟩)] w fun e w' => e = .returned (.int .i64 (was s)) ∧ w' = w := by
 have c0 := h.1
 have c1 := h.2.hw
 have hl := (h.2.mw.look hs).1
 generalize sv s = S at hl ⊢
 clear h
 go_enter Tryz.func157, Tryz.ntmps157
 go_wp2_with fail
 go_ret
 exact ⟨rfl, rfl⟩
theorem nn1 (x : Value) (w : World) : (binOp BinOp.eql 217 (.func (.func 156) #[] #[x]) .nilFunc).run Tryz.prog w = .ok (.bool false) w := by kernel_rfl
theorem nn2 (x : Value) (w : World) : (binOp BinOp.eql 217 (.func (.func 157) #[] #[x]) .nilFunc).run Tryz.prog w = .ok (.bool false) w := by kernel_rfl
theorem askN_any {s : Str} (h : BoxV w bx rb bn bw m ns now was) (hs : s.length ≤ maxLen) :
    Calls Tryz.prog 186 #[nowV bx, sv s] w fun e w' => e = .returned (.int .i64 (now s)) ∧ Hid (Below w.heap.size w w') := by
 have hmf : ∀ (fn : Fn) (first cap : Array Value) (w : World), (Instr.makeFunc fn first cap).run Tryz.prog w = .ok (.func fn first cap) w := fun _ _ _ _ => rfl
 have q0 := nn1
 have hcall := tell1_any (h.below (ck_grown w (.cells #[.int .i64 0] 2))) hs
 clear h
 unfold nowV
 generalize now s = x at hcall ⊢
 generalize sv s = S at hcall ⊢
 go_enter_defers Tryz.func186, Tryz.ntmps186
 go_wp2_with (refine hcall.mono ?_; rintro e w' ⟨rfl, rfl⟩)
 refine leaves_cons (f := 219) (args := #[.pointer (some ⟨w.heap.size, 0, none⟩)]) (by simp) (by simp [go_sem]) ?_
 refine (ck_catch ⟨w.heap.size, 0, none⟩ _).mono ?_
 rintro e u' w'' ⟨rfl, rfl, rfl⟩
 have hfin : Hid (Below w.heap.size w (w.alloc (.cells #[.int .i64 x] 2))) := ck_grown w _
 simp [Leaves, settle, results, Tryz.results186, go_sem]
 exact hfin
theorem askW_any {s : Str} (h : BoxV w bx rb bn bw m ns now was) (hs : s.length ≤ maxLen) :
    Calls Tryz.prog 186 #[wasV bx, sv s] w fun e w' => e = .returned (.int .i64 (was s)) ∧ Hid (Below w.heap.size w w') := by
 have hmf : ∀ (fn : Fn) (first cap : Array Value) (w : World), (Instr.makeFunc fn first cap).run Tryz.prog w = .ok (.func fn first cap) w := fun _ _ _ _ => rfl
 have q0 := nn2
 have hcall := tell2_any (h.below (ck_grown w (.cells #[.int .i64 0] 2))) hs
 clear h
 unfold wasV
 generalize was s = x at hcall ⊢
 generalize sv s = S at hcall ⊢
 go_enter_defers Tryz.func186, Tryz.ntmps186
 go_wp2_with (refine hcall.mono ?_; rintro e w' ⟨rfl, rfl⟩)
 refine leaves_cons (f := 219) (args := #[.pointer (some ⟨w.heap.size, 0, none⟩)]) (by simp) (by simp [go_sem]) ?_
 refine (ck_catch ⟨w.heap.size, 0, none⟩ _).mono ?_
 rintro e u' w'' ⟨rfl, rfl, rfl⟩
 have hfin : Hid (Below w.heap.size w (w.alloc (.cells #[.int .i64 x] 2))) := ck_grown w _
 simp [Leaves, settle, results, Tryz.results186, go_sem]
 exact hfin
def EvTo (x : Int) (w : World) (r : Ending) (w' : World) : Prop := r = .returned (.int .i64 x) ∧ Hid (Below w.heap.size w w')
def NuOk : E → Prop
 | .nil => True
 | .node _ _ a l r => a.name.length ≤ maxLen ∧ N64 a.num ∧ NuOk l ∧ NuOk r
def EvR (A : Nat → Prop) (bx rb bn bw m : Nat) (ns : List Str) (now was : Px.Env) (e : E) : Prop := ∀ (w : World) (v : Value), IsE A w e v → BoxV w bx rb bn bw m ns now was →
 Calls Tryz.prog 155 #[v, .agg #[nowV bx, wasV bx]] w (EvTo (evE now was e) w)
theorem evr_nil (w : World) : Calls Tryz.prog 155 #[.pointer none, .agg #[nowV bx, wasV bx]] w (EvTo 0 w) := by
 unfold nowV wasV
 go_enter Tryz.func155, Tryz.ntmps155
 go_wp2_with fail
 go_ret
 exact ⟨rfl, ck_grown w _⟩
set_option maxHeartbeats 1000000 in
theorem evr_num (w : World) {g : Nat} {n : Int} {S : Value} {lv rv : Value} (hg : w.heap[g]? = some (.cells #[.int .i64 1, .int .i64 n, S, lv, rv] 132 (0, 0))) : Calls Tryz.prog 155 #[.pointer (some ⟨g, 0, none⟩), .agg #[nowV bx, wasV bx]] w (EvTo n w) := by
 have c0 := fun o => cell_row (ck_old (o' := o) hg) 0 (u := .int .i64 1) rfl
 have c1 := fun o => cell_row (ck_old (o' := o) hg) 1 (u := .int .i64 n) rfl
 clear hg
 unfold nowV wasV
 go_enter Tryz.func155, Tryz.ntmps155
 go_wp2_with fail
 go_ret
 exact ⟨rfl, ck_grown w _⟩
set_option maxHeartbeats 2000000 in
theorem evr_name (w : World) {g : Nat} {c n : Int} (hc : c = 2 ∨ c = 3) {s : Str} (hs : s.length ≤ maxLen) {lv rv : Value} (hg : w.heap[g]? = some (.cells #[.int .i64 c, .int .i64 n, sv s, lv, rv] 132 (0, 0))) (h : BoxV w bx rb bn bw m ns now was) : Calls Tryz.prog 155 #[.pointer (some ⟨g, 0, none⟩), .agg #[nowV bx, wasV bx]] w (EvTo (if c = 2 then now s else was s) w) := by
 obtain ⟨O, hO⟩ : ∃ O, O = Obj.cells #[nowV bx, wasV bx] 219 := ⟨_, rfl⟩
 have hbO : Below w.heap.size w (w.alloc O) := ck_grown w O
 have hbD : Below w.heap.size w (w.alloc O).drew := hbO.drew
 have hcN := askN_any (h.below hbD) hs
 have hcW := askW_any (h.below hbD) hs
 have k0 : (w.alloc O).heap[w.heap.size]? = some (.cells #[nowV bx, wasV bx] 219 (0, 0)) := by rw [ck_new, hO]
 have e0 := cell_row k0 0 (u := nowV bx) rfl
 have e1 := cell_row k0 1 (u := wasV bx) rfl
 have c0 := cell_row (ck_old (o' := O) hg) 0 (u := .int .i64 c) rfl
 have c2 := cell_row (ck_old (o' := O) hg) 2 (u := sv s) rfl
 have HB : Hid (Below w.heap.size w (w.alloc O).drew) := hbD
 generalize sv s = S at hcN hcW c2
 generalize now s = x at hcN ⊢
 generalize was s = y at hcW ⊢
 unfold nowV wasV at hO ⊢
 unfold nowV at hcN e0
 unfold wasV at hcW e1
 rw [hO] at hcN hcW e0 e1 c0 c2 HB
 clear h hg hbO hbD k0 hO hs
 rcases hc with rfl | rfl
 ·rw [if_pos rfl]
  go_enter Tryz.func155, Tryz.ntmps155
  go_wp2_with fail
  go_region_with (refine hcN.mono ?_; rintro e w' ⟨rfl, hr⟩)
  all_goals
   go_wp2_with fail
   go_ret
   exact ⟨rfl, ck_all HB.out hr.out⟩
 ·rw [if_neg (by omega)]
  go_enter Tryz.func155, Tryz.ntmps155
  go_wp2_with fail
  go_region_with (refine hcW.mono ?_; rintro e w' ⟨rfl, hr⟩)
  all_goals
   go_wp2_with fail
   go_ret
   exact ⟨rfl, ck_all HB.out hr.out⟩
set_option maxHeartbeats 4000000 in
theorem evr_one (w : World) {g : Nat} {c n : Int} (hc : c = 4 ∨ c = 5) {S : Value} {l : E} {lv rv : Value} (hg : w.heap[g]? = some (.cells #[.int .i64 c, .int .i64 n, S, lv, rv] 132 (0, 0))) (hl : IsE A w l lv) (ih : EvR A bx rb bn bw m ns now was l) (h : BoxV w bx rb bn bw m ns now was) : Calls Tryz.prog 155 #[.pointer (some ⟨g, 0, none⟩), .agg #[nowV bx, wasV bx]] w (EvTo (vOne c (evE now was l)) w) := by
 obtain ⟨O, hO⟩ : ∃ O, O = Obj.cells #[nowV bx, wasV bx] 219 := ⟨_, rfl⟩
 have hbO : Below w.heap.size w (w.alloc O) := ck_grown w O
 have hbD : Below w.heap.size w (w.alloc O).drew := hbO.drew
 have hcall := ih (w.alloc O).drew lv (hl.carry fun x hx hlt => ⟨hx, hbD.block x hlt⟩) (h.below hbD)
 obtain ⟨p, rfl⟩ : ∃ p, lv = .pointer p := by
  cases l with
  | nil => exact ⟨none, hl⟩
  | node _ _ _ _ _ => obtain ⟨g', _, _, e, _⟩ := hl; exact ⟨_, e⟩
 have k0 : (w.alloc O).heap[w.heap.size]? = some (.cells #[nowV bx, wasV bx] 219 (0, 0)) := by rw [ck_new, hO]
 have e0 := cell_row k0 0 (u := nowV bx) rfl
 have e1 := cell_row k0 1 (u := wasV bx) rfl
 have c0 := cell_row (ck_old (o' := O) hg) 0 (u := .int .i64 c) rfl
 have c3 := cell_row (ck_old (o' := O) hg) 3 (u := .pointer p) rfl
 have HP : Hid (∀ w', Below (w.alloc O).drew.heap.size (w.alloc O).drew w' → w'.cell? ⟨g, 0, none⟩ = some (.int .i64 c) ∧ w'.cell? ⟨g, 3, none⟩ = some (.pointer p) ∧ w'.cell? ⟨w.heap.size, 0, none⟩ = some (nowV bx) ∧ w'.cell? ⟨w.heap.size, 1, none⟩ = some (wasV bx)) := fun w' hF =>
  ⟨ck_cell hF c0, ck_cell hF c3, ck_cell hF e0, ck_cell hF e1⟩
 have HB : Hid (Below w.heap.size w (w.alloc O).drew) := hbD
 have hone := one_any
 unfold EvTo at hcall
 generalize evE now was l = x at hcall ⊢
 unfold nowV wasV at hO hcall HP ⊢
 unfold nowV at e0
 unfold wasV at e1
 rw [hO] at hcall e0 e1 c0 c3 HB HP
 clear h hg hbO hbD k0 hO hl ih
 rcases hc with rfl | rfl
 ·go_enter Tryz.func155, Tryz.ntmps155
  go_wp2_with fail
  go_region_held3 (fun w' => w'.cell? ⟨g, 0, none⟩ = some (.int .i64 4) ∧ w'.cell? ⟨g, 3, none⟩ = some (.pointer p) ∧ w'.cell? ⟨w.heap.size, 0, none⟩ = some (Value.func (.func 156) #[] #[.pointer (some ⟨bx, 0, none⟩)]) ∧ w'.cell? ⟨w.heap.size, 1, none⟩ = some (Value.func (.func 157) #[] #[.pointer (some ⟨bx, 0, none⟩)])) (first | exact HP.out _ hr.out | go_keep)
   (first
    | (go_at_call 155; refine hcall.mono ?_; rintro e w1 ⟨rfl, hr⟩)
    | (go_at_call 187; refine (hone _ _ _).mono ?_; rintro e w2 ⟨rfl, rfl⟩))
  all_goals
   go_wp2_with fail
   go_ret
   exact ⟨rfl, ck_all HB.out hr.out⟩
 ·go_enter Tryz.func155, Tryz.ntmps155
  go_wp2_with fail
  go_region_held3 (fun w' => w'.cell? ⟨g, 0, none⟩ = some (.int .i64 5) ∧ w'.cell? ⟨g, 3, none⟩ = some (.pointer p) ∧ w'.cell? ⟨w.heap.size, 0, none⟩ = some (Value.func (.func 156) #[] #[.pointer (some ⟨bx, 0, none⟩)]) ∧ w'.cell? ⟨w.heap.size, 1, none⟩ = some (Value.func (.func 157) #[] #[.pointer (some ⟨bx, 0, none⟩)])) (first | exact HP.out _ hr.out | go_keep)
   (first
    | (go_at_call 155; refine hcall.mono ?_; rintro e w1 ⟨rfl, hr⟩)
    | (go_at_call 187; refine (hone _ _ _).mono ?_; rintro e w2 ⟨rfl, rfl⟩))
  all_goals
   go_wp2_with fail
   go_ret
   exact ⟨rfl, ck_all HB.out hr.out⟩
set_option maxHeartbeats 8000000 in
theorem evr_two (w : World) {g : Nat} {c n : Int} (hc : c ≠ 1 ∧ c ≠ 2 ∧ c ≠ 3 ∧ c ≠ 4 ∧ c ≠ 5) {S : Value} {l r : E} {lv rv : Value} (hg : w.heap[g]? = some (.cells #[.int .i64 c, .int .i64 n, S, lv, rv] 132 (0, 0))) (hl : IsE A w l lv) (hr : IsE A w r rv) (ihl : EvR A bx rb bn bw m ns now was l) (ihr : EvR A bx rb bn bw m ns now was r) (h : BoxV w bx rb bn bw m ns now was) : Calls Tryz.prog 155 #[.pointer (some ⟨g, 0, none⟩), .agg #[nowV bx, wasV bx]] w (EvTo (vTwo c (evE now was l) (evE now was r)) w) := by
 obtain ⟨O, hO⟩ : ∃ O, O = Obj.cells #[nowV bx, wasV bx] 219 := ⟨_, rfl⟩
 have hbO : Below w.heap.size w (w.alloc O) := ck_grown w O
 have hbD : Below w.heap.size w (w.alloc O).drew := hbO.drew
 have hcall := ihl (w.alloc O).drew lv (hl.carry fun x hx hlt => ⟨hx, hbD.block x hlt⟩) (h.below hbD)
 have HR : Hid (IsE A (w.alloc O).drew r rv ∧ EvR A bx rb bn bw m ns now was r ∧ BoxV (w.alloc O).drew bx rb bn bw m ns now was) := ⟨hr.carry fun x hx hlt => ⟨hx, hbD.block x hlt⟩, ihr, h.below hbD⟩
 obtain ⟨p, rfl⟩ : ∃ p, lv = .pointer p := by
  cases l with
  | nil => exact ⟨none, hl⟩
  | node _ _ _ _ _ => obtain ⟨g', _, _, e, _⟩ := hl; exact ⟨_, e⟩
 obtain ⟨q, rfl⟩ : ∃ q, rv = .pointer q := by
  cases r with
  | nil => exact ⟨none, hr⟩
  | node _ _ _ _ _ => obtain ⟨g', _, _, e, _⟩ := hr; exact ⟨_, e⟩
 have k0 : (w.alloc O).heap[w.heap.size]? = some (.cells #[nowV bx, wasV bx] 219 (0, 0)) := by rw [ck_new, hO]
 have e0 := cell_row k0 0 (u := nowV bx) rfl
 have e1 := cell_row k0 1 (u := wasV bx) rfl
 have c0 := cell_row (ck_old (o' := O) hg) 0 (u := .int .i64 c) rfl
 have c3 := cell_row (ck_old (o' := O) hg) 3 (u := .pointer p) rfl
 have c4 := cell_row (ck_old (o' := O) hg) 4 (u := .pointer q) rfl
 have HP : Hid (∀ w', Below (w.alloc O).drew.heap.size (w.alloc O).drew w' → w'.cell? ⟨g, 0, none⟩ = some (.int .i64 c) ∧ w'.cell? ⟨g, 4, none⟩ = some (.pointer q) ∧ w'.cell? ⟨w.heap.size, 0, none⟩ = some (nowV bx) ∧ w'.cell? ⟨w.heap.size, 1, none⟩ = some (wasV bx)) := fun w' hF =>
  ⟨ck_cell hF c0, ck_cell hF c4, ck_cell hF e0, ck_cell hF e1⟩
 have HB : Hid (Below w.heap.size w (w.alloc O).drew) := hbD
 obtain ⟨c1', c2', c3', c4', c5'⟩ := hc
 have t1 : (c == 1) = false := by simpa using c1'
 have t2 : (c == 2) = false := by simpa using c2'
 have t3 : (c == 3) = false := by simpa using c3'
 have t4 : (c == 4) = false := by simpa using c4'
 have t5 : (c == 5) = false := by simpa using c5'
 have htwo := two_any
 unfold EvTo at hcall
 obtain ⟨x, hx⟩ : ∃ x, x = evE now was l := ⟨_, rfl⟩
 obtain ⟨y, hy⟩ : ∃ y, y = evE now was r := ⟨_, rfl⟩
 rw [← hx] at hcall ⊢
 rw [← hy]
 have HY : Hid (y = evE now was r) := hy
 unfold nowV wasV at hO hcall HP ⊢
 unfold nowV at e0
 unfold wasV at e1
 rw [hO] at hcall e0 e1 c0 c3 HB HP HR
 clear h hg hbO hbD k0 hO hl hr ihl ihr c4 hx hy
 go_enter Tryz.func155, Tryz.ntmps155
 go_upto_region 13 with fail
 clear t1 t2 t3 t4 t5 c1' c2' c3' c4' c5'
 go_cut [5] (fun s5 wx => s5 = .int .i64 x ∧ Hid (Below (w.alloc (.cells #[Value.func (.func 156) #[] #[.pointer (some ⟨bx, 0, none⟩)], Value.func (.func 157) #[] #[.pointer (some ⟨bx, 0, none⟩)]] 219)).drew.heap.size (w.alloc (.cells #[Value.func (.func 156) #[] #[.pointer (some ⟨bx, 0, none⟩)], Value.func (.func 157) #[] #[.pointer (some ⟨bx, 0, none⟩)]] 219)).drew wx))
 case first =>
  go_region_with (refine hcall.mono ?_; rintro e w' ⟨rfl, hr⟩)
  all_goals
   go_wp2_with fail
   go_meet
   case rel => exact ⟨rfl, hr.out⟩
 case rest =>
  obtain ⟨rfl, hx⟩ := hcut
  clear hcall e0 e1 c0 c3
  obtain ⟨d0, d4, f0, f1⟩ := HP.out wc hx.out
  have hFd : Below (w.alloc (.cells #[Value.func (.func 156) #[] #[.pointer (some ⟨bx, 0, none⟩)], Value.func (.func 157) #[] #[.pointer (some ⟨bx, 0, none⟩)]] 219)).drew.heap.size (w.alloc (.cells #[Value.func (.func 156) #[] #[.pointer (some ⟨bx, 0, none⟩)], Value.func (.func 157) #[] #[.pointer (some ⟨bx, 0, none⟩)]] 219)).drew wc.drew := hx.out.drew
  have hcall := HR.out.2.1 wc.drew (.pointer q) (HR.out.1.carry fun x hx hlt => ⟨hx, hFd.block x hlt⟩) (HR.out.2.2.below hFd)
  rw [← HY.out] at hcall
  unfold EvTo at hcall
  unfold nowV wasV at hcall
  have HFD : Hid (Below (w.alloc (.cells #[Value.func (.func 156) #[] #[.pointer (some ⟨bx, 0, none⟩)], Value.func (.func 157) #[] #[.pointer (some ⟨bx, 0, none⟩)]] 219)).drew.heap.size (w.alloc (.cells #[Value.func (.func 156) #[] #[.pointer (some ⟨bx, 0, none⟩)], Value.func (.func 157) #[] #[.pointer (some ⟨bx, 0, none⟩)]] 219)).drew wc.drew) := hFd
  clear hFd
  go_upto_region 14 with fail
  go_cut [6] (fun s6 wx => s6 = .int .i64 y ∧ Hid (Below w.heap.size w wx ∧ wx.cell? ⟨g, 0, none⟩ = some (.int .i64 c)))
  case first =>
   go_region_with (refine hcall.mono ?_; rintro e w' ⟨rfl, hr⟩)
   all_goals
    go_wp2_with fail
    go_meet
    case rel =>
     have hF2 := ck_all HFD.out hr.out
     exact ⟨rfl, ck_all HB.out hF2, (HP.out _ hF2).1⟩
  case rest =>
   obtain ⟨rfl, hy⟩ := hcut
   have g0 := hy.out.2
   clear hcall d0 d4 f0 f1
   go_wp2_with (refine (htwo _ _ _ _).mono ?_; rintro e w' ⟨rfl, rfl⟩)
   go_ret
   exact ⟨rfl, hy.out.1.alloc hy.out.1.size _⟩
theorem evr_all : ∀ e, NuOk e → EvR A bx rb bn bw m ns now was e := by
 intro e
 induction e with
 | nil =>
  intro _ w v hv h
  obtain rfl : v = .pointer none := hv
  exact evr_nil w
 | node b0 o a l r ihl ihr =>
  intro hn w v hv h
  obtain ⟨n1, _, n2, n3⟩ := hn
  obtain ⟨g, lv, rv, rfl, hga, hg, hl, hr⟩ := hv
  rw [evE]
  by_cases c1 : a.code = 1
  ·rw [if_pos c1]
   rw [c1] at hg
   exact evr_num w hg
  ·rw [if_neg c1]
   by_cases c2 : a.code = 2
   ·rw [if_pos c2]
    have := evr_name w (c := (a.code : Int)) (by omega) n1 hg h
    rwa [if_pos (by omega)] at this
   ·rw [if_neg c2]
    by_cases c3 : a.code = 3
    ·rw [if_pos c3]
     have := evr_name w (c := (a.code : Int)) (by omega) n1 hg h
     rwa [if_neg (by omega)] at this
    ·rw [if_neg c3]
     by_cases c4 : a.code = 4 ∨ a.code = 5
     ·rw [if_pos c4]
      exact evr_one w (by omega) hg hl (ihl n2) h
     ·rw [if_neg c4]
      exact evr_two w ⟨by omega, by omega, by omega, by omega, by omega⟩ hg hl hr (ihl n2) (ihr n3) h
theorem ueval_any {e : E} {v : Value} (hn : NuOk e) (he : IsE A w e v) (h : RunV w rb bn bw m ns now was) :
    Calls Tryz.prog 116 #[.pointer (some ⟨rb, 0, none⟩), v] w (EvTo (evE now was e) w) := by
 have hmf : ∀ (fn : Fn) (first cap : Array Value) (w : World), (Instr.makeFunc fn first cap).run Tryz.prog w = .ok (.func fn first cap) w := fun _ _ _ _ => rfl
 obtain ⟨p, rfl⟩ : ∃ p, v = .pointer p := by
  cases e with
  | nil => exact ⟨none, he⟩
  | node _ _ _ _ _ => obtain ⟨g', _, _, e, _⟩ := he; exact ⟨_, e⟩
 obtain ⟨W, hW⟩ : ∃ W, W = w.alloc (.cells #[.pointer (some ⟨rb, 0, none⟩)] 35) := ⟨_, rfl⟩
 have hb : Below w.heap.size w W := by rw [hW]; exact ck_grown w _
 have hk : W.heap[w.heap.size]? = some (.cells #[.pointer (some ⟨rb, 0, none⟩)] 35 (0, 0)) := by rw [hW]; exact ck_new w _
 have hcall := evr_all (A := A) e hn W (.pointer p) (he.carry fun x hx hlt => ⟨hx, hb.block x hlt⟩) (bx := w.heap.size) ⟨cell_row hk 0 rfl, h.below hb⟩
 have HB : Hid (Below w.heap.size w W) := hb
 unfold EvTo at hcall
 unfold nowV wasV at hcall
 generalize evE now was e = x at hcall ⊢
 rw [hW] at hcall HB
 clear hW hb hk h he hn
 go_enter Tryz.func116, Tryz.ntmps116
 go_wp2_with (refine hcall.mono ?_; rintro e w' ⟨rfl, hr⟩)
 go_ret
 exact ⟨rfl, ck_all HB.out hr.out⟩
theorem evE_n64 (hN : ∀ s : Str, s.length ≤ maxLen → N64 (now s)) (hW : ∀ s : Str, s.length ≤ maxLen → N64 (was s)) : ∀ e, NuOk e → N64 (evE now was e) := by
 intro e
 induction e with
 | nil => intro _; exact N64.zero
 | node b0 o a l r ihl ihr =>
  intro hn
  obtain ⟨n1, n0, n2, n3⟩ := hn
  rw [evE]
  repeat' split
  ·exact n0
  ·exact hN _ n1
  ·exact hW _ n1
  ·exact vOne_n64 _ _
  ·exact vTwo_n64 (ihr n3)
end
end Go.Proofs.YtpogmfliojcnjaaGreatDoor
namespace Go.Proofs.YtpogmfliojcnjaaGreatDoor
open Go.RowKit Px
abbrev Role := Nat × Nat × Nat
abbrev Role.reg : Role := (0, 0, 0)
abbrev Role.sts : Role := (1, 0, 0)
abbrev Role.junk : Role := (2, 0, 0)
abbrev Role.ways (i : Nat) : Role := (3, i, 0)
abbrev Role.ins (i : Nat) : Role := (4, i, 0)
abbrev Role.inner (i j : Nat) : Role := (5, i, j)
def pS (gS : Nat) : Option Nat → Value
 | none => .pointer none
 | some i => .pointer (some ⟨gS, i * 11, none⟩)
structure WMem (A : Nat → Prop) (w : World) (ns : List Str) (gS gW j : Nat) (y : Wy) (c : Int) : Prop where
 way : ∃ p q, WayM A w gW (j * 9) y p q
 dest : ∃ t, fnd ns y.to = some t ∧ w.cell? ⟨gW, j * 9 + 7, none⟩ = some (.pointer (some ⟨gS, t * 11, none⟩))
 so : w.cell? ⟨gW, j * 9 + 8, none⟩ = some (.int .i64 c)
 fr : w.frozen? ⟨gW, j * 9 + 8, none⟩ = false
structure SMem {σ ρ : Type} (A : Nat → Prop) (w : World) (RM : (Nat → Prop) → List σ → ρ → Nat → Prop) (P : Nat → Prop) (role : Nat → Role) (ns : List Str) (gS i : Nat) (s : StF σ) (x : SdF ρ) (gW gI : Nat) (gr : Nat → Nat) : Prop where
 c0 : w.cell? ⟨gS, i * 11, none⟩ = some (sv s.name)
 c2 : w.cell? ⟨gS, i * 11 + 2, none⟩ = some (.bool s.last)
 en : ∃ v, w.cell? ⟨gS, i * 11 + 3, none⟩ = some v ∧ IsSets A w s.enter v
 du : ∃ v, w.cell? ⟨gS, i * 11 + 4, none⟩ = some v ∧ IsSets A w s.during v
 le : ∃ v, w.cell? ⟨gS, i * 11 + 5, none⟩ = some v ∧ IsSets A w s.leave v
 re : ∃ p, w.cell? ⟨gS, i * 11 + 6, none⟩ = some (.pointer p) ∧ IsE A w s.rests (.pointer p)
 wy : ∃ ad cap, w.cell? ⟨gS, i * 11 + 9, none⟩ = some (.slice ad s.ways.length cap) ∧ (0 < s.ways.length → ad = some ⟨gW, 0, none⟩ ∧ P gW ∧ role gW = Role.ways i)
 wl : x.so.length = s.ways.length
 wm : ∀ j y c, s.ways[j]? = some y → x.so[j]? = some c → WMem A w ns gS gW j y c
 iy : ∃ ad cap, w.cell? ⟨gS, i * 11 + 10, none⟩ = some (.slice ad s.regions.length cap) ∧ (0 < s.regions.length → ad = some ⟨gI, 0, none⟩ ∧ P gI ∧ role gI = Role.ins i)
 il : x.inside.length = s.regions.length
 im : ∀ j r d, s.regions[j]? = some r → x.inside[j]? = some d → w.cell? ⟨gI, j, none⟩ = some (.pointer (some ⟨gr j, 0, none⟩)) ∧ RM (fun b => P b ∧ role b = Role.inner i j) r d (gr j)
structure Lie where
 gS : Nat
 gW : Nat → Nat
 gI : Nat → Nat
 gr : Nat → Nat → Nat
 role : Nat → Role
 fi : Nat
structure RMem {σ ρ : Type} (A : Nat → Prop) (w : World) (RM : (Nat → Prop) → List σ → ρ → Nat → Prop) (P : Nat → Prop) (L : List (StF σ)) (d : RdF ρ) (g : Nat) (l : Lie) : Prop where
 hg : w.heap[g]? = some (.cells #[pS l.gS (some l.fi), pS l.gS d.there, pS l.gS d.was] 84 (0, 0))
 hf : firstI L = some l.fi
 pg : P g ∧ l.role g = Role.reg
 ps : P l.gS ∧ l.role l.gS = Role.sts
 len : d.sts.length = L.length
 th : ∀ i, d.there = some i → i < L.length
 wa : ∀ i, d.was = some i → i < L.length
 st : ∀ i s x, L[i]? = some s → d.sts[i]? = some x → SMem A w RM P l.role (snames L) l.gS i s x (l.gW i) (l.gI i) (l.gr i)
def RegM (A : Nat → Prop) : (k : Nat) → World → (Nat → Prop) → List (St k) → Rd k → Nat → Prop
 | 0 => fun _ _ _ _ _ => False
 | k + 1 => fun w P L d g => ∃ l, RMem A w (RegM A k w) P L d g l
section
variable {A P : Nat → Prop} {w w' : World}
theorem WMem.keep {ns : List Str} {gS gW j : Nat} {y : Wy} {c : Int} (h : WMem A w ns gS gW j y c) (hA : ∀ b, A b → b < w.heap.size → w'.heap[b]? = w.heap[b]?) (hW : w'.heap[gW]? = w.heap[gW]?) : WMem A w' ns gS gW j y c := by
 obtain ⟨⟨p, q, h0, h1, h2, h3, h4, h5, h6, h7, h8⟩, ⟨t, ht, h9⟩, h10, h11⟩ := h
 have kp : Keep A A w w' := fun b hb hlt => ⟨hb, hA b hb hlt⟩
 have hc : ∀ {o : Nat} {v : Value}, w.cell? ⟨gW, o, none⟩ = some v → w'.cell? ⟨gW, o, none⟩ = some v := fun {o v} hv => by rw [World.cell?_of_block (w := w) (a := ⟨gW, o, none⟩) hW]; exact hv
 refine ⟨⟨p, q, hc h0, hc h1, hc h2, hc h3, hc h4, hc h5, hc h6, h7.carry kp, h8.carry kp⟩, ⟨t, ht, hc h9⟩, hc h10, ?_⟩
 have : w'.frozen? ⟨gW, j * 9 + 8, none⟩ = w.frozen? ⟨gW, j * 9 + 8, none⟩ := by simp only [World.frozen?, hW]
 rw [this]; exact h11
theorem SMem.keep {σ ρ : Type} {RM RM' : (Nat → Prop) → List σ → ρ → Nat → Prop} {role : Nat → Role} {ns : List Str} {gS i : Nat} {s : StF σ} {x : SdF ρ} {gW gI : Nat} {gr : Nat → Nat} (h : SMem A w RM P role ns gS i s x gW gI gr) (hA : ∀ b, A b → b < w.heap.size → w'.heap[b]? = w.heap[b]?)
    (hS : w'.heap[gS]? = w.heap[gS]?) (hW : 0 < s.ways.length → w'.heap[gW]? = w.heap[gW]?) (hI : 0 < s.regions.length → w'.heap[gI]? = w.heap[gI]?) (hR : ∀ j r d, s.regions[j]? = some r → x.inside[j]? = some d → RM (fun b => P b ∧ role b = Role.inner i j) r d (gr j) → RM' (fun b => P b ∧ role b = Role.inner i j) r d (gr j)) : SMem A w' RM' P role ns gS i s x gW gI gr := by
 have kp : Keep A A w w' := fun b hb hlt => ⟨hb, hA b hb hlt⟩
 have hc : ∀ {o : Nat} {v : Value}, w.cell? ⟨gS, o, none⟩ = some v → w'.cell? ⟨gS, o, none⟩ = some v := fun {o v} hv => by rw [World.cell?_of_block (w := w) (a := ⟨gS, o, none⟩) hS]; exact hv
 obtain ⟨c0, c2, ⟨ve, e1, e2⟩, ⟨vd, d1, d2⟩, ⟨vl, l1, l2⟩, ⟨p, p1, p2⟩, ⟨aw, cw, w1, w2⟩, wl, wm, ⟨ai, ci, i1, i2⟩, il, im⟩ := h
 refine ⟨hc c0, hc c2, ⟨ve, hc e1, e2.carry kp⟩, ⟨vd, hc d1, d2.carry kp⟩, ⟨vl, hc l1, l2.carry kp⟩, ⟨p, hc p1, p2.carry kp⟩, ⟨aw, cw, hc w1, w2⟩, wl, fun j y c hy hc' => ?_, ⟨ai, ci, hc i1, i2⟩, il, fun j r d hr hd => ?_⟩
 ·have hlt : j < s.ways.length := (List.getElem?_eq_some_iff.1 hy).1
  exact (wm j y c hy hc').keep hA (hW (by omega))
 ·have hlt : j < s.regions.length := (List.getElem?_eq_some_iff.1 hr).1
  obtain ⟨h1, h2⟩ := im j r d hr hd
  exact ⟨by rw [World.cell?_of_block (w := w) (a := ⟨gI, j, none⟩) (hI (by omega))]; exact h1, hR j r d hr hd h2⟩
theorem RegM.keep : ∀ (k : Nat) {P : Nat → Prop} {L : List (St k)} {d : Rd k} {g : Nat}, RegM A k w P L d g → (∀ b, A b → b < w.heap.size → w'.heap[b]? = w.heap[b]?) → (∀ b, P b → w'.heap[b]? = w.heap[b]?) → RegM A k w' P L d g := by
 intro k
 induction k with
 | zero => intro P L d g h _ _; exact h.elim
 | succ k ih =>
  intro P L d g h hA hP
  obtain ⟨l, h⟩ := h
  refine ⟨l, ⟨by rw [hP g h.pg.1]; exact h.hg, h.hf, h.pg, h.ps, h.len, h.th, h.wa, fun i s x hs hx => ?_⟩⟩
  have hm := h.st i s x hs hx
  exact hm.keep hA (hP _ h.ps.1) (fun hw => hP _ (hm.wy.elim fun _ ⟨_, _, h⟩ => (h hw).2.1)) (fun hi => hP _ (hm.iy.elim fun _ ⟨_, _, h⟩ => (h hi).2.1)) (fun j r d' _ _ hr => ih hr hA fun b hb => hP b hb.1)
def OverM (w : World) (g : Nat) (b : Bool) : Prop := (w.cell? ⟨g, 1, none⟩ = some (.pointer none) ∧ b = false) ∨ ∃ gS i, w.cell? ⟨g, 1, none⟩ = some (.pointer (some ⟨gS, i * 11, none⟩)) ∧ w.cell? ⟨gS, i * 11 + 2, none⟩ = some (.bool b)
theorem RMem.over {σ ρ : Type} {RM : (Nat → Prop) → List σ → ρ → Nat → Prop} {L : List (StF σ)} {d : RdF ρ} {g : Nat} {l : Lie} (h : RMem A w RM P L d g l) : OverM w g (overR L d) := by
 have hc := cell_row h.hg 1 rfl
 unfold overR
 cases ht : d.there with
 | none => rw [ht] at hc; exact .inl ⟨hc, rfl⟩
 | some i =>
  rw [ht] at hc
  have hi := h.th i ht
  have h1 : L[i]? = some (L[i]'hi) := List.getElem?_eq_getElem hi
  have h2 : d.sts[i]? = some (d.sts[i]'(by rw [h.len]; exact hi)) := List.getElem?_eq_getElem _
  have hm := h.st i _ _ h1 h2
  refine .inr ⟨l.gS, i, hc, ?_⟩
  simp only [h1]
  exact hm.c2
theorem RegM.over : ∀ (k : Nat) {L : List (St k)} {d : Rd k} {g : Nat}, RegM A k w P L d g → OverM w g ((OpsK k).over L d) := by
 intro k
 cases k with
 | zero => intro L d g h; exact h.elim
 | succ k => intro L d g h; obtain ⟨l, h⟩ := h; exact h.over
structure Sep (A P : Nat → Prop) (w : World) (rb bn bw : Nat) : Prop where
 a : ∀ b, A b → b < w.heap.size ∧ ¬ P b ∧ b ≠ bn
 p : ∀ b, P b → b < w.heap.size ∧ b ≠ rb ∧ b ≠ bn ∧ b ≠ bw
 rn : rb ≠ bn
 wn : bw ≠ bn
theorem Sep.up {rb bn bw : Nat} (h : Sep A P w rb bn bw) (hs : w.heap.size ≤ w'.heap.size) : Sep A P w' rb bn bw :=
 ⟨fun b hb => ⟨Nat.lt_of_lt_of_le (h.a b hb).1 hs, (h.a b hb).2⟩, fun b hb => ⟨Nat.lt_of_lt_of_le (h.p b hb).1 hs, (h.p b hb).2⟩, h.rn, h.wn⟩
theorem Sep.sub {Q : Nat → Prop} {rb bn bw : Nat} (h : Sep A P w rb bn bw) (hQ : ∀ b, Q b → P b) : Sep A Q w rb bn bw :=
 ⟨fun b hb => ⟨(h.a b hb).1, fun hq => (h.a b hb).2.1 (hQ b hq), (h.a b hb).2.2⟩, fun b hb => h.p b (hQ b hb), h.rn, h.wn⟩
structure FrP (P : Nat → Prop) (bn : Nat) (w w' : World) : Prop where
 os : w'.os = w.os
 tape : w'.tape = w.tape
 output : w'.output = w.output
 size : w.heap.size ≤ w'.heap.size
 block : ∀ b, b < w.heap.size → ¬ P b → b ≠ bn → w'.heap[b]? = w.heap[b]?
theorem FrP.refl (P : Nat → Prop) (bn : Nat) (w : World) : FrP P bn w w := ⟨rfl, rfl, rfl, Nat.le_refl _, fun _ _ _ _ => rfl⟩
theorem FrP.trans {bn : Nat} {w'' : World} (h : FrP P bn w w') (k : FrP P bn w' w'') : FrP P bn w w'' :=
 ⟨k.os.trans h.os, k.tape.trans h.tape, k.output.trans h.output, Nat.le_trans h.size k.size, fun b hb hp hn => (k.block b (Nat.lt_of_lt_of_le hb h.size) hp hn).trans (h.block b hb hp hn)⟩
theorem FrP.wide {Q : Nat → Prop} {bn : Nat} (h : FrP P bn w w') (hQ : ∀ b, P b → Q b) : FrP Q bn w w' := ⟨h.os, h.tape, h.output, h.size, fun b hb hp hn => h.block b hb (fun h => hp (hQ b h)) hn⟩
theorem FrP.of_below {bn : Nat} (h : Below w.heap.size w w') : FrP P bn w w' := ⟨h.os, h.tape, h.output, h.size, fun b hb _ _ => h.block b hb⟩
theorem FrP.grown {bn : Nat} {w'' : World} (h : FrP P bn w w') (hg : w'.grownBy w'' (some bn)) : FrP P bn w w'' :=
 h.trans ⟨hg.os, hg.tape, hg.output, hg.size, fun b hb _ hn => hg.block b hb (fun e => hn (by injection e))⟩
theorem FrP.setCell {bn : Nat} (h : FrP P bn w w') {p : Addr} (hp : P p.block) (u : Value) : FrP P bn w (w'.setCell p u) :=
 h.trans ⟨rfl, rfl, rfl, by simp [World.setCell], fun b _ hb _ => Below.heap_setCell _ _ _ _ (fun e => hb (e ▸ hp))⟩
theorem FrP.drew {bn : Nat} (h : FrP P bn w w') : FrP P bn w w'.drew := ⟨h.os, h.tape, h.output, h.size, h.block⟩
theorem FrP.cell {bn : Nat} (h : FrP P bn w w') {a : Addr} {v : Value} (hc : w.cell? a = some v) (hp : ¬ P a.block) (hn : a.block ≠ bn) : w'.cell? a = some v := by
 rw [World.cell?_of_block (w := w) (h.block a.block (World.block_lt_of_cell? w a hc) hp hn)]; exact hc
theorem FrP.chart {bn : Nat} (h : FrP P bn w w') (hA : ∀ b, A b → b < w.heap.size ∧ ¬ P b ∧ b ≠ bn) : ∀ b, A b → b < w.heap.size → w'.heap[b]? = w.heap[b]? := fun b hb hlt => h.block b hlt (hA b hb).2.1 (hA b hb).2.2
theorem FrP.region {Q : Nat → Prop} {bn k : Nat} {L : List (St k)} {d : Rd k} {g : Nat} (h : FrP P bn w w') (hA : ∀ b, A b → b < w.heap.size ∧ ¬ P b ∧ b ≠ bn) (hQ : ∀ b, Q b → b < w.heap.size ∧ ¬ P b ∧ b ≠ bn) (hr : RegM A k w Q L d g) : RegM A k w' Q L d g :=
 RegM.keep k hr (h.chart hA) fun b hb => h.block b (hQ b hb).1 (hQ b hb).2.1 (hQ b hb).2.2
end
end Go.Proofs.YtpogmfliojcnjaaGreatDoor
