import Derived.RowKit
import Derived.IntWalk
import Derived.Laws.Bits64
import Derived.Test.YtpogmfliojcnjaaGreatDoorProg
import Derived.WalkKit
import Derived.WalkSpells
import Derived.WalkLawsBesides
import Derived.Laws.EntriesVeiled
import Derived.Test.YtpogmfliojcnjaaGreatDoorQCe
import Derived.Deep.Cut
namespace Go.Proofs.YtpogmfliojcnjaaGreatDoor
open Go.RowKit
def yes (b : Bool) : Int := if b then 1 else 0
def vOne (c a : Int) : Int := if c = 4 then wrap64 (-a) else if c = 5 then yes (a == 0) else 0
def vDiv (a b : Int) : Int := if b = 0 then 0 else wrap64 (a.tdiv b)
def vMod (a b : Int) : Int := if b = 0 then 0 else a.tmod b
def vTwo (c a b : Int) : Int :=
 if c = 6 then wrap64 (a + b) else
 if c = 7 then wrap64 (a - b) else
 if c = 8 then wrap64 (a * b) else
 if c = 9 then vDiv a b else
 if c = 10 then vMod a b else
 if c = 11 then yes (a == b) else
 if c = 12 then yes (a != b) else
 if c = 13 then yes (decide (a < b)) else
 if c = 14 then yes (decide (a ≤ b)) else
 if c = 15 then yes (a != 0 && b != 0) else
 if c = 16 then yes (a != 0 || b != 0) else 0
theorem wrap64_lo (x : Int) : -9223372036854775808 ≤ wrap64 x ∧ wrap64 x ≤ 9223372036854775807 := by
 unfold wrap64; omega
theorem tmod_small (a b : Int) (hb : -9223372036854775808 ≤ b ∧ b ≤ 9223372036854775807) (h : ¬ b = 0) :
    -9223372036854775808 ≤ a.tmod b ∧ a.tmod b ≤ 9223372036854775807 := by
 have h1 : (a.tmod b).natAbs = a.natAbs % b.natAbs := Int.natAbs_tmod a b
 have h2 := Nat.mod_lt a.natAbs (show 0 < b.natAbs by omega)
 omega
end Go.Proofs.YtpogmfliojcnjaaGreatDoor
namespace Go.Proofs.YtpogmfliojcnjaaGreatDoor
open Go.RowKit
theorem truth_any (b : Bool) (w : World) :
    Calls Tryz.prog 220 #[.bool b] w fun e w' => e = .returned (.int .i64 (yes b)) ∧ w' = w := by
 cases b
 all_goals
  go_enter Tryz.func220, Tryz.ntmps220
  go_wp2
  go_ret
  exact ⟨rfl, rfl⟩
theorem add_any (a b : Int) (w : World) :
    Calls Tryz.prog 221 #[.int .i64 a, .int .i64 b] w fun e w' => e = .returned (.int .i64 (wrap64 (a + b))) ∧ w' = w := by
 go_enter Tryz.func221, Tryz.ntmps221
 go_wp2
 go_ret
 exact ⟨rfl, rfl⟩
theorem sub_any (a b : Int) (w : World) :
    Calls Tryz.prog 222 #[.int .i64 a, .int .i64 b] w fun e w' => e = .returned (.int .i64 (wrap64 (a - b))) ∧ w' = w := by
 go_enter Tryz.func222, Tryz.ntmps222
 go_wp2
 go_ret
 exact ⟨rfl, rfl⟩
theorem mul_any (a b : Int) (w : World) :
    Calls Tryz.prog 223 #[.int .i64 a, .int .i64 b] w fun e w' => e = .returned (.int .i64 (wrap64 (a * b))) ∧ w' = w := by
 go_enter Tryz.func223, Tryz.ntmps223
 go_wp2
 go_ret
 exact ⟨rfl, rfl⟩
theorem quotient_any (a b : Int) (w : World) :
    Calls Tryz.prog 224 #[.int .i64 a, .int .i64 b] w fun e w' => e = .returned (.int .i64 (vDiv a b)) ∧ w' = w := by
 by_cases h : b = 0
 ·subst h
  go_enter Tryz.func224, Tryz.ntmps224
  go_wp2
  go_ret
  exact ⟨rfl, rfl⟩
 ·have e : vDiv a b = wrap64 (a.tdiv b) := if_neg h
  have E : Hid (vDiv a b = wrap64 (a.tdiv b)) := e
  clear e
  have hb : (b == 0) = false := by simpa using h
  go_enter Tryz.func224, Tryz.ntmps224
  go_wp2
  go_ret
  exact ⟨by rw [E.out]; rfl, rfl⟩
theorem rest_any (a b : Int) (w : World) :
    Calls Tryz.prog 225 #[.int .i64 a, .int .i64 b] w fun e w' => e = .returned (.int .i64 (vMod a b)) ∧ w' = w := by
 by_cases h : b = 0
 ·subst h
  go_enter Tryz.func225, Tryz.ntmps225
  go_wp2
  go_ret
  exact ⟨rfl, rfl⟩
 ·have E : Hid (vMod a b = a.tmod b) := if_neg h
  have hb : (b == 0) = false := by simpa using h
  go_enter Tryz.func225, Tryz.ntmps225
  go_wp2
  go_ret
  exact ⟨by rw [E.out]; rfl, rfl⟩
set_option maxHeartbeats 400000 in
theorem eq_any (a b : Int) (w : World) :
    Calls Tryz.prog 226 #[.int .i64 a, .int .i64 b] w fun e w' => e = .returned (.int .i64 (yes (a == b))) ∧ w' = w := by
 go_enter Tryz.func226, Tryz.ntmps226
 go_wp2_with (go_at_call 220; refine (truth_any _ _).mono ?_; rintro e w' ⟨rfl, rfl⟩)
 go_ret
 exact ⟨rfl, rfl⟩
theorem ne_any (a b : Int) (w : World) :
    Calls Tryz.prog 227 #[.int .i64 a, .int .i64 b] w fun e w' => e = .returned (.int .i64 (yes (a != b))) ∧ w' = w := by
 go_enter Tryz.func227, Tryz.ntmps227
 go_wp2_with (go_at_call 220; refine (truth_any _ _).mono ?_; rintro e w' ⟨rfl, rfl⟩)
 go_ret
 exact ⟨rfl, rfl⟩
theorem lt_any (a b : Int) (w : World) :
    Calls Tryz.prog 228 #[.int .i64 a, .int .i64 b] w fun e w' => e = .returned (.int .i64 (yes (decide (a < b)))) ∧ w' = w := by
 go_enter Tryz.func228, Tryz.ntmps228
 go_wp2_with (go_at_call 220; refine (truth_any _ _).mono ?_; rintro e w' ⟨rfl, rfl⟩)
 go_ret
 exact ⟨rfl, rfl⟩
theorem le_any (a b : Int) (w : World) :
    Calls Tryz.prog 229 #[.int .i64 a, .int .i64 b] w fun e w' => e = .returned (.int .i64 (yes (decide (a ≤ b)))) ∧ w' = w := by
 go_enter Tryz.func229, Tryz.ntmps229
 go_wp2_with (go_at_call 220; refine (truth_any _ _).mono ?_; rintro e w' ⟨rfl, rfl⟩)
 go_ret
 exact ⟨rfl, rfl⟩
theorem and_any (a b : Int) (w : World) :
    Calls Tryz.prog 230 #[.int .i64 a, .int .i64 b] w fun e w' => e = .returned (.int .i64 (yes (a != 0 && b != 0))) ∧ w' = w := by
 by_cases h : a = 0
 ·subst h
  go_enter Tryz.func230, Tryz.ntmps230
  go_wp2_with (go_at_call 220; refine (truth_any _ _).mono ?_; rintro e w' ⟨rfl, rfl⟩)
  go_ret
  exact ⟨rfl, rfl⟩
 ·have ha : (a != 0) = true := by simpa using h
  go_enter Tryz.func230, Tryz.ntmps230
  go_wp2_with (go_at_call 220; refine (truth_any _ _).mono ?_; rintro e w' ⟨rfl, rfl⟩)
  go_ret
  exact ⟨by rw [ha]; rfl, rfl⟩
theorem or_any (a b : Int) (w : World) :
    Calls Tryz.prog 231 #[.int .i64 a, .int .i64 b] w fun e w' => e = .returned (.int .i64 (yes (a != 0 || b != 0))) ∧ w' = w := by
 by_cases h : a = 0
 ·subst h
  go_enter Tryz.func231, Tryz.ntmps231
  go_wp2_with (go_at_call 220; refine (truth_any _ _).mono ?_; rintro e w' ⟨rfl, rfl⟩)
  go_ret
  exact ⟨rfl, rfl⟩
 ·have ha : (a != 0) = true := by simpa using h
  go_enter Tryz.func231, Tryz.ntmps231
  go_wp2_with (go_at_call 220; refine (truth_any _ _).mono ?_; rintro e w' ⟨rfl, rfl⟩)
  go_ret
  exact ⟨by rw [ha]; rfl, rfl⟩
theorem one_any (c a : Int) (w : World) :
    Calls Tryz.prog 187 #[.int .i64 c, .int .i64 a] w fun e w' => e = .returned (.int .i64 (vOne c a)) ∧ w' = w := by
 by_cases h4 : c = 4
 ·subst h4
  go_enter Tryz.func187, Tryz.ntmps187
  go_wp2
  go_ret
  exact ⟨rfl, rfl⟩
 ·by_cases h5 : c = 5
  ·subst h5
   go_enter Tryz.func187, Tryz.ntmps187
   go_wp2_with (go_at_call 220; refine (truth_any _ _).mono ?_; rintro e w' ⟨rfl, rfl⟩)
   go_ret
   exact ⟨rfl, rfl⟩
  ·have E : Hid (vOne c a = 0) := by unfold Hid vOne; rw [if_neg h4, if_neg h5]
   have b4 : (c == 4) = false := by simpa using h4
   have b5 : (c == 5) = false := by simpa using h5
   go_enter Tryz.func187, Tryz.ntmps187
   go_wp2
   go_ret
   exact ⟨by rw [E.out]; rfl, rfl⟩
end Go.Proofs.YtpogmfliojcnjaaGreatDoor
namespace Go.Proofs.YtpogmfliojcnjaaGreatDoor
open Go.RowKit
theorem setRow_alloc (w : World) (a b : Array Value) (t : TypeId) : (w.alloc (.cells a t)).setRow w.heap.size b = w.alloc (.cells b t) := by
 unfold World.setRow World.alloc
 congr 1
 apply Array.ext
 ·simp
 ·intro k h1 h2
  simp only [Array.getElem_modify, Array.getElem_push]
  split
  ·rename_i hk; subst hk; simp
  ·rename_i hk; have : k < w.heap.size := by simp at h2; omega
   simp [this]
def asked : Array Value := #[.nilFunc, .nilFunc, .nilFunc, .nilFunc, .nilFunc, .nilFunc, .func (.func 221) #[] #[], .func (.func 222) #[] #[], .func (.func 223) #[] #[], .func (.func 224) #[] #[], .func (.func 225) #[] #[], .func (.func 226) #[] #[], .func (.func 227) #[] #[], .func (.func 228) #[] #[], .func (.func 229) #[] #[], .func (.func 230) #[] #[], .func (.func 231) #[] #[]]
theorem asked_one : (asked.all fun x => x.oneCell') = true := by kernel_rfl
theorem asked_info : (Tryz.prog.info? 286).map (·.size) = some asked.size := by kernel_rfl
theorem asked_cell (w : World) (j : Nat) (v : Value) (h : asked[j]? = some v) : (w.alloc (.cells asked 286)).cell? ⟨w.heap.size, j, none⟩ = some v := by
 have e := (MapKept.heap_alloc w (.cells asked 286)).1
 simp only [World.cell?, e]
 exact h
theorem neq_nil (k : Nat) (w : World) : (binOp BinOp.eql 285 (.func (.func k) #[] #[]) .nilFunc).run Tryz.prog w = .ok (.bool false) w := by kernel_rfl
theorem eq_nil (w : World) : (binOp BinOp.eql 285 .nilFunc .nilFunc).run Tryz.prog w = .ok (.bool true) w := by kernel_rfl
set_option maxHeartbeats 4000000 in
theorem two_func (c : Int) (k : Nat) (a b r : Int) (w : World) (h0 : 0 ≤ c) (h1 : c < 17) (hk : asked[c.toNat]? = some (.func (.func k) #[] #[]))
    (hkk : k = 221 ∨ k = 222 ∨ k = 223 ∨ k = 224 ∨ k = 225 ∨ k = 226 ∨ k = 227 ∨ k = 228 ∨ k = 229 ∨ k = 230 ∨ k = 231)
    (hcall : ∀ w, Calls Tryz.prog k #[.int .i64 a, .int .i64 b] w fun e w' => e = .returned (.int .i64 r) ∧ w' = w) :
    Calls Tryz.prog 188 #[.int .i64 c, .int .i64 a, .int .i64 b] w fun e w' => e = .returned (.int .i64 r) ∧ w' = w.alloc (.cells asked 286) := by
 have q0 := neq_nil
 have hc := asked_cell w c.toNat _ hk
 clear hk
 rcases hkk with rfl | rfl | rfl | rfl | rfl | rfl | rfl | rfl | rfl | rfl | rfl
 all_goals
  go_enter Tryz.func188, Tryz.ntmps188
  go_wp2_with (first | (refine wpList_store_row rfl 286 _ _ rfl w.heap.size asked rfl rfl 286 _ (MapKept.heap_alloc w _).1 asked_info rfl asked_one ?_; rw [setRow_alloc]) | (refine (hcall _).mono ?_; rintro e w' ⟨rfl, rfl⟩))
  go_ret
  exact ⟨rfl, rfl⟩
set_option maxHeartbeats 400000 in
theorem two_nil (c : Int) (a b : Int) (w : World) (h0 : 0 ≤ c) (h1 : c < 17) (hk : asked[c.toNat]? = some .nilFunc) :
    Calls Tryz.prog 188 #[.int .i64 c, .int .i64 a, .int .i64 b] w fun e w' => e = .returned (.int .i64 0) ∧ w' = w.alloc (.cells asked 286) := by
 have q1 := eq_nil
 have hc := asked_cell w c.toNat _ hk
 clear hk
 go_enter Tryz.func188, Tryz.ntmps188
 go_wp2_with (refine wpList_store_row rfl 286 _ _ rfl w.heap.size asked rfl rfl 286 _ (MapKept.heap_alloc w _).1 asked_info rfl asked_one ?_; rw [setRow_alloc])
 go_ret
 exact ⟨rfl, rfl⟩
set_option maxHeartbeats 400000 in
theorem two_low (c : Int) (a b : Int) (w : World) (h0 : c < 0) :
    Calls Tryz.prog 188 #[.int .i64 c, .int .i64 a, .int .i64 b] w fun e w' => e = .returned (.int .i64 0) ∧ w' = w.alloc (.cells asked 286) := by
 go_enter Tryz.func188, Tryz.ntmps188
 go_wp2_with (refine wpList_store_row rfl 286 _ _ rfl w.heap.size asked rfl rfl 286 _ (MapKept.heap_alloc w _).1 asked_info rfl asked_one ?_; rw [setRow_alloc])
 go_ret
 exact ⟨rfl, rfl⟩
set_option maxHeartbeats 400000 in
theorem two_high (c : Int) (a b : Int) (w : World) (h0 : 17 ≤ c) :
    Calls Tryz.prog 188 #[.int .i64 c, .int .i64 a, .int .i64 b] w fun e w' => e = .returned (.int .i64 0) ∧ w' = w.alloc (.cells asked 286) := by
 go_enter Tryz.func188, Tryz.ntmps188
 go_wp2_with (refine wpList_store_row rfl 286 _ _ rfl w.heap.size asked rfl rfl 286 _ (MapKept.heap_alloc w _).1 asked_info rfl asked_one ?_; rw [setRow_alloc])
 go_ret
 exact ⟨rfl, rfl⟩
end Go.Proofs.YtpogmfliojcnjaaGreatDoor
namespace Go.Proofs.YtpogmfliojcnjaaGreatDoor
open Go.RowKit
theorem vTwo_none {c : Int} (h : ∀ k : Int, 6 ≤ k → k ≤ 16 → c ≠ k) (a b : Int) : vTwo c a b = 0 := by
 unfold vTwo
 rw [if_neg (h 6 (by omega) (by omega)), if_neg (h 7 (by omega) (by omega)), if_neg (h 8 (by omega) (by omega)), if_neg (h 9 (by omega) (by omega)), if_neg (h 10 (by omega) (by omega)), if_neg (h 11 (by omega) (by omega)), if_neg (h 12 (by omega) (by omega)), if_neg (h 13 (by omega) (by omega)), if_neg (h 14 (by omega) (by omega)), if_neg (h 15 (by omega) (by omega)), if_neg (h 16 (by omega) (by omega))]
theorem asked_nil (c : Int) (h0 : 0 ≤ c) (h1 : c < 6) : asked[c.toNat]? = some .nilFunc := by
 have h : c = 0 ∨ c = 1 ∨ c = 2 ∨ c = 3 ∨ c = 4 ∨ c = 5 := by omega
 rcases h with rfl | rfl | rfl | rfl | rfl | rfl <;> rfl
theorem two_any (c a b : Int) (w : World) :
    Calls Tryz.prog 188 #[.int .i64 c, .int .i64 a, .int .i64 b] w fun e w' => e = .returned (.int .i64 (vTwo c a b)) ∧ w' = w.alloc (.cells asked 286) := by
 by_cases h0 : c < 0
 ·rw [vTwo_none (fun k hk _ => by omega)]
  exact two_low c a b w h0
 by_cases h1 : 17 ≤ c
 ·rw [vTwo_none (fun k _ hk => by omega)]
  exact two_high c a b w h1
 by_cases h2 : c < 6
 ·rw [vTwo_none (fun k hk _ => by omega)]
  exact two_nil c a b w (by omega) (by omega) (asked_nil c (by omega) h2)
 have h : c = 6 ∨ c = 7 ∨ c = 8 ∨ c = 9 ∨ c = 10 ∨ c = 11 ∨ c = 12 ∨ c = 13 ∨ c = 14 ∨ c = 15 ∨ c = 16 := by omega
 clear h0 h1 h2
 rcases h with rfl | rfl | rfl | rfl | rfl | rfl | rfl | rfl | rfl | rfl | rfl
 ·exact two_func 6 221 a b _ w (by omega) (by omega) rfl (by omega) (add_any a b)
 ·exact two_func 7 222 a b _ w (by omega) (by omega) rfl (by omega) (sub_any a b)
 ·exact two_func 8 223 a b _ w (by omega) (by omega) rfl (by omega) (mul_any a b)
 ·exact two_func 9 224 a b _ w (by omega) (by omega) rfl (by omega) (quotient_any a b)
 ·exact two_func 10 225 a b _ w (by omega) (by omega) rfl (by omega) (rest_any a b)
 ·exact two_func 11 226 a b _ w (by omega) (by omega) rfl (by omega) (eq_any a b)
 ·exact two_func 12 227 a b _ w (by omega) (by omega) rfl (by omega) (ne_any a b)
 ·exact two_func 13 228 a b _ w (by omega) (by omega) rfl (by omega) (lt_any a b)
 ·exact two_func 14 229 a b _ w (by omega) (by omega) rfl (by omega) (le_any a b)
 ·exact two_func 15 230 a b _ w (by omega) (by omega) rfl (by omega) (and_any a b)
 ·exact two_func 16 231 a b _ w (by omega) (by omega) rfl (by omega) (or_any a b)
end Go.Proofs.YtpogmfliojcnjaaGreatDoor
namespace Go.Proofs.YtpogmfliojcnjaaGreatDoor
open Go.RowKit Px
def NmOk : E → Prop
 | .nil => True
 | .node _ _ a l r => a.name.length ≤ maxLen ∧ NmOk l ∧ NmOk r
def LookOut (fb kb ck pb mb nm : Nat) (ns : List Str) (b : Bool) (w : World) (r : Ending) (w' : World) : Prop := ∃ x, r = .returned (.int .i64 x) ∧ Hid (Fr w.heap.size [fb] w w' ∧ LookAt w' fb kb ck pb mb nm ns b)
def EvOk (A : Nat → Prop) (fb kb ck pb mb nm : Nat) (ns : List Str) (e : E) : Prop := ∀ (w : World) (v : Value) (b : Bool), IsE A w e v → LookAt w fb kb ck pb mb nm ns b →
 Calls Tryz.prog 155 #[v, .agg #[lookV fb kb, lookV fb kb]] w (LookOut fb kb ck pb mb nm ns (b || strangeE ns e) w)
section
variable {A : Nat → Prop} {fb kb ck pb mb nm : Nat} {ns : List Str}
theorem frBelow' {w W w' : World} {X : List Nat} (h : Below w.heap.size w W) (k : Fr W.heap.size X W w') : Fr w.heap.size X w w' := (Fr.of_below h X).trans (k.mono h.size (fun _ hx _ => hx))
theorem eval_nil (w : World) (b : Bool) (h : LookAt w fb kb ck pb mb nm ns b) : Calls Tryz.prog 155 #[.pointer none, .agg #[lookV fb kb, lookV fb kb]] w (LookOut fb kb ck pb mb nm ns b w) := by
 have H : Hid (LookAt w fb kb ck pb mb nm ns b) := h
 clear h
 unfold lookV
 go_enter Tryz.func155, Tryz.ntmps155
 go_wp2_with fail
 go_ret
 exact ⟨_, rfl, Fr.of_below (ck_grown w _) _, H.out.below (ck_grown w _)⟩
set_option maxHeartbeats 1000000 in
theorem eval_num (w : World) (b : Bool) {g : Nat} {n : Int} {S : Value} {lv rv : Value} (hg : w.heap[g]? = some (.cells #[.int .i64 1, .int .i64 n, S, lv, rv] 132 (0, 0))) (h : LookAt w fb kb ck pb mb nm ns b) : Calls Tryz.prog 155 #[.pointer (some ⟨g, 0, none⟩), .agg #[lookV fb kb, lookV fb kb]] w (LookOut fb kb ck pb mb nm ns b w) := by
 have H : Hid (LookAt w fb kb ck pb mb nm ns b) := h
 have c0 := fun o => cell_row (ck_old (o' := o) hg) 0 (u := .int .i64 1) rfl
 have c1 := fun o => cell_row (ck_old (o' := o) hg) 1 (u := .int .i64 n) rfl
 clear h hg
 unfold lookV
 go_enter Tryz.func155, Tryz.ntmps155
 go_wp2_with fail
 go_ret
 exact ⟨_, rfl, Fr.of_below (ck_grown w _) _, H.out.below (ck_grown w _)⟩
set_option maxHeartbeats 2000000 in
theorem eval_name (w : World) (b : Bool) {g : Nat} {c n : Int} (hc : c = 2 ∨ c = 3) {s : Str} (hs : s.length ≤ maxLen) {lv rv : Value} (hg : w.heap[g]? = some (.cells #[.int .i64 c, .int .i64 n, sv s, lv, rv] 132 (0, 0))) (h : LookAt w fb kb ck pb mb nm ns b) : Calls Tryz.prog 155 #[.pointer (some ⟨g, 0, none⟩), .agg #[lookV fb kb, lookV fb kb]] w (LookOut fb kb ck pb mb nm ns (b || (fnd ns s).isNone) w) := by
 obtain ⟨O, hO⟩ : ∃ O, O = Obj.cells #[lookV fb kb, lookV fb kb] 219 := ⟨_, rfl⟩
 have hbO : Below w.heap.size w (w.alloc O) := ck_grown w O
 have hcall := ask_any ((h.below hbO).below (w' := (w.alloc O).drew) ((Below.refl _ _).drew)) hs
 have k0 : (w.alloc O).heap[w.heap.size]? = some (.cells #[lookV fb kb, lookV fb kb] 219 (0, 0)) := by rw [ck_new, hO]
 have e0 := cell_row k0 0 (u := lookV fb kb) rfl
 have e1 := cell_row k0 1 (u := lookV fb kb) rfl
 have c0 := cell_row (ck_old (o' := O) hg) 0 (u := .int .i64 c) rfl
 have c2 := cell_row (ck_old (o' := O) hg) 2 (u := sv s) rfl
 obtain ⟨b', hb'⟩ : ∃ b', b' = (b || (fnd ns s).isNone) := ⟨_, rfl⟩
 rw [← hb'] at hcall ⊢
 have HB : Hid (Below w.heap.size w (w.alloc O).drew) := hbO.drew
 generalize sv s = S at hcall c2
 unfold lookV at hO hcall e0 e1 ⊢
 rw [hO] at hcall e0 e1 c0 c2 HB
 clear h hg hb' hbO k0 hO hs
 rcases hc with rfl | rfl
 all_goals
  go_enter Tryz.func155, Tryz.ntmps155
  go_wp2_with fail
  go_region_with (refine hcall.mono ?_; rintro e w' ⟨rfl, hr⟩)
  all_goals
   go_wp2_with fail
   go_ret
   exact ⟨_, rfl, frBelow' HB.out hr.out.1, hr.out.2⟩
end
end Go.Proofs.YtpogmfliojcnjaaGreatDoor
namespace Go.Proofs.YtpogmfliojcnjaaGreatDoor
open Go.RowKit Px
section
variable {A : Nat → Prop} {fb kb ck pb mb nm : Nat} {ns : List Str}
theorem ck_keepE (hA : ∀ x, A x → x ≠ fb) {w w' : World} (hF : Fr w.heap.size [fb] w w') {e : E} {v : Value} (h : IsE A w e v) : IsE A w' e v :=
 h.carry (hF.keep fun x hx => by simpa using hA x hx)
theorem fr_on' {X : List Nat} {W wr w' : World} (h : Fr W.heap.size X W wr) (k : Fr wr.heap.size X wr w') : Fr W.heap.size X W w' := h.trans (k.mono h.size (fun _ hx _ => hx))
theorem fr_cells {w w' : World} (hF : Fr w.heap.size [fb] w w') {x : Nat} (hx : x ≠ fb) {o : Nat} {v : Value} (hc : w.cell? ⟨x, o, none⟩ = some v) : w'.cell? ⟨x, o, none⟩ = some v := by
 rw [hF.cell (p := ⟨x, o, none⟩) (World.block_lt_of_cell? w _ hc) (by simpa using hx)]; exact hc
set_option maxHeartbeats 4000000 in
theorem eval_one (hA : ∀ x, A x → x ≠ fb) (w : World) (b : Bool) {g : Nat} {c n : Int} (hc : c = 4 ∨ c = 5) {S : Value} {l : E} {lv rv : Value} (hgA : A g) (hg : w.heap[g]? = some (.cells #[.int .i64 c, .int .i64 n, S, lv, rv] 132 (0, 0))) (hl : IsE A w l lv) (ih : EvOk A fb kb ck pb mb nm ns l) (h : LookAt w fb kb ck pb mb nm ns b) : Calls Tryz.prog 155 #[.pointer (some ⟨g, 0, none⟩), .agg #[lookV fb kb, lookV fb kb]] w (LookOut fb kb ck pb mb nm ns (b || strangeE ns l) w) := by
 obtain ⟨O, hO⟩ : ∃ O, O = Obj.cells #[lookV fb kb, lookV fb kb] 219 := ⟨_, rfl⟩
 have hbO : Below w.heap.size w (w.alloc O) := ck_grown w O
 have hbD : Below w.heap.size w (w.alloc O).drew := hbO.drew
 have hcall := ih (w.alloc O).drew lv b (hl.carry fun x hx hlt => ⟨hx, hbD.block x hlt⟩) (h.below hbD)
 have hlf := lt_of_block h.found
 obtain ⟨p, rfl⟩ : ∃ p, lv = .pointer p := by
  cases l with
  | nil => exact ⟨none, hl⟩
  | node _ _ _ _ _ => obtain ⟨g', _, _, e, _⟩ := hl; exact ⟨_, e⟩
 have k0 : (w.alloc O).heap[w.heap.size]? = some (.cells #[lookV fb kb, lookV fb kb] 219 (0, 0)) := by rw [ck_new, hO]
 have e0 := cell_row k0 0 (u := lookV fb kb) rfl
 have e1 := cell_row k0 1 (u := lookV fb kb) rfl
 have c0 := cell_row (ck_old (o' := O) hg) 0 (u := .int .i64 c) rfl
 have c3 := cell_row (ck_old (o' := O) hg) 3 (u := .pointer p) rfl
 have HP : Hid (∀ w', Fr (w.alloc O).drew.heap.size [fb] (w.alloc O).drew w' → w'.cell? ⟨g, 0, none⟩ = some (.int .i64 c) ∧ w'.cell? ⟨g, 3, none⟩ = some (.pointer p) ∧ w'.cell? ⟨w.heap.size, 0, none⟩ = some (lookV fb kb) ∧ w'.cell? ⟨w.heap.size, 1, none⟩ = some (lookV fb kb)) := fun w' hF =>
  ⟨fr_cells hF (hA g hgA) c0, fr_cells hF (hA g hgA) c3, fr_cells hF (by omega) e0, fr_cells hF (by omega) e1⟩
 obtain ⟨b', hb'⟩ : ∃ b', b' = (b || strangeE ns l) := ⟨_, rfl⟩
 rw [← hb'] at hcall ⊢
 have HB : Hid (Below w.heap.size w (w.alloc O).drew) := hbD
 have hone := one_any
 unfold lookV at hO hcall e0 e1 HP ⊢
 unfold LookOut at hcall
 rw [hO] at hcall e0 e1 c0 c3 HB HP
 clear h hg hb' hbO hbD k0 hO hl ih hlf
 rcases hc with rfl | rfl
 ·go_enter Tryz.func155, Tryz.ntmps155
  go_wp2_with fail
  go_region_held3 (fun w' => w'.cell? ⟨g, 0, none⟩ = some (.int .i64 4) ∧ w'.cell? ⟨g, 3, none⟩ = some (.pointer p) ∧ w'.cell? ⟨w.heap.size, 0, none⟩ = some (.func (.func 216) #[] #[.pointer (some ⟨fb, 0, none⟩), .pointer (some ⟨kb, 0, none⟩)]) ∧ w'.cell? ⟨w.heap.size, 1, none⟩ = some (.func (.func 216) #[] #[.pointer (some ⟨fb, 0, none⟩), .pointer (some ⟨kb, 0, none⟩)])) (first | exact HP.out _ hr.out.1 | go_keep)
   (first
    | (go_at_call 155; refine hcall.mono ?_; rintro e w1 ⟨x, rfl, hr⟩)
    | (go_at_call 187; refine (hone _ _ _).mono ?_; rintro e w2 ⟨rfl, rfl⟩))
  all_goals
   go_wp2_with fail
   go_ret
   exact ⟨_, rfl, frBelow' HB.out hr.out.1, hr.out.2⟩
 ·go_enter Tryz.func155, Tryz.ntmps155
  go_wp2_with fail
  go_region_held3 (fun w' => w'.cell? ⟨g, 0, none⟩ = some (.int .i64 5) ∧ w'.cell? ⟨g, 3, none⟩ = some (.pointer p) ∧ w'.cell? ⟨w.heap.size, 0, none⟩ = some (.func (.func 216) #[] #[.pointer (some ⟨fb, 0, none⟩), .pointer (some ⟨kb, 0, none⟩)]) ∧ w'.cell? ⟨w.heap.size, 1, none⟩ = some (.func (.func 216) #[] #[.pointer (some ⟨fb, 0, none⟩), .pointer (some ⟨kb, 0, none⟩)])) (first | exact HP.out _ hr.out.1 | go_keep)
   (first
    | (go_at_call 155; refine hcall.mono ?_; rintro e w1 ⟨x, rfl, hr⟩)
    | (go_at_call 187; refine (hone _ _ _).mono ?_; rintro e w2 ⟨rfl, rfl⟩))
  all_goals
   go_wp2_with fail
   go_ret
   exact ⟨_, rfl, frBelow' HB.out hr.out.1, hr.out.2⟩
set_option maxHeartbeats 8000000 in
theorem eval_two (hA : ∀ x, A x → x ≠ fb) (w : World) (b : Bool) {g : Nat} {c n : Int} (hc : c ≠ 1 ∧ c ≠ 2 ∧ c ≠ 3 ∧ c ≠ 4 ∧ c ≠ 5) {S : Value} {l r : E} {lv rv : Value} (hgA : A g) (hg : w.heap[g]? = some (.cells #[.int .i64 c, .int .i64 n, S, lv, rv] 132 (0, 0))) (hl : IsE A w l lv) (hr : IsE A w r rv) (ihl : EvOk A fb kb ck pb mb nm ns l) (ihr : EvOk A fb kb ck pb mb nm ns r) (h : LookAt w fb kb ck pb mb nm ns b) : Calls Tryz.prog 155 #[.pointer (some ⟨g, 0, none⟩), .agg #[lookV fb kb, lookV fb kb]] w (LookOut fb kb ck pb mb nm ns (b || (strangeE ns l || strangeE ns r)) w) := by
 obtain ⟨O, hO⟩ : ∃ O, O = Obj.cells #[lookV fb kb, lookV fb kb] 219 := ⟨_, rfl⟩
 have hbO : Below w.heap.size w (w.alloc O) := ck_grown w O
 have hbD : Below w.heap.size w (w.alloc O).drew := hbO.drew
 have hcall := ihl (w.alloc O).drew lv b (hl.carry fun x hx hlt => ⟨hx, hbD.block x hlt⟩) (h.below hbD)
 have HR : Hid (IsE A (w.alloc O).drew r rv ∧ EvOk A fb kb ck pb mb nm ns r) := ⟨hr.carry fun x hx hlt => ⟨hx, hbD.block x hlt⟩, ihr⟩
 have hlf := lt_of_block h.found
 obtain ⟨p, rfl⟩ : ∃ p, lv = .pointer p := by
  cases l with
  | nil => exact ⟨none, hl⟩
  | node _ _ _ _ _ => obtain ⟨g', _, _, e, _⟩ := hl; exact ⟨_, e⟩
 obtain ⟨q, rfl⟩ : ∃ q, rv = .pointer q := by
  cases r with
  | nil => exact ⟨none, hr⟩
  | node _ _ _ _ _ => obtain ⟨g', _, _, e, _⟩ := hr; exact ⟨_, e⟩
 have k0 : (w.alloc O).heap[w.heap.size]? = some (.cells #[lookV fb kb, lookV fb kb] 219 (0, 0)) := by rw [ck_new, hO]
 have e0 := cell_row k0 0 (u := lookV fb kb) rfl
 have e1 := cell_row k0 1 (u := lookV fb kb) rfl
 have c0 := cell_row (ck_old (o' := O) hg) 0 (u := .int .i64 c) rfl
 have c3 := cell_row (ck_old (o' := O) hg) 3 (u := .pointer p) rfl
 have c4 := cell_row (ck_old (o' := O) hg) 4 (u := .pointer q) rfl
 have HP : Hid (∀ w', Fr (w.alloc O).drew.heap.size [fb] (w.alloc O).drew w' → w'.cell? ⟨g, 0, none⟩ = some (.int .i64 c) ∧ w'.cell? ⟨g, 4, none⟩ = some (.pointer q) ∧ w'.cell? ⟨w.heap.size, 0, none⟩ = some (lookV fb kb) ∧ w'.cell? ⟨w.heap.size, 1, none⟩ = some (lookV fb kb)) := fun w' hF =>
  ⟨fr_cells hF (hA g hgA) c0, fr_cells hF (hA g hgA) c4, fr_cells hF (by omega) e0, fr_cells hF (by omega) e1⟩
 obtain ⟨b1, hb1⟩ : ∃ b1, b1 = (b || strangeE ns l) := ⟨_, rfl⟩
 obtain ⟨b2, hb2⟩ : ∃ b2, b2 = (b || (strangeE ns l || strangeE ns r)) := ⟨_, rfl⟩
 have HB2 : Hid (b2 = (b1 || strangeE ns r)) := by rw [Hid, hb2, hb1, Bool.or_assoc]
 rw [← hb1] at hcall
 rw [← hb2]
 have HB : Hid (Below w.heap.size w (w.alloc O).drew) := hbD
 have HKA : Hid (∀ x, A x → x ≠ fb) := hA
 obtain ⟨c1', c2', c3', c4', c5'⟩ := hc
 have t1 : (c == 1) = false := by simpa using c1'
 have t2 : (c == 2) = false := by simpa using c2'
 have t3 : (c == 3) = false := by simpa using c3'
 have t4 : (c == 4) = false := by simpa using c4'
 have t5 : (c == 5) = false := by simpa using c5'
 have htwo := two_any
 unfold LookOut at hcall
 unfold lookV at hO hcall e0 e1 HP ⊢
 rw [hO] at hcall e0 e1 c0 c3 HB HP HR
 clear h hg hb1 hb2 hbO hbD k0 hO hl hr ihl ihr hlf c4 hA hgA
 go_enter Tryz.func155, Tryz.ntmps155
 go_upto_region 13 with fail
 clear t1 t2 t3 t4 t5 c1' c2' c3' c4' c5'
 go_cut [5] (fun s5 wx => ∃ x, s5 = .int .i64 x ∧ Hid (Fr (w.alloc (.cells #[.func (.func 216) #[] #[.pointer (some ⟨fb, 0, none⟩), .pointer (some ⟨kb, 0, none⟩)], .func (.func 216) #[] #[.pointer (some ⟨fb, 0, none⟩), .pointer (some ⟨kb, 0, none⟩)]] 219)).drew.heap.size [fb] (w.alloc (.cells #[.func (.func 216) #[] #[.pointer (some ⟨fb, 0, none⟩), .pointer (some ⟨kb, 0, none⟩)], .func (.func 216) #[] #[.pointer (some ⟨fb, 0, none⟩), .pointer (some ⟨kb, 0, none⟩)]] 219)).drew wx ∧ LookAt wx fb kb ck pb mb nm ns b1))
 case first =>
  go_region_with (refine hcall.mono ?_; rintro e w' ⟨x, rfl, hr⟩)
  all_goals
   go_wp2_with fail
   go_meet
   case rel => exact ⟨x, rfl, hr.out⟩
 case rest =>
  obtain ⟨x, rfl, hx⟩ := hcut
  clear hcall e0 e1 c0 c3
  obtain ⟨d0, d4, f0, f1⟩ := HP.out wc hx.out.1
  have hFd : Fr (w.alloc (.cells #[.func (.func 216) #[] #[.pointer (some ⟨fb, 0, none⟩), .pointer (some ⟨kb, 0, none⟩)], .func (.func 216) #[] #[.pointer (some ⟨fb, 0, none⟩), .pointer (some ⟨kb, 0, none⟩)]] 219)).drew.heap.size [fb] (w.alloc (.cells #[.func (.func 216) #[] #[.pointer (some ⟨fb, 0, none⟩), .pointer (some ⟨kb, 0, none⟩)], .func (.func 216) #[] #[.pointer (some ⟨fb, 0, none⟩), .pointer (some ⟨kb, 0, none⟩)]] 219)).drew wc.drew := hx.out.1.drew
  have hcall := HR.out.2 wc.drew (.pointer q) b1 (ck_keepE HKA.out hFd HR.out.1) (hx.out.2.below ((Below.refl _ _).drew))
  rw [← HB2.out] at hcall
  unfold LookOut at hcall
  unfold lookV at hcall
  have HFD : Hid (Fr (w.alloc (.cells #[.func (.func 216) #[] #[.pointer (some ⟨fb, 0, none⟩), .pointer (some ⟨kb, 0, none⟩)], .func (.func 216) #[] #[.pointer (some ⟨fb, 0, none⟩), .pointer (some ⟨kb, 0, none⟩)]] 219)).drew.heap.size [fb] (w.alloc (.cells #[.func (.func 216) #[] #[.pointer (some ⟨fb, 0, none⟩), .pointer (some ⟨kb, 0, none⟩)], .func (.func 216) #[] #[.pointer (some ⟨fb, 0, none⟩), .pointer (some ⟨kb, 0, none⟩)]] 219)).drew wc.drew) := hFd
  clear hFd
  go_upto_region 14 with fail
  go_cut [6] (fun s6 wx => ∃ x, s6 = .int .i64 x ∧ Hid (Fr w.heap.size [fb] w wx ∧ LookAt wx fb kb ck pb mb nm ns b2 ∧ wx.cell? ⟨g, 0, none⟩ = some (.int .i64 c)))
  case first =>
   go_region_with (refine hcall.mono ?_; rintro e w' ⟨y, rfl, hr⟩)
   all_goals
    go_wp2_with fail
    go_meet
    case rel =>
     have hF2 := fr_on' HFD.out hr.out.1
     exact ⟨y, rfl, frBelow' HB.out hF2, hr.out.2, (HP.out _ hF2).1⟩
  case rest =>
   obtain ⟨y, rfl, hy⟩ := hcut
   have g0 := hy.out.2.2
   clear hcall d0 d4 f0 f1
   go_wp2_with (refine (htwo _ _ _ _).mono ?_; rintro e w' ⟨rfl, rfl⟩)
   go_ret
   exact ⟨_, rfl, hy.out.1.alloc hy.out.1.size _, hy.out.2.1.below (ck_grown _ _)⟩
theorem eval_all (hA : ∀ x, A x → x ≠ fb) : ∀ e, NmOk e → EvOk A fb kb ck pb mb nm ns e := by
 intro e
 induction e with
 | nil =>
  intro _ w v b hv h
  obtain rfl : v = .pointer none := hv
  rw [strangeE, Bool.or_false]
  exact eval_nil w b h
 | node b0 o a l r ihl ihr =>
  intro hn w v b hv h
  obtain ⟨n1, n2, n3⟩ := hn
  obtain ⟨g, lv, rv, rfl, hga, hg, hl, hr⟩ := hv
  rw [strangeE]
  by_cases c1 : a.code = 1
  ·rw [if_pos c1, Bool.or_false]
   rw [c1] at hg
   exact eval_num w b hg h
  ·rw [if_neg c1]
   by_cases c2 : a.code = 2 ∨ a.code = 3
   ·rw [if_pos c2]
    exact eval_name w b (by omega) n1 hg h
   ·rw [if_neg c2]
    by_cases c4 : a.code = 4 ∨ a.code = 5
    ·rw [if_pos c4]
     exact eval_one hA w b (by omega) hga hg hl (ihl n2) h
    ·rw [if_neg c4]
     exact eval_two hA w b ⟨by omega, by omega, by omega, by omega, by omega⟩ hga hg hl hr (ihl n2) (ihr n3) h
end
end Go.Proofs.YtpogmfliojcnjaaGreatDoor
namespace Go.Proofs.YtpogmfliojcnjaaGreatDoor
open Go.RowKit Px
structure CkAt (w : World) (ck pb mb nm gv : Nat) (adv : Option Addr) (capv : Nat) (vs : List Decl) (n : Nat) : Prop where
 box : w.heap[ck]? = some (.cells #[.slice adv vs.length capv, .func (.func 108) #[] #[.pointer (some ⟨pb, 0, none⟩)], .int .i64 (n : Int)] 127 (0, 0))
 hpb : w.heap[pb]? = some (.cells #[.map (some mb)] 96 (0, 0))
 hmb : MapF w mb nm (fnd (vnames vs))
 hv : 0 < vs.length → adv = some ⟨gv, 0, none⟩ ∧ gv < w.heap.size
 hk : ∀ i d, vs[i]? = some d → w.cell? ⟨gv, i * 3, none⟩ = some (.int .i64 (d.kind : Int))
 ne : ck ≠ pb ∧ ck ≠ mb ∧ (0 < vs.length → ck ≠ gv)
section
variable {ck pb mb nm gv : Nat} {adv : Option Addr} {capv : Nat} {vs : List Decl}
theorem CkAt.below {w w' : World} {n : Nat} (h : CkAt w ck pb mb nm gv adv capv vs n) (hb : Below w.heap.size w w') : CkAt w' ck pb mb nm gv adv capv vs n :=
 ⟨ck_block hb h.box, ck_block hb h.hpb, h.hmb.below hb, fun hp => ⟨(h.hv hp).1, Nat.lt_of_lt_of_le (h.hv hp).2 hb.size⟩, fun i d hi => ck_cell hb (h.hk i d hi), h.ne⟩
set_option maxRecDepth 100000 in
set_option maxHeartbeats 1000000 in
theorem strange_any {w : World} {n : Nat} (h : CkAt w ck pb mb nm gv adv capv vs n) {e : E} {v : Value} {A : Nat → Prop} (he : IsE A w e v) (hN : NmOk e) :
    Calls Tryz.prog 183 #[.pointer (some ⟨ck, 0, none⟩), v] w fun r w' => r = .returned (.bool (strangeE (vnames vs) e)) ∧ Below w.heap.size w w' := by
 have hmf : ∀ (fn : Fn) (first cap : Array Value) (w : World), (Instr.makeFunc fn first cap).run Tryz.prog w = .ok (.func fn first cap) w := fun _ _ _ _ => rfl
 obtain ⟨p, rfl⟩ : ∃ p, v = .pointer p := by
  cases e with
  | nil => exact ⟨none, he⟩
  | node _ _ _ _ _ => obtain ⟨g', _, _, e, _⟩ := he; exact ⟨_, e⟩
 have he' : IsE (· < w.heap.size) w e (.pointer p) := he.carry fun x _ hlt => ⟨hlt, rfl⟩
 obtain ⟨W, hW⟩ : ∃ W, W = (w.alloc (.cells #[.pointer (some ⟨ck, 0, none⟩)] 185)).alloc (.cells #[.bool false] 4) := ⟨_, rfl⟩
 have hb1 : Below w.heap.size w W := by rw [hW]; exact ((Below.refl _ _).alloc (Nat.le_refl _) _).alloc (by simp) _
 have h1 : W.heap[w.heap.size]? = some (.cells #[.pointer (some ⟨ck, 0, none⟩)] 185 (0, 0)) := by rw [hW]; exact ck_old (ck_new w _)
 have h2 : W.heap[w.heap.size + 1]? = some (.cells #[.bool false] 4 (0, 0)) := by
  rw [hW]
  have e : w.heap.size + 1 = (w.alloc (.cells #[.pointer (some ⟨ck, 0, none⟩)] 185)).heap.size := by simp
  rw [e]; exact ck_new _ _
 have l1 := lt_of_block h.box
 have l2 := lt_of_block h.hpb
 have l3 := h.hmb.lt
 have hL : LookAt W (w.heap.size + 1) w.heap.size ck pb mb nm (vnames vs) false := ⟨h2, cell_row h1 0 rfl, ck_cell hb1 (cell_row h.box 1 rfl), ck_block hb1 h.hpb, h.hmb.below hb1, by omega⟩
 have hcall := eval_all (A := (· < w.heap.size)) (fb := w.heap.size + 1) (kb := w.heap.size) (fun x hx e => by have : x < w.heap.size := hx; omega) e hN W (.pointer p) false (he'.carry fun x hx hlt => ⟨hx, hb1.block x hx⟩) hL
 rw [Bool.false_or] at hcall
 unfold LookOut at hcall
 unfold lookV at hcall
 have HB : Hid (Below w.heap.size w W) := hb1
 rw [hW] at hcall HB
 clear h he he' hW hb1 h1 h2 l1 l2 l3 hL
 go_enter Tryz.func183, Tryz.ntmps183
 go_wp2_with (refine hcall.mono ?_; rintro e w' ⟨x, rfl, hr⟩; have cf := cell_row hr.out.2.found 0 (u := .bool (strangeE (vnames vs) e)) rfl)
 go_ret
 refine ⟨rfl, HB.out.trans ?_⟩
 exact (hr.out.1.mono HB.out.size (X' := []) (fun x hx hl => by simp at hx; omega)).below
end
end Go.Proofs.YtpogmfliojcnjaaGreatDoor
