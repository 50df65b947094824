/- The program's look at an expression's names: Eval, with a closure that writes down what it found. -/
import Derived.Test.YtobamalnbjbmiaaGreatDoorQCo
import Derived.Defers
import Derived.Recover
import Derived.RowKit
import Derived.IntWalk
import Derived.Laws.Bits64
import Derived.Test.YtobamalnbjbmiaaGreatDoorProg
import Derived.WalkKit
import Derived.WalkSpells
import Derived.WalkLawsBesides
import Derived.Laws.EntriesVeiled
import Derived.Deep.Cut
namespace Go.Proofs.YtobamalnbjbmiaaGreatDoor
open Go.RowKit Px

/-- the closure that looks for a name, and writes down whether one was no variable -/
def lookV (fb kb : Nat) : Value := .func (.func 206) #[] #[.pointer (some ⟨fb, 0, none⟩), .pointer (some ⟨kb, 0, none⟩)]
/-- what it stands on -/
structure LookAt (w : World) (fb kb ck pb mb nm : Nat) (ns : List Str) (b : Bool) : Prop where
  found : w.heap[fb]? = some (.cells #[.bool b] 4 (0, 0))
  hkb : w.cell? ⟨kb, 0, none⟩ = some (.pointer (some ⟨ck, 0, none⟩))
  hck : w.cell? ⟨ck, 1, none⟩ = some (.func (.func 92) #[] #[.pointer (some ⟨pb, 0, none⟩)])
  hpb : w.heap[pb]? = some (.cells #[.map (some mb)] 129 (0, 0))
  hmb : MapF w mb nm (fnd ns)
  ne : fb ≠ kb ∧ fb ≠ ck ∧ fb ≠ pb ∧ fb ≠ mb
theorem LookAt.fr {w w' : World} {fb kb ck pb mb nm : Nat} {ns : List Str} {b b' : Bool} (h : LookAt w fb kb ck pb mb nm ns b) (hF : Fr w.heap.size [fb] w w') (hf : w'.heap[fb]? = some (.cells #[.bool b'] 4 (0, 0))) : LookAt w' fb kb ck pb mb nm ns b' := by
  obtain ⟨e1, e2, e3, e4⟩ := h.ne
  have hc : ∀ {x o : Nat} {v : Value}, fb ≠ x → w.cell? ⟨x, o, none⟩ = some v → w'.cell? ⟨x, o, none⟩ = some v := fun {x o v} hb hv => by
    rw [hF.cell (p := ⟨x, o, none⟩) (World.block_lt_of_cell? w _ hv) (by simpa using Ne.symm hb)]; exact hv
  exact ⟨hf, hc e1 h.hkb, hc e2 h.hck, by rw [hF.block pb (lt_of_block h.hpb) (by simpa using Ne.symm e3)]; exact h.hpb, h.hmb.keep (hF.block mb h.hmb.lt (by simpa using Ne.symm e4)), h.ne⟩
theorem LookAt.below {w w' : World} {fb kb ck pb mb nm : Nat} {ns : List Str} {b : Bool} (h : LookAt w fb kb ck pb mb nm ns b) (hb : Below w.heap.size w w') : LookAt w' fb kb ck pb mb nm ns b :=
  h.fr (Fr.of_below hb _) (ck_block hb h.found)

set_option maxRecDepth 100000 in
theorem look_any {w : World} {fb kb ck pb mb nm : Nat} {ns : List Str} {b : Bool} {s : Str} (h : LookAt w fb kb ck pb mb nm ns b) (hs : s.length ≤ maxLen) :
    Calls Tryz.prog 206 #[sv s, .pointer (some ⟨fb, 0, none⟩), .pointer (some ⟨kb, 0, none⟩)] w fun e w' => e = .returned (.int .i64 0) ∧ w' = w.setCell ⟨fb, 0, none⟩ (.bool (b || (fnd ns s).isNone)) := by
  have c0 := cell_row h.found 0 (u := .bool b) rfl
  have z0 := ck_frozen h.found 0
  have c1 := h.hkb
  have c2 := h.hck
  have hcall := find_any h.hpb h.hmb hs
  clear h
  generalize sv s = S at hcall ⊢
  cases b with
  | true =>
    go_enter Tryz.func206, Tryz.ntmps206
    go_wp2_with fail
    go_ret
    exact ⟨rfl, rfl⟩
  | false =>
    cases hf : fnd ns s with
    | none =>
      have e : fndI ns s = -1 := by unfold fndI; rw [hf]
      rw [e] at hcall
      clear e hf
      go_enter Tryz.func206, Tryz.ntmps206
      go_wp2_with (go_at_call 92; refine hcall.mono ?_; rintro e w' ⟨rfl, rfl⟩)
      go_ret
      exact ⟨rfl, rfl⟩
    | some i =>
      have e : fndI ns s = (i : Int) := by unfold fndI; rw [hf]
      rw [e] at hcall
      have hi : ¬ (i : Int) < 0 := by omega
      clear e hf
      go_enter Tryz.func206, Tryz.ntmps206
      go_wp2_with (go_at_call 92; refine hcall.mono ?_; rintro e w' ⟨rfl, rfl⟩)
      go_ret
      exact ⟨rfl, rfl⟩

theorem ck_catch (p : Addr) (w : World) :
    CallsD Tryz.prog 237 #[.pointer (some p)] .returning w fun e u' w' => e = .returned (.tuple #[]) ∧ u' = .returning ∧ w' = w := by
  refine callsD_of_wpS Tryz.func237 rfl fun c₀ cs hu => ?_
  apply wpS_seq
  apply wpS_region
  simp [wpOpsS, go_sem, recoverD, hu, Tryz.ntmps237, Exit.thenS]
  refine wpS_cond (t := false) (by simp [Act.eval, Array.replicate]) ?_
  simp only [Bool.false_eq_true, if_false]
  refine wpS_of_wp (wp_skip ?_)
  cases c₀
  simp_all [bodyPostS, results, Tryz.results237]
theorem ck_notnil (x y : Value) (w : World) : (binOp BinOp.eql 255 (.func (.func 206) #[] #[x, y]) .nilFunc).run Tryz.prog w = .ok (.bool false) w := by kernel_rfl

theorem ask_any {w : World} {fb kb ck pb mb nm : Nat} {ns : List Str} {b : Bool} {s : Str} (h : LookAt w fb kb ck pb mb nm ns b) (hs : s.length ≤ maxLen) :
    Calls Tryz.prog 209 #[lookV fb kb, sv s] w fun e w' => e = .returned (.int .i64 0) ∧ Hid (Fr w.heap.size [fb] w w' ∧ LookAt w' fb kb ck pb mb nm ns (b || (fnd ns s).isNone)) := by
  have hmf : ∀ (fn : Fn) (first cap : Array Value) (w : World), (Instr.makeFunc fn first cap).run Tryz.prog w = .ok (.func fn first cap) w := fun _ _ _ _ => rfl
  have q0 := ck_notnil
  have HL : Hid (LookAt w fb kb ck pb mb nm ns b) := h
  have hcall := look_any (h.below (ck_grown w (.cells #[.int .i64 0] 2))) hs
  have hlt := lt_of_block h.found
  clear h
  unfold lookV
  obtain ⟨b', hb'⟩ : ∃ b', b' = (b || (fnd ns s).isNone) := ⟨_, rfl⟩
  rw [← hb'] at hcall ⊢
  clear hb'
  generalize sv s = S at hcall ⊢
  go_enter_defers Tryz.func209, Tryz.ntmps209
  go_wp2_with (refine hcall.mono ?_; rintro e w' ⟨rfl, rfl⟩)
  refine leaves_cons (f := 237) (args := #[.pointer (some ⟨w.heap.size, 0, none⟩)]) (by simp) (by simp [go_sem]) ?_
  refine (ck_catch ⟨w.heap.size, 0, none⟩ _).mono ?_
  rintro e u' w'' ⟨rfl, rfl, rfl⟩
  have hF : Fr w.heap.size [fb] w ((w.setCell ⟨fb, 0, none⟩ (.bool b')).alloc (.cells #[.int .i64 0] 2)) := ((Fr.refl _ _ _).setCell (.inr (by simp)) _).alloc (by simp [World.setCell]) _
  have hfd : ((w.setCell ⟨fb, 0, none⟩ (.bool b')).alloc (.cells #[.int .i64 0] 2)).heap[fb]? = some (.cells #[.bool b'] 4 (0, 0)) := ck_old (ck_set (l := [.bool b]) HL.out.found 0 (.bool b'))
  have hfin : Hid (Fr w.heap.size [fb] w ((w.setCell ⟨fb, 0, none⟩ (.bool b')).alloc (.cells #[.int .i64 0] 2)) ∧ LookAt ((w.setCell ⟨fb, 0, none⟩ (.bool b')).alloc (.cells #[.int .i64 0] 2)) fb kb ck pb mb nm ns b') := ⟨hF, HL.out.fr hF hfd⟩
  simp [Leaves, settle, results, Tryz.results209, go_sem, World.setCell]
  exact hfin
end Go.Proofs.YtobamalnbjbmiaaGreatDoor
/-
  What numbers come to, as plain integers: the functions that the program's package value and the document's own answer are both held against. No program in sight.
-/
namespace Go.Proofs.YtobamalnbjbmiaaGreatDoor
open Go.RowKit

def yes (b : Bool) : Int := if b then 1 else 0

def vOne (c a : Int) : Int := if c = 4 then wrap64 (-a) else if c = 5 then yes (a == 0) else 0

def vDiv (a b : Int) : Int := if b = 0 then 0 else wrap64 (a.tdiv b)
def vMod (a b : Int) : Int := if b = 0 then 0 else a.tmod b

def vTwo (c a b : Int) : Int :=
  if c = 6 then wrap64 (a + b) else
  if c = 7 then wrap64 (a - b) else
  if c = 8 then wrap64 (a * b) else
  if c = 9 then vDiv a b else
  if c = 10 then vMod a b else
  if c = 11 then yes (a == b) else
  if c = 12 then yes (a != b) else
  if c = 13 then yes (decide (a < b)) else
  if c = 14 then yes (decide (a ≤ b)) else
  if c = 15 then yes (a != 0 && b != 0) else
  if c = 16 then yes (a != 0 || b != 0) else 0

def vPick (a b c : Int) : Int := if a = 0 then c else b

/-! ### wraps -/
theorem wrap64_congr {x y : Int} (h : x % 18446744073709551616 = y % 18446744073709551616) : wrap64 x = wrap64 y := by
  unfold wrap64; omega

theorem wrap64_mod (x : Int) : wrap64 x % 18446744073709551616 = x % 18446744073709551616 := by
  unfold wrap64; omega

theorem wrap64_lo (x : Int) : -9223372036854775808 ≤ wrap64 x ∧ wrap64 x ≤ 9223372036854775807 := by
  unfold wrap64; omega

theorem wrap64_add (x y : Int) : wrap64 (wrap64 x + wrap64 y) = wrap64 (x + y) := by
  apply wrap64_congr
  rw [Int.add_emod, wrap64_mod, wrap64_mod, ← Int.add_emod]

theorem wrap64_mulL (x y : Int) : wrap64 (wrap64 x * y) = wrap64 (x * y) := by
  apply wrap64_congr
  rw [Int.mul_emod, wrap64_mod, ← Int.mul_emod]

theorem wrap64_mulR (x y : Int) : wrap64 (x * wrap64 y) = wrap64 (x * y) := by
  rw [Int.mul_comm, wrap64_mulL, Int.mul_comm]

theorem wrap64_subR (x y : Int) : wrap64 (x - wrap64 y) = wrap64 (x - y) := by
  unfold wrap64; omega

theorem wrap64_neg (x : Int) : wrap64 (-wrap64 x) = wrap64 (-x) := by
  unfold wrap64; omega

/-! ### sums of 64 bits without a sign -/
theorem u_add (a b : Int) : wrap64 (IntKind.u64.wrap (IntKind.u64.wrap a + IntKind.u64.wrap b)) = wrap64 (a + b) := by
  rw [IntKind.wrap_u64, IntKind.wrap_u64, IntKind.wrap_u64]; unfold wrap64; omega

theorem u_sub (a b : Int) : wrap64 (IntKind.u64.wrap (IntKind.u64.wrap a - IntKind.u64.wrap b)) = wrap64 (a - b) := by
  rw [IntKind.wrap_u64, IntKind.wrap_u64, IntKind.wrap_u64]; unfold wrap64; omega

theorem u_mul (a b : Int) : wrap64 (IntKind.u64.wrap (IntKind.u64.wrap a * IntKind.u64.wrap b)) = wrap64 (a * b) := by
  rw [IntKind.wrap_u64, IntKind.wrap_u64, IntKind.wrap_u64]
  apply wrap64_congr
  rw [Int.emod_emod_of_dvd _ (Int.dvd_refl _), ← Int.mul_emod]

/-! ### quotients by their sizes -/
theorem size_quo (a b : Int) (ha : -9223372036854775808 ≤ a ∧ a ≤ 9223372036854775807) :
    IntKind.u64.wrap ((a.natAbs : Int) / (b.natAbs : Int)) = ((a.natAbs / b.natAbs : Nat) : Int) := by
  have h := Nat.div_le_self a.natAbs b.natAbs
  rw [IntKind.wrap_u64, ← Int.natCast_ediv]
  generalize a.natAbs / b.natAbs = q at h ⊢
  omega

theorem tdiv_same (a b : Int) (h : (decide (a < 0)) = decide (b < 0)) : a.tdiv b = ((a.natAbs / b.natAbs : Nat) : Int) := by
  by_cases h1 : a < 0
  · have h2 : b < 0 := by simpa [h1] using h
    obtain ⟨x, rfl⟩ : ∃ x : Nat, a = -(x : Int) := ⟨a.natAbs, by omega⟩
    obtain ⟨y, rfl⟩ : ∃ y : Nat, b = -(y : Int) := ⟨b.natAbs, by omega⟩
    rw [Int.neg_tdiv, Int.tdiv_neg, Int.neg_neg, Int.natAbs_neg, Int.natAbs_neg, Int.natAbs_natCast, Int.natAbs_natCast, Int.ofNat_tdiv]
  · have h2 : ¬ b < 0 := by simpa [h1] using h
    obtain ⟨x, rfl⟩ : ∃ x : Nat, a = (x : Int) := ⟨a.natAbs, by omega⟩
    obtain ⟨y, rfl⟩ : ∃ y : Nat, b = (y : Int) := ⟨b.natAbs, by omega⟩
    rw [Int.natAbs_natCast, Int.natAbs_natCast, Int.ofNat_tdiv]

theorem tdiv_other (a b : Int) (h : (decide (a < 0)) ≠ decide (b < 0)) : a.tdiv b = -((a.natAbs / b.natAbs : Nat) : Int) := by
  by_cases h1 : a < 0
  · have h2 : ¬ b < 0 := by simpa [h1] using h
    obtain ⟨x, rfl⟩ : ∃ x : Nat, a = -(x : Int) := ⟨a.natAbs, by omega⟩
    obtain ⟨y, rfl⟩ : ∃ y : Nat, b = (y : Int) := ⟨b.natAbs, by omega⟩
    rw [Int.neg_tdiv, Int.natAbs_neg, Int.natAbs_natCast, Int.natAbs_natCast, Int.ofNat_tdiv]
  · have h2 : b < 0 := by simpa [h1] using h
    obtain ⟨x, rfl⟩ : ∃ x : Nat, a = (x : Int) := ⟨a.natAbs, by omega⟩
    obtain ⟨y, rfl⟩ : ∃ y : Nat, b = -(y : Int) := ⟨b.natAbs, by omega⟩
    rw [Int.tdiv_neg, Int.natAbs_neg, Int.natAbs_natCast, Int.natAbs_natCast, Int.ofNat_tdiv]

theorem tmod_small (a b : Int) (hb : -9223372036854775808 ≤ b ∧ b ≤ 9223372036854775807) (h : ¬ b = 0) :
    -9223372036854775808 ≤ a.tmod b ∧ a.tmod b ≤ 9223372036854775807 := by
  have h1 : (a.tmod b).natAbs = a.natAbs % b.natAbs := Int.natAbs_tmod a b
  have h2 := Nat.mod_lt a.natAbs (show 0 < b.natAbs by omega)
  omega

theorem left_is (a b : Int) (hb : -9223372036854775808 ≤ b ∧ b ≤ 9223372036854775807) (h : ¬ b = 0) :
    wrap64 (a - wrap64 (vDiv a b * b)) = vMod a b := by
  unfold vDiv vMod
  rw [if_neg h, if_neg h, wrap64_subR, ← wrap64_subR, wrap64_mulL, wrap64_subR, IntWalk.wrap64_in]
  · rw [Int.tmod_def, Int.mul_comm]
  · have e : a - a.tdiv b * b = a.tmod b := by rw [Int.tmod_def, Int.mul_comm]
    rw [e]
    exact tmod_small a b hb h

theorem quo_same (a b : Int) (ha : -9223372036854775808 ≤ a ∧ a ≤ 9223372036854775807) (h : ¬ b = 0) (hs : (decide (a < 0)) = decide (b < 0)) :
    wrap64 (IntKind.u64.wrap ((a.natAbs : Int) / (b.natAbs : Int))) = vDiv a b := by
  unfold vDiv
  rw [if_neg h, size_quo a b ha, tdiv_same a b hs]

theorem quo_other (a b : Int) (ha : -9223372036854775808 ≤ a ∧ a ≤ 9223372036854775807) (h : ¬ b = 0) (hs : (decide (a < 0)) ≠ decide (b < 0)) :
    wrap64 (-wrap64 (IntKind.u64.wrap ((a.natAbs : Int) / (b.natAbs : Int)))) = vDiv a b := by
  unfold vDiv
  rw [if_neg h, size_quo a b ha, wrap64_neg, tdiv_other a b hs]

end Go.Proofs.YtobamalnbjbmiaaGreatDoor
/-
  What each small function of the program's package value, and of the document's own answer, returns: every function of one, two or three numbers, but for the array's.
-/
namespace Go.Proofs.YtobamalnbjbmiaaGreatDoor
open Go.RowKit

theorem truth_any (b : Bool) (w : World) :
    Calls Tryz.prog 238 #[.bool b] w fun e w' => e = .returned (.int .i64 (yes b)) ∧ w' = w := by
  cases b
  all_goals
    go_enter Tryz.func238, Tryz.ntmps238
    go_wp2
    go_ret
    exact ⟨rfl, rfl⟩

theorem add_any (a b : Int) (w : World) :
    Calls Tryz.prog 239 #[.int .i64 a, .int .i64 b] w fun e w' => e = .returned (.int .i64 (wrap64 (a + b))) ∧ w' = w := by
  go_enter Tryz.func239, Tryz.ntmps239
  go_wp2
  go_ret
  exact ⟨rfl, rfl⟩

theorem sub_any (a b : Int) (w : World) :
    Calls Tryz.prog 240 #[.int .i64 a, .int .i64 b] w fun e w' => e = .returned (.int .i64 (wrap64 (a - b))) ∧ w' = w := by
  go_enter Tryz.func240, Tryz.ntmps240
  go_wp2
  go_ret
  exact ⟨rfl, rfl⟩

theorem mul_any (a b : Int) (w : World) :
    Calls Tryz.prog 241 #[.int .i64 a, .int .i64 b] w fun e w' => e = .returned (.int .i64 (wrap64 (a * b))) ∧ w' = w := by
  go_enter Tryz.func241, Tryz.ntmps241
  go_wp2
  go_ret
  exact ⟨rfl, rfl⟩

theorem quotient_any (a b : Int) (w : World) :
    Calls Tryz.prog 242 #[.int .i64 a, .int .i64 b] w fun e w' => e = .returned (.int .i64 (vDiv a b)) ∧ w' = w := by
  by_cases h : b = 0
  · subst h
    go_enter Tryz.func242, Tryz.ntmps242
    go_wp2
    go_ret
    exact ⟨rfl, rfl⟩
  · have e : vDiv a b = wrap64 (a.tdiv b) := if_neg h
    have E : Hid (vDiv a b = wrap64 (a.tdiv b)) := e
    clear e
    have hb : (b == 0) = false := by simpa using h
    go_enter Tryz.func242, Tryz.ntmps242
    go_wp2
    go_ret
    exact ⟨by rw [E.out]; rfl, rfl⟩

theorem rest_any (a b : Int) (w : World) :
    Calls Tryz.prog 243 #[.int .i64 a, .int .i64 b] w fun e w' => e = .returned (.int .i64 (vMod a b)) ∧ w' = w := by
  by_cases h : b = 0
  · subst h
    go_enter Tryz.func243, Tryz.ntmps243
    go_wp2
    go_ret
    exact ⟨rfl, rfl⟩
  · have E : Hid (vMod a b = a.tmod b) := if_neg h
    have hb : (b == 0) = false := by simpa using h
    go_enter Tryz.func243, Tryz.ntmps243
    go_wp2
    go_ret
    exact ⟨by rw [E.out]; rfl, rfl⟩

set_option maxHeartbeats 400000 in
theorem eq_any (a b : Int) (w : World) :
    Calls Tryz.prog 244 #[.int .i64 a, .int .i64 b] w fun e w' => e = .returned (.int .i64 (yes (a == b))) ∧ w' = w := by
  go_enter Tryz.func244, Tryz.ntmps244
  go_wp2_with (go_at_call 238; refine (truth_any _ _).mono ?_; rintro e w' ⟨rfl, rfl⟩)
  go_ret
  exact ⟨rfl, rfl⟩

theorem ne_any (a b : Int) (w : World) :
    Calls Tryz.prog 245 #[.int .i64 a, .int .i64 b] w fun e w' => e = .returned (.int .i64 (yes (a != b))) ∧ w' = w := by
  go_enter Tryz.func245, Tryz.ntmps245
  go_wp2_with (go_at_call 238; refine (truth_any _ _).mono ?_; rintro e w' ⟨rfl, rfl⟩)
  go_ret
  exact ⟨rfl, rfl⟩

theorem lt_any (a b : Int) (w : World) :
    Calls Tryz.prog 246 #[.int .i64 a, .int .i64 b] w fun e w' => e = .returned (.int .i64 (yes (decide (a < b)))) ∧ w' = w := by
  go_enter Tryz.func246, Tryz.ntmps246
  go_wp2_with (go_at_call 238; refine (truth_any _ _).mono ?_; rintro e w' ⟨rfl, rfl⟩)
  go_ret
  exact ⟨rfl, rfl⟩

theorem le_any (a b : Int) (w : World) :
    Calls Tryz.prog 247 #[.int .i64 a, .int .i64 b] w fun e w' => e = .returned (.int .i64 (yes (decide (a ≤ b)))) ∧ w' = w := by
  go_enter Tryz.func247, Tryz.ntmps247
  go_wp2_with (go_at_call 238; refine (truth_any _ _).mono ?_; rintro e w' ⟨rfl, rfl⟩)
  go_ret
  exact ⟨rfl, rfl⟩

theorem and_any (a b : Int) (w : World) :
    Calls Tryz.prog 248 #[.int .i64 a, .int .i64 b] w fun e w' => e = .returned (.int .i64 (yes (a != 0 && b != 0))) ∧ w' = w := by
  by_cases h : a = 0
  · subst h
    go_enter Tryz.func248, Tryz.ntmps248
    go_wp2_with (go_at_call 238; refine (truth_any _ _).mono ?_; rintro e w' ⟨rfl, rfl⟩)
    go_ret
    exact ⟨rfl, rfl⟩
  · have ha : (a != 0) = true := by simpa using h
    go_enter Tryz.func248, Tryz.ntmps248
    go_wp2_with (go_at_call 238; refine (truth_any _ _).mono ?_; rintro e w' ⟨rfl, rfl⟩)
    go_ret
    exact ⟨by rw [ha]; rfl, rfl⟩

theorem or_any (a b : Int) (w : World) :
    Calls Tryz.prog 249 #[.int .i64 a, .int .i64 b] w fun e w' => e = .returned (.int .i64 (yes (a != 0 || b != 0))) ∧ w' = w := by
  by_cases h : a = 0
  · subst h
    go_enter Tryz.func249, Tryz.ntmps249
    go_wp2_with (go_at_call 238; refine (truth_any _ _).mono ?_; rintro e w' ⟨rfl, rfl⟩)
    go_ret
    exact ⟨rfl, rfl⟩
  · have ha : (a != 0) = true := by simpa using h
    go_enter Tryz.func249, Tryz.ntmps249
    go_wp2_with (go_at_call 238; refine (truth_any _ _).mono ?_; rintro e w' ⟨rfl, rfl⟩)
    go_ret
    exact ⟨by rw [ha]; rfl, rfl⟩

theorem one_any (c a : Int) (w : World) :
    Calls Tryz.prog 210 #[.int .i64 c, .int .i64 a] w fun e w' => e = .returned (.int .i64 (vOne c a)) ∧ w' = w := by
  by_cases h4 : c = 4
  · subst h4
    go_enter Tryz.func210, Tryz.ntmps210
    go_wp2
    go_ret
    exact ⟨rfl, rfl⟩
  · by_cases h5 : c = 5
    · subst h5
      go_enter Tryz.func210, Tryz.ntmps210
      go_wp2_with (go_at_call 238; refine (truth_any _ _).mono ?_; rintro e w' ⟨rfl, rfl⟩)
      go_ret
      exact ⟨rfl, rfl⟩
    · have E : Hid (vOne c a = 0) := by unfold Hid vOne; rw [if_neg h4, if_neg h5]
      have b4 : (c == 4) = false := by simpa using h4
      have b5 : (c == 5) = false := by simpa using h5
      go_enter Tryz.func210, Tryz.ntmps210
      go_wp2
      go_ret
      exact ⟨by rw [E.out]; rfl, rfl⟩

end Go.Proofs.YtobamalnbjbmiaaGreatDoor
/-
  What the program's Two returns: the array of what is asked of two numbers is laid anew in each call, a code is looked up in it, and what lies there is called.
-/
namespace Go.Proofs.YtobamalnbjbmiaaGreatDoor
open Go.RowKit

theorem setRow_alloc (w : World) (a b : Array Value) (t : TypeId) : (w.alloc (.cells a t)).setRow w.heap.size b = w.alloc (.cells b t) := by
  unfold World.setRow World.alloc
  congr 1
  apply Array.ext
  · simp
  · intro k h1 h2
    simp only [Array.getElem_modify, Array.getElem_push]
    split
    · rename_i hk; subst hk; simp
    · rename_i hk; have : k < w.heap.size := by simp at h2; omega
      simp [this]

def asked : Array Value := #[.nilFunc, .nilFunc, .nilFunc, .nilFunc, .nilFunc, .nilFunc, .func (.func 239) #[] #[], .func (.func 240) #[] #[], .func (.func 241) #[] #[], .func (.func 242) #[] #[], .func (.func 243) #[] #[], .func (.func 244) #[] #[], .func (.func 245) #[] #[], .func (.func 246) #[] #[], .func (.func 247) #[] #[], .func (.func 248) #[] #[], .func (.func 249) #[] #[]]

theorem asked_one : (asked.all fun x => x.oneCell') = true := by kernel_rfl
theorem asked_info : (Tryz.prog.info? 301).map (·.size) = some asked.size := by kernel_rfl
theorem asked_cell (w : World) (j : Nat) (v : Value) (h : asked[j]? = some v) : (w.alloc (.cells asked 301)).cell? ⟨w.heap.size, j, none⟩ = some v := by
  have e := (MapKept.heap_alloc w (.cells asked 301)).1
  simp only [World.cell?, e]
  exact h

theorem neq_nil (k : Nat) (w : World) : (binOp BinOp.eql 300 (.func (.func k) #[] #[]) .nilFunc).run Tryz.prog w = .ok (.bool false) w := by kernel_rfl
theorem eq_nil (w : World) : (binOp BinOp.eql 300 .nilFunc .nilFunc).run Tryz.prog w = .ok (.bool true) w := by kernel_rfl


set_option maxHeartbeats 4000000 in
theorem two_func (c : Int) (k : Nat) (a b r : Int) (w : World) (h0 : 0 ≤ c) (h1 : c < 17) (hk : asked[c.toNat]? = some (.func (.func k) #[] #[]))
    (hkk : k = 239 ∨ k = 240 ∨ k = 241 ∨ k = 242 ∨ k = 243 ∨ k = 244 ∨ k = 245 ∨ k = 246 ∨ k = 247 ∨ k = 248 ∨ k = 249)
    (hcall : ∀ w, Calls Tryz.prog k #[.int .i64 a, .int .i64 b] w fun e w' => e = .returned (.int .i64 r) ∧ w' = w) :
    Calls Tryz.prog 211 #[.int .i64 c, .int .i64 a, .int .i64 b] w fun e w' => e = .returned (.int .i64 r) ∧ w' = w.alloc (.cells asked 301) := by
  have q0 := neq_nil
  have hc := asked_cell w c.toNat _ hk
  clear hk
  rcases hkk with rfl | rfl | rfl | rfl | rfl | rfl | rfl | rfl | rfl | rfl | rfl
  all_goals
    go_enter Tryz.func211, Tryz.ntmps211
    go_wp2_with (first | (refine wpList_store_row rfl 301 _ _ rfl w.heap.size asked rfl rfl 301 _ (MapKept.heap_alloc w _).1 asked_info rfl asked_one ?_; rw [setRow_alloc]) | (refine (hcall _).mono ?_; rintro e w' ⟨rfl, rfl⟩))
    go_ret
    exact ⟨rfl, rfl⟩

set_option maxHeartbeats 400000 in
theorem two_nil (c : Int) (a b : Int) (w : World) (h0 : 0 ≤ c) (h1 : c < 17) (hk : asked[c.toNat]? = some .nilFunc) :
    Calls Tryz.prog 211 #[.int .i64 c, .int .i64 a, .int .i64 b] w fun e w' => e = .returned (.int .i64 0) ∧ w' = w.alloc (.cells asked 301) := by
  have q1 := eq_nil
  have hc := asked_cell w c.toNat _ hk
  clear hk
  go_enter Tryz.func211, Tryz.ntmps211
  go_wp2_with (refine wpList_store_row rfl 301 _ _ rfl w.heap.size asked rfl rfl 301 _ (MapKept.heap_alloc w _).1 asked_info rfl asked_one ?_; rw [setRow_alloc])
  go_ret
  exact ⟨rfl, rfl⟩

set_option maxHeartbeats 400000 in
theorem two_low (c : Int) (a b : Int) (w : World) (h0 : c < 0) :
    Calls Tryz.prog 211 #[.int .i64 c, .int .i64 a, .int .i64 b] w fun e w' => e = .returned (.int .i64 0) ∧ w' = w.alloc (.cells asked 301) := by
  go_enter Tryz.func211, Tryz.ntmps211
  go_wp2_with (refine wpList_store_row rfl 301 _ _ rfl w.heap.size asked rfl rfl 301 _ (MapKept.heap_alloc w _).1 asked_info rfl asked_one ?_; rw [setRow_alloc])
  go_ret
  exact ⟨rfl, rfl⟩

set_option maxHeartbeats 400000 in
theorem two_high (c : Int) (a b : Int) (w : World) (h0 : 17 ≤ c) :
    Calls Tryz.prog 211 #[.int .i64 c, .int .i64 a, .int .i64 b] w fun e w' => e = .returned (.int .i64 0) ∧ w' = w.alloc (.cells asked 301) := by
  go_enter Tryz.func211, Tryz.ntmps211
  go_wp2_with (refine wpList_store_row rfl 301 _ _ rfl w.heap.size asked rfl rfl 301 _ (MapKept.heap_alloc w _).1 asked_info rfl asked_one ?_; rw [setRow_alloc])
  go_ret
  exact ⟨rfl, rfl⟩
end Go.Proofs.YtobamalnbjbmiaaGreatDoor
/-
  What the program's Two returns, of any code.
-/
namespace Go.Proofs.YtobamalnbjbmiaaGreatDoor
open Go.RowKit

theorem vTwo_none {c : Int} (h : ∀ k : Int, 6 ≤ k → k ≤ 16 → c ≠ k) (a b : Int) : vTwo c a b = 0 := by
  unfold vTwo
  rw [if_neg (h 6 (by omega) (by omega)), if_neg (h 7 (by omega) (by omega)), if_neg (h 8 (by omega) (by omega)), if_neg (h 9 (by omega) (by omega)), if_neg (h 10 (by omega) (by omega)), if_neg (h 11 (by omega) (by omega)), if_neg (h 12 (by omega) (by omega)), if_neg (h 13 (by omega) (by omega)), if_neg (h 14 (by omega) (by omega)), if_neg (h 15 (by omega) (by omega)), if_neg (h 16 (by omega) (by omega))]

theorem asked_nil (c : Int) (h0 : 0 ≤ c) (h1 : c < 6) : asked[c.toNat]? = some .nilFunc := by
  have h : c = 0 ∨ c = 1 ∨ c = 2 ∨ c = 3 ∨ c = 4 ∨ c = 5 := by omega
  rcases h with rfl | rfl | rfl | rfl | rfl | rfl <;> rfl

theorem two_any (c a b : Int) (w : World) :
    Calls Tryz.prog 211 #[.int .i64 c, .int .i64 a, .int .i64 b] w fun e w' => e = .returned (.int .i64 (vTwo c a b)) ∧ w' = w.alloc (.cells asked 301) := by
  by_cases h0 : c < 0
  · rw [vTwo_none (fun k hk _ => by omega)]
    exact two_low c a b w h0
  by_cases h1 : 17 ≤ c
  · rw [vTwo_none (fun k _ hk => by omega)]
    exact two_high c a b w h1
  by_cases h2 : c < 6
  · rw [vTwo_none (fun k hk _ => by omega)]
    exact two_nil c a b w (by omega) (by omega) (asked_nil c (by omega) h2)
  have h : c = 6 ∨ c = 7 ∨ c = 8 ∨ c = 9 ∨ c = 10 ∨ c = 11 ∨ c = 12 ∨ c = 13 ∨ c = 14 ∨ c = 15 ∨ c = 16 := by omega
  clear h0 h1 h2
  rcases h with rfl | rfl | rfl | rfl | rfl | rfl | rfl | rfl | rfl | rfl | rfl
  · exact two_func 6 239 a b _ w (by omega) (by omega) rfl (by omega) (add_any a b)
  · exact two_func 7 240 a b _ w (by omega) (by omega) rfl (by omega) (sub_any a b)
  · exact two_func 8 241 a b _ w (by omega) (by omega) rfl (by omega) (mul_any a b)
  · exact two_func 9 242 a b _ w (by omega) (by omega) rfl (by omega) (quotient_any a b)
  · exact two_func 10 243 a b _ w (by omega) (by omega) rfl (by omega) (rest_any a b)
  · exact two_func 11 244 a b _ w (by omega) (by omega) rfl (by omega) (eq_any a b)
  · exact two_func 12 245 a b _ w (by omega) (by omega) rfl (by omega) (ne_any a b)
  · exact two_func 13 246 a b _ w (by omega) (by omega) rfl (by omega) (lt_any a b)
  · exact two_func 14 247 a b _ w (by omega) (by omega) rfl (by omega) (le_any a b)
  · exact two_func 15 248 a b _ w (by omega) (by omega) rfl (by omega) (and_any a b)
  · exact two_func 16 249 a b _ w (by omega) (by omega) rfl (by omega) (or_any a b)

end Go.Proofs.YtobamalnbjbmiaaGreatDoor
/- The program's look at an expression's names: Eval goes through all of it. -/
namespace Go.Proofs.YtobamalnbjbmiaaGreatDoor
open Go.RowKit Px

/-- its names are no longer than a string may be -/
def NmOk : E → Prop
  | .nil => True
  | .node _ _ a l r => a.name.length ≤ maxLen ∧ NmOk l ∧ NmOk r
def LookOut (fb kb ck pb mb nm : Nat) (ns : List Str) (b : Bool) (w : World) (r : Ending) (w' : World) : Prop := ∃ x, r = .returned (.int .i64 x) ∧ Hid (Fr w.heap.size [fb] w w' ∧ LookAt w' fb kb ck pb mb nm ns b)
/-- Eval looks at all names of an expression -/
def EvOk (A : Nat → Prop) (fb kb ck pb mb nm : Nat) (ns : List Str) (e : E) : Prop := ∀ (w : World) (v : Value) (b : Bool), IsE A w e v → LookAt w fb kb ck pb mb nm ns b →
  Calls Tryz.prog 182 #[v, .agg #[lookV fb kb, lookV fb kb]] w (LookOut fb kb ck pb mb nm ns (b || strangeE ns e) w)
section
variable {A : Nat → Prop} {fb kb ck pb mb nm : Nat} {ns : List Str}
theorem frBelow' {w W w' : World} {X : List Nat} (h : Below w.heap.size w W) (k : Fr W.heap.size X W w') : Fr w.heap.size X w w' := (Fr.of_below h X).trans (k.mono h.size (fun _ hx _ => hx))
theorem eval_nil (w : World) (b : Bool) (h : LookAt w fb kb ck pb mb nm ns b) : Calls Tryz.prog 182 #[.pointer none, .agg #[lookV fb kb, lookV fb kb]] w (LookOut fb kb ck pb mb nm ns b w) := by
  have H : Hid (LookAt w fb kb ck pb mb nm ns b) := h
  clear h
  unfold lookV
  go_enter Tryz.func182, Tryz.ntmps182
  go_wp2_with fail
  go_ret
  exact ⟨_, rfl, Fr.of_below (ck_grown w _) _, H.out.below (ck_grown w _)⟩
set_option maxHeartbeats 1000000 in
theorem eval_num (w : World) (b : Bool) {g : Nat} {n : Int} {S : Value} {lv rv : Value} (hg : w.heap[g]? = some (.cells #[.int .i64 1, .int .i64 n, S, lv, rv] 61 (0, 0))) (h : LookAt w fb kb ck pb mb nm ns b) : Calls Tryz.prog 182 #[.pointer (some ⟨g, 0, none⟩), .agg #[lookV fb kb, lookV fb kb]] w (LookOut fb kb ck pb mb nm ns b w) := by
  have H : Hid (LookAt w fb kb ck pb mb nm ns b) := h
  have c0 := fun o => cell_row (ck_old (o' := o) hg) 0 (u := .int .i64 1) rfl
  have c1 := fun o => cell_row (ck_old (o' := o) hg) 1 (u := .int .i64 n) rfl
  clear h hg
  unfold lookV
  go_enter Tryz.func182, Tryz.ntmps182
  go_wp2_with fail
  go_ret
  exact ⟨_, rfl, Fr.of_below (ck_grown w _) _, H.out.below (ck_grown w _)⟩
set_option maxHeartbeats 2000000 in
theorem eval_name (w : World) (b : Bool) {g : Nat} {c n : Int} (hc : c = 2 ∨ c = 3) {s : Str} (hs : s.length ≤ maxLen) {lv rv : Value} (hg : w.heap[g]? = some (.cells #[.int .i64 c, .int .i64 n, sv s, lv, rv] 61 (0, 0))) (h : LookAt w fb kb ck pb mb nm ns b) : Calls Tryz.prog 182 #[.pointer (some ⟨g, 0, none⟩), .agg #[lookV fb kb, lookV fb kb]] w (LookOut fb kb ck pb mb nm ns (b || (fnd ns s).isNone) w) := by
  obtain ⟨O, hO⟩ : ∃ O, O = Obj.cells #[lookV fb kb, lookV fb kb] 257 := ⟨_, rfl⟩
  have hbO : Below w.heap.size w (w.alloc O) := ck_grown w O
  have hcall := ask_any ((h.below hbO).below (w' := (w.alloc O).drew) ((Below.refl _ _).drew)) hs
  have k0 : (w.alloc O).heap[w.heap.size]? = some (.cells #[lookV fb kb, lookV fb kb] 257 (0, 0)) := by rw [ck_new, hO]
  have e0 := cell_row k0 0 (u := lookV fb kb) rfl
  have e1 := cell_row k0 1 (u := lookV fb kb) rfl
  have c0 := cell_row (ck_old (o' := O) hg) 0 (u := .int .i64 c) rfl
  have c2 := cell_row (ck_old (o' := O) hg) 2 (u := sv s) rfl
  obtain ⟨b', hb'⟩ : ∃ b', b' = (b || (fnd ns s).isNone) := ⟨_, rfl⟩
  rw [← hb'] at hcall ⊢
  have HB : Hid (Below w.heap.size w (w.alloc O).drew) := hbO.drew
  generalize sv s = S at hcall c2
  unfold lookV at hO hcall e0 e1 ⊢
  rw [hO] at hcall e0 e1 c0 c2 HB
  clear h hg hb' hbO k0 hO hs
  rcases hc with rfl | rfl
  all_goals
    go_enter Tryz.func182, Tryz.ntmps182
    go_wp2_with fail
    go_region_with (refine hcall.mono ?_; rintro e w' ⟨rfl, hr⟩)
    all_goals
      go_wp2_with fail
      go_ret
      exact ⟨_, rfl, frBelow' HB.out hr.out.1, hr.out.2⟩
end
end Go.Proofs.YtobamalnbjbmiaaGreatDoor
