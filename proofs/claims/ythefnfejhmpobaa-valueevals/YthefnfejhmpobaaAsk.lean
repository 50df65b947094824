/-
  What the closures that tell variables return, and what the program's ask returns of them: it recovers nothing, and hands the number on.
-/
import Derived.Test.YthefnfejhmpobaaTwos
import Derived.Lib.QuietBelow
import Derived.Maps.OwnOps
import Derived.Defers
import Derived.Recover
namespace Go.Proofs.Ythefnfejhmpobaa
open Go.RowKit

theorem tell_now (p m : Nat) (s : ByteArray) (v : Int) (w : World) (hc : w.cell? ⟨p, 0, none⟩ = some (.map (some m)))
    (hl : (Instr.lookup 27 (.map (some m)) (.string s) false).run Try.prog w = .ok (.int .i64 v) w) :
    Calls Try.prog 12 #[.string s, .pointer (some ⟨p, 0, none⟩)] w fun e w' => e = .returned (.int .i64 v) ∧ w' = w := by
  go_enter Try.func12, Try.ntmps12
  go_wp2
  go_ret
  exact ⟨rfl, rfl⟩

theorem tell_was (p m : Nat) (s : ByteArray) (v : Int) (w : World) (hc : w.cell? ⟨p, 0, none⟩ = some (.map (some m)))
    (hl : (Instr.lookup 27 (.map (some m)) (.string s) false).run Try.prog w = .ok (.int .i64 v) w) :
    Calls Try.prog 13 #[.string s, .pointer (some ⟨p, 0, none⟩)] w fun e w' => e = .returned (.int .i64 v) ∧ w' = w := by
  go_enter Try.func13, Try.ntmps13
  go_wp2
  go_ret
  exact ⟨rfl, rfl⟩

theorem catch_idle (p : Addr) (w : World) :
    CallsD Try.prog 34 #[.pointer (some p)] .returning w fun e u' w' => e = .returned (.tuple #[]) ∧ u' = .returning ∧ w' = w := by
  refine callsD_of_wpS Try.func34 rfl fun c₀ cs hu => ?_
  apply wpS_seq
  apply wpS_region
  simp [wpOpsS, go_sem, recoverD, hu, Try.ntmps34, Exit.thenS]
  refine wpS_cond (t := false) (by simp [Act.eval, Array.replicate]) ?_
  simp only [Bool.false_eq_true, if_false]
  refine wpS_of_wp (wp_skip ?_)
  cases c₀
  simp_all [bodyPostS, results, Try.results34]

theorem fn_not_nil (k : Nat) (x : Value) (w : World) : (binOp BinOp.eql 28 (.func (.func k) #[] #[x]) .nilFunc).run Try.prog w = .ok (.bool false) w := by kernel_rfl

theorem ask_now (p : Nat) (s : ByteArray) (v : Int) (w : World)
    (hcall : ∀ o, Calls Try.prog 12 #[.string s, .pointer (some ⟨p, 0, none⟩)] (w.alloc o) fun e w' => e = .returned (.int .i64 v) ∧ w' = w.alloc o) :
    Calls Try.prog 32 #[.func (.func 12) #[] #[.pointer (some ⟨p, 0, none⟩)], .string s] w fun e w' => e = .returned (.int .i64 v) ∧ Below w.heap.size w w' := by
  have hmf : ∀ (fn : Fn) (first cap : Array Value) (w : World), (Instr.makeFunc fn first cap).run Try.prog w = .ok (.func fn first cap) w := fun _ _ _ _ => rfl
  have q0 := fn_not_nil
  go_enter_defers Try.func32, Try.ntmps32
  go_wp2_with (go_at_call 12; refine (hcall _).mono ?_; rintro e w' ⟨rfl, rfl⟩)
  refine leaves_cons (f := 34) (args := #[.pointer (some ⟨w.heap.size, 0, none⟩)]) (by simp) (by simp [go_sem]) ?_
  refine (catch_idle ⟨w.heap.size, 0, none⟩ _).mono ?_
  rintro e u' w'' ⟨rfl, rfl, rfl⟩
  have hb : Below w.heap.size w (w.alloc (.cells #[.int .i64 v] 2)) := (Below.refl _ _).alloc (Nat.le_refl _) _
  simp [Leaves, settle, results, Try.results32, go_sem]
  exact hb

theorem ask_was (p : Nat) (s : ByteArray) (v : Int) (w : World)
    (hcall : ∀ o, Calls Try.prog 13 #[.string s, .pointer (some ⟨p, 0, none⟩)] (w.alloc o) fun e w' => e = .returned (.int .i64 v) ∧ w' = w.alloc o) :
    Calls Try.prog 32 #[.func (.func 13) #[] #[.pointer (some ⟨p, 0, none⟩)], .string s] w fun e w' => e = .returned (.int .i64 v) ∧ Below w.heap.size w w' := by
  have hmf : ∀ (fn : Fn) (first cap : Array Value) (w : World), (Instr.makeFunc fn first cap).run Try.prog w = .ok (.func fn first cap) w := fun _ _ _ _ => rfl
  have q0 := fn_not_nil
  go_enter_defers Try.func32, Try.ntmps32
  go_wp2_with (go_at_call 13; refine (hcall _).mono ?_; rintro e w' ⟨rfl, rfl⟩)
  refine leaves_cons (f := 34) (args := #[.pointer (some ⟨w.heap.size, 0, none⟩)]) (by simp) (by simp [go_sem]) ?_
  refine (catch_idle ⟨w.heap.size, 0, none⟩ _).mono ?_
  rintro e u' w'' ⟨rfl, rfl, rfl⟩
  have hb : Below w.heap.size w (w.alloc (.cells #[.int .i64 v] 2)) := (Below.refl _ _).alloc (Nat.le_refl _) _
  simp [Leaves, settle, results, Try.results32, go_sem]
  exact hb

/-- In the world w, and in whatever world grows out of it, the map at block m tells v at s. -/
def Tells (w : World) (m : Nat) (s : ByteArray) (v : Int) : Prop :=
  ∀ w', Below w.heap.size w w' → (Instr.lookup 27 (.map (some m)) (.string s) false).run Try.prog w' = .ok (.int .i64 v) w'

theorem Below.all {w w' w'' : World} (h : Below w.heap.size w w') (k : Below w'.heap.size w' w'') : Below w.heap.size w w'' := h.trans (k.mono h.size)

theorem cell_below {w w' : World} (h : Below w.heap.size w w') {a : Addr} {v : Value} (hc : w.cell? a = some v) : w'.cell? a = some v := by
  rw [h.cell (World.block_lt_of_cell? w a hc)]; exact hc

theorem Tells.below {w w' : World} {m : Nat} {s : ByteArray} {v : Int} (h : Tells w m s v) (hb : Below w.heap.size w w') : Tells w' m s v :=
  fun _ hb' => h _ (Below.all hb hb')

end Go.Proofs.Ythefnfejhmpobaa
