/- image.Write: the world while it writes. -/
import Derived.Test.YtalfelkblbbmpaaDoorIe
import Derived.Test.YtalfelkblbbmpaaDoorNtB
import Derived.Lib.SlBytesConst
namespace Go.Proofs.YtalfelkblbbmpaaDoor
open Go.RowKit
namespace Ix
open Nx

theorem pl_len (zs : List Int) (h : ∀ z ∈ zs, -9223372036854775808 ≤ z ∧ z ≤ 9223372036854775807) : (zs.flatMap P8).length ≤ 10 * zs.length := by
  induction zs with
  | nil => simp
  | cons y m ih =>
    have h1 := ih fun z hz => h z (by simp [hz])
    have h2 := P8_ten (h y (by simp)).1 (h y (by simp)).2
    simp only [List.flatMap_cons, List.length_append, List.length_cons]
    omega
def N64 (zs : List Int) : Prop := ∀ z ∈ zs, -9223372036854775808 ≤ z ∧ z ≤ 9223372036854775807
theorem pl_le {zs : List Int} (h : N64 zs) (hn : zs.length ≤ 4000) : (pl zs).length ≤ 40010 := by
  have h1 := pl_len zs h
  have h2 := P8_ten (z := (zs.length : Int)) (by omega) (by omega)
  unfold pl
  rw [List.length_append]
  omega

/-- while it writes: the code's box, put's box, the bytes -/
structure WS (w W : World) (cs : Array Value) (q f : Nat) (v : Value) (l : List UInt8) : Prop where
  ps : PS W w.heap.size q v l
  box : W.heap[w.heap.size]? = some (.cells cs 26 (0, 0))
  fn : W.heap[f]? = some (.cells #[putV q] 60 (0, 0))
  nb : v.ownBlock ≠ some w.heap.size
  nf : v.ownBlock ≠ some f
  fq : f ≠ q
  lq : w.heap.size < q
  lf : w.heap.size < f
  below : Below w.heap.size w W
theorem WS.moved {w W W' : World} {cs : Array Value} {q f : Nat} {v v' : Value} {l l' : List UInt8} (h : WS w W cs q f v l) (hp : PS W' w.heap.size q v' l') (hf : PF q W W' v v') : WS w W' cs q f v' l' := by
  have hs := h.below.size
  have b0 := lt_of_block h.box
  have bf := lt_of_block h.fn
  refine ⟨hp, ?_, ?_, hf.at_.ne b0 h.nb, hf.at_.ne bf h.nf, h.fq, h.lq, h.lf, ?_⟩
  · rw [hf.block _ b0 (by have := h.lq; omega) h.nb]; exact h.box
  · rw [hf.block _ bf h.fq h.nf]; exact h.fn
  · exact h.below.trans (below_of_pf hf (Nat.le_of_lt h.lq) hs (fun g hg => (h.ps.bys.lt g hg).1))
theorem WS.more {w W W' : World} {cs : Array Value} {q f : Nat} {v : Value} {l : List UInt8} (h : WS w W cs q f v l) (hb : Below W.heap.size W W') : WS w W' cs q f v l :=
  h.moved (h.ps.below hb) ((PF.refl q W v).below hb)
theorem WS.size {w W : World} {cs : Array Value} {q f : Nat} {v : Value} {l : List UInt8} (h : WS w W cs q f v l) : w.heap.size ≤ W.heap.size := h.below.size

theorem ws_put {w W : World} {cs : Array Value} {q f : Nat} {v : Value} {l : List UInt8} (h : WS w W cs q f v l) (z : Int) (hl : l.length ≤ 1000000000) (h1 : -9223372036854775808 ≤ z) (h2 : z ≤ 9223372036854775807) :
    Calls Tryd.prog 20 #[.int .i64 z, .pointer (some ⟨q, 0, none⟩)] W fun e W' => e = .returned (.tuple #[]) ∧ ∃ v', Hid (WS w W' cs q f v' (l ++ P8 z) ∧ PF q W W' v v') :=
  (putB_any z W h.ps h.size hl h1 h2).mono fun _ _ ⟨he, v', hp, hf⟩ => ⟨he, v', h.moved hp hf, hf⟩
theorem ws_list {w W : World} {cs : Array Value} {q f : Nat} {v : Value} {l : List UInt8} (h : WS w W cs q f v l) {A : Nat → Prop} (vz : Value) (zs : List Int) (hz : Ints A W vz zs) (hA : ∀ b, A b → b < W.heap.size ∧ b ≠ q ∧ v.ownBlock ≠ some b) (hl : l.length ≤ 1000000) (hn : zs.length ≤ 4000) (h64 : N64 zs) :
    Calls Tryd.prog 22 #[vz, .pointer (some ⟨f, 0, none⟩)] W fun e W' => e = .returned (.tuple #[]) ∧ ∃ v', Hid (WS w W' cs q f v' (l ++ pl zs)) :=
  (list_any vz zs W h.ps h.size (by omega) (by omega) h.fn h.fq h.nf hz hA h64).mono fun _ _ ⟨he, v', hp, hf⟩ => ⟨he, v', h.moved hp hf⟩
/-- a list that was handed in -/
theorem ws_old {w W : World} {cs : Array Value} {q f : Nat} {v : Value} {l : List UInt8} (h : WS w W cs q f v l) {B : Nat} (hB : B ≤ w.heap.size) {vz : Value} {zs : List Int} (hz : Ints (fun b => b < B) w vz zs) : Ints (fun b => b < B) W vz zs ∧ ∀ b, b < B → b < W.heap.size ∧ b ≠ q ∧ v.ownBlock ≠ some b := by
  have hs := h.size
  refine ⟨hz.carry fun b hb hl => ⟨hb, h.below.block b (by omega)⟩, fun b hb => ⟨by omega, by have := h.lq; omega, fun e => by have := (h.ps.bys.lt b e).1; omega⟩⟩
/-- places as numbers, and then the list of them -/
theorem ws_wide {w W : World} {cs : Array Value} {q f : Nat} {v : Value} {l : List UInt8} (h : WS w W cs q f v l) {B : Nat} (hB : B ≤ w.heap.size) (vz : Value) (zs : List Int) (hz : Ints (fun b => b < B) w vz zs) (hn : zs.length ≤ 4000) (hl : l.length ≤ 1000000) (h64 : N64 zs) :
    Calls Tryd.prog 23 #[vz] W fun e W1 => ∃ v1, e = .returned v1 ∧ Calls Tryd.prog 22 #[v1, .pointer (some ⟨f, 0, none⟩)] W1 fun e W' => e = .returned (.tuple #[]) ∧ ∃ v', Hid (WS w W' cs q f v' (l ++ pl zs)) := by
  refine (wide_any vz zs W (ws_old h hB hz).1 (by omega)).mono fun e W1 ⟨v1, he, hi, hb, hlt⟩ => ⟨v1, he, ?_⟩
  refine ws_list (h.more hb) v1 zs hi (fun b hbb => ?_) hl hn h64
  subst hbb
  refine ⟨hlt, fun e => ?_, fun e => ?_⟩
  · have := lt_of_block h.ps.var
    omega
  · have := (h.ps.bys.lt _ e).2
    omega
/-- what Check lets pass is small -/
theorem stepE_told {P : Int} {nums : Nat} {s : Sp} (h : stepE P nums s = 0) (hP : P ≤ 4000) (hn : nums ≤ 4000) : ∀ z ∈ toldS s, 0 ≤ z ∧ z ≤ 4000 := by
  unfold stepE at h
  split at h
  · omega
  rename_i h1
  split at h
  · omega
  rename_i h2
  have h2' : isPl P s.dst = true ∧ (asks s).all (isPl P) = true := Decidable.not_not.1 h2
  have hpl : ∀ p, isPl P p = true → 0 ≤ p ∧ p ≤ 4000 := fun p hp => by
    unfold isPl at hp
    simp at hp
    omega
  split at h
  · omega
  rename_i h3
  intro z hz
  unfold toldS at hz
  rcases List.mem_cons.1 hz with rfl | hz
  · omega
  rcases List.mem_cons.1 hz with rfl | hz
  · exact hpl _ h2'.1
  by_cases hc : s.code = 1
  · have e : nAsk s.code = 1 := by rw [hc]; rfl
    rw [e] at hz
    have : z = s.a := by simpa using hz
    subst this
    have := Decidable.not_not.1 (fun hx => h3 ⟨hc, hx⟩)
    omega
  · rw [← asks_take s hc] at hz
    exact hpl z (List.all_eq_true.1 h2'.2 z hz)
theorem check_told {n : Nt} (h : check n = (0, -1)) (hs : Small n) : ∀ s ∈ n.code, ∀ z ∈ toldS s, 0 ≤ z ∧ z ≤ 4000 := by
  unfold check at h
  split at h
  · intro s hsm
    obtain ⟨j, hj, rfl⟩ := List.getElem_of_mem hsm
    have e : n.code.getD j sp0 = n.code[j] := by rw [List.getD_eq_getElem?_getD, List.getElem?_eq_getElem hj]; rfl
    have hz : stepE n.places n.nums.length n.code[j] = 0 := by
      rw [← e]
      apply Decidable.byContradiction
      intro hne
      have key : ∃ k, k < n.code.length ∧ stepE n.places n.nums.length (n.code.getD k sp0) ≠ 0 ∧ ∀ i, i < k → stepE n.places n.nums.length (n.code.getD i sp0) = 0 := by
        have : ∀ m, (∃ k, k < m ∧ stepE n.places n.nums.length (n.code.getD k sp0) ≠ 0) → ∃ k, k < m ∧ stepE n.places n.nums.length (n.code.getD k sp0) ≠ 0 ∧ ∀ i, i < k → stepE n.places n.nums.length (n.code.getD i sp0) = 0 := by
          intro m
          induction m with
          | zero => rintro ⟨k, hk, _⟩; omega
          | succ m ih =>
            rintro ⟨k, hk, hx⟩
            by_cases hm : ∃ k, k < m ∧ stepE n.places n.nums.length (n.code.getD k sp0) ≠ 0
            · obtain ⟨k', a, b, c⟩ := ih hm
              exact ⟨k', by omega, b, c⟩
            · refine ⟨k, hk, hx, fun i hi => ?_⟩
              apply Decidable.byContradiction
              intro hy
              exact hm ⟨i, by omega, hy⟩
        exact this n.code.length ⟨j, hj, hne⟩
      obtain ⟨k, hk, hx, hall⟩ := key
      rw [stepsE_at n.places n.nums.length n.code k hall hk hx] at h
      exact hx (Prod.mk.inj h).1
    exact stepE_told hz hs.p hs.m
  · rename_i hw
    injection h with h1 _
    exact absurd h1 hw
theorem check_lists {n : Nt} (h : check n = (0, -1)) (hs : Small n) : n.first.length ≤ 4000 ∧ (0 ≤ n.places ∧ n.places ≤ 4000) ∧ (∀ z ∈ n.ins, 0 ≤ z ∧ z ≤ 4000) ∧ (∀ z ∈ n.outs, 0 ≤ z ∧ z ≤ 4000) ∧ ∀ z ∈ n.keeps, 0 ≤ z ∧ z ≤ 4000 := by
  have hw : wholeE n = 0 := by
    unfold check at h
    split at h
    · assumption
    · rename_i hw
      exact absurd (Prod.mk.inj h).1 hw
  unfold wholeE at hw
  split at hw
  · omega
  rename_i h1
  split at hw
  · omega
  rename_i h2
  split at hw
  · omega
  rename_i h3
  have h3' := Decidable.not_not.1 h3
  have hp := hs.p
  have hpl : ∀ p, isPl n.places p = true → 0 ≤ p ∧ p ≤ 4000 := fun p hp => by
    unfold isPl at hp
    simp at hp
    omega
  refine ⟨by omega, ⟨by omega, hp⟩, fun z hz => hpl z (List.all_eq_true.1 h3'.1 z hz), fun z hz => hpl z (List.all_eq_true.1 h3'.2.1 z hz), fun z hz => hpl z (List.all_eq_true.1 h3'.2.2 z hz)⟩
end Ix
end Go.Proofs.YtalfelkblbbmpaaDoor
