/- image.Write's closures: a number, and a list, behind what was put. -/
import Derived.Test.YtalfelkblbbmpaaDoorIb
namespace Go.Proofs.YtalfelkblbbmpaaDoor
open Go.RowKit
namespace Ix
open Nx

theorem cel {w : World} {b : Nat} {cs : Array Value} {t : TypeId} (K : w.heap[b]? = some (.cells cs t (0, 0))) (o : Nat) (v : Value) (hv : cs[o]? = some v) : w.cell? ⟨b, o, none⟩ = some v ∧ w.frozen? ⟨b, o, none⟩ = false :=
  ⟨by rw [cell_of_row _ _ _ _ _ _ K]; exact hv, by simp [World.frozen?, K]⟩
theorem set_at {w : World} {b : Nat} {cs : Array Value} {t : TypeId} (K : w.heap[b]? = some (.cells cs t (0, 0))) (o : Nat) (x : Value) : (w.setCell ⟨b, o, none⟩ x).heap[b]? = some (.cells (cs.setIfInBounds o x) t (0, 0)) := by
  rw [setCell_eq_setRow w b o cs t (0, 0) x K]
  exact setRow_heap w b cs _ t _ K

/-- what was put: the bytes lie where the variable says -/
structure PS (w : World) (B q : Nat) (v : Value) (l : List UInt8) : Prop where
  var : w.heap[q]? = some (.cells #[v] 46 (0, 0))
  bys : Bys w B v l
  ne : v.ownBlock ≠ some q
/-- what is as it was: all but the variable and the bytes -/
structure PF (q : Nat) (w w' : World) (v v' : Value) : Prop where
  os : w'.os = w.os
  tape : w'.tape = w.tape
  output : w'.output = w.output
  size : w.heap.size ≤ w'.heap.size
  block : ∀ k, k < w.heap.size → k ≠ q → v.ownBlock ≠ some k → w'.heap[k]? = w.heap[k]?
  at_ : AtNew w v v'
theorem PF.refl (q : Nat) (w : World) (v : Value) : PF q w w v v := ⟨rfl, rfl, rfl, Nat.le_refl _, fun _ _ _ _ => rfl, .inl rfl⟩
/-- no block that is not the bytes' is theirs later -/
theorem AtNew.ne {w : World} {v v' : Value} (h : AtNew w v v') {k : Nat} (hk : k < w.heap.size) (hne : v.ownBlock ≠ some k) : v'.ownBlock ≠ some k := by
  rcases h with h | ⟨g, hg, hs⟩
  · rw [h]; exact hne
  · rw [hg]
    intro e
    injection e with e
    omega
theorem PF.trans {q : Nat} {w w1 w2 : World} {v v1 v2 : Value} (h : PF q w w1 v v1) (k : PF q w1 w2 v1 v2) : PF q w w2 v v2 :=
  ⟨k.os.trans h.os, k.tape.trans h.tape, k.output.trans h.output, Nat.le_trans h.size k.size, fun b hb hq hne => by
    rw [k.block b (Nat.lt_of_lt_of_le hb h.size) hq (h.at_.ne hb hne)]
    exact h.block b hb hq hne, at_trans h.at_ k.at_ h.size⟩
/-- what was made besides -/
theorem PF.below {q : Nat} {w w1 w2 : World} {v v1 : Value} (h : PF q w w1 v v1) (k : Below w1.heap.size w1 w2) : PF q w w2 v v1 :=
  ⟨k.os.trans h.os, k.tape.trans h.tape, k.output.trans h.output, Nat.le_trans h.size k.size, fun b hb hq hne => by
    rw [k.block b (Nat.lt_of_lt_of_le hb h.size)]
    exact h.block b hb hq hne, h.at_⟩
theorem PS.below {w w' : World} {B q : Nat} {v : Value} {l : List UInt8} (h : PS w B q v l) (k : Below w.heap.size w w') : PS w' B q v l :=
  ⟨by rw [k.block q (lt_of_block h.var)]; exact h.var, h.bys.kept (fun g hg => k.block g (h.bys.lt g hg).2) k.size, h.ne⟩
theorem below_of_pf {q D : Nat} {w w' : World} {v v' : Value} (h : PF q w w' v v') (hD : D ≤ q) (hs : D ≤ w.heap.size) (hg : ∀ g, v.ownBlock = some g → D ≤ g) : Below D w w' :=
  ⟨h.os, h.tape, h.output, h.size, fun k hk => h.block k (by omega) (by omega) (fun e => by have := hg k e; omega)⟩

theorem putB_any {B q : Nat} {v : Value} {l : List UInt8} (z : Int) (w : World) (h : PS w B q v l) (hB : B ≤ w.heap.size) (hl : l.length ≤ 1000000000) (h1 : -9223372036854775808 ≤ z) (h2 : z ≤ 9223372036854775807) :
    Calls Tryd.prog 20 #[.int .i64 z, .pointer (some ⟨q, 0, none⟩)] w fun e w' => e = .returned (.tuple #[]) ∧ ∃ v', PS w' B q v' (l ++ P8 z) ∧ PF q w w' v v' := by
  have hadd : Calls Tryd.prog 21 #[v, .int .i64 z] w fun e w' => ∃ v', e = .returned v' ∧ Hid (BG w w' B v v' (l ++ P8 z)) ∧ w'.cell? ⟨q, 0, none⟩ = some v ∧ w'.frozen? ⟨q, 0, none⟩ = false :=
    (addB_any B v l z w h.bys hB hl h1 h2).mono fun e w' ⟨v', he, hb⟩ => by
      have hq : w'.heap[q]? = some (.cells #[v] 46 (0, 0)) := by
        rw [hb.grown.block q (lt_of_block h.var) (fun e => h.ne e.symm)]; exact h.var
      exact ⟨v', he, hb, cel hq 0 v rfl⟩
  have H : Hid (PS w B q v l) := h
  obtain ⟨c0, f0⟩ := cel h.var 0 v rfl
  obtain ⟨ao, cap, rfl⟩ := h.bys.shape
  clear h
  go_enter Tryd.func20, Tryd.ntmps20
  go_wp2_with (go_at_call 21; refine hadd.mono ?_; rintro e w' ⟨v', rfl, X, c1, f1⟩; obtain ⟨ao', cap', rfl⟩ := (Bys.shape (.inl X.out.own)); clear hadd)
  go_end0
  have hq : w'.heap[q]? = some (.cells #[.slice ao l.length cap] 46 (0, 0)) := by
    rw [X.out.grown.block q (lt_of_block H.out.var) (fun e => H.out.ne e.symm)]; exact H.out.var
  have X2 := X.out
  rw [show (l ++ P8 z).length = l.length + (P8 z).length from List.length_append] at X2
  have hne := X2.at_.ne (lt_of_block H.out.var) H.out.ne
  refine ⟨rfl, .slice ao' (l.length + (P8 z).length) cap', ⟨set_at hq 0 _, ?_, hne⟩, ⟨X.out.grown.os, X.out.grown.tape, X.out.grown.output, by simpa [World.setCell] using X.out.grown.size, fun k hk hkq hkn => ?_, X2.at_⟩⟩
  · exact (Bys.kept (.inl X2.own) (fun g hg => Below.heap_setCell _ _ _ _ (fun e => hne (by rw [hg]; exact congrArg some e))) (by simp [World.setCell]))
  · rw [Below.heap_setCell _ _ _ _ hkq]
    exact X.out.grown.block k hk (fun e => hkn e.symm)

def putV (q : Nat) : Value := .func (.func 20) #[] #[.pointer (some ⟨q, 0, none⟩)]
theorem jx22 (ad : Option Addr) (b off n cap k : Nat) (hk : k < n) (ha : 0 < n → ad = some ⟨b, off, none⟩) (w : World) : (Instr.indexAt 22 (.slice ad n cap) (.int .i64 (k : Int))).run Tryd.prog w = .ok (.pointer (some ⟨b, off + k, none⟩)) w := by
  obtain rfl := ha (by omega)
  rw [run_indexAt_slice _ _ _ _ _ _ _ (by kernel_rfl), if_pos ⟨by omega, by omega⟩]
  have e : (sizeOf (Tryd.prog.elem 22)).run Tryd.prog w = .ok 1 w := by kernel_rfl
  rw [e]
  simp [Result.andThen, Addr.add]

set_option maxHeartbeats 1000000 in
theorem list_any {A : Nat → Prop} {B q f : Nat} {v : Value} {l : List UInt8} (vz : Value) (zs : List Int) (w : World) (h : PS w B q v l) (hB : B ≤ w.heap.size) (hl : l.length + 10 * zs.length ≤ 999999980) (hn : zs.length ≤ 100000)
    (hf : w.heap[f]? = some (.cells #[putV q] 60 (0, 0))) (hfq : f ≠ q) (hfv : v.ownBlock ≠ some f) (hz : Ints A w vz zs) (hA : ∀ b, A b → b < w.heap.size ∧ b ≠ q ∧ v.ownBlock ≠ some b) (h64 : ∀ z ∈ zs, -9223372036854775808 ≤ z ∧ z ≤ 9223372036854775807) :
    Calls Tryd.prog 22 #[vz, .pointer (some ⟨f, 0, none⟩)] w fun e w' => e = .returned (.tuple #[]) ∧ ∃ v', PS w' B q v' (l ++ pl zs) ∧ PF q w w' v v' := by
  obtain ⟨ad, b, off, cap, rfl, ha, hc⟩ := hz
  have hp0 : Calls Tryd.prog 20 #[.int .i64 zs.length, .pointer (some ⟨q, 0, none⟩)] w fun e w' => e = .returned (.tuple #[]) ∧ ∃ v', Hid (PS w' B q v' (l ++ P8 zs.length) ∧ PF q w w' v v') :=
    putB_any zs.length w h hB (by omega) (by omega) (by omega)
  have hfc := (cel hf 0 _ rfl).1
  unfold putV at hfc
  have H : Hid (w.heap[f]? = some (.cells #[putV q] 60 (0, 0)) ∧ v.ownBlock ≠ some f ∧ f < w.heap.size) := ⟨hf, hfv, lt_of_block hf⟩
  have HA : Hid ((0 < zs.length → ad = some ⟨b, off, none⟩ ∧ A b) ∧ (∀ b, A b → b < w.heap.size ∧ b ≠ q ∧ v.ownBlock ≠ some b) ∧ ∀ k, k < zs.length → w.cell? ⟨b, off + k, none⟩ = some (.int .i64 (zs.getD k 0))) := ⟨ha, hA, hc⟩
  have HZ : Hid (∀ z ∈ zs, -9223372036854775808 ≤ z ∧ z ≤ 9223372036854775807) := h64
  have HFQ : Hid (f ≠ q) := hfq
  clear h hf hfq hfv ha hA hc h64
  go_enter Tryd.func22, Tryd.ntmps22
  go_wp2_with (go_at_call 20; refine hp0.mono ?_; rintro e w' ⟨rfl, v1, X⟩; clear hp0)
  go_loopw [11] (fun i wr => ∃ k : Nat, k ≤ zs.length ∧ i = .int .i64 k ∧ ∃ v2, Hid (PS wr B q v2 (l ++ P8 zs.length ++ (zs.take k).flatMap P8) ∧ PF q w wr v v2)) (fun i _ => zs.length - (intOf i).toNat)
  case atStart => exact ⟨0, Nat.zero_le _, rfl, v1, by simpa using X.out.1, X.out.2⟩
  case round =>
    clear X hfc
    obtain ⟨k, hk, rfl, v2, Y⟩ := hrel
    by_cases hlt : k < zs.length
    · have hix := jx22 ad b off zs.length cap k hlt (fun h => (HA.out.1 h).1)
      obtain ⟨hadb, hAb⟩ := HA.out.1 (by omega)
      obtain ⟨hb1, hb2, hb3⟩ := HA.out.2.1 b hAb
      obtain ⟨x, hx⟩ : ∃ x, Hid (x = zs.getD k 0) := ⟨_, rfl⟩
      have hcx : wr.cell? ⟨b, off + k, none⟩ = some (.int .i64 x) := by
        rw [cell_of_block (Y.out.2.block b hb1 hb2 hb3), hx.out]; exact HA.out.2.2 k hlt
      have hfr : wr.heap[f]? = some (.cells #[putV q] 60 (0, 0)) := by
        rw [Y.out.2.block f H.out.2.2 HFQ.out H.out.2.1]; exact H.out.1
      have hfc := (cel hfr 0 _ rfl).1
      unfold putV at hfc
      have hmem : zs.getD k 0 ∈ zs := by rw [List.getD_eq_getElem?_getD, List.getElem?_eq_getElem hlt]; exact List.getElem_mem hlt
      have hx64 := HZ.out _ hmem
      rw [← hx.out] at hx64
      have hlen : (l ++ P8 zs.length ++ (zs.take k).flatMap P8).length ≤ 1000000000 := by
        have h1 := P8_ten (z := (zs.length : Int)) (by omega) (by omega)
        have h2 : ((zs.take k).flatMap P8).length ≤ 10 * (zs.take k).length := by
          have : ∀ m : List Int, (∀ z ∈ m, -9223372036854775808 ≤ z ∧ z ≤ 9223372036854775807) → (m.flatMap P8).length ≤ 10 * m.length := by
            intro m
            induction m with
            | nil => intro _; simp
            | cons y m ih =>
              intro hm
              have h1 := ih fun z hz => hm z (by simp [hz])
              have h2 := P8_ten (hm y (by simp)).1 (hm y (by simp)).2
              simp only [List.flatMap_cons, List.length_append, List.length_cons]
              omega
          exact this _ fun z hz => HZ.out z (List.mem_of_mem_take hz)
        have h3 : (zs.take k).length ≤ zs.length := by simp; omega
        simp only [List.length_append]
        omega
      have hp : Calls Tryd.prog 20 #[.int .i64 x, .pointer (some ⟨q, 0, none⟩)] wr fun e w' => e = .returned (.tuple #[]) ∧ ∃ v', Hid (PS w' B q v' (l ++ P8 zs.length ++ (zs.take k).flatMap P8 ++ P8 x) ∧ PF q wr w' v2 v') :=
        putB_any x wr Y.out.1 (Nat.le_trans hB Y.out.2.size) hlen hx64.1 hx64.2
      clear hfr hmem hx64 hlen hb1 hb2 hb3 hadb hAb
      go_wp2_with (go_at_call 20; refine hp.mono ?_; rintro e w' ⟨rfl, v3, Z⟩; clear hp)
      go_roundw
      case rel =>
        refine ⟨k + 1, by omega, by go_num, v3, ?_, Y.out.2.trans Z.out.2⟩
        have e : (zs.take (k + 1)).flatMap P8 = (zs.take k).flatMap P8 ++ P8 x := by
          rw [List.take_add_one, List.flatMap_append, hx.out, List.getD_eq_getElem?_getD, List.getElem?_eq_getElem hlt]
          simp
        rw [e, ← List.append_assoc]
        exact Z.out.1
      case measure => simp [intOf]; omega
    · obtain rfl : k = zs.length := by omega
      go_wp2_with fail
      go_end0
      refine ⟨rfl, v2, ?_, Y.out.2⟩
      have := Y.out.1
      rw [List.take_length, List.append_assoc] at this
      exact this
end Ix
end Go.Proofs.YtalfelkblbbmpaaDoor
