/- the document's WriteImage: its closures, and what steps ask. -/
import Derived.Test.YtalfelkblbbmpaaDoorIf
import Derived.Test.YtalfelkblbbmpaaDoorIr
import Derived.Test.YtalfelkblbbmpaaDoorNr2
namespace Go.Proofs.YtalfelkblbbmpaaDoor
open Go.RowKit
namespace Ix
open Nx

/-- a number is PUT behind what was written -/
theorem pw_any (b : Nat) (l : List UInt8) (z : Int) (W : World) (h : Bld W b l) (hl : l.length ≤ 1000000000) (hb : b ≤ W.heap.size) (h1 : -9223372036854775808 ≤ z) (h2 : z ≤ 9223372036854775807) :
    Calls Tryd.prog 14 #[.int .i64 z] W fun e W1 => e = .returned (.string (str (P8 z))) ∧ Calls Tryd.prog 13 #[.pointer (some ⟨b, 0, none⟩), .string (str (P8 z))] W1 fun e W2 => ∃ x, e = .returned x ∧ Hid (Bld W2 b (l ++ P8 z) ∧ Below b W W2 ∧ Lib.OthersKept 5 (some b) W W2) := by
  refine (putR_any z W h1 h2).mono fun e W1 ⟨he, hB⟩ => ⟨he, ?_⟩
  have h10 := P8_ten h1 h2
  refine (ws_any b l (str (P8 z)) W1 (h.below hB) (by rw [str_size]; omega) (Nat.le_trans hb hB.size)).mono fun e W2 ⟨he, h3, h4, h5⟩ => ⟨_, he, h3, (hB.mono hb).trans h4, ?_⟩
  intro k o hk hne ho
  exact h5 k o (by rw [hB.block k (lt_of_block hk)]; exact hk) hne ho

set_option maxHeartbeats 1000000 in
theorem big_any (b : Nat) (l : List UInt8) (vz : Value) (zs : List Int) (w : World) (h : Bld w b l) (hb : b ≤ w.heap.size) (hl : l.length ≤ 1000000) (hn : zs.length ≤ 4000) (hz : Ints (fun c => c < b) w vz zs) (h64 : N64 zs) :
    Calls Tryd.prog 15 #[vz, .pointer (some ⟨b, 0, none⟩)] w fun e w' => e = .returned (.tuple #[]) ∧ Hid (Bld w' b (l ++ pl zs) ∧ Below b w w') := by
  obtain ⟨ad, bb, off, cap, rfl, ha, hc⟩ := hz
  have hp0 := pw_any b l zs.length w h (by omega) hb (by omega) (by omega)
  have HA : Hid ((0 < zs.length → ad = some ⟨bb, off, none⟩ ∧ bb < b) ∧ ∀ k, k < zs.length → w.cell? ⟨bb, off + k, none⟩ = some (.int .i64 (zs.getD k 0))) := ⟨ha, hc⟩
  have HZ : Hid (N64 zs) := h64
  have HBW : Hid (b ≤ w.heap.size) := hb
  obtain ⟨S0, hS0⟩ : ∃ S, Hid (S = str (P8 zs.length)) := ⟨_, rfl⟩
  rw [← hS0.out] at hp0
  clear h ha hc h64 hb
  go_enter Tryd.func15, Tryd.ntmps15
  go_wp2_with (first | (go_at_call 14; refine hp0.mono ?_; rintro e W1 ⟨rfl, hd⟩; clear hp0) | (go_at_call 13; refine hd.mono ?_; rintro e W2 ⟨x, rfl, X⟩; clear hd))
  go_loopw [11] (fun i wr => ∃ k : Nat, k ≤ zs.length ∧ i = .int .i64 k ∧ Hid (Bld wr b (l ++ P8 zs.length ++ (zs.take k).flatMap P8) ∧ Below b w wr)) (fun i _ => zs.length - (intOf i).toNat)
  case atStart => exact ⟨0, Nat.zero_le _, rfl, by simpa using X.out.1, X.out.2.1⟩
  case round =>
    clear X
    obtain ⟨k, hk, rfl, Y⟩ := hrel
    by_cases hlt : k < zs.length
    · have hix := jx22 ad bb off zs.length cap k hlt (fun h => (HA.out.1 h).1)
      have hAb := (HA.out.1 (by omega)).2
      obtain ⟨y, hy⟩ : ∃ y, Hid (y = zs.getD k 0) := ⟨_, rfl⟩
      have hcx : wr.cell? ⟨bb, off + k, none⟩ = some (.int .i64 y) := by
        rw [cell_of_block (Y.out.2.block bb hAb), hy.out]; exact HA.out.2 k hlt
      have hmem : zs.getD k 0 ∈ zs := by rw [List.getD_eq_getElem?_getD, List.getElem?_eq_getElem hlt]; exact List.getElem_mem hlt
      have hx64 := HZ.out _ hmem
      rw [← hy.out] at hx64
      have hlen : (l ++ P8 zs.length ++ (zs.take k).flatMap P8).length ≤ 1000000000 := by
        have h1 := P8_ten (z := (zs.length : Int)) (by omega) (by omega)
        have h2 := pl_len (zs.take k) fun z hz => HZ.out z (List.mem_of_mem_take hz)
        have h3 : (zs.take k).length ≤ zs.length := by simp; omega
        simp only [List.length_append]
        omega
      have hp := pw_any b _ y wr Y.out.1 hlen (Nat.le_trans HBW.out Y.out.2.size) hx64.1 hx64.2
      obtain ⟨S1, hS1⟩ : ∃ S, Hid (S = str (P8 y)) := ⟨_, rfl⟩
      rw [← hS1.out] at hp
      clear hmem hx64 hlen hAb
      go_wp2_with (first | (go_at_call 14; refine hp.mono ?_; rintro e W1 ⟨rfl, hd⟩; clear hp) | (go_at_call 13; refine hd.mono ?_; rintro e W2 ⟨x, rfl, Z⟩; clear hd))
      go_roundw
      case rel =>
        refine ⟨k + 1, by omega, by go_num, ?_, Y.out.2.trans Z.out.2.1⟩
        have e : (zs.take (k + 1)).flatMap P8 = (zs.take k).flatMap P8 ++ P8 y := by
          rw [List.take_add_one, List.flatMap_append, hy.out, List.getD_eq_getElem?_getD, List.getElem?_eq_getElem hlt]
          simp
        rw [e, ← List.append_assoc]
        exact Z.out.1
      case measure => simp [intOf]; omega
    · obtain rfl : k = zs.length := by omega
      go_wp2_with fail
      go_end0
      refine ⟨rfl, ?_, Y.out.2⟩
      have := Y.out.1
      rw [List.take_length, List.append_assoc] at this
      exact this

set_option maxHeartbeats 1000000 in
theorem small_any (b : Nat) (l : List UInt8) (vz : Value) (zs : List Int) (w : World) (h : Bld w b l) (hb : b ≤ w.heap.size) (hl : l.length ≤ 1000000) (hn : zs.length ≤ 4000) (hz : Ints (fun c => c < b) w vz zs) (h64 : N64 zs) :
    Calls Tryd.prog 16 #[vz, .pointer (some ⟨b, 0, none⟩)] w fun e w' => e = .returned (.tuple #[]) ∧ Hid (Bld w' b (l ++ pl zs) ∧ Below b w w') := by
  obtain ⟨ad, bb, off, cap, rfl, ha, hc⟩ := hz
  have hp0 := pw_any b l zs.length w h (by omega) hb (by omega) (by omega)
  have HA : Hid ((0 < zs.length → ad = some ⟨bb, off, none⟩ ∧ bb < b) ∧ ∀ k, k < zs.length → w.cell? ⟨bb, off + k, none⟩ = some (.int .i64 (zs.getD k 0))) := ⟨ha, hc⟩
  have HZ : Hid (N64 zs) := h64
  have HBW : Hid (b ≤ w.heap.size) := hb
  obtain ⟨S0, hS0⟩ : ∃ S, Hid (S = str (P8 zs.length)) := ⟨_, rfl⟩
  rw [← hS0.out] at hp0
  clear h ha hc h64 hb
  go_enter Tryd.func16, Tryd.ntmps16
  go_wp2_with (first | (go_at_call 14; refine hp0.mono ?_; rintro e W1 ⟨rfl, hd⟩; clear hp0) | (go_at_call 13; refine hd.mono ?_; rintro e W2 ⟨x, rfl, X⟩; clear hd))
  go_loopw [11] (fun i wr => ∃ k : Nat, k ≤ zs.length ∧ i = .int .i64 k ∧ Hid (Bld wr b (l ++ P8 zs.length ++ (zs.take k).flatMap P8) ∧ Below b w wr)) (fun i _ => zs.length - (intOf i).toNat)
  case atStart => exact ⟨0, Nat.zero_le _, rfl, by simpa using X.out.1, X.out.2.1⟩
  case round =>
    clear X
    obtain ⟨k, hk, rfl, Y⟩ := hrel
    by_cases hlt : k < zs.length
    · have hix := jx23 ad bb off zs.length cap k hlt (fun h => (HA.out.1 h).1)
      have hAb := (HA.out.1 (by omega)).2
      obtain ⟨y, hy⟩ : ∃ y, Hid (y = zs.getD k 0) := ⟨_, rfl⟩
      have hcx : wr.cell? ⟨bb, off + k, none⟩ = some (.int .i64 y) := by
        rw [cell_of_block (Y.out.2.block bb hAb), hy.out]; exact HA.out.2 k hlt
      have hmem : zs.getD k 0 ∈ zs := by rw [List.getD_eq_getElem?_getD, List.getElem?_eq_getElem hlt]; exact List.getElem_mem hlt
      have hx64 := HZ.out _ hmem
      rw [← hy.out] at hx64
      have hlen : (l ++ P8 zs.length ++ (zs.take k).flatMap P8).length ≤ 1000000000 := by
        have h1 := P8_ten (z := (zs.length : Int)) (by omega) (by omega)
        have h2 := pl_len (zs.take k) fun z hz => HZ.out z (List.mem_of_mem_take hz)
        have h3 : (zs.take k).length ≤ zs.length := by simp; omega
        simp only [List.length_append]
        omega
      have hp := pw_any b _ y wr Y.out.1 hlen (Nat.le_trans HBW.out Y.out.2.size) hx64.1 hx64.2
      obtain ⟨S1, hS1⟩ : ∃ S, Hid (S = str (P8 y)) := ⟨_, rfl⟩
      rw [← hS1.out] at hp
      clear hmem hx64 hlen hAb
      go_wp2_with (first | (go_at_call 14; refine hp.mono ?_; rintro e W1 ⟨rfl, hd⟩; clear hp) | (go_at_call 13; refine hd.mono ?_; rintro e W2 ⟨x, rfl, Z⟩; clear hd))
      go_roundw
      case rel =>
        refine ⟨k + 1, by omega, by go_num, ?_, Y.out.2.trans Z.out.2.1⟩
        have e : (zs.take (k + 1)).flatMap P8 = (zs.take k).flatMap P8 ++ P8 y := by
          rw [List.take_add_one, List.flatMap_append, hy.out, List.getD_eq_getElem?_getD, List.getElem?_eq_getElem hlt]
          simp
        rw [e, ← List.append_assoc]
        exact Z.out.1
      case measure => simp [intOf]; omega
    · obtain rfl : k = zs.length := by omega
      go_wp2_with fail
      go_end0
      refine ⟨rfl, ?_, Y.out.2⟩
      have := Y.out.1
      rw [List.take_length, List.append_assoc] at this
      exact this

theorem new2 (w : World) (o o2 : Obj) : ((w.alloc o).alloc o2).heap[w.heap.size + 1]? = some o2 := by
  have := heap_alloc_new (w.alloc o) o2
  simpa using this
/-- a slice of numbers in a block of its own -/
def IntsT (w : World) (B : Nat) (v : Value) (zs : List Int) : Prop :=
  (zs = [] ∧ v = .slice none 0 0) ∨ ∃ g cap, v = .slice (some ⟨g, 0, none⟩) zs.length cap ∧ B ≤ g ∧ w.heap[g]? = some (.cells (zs.map (Value.int .i64)).toArray 3 (0, 0))

set_option maxHeartbeats 1000000 in
theorem asksT_any (code dst a b c : Int) (w : World) :
    Calls Tryd.prog 17 #[.agg #[.int .i64 code, .int .i64 dst, .int .i64 a, .int .i64 b, .int .i64 c]] w fun e w' => ∃ v, e = .returned v ∧ IntsT w' w.heap.size v (asks ⟨code, dst, a, b, c⟩) ∧ Below w.heap.size w w' := by
  have hb0 := fun o => grown_one w o
  by_cases h1 : code = 2 ∨ code = 4 ∨ code = 5
  · have E : Hid (asks ⟨code, dst, a, b, c⟩ = [a]) := by unfold Hid asks; rw [if_pos h1]
    rcases h1 with rfl | rfl | rfl
    all_goals
      go_enter Tryd.func17, Tryd.ntmps17
      go_wp2
      go_ret
      refine ⟨_, rfl, ?_, ball (hb0 _) (grown_one _ _)⟩
      rw [E.out]
      refine .inr ⟨w.heap.size + 1, _, rfl, by omega, ?_⟩
      exact new2 _ _ _
  · by_cases h2 : 6 ≤ code ∧ code ≤ 16
    · have E : Hid (asks ⟨code, dst, a, b, c⟩ = [a, b]) := by unfold Hid asks; rw [if_neg h1, if_pos h2]
      have hin := fun W => in_any code 6 16 W
      rw [show (decide (6 ≤ code) && decide (code ≤ 16)) = true by simp; omega] at hin
      obtain ⟨h3, h4⟩ := h2
      clear h1
      have t2 : (code == 2) = false := by simp; omega
      have t4 : (code == 4) = false := by simp; omega
      have t5 : (code == 5) = false := by simp; omega
      go_enter Tryd.func17, Tryd.ntmps17
      go_wp2_with (go_at_call 35; refine (hin _).mono ?_; rintro e w' ⟨rfl, hw⟩; obtain rfl := hw.symm)
      go_ret
      refine ⟨_, rfl, ?_, ball (hb0 _) (grown_one _ _)⟩
      rw [E.out]
      refine .inr ⟨w.heap.size + 1, _, rfl, by omega, ?_⟩
      exact new2 _ _ _
    · by_cases h3 : code = 17
      · have E : Hid (asks ⟨code, dst, a, b, c⟩ = [a, b, c]) := by unfold Hid asks; rw [if_neg h1, if_neg h2, if_pos h3]
        subst h3
        clear h1 h2
        have hin := fun W => in_any 17 6 16 W
        rw [show (decide ((6 : Int) ≤ 17) && decide ((17 : Int) ≤ 16)) = false by decide] at hin
        go_enter Tryd.func17, Tryd.ntmps17
        go_wp2_with (go_at_call 35; refine (hin _).mono ?_; rintro e w' ⟨rfl, hw⟩; obtain rfl := hw.symm)
        go_ret
        refine ⟨_, rfl, ?_, ball (hb0 _) (grown_one _ _)⟩
        rw [E.out]
        refine .inr ⟨w.heap.size + 1, _, rfl, by omega, ?_⟩
        exact new2 _ _ _
      · have E : Hid (asks ⟨code, dst, a, b, c⟩ = []) := by unfold Hid asks; rw [if_neg h1, if_neg h2, if_neg h3]
        have t2 : (code == 2) = false := by simp; omega
        have t4 : (code == 4) = false := by simp; omega
        have t5 : (code == 5) = false := by simp; omega
        have t17 : (code == 17) = false := by simp; omega
        have hin := fun W => in_any code 6 16 W
        rw [show (decide (6 ≤ code) && decide (code ≤ 16)) = false by simp; omega] at hin
        clear h1 h3
        by_cases h6 : 6 ≤ code
        · have h16 : 16 < code := by omega
          clear h2
          go_enter Tryd.func17, Tryd.ntmps17
          go_wp2_with (go_at_call 35; refine (hin _).mono ?_; rintro e w' ⟨rfl, hw⟩; obtain rfl := hw.symm)
          go_ret
          exact ⟨_, rfl, by rw [E.out]; exact .inl ⟨rfl, rfl⟩, hb0 _⟩
        · have h16 : code < 6 := by omega
          clear h2
          go_enter Tryd.func17, Tryd.ntmps17
          go_wp2_with (go_at_call 35; refine (hin _).mono ?_; rintro e w' ⟨rfl, hw⟩; obtain rfl := hw.symm)
          go_ret
          exact ⟨_, rfl, by rw [E.out]; exact .inl ⟨rfl, rfl⟩, hb0 _⟩
end Ix
end Go.Proofs.YtalfelkblbbmpaaDoor
