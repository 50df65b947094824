/- the document's Put. -/
import Derived.Test.YtalfelkblbbmpaaDoorIb
namespace Go.Proofs.YtalfelkblbbmpaaDoor
open Go.RowKit
namespace Ix
open Nx

def str (l : List UInt8) : ByteArray := ⟨l.toArray⟩
theorem str_size (l : List UInt8) : (str l).size = l.length := by simp [str, ByteArray.size]
theorem str_app (l m : List UInt8) : str l ++ str m = str (l ++ m) := by
  apply ByteArray.ext
  simp [str]
theorem run_conv1 (W : World) (b : UInt8) : (convert 46 9 (.slice (some ⟨W.heap.size, 0, none⟩) 1 1)).run Tryd.prog (W.alloc (.cells #[.int .u8 (b.toNat : Int)] 5)) = .ok (.string (str [b])) (W.alloc (.cells #[.int .u8 (b.toNat : Int)] 5)) :=
  run_convert_bytes_back _ _ _ 5 ⟨W.heap.size, 0, none⟩ 1 [b] Tryd.underlying46 Tryd.underlying5 Tryd.underlying9 (fun j hj => by
    have : j = 0 := by simpa using hj
    subst this
    exact cell_new1 W _ _)
theorem below_alloc1 {w w1 : World} (h : Below w.heap.size w w1) (o : Obj) : Below w.heap.size w (w1.alloc o) := h.alloc h.size o

set_option maxRecDepth 20000 in
set_option maxHeartbeats 1000000 in
theorem putR_any (z : Int) (w : World) (h1 : -9223372036854775808 ≤ z) (h2 : z ≤ 9223372036854775807) :
    Calls Tryd.prog 14 #[.int .i64 z] w fun e w' => e = .returned (.string (str (P8 z))) ∧ Below w.heap.size w w' := by
  have hten := P8_ten h1 h2
  obtain ⟨u0, hu0⟩ : ∃ u0, Hid (u0 = wv z) := ⟨_, rfl⟩
  have hlt := wv_lt h1 h2
  rw [← hu0.out] at hlt
  have HT : Hid ((P8 z).length ≤ 10) := hten
  clear hten
  by_cases hz : z < 0
  case pos =>
    have e3 : IntKind.u64.wrap (IntKind.u64.wrap (IntKind.u64.wrap (-(IntKind.u64.wrap z)) * 2) - 1) = (u0 : Int) := by
      rw [hu0.out]
      simp only [IntKind.wrap_u64]
      unfold wv
      rw [if_pos hz]
      omega
    go_enter Tryd.func14, Tryd.ntmps14
    go_wp2_with fail
    clear e3
    go_loopw [3, 4] (fun a b wr => ∃ (m : List UInt8) (u : Nat) (T : ByteArray), a = .int .u64 u ∧ b = .string T ∧ u < 18446744073709551616 ∧ Hid (T = str m ∧ P8 z = m ++ pb u ∧ Below w.heap.size w wr)) (fun a _ _ => (intOf a).toNat)
    case atStart => exact ⟨[], u0, ⟨#[]⟩, rfl, rfl, hlt, rfl, by rw [hu0.out]; rfl, Below.refl _ _⟩
    case round =>
      obtain ⟨m, u, T, rfl, rfl, hu, X⟩ := hrel
      have hT : T.size ≤ 10 := by
        have e := congrArg List.length X.out.2.1
        have := HT.out
        rw [X.out.1, str_size]
        simp only [List.length_append] at e
        omega
      by_cases h128 : u < 128
      · obtain ⟨b, hb⟩ : ∃ b : UInt8, Hid (b = UInt8.ofNat u) := ⟨_, rfl⟩
        have hc3 : Hid ((u : Int) = (b.toNat : Int)) := by
          have : (u : Int) = (b.toNat : Int) := by rw [hb.out]; simp; omega
          exact this
        have kb : (convert 46 9 (.slice (some ⟨wr.heap.size, 0, none⟩) 1 1)).run Tryd.prog (wr.alloc (.cells #[.int .u8 (u : Int)] 5)) = .ok (.string (str [b])) (wr.alloc (.cells #[.int .u8 (u : Int)] 5)) := by
          rw [hc3.out]; exact run_conv1 wr b
        obtain ⟨S1, hS1⟩ : ∃ S1, Hid (S1 = str [b]) := ⟨_, rfl⟩
        rw [← hS1.out] at kb
        have hsz : S1.size = 1 := by rw [hS1.out, str_size]; rfl
        have hadd : ¬ 9223372036854775807 < T.size + S1.size := by omega
        go_wp2_with fail
        go_ret
        refine ⟨?_, below_alloc1 X.out.2.2 _⟩
        rw [X.out.2.1, pb_one h128, ← hb.out, ← str_app, ← X.out.1, ← hS1.out]
        rfl
      · obtain ⟨b, hb⟩ : ∃ b : UInt8, Hid (b = UInt8.ofNat (u % 128 + 128)) := ⟨_, rfl⟩
        have hc : (u : Int) % 128 + 128 = (b.toNat : Int) := by
          rw [hb.out, UInt8.toNat_ofNat_of_lt' (by show _ < 256; omega)]
          omega
        have kb := run_conv1 wr b
        obtain ⟨S1, hS1⟩ : ∃ S1, Hid (S1 = str [b]) := ⟨_, rfl⟩
        rw [← hS1.out] at kb
        have hsz : S1.size = 1 := by rw [hS1.out, str_size]; rfl
        have hadd : ¬ 9223372036854775807 < T.size + S1.size := by omega
        go_wp2_with fail
        go_roundw
        case rel =>
          refine ⟨m ++ [b], u / 128, T ++ S1, by go_num, rfl, by omega, ?_, ?_, below_alloc1 X.out.2.2 _⟩
          · rw [X.out.1, hS1.out, str_app]
          · rw [X.out.2.1, pb_more h128, ← hb.out]
            simp
        case measure => simp [intOf]; omega
  case neg =>
    have e3 : z * 2 = (u0 : Int) := by
      rw [hu0.out]
      unfold wv
      rw [if_neg hz]
      omega
    go_enter Tryd.func14, Tryd.ntmps14
    go_wp2_with fail
    clear e3
    go_loopw [3, 4] (fun a b wr => ∃ (m : List UInt8) (u : Nat) (T : ByteArray), a = .int .u64 u ∧ b = .string T ∧ u < 18446744073709551616 ∧ Hid (T = str m ∧ P8 z = m ++ pb u ∧ Below w.heap.size w wr)) (fun a _ _ => (intOf a).toNat)
    case atStart => exact ⟨[], u0, ⟨#[]⟩, rfl, rfl, hlt, rfl, by rw [hu0.out]; rfl, Below.refl _ _⟩
    case round =>
      obtain ⟨m, u, T, rfl, rfl, hu, X⟩ := hrel
      have hT : T.size ≤ 10 := by
        have e := congrArg List.length X.out.2.1
        have := HT.out
        rw [X.out.1, str_size]
        simp only [List.length_append] at e
        omega
      by_cases h128 : u < 128
      · obtain ⟨b, hb⟩ : ∃ b : UInt8, Hid (b = UInt8.ofNat u) := ⟨_, rfl⟩
        have hc3 : Hid ((u : Int) = (b.toNat : Int)) := by
          have : (u : Int) = (b.toNat : Int) := by rw [hb.out]; simp; omega
          exact this
        have kb : (convert 46 9 (.slice (some ⟨wr.heap.size, 0, none⟩) 1 1)).run Tryd.prog (wr.alloc (.cells #[.int .u8 (u : Int)] 5)) = .ok (.string (str [b])) (wr.alloc (.cells #[.int .u8 (u : Int)] 5)) := by
          rw [hc3.out]; exact run_conv1 wr b
        obtain ⟨S1, hS1⟩ : ∃ S1, Hid (S1 = str [b]) := ⟨_, rfl⟩
        rw [← hS1.out] at kb
        have hsz : S1.size = 1 := by rw [hS1.out, str_size]; rfl
        have hadd : ¬ 9223372036854775807 < T.size + S1.size := by omega
        go_wp2_with fail
        go_ret
        refine ⟨?_, below_alloc1 X.out.2.2 _⟩
        rw [X.out.2.1, pb_one h128, ← hb.out, ← str_app, ← X.out.1, ← hS1.out]
        rfl
      · obtain ⟨b, hb⟩ : ∃ b : UInt8, Hid (b = UInt8.ofNat (u % 128 + 128)) := ⟨_, rfl⟩
        have hc : (u : Int) % 128 + 128 = (b.toNat : Int) := by
          rw [hb.out, UInt8.toNat_ofNat_of_lt' (by show _ < 256; omega)]
          omega
        have kb := run_conv1 wr b
        obtain ⟨S1, hS1⟩ : ∃ S1, Hid (S1 = str [b]) := ⟨_, rfl⟩
        rw [← hS1.out] at kb
        have hsz : S1.size = 1 := by rw [hS1.out, str_size]; rfl
        have hadd : ¬ 9223372036854775807 < T.size + S1.size := by omega
        go_wp2_with fail
        go_roundw
        case rel =>
          refine ⟨m ++ [b], u / 128, T ++ S1, by go_num, rfl, by omega, ?_, ?_, below_alloc1 X.out.2.2 _⟩
          · rw [X.out.1, hS1.out, str_app]
          · rw [X.out.2.1, pb_more h128, ← hb.out]
            simp
        case measure => simp [intOf]; omega
end Ix
end Go.Proofs.YtalfelkblbbmpaaDoor
