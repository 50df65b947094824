/- the document's taker: a number. -/
import Derived.Test.YtalfelkblbbmpaaDoorJIp
import Derived.Test.YtalfelkblbbmpaaDoorIq
import Derived.Test.YtalfelkblbbmpaaDoorIh
import Derived.Test.YtalfelkblbbmpaaDoorNj
namespace Go.Proofs.YtalfelkblbbmpaaDoor
open Go.RowKit
namespace Ix
open Nx

/-- a taker: what is left, and whether something was wrong -/
def TkS (w : World) (b : Nat) (s : List UInt8) (bad : Bool) : Prop := w.heap[b]? = some (.cells #[.string (str s), .bool bad] 72 (0, 0))
theorem vb_add (s : List UInt8) (k c : Nat) (hc : c = (s.getD k 0).toNat) : (vb s k + (c % 128 * 2 ^ (7 * k)) % 18446744073709551616) % 18446744073709551616 = vb s (k + 1) := by
  rw [vb, ← hc, Nat.add_mod_mod]

set_option maxRecDepth 20000 in
set_option maxHeartbeats 2000000 in
theorem one_any' (b : Nat) (s : List UInt8) (bad : Bool) (w : World) (h : TkS w b s bad) (hs : s.length ≤ 1000000000) :
    Calls Tryd.prog 45 #[.pointer (some ⟨b, 0, none⟩)] w fun e w' => ∃ z s' bad', e = .returned (.int .i64 z) ∧ TkS w' b s' bad' ∧ Fr w.heap.size [b] w w' ∧ ((tk s = some (z, s') ∧ bad' = bad) ∨ (tk s = none ∧ z = 0 ∧ s' = [] ∧ bad' = true)) := by
  obtain ⟨T, hT0⟩ : ∃ T, T = str s := ⟨_, rfl⟩
  have hTs : T.size = s.length := by rw [hT0, str_size]
  have hT : Hid (T = str s) := hT0
  obtain ⟨c0, f0⟩ := cel h 0 _ rfl
  obtain ⟨c1, f1⟩ := cel h 1 _ rfl
  have c0' : w.cell? ⟨b, 0, none⟩ = some (.string T) := by rw [hT0]; exact c0
  have c1' : w.cell? ⟨b, 1, none⟩ = some (.bool bad) := c1
  have H : Hid (TkS w b s bad) := h
  have HTs : Hid (T.size = s.length) := hTs
  have hTb : T.size ≤ 1000000000 := by omega
  clear h c0 c1 hT0 hTs
  go_enter Tryd.func45, Tryd.ntmps45
  go_upto_region 3 with fail
  go_loopw [3, 4] (fun a i wr => ∃ (k : Nat) (u : Nat), k ≤ 10 ∧ i = .int .i64 k ∧ a = .int .u64 u ∧ u < 18446744073709551616 ∧ wr = w ∧ Hid (k ≤ T.size ∧ u = vb s k ∧ tk s = tkF s (10 - k) k)) (fun _ i _ => 10 - (intOf i).toNat)
  case atStart => exact ⟨0, 0, Nat.zero_le _, rfl, rfl, by decide, rfl, Nat.zero_le _, rfl, rfl⟩
  case round =>
    obtain ⟨k, u, hk, rfl, rfl, hu, rfl, X⟩ := hrel
    have hw5 : IntKind.i64.wrap ((k : Int) + 1) = (k : Int) + 1 := by simp only [IntKind.wrap, IntKind.bits, IntKind.signed]; simp; omega
    by_cases h10 : k < 10
    · by_cases hkT : k < T.size
      · obtain ⟨c, hc⟩ : ∃ c, c = T[k].toNat := ⟨_, rfl⟩
        have hkI : (k : Int) < (T.size : Int) := by omega
        have hc2 : c = (s.getD k 0).toNat := by
          rw [hc]
          have := hT.out
          subst this
          exact str_get s k hkT
        have hc256 : c < 256 := by rw [hc]; exact T[k].toNat_lt
        obtain ⟨u2, hu2⟩ : ∃ u2, Hid (u2 = vb s (k + 1)) := ⟨_, rfl⟩
        have hu2lt : u2 < 18446744073709551616 := by rw [hu2.out]; exact vb_lt _ _
        have hwc : IntKind.u64.wrap (c : Int) = (c : Int) := by rw [IntKind.wrap_u64]; omega
        have hor : IntKind.u64.wrap ((u : Int) + IntKind.u64.wrap ((IntKind.u64.wrap (c : Int)).tmod 128 * 2 ^ (7 * k))) = (u2 : Int) := by
          have e3 : ((c % 128 : Nat) : Int) * 2 ^ (7 * k) % 18446744073709551616 = ((c % 128 * 2 ^ (7 * k) % 18446744073709551616 : Nat) : Int) := by
            rw [Int.natCast_emod (c % 128 * 2 ^ (7 * k)), Int.natCast_mul, Int.natCast_pow]
            rfl
          have e4 : (c : Int).tmod 128 = ((c % 128 : Nat) : Int) := by rw [Int.tmod_eq_emod_of_nonneg (by omega)]; omega
          rw [hwc, IntKind.wrap_u64, IntKind.wrap_u64, e4, e3, hu2.out, ← vb_add s k c hc2, ← X.out.2.1]
          omega
        have hor2 : IntKind.u64.wrap ((u : Int) + IntKind.u64.wrap ((c : Int) % 128 * 2 ^ (7 * k))) = (u2 : Int) := by
          rw [hwc, Int.tmod_eq_emod_of_nonneg (by omega)] at hor
          exact hor
        have hstep : Hid (tkF s (10 - k) k = if 128 ≤ c then tkF s (10 - (k + 1)) (k + 1) else if P8 (uv u2) = s.take (k + 1) then some (uv u2, s.drop (k + 1)) else none) := by
          have e : 10 - k = (10 - (k + 1)) + 1 := by omega
          have : tkF s (10 - k) k = if 128 ≤ c then tkF s (10 - (k + 1)) (k + 1) else if P8 (uv u2) = s.take (k + 1) then some (uv u2, s.drop (k + 1)) else none := by
            rw [e, tkF, if_pos (by have := HTs.out; omega), ← hc2, hu2.out]
          exact this
        have HU : Hid (c = (s.getD k 0).toNat ∧ IntKind.u64.wrap (c : Int) = (c : Int)) := ⟨hc2, hwc⟩
        clear hc2
        by_cases h128 : 128 ≤ c
        · have hge : (128 : Int) ≤ IntKind.u64.wrap (c : Int) := by rw [hwc]; omega
          have hge2 : (128 : Int) ≤ (c : Int) := by omega
          have HG : Hid (128 ≤ c) := h128
          clear hwc
          rw [hc] at hor hge hor2 hge2 h128
          go_wp2_with fail
          go_roundw
          case rel =>
            refine ⟨k + 1, u2, by omega, by go_num, rfl, hu2lt, (by first | rfl | trivial), by omega, hu2.out, ?_⟩
            rw [X.out.2.2, hstep.out, if_pos HG.out]
          case measure => simp [intOf]; omega
        · have hlt : IntKind.u64.wrap (c : Int) < (128 : Int) := by rw [hwc]; omega
          have HC : Hid (¬ 128 ≤ c) := h128
          clear hwc h128 hor2
          rw [hc] at hor hlt
          have huf := uv_fits hu2lt
          obtain ⟨z, hz⟩ : ∃ z, Hid (z = uv u2) := ⟨_, rfl⟩
          rw [← hz.out] at huf
          have hput : Calls Tryd.prog 14 #[.int .i64 z] wr.drew fun e w' => ∃ S9 : ByteArray, e = .returned (.string S9) ∧ w'.cell? ⟨b, 0, none⟩ = some (.string T) ∧ w'.frozen? ⟨b, 0, none⟩ = false ∧ w'.cell? ⟨b, 1, none⟩ = some (.bool bad) ∧ w'.frozen? ⟨b, 1, none⟩ = false ∧ Hid (S9 = str (P8 z) ∧ Below wr.heap.size wr w' ∧ TkS w' b s bad) :=
            (putR_any z wr.drew huf.1 huf.2).mono fun e w' ⟨he, hb⟩ => by
              have hrd : TkS w' b s bad := by
                unfold TkS
                rw [hb.block b (lt_of_block H.out)]; exact H.out
              have hc00 := cel hrd 0 _ rfl
              have hc11 := cel hrd 1 _ rfl
              exact ⟨_, he, by rw [hT.out]; exact hc00.1, hc00.2, hc11.1, hc11.2, rfl, ⟨hb.os, hb.tape, hb.output, hb.size, hb.block⟩, hrd⟩
          have Hk : Hid (tk s = if P8 z = s.take (k + 1) then some (z, s.drop (k + 1)) else none) := by
            have := X.out.2.2
            rw [hstep.out, if_neg HC.out, ← hz.out] at this
            exact this
          obtain ⟨T2, hT2⟩ : ∃ T2, T2 = T.extract 0 (k + 1) := ⟨_, rfl⟩
          have hsl : ∀ W, (Instr.sliceAt 9 (.string T) none (some (.int .i64 ((k : Int) + 1))) none).run Tryd.prog W = .ok (.string T2) W := fun W => by
            rw [run_sliceAt_string W _ _ _ _ _ Tryd.underlying9, run_slice_string_h W _ T Tryd.underlying9 .i64 ((k : Int) + 1) (by omega) (by omega), hT2]
            rfl
          obtain ⟨T3, hT3⟩ : ∃ T3, T3 = T.extract (k + 1) T.size := ⟨_, rfl⟩
          have hsl2 : ∀ W, (Instr.sliceAt 9 (.string T) (some (.int .i64 ((k : Int) + 1))) none none).run Tryd.prog W = .ok (.string T3) W := fun W => by
            rw [run_sliceAt_string W _ _ _ _ _ Tryd.underlying9, run_slice_string_l W _ T Tryd.underlying9 .i64 ((k : Int) + 1) (by omega) (by omega), hT3]
            rfl
          have HT3 : Hid (T3 = str (s.drop (k + 1)) ∧ T2 = str (s.take (k + 1))) := by
            have e : T3 = str (s.drop (k + 1)) := by rw [hT3, hT.out]; exact str_drop s _
            have e' : T2 = str (s.take (k + 1)) := by rw [hT2, hT.out]; exact str_take s _
            exact ⟨e, e'⟩
          clear hT3 hT2 hc
          have hpar : u2 % 2 = 1 ∨ u2 % 2 = 0 := by omega
          rcases hpar with hpar | hpar
          · have h1 : ((u2 : Int) % 2 == 1) = true := by simp; omega
            have h2 : -((u2 : Int) / 2) - 1 = z := by rw [hz.out]; unfold uv; rw [if_pos hpar]; omega
            clear hpar
            go_upto_region 11 with fail
            go_region_held3 (fun w' => w'.cell? ⟨b, 0, none⟩ = some (.string T)) (first | exact d0 | exact c0' | go_keep)
              ((first | (go_at_call 14; refine hput.mono ?_; rintro e w6 ⟨S9, rfl, d0, g0, d1, g1, Y⟩; clear hput) | fail))
            all_goals
              by_cases heq : S9 = T2
              · subst heq
                have hq1 : (!(S9.toList == S9.toList)) = false := by simp
                have HEQ : Hid (P8 z = s.take (k + 1)) := str_inj (by rw [← Y.out.1]; exact HT3.out.2)
                go_wp2_with fail
                all_goals (first | (exfalso; simp at *; done) | skip)
                go_ret
                refine ⟨z, s.drop (k + 1), bad, rfl, ?_, (Fr.of_below Y.out.2.1 [b]).setCell (.inr (by simp)) _, .inl ⟨by rw [Hk.out, if_pos HEQ.out], rfl⟩⟩
                unfold TkS
                rw [← HT3.out.1]
                exact set_at Y.out.2.2 0 _
              · have hne1 : (S9.toList == T2.toList) = false := (Lib.bytes_beq_false_iff _ _).2 heq
                have hq1 : (!(S9.toList == T2.toList)) = true := by rw [hne1]; rfl
                have HNE : Hid (¬ P8 z = s.take (k + 1)) := fun e => heq (by rw [Y.out.1, HT3.out.2, e])
                clear heq
                go_wp2_with fail
                all_goals (try (exfalso; rename_i hx; rw [hne1] at hx; exact absurd hx (by decide)))
                go_ret
                refine ⟨0, [], true, rfl, set_at (set_at Y.out.2.2 1 _) 0 _, ((Fr.of_below Y.out.2.1 [b]).setCell (.inr (by simp)) _).setCell (.inr (by simp)) _, .inr ⟨by rw [Hk.out, if_neg HNE.out], rfl, rfl, rfl⟩⟩
          · have h1 : ((u2 : Int) % 2 == 1) = false := by simp; omega
            have h2 : (u2 : Int) / 2 = z := by rw [hz.out]; unfold uv; rw [if_neg (by omega)]; omega
            clear hpar
            go_upto_region 11 with fail
            go_region_held3 (fun w' => w'.cell? ⟨b, 0, none⟩ = some (.string T)) (first | exact d0 | exact c0' | go_keep)
              ((first | (go_at_call 14; refine hput.mono ?_; rintro e w6 ⟨S9, rfl, d0, g0, d1, g1, Y⟩; clear hput) | fail))
            all_goals
              by_cases heq : S9 = T2
              · subst heq
                have hq1 : (!(S9.toList == S9.toList)) = false := by simp
                have HEQ : Hid (P8 z = s.take (k + 1)) := str_inj (by rw [← Y.out.1]; exact HT3.out.2)
                go_wp2_with fail
                all_goals (first | (exfalso; simp at *; done) | skip)
                go_ret
                refine ⟨z, s.drop (k + 1), bad, rfl, ?_, (Fr.of_below Y.out.2.1 [b]).setCell (.inr (by simp)) _, .inl ⟨by rw [Hk.out, if_pos HEQ.out], rfl⟩⟩
                unfold TkS
                rw [← HT3.out.1]
                exact set_at Y.out.2.2 0 _
              · have hne1 : (S9.toList == T2.toList) = false := (Lib.bytes_beq_false_iff _ _).2 heq
                have hq1 : (!(S9.toList == T2.toList)) = true := by rw [hne1]; rfl
                have HNE : Hid (¬ P8 z = s.take (k + 1)) := fun e => heq (by rw [Y.out.1, HT3.out.2, e])
                clear heq
                go_wp2_with fail
                all_goals (try (exfalso; rename_i hx; rw [hne1] at hx; exact absurd hx (by decide)))
                go_ret
                refine ⟨0, [], true, rfl, set_at (set_at Y.out.2.2 1 _) 0 _, ((Fr.of_below Y.out.2.1 [b]).setCell (.inr (by simp)) _).setCell (.inr (by simp)) _, .inr ⟨by rw [Hk.out, if_neg HNE.out], rfl, rfl, rfl⟩⟩
      · have hkI : (T.size : Int) ≤ (k : Int) := by omega
        clear hkT
        have HNO : Hid (tk s = none) := by
          have : tk s = none := by
            rw [X.out.2.2]
            exact tkF_out s _ _ (by have := HTs.out; omega)
          exact this
        go_wp2_with fail
        go_ret
        first | exact ⟨0, rfl, [], true, set_at (set_at H.out 1 _) 0 _, ((Fr.refl _ _ _).setCell (.inr (by simp)) _).setCell (.inr (by simp)) _, .inr ⟨HNO.out, rfl, rfl, rfl⟩⟩ | exact ⟨0, [], true, rfl, set_at (set_at H.out 1 _) 0 _, ((Fr.refl _ _ _).setCell (.inr (by simp)) _).setCell (.inr (by simp)) _, .inr ⟨HNO.out, rfl, rfl, rfl⟩⟩
    · obtain rfl : k = 10 := by omega
      have HNO : Hid (tk s = none) := by
        have : tk s = none := by
          rw [X.out.2.2]
          rfl
        exact this
      go_wp2_with fail
      go_ret
      first | exact ⟨0, rfl, [], true, set_at (set_at H.out 1 _) 0 _, ((Fr.refl _ _ _).setCell (.inr (by simp)) _).setCell (.inr (by simp)) _, .inr ⟨HNO.out, rfl, rfl, rfl⟩⟩ | exact ⟨0, [], true, rfl, set_at (set_at H.out 1 _) 0 _, ((Fr.refl _ _ _).setCell (.inr (by simp)) _).setCell (.inr (by simp)) _, .inr ⟨HNO.out, rfl, rfl, rfl⟩⟩
end Ix
end Go.Proofs.YtalfelkblbbmpaaDoor
/- the document's taker: small numbers, lists. -/
namespace Go.Proofs.YtalfelkblbbmpaaDoor
open Go.RowKit
namespace Ix
open Nx

/-- as long as nothing is wrong it was taken -/
def Tt {α : Type} (f : List UInt8 → Option (α × List UInt8)) (s : List UInt8) (bad : Bool) (z : α) (s' : List UInt8) (bad' : Bool) : Prop :=
  (bad' = false → bad = false ∧ f s = some (z, s')) ∧ (bad' = true → bad = true ∨ f s = none)

set_option maxHeartbeats 1000000 in
theorem tsmall_any (b : Nat) (s : List UInt8) (bad : Bool) (w : World) (h : TkS w b s bad) (hs : s.length ≤ 1000000000) :
    Calls Tryd.prog 28 #[.pointer (some ⟨b, 0, none⟩)] w fun e w' => ∃ (z : Nat) (s' : List UInt8) (bad' : Bool), e = .returned (.int .i64 z) ∧ z ≤ 4000 ∧ Hid (TkS w' b s' bad' ∧ Fr w.heap.size [b] w w' ∧ s'.length ≤ s.length ∧ Tt sm s bad (z : Int) s' bad') := by
  have hn := one_any' b s bad w h hs
  rcases htk : tk s with _ | ⟨z, r⟩
  · have hn' : Calls Tryd.prog 45 #[.pointer (some ⟨b, 0, none⟩)] w fun e w' => e = .returned (.int .i64 0) ∧ Hid (TkS w' b [] true ∧ Fr w.heap.size [b] w w') :=
      hn.mono fun e w' ⟨z, s', bad', he, h1, h2, h3⟩ => by
        rcases h3 with ⟨h3, _⟩ | ⟨_, rfl, rfl, rfl⟩
        · rw [htk] at h3; cases h3
        · exact ⟨he, h1, h2⟩
    have HS : Hid (sm s = none) := sm_none_tk htk
    clear hn htk h
    go_enter Tryd.func28, Tryd.ntmps28
    go_wp2_with (go_at_call 45; refine hn'.mono ?_; rintro e w1 ⟨rfl, X⟩; clear hn')
    go_ret
    exact ⟨0, [], true, rfl, by omega, X.out.1, X.out.2, by simp, (fun h => by cases h), fun _ => .inr HS.out⟩
  · have hn' : Calls Tryd.prog 45 #[.pointer (some ⟨b, 0, none⟩)] w fun e w' => e = .returned (.int .i64 z) ∧ (w'.cell? ⟨b, 1, none⟩ = some (.bool bad) ∧ w'.frozen? ⟨b, 1, none⟩ = false) ∧ Hid (TkS w' b r bad ∧ Fr w.heap.size [b] w w') :=
      hn.mono fun e w' ⟨z', s', bad', he, h1, h2, h3⟩ => by
        rcases h3 with ⟨h3, rfl⟩ | ⟨h3, _⟩
        · rw [htk] at h3
          injection h3 with h3
          injection h3 with h4 h5
          subst h4; subst h5
          exact ⟨he, cel h1 1 _ rfl, h1, h2⟩
        · rw [htk] at h3; cases h3
    have hlt := tk_less htk
    by_cases hz : 0 ≤ z ∧ z ≤ 4000
    · obtain ⟨k, rfl⟩ : ∃ k : Nat, z = (k : Int) := ⟨z.toNat, by omega⟩
      have HS : Hid (sm s = some ((k : Int), r)) := sm_of htk hz.1 hz.2
      have hk : k ≤ 4000 := by omega
      clear hn htk h hz
      go_enter Tryd.func28, Tryd.ntmps28
      go_wp2_with (go_at_call 45; refine hn'.mono ?_; rintro e w1 ⟨rfl, ⟨c1, f1⟩, X⟩; clear hn')
      go_ret
      exact ⟨k, r, bad, rfl, hk, X.out.1, X.out.2, by omega, fun h => ⟨h, HS.out⟩, fun h => .inl h⟩
    · have HS : Hid (sm s = none) := sm_none_big htk hz
      clear hn htk h
      by_cases hneg : z < 0
      · clear hz
        go_enter Tryd.func28, Tryd.ntmps28
        go_wp2_with (go_at_call 45; refine hn'.mono ?_; rintro e w1 ⟨rfl, ⟨c1, f1⟩, X⟩; clear hn')
        go_ret
        exact ⟨0, r, true, rfl, by omega, set_at X.out.1 1 _, X.out.2.setCell (.inr (by simp)) _, by omega, (fun h => by cases h), fun _ => .inr HS.out⟩
      · have hbig : 4000 < z := by omega
        clear hz
        go_enter Tryd.func28, Tryd.ntmps28
        go_wp2_with (go_at_call 45; refine hn'.mono ?_; rintro e w1 ⟨rfl, ⟨c1, f1⟩, X⟩; clear hn')
        go_ret
        exact ⟨0, r, true, rfl, by omega, set_at X.out.1 1 _, X.out.2.setCell (.inr (by simp)) _, by omega, (fun h => by cases h), fun _ => .inr HS.out⟩

/-- what a list that was taken is -/
def TlOut (w : World) (b : Nat) (f : List UInt8 → Option (Int × List UInt8)) (s : List UInt8) (bad : Bool) (e : Ending) (w' : World) : Prop :=
  ∃ v l s' bad', e = .returned v ∧ Hid (w'.ownsRow w.heap.size 2 1 v l.length (l.map (Value.int .i64)) ∧ TkS w' b s' bad' ∧ Fr w.heap.size [b] w w' ∧ s'.length ≤ s.length ∧ l.length ≤ 4000 ∧ Tt (lst f) s bad l s' bad')
/-- while a list is taken -/
structure LT (w W : World) (b : Nat) (f : List UInt8 → Option (Int × List UInt8)) (r : List UInt8) (bad : Bool) (v : Value) (k c : Nat) (l : List Int) (s' : List UInt8) (bad' : Bool) : Prop where
  own : W.ownsRow w.heap.size 2 1 v k (l.map (Value.int .i64))
  len : l.length = k
  rd : TkS W b s' bad'
  fr : Fr w.heap.size [b] w W
  short : s'.length ≤ r.length
  good : bad' = false → bad = false ∧ tkK f r k = some (l, s')
  ill : bad' = true → bad = true ∨ tkK f r c = none
theorem LT.step {w W W1 W2 : World} {b : Nat} {f : List UInt8 → Option (Int × List UInt8)} {r : List UInt8} {bad : Bool} {v v2 : Value} {k c : Nat} {l : List Int} {s' s2 : List UInt8} {bad2 : Bool} {z : Int} {o : Obj} (h : LT w W b f r bad v k c l s' false) (hbw : b < w.heap.size) (hkc : k < c)
    (hr : TkS W1 b s2 bad2) (hf : Fr W.heap.size [b] W W1) (hs : s2.length ≤ s'.length) (ht : Tt f s' false z s2 bad2)
    (hown : W2.ownsRow w.heap.size 2 1 v2 (k + 1) (l.map (Value.int .i64) ++ [.int .i64 z])) (hg : (W1.alloc o).grownBy W2 v.ownBlock) : LT w W2 b f r bad v2 (k + 1) c (l ++ [z]) s2 bad2 := by
  have hw := h.fr.size
  have hvne : ∀ g, v.ownBlock = some g → w.heap.size ≤ g := fun g hgg => (h.own.lt g hgg).1
  have hg0 := h.good rfl
  refine ⟨by rw [List.map_append]; exact hown, by simp [h.len], ?_, ?_, Nat.le_trans hs h.short, fun hb => ?_, fun hb => ?_⟩
  · unfold TkS
    rw [hg.block b (by have := lt_of_block hr; simp; omega) (fun e => by have := hvne b e.symm; omega), Below.heap_alloc _ _ _ (lt_of_block hr)]
    exact hr
  · refine (h.fr.trans (hf.mono hw (fun x hx _ => hx))).trans ⟨hg.os, hg.tape, hg.output, by have := hg.size; simp at this; omega, fun c hc hx => ?_⟩
    have := hf.size
    rw [hg.block c (by simp; omega) (fun e => by have := hvne c e.symm; omega)]
    exact Below.heap_alloc _ _ _ (by omega)
  · exact ⟨hg0.1, tkK_step f hg0.2 (ht.1 hb).2⟩
  · right
    rcases ht.2 hb with h1 | h1
    · cases h1
    · exact tkK_none_le f (tkK_fail f hg0.2 h1) hkc

set_option maxHeartbeats 2000000 in
theorem tlist_big (b : Nat) (s : List UInt8) (bad : Bool) (w : World) (h : TkS w b s bad) (hs : s.length ≤ 1000000000) :
    Calls Tryd.prog 29 #[.pointer (some ⟨b, 0, none⟩), .bool false] w (TlOut w b tk s bad) := by
  have hsm := tsmall_any b s bad w h hs
  have hbw := lt_of_block h
  obtain ⟨i0, hi, hz0, hz1, hz2⟩ := info_parts Tryd.infoI64
  clear h
  go_enter Tryd.func29, Tryd.ntmps29
  go_upto_region 4 with (go_at_call 28; refine hsm.mono ?_; rintro e w1 ⟨c, r, bad1, rfl, hc, X⟩; clear hsm)
  have LL0 : ∃ l0 s0 bad0, LT w w1 b tk r bad1 (.slice none 0 0) 0 c l0 s0 bad0 := ⟨[], r, bad1, World.ownsRow_nil _ _ _ _, rfl, X.out.1, X.out.2.1, Nat.le_refl _, fun h => ⟨h, rfl⟩, fun h => .inl h⟩
  go_loopw [5, 7] (fun v i wr => ∃ (k : Nat), k ≤ c ∧ i = .int .i64 k ∧ ∃ l s' bad', Hid (LT w wr b tk r bad1 v k c l s' bad')) (fun _ i _ => c - (intOf i).toNat)
  case atStart => exact ⟨0, Nat.zero_le _, rfl, LL0⟩
  case round =>
    clear LL0
    obtain ⟨k, hk, rfl, l, s', bad', Y⟩ := hrel
    obtain ⟨ao, cap, rfl, _⟩ := own_shape Y.out.own
    have cb : wr.cell? ⟨b, 1, none⟩ = some (.bool bad') := (cel Y.out.rd 1 _ rfl).1
    have fin : Hid (∀ (hkc : k = c ∨ bad' = true), (wr.ownsRow w.heap.size 2 1 (.slice ao k cap) l.length (l.map (Value.int .i64)) ∧ TkS wr b s' bad' ∧ Fr w.heap.size [b] w wr ∧ s'.length ≤ s.length ∧ l.length ≤ 4000 ∧ Tt (lst tk) s bad l s' bad')) := fun hkc => by
      refine ⟨by rw [Y.out.len]; exact Y.out.own, Y.out.rd, Y.out.fr, Nat.le_trans Y.out.short X.out.2.2.1, by rw [Y.out.len]; omega, fun hb => ?_, fun hb => ?_⟩
      · have hkc' : k = c := by
          rcases hkc with h | h
          · exact h
          · rw [hb] at h; cases h
        obtain ⟨y1, y2⟩ := Y.out.good hb
        obtain ⟨x1, x2⟩ := X.out.2.2.2.1 y1
        refine ⟨x1, ?_⟩
        unfold lst
        rw [x2]
        simp only
        rw [Int.toNat_natCast, ← hkc']
        exact y2
      · rcases Y.out.ill hb with y1 | y1
        · rcases X.out.2.2.2.2 y1 with x1 | x1
          · exact .inl x1
          · right
            unfold lst
            rw [x1]
        · by_cases hb0 : bad1 = false
          · right
            obtain ⟨x1, x2⟩ := X.out.2.2.2.1 hb0
            unfold lst
            rw [x2]
            simp only
            rw [Int.toNat_natCast]
            exact y1
          · have hb1 : bad1 = true := by cases bad1 <;> simp_all
            rcases X.out.2.2.2.2 hb1 with x1 | x1
            · exact .inl x1
            · right
              unfold lst
              rw [x1]
    by_cases hlt : k < c
    · cases bad' with
      | true =>
        go_wp2_with fail
        go_ret
        exact ⟨_, l, s', true, rfl, fin.out (.inr (by first | rfl | trivial))⟩
      | false =>
        have hn : Calls Tryd.prog 45 #[.pointer (some ⟨b, 0, none⟩)] wr fun e w' => ∃ z s2 bad2, e = .returned (.int .i64 z) ∧ Hid (TkS w' b s2 bad2 ∧ Fr wr.heap.size [b] wr w' ∧ s2.length ≤ s'.length ∧ Tt tk s' false z s2 bad2) :=
          (one_any' b s' false wr Y.out.rd (by have := Y.out.short; have := X.out.2.2.1; omega)).mono fun e w' ⟨z, s2, bad2, he, h1, h2, h3⟩ => by
            refine ⟨z, s2, bad2, he, h1, h2, ?_, fun hb => ?_, fun hb => ?_⟩
            · rcases h3 with ⟨h3, _⟩ | ⟨_, _, rfl, _⟩
              · have := tk_less h3; omega
              · simp
            · rcases h3 with ⟨h3, _⟩ | ⟨_, _, _, h4⟩
              · exact ⟨rfl, h3⟩
              · rw [hb] at h4; cases h4
            · rcases h3 with ⟨_, h4⟩ | ⟨h3, _⟩
              · rw [hb] at h4; cases h4
              · exact .inr h3
        clear fin
        go_wp2_with (first | (go_at_call 45; refine hn.mono ?_; rintro e w2 ⟨z, s2, bad2, rfl, Z⟩; clear hn) | (at_builtin; refine wpList_append_own_at _ rfl (.tmp 28) (.tmp 31) 22 rfl w.heap.size 2 i0 (.int .i64 0) 1 8 Tryd.underlying22 hi hz0 hz1 hz2 rfl (by decide) _ _ _ rfl ((own_fr Y.out.own (fun g hg => Z.out.2.1.block g (Y.out.own.lt g hg).2 (by have := (Y.out.own.lt g hg).1; simp; omega))).alloc _) ⟨w2.heap.size, 0, none⟩ 1 1 [.int .i64 z] rfl rfl (cells_one _ _ _) (one_int z) (by unfold maxLen; omega) (by omega) (by have := Y.out.fr.size; have := Z.out.2.1.size; simp; omega) ?_; intro v5 w5 hown5 hgrow5 _ hat5))
        go_roundw
        case rel => exact ⟨k + 1, by omega, by go_num, l ++ [z], s2, bad2, Y.out.step hbw hlt Z.out.1 Z.out.2.1 Z.out.2.2.1 Z.out.2.2.2 hown5 hgrow5⟩
        case measure => simp [intOf]; omega
    · obtain rfl : k = c := by omega
      go_wp2_with fail
      go_ret
      exact ⟨_, l, s', bad', rfl, fin.out (.inl (by first | rfl | trivial))⟩

set_option maxHeartbeats 2000000 in
theorem tlist_small (b : Nat) (s : List UInt8) (bad : Bool) (w : World) (h : TkS w b s bad) (hs : s.length ≤ 1000000000) :
    Calls Tryd.prog 29 #[.pointer (some ⟨b, 0, none⟩), .bool true] w (TlOut w b sm s bad) := by
  have hsm := tsmall_any b s bad w h hs
  have hbw := lt_of_block h
  obtain ⟨i0, hi, hz0, hz1, hz2⟩ := info_parts Tryd.infoI64
  clear h
  go_enter Tryd.func29, Tryd.ntmps29
  go_upto_region 4 with (go_at_call 28; refine hsm.mono ?_; rintro e w1 ⟨c, r, bad1, rfl, hc, X⟩; clear hsm)
  have LL0 : ∃ l0 s0 bad0, LT w w1 b sm r bad1 (.slice none 0 0) 0 c l0 s0 bad0 := ⟨[], r, bad1, World.ownsRow_nil _ _ _ _, rfl, X.out.1, X.out.2.1, Nat.le_refl _, fun h => ⟨h, rfl⟩, fun h => .inl h⟩
  go_loopw [5, 7] (fun v i wr => ∃ (k : Nat), k ≤ c ∧ i = .int .i64 k ∧ ∃ l s' bad', Hid (LT w wr b sm r bad1 v k c l s' bad')) (fun _ i _ => c - (intOf i).toNat)
  case atStart => exact ⟨0, Nat.zero_le _, rfl, LL0⟩
  case round =>
    clear LL0
    obtain ⟨k, hk, rfl, l, s', bad', Y⟩ := hrel
    obtain ⟨ao, cap, rfl, _⟩ := own_shape Y.out.own
    have cb : wr.cell? ⟨b, 1, none⟩ = some (.bool bad') := (cel Y.out.rd 1 _ rfl).1
    have fin : Hid (∀ (hkc : k = c ∨ bad' = true), (wr.ownsRow w.heap.size 2 1 (.slice ao k cap) l.length (l.map (Value.int .i64)) ∧ TkS wr b s' bad' ∧ Fr w.heap.size [b] w wr ∧ s'.length ≤ s.length ∧ l.length ≤ 4000 ∧ Tt (lst sm) s bad l s' bad')) := fun hkc => by
      refine ⟨by rw [Y.out.len]; exact Y.out.own, Y.out.rd, Y.out.fr, Nat.le_trans Y.out.short X.out.2.2.1, by rw [Y.out.len]; omega, fun hb => ?_, fun hb => ?_⟩
      · have hkc' : k = c := by
          rcases hkc with h | h
          · exact h
          · rw [hb] at h; cases h
        obtain ⟨y1, y2⟩ := Y.out.good hb
        obtain ⟨x1, x2⟩ := X.out.2.2.2.1 y1
        refine ⟨x1, ?_⟩
        unfold lst
        rw [x2]
        simp only
        rw [Int.toNat_natCast, ← hkc']
        exact y2
      · rcases Y.out.ill hb with y1 | y1
        · rcases X.out.2.2.2.2 y1 with x1 | x1
          · exact .inl x1
          · right
            unfold lst
            rw [x1]
        · by_cases hb0 : bad1 = false
          · right
            obtain ⟨x1, x2⟩ := X.out.2.2.2.1 hb0
            unfold lst
            rw [x2]
            simp only
            rw [Int.toNat_natCast]
            exact y1
          · have hb1 : bad1 = true := by cases bad1 <;> simp_all
            rcases X.out.2.2.2.2 hb1 with x1 | x1
            · exact .inl x1
            · right
              unfold lst
              rw [x1]
    by_cases hlt : k < c
    · cases bad' with
      | true =>
        go_wp2_with fail
        go_ret
        exact ⟨_, l, s', true, rfl, fin.out (.inr (by first | rfl | trivial))⟩
      | false =>
        have hn : Calls Tryd.prog 28 #[.pointer (some ⟨b, 0, none⟩)] wr fun e w' => ∃ z s2 bad2, e = .returned (.int .i64 z) ∧ Hid (TkS w' b s2 bad2 ∧ Fr wr.heap.size [b] wr w' ∧ s2.length ≤ s'.length ∧ Tt sm s' false z s2 bad2) :=
          (tsmall_any b s' false wr Y.out.rd (by have := Y.out.short; have := X.out.2.2.1; omega)).mono fun e w' ⟨z, s2, bad2, he, _, Z⟩ => ⟨(z : Int), s2, bad2, he, Z.out.1, Z.out.2.1, Z.out.2.2.1, Z.out.2.2.2⟩
        clear fin
        go_wp2_with (first | (go_at_call 28; refine hn.mono ?_; rintro e w2 ⟨z, s2, bad2, rfl, Z⟩; clear hn) | (at_builtin; refine wpList_append_own_at _ rfl (.tmp 23) (.tmp 26) 22 rfl w.heap.size 2 i0 (.int .i64 0) 1 8 Tryd.underlying22 hi hz0 hz1 hz2 rfl (by decide) _ _ _ rfl ((own_fr Y.out.own (fun g hg => Z.out.2.1.block g (Y.out.own.lt g hg).2 (by have := (Y.out.own.lt g hg).1; simp; omega))).alloc _) ⟨w2.heap.size, 0, none⟩ 1 1 [.int .i64 z] rfl rfl (cells_one _ _ _) (one_int z) (by unfold maxLen; omega) (by omega) (by have := Y.out.fr.size; have := Z.out.2.1.size; simp; omega) ?_; intro v5 w5 hown5 hgrow5 _ hat5))
        go_roundw
        case rel => exact ⟨k + 1, by omega, by go_num, l ++ [z], s2, bad2, Y.out.step hbw hlt Z.out.1 Z.out.2.1 Z.out.2.2.1 Z.out.2.2.2 hown5 hgrow5⟩
        case measure => simp [intOf]; omega
    · obtain rfl : k = c := by omega
      go_wp2_with fail
      go_ret
      exact ⟨_, l, s', bad', rfl, fin.out (.inl (by first | rfl | trivial))⟩

set_option maxHeartbeats 1000000 in
theorem ints_any {A : Nat → Prop} (v : Value) (zs : List Int) (w : World) (h : Ints A w v zs) (hn : zs.length ≤ 100000) :
    Calls Tryd.prog 30 #[v] w fun e w' => ∃ v', e = .returned v' ∧ Hid (w'.ownsRow w.heap.size 3 1 v' zs.length (zs.map (Value.int .i64)) ∧ Below w.heap.size w w') := by
  obtain ⟨ad, b, off, cap, rfl, ha, hc⟩ := h
  obtain ⟨i0, hi, hz0, hz1, hz2⟩ := info_parts Tryd.infoInt
  have HA : Hid ((0 < zs.length → ad = some ⟨b, off, none⟩ ∧ A b) ∧ ∀ k, k < zs.length → w.cell? ⟨b, off + k, none⟩ = some (.int .i64 (zs.getD k 0))) := ⟨ha, hc⟩
  clear ha hc
  go_enter Tryd.func30, Tryd.ntmps30
  go_upto_region 3 with fail
  go_loopw [3, 8] (fun x i wr => ∃ k : Nat, k ≤ zs.length ∧ i = .int .i64 k ∧ Hid (wr.ownsRow w.heap.size 3 1 x k ((zs.take k).map (Value.int .i64)) ∧ Below w.heap.size w wr)) (fun _ i _ => zs.length - (intOf i).toNat)
  case atStart => exact ⟨0, Nat.zero_le _, rfl, World.ownsRow_nil _ _ _ _, Below.refl _ _⟩
  case round =>
    obtain ⟨k, hk, rfl, X⟩ := hrel
    obtain ⟨ao, cap', rfl, _⟩ := own_shape X.out.1
    by_cases hlt : k < zs.length
    · have hix := jx22 ad b off zs.length cap k hlt (fun h => (HA.out.1 h).1)
      obtain ⟨x, hx⟩ : ∃ x, Hid (x = zs.getD k 0) := ⟨_, rfl⟩
      have hcx : wr.cell? ⟨b, off + k, none⟩ = some (.int .i64 x) := by
        have := HA.out.2 k hlt
        rw [cell_of_block (X.out.2.block b (lt_of_cell this)), hx.out]; exact this
      go_wp2_with (at_builtin; refine wpList_append_own_at _ rfl (.tmp 12) (.tmp 14) 23 rfl w.heap.size 3 i0 (.int .i64 0) 1 8 Tryd.underlying23 hi hz0 hz1 hz2 rfl (by decide) _ _ _ rfl (X.out.1.alloc _) ⟨wr.heap.size, 0, none⟩ 1 1 [.int .i64 x] rfl rfl (cells_one _ _ _) (one_int x) (by unfold maxLen; omega) (by omega) (by have := X.out.2.size; simp; omega) ?_; intro v5 w5 hown5 hgrow5 _ hat5)
      go_roundw
      case rel =>
        refine ⟨k + 1, by omega, by go_num, ?_, ?_⟩
        · have e : (zs.take (k + 1)).map (Value.int .i64) = (zs.take k).map (Value.int .i64) ++ [.int .i64 x] := by
            rw [List.take_add_one, List.map_append, hx.out, List.getD_eq_getElem?_getD, List.getElem?_eq_getElem hlt]
            simp
          rw [e]; exact hown5
        · have hs := X.out.2.size
          exact (X.out.2.alloc hs _).trans ⟨hgrow5.os, hgrow5.tape, hgrow5.output, hgrow5.size, fun c hc => hgrow5.block c (by simp; omega) (fun e => by have := (X.out.1.lt c e.symm).1; omega)⟩
      case measure => simp [intOf]; omega
    · obtain rfl : k = zs.length := by omega
      go_wp2_with fail
      go_ret
      refine ⟨_, rfl, ?_, X.out.2⟩
      have := X.out.1
      rw [List.take_length] at this
      exact this
end Ix
end Go.Proofs.YtalfelkblbbmpaaDoor
/- the document's ReadImage: its parts. -/
namespace Go.Proofs.YtalfelkblbbmpaaDoor
open Go.RowKit
namespace Ix
open Nx

theorem hasp_no (s : List UInt8) (w : World) (h : s.take 4 ≠ hd4) :
    Calls Tryd.prog 26 #[.string (str s), .string ⟨#[67, 76, 80, 49]⟩] w fun e w' => e = .returned (.bool false) ∧ w' = w := by
  obtain ⟨T, hT⟩ : ∃ T, T = str s := ⟨_, rfl⟩
  rw [← hT]
  by_cases h4 : 4 ≤ T.size
  · obtain ⟨T4, hT4⟩ : ∃ T4, T4 = T.extract 0 4 := ⟨_, rfl⟩
    have hne : (T4.toList == (⟨#[67, 76, 80, 49]⟩ : ByteArray).toList) = false := by
      refine (Lib.bytes_beq_false_iff _ _).2 fun e => h ?_
      have e2 : str (s.take 4) = str hd4 := by rw [← str_take, ← hT, ← hT4, e]; rfl
      exact str_inj e2
    rw [hd_list] at hne
    have hsl : ∀ W, (Instr.sliceAt 9 (.string T) none (some (.int .i64 4)) none).run Tryd.prog W = .ok (.string T4) W := fun W => by
      rw [run_sliceAt_string W _ _ _ _ _ Tryd.underlying9, run_slice_string_h W _ T Tryd.underlying9 .i64 4 (by omega) (by omega), hT4]
      rfl
    have h4' : (4 : Int) ≤ (T.size : Int) := by omega
    clear hT hT4 h
    go_enter Tryd.func26, Tryd.ntmps26
    go_wp2_with go_in
    go_ret
    exact ⟨rfl, rfl⟩
  · have h4' : (T.size : Int) < 4 := by omega
    clear hT h
    go_enter Tryd.func26, Tryd.ntmps26
    go_wp2_with go_in
    go_ret
    exact ⟨rfl, rfl⟩
theorem hasp_yes (s : List UInt8) (w : World) (h : s.take 4 = hd4) :
    Calls Tryd.prog 26 #[.string (str s), .string ⟨#[67, 76, 80, 49]⟩] w fun e w' => e = .returned (.bool true) ∧ w' = w := by
  obtain ⟨T, hT⟩ : ∃ T, T = str s := ⟨_, rfl⟩
  rw [← hT]
  have h4 : 4 ≤ T.size := by
    have := congrArg List.length h
    rw [List.length_take] at this
    rw [hT, str_size]
    have : min 4 s.length = 4 := this
    omega
  obtain ⟨T4, hT4⟩ : ∃ T4, T4 = T.extract 0 4 := ⟨_, rfl⟩
  have hye : (T4.toList == (⟨#[67, 76, 80, 49]⟩ : ByteArray).toList) = true := by
    refine (Lib.bytes_beq_iff _ _).2 ?_
    rw [hT4, hT, str_take, h]
    rfl
  rw [hd_list] at hye
  have hsl : ∀ W, (Instr.sliceAt 9 (.string T) none (some (.int .i64 4)) none).run Tryd.prog W = .ok (.string T4) W := fun W => by
    rw [run_sliceAt_string W _ _ _ _ _ Tryd.underlying9, run_slice_string_h W _ T Tryd.underlying9 .i64 4 (by omega) (by omega), hT4]
    rfl
  have h4' : (4 : Int) ≤ (T.size : Int) := by omega
  clear hT hT4 h
  go_enter Tryd.func26, Tryd.ntmps26
  go_wp2_with go_in
  go_ret
  exact ⟨rfl, rfl⟩

theorem Tt.next {α β R : Type} {f : List UInt8 → Option (α × List UInt8)} {g : List UInt8 → Option (β × List UInt8)} {K : List UInt8 → Option (R × List UInt8)} {r s s' : List UInt8} {bad bad1 bad2 : Bool} {x : α} {z : β} {y : R} (h : Tt f r bad x s bad1) (k : Tt g s bad1 z s' bad2) (h1 : f r = some (x, s) → g s = some (z, s') → K r = some (y, s')) (h2 : f r = none → K r = none) (h3 : f r = some (x, s) → g s = none → K r = none) : Tt K r bad y s' bad2 := by
  refine ⟨fun hb => ?_, fun hb => ?_⟩
  · obtain ⟨k1, k2⟩ := k.1 hb
    obtain ⟨j1, j2⟩ := h.1 k1
    exact ⟨j1, h1 j2 k2⟩
  · rcases k.2 hb with k1 | k1
    · rcases h.2 k1 with j1 | j1
      · exact .inl j1
      · exact .inr (h2 j1)
    · cases hb1 : bad1 with
      | false => exact .inr (h3 (h.1 hb1).2 k1)
      | true =>
        rcases h.2 hb1 with j1 | j1
        · exact .inl j1
        · exact .inr (h2 j1)
theorem Tt.more {r s s' : List UInt8} {bad bad1 bad2 : Bool} {l : List Int} {k : Nat} {z : Int} (h : Tt (fun s => tkK sm s k) r bad l s bad1) (j : Tt sm s bad1 z s' bad2) : Tt (fun s => tkK sm s (k + 1)) r bad (l ++ [z]) s' bad2 :=
  Tt.next h j (fun a b => tkK_step sm a b) (fun a => tkK_none sm a) (fun a b => tkK_fail sm a b)
/-- how far it is, by the document -/
def Th2 {R : Type} (R0 : Option (R × List UInt8)) (K : List UInt8 → Option (R × List UInt8)) (s : List UInt8) (bad : Bool) : Prop := (bad = false → R0 = K s) ∧ (bad = true → R0 = none)
theorem Th2.next {R α : Type} {R0 : Option (R × List UInt8)} {K : List UInt8 → Option (R × List UInt8)} {K' : α → List UInt8 → Option (R × List UInt8)} {f : List UInt8 → Option (α × List UInt8)} (hK : ∀ s, K s = match f s with
    | none => none
    | some (z, r) => K' z r) {s s' : List UInt8} {bad bad' : Bool} {z : α} (h : Th2 R0 K s bad) (ht : Tt f s bad z s' bad') : Th2 R0 (K' z) s' bad' := by
  refine ⟨fun hb => ?_, fun hb => ?_⟩
  · obtain ⟨t1, t2⟩ := ht.1 hb
    have := h.1 t1
    rw [hK, t2] at this
    exact this
  · rcases ht.2 hb with t1 | t1
    · exact h.2 t1
    · cases hb1 : bad with
      | true => exact h.2 hb1
      | false =>
        have := h.1 hb1
        rw [hK, t1] at this
        exact this

/-- the world while the document reads -/
structure DR (w W : World) (tb nb : Nat) (cs : Array Value) (s : List UInt8) (bad : Bool) : Prop where
  rd : TkS W tb s bad
  box : W.heap[nb]? = some (.cells cs 26 (0, 0))
  rb : W.heap[w.heap.size]? = some (.cells #[.int .i64 0, .slice none 0 0, .slice none 0 0, .slice none 0 0, .slice none 0 0, .slice none 0 0, .slice none 0 0] 26 (0, 0))
  fb : W.heap[w.heap.size + 1]? = some (.cells #[.int .i64 0, .int .i64 0] 30 (0, 0))
  below : Below w.heap.size w W
  l1 : w.heap.size + 1 < tb
  l2 : tb < nb
theorem DR.call {w W W' : World} {tb nb : Nat} {cs : Array Value} {s s' : List UInt8} {bad bad' : Bool} (h : DR w W tb nb cs s bad) (hf : Fr W.heap.size [tb] W W') (hr : TkS W' tb s' bad') : DR w W' tb nb cs s' bad' := by
  have h1 := h.l1
  have h2 := h.l2
  exact ⟨hr, by rw [hf.block _ (lt_of_block h.box) (by simp; omega)]; exact h.box, by rw [hf.block _ (lt_of_block h.rb) (by simp; omega)]; exact h.rb, by rw [hf.block _ (lt_of_block h.fb) (by simp; omega)]; exact h.fb, h.below.trans ⟨hf.os, hf.tape, hf.output, hf.size, fun c hc => hf.block c (by have := h.below.size; omega) (by simp; omega)⟩, h1, h2⟩
theorem DR.more {w W W' : World} {tb nb : Nat} {cs : Array Value} {s : List UInt8} {bad : Bool} (h : DR w W tb nb cs s bad) (hb : Below W.heap.size W W') : DR w W' tb nb cs s bad :=
  h.call (Fr.of_below hb _) (by unfold TkS; rw [hb.block _ (lt_of_block h.rd)]; exact h.rd)
theorem DR.put {w W : World} {tb nb : Nat} {cs : Array Value} {s : List UInt8} {bad : Bool} (h : DR w W tb nb cs s bad) (j : Nat) (v : Value) : DR w (W.setCell ⟨nb, j, none⟩ v) tb nb (cs.setIfInBounds j v) s bad := by
  have h1 := h.l1
  have h2 := h.l2
  exact ⟨by unfold TkS; rw [Below.heap_setCell _ _ _ _ (by simp; omega)]; exact h.rd, set_at h.box j v, by rw [Below.heap_setCell _ _ _ _ (by simp; omega)]; exact h.rb, by rw [Below.heap_setCell _ _ _ _ (by simp; omega)]; exact h.fb, h.below.setCell (by simp; omega) _, h1, h2⟩
theorem ints_call2 {W W' : World} {tb nb : Nat} {v : Value} {l : List Int} (h : Ints (fun c => nb < c) W v l) (hb : tb < nb) (hf : Fr W.heap.size [tb] W W') : Ints (fun c => nb < c) W' v l :=
  h.carry fun c hc hl => ⟨hc, hf.block c hl (by simp; omega)⟩
theorem ints_put2 {W : World} {nb : Nat} {v : Value} {l : List Int} (h : Ints (fun c => nb < c) W v l) (j : Nat) (x : Value) : Ints (fun c => nb < c) (W.setCell ⟨nb, j, none⟩ x) v l :=
  h.carry fun c hc _ => ⟨hc, Below.heap_setCell _ _ _ _ (by simp; omega)⟩
theorem ints_new2 {W W' : World} {nb : Nat} {e : TypeId} {v : Value} {l : List Int} (h : W'.ownsRow W.heap.size e 1 v l.length (l.map (Value.int .i64))) (hw : nb < W.heap.size) : Ints (fun c => nb < c) W' v l :=
  (ints_own h).carry fun c hc _ => ⟨by have := hc.1; omega, rfl⟩
/-- places: a list that was taken, and then narrowed -/
theorem narrow_any {w W : World} {tb nb : Nat} {cs : Array Value} {s : List UInt8} {bad : Bool} (h : DR w W tb nb cs s bad) (hs : s.length ≤ 1000000000) :
    Calls Tryd.prog 29 #[.pointer (some ⟨tb, 0, none⟩), .bool true] W fun e W1 => ∃ v1, e = .returned v1 ∧ Calls Tryd.prog 30 #[v1] W1 fun e W2 => ∃ ao cap l s' bad', e = .returned (.slice ao l.length cap) ∧ Hid (DR w W2 tb nb cs s' bad' ∧ Fr W.heap.size [tb] W W2 ∧ Ints (fun c => nb < c) W2 (.slice ao l.length cap) l ∧ l.length ≤ cap ∧ s'.length ≤ s.length ∧ Tt (lst sm) s bad l s' bad') := by
  refine (tlist_small tb s bad W h.rd hs).mono fun e W1 ⟨v, l, s', bad', he, X⟩ => ⟨v, he, ?_⟩
  have hnb := lt_of_block h.box
  refine (ints_any v l W1 (ints_own X.out.1) (by have := X.out.2.2.2.2.1; omega)).mono fun e W2 ⟨v', he, Y⟩ => ?_
  obtain ⟨ao, cap, hv, hc⟩ := own_shape Y.out.1
  subst hv
  have hz := X.out.2.2.1.size
  exact ⟨ao, cap, l, s', bad', he, (h.call X.out.2.2.1 X.out.2.1).more Y.out.2, X.out.2.2.1.trans (Fr.of_below (Y.out.2.mono hz) _), ints_new2 Y.out.1 (by omega), hc, X.out.2.2.2.1, X.out.2.2.2.2.2⟩
theorem wide_list {w W : World} {tb nb : Nat} {cs : Array Value} {s : List UInt8} {bad : Bool} (h : DR w W tb nb cs s bad) (hs : s.length ≤ 1000000000) :
    Calls Tryd.prog 29 #[.pointer (some ⟨tb, 0, none⟩), .bool false] W fun e W2 => ∃ ao cap l s' bad', e = .returned (.slice ao l.length cap) ∧ Hid (DR w W2 tb nb cs s' bad' ∧ Fr W.heap.size [tb] W W2 ∧ Ints (fun c => nb < c) W2 (.slice ao l.length cap) l ∧ s'.length ≤ s.length ∧ Tt (lst tk) s bad l s' bad') := by
  refine (tlist_big tb s bad W h.rd hs).mono fun e W1 ⟨v, l, s', bad', he, X⟩ => ?_
  have hnb := lt_of_block h.box
  obtain ⟨ao, cap, hv, hc⟩ := own_shape X.out.1
  subst hv
  exact ⟨ao, cap, l, s', bad', he, h.call X.out.2.2.1 X.out.2.1, X.out.2.2.1, ints_new2 X.out.1 hnb, X.out.2.2.2.1, X.out.2.2.2.2.2⟩
end Ix
end Go.Proofs.YtalfelkblbbmpaaDoor
