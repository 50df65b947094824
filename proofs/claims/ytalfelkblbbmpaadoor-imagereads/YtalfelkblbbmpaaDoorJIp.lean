/- A region that draws its order: what loads read holds until operation z has come up. -/
import Derived.Deep.RegionHeld
import Derived.Test.YtalfelkblbbmpaaDoorIe
import Derived.Deep.Cut
import Derived.Deep.RegionHeld3
import Derived.Lib.SlicesS
import Derived.Test.YtalfelkblbbmpaaDoorNt6
import Derived.Test.YtalfelkblbbmpaaDoorIg
import Derived.Test.YtalfelkblbbmpaaDoorNtB
namespace Go.Proofs.YtalfelkblbbmpaaDoor
section
variable {P : Program} {ops : Array Oper} {Q : Exit → Act → World → Prop} {md : Region.Mode} {S : World → Prop} {z : Nat}
/-- Whatever order is picked from here on; S holds behind every operation that is carried out as long as z has not come up. -/
def wpAnyZ (P : Program) (md : Region.Mode) (ops : Array Oper) (Q : Exit → Act → World → Prop) (S : World → Prop) (z : Nat) : Nat → Array Bool → Act → World → Prop
  | 0, listed, a, w => Region.ready md ops listed = [] ∧ Q .normal a w
  | fuel + 1, listed, a, w =>
    (Region.ready md ops listed = [] → Q .normal a w) ∧
    ∀ i ∈ Region.ready md ops listed, wpOp P ops Q i (fun a' w' => ((listed.setIfInBounds i true).getD z true = false → S w') ∧ wpAnyZ P md ops Q S z fuel (listed.setIfInBounds i true) a' w') a w
theorem wpAny_of_z : ∀ (fuel : Nat) (listed : Array Bool) (a : Act) (w : World), wpAnyZ P md ops Q S z fuel listed a w → wpAny P md ops Q fuel listed a w
  | 0, _, _, _, h => h
  | fuel + 1, _, _, _, h => ⟨h.1, fun i hi => wpOp_mono (fun a' w' h' => wpAny_of_z fuel _ a' w' h'.2) (h.2 i hi)⟩
theorem getD_keep {l : Array Bool} {i j : Nat} (h : l.getD j true = true) : (l.setIfInBounds i true).getD j true = true := by
  by_cases hij : i = j
  · subst hij
    rcases Nat.lt_or_ge i l.size with h' | h'
    · simp [h']
    · simp [Array.getD]
  · rw [getD_set_ne true hij]; exact h
/-- when z has come up, nothing more is wanted -/
theorem wpAnyZ_of_any : ∀ (fuel : Nat) (listed : Array Bool) (a : Act) (w : World), listed.getD z true = true → wpAny P md ops Q fuel listed a w → wpAnyZ P md ops Q S z fuel listed a w
  | 0, _, _, _, _, h => h
  | fuel + 1, l, _, _, hz, h => ⟨h.1, fun i hi => wpOp_mono (fun a' w' h' => ⟨fun hf => by rw [getD_keep hz] at hf; exact absurd hf (by simp), wpAnyZ_of_any fuel _ a' w' (getD_keep hz) h'⟩) (h.2 i hi)⟩
/-- D: those that wait for i, one behind the other, z among them -/
def Region.waits (md : Region.Mode) (ops : Array Oper) (i : Nat) (D : List Nat) : Bool :=
  D.all fun d => match ops[d]? with
    | some o => o.after.any fun e => Region.binds md e && (e.on == i || D.contains e.on)
    | none => false
theorem Region.waits_spec {i : Nat} {D : List Nat} (h : Region.waits md ops i D = true) (d : Nat) (hd : d ∈ D) : ∃ o, ops[d]? = some o ∧ ∃ e ∈ o.after, Region.binds md e = true ∧ (e.on = i ∨ e.on ∈ D) := by
  have := List.all_eq_true.1 h d hd
  revert this
  cases ho : ops[d]? with
  | none => intro h; exact absurd h (by simp)
  | some o =>
    intro h
    simp only at h
    obtain ⟨e, he, hb⟩ := Array.any_eq_true'.1 h
    simp only [Bool.and_eq_true, Bool.or_eq_true, beq_iff_eq, List.contains_iff_mem] at hb
    exact ⟨o, rfl, e, he, hb.1, hb.2⟩
theorem wpAnyZ_first {i : Nat} {oi : Oper} {v : Value} {D : List Nat} (hi : ops[i]? = some oi) (hsel : ∀ (j : Nat) (o : Oper) cs b, ops[j]? = some o → o.op ≠ .select cs b)
    (hQ : ∀ c a w, Q (.panic c) (a.put oi.dst v) w → Q (.panic c) a w) (hzD : z ∈ D) (hiD : i ∉ D) (hdep : Region.waits md ops i D = true) :
    ∀ (fuel : Nat) (listed : Array Bool) (a : Act) (w : World),
      (∀ j oj, ops[j]? = some oj → j ≠ i → listed.getD j true = false → (∀ e ∈ oj.after, Region.binds md e = true → e.on ≠ i) → oi.apart ops oj = true) →
      i ∈ Region.ready md ops listed → (∀ d ∈ D, listed.getD d true = false) → YieldsIf P ops S oi v a → S w →
      wpAnyZ P md ops Q S z fuel (listed.setIfInBounds i true) (a.put oi.dst v) w → wpAnyZ P md ops Q S z (fuel + 1) listed a w := by
  have hlist : ∀ (listed : Array Bool) (k : Nat), listed.getD k true = false → listed.getD k false = true → False := fun listed k h0 h1 => by
    rcases Nat.lt_or_ge k listed.size with h' | h'
    · simp [h'] at h0 h1; rw [h0] at h1; cases h1
    · simp [Array.getElem?_eq_none h'] at h1
  intro fuel
  induction fuel with
  | zero =>
    intro listed a w _ hr hD hy hS H
    refine ⟨fun h => (by rw [h] at hr; cases hr), fun j hj => ?_⟩
    by_cases hji : j = i
    · subst hji; exact hy.wpOp hi hS ⟨fun _ => hS, H⟩
    · have := ready_mono hj hji
      rw [H.1] at this
      cases this
  | succ fuel ih =>
    intro listed a w hfree hr hD hy hS H
    refine ⟨fun h => (by rw [h] at hr; cases hr), fun j hj => ?_⟩
    by_cases hji : j = i
    · subst hji; exact hy.wpOp hi hS ⟨fun _ => hS, H⟩
    · have h1 := H.2 j (ready_mono hj hji)
      obtain ⟨hjun, oj, hoj, hall⟩ := mem_ready.1 hj
      have hnot : ∀ e ∈ oj.after, Region.binds md e = true → e.on ≠ i := fun e he hb heq => by
        have h1 := hall e he hb
        rw [heq] at h1
        exact hlist _ _ (mem_ready.1 hr).1 h1
      have hjD : j ∉ D := fun hjD => by
        obtain ⟨o, ho, e, he, hb, hor⟩ := Region.waits_spec hdep j hjD
        rw [hoj] at ho
        cases ho
        rcases hor with h | h
        · exact hnot e he hb h
        · exact hlist _ _ (hD _ h) (hall e he hb)
      have h2 := wpOp_putIf hoj (hfree j oj hoj hji hjun hnot) (fun cs b => hsel i oi cs b hi) (fun cs b => hsel j oj cs b hoj) hQ hy h1
      have hfree' : ∀ k ok, ops[k]? = some ok → k ≠ i → (listed.setIfInBounds j true).getD k true = false →
          (∀ e ∈ ok.after, Region.binds md e = true → e.on ≠ i) → oi.apart ops ok = true := fun k ok hk hki hun hno => by
        refine hfree k ok hk hki ?_ hno
        by_cases hjk : j = k
        · subst hjk; exact hjun
        · rw [getD_set_ne true hjk] at hun; exact hun
      have hD' : ∀ d ∈ D, (listed.setIfInBounds j true).getD d true = false := fun d hd => by
        have e : j ≠ d := fun h => hjD (h ▸ hd)
        rw [getD_set_ne true e]; exact hD d hd
      have hz2 : ((listed.setIfInBounds i true).setIfInBounds j true).getD z true = false := by
        have e : j ≠ z := fun h => hjD (h ▸ hzD)
        have e' : i ≠ z := fun h => hiD (h ▸ hzD)
        rw [getD_set_ne true e, getD_set_ne true e']; exact hD z hzD
      refine wpOp_mono (fun a' w' h3 => ⟨fun _ => h3.2.1 hz2, ih (listed.setIfInBounds j true) a' w' hfree' (ready_mono hr (Ne.symm hji)) hD' h3.1 (h3.2.1 hz2) ?_⟩) h2
      rw [Array.setIfInBounds_comm _ _ hji]
      exact h3.2.2
/-- take number i first -/
theorem wpAnyZ_take (i : Nat) (D : List Nat) {oi : Oper} {v : Value} {fuel : Nat} {listed : Array Bool} {a : Act} {w : World} (hi : ops[i]? = some oi)
    (hs : Region.noSelect ops = true) (hf : Region.free md ops listed i = true) (hr : (Region.ready md ops listed).contains i = true) (hzD : D.contains z = true) (hiD : D.contains i = false) (hdep : Region.waits md ops i D = true) (hun : (D.all fun d => listed.getD d true == false) = true)
    (hQ : ∀ c a w, Q (.panic c) (a.put oi.dst v) w → Q (.panic c) a w) (hy : YieldsIf P ops S oi v a) (hS : S w)
    (h : wpAnyZ P md ops Q S z fuel (listed.setIfInBounds i true) (a.put oi.dst v) w) : wpAnyZ P md ops Q S z (fuel + 1) listed a w :=
  wpAnyZ_first hi (Region.noSelect_spec hs) hQ (by simpa using hzD) (by simpa using hiD) hdep fuel listed a w (Region.free_spec hi hf) (by simpa using hr) (fun d hd => by simpa using List.all_eq_true.1 hun d hd) hy hS h
/-- one alone may come up -/
theorem wpAnyZ_one (i : Nat) {o : Oper} {fuel : Nat} {listed : Array Bool} {a : Act} {w : World} (hr : Region.ready md ops listed = [i]) (ho : ops[i]? = some o)
    (h : ∀ K' : Act → World → Prop, Shut (∀ a w, S w → wpAnyZ P md ops Q S z fuel (listed.setIfInBounds i true) a w → K' a w) → if Region.wanted o (yielded ops a.tmps) = true then Oper.wp P o a w K' Q else K' (a.put o.dst undef) w) : wpAnyZ P md ops Q S z (fuel + 1) listed a w :=
  ⟨fun h0 => absurd (hr ▸ h0) (by simp), fun j hj => by
    rw [hr] at hj
    obtain rfl := List.mem_singleton.1 hj
    exact wpOp_step ho (fun K' hK => h K' (fun a w hS hW => hK a w ⟨fun _ => hS, hW⟩))⟩
/-- z alone may come up: from there on nothing more is wanted -/
theorem wpAnyZ_z {o : Oper} {fuel : Nat} {listed : Array Bool} {a : Act} {w : World} (hr : Region.ready md ops listed = [z]) (ho : ops[z]? = some o)
    (h : ∀ K' : Act → World → Prop, Shut (∀ a w, wpAny P md ops Q fuel (listed.setIfInBounds z true) a w → K' a w) → if Region.wanted o (yielded ops a.tmps) = true then Oper.wp P o a w K' Q else K' (a.put o.dst undef) w) : wpAnyZ P md ops Q S z (fuel + 1) listed a w :=
  have hz : (listed.setIfInBounds z true).getD z true = true := by
    rcases Nat.lt_or_ge z listed.size with h' | h'
    · simp [h']
    · simp [Array.getD, Nat.not_lt.2 h']
  ⟨fun h0 => absurd (hr ▸ h0) (by simp), fun j hj => by
    rw [hr] at hj
    obtain rfl := List.mem_singleton.1 hj
    exact wpOp_step ho (fun K' hK => h K' (fun a w hW => hK a w ⟨fun hf => by rw [hz] at hf; exact absurd hf (by simp), wpAnyZ_of_any _ _ _ _ hz hW⟩))⟩
/-- one alone may come up, in a region of which nothing more is wanted -/
theorem wpAny_one (i : Nat) {o : Oper} {fuel : Nat} {listed : Array Bool} {a : Act} {w : World} (hr : Region.ready md ops listed = [i]) (ho : ops[i]? = some o)
    (h : ∀ K' : Act → World → Prop, Shut (∀ a w, wpAny P md ops Q fuel (listed.setIfInBounds i true) a w → K' a w) → if Region.wanted o (yielded ops a.tmps) = true then Oper.wp P o a w K' Q else K' (a.put o.dst undef) w) : wpAny P md ops Q (fuel + 1) listed a w :=
  ⟨fun h0 => absurd (hr ▸ h0) (by simp), fun j hj => by
    rw [hr] at hj
    obtain rfl := List.mem_singleton.1 hj
    exact wpOp_step ho (fun K' hK => h K' (fun a w hW => hK a w hW))⟩
theorem wp_region_z (z : Nat) (S : World → Prop) {id : Nat} {a : Act} {w : World} (hm : P.follows .mixedOrders = true)
    (h : wpAnyZ P .any ops Q S z ops.size (Array.replicate ops.size false) a w.drew) : (Code.region id ops true).wp P Q a w :=
  wp_region_any hm (wpAny_of_z _ _ _ _ h)
end
end Go.Proofs.YtalfelkblbbmpaaDoor
/- image's reader: a number. -/
namespace Go.Proofs.YtalfelkblbbmpaaDoor
open Go.RowKit
namespace Ix
open Nx

/-- a reader: what is left, and whether something was wrong -/
def RdS (w : World) (b : Nat) (s : List UInt8) (bad : Bool) : Prop := w.heap[b]? = some (.cells #[.string (str s), .bool bad] 80 (0, 0))

theorem and127 (c : Nat) (h : c < 256) : bits .and .u8 (c : Int) 127 = ((c % 128 : Nat) : Int) := by
  show IntKind.u8.wrap ((BitVec.ofInt 8 (c : Int) &&& BitVec.ofInt 8 127).toNat : Int) = _
  have h1 : ∀ k : Fin 256, (BitVec.ofInt 8 ((k.val : Nat) : Int) &&& BitVec.ofInt 8 127).toNat = k.val % 128 := by decide +kernel
  have hk := h1 ⟨c, h⟩
  simp only at hk
  rw [hk]
  simp only [IntKind.wrap, IntKind.bits, IntKind.signed]
  simp
  omega
theorem bits_or_u64_nat (a b : Nat) (ha : a < 18446744073709551616) (hb : b < 18446744073709551616) : bits .or .u64 (a : Int) (b : Int) = ((a ||| b : Nat) : Int) := by
  have hx : a ||| b < 2 ^ 64 := Nat.or_lt_two_pow (by omega) (by omega)
  have h1 : (BitVec.ofInt 64 (a : Int)).toNat = a := by
    rw [BitVec.ofInt_natCast, BitVec.toNat_ofNat]; exact Nat.mod_eq_of_lt (by omega)
  have h2 : (BitVec.ofInt 64 (b : Int)).toNat = b := by
    rw [BitVec.ofInt_natCast, BitVec.toNat_ofNat]; exact Nat.mod_eq_of_lt (by omega)
  show IntKind.u64.wrap ((BitVec.ofInt 64 (a : Int) ||| BitVec.ofInt 64 (b : Int)).toNat : Int) = _
  rw [BitVec.toNat_or, h1, h2, IntKind.wrap_u64]
  omega
/-- bits that are apart: what they come to -/
theorem vb_or (s : List UInt8) (k c : Nat) (hk : k ≤ 9) (hc : c = (s.getD k 0).toNat) : vb s k ||| (c % 128 * 2 ^ (7 * k)) % 18446744073709551616 = vb s (k + 1) := by
  have h1 := (vb_small s k hk).2
  have hM : (18446744073709551616 : Nat) = 2 ^ (7 * k) * 2 ^ (64 - 7 * k) := by
    rw [← Nat.pow_add, show 7 * k + (64 - 7 * k) = 64 by omega]
  have e1 : (c % 128 * 2 ^ (7 * k)) % 18446744073709551616 = 2 ^ (7 * k) * (c % 128 % 2 ^ (64 - 7 * k)) := by
    rw [hM, Nat.mul_comm (c % 128), Nat.mul_mod_mul_left]
  rw [e1, Nat.or_comm, ← Nat.two_pow_add_eq_or_of_lt h1, vb, ← hc, ← Nat.add_mod_mod, e1]
  have h2 : c % 128 % 2 ^ (64 - 7 * k) < 2 ^ (64 - 7 * k) := Nat.mod_lt _ (Nat.two_pow_pos _)
  have h3 : 2 ^ (7 * k) * (c % 128 % 2 ^ (64 - 7 * k)) + 2 ^ (7 * k) ≤ 2 ^ (7 * k) * 2 ^ (64 - 7 * k) := by
    rw [← Nat.mul_succ]
    exact Nat.mul_le_mul_left _ h2
  rw [Nat.mod_eq_of_lt (a := vb s k + 2 ^ (7 * k) * (c % 128 % 2 ^ (64 - 7 * k))) (by rw [hM]; omega)]
  omega
theorem str_get (s : List UInt8) (k : Nat) (h : k < (str s).size) : (str s)[k].toNat = (s.getD k 0).toNat := by
  have h' : k < s.length := by rw [← str_size]; exact h
  rw [List.getD_eq_getElem?_getD, List.getElem?_eq_getElem h']
  rfl
theorem str_take (s : List UInt8) (k : Nat) : (str s).extract 0 k = str (s.take k) := by
  apply ByteArray.ext
  simp [str, ByteArray.data_extract]
theorem str_drop (s : List UInt8) (k : Nat) : (str s).extract k (str s).size = str (s.drop k) := by
  apply ByteArray.ext
  rw [str_size]
  simp [str, ByteArray.data_extract]
  exact List.take_of_length_le (by simp)
theorem str_inj {a b : List UInt8} (h : str a = str b) : a = b := by
  have := congrArg (fun x => x.data.toList) h
  simpa [str] using this

theorem fail_any (b : Nat) (s : List UInt8) (bad : Bool) (w : World) (h : RdS w b s bad) :
    Calls Tryd.prog 56 #[.pointer (some ⟨b, 0, none⟩)] w fun e w' => e = .returned (.tuple #[]) ∧ Hid (RdS w' b [] true ∧ Fr w.heap.size [b] w w') := by
  obtain ⟨c0, f0⟩ := cel h 0 _ rfl
  obtain ⟨c1, f1⟩ := cel h 1 _ rfl
  have H : Hid (RdS w b s bad) := h
  clear h
  go_enter Tryd.func56, Tryd.ntmps56
  go_wp2_with fail
  go_end0
  refine ⟨rfl, ?_, ((Fr.refl _ _ _).setCell (.inr (by simp)) _).setCell (.inr (by simp)) _⟩
  exact set_at (set_at H.out 0 _) 1 _

set_option maxRecDepth 20000 in
set_option maxHeartbeats 2000000 in
theorem number_any (b : Nat) (s : List UInt8) (bad : Bool) (w : World) (h : RdS w b s bad) (hs : s.length ≤ 1000000000) :
    Calls Tryd.prog 55 #[.pointer (some ⟨b, 0, none⟩)] w fun e w' => ∃ z s' bad', e = .returned (.int .i64 z) ∧ RdS w' b s' bad' ∧ Fr w.heap.size [b] w w' ∧ ((tk s = some (z, s') ∧ bad' = bad) ∨ (tk s = none ∧ z = 0 ∧ s' = [] ∧ bad' = true)) := by
  obtain ⟨T, hT0⟩ : ∃ T, T = str s := ⟨_, rfl⟩
  have hTs : T.size = s.length := by rw [hT0, str_size]
  have hT : Hid (T = str s) := hT0
  obtain ⟨c0, f0⟩ := cel h 0 _ rfl
  obtain ⟨c1, f1⟩ := cel h 1 _ rfl
  have c0' : w.cell? ⟨b, 0, none⟩ = some (.string T) := by rw [hT0]; exact c0
  have c1' : w.cell? ⟨b, 1, none⟩ = some (.bool bad) := c1
  obtain ⟨N, hN0⟩ : ∃ N : Nat, N = min T.size 10 := ⟨_, rfl⟩
  have hmin : min (T.size : Int) 10 = (N : Int) := by omega
  have hN1 : N ≤ T.size := by omega
  have hN2 : N ≤ 10 := by omega
  have hN3 : Hid (N = min T.size 10) := hN0
  have H : Hid (RdS w b s bad) := h
  have HTs : Hid (T.size = s.length) := hTs
  have hTb : T.size ≤ 1000000000 := by omega
  clear h c0 c1 hT0 hN0 hTs
  go_enter Tryd.func55, Tryd.ntmps55
  go_upto_region 3 with fail
  go_loopw [3, 13] (fun a i wr => ∃ (k : Nat) (u : Nat), k ≤ N ∧ i = .int .i64 k ∧ a = .int .u64 u ∧ u < 18446744073709551616 ∧ wr = w ∧ Hid (u = vb s k ∧ tk s = tkF s (10 - k) k)) (fun _ i _ => N - (intOf i).toNat)
  case atStart => exact ⟨0, 0, Nat.zero_le _, rfl, rfl, by decide, rfl, rfl, rfl⟩
  case round =>
    obtain ⟨k, u, hk, rfl, rfl, hu, rfl, X⟩ := hrel
    by_cases hlt : k < N
    · have hkT : k < T.size := by omega
      obtain ⟨c, hc⟩ : ∃ c, c = T[k].toNat := ⟨_, rfl⟩
      have hc2 : c = (s.getD k 0).toNat := by
        rw [hc]
        have := hT.out
        subst this
        exact str_get s k hkT
      have hc256 : c < 256 := by rw [hc]; exact T[k].toNat_lt
      obtain ⟨u2, hu2⟩ : ∃ u2, Hid (u2 = vb s (k + 1)) := ⟨_, rfl⟩
      have hu2lt : u2 < 18446744073709551616 := by rw [hu2.out]; exact vb_lt _ _
      have hor : bits .or .u64 (u : Int) (IntKind.u64.wrap (IntKind.u64.wrap (bits .and .u8 (c : Int) 127) * 2 ^ (7 * k))) = (u2 : Int) := by
        have e3 : ((c % 128 : Nat) : Int) % 18446744073709551616 * 2 ^ (7 * k) % 18446744073709551616 = ((c % 128 * 2 ^ (7 * k) % 18446744073709551616 : Nat) : Int) := by
          rw [Int.emod_eq_of_lt (a := ((c % 128 : Nat) : Int)) (by omega) (by omega), Int.natCast_emod (c % 128 * 2 ^ (7 * k)), Int.natCast_mul, Int.natCast_pow]
          rfl
        rw [and127 c hc256, IntKind.wrap_u64, IntKind.wrap_u64, e3, bits_or_u64_nat u _ hu (Nat.mod_lt _ (by decide)), hu2.out, ← vb_or s k c (by omega) hc2, X.out.1]
      have hstep : Hid (tkF s (10 - k) k = if 128 ≤ c then tkF s (10 - (k + 1)) (k + 1) else if P8 (uv u2) = s.take (k + 1) then some (uv u2, s.drop (k + 1)) else none) := by
        have e : 10 - k = (10 - (k + 1)) + 1 := by omega
        have : tkF s (10 - k) k = if 128 ≤ c then tkF s (10 - (k + 1)) (k + 1) else if P8 (uv u2) = s.take (k + 1) then some (uv u2, s.drop (k + 1)) else none := by
          rw [e, tkF, if_pos (by have := HTs.out; omega), ← hc2, hu2.out]
        exact this
      have HU : Hid (u = vb s k ∧ c = (s.getD k 0).toNat) := ⟨X.out.1, hc2⟩
      clear hc2
      by_cases h128 : 128 ≤ c
      · rw [hc] at hor h128
        go_wp2_with fail
        go_roundw
        case rel =>
          refine ⟨k + 1, u2, by omega, by go_num, rfl, hu2lt, (by first | rfl | trivial), hu2.out, ?_⟩
          rw [X.out.2, hstep.out, if_pos (by rw [hc]; exact h128)]
        case measure => simp [intOf]; omega
      · have huf := uv_fits hu2lt
        have hun := fun W => unwoven_any u2 W hu2lt
        obtain ⟨z, hz⟩ : ∃ z, Hid (z = uv u2) := ⟨_, rfl⟩
        rw [← hz.out] at hun huf
        obtain ⟨T2, hT2⟩ : ∃ T2, T2 = T.extract 0 (k + 1) := ⟨_, rfl⟩
        have hsl : ∀ W, (Instr.sliceAt 9 (.string T) none (some (.int .i64 ((k : Int) + 1))) none).run Tryd.prog W = .ok (.string T2) W := fun W => by
          rw [run_sliceAt_string W _ _ _ _ _ Tryd.underlying9, run_slice_string_h W _ T Tryd.underlying9 .i64 ((k : Int) + 1) (by omega) (by omega), hT2]
          rfl
        have HT2 : Hid (T2 = T.extract 0 (k + 1)) := hT2
        have hwr : IntKind.i64.wrap ((k : Int) + 1) = (k : Int) + 1 := by simp only [IntKind.wrap, IntKind.bits, IntKind.signed]; simp; omega
        clear hT2
        have HC : Hid (¬ 128 ≤ c) := h128
        rw [hc] at hor h128
        go_upto_region 7 with fail
        go_region_held3 (fun w' => w'.cell? ⟨b, 0, none⟩ = some (.string T)) (first | exact c0' | go_keep)
          ((first | (go_at_call 66; refine (hun _).mono ?_; rintro e w5 ⟨rfl, hw5⟩; obtain rfl := hw5.symm) | fail))
        all_goals
          obtain ⟨S9, hS9⟩ : ∃ S9, Hid (S9 = str (P8 z)) := ⟨_, rfl⟩
          have hadd : Calls Tryd.prog 21 #[.slice none 0 0, .int .i64 z] wr.drew fun e w' => ∃ ao n cap, e = .returned (.slice ao n cap) ∧ (convert 46 9 (.slice ao n cap)).run Tryd.prog w' = .ok (.string S9) w' ∧ (w'.cell? ⟨b, 0, none⟩ = some (.string T) ∧ w'.frozen? ⟨b, 0, none⟩ = false) ∧ Hid (Below wr.heap.size wr w' ∧ RdS w' b s bad) := by
            refine (addB_any wr.heap.size (.slice none 0 0) [] z wr.drew (.inl (World.ownsRow_nil _ _ _ _)) (Nat.le_refl _) (by simp) huf.1 huf.2).mono fun e w' ⟨v', he, hb⟩ => ?_
            obtain ⟨ao, cap, hv⟩ := Bys.shape (.inl hb.own)
            subst hv
            have hbl : Below wr.heap.size wr w' := ⟨hb.grown.os, hb.grown.tape, hb.grown.output, hb.grown.size, fun k hk => hb.grown.block k hk (by simp [Value.ownBlock])⟩
            have hrd : RdS w' b s bad := by
              unfold RdS
              rw [hbl.block b (lt_of_block H.out)]; exact H.out
            refine ⟨ao, _, cap, he, ?_, ?_, hbl, hrd⟩
            · rw [hS9.out]
              exact bys_string (.inl hb.own)
            · rw [hT.out]; exact cel hrd 0 _ rfl
          have Hk : Hid (tk s = if P8 z = s.take (k + 1) then some (z, s.drop (k + 1)) else none) := by
            have := X.out.2
            rw [hstep.out, if_neg HC.out, ← hz.out] at this
            exact this
          have HS : Hid (S9 = T2 ↔ P8 z = s.take (k + 1)) := by
            have e : T2 = str (s.take (k + 1)) := by rw [HT2.out, hT.out]; exact str_take s _
            have : S9 = T2 ↔ P8 z = s.take (k + 1) := by
              rw [hS9.out, e]
              exact ⟨str_inj, fun h => by rw [h]⟩
            exact this
          clear hun huf hsl hor h128
          by_cases heq : S9 = T2
          · subst heq
            obtain ⟨T3, hT3⟩ : ∃ T3, T3 = T.extract (k + 1) T.size := ⟨_, rfl⟩
            have hsl2 : ∀ W, (Instr.sliceAt 9 (.string T) (some (.int .i64 ((k : Int) + 1))) none none).run Tryd.prog W = .ok (.string T3) W := fun W => by
              rw [run_sliceAt_string W _ _ _ _ _ Tryd.underlying9, run_slice_string_l W _ T Tryd.underlying9 .i64 ((k : Int) + 1) (by omega) (by omega), hT3]
              rfl
            have HT3 : Hid (T3 = str (s.drop (k + 1))) := by
              have e : T3 = str (s.drop (k + 1)) := by rw [hT3, hT.out]; exact str_drop s _
              exact e
            clear hT3
            go_wp2_with (go_at_call 21; refine hadd.mono ?_; rintro e w6 ⟨ao, n6, cap, rfl, hcv, ⟨cc0, ff0⟩, Y⟩; clear hadd)
            go_ret
            refine ⟨z, s.drop (k + 1), bad, rfl, ?_, (Fr.of_below Y.out.1 [b]).setCell (.inr (by simp)) _, .inl ⟨by rw [Hk.out, if_pos (HS.out.1 (by first | rfl | trivial))], rfl⟩⟩
            unfold RdS
            rw [← HT3.out]
            exact set_at Y.out.2 0 _
          · have hne1 : (S9.toList == T2.toList) = false := (Lib.bytes_beq_false_iff _ _).2 heq
            have HNE : Hid (S9 ≠ T2) := heq
            clear heq
            go_wp2_with (first | (go_at_call 21; refine hadd.mono ?_; rintro e w6 ⟨ao, n6, cap, rfl, hcv, ⟨cc0, ff0⟩, Y⟩; clear hadd) | (go_at_call 56; refine (fail_any b s bad w6 Y.out.2).mono ?_; rintro e w7 ⟨rfl, Z⟩))
            go_ret
            refine ⟨0, [], true, rfl, Z.out.1, (Fr.of_below Y.out.1 [b]).trans (Z.out.2.mono Y.out.1.size (fun x hx _ => hx)), .inr ⟨by rw [Hk.out, if_neg (fun e => HNE.out (HS.out.2 e))], rfl, rfl, rfl⟩⟩
    · obtain rfl : k = N := by omega
      have hnone : tk s = none := by
        rw [X.out.2]
        have h1 := hN3.out
        have h2 := HTs.out
        by_cases h10 : k = 10
        · rw [h10]; rfl
        · exact tkF_out s _ _ (by omega)
      have HNO : Hid (tk s = none) := hnone
      clear hnone
      go_wp2_with (go_at_call 56; refine (fail_any b s bad wr H.out).mono ?_; rintro e w7 ⟨rfl, Z⟩)
      go_ret
      exact ⟨0, [], true, rfl, Z.out.1, Z.out.2, .inr ⟨HNO.out, rfl, rfl, rfl⟩⟩
end Ix
end Go.Proofs.YtalfelkblbbmpaaDoor
/- image's reader: small numbers, and lists of them. -/
namespace Go.Proofs.YtalfelkblbbmpaaDoor
open Go.RowKit
namespace Ix
open Nx

/-- what a reader was, and what it is when something was taken by f, or nothing could be -/
def Took {α : Type} (f : List UInt8 → Option (α × List UInt8)) (s : List UInt8) (bad : Bool) (z : α) (s' : List UInt8) (bad' : Bool) : Prop :=
  (f s = some (z, s') ∧ bad' = bad) ∨ (f s = none ∧ s' = [] ∧ bad' = true)

set_option maxHeartbeats 1000000 in
theorem small_num (b : Nat) (s : List UInt8) (bad : Bool) (w : World) (h : RdS w b s bad) (hs : s.length ≤ 1000000000) :
    Calls Tryd.prog 47 #[.pointer (some ⟨b, 0, none⟩)] w fun e w' => ∃ (z : Nat) (s' : List UInt8) (bad' : Bool), e = .returned (.int .i64 z) ∧ z ≤ 4000 ∧ Hid (RdS w' b s' bad' ∧ Fr w.heap.size [b] w w' ∧ s'.length ≤ s.length ∧ ((sm s = some ((z : Int), s') ∧ bad' = bad) ∨ (sm s = none ∧ z = 0 ∧ s' = [] ∧ bad' = true))) := by
  have hn := number_any b s bad w h hs
  rcases htk : tk s with _ | ⟨z, r⟩
  · have hn' : Calls Tryd.prog 55 #[.pointer (some ⟨b, 0, none⟩)] w fun e w' => e = .returned (.int .i64 0) ∧ Hid (RdS w' b [] true ∧ Fr w.heap.size [b] w w') :=
      hn.mono fun e w' ⟨z, s', bad', he, h1, h2, h3⟩ => by
        rcases h3 with ⟨h3, _⟩ | ⟨_, rfl, rfl, rfl⟩
        · rw [htk] at h3; cases h3
        · exact ⟨he, h1, h2⟩
    have HS : Hid (sm s = none) := sm_none_tk htk
    clear hn htk h
    go_enter Tryd.func47, Tryd.ntmps47
    go_wp2_with (go_at_call 55; refine hn'.mono ?_; rintro e w1 ⟨rfl, X⟩; clear hn')
    go_ret
    exact ⟨0, [], true, rfl, by omega, X.out.1, X.out.2, by simp, .inr ⟨HS.out, rfl, rfl, rfl⟩⟩
  · have hn' : Calls Tryd.prog 55 #[.pointer (some ⟨b, 0, none⟩)] w fun e w' => e = .returned (.int .i64 z) ∧ Hid (RdS w' b r bad ∧ Fr w.heap.size [b] w w') :=
      hn.mono fun e w' ⟨z', s', bad', he, h1, h2, h3⟩ => by
        rcases h3 with ⟨h3, rfl⟩ | ⟨h3, _⟩
        · rw [htk] at h3
          injection h3 with h3
          injection h3 with h4 h5
          subst h4; subst h5
          exact ⟨he, h1, h2⟩
        · rw [htk] at h3; cases h3
    have hlt := tk_less htk
    by_cases hz : 0 ≤ z ∧ z ≤ 4000
    · obtain ⟨k, rfl⟩ : ∃ k : Nat, z = (k : Int) := ⟨z.toNat, by omega⟩
      have HS : Hid (sm s = some ((k : Int), r)) := sm_of htk hz.1 hz.2
      have hk : k ≤ 4000 := by omega
      clear hn htk h hz
      go_enter Tryd.func47, Tryd.ntmps47
      go_wp2_with (go_at_call 55; refine hn'.mono ?_; rintro e w1 ⟨rfl, X⟩; clear hn')
      go_ret
      exact ⟨k, r, bad, rfl, hk, X.out.1, X.out.2, by omega, .inl ⟨HS.out, rfl⟩⟩
    · have HS : Hid (sm s = none) := sm_none_big htk hz
      clear hn htk h
      by_cases hneg : z < 0
      · clear hz
        go_enter Tryd.func47, Tryd.ntmps47
        go_wp2_with (first | (go_at_call 55; refine hn'.mono ?_; rintro e w1 ⟨rfl, X⟩; clear hn') | (go_at_call 56; refine (fail_any b r bad w1 X.out.1).mono ?_; rintro e w2 ⟨rfl, Y⟩))
        go_ret
        exact ⟨0, [], true, rfl, by omega, Y.out.1, X.out.2.trans (Y.out.2.mono X.out.2.size (fun x hx _ => hx)), by simp, .inr ⟨HS.out, rfl, rfl, rfl⟩⟩
      · have hbig : 4000 < z := by omega
        clear hz
        go_enter Tryd.func47, Tryd.ntmps47
        go_wp2_with (first | (go_at_call 55; refine hn'.mono ?_; rintro e w1 ⟨rfl, X⟩; clear hn') | (go_at_call 56; refine (fail_any b r bad w1 X.out.1).mono ?_; rintro e w2 ⟨rfl, Y⟩))
        go_ret
        exact ⟨0, [], true, rfl, by omega, Y.out.1, X.out.2.trans (Y.out.2.mono X.out.2.size (fun x hx _ => hx)), by simp, .inr ⟨HS.out, rfl, rfl, rfl⟩⟩
end Ix
end Go.Proofs.YtalfelkblbbmpaaDoor
/- image's reader: lists. -/
namespace Go.Proofs.YtalfelkblbbmpaaDoor
open Go.RowKit
namespace Ix
open Nx

theorem Tryd.infoInt : (Tryd.prog.info? 3).map (fun i => (i.zero, i.size, i.bytes)) = some (some (.int .i64 0), 1, 8) := by kernel_rfl
theorem own_fr {w w' : World} {B e size n : Nat} {v : Value} {xs : List Value} (h : w.ownsRow B e size v n xs) (hk : ∀ g, v.ownBlock = some g → w'.heap[g]? = w.heap[g]?) : w'.ownsRow B e size v n xs := by
  refine ⟨h.1, ?_⟩
  rcases h.2 with hn | ⟨g, cap, cur, rfl, hb, hgg, rest⟩
  · exact .inl hn
  · exact .inr ⟨g, cap, cur, rfl, hb, by rw [hk g rfl]; exact hgg, rest⟩
theorem own_shape {w : World} {B e size n : Nat} {v : Value} {xs : List Value} (h : w.ownsRow B e size v n xs) : ∃ ao cap, v = .slice ao n cap ∧ n ≤ cap := by
  rcases h.2 with ⟨rfl, h0⟩ | ⟨g, cap, cur, rfl, _, _, hc, _⟩
  · exact ⟨none, 0, by rw [h0], by omega⟩
  · exact ⟨_, _, rfl, hc⟩
theorem ints_own {w : World} {B e : Nat} {v : Value} {l : List Int} (h : w.ownsRow B e 1 v l.length (l.map (Value.int .i64))) : Ints (fun c => B ≤ c ∧ c < w.heap.size) w v l := by
  have hc := fun g hg => World.ownsRow.cells h (g := g) hg
  have hlt := fun g hg => World.ownsRow.lt h g hg
  rcases h.2 with ⟨rfl, h0⟩ | ⟨g, cap, cur, rfl, _⟩
  · exact ⟨none, 0, 0, 0, by rw [h0], fun hp => by omega, fun k hk => by omega⟩
  · refine ⟨_, g, 0, cap, rfl, fun _ => ⟨rfl, hlt g rfl⟩, fun k hk => ?_⟩
    have := hc g rfl k (.int .i64 (l.getD k 0)) (by rw [List.getElem?_map, List.getD_eq_getElem?_getD, List.getElem?_eq_getElem hk]; rfl)
    rwa [Addr.add_lit] at this
theorem cells_one (w : World) (x : Value) (t : TypeId) : ∀ j u, [x][j]? = some u → (w.alloc (.cells #[x] t)).cell? ((⟨w.heap.size, 0, none⟩ : Addr).add j) = some u := fun j u hu => by
  cases j with
  | zero => simp at hu; rw [← hu]; exact cell_new1 _ _ _
  | succ j => simp at hu
theorem one_int (x : Int) : ∀ u ∈ [Value.int .i64 x], u.oneCell' = true := fun u hu => by
  simp at hu; subst hu; rfl
/-- while a list is taken: k of them -/
structure LS (w W : World) (b : Nat) (e : TypeId) (f : List UInt8 → Option (Int × List UInt8)) (r : List UInt8) (bad : Bool) (v : Value) (k : Nat) (l : List Int) (s' : List UInt8) (bad' : Bool) : Prop where
  own : W.ownsRow w.heap.size e 1 v k (l.map (Value.int .i64))
  len : l.length = k
  rd : RdS W b s' bad'
  fr : Fr w.heap.size [b] w W
  short : s'.length ≤ r.length
  took : (tkK f r k = some (l, s') ∧ bad' = bad) ∨ (tkK f r k = none ∧ s' = [] ∧ bad' = true)
theorem LS.step {w W W1 W2 : World} {b : Nat} {e : TypeId} {f : List UInt8 → Option (Int × List UInt8)} {r : List UInt8} {bad : Bool} {v v2 : Value} {k : Nat} {l : List Int} {s' s2 : List UInt8} {bad' bad2 : Bool} {z : Int} {o : Obj} (h : LS w W b e f r bad v k l s' bad') (hbw : b < w.heap.size) (hnil : f [] = none)
    (hr : RdS W1 b s2 bad2) (hf : Fr W.heap.size [b] W W1) (hs : s2.length ≤ s'.length) (ht : (f s' = some (z, s2) ∧ bad2 = bad') ∨ (f s' = none ∧ s2 = [] ∧ bad2 = true))
    (hown : W2.ownsRow w.heap.size e 1 v2 (k + 1) (l.map (Value.int .i64) ++ [.int .i64 z])) (hg : (W1.alloc o).grownBy W2 v.ownBlock) : LS w W2 b e f r bad v2 (k + 1) (l ++ [z]) s2 bad2 := by
  have hw := h.fr.size
  have hvne : ∀ g, v.ownBlock = some g → w.heap.size ≤ g := fun g hgg => (h.own.lt g hgg).1
  refine ⟨by rw [List.map_append]; exact hown, by simp [h.len], ?_, ?_, Nat.le_trans hs h.short, ?_⟩
  · unfold RdS
    rw [hg.block b (by have := lt_of_block hr; simp; omega) (fun e => by have := hvne b e.symm; omega), Below.heap_alloc _ _ _ (lt_of_block hr)]
    exact hr
  · refine (h.fr.trans (hf.mono hw (fun x hx _ => hx))).trans ⟨hg.os, hg.tape, hg.output, by have := hg.size; simp at this; omega, fun c hc hx => ?_⟩
    have := hf.size
    rw [hg.block c (by simp; omega) (fun e => by have := hvne c e.symm; omega)]
    exact Below.heap_alloc _ _ _ (by omega)
  · rcases h.took with ⟨h1, rfl⟩ | ⟨h1, rfl, rfl⟩
    · rcases ht with ⟨h2, rfl⟩ | ⟨h2, rfl, rfl⟩
      · exact .inl ⟨tkK_step f h1 h2, rfl⟩
      · exact .inr ⟨tkK_fail f h1 h2, rfl, rfl⟩
    · right
      rcases ht with ⟨h2, _⟩ | ⟨_, h3, h4⟩
      · rw [hnil] at h2; cases h2
      · exact ⟨tkK_none f h1, h3, h4⟩

set_option maxHeartbeats 2000000 in
theorem numbers_any (b : Nat) (s : List UInt8) (bad : Bool) (w : World) (h : RdS w b s bad) (hs : s.length ≤ 1000000000) :
    Calls Tryd.prog 48 #[.pointer (some ⟨b, 0, none⟩)] w fun e w' => ∃ v l s' bad', e = .returned v ∧ Hid (w'.ownsRow w.heap.size 2 1 v l.length (l.map (Value.int .i64)) ∧ RdS w' b s' bad' ∧ Fr w.heap.size [b] w w' ∧ s'.length ≤ s.length ∧ l.length ≤ 4000 ∧ ((lst tk s = some (l, s') ∧ bad' = bad) ∨ (lst tk s = none ∧ s' = [] ∧ bad' = true))) := by
  have hsm := small_num b s bad w h hs
  have hbw := lt_of_block h
  obtain ⟨i0, hi, hz0, hz1, hz2⟩ := info_parts Tryd.infoI64
  clear h
  go_enter Tryd.func48, Tryd.ntmps48
  go_upto_region 3 with (go_at_call 47; refine hsm.mono ?_; rintro e w1 ⟨c, r, bad1, rfl, hc, X⟩; clear hsm)
  have LL0 : ∃ l0 s0 bad0, LS w w1 b 2 tk r bad1 (.slice none 0 0) 0 l0 s0 bad0 := ⟨[], r, bad1, World.ownsRow_nil _ _ _ _, rfl, X.out.1, X.out.2.1, Nat.le_refl _, .inl ⟨rfl, rfl⟩⟩
  go_loopw [3, 6] (fun v i wr => ∃ (k : Nat), k ≤ c ∧ i = .int .i64 k ∧ ∃ l s' bad', Hid (LS w wr b 2 tk r bad1 v k l s' bad')) (fun _ i _ => c - (intOf i).toNat)
  case atStart => exact ⟨0, Nat.zero_le _, rfl, LL0⟩
  case round =>
    clear LL0
    obtain ⟨k, hk, rfl, l, s', bad', Y⟩ := hrel
    obtain ⟨ao, cap, rfl, _⟩ := own_shape Y.out.own
    by_cases hlt : k < c
    · have hn : Calls Tryd.prog 55 #[.pointer (some ⟨b, 0, none⟩)] wr fun e w' => ∃ z s2 bad2, e = .returned (.int .i64 z) ∧ Hid (RdS w' b s2 bad2 ∧ Fr wr.heap.size [b] wr w' ∧ s2.length ≤ s'.length ∧ ((tk s' = some (z, s2) ∧ bad2 = bad') ∨ (tk s' = none ∧ s2 = [] ∧ bad2 = true))) :=
        (number_any b s' bad' wr Y.out.rd (by have := Y.out.short; have := X.out.2.2.1; omega)).mono fun e w' ⟨z, s2, bad2, he, h1, h2, h3⟩ => by
          refine ⟨z, s2, bad2, he, h1, h2, ?_, h3.imp id fun h => ⟨h.1, h.2.2⟩⟩
          rcases h3 with ⟨h3, _⟩ | ⟨_, _, rfl, _⟩
          · have := tk_less h3; omega
          · simp
      go_wp2_with (first | (go_at_call 55; refine hn.mono ?_; rintro e w2 ⟨z, s2, bad2, rfl, Z⟩; clear hn) | (at_builtin; refine wpList_append_own_at _ rfl (.tmp 8) (.tmp 11) 22 rfl w.heap.size 2 i0 (.int .i64 0) 1 8 Tryd.underlying22 hi hz0 hz1 hz2 rfl (by decide) _ _ _ rfl ((own_fr Y.out.own (fun g hg => Z.out.2.1.block g (Y.out.own.lt g hg).2 (by have := (Y.out.own.lt g hg).1; simp; omega))).alloc _) ⟨w2.heap.size, 0, none⟩ 1 1 [.int .i64 z] rfl rfl (cells_one _ _ _) (one_int z) (by unfold maxLen; omega) (by omega) (by have := Y.out.fr.size; have := Z.out.2.1.size; simp; omega) ?_; intro v5 w5 hown5 hgrow5 _ hat5))
      go_roundw
      case rel => exact ⟨k + 1, by omega, by go_num, l ++ [z], s2, bad2, Y.out.step hbw rfl Z.out.1 Z.out.2.1 Z.out.2.2.1 Z.out.2.2.2 hown5 hgrow5⟩
      case measure => simp [intOf]; omega
    · obtain rfl : k = c := by omega
      go_wp2_with fail
      go_ret
      refine ⟨_, l, s', bad', rfl, ?_, Y.out.rd, Y.out.fr, Nat.le_trans Y.out.short X.out.2.2.1, by rw [Y.out.len]; exact hc, ?_⟩
      · rw [Y.out.len]; exact Y.out.own
      · unfold lst
        rcases X.out.2.2.2 with ⟨x1, x2⟩ | ⟨x1, x2, x3, x4⟩
        · simp only [x1]
          rw [Int.toNat_natCast, ← x2]
          exact Y.out.took
        · simp only [x1]
          subst x2
          right
          rcases Y.out.took with ⟨y1, y2⟩ | ⟨y1, y2, y3⟩
          · rw [tkK] at y1
            injection y1 with y1
            injection y1 with _ y1
            exact ⟨trivial, by rw [← y1]; exact x3, by rw [y2]; exact x4⟩
          · exact ⟨trivial, y2, y3⟩

set_option maxHeartbeats 2000000 in
theorem smalls_any (b : Nat) (s : List UInt8) (bad : Bool) (w : World) (h : RdS w b s bad) (hs : s.length ≤ 1000000000) :
    Calls Tryd.prog 49 #[.pointer (some ⟨b, 0, none⟩)] w fun e w' => ∃ v l s' bad', e = .returned v ∧ Hid (w'.ownsRow w.heap.size 3 1 v l.length (l.map (Value.int .i64)) ∧ RdS w' b s' bad' ∧ Fr w.heap.size [b] w w' ∧ s'.length ≤ s.length ∧ l.length ≤ 4000 ∧ ((lst sm s = some (l, s') ∧ bad' = bad) ∨ (lst sm s = none ∧ s' = [] ∧ bad' = true))) := by
  have hsm := small_num b s bad w h hs
  have hbw := lt_of_block h
  obtain ⟨i0, hi, hz0, hz1, hz2⟩ := info_parts Tryd.infoInt
  clear h
  go_enter Tryd.func49, Tryd.ntmps49
  go_upto_region 3 with (go_at_call 47; refine hsm.mono ?_; rintro e w1 ⟨c, r, bad1, rfl, hc, X⟩; clear hsm)
  have LL0 : ∃ l0 s0 bad0, LS w w1 b 3 sm r bad1 (.slice none 0 0) 0 l0 s0 bad0 := ⟨[], r, bad1, World.ownsRow_nil _ _ _ _, rfl, X.out.1, X.out.2.1, Nat.le_refl _, .inl ⟨rfl, rfl⟩⟩
  go_loopw [3, 6] (fun v i wr => ∃ (k : Nat), k ≤ c ∧ i = .int .i64 k ∧ ∃ l s' bad', Hid (LS w wr b 3 sm r bad1 v k l s' bad')) (fun _ i _ => c - (intOf i).toNat)
  case atStart => exact ⟨0, Nat.zero_le _, rfl, LL0⟩
  case round =>
    clear LL0
    obtain ⟨k, hk, rfl, l, s', bad', Y⟩ := hrel
    obtain ⟨ao, cap, rfl, _⟩ := own_shape Y.out.own
    by_cases hlt : k < c
    · have hn : Calls Tryd.prog 47 #[.pointer (some ⟨b, 0, none⟩)] wr fun e w' => ∃ z s2 bad2, e = .returned (.int .i64 z) ∧ Hid (RdS w' b s2 bad2 ∧ Fr wr.heap.size [b] wr w' ∧ s2.length ≤ s'.length ∧ ((sm s' = some (z, s2) ∧ bad2 = bad') ∨ (sm s' = none ∧ s2 = [] ∧ bad2 = true))) :=
        (small_num b s' bad' wr Y.out.rd (by have := Y.out.short; have := X.out.2.2.1; omega)).mono fun e w' ⟨z, s2, bad2, he, _, Z⟩ => ⟨(z : Int), s2, bad2, he, Z.out.1, Z.out.2.1, Z.out.2.2.1, Z.out.2.2.2.imp id fun h => ⟨h.1, h.2.2⟩⟩
      go_wp2_with (first | (go_at_call 47; refine hn.mono ?_; rintro e w2 ⟨z, s2, bad2, rfl, Z⟩; clear hn) | (at_builtin; refine wpList_append_own_at _ rfl (.tmp 8) (.tmp 11) 23 rfl w.heap.size 3 i0 (.int .i64 0) 1 8 Tryd.underlying23 hi hz0 hz1 hz2 rfl (by decide) _ _ _ rfl ((own_fr Y.out.own (fun g hg => Z.out.2.1.block g (Y.out.own.lt g hg).2 (by have := (Y.out.own.lt g hg).1; simp; omega))).alloc _) ⟨w2.heap.size, 0, none⟩ 1 1 [.int .i64 z] rfl rfl (cells_one _ _ _) (one_int z) (by unfold maxLen; omega) (by omega) (by have := Y.out.fr.size; have := Z.out.2.1.size; simp; omega) ?_; intro v5 w5 hown5 hgrow5 _ hat5))
      go_roundw
      case rel => exact ⟨k + 1, by omega, by go_num, l ++ [z], s2, bad2, Y.out.step hbw rfl Z.out.1 Z.out.2.1 Z.out.2.2.1 Z.out.2.2.2 hown5 hgrow5⟩
      case measure => simp [intOf]; omega
    · obtain rfl : k = c := by omega
      go_wp2_with fail
      go_ret
      refine ⟨_, l, s', bad', rfl, ?_, Y.out.rd, Y.out.fr, Nat.le_trans Y.out.short X.out.2.2.1, by rw [Y.out.len]; exact hc, ?_⟩
      · rw [Y.out.len]; exact Y.out.own
      · unfold lst
        rcases X.out.2.2.2 with ⟨x1, x2⟩ | ⟨x1, x2, x3, x4⟩
        · simp only [x1]
          rw [Int.toNat_natCast, ← x2]
          exact Y.out.took
        · simp only [x1]
          subst x2
          right
          rcases Y.out.took with ⟨y1, y2⟩ | ⟨y1, y2, y3⟩
          · rw [tkK] at y1
            injection y1 with y1
            injection y1 with _ y1
            exact ⟨trivial, by rw [← y1]; exact x3, by rw [y2]; exact x4⟩
          · exact ⟨trivial, y2, y3⟩
end Ix
end Go.Proofs.YtalfelkblbbmpaaDoor
/- image's reader: a step. -/
namespace Go.Proofs.YtalfelkblbbmpaaDoor
open Go.RowKit
namespace Ix
open Nx

theorem slP1 (g : Nat) (w : World) : (Instr.sliceAt 62 (.slice (some ⟨g, 0, none⟩) 2 5) (some (.int .i64 1)) none none).run Tryd.prog w = .ok (.slice (some ⟨g, 1, none⟩) 1 4) w := by kernel_rfl
theorem slP2 (g : Nat) (w : World) : (Instr.sliceAt 62 (.slice (some ⟨g, 0, none⟩) 3 5) (some (.int .i64 1)) none none).run Tryd.prog w = .ok (.slice (some ⟨g, 1, none⟩) 2 4) w := by kernel_rfl
theorem slP3 (g : Nat) (w : World) : (Instr.sliceAt 62 (.slice (some ⟨g, 0, none⟩) 4 5) (some (.int .i64 1)) none none).run Tryd.prog w = .ok (.slice (some ⟨g, 1, none⟩) 3 4) w := by kernel_rfl
theorem slP4 (g : Nat) (w : World) : (Instr.sliceAt 62 (.slice (some ⟨g, 0, none⟩) 5 5) (some (.int .i64 1)) none none).run Tryd.prog w = .ok (.slice (some ⟨g, 1, none⟩) 4 4) w := by kernel_rfl
theorem slP (g M m : Nat) (h : M = m + 1) (h1 : 1 ≤ m) (h4 : m ≤ 4) (w : World) : (Instr.sliceAt 62 (.slice (some ⟨g, 0, none⟩) M 5) (some (.int .i64 1)) none none).run Tryd.prog w = .ok (.slice (some ⟨g, 1, none⟩) m 4) w := by
  have hm : m = 1 ∨ m = 2 ∨ m = 3 ∨ m = 4 := by omega
  subst h
  rcases hm with rfl | rfl | rfl | rfl
  · exact slP1 g w
  · exact slP2 g w
  · exact slP3 g w
  · exact slP4 g w
theorem jxQ (g m k : Nat) (hk : k < m) (w : World) : (Instr.indexAt 62 (.slice (some ⟨g, 1, none⟩) m 4) (.int .i64 (k : Int))).run Tryd.prog w = .ok (.pointer (some ⟨g, 1 + k, none⟩)) w := by
  rw [run_indexAt_slice _ _ _ _ _ _ _ (by kernel_rfl), if_pos ⟨by omega, by omega⟩]
  have e : (sizeOf (Tryd.prog.elem 62)).run Tryd.prog w = .ok 1 w := by kernel_rfl
  rw [e]
  simp [Result.andThen, Addr.add]
theorem load5 {W : World} {g : Nat} {fc : Array Value} (hsz : fc.size = 5) (hg : W.heap[g]? = some (.cells fc 55 (0, 0))) : (loadVar 55 ⟨g, 0, none⟩).run Tryd.prog W = .ok (.agg fc) W :=
  run_loadVar_row (P := Tryd.prog) W g 55 55 fc (0, 0) _ hg Tryd.underlying55 rfl (by rw [hsz]; kernel_rfl)
theorem resultsS (tmps : Array Value) (W : World) (e : Nat) (fe : Array Value) (hse : fe.size = 5) (hq : tmps[2]?.getD undef = .pointer (some ⟨e, 0, none⟩)) (he : W.heap[e]? = some (.cells fe 55 (0, 0))) :
    (results Tryd.f50 tmps).run Tryd.prog W = .ok (.agg fe) W := by
  simp [results, Tryd.results50, hq, asAddr, load5 hse he]
/-- five parts, of which the first ones are these -/
def five (c : Int) (l : List Int) : Array Value := #[.int .i64 c, .int .i64 (l.getD 0 0), .int .i64 (l.getD 1 0), .int .i64 (l.getD 2 0), .int .i64 (l.getD 3 0)]
theorem five_set (c : Int) (l : List Int) (k : Nat) (hk : l.length = k) (h4 : k < 4) (z : Int) : (five c l).setIfInBounds (1 + k) (.int .i64 z) = five c (l ++ [z]) := by
  have hm : k = 0 ∨ k = 1 ∨ k = 2 ∨ k = 3 := by omega
  unfold five
  rcases hm with rfl | rfl | rfl | rfl
  · match l, hk with
    | [], _ => rfl
  · match l, hk with
    | [_], _ => rfl
  · match l, hk with
    | [_, _], _ => rfl
  · match l, hk with
    | [_, _, _], _ => rfl
/-- while a step is taken -/
structure SS (w W : World) (b sb g : Nat) (c : Int) (r : List UInt8) (bad : Bool) (k : Nat) (l : List Int) (s' : List UInt8) (bad' : Bool) : Prop where
  st : W.heap[sb]? = some (.cells (five c l) 55 (0, 0))
  pt : W.heap[g]? = some (.cells (ptrs sb) 65 (0, 0))
  rb : W.heap[w.heap.size]? = some (.cells (five 0 []) 55 (0, 0))
  len : l.length = k
  rd : RdS W b s' bad'
  fr : Fr w.heap.size [b] w W
  short : s'.length ≤ r.length
  took : (tkK sm r k = some (l, s') ∧ bad' = bad) ∨ (tkK sm r k = none ∧ s' = [] ∧ bad' = true)
theorem SS.step {w W W1 : World} {b sb g : Nat} {c : Int} {r : List UInt8} {bad : Bool} {k : Nat} {l : List Int} {s' s2 : List UInt8} {bad' bad2 : Bool} {z : Int} (h : SS w W b sb g c r bad k l s' bad') (hbw : b < w.heap.size) (hsb : w.heap.size < sb) (hg : w.heap.size ≤ g) (hgs : g ≠ sb) (hk : k < 4)
    (hr : RdS W1 b s2 bad2) (hf : Fr W.heap.size [b] W W1) (hs : s2.length ≤ s'.length) (ht : (sm s' = some (z, s2) ∧ bad2 = bad') ∨ (sm s' = none ∧ s2 = [] ∧ bad2 = true)) :
    SS w (W1.setCell ⟨sb, 1 + k, none⟩ (.int .i64 z)) b sb g c r bad (k + 1) (l ++ [z]) s2 bad2 := by
  have hw := h.fr.size
  have k1 : W1.heap[sb]? = some (.cells (five c l) 55 (0, 0)) := by rw [hf.block sb (lt_of_block h.st) (by simp; omega)]; exact h.st
  have k2 : W1.heap[g]? = some (.cells (ptrs sb) 65 (0, 0)) := by rw [hf.block g (lt_of_block h.pt) (by simp; omega)]; exact h.pt
  have k3 : W1.heap[w.heap.size]? = some (.cells (five 0 []) 55 (0, 0)) := by rw [hf.block _ (lt_of_block h.rb) (by simp; omega)]; exact h.rb
  refine ⟨?_, ?_, ?_, by simp [h.len], ?_, ?_, Nat.le_trans hs h.short, ?_⟩
  · rw [← five_set c l k h.len hk]; exact set_at k1 _ _
  · rw [Below.heap_setCell _ _ _ _ hgs]; exact k2
  · rw [Below.heap_setCell _ _ _ _ (by simp; omega)]; exact k3
  · unfold RdS; rw [Below.heap_setCell _ _ _ _ (by simp; omega)]; exact hr
  · exact (h.fr.trans (hf.mono hw (fun x hx _ => hx))).setCell (.inl (by simp; omega)) _
  · rcases h.took with ⟨h1, rfl⟩ | ⟨h1, rfl, rfl⟩
    · rcases ht with ⟨h2, rfl⟩ | ⟨h2, rfl, rfl⟩
      · exact .inl ⟨tkK_step sm h1 h2, rfl⟩
      · exact .inr ⟨tkK_fail sm h1 h2, rfl, rfl⟩
    · right
      rcases ht with ⟨h2, _⟩ | ⟨_, h3, h4⟩
      · rw [sm_nil] at h2; cases h2
      · exact ⟨tkK_none sm h1, h3, h4⟩

set_option maxHeartbeats 2000000 in
theorem step_any' (b : Nat) (s : List UInt8) (bad : Bool) (w : World) (h : RdS w b s bad) (hs : s.length ≤ 1000000000) :
    Calls Tryd.prog 50 #[.pointer (some ⟨b, 0, none⟩)] w fun e w' => ∃ x : Sp, ∃ s' bad', e = .returned (.agg #[.int .i64 x.code, .int .i64 x.dst, .int .i64 x.a, .int .i64 x.b, .int .i64 x.c]) ∧ Hid (RdS w' b s' bad' ∧ Fr w.heap.size [b] w w' ∧ s'.length ≤ s.length ∧ ((rdS s = some (x, s') ∧ bad' = bad) ∨ (rdS s = none ∧ s' = [] ∧ bad' = true))) := by
  have hbw := lt_of_block h
  have h0 : RdS (w.alloc (.cells #[.int .i64 0, .int .i64 0, .int .i64 0, .int .i64 0, .int .i64 0] 55)) b s bad := by unfold RdS; rw [Below.heap_alloc _ _ _ hbw]; exact h
  have hsm := small_num b s bad _ h0 hs
  clear h h0
  go_enter Tryd.func50, Tryd.ntmps50
  go_upto_region 2 with (go_at_call 47; refine hsm.mono ?_; rintro e w1 ⟨c, r, bad1, rfl, hc, X⟩; clear hsm)
  have hsb : w.heap.size < w1.heap.size := by have := X.out.2.1.size; simp at this; omega
  have hb1 := lt_of_block X.out.1
  obtain ⟨m, hm⟩ : ∃ m, m = 1 + nAsk (c : Int) := ⟨_, rfl⟩
  obtain ⟨M, hM⟩ : ∃ M, M = 2 + nAsk (c : Int) := ⟨_, rfl⟩
  have hm3 := nAsk3 (c : Int)
  have hto : Calls Tryd.prog 24 #[.pointer (some ⟨w1.heap.size, 0, none⟩)] (w1.alloc (.cells #[.int .i64 c, .int .i64 0, .int .i64 0, .int .i64 0, .int .i64 0] 55)) fun e w' => ∃ g, e = .returned (.slice (some ⟨g, 0, none⟩) M 5) ∧ Hid (w1.heap.size < g ∧ SS w w' b w1.heap.size g c r bad1 0 [] r bad1) := by
    refine (told_any w1.heap.size c 0 0 0 0 _ (heap_alloc_new w1 _)).mono fun e w' ⟨g, he, hg, hp, hb⟩ => ⟨g, by rw [he, hM], ?_, ?_⟩
    · simp at hg; omega
    · refine ⟨?_, hp, ?_, rfl, ?_, ?_, Nat.le_refl _, .inl ⟨rfl, rfl⟩⟩
      · rw [hb.block _ (by simp)]; exact heap_alloc_new w1 _
      · rw [hb.block _ (by simp; omega), Below.heap_alloc _ _ _ hsb, X.out.2.1.block w.heap.size (by simp) (by simp; omega)]; exact heap_alloc_new w _
      · unfold RdS
        rw [hb.block _ (by simp; omega), Below.heap_alloc _ _ _ hb1]; exact X.out.1
      · have f1 : Fr w.heap.size [b] w w1 := ((Fr.refl _ _ _).alloc (Nat.le_refl _) _).trans (X.out.2.1.mono (by simp) (fun x hx _ => hx))
        exact (f1.alloc (by omega) _).trans (Fr.of_below (hb.mono (by simp; omega)) _)
  have HM : Hid (m = 1 + nAsk (c : Int) ∧ nAsk (c : Int) ≤ 3) := ⟨hm, hm3⟩
  have hMm : M = m + 1 := by omega
  have hm1 : 1 ≤ m := by omega
  have hm4 : m ≤ 4 := by omega
  have hsl := fun g => slP g M m hMm hm1 hm4
  have HMM : Hid (M = m + 1) := hMm
  clear hm hM hm3 hMm
  revert hto
  generalize w1.alloc (.cells #[.int .i64 c, .int .i64 0, .int .i64 0, .int .i64 0, .int .i64 0] 55) = Wq
  obtain ⟨sb, hsbe⟩ : ∃ sb, sb = w1.heap.size := ⟨_, rfl⟩
  rw [← hsbe] at hsb ⊢
  intro hto
  clear hsbe
  go_upto_region 3 with (go_at_call 24; refine hto.mono ?_; rintro e w2 ⟨g, rfl, S0⟩; clear hto)
  clear hsl
  go_loopw [12] (fun i wr => ∃ k : Nat, k ≤ m ∧ i = .int .i64 k ∧ ∃ l s' bad', Hid (SS w wr b sb g c r bad1 k l s' bad')) (fun i _ => m - (intOf i).toNat)
  case atStart => exact ⟨0, Nat.zero_le _, rfl, [], r, bad1, S0.out.2⟩
  case round =>
    obtain ⟨k, hk, rfl, l, s', bad', S⟩ := hrel
    have HG : Hid (sb < g) := S0.out.1
    clear S0
    by_cases hlt : k < m
    · have hix := jxQ g m k hlt
      have cp := ptr_cell S.out.pt (1 + k) (by omega)
      have hn : Calls Tryd.prog 47 #[.pointer (some ⟨b, 0, none⟩)] wr fun e w' => ∃ z s2 bad2, e = .returned (.int .i64 z) ∧ (∃ y, w'.cell? ⟨sb, 1 + k, none⟩ = some y) ∧ w'.frozen? ⟨sb, 1 + k, none⟩ = false ∧ Hid (RdS w' b s2 bad2 ∧ Fr wr.heap.size [b] wr w' ∧ s2.length ≤ s'.length ∧ ((sm s' = some (z, s2) ∧ bad2 = bad') ∨ (sm s' = none ∧ s2 = [] ∧ bad2 = true))) :=
        (small_num b s' bad' wr S.out.rd (by have := S.out.short; have := X.out.2.2.1; omega)).mono fun e w' ⟨z, s2, bad2, he, _, Z⟩ => by
          have hst : w'.heap[sb]? = some (.cells (five c l) 55 (0, 0)) := by rw [Z.out.2.1.block sb (lt_of_block S.out.st) (by simp; omega)]; exact S.out.st
          refine ⟨(z : Int), s2, bad2, he, ⟨(five c l)[1 + k]'(by show 1 + k < 5; omega), ?_⟩, (by simp [World.frozen?, hst]), Z.out.1, Z.out.2.1, Z.out.2.2.1, Z.out.2.2.2.imp id fun h => ⟨h.1, h.2.2⟩⟩
          rw [cell_of_row _ _ _ _ _ _ hst]
          exact Array.getElem?_eq_getElem _
      go_wp2_with (go_at_call 47; refine hn.mono ?_; rintro e w3 ⟨z, s2, bad2, rfl, ⟨y, cy⟩, fy, Z⟩; clear hn)
      go_roundw
      case rel => exact ⟨k + 1, by omega, by go_num, l ++ [z], s2, bad2, S.out.step hbw hsb (by have := HG.out; omega) (by have := HG.out; omega) (by omega) Z.out.1 Z.out.2.1 Z.out.2.2.1 Z.out.2.2.2⟩
      case measure => simp [intOf]; omega
    · obtain rfl : k = m := by omega
      have q0 : wr.cell? ⟨sb, 0, none⟩ = some (.int .i64 c) := (cel S.out.st 0 _ rfl).1
      have q1 : wr.cell? ⟨sb, 1, none⟩ = some (.int .i64 (l.getD 0 0)) := (cel S.out.st 1 _ rfl).1
      have q2 : wr.cell? ⟨sb, 2, none⟩ = some (.int .i64 (l.getD 1 0)) := (cel S.out.st 2 _ rfl).1
      have q3 : wr.cell? ⟨sb, 3, none⟩ = some (.int .i64 (l.getD 2 0)) := (cel S.out.st 3 _ rfl).1
      have q4 : wr.cell? ⟨sb, 4, none⟩ = some (.int .i64 (l.getD 3 0)) := (cel S.out.st 4 _ rfl).1
      obtain ⟨p0, f0⟩ := cel S.out.rb 0 (.int .i64 0) rfl
      obtain ⟨p1, f1⟩ := cel S.out.rb 1 (.int .i64 0) rfl
      obtain ⟨p2, f2⟩ := cel S.out.rb 2 (.int .i64 0) rfl
      obtain ⟨p3, f3⟩ := cel S.out.rb 3 (.int .i64 0) rfl
      obtain ⟨p4, f4⟩ := cel S.out.rb 4 (.int .i64 0) rfl
      obtain ⟨x1, hx1⟩ : ∃ x, Hid (x = l.getD 0 0) := ⟨_, rfl⟩
      obtain ⟨x2, hx2⟩ : ∃ x, Hid (x = l.getD 1 0) := ⟨_, rfl⟩
      obtain ⟨x3, hx3⟩ : ∃ x, Hid (x = l.getD 2 0) := ⟨_, rfl⟩
      obtain ⟨x4, hx4⟩ : ∃ x, Hid (x = l.getD 3 0) := ⟨_, rfl⟩
      rw [← hx1.out] at q1
      rw [← hx2.out] at q2
      rw [← hx3.out] at q3
      rw [← hx4.out] at q4
      go_wp2_with fail
      refine bodyPost_ret (resultsS _ _ w.heap.size #[.int .i64 c, .int .i64 x1, .int .i64 x2, .int .i64 x3, .int .i64 x4] rfl rfl (set_at (set_at (set_at (set_at (set_at S.out.rb 0 _) 1 _) 2 _) 3 _) 4 _)) rfl ?_
      refine ⟨⟨c, x1, x2, x3, x4⟩, s', bad', rfl, ?_, ?_, Nat.le_trans S.out.short X.out.2.2.1, ?_⟩
      · unfold RdS
        rw [Below.heap_setCell _ _ _ _ (by simp; omega), Below.heap_setCell _ _ _ _ (by simp; omega), Below.heap_setCell _ _ _ _ (by simp; omega), Below.heap_setCell _ _ _ _ (by simp; omega), Below.heap_setCell _ _ _ _ (by simp; omega)]
        exact S.out.rd
      · exact ((((S.out.fr.setCell (.inl (by simp)) _).setCell (.inl (by simp)) _).setCell (.inl (by simp)) _).setCell (.inl (by simp)) _).setCell (.inl (by simp)) _
      · unfold rdS
        rcases X.out.2.2.2 with ⟨y1, y2⟩ | ⟨y1, y2, y3, y4⟩
        · simp only [y1]
          rw [← HM.out.1, ← y2]
          rcases S.out.took with ⟨z1, z2⟩ | ⟨z1, z2, z3⟩
          · left
            simp only [z1]
            exact ⟨by rw [hx1.out, hx2.out, hx3.out, hx4.out], z2⟩
          · right
            simp only [z1]
            exact ⟨trivial, z2, z3⟩
        · simp only [y1]
          right
          refine ⟨trivial, ?_⟩
          rcases S.out.took with ⟨z1, z2⟩ | ⟨z1, z2, z3⟩
          · exfalso
            rw [y3] at z1
            have := tkK_none_le sm (s := []) (k := 1) (m := k) (by rfl) (by omega)
            rw [this] at z1
            cases z1
          · exact ⟨z2, z3⟩
end Ix
end Go.Proofs.YtalfelkblbbmpaaDoor
/- image's reader: all code. -/
namespace Go.Proofs.YtalfelkblbbmpaaDoor
open Go.RowKit
namespace Ix
open Nx

/-! reading, part by part -/
section
variable (p : Int) (fi i o k m : List Int)
def k6 (s : List UInt8) : Option (Nt × List UInt8) := match lstS s with
  | none => none
  | some (c, s7) => some (⟨p, fi, i, o, k, m, c⟩, s7)
def k5 (s : List UInt8) : Option (Nt × List UInt8) := match lst tk s with
  | none => none
  | some (m, s6) => k6 p fi i o k m s6
def k4 (s : List UInt8) : Option (Nt × List UInt8) := match lst sm s with
  | none => none
  | some (k, s5) => k5 p fi i o k s5
def k3 (s : List UInt8) : Option (Nt × List UInt8) := match lst sm s with
  | none => none
  | some (o, s4) => k4 p fi i o s4
def k2 (s : List UInt8) : Option (Nt × List UInt8) := match lst sm s with
  | none => none
  | some (i, s3) => k3 p fi i s3
def k1 (s : List UInt8) : Option (Nt × List UInt8) := match lst tk s with
  | none => none
  | some (fi, s2) => k2 p fi s2
def k0 (s : List UInt8) : Option (Nt × List UInt8) := match sm s with
  | none => none
  | some (p, s1) => k1 p s1
end
theorem rdN_k0 (s : List UInt8) : rdN s = k0 s := rfl
/-- how far it is: what there is to be read hangs on what is left; or it is over -/
def Th {R : Type} (R0 : Option R) (K : List UInt8 → Option R) (s : List UInt8) (bad bad0 : Bool) : Prop := (R0 = K s ∧ bad = bad0) ∨ (R0 = none ∧ s = [] ∧ bad = true)
theorem Th.next {R α : Type} {R0 : Option R} {K : List UInt8 → Option R} {K' : α → List UInt8 → Option R} {f : List UInt8 → Option (α × List UInt8)} (hK : ∀ s, K s = match f s with
    | none => none
    | some (z, r) => K' z r) (hnil : f [] = none) {s s' : List UInt8} {bad bad' bad0 : Bool} {z : α} (h : Th R0 K s bad bad0) (ht : (f s = some (z, s') ∧ bad' = bad) ∨ (f s = none ∧ s' = [] ∧ bad' = true)) : Th R0 (K' z) s' bad' bad0 := by
  rcases h with ⟨h1, rfl⟩ | ⟨h1, rfl, rfl⟩
  · rw [hK] at h1
    rcases ht with ⟨h2, rfl⟩ | ⟨h2, rfl, rfl⟩
    · rw [h2] at h1
      exact .inl ⟨h1, rfl⟩
    · rw [h2] at h1
      exact .inr ⟨h1, rfl, rfl⟩
  · rcases ht with ⟨h2, _⟩ | ⟨_, h3, h4⟩
    · rw [hnil] at h2; cases h2
    · exact .inr ⟨h1, h3, h4⟩

/-! steps in a row -/
def stC (l : List Sp) : List Value := l.flatMap fun x => [.int .i64 x.code, .int .i64 x.dst, .int .i64 x.a, .int .i64 x.b, .int .i64 x.c]
theorem stC_len (l : List Sp) : (stC l).length = l.length * 5 := by
  induction l with
  | nil => rfl
  | cons x r ih => simp only [stC, List.flatMap_cons, List.length_append] at ih ⊢; simp only [List.length_cons, List.length_nil]; omega
theorem stC_get (l : List Sp) : ∀ (k j : Nat), k < l.length → j < 5 → (stC l)[k * 5 + j]? = [Value.int .i64 (l.getD k sp0).code, .int .i64 (l.getD k sp0).dst, .int .i64 (l.getD k sp0).a, .int .i64 (l.getD k sp0).b, .int .i64 (l.getD k sp0).c][j]? := by
  induction l with
  | nil => intro k j hk; simp at hk
  | cons x r ih =>
    intro k j hk hj
    have e : stC (x :: r) = [.int .i64 x.code, .int .i64 x.dst, .int .i64 x.a, .int .i64 x.b, .int .i64 x.c] ++ stC r := rfl
    rw [e]
    cases k with
    | zero =>
      rw [Nat.zero_mul, Nat.zero_add, List.getElem?_append_left (by simpa using hj)]
      rfl
    | succ k =>
      rw [List.getElem?_append_right (by simp; omega)]
      have e2 : (k + 1) * 5 + j - [Value.int .i64 x.code, .int .i64 x.dst, .int .i64 x.a, .int .i64 x.b, .int .i64 x.c].length = k * 5 + j := by simp; omega
      rw [e2, ih k j (by simpa using hk) hj]
      rfl
theorem steps_own {w : World} {B e : Nat} {v : Value} {l : List Sp} (h : w.ownsRow B e 5 v l.length (stC l)) : Nx.Steps (fun c => B ≤ c ∧ c < w.heap.size) w v l := by
  have hc := fun g hg => World.ownsRow.cells h (g := g) hg
  have hlt := fun g hg => World.ownsRow.lt h g hg
  rcases h.2 with ⟨rfl, h0⟩ | ⟨g, cap, cur, rfl, _⟩
  · exact ⟨none, 0, 0, 0, by rw [h0], fun hp => by omega, fun k hk => by omega⟩
  · refine ⟨_, g, 0, cap, rfl, fun _ => ⟨rfl, hlt g rfl⟩, fun k hk => ?_⟩
    have key : ∀ j (hj : j < 5) u, [Value.int .i64 (l.getD k sp0).code, .int .i64 (l.getD k sp0).dst, .int .i64 (l.getD k sp0).a, .int .i64 (l.getD k sp0).b, .int .i64 (l.getD k sp0).c][j]? = some u → w.cell? ⟨g, k * 5 + j, none⟩ = some u := fun j hj u hu => by
      have := hc g rfl (k * 5 + j) u (by rw [stC_get l k j hk hj]; exact hu)
      rwa [Addr.add_lit, Nat.zero_add] at this
    rw [Nat.zero_add]
    exact ⟨key 0 (by omega) _ rfl, key 1 (by omega) _ rfl, key 2 (by omega) _ rfl, key 3 (by omega) _ rfl, key 4 (by omega) _ rfl⟩

/-! while code is read -/
theorem new2' (w : World) (o o2 : Obj) : ((w.alloc o).alloc o2).heap[w.heap.size + 1]? = some o2 := by
  have := heap_alloc_new (w.alloc o) o2
  simpa using this
theorem ints_new {w W W' : World} {e : TypeId} {v : Value} {l : List Int} (h : W'.ownsRow W.heap.size e 1 v l.length (l.map (Value.int .i64))) (hw : w.heap.size + 1 < W.heap.size) : Ints (fun c => w.heap.size + 1 < c) W' v l :=
  (ints_own h).carry fun c hc _ => ⟨by have := hc.1; omega, rfl⟩
structure CR (w W : World) (b : Nat) (cs : Array Value) (s : List UInt8) (bad : Bool) : Prop where
  rd : RdS W b s bad
  box : W.heap[w.heap.size + 1]? = some (.cells cs 26 (0, 0))
  rb : W.heap[w.heap.size]? = some (.cells #[.int .i64 0, .slice none 0 0, .slice none 0 0, .slice none 0 0, .slice none 0 0, .slice none 0 0, .slice none 0 0] 26 (0, 0))
  fr : Fr w.heap.size [b] w W
theorem CR.call {w W W' : World} {b : Nat} {cs : Array Value} {s s' : List UInt8} {bad bad' : Bool} (h : CR w W b cs s bad) (hb : b < w.heap.size) (hf : Fr W.heap.size [b] W W') (hr : RdS W' b s' bad') : CR w W' b cs s' bad' :=
  ⟨hr, by rw [hf.block _ (lt_of_block h.box) (by simp; omega)]; exact h.box, by rw [hf.block _ (lt_of_block h.rb) (by simp; omega)]; exact h.rb, h.fr.trans (hf.mono h.fr.size (fun x hx _ => hx))⟩
theorem CR.put {w W : World} {b : Nat} {cs : Array Value} {s : List UInt8} {bad : Bool} (h : CR w W b cs s bad) (hb : b < w.heap.size) (j : Nat) (v : Value) : CR w (W.setCell ⟨w.heap.size + 1, j, none⟩ v) b (cs.setIfInBounds j v) s bad :=
  ⟨by unfold RdS; rw [Below.heap_setCell _ _ _ _ (by simp; omega)]; exact h.rd, set_at h.box j v, by rw [Below.heap_setCell _ _ _ _ (by simp)]; exact h.rb, h.fr.setCell (.inl (by simp)) _⟩
/-- a list that was read lies in blocks behind the box -/
theorem ints_call {w W W' : World} {b : Nat} {v : Value} {l : List Int} (h : Ints (fun c => w.heap.size + 1 < c) W v l) (hb : b < w.heap.size) (hf : Fr W.heap.size [b] W W') : Ints (fun c => w.heap.size + 1 < c) W' v l :=
  h.carry fun c hc hl => ⟨hc, hf.block c hl (by simp; omega)⟩
theorem ints_put {w W : World} {v : Value} {l : List Int} (h : Ints (fun c => w.heap.size + 1 < c) W v l) (j : Nat) (x : Value) : Ints (fun c => w.heap.size + 1 < c) (W.setCell ⟨w.heap.size + 1, j, none⟩ x) v l :=
  h.carry fun c hc _ => ⟨hc, Below.heap_setCell _ _ _ _ (by simp; omega)⟩
theorem resultsC7 (tmps : Array Value) (W : World) (e : Nat) (fe : Array Value) (hse : fe.size = 7) (hq : tmps[2]?.getD undef = .pointer (some ⟨e, 0, none⟩)) (he : W.heap[e]? = some (.cells fe 26 (0, 0))) :
    (results Tryd.f32 tmps).run Tryd.prog W = .ok (.agg fe) W := by
  have hl : (loadVar 26 ⟨e, 0, none⟩).run Tryd.prog W = .ok (.agg fe) W := run_loadVar_row (P := Tryd.prog) W e 26 26 fe (0, 0) _ he Tryd.underlying26 rfl (by rw [hse]; kernel_rfl)
  simp [results, Tryd.results32, hq, asAddr, hl]

theorem Tryd.infoStep : (Tryd.prog.info? 55).map (fun i => (i.zero, i.size, i.bytes)) = some (some (.agg #[.int .i64 0, .int .i64 0, .int .i64 0, .int .i64 0, .int .i64 0]), 5, 40) := by kernel_rfl
theorem step_append {P : Program} {w w' : World} {ops : Array Oper} {o : Oper} {a : Act} {K : Act → World → Prop} {Q : Exit → Act → World → Prop} {E : Prop} (hgd : o.guard = none) (s x : Operand) (t : TypeId)
    (ho : o.op = .call { callee := .builtin .append, args := #[s, x], argTypes := #[t, t] }) (vs vx r : Value) (hs : a.eval s = vs) (hx : a.eval x = vx) (hr : (Builtin.append_ #[t, t] o.type #[vs, vx]).run P w = .ok r w') (h : K (a.put o.dst r) w') :
    if Region.wanted o (yielded ops a.tmps) = true then Oper.wp P o a w K Q else E := by
  have hw : Region.wanted o (yielded ops a.tmps) = true := by simp [Region.wanted, hgd]
  rw [if_pos hw]
  unfold Oper.wp execOp
  simp only [ho, resolve, invoke, builtin, Sem.run_bind, Sem.run_pure, Result.andThen_ok, List.map_toArray, List.map_cons, List.map_nil, hs, hx, hr]
  exact h
theorem cells_newL (w : World) (cs : Array Value) (t : TypeId) : ∀ j u, cs.toList[j]? = some u → (w.alloc (.cells cs t)).cell? ((⟨w.heap.size, 0, none⟩ : Addr).add j) = some u := fun j u hu => by
  rw [Addr.add_lit, Nat.zero_add, cell_of_row _ _ _ _ _ _ (heap_alloc_new w _), ← Array.getElem?_toList]
  exact hu
/-- seven cells stored -/
theorem set7' {W : World} {g : Nat} (h : W.heap[g]? = some (.cells #[.int .i64 0, .slice none 0 0, .slice none 0 0, .slice none 0 0, .slice none 0 0, .slice none 0 0, .slice none 0 0] 26 (0, 0))) (y0 y1 y2 y3 y4 y5 y6 : Value) : (((((((W.setCell ⟨g, 0, none⟩ y0).setCell ⟨g, 1, none⟩ y1).setCell ⟨g, 2, none⟩ y2).setCell ⟨g, 3, none⟩ y3).setCell ⟨g, 4, none⟩ y4).setCell ⟨g, 5, none⟩ y5).setCell ⟨g, 6, none⟩ y6).heap[g]? = some (.cells #[y0, y1, y2, y3, y4, y5, y6] 26 (0, 0)) :=
  set_at (set_at (set_at (set_at (set_at (set_at (set_at h 0 _) 1 _) 2 _) 3 _) 4 _) 5 _) 6 _
theorem other7 (W : World) (g : Nat) (y0 y1 y2 y3 y4 y5 y6 : Value) (c : Nat) (hc : c ≠ g) : (((((((W.setCell ⟨g, 0, none⟩ y0).setCell ⟨g, 1, none⟩ y1).setCell ⟨g, 2, none⟩ y2).setCell ⟨g, 3, none⟩ y3).setCell ⟨g, 4, none⟩ y4).setCell ⟨g, 5, none⟩ y5).setCell ⟨g, 6, none⟩ y6).heap[c]? = W.heap[c]? := by
  rw [Below.heap_setCell _ _ _ _ hc, Below.heap_setCell _ _ _ _ hc, Below.heap_setCell _ _ _ _ hc, Below.heap_setCell _ _ _ _ hc, Below.heap_setCell _ _ _ _ hc, Below.heap_setCell _ _ _ _ hc, Below.heap_setCell _ _ _ _ hc]
/-- while steps are read -/
structure CL (w D W : World) (b : Nat) (x0 x1 x2 x3 x4 x5 vC : Value) (r : List UInt8) (bad : Bool) (k : Nat) (l : List Sp) (s' : List UInt8) (bad' : Bool) : Prop where
  cr : CR w W b #[x0, x1, x2, x3, x4, x5, vC] s' bad'
  own : W.ownsRow D.heap.size 55 5 vC k (stC l)
  len : l.length = k
  kept : ∀ c, w.heap.size + 1 < c → c < D.heap.size → W.heap[c]? = D.heap[c]?
  size : D.heap.size ≤ W.heap.size
  short : s'.length ≤ r.length
  took : (tkK rdS r k = some (l, s') ∧ bad' = bad) ∨ (tkK rdS r k = none ∧ s' = [] ∧ bad' = true)
theorem CL.step {w D W W1 W2 : World} {b : Nat} {x0 x1 x2 x3 x4 x5 vC v2 : Value} {r : List UInt8} {bad : Bool} {k : Nat} {l : List Sp} {s' s2 : List UInt8} {bad' bad2 : Bool} {x : Sp} {o : Obj} (h : CL w D W b x0 x1 x2 x3 x4 x5 vC r bad k l s' bad') (hbw : b < w.heap.size) (hD : w.heap.size + 1 < D.heap.size)
    (hr : RdS W1 b s2 bad2) (hf : Fr W.heap.size [b] W W1) (hs : s2.length ≤ s'.length) (ht : (rdS s' = some (x, s2) ∧ bad2 = bad') ∨ (rdS s' = none ∧ s2 = [] ∧ bad2 = true))
    (hown : W2.ownsRow D.heap.size 55 5 v2 (k + 1) (stC l ++ [.int .i64 x.code, .int .i64 x.dst, .int .i64 x.a, .int .i64 x.b, .int .i64 x.c])) (hg : (W1.alloc o).grownBy W2 vC.ownBlock) :
    CL w D (W2.setCell ⟨w.heap.size + 1, 6, none⟩ v2) b x0 x1 x2 x3 x4 x5 v2 r bad (k + 1) (l ++ [x]) s2 bad2 := by
  have hw := h.cr.fr.size
  have hsz := h.size
  have hs1 := hf.size
  have hs2 : W1.heap.size ≤ W2.heap.size := by have := hg.size; simp at this; omega
  have hvne : ∀ g, vC.ownBlock = some g → D.heap.size ≤ g := fun g hgg => (h.own.lt g hgg).1
  have c1 := h.cr.call hbw hf hr
  have old : ∀ c, c < W1.heap.size → c < D.heap.size → W2.heap[c]? = W1.heap[c]? := fun c hc hcD => by
    rw [hg.block c (by simp; omega) (fun e => by have := hvne c e.symm; omega)]
    exact Below.heap_alloc _ _ _ hc
  have c2 : CR w W2 b #[x0, x1, x2, x3, x4, x5, vC] s2 bad2 := by
    refine ⟨?_, ?_, ?_, c1.fr.trans ⟨hg.os, hg.tape, hg.output, hs2, fun c hc _ => old c (by omega) (by omega)⟩⟩
    · unfold RdS; rw [old b (lt_of_block hr) (by omega)]; exact hr
    · rw [old _ (lt_of_block c1.box) hD]; exact c1.box
    · rw [old _ (lt_of_block c1.rb) (by omega)]; exact c1.rb
  refine ⟨c2.put hbw 6 v2, ?_, by simp [h.len], fun c hc hcD => ?_, by simp [World.setCell]; omega, Nat.le_trans hs h.short, ?_⟩
  · have e : stC (l ++ [x]) = stC l ++ [.int .i64 x.code, .int .i64 x.dst, .int .i64 x.a, .int .i64 x.b, .int .i64 x.c] := by simp [stC]
    rw [e]
    exact own_fr hown fun g hgg => Below.heap_setCell _ _ _ _ (by have := (hown.lt g hgg).1; simp; omega)
  · rw [Below.heap_setCell _ _ _ _ (by simp; omega), old c (by omega) hcD, hf.block c (by omega) (by simp; omega)]
    exact h.kept c hc hcD
  · rcases h.took with ⟨h1, rfl⟩ | ⟨h1, rfl, rfl⟩
    · rcases ht with ⟨h2, rfl⟩ | ⟨h2, rfl, rfl⟩
      · exact .inl ⟨tkK_step rdS h1 h2, rfl⟩
      · exact .inr ⟨tkK_fail rdS h1 h2, rfl, rfl⟩
    · right
      rcases ht with ⟨h2, _⟩ | ⟨_, h3, h4⟩
      · have : rdS [] = none := rfl
        rw [this] at h2; cases h2
      · exact ⟨tkK_none rdS h1, h3, h4⟩

set_option maxHeartbeats 4000000 in
theorem code_any (b : Nat) (s : List UInt8) (bad : Bool) (w : World) (h : RdS w b s bad) (hs : s.length ≤ 1000000000) :
    Calls Tryd.prog 32 #[.pointer (some ⟨b, 0, none⟩)] w fun e w' => ∃ n : Nt, ∃ vF vI vO vK vN vC s' bad', e = .returned (.agg #[.int .i64 n.places, vF, vI, vO, vK, vN, vC]) ∧ Hid (RdS w' b s' bad' ∧ Fr w.heap.size [b] w w' ∧ (∀ W', w'.heap.size ≤ W'.heap.size → (∀ c, w.heap.size ≤ c → c < w'.heap.size → W'.heap[c]? = w'.heap[c]?) → NetV W'.heap.size W' n vF vI vO vK vN vC) ∧ (∃ ad cap, vI = .slice ad n.ins.length cap ∧ n.ins.length ≤ cap) ∧ ((rdN s = some (n, s') ∧ bad' = bad) ∨ (rdN s = none ∧ s' = [] ∧ bad' = true))) := by
  have hbw := lt_of_block h
  have H0 : CR w ((w.alloc (.cells #[.int .i64 0, .slice none 0 0, .slice none 0 0, .slice none 0 0, .slice none 0 0, .slice none 0 0, .slice none 0 0] 26)).alloc (.cells #[.int .i64 0, .slice none 0 0, .slice none 0 0, .slice none 0 0, .slice none 0 0, .slice none 0 0, .slice none 0 0] 26)) b #[.int .i64 0, .slice none 0 0, .slice none 0 0, .slice none 0 0, .slice none 0 0, .slice none 0 0, .slice none 0 0] s bad := by
    refine ⟨?_, new2' _ _ _, ?_, ((Fr.refl _ _ _).alloc (Nat.le_refl _) _).alloc (by simp) _⟩
    · unfold RdS; rw [Below.heap_alloc _ _ _ (by simp; omega), Below.heap_alloc _ _ _ hbw]; exact h
    · rw [Below.heap_alloc _ _ _ (by simp)]; exact heap_alloc_new w _
  clear h
  go_enter Tryd.func32, Tryd.ntmps32
  go_upto_region 2 with fail
  revert H0
  generalize (w.alloc (.cells #[.int .i64 0, .slice none 0 0, .slice none 0 0, .slice none 0 0, .slice none 0 0, .slice none 0 0, .slice none 0 0] 26)).alloc (.cells #[.int .i64 0, .slice none 0 0, .slice none 0 0, .slice none 0 0, .slice none 0 0, .slice none 0 0, .slice none 0 0] 26) = W0
  intro H0
  have S : Hid (CR w W0 b #[.int .i64 0, .slice none 0 0, .slice none 0 0, .slice none 0 0, .slice none 0 0, .slice none 0 0, .slice none 0 0] s bad) := H0
  have TH : Hid (Th (rdN s) k0 s bad bad) := .inl ⟨rdN_k0 s, rfl⟩
  clear H0
  have hsm := small_num b s bad W0 S.out.rd hs
  go_upto_region 3 with (go_at_call 47; refine hsm.mono ?_; rintro e W1 ⟨p, s1, bad1, rfl, hp, X⟩; have S1 : Hid (CR w W1 b #[.int .i64 0, .slice none 0 0, .slice none 0 0, .slice none 0 0, .slice none 0 0, .slice none 0 0, .slice none 0 0] s1 bad1) := S.out.call hbw X.out.2.1 X.out.1; obtain ⟨q0, f0⟩ := cel S1.out.box 0 (.int .i64 0) rfl; clear hsm)
  have S2 : CR w (W1.setCell ⟨w.heap.size + 1, 0, none⟩ (.int .i64 p)) b #[.int .i64 p, .slice none 0 0, .slice none 0 0, .slice none 0 0, .slice none 0 0, .slice none 0 0, .slice none 0 0] s1 bad1 := S1.out.put hbw 0 _
  have TH1 : Hid (Th (rdN s) (k1 p) s1 bad1 bad) := Th.next (f := sm) (K := k0) (K' := k1) (fun s => by unfold k0; cases sm s <;> rfl) rfl TH.out (X.out.2.2.2.imp id fun h => ⟨h.1, h.2.2⟩)
  have hl1 : s1.length ≤ 1000000000 := by have := X.out.2.2.1; omega
  clear S S1 TH X q0 f0
  revert S2
  generalize W1.setCell ⟨w.heap.size + 1, 0, none⟩ (.int .i64 p) = Y1
  intro S2
  have C1 : Hid (CR w Y1 b #[.int .i64 p, .slice none 0 0, .slice none 0 0, .slice none 0 0, .slice none 0 0, .slice none 0 0, .slice none 0 0] s1 bad1) := S2
  clear S2
  have hc1 := numbers_any b s1 bad1 Y1 C1.out.rd hl1
  go_upto_region 4 with (go_at_call 48; refine hc1.mono ?_; rintro e X1 ⟨vF, fi, s2, bad2, rfl, D1⟩; have E1 : Hid (CR w X1 b #[.int .i64 p, .slice none 0 0, .slice none 0 0, .slice none 0 0, .slice none 0 0, .slice none 0 0, .slice none 0 0] s2 bad2) := C1.out.call hbw D1.out.2.2.1 D1.out.2.1; obtain ⟨q0, f0⟩ := cel E1.out.box 1 (.slice none 0 0) rfl; obtain ⟨ao1, cap1, hv1, hcap1⟩ := own_shape D1.out.1; subst hv1; clear hc1)
  have G1 : CR w (X1.setCell ⟨w.heap.size + 1, 1, none⟩ (.slice ao1 fi.length cap1)) b #[.int .i64 p, .slice ao1 fi.length cap1, .slice none 0 0, .slice none 0 0, .slice none 0 0, .slice none 0 0, .slice none 0 0] s2 bad2 := E1.out.put hbw 1 _
  have hsz1 : w.heap.size + 1 < Y1.heap.size := lt_of_block C1.out.box
  have I1 : Ints (fun c => w.heap.size + 1 < c) (X1.setCell ⟨w.heap.size + 1, 1, none⟩ (.slice ao1 fi.length cap1)) (.slice ao1 fi.length cap1) fi := ints_put (ints_new D1.out.1 hsz1) _ _
  have TH2 : Hid (Th (rdN s) (k2 p fi) s2 bad2 bad) := Th.next (f := lst tk) (K := k1 p) (K' := k2 p) (fun s => by unfold k1; cases lst tk s <;> rfl) rfl TH1.out D1.out.2.2.2.2.2
  have hl2 : s2.length ≤ 1000000000 := by have := D1.out.2.2.2.1; omega
  have HB1 : Hid (fi.length ≤ 4000 ∧ fi.length ≤ cap1) := ⟨D1.out.2.2.2.2.1, hcap1⟩
  clear C1 E1 D1 TH1 q0 f0 hcap1 hsz1 hl1 
  revert G1 I1
  generalize X1.setCell ⟨w.heap.size + 1, 1, none⟩ (.slice ao1 fi.length cap1) = Y2
  intro G1 I1
  have C2 : Hid (CR w Y2 b #[.int .i64 p, .slice ao1 fi.length cap1, .slice none 0 0, .slice none 0 0, .slice none 0 0, .slice none 0 0, .slice none 0 0] s2 bad2) := G1
  have J1 : Hid (Ints (fun c => w.heap.size + 1 < c) Y2 _ _) := I1
  clear G1 I1
  have hc2 := smalls_any b s2 bad2 Y2 C2.out.rd hl2
  go_upto_region 5 with (go_at_call 49; refine hc2.mono ?_; rintro e X2 ⟨vI, ii, s3, bad3, rfl, D2⟩; have E2 : Hid (CR w X2 b #[.int .i64 p, .slice ao1 fi.length cap1, .slice none 0 0, .slice none 0 0, .slice none 0 0, .slice none 0 0, .slice none 0 0] s3 bad3) := C2.out.call hbw D2.out.2.2.1 D2.out.2.1; obtain ⟨q0, f0⟩ := cel E2.out.box 2 (.slice none 0 0) rfl; obtain ⟨ao2, cap2, hv2, hcap2⟩ := own_shape D2.out.1; subst hv2; clear hc2)
  have G2 : CR w (X2.setCell ⟨w.heap.size + 1, 2, none⟩ (.slice ao2 ii.length cap2)) b #[.int .i64 p, .slice ao1 fi.length cap1, .slice ao2 ii.length cap2, .slice none 0 0, .slice none 0 0, .slice none 0 0, .slice none 0 0] s3 bad3 := E2.out.put hbw 2 _
  have hsz2 : w.heap.size + 1 < Y2.heap.size := lt_of_block C2.out.box
  have I2 : Ints (fun c => w.heap.size + 1 < c) (X2.setCell ⟨w.heap.size + 1, 2, none⟩ (.slice ao2 ii.length cap2)) (.slice ao2 ii.length cap2) ii := ints_put (ints_new D2.out.1 hsz2) _ _
  have I1' : Ints (fun c => w.heap.size + 1 < c) (X2.setCell ⟨w.heap.size + 1, 2, none⟩ (.slice ao2 ii.length cap2)) _ _ := ints_put (ints_call J1.out hbw D2.out.2.2.1) _ _
  have TH3 : Hid (Th (rdN s) (k3 p fi ii) s3 bad3 bad) := Th.next (f := lst sm) (K := k2 p fi) (K' := k3 p fi) (fun s => by unfold k2; cases lst sm s <;> rfl) rfl TH2.out D2.out.2.2.2.2.2
  have hl3 : s3.length ≤ 1000000000 := by have := D2.out.2.2.2.1; omega
  have HB2 : Hid (ii.length ≤ 4000 ∧ ii.length ≤ cap2) := ⟨D2.out.2.2.2.2.1, hcap2⟩
  clear C2 E2 D2 TH2 q0 f0 hcap2 hsz2 hl2 J1
  revert G2 I2 I1'
  generalize X2.setCell ⟨w.heap.size + 1, 2, none⟩ (.slice ao2 ii.length cap2) = Y3
  intro G2 I2 I1'
  have C3 : Hid (CR w Y3 b #[.int .i64 p, .slice ao1 fi.length cap1, .slice ao2 ii.length cap2, .slice none 0 0, .slice none 0 0, .slice none 0 0, .slice none 0 0] s3 bad3) := G2
  have J2 : Hid (Ints (fun c => w.heap.size + 1 < c) Y3 _ _) := I2
  have J1 : Hid (Ints (fun c => w.heap.size + 1 < c) Y3 _ _) := I1'
  clear G2 I2 I1'
  have hc3 := smalls_any b s3 bad3 Y3 C3.out.rd hl3
  go_upto_region 6 with (go_at_call 49; refine hc3.mono ?_; rintro e X3 ⟨vO, oo, s4, bad4, rfl, D3⟩; have E3 : Hid (CR w X3 b #[.int .i64 p, .slice ao1 fi.length cap1, .slice ao2 ii.length cap2, .slice none 0 0, .slice none 0 0, .slice none 0 0, .slice none 0 0] s4 bad4) := C3.out.call hbw D3.out.2.2.1 D3.out.2.1; obtain ⟨q0, f0⟩ := cel E3.out.box 3 (.slice none 0 0) rfl; obtain ⟨ao3, cap3, hv3, hcap3⟩ := own_shape D3.out.1; subst hv3; clear hc3)
  have G3 : CR w (X3.setCell ⟨w.heap.size + 1, 3, none⟩ (.slice ao3 oo.length cap3)) b #[.int .i64 p, .slice ao1 fi.length cap1, .slice ao2 ii.length cap2, .slice ao3 oo.length cap3, .slice none 0 0, .slice none 0 0, .slice none 0 0] s4 bad4 := E3.out.put hbw 3 _
  have hsz3 : w.heap.size + 1 < Y3.heap.size := lt_of_block C3.out.box
  have I3 : Ints (fun c => w.heap.size + 1 < c) (X3.setCell ⟨w.heap.size + 1, 3, none⟩ (.slice ao3 oo.length cap3)) (.slice ao3 oo.length cap3) oo := ints_put (ints_new D3.out.1 hsz3) _ _
  have I1' : Ints (fun c => w.heap.size + 1 < c) (X3.setCell ⟨w.heap.size + 1, 3, none⟩ (.slice ao3 oo.length cap3)) _ _ := ints_put (ints_call J1.out hbw D3.out.2.2.1) _ _
  have I2' : Ints (fun c => w.heap.size + 1 < c) (X3.setCell ⟨w.heap.size + 1, 3, none⟩ (.slice ao3 oo.length cap3)) _ _ := ints_put (ints_call J2.out hbw D3.out.2.2.1) _ _
  have TH4 : Hid (Th (rdN s) (k4 p fi ii oo) s4 bad4 bad) := Th.next (f := lst sm) (K := k3 p fi ii) (K' := k4 p fi ii) (fun s => by unfold k3; cases lst sm s <;> rfl) rfl TH3.out D3.out.2.2.2.2.2
  have hl4 : s4.length ≤ 1000000000 := by have := D3.out.2.2.2.1; omega
  have HB3 : Hid (oo.length ≤ 4000 ∧ oo.length ≤ cap3) := ⟨D3.out.2.2.2.2.1, hcap3⟩
  clear C3 E3 D3 TH3 q0 f0 hcap3 hsz3 hl3 J1 J2
  revert G3 I3 I1' I2'
  generalize X3.setCell ⟨w.heap.size + 1, 3, none⟩ (.slice ao3 oo.length cap3) = Y4
  intro G3 I3 I1' I2'
  have C4 : Hid (CR w Y4 b #[.int .i64 p, .slice ao1 fi.length cap1, .slice ao2 ii.length cap2, .slice ao3 oo.length cap3, .slice none 0 0, .slice none 0 0, .slice none 0 0] s4 bad4) := G3
  have J3 : Hid (Ints (fun c => w.heap.size + 1 < c) Y4 _ _) := I3
  have J1 : Hid (Ints (fun c => w.heap.size + 1 < c) Y4 _ _) := I1'
  have J2 : Hid (Ints (fun c => w.heap.size + 1 < c) Y4 _ _) := I2'
  clear G3 I3 I1' I2'
  have hc4 := smalls_any b s4 bad4 Y4 C4.out.rd hl4
  go_upto_region 7 with (go_at_call 49; refine hc4.mono ?_; rintro e X4 ⟨vK, kk, s5, bad5, rfl, D4⟩; have E4 : Hid (CR w X4 b #[.int .i64 p, .slice ao1 fi.length cap1, .slice ao2 ii.length cap2, .slice ao3 oo.length cap3, .slice none 0 0, .slice none 0 0, .slice none 0 0] s5 bad5) := C4.out.call hbw D4.out.2.2.1 D4.out.2.1; obtain ⟨q0, f0⟩ := cel E4.out.box 4 (.slice none 0 0) rfl; obtain ⟨ao4, cap4, hv4, hcap4⟩ := own_shape D4.out.1; subst hv4; clear hc4)
  have G4 : CR w (X4.setCell ⟨w.heap.size + 1, 4, none⟩ (.slice ao4 kk.length cap4)) b #[.int .i64 p, .slice ao1 fi.length cap1, .slice ao2 ii.length cap2, .slice ao3 oo.length cap3, .slice ao4 kk.length cap4, .slice none 0 0, .slice none 0 0] s5 bad5 := E4.out.put hbw 4 _
  have hsz4 : w.heap.size + 1 < Y4.heap.size := lt_of_block C4.out.box
  have I4 : Ints (fun c => w.heap.size + 1 < c) (X4.setCell ⟨w.heap.size + 1, 4, none⟩ (.slice ao4 kk.length cap4)) (.slice ao4 kk.length cap4) kk := ints_put (ints_new D4.out.1 hsz4) _ _
  have I1' : Ints (fun c => w.heap.size + 1 < c) (X4.setCell ⟨w.heap.size + 1, 4, none⟩ (.slice ao4 kk.length cap4)) _ _ := ints_put (ints_call J1.out hbw D4.out.2.2.1) _ _
  have I2' : Ints (fun c => w.heap.size + 1 < c) (X4.setCell ⟨w.heap.size + 1, 4, none⟩ (.slice ao4 kk.length cap4)) _ _ := ints_put (ints_call J2.out hbw D4.out.2.2.1) _ _
  have I3' : Ints (fun c => w.heap.size + 1 < c) (X4.setCell ⟨w.heap.size + 1, 4, none⟩ (.slice ao4 kk.length cap4)) _ _ := ints_put (ints_call J3.out hbw D4.out.2.2.1) _ _
  have TH5 : Hid (Th (rdN s) (k5 p fi ii oo kk) s5 bad5 bad) := Th.next (f := lst sm) (K := k4 p fi ii oo) (K' := k5 p fi ii oo) (fun s => by unfold k4; cases lst sm s <;> rfl) rfl TH4.out D4.out.2.2.2.2.2
  have hl5 : s5.length ≤ 1000000000 := by have := D4.out.2.2.2.1; omega
  have HB4 : Hid (kk.length ≤ 4000 ∧ kk.length ≤ cap4) := ⟨D4.out.2.2.2.2.1, hcap4⟩
  clear C4 E4 D4 TH4 q0 f0 hcap4 hsz4 hl4 J1 J2 J3
  revert G4 I4 I1' I2' I3'
  generalize X4.setCell ⟨w.heap.size + 1, 4, none⟩ (.slice ao4 kk.length cap4) = Y5
  intro G4 I4 I1' I2' I3'
  have C5 : Hid (CR w Y5 b #[.int .i64 p, .slice ao1 fi.length cap1, .slice ao2 ii.length cap2, .slice ao3 oo.length cap3, .slice ao4 kk.length cap4, .slice none 0 0, .slice none 0 0] s5 bad5) := G4
  have J4 : Hid (Ints (fun c => w.heap.size + 1 < c) Y5 _ _) := I4
  have J1 : Hid (Ints (fun c => w.heap.size + 1 < c) Y5 _ _) := I1'
  have J2 : Hid (Ints (fun c => w.heap.size + 1 < c) Y5 _ _) := I2'
  have J3 : Hid (Ints (fun c => w.heap.size + 1 < c) Y5 _ _) := I3'
  clear G4 I4 I1' I2' I3'
  have hc5 := numbers_any b s5 bad5 Y5 C5.out.rd hl5
  go_upto_region 8 with (go_at_call 48; refine hc5.mono ?_; rintro e X5 ⟨vN, mm, s6, bad6, rfl, D5⟩; have E5 : Hid (CR w X5 b #[.int .i64 p, .slice ao1 fi.length cap1, .slice ao2 ii.length cap2, .slice ao3 oo.length cap3, .slice ao4 kk.length cap4, .slice none 0 0, .slice none 0 0] s6 bad6) := C5.out.call hbw D5.out.2.2.1 D5.out.2.1; obtain ⟨q0, f0⟩ := cel E5.out.box 5 (.slice none 0 0) rfl; obtain ⟨ao5, cap5, hv5, hcap5⟩ := own_shape D5.out.1; subst hv5; clear hc5)
  have G5 : CR w (X5.setCell ⟨w.heap.size + 1, 5, none⟩ (.slice ao5 mm.length cap5)) b #[.int .i64 p, .slice ao1 fi.length cap1, .slice ao2 ii.length cap2, .slice ao3 oo.length cap3, .slice ao4 kk.length cap4, .slice ao5 mm.length cap5, .slice none 0 0] s6 bad6 := E5.out.put hbw 5 _
  have hsz5 : w.heap.size + 1 < Y5.heap.size := lt_of_block C5.out.box
  have I5 : Ints (fun c => w.heap.size + 1 < c) (X5.setCell ⟨w.heap.size + 1, 5, none⟩ (.slice ao5 mm.length cap5)) (.slice ao5 mm.length cap5) mm := ints_put (ints_new D5.out.1 hsz5) _ _
  have I1' : Ints (fun c => w.heap.size + 1 < c) (X5.setCell ⟨w.heap.size + 1, 5, none⟩ (.slice ao5 mm.length cap5)) _ _ := ints_put (ints_call J1.out hbw D5.out.2.2.1) _ _
  have I2' : Ints (fun c => w.heap.size + 1 < c) (X5.setCell ⟨w.heap.size + 1, 5, none⟩ (.slice ao5 mm.length cap5)) _ _ := ints_put (ints_call J2.out hbw D5.out.2.2.1) _ _
  have I3' : Ints (fun c => w.heap.size + 1 < c) (X5.setCell ⟨w.heap.size + 1, 5, none⟩ (.slice ao5 mm.length cap5)) _ _ := ints_put (ints_call J3.out hbw D5.out.2.2.1) _ _
  have I4' : Ints (fun c => w.heap.size + 1 < c) (X5.setCell ⟨w.heap.size + 1, 5, none⟩ (.slice ao5 mm.length cap5)) _ _ := ints_put (ints_call J4.out hbw D5.out.2.2.1) _ _
  have TH6 : Hid (Th (rdN s) (k6 p fi ii oo kk mm) s6 bad6 bad) := Th.next (f := lst tk) (K := k5 p fi ii oo kk) (K' := k6 p fi ii oo kk) (fun s => by unfold k5; cases lst tk s <;> rfl) rfl TH5.out D5.out.2.2.2.2.2
  have hl6 : s6.length ≤ 1000000000 := by have := D5.out.2.2.2.1; omega
  have HB5 : Hid (mm.length ≤ 4000 ∧ mm.length ≤ cap5) := ⟨D5.out.2.2.2.2.1, hcap5⟩
  clear C5 E5 D5 TH5 q0 f0 hcap5 hsz5 hl5 J1 J2 J3 J4
  revert G5 I5 I1' I2' I3' I4'
  generalize X5.setCell ⟨w.heap.size + 1, 5, none⟩ (.slice ao5 mm.length cap5) = Y6
  intro G5 I5 I1' I2' I3' I4'
  have C6 : Hid (CR w Y6 b #[.int .i64 p, .slice ao1 fi.length cap1, .slice ao2 ii.length cap2, .slice ao3 oo.length cap3, .slice ao4 kk.length cap4, .slice ao5 mm.length cap5, .slice none 0 0] s6 bad6) := G5
  have J5 : Hid (Ints (fun c => w.heap.size + 1 < c) Y6 _ _) := I5
  have J1 : Hid (Ints (fun c => w.heap.size + 1 < c) Y6 _ _) := I1'
  have J2 : Hid (Ints (fun c => w.heap.size + 1 < c) Y6 _ _) := I2'
  have J3 : Hid (Ints (fun c => w.heap.size + 1 < c) Y6 _ _) := I3'
  have J4 : Hid (Ints (fun c => w.heap.size + 1 < c) Y6 _ _) := I4'
  clear G5 I5 I1' I2' I3' I4'
  have hsm2 := small_num b s6 bad6 Y6 C6.out.rd hl6
  go_upto_region 9 with (go_at_call 47; refine hsm2.mono ?_; rintro e Y7 ⟨c, r, bad7, rfl, hc, X⟩; clear hsm2)
  have C7 := C6.out.call hbw X.out.2.1 X.out.1
  have hD : w.heap.size + 1 < Y7.heap.size := lt_of_block C7.box
  have JJ : Hid (Ints (fun c => w.heap.size + 1 < c) Y7 (.slice ao1 fi.length cap1) fi ∧ Ints (fun c => w.heap.size + 1 < c) Y7 (.slice ao2 ii.length cap2) ii ∧ Ints (fun c => w.heap.size + 1 < c) Y7 (.slice ao3 oo.length cap3) oo ∧ Ints (fun c => w.heap.size + 1 < c) Y7 (.slice ao4 kk.length cap4) kk ∧ Ints (fun c => w.heap.size + 1 < c) Y7 (.slice ao5 mm.length cap5) mm) := ⟨ints_call J1.out hbw X.out.2.1, ints_call J2.out hbw X.out.2.1, ints_call J3.out hbw X.out.2.1, ints_call J4.out hbw X.out.2.1, ints_call J5.out hbw X.out.2.1⟩
  have LL0 : ∃ l0 s0 bad0, Hid (CL w Y7 Y7 b (.int .i64 p) (.slice ao1 fi.length cap1) (.slice ao2 ii.length cap2) (.slice ao3 oo.length cap3) (.slice ao4 kk.length cap4) (.slice ao5 mm.length cap5) (.slice none 0 0) r bad7 0 l0 s0 bad0) := ⟨[], r, bad7, C7, World.ownsRow_nil _ _ _ _, rfl, fun _ _ _ => rfl, Nat.le_refl _, Nat.le_refl _, .inl ⟨rfl, rfl⟩⟩
  have HX : Hid (r.length ≤ s6.length ∧ ((sm s6 = some ((c : Int), r) ∧ bad7 = bad6) ∨ (sm s6 = none ∧ c = 0 ∧ r = [] ∧ bad7 = true))) := X.out.2.2
  have HBW : Hid (b < w.heap.size) := hbw
  have HDD : Hid (w.heap.size + 1 < Y7.heap.size) := hD
  obtain ⟨i0, hi, hz0, hz1, hz2⟩ := info_parts Tryd.infoStep
  clear C6 C7 J1 J2 J3 J4 J5 X
  go_loopw [24] (fun i wr => ∃ k : Nat, k ≤ c ∧ i = .int .i64 k ∧ ∃ vC l s' bad', Hid (CL w Y7 wr b (.int .i64 p) (.slice ao1 fi.length cap1) (.slice ao2 ii.length cap2) (.slice ao3 oo.length cap3) (.slice ao4 kk.length cap4) (.slice ao5 mm.length cap5) vC r bad7 k l s' bad')) (fun i _ => c - (intOf i).toNat)
  case atStart => exact ⟨0, Nat.zero_le _, rfl, _, LL0⟩
  case round =>
    clear LL0
    obtain ⟨k, hk, rfl, vC, l, s', bad', Y⟩ := hrel
    obtain ⟨ao, cap, hvC, _⟩ := own_shape Y.out.own
    subst hvC
    by_cases hlt : k < c
    · go_upto_region 10 with fail
      have hs0 : wr.drew.cell? ⟨w.heap.size + 1, 6, none⟩ = some (.slice ao k cap) := (cel Y.out.cr.box 6 _ rfl).1
      have hst : Calls Tryd.prog 50 #[.pointer (some ⟨b, 0, none⟩)] wr.drew fun e w' => ∃ x : Sp, ∃ s2 bad2, e = .returned (.agg #[.int .i64 x.code, .int .i64 x.dst, .int .i64 x.a, .int .i64 x.b, .int .i64 x.c]) ∧ Hid (RdS w' b s2 bad2 ∧ Fr wr.heap.size [b] wr w' ∧ s2.length ≤ s'.length ∧ ((rdS s' = some (x, s2) ∧ bad2 = bad') ∨ (rdS s' = none ∧ s2 = [] ∧ bad2 = true))) :=
        (step_any' b s' bad' wr.drew Y.out.cr.rd (by have := Y.out.short; have := HX.out.1; omega)).mono fun e w' ⟨x, s2, bad2, he, Z⟩ => ⟨x, s2, bad2, he, Z.out.1, ⟨Z.out.2.1.os, Z.out.2.1.tape, Z.out.2.1.output, Z.out.2.1.size, Z.out.2.1.block⟩, Z.out.2.2⟩
      refine wp_region_z 7 (fun W => W.cell? ⟨w.heap.size + 1, 6, none⟩ = some (.slice ao k cap)) (by kernel_rfl) ?_
      refine wpAnyZ_take 0 [7] (v := .pointer (some ⟨w.heap.size + 1, 6, none⟩)) rfl (by kernel_rfl) (by kernel_rfl) (by kernel_rfl) (by kernel_rfl) (by kernel_rfl) (by kernel_rfl) (by kernel_rfl) (fun _ _ _ h => h) (.inl ⟨by rfl, fun W hW => ?_⟩) hs0 ?_
      · go_simp
      try simp only [Act.put, List.setIfInBounds_toArray]
      refine wpAnyZ_take 1 [7] (v := .slice ao k cap) rfl (by kernel_rfl) (by kernel_rfl) (by kernel_rfl) (by kernel_rfl) (by kernel_rfl) (by kernel_rfl) (by kernel_rfl) (fun _ _ _ h => h) (.inl ⟨by rfl, fun W hW => ?_⟩) hs0 ?_
      · go_simp
      try simp only [Act.put]
      refine wpAnyZ_take 2 [7] (v := .pointer (some ⟨b, 0, none⟩)) rfl (by kernel_rfl) (by kernel_rfl) (by kernel_rfl) (by kernel_rfl) (by kernel_rfl) (by kernel_rfl) (by kernel_rfl) (fun _ _ _ h => h) (.inl ⟨by rfl, fun W hW => ?_⟩) hs0 ?_
      · go_simp
      try simp only [Act.put]
      refine wpAnyZ_one 3 (by kernel_rfl) rfl (fun K hK => ?_)
      go_simp
      refine hst.mono ?_
      rintro e w2 ⟨x, s2, bad2, rfl, Z⟩
      have c2 := Y.out.cr.call hbw Z.out.2.1 Z.out.1
      have hs2 : w2.cell? ⟨w.heap.size + 1, 6, none⟩ = some (.slice ao k cap) := (cel c2.box 6 _ rfl).1
      refine hK.out _ _ hs2 ?_
      clear hK K
      try simp only [Act.put, List.setIfInBounds_toArray, List.set_cons_zero, List.set_cons_succ]
      refine wpAnyZ_one 4 (by kernel_rfl) rfl (fun K hK => ?_)
      go_simp
      have hs3 : (w2.alloc (.cells #[.int .i64 x.code, .int .i64 x.dst, .int .i64 x.a, .int .i64 x.b, .int .i64 x.c] 55)).cell? ⟨w.heap.size + 1, 6, none⟩ = some (.slice ao k cap) := cell_below (grown_one w2 _) hs2
      refine hK.out _ _ hs3 ?_
      clear hK K
      try simp only [Act.put, List.setIfInBounds_toArray, List.set_cons_zero, List.set_cons_succ]
      obtain ⟨v5, w5, hr5, hown5, hg5, _, hat5⟩ := run_append_own_at (P := Tryd.prog) (w2.alloc (.cells #[.int .i64 x.code, .int .i64 x.dst, .int .i64 x.a, .int .i64 x.b, .int .i64 x.c] 55)) Y7.heap.size 24 24 55 i0 _ 5 40 Tryd.underlying24 hi hz0 hz1 hz2 rfl (by decide) (.slice ao k cap) k (stC l) ((own_fr Y.out.own (fun g hg => Z.out.2.1.block g (Y.out.own.lt g hg).2 (by have := (Y.out.own.lt g hg).1; simp; omega))).alloc _) ⟨w2.heap.size, 0, none⟩ 1 1 [.int .i64 x.code, .int .i64 x.dst, .int .i64 x.a, .int .i64 x.b, .int .i64 x.c] rfl (cells_newL w2 #[.int .i64 x.code, .int .i64 x.dst, .int .i64 x.a, .int .i64 x.b, .int .i64 x.c] 55) (by intro u hu; simp at hu; rcases hu with rfl | rfl | rfl | rfl | rfl <;> rfl) (by unfold maxLen; omega) (by omega) (by have := Y.out.size; have := Z.out.2.1.size; simp; omega)
      obtain ⟨ao6, cap6, hv6, _⟩ := own_shape hown5
      subst hv6
      have CL2 := Y.out.step hbw hD Z.out.1 Z.out.2.1 Z.out.2.2.1 Z.out.2.2.2 hown5 hg5
      have hb5 : w5.heap[w.heap.size + 1]? = (w2.alloc (.cells #[.int .i64 x.code, .int .i64 x.dst, .int .i64 x.a, .int .i64 x.b, .int .i64 x.c] 55)).heap[w.heap.size + 1]? := hg5.block _ (by have := lt_of_block c2.box; simp; omega) (fun e => by have := (Y.out.own.lt _ e.symm).1; omega)
      have hs5 : w5.cell? ⟨w.heap.size + 1, 6, none⟩ = some (.slice ao k cap) := by rw [cell_of_block hb5]; exact hs3
      have fs5 : w5.frozen? ⟨w.heap.size + 1, 6, none⟩ = false := (cel ((hb5.trans (Below.heap_alloc _ _ _ (lt_of_block c2.box))).trans c2.box) 6 _ rfl).2
      refine wpAnyZ_one 5 (by kernel_rfl) rfl (fun K hK => ?_)
      refine step_append (by rfl) (.tmp 27) (.tmp 30) _ (by rfl) _ _ _ (by rfl) (by rfl) hr5 ?_
      refine hK.out _ _ hs5 ?_
      clear hK K
      try simp only [Act.put, List.setIfInBounds_toArray]
      refine wpAnyZ_one 6 (by kernel_rfl) rfl (fun K hK => ?_)
      go_simp
      refine hK.out _ _ hs5 ?_
      clear hK K
      try simp only [Act.put, List.setIfInBounds_toArray, List.set_cons_zero, List.set_cons_succ]
      refine wpAnyZ_z (by kernel_rfl) rfl (fun K hK => ?_)
      go_simp
      refine hK.out _ _ ?_
      clear hK K
      try simp only [Act.put, List.setIfInBounds_toArray, List.set_cons_zero, List.set_cons_succ]
      refine wpAny_done (by kernel_rfl) ?_ _
      have Y2 : Hid _ := CL2
      clear CL2 hr5 hown5 hg5 hat5 hs3 hs5 fs5 hs2 c2 hs0 hb5
      go_wp2_with fail
      go_roundw
      case rel => exact ⟨k + 1, by omega, by go_num, _, l ++ [x], s2, bad2, Y2.out⟩
      case measure => simp [intOf]; omega
    · obtain rfl : k = c := by omega
      have m0 : wr.cell? ⟨w.heap.size + 1, 0, none⟩ = some (.int .i64 p) := (cel Y.out.cr.box 0 _ rfl).1
      have m1 : wr.cell? ⟨w.heap.size + 1, 1, none⟩ = some (.slice ao1 fi.length cap1) := (cel Y.out.cr.box 1 _ rfl).1
      have m2 : wr.cell? ⟨w.heap.size + 1, 2, none⟩ = some (.slice ao2 ii.length cap2) := (cel Y.out.cr.box 2 _ rfl).1
      have m3 : wr.cell? ⟨w.heap.size + 1, 3, none⟩ = some (.slice ao3 oo.length cap3) := (cel Y.out.cr.box 3 _ rfl).1
      have m4 : wr.cell? ⟨w.heap.size + 1, 4, none⟩ = some (.slice ao4 kk.length cap4) := (cel Y.out.cr.box 4 _ rfl).1
      have m5 : wr.cell? ⟨w.heap.size + 1, 5, none⟩ = some (.slice ao5 mm.length cap5) := (cel Y.out.cr.box 5 _ rfl).1
      have m6 : wr.cell? ⟨w.heap.size + 1, 6, none⟩ = some (.slice ao k cap) := (cel Y.out.cr.box 6 _ rfl).1
      obtain ⟨p0, f0⟩ := cel Y.out.cr.rb 0 (.int .i64 0) rfl
      obtain ⟨p1, f1⟩ := cel Y.out.cr.rb 1 (.slice none 0 0) rfl
      obtain ⟨p2, f2⟩ := cel Y.out.cr.rb 2 (.slice none 0 0) rfl
      obtain ⟨p3, f3⟩ := cel Y.out.cr.rb 3 (.slice none 0 0) rfl
      obtain ⟨p4, f4⟩ := cel Y.out.cr.rb 4 (.slice none 0 0) rfl
      obtain ⟨p5, f5⟩ := cel Y.out.cr.rb 5 (.slice none 0 0) rfl
      obtain ⟨p6, f6⟩ := cel Y.out.cr.rb 6 (.slice none 0 0) rfl
      go_wp2_with fail
      clear m0 m1 m2 m3 m4 m5 m6 p0 p1 p2 p3 p4 p5 p6 f0 f1 f2 f3 f4 f5 f6
      refine bodyPost_ret (resultsC7 _ _ w.heap.size #[.int .i64 p, .slice ao1 fi.length cap1, .slice ao2 ii.length cap2, .slice ao3 oo.length cap3, .slice ao4 kk.length cap4, .slice ao5 mm.length cap5, .slice ao k cap] rfl rfl (set7' Y.out.cr.rb _ _ _ _ _ _ _)) rfl ?_
      have oth := other7 wr w.heap.size (.int .i64 p) (.slice ao1 fi.length cap1) (.slice ao2 ii.length cap2) (.slice ao3 oo.length cap3) (.slice ao4 kk.length cap4) (.slice ao5 mm.length cap5) (.slice ao k cap)
      have hbig : wr.heap.size = (((((((wr.setCell ⟨w.heap.size, 0, none⟩ (.int .i64 p)).setCell ⟨w.heap.size, 1, none⟩ (.slice ao1 fi.length cap1)).setCell ⟨w.heap.size, 2, none⟩ (.slice ao2 ii.length cap2)).setCell ⟨w.heap.size, 3, none⟩ (.slice ao3 oo.length cap3)).setCell ⟨w.heap.size, 4, none⟩ (.slice ao4 kk.length cap4)).setCell ⟨w.heap.size, 5, none⟩ (.slice ao5 mm.length cap5)).setCell ⟨w.heap.size, 6, none⟩ (.slice ao k cap)).heap.size := by simp [World.setCell]
      have hfin : Fr w.heap.size [b] w (((((((wr.setCell ⟨w.heap.size, 0, none⟩ (.int .i64 p)).setCell ⟨w.heap.size, 1, none⟩ (.slice ao1 fi.length cap1)).setCell ⟨w.heap.size, 2, none⟩ (.slice ao2 ii.length cap2)).setCell ⟨w.heap.size, 3, none⟩ (.slice ao3 oo.length cap3)).setCell ⟨w.heap.size, 4, none⟩ (.slice ao4 kk.length cap4)).setCell ⟨w.heap.size, 5, none⟩ (.slice ao5 mm.length cap5)).setCell ⟨w.heap.size, 6, none⟩ (.slice ao k cap)) := ((((((Y.out.cr.fr.setCell (.inl (by simp)) _).setCell (.inl (by simp)) _).setCell (.inl (by simp)) _).setCell (.inl (by simp)) _).setCell (.inl (by simp)) _).setCell (.inl (by simp)) _).setCell (.inl (by simp)) _
      revert oth hbig hfin
      generalize ((((((wr.setCell ⟨w.heap.size, 0, none⟩ (.int .i64 p)).setCell ⟨w.heap.size, 1, none⟩ (.slice ao1 fi.length cap1)).setCell ⟨w.heap.size, 2, none⟩ (.slice ao2 ii.length cap2)).setCell ⟨w.heap.size, 3, none⟩ (.slice ao3 oo.length cap3)).setCell ⟨w.heap.size, 4, none⟩ (.slice ao4 kk.length cap4)).setCell ⟨w.heap.size, 5, none⟩ (.slice ao5 mm.length cap5)).setCell ⟨w.heap.size, 6, none⟩ (.slice ao k cap) = WF
      intro oth hbig hfin
      have hsz := Y.out.size
      have kI : ∀ {W' : World} {v : Value} {zs : List Int}, WF.heap.size ≤ W'.heap.size → (∀ c, w.heap.size ≤ c → c < WF.heap.size → W'.heap[c]? = WF.heap[c]?) → Ints (fun c => w.heap.size + 1 < c) Y7 v zs → Ints (fun c => c < W'.heap.size) W' v zs := fun hW hE hI => hI.carry fun c hc hl => ⟨by omega, by rw [hE c (by omega) (by omega), oth c (by omega)]; exact Y.out.kept c hc hl⟩
      refine ⟨⟨p, fi, ii, oo, kk, mm, l⟩, _, _, _, _, _, _, s', bad', rfl, ?_, hfin, fun W' hW hE => ⟨kI hW hE JJ.out.1, kI hW hE JJ.out.2.1, kI hW hE JJ.out.2.2.1, kI hW hE JJ.out.2.2.2.1, kI hW hE JJ.out.2.2.2.2, ?_⟩, ⟨ao2, cap2, rfl, HB2.out.2⟩, ?_⟩
      · unfold RdS; rw [oth b (by omega)]; exact Y.out.cr.rd
      · have ho := Y.out.own
        rw [← Y.out.len] at ho ⊢
        exact (steps_own ho).carry fun c hc hl => ⟨by omega, by rw [hE c (by have := hc.1; omega) (by omega)]; exact oth c (by have := hc.1; omega)⟩
      · have ht : (lstS s6 = some (l, s') ∧ bad' = bad6) ∨ (lstS s6 = none ∧ s' = [] ∧ bad' = true) := by
          unfold lstS
          rcases HX.out.2 with ⟨x1, x2⟩ | ⟨x1, x2, x3, x4⟩
          · simp only [x1]
            rw [Int.toNat_natCast, ← x2]
            exact Y.out.took
          · simp only [x1]
            subst x2
            right
            rcases Y.out.took with ⟨y1, y2⟩ | ⟨y1, y2, y3⟩
            · rw [tkK] at y1
              injection y1 with y1
              injection y1 with _ y1
              exact ⟨trivial, by rw [← y1]; exact x3, by rw [y2]; exact x4⟩
            · exact ⟨trivial, y2, y3⟩
        rcases TH6.out with ⟨z1, z2⟩ | ⟨z1, z2, z3⟩
        · unfold k6 at z1
          rcases ht with ⟨t1, t2⟩ | ⟨t1, t2, t3⟩
          · rw [t1] at z1
            exact .inl ⟨z1, by rw [t2]; exact z2⟩
          · rw [t1] at z1
            exact .inr ⟨z1, t2, t3⟩
        · rcases ht with ⟨t1, _⟩ | ⟨_, t2, t3⟩
          · rw [z2] at t1
            have : lstS [] = none := rfl
            rw [this] at t1; cases t1
          · exact .inr ⟨z1, t2, t3⟩
end Ix
end Go.Proofs.YtalfelkblbbmpaaDoor
/- image.Read: whatever bytes it is handed. -/
namespace Go.Proofs.YtalfelkblbbmpaaDoor
open Go.RowKit
namespace Ix
open Nx

def hd4 : List UInt8 := [67, 76, 80, 49]
theorem pre_iff (s : List UInt8) : hd4.isPrefixOf s = true ↔ s.take 4 = hd4 := by
  rw [List.isPrefixOf_iff_prefix, List.prefix_iff_eq_take]
  exact ⟨fun h => h.symm, fun h => h.symm⟩
theorem hd_list : (⟨#[67, 76, 80, 49]⟩ : ByteArray).toList = [67, 76, 80, 49] := by decide +kernel
theorem cut_no (s : List UInt8) (w : World) (h : s.take 4 ≠ hd4) :
    Calls Tryd.prog 31 #[.string (str s), .string ⟨#[67, 76, 80, 49]⟩] w fun e w' => e = .returned (.tuple #[.string (str s), .bool false]) ∧ w' = w := by
  obtain ⟨T, hT⟩ : ∃ T, T = str s := ⟨_, rfl⟩
  rw [← hT]
  by_cases h4 : 4 ≤ T.size
  · obtain ⟨T4, hT4⟩ : ∃ T4, T4 = T.extract 0 4 := ⟨_, rfl⟩
    have hne : (T4.toList == (⟨#[67, 76, 80, 49]⟩ : ByteArray).toList) = false := by
      refine (Lib.bytes_beq_false_iff _ _).2 fun e => h ?_
      have e2 : str (s.take 4) = str hd4 := by rw [← str_take, ← hT, ← hT4, e]; rfl
      exact str_inj e2
    rw [hd_list] at hne
    have hsl : ∀ W, (Instr.sliceAt 9 (.string T) none (some (.int .i64 4)) none).run Tryd.prog W = .ok (.string T4) W := fun W => by
      rw [run_sliceAt_string W _ _ _ _ _ Tryd.underlying9, run_slice_string_h W _ T Tryd.underlying9 .i64 4 (by omega) (by omega), hT4]
      rfl
    have h4' : (4 : Int) ≤ (T.size : Int) := by omega
    clear hT hT4 h
    go_enter Tryd.func31, Tryd.ntmps31
    go_wp2_with go_in
    go_ret2
    exact ⟨rfl, rfl⟩
  · have h4' : (T.size : Int) < 4 := by omega
    clear hT h
    go_enter Tryd.func31, Tryd.ntmps31
    go_wp2_with go_in
    go_ret2
    exact ⟨rfl, rfl⟩
theorem cut_yes (s : List UInt8) (w : World) (h : s.take 4 = hd4) :
    Calls Tryd.prog 31 #[.string (str s), .string ⟨#[67, 76, 80, 49]⟩] w fun e w' => e = .returned (.tuple #[.string (str (s.drop 4)), .bool true]) ∧ w' = w := by
  obtain ⟨T, hT⟩ : ∃ T, T = str s := ⟨_, rfl⟩
  rw [← hT]
  have h4 : 4 ≤ T.size := by
    have := congrArg List.length h
    rw [List.length_take] at this
    rw [hT, str_size]
    have : min 4 s.length = 4 := this
    omega
  obtain ⟨T4, hT4⟩ : ∃ T4, T4 = T.extract 0 4 := ⟨_, rfl⟩
  obtain ⟨T5, hT5⟩ : ∃ T5, T5 = str (s.drop 4) := ⟨_, rfl⟩
  rw [← hT5]
  have hye : (T4.toList == (⟨#[67, 76, 80, 49]⟩ : ByteArray).toList) = true := by
    refine (Lib.bytes_beq_iff _ _).2 ?_
    rw [hT4, hT, str_take, h]
    rfl
  rw [hd_list] at hye
  have hsl : ∀ W, (Instr.sliceAt 9 (.string T) none (some (.int .i64 4)) none).run Tryd.prog W = .ok (.string T4) W := fun W => by
    rw [run_sliceAt_string W _ _ _ _ _ Tryd.underlying9, run_slice_string_h W _ T Tryd.underlying9 .i64 4 (by omega) (by omega), hT4]
    rfl
  have hsl2 : ∀ W, (Instr.sliceAt 9 (.string T) (some (.int .i64 4)) none none).run Tryd.prog W = .ok (.string T5) W := fun W => by
    rw [run_sliceAt_string W _ _ _ _ _ Tryd.underlying9, run_slice_string_l W _ T Tryd.underlying9 .i64 4 (by omega) (by omega), hT5, hT]
    exact congrArg (fun x => Result.ok (Value.string x) W) (str_drop s 4)
  have h4' : (4 : Int) ≤ (T.size : Int) := by omega
  clear hT hT4 h hT5
  go_enter Tryd.func31, Tryd.ntmps31
  go_wp2_with go_in
  go_ret2
  exact ⟨rfl, rfl⟩

theorem resultsR (tmps : Array Value) (W : World) (e : Nat) (fe : Array Value) (v : Value) (hse : fe.size = 7) (ht : tmps[3]?.getD undef = v) (hq : tmps[2]?.getD undef = .pointer (some ⟨e, 0, none⟩)) (he : W.heap[e]? = some (.cells fe 26 (0, 0))) :
    (results Tryd.f10 tmps).run Tryd.prog W = .ok (.tuple #[.agg fe, v]) W := by
  have hl : (loadVar 26 ⟨e, 0, none⟩).run Tryd.prog W = .ok (.agg fe) W := run_loadVar_row (P := Tryd.prog) W e 26 26 fe (0, 0) _ he Tryd.underlying26 rfl (by rw [hse]; kernel_rfl)
  simp [results, Tryd.results10, ht, hq, asAddr, hl]
theorem net0 (B : Nat) (w : World) : NetV B w nt0 (.slice none 0 0) (.slice none 0 0) (.slice none 0 0) (.slice none 0 0) (.slice none 0 0) (.slice none 0 0) :=
  have hI : Ints (· < B) w (.slice none 0 0) [] := ⟨none, 0, 0, 0, rfl, fun h => by simp at h, fun k hk => by simp at hk⟩
  ⟨hI, hI, hI, hI, hI, ⟨none, 0, 0, 0, rfl, fun h => by simp [nt0] at h, fun k hk => by simp [nt0] at hk⟩⟩
/-- what Read gives back: this code, this fault -/
def ReadOut (w : World) (n : Nt) (f : Nat × Int) (e : Ending) (w' : World) : Prop := ∃ vF vI vO vK vN vC v, e = .returned (.tuple #[.agg #[.int .i64 n.places, vF, vI, vO, vK, vN, vC], v]) ∧ NetV w'.heap.size w' n vF vI vO vK vN vC ∧ (∃ ad cap, vI = .slice ad n.ins.length cap ∧ n.ins.length ≤ cap) ∧ IsErr w.heap.size w' v f ∧ Below w.heap.size w w'

set_option maxHeartbeats 2000000 in
theorem read_no (s : List UInt8) (w : World) (h : s.take 4 ≠ hd4) : Calls Tryd.prog 10 #[.string (str s)] w (ReadOut w nt0 (3, -1)) := by
  have hc := fun W => cut_no s W h
  obtain ⟨T, hT⟩ : ∃ T, T = str s := ⟨_, rfl⟩
  rw [← hT] at hc ⊢
  have hrb : (w.alloc (.cells #[.int .i64 0, .slice none 0 0, .slice none 0 0, .slice none 0 0, .slice none 0 0, .slice none 0 0, .slice none 0 0] 26)).heap[w.heap.size]? = some (.cells #[.int .i64 0, .slice none 0 0, .slice none 0 0, .slice none 0 0, .slice none 0 0, .slice none 0 0, .slice none 0 0] 26 (0, 0)) := heap_alloc_new w _
  clear hT h
  go_enter Tryd.func10, Tryd.ntmps10
  go_wp2_with (go_at_call 31; refine (hc _).mono ?_; rintro e w1 ⟨rfl, hw⟩; obtain rfl := hw.symm)
  refine bodyPost_ret (resultsR _ _ w.heap.size _ _ rfl rfl rfl hrb) rfl ?_
  exact ⟨_, _, _, _, _, _, _, rfl, net0 _ _, ⟨none, 0, rfl, Nat.le_refl _⟩, .inr (.inl ⟨by decide, rfl, rfl⟩), grown_one w _⟩

/-- the world while Read goes on -/
structure RW (w W : World) (b : Nat) (s : List UInt8) (bad : Bool) : Prop where
  rb : W.heap[w.heap.size]? = some (.cells #[.int .i64 0, .slice none 0 0, .slice none 0 0, .slice none 0 0, .slice none 0 0, .slice none 0 0, .slice none 0 0] 26 (0, 0))
  rd : RdS W b s bad
  below : Below w.heap.size w W
  lb : w.heap.size < b

set_option maxHeartbeats 4000000 in
theorem read_yes (s : List UInt8) (w : World) (h : s.take 4 = hd4) (hs : s.length ≤ 1000000000) (hsm : ∀ n r, rdN (s.drop 4) = some (n, r) → Small n) : Calls Tryd.prog 10 #[.string (str s)] w fun e w' => ReadOut w (readE s).1 (readE s).2 e w' := by
  have hc := fun W => cut_yes s W h
  obtain ⟨T, hT⟩ : ∃ T, T = str s := ⟨_, rfl⟩
  obtain ⟨T5, hT5⟩ : ∃ T5, T5 = str (s.drop 4) := ⟨_, rfl⟩
  rw [← hT, ← hT5] at hc
  rw [← hT]
  have hl5 : (s.drop 4).length ≤ 1000000000 := by simp; omega
  have hpre : hd4.isPrefixOf s = true := (pre_iff s).2 h
  have hW : ∀ W, W = (w.alloc (.cells #[.int .i64 0, .slice none 0 0, .slice none 0 0, .slice none 0 0, .slice none 0 0, .slice none 0 0, .slice none 0 0] 26)).alloc (.cells #[.string T5, .bool false] 80) → RW w W (w.heap.size + 1) (s.drop 4) false := fun W hW => by
    subst hW
    refine ⟨?_, ?_, below_alloc1 (grown_one w _) _, by omega⟩
    · rw [Below.heap_alloc _ _ _ (by simp)]; exact heap_alloc_new w _
    · unfold RdS; rw [← hT5]; exact new2' _ _ _
  clear hT hT5
  go_enter Tryd.func10, Tryd.ntmps10
  go_upto_region 5 with (go_at_call 31; refine (hc _).mono ?_; rintro e w1 ⟨rfl, hw⟩; obtain rfl := hw.symm)
  have S0 := hW _ rfl
  revert S0
  generalize (w.alloc (.cells #[.int .i64 0, .slice none 0 0, .slice none 0 0, .slice none 0 0, .slice none 0 0, .slice none 0 0, .slice none 0 0] 26)).alloc (.cells #[.string T5, .bool false] 80) = W0
  obtain ⟨b, hb⟩ : ∃ b, b = w.heap.size + 1 := ⟨_, rfl⟩
  rw [← hb]
  intro S0
  have S : Hid (RW w W0 b (s.drop 4) false) := S0
  have hcode : Calls Tryd.prog 32 #[.pointer (some ⟨b, 0, none⟩)] W0 fun e w' => ∃ n : Nt, ∃ aF cF aI cI aO cO aK cK aN cN aC cC s' bad', e = .returned (.agg #[.int .i64 n.places, .slice aF n.first.length cF, .slice aI n.ins.length cI, .slice aO n.outs.length cO, .slice aK n.keeps.length cK, .slice aN n.nums.length cN, .slice aC n.code.length cC]) ∧ Hid (RW w w' b s' bad' ∧ (∀ W', w'.heap.size ≤ W'.heap.size → (∀ c, w.heap.size < c → c < w'.heap.size → c ≠ b → W'.heap[c]? = w'.heap[c]?) → NetV W'.heap.size W' n (.slice aF n.first.length cF) (.slice aI n.ins.length cI) (.slice aO n.outs.length cO) (.slice aK n.keeps.length cK) (.slice aN n.nums.length cN) (.slice aC n.code.length cC)) ∧ (∃ ad cap, (.slice aI n.ins.length cI : Value) = .slice ad n.ins.length cap ∧ n.ins.length ≤ cap) ∧ ((rdN (s.drop 4) = some (n, s') ∧ bad' = false) ∨ (rdN (s.drop 4) = none ∧ s' = [] ∧ bad' = true))) :=
    (code_any b (s.drop 4) false W0 S0.rd hl5).mono fun e w' ⟨n, vF, vI, vO, vK, vN, vC, s', bad', he, X⟩ => by
      have hlb := S0.lb
      have hNV := X.out.2.2.1 w' (Nat.le_refl _) (fun _ _ _ => rfl)
      obtain ⟨aF, _, _, cF, rfl, -, -⟩ := id hNV.f
      obtain ⟨aI, _, _, cI, rfl, -, -⟩ := id hNV.i
      obtain ⟨aO, _, _, cO, rfl, -, -⟩ := id hNV.o
      obtain ⟨aK, _, _, cK, rfl, -, -⟩ := id hNV.k
      obtain ⟨aN, _, _, cN, rfl, -, -⟩ := id hNV.m
      obtain ⟨aC, _, _, cC, rfl, -, -⟩ := id hNV.c
      refine ⟨n, aF, cF, aI, cI, aO, cO, aK, cK, aN, cN, aC, cC, s', bad', he, ⟨?_, X.out.1, ?_, hlb⟩, fun W' hW hE => X.out.2.2.1 W' hW (fun c hc hl => hE c (by have := lt_of_block S0.rb; omega) hl (by have := lt_of_block S0.rd; omega)), X.out.2.2.2.1, X.out.2.2.2.2⟩
      · rw [X.out.2.1.block _ (lt_of_block S0.rb) (by simp; omega)]; exact S0.rb
      · exact S0.below.trans ⟨X.out.2.1.os, X.out.2.1.tape, X.out.2.1.output, X.out.2.1.size, fun k hk => X.out.2.1.block k (by have := S0.below.size; omega) (by simp; omega)⟩
  clear hW hc S0 hb S
  go_upto_region 6 with (go_at_call 32; refine hcode.mono ?_; rintro e w2 ⟨n, aF, cF, aI, cI, aO, cO, aK, cK, aN, cN, aC, cC, s', bad', rfl, X⟩; clear hcode)
  have hnb : (w2.alloc (.cells #[.int .i64 n.places, .slice aF n.first.length cF, .slice aI n.ins.length cI, .slice aO n.outs.length cO, .slice aK n.keeps.length cK, .slice aN n.nums.length cN, .slice aC n.code.length cC] 26)).heap[w2.heap.size]? = some (.cells #[.int .i64 n.places, .slice aF n.first.length cF, .slice aI n.ins.length cI, .slice aO n.outs.length cO, .slice aK n.keeps.length cK, .slice aN n.nums.length cN, .slice aC n.code.length cC] 26 (0, 0)) := heap_alloc_new w2 _
  have hr3 : RW w (w2.alloc (.cells #[.int .i64 n.places, .slice aF n.first.length cF, .slice aI n.ins.length cI, .slice aO n.outs.length cO, .slice aK n.keeps.length cK, .slice aN n.nums.length cN, .slice aC n.code.length cC] 26)) b s' bad' := ⟨by rw [Below.heap_alloc _ _ _ (lt_of_block X.out.1.rb)]; exact X.out.1.rb, by unfold RdS; rw [Below.heap_alloc _ _ _ (lt_of_block X.out.1.rd)]; exact X.out.1.rd, below_alloc1 X.out.1.below _, X.out.1.lb⟩
  have hn3 : (∀ W', (w2.alloc (.cells #[.int .i64 n.places, .slice aF n.first.length cF, .slice aI n.ins.length cI, .slice aO n.outs.length cO, .slice aK n.keeps.length cK, .slice aN n.nums.length cN, .slice aC n.code.length cC] 26)).heap.size ≤ W'.heap.size → (∀ c, w.heap.size < c → c < (w2.alloc (.cells #[.int .i64 n.places, .slice aF n.first.length cF, .slice aI n.ins.length cI, .slice aO n.outs.length cO, .slice aK n.keeps.length cK, .slice aN n.nums.length cN, .slice aC n.code.length cC] 26)).heap.size → c ≠ b → W'.heap[c]? = (w2.alloc (.cells #[.int .i64 n.places, .slice aF n.first.length cF, .slice aI n.ins.length cI, .slice aO n.outs.length cO, .slice aK n.keeps.length cK, .slice aN n.nums.length cN, .slice aC n.code.length cC] 26)).heap[c]?) → NetV W'.heap.size W' n (.slice aF n.first.length cF) (.slice aI n.ins.length cI) (.slice aO n.outs.length cO) (.slice aK n.keeps.length cK) (.slice aN n.nums.length cN) (.slice aC n.code.length cC)) := fun W' hW hE => X.out.2.1 W' (by simp at hW; omega) (fun c hc hl hb => by rw [hE c hc (by simp; omega) hb]; exact Below.heap_alloc _ _ _ hl)
  revert hnb hr3 hn3
  generalize w2.alloc (.cells #[.int .i64 n.places, .slice aF n.first.length cF, .slice aI n.ins.length cI, .slice aO n.outs.length cO, .slice aK n.keeps.length cK, .slice aN n.nums.length cN, .slice aC n.code.length cC] 26) = W3
  generalize w2.heap.size = nb
  intro hnb hr3 hn3
  have N3 : Hid (W3.heap[nb]? = some (.cells #[.int .i64 n.places, .slice aF n.first.length cF, .slice aI n.ins.length cI, .slice aO n.outs.length cO, .slice aK n.keeps.length cK, .slice aN n.nums.length cN, .slice aC n.code.length cC] 26 (0, 0)) ∧ RW w W3 b s' bad' ∧ (∀ W', W3.heap.size ≤ W'.heap.size → (∀ c, w.heap.size < c → c < W3.heap.size → c ≠ b → W'.heap[c]? = W3.heap[c]?) → NetV W'.heap.size W' n (.slice aF n.first.length cF) (.slice aI n.ins.length cI) (.slice aO n.outs.length cO) (.slice aK n.keeps.length cK) (.slice aN n.nums.length cN) (.slice aC n.code.length cC))) := ⟨hnb, hr3, hn3⟩
  obtain ⟨S1, hS1⟩ : ∃ S1, S1 = str s' := ⟨_, rfl⟩
  have e0 : W3.cell? ⟨b, 0, none⟩ = some (.string S1) := by rw [hS1]; exact (cel hr3.rd 0 _ rfl).1
  have e1 : W3.cell? ⟨b, 1, none⟩ = some (.bool bad') := (cel hr3.rd 1 _ rfl).1
  have HS1 : Hid (S1 = str s') := hS1
  obtain ⟨p0, f0⟩ := cel hr3.rb 0 (.int .i64 0) rfl
  obtain ⟨p1, f1⟩ := cel hr3.rb 1 (.slice none 0 0) rfl
  obtain ⟨p2, f2⟩ := cel hr3.rb 2 (.slice none 0 0) rfl
  obtain ⟨p3, f3⟩ := cel hr3.rb 3 (.slice none 0 0) rfl
  obtain ⟨p4, f4⟩ := cel hr3.rb 4 (.slice none 0 0) rfl
  obtain ⟨p5, f5⟩ := cel hr3.rb 5 (.slice none 0 0) rfl
  obtain ⟨p6, f6⟩ := cel hr3.rb 6 (.slice none 0 0) rfl
  have HC : Hid ((∃ ad cap, (.slice aI n.ins.length cI : Value) = .slice ad n.ins.length cap ∧ n.ins.length ≤ cap) ∧ ((rdN (s.drop 4) = some (n, s') ∧ bad' = false) ∨ (rdN (s.drop 4) = none ∧ s' = [] ∧ bad' = true))) := X.out.2.2
  have hform : ∀ W, W = (((((((W3.setCell ⟨w.heap.size, 0, none⟩ (.int .i64 0)).setCell ⟨w.heap.size, 1, none⟩ (.slice none 0 0)).setCell ⟨w.heap.size, 2, none⟩ (.slice none 0 0)).setCell ⟨w.heap.size, 3, none⟩ (.slice none 0 0)).setCell ⟨w.heap.size, 4, none⟩ (.slice none 0 0)).setCell ⟨w.heap.size, 5, none⟩ (.slice none 0 0)).setCell ⟨w.heap.size, 6, none⟩ (.slice none 0 0)) → W.heap[w.heap.size]? = some (.cells #[.int .i64 0, .slice none 0 0, .slice none 0 0, .slice none 0 0, .slice none 0 0, .slice none 0 0, .slice none 0 0] 26 (0, 0)) ∧ Below w.heap.size w W := fun W hW => by
    subst hW
    exact ⟨set7' hr3.rb _ _ _ _ _ _ _, ((((((hr3.below.setCell (by simp) _).setCell (by simp) _).setCell (by simp) _).setCell (by simp) _).setCell (by simp) _).setCell (by simp) _).setCell (by simp) _⟩
  have HF : Hid _ := hform
  have HPRE : Hid (hd4.isPrefixOf s = true) := hpre
  clear hnb hr3 hn3 hS1 X hform hpre h
  cases bad' with
  | true =>
    have hnone : readE s = (nt0, (3, -1)) := by
      rcases HC.out.2 with ⟨_, h2⟩ | ⟨h1, _⟩
      · cases h2
      · unfold readE readN
        have hp : [67, 76, 80, 49].isPrefixOf s = true := HPRE.out
        rw [if_pos hp, h1]
    have HNO : Hid (readE s = (nt0, (3, -1))) := hnone
    clear hnone
    go_wp2_with fail
    refine bodyPost_ret (resultsR _ _ w.heap.size _ _ rfl rfl rfl (HF.out _ rfl).1) rfl ?_
    show ReadOut w (readE s).1 (readE s).2 _ _
    rw [HNO.out]
    exact ⟨_, _, _, _, _, _, _, rfl, net0 _ _, ⟨none, 0, rfl, Nat.le_refl _⟩, .inr (.inl ⟨by decide, rfl, rfl⟩), (HF.out _ rfl).2⟩
  | false =>
    have hsome : rdN (s.drop 4) = some (n, s') := by
      rcases HC.out.2 with ⟨h1, _⟩ | ⟨_, _, h2⟩
      · exact h1
      · cases h2
    by_cases hs0 : s' = []
    · subst hs0
      have hSm := hsm n [] hsome
      have hrE : readE s = if check n = (0, -1) then (n, (0, -1)) else (nt0, check n) := by
        unfold readE readN
        have hp : [67, 76, 80, 49].isPrefixOf s = true := HPRE.out
        rw [if_pos hp, hsome]
        simp only [if_true]
      have HRE : Hid (readE s = if check n = (0, -1) then (n, (0, -1)) else (nt0, check n)) := hrE
      have hye : (S1.toList == []) = true := by
        have := (Lib.bytes_beq_iff S1 ⟨#[]⟩).2 (by rw [HS1.out]; rfl)
        rw [show (⟨#[]⟩ : ByteArray).toList = [] by decide +kernel] at this
        exact this
      have m0 : W3.cell? ⟨nb, 0, none⟩ = some (.int .i64 n.places) := (cel N3.out.1 0 _ rfl).1
      have m1 : W3.cell? ⟨nb, 1, none⟩ = some (.slice aF n.first.length cF) := (cel N3.out.1 1 _ rfl).1
      have m2 : W3.cell? ⟨nb, 2, none⟩ = some (.slice aI n.ins.length cI) := (cel N3.out.1 2 _ rfl).1
      have m3 : W3.cell? ⟨nb, 3, none⟩ = some (.slice aO n.outs.length cO) := (cel N3.out.1 3 _ rfl).1
      have m4 : W3.cell? ⟨nb, 4, none⟩ = some (.slice aK n.keeps.length cK) := (cel N3.out.1 4 _ rfl).1
      have m5 : W3.cell? ⟨nb, 5, none⟩ = some (.slice aN n.nums.length cN) := (cel N3.out.1 5 _ rfl).1
      have m6 : W3.cell? ⟨nb, 6, none⟩ = some (.slice aC n.code.length cC) := (cel N3.out.1 6 _ rfl).1
      have hck : Calls Tryd.prog 19 #[.agg #[.int .i64 n.places, .slice aF n.first.length cF, .slice aI n.ins.length cI, .slice aO n.outs.length cO, .slice aK n.keeps.length cK, .slice aN n.nums.length cN, .slice aC n.code.length cC]] W3 fun e w' => ∃ v, e = .returned v ∧ Hid (IsErr W3.heap.size w' v (check n) ∧ Below W3.heap.size W3 w') :=
        (check_any W3.heap.size n W3 _ _ _ _ _ _ (N3.out.2.2 W3 (Nat.le_refl _) (fun _ _ _ _ => rfl)) (Nat.le_refl _) hSm).mono fun e w' ⟨v, he, h1, h2⟩ => ⟨v, he, h1, h2⟩
      clear hsome hrE hSm
      go_upto_region 9 with (go_at_call 19; refine hck.mono ?_; rintro e w4 ⟨v, rfl, Y⟩; clear hck)
      clear p0 p1 p2 p3 p4 p5 p6 f0 f1 f2 f3 f4 f5 f6 m0 m1 m2 m3 m4 m5 m6 e0 e1
      have r4 : w4.heap[w.heap.size]? = some (.cells #[.int .i64 0, .slice none 0 0, .slice none 0 0, .slice none 0 0, .slice none 0 0, .slice none 0 0, .slice none 0 0] 26 (0, 0)) := by rw [Y.out.2.block _ (lt_of_block N3.out.2.1.rb)]; exact N3.out.2.1.rb
      have n4 : w4.heap[nb]? = some (.cells #[.int .i64 n.places, .slice aF n.first.length cF, .slice aI n.ins.length cI, .slice aO n.outs.length cO, .slice aK n.keeps.length cK, .slice aN n.nums.length cN, .slice aC n.code.length cC] 26 (0, 0)) := by rw [Y.out.2.block _ (lt_of_block N3.out.1)]; exact N3.out.1
      have b4 : Below w.heap.size w w4 := ball N3.out.2.1.below Y.out.2
      obtain ⟨p0, f0⟩ := cel r4 0 (.int .i64 0) rfl
      obtain ⟨p1, f1⟩ := cel r4 1 (.slice none 0 0) rfl
      obtain ⟨p2, f2⟩ := cel r4 2 (.slice none 0 0) rfl
      obtain ⟨p3, f3⟩ := cel r4 3 (.slice none 0 0) rfl
      obtain ⟨p4, f4⟩ := cel r4 4 (.slice none 0 0) rfl
      obtain ⟨p5, f5⟩ := cel r4 5 (.slice none 0 0) rfl
      obtain ⟨p6, f6⟩ := cel r4 6 (.slice none 0 0) rfl
      have m0 : w4.cell? ⟨nb, 0, none⟩ = some (.int .i64 n.places) := (cel n4 0 _ rfl).1
      have m1 : w4.cell? ⟨nb, 1, none⟩ = some (.slice aF n.first.length cF) := (cel n4 1 _ rfl).1
      have m2 : w4.cell? ⟨nb, 2, none⟩ = some (.slice aI n.ins.length cI) := (cel n4 2 _ rfl).1
      have m3 : w4.cell? ⟨nb, 3, none⟩ = some (.slice aO n.outs.length cO) := (cel n4 3 _ rfl).1
      have m4 : w4.cell? ⟨nb, 4, none⟩ = some (.slice aK n.keeps.length cK) := (cel n4 4 _ rfl).1
      have m5 : w4.cell? ⟨nb, 5, none⟩ = some (.slice aN n.nums.length cN) := (cel n4 5 _ rfl).1
      have m6 : w4.cell? ⟨nb, 6, none⟩ = some (.slice aC n.code.length cC) := (cel n4 6 _ rfl).1
      have hset : ∀ (y0 y1 y2 y3 y4 y5 y6 : Value) (W : World), W = (((((((w4.setCell ⟨w.heap.size, 0, none⟩ y0).setCell ⟨w.heap.size, 1, none⟩ y1).setCell ⟨w.heap.size, 2, none⟩ y2).setCell ⟨w.heap.size, 3, none⟩ y3).setCell ⟨w.heap.size, 4, none⟩ y4).setCell ⟨w.heap.size, 5, none⟩ y5).setCell ⟨w.heap.size, 6, none⟩ y6) → W.heap[w.heap.size]? = some (.cells #[y0, y1, y2, y3, y4, y5, y6] 26 (0, 0)) ∧ Below w.heap.size w W ∧ (∀ c, c ≠ w.heap.size → W.heap[c]? = w4.heap[c]?) ∧ W.heap.size = w4.heap.size := fun y0 y1 y2 y3 y4 y5 y6 W hW => by
        subst hW
        exact ⟨set7' r4 _ _ _ _ _ _ _, ((((((b4.setCell (by simp) _).setCell (by simp) _).setCell (by simp) _).setCell (by simp) _).setCell (by simp) _).setCell (by simp) _).setCell (by simp) _, fun c hc => other7 w4 w.heap.size _ _ _ _ _ _ _ c hc, by simp [World.setCell]⟩
      have HF4 : Hid _ := hset
      have HB4 : Hid (W3.heap.size ≤ w4.heap.size ∧ w.heap.size < W3.heap.size) := ⟨Y.out.2.size, lt_of_block N3.out.2.1.rb⟩
      clear hset r4 n4 b4 HF
      by_cases hok : check n = (0, -1)
      · have hv : v = .nilIface := by
          have := Y.out.1
          rw [hok] at this
          rcases this with ⟨_, _, hv⟩ | ⟨h1, _⟩ | ⟨h1, _⟩
          · exact hv
          · exact absurd rfl h1
          · exact absurd rfl h1
        subst hv
        have HOK : Hid (check n = (0, -1)) := hok
        clear hok
        go_wp2_with fail
        obtain ⟨s1, s2, s3, s4⟩ := HF4.out (.int .i64 n.places) (.slice aF n.first.length cF) (.slice aI n.ins.length cI) (.slice aO n.outs.length cO) (.slice aK n.keeps.length cK) (.slice aN n.nums.length cN) (.slice aC n.code.length cC) _ rfl
        refine bodyPost_ret (resultsR _ _ w.heap.size _ _ rfl rfl rfl s1) rfl ?_
        show ReadOut w (readE s).1 (readE s).2 _ _
        rw [HRE.out, if_pos HOK.out]
        refine ⟨_, _, _, _, _, _, _, rfl, N3.out.2.2 _ (by rw [s4]; exact HB4.out.1) (fun c hc hl _ => ?_), HC.out.1, .inl ⟨rfl, rfl, rfl⟩, s2⟩
        rw [s3 c (by omega)]
        exact Y.out.2.block c hl
      · have hv : ∃ t x, v = .iface t x := by
          rcases Y.out.1 with ⟨h1, h2, _⟩ | ⟨_, _, hv⟩ | ⟨_, g, q, _, _, hv, _⟩
          · exact absurd (Prod.ext h1 h2) hok
          · exact ⟨_, _, hv⟩
          · exact ⟨_, _, hv⟩
        obtain ⟨t, x, rfl⟩ := hv
        have HOK : Hid (check n ≠ (0, -1)) := hok
        clear hok
        go_wp2_with fail
        obtain ⟨s1, s2, s3, s4⟩ := HF4.out (.int .i64 0) (.slice none 0 0) (.slice none 0 0) (.slice none 0 0) (.slice none 0 0) (.slice none 0 0) (.slice none 0 0) _ rfl
        refine bodyPost_ret (resultsR _ _ w.heap.size _ _ rfl rfl rfl s1) rfl ?_
        show ReadOut w (readE s).1 (readE s).2 _ _
        rw [HRE.out, if_neg HOK.out]
        refine ⟨_, _, _, _, _, _, _, rfl, net0 _ _, ⟨none, 0, rfl, Nat.le_refl _⟩, ?_, s2⟩
        rcases Y.out.1 with h1 | h1 | ⟨h1, g, q, h2, h3, h4, h5⟩
        · exact .inl h1
        · exact .inr (.inl h1)
        · refine .inr (.inr ⟨h1, g, q, h2, by have := HB4.out.2; omega, h4, ?_⟩)
          rw [s3 g (by have := HB4.out.2; omega)]; exact h5
    · have hnone : readE s = (nt0, (3, -1)) := by
        unfold readE readN
        have hp : [67, 76, 80, 49].isPrefixOf s = true := HPRE.out
        rw [if_pos hp, hsome]
        simp only [if_neg hs0]
      have HNO : Hid (readE s = (nt0, (3, -1))) := hnone
      have hne : (S1.toList == []) = false := by
        have := (Lib.bytes_beq_false_iff S1 ⟨#[]⟩).2 (fun e => hs0 (str_inj (by rw [← HS1.out, e]; rfl)))
        rw [show (⟨#[]⟩ : ByteArray).toList = [] by decide +kernel] at this
        exact this
      clear hsome hs0 hnone
      go_wp2_with fail
      refine bodyPost_ret (resultsR _ _ w.heap.size _ _ rfl rfl rfl (HF.out _ rfl).1) rfl ?_
      show ReadOut w (readE s).1 (readE s).2 _ _
      rw [HNO.out]
      exact ⟨_, _, _, _, _, _, _, rfl, net0 _ _, ⟨none, 0, rfl, Nat.le_refl _⟩, .inr (.inl ⟨by decide, rfl, rfl⟩), (HF.out _ rfl).2⟩
end Ix
end Go.Proofs.YtalfelkblbbmpaaDoor
