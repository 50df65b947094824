import Derived.Test.YtpogmfliojcnjaaGreatDoorQWk
import Derived.Test.YtpogmfliojcnjaaGreatDoorQVe
import Derived.ChangeOld
import Derived.DataReads
import Derived.Deep.Slices
namespace Go.Proofs.YtpogmfliojcnjaaGreatDoor
open Go.RowKit Px
namespace Kx
def ChB (s : ByteArray) (B : Bool) : Prop := ∀ w, KEnv0 w → Calls Tryz.prog 8 #[.string s] w fun e w' => ∃ S a n m a' n' m', e = .returned (.tuple #[.agg #[.string S, .slice a n m, .slice a' n' m'], .bool B]) ∧ Hid (Below w.heap.size w w')
set_option maxRecDepth 100000 in
set_option maxHeartbeats 2000000 in
theorem beside_many {s t : ByteArray} {w : World} {iv jv : Value} {zss : List (List Int)} (hI : IRws w iv zss) (h : ¬ Few zss) :
    Calls Tryz.prog 3 #[.string s, .string t, iv, jv] w fun e w' => e = .returned (.bool true) ∧ Hid (Below w.heap.size w w') := by
 have hf := few_no hI h
 obtain ⟨iad, ib, io, ic, rfl, _⟩ := hI
 go_enter Tryz.func3, Tryz.ntmps3
 go_wp2_with fail
 refine hf.mono ?_
 rintro e w0 ⟨rfl, hw0⟩
 obtain rfl := hw0.symm
 clear hf
 go_wp2_with fail
 go_ret
 exact ⟨rfl, Below.refl _ _⟩
set_option maxRecDepth 100000 in
set_option maxHeartbeats 2000000 in
theorem beside_many2 {s t : ByteArray} {w : World} {iv jv : Value} {zss yss : List (List Int)} (hI : IRws w iv zss) (h : Few zss) (hJ : IRws w jv yss) (h2 : ¬ Few yss) :
    Calls Tryz.prog 3 #[.string s, .string t, iv, jv] w fun e w' => e = .returned (.bool true) ∧ Hid (Below w.heap.size w w') := by
 have hf := few_yes hI h
 have hf2 := few_no hJ h2
 obtain ⟨iad, ib, io, ic, rfl, _⟩ := hI
 obtain ⟨jad, jb, jo, jc, rfl, _⟩ := hJ
 go_enter Tryz.func3, Tryz.ntmps3
 go_wp2_with fail
 refine hf.mono ?_
 rintro e w0 ⟨rfl, hw0⟩
 obtain rfl := hw0.symm
 clear hf
 go_wp2_with fail
 refine hf2.mono ?_
 rintro e w0 ⟨rfl, hw0⟩
 obtain rfl := hw0.symm
 clear hf2
 go_wp2_with fail
 go_ret
 exact ⟨rfl, Below.refl _ _⟩
set_option maxRecDepth 100000 in
set_option maxHeartbeats 8000000 in
theorem beside_none {s t : ByteArray} {w : World} {iv jv : Value} {zss yss : List (List Int)} {B1 B2 : Bool} (hv : KEnv0 w) (hI : IRws w iv zss) (h : Few zss) (hJ : IRws w jv yss) (h2 : Few yss) (h3 : ChB s B1) (h4 : ChB t B2) (hB : (B1 && B2) = false) :
    Calls Tryz.prog 3 #[.string s, .string t, iv, jv] w fun e w' => e = .returned (.bool true) ∧ Hid (Below w.heap.size w w') := by
 have hf := few_yes hI h
 have hf2 := few_yes hJ h2
 have hr := ran_any hv
 have HC : Hid (∀ W, Below w.heap.size w W → (Calls Tryz.prog 8 #[.string s] W fun e w' => ∃ S a n m a' n' m', e = .returned (.tuple #[.agg #[.string S, .slice a n m, .slice a' n' m'], .bool B1]) ∧ Hid (Below W.heap.size W w')) ∧ (Calls Tryz.prog 8 #[.string t] W fun e w' => ∃ S a n m a' n' m', e = .returned (.tuple #[.agg #[.string S, .slice a n m, .slice a' n' m'], .bool B2]) ∧ Hid (Below W.heap.size W w'))) := fun W hb => ⟨h3 W (hv.up hb), h4 W (hv.up hb)⟩
 obtain ⟨iad, ib, io, ic, rfl, _⟩ := hI
 obtain ⟨jad, jb, jo, jc, rfl, _⟩ := hJ
 have HB : Hid ((B1 && B2) = false) := hB
 clear hv h3 h4 hB
 go_enter Tryz.func3, Tryz.ntmps3
 go_wp2_with fail
 refine hf.mono ?_
 rintro e w0 ⟨rfl, hw0⟩
 obtain rfl := hw0.symm
 clear hf
 go_wp2_with fail
 refine hf2.mono ?_
 rintro e w0 ⟨rfl, hw0⟩
 obtain rfl := hw0.symm
 clear hf2
 go_wp2_with fail
 refine hr.mono ?_
 rintro e w1 ⟨rfl, hb1⟩
 clear hr
 have hc := (HC.out w1 hb1.out).1
 go_wp2_with fail
 refine hc.mono ?_
 rintro e w2 ⟨S, a, n, m, a', n', m', rfl, hb2⟩
 clear hc
 obtain ⟨W2, hW2⟩ : ∃ W2, W2 = w2.alloc (.cells #[.string S, .slice a n m, .slice a' n' m'] 28) := ⟨_, rfl⟩
 obtain ⟨cb, hcb⟩ : ∃ cb, cb = w2.heap.size := ⟨_, rfl⟩
 have HB2 : Hid (Below w.heap.size w W2) := by rw [hW2]; exact ck_all (ck_all hb1.out hb2.out) (ck_grown _ _)
 have hc := (HC.out W2 HB2.out).2
 clear hb1 hb2 HC
 go_upto_region 6 with fail
 rw [← hcb, ← hW2]
 clear hcb hW2
 go_wp2_with fail
 refine hc.mono ?_
 rintro e w3 ⟨S', b, p, q, b', p', q', rfl, hb3⟩
 clear hc
 obtain ⟨W3, hW3⟩ : ∃ W3, W3 = w3.alloc (.cells #[.string S', .slice b p q, .slice b' p' q'] 28) := ⟨_, rfl⟩
 obtain ⟨db, hdb⟩ : ∃ db, db = w3.heap.size := ⟨_, rfl⟩
 have HB3 : Hid (∀ q, Below w.heap.size w (W3.drewN q)) := fun q => by rw [hW3]; exact below_drewN (ck_all (ck_all HB2.out hb3.out) (ck_grown _ _)) q
 clear hb3 HB2
 go_upto_region 7 with fail
 rw [← hdb, ← hW3]
 clear hdb hW3
 cases B1 with
 | false =>
  go_quiet (fail)
  all_goals
   go_wp2_with fail
   go_ret
   exact ⟨rfl, HB3.out _⟩
 | true =>
  cases B2 with
  | false =>
   go_quiet (fail)
   all_goals
    go_wp2_with fail
    go_ret
    exact ⟨rfl, HB3.out _⟩
  | true => exact absurd HB.out (by decide)
theorem chB_fine {s : ByteArray} {l : List Lx.Tok} {c : Chart} (hs : s.size ≤ 1500) (hok : Lx.Ok (bs s) l) (hch : chart (fin s l) = .ok c) (hck : checkC c = none) : ChB s true := fun w hv =>
 (chart_drawn hs hv hok hch).mono fun e w' h => by
  rcases h with ⟨_, S, a, n, m, a', n', m', he, hC⟩ | ⟨hne, _⟩
  ·exact ⟨S, a, n, m, a', n', m', he, hC.out.2⟩
  ·exact absurd hck hne
theorem chB_none {s : ByteArray} (h : ∀ w, KEnv0 w → Calls Tryz.prog 8 #[.string s] w fun e w' => e = .returned (.tuple #[.agg #[.string ⟨#[]⟩, .slice none 0 0, .slice none 0 0], .bool false]) ∧ Hid (Below w.heap.size w w')) : ChB s false := fun w hv =>
 (h w hv).mono fun _ _ ⟨he, hb⟩ => ⟨_, _, _, _, _, _, _, he, hb⟩
theorem runBeside_any (s t : ByteArray) {w : World} {iv jv : Value} {zss yss : List (List Int)} (hv : KEnv0 w) (hI : IRws w iv zss) (h64 : ∀ zs ∈ zss, ∀ y ∈ zs, N64 y) (hJ : IRws w jv yss) (h64' : ∀ zs ∈ yss, ∀ y ∈ zs, N64 y) :
    Calls Tryz.prog 3 #[.string s, .string t, iv, jv] w fun e w' => e = .returned (.bool true) ∧ Hid (Below w.heap.size w w') := by
 by_cases hf : Few zss
 ·by_cases hf2 : Few yss
  ·rcases may_or s with ⟨l, c, h1, h2, h3, h4⟩ | hn
   ·rcases may_or t with ⟨l', d, g1, g2, g3, g4⟩ | hn'
    ·exact beside_fine s t l l' c d w iv jv zss yss h1 g1 hv h2 h3 h4 g2 g3 g4 hI hJ hf hf2 h64 h64'
    ·exact beside_none hv hI hf hJ hf2 (chB_fine h1 h2 h3 h4) (chB_none hn') rfl
   ·rcases may_or t with ⟨l', d, g1, g2, g3, g4⟩ | hn'
    ·exact beside_none hv hI hf hJ hf2 (chB_none hn) (chB_fine g1 g2 g3 g4) rfl
    ·exact beside_none hv hI hf hJ hf2 (chB_none hn) (chB_none hn') rfl
  ·exact beside_many2 hI hf hJ hf2
 ·exact beside_many hI hf
end Kx
end Go.Proofs.YtpogmfliojcnjaaGreatDoor
namespace Go.Proofs.YtpogmfliojcnjaaGreatDoor
open Go Go.RowKit Go.ChangeShapes Go.WideShapes
namespace Kx
theorem n64_of_wf {z : Int} (h : (Lit.int .i64 z).wf = true) : N64 z := by
 rw [show (Lit.int .i64 z).wf = (decide (-9223372036854775808 ≤ z) && decide (z ≤ 9223372036854775807)) from rfl] at h
 simpa [N64] using h
theorem add_none (b off k : Nat) : (⟨b, off, none⟩ : Addr).add k = ⟨b, off + k, none⟩ := by unfold Addr.add; split <;> simp_all
section
variable {H : Type} {enc : TypeId × Value → H} {W : World} {sp : Nat → Bool} {held : Bool}
theorem nums_of_trod {fuel : Nat} {v : Value} {x : DataW H × List MemPlace} (hc : Tryz.prog.cellsOf 2 = 1) (h : DataW.trod enc Tryz.prog W 0 sp held fuel 41 [v] = some x) : ∃ zs, INums W v zs ∧ ∀ z ∈ zs, N64 z := by
 rcases open_ints Tryz.underlying41 Tryz.underlying2 hc h with ⟨hcs, _⟩ | ⟨a, len, cap, zs, hcs, _, hl, hm, hz, _, hcell, hwz⟩
 ·obtain rfl : v = .slice none 0 0 := by simpa using hcs
  exact ⟨[], ⟨none, 0, 0, 0, rfl, Nat.le_refl _, by unfold maxLen; omega, fun h => by simp at h, fun k hk => by simp at hk⟩, fun z hz => by cases hz⟩
 ·obtain rfl : v = .slice (some a) len cap := by simpa using hcs
  have hlz : len ≤ zs.length := by rw [hz]; split <;> omega
  have hlen : (zs.take len).length = len := by simp; omega
  refine ⟨zs.take len, ?_, fun z hz => n64_of_wf (hwz z (List.mem_of_mem_take hz))⟩
  by_cases h0 : len = 0
  ·subst h0
   exact ⟨some a, 0, 0, cap, by rw [hlen], by omega, hm, fun h => by omega, fun k hk => by omega⟩
  ·obtain ⟨b, off, spot⟩ := a
   have hc0 := hcell 0 (by omega)
   have hspot : spot = none := by simpa [Addr.add] using World.cell?_spot hc0
   subst hspot
   refine ⟨some ⟨b, off, none⟩, b, off, cap, by rw [hlen], by omega, hm, fun _ => rfl, fun k hk => ?_⟩
   have := hcell k (by omega)
   rw [add_none] at this
   rw [this]
   simp [List.getD_eq_getElem?_getD, show k < len by omega]
theorem choose_rows (m : Nat) (p : Nat → List Int → Prop) (h : ∀ i, i < m → ∃ z, p i z) : ∃ l : List (List Int), l.length = m ∧ ∀ i z, l[i]? = some z → p i z := by
 induction m with
 | zero => exact ⟨[], rfl, fun i z hi => by simp at hi⟩
 | succ m ih =>
  obtain ⟨l, hl, hp⟩ := ih (fun i hi => h i (by omega))
  obtain ⟨z, hz⟩ := h m (by omega)
  refine ⟨l ++ [z], by simp [hl], fun i y hi => ?_⟩
  by_cases e : i < m
  ·rw [List.getElem?_append_left (by omega)] at hi; exact hp i y hi
  ·have hlt := (List.getElem?_eq_some_iff.1 hi).1
   rw [List.length_append, List.length_singleton] at hlt
   obtain rfl : i = m := by omega
   rw [List.getElem?_append_right (by omega), hl, Nat.sub_self] at hi
   simp at hi
   rw [← hi]; exact hz
theorem rows_of_trod {fuel : Nat} {v : Value} {x : DataW H × List MemPlace} (hc1 : Tryz.prog.cellsOf 41 = 1) (hc2 : Tryz.prog.cellsOf 2 = 1)
    (h : DataW.trod enc Tryz.prog W 0 sp held fuel 22 [v] = some x) : ∃ zss, IRws W v zss ∧ ∀ zs ∈ zss, ∀ z ∈ zs, N64 z := by
 rcases Deep.open_slice1 Tryz.underlying22 hc1 h with ⟨hcs, _⟩ | ⟨a, len, cap, m, n, V, D, Pl, hcs, _, hl, hm, hmm, _, hx⟩
 ·obtain rfl : v = .slice none 0 0 := by simpa using hcs
  exact ⟨[], ⟨none, 0, 0, 0, rfl, fun h => by simp at h, fun k zs hk => by simp at hk⟩, fun zs h => by cases h⟩
 ·obtain rfl : v = .slice (some a) len cap := by simpa using hcs
  have hlm : len ≤ m := by rw [hmm]; split <;> omega
  obtain ⟨rows, hrl, hr⟩ := choose_rows len (fun i z => INums W (V i) z ∧ ∀ y ∈ z, N64 y) (fun i hi => nums_of_trod hc2 (hx i (by omega)).2)
  refine ⟨rows, ?_, fun zs hz => ?_⟩
  ·by_cases h0 : len = 0
   ·exact ⟨some a, 0, 0, cap, by rw [hrl], fun h => by omega, fun k zs hk => by have := (List.getElem?_eq_some_iff.1 hk).1; omega⟩
   ·obtain ⟨b, off, spot⟩ := a
    have hc0 := (hx 0 (by omega)).1
    have hspot : spot = none := by simpa [Addr.add] using World.cell?_spot hc0
    subst hspot
    refine ⟨some ⟨b, off, none⟩, b, off, cap, by rw [hrl], fun _ => rfl, fun k zs hk => ?_⟩
    have hkl : k < len := by rw [← hrl]; exact (List.getElem?_eq_some_iff.1 hk).1
    have hc := (hx k (by omega)).1
    rw [add_none] at hc
    have hI := (hr k zs hk).1
    obtain ⟨ad, b', o', cap', e, _⟩ := id hI
    rw [e] at hI hc
    exact ⟨ad, cap', hc, hI⟩
  ·obtain ⟨i, hi, e⟩ := List.getElem_of_mem hz
   exact (hr i zs (by rw [List.getElem?_eq_getElem hi, e])).2
end
end Kx
end Go.Proofs.YtpogmfliojcnjaaGreatDoor
