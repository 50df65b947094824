/- the document's WriteImage: whatever code it is handed. -/
import Derived.Test.YtalfelkblbbmpaaDoorIh
import Derived.Test.YtalfelkblbbmpaaDoorNj
import Derived.Test.YtalfelkblbbmpaaDoorIg
import Derived.Deep.Cut
import Derived.Deep.RegionHeld3
namespace Go.Proofs.YtalfelkblbbmpaaDoor
open Go.RowKit
namespace Ix
open Nx

/-- while the document writes -/
structure RS (w W : World) (cs : Array Value) (b : Nat) (l : List UInt8) : Prop where
  box : W.heap[w.heap.size]? = some (.cells cs 26 (0, 0))
  rc : W.heap[w.heap.size + 1]? = some (.cells #[.int .i64 0, .int .i64 0] 30 (0, 0))
  bld : Bld W b l
  lb : w.heap.size + 1 < b
  sz : b < W.heap.size
  below : Below w.heap.size w W
theorem RS.moved {w W W' : World} {cs : Array Value} {b : Nat} {l l' : List UInt8} (h : RS w W cs b l) (hb : Below b W W') (hl : Bld W' b l') : RS w W' cs b l' := by
  have := h.lb
  refine ⟨by rw [hb.block _ (by omega)]; exact h.box, by rw [hb.block _ (by omega)]; exact h.rc, hl, h.lb, Nat.lt_of_lt_of_le h.sz hb.size, h.below.trans (hb.mono (by omega))⟩
theorem RS.more {w W W' : World} {cs : Array Value} {b : Nat} {l : List UInt8} (h : RS w W cs b l) (hb : Below W.heap.size W W') : RS w W' cs b l :=
  h.moved (hb.mono (Nat.le_of_lt h.sz)) (h.bld.below hb)

theorem resultsW (tmps : Array Value) (W : World) (e : Nat) (fe : Array Value) (s : Value) (hse : fe.size = 2) (ht : tmps[2]?.getD undef = s) (hq : tmps[3]?.getD undef = .pointer (some ⟨e, 0, none⟩)) (he : W.heap[e]? = some (.cells fe 30 (0, 0))) :
    (results Tryd.f6 tmps).run Tryd.prog W = .ok (.tuple #[s, .agg fe]) W := by
  simp [results, Tryd.results6, ht, hq, asAddr, loadFault hse he]
theorem rs_start {w w1 : World} {cs : Array Value} (o : Obj) (hb : Below w.heap.size w w1) (hbox : w1.heap[w.heap.size]? = some (.cells cs 26 (0, 0))) (hrc : w1.heap[w.heap.size + 1]? = some (.cells #[.int .i64 0, .int .i64 0] 30 (0, 0))) :
    RS w ((w1.alloc o).alloc (.cells #[.pointer none, .slice none 0 0] 48)) cs (w1.heap.size + 1) [] := by
  have h1 := lt_of_block hrc
  have hs := hb.size
  have s1 : (w1.alloc o).heap.size = w1.heap.size + 1 := by simp
  have hbn := bld_new (w1.alloc o)
  rw [s1] at hbn
  refine ⟨?_, ?_, hbn, by omega, by simp, (hb.alloc hs _).alloc (by rw [s1]; omega) _⟩
  · rw [Below.heap_alloc _ _ _ (by rw [s1]; omega), Below.heap_alloc _ _ _ (by omega)]; exact hbox
  · rw [Below.heap_alloc _ _ _ (by rw [s1]; omega), Below.heap_alloc _ _ _ (by omega)]; exact hrc
theorem RS.reads {w W : World} {x0 x1 x2 x3 x4 x5 x6 : Value} {b : Nat} {l : List UInt8} (h : RS w W #[x0, x1, x2, x3, x4, x5, x6] b l) :
    W.cell? ⟨w.heap.size, 0, none⟩ = some x0 ∧ W.cell? ⟨w.heap.size, 1, none⟩ = some x1 ∧ W.cell? ⟨w.heap.size, 2, none⟩ = some x2 ∧ W.cell? ⟨w.heap.size, 3, none⟩ = some x3 ∧ W.cell? ⟨w.heap.size, 4, none⟩ = some x4 ∧ W.cell? ⟨w.heap.size, 5, none⟩ = some x5 ∧ W.cell? ⟨w.heap.size, 6, none⟩ = some x6 :=
  ⟨(cel h.box 0 _ rfl).1, (cel h.box 1 _ rfl).1, (cel h.box 2 _ rfl).1, (cel h.box 3 _ rfl).1, (cel h.box 4 _ rfl).1, (cel h.box 5 _ rfl).1, (cel h.box 6 _ rfl).1⟩
/-- a list -/
theorem rs_ints {w W : World} {cs : Array Value} {b : Nat} {l : List UInt8} (h : RS w W cs b l) {B : Nat} (hB : B ≤ w.heap.size) {vz : Value} {zs : List Int} (hz : Ints (fun c => c < B) w vz zs) : Ints (fun c => c < b) W vz zs :=
  hz.carry fun c hc _ => ⟨by have := h.lb; omega, h.below.block c (Nat.lt_of_lt_of_le hc hB)⟩
theorem rs_big {w W : World} {cs : Array Value} {b : Nat} {l : List UInt8} (h : RS w W cs b l) {B : Nat} (hB : B ≤ w.heap.size) (vz : Value) (zs : List Int) (hz : Ints (fun c => c < B) w vz zs) (hl : l.length ≤ 1000000) (hn : zs.length ≤ 4000) (h64 : N64 zs) :
    Calls Tryd.prog 15 #[vz, .pointer (some ⟨b, 0, none⟩)] W fun e W' => e = .returned (.tuple #[]) ∧ Hid (RS w W' cs b (l ++ pl zs)) :=
  (big_any b l vz zs W h.bld (Nat.le_of_lt h.sz) hl hn (rs_ints h hB hz) h64).mono fun _ _ ⟨he, X⟩ => ⟨he, h.moved X.out.2 X.out.1⟩
theorem rs_small {w W : World} {cs : Array Value} {b : Nat} {l : List UInt8} (h : RS w W cs b l) {B : Nat} (hB : B ≤ w.heap.size) (vz : Value) (zs : List Int) (hz : Ints (fun c => c < B) w vz zs) (hl : l.length ≤ 1000000) (hn : zs.length ≤ 4000) (h64 : N64 zs) :
    Calls Tryd.prog 16 #[vz, .pointer (some ⟨b, 0, none⟩)] W fun e W' => e = .returned (.tuple #[]) ∧ Hid (RS w W' cs b (l ++ pl zs)) :=
  (small_any b l vz zs W h.bld (Nat.le_of_lt h.sz) hl hn (rs_ints h hB hz) h64).mono fun _ _ ⟨he, X⟩ => ⟨he, h.moved X.out.2 X.out.1⟩
/-- while a step is written: what is neither the builder nor bytes is as it was -/
structure RT (w W : World) (cs : Array Value) (b : Nat) (l : List UInt8) (K : List (Nat × Obj)) : Prop where
  rs : RS w W cs b l
  kept : ∀ p ∈ K, W.heap[p.1]? = some p.2 ∧ p.1 ≠ b ∧ ∀ c fz, p.2 ≠ .cells c 5 fz
theorem RT.more {w W W' : World} {cs : Array Value} {b : Nat} {l : List UInt8} {K : List (Nat × Obj)} (h : RT w W cs b l K) (hb : Below W.heap.size W W') : RT w W' cs b l K :=
  ⟨h.rs.more hb, fun p hp => ⟨by rw [hb.block _ (lt_of_block (h.kept p hp).1)]; exact (h.kept p hp).1, (h.kept p hp).2⟩⟩
theorem RT.moved {w W W' : World} {cs : Array Value} {b : Nat} {l l' : List UInt8} {K : List (Nat × Obj)} (h : RT w W cs b l K) (hb : Below b W W') (hl : Bld W' b l') (ho : Lib.OthersKept 5 (some b) W W') : RT w W' cs b l' K :=
  ⟨h.rs.moved hb hl, fun p hp => ⟨ho p.1 p.2 (h.kept p hp).1 (fun e => (h.kept p hp).2.1 (by injection e)) (h.kept p hp).2.2, (h.kept p hp).2⟩⟩
theorem RT.also {w W : World} {cs : Array Value} {b : Nat} {l : List UInt8} {K : List (Nat × Obj)} (h : RT w W cs b l K) (g : Nat) (o : Obj) (hg : W.heap[g]? = some o) (hne : g ≠ b) (ho : ∀ c fz, o ≠ .cells c 5 fz) : RT w W cs b l ((g, o) :: K) :=
  ⟨h.rs, fun p hp => by
    rcases List.mem_cons.1 hp with rfl | hp
    · exact ⟨hg, hne, ho⟩
    · exact h.kept p hp⟩
theorem rt_pw {w W : World} {cs : Array Value} {b : Nat} {l : List UInt8} {K : List (Nat × Obj)} (h : RT w W cs b l K) (z : Int) (hl : l.length ≤ 1000000000) (h1 : -9223372036854775808 ≤ z) (h2 : z ≤ 9223372036854775807) :
    Calls Tryd.prog 14 #[.int .i64 z] W fun e W1 => e = .returned (.string (str (P8 z))) ∧ Calls Tryd.prog 13 #[.pointer (some ⟨b, 0, none⟩), .string (str (P8 z))] W1 fun e W2 => ∃ x, e = .returned x ∧ Hid (RT w W2 cs b (l ++ P8 z) K) :=
  (pw_any b l z W h.rs.bld hl (Nat.le_of_lt h.rs.sz) h1 h2).mono fun _ _ ⟨he, hd⟩ => ⟨he, hd.mono fun _ _ ⟨x, he, X⟩ => ⟨x, he, h.moved X.out.2.1 X.out.1 X.out.2.2⟩⟩
/-- two numbers, and then both behind what was written -/
theorem rt_pp {w W : World} {cs : Array Value} {b : Nat} {l : List UInt8} {K : List (Nat × Obj)} (h : RT w W cs b l K) (y z : Int) (hl : l.length ≤ 1000000000) (y1 : -9223372036854775808 ≤ y) (y2 : y ≤ 9223372036854775807) (h1 : -9223372036854775808 ≤ z) (h2 : z ≤ 9223372036854775807) :
    Calls Tryd.prog 14 #[.int .i64 y] W fun e W1 => e = .returned (.string (str (P8 y))) ∧ Hid (RT w W1 cs b l K) ∧ Calls Tryd.prog 14 #[.int .i64 z] W1 fun e W2 => e = .returned (.string (str (P8 z))) ∧ Hid (RT w W2 cs b l K) ∧ Calls Tryd.prog 13 #[.pointer (some ⟨b, 0, none⟩), .string (str (P8 y) ++ str (P8 z))] W2 fun e W3 => ∃ x, e = .returned x ∧ Hid (RT w W3 cs b (l ++ (P8 y ++ P8 z)) K) := by
  refine (putR_any y W y1 y2).mono fun e W1 ⟨he, hb1⟩ => ⟨he, h.more hb1, ?_⟩
  refine (putR_any z W1 h1 h2).mono fun e W2 ⟨he, hb2⟩ => ⟨he, (h.more hb1).more hb2, ?_⟩
  have h' := (h.more hb1).more hb2
  have t1 := P8_ten y1 y2
  have t2 := P8_ten h1 h2
  rw [str_app]
  refine (ws_any b l (str (P8 y ++ P8 z)) W2 h'.rs.bld (by rw [str_size, List.length_append]; omega) (Nat.le_of_lt h'.rs.sz)).mono fun e W3 ⟨he, x1, x2, x3⟩ => ⟨_, he, h'.moved x2 x1 x3⟩
theorem ps_num (s : Sp) (h : s.code = 1) : ps s = P8 s.code ++ P8 s.dst ++ P8 s.a := by
  have e : nAsk s.code = 1 := by rw [h]; rfl
  unfold ps toldS
  rw [e]
  simp
theorem ps_else (s : Sp) (h : s.code ≠ 1) : ps s = P8 s.code ++ P8 s.dst ++ (asks s).flatMap P8 := by
  unfold ps toldS
  rw [asks_take s h]
  simp

theorem rt_drew {w W : World} {cs : Array Value} {b : Nat} {l : List UInt8} {K : List (Nat × Obj)} (h : RT w W cs b l K) : RT w W.drew cs b l K := h.more ⟨rfl, rfl, rfl, Nat.le_refl _, fun _ _ => rfl⟩
theorem rt_step {w W : World} {cs : Array Value} {b : Nat} {l : List UInt8} {K : List (Nat × Obj)} {sb : Nat} {code dst a c2 c3 : Int} (h : RT w W cs b l K) (hm : (sb, Obj.cells #[.int .i64 code, .int .i64 dst, .int .i64 a, .int .i64 c2, .int .i64 c3] 55 (0, 0)) ∈ K) :
    W.cell? ⟨sb, 0, none⟩ = some (.int .i64 code) ∧ W.cell? ⟨sb, 1, none⟩ = some (.int .i64 dst) ∧ W.cell? ⟨sb, 2, none⟩ = some (.int .i64 a) ∧ W.cell? ⟨sb, 3, none⟩ = some (.int .i64 c2) ∧ W.cell? ⟨sb, 4, none⟩ = some (.int .i64 c3) := by
  have hb := (h.kept _ hm).1
  exact ⟨(cel hb 0 _ rfl).1, (cel hb 1 _ rfl).1, (cel hb 2 _ rfl).1, (cel hb 3 _ rfl).1, (cel hb 4 _ rfl).1⟩
/-- what the step asks, in a block of its own -/
theorem rt_asks {w W : World} {cs : Array Value} {b : Nat} {l : List UInt8} {K : List (Nat × Obj)} (h : RT w W cs b l K) (code dst a c2 c3 : Int) :
    Calls Tryd.prog 17 #[.agg #[.int .i64 code, .int .i64 dst, .int .i64 a, .int .i64 c2, .int .i64 c3]] W fun e W' => ∃ ad cap g, e = .returned (.slice ad (asks ⟨code, dst, a, c2, c3⟩).length cap) ∧ Hid ((0 < (asks ⟨code, dst, a, c2, c3⟩).length → ad = some ⟨g, 0, none⟩) ∧ ∃ K2, RT w W' cs b l K2 ∧ (0 < (asks ⟨code, dst, a, c2, c3⟩).length → (g, Obj.cells ((asks ⟨code, dst, a, c2, c3⟩).map (Value.int .i64)).toArray 3 (0, 0)) ∈ K2)) :=
  (asksT_any code dst a c2 c3 W).mono fun e W' ⟨v, he, hi, hb⟩ => by
    have h' := h.more hb
    rcases hi with ⟨hn, rfl⟩ | ⟨g, cap, rfl, hg, hgb⟩
    · exact ⟨none, 0, 0, by rw [he, hn]; rfl, fun hp => by rw [hn] at hp; exact absurd hp (by simp), K, h', fun hp => by rw [hn] at hp; exact absurd hp (by simp)⟩
    · refine ⟨_, cap, g, he, fun _ => rfl, _, h'.also g _ hgb (by have := h.rs.sz; omega) (fun c fz e => ?_), fun _ => List.mem_cons_self⟩
      injection e with _ e _
      exact absurd e (by decide)
theorem rt_asked {w W : World} {cs : Array Value} {b : Nat} {l : List UInt8} {K : List (Nat × Obj)} {g : Nat} {zs : List Int} (h : RT w W cs b l K) (hm : (g, Obj.cells (zs.map (Value.int .i64)).toArray 3 (0, 0)) ∈ K) (j : Nat) (hj : j < zs.length) : W.cell? ⟨g, 0 + j, none⟩ = some (.int .i64 (zs.getD j 0)) := by
  rw [Nat.zero_add, cell_of_row _ _ _ _ _ _ (h.kept _ hm).1, List.getElem?_toArray, List.getElem?_map, List.getD_eq_getElem?_getD, List.getElem?_eq_getElem hj]
  rfl

set_option maxHeartbeats 4000000 in
theorem writeR_ok (B : Nat) (n : Nt) (w : World) (vF vI vO vK vN vC : Value) (h : NetV B w n vF vI vO vK vN vC) (hcap : ∃ ad cap, vI = .slice ad n.ins.length cap ∧ n.ins.length ≤ cap) (hB : B ≤ w.heap.size) (hs : Small n) (hok : check n = (0, -1)) (hf : N64 n.first) (hm : N64 n.nums) (hFine : w.cell? ⟨0, 0, none⟩ = some (.int .i64 0) ∧ w.cell? ⟨0, 1, none⟩ = some (.int .i64 (-1))) :
    Calls Tryd.prog 6 #[.agg #[.int .i64 n.places, vF, vI, vO, vK, vN, vC]] w fun e w' => e = .returned (.tuple #[.string (str (writeN n)), .agg #[.int .i64 0, .int .i64 (-1)]]) ∧ Below w.heap.size w w' := by
  have hck : Calls Tryd.prog 12 #[.agg #[.int .i64 n.places, vF, vI, vO, vK, vN, vC]] ((w.alloc (.cells #[.int .i64 n.places, vF, vI, vO, vK, vN, vC] 26)).alloc (.cells #[.int .i64 0, .int .i64 0] 30)) fun e w' => e = .returned (.agg #[.int .i64 0, .int .i64 (-1)]) ∧ Hid (Below w.heap.size w w' ∧ w'.heap[w.heap.size]? = some (.cells #[.int .i64 n.places, vF, vI, vO, vK, vN, vC] 26 (0, 0)) ∧ w'.heap[w.heap.size + 1]? = some (.cells #[.int .i64 0, .int .i64 0] 30 (0, 0))) ∧ w'.cell? ⟨0, 0, none⟩ = some (.int .i64 0) ∧ w'.cell? ⟨0, 1, none⟩ = some (.int .i64 (-1)) := by
    have b2 : Below w.heap.size w ((w.alloc (.cells #[.int .i64 n.places, vF, vI, vO, vK, vN, vC] 26)).alloc (.cells #[.int .i64 0, .int .i64 0] 30)) := below_alloc1 (grown_one w _) _
    refine (cn_any B n _ vF vI vO vK vN vC (h.below (b2.mono hB) (Nat.le_refl _)) hcap hs ⟨cell_below b2 hFine.1, cell_below b2 hFine.2⟩).mono fun e w' ⟨he, hb⟩ => ?_
    have b3 := ball b2 hb
    refine ⟨by rw [he, hok]; rfl, ⟨b3, ?_, ?_⟩, cell_below b3 hFine.1, cell_below b3 hFine.2⟩
    · rw [hb.block _ (by simp; omega), Below.heap_alloc _ _ _ (by simp)]; exact heap_alloc_new w _
    · rw [hb.block _ (by simp)]; exact new2 _ _ _
  have H : Hid (NetV B w n vF vI vO vK vN vC ∧ Small n ∧ check n = (0, -1) ∧ N64 n.first ∧ N64 n.nums ∧ w.cell? ⟨0, 0, none⟩ = some (.int .i64 0) ∧ w.cell? ⟨0, 1, none⟩ = some (.int .i64 (-1))) := ⟨h, hs, hok, hf, hm, hFine⟩
  obtain ⟨adC, bC, offC, capC, rfl, hC1, hC2⟩ := h.c
  have HC : Hid ((0 < n.code.length → adC = some ⟨bC, offC, none⟩ ∧ bC < B) ∧ _) := ⟨hC1, hC2⟩
  have hcl := hs.c
  clear h hs hok hf hm hC1 hC2 hFine hcap
  go_enter Tryd.func6, Tryd.ntmps6
  go_upto_region 5 with (go_at_call 12; refine hck.mono ?_; rintro e w1 ⟨rfl, X, g0, g1⟩; have y0 := cell_below (grown_one w1 (.cells #[.int .i64 0, .int .i64 (-1)] 30)) g0; have y1 := cell_below (grown_one w1 (.cells #[.int .i64 0, .int .i64 (-1)] 30)) g1; clear hck g0 g1)
  have X2 := rs_start (.cells #[.int .i64 0, .int .i64 (-1)] 30) X.out.1 X.out.2.1 X.out.2.2
  revert X2
  generalize (w1.alloc (.cells #[.int .i64 0, .int .i64 (-1)] 30)).alloc (.cells #[.pointer none, .slice none 0 0] 48) = W0
  generalize w1.heap.size + 1 = b
  intro X2
  have S : Hid (RS w W0 #[.int .i64 n.places, vF, vI, vO, vK, vN, .slice adC n.code.length capC] b []) := X2
  clear X X2 y0 y1
  obtain ⟨hN, hSm, hok, hf64, hm64, _⟩ := id H.out
  obtain ⟨hfl, ⟨hp0, hp1⟩, hi64, ho64, hk64⟩ := check_lists hok hSm
  have hss := hSm.s
  have hmm := hSm.m
  have Li : (pl n.ins).length ≤ 40010 := pl_le (fun z hz => by have := hi64 z hz; omega) (by omega)
  have Lo : (pl n.outs).length ≤ 40010 := pl_le (fun z hz => by have := ho64 z hz; omega) (by omega)
  have Lk : (pl n.keeps).length ≤ 40010 := pl_le (fun z hz => by have := hk64 z hz; omega) (by omega)
  have Lf : (pl n.first).length ≤ 40010 := pl_le hf64 hfl
  have Lm : (pl n.nums).length ≤ 40010 := pl_le hm64 hmm
  have Lp : (P8 n.places).length ≤ 10 := P8_ten (by omega) (by omega)
  have Lc : (P8 n.code.length).length ≤ 10 := P8_ten (by omega) (by omega)
  have G : Hid ((∀ z ∈ n.ins, 0 ≤ z ∧ z ≤ 4000) ∧ (∀ z ∈ n.outs, 0 ≤ z ∧ z ≤ 4000) ∧ (∀ z ∈ n.keeps, 0 ≤ z ∧ z ≤ 4000) ∧ n.first.length ≤ 4000 ∧ (0 ≤ n.places ∧ n.places ≤ 4000) ∧ n.ins.length + n.outs.length + n.keeps.length ≤ 4000 ∧ n.nums.length ≤ 4000) := ⟨hi64, ho64, hk64, hfl, ⟨hp0, hp1⟩, hss, hmm⟩
  have LL : Hid ((pl n.ins).length ≤ 40010 ∧ (pl n.outs).length ≤ 40010 ∧ (pl n.keeps).length ≤ 40010 ∧ (pl n.first).length ≤ 40010 ∧ (pl n.nums).length ≤ 40010 ∧ (P8 n.places).length ≤ 10 ∧ (P8 n.code.length).length ≤ 10) := ⟨Li, Lo, Lk, Lf, Lm, Lp, Lc⟩
  have hc0 : Calls Tryd.prog 14 #[.int .i64 n.places] W0 fun e W1 => ∃ S1 : ByteArray, e = .returned (.string S1) ∧ S1.size ≤ 10 ∧ Calls Tryd.prog 13 #[.pointer (some ⟨b, 0, none⟩), .string ((⟨#[67, 76, 80, 49]⟩ : ByteArray) ++ S1)] W1 fun e W2 => ∃ x, e = .returned x ∧ Hid (RS w W2 #[.int .i64 n.places, vF, vI, vO, vK, vN, .slice adC n.code.length capC] b ([67, 76, 80, 49] ++ P8 n.places)) := by
    refine (putR_any n.places W0 (by omega) (by omega)).mono fun e W1 ⟨he, hb1⟩ => ⟨_, he, by rw [str_size]; exact Lp, ?_⟩
    have h' := S.out.more hb1
    have e4 : (⟨#[67, 76, 80, 49]⟩ : ByteArray) = str [67, 76, 80, 49] := rfl
    rw [e4, str_app]
    exact (ws_any b [] (str ([67, 76, 80, 49] ++ P8 n.places)) W1 h'.bld (by rw [str_size]; simp; omega) (Nat.le_of_lt h'.sz)).mono fun e W2 ⟨he, x1, x2, _⟩ => ⟨_, he, h'.moved x2 x1⟩
  clear hN hSm hok hf64 hm64 hfl hp0 hp1 hi64 ho64 hk64 hss hmm Li Lo Lk Lf Lm Lp Lc
  obtain ⟨r0, r1, r2, r3, r4, r5, r6⟩ := S.out.reads
  go_upto_region 6 with (first | (go_at_call 14; refine hc0.mono ?_; rintro e Wx ⟨S1, rfl, hS1, hd⟩; have hadd : ¬ 9223372036854775807 < (⟨#[67, 76, 80, 49]⟩ : ByteArray).size + S1.size := (by show ¬ 9223372036854775807 < 4 + S1.size; omega); clear hc0) | (go_at_call 13; refine hd.mono ?_; rintro e W1 ⟨x, rfl, S2⟩; clear hd))
  clear r0 r1 r2 r3 r4 r5 r6 S
  rename Hid (RS w W1 _ b _) => S
  obtain ⟨r0, r1, r2, r3, r4, r5, r6⟩ := S.out.reads
  have hc := rs_big S.out hB vF n.first H.out.1.f (by obtain ⟨a1, a2, a3, a4, a5, a6, a7⟩ := LL.out; simp <;> omega) G.out.2.2.2.1 H.out.2.2.2.1
  go_upto_region 9 with (go_at_call 15; refine hc.mono ?_; rintro e W2 ⟨rfl, S2⟩; clear hc)
  clear r0 r1 r2 r3 r4 r5 r6 S
  rename Hid (RS w W2 _ b _) => S
  obtain ⟨r0, r1, r2, r3, r4, r5, r6⟩ := S.out.reads
  have hc := rs_small S.out hB vI n.ins H.out.1.i (by obtain ⟨a1, a2, a3, a4, a5, a6, a7⟩ := LL.out; simp <;> omega) (by have := G.out.2.2.2.2.2.1; omega) (fun z hz => by have := G.out.1 z hz; omega)
  go_upto_region 10 with (go_at_call 16; refine hc.mono ?_; rintro e W3 ⟨rfl, S2⟩; clear hc)
  clear r0 r1 r2 r3 r4 r5 r6 S
  rename Hid (RS w W3 _ b _) => S
  obtain ⟨r0, r1, r2, r3, r4, r5, r6⟩ := S.out.reads
  have hc := rs_small S.out hB vO n.outs H.out.1.o (by obtain ⟨a1, a2, a3, a4, a5, a6, a7⟩ := LL.out; simp <;> omega) (by have := G.out.2.2.2.2.2.1; omega) (fun z hz => by have := G.out.2.1 z hz; omega)
  go_upto_region 11 with (go_at_call 16; refine hc.mono ?_; rintro e W4 ⟨rfl, S2⟩; clear hc)
  clear r0 r1 r2 r3 r4 r5 r6 S
  rename Hid (RS w W4 _ b _) => S
  obtain ⟨r0, r1, r2, r3, r4, r5, r6⟩ := S.out.reads
  have hc := rs_small S.out hB vK n.keeps H.out.1.k (by obtain ⟨a1, a2, a3, a4, a5, a6, a7⟩ := LL.out; simp <;> omega) (by have := G.out.2.2.2.2.2.1; omega) (fun z hz => by have := G.out.2.2.1 z hz; omega)
  go_upto_region 12 with (go_at_call 16; refine hc.mono ?_; rintro e W5 ⟨rfl, S2⟩; clear hc)
  clear r0 r1 r2 r3 r4 r5 r6 S
  rename Hid (RS w W5 _ b _) => S
  obtain ⟨r0, r1, r2, r3, r4, r5, r6⟩ := S.out.reads
  have hc := rs_big S.out hB vN n.nums H.out.1.m (by obtain ⟨a1, a2, a3, a4, a5, a6, a7⟩ := LL.out; simp <;> omega) G.out.2.2.2.2.2.2 H.out.2.2.2.2.1
  go_upto_region 13 with (go_at_call 15; refine hc.mono ?_; rintro e W6 ⟨rfl, S2⟩; clear hc)
  clear r0 r1 r2 r3 r4 r5 r6 S
  rename Hid (RS w W6 _ b _) => S
  obtain ⟨r0, r1, r2, r3, r4, r5, r6⟩ := S.out.reads
  have hc := rt_pw (K := []) ⟨S.out, fun p hp => by cases hp⟩ n.code.length (by obtain ⟨a1, a2, a3, a4, a5, a6, a7⟩ := LL.out; simp <;> omega) (by omega) (by omega)
  obtain ⟨S1, hS1⟩ : ∃ S, Hid (S = str (P8 n.code.length)) := ⟨_, rfl⟩
  rw [← hS1.out] at hc
  go_upto_region 14 with (first | (go_at_call 14; refine hc.mono ?_; rintro e Wx ⟨rfl, hd⟩; clear hc) | (go_at_call 13; refine hd.mono ?_; rintro e W7 ⟨x, rfl, S2⟩; clear hd))
  have S3 : Hid (RS w W7 #[.int .i64 n.places, vF, vI, vO, vK, vN, .slice adC n.code.length capC] b ([67, 76, 80, 49] ++ P8 n.places ++ pl n.first ++ pl n.ins ++ pl n.outs ++ pl n.keeps ++ pl n.nums ++ P8 n.code.length)) := S2.out.rs
  clear r0 r1 r2 r3 r4 r5 r6 S S2
  obtain ⟨r0, r1, r2, r3, r4, r5, r6⟩ := S3.out.reads
  go_upto_region 15 with fail
  clear r0 r1 r2 r3 r4 r5 r6
  go_loopw [53] (fun i wr => ∃ k : Nat, k ≤ n.code.length ∧ i = .int .i64 k ∧ Hid (RS w wr #[.int .i64 n.places, vF, vI, vO, vK, vN, .slice adC n.code.length capC] b (([67, 76, 80, 49] ++ P8 n.places ++ pl n.first ++ pl n.ins ++ pl n.outs ++ pl n.keeps ++ pl n.nums ++ P8 n.code.length) ++ (n.code.take k).flatMap ps))) (fun i _ => n.code.length - (intOf i).toNat)
  case atStart => exact ⟨0, Nat.zero_le _, rfl, by rw [List.take_zero, List.flatMap_nil, List.append_nil]; exact S3.out⟩
  case round =>
    clear S3
    obtain ⟨k, hk, rfl, S0⟩ := hrel
    obtain ⟨L, hL0⟩ : ∃ L, L = ([67, 76, 80, 49] ++ P8 n.places ++ pl n.first ++ pl n.ins ++ pl n.outs ++ pl n.keeps ++ pl n.nums ++ P8 n.code.length) ++ (n.code.take k).flatMap ps := ⟨_, rfl⟩
    have hL : Hid (L = ([67, 76, 80, 49] ++ P8 n.places ++ pl n.first ++ pl n.ins ++ pl n.outs ++ pl n.keeps ++ pl n.nums ++ P8 n.code.length) ++ (n.code.take k).flatMap ps) := hL0
    clear hL0
    have S : Hid (RS w wr #[.int .i64 n.places, vF, vI, vO, vK, vN, .slice adC n.code.length capC] b L) := by rw [hL.out]; exact S0
    clear S0
    by_cases hlt : k < n.code.length
    · have hix := ix24 adC bC offC n.code.length capC k hlt (fun h => (HC.out.1 h).1)
      obtain ⟨s, hsx⟩ : ∃ s, Hid (s = n.code.getD k sp0) := ⟨_, rfl⟩
      obtain ⟨x0, x1, x2, x3, x4⟩ := HC.out.2 k hlt
      rw [← hsx.out] at x0 x1 x2 x3 x4
      have hbb : wr.heap[bC]? = w.heap[bC]? := S.out.below.block bC (by have := (HC.out.1 (by omega)).2; omega)
      rw [← cell_of_block hbb] at x0 x1 x2 x3 x4
      clear hbb
      obtain ⟨code, dst, a, c2, c3⟩ := s
      simp only at x0 x1 x2 x3 x4
      go_upto_region 17 with fail
      have hnk : n.code[k]? = some ⟨code, dst, a, c2, c3⟩ := by
        have := hsx.out
        rw [List.getD_eq_getElem?_getD, List.getElem?_eq_getElem hlt] at this
        rw [List.getElem?_eq_getElem hlt, this]; rfl
      have htold : ∀ z ∈ toldS ⟨code, dst, a, c2, c3⟩, 0 ≤ z ∧ z ≤ 4000 := check_told H.out.2.2.1 H.out.2.1 _ (List.mem_of_getElem? hnk)
      have hLk : L.length ≤ 500000 := by
        have := codes_len (l := n.code.take k) fun s hs => check_told H.out.2.2.1 H.out.2.1 s (List.mem_of_mem_take hs)
        have h2 : (n.code.take k).length ≤ n.code.length := by simp; omega
        obtain ⟨a1, a2, a3, a4, a5, a6, a7⟩ := LL.out
        rw [hL.out]
        simp only [List.length_append, List.length_cons, List.length_nil]
        omega
      have HM : Hid (n.code[k]? = some ⟨code, dst, a, c2, c3⟩ ∧ (∀ z ∈ toldS ⟨code, dst, a, c2, c3⟩, 0 ≤ z ∧ z ≤ 4000) ∧ L.length ≤ 500000) := ⟨hnk, htold, hLk⟩
      have T0 : RT w (wr.alloc (.cells #[.int .i64 code, .int .i64 dst, .int .i64 a, .int .i64 c2, .int .i64 c3] 55)) #[.int .i64 n.places, vF, vI, vO, vK, vN, .slice adC n.code.length capC] b L [(wr.heap.size, (.cells #[.int .i64 code, .int .i64 dst, .int .i64 a, .int .i64 c2, .int .i64 c3] 55 (0, 0)))] := RT.also (K := []) ⟨S.out.more (grown_one wr _), fun p hp => by cases hp⟩ wr.heap.size _ (heap_alloc_new wr _) (by have := S.out.sz; omega) (fun c fz e => by injection e with _ e _; exact absurd e (by decide))
      revert T0
      generalize wr.alloc (.cells #[.int .i64 code, .int .i64 dst, .int .i64 a, .int .i64 c2, .int .i64 c3] 55) = Wq
      generalize wr.heap.size = sb
      intro T0
      have hcd : (-9223372036854775808 ≤ code ∧ code ≤ 9223372036854775807) ∧ (-9223372036854775808 ≤ dst ∧ dst ≤ 9223372036854775807) := by
        have h1 := htold code (by unfold toldS; exact List.mem_cons_self)
        have h2 := htold dst (by unfold toldS; exact List.mem_cons_of_mem _ List.mem_cons_self)
        omega
      have hc := rt_pp (rt_drew T0) code dst (by omega) hcd.1.1 hcd.1.2 hcd.2.1 hcd.2.2
      obtain ⟨S1, hS1⟩ : ∃ S, Hid (S = str (P8 code)) := ⟨_, rfl⟩
      obtain ⟨S2, hS2⟩ : ∃ S, Hid (S = str (P8 dst)) := ⟨_, rfl⟩
      rw [← hS1.out, ← hS2.out] at hc
      have hadd : ¬ 9223372036854775807 < S1.size + S2.size := by
        have t1 := P8_ten hcd.1.1 hcd.1.2
        have t2 := P8_ten hcd.2.1 hcd.2.2
        rw [hS1.out, hS2.out, str_size, str_size]
        omega
      obtain ⟨k0, k1, k2, k3, k4⟩ := rt_step T0 List.mem_cons_self
      have h10 := P8_ten hcd.1.1 hcd.1.2
      have h11 := P8_ten hcd.2.1 hcd.2.2
      have HP : Hid ((P8 code).length ≤ 10 ∧ (P8 dst).length ≤ 10) := ⟨h10, h11⟩
      clear T0 hcd hnk htold hLk S hsx x0 x1 x2 x3 x4 hix h10 h11
      go_region_held3 (fun w' => w'.cell? ⟨sb, 0, none⟩ = some (.int .i64 code) ∧ w'.cell? ⟨sb, 1, none⟩ = some (.int .i64 dst)) (first | exact hS5 | exact hS4 | exact hS3 | exact ⟨k0, k1⟩ | go_keep)
        ((first | (go_at_call 14; refine hc.mono ?_; rintro e W1 ⟨rfl, T1, hd⟩; have hS3 : W1.cell? ⟨sb, 0, none⟩ = some (.int .i64 code) ∧ W1.cell? ⟨sb, 1, none⟩ = some (.int .i64 dst) := (by obtain ⟨k0, k1, _⟩ := rt_step T1.out List.mem_cons_self; exact ⟨k0, k1⟩); clear hc) | (go_at_call 14; refine hd.mono ?_; rintro e W2 ⟨rfl, T2, hf⟩; have hS4 : W2.cell? ⟨sb, 0, none⟩ = some (.int .i64 code) ∧ W2.cell? ⟨sb, 1, none⟩ = some (.int .i64 dst) := (by obtain ⟨k0, k1, _⟩ := rt_step T2.out List.mem_cons_self; exact ⟨k0, k1⟩); clear hd) | (go_at_call 13; refine hf.mono ?_; rintro e W3 ⟨x3, rfl, T3⟩; have hS5 : W3.cell? ⟨sb, 0, none⟩ = some (.int .i64 code) ∧ W3.cell? ⟨sb, 1, none⟩ = some (.int .i64 dst) := (by obtain ⟨k0, k1, _⟩ := rt_step T3.out List.mem_cons_self; exact ⟨k0, k1⟩); clear hf)))
      all_goals
        clear k0 k1 k2 k3 k4
        go_upto_region 18 with fail
        have HL3 : Hid ((L ++ (P8 code ++ P8 dst)).length ≤ 500020) := by
          have h1 := HM.out.2.2
          have h2 := HP.out
          have : (L ++ (P8 code ++ P8 dst)).length ≤ 500020 := by simp only [List.length_append]; omega
          exact this
        obtain ⟨k0, k1, k2, k3, k4⟩ := rt_step T3.out List.mem_cons_self
        by_cases h1 : code = 1
        · have h1' : (code == 1) = true := by simpa using h1
          have ha64 : 0 ≤ a ∧ a ≤ 4000 := HM.out.2.1 a (by unfold toldS; simp only [show nAsk code = 1 by rw [h1]; rfl]; simp)
          have hc := rt_pw T3.out a (by have := HL3.out; omega) (by omega) (by omega)
          obtain ⟨S3, hS3⟩ : ∃ S, Hid (S = str (P8 a)) := ⟨_, rfl⟩
          rw [← hS3.out] at hc
          have HL4 : Hid (L ++ (P8 code ++ P8 dst) ++ P8 a = L ++ (P8 code ++ P8 dst) ++ P8 a ∧ (L ++ (P8 code ++ P8 dst) ++ P8 a).length ≤ 500030) := by
            have h1 := HL3.out
            have h2 := P8_ten (z := a) (by omega) (by omega)
            refine ⟨rfl, ?_⟩
            rw [List.length_append]
            omega
          have HC1 : Hid (code = 1) := h1
          clear ha64 h1
          go_upto_region 20 with (first | (go_at_call 14; refine hc.mono ?_; rintro e Wx ⟨rfl, hd⟩; clear hc) | (go_at_call 13; refine hd.mono ?_; rintro e W4 ⟨x4, rfl, T4⟩; clear hd))
          clear k0 k1 k2 k3 k4 T3
          obtain ⟨L4, hL4⟩ : ∃ L4, L4 = L ++ (P8 code ++ P8 dst) ++ P8 a := ⟨_, rfl⟩
          rw [← hL4] at T4
          have HL4 : Hid (L4 = L ++ (P8 code ++ P8 dst) ++ P8 a ∧ L4.length ≤ 500030) := ⟨hL4, by rw [hL4]; exact HL4.out.2⟩
          clear hL4
          have hask := rt_asks T4.out code dst a c2 c3
          obtain ⟨zs, hzs⟩ : ∃ zs, Hid (zs = asks ⟨code, dst, a, c2, c3⟩) := ⟨_, rfl⟩
          rw [← hzs.out] at hask
          have hzl : zs.length ≤ 3 := by rw [hzs.out]; unfold asks; split <;> (try split) <;> (try split) <;> simp
          have hz64 : ∀ z ∈ zs, 0 ≤ z ∧ z ≤ 4000 := fun z hz => by
            rw [hzs.out] at hz
            by_cases hh : code = 1
            · rw [asks_num _ hh] at hz; cases hz
            · rw [asks_take _ hh] at hz
              exact HM.out.2.1 z (by unfold toldS; exact List.mem_cons_of_mem _ (List.mem_cons_of_mem _ hz))
          have HZ : Hid (∀ z ∈ zs, 0 ≤ z ∧ z ≤ 4000) := hz64
          clear hz64
          obtain ⟨k0, k1, k2, k3, k4⟩ := rt_step T4.out List.mem_cons_self
          go_upto_region 21 with (go_at_call 17; refine hask.mono ?_; rintro e W5 ⟨ad, cap, g, rfl, U⟩; clear hask)
          clear k0 k1 k2 k3 k4 T4
          obtain ⟨had, K2, U1, U2⟩ := id U.out
          have HD : Hid ((0 < zs.length → ad = some ⟨g, 0, none⟩) ∧ (0 < zs.length → (g, Obj.cells (zs.map (Value.int .i64)).toArray 3 (0, 0)) ∈ K2)) := ⟨had, U2⟩
          have T5 : Hid (RT w W5 #[.int .i64 n.places, vF, vI, vO, vK, vN, .slice adC n.code.length capC] b L4 K2) := U1
          clear had U1 U2 U
          go_loopw [75] (fun i wy => ∃ j : Nat, j ≤ zs.length ∧ i = .int .i64 j ∧ Hid (RT w wy #[.int .i64 n.places, vF, vI, vO, vK, vN, .slice adC n.code.length capC] b (L4 ++ (zs.take j).flatMap P8) K2)) (fun i _ => zs.length - (intOf i).toNat)
          case atStart => exact ⟨0, Nat.zero_le _, rfl, by rw [List.take_zero, List.flatMap_nil, List.append_nil]; exact T5.out⟩
          case round =>
            clear T5
            rename World => wy
            obtain ⟨j, hj, rfl, T6⟩ := hrel
            by_cases hjm : j < zs.length
            · have hix := jx23 ad g 0 zs.length cap j hjm HD.out.1
              simp only [Nat.zero_add] at hix
              obtain ⟨x, hx⟩ : ∃ x, Hid (x = zs.getD j 0) := ⟨_, rfl⟩
              have cx := rt_asked T6.out (HD.out.2 (by omega)) j hjm
              rw [← hx.out, Nat.zero_add] at cx
              have hx64 : 0 ≤ x ∧ x ≤ 4000 := HZ.out x (by rw [hx.out, List.getD_eq_getElem?_getD, List.getElem?_eq_getElem hjm]; exact List.getElem_mem hjm)
              have hl2 : (L4 ++ (zs.take j).flatMap P8).length ≤ 1000000000 := by
                have h1 := pl_len (zs.take j) fun z hz => by have := HZ.out z (List.mem_of_mem_take hz); omega
                have h2 : (zs.take j).length ≤ j := by simp; omega
                have h3 := HL4.out.2
                rw [List.length_append]
                omega
              have hc := rt_pw T6.out x hl2 (by omega) (by omega)
              obtain ⟨S1, hS1⟩ : ∃ S, Hid (S = str (P8 x)) := ⟨_, rfl⟩
              rw [← hS1.out] at hc
              clear T6 hx64 hl2
              go_wp2_with (first | (go_at_call 14; refine hc.mono ?_; rintro e Wx ⟨rfl, hd⟩; clear hc) | (go_at_call 13; refine hd.mono ?_; rintro e W7 ⟨x7, rfl, T7⟩; clear hd))
              go_roundw
              case rel =>
                refine ⟨j + 1, by omega, by go_num, ?_⟩
                have e : (zs.take (j + 1)).flatMap P8 = (zs.take j).flatMap P8 ++ P8 x := by
                  rw [List.take_add_one, List.flatMap_append, hx.out, List.getD_eq_getElem?_getD, List.getElem?_eq_getElem hjm]
                  simp
                rw [e, ← List.append_assoc]
                exact T7.out
              case measure => simp [intOf]; omega
            · obtain rfl : j = zs.length := by omega
              go_wp2_with fail
              go_roundw
              case rel =>
                refine ⟨k + 1, by omega, by go_num, ?_⟩
                have e2 : (n.code.take (k + 1)).flatMap ps = (n.code.take k).flatMap ps ++ ps ⟨code, dst, a, c2, c3⟩ := by
                  rw [List.take_add_one, List.flatMap_append, HM.out.1]
                  simp
                have e3 : L4 ++ (zs.take zs.length).flatMap P8 = ([67, 76, 80, 49] ++ P8 n.places ++ pl n.first ++ pl n.ins ++ pl n.outs ++ pl n.keeps ++ pl n.nums ++ P8 n.code.length) ++ (n.code.take (k + 1)).flatMap ps := by
                  rw [List.take_length, e2, ← List.append_assoc, ← hL.out, HL4.out.1, hzs.out]
                  rw [ps_num _ HC1.out, asks_num _ HC1.out]
                  simp
                rw [← e3]
                exact T6.out.rs
              case measure => simp [intOf]; omega
        · have h1' : (code == 1) = false := by simpa using h1
          have HC1 : Hid (code ≠ 1) := h1
          clear h1
          go_upto_region 20 with fail
          clear k0 k1 k2 k3 k4
          obtain ⟨L4, hL4⟩ : ∃ L4, L4 = L ++ (P8 code ++ P8 dst) := ⟨_, rfl⟩
          rw [← hL4] at T3
          have HL4 : Hid (L4 = L ++ (P8 code ++ P8 dst) ∧ L4.length ≤ 500030) := ⟨hL4, by rw [hL4]; have := HL3.out; omega⟩
          clear hL4
          have T4 := T3
          clear T3
          have hask := rt_asks T4.out code dst a c2 c3
          obtain ⟨zs, hzs⟩ : ∃ zs, Hid (zs = asks ⟨code, dst, a, c2, c3⟩) := ⟨_, rfl⟩
          rw [← hzs.out] at hask
          have hzl : zs.length ≤ 3 := by rw [hzs.out]; unfold asks; split <;> (try split) <;> (try split) <;> simp
          have hz64 : ∀ z ∈ zs, 0 ≤ z ∧ z ≤ 4000 := fun z hz => by
            rw [hzs.out] at hz
            by_cases hh : code = 1
            · rw [asks_num _ hh] at hz; cases hz
            · rw [asks_take _ hh] at hz
              exact HM.out.2.1 z (by unfold toldS; exact List.mem_cons_of_mem _ (List.mem_cons_of_mem _ hz))
          have HZ : Hid (∀ z ∈ zs, 0 ≤ z ∧ z ≤ 4000) := hz64
          clear hz64
          obtain ⟨k0, k1, k2, k3, k4⟩ := rt_step T4.out List.mem_cons_self
          go_upto_region 21 with (go_at_call 17; refine hask.mono ?_; rintro e W5 ⟨ad, cap, g, rfl, U⟩; clear hask)
          clear k0 k1 k2 k3 k4 T4
          obtain ⟨had, K2, U1, U2⟩ := id U.out
          have HD : Hid ((0 < zs.length → ad = some ⟨g, 0, none⟩) ∧ (0 < zs.length → (g, Obj.cells (zs.map (Value.int .i64)).toArray 3 (0, 0)) ∈ K2)) := ⟨had, U2⟩
          have T5 : Hid (RT w W5 #[.int .i64 n.places, vF, vI, vO, vK, vN, .slice adC n.code.length capC] b L4 K2) := U1
          clear had U1 U2 U
          go_loopw [75] (fun i wy => ∃ j : Nat, j ≤ zs.length ∧ i = .int .i64 j ∧ Hid (RT w wy #[.int .i64 n.places, vF, vI, vO, vK, vN, .slice adC n.code.length capC] b (L4 ++ (zs.take j).flatMap P8) K2)) (fun i _ => zs.length - (intOf i).toNat)
          case atStart => exact ⟨0, Nat.zero_le _, rfl, by rw [List.take_zero, List.flatMap_nil, List.append_nil]; exact T5.out⟩
          case round =>
            clear T5
            rename World => wy
            obtain ⟨j, hj, rfl, T6⟩ := hrel
            by_cases hjm : j < zs.length
            · have hix := jx23 ad g 0 zs.length cap j hjm HD.out.1
              simp only [Nat.zero_add] at hix
              obtain ⟨x, hx⟩ : ∃ x, Hid (x = zs.getD j 0) := ⟨_, rfl⟩
              have cx := rt_asked T6.out (HD.out.2 (by omega)) j hjm
              rw [← hx.out, Nat.zero_add] at cx
              have hx64 : 0 ≤ x ∧ x ≤ 4000 := HZ.out x (by rw [hx.out, List.getD_eq_getElem?_getD, List.getElem?_eq_getElem hjm]; exact List.getElem_mem hjm)
              have hl2 : (L4 ++ (zs.take j).flatMap P8).length ≤ 1000000000 := by
                have h1 := pl_len (zs.take j) fun z hz => by have := HZ.out z (List.mem_of_mem_take hz); omega
                have h2 : (zs.take j).length ≤ j := by simp; omega
                have h3 := HL4.out.2
                rw [List.length_append]
                omega
              have hc := rt_pw T6.out x hl2 (by omega) (by omega)
              obtain ⟨S1, hS1⟩ : ∃ S, Hid (S = str (P8 x)) := ⟨_, rfl⟩
              rw [← hS1.out] at hc
              clear T6 hx64 hl2
              go_wp2_with (first | (go_at_call 14; refine hc.mono ?_; rintro e Wx ⟨rfl, hd⟩; clear hc) | (go_at_call 13; refine hd.mono ?_; rintro e W7 ⟨x7, rfl, T7⟩; clear hd))
              go_roundw
              case rel =>
                refine ⟨j + 1, by omega, by go_num, ?_⟩
                have e : (zs.take (j + 1)).flatMap P8 = (zs.take j).flatMap P8 ++ P8 x := by
                  rw [List.take_add_one, List.flatMap_append, hx.out, List.getD_eq_getElem?_getD, List.getElem?_eq_getElem hjm]
                  simp
                rw [e, ← List.append_assoc]
                exact T7.out
              case measure => simp [intOf]; omega
            · obtain rfl : j = zs.length := by omega
              go_wp2_with fail
              go_roundw
              case rel =>
                refine ⟨k + 1, by omega, by go_num, ?_⟩
                have e2 : (n.code.take (k + 1)).flatMap ps = (n.code.take k).flatMap ps ++ ps ⟨code, dst, a, c2, c3⟩ := by
                  rw [List.take_add_one, List.flatMap_append, HM.out.1]
                  simp
                have e3 : L4 ++ (zs.take zs.length).flatMap P8 = ([67, 76, 80, 49] ++ P8 n.places ++ pl n.first ++ pl n.ins ++ pl n.outs ++ pl n.keeps ++ pl n.nums ++ P8 n.code.length) ++ (n.code.take (k + 1)).flatMap ps := by
                  rw [List.take_length, e2, ← List.append_assoc, ← hL.out, HL4.out.1, hzs.out]
                  rw [ps_else _ HC1.out]
                  simp
                rw [← e3]
                exact T6.out.rs
              case measure => simp [intOf]; omega
    · obtain rfl : k = n.code.length := by omega
      have y0 := cell_below S.out.below H.out.2.2.2.2.2.1
      have y1 := cell_below S.out.below H.out.2.2.2.2.2.2
      obtain ⟨q0, f0, q1, f1⟩ := rb_cells S.out.rc
      obtain ⟨T, hT⟩ : ∃ T, Hid (T = str L) := ⟨_, rfl⟩
      have hbs : Calls Tryd.prog 18 #[.pointer (some ⟨b, 0, none⟩)] wr.drew fun e W9 => e = .returned (.string T) ∧ W9.cell? ⟨0, 0, none⟩ = some (.int .i64 0) ∧ W9.cell? ⟨0, 1, none⟩ = some (.int .i64 (-1)) ∧ W9.cell? ⟨w.heap.size + 1, 0, none⟩ = some (.int .i64 0) ∧ W9.frozen? ⟨w.heap.size + 1, 0, none⟩ = false ∧ W9.cell? ⟨w.heap.size + 1, 1, none⟩ = some (.int .i64 0) ∧ W9.frozen? ⟨w.heap.size + 1, 1, none⟩ = false ∧ Hid (Below w.heap.size w W9 ∧ W9.heap[w.heap.size + 1]? = some (.cells #[.int .i64 0, .int .i64 0] 30 (0, 0))) := by
        have hd := S.out.more (W' := wr.drew) ⟨rfl, rfl, rfl, Nat.le_refl _, fun _ _ => rfl⟩
        refine (bs_any b L wr.drew hd.bld (Nat.le_of_lt hd.sz)).mono fun e W9 ⟨he, hb9⟩ => ?_
        have hlb := hd.lb
        have b9 : Below w.heap.size w W9 := hd.below.trans (hb9.mono (by omega))
        have r9 : W9.heap[w.heap.size + 1]? = some (.cells #[.int .i64 0, .int .i64 0] 30 (0, 0)) := by rw [hb9.block _ (by omega)]; exact hd.rc
        obtain ⟨q0, f0, q1, f1⟩ := rb_cells r9
        exact ⟨by rw [he, hT.out], cell_below b9 H.out.2.2.2.2.2.1, cell_below b9 H.out.2.2.2.2.2.2, q0, f0, q1, f1, b9, r9⟩
      go_upto_region 26 with fail
      go_region_with (refine hbs.mono ?_; rintro e W9 ⟨rfl, z0, z1, z2, z3, z4, z5, Z⟩)
      all_goals
        go_wp2_with fail
        refine bodyPost_ret (resultsW _ _ _ _ _ rfl rfl rfl (rb_set Z.out.2)) rfl ?_
        refine ⟨?_, (Z.out.1.setCell (by simp) _).setCell (by simp) _⟩
        rw [show writeN n = L by rw [hL.out, List.take_length]; rfl, ← hT.out]
        rfl
end Ix
end Go.Proofs.YtalfelkblbbmpaaDoor
