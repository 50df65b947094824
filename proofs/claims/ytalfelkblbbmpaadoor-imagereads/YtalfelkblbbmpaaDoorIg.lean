/- image.Write: whatever code it is handed. -/
import Derived.Test.YtalfelkblbbmpaaDoorIf
import Derived.Deep.Cut
import Derived.Deep.RegionHeld3
namespace Go.Proofs.YtalfelkblbbmpaaDoor
open Go.RowKit
namespace Ix
open Nx

theorem write_bad (B : Nat) (n : Nt) (w : World) (vF vI vO vK vN vC : Value) (h : NetV B w n vF vI vO vK vN vC) (hB : B ≤ w.heap.size) (hs : Small n) (hno : check n ≠ (0, -1)) :
    Calls Tryd.prog 7 #[.agg #[.int .i64 n.places, vF, vI, vO, vK, vN, vC]] w fun e w' => ∃ v, e = .returned (.tuple #[.string ⟨#[]⟩, v]) ∧ IsErr w.heap.size w' v (check n) ∧ Below w.heap.size w w' := by
  have hck : Calls Tryd.prog 19 #[.agg #[.int .i64 n.places, vF, vI, vO, vK, vN, vC]] (w.alloc (.cells #[.int .i64 n.places, vF, vI, vO, vK, vN, vC] 26)) fun e w' => ∃ t x, e = .returned (.iface t x) ∧ Hid (IsErr w.heap.size w' (.iface t x) (check n) ∧ Below w.heap.size w w') :=
    (check_any B n _ vF vI vO vK vN vC (h.below ((grown_one w _).mono hB) (Nat.le_refl _)) (by simp; omega) hs).mono fun e w' ⟨v, he, hi, hb⟩ => by
      have hb' : Below w.heap.size w w' := ball (grown_one w _) hb
      have hi' : IsErr w.heap.size w' v (check n) := by
        rcases hi with hi | hi | ⟨h1, g, q, h2, h3, h4⟩
        · exact .inl hi
        · exact .inr (.inl hi)
        · exact .inr (.inr ⟨h1, g, q, h2, by simp at h3; omega, h4⟩)
      rcases id hi' with ⟨h1, h2, _⟩ | ⟨_, _, hv⟩ | ⟨_, g, q, _, _, hv, _⟩
      · exact absurd (Prod.ext h1 h2) hno
      · subst hv; exact ⟨_, _, he, hi', hb'⟩
      · subst hv; exact ⟨_, _, he, hi', hb'⟩
  clear h hno
  go_enter Tryd.func7, Tryd.ntmps7
  go_wp2_with (go_at_call 19; refine hck.mono ?_; rintro e w1 ⟨t, x, rfl, X⟩; clear hck)
  go_ret2
  exact ⟨_, rfl, X.out.1, X.out.2⟩

theorem ws_start {w w1 : World} {cs : Array Value} (hb : Below w.heap.size w w1) (hbox : w1.heap[w.heap.size]? = some (.cells cs 26 (0, 0))) :
    WS w (((w1.alloc (.cells #[.int .u8 67, .int .u8 76, .int .u8 80, .int .u8 49] 5 (4, 5))).alloc (.cells #[.slice (some ⟨w1.heap.size, 0, none⟩) 4 4] 46)).alloc (.cells #[.func (.func 20) #[] #[.pointer (some ⟨w1.heap.size + 1, 0, none⟩)]] 60)) cs (w1.heap.size + 1) (w1.heap.size + 1 + 1) (.slice (some ⟨w1.heap.size, 0, none⟩) 4 4) [67, 76, 80, 49] := by
  have hl := lt_of_block hbox
  have hs := hb.size
  obtain ⟨O1, h1⟩ : ∃ O, O = Obj.cells #[.int .u8 67, .int .u8 76, .int .u8 80, .int .u8 49] 5 (4, 5) := ⟨_, rfl⟩
  obtain ⟨O2, h2⟩ : ∃ O, O = Obj.cells #[.slice (some ⟨w1.heap.size, 0, none⟩) 4 4] 46 := ⟨_, rfl⟩
  obtain ⟨O3, h3⟩ : ∃ O, O = Obj.cells #[.func (.func 20) #[] #[.pointer (some ⟨w1.heap.size + 1, 0, none⟩)]] 60 := ⟨_, rfl⟩
  rw [← h1, ← h2, ← h3]
  have s1 : (w1.alloc O1).heap.size = w1.heap.size + 1 := by simp
  have s2 : ((w1.alloc O1).alloc O2).heap.size = w1.heap.size + 1 + 1 := by simp
  have b3 : (((w1.alloc O1).alloc O2).alloc O3).heap[w1.heap.size + 1 + 1]? = some O3 := by rw [← s2]; exact heap_alloc_new _ _
  have b2 : (((w1.alloc O1).alloc O2).alloc O3).heap[w1.heap.size + 1]? = some O2 := by
    rw [Below.heap_alloc _ _ _ (by rw [s2]; omega), ← s1]; exact heap_alloc_new _ _
  have b1 : (((w1.alloc O1).alloc O2).alloc O3).heap[w1.heap.size]? = some O1 := by
    rw [Below.heap_alloc _ _ _ (by rw [s2]; omega), Below.heap_alloc _ _ _ (by rw [s1]; omega)]; exact heap_alloc_new _ _
  have b0 : (((w1.alloc O1).alloc O2).alloc O3).heap[w.heap.size]? = some (.cells cs 26 (0, 0)) := by
    rw [Below.heap_alloc _ _ _ (by rw [s2]; omega), Below.heap_alloc _ _ _ (by rw [s1]; omega), Below.heap_alloc _ _ _ hl]; exact hbox
  replace b1 := b1.trans (congrArg some h1)
  replace b2 := b2.trans (congrArg some h2)
  replace b3 := b3.trans (congrArg some h3)
  refine ⟨⟨b2, .inr ⟨w1.heap.size, rfl, hs, lt_of_block b1, fun j u hu => ?_⟩, by simp only [Value.ownBlock]; intro e; injection e with e; omega⟩, b0, b3, by simp only [Value.ownBlock]; intro e; injection e with e; omega, by simp only [Value.ownBlock]; intro e; injection e with e; omega, by omega, by omega, by omega, ((hb.alloc hs _).alloc (by rw [s1]; omega) _).alloc (by rw [s2]; omega) _⟩
  rw [cell_of_row _ _ _ _ _ _ b1, ← hu, ← Array.getElem?_toList]
  rfl
/-- what the walk reads -/
theorem WS.reads {w W : World} {x0 x1 x2 x3 x4 x5 x6 : Value} {q f : Nat} {v : Value} {l : List UInt8} (h : WS w W #[x0, x1, x2, x3, x4, x5, x6] q f v l) :
    W.cell? ⟨f, 0, none⟩ = some (.func (.func 20) #[] #[.pointer (some ⟨q, 0, none⟩)]) ∧ W.cell? ⟨w.heap.size, 0, none⟩ = some x0 ∧ W.cell? ⟨w.heap.size, 1, none⟩ = some x1 ∧ W.cell? ⟨w.heap.size, 2, none⟩ = some x2 ∧ W.cell? ⟨w.heap.size, 3, none⟩ = some x3 ∧ W.cell? ⟨w.heap.size, 4, none⟩ = some x4 ∧ W.cell? ⟨w.heap.size, 5, none⟩ = some x5 ∧ W.cell? ⟨w.heap.size, 6, none⟩ = some x6 :=
  ⟨(cel h.fn 0 _ rfl).1, (cel h.box 0 _ rfl).1, (cel h.box 1 _ rfl).1, (cel h.box 2 _ rfl).1, (cel h.box 3 _ rfl).1, (cel h.box 4 _ rfl).1, (cel h.box 5 _ rfl).1, (cel h.box 6 _ rfl).1⟩

/-- while a step is written -/
structure WT (w W : World) (cs : Array Value) (q f : Nat) (v : Value) (l : List UInt8) (sb g : Nat) (st : Array Value) : Prop where
  ws : WS w W cs q f v l
  st : W.heap[sb]? = some (.cells st 55 (0, 0))
  pt : W.heap[g]? = some (.cells (ptrs sb) 65 (0, 0))
  ns : v.ownBlock ≠ some sb
  ng : v.ownBlock ≠ some g
  qs : sb ≠ q
  qg : g ≠ q
theorem WT.moved {w W W' : World} {cs : Array Value} {q f : Nat} {v v' : Value} {l l' : List UInt8} {sb g : Nat} {st : Array Value} (h : WT w W cs q f v l sb g st) (hw : WS w W' cs q f v' l') (hf : PF q W W' v v') : WT w W' cs q f v' l' sb g st := by
  have b0 := lt_of_block h.st
  have b1 := lt_of_block h.pt
  refine ⟨hw, ?_, ?_, hf.at_.ne b0 h.ns, hf.at_.ne b1 h.ng, h.qs, h.qg⟩
  · rw [hf.block _ b0 h.qs h.ns]; exact h.st
  · rw [hf.block _ b1 h.qg h.ng]; exact h.pt
theorem ws_drew {w W : World} {cs : Array Value} {q f : Nat} {v : Value} {l : List UInt8} (h : WS w W cs q f v l) : WS w W.drew cs q f v l := h.more ⟨rfl, rfl, rfl, Nat.le_refl _, fun _ _ => rfl⟩
theorem wt_put {w W : World} {cs : Array Value} {q f : Nat} {v : Value} {l : List UInt8} {sb g : Nat} {st : Array Value} (h : WT w W cs q f v l sb g st) (z : Int) (hl : l.length ≤ 1000000000) (h1 : -9223372036854775808 ≤ z) (h2 : z ≤ 9223372036854775807) :
    Calls Tryd.prog 20 #[.int .i64 z, .pointer (some ⟨q, 0, none⟩)] W.drew fun e W' => e = .returned (.tuple #[]) ∧ ∃ v', Hid (WT w W' cs q f v' (l ++ P8 z) sb g st) := by
  have hb : Below W.heap.size W W.drew := ⟨rfl, rfl, rfl, Nat.le_refl _, fun _ _ => rfl⟩
  have h' : WT w W.drew cs q f v l sb g st := h.moved (ws_drew h.ws) ((PF.refl q W v).below hb)
  exact (ws_put h'.ws z hl h1 h2).mono fun _ _ ⟨he, v', X⟩ => ⟨he, v', h'.moved X.out.1 X.out.2⟩
theorem jxP (g n k : Nat) (hk : k < n) (w : World) : (Instr.indexAt 62 (.slice (some ⟨g, 0, none⟩) n 5) (.int .i64 (k : Int))).run Tryd.prog w = .ok (.pointer (some ⟨g, k, none⟩)) w := by
  rw [run_indexAt_slice _ _ _ _ _ _ _ (by kernel_rfl), if_pos ⟨by omega, by omega⟩]
  have e : (sizeOf (Tryd.prog.elem 62)).run Tryd.prog w = .ok 1 w := by kernel_rfl
  rw [e]
  simp [Result.andThen, Addr.add]
  omega
theorem nAsk3 (c : Int) : nAsk c ≤ 3 := by unfold nAsk; split <;> (try split) <;> (try split) <;> omega
theorem toldS_len (s : Sp) : (toldS s).length = 2 + nAsk s.code := by
  have := nAsk3 s.code
  unfold toldS
  simp
  omega
/-- the part of a step that stands at j -/
theorem told_cell {w : World} {code dst a b c : Int} {sb : Nat} (h : w.heap[sb]? = some (.cells #[.int .i64 code, .int .i64 dst, .int .i64 a, .int .i64 b, .int .i64 c] 55 (0, 0))) (j : Nat) (hj : j < 2 + nAsk code) : w.cell? ⟨sb, j, none⟩ = some (.int .i64 ((toldS ⟨code, dst, a, b, c⟩).getD j 0)) := by
  have h3 := nAsk3 code
  have hm : nAsk code = 0 ∨ nAsk code = 1 ∨ nAsk code = 2 ∨ nAsk code = 3 := by omega
  rw [cell_of_row _ _ _ _ _ _ h]
  unfold toldS
  simp only
  rcases hm with hm | hm | hm | hm <;> rw [hm] at hj ⊢
  · match j, hj with
    | 0, _ => rfl
    | 1, _ => rfl
  · match j, hj with
    | 0, _ => rfl
    | 1, _ => rfl
    | 2, _ => rfl
  · match j, hj with
    | 0, _ => rfl
    | 1, _ => rfl
    | 2, _ => rfl
    | 3, _ => rfl
  · match j, hj with
    | 0, _ => rfl
    | 1, _ => rfl
    | 2, _ => rfl
    | 3, _ => rfl
    | 4, _ => rfl
theorem ptr_cell {w : World} {sb g : Nat} (h : w.heap[g]? = some (.cells (ptrs sb) 65 (0, 0))) (j : Nat) (hj : j < 5) : w.cell? ⟨g, j, none⟩ = some (.pointer (some ⟨sb, j, none⟩)) := by
  rw [cell_of_row _ _ _ _ _ _ h]
  match j, hj with
  | 0, _ => rfl
  | 1, _ => rfl
  | 2, _ => rfl
  | 3, _ => rfl
  | 4, _ => rfl
theorem ps_len {s : Sp} (h : ∀ z ∈ toldS s, 0 ≤ z ∧ z ≤ 4000) : (ps s).length ≤ 50 := by
  have h1 := pl_len (toldS s) fun z hz => by have := h z hz; omega
  have h2 := toldS_len s
  have h3 := nAsk3 s.code
  unfold ps
  omega
theorem codes_len {l : List Sp} (h : ∀ s ∈ l, ∀ z ∈ toldS s, 0 ≤ z ∧ z ≤ 4000) : (l.flatMap ps).length ≤ 50 * l.length := by
  induction l with
  | nil => simp
  | cons s r ih =>
    have h1 := ih fun x hx => h x (by simp [hx])
    have h2 := ps_len (h s (by simp))
    simp only [List.flatMap_cons, List.length_append, List.length_cons]
    omega

set_option maxHeartbeats 4000000 in
theorem write_ok (B : Nat) (n : Nt) (w : World) (vF vI vO vK vN vC : Value) (h : NetV B w n vF vI vO vK vN vC) (hB : B ≤ w.heap.size) (hs : Small n) (hok : check n = (0, -1)) (hf : N64 n.first) (hm : N64 n.nums) :
    Calls Tryd.prog 7 #[.agg #[.int .i64 n.places, vF, vI, vO, vK, vN, vC]] w fun e w' => e = .returned (.tuple #[.string (str (writeN n)), .nilIface]) ∧ Below w.heap.size w w' := by
  have hck : Calls Tryd.prog 19 #[.agg #[.int .i64 n.places, vF, vI, vO, vK, vN, vC]] (w.alloc (.cells #[.int .i64 n.places, vF, vI, vO, vK, vN, vC] 26)) fun e w' => e = .returned .nilIface ∧ Hid (Below w.heap.size w w' ∧ w'.heap[w.heap.size]? = some (.cells #[.int .i64 n.places, vF, vI, vO, vK, vN, vC] 26 (0, 0))) :=
    (check_any B n _ vF vI vO vK vN vC (h.below ((grown_one w _).mono hB) (Nat.le_refl _)) (by simp; omega) hs).mono fun e w' ⟨v, he, hi, hb⟩ => by
      rw [hok] at hi
      rcases hi with ⟨_, _, hv⟩ | ⟨h1, _⟩ | ⟨h1, _⟩
      · subst hv
        refine ⟨he, ball (grown_one w _) hb, ?_⟩
        rw [hb.block w.heap.size (by simp)]; exact heap_alloc_new w _
      · exact absurd rfl h1
      · exact absurd rfl h1
  have kc := fun (w : World) => Lib.run_convert_bytes_const (P := Tryd.prog) w 46 5 #[.int .u8 67, .int .u8 76, .int .u8 80, .int .u8 49] 4 4 Tryd.underlying46 Tryd.underlying5
  have H : Hid (NetV B w n vF vI vO vK vN vC ∧ Small n ∧ check n = (0, -1) ∧ N64 n.first ∧ N64 n.nums) := ⟨h, hs, hok, hf, hm⟩
  obtain ⟨adC, bC, offC, capC, rfl, hC1, hC2⟩ := h.c
  have HC : Hid ((0 < n.code.length → adC = some ⟨bC, offC, none⟩ ∧ bC < B) ∧ _) := ⟨hC1, hC2⟩
  have hcl := hs.c
  clear h hs hok hf hm hC1 hC2
  go_enter Tryd.func7, Tryd.ntmps7
  go_upto_region 7 with (go_at_call 19; refine hck.mono ?_; rintro e w1 ⟨rfl, X⟩; clear hck)
  have X2 := ws_start X.out.1 X.out.2
  revert X2
  generalize ((w1.alloc (.cells #[.int .u8 67, .int .u8 76, .int .u8 80, .int .u8 49] 5 (4, 5))).alloc (.cells #[.slice (some ⟨w1.heap.size, 0, none⟩) 4 4] 46)).alloc (.cells #[.func (.func 20) #[] #[.pointer (some ⟨w1.heap.size + 1, 0, none⟩)]] 60) = W0
  generalize w1.heap.size + 1 + 1 = f
  generalize w1.heap.size + 1 = q
  generalize (Value.slice (some ⟨w1.heap.size, 0, none⟩) 4 4) = v0
  intro X2
  have S : Hid (WS w W0 #[.int .i64 n.places, vF, vI, vO, vK, vN, .slice adC n.code.length capC] q f v0 [67, 76, 80, 49]) := X2
  clear X X2 kc
  obtain ⟨hN, hSm, hok, hf64, hm64⟩ := id H.out
  obtain ⟨hfl, ⟨hp0, hp1⟩, hi64, ho64, hk64⟩ := check_lists hok hSm
  have hss := hSm.s
  have hmm := hSm.m
  have Li : (pl n.ins).length ≤ 40010 := pl_le (fun z hz => by have := hi64 z hz; omega) (by omega)
  have Lo : (pl n.outs).length ≤ 40010 := pl_le (fun z hz => by have := ho64 z hz; omega) (by omega)
  have Lk : (pl n.keeps).length ≤ 40010 := pl_le (fun z hz => by have := hk64 z hz; omega) (by omega)
  have Lf : (pl n.first).length ≤ 40010 := pl_le hf64 hfl
  have Lm : (pl n.nums).length ≤ 40010 := pl_le hm64 hmm
  have Lp : (P8 n.places).length ≤ 10 := P8_ten (by omega) (by omega)
  have Lc : (P8 n.code.length).length ≤ 10 := P8_ten (by omega) (by omega)
  have G : Hid ((∀ z ∈ n.ins, 0 ≤ z ∧ z ≤ 4000) ∧ (∀ z ∈ n.outs, 0 ≤ z ∧ z ≤ 4000) ∧ (∀ z ∈ n.keeps, 0 ≤ z ∧ z ≤ 4000) ∧ n.first.length ≤ 4000 ∧ (0 ≤ n.places ∧ n.places ≤ 4000) ∧ n.ins.length + n.outs.length + n.keeps.length ≤ 4000 ∧ n.nums.length ≤ 4000) := ⟨hi64, ho64, hk64, hfl, ⟨hp0, hp1⟩, hss, hmm⟩
  have LL : Hid ((pl n.ins).length ≤ 40010 ∧ (pl n.outs).length ≤ 40010 ∧ (pl n.keeps).length ≤ 40010 ∧ (pl n.first).length ≤ 40010 ∧ (pl n.nums).length ≤ 40010 ∧ (P8 n.places).length ≤ 10 ∧ (P8 n.code.length).length ≤ 10) := ⟨Li, Lo, Lk, Lf, Lm, Lp, Lc⟩
  clear hN hSm hok hf64 hm64 hfl hp0 hp1 hi64 ho64 hk64 hss hmm Li Lo Lk Lf Lm Lp Lc
  obtain ⟨rf, r0, r1, r2, r3, r4, r5, r6⟩ := S.out.reads
  have hc := ws_put S.out n.places (by obtain ⟨a1, a2, a3, a4, a5, a6, a7⟩ := LL.out; simp <;> omega) (by have := G.out.2.2.2.2.1; omega) (by have := G.out.2.2.2.2.1; omega)
  go_upto_region 8 with (go_at_call 20; refine hc.mono ?_; rintro e W1 ⟨rfl, v1, S1⟩; clear hc)
  have S2 : Hid (WS w W1 _ q f v1 ([67, 76, 80, 49] ++ P8 n.places)) := S1.out.1
  clear rf r0 r1 r2 r3 r4 r5 r6 S S1
  rename Hid (WS w W1 _ q f v1 ([67, 76, 80, 49] ++ P8 n.places)) => S
  obtain ⟨rf, r0, r1, r2, r3, r4, r5, r6⟩ := S.out.reads
  have hc := ws_list S.out vF n.first (ws_old S.out hB H.out.1.f).1 (ws_old S.out hB H.out.1.f).2 (by obtain ⟨a1, a2, a3, a4, a5, a6, a7⟩ := LL.out; simp <;> omega) G.out.2.2.2.1 H.out.2.2.2.1
  go_upto_region 9 with (go_at_call 22; refine hc.mono ?_; rintro e W2 ⟨rfl, v2, S1⟩; clear hc)
  have S2 : Hid (WS w W2 _ q f v2 ([67, 76, 80, 49] ++ P8 n.places ++ pl n.first)) := S1.out
  clear rf r0 r1 r2 r3 r4 r5 r6 S S1
  rename Hid (WS w W2 _ q f v2 ([67, 76, 80, 49] ++ P8 n.places ++ pl n.first)) => S
  obtain ⟨rf, r0, r1, r2, r3, r4, r5, r6⟩ := S.out.reads
  have hc := ws_wide S.out hB vI n.ins H.out.1.i (by have := G.out.2.2.2.2.2.1; omega) (by obtain ⟨a1, a2, a3, a4, a5, a6, a7⟩ := LL.out; simp <;> omega) (fun z hz => by have := G.out.1 z hz; omega)
  go_upto_region 10 with (first | (go_at_call 23; refine hc.mono ?_; rintro e Wx ⟨vx, rfl, hd⟩; clear hc) | (go_at_call 22; refine hd.mono ?_; rintro e W3 ⟨rfl, v3, S1⟩; clear hd))
  have S2 : Hid (WS w W3 _ q f v3 ([67, 76, 80, 49] ++ P8 n.places ++ pl n.first ++ pl n.ins)) := S1.out
  clear rf r0 r1 r2 r3 r4 r5 r6 S S1
  rename Hid (WS w W3 _ q f v3 ([67, 76, 80, 49] ++ P8 n.places ++ pl n.first ++ pl n.ins)) => S
  obtain ⟨rf, r0, r1, r2, r3, r4, r5, r6⟩ := S.out.reads
  have hc := ws_wide S.out hB vO n.outs H.out.1.o (by have := G.out.2.2.2.2.2.1; omega) (by obtain ⟨a1, a2, a3, a4, a5, a6, a7⟩ := LL.out; simp <;> omega) (fun z hz => by have := G.out.2.1 z hz; omega)
  go_upto_region 11 with (first | (go_at_call 23; refine hc.mono ?_; rintro e Wx ⟨vx, rfl, hd⟩; clear hc) | (go_at_call 22; refine hd.mono ?_; rintro e W4 ⟨rfl, v4, S1⟩; clear hd))
  have S2 : Hid (WS w W4 _ q f v4 ([67, 76, 80, 49] ++ P8 n.places ++ pl n.first ++ pl n.ins ++ pl n.outs)) := S1.out
  clear rf r0 r1 r2 r3 r4 r5 r6 S S1
  rename Hid (WS w W4 _ q f v4 ([67, 76, 80, 49] ++ P8 n.places ++ pl n.first ++ pl n.ins ++ pl n.outs)) => S
  obtain ⟨rf, r0, r1, r2, r3, r4, r5, r6⟩ := S.out.reads
  have hc := ws_wide S.out hB vK n.keeps H.out.1.k (by have := G.out.2.2.2.2.2.1; omega) (by obtain ⟨a1, a2, a3, a4, a5, a6, a7⟩ := LL.out; simp <;> omega) (fun z hz => by have := G.out.2.2.1 z hz; omega)
  go_upto_region 12 with (first | (go_at_call 23; refine hc.mono ?_; rintro e Wx ⟨vx, rfl, hd⟩; clear hc) | (go_at_call 22; refine hd.mono ?_; rintro e W5 ⟨rfl, v5, S1⟩; clear hd))
  have S2 : Hid (WS w W5 _ q f v5 ([67, 76, 80, 49] ++ P8 n.places ++ pl n.first ++ pl n.ins ++ pl n.outs ++ pl n.keeps)) := S1.out
  clear rf r0 r1 r2 r3 r4 r5 r6 S S1
  rename Hid (WS w W5 _ q f v5 ([67, 76, 80, 49] ++ P8 n.places ++ pl n.first ++ pl n.ins ++ pl n.outs ++ pl n.keeps)) => S
  obtain ⟨rf, r0, r1, r2, r3, r4, r5, r6⟩ := S.out.reads
  have hc := ws_list S.out vN n.nums (ws_old S.out hB H.out.1.m).1 (ws_old S.out hB H.out.1.m).2 (by obtain ⟨a1, a2, a3, a4, a5, a6, a7⟩ := LL.out; simp <;> omega) G.out.2.2.2.2.2.2 H.out.2.2.2.2
  go_upto_region 13 with (go_at_call 22; refine hc.mono ?_; rintro e W6 ⟨rfl, v6, S1⟩; clear hc)
  have S2 : Hid (WS w W6 _ q f v6 ([67, 76, 80, 49] ++ P8 n.places ++ pl n.first ++ pl n.ins ++ pl n.outs ++ pl n.keeps ++ pl n.nums)) := S1.out
  clear rf r0 r1 r2 r3 r4 r5 r6 S S1
  rename Hid (WS w W6 _ q f v6 ([67, 76, 80, 49] ++ P8 n.places ++ pl n.first ++ pl n.ins ++ pl n.outs ++ pl n.keeps ++ pl n.nums)) => S
  obtain ⟨rf, r0, r1, r2, r3, r4, r5, r6⟩ := S.out.reads
  have hc := ws_put S.out n.code.length (by obtain ⟨a1, a2, a3, a4, a5, a6, a7⟩ := LL.out; simp <;> omega) (by omega) (by omega)
  go_upto_region 14 with (go_at_call 20; refine hc.mono ?_; rintro e W7 ⟨rfl, v7, S1⟩; clear hc)
  have S2 : Hid (WS w W7 _ q f v7 ([67, 76, 80, 49] ++ P8 n.places ++ pl n.first ++ pl n.ins ++ pl n.outs ++ pl n.keeps ++ pl n.nums ++ P8 n.code.length)) := S1.out.1
  clear rf r0 r1 r2 r3 r4 r5 r6 S S1
  rename Hid (WS w W7 _ q f v7 ([67, 76, 80, 49] ++ P8 n.places ++ pl n.first ++ pl n.ins ++ pl n.outs ++ pl n.keeps ++ pl n.nums ++ P8 n.code.length)) => S
  obtain ⟨rf, r0, r1, r2, r3, r4, r5, r6⟩ := S.out.reads
  go_upto_region 15 with fail
  clear rf r0 r1 r2 r3 r4 r5 r6
  go_loopw [56] (fun i wr => ∃ k : Nat, k ≤ n.code.length ∧ i = .int .i64 k ∧ ∃ v, Hid (WS w wr #[.int .i64 n.places, vF, vI, vO, vK, vN, .slice adC n.code.length capC] q f v (([67, 76, 80, 49] ++ P8 n.places ++ pl n.first ++ pl n.ins ++ pl n.outs ++ pl n.keeps ++ pl n.nums ++ P8 n.code.length) ++ (n.code.take k).flatMap ps))) (fun i _ => n.code.length - (intOf i).toNat)
  case atStart => exact ⟨0, Nat.zero_le _, rfl, v7, by rw [List.take_zero, List.flatMap_nil, List.append_nil]; exact S.out⟩
  case round =>
    clear S
    obtain ⟨k, hk, rfl, v, S0⟩ := hrel
    obtain ⟨L, hL0⟩ : ∃ L, L = ([67, 76, 80, 49] ++ P8 n.places ++ pl n.first ++ pl n.ins ++ pl n.outs ++ pl n.keeps ++ pl n.nums ++ P8 n.code.length) ++ (n.code.take k).flatMap ps := ⟨_, rfl⟩
    have hL : Hid (L = ([67, 76, 80, 49] ++ P8 n.places ++ pl n.first ++ pl n.ins ++ pl n.outs ++ pl n.keeps ++ pl n.nums ++ P8 n.code.length) ++ (n.code.take k).flatMap ps) := hL0
    clear hL0
    have S : Hid (WS w wr #[.int .i64 n.places, vF, vI, vO, vK, vN, .slice adC n.code.length capC] q f v L) := by rw [hL.out]; exact S0
    clear S0
    by_cases hlt : k < n.code.length
    · have hix := ix24 adC bC offC n.code.length capC k hlt (fun h => (HC.out.1 h).1)
      obtain ⟨s, hsx⟩ : ∃ s, Hid (s = n.code.getD k sp0) := ⟨_, rfl⟩
      obtain ⟨x0, x1, x2, x3, x4⟩ := HC.out.2 k hlt
      rw [← hsx.out] at x0 x1 x2 x3 x4
      have hbb : wr.heap[bC]? = w.heap[bC]? := S.out.below.block bC (by have := (HC.out.1 (by omega)).2; omega)
      rw [← cell_of_block hbb] at x0 x1 x2 x3 x4
      clear hbb
      obtain ⟨code, dst, a, b, c⟩ := s
      simp only at x0 x1 x2 x3 x4
      go_upto_region 17 with fail
      have W1 : WS w (wr.alloc (.cells #[.int .i64 code, .int .i64 dst, .int .i64 a, .int .i64 b, .int .i64 c] 55)) _ q f v _ := S.out.more (grown_one wr _)
      have hto : Calls Tryd.prog 24 #[.pointer (some ⟨wr.heap.size, 0, none⟩)] (wr.alloc (.cells #[.int .i64 code, .int .i64 dst, .int .i64 a, .int .i64 b, .int .i64 c] 55)) fun e w' => ∃ g, e = .returned (.slice (some ⟨g, 0, none⟩) (2 + nAsk code) 5) ∧ Hid (WT w w' #[.int .i64 n.places, vF, vI, vO, vK, vN, .slice adC n.code.length capC] q f v L wr.heap.size g #[.int .i64 code, .int .i64 dst, .int .i64 a, .int .i64 b, .int .i64 c]) :=
        (told_any wr.heap.size code dst a b c _ (heap_alloc_new wr _)).mono fun e w' ⟨g, he, hg, hp, hb⟩ => by
          have hq := lt_of_block S.out.ps.var
          simp at hg
          refine ⟨g, he, ⟨W1.more hb, ?_, hp, fun e => ?_, fun e => ?_, by omega, by omega⟩⟩
          · rw [hb.block wr.heap.size (by simp)]; exact heap_alloc_new wr _
          · have := (S.out.ps.bys.lt _ e).2; omega
          · have := (S.out.ps.bys.lt _ e).2; omega
      obtain ⟨sb, hsb⟩ : ∃ sb, sb = wr.heap.size := ⟨_, rfl⟩
      rw [← hsb] at hto
      obtain ⟨m, hm⟩ : ∃ m, m = 2 + nAsk code := ⟨_, rfl⟩
      rw [← hm] at hto
      have hm5 : m ≤ 5 := by have := nAsk3 code; omega
      have hnk : n.code[k]? = some ⟨code, dst, a, b, c⟩ := by
        have := hsx.out
        rw [List.getD_eq_getElem?_getD, List.getElem?_eq_getElem hlt] at this
        rw [List.getElem?_eq_getElem hlt, this]; rfl
      have htold : ∀ z ∈ toldS ⟨code, dst, a, b, c⟩, 0 ≤ z ∧ z ≤ 4000 := check_told H.out.2.2.1 H.out.2.1 _ (List.mem_of_getElem? hnk)
      have hLk : L.length ≤ 500000 := by
        have := codes_len (l := n.code.take k) fun s hs => check_told H.out.2.2.1 H.out.2.1 s (List.mem_of_mem_take hs)
        have h2 : (n.code.take k).length ≤ n.code.length := by simp; omega
        obtain ⟨a1, a2, a3, a4, a5, a6, a7⟩ := LL.out
        rw [hL.out]
        simp only [List.length_append, List.length_cons, List.length_nil]
        omega
      have HM : Hid (m = 2 + nAsk code ∧ n.code[k]? = some ⟨code, dst, a, b, c⟩ ∧ (∀ z ∈ toldS ⟨code, dst, a, b, c⟩, 0 ≤ z ∧ z ≤ 4000) ∧ L.length ≤ 500000) := ⟨hm, hnk, htold, hLk⟩
      clear W1 S x0 x1 x2 x3 x4 hix hm hnk htold hLk hsx
      go_upto_region 18 with (go_at_call 24; rw [← hsb]; refine hto.mono ?_; rintro e w2 ⟨g, rfl, S⟩; clear hto)
      have HSB : Hid (sb = wr.heap.size) := hsb
      clear hsb
      go_loopw [62] (fun i wy => ∃ j : Nat, j ≤ m ∧ i = .int .i64 j ∧ ∃ v, Hid (WT w wy #[.int .i64 n.places, vF, vI, vO, vK, vN, .slice adC n.code.length capC] q f v (L ++ ((toldS ⟨code, dst, a, b, c⟩).take j).flatMap P8) sb g #[.int .i64 code, .int .i64 dst, .int .i64 a, .int .i64 b, .int .i64 c])) (fun i _ => m - (intOf i).toNat)
      case atStart => exact ⟨0, Nat.zero_le _, rfl, v, by rw [List.take_zero, List.flatMap_nil, List.append_nil]; exact S.out⟩
      case round =>
        clear S
        rename World => wy
        obtain ⟨j, hj, rfl, v, S⟩ := hrel
        obtain ⟨L2, hL2⟩ : ∃ L2, Hid (L2 = L ++ ((toldS ⟨code, dst, a, b, c⟩).take j).flatMap P8) := ⟨_, rfl⟩
        rw [← hL2.out] at S
        by_cases hjm : j < m
        · have hix := jxP g m j hjm
          obtain ⟨x, hx⟩ : ∃ x, Hid (x = (toldS ⟨code, dst, a, b, c⟩).getD j 0) := ⟨_, rfl⟩
          have cp := ptr_cell S.out.pt j (by omega)
          have cx := told_cell S.out.st j (by have := HM.out.1; omega)
          rw [← hx.out] at cx
          have cf := (cel S.out.ws.fn 0 _ rfl).1
          unfold putV at cf
          have hx64 : -9223372036854775808 ≤ x ∧ x ≤ 9223372036854775807 := by
            have hjl : j < (toldS ⟨code, dst, a, b, c⟩).length := by rw [toldS_len]; have := HM.out.1; show j < 2 + nAsk code; omega
            have := HM.out.2.2.1 x (by rw [hx.out, List.getD_eq_getElem?_getD, List.getElem?_eq_getElem hjl]; exact List.getElem_mem hjl)
            omega
          have hl2 : L2.length ≤ 1000000000 := by
            have h1 := pl_len ((toldS ⟨code, dst, a, b, c⟩).take j) fun z hz => by have := HM.out.2.2.1 z (List.mem_of_mem_take hz); omega
            have h2 : ((toldS ⟨code, dst, a, b, c⟩).take j).length ≤ j := by simp; omega
            have h3 := HM.out.2.2.2
            rw [hL2.out, List.length_append]
            omega
          have hc : Calls Tryd.prog 20 #[.int .i64 x, .pointer (some ⟨q, 0, none⟩)] wy.drew fun e W' => e = .returned (.tuple #[]) ∧ ∃ v', Hid (WT w W' #[.int .i64 n.places, vF, vI, vO, vK, vN, .slice adC n.code.length capC] q f v' (L2 ++ P8 x) sb g #[.int .i64 code, .int .i64 dst, .int .i64 a, .int .i64 b, .int .i64 c]) ∧ (W'.cell? ⟨f, 0, none⟩ = some (.func (.func 20) #[] #[.pointer (some ⟨q, 0, none⟩)]) ∧ W'.cell? ⟨sb, j, none⟩ = some (.int .i64 x)) :=
            (wt_put S.out x hl2 hx64.1 hx64.2).mono fun e W' ⟨he, v', X⟩ => ⟨he, v', X, (cel X.out.ws.fn 0 _ rfl).1, by rw [hx.out]; exact told_cell X.out.st j (by have := HM.out.1; omega)⟩
          have cf' : wy.cell? ⟨f, 0, none⟩ = some (.func (.func 20) #[] #[.pointer (some ⟨q, 0, none⟩)]) := cf
          clear cf S hx64 hl2
          go_upto_region 20 with fail
          go_region_held3 (fun w' => w'.cell? ⟨f, 0, none⟩ = some (.func (.func 20) #[] #[.pointer (some ⟨q, 0, none⟩)]) ∧ w'.cell? ⟨sb, j, none⟩ = some (.int .i64 x)) (first | exact hS2 | exact ⟨cf', cx⟩ | go_keep)
            ((first | (go_at_call 20; refine hc.mono ?_; rintro e w5 ⟨rfl, v5, S5, hS2⟩; clear hc) | fail))
          all_goals
            go_wp2_with fail
            go_roundw
            case rel =>
              refine ⟨j + 1, by omega, by go_num, v5, ?_⟩
              have hjl : j < (toldS ⟨code, dst, a, b, c⟩).length := by rw [toldS_len]; have := HM.out.1; show j < 2 + nAsk code; omega
              have e : ((toldS ⟨code, dst, a, b, c⟩).take (j + 1)).flatMap P8 = ((toldS ⟨code, dst, a, b, c⟩).take j).flatMap P8 ++ P8 x := by
                rw [List.take_add_one, List.flatMap_append, hx.out, List.getD_eq_getElem?_getD, List.getElem?_eq_getElem hjl]
                simp
              rw [e, ← List.append_assoc, ← hL2.out]
              exact S5.out
            case measure => simp [intOf]; omega
        · obtain rfl : j = m := by omega
          go_wp2_with fail
          go_roundw
          case rel =>
            refine ⟨k + 1, by omega, by go_num, v, ?_⟩
            have e1 : (toldS ⟨code, dst, a, b, c⟩).take j = toldS ⟨code, dst, a, b, c⟩ := by
              rw [List.take_of_length_le]
              rw [toldS_len]
              have := HM.out.1
              show 2 + nAsk code ≤ j
              omega
            have e2 : (n.code.take (k + 1)).flatMap ps = (n.code.take k).flatMap ps ++ ps ⟨code, dst, a, b, c⟩ := by
              rw [List.take_add_one, List.flatMap_append, HM.out.2.1]
              simp
            have e3 : L2 = ([67, 76, 80, 49] ++ P8 n.places ++ pl n.first ++ pl n.ins ++ pl n.outs ++ pl n.keeps ++ pl n.nums ++ P8 n.code.length) ++ (n.code.take (k + 1)).flatMap ps := by
              rw [hL2.out, e1, e2, hL.out, List.append_assoc]
              rfl
            rw [← e3]
            exact S.out.ws
          case measure => simp [intOf]; omega
    · obtain rfl : k = n.code.length := by omega
      have hq := (cel S.out.ps.var 0 _ rfl).1
      have hstr := bys_string S.out.ps.bys
      obtain ⟨T, hT⟩ : ∃ T, Hid (T = str L) := ⟨_, rfl⟩
      change _ = Result.ok (Value.string (str L)) _ at hstr
      rw [← hT.out] at hstr
      obtain ⟨ao, cap, hv⟩ := S.out.ps.bys.shape
      obtain ⟨N, hN⟩ : ∃ N, Hid (N = L.length) := ⟨_, rfl⟩
      rw [← hN.out] at hv
      subst hv
      go_wp2_with fail
      go_ret2
      refine ⟨?_, S.out.below⟩
      rw [show writeN n = L by rw [hL.out, List.take_length]; rfl, ← hT.out]
      rfl
end Ix
end Go.Proofs.YtalfelkblbbmpaaDoor
