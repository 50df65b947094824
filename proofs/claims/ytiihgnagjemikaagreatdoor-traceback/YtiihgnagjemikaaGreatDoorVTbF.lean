/- chapter 14: trace.Chart. -/
import Derived.Test.YtiihgnagjemikaaGreatDoorVTbM
import Derived.Test.YtiihgnagjemikaaGreatDoorVVe
import Derived.Maps.AppendAt
import Derived.Deep.RegionWith
import Derived.Deep.RegionHeld3
namespace Go.Proofs.YtiihgnagjemikaaGreatDoor
open Go.RowKit Px
namespace Tq
open Nx (Ints lt_of_block)
/-- rows of one's own as they are handed on -/
theorem OutR.rows {S : Nat} {w : World} {v : Value} {rows : List (List Int)} (h : OutR S w v rows) : Kx.IRws w v rows := by
  obtain ⟨xs, h1, h2⟩ := h
  rcases h1.2 with ⟨rfl, h0⟩ | ⟨g, cap, cur, rfl, _⟩
  · exact ⟨none, 0, 0, 0, by rw [h0], fun h => absurd h (by omega), fun k zs hk => by have := (List.getElem?_eq_some_iff.1 hk).1; omega⟩
  · refine ⟨_, g, 0, cap, rfl, fun _ => rfl, fun k zs hk => ?_⟩
    have hkl := (List.getElem?_eq_some_iff.1 hk).1
    obtain ⟨u, hu, hcu, hi⟩ := h2 k hkl
    have h3 := h1.cells (g := g) rfl k u hu
    have ad : (⟨g, 0, none⟩ : Addr).add k = ⟨g, k, none⟩ := by unfold Addr.add; split <;> simp_all
    rw [ad] at h3
    have hz : rows.getD k [] = zs := by rw [List.getD_eq_getElem?_getD, hk]; rfl
    rw [hz] at hi
    obtain ⟨a, b, off, c, rfl, i1, i2⟩ := hi
    obtain ⟨hc1, hc2⟩ := hcu
    exact ⟨a, c, by rw [Nat.zero_add]; exact h3, a, b, off, c, rfl, hc1, hc2, fun hp => (i1 hp).1, i2⟩
theorem rowsI_of {w : World} {v : Value} {rows : List (List Int)} (h : Kx.IRws w v rows) : RowsI w v rows := by
  obtain ⟨ad, b, off, cap, rfl, h1, h2⟩ := h
  refine ⟨ad, b, off, cap, rfl, h1, fun k hk => ?_⟩
  have hget : rows[k]? = some (rows.getD k []) := by rw [List.getD_eq_getElem?_getD, List.getElem?_eq_getElem hk]; rfl
  obtain ⟨a, c, h3, ad', b', off', cap', e, _, _, i1, i2⟩ := h2 k _ hget
  refine ⟨_, h3, ad', b', off', cap', e, fun hp => ⟨i1 hp, ?_⟩, i2⟩
  exact World.block_lt_of_cell? w _ (i2 0 hp)
theorem i64_of {rows : List (List Int)} (h : ∀ r ∈ rows, ∀ z ∈ r, N64 z) (k j : Nat) : I64 ((rows.getD k []).getD j 0) := by
  by_cases hk : k < rows.length
  · have e : rows.getD k [] = rows[k] := by rw [List.getD_eq_getElem?_getD, List.getElem?_eq_getElem hk]; rfl
    rw [e]
    by_cases hj : j < rows[k].length
    · have e2 : rows[k].getD j 0 = rows[k][j] := by rw [List.getD_eq_getElem?_getD, List.getElem?_eq_getElem hj]; rfl
      rw [e2]
      exact h _ (List.getElem_mem hk) _ (List.getElem_mem hj)
    · have e2 : rows[k].getD j 0 = 0 := by rw [List.getD_eq_getElem?_getD, List.getElem?_eq_none (by omega)]; rfl
      rw [e2]
      constructor <;> omega
  · have e : rows.getD k [] = [] := by rw [List.getD_eq_getElem?_getD, List.getElem?_eq_none (by omega)]; rfl
    rw [e]
    constructor <;> simp
set_option maxRecDepth 100000 in
set_option maxHeartbeats 4000000 in
theorem chart_told {A : Nat → Prop} {w : World} {c : Chart} {sS : ByteArray} {a a' : Option Addr} {n m n' m' : Nat} {rows : List (List Int)} {ai : Option Addr} {ni mi : Nat} (hC : IsChart A w c (.agg #[.string sS, .slice a n m, .slice a' n' m'])) (hc : Kx.RunC c) (hA : ∀ b, A b → b < w.heap.size)
    (hi : Kx.IRws w (.slice ai ni mi) rows) (hN : ∀ r ∈ rows, ∀ z ∈ r, N64 z) (hl : rows.length ≤ 1000) :
    Calls Tryz.prog 10 #[.agg #[.string sS, .slice a n m, .slice a' n' m'], .slice ai ni mi] w fun e w' => ∃ a n m, e = .returned (.tuple #[.slice a n m, .nilIface]) ∧ Hid (OutR w.heap.size w' (.slice a n m) (outsR c (newC c) rows) ∧ (∀ z ∈ outsR c (newC c) rows, ∀ y ∈ z, N64 y) ∧ Below w.heap.size w w') := by
  obtain ⟨W1, hW1⟩ : ∃ W1, W1 = w.alloc (.cells #[.string sS, .slice a n m, .slice a' n' m'] 35) := ⟨_, rfl⟩
  have hg1 : Below w.heap.size w W1 := by rw [hW1]; exact ck_grown _ _
  have k1 : W1.heap[w.heap.size]? = some (.cells #[.string sS, .slice a n m, .slice a' n' m'] 35 (0, 0)) := by rw [hW1]; exact ck_new _ _
  have hn := Kx.new_run (Kx.chartUp hC hg1) hc (fun b hb => Nat.lt_of_lt_of_le (hA b hb) hg1.size)
  have x0 := cell_row k1 0 (u := .string sS) rfl
  have x1 := cell_row k1 1 (u := .slice a n m) rfl
  have x2 := cell_row k1 2 (u := .slice a' n' m') rfl
  have H : Hid (W1 = w.alloc (.cells #[.string sS, .slice a n m, .slice a' n' m'] 35) ∧ Below w.heap.size w W1 ∧ Kx.RunC c ∧ Kx.IRws w (.slice ai ni mi) rows ∧ (∀ r ∈ rows, ∀ z ∈ r, N64 z) ∧ rows.length ≤ 1000) := ⟨hW1, hg1, hc, hi, hN, hl⟩
  rw [hW1] at hn x0 x1 x2
  clear hC hc hA hi hN hl hg1 k1 hW1
  have hmf : ∀ (fn : Fn) (first cap : Array Value) (w : World), (Instr.makeFunc fn first cap).run Tryz.prog w = .ok (.func fn first cap) w := fun _ _ _ _ => rfl
  go_enter Tryz.func10, Tryz.ntmps10
  go_wp2_with fail
  refine hn.mono ?_
  rintro e w2 ⟨rb, rfl, h2⟩
  clear hn x0 x1 x2
  obtain ⟨⟨Q, x, hR, hQ⟩, hb2⟩ := h2.out
  rw [← H.out.1] at hb2 hQ
  have hb : Below w.heap.size w w2 := ck_all H.out.2.1 hb2
  have ht := told_any H.out.2.2.1.run (check_gd H.out.2.2.1.ok H.out.2.2.1.nm) (new_stands c) hR H.out.2.2.2.1 hb (fun b hq => Nat.le_trans H.out.2.1.size (hQ b hq)) H.out.2.2.2.2.1 H.out.2.2.2.2.2
  have HB : Hid (Below w.heap.size w w2) := hb
  clear h2 hR hQ hb2 hb
  go_wp2_with fail
  refine ht.mono ?_
  rintro e w3 ⟨a3, n3, m3, rfl, h3⟩
  clear ht
  go_wp2_with fail
  go_ret2
  exact ⟨_, _, _, rfl, h3.out.1.keep HB.out.size (fun _ _ _ => rfl) (Nat.le_refl _), h3.out.2.1, h3.out.2.2⟩
end Tq
end Go.Proofs.YtiihgnagjemikaaGreatDoor
/- keep's few, either way; a text that may run, or none. -/
namespace Go.Proofs.YtiihgnagjemikaaGreatDoor
open Go.RowKit Px
namespace Kx
theorem few_no {w : World} {iv : Value} {zss : List (List Int)} (hI : IRws w iv zss) (h : ¬ Few zss) : Calls Tryz.prog 4 #[iv] w fun e w' => e = .returned (.bool false) ∧ w' = w := (few_any hI).mono fun e w' ⟨h', hw⟩ => ⟨by
    rcases h' with ⟨_, hn⟩ | ⟨he, _⟩
    · exact absurd hn h
    · exact he, hw⟩
theorem few_yes {w : World} {iv : Value} {zss : List (List Int)} (hI : IRws w iv zss) (h : Few zss) : Calls Tryz.prog 4 #[iv] w fun e w' => e = .returned (.bool true) ∧ w' = w := (few_any hI).mono fun e w' ⟨h', hw⟩ => ⟨by
    rcases h' with ⟨he, _⟩ | ⟨_, hn⟩
    · exact he
    · exact absurd h hn, hw⟩
/-- a text that may run, or keep's chart says no -/
theorem may_or (s : ByteArray) : (∃ l c, s.size ≤ 1500 ∧ Lx.Ok (bs s) l ∧ chart (fin s l) = .ok c ∧ checkC c = none) ∨ ∀ w, KEnv0 w → Calls Tryz.prog 9 #[.string s] w fun e w' => e = .returned (.tuple #[.agg #[.string ⟨#[]⟩, .slice none 0 0, .slice none 0 0], .bool false]) ∧ Hid (Below w.heap.size w w') := by
  by_cases h : ∃ l c, s.size ≤ 1500 ∧ Lx.Ok (bs s) l ∧ chart (fin s l) = .ok c
  · obtain ⟨l, c, h1, h2, h3⟩ := h
    by_cases hc : checkC c = none
    · exact .inl ⟨l, c, h1, h2, h3, hc⟩
    · refine .inr fun w hv => (chart_drawn h1 hv h2 h3).mono fun e w' h => ?_
      rcases h with ⟨hn, _⟩ | ⟨_, he, hb⟩
      · exact absurd hn hc
      · exact ⟨he, hb⟩
  · exact .inr fun w hv => chart_none hv fun h1 l c h2 => h ⟨l, c, h1, h2.1, h2.2⟩
end Kx
end Go.Proofs.YtiihgnagjemikaaGreatDoor
/- chapter 14: the program's Print. -/
namespace Go.Proofs.YtiihgnagjemikaaGreatDoor
open Go.RowKit
namespace Tq
open Nx (Ints lt_of_block)
/-- a builder at b that holds these bytes -/
def Bld (w : World) (b : Nat) (l : By) : Prop := Lib.IsBuilderF 52 5 b b (Lib.byteCells l) w
theorem ws_any (b : Nat) (l : By) (x : ByteArray) (w : World) (h : Bld w b l) (hu : l.length + x.size ≤ 100000000) (hb : b ≤ w.heap.size) :
    Calls Tryz.prog 14 #[.pointer (some ⟨b, 0, none⟩), .string x] w fun e w' => e = .returned (.tuple #[.int .i64 x.size, .nilIface]) ∧ Hid (Bld w' b (l ++ x.data.toList) ∧ Below b w w') := by
  refine (Tryz.Builder_WriteString_k b b _ x w h (by rw [Lib.byteCells_length]; omega) hb).mono ?_
  rintro e w' ⟨rfl, h1, h2, h3⟩
  refine ⟨rfl, ?_, h2⟩
  unfold Bld
  rw [Lib.byteCells_append, ← Lib.strCells_eq]
  exact .inr h1
theorem wr_any (b : Nat) (l : By) (w : World) (h : Bld w b l) (hu : l.length ≤ 100000000) (hb : b ≤ w.heap.size) :
    Calls Tryz.prog 13 #[.pointer (some ⟨b, 0, none⟩), .int .i32 32] w fun e w' => e = .returned (.tuple #[.int .i64 1, .nilIface]) ∧ Hid (Bld w' b (l ++ [32]) ∧ Below b w w') := by
  refine (Tryz.Builder_WriteRune_k b b _ 32 (by omega) (by omega) w h (by rw [Lib.byteCells_length]; omega) hb).mono ?_
  rintro e w' ⟨rfl, h1, h2, h3⟩
  have e1 : Lib.runeCells 32 = Lib.byteCells [32] := by simp [Lib.runeCells, Lib.encodeRuneZ_one, Lib.byteCells]
  rw [e1] at h1
  refine ⟨by rw [e1]; rfl, ?_, h2⟩
  unfold Bld
  rw [Lib.byteCells_append]
  exact .inr h1
theorem bs_any (b : Nat) (l : By) (w : World) (h : Bld w b l) (hb : b ≤ w.heap.size) :
    Calls Tryz.prog 16 #[.pointer (some ⟨b, 0, none⟩)] w fun e w' => e = .returned (.string (st l)) ∧ Hid (Below b w w') :=
  (Tryz.Builder_String_any_k b b l w h hb).mono fun _ _ ⟨he, _, h2, _⟩ => ⟨he, h2⟩
theorem bld_new (w : World) : Bld (w.alloc (.cells #[.pointer none, .slice none 0 0] 52)) w.heap.size [] :=
  .inl ⟨Nat.le_refl _, .slice none 0 0, heap_alloc_new _ _, World.ownsRowF_nil _ _ _ _, by simp [Value.ownBlock]⟩
/-- what leaves the builder and all bytes alone -/
theorem Bld.below {w w' : World} {b : Nat} {l : By} (h : Bld w b l) (k : Below w.heap.size w w') : Bld w' b l := by
  have key : ∀ p, Lib.BuilderAtF 52 5 b b p (Lib.byteCells l) w → Lib.BuilderAtF 52 5 b b p (Lib.byteCells l) w' := by
    rintro p ⟨hB, v, hv, hown, hne⟩
    refine ⟨hB, v, by rw [k.block b (lt_of_block hv)]; exact hv, ⟨hown.1, ?_⟩, hne⟩
    rcases hown.2 with hn | ⟨g, cap, cur, fz, rfl, hbg, hg, rest⟩
    · exact .inl hn
    · exact .inr ⟨g, cap, cur, fz, rfl, hbg, by rw [k.block g (lt_of_block hg)]; exact hg, rest⟩
  exact h.imp (key _) (key _)
set_option maxRecDepth 100000 in
set_option maxHeartbeats 8000000 in
theorem print_any {rows : List (List Int)} {v : Value} {w : World} (hr : RowsI w v rows) (hg : GV w) (hN : ∀ k j, I64 ((rows.getD k []).getD j 0)) (hl : rows.length ≤ 1000) (hm : ∀ k, k < rows.length → (rows.getD k []).length ≤ 1000) :
    Calls Tryz.prog 7 #[v] w fun e w' => e = .returned (.string (st (printT rows))) ∧ Hid (Below w.heap.size w w') := by
  obtain ⟨aR, bR, oR, cR, rfl, hRa, hRc⟩ := hr
  obtain ⟨n, hn⟩ : ∃ n, n = rows.length := ⟨_, rfl⟩
  obtain ⟨b, hb⟩ : ∃ b, b = w.heap.size := ⟨_, rfl⟩
  obtain ⟨U, hU⟩ : ∃ U, U = w.alloc (.cells #[.pointer none, .slice none 0 0] 52) := ⟨_, rfl⟩
  have HR : Hid ((0 < n → aR = some ⟨bR, oR, none⟩) ∧ (∀ k, k < n → ∃ u, w.cell? ⟨bR, oR + k, none⟩ = some u ∧ Ints (fun b => b < w.heap.size) w u (rows.getD k [])) ∧ n = rows.length ∧ (∀ k j, I64 ((rows.getD k []).getD j 0)) ∧ (∀ k, k < n → (rows.getD k []).length ≤ 1000) ∧ GV w) := ⟨by rw [hn]; exact hRa, by rw [hn]; exact hRc, hn, hN, by rw [hn]; exact hm, hg⟩
  have HB : Hid (Bld U b [] ∧ Below b w U ∧ b = w.heap.size) := ⟨by rw [hU, hb]; exact bld_new w, by rw [hU, hb]; exact ck_grown w _, hb⟩
  have hPL := fun k (hk : k ≤ rows.length) => print_len hN hm k hk
  have HP : Hid (∀ k, k ≤ n → (printT (rows.take k)).length ≤ 22001 * k) := by rw [hn]; exact hPL
  rw [← hn] at hl ⊢
  clear hRa hRc hN hm hg hn hPL
  go_enter Tryz.func7, Tryz.ntmps7
  go_upto_region 2 with fail
  rw [← hU, ← hb]
  clear hU hb
  go_wp2_with fail
  go_loopw [10] (fun i wr => ∃ k : Nat, k ≤ n ∧ i = .int .i64 k ∧ Hid (Bld wr b (printT (rows.take k)) ∧ Below b w wr)) (fun i _ => n - (intOf i).toNat)
  case atStart => exact ⟨0, Nat.zero_le _, rfl, HB.out.1, HB.out.2.1⟩
  case round =>
    obtain ⟨k, hk, rfl, HK⟩ := hrel
    by_cases hlt : k < n
    · have hix := ixRow aR bR oR n cR k hlt HR.out.1
      obtain ⟨u, hu, hi⟩ := HR.out.2.1 k hlt
      obtain ⟨ai, bi, oi, ci, rfl, hi1, hi2⟩ := hi
      have cx : wr.cell? ⟨bR, oR + k, none⟩ = some (.slice ai (rows.getD k []).length ci) := by
        have h := HK.out.2
        rw [HB.out.2.2] at h
        exact ck_cell h hu
      obtain ⟨row, hrow⟩ : ∃ row, row = rows.getD k [] := ⟨_, rfl⟩
      obtain ⟨m, hm⟩ : ∃ m, m = row.length := ⟨_, rfl⟩
      rw [← hrow, ← hm] at cx
      have hm1 : m ≤ 1000 := by rw [hm, hrow]; exact HR.out.2.2.2.2.1 k hlt
      have HI : Hid ((0 < m → ai = some ⟨bi, oi, none⟩) ∧ (∀ j, j < m → w.cell? ⟨bi, oi + j, none⟩ = some (.int .i64 (row.getD j 0))) ∧ m = row.length ∧ row = rows.getD k [] ∧ (∀ j, I64 (row.getD j 0)) ∧ (printT (rows.take k)).length ≤ 22001 * k) := ⟨fun hp => (hi1 (by rw [← hrow, ← hm]; exact hp)).1, fun j hj => by rw [hrow]; exact hi2 j (by rw [← hrow, ← hm]; exact hj), hm, hrow, fun j => by rw [hrow]; exact HR.out.2.2.2.1 k j, HP.out k hk⟩
      clear hu hi1 hi2 hrow hm
      go_wp2_with fail
      go_loopw [16] (fun i wq => ∃ j : Nat, j ≤ m ∧ i = .int .i64 j ∧ Hid (Bld wq b (printT (rows.take k) ++ rowK (row.take j)) ∧ Below b w wq)) (fun i _ => m - (intOf i).toNat)
      case atStart => exact ⟨0, Nat.zero_le _, rfl, by rw [show row.take 0 = [] from rfl, show rowK [] = [] from rfl, List.append_nil]; exact HK.out.1, HK.out.2⟩
      case round =>
        obtain ⟨j, hj, rfl, HJ⟩ := hrel
        have hbw : b ≤ wr.heap.size := by have := HB.out.2.2; have := HJ.out.2.size; omega
        by_cases hjt : j < m
        · have hiy := ixNum ai bi oi m ci j hjt HI.out.1
          obtain ⟨x, hx⟩ : ∃ x, x = row.getD j 0 := ⟨_, rfl⟩
          have cy : wr.cell? ⟨bi, oi + j, none⟩ = some (.int .i64 x) := by
            have h := HJ.out.2
            rw [HB.out.2.2] at h
            rw [hx]; exact ck_cell h (HI.out.2.1 j hjt)
          have hx64 : I64 x := by rw [hx]; exact HI.out.2.2.2.2.1 j
          have hlen : (printT (rows.take k) ++ rowK (row.take j)).length ≤ 22001 * k + 22 * j := by
            rw [List.length_append]
            have := HI.out.2.2.2.2.2
            have := rowK_len HI.out.2.2.2.2.1 (j := j) (by rw [← HI.out.2.2.1]; exact hj)
            omega
          have hil := Lib.itoa_length_le x hx64.1 hx64.2
          have hgr : GV wr := HR.out.2.2.2.2.2.below HJ.out.2 (by rw [HB.out.2.2]; exact HR.out.2.2.2.2.2.big)
          obtain ⟨pk, hpk⟩ : ∃ pk, pk = printT (rows.take k) ++ rowK (row.take j) := ⟨_, rfl⟩
          rw [← hpk] at hlen
          have HX : Hid (x = row.getD j 0 ∧ j < row.length ∧ I64 x ∧ (Lib.itoa x).length ≤ 21 ∧ pk.length ≤ 22001 * k + 22 * j ∧ GV wr ∧ pk = printT (rows.take k) ++ rowK (row.take j) ∧ Bld wr b pk) := ⟨hx, by rw [← HI.out.2.2.1]; exact hjt, hx64, hil, hlen, hgr, hpk, by rw [hpk]; exact HJ.out.1⟩
          have hbound : 22001 * k + 22 * j ≤ 50000000 := by omega
          clear hx hx64 hil hlen hgr hpk hix cx
          by_cases hj0 : j = 0
          · have hj0' : ¬ (0 : Int) < (j : Int) := by omega
            have HJ0 : Hid (j = 0) := hj0
            clear hj0
            have hfm := fmt_any HX.out.2.2.1 HX.out.2.2.2.2.2.1
            go_wp2_with (first
              | (go_at_call 15; refine hfm.mono ?_; rintro e w3 ⟨rfl, h3⟩; clear hfm
                 have hws := ws_any b pk (st (Lib.itoa x)) w3 (HX.out.2.2.2.2.2.2.2.below h3.out) (by rw [st_size]; have := HX.out; omega) (Nat.le_trans hbw h3.out.size))
              | (go_at_call 14; refine hws.mono ?_; rintro e w4 ⟨rfl, h4⟩; clear hws))
            go_roundw
            case rel => exact ⟨j + 1, by omega, by go_num, by
              have h := h4.out.1
              have hx := HX.out.1
              have hl := HX.out.2.1
              rw [HX.out.2.2.2.2.2.2.1] at h
              rw [HJ0.out] at h hx hl ⊢
              rw [row_first hl, ← hx]
              simpa [rowK] using h, HJ.out.2.trans ((h3.out.mono hbw).trans h4.out.2)⟩
            case measure => simp [intOf]; omega
          · have hj0' : (0 : Int) < (j : Int) := by omega
            have HJ0 : Hid (0 < j) := by show 0 < j; omega
            clear hj0
            have hwr := wr_any b pk wr HX.out.2.2.2.2.2.2.2 (by have := HX.out; omega) hbw
            go_wp2_with (first
              | (go_at_call 13; refine hwr.mono ?_; rintro e w2 ⟨rfl, h2⟩; clear hwr
                 have hfm := fmt_any (w := w2) HX.out.2.2.1 (HX.out.2.2.2.2.2.1.below h2.out.2 (by rw [HB.out.2.2]; exact HR.out.2.2.2.2.2.big)))
              | (go_at_call 15; refine hfm.mono ?_; rintro e w3 ⟨rfl, h3⟩; clear hfm
                 have hws := ws_any b (pk ++ [32]) (st (Lib.itoa x)) w3 (h2.out.1.below h3.out) (by rw [st_size, List.length_append, List.length_singleton]; have := HX.out; omega) (Nat.le_trans hbw (Nat.le_trans h2.out.2.size h3.out.size)))
              | (go_at_call 14; refine hws.mono ?_; rintro e w4 ⟨rfl, h4⟩; clear hws))
            go_roundw
            case rel => exact ⟨j + 1, by omega, by go_num, by
              rw [row_more HX.out.2.1 HJ0.out, ← HX.out.1]
              have := h4.out.1
              rw [HX.out.2.2.2.2.2.2.1] at this
              simpa [List.append_assoc] using this, HJ.out.2.trans (h2.out.2.trans ((h3.out.mono (Nat.le_trans hbw h2.out.2.size)).trans h4.out.2))⟩
            case measure => simp [intOf]; omega
        · obtain rfl : j = m := by omega
          have hlen : (printT (rows.take k) ++ rowK (row.take j)).length ≤ 22001 * k + 22 * j := by
            rw [List.length_append]
            have := HI.out.2.2.2.2.2
            have := rowK_len HI.out.2.2.2.2.1 (j := j) (by rw [← HI.out.2.2.1]; exact hj)
            omega
          have hws := ws_any b _ ⟨#[10]⟩ wr HJ.out.1 (by have : (⟨#[10]⟩ : ByteArray).size = 1 := rfl; rw [this]; omega) hbw
          clear hlen hix cx
          go_wp2_with (go_at_call 14; refine hws.mono ?_; rintro e w4 ⟨rfl, h4⟩; clear hws)
          go_roundw
          case rel => exact ⟨k + 1, by omega, by go_num, by
            rw [print_more (by rw [← HR.out.2.2.1]; exact hlt), ← HI.out.2.2.2.1]
            have := h4.out.1
            rw [HI.out.2.2.1, List.take_length] at this
            simpa [List.append_assoc] using this, HJ.out.2.trans h4.out.2⟩
          case measure => simp [intOf]; omega
    · obtain rfl : k = n := by omega
      have hbs := bs_any b _ wr HK.out.1 (by have := HB.out.2.2; have := HK.out.2.size; omega)
      rw [HR.out.2.2.1, List.take_length] at hbs
      go_wp2_with (go_at_call 16; refine hbs.mono ?_; rintro e w4 ⟨rfl, h4⟩; clear hbs)
      go_ret
      refine ⟨rfl, ?_⟩
      have := HK.out.2.trans h4.out
      rw [HB.out.2.2] at this
      exact this
end Tq
end Go.Proofs.YtiihgnagjemikaaGreatDoor
/- chapter 14: rows that came in, appended to a row of one's own. -/
namespace Go.Proofs.YtiihgnagjemikaaGreatDoor
open Go.RowKit Px
attribute [-go_sem] Builtin.append_
namespace Tq
open Nx (Ints lt_of_block)
abbrev tR : TypeId := 31
abbrev tRR : TypeId := 22
/-- a row of one's own of rows that came in -/
def RowsO (wB : World) (B : Nat) (w : World) (v : Value) (rows : List (List Int)) : Prop :=
  ∃ xs : List Value, w.ownsRow B tR 1 v rows.length xs ∧ ∀ k, k < rows.length → ∃ a c, xs[k]? = some (.slice a (rows.getD k []).length c) ∧ INums wB (.slice a (rows.getD k []).length c) (rows.getD k [])
/-- nothing is appended -/
theorem app_none {B n c : Nat} {w : World} {v : Value} {xs : List Value} (h : w.ownsRow B tR 1 v n xs) : (Builtin.append_ #[tRR, tRR] tRR #[v, .slice none 0 c]).run Tryz.prog w = .ok v w := by
  obtain ⟨i0, hi, _⟩ := info_parts infoR
  have ht := Tryz.underlying22
  rcases h.2 with ⟨rfl, rfl⟩ | ⟨g, cap, cur, rfl, hbg, hg, hnc, hcm, hcs, htake⟩
  · simp [Builtin.append_, run_underlying ht, sizeOf, typeInfo, hi, Builtin.lenOf, Builtin.firstCells]
  · simp [Builtin.append_, run_underlying ht, sizeOf, typeInfo, hi, Builtin.lenOf, Builtin.firstCells, hnc, storeCells]
theorem RowsO.app {wB w : World} {B : Nat} {v src : Value} {l rows : List (List Int)} (h : RowsO wB B w v l) (hs : Kx.IRws wB src rows) (hb : Below wB.heap.size wB w) (hB : B ≤ w.heap.size) (hl : l.length + rows.length ≤ 1000) :
    ∃ ad cap w', (Builtin.append_ #[tRR, tRR] tRR #[v, src]).run Tryz.prog w = .ok (.slice ad (l.length + rows.length) cap) w' ∧ RowsO wB B w' (.slice ad (l.length + rows.length) cap) (l ++ rows) ∧ Below B w w' := by
  obtain ⟨xs, h1, h2⟩ := h
  obtain ⟨sa, sb, so, sc, rfl, s1, s2⟩ := hs
  by_cases h0 : rows = []
  · subst h0
    obtain ⟨ad, cap, rfl⟩ := ownForm h1
    cases sa with
    | none =>
      refine ⟨ad, cap, w, app_none h1, ?_, Below.refl _ _⟩
      rw [List.append_nil]
      exact ⟨xs, h1, h2⟩
    | some a0 =>
      obtain ⟨i0, hi, hz0, hz1, hz2⟩ := info_parts infoR
      obtain ⟨v', w', hr, hown, hg, _, _⟩ := run_append_own_at (P := Tryz.prog) w B tRR tRR tR i0 (.slice none 0 0) 1 24 Tryz.underlying22 hi hz0 hz1 hz2 rfl (by decide) _ l.length xs h1 a0 0 sc [] rfl
        (fun j u hu => by simp at hu) (fun u hu => by cases hu) (by unfold maxLen; omega) (by omega) hB
      obtain ⟨ad', cap', rfl⟩ := ownForm hown
      rw [List.append_nil] at hown
      refine ⟨ad', cap', w', hr, by rw [List.append_nil]; exact ⟨xs, hown, h2⟩, hg.os, hg.tape, hg.output, hg.size, fun b hb' => hg.block b (by omega) (fun e => by have := (h1.lt b e.symm).1; omega)⟩
  · have hp : 0 < rows.length := List.length_pos_iff.2 h0
    obtain rfl := s1 hp
    obtain ⟨i0, hi, hz0, hz1, hz2⟩ := info_parts infoR
    obtain ⟨news, hnews⟩ : ∃ news : List Value, news = (List.range rows.length).map fun k => (w.cell? ⟨sb, so + k, none⟩).getD undef := ⟨_, rfl⟩
    have hnl : news.length = rows.length := by rw [hnews]; simp
    have hat : ∀ k, k < rows.length → ∃ a c, news[k]? = some (.slice a (rows.getD k []).length c) ∧ w.cell? ⟨sb, so + k, none⟩ = some (.slice a (rows.getD k []).length c) ∧ INums wB (.slice a (rows.getD k []).length c) (rows.getD k []) := fun k hk => by
      have hget : rows[k]? = some (rows.getD k []) := by rw [List.getD_eq_getElem?_getD, List.getElem?_eq_getElem hk]; rfl
      obtain ⟨a, c, e1, e2⟩ := s2 k _ hget
      have e3 := ck_cell hb e1
      refine ⟨a, c, ?_, e3, e2⟩
      rw [hnews, List.getElem?_map, List.getElem?_range hk]
      simp [e3]
    obtain ⟨v', w', hr, hown, hg, _, _⟩ := run_append_own_at (P := Tryz.prog) w B tRR tRR tR i0 (.slice none 0 0) 1 24 Tryz.underlying22 hi hz0 hz1 hz2 rfl (by decide) v l.length xs h1 ⟨sb, so, none⟩ rows.length sc news (by rw [hnl, Nat.mul_one])
      (fun j u hu => by
        have hj := (List.getElem?_eq_some_iff.1 hu).1
        obtain ⟨a, c, e1, e2, _⟩ := hat j (by omega)
        obtain rfl := Option.some.inj (e1.symm.trans hu)
        have ad : (⟨sb, so, none⟩ : Addr).add j = ⟨sb, so + j, none⟩ := by unfold Addr.add; split <;> simp_all
        rw [ad]
        exact e2)
      (fun u hu => by
        obtain ⟨j, hj, e⟩ := List.mem_iff_getElem.1 hu
        obtain ⟨a, c, e1, _, _⟩ := hat j (by omega)
        rw [List.getElem?_eq_getElem hj, e] at e1
        obtain rfl := Option.some.inj e1.symm
        rfl) (by unfold maxLen; omega) (by omega) hB
    obtain ⟨ad', cap', rfl⟩ := ownForm hown
    have hlx : xs.length = l.length := by rw [h1.1, Nat.mul_one]
    refine ⟨ad', cap', w', hr, ⟨xs ++ news, by rw [List.length_append]; exact hown, fun k hk => ?_⟩, hg.os, hg.tape, hg.output, hg.size, fun b hb' => hg.block b (by omega) (fun e => by have := (h1.lt b e.symm).1; omega)⟩
    rw [List.length_append] at hk
    by_cases hlt : k < l.length
    · have e : (l ++ rows).getD k [] = l.getD k [] := by rw [List.getD_eq_getElem?_getD, List.getElem?_append_left hlt, ← List.getD_eq_getElem?_getD]
      rw [e, List.getElem?_append_left (by omega)]
      exact h2 k hlt
    · have e : (l ++ rows).getD k [] = rows.getD (k - l.length) [] := by rw [List.getD_eq_getElem?_getD, List.getElem?_append_right (by omega), ← List.getD_eq_getElem?_getD]
      rw [e, List.getElem?_append_right (by omega), hlx]
      obtain ⟨a, c, e1, _, e3⟩ := hat (k - l.length) (by omega)
      exact ⟨a, c, e1, e3⟩
theorem RowsO.irws {wB w : World} {B : Nat} {v : Value} {l : List (List Int)} (h : RowsO wB B w v l) (hb : Below wB.heap.size wB w) : Kx.IRws w v l := by
  obtain ⟨xs, h1, h2⟩ := h
  rcases h1.2 with ⟨rfl, h0⟩ | ⟨g, cap, cur, rfl, _⟩
  · exact ⟨none, 0, 0, 0, by rw [h0], fun h => absurd h (by omega), fun k zs hk => by have := (List.getElem?_eq_some_iff.1 hk).1; omega⟩
  · refine ⟨_, g, 0, cap, rfl, fun _ => rfl, fun k zs hk => ?_⟩
    have hkl := (List.getElem?_eq_some_iff.1 hk).1
    have hz : l.getD k [] = zs := by rw [List.getD_eq_getElem?_getD, hk]; rfl
    obtain ⟨a, c, h3, h4⟩ := h2 k hkl
    rw [hz] at h3 h4
    have h5 := h1.cells (g := g) rfl k _ h3
    have ad : (⟨g, 0, none⟩ : Addr).add k = ⟨g, k, none⟩ := by unfold Addr.add; split <;> simp_all
    rw [ad] at h5
    exact ⟨a, c, by rw [Nat.zero_add]; exact h5, h4.below hb⟩
/-- an empty row of one's own -/
theorem RowsO.new (wB w : World) (B : Nat) (hB : B ≤ w.heap.size) : RowsO wB B (w.alloc (.cells #[] tR)) (.slice (some ⟨w.heap.size, 0, none⟩) 0 0) [] :=
  ⟨[], ⟨rfl, .inr ⟨w.heap.size, 0, #[], rfl, hB, ck_new w _, Nat.le_refl _, by unfold maxLen; omega, rfl, rfl⟩⟩, fun k hk => absurd hk (by simp)⟩
end Tq
end Go.Proofs.YtiihgnagjemikaaGreatDoor
/- chapter 14: keep's traced: two ticks of the small chart, read and printed. -/
namespace Go.Proofs.YtiihgnagjemikaaGreatDoor
open Go.RowKit Px
attribute [-go_sem] Builtin.append_
namespace Tq
open Nx (Ints lt_of_block)
theorem itoa_one {d : Nat} (h : d < 10) : Lib.itoa (d : Int) = [UInt8.ofNat (48 + d)] := by
  unfold Lib.itoa
  rw [if_neg (by omega), Int.toNat_natCast, Lib.decDigits_one h]
theorem five : numW [53] = some 5 := by
  have h := numW_itoa (n := ((5 : Nat) : Int)) ⟨by omega, by omega⟩
  rw [itoa_one (by omega)] at h
  exact h
theorem small_read : readT [53, 10, 32, 53, 32, 10] = .ok [[5], [5]] := by
  have e1 : linesT [53, 10, 32, 53, 32, 10] = [[53], [32, 53, 32]] := by decide
  have e2 : wordsT [53] = [[53]] := by decide
  have e3 : wordsT [32, 53, 32] = [[53]] := by decide
  unfold readT
  rw [e1]
  simp [rdT, e2, e3, numsW, five]
theorem small_print : printT [[2], [7]] = [50, 10, 55, 10] := by
  have e2 := itoa_one (d := 2) (by omega)
  have e7 := itoa_one (d := 7) (by omega)
  have d2 : Lib.itoa 2 = [50] := e2
  have d7 : Lib.itoa 7 = [55] := e7
  simp [printT, rowT, rowK, d2, d7]
theorem small_outs : outsR Kx.smallC (newC Kx.smallC) [[5], [5]] = [[2], [7]] := by
  obtain ⟨r1, r2, t1, o1, t2, o2, _⟩ := Kx.small_ticks
  have s1 : stepC Kx.smallC [5] (newC Kx.smallC) = r1 := by unfold stepC; rw [t1]; rfl
  have s2 : stepC Kx.smallC [5] r1 = r2 := by unfold stepC; rw [t2]; rfl
  rw [outsR, outsR, outsR, s1, s2, o1, o2]
theorem small_vars : Kx.smallC.vars.length ≤ 1000 := by decide
set_option maxRecDepth 100000 in
theorem small_run : Kx.RunC Kx.smallC := by
  obtain ⟨hok, hch⟩ := Kx.small_ok (s := ⟨Kx.smallL.toArray⟩) rfl
  exact Kx.runC hok hch Kx.small_check
set_option maxRecDepth 100000 in
theorem small_drawn {w : World} (hv : Kx.KEnv0 w) : Calls Tryz.prog 9 #[.string ⟨Kx.smallL.toArray⟩] w fun e w' => ∃ S a n m a' n' m', e = .returned (.tuple #[.agg #[.string S, .slice a n m, .slice a' n' m'], .bool true]) ∧ Hid (IsChart (fun b => w.heap.size < b) w' Kx.smallC (.agg #[.string S, .slice a n m, .slice a' n' m']) ∧ Below w.heap.size w w') := by
  obtain ⟨sm, hsm⟩ : ∃ sm : ByteArray, sm = ⟨Kx.smallL.toArray⟩ := ⟨_, rfl⟩
  obtain ⟨hok, hch⟩ := Kx.small_ok (s := sm) (by rw [hsm])
  have hsz : sm.size ≤ 1500 := by
    have : sm.size = Kx.smallL.length := by rw [hsm]; rfl
    rw [this]; decide
  rw [← hsm]
  refine (Kx.chart_drawn hsz hv hok hch).mono fun e w' h => ?_
  rcases h with ⟨_, S, a, n, m, a', n', m', he, hC⟩ | ⟨hne, _⟩
  · exact ⟨S, a, n, m, a', n', m', he, hC⟩
  · exact absurd Kx.small_check hne
theorem small_reads {w : World} (hg : GV w) : Calls Tryz.prog 6 #[.string ⟨#[53, 10, 32, 53, 32, 10]⟩] w fun e w' => ∃ ad cap, e = .returned (.tuple #[.slice ad 2 cap, .nilIface]) ∧ Hid (Below w.heap.size w w' ∧ OutR w.heap.size w' (.slice ad 2 cap) [[5], [5]]) := by
  refine (read_any (l := [53, 10, 32, 53, 32, 10]) (by decide) hg).mono ?_
  rintro e w' ⟨ad, n, cap, ev, rfl, h⟩
  obtain ⟨h1, h2⟩ := h.out
  rw [small_read] at h2
  obtain ⟨rfl, h3⟩ := h2
  obtain ⟨ad', cap', e⟩ := h3.form
  injection e with _ e2 _
  have e2 : n = 2 := e2
  subst e2
  exact ⟨ad, cap, rfl, h1, h3⟩
set_option maxRecDepth 100000 in
set_option maxHeartbeats 4000000 in
theorem traced_any {w : World} (hg : GV w) (hv : Kx.KEnv0 w) : Calls Tryz.prog 5 #[] w fun e w' => e = .returned (.bool true) ∧ Hid (Below w.heap.size w w') := by
  have hrd := small_reads hg
  have H0 : Hid (GV w ∧ Kx.KEnv0 w) := ⟨hg, hv⟩
  clear hg hv
  go_enter Tryz.func5, Tryz.ntmps5
  go_wp2_with fail
  refine hrd.mono ?_
  rintro e w1 ⟨a1, c1, rfl, h1⟩
  clear hrd
  have hc1 := small_drawn (H0.out.2.up h1.out.1)
  go_wp2_with fail
  refine hc1.mono ?_
  rintro e w2 ⟨S, a, n, m, a', n', m', rfl, h2⟩
  clear hc1
  obtain ⟨W2, hW2⟩ : ∃ W2, W2 = w2.alloc (.cells #[.string S, .slice a n m, .slice a' n' m'] 35) := ⟨_, rfl⟩
  have hg2 : Below w2.heap.size w2 W2 := by rw [hW2]; exact ck_grown _ _
  have k2 : W2.heap[w2.heap.size]? = some (.cells #[.string S, .slice a n m, .slice a' n' m'] 35 (0, 0)) := by rw [hW2]; exact ck_new _ _
  have b2 : Below w1.heap.size w1 W2 := ck_all h2.out.2 hg2
  have hct := chart_told (rows := [[5], [5]]) (Kx.chartUp (Kx.chart_in h2.out.1) hg2) small_run (fun b hb => Nat.lt_of_lt_of_le hb.2 hg2.size) (h1.out.2.rows.below b2) (fun r hr z hz => by
    have : z = 5 := by
      simp at hr
      subst hr
      simpa using hz
    subst this
    exact ⟨by omega, by omega⟩) (by decide)
  rw [small_outs] at hct
  have HB : Hid (W2 = w2.alloc (.cells #[.string S, .slice a n m, .slice a' n' m'] 35) ∧ Below w.heap.size w W2) := ⟨hW2, ck_all h1.out.1 b2⟩
  have x0 := cell_row k2 0 (u := .string S) rfl
  have x1 := cell_row k2 1 (u := .slice a n m) rfl
  have x2 := cell_row k2 2 (u := .slice a' n' m') rfl
  rw [hW2] at hct x0 x1 x2
  clear h1 h2 hg2 k2 b2 hW2
  go_wp2_with fail
  refine hct.mono ?_
  rintro e w3 ⟨a3, n3, m3, rfl, h3⟩
  clear hct x0 x1 x2
  rw [← HB.out.1] at h3
  have b3 : Below w.heap.size w w3 := ck_all HB.out.2 h3.out.2.2
  have hp := print_any (rowsI_of h3.out.1.rows) (H0.out.1.below b3 H0.out.1.big) (i64_of h3.out.2.1) (by decide) (fun k hk => by
    have hk : k < 2 := hk
    rcases (show k = 0 ∨ k = 1 by omega) with rfl | rfl <;> decide)
  rw [small_print] at hp
  have HB3 : Hid (Below w.heap.size w w3) := b3
  clear h3 b3
  go_wp2_with fail
  refine hp.mono ?_
  rintro e w4 ⟨rfl, h4⟩
  clear hp
  go_wp2_with fail
  go_ret
  exact ⟨rfl, ck_all HB3.out h4.out⟩
end Tq
end Go.Proofs.YtiihgnagjemikaaGreatDoor
/- chapter 14: the law TraceBack, of whatever it is handed. -/
namespace Go.Proofs.YtiihgnagjemikaaGreatDoor
open Go.RowKit Px
attribute [-go_sem] Builtin.append_
namespace Tq
open Nx (Ints lt_of_block)
theorem few_len {rows : List (List Int)} (h : Kx.Few rows) (k : Nat) : (rows.getD k []).length ≤ 30 := by
  by_cases hk : k < rows.length
  · have e : rows.getD k [] = rows[k] := by rw [List.getD_eq_getElem?_getD, List.getElem?_eq_getElem hk]; rfl
    rw [e]
    exact h.2 _ (List.getElem_mem hk)
  · have e : rows.getD k [] = [] := by rw [List.getD_eq_getElem?_getD, List.getElem?_eq_none (by omega)]; rfl
    rw [e]
    exact Nat.zero_le _
theorem print_size {rows : List (List Int)} (h : Kx.Few rows) (hN : ∀ r ∈ rows, ∀ z ∈ r, N64 z) : (printT rows).length ≤ 40000 := by
  have h1 := print_len (i64_of hN) (fun k _ => few_len h k) rows.length (Nat.le_refl _)
  rw [List.take_length] at h1
  have h2 := h.1
  have h3 : (22 * 30 + 1) * rows.length ≤ (22 * 30 + 1) * 40 := Nat.mul_le_mul (Nat.le_refl _) h2
  omega
theorem reads_back {rows : List (List Int)} (h : Kx.Few rows) (hN : ∀ r ∈ rows, ∀ z ∈ r, N64 z) {w : World} (hg : GV w) :
    Calls Tryz.prog 6 #[.string (st (printT rows))] w fun e w' => ∃ ad cap, e = .returned (.tuple #[.slice ad rows.length cap, .nilIface]) ∧ Hid (Below w.heap.size w w' ∧ OutR w.heap.size w' (.slice ad rows.length cap) rows) := by
  refine (read_any (print_size h hN) hg).mono ?_
  rintro e w' ⟨ad, n, cap, ev, rfl, h'⟩
  obtain ⟨h1, h2⟩ := h'.out
  rw [read_print hN (by have := h.1; omega)] at h2
  obtain ⟨rfl, h3⟩ := h2
  obtain ⟨ad', cap', e⟩ := h3.form
  injection e with _ e2 _
  subst e2
  exact ⟨ad, cap, rfl, h1, h3⟩
theorem rows_take {w : World} {ad : Option Addr} {n k cap : Nat} {rows : List (List Int)} (h : Kx.IRws w (.slice ad n cap) rows) (hk : k ≤ rows.length) : Kx.IRws w (.slice ad k cap) (rows.take k) := by
  obtain ⟨a, b, off, c, e, h1, h2⟩ := h
  injection e with e1 e2 e3
  subst e1 e3
  have hl : (rows.take k).length = k := by rw [List.length_take]; omega
  refine ⟨ad, b, off, cap, by rw [hl], fun hp => h1 (by omega), fun j zs hj => h2 j zs ?_⟩
  rw [List.getElem?_take] at hj
  split at hj
  · exact hj
  · cases hj
theorem outr_cap {S : Nat} {w : World} {v : Value} {rows : List (List Int)} (h : OutR S w v rows) : capOk v := by
  obtain ⟨xs, h1, _⟩ := h
  exact own_cap h1
theorem outr_len {S n cap : Nat} {w : World} {ad : Option Addr} {rows : List (List Int)} (h : OutR S w (.slice ad n cap) rows) : n = rows.length := by
  obtain ⟨a, c, e⟩ := h.form
  injection e
/-- what a chart tells, printed -/
theorem outs_printed {c : Chart} {r : Rn} {l : List (List Int)} {w : World} {v : Value} (h : Kx.IRws w v (outsR c r l)) (hl : l.length ≤ 1000) (hv : c.vars.length ≤ 1000) (hN : ∀ z ∈ outsR c r l, ∀ y ∈ z, N64 y) (hg : GV w) :
    Calls Tryz.prog 7 #[v] w fun e w' => e = .returned (.string (st (printT (outsR c r l)))) ∧ Hid (Below w.heap.size w w') :=
  print_any (rowsI_of h) hg (i64_of hN) (by rw [outs_len]; exact hl) (fun k hk => by
    have e : (outsR c r l).getD k [] = (outsR c r l)[k] := by rw [List.getD_eq_getElem?_getD, List.getElem?_eq_getElem hk]; rfl
    rw [e]
    exact outs_row c (P := fun z => z.length ≤ 1000) (fun r => Nat.le_trans (outsC_len c r) hv) l r _ (List.getElem_mem hk))
/-- a text that may run -/
theorem drawn_runs {s : ByteArray} {l : List Lx.Tok} {c : Chart} {w : World} (hs : s.size ≤ 1500) (hv : Kx.KEnv0 w) (hok : Lx.Ok (bs s) l) (hch : chart (fin s l) = .ok c) (hcn : checkC c = none) :
    Calls Tryz.prog 9 #[.string s] w fun e w' => ∃ S a n m a' n' m', e = .returned (.tuple #[.agg #[.string S, .slice a n m, .slice a' n' m'], .bool true]) ∧ Hid (IsChart (fun b => w.heap.size < b) w' c (.agg #[.string S, .slice a n m, .slice a' n' m']) ∧ Below w.heap.size w w') := by
  refine (Kx.chart_drawn hs hv hok hch).mono fun e w' h => ?_
  rcases h with ⟨_, S, a, n, m, a', n', m', he, hC⟩ | ⟨hne, _⟩
  · exact ⟨S, a, n, m, a', n', m', he, hC⟩
  · exact absurd hcn hne
set_option maxRecDepth 100000 in
set_option maxHeartbeats 4000000 in
theorem back_first {s : ByteArray} {aA aB : Option Addr} {nA cA nB cB : Nat} {A : List (List Int)} {w : World} (hA : Kx.IRws w (.slice aA nA cA) A) (h : ¬ Kx.Few A) :
    Calls Tryz.prog 3 #[.string s, .slice aA nA cA, .slice aB nB cB] w fun e w' => e = .returned (.bool true) ∧ Hid (Below w.heap.size w w') := by
  have hf := Kx.few_no hA h
  clear hA h
  go_enter Tryz.func3, Tryz.ntmps3
  go_wp2_with (refine hf.mono ?_; rintro e w1 ⟨rfl, hw1⟩; obtain rfl := hw1)
  go_ret
  exact ⟨rfl, Below.refl _ _⟩
set_option maxRecDepth 100000 in
set_option maxHeartbeats 4000000 in
theorem back_second {s : ByteArray} {aA aB : Option Addr} {nA cA nB cB : Nat} {A B : List (List Int)} {w : World} (hA : Kx.IRws w (.slice aA nA cA) A) (hB : Kx.IRws w (.slice aB nB cB) B) (h : Kx.Few A) (h' : ¬ Kx.Few B) :
    Calls Tryz.prog 3 #[.string s, .slice aA nA cA, .slice aB nB cB] w fun e w' => e = .returned (.bool true) ∧ Hid (Below w.heap.size w w') := by
  have hf := Kx.few_yes hA h
  have hf' := Kx.few_no hB h'
  clear hA hB h h'
  go_enter Tryz.func3, Tryz.ntmps3
  go_wp2_with fail
  refine hf.mono ?_
  rintro e w1 ⟨rfl, hw1⟩
  obtain rfl := hw1
  go_wp2_with fail
  refine hf'.mono ?_
  rintro e w1 ⟨rfl, hw1⟩
  obtain rfl := hw1
  go_wp2_with fail
  go_ret
  exact ⟨rfl, Below.refl _ _⟩
set_option maxRecDepth 100000 in
set_option maxHeartbeats 8000000 in
theorem back_few {s : ByteArray} {aA aB : Option Addr} {nA cA nB cB : Nat} {A B : List (List Int)} {w : World} (hA : Kx.IRws w (.slice aA nA cA) A) (hB : Kx.IRws w (.slice aB nB cB) B) (hNA : ∀ r ∈ A, ∀ z ∈ r, N64 z) (hNB : ∀ r ∈ B, ∀ z ∈ r, N64 z)
    (h : Kx.Few A) (h' : Kx.Few B) (hg : GV w) (hv : Kx.KEnv0 w) :
    Calls Tryz.prog 3 #[.string s, .slice aA nA cA, .slice aB nB cB] w fun e w' => e = .returned (.bool true) ∧ Hid (Below w.heap.size w w') := by
  have hf := Kx.few_yes hA h
  have hf' := Kx.few_yes hB h'
  have htr := traced_any hg hv
  have HI : Hid (Kx.IRws w (.slice aA nA cA) A ∧ Kx.IRws w (.slice aB nB cB) B ∧ (∀ r ∈ A, ∀ z ∈ r, N64 z) ∧ (∀ r ∈ B, ∀ z ∈ r, N64 z) ∧ Kx.Few A ∧ Kx.Few B ∧ GV w ∧ Kx.KEnv0 w) := ⟨hA, hB, hNA, hNB, h, h', hg, hv⟩
  obtain ⟨oA, bA, hnA, hcA⟩ : ∃ oA bA, nA = A.length ∧ (0 < nA → aA = some ⟨bA, oA, none⟩) ∧ ∀ k, k < nA → ∃ a c, w.cell? ⟨bA, oA + k, none⟩ = some (.slice a (A.getD k []).length c) ∧ INums w (.slice a (A.getD k []).length c) (A.getD k []) := by
    obtain ⟨ad, b, off, cap, e, h1, h2⟩ := hA
    injection e with e1 e2 e3
    subst e1
    refine ⟨off, b, e2, fun hp => h1 (by omega), fun k hk => h2 k _ ?_⟩
    rw [List.getD_eq_getElem?_getD, List.getElem?_eq_getElem (by omega)]; rfl
  have hnB : nB = B.length := by
    obtain ⟨ad, b, off, cap, e, h1, h2⟩ := hB
    injection e
  have h40 : nA ≤ 40 := by rw [hnA]; exact h.1
  have h40' : nB ≤ 40 := by rw [hnB]; exact h'.1
  have HC : Hid ((0 < nA → aA = some ⟨bA, oA, none⟩) ∧ (∀ k, k < nA → ∃ a c, w.cell? ⟨bA, oA + k, none⟩ = some (.slice a (A.getD k []).length c) ∧ INums w (.slice a (A.getD k []).length c) (A.getD k [])) ∧ nA = A.length ∧ nB = B.length) := ⟨hcA.1, hcA.2, hnA, hnB⟩
  clear hA hB hNA hNB h h' hg hv hcA hnA hnB
  go_enter Tryz.func3, Tryz.ntmps3
  go_wp2_with fail
  refine hf.mono ?_
  rintro e w1 ⟨rfl, hw1⟩
  obtain rfl := hw1.symm
  clear hf
  go_wp2_with fail
  refine hf'.mono ?_
  rintro e w1' ⟨rfl, hw1⟩
  obtain rfl := hw1.symm
  clear hf'
  go_wp2_with fail
  refine htr.mono ?_
  rintro e w2 ⟨rfl, h2⟩
  clear htr
  have hp := print_any (rowsI_of (HI.out.1.below h2.out)) (HI.out.2.2.2.2.2.2.1.below h2.out HI.out.2.2.2.2.2.2.1.big) (i64_of HI.out.2.2.1) (by have := HI.out.2.2.2.2.1.1; omega) (fun k _ => by have := few_len HI.out.2.2.2.2.1 k; omega)
  obtain ⟨pr, hpr⟩ : ∃ pr, pr = st (printT A) := ⟨_, rfl⟩
  rw [← hpr] at hp
  go_wp2_with fail
  refine hp.mono ?_
  rintro e w3 ⟨rfl, h3⟩
  clear hp
  have hb3 := ck_all h2.out h3.out
  have hrd := reads_back HI.out.2.2.2.2.1 HI.out.2.2.1 (HI.out.2.2.2.2.2.2.1.below hb3 HI.out.2.2.2.2.2.2.1.big)
  rw [← hpr, ← HC.out.2.2.1] at hrd
  have HB3 : Hid (Below _ _ w3) := hb3
  clear hb3 h2 h3 hpr
  go_wp2_with fail
  refine hrd.mono ?_
  rintro e w4 ⟨aL, cL, rfl, h4⟩
  clear hrd
  obtain ⟨bL, oL, hcL⟩ : ∃ bL oL, (0 < nA → aL = some ⟨bL, oL, none⟩) ∧ ∀ k, k < nA → ∃ a c, w4.cell? ⟨bL, oL + k, none⟩ = some (.slice a (A.getD k []).length c) ∧ INums w4 (.slice a (A.getD k []).length c) (A.getD k []) := by
    obtain ⟨ad, b, off, cap, e, h1, h2⟩ := h4.out.2.rows
    injection e with e1 e2 e3
    subst e1
    refine ⟨b, off, fun hp => h1 (by have := HC.out.2.2.1; omega), fun k hk => h2 k _ ?_⟩
    rw [List.getD_eq_getElem?_getD, List.getElem?_eq_getElem (by have := HC.out.2.2.1; omega)]; rfl
  have HL : Hid ((0 < nA → aL = some ⟨bL, oL, none⟩) ∧ (∀ k, k < nA → ∃ a c, w4.cell? ⟨bL, oL + k, none⟩ = some (.slice a (A.getD k []).length c) ∧ INums w4 (.slice a (A.getD k []).length c) (A.getD k [])) ∧ Below w.heap.size w w4) := ⟨hcL.1, hcL.2, ck_all HB3.out h4.out.1⟩
  clear hcL h4
  go_wp2_with fail
  go_loopw [9] (fun i wr => ∃ k : Nat, k ≤ nA ∧ i = .int .i64 k ∧ Hid (Below w4.heap.size w4 wr)) (fun i _ => nA - (intOf i).toNat)
  case atStart => exact ⟨0, Nat.zero_le _, rfl, Below.refl _ _⟩
  case round =>
    obtain ⟨k, hk, rfl, HB⟩ := hrel
    by_cases hlt : k < nA
    · have hi1 := ixRow aL bL oL nA cL k hlt HL.out.1
      have hi2 := ixRow aA bA oA nA cA k hlt HC.out.1
      obtain ⟨a1, c1, z1, o1⟩ := HL.out.2.1 k hlt
      obtain ⟨a2, c2, z2, o2⟩ := HC.out.2.1 k hlt
      have y1 := ck_cell HB.out z1
      have y2 := ck_cell (ck_all HL.out.2.2 HB.out) z2
      have hdr : Below wr.heap.size wr wr.drew := (Below.refl _ _).drew
      have hsm := Kx.same_nums (w := wr.drew) (o1.below (ck_all HB.out hdr)) (o2.below (ck_all (ck_all HL.out.2.2 HB.out) hdr)) (by have := few_len HI.out.2.2.2.2.1 k; omega)
      generalize (A.getD k []).length = zl at y1 y2 hsm
      clear z1 z2 o1 o2 hdr
      go_wp2_with fail
      go_region_with (go_at_call 8; refine hsm.mono ?_; rintro e w6 ⟨rfl, h6⟩; clear hsm)
      all_goals
        go_wp2_with fail
        refine ⟨⟨k + 1, by omega, by go_num, ?_⟩, by simp [intOf]; omega⟩
        exact ck_all HB.out ((Below.refl wr.heap.size wr).drew.trans h6.out)
    · obtain rfl : nA = k := by omega
      have hbr := ck_all HL.out.2.2 HB.out
      rcases Kx.may_or s with ⟨l, c, hsz, hok, hch, hcn⟩ | hno
      · have hdr := drawn_runs hsz (HI.out.2.2.2.2.2.2.2.up hbr) hok hch hcn
        have hN0 := Sh.chart_w (wf_ok hok) hch
        have hvl : c.vars.length ≤ 1000 := by omega
        have HR : Hid (Kx.RunC c ∧ c.vars.length ≤ 1000 ∧ Below w.heap.size w wr) := ⟨Kx.runC hok hch hcn, hvl, hbr⟩
        clear hsz hok hch hcn hN0 hvl hbr
        go_wp2_with fail
        refine hdr.mono ?_
        rintro e w5 ⟨S, a, n, m, a', n', m', rfl, h5⟩
        clear hdr
        obtain ⟨W5, hW5⟩ : ∃ W5, W5 = w5.alloc (.cells #[.string S, .slice a n m, .slice a' n' m'] 35) := ⟨_, rfl⟩
        have hg5 : Below w5.heap.size w5 W5 := by rw [hW5]; exact ck_grown _ _
        have k5 : W5.heap[w5.heap.size]? = some (.cells #[.string S, .slice a n m, .slice a' n' m'] 35 (0, 0)) := by rw [hW5]; exact ck_new _ _
        have b5 : Below w.heap.size w W5 := ck_all (ck_all HR.out.2.2 h5.out.2) hg5
        have hC5 := Kx.chartUp (Kx.chart_in h5.out.1) hg5
        have hA5 : ∀ b, (wr.heap.size < b ∧ b < w5.heap.size) → b < W5.heap.size := fun b hb => Nat.lt_of_lt_of_le hb.2 hg5.size
        have hct := chart_told hC5 HR.out.1 hA5 (HI.out.1.below b5) HI.out.2.2.1 (by have := HI.out.2.2.2.2.1.1; omega)
        have x0 := cell_row k5 0 (u := .string S) rfl
        have x1 := cell_row k5 1 (u := .slice a n m) rfl
        have x2 := cell_row k5 2 (u := .slice a' n' m') rfl
        have HW : Hid (W5 = w5.alloc (.cells #[.string S, .slice a n m, .slice a' n' m'] 35) ∧ Below w.heap.size w W5 ∧ IsChart (fun b => wr.heap.size < b ∧ b < w5.heap.size) W5 c (.agg #[.string S, .slice a n m, .slice a' n' m']) ∧ (∀ b, (wr.heap.size < b ∧ b < w5.heap.size) → b < W5.heap.size) ∧ W5.heap[w5.heap.size]? = some (.cells #[.string S, .slice a n m, .slice a' n' m'] 35 (0, 0))) := ⟨hW5, b5, hC5, hA5, k5⟩
        rw [hW5] at hct x0 x1 x2
        clear h5 hg5 k5 b5 hC5 hA5 hW5
        go_wp2_with fail
        refine hct.mono ?_
        rintro e w6 ⟨aX, nX, mX, rfl, h6⟩
        clear hct x0 x1 x2
        rw [← HW.out.1] at h6
        have y0 := cell_row (ck_block h6.out.2.2 HW.out.2.2.2.2) 0 (u := .string S) rfl
        have y1 := cell_row (ck_block h6.out.2.2 HW.out.2.2.2.2) 1 (u := .slice a n m) rfl
        have y2 := cell_row (ck_block h6.out.2.2 HW.out.2.2.2.2) 2 (u := .slice a' n' m') rfl
        have b6 : Below w.heap.size w w6 := ck_all HW.out.2.1 h6.out.2.2
        have hdw : Below w6.heap.size w6 w6.drew := (Below.refl _ _).drew
        obtain ⟨Wn, hWn⟩ : ∃ Wn, Wn = w6.drew.alloc (.cells #[] tR) := ⟨_, rfl⟩
        have hsd : w6.drew.heap.size = w6.heap.size := rfl
        have hgn : Below w6.heap.size w6 Wn := by rw [hWn]; exact hdw.trans (ck_grown w6.drew _)
        have r0 : RowsO w w6.heap.size Wn (.slice (some ⟨w6.heap.size, 0, none⟩) 0 0) [] := by rw [hWn]; exact RowsO.new w w6.drew w6.heap.size (Nat.le_refl _)
        obtain ⟨ad1, cap1, w7, hr1, r1, g7⟩ := r0.app HI.out.1 (ck_all b6 hgn) hgn.size (by have := HI.out.2.2.2.2.1.1; simp; omega)
        have hb7 : Below w6.heap.size w6 w7 := hgn.trans g7
        obtain ⟨ad2, cap2, w8, hr2, r2, g8⟩ := r1.app HI.out.2.1 (ck_all b6 hb7) hb7.size (by have := HI.out.2.2.2.2.1.1; have := HI.out.2.2.2.2.2.1.1; simp; omega)
        have hb8 : Below w6.heap.size w6 w8 := hb7.trans g8
        have en : ([] : List (List Int)).length + A.length = nA := by rw [HC.out.2.2.1]; simp
        have en2 : (([] : List (List Int)) ++ A).length + B.length = nA + nB := by rw [HC.out.2.2.1, HC.out.2.2.2]; simp
        have en1 : (([] : List (List Int)) ++ A).length = nA := by rw [HC.out.2.2.1]; simp
        rw [en] at hr1 hr2 r1
        rw [en2] at hr2 r2
        obtain ⟨nC, hnC⟩ : ∃ nC, nC = nA + nB := ⟨_, rfl⟩
        rw [← hnC] at hr2 r2
        rw [List.nil_append] at r2
        have b8 : Below w.heap.size w w8 := ck_all b6 hb8
        have b58 : Below W5.heap.size W5 w8 := ck_all h6.out.2.2 hb8
        have hct2 := chart_told (rows := A ++ B) (Kx.chartUp HW.out.2.2.1 b58) HR.out.1 (fun b hb => Nat.lt_of_lt_of_le (HW.out.2.2.2.1 b hb) b58.size) (r2.irws b8) (fun r hr => (List.mem_append.1 hr).elim (HI.out.2.2.1 r) (HI.out.2.2.2.1 r)) (by have := HI.out.2.2.2.2.1.1; have := HI.out.2.2.2.2.2.1.1; rw [List.length_append]; omega)
        obtain rfl : nA = nX := by have := outr_len h6.out.1; rw [outs_len] at this; rw [this, HC.out.2.2.1]
        have HX : Hid (OutR W5.heap.size w6 (.slice aX nA mX) (outsR c (newC c) A) ∧ (∀ z ∈ outsR c (newC c) A, ∀ y ∈ z, N64 y) ∧ Below w.heap.size w w6 ∧ Below w6.heap.size w6 w8 ∧ Below w.heap.size w w8 ∧ nC = nA + nB) := ⟨h6.out.1, h6.out.2.1, b6, hb8, b8, hnC⟩
        have hC81 : nC ≤ 80 := by omega
        have hr1' : (Builtin.append_ #[22, 22] 22 #[.slice (some ⟨w6.heap.size, 0, none⟩) 0 0, .slice aA nA cA]).run Tryz.prog ((w6.alloc (.cells #[] 31)).drew) = .ok (.slice ad1 nA cap1) w7 := by rw [hWn] at hr1; exact hr1
        have hr2' : (Builtin.append_ #[22, 22] 22 #[.slice ad1 nA cap1, .slice aB nB cB]).run Tryz.prog w7 = .ok (.slice ad2 nC cap2) w8 := hr2
        have q7 := ck_block hb7 (ck_block h6.out.2.2 HW.out.2.2.2.2)
        have q8 := ck_block hb8 (ck_block h6.out.2.2 HW.out.2.2.2.2)
        have H7 : Hid (w7.cell? ⟨w5.heap.size, 0, none⟩ = some (.string S) ∧ w7.cell? ⟨w5.heap.size, 1, none⟩ = some (.slice a n m) ∧ w7.cell? ⟨w5.heap.size, 2, none⟩ = some (.slice a' n' m')) := ⟨cell_row q7 0 rfl, cell_row q7 1 rfl, cell_row q7 2 rfl⟩
        have H8 : Hid (w8.cell? ⟨w5.heap.size, 0, none⟩ = some (.string S) ∧ w8.cell? ⟨w5.heap.size, 1, none⟩ = some (.slice a n m) ∧ w8.cell? ⟨w5.heap.size, 2, none⟩ = some (.slice a' n' m')) := ⟨cell_row q8 0 rfl, cell_row q8 1 rfl, cell_row q8 2 rfl⟩
        have HN6 : Hid (((w6.alloc (.cells #[] 31)).drew).cell? ⟨w5.heap.size, 0, none⟩ = some (.string S) ∧ ((w6.alloc (.cells #[] 31)).drew).cell? ⟨w5.heap.size, 1, none⟩ = some (.slice a n m) ∧ ((w6.alloc (.cells #[] 31)).drew).cell? ⟨w5.heap.size, 2, none⟩ = some (.slice a' n' m')) := by
          have q6 := ck_block hgn (ck_block h6.out.2.2 HW.out.2.2.2.2)
          rw [hWn] at q6
          exact ⟨cell_row q6 0 rfl, cell_row q6 1 rfl, cell_row q6 2 rfl⟩
        clear q7 q8
        clear hr1 hr2 h6 b6 hdw hsd hgn r0 r1 r2 g7 g8 hb7 hb8 en en1 en2 b8 b58 hWn hnC
        go_upto_region 17 with fail
        go_region_held3 (fun W => W.cell? ⟨w5.heap.size, 0, none⟩ = some (.string S) ∧ W.cell? ⟨w5.heap.size, 1, none⟩ = some (.slice a n m) ∧ W.cell? ⟨w5.heap.size, 2, none⟩ = some (.slice a' n' m')) (first | exact HZ9.out | exact H8.out | exact H7.out | exact HN6.out | go_keep)
          (first | (go_at_call 10; refine hct2.mono ?_; rintro e w9 ⟨aY, nY, mY, rfl, h9⟩; have HZ9 : Hid (w9.cell? ⟨w5.heap.size, 0, none⟩ = some (.string S) ∧ w9.cell? ⟨w5.heap.size, 1, none⟩ = some (.slice a n m) ∧ w9.cell? ⟨w5.heap.size, 2, none⟩ = some (.slice a' n' m')) := ⟨ck_cell h9.out.2.2 H8.out.1, ck_cell h9.out.2.2 H8.out.2.1, ck_cell h9.out.2.2 H8.out.2.2⟩))
        all_goals
          clear y0 y1 y2
          have hcp := outr_cap h9.out.1
          have hnY : nC = nY := by have := outr_len h9.out.1; rw [outs_len, List.length_append] at this; rw [this, HX.out.2.2.2.2.2, HC.out.2.2.1, HC.out.2.2.2]
          obtain rfl := hnY
          have hcap : nC ≤ mY := hcp.1
          have hnAC : nA ≤ nC := by have := HX.out.2.2.2.2.2; omega
          have hty := rows_take h9.out.1.rows (k := nA) (by rw [outs_len, List.length_append, ← HC.out.2.2.1]; omega)
          rw [HC.out.2.2.1, outs_take, ← HC.out.2.2.1] at hty
          have b9 : Below w.heap.size w w9 := ck_all HX.out.2.2.2.2.1 h9.out.2.2
          have hpy := outs_printed hty (by have := HI.out.2.2.2.2.1.1; omega) HR.out.2.1 HX.out.2.1 (HI.out.2.2.2.2.2.2.1.below b9 HI.out.2.2.2.2.2.2.1.big)
          have HPX : Hid (∀ w10, Below w9.heap.size w9 w10 → Calls Tryz.prog 7 #[.slice aX nA mX] w10 fun e w' => e = .returned (.string (st (printT (outsR c (newC c) A)))) ∧ Hid (Below w10.heap.size w10 w')) := fun w10 hb =>
            outs_printed ((HX.out.1.rows.below (ck_all HX.out.2.2.2.1 h9.out.2.2)).below hb) (by have := HI.out.2.2.2.2.1.1; omega) HR.out.2.1 HX.out.2.1 (HI.out.2.2.2.2.2.2.1.below (ck_all b9 hb) HI.out.2.2.2.2.2.2.1.big)
          obtain ⟨pt, hpt⟩ : ∃ pt, pt = st (printT (outsR c (newC c) A)) := ⟨_, rfl⟩
          have HB9 : Hid (Below w.heap.size w w9) := b9
          rw [← hpt] at hpy HPX
          have hnAm : nA ≤ mY := by omega
          have hab : (nC : Int) = (nA : Int) + (nB : Int) := by have := HX.out.2.2.2.2.2; omega
          clear hcp hty b9 h9 hpt

          go_wp2_with fail
          refine hpy.mono ?_
          rintro e w10 ⟨rfl, h10⟩
          clear hpy
          have hpx := HPX.out w10 h10.out
          go_wp2_with fail
          refine hpx.mono ?_
          rintro e w11 ⟨rfl, h11⟩
          clear hpx
          go_wp2_with fail
          go_ret
          exact ⟨rfl, ck_all HB9.out (ck_all h10.out h11.out)⟩
      · have hcn := hno wr (HI.out.2.2.2.2.2.2.2.up hbr)
        clear hno
        go_wp2_with fail
        refine hcn.mono ?_
        rintro e w5 ⟨rfl, h5⟩
        clear hcn
        go_wp2_with fail
        go_ret
        exact ⟨rfl, ck_all (ck_all hbr h5.out) (ck_grown _ _)⟩
end Tq
end Go.Proofs.YtiihgnagjemikaaGreatDoor
