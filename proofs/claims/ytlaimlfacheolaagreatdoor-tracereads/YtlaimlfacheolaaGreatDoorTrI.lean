/- chapter 14: the program's Read. -/
import Derived.Test.YtlaimlfacheolaaGreatDoorTrI0
namespace Go.Proofs.YtlaimlfacheolaaGreatDoor
open Go.RowKit Go.Shelf
attribute [local go_sem] Oper.semAt_some
attribute [-go_sem] Builtin.append_
namespace Tq
open Nx (Ints lt_of_block)
theorem resRead (tmps : Array Value) (W : World) (q : Nat) (a b : Value) (hp : tmps[2]?.getD undef = .pointer (some ⟨q, 0, none⟩)) (h2 : tmps[3]?.getD undef = .pointer (some ⟨q + 1, 0, none⟩)) (ha : W.cell? ⟨q, 0, none⟩ = some a) (hb : W.cell? ⟨q + 1, 0, none⟩ = some b) :
    (results Tryz.f6 tmps).run Tryz.prog W = .ok (.tuple #[a, b]) W := by
  simp [results, Tryz.results6, hp, h2, asAddr, loadVar, Tryz.isAgg22, Tryz.isAgg30, ha, hb]
theorem kf_of {B : Nat} {W W' : World} (hs : W.heap.size ≤ W'.heap.size) (h : ∀ b, b < W.heap.size → (∃ l T f, W.heap[b]? = some (.cells l T f)) ∨ W'.heap[b]? = W.heap[b]?) : KeepsFrom B W W' :=
  ⟨hs, fun k o _ hk ho => by
    rcases h k (lt_of_block hk) with ⟨l, T, f, e⟩ | e
    · rw [hk] at e
      injection e with e
      subst e
      cases ho
    · rw [e]; exact hk⟩
theorem ck_one {w : World} {g : Nat} {a : Value} {T : TypeId} (h : w.heap[g]? = some (.cells #[a] T (0, 0))) (x : Value) : (w.setCell ⟨g, 0, none⟩ x).heap[g]? = some (.cells #[x] T (0, 0)) := ck_set2 (l := [a]) h 0 x
theorem rdX_mk {ls : List By} {w W X V : World} {q : Nat} {pre : List (XL ls)} {x : XL ls} {ev : Value} {f : Int × Int} {rs : List (List Int)} (B : Nat) (hI : RdI ls w q pre W) (hrs : pre.map (fun x => numsW (wordsT x.1.2)) = rs.map some) (bX : Below W.heap.size W X) (hV : V = (X.setCell ⟨q, 0, none⟩ (.slice none 0 0)).setCell ⟨q + 1, 0, none⟩ ev)
    (hev : (f = (4, -1) ∧ ev = .iface 24 (.int .i64 4)) ∨ ∃ g i : Nat, f = (3, (i : Int)) ∧ q + 2 ≤ g ∧ ev = .iface 48 (.pointer (some ⟨g, 0, none⟩)) ∧ X.heap[g]? = some (.cells #[.int .i64 3, .int .i64 (i : Int)] 49 (0, 0)))
    (hc : (numsW (wordsT x.1.2) = none ∧ f = (3, (x.1.1 : Int))) ∨ (∃ t, numsW (wordsT x.1.2) = some t) ∧ x.1.1 = 60 ∧ f = (4, -1)) :
    KeepsFrom B W V ∧ (Code.ret = Code.ret ∧ RdX ls w q (pre ++ [x]) V) := by
  have kq := ck_block bX hI.res
  have ke := ck_block bX hI.err
  have v0 : V.heap[q]? = some (.cells #[.slice none 0 0] rrT (0, 0)) := by
    rw [hV, Below.heap_setCell _ _ _ _ (by show q ≠ q + 1; omega)]
    exact ck_one kq _
  have v1 : V.heap[q + 1]? = some (.cells #[ev] erT (0, 0)) := by
    rw [hV]
    exact ck_one (by rw [Below.heap_setCell _ _ _ _ (by show q + 1 ≠ q; omega)]; exact ke) _
  have vo : ∀ b, b ≠ q → b ≠ q + 1 → V.heap[b]? = X.heap[b]? := fun b h1 h2 => by
    rw [hV, Below.heap_setCell _ _ _ _ h2, Below.heap_setCell _ _ _ _ h1]
  have vs : V.heap.size = X.heap.size := by rw [hV]; simp [World.setCell]
  have vb : Below q X V := by rw [hV]; exact ((Below.refl q X).setCell (p := ⟨q, 0, none⟩) (Nat.le_refl _) _).setCell (p := ⟨q + 1, 0, none⟩) (Nat.le_succ _) _
  refine ⟨kf_of (by rw [vs]; exact bX.size) fun b hb => ?_, rfl, ⟨pre, x, rs, rfl, hrs, hI.few, ev, f, v1, ?_, hc⟩, hI.bel.trans ((bX.mono (by have := hI.big; omega)).trans vb), v0⟩
  · by_cases h1 : b = q
    · subst h1; exact .inl ⟨_, _, _, hI.res⟩
    · by_cases h2 : b = q + 1
      · subst h2; exact .inl ⟨_, _, _, hI.err⟩
      · exact .inr (by rw [vo b h1 h2, bX.block b hb])
  · rcases hev with h | ⟨g, i, e1, e2, e3, e4⟩
    · exact .inl h
    · exact .inr ⟨g, i, e1, by omega, e3, by rw [vo g (by omega) (by omega)]; exact e4⟩
def ReadO (w w' : World) (l : By) (v ev : Value) : Prop :=
  Below w.heap.size w w' ∧ match readT l with
    | .ok rows => ev = .nilIface ∧ OutR w.heap.size w' v rows
    | .error f => v = .slice none 0 0 ∧ ErrV w.heap.size w' ev f
set_option maxRecDepth 100000 in
set_option maxHeartbeats 8000000 in
theorem read_any {l : By} (hl : l.length ≤ 40000) {w : World} (hg : GV w) :
    Calls Tryz.prog 6 #[.string (st l)] w fun e w' => ∃ ad n cap ev, e = .returned (.tuple #[.slice ad n cap, ev]) ∧ Hid (ReadO w w' l (.slice ad n cap) ev) := by
  obtain ⟨q, hq⟩ : ∃ q, q = w.heap.size := ⟨_, rfl⟩
  obtain ⟨U1, hU1⟩ : ∃ U, U = w.alloc (.cells #[.slice none 0 0] rrT) := ⟨_, rfl⟩
  obtain ⟨U2, hU2⟩ : ∃ U, U = U1.alloc (.cells #[.nilIface] erT) := ⟨_, rfl⟩
  obtain ⟨U3, hU3⟩ : ∃ U, U = U2.alloc (.cells #[.slice none 0 0] rrT) := ⟨_, rfl⟩
  obtain ⟨s, hs⟩ : ∃ s, s = st l := ⟨_, rfl⟩
  obtain ⟨U4, hU4⟩ : ∃ U, U = U3.alloc (.cells #[.string s] 9) := ⟨_, rfl⟩
  have s1 : U1.heap.size = q + 1 := by rw [hU1, hq]; simp
  have s2 : U2.heap.size = q + 2 := by rw [hU2]; simp [s1]
  have s3 : U3.heap.size = q + 3 := by rw [hU3]; simp [s2]
  have s4 : U4.heap.size = q + 4 := by rw [hU4]; simp [s3]
  have b1 : Below w.heap.size w U1 := by rw [hU1]; exact ck_grown _ _
  have b2 : Below U1.heap.size U1 U2 := by rw [hU2]; exact ck_grown _ _
  have b3 : Below U2.heap.size U2 U3 := by rw [hU3]; exact ck_grown _ _
  have b4 : Below U3.heap.size U3 U4 := by rw [hU4]; exact ck_grown _ _
  have k0 : U1.heap[q]? = some (.cells #[.slice none 0 0] rrT (0, 0)) := by rw [hU1, hq]; exact ck_new _ _
  have k1 : U2.heap[q + 1]? = some (.cells #[.nilIface] erT (0, 0)) := by rw [← s1, hU2]; exact ck_new _ _
  have k2 : U3.heap[q + 2]? = some (.cells #[.slice none 0 0] rrT (0, 0)) := by rw [← s2, hU3]; exact ck_new _ _
  have k3 : U4.heap[q + 3]? = some (.cells #[.string s] 9 (0, 0)) := by rw [← s3, hU4]; exact ck_new _ _
  have bw : Below w.heap.size w U4 := ck_all b1 (ck_all b2 (ck_all b3 b4))
  have g4 : GV U4 := hg.below bw hg.big
  have h0 : RdI (linesT l) w q [] U4 := ⟨⟨[], rfl, none, 0, ck_block b4 k2, OutR.nil _ _⟩, fun x hx => by simp at hx, by rw [hq]; exact bw, ck_block b4 (ck_block b3 (ck_block b2 k0)), ck_block b4 (ck_block b3 k1), by omega⟩
  have HH : Hid (RdI (linesT l) w q [] U4 ∧ GV U4 ∧ U4.heap.size = q + 4 ∧ q = w.heap.size ∧ U4.cell? ⟨q + 3, 0, none⟩ = some (.string s) ∧ s = st l ∧ l.length ≤ 40000 ∧ 10 ≤ q) := ⟨h0, g4, s4, hq, cell_row k3 0 rfl, hs, hl, by rw [hq]; exact hg.big⟩
  have hli := lines_any s U3
  rw [s3, ← hU4] at hli
  have HU : Hid (U3 = (((w.alloc (.cells #[.slice none 0 0] rrT)).alloc (.cells #[.nilIface] erT)).alloc (.cells #[.slice none 0 0] rrT)) ∧ w.heap.size = q) := ⟨by rw [hU3, hU2, hU1], hq.symm⟩
  rw [← hs]
  clear s1 s2 s3 s4 b1 b2 b3 b4 k0 k1 k2 k3 bw g4 h0 hU1 hU2 hU3 hU4 hq hs hl hg
  refine (callsIn_wide (n := 6)).1 ?_
  refine callsIn_of_wp_marks Tryz.func6 rfl trivial ?_ rfl
  simp only [Tryz.ntmps6, List.size_toArray, List.length_cons, List.length_nil, Nat.reduceAdd, Nat.reduceSub, Array.replicate_succ, Array.replicate_zero, List.push_toArray, List.append_toArray, List.nil_append, List.cons_append]
  gi_wp2_with (refine ⟨trivial, ?_⟩; gi_at_call 15; rw [← HU.out.1]; rw [HU.out.2]; refine (callsIn_wide.2 hli).mono ?_; rintro e w5 ⟨rfl, hw5⟩; obtain rfl := hw5; clear hli)
  rw [show q + 1 + 1 = q + 2 from rfl]
  have hGq := HH.out.2.2.2.2.2.2.2
  have h5s := HH.out.2.2.1
  refine wpIn_rangeFunc_ownG (F := Fence.wide) (n := 6) rfl (by omega) (gf := 25) (lb := #[.pointer (some ⟨q + 3, 0, none⟩)]) rfl trivial (enters_of Tryz.func25 (by kernel_rfl) rfl)
    (lines_stops 5 (by omega) (Bs := q + 3) (s := l) HH.out.2.2.2.2.2.2.1 (w := w5) (by rw [← HH.out.2.2.2.2.2.1]; exact HH.out.2.2.2.2.1) HH.out.2.1)
    kpG_t (kpG_b (by omega)) (Below.refl _ _) (fun _ => rfl)
    (RdI (linesT l) w q) (fun c pre W => c = .ret ∧ RdX (linesT l) w q pre W)
    (rdI_own _ _ _ _ (by omega)) (fun c pre W W' row hs hg hr => ⟨hs.1, rdX_own _ _ _ _ (by omega) (by have := HU.out.2; omega) pre W W' row hs.2 hg hr⟩) HH.out.1
    (fun x => { tmps := #[.string s, undef, .pointer (some ⟨q, 0, none⟩), .pointer (some ⟨q + 1, 0, none⟩), .pointer (some ⟨q + 2, 0, none⟩), .int .i64 (x.1.1 : Int), .string (st x.1.2), undef, undef, .string s, .func (.func 25) #[] #[.pointer (some ⟨q + 3, 0, none⟩)], .int .i64 (x.1.1 : Int), .string (st x.1.2), undef, undef, undef, undef, undef, undef, undef, undef, undef, undef, undef, undef, undef, undef, undef, undef, undef, undef, undef], defers := [] }) ?assign ?body ?done ?stop
  case assign =>
    intro l' x W K hK
    gi_wp2
    exact hK
  case body =>
    rintro l' pre x W hI hlt
    have hxl : x.1.2.length ≤ 40000 := by rw [x.2.2]; exact Nat.le_trans (line_size x.2.1) HH.out.2.2.2.2.2.2.1
    have hgW : GV W := HH.out.2.1.keep (fun b hb => by
      have h1 := HH.out.1.bel
      rw [hI.bel.block b (by omega), h1.block b (by omega)]) (by have := hI.big; omega)
    have hnum := numbers_any (l := x.1.2) (by omega) hgW
    have HX : Hid (RdI (linesT l) w q pre W ∧ x.1.2.length ≤ 40000 ∧ pre.length < (linesT l).length) := ⟨hI, hxl, hlt⟩
    obtain ⟨rs, hrs, a2, c2, k2, ho⟩ := hI.fine
    obtain ⟨i, hi⟩ : ∃ i, i = x.1.1 := ⟨_, rfl⟩
    obtain ⟨sx, hsx⟩ : ∃ sx, sx = st x.1.2 := ⟨_, rfl⟩
    obtain ⟨m, hm⟩ : ∃ m, m = rs.length := ⟨_, rfl⟩
    have HR : Hid (pre.map (fun x => numsW (wordsT x.1.2)) = rs.map some ∧ W.heap[q + 2]? = some (.cells #[.slice a2 rs.length c2] rrT (0, 0)) ∧ OutR (q + 3) W (.slice a2 rs.length c2) rs ∧ m = rs.length ∧ i = x.1.1 ∧ rs.length ≤ 40001) := ⟨hrs, k2, ho, hm, hi, by
      have h1 := congrArg List.length hrs
      rw [List.length_map, List.length_map] at h1
      have h2 := ln_len l []
      have h3 : (linesT l).length ≤ l.length + 1 := h2
      have := HH.out.2.2.2.2.2.2.1
      omega⟩
    have r0 := cell_row hI.res 0 (u := .slice none 0 0) rfl
    have r1 := cell_row hI.err 0 (u := .nilIface) rfl
    have r2 := cell_row k2 0 (u := .slice a2 rs.length c2) rfl
    rw [← hsx] at hnum
    rw [← hm] at r2
    rw [← hi, ← hsx]
    clear hxl hgW hI hrs k2 ho hi hsx hm hlt hGq h5s
    cases hw : numsW (wordsT x.1.2) with
    | none =>
      have HW : Hid (numsW (wordsT x.1.2) = none) := hw
      clear hw
      gi_wp2_with (refine ⟨trivial, ?_⟩; gi_at_call 16; refine (CallsIn.inRound l' (callsIn_wide.2 hnum)).mono ?_; rintro e w3 ⟨a7, n7, c7, b7, rfl, H3⟩; clear hnum
                   obtain rfl : b7 = false := by { have := H3.out.2; rw [HW.out] at this; exact this }
                   have b3 : Below W.heap.size W w3 := H3.out.1
                   obtain ⟨X, hX⟩ : ∃ X, X = w3.alloc (.cells #[.int .i64 3, .int .i64 (i : Int)] 49) := ⟨_, rfl⟩
                   have bX : Below W.heap.size W X := by { rw [hX]; exact ck_all b3 (ck_grown _ _) }
                   have kA : X.heap[w3.heap.size]? = some (.cells #[.int .i64 3, .int .i64 (i : Int)] 49 (0, 0)) := by { rw [hX]; exact ck_new _ _ }
                   have kq := ck_block bX HX.out.1.res
                   have ke := ck_block bX HX.out.1.err
                   have x0 := cell_row kq 0 (u := .slice none 0 0) rfl
                   have x1 := cell_row ke 0 (u := .nilIface) rfl
                   have y0 := fun o => ck_frozen kq o
                   have y1 := fun o => ck_frozen ke o
                   have HA : Hid (Below W.heap.size W X ∧ X.heap[w3.heap.size]? = some (.cells #[.int .i64 3, .int .i64 (i : Int)] 49 (0, 0)) ∧ X.heap[q]? = some (.cells #[.slice none 0 0] rrT (0, 0)) ∧ X.heap[q + 1]? = some (.cells #[.nilIface] erT (0, 0)) ∧ Below W.heap.size W w3) := ⟨bX, kA, kq, ke, b3⟩
                   have HXE : Hid (X = w3.alloc (.cells #[.int .i64 3, .int .i64 (i : Int)] 49)) := hX
                   rw [hX] at x0 x1 y0 y1
                   clear b3 bX kA kq ke hX)
      exact rdX_mk (X := X) (f := (3, (i : Int))) _ HX.out.1 HR.out.1 HA.out.1 (by rw [HXE.out]) (.inr ⟨w3.heap.size, i, rfl, by have := HX.out.1.big; have := HA.out.2.2.2.2.size; omega, rfl, HA.out.2.1⟩) (.inl ⟨HW.out, by rw [HR.out.2.2.2.2.1]⟩)
    | some zs =>
      have HW : Hid (numsW (wordsT x.1.2) = some zs) := hw
      clear hw
      by_cases h60 : i = 60
      · have H60 : Hid (i = 60) := h60
        have h60' : ((i : Int) = 60) := by omega
        clear h60
        gi_wp2_with (refine ⟨trivial, ?_⟩; gi_at_call 16; refine (CallsIn.inRound l' (callsIn_wide.2 hnum)).mono ?_; rintro e w3 ⟨a7, n7, c7, b7, rfl, H3⟩; clear hnum
                     obtain rfl : b7 = true := by { have := H3.out.2; rw [HW.out] at this; exact this.1 }
                     have bX : Below W.heap.size W w3 := H3.out.1
                     have kq := ck_block bX HX.out.1.res
                     have ke := ck_block bX HX.out.1.err
                     have x0 := cell_row kq 0 (u := .slice none 0 0) rfl
                     have x1 := cell_row ke 0 (u := .nilIface) rfl
                     have y0 := fun o => ck_frozen kq o
                     have y1 := fun o => ck_frozen ke o
                     have HA : Hid (Below W.heap.size W w3) := bX
                     clear bX kq ke)
        exact rdX_mk (X := w3) (f := (4, -1)) _ HX.out.1 HR.out.1 HA.out rfl (.inl ⟨rfl, rfl⟩) (.inr ⟨⟨_, HW.out⟩, by rw [← HR.out.2.2.2.2.1]; exact H60.out, rfl⟩)
      · have h60' : ¬ ((i : Int) = 60) := by omega
        have H60 : Hid (i ≠ 60) := h60
        clear h60
        gi_wp2_with (refine ⟨trivial, ?_⟩; gi_at_call 16; refine (CallsIn.inRound l' (callsIn_wide.2 hnum)).mono ?_; rintro e w3 ⟨a7, n7, c7, b7, rfl, H3⟩; clear hnum
                     obtain rfl : b7 = true := by { have := H3.out.2; rw [HW.out] at this; exact this.1 }
                     have bX : Below W.heap.size W w3 := H3.out.1
                     obtain ⟨xs0, hx0, _⟩ := HR.out.2.2.1
                     have hu := ownInts (zs := zs) (by { have := H3.out.2; rw [HW.out] at this; exact this.2 })
                     obtain ⟨g, cap6, w6, hr, hO6, hb6, hg6, hgS⟩ := OutR.more (S := q + 3) (w := w3) (v := .slice a2 rs.length c2) (u := .slice a7 n7 c7) (rows := rs) (zs := zs) (HR.out.2.2.1.below bX) (hu.carry fun b hA hl => ⟨⟨by have := HX.out.1.big; omega, hl, fun e => by have := (hx0.lt b e).2; omega⟩, rfl⟩) (Nat.le_trans HX.out.1.big bX.size) (by have := HR.out.2.2.2.2.2; omega)
                     have hn2 : ∀ b, b < q + 3 → (Value.slice a2 rs.length c2).ownBlock ≠ some b := fun b hb e => by have := (hx0.lt b e).1; omega
                     have k6 : ∀ b, b < q + 3 → w6.heap[b]? = W.heap[b]? := fun b hb => by
                       have := HX.out.1.big
                       rw [hb6.block b hb, bX.block b (by omega)]
                     have ko : ∀ b, b < W.heap.size → (Value.slice a2 rs.length c2).ownBlock ≠ some b → w6.heap[b]? = W.heap[b]? := fun b hb hn => by
                       have := bX.size
                       rw [hg6.block b (by rw [World.size_alloc]; omega) (fun e => hn e.symm), Below.heap_alloc _ _ _ (by omega), bX.block b hb]
                     have kc : ∀ b, (Value.slice a2 rs.length c2).ownBlock = some b → ∃ l T f, W.heap[b]? = some (.cells l T f) := fun b e => by
                       rcases hx0.2 with ⟨h1, _⟩ | ⟨g', cap', cur, h1, _, h3, _⟩
                       · rw [h1] at e; cases e
                       · rw [h1] at e
                         obtain rfl : g' = b := by simpa [Value.ownBlock] using e
                         exact ⟨_, _, _, h3⟩
                     have h2 := (k6 (q + 2) (by omega)).trans HR.out.2.1
                     have x2 := cell_row h2 0 (u := .slice a2 rs.length c2) rfl
                     have y2 := fun o => ck_frozen h2 o
                     have hs6 : w3.heap.size ≤ w6.heap.size := by { have := hg6.size; rw [World.size_alloc] at this; omega }
                     have HA : Hid (OutR (q + 3) w6 (.slice (some ⟨g, 0, none⟩) (rs.length + 1) cap6) (rs ++ [zs]) ∧ Below (q + 3) w3 w6 ∧ Below W.heap.size W w3 ∧ (∀ b, b < q + 3 → w6.heap[b]? = W.heap[b]?) ∧ (∀ b, b < W.heap.size → (Value.slice a2 rs.length c2).ownBlock ≠ some b → w6.heap[b]? = W.heap[b]?) ∧ (∀ b, (Value.slice a2 rs.length c2).ownBlock = some b → ∃ l T f, W.heap[b]? = some (.cells l T f)) ∧ w3.heap.size ≤ w6.heap.size ∧ w6.heap[q + 2]? = some (.cells #[.slice a2 rs.length c2] rrT (0, 0))) := ⟨hO6, hb6, bX, k6, ko, kc, hs6, h2⟩
                     have r2' := ck_cell bX r2
                     rw [← HR.out.2.2.2.1] at hr x2
                     clear r0 r1 r2 bX hO6 hb6 hg6 hgS hn2 k6 ko kc h2 hs6 hx0 hu)
        have hm := HR.out.2.2.2.1
        obtain ⟨V, hV⟩ : ∃ V, V = w6.setCell ⟨q + 2, 0, none⟩ (.slice (some ⟨g, 0, none⟩) (m + 1) cap6) := ⟨_, rfl⟩
        rw [← hV]
        rw [hm] at hV
        have v2 : V.heap[q + 2]? = some (.cells #[.slice (some ⟨g, 0, none⟩) (rs.length + 1) cap6] rrT (0, 0)) := by rw [hV]; exact ck_one HA.out.2.2.2.2.2.2.2 _
        have vo : ∀ b, b ≠ q + 2 → V.heap[b]? = w6.heap[b]? := fun b h1 => by rw [hV, Below.heap_setCell _ _ _ _ h1]
        have vs : V.heap.size = w6.heap.size := by rw [hV]; simp [World.setCell]
        have hbig := HX.out.1.big
        have h3s := HA.out.2.2.1.size
        have h6s := HA.out.2.2.2.2.2.2.1
        have vb : Below q w V := by
          have h1 : Below q W w6 := (HA.out.2.2.1.mono (by omega)).trans (HA.out.2.1.mono (by omega))
          rw [hV]
          exact (HX.out.1.bel.trans h1).setCell (p := ⟨q + 2, 0, none⟩) (by show q ≤ q + 2; omega) _
        refine ⟨kf_of (by omega) fun b hb => ?_, ⟨fun b hb => ?_, fun _ => by have := HH.out.2.2.2.2.2.2.2; omega⟩, rdI_more HX.out.1 HR.out.1 HW.out (by rw [← HR.out.2.2.2.2.1]; exact H60.out) vb (by rw [vo q (by omega), HA.out.2.2.2.1 q (by omega)]) (by rw [vo (q + 1) (by omega), HA.out.2.2.2.1 (q + 1) (by omega)]) v2 (HA.out.1.keep (Nat.le_refl _) (fun b h1 _ => vo b (by omega)) (by omega)) (by omega)⟩
        · by_cases h1 : b = q + 2
          · subst h1; exact .inl ⟨_, _, _, HR.out.2.1⟩
          · by_cases h2 : (Value.slice a2 rs.length c2).ownBlock = some b
            · exact .inl (HA.out.2.2.2.2.2.1 b h2)
            · exact .inr (by rw [vo b h1, HA.out.2.2.2.2.1 b hb h2])
        · have := HH.out.2.2.2.2.2.2.2
          rw [vo b (by omega), HA.out.2.2.2.1 b (by omega)]
  case done =>
    rintro D ys W hD rfl hI hK
    obtain ⟨rs, a2, c2, hrd, k2, ho⟩ := rd_done hI
    have hDs := lt_of_block hK
    have r0 := cell_row hI.res 0 (u := .slice none 0 0) rfl
    have r1 := cell_row hI.err 0 (u := .nilIface) rfl
    have r2 := cell_row k2 0 (u := .slice a2 rs.length c2) rfl
    have y0 := fun o => ck_frozen hI.res o
    have y1 := fun o => ck_frozen hI.err o
    have HX : Hid (RdI (linesT l) w q (preL (linesT l) (linesT l).length) W ∧ W.heap[D]? = some (.deferred (some [])) ∧ w5.heap.size ≤ D ∧ rdT 0 (linesT l) = .ok rs ∧ OutR (q + 3) W (.slice a2 rs.length c2) rs) := ⟨hI, hK, hD, hrd, ho⟩
    obtain ⟨m, hm⟩ : ∃ m, m = rs.length := ⟨_, rfl⟩
    rw [← hm] at r2
    have HM : Hid (m = rs.length) := hm
    clear hI hK hD hrd ho k2 hm hGq h5s hDs
    gi_wp2_with fail
    obtain ⟨V, hV⟩ : ∃ V, V = (W.setCell ⟨q, 0, none⟩ (.slice a2 m c2)).setCell ⟨q + 1, 0, none⟩ .nilIface := ⟨_, rfl⟩
    rw [← hV]
    have hDq := HX.out.2.2.1
    have h5s := HH.out.2.2.1
    have hDl := lt_of_block HX.out.2.1
    have v0 : V.heap[q]? = some (.cells #[.slice a2 m c2] rrT (0, 0)) := by
      rw [hV, Below.heap_setCell _ _ _ _ (by show q ≠ q + 1; omega)]
      exact ck_one HX.out.1.res _
    have v1 : V.heap[q + 1]? = some (.cells #[.nilIface] erT (0, 0)) := by
      rw [hV]
      exact ck_one (by rw [Below.heap_setCell _ _ _ _ (by show q + 1 ≠ q; omega)]; exact HX.out.1.err) _
    have vo : ∀ b, b ≠ q → b ≠ q + 1 → V.heap[b]? = W.heap[b]? := fun b h1 h2 => by
      rw [hV, Below.heap_setCell _ _ _ _ h2, Below.heap_setCell _ _ _ _ h1]
    have vs : V.heap.size = W.heap.size := by rw [hV]; simp [World.setCell]
    have vb : Below q W V := by rw [hV]; exact ((Below.refl q W).setCell (p := ⟨q, 0, none⟩) (Nat.le_refl _) _).setCell (p := ⟨q + 1, 0, none⟩) (Nat.le_succ _) _
    have vD : V.heap[D]? = some (.deferred (some [])) := by rw [vo D (by omega) (by omega)]; exact HX.out.2.1
    clear hV
    have zo : ∀ b, b ≠ D → (V.putObj D (.deferred none)).heap[b]? = V.heap[b]? := fun b h => World.putObj_heap_other (by omega)
    have zs : (V.putObj D (.deferred none)).heap.size = V.heap.size := by simp [World.putObj]
    refine ⟨by simp, .inl ⟨_, _, rfl, run_takeDeferred vD, ?_⟩⟩
    refine ⟨_, resRead _ _ q (.slice a2 m c2) .nilIface rfl rfl (cell_row (by rw [zo q (by omega)]; exact v0) 0 rfl) (cell_row (by rw [zo (q + 1) (by omega)]; exact v1) 0 rfl), a2, m, c2, .nilIface, rfl, ?_, ?_⟩
    · have := (HX.out.1.bel.trans vb).grown (grownBy_putObj' V D (.deferred none)) (by have := HX.out.1.big; omega) (fun b e => by cases e; omega)
      rw [HU.out.2]; exact this
    · have hrd : readT l = .ok rs := HX.out.2.2.2.1
      rw [hrd]
      refine ⟨rfl, ?_⟩
      rw [HU.out.2, HM.out]
      refine HX.out.2.2.2.2.kept' (by omega) (fun b l' T f h1 hb => ?_) (by omega)
      have hbD : b ≠ D := fun e => by rw [e, HX.out.2.1] at hb; cases hb
      rw [zo b hbD, vo b (by omega) (by omega)]
  case stop =>
    rintro D c pre W hD ⟨k, hk, rfl⟩ ⟨rfl, hX⟩ hK
    obtain ⟨ev, f, hrd, k1, he⟩ := rd_stop hX
    have HX : Hid (RdX (linesT l) w q (preL (linesT l) k ++ [xlAt (linesT l) k hk]) W ∧ W.heap[D]? = some (.deferred (some [])) ∧ w5.heap.size ≤ D ∧ rdT 0 (linesT l) = .error f ∧ W.heap[q + 1]? = some (.cells #[ev] erT (0, 0)) ∧ ErrV q W ev f) := ⟨hX, hK, hD, hrd, k1, he⟩
    clear hX hK hD hrd k1 he hGq h5s
    gi_wp2_with fail
    have hDq := HX.out.2.2.1
    have h5s := HH.out.2.2.1
    have hDl := lt_of_block HX.out.2.1
    have zo : ∀ b, b ≠ D → (W.putObj D (.deferred none)).heap[b]? = W.heap[b]? := fun b h => World.putObj_heap_other (by omega)
    refine ⟨by simp, .inl ⟨_, _, rfl, run_takeDeferred HX.out.2.1, ?_⟩⟩
    refine ⟨_, resRead _ _ q (.slice none 0 0) ev rfl rfl (cell_row (by rw [zo q (by omega)]; exact HX.out.1.res) 0 rfl) (cell_row (by rw [zo (q + 1) (by omega)]; exact HX.out.2.2.2.2.1) 0 rfl), none, 0, 0, ev, rfl, ?_, ?_⟩
    · have := HX.out.1.bel.grown (grownBy_putObj' W D (.deferred none)) (by omega) (fun b e => by cases e; omega)
      rw [HU.out.2]; exact this
    · have hrd : readT l = .error f := HX.out.2.2.2.1
      rw [hrd]
      refine ⟨rfl, ?_⟩
      rw [HU.out.2]
      rcases HX.out.2.2.2.2.2 with h | ⟨g, i, e1, e2, e3, e4⟩
      · exact .inl h
      · exact .inr ⟨g, i, e1, e2, e3, by rw [zo g (fun e => by rw [e, HX.out.2.1] at e4; cases e4)]; exact e4⟩
end Tq
end Go.Proofs.YtlaimlfacheolaaGreatDoor
