/- NetPlaces: the law, of whatever it is handed. -/
import Derived.Test.YtanlfmhlohcmgaaNp8
import Derived.Deep.Slices
namespace Go.Proofs.Ytanlfmhlohcmgaa
open Go Go.RowKit Go.ChangeShapes Go.WideShapes
namespace Nx

theorem tells_ok {n : Nt} {w w' : World} {vF vI vO vK vN vC : Value} {rows : List (List Int)} {adr : Option Addr} {bR offR capR : Nat} (hN : NetV w'.heap.size w' n vF vI vO vK vN vC) (hs : Small n) (hfl : n.first.length ≤ 1000) (hol : n.outs.length ≤ 1000) (hfew : ∀ V : List Int, V.length = n.first.length → Few n V) (hok : (check n).1 = 0)
    (hrl : rows.length ≤ 40) (hra : 0 < rows.length → adr = some ⟨bR, offR, none⟩ ∧ bR < w.heap.size) (hrc : ∀ k, k < rows.length → ∃ u, w.cell? ⟨bR, offR + k, none⟩ = some u ∧ Ints (· < w.heap.size) w u (rows.getD k [])) (hb : Below w.heap.size w w') :
    Calls Try.prog 7 #[.agg #[.int .i64 n.places, vF, vI, vO, vK, vN, vC], .slice adr rows.length capR] w' fun e w2 => ∃ v, e = .returned (.tuple #[v, .bool true]) ∧ Hid (Ints (fun b => w'.heap.size ≤ b ∧ b < w2.heap.size) w2 v (told n n.first rows rows.length) ∧ Below w'.heap.size w' w2) :=
  (tells_fine n w' vF vI vO vK vN vC rows adr bR offR capR hN hs hfl hol hfew hok hrl (fun h => ⟨(hra h).1, Nat.lt_of_lt_of_le (hra h).2 hb.size⟩) (fun k hk => by
    obtain ⟨u, hu, hi⟩ := hrc k hk
    exact ⟨u, cell_below hb hu, hi.carry fun b hl _ => ⟨Nat.lt_of_lt_of_le hl hb.size, hb.block b hl⟩⟩)).mono fun e w2 ⟨v, he, h1, h2⟩ => ⟨v, he, h1, h2⟩

theorem places_any (n : Nt) (y0 : Int) (w : World) (vF vI vO vK vN vC vm : Value) (more : List Sp) (rows : List (List Int)) (adr : Option Addr) (bR offR capR : Nat) (h : NetV w.heap.size w n vF vI vO vK vN vC) (hm : Steps (· < w.heap.size) w vm more)
    (hra : 0 < rows.length → adr = some ⟨bR, offR, none⟩ ∧ bR < w.heap.size) (hrc : ∀ k, k < rows.length → ∃ u, w.cell? ⟨bR, offR + k, none⟩ = some u ∧ Ints (· < w.heap.size) w u (rows.getD k [])) :
    Calls Try.prog 3 #[.agg #[.int .i64 n.places, vF, vI, vO, vK, vN, vC], .int .i64 y0, vm, .slice adr rows.length capR] w fun e w' => e = .returned (.bool true) ∧ Below w.heap.size w w' := by
  obtain ⟨adm, bM, offM, cm, rfl, hm1, hm2⟩ := hm
  by_cases hn : Held n
  · by_cases h20 : more.length ≤ 20
    · by_cases h40 : rows.length ≤ 40
      · have hcell : ∀ w', Below w.heap.size w w' → ∀ k, k < rows.length → ∃ a c, w'.cell? ⟨bR, offR + k, none⟩ = some (.slice a (rows.getD k []).length c) := by
          intro w' hb k hk
          obtain ⟨u, hu, ad, b, off, cap, rfl, _⟩ := hrc k hk
          exact ⟨ad, cap, cell_below hb hu⟩
        have hfew := fun w' hb => few_any adr rows.length capR bR offR w' (fun k => (rows.getD k []).length) h40 (fun hp => (hra hp).1) (hcell w' hb)
        by_cases hL : ∀ k, k < rows.length → (rows.getD k []).length ≤ 30
        · have hf : ∀ w', Below w.heap.size w w' → Calls Try.prog 5 #[.slice adr rows.length capR] w' fun e w2 => e = .returned (.bool true) ∧ w2 = w' := fun w' hb =>
            (hfew w' hb).mono fun e w2 ⟨ho, hw⟩ => ⟨by
              rcases ho with ⟨he, _⟩ | ⟨_, hno⟩
              · exact he
              · exact absurd hL hno, hw⟩
          by_cases hok : (check n).1 = 0
          · have hfn := fineN_of_check n hok
            have hfl : n.first.length ≤ 300 := hn.2.1
            have hol : n.outs.length ≤ 30 := hn.2.2.2.1
            have ht : ∀ w', Below w.heap.size w w' → Calls Try.prog 7 #[.agg #[.int .i64 n.places, vF, vI, vO, vK, vN, vC], .slice adr rows.length capR] w' fun e w2 => ∃ v, e = .returned (.tuple #[v, .bool true]) ∧ Hid (Ints (fun b => w'.heap.size ≤ b ∧ b < w2.heap.size) w2 v (told n n.first rows rows.length) ∧ Below w'.heap.size w' w2) := fun w' hb =>
              tells_ok (h.below hb hb.size) hn.small (by omega) (by omega) (fun V hV => hn.few (by omega)) hok h40 hra hrc hb
            by_cases h0 : n.places = 0
            · exact places_none n y0 w vF vI vO vK vN vC _ _ h hn adm more.length cm h20 hf h0 ht
            · have hP : 0 < n.places := by have := hfn.p; omega
              have hy := Int.emod_nonneg (y0 % 18446744073709551616) (show n.places ≠ 0 by omega)
              have hy' := Int.emod_lt_of_pos (y0 % 18446744073709551616) hP
              have q1 := hn.1; have q2 := hn.2.2.1; have q3 := hn.2.2.2.2.1; have q4 := hn.2.2.2.2.2.1; have q5 := hn.2.2.2.2.2.2
              have hlen := codeW_len n.places (y0 % 18446744073709551616 % n.places) n.code more n.code.length
              have hsm : Small (swN n (y0 % 18446744073709551616 % n.places) more) := ⟨by show n.places + 1 ≤ 4000; omega, by show (codeW _ _ _ _ _).length ≤ 4000; omega, by show n.nums.length ≤ 4000; omega, by show (n.ins.map _).length + (n.outs.map _).length + (n.keeps.map _).length ≤ 4000; simp only [List.length_map]; omega⟩
              have hfl2 : (swN n (y0 % 18446744073709551616 % n.places) more).first.length = (n.places + 1).toNat := firstW_len _ _ _ _
              have hLn : (told n n.first rows rows.length).length ≤ 1000000 := by
                rw [told_len]
                have := Nat.mul_le_mul h40 (show n.outs.length + 1 ≤ 31 by omega)
                omega
              refine places_fine n y0 (y0 % 18446744073709551616 % n.places) w vF vI vO vK vN vC _ _ more h hn adm bM offM cm h20 ⟨hm1, fun k hk => ⟨(hm2 k hk).2.2.1, (hm2 k hk).2.2.2.1⟩⟩ hf hP hfn (fun w' => pick_any y0 n.places w' hP (by omega)) hy hy' ht hLn fun w' uF uI uO uK uN uC hb hN => ?_
              have := tells_ok hN hsm (by rw [hfl2]; omega) (by show (n.outs.map _).length ≤ 1000; rw [List.length_map]; omega) (fun V hV => ⟨by rw [hV, hfl2]; omega, by show (n.ins.map _).length ≤ _; rw [List.length_map]; omega, by show (n.outs.map _).length ≤ _; rw [List.length_map]; omega, by show (n.keeps.map _).length ≤ _; rw [List.length_map]; omega, by show (codeW _ _ _ _ _).length ≤ _; omega⟩)
                (swN_check n _ more hfn hy hy' (by omega) (by omega) (by omega) (by omega)) h40 hra hrc hb (capR := capR)
              rw [told_same n _ more hfn hy hy'] at this
              exact this
          · exact places_bad n y0 w vF vI vO vK vN vC _ h hn adm more.length cm h20 hf hok
        · refine places_many n y0 w vF vI vO vK vN vC _ h hn adm more.length cm h20 fun w' hb => (hfew w' hb).mono fun e w2 ⟨ho, hw⟩ => ⟨?_, hw⟩
          rcases ho with ⟨_, hy⟩ | ⟨he, _⟩
          · exact absurd hy hL
          · exact he
      · exact places_many n y0 w vF vI vO vK vN vC _ h hn adm more.length cm h20 fun w' _ => few_big adr rows.length capR w' (by omega)
    · exact places_more n y0 w vF vI vO vK vN vC _ h hn adm more.length cm (by omega)
  · exact places_big n y0 w vF vI vO vK vN vC _ _ h hn

section
variable {H : Type} {enc : TypeId × Value → H} {W : World} {sp : Nat → Bool} {held : Bool}
theorem choose_rowsP (m : Nat) (p : Nat → List Int → Prop) (h : ∀ i, i < m → ∃ z, p i z) : ∃ l : List (List Int), l.length = m ∧ ∀ i, i < m → p i (l.getD i []) := by
  induction m with
  | zero => exact ⟨[], rfl, fun i hi => by omega⟩
  | succ m ih =>
    obtain ⟨l, hl, hp⟩ := ih (fun i hi => h i (by omega))
    obtain ⟨z, hz⟩ := h m (by omega)
    refine ⟨l ++ [z], by simp [hl], fun i hi => ?_⟩
    by_cases e : i < m
    · have : (l ++ [z]).getD i [] = l.getD i [] := by simp [List.getD_eq_getElem?_getD, List.getElem?_append_left (show i < l.length by omega)]
      rw [this]; exact hp i e
    · obtain rfl : i = m := by omega
      have : (l ++ [z]).getD i [] = z := by subst hl; simp [List.getD_eq_getElem?_getD]
      rw [this]; exact hz
theorem rows_of_trod {fuel : Nat} {v : Value} {x : DataW H × List MemPlace} (hc1 : Try.prog.cellsOf 22 = 1) (hc2 : Try.prog.cellsOf 2 = 1)
    (h : DataW.trod enc Try.prog W 0 sp held fuel 27 [v] = some x) : ∃ (rows : List (List Int)) (ad : Option Addr) (b off cap : Nat), v = .slice ad rows.length cap ∧ (0 < rows.length → ad = some ⟨b, off, none⟩ ∧ b < W.heap.size) ∧
      (∀ k, k < rows.length → ∃ u, W.cell? ⟨b, off + k, none⟩ = some u ∧ Ints (· < W.heap.size) W u (rows.getD k [])) := by
  rcases Deep.open_slice1 Try.underlying27 hc1 h with ⟨hcs, _⟩ | ⟨a, len, cap, m, n, V, D, Pl, hcs, _, hl, hm, hmm, _, hx⟩
  · obtain rfl : v = .slice none 0 0 := by simpa using hcs
    exact ⟨[], none, 0, 0, 0, rfl, fun h => by simp at h, fun k hk => by simp at hk⟩
  · obtain rfl : v = .slice (some a) len cap := by simpa using hcs
    have hlm : len ≤ m := by rw [hmm]; split <;> omega
    obtain ⟨rows, hrl, hr⟩ := choose_rowsP len (fun i z => Ints (· < W.heap.size) W (V i) z) (fun i hi => by
      obtain ⟨zs, h1, _⟩ := ints_of_trod Try.underlying22 Try.underlying2 hc2 (hx i (by omega)).2
      exact ⟨zs, h1⟩)
    by_cases h0 : len = 0
    · exact ⟨rows, some a, 0, 0, cap, by rw [hrl], fun h => by omega, fun k hk => by omega⟩
    · obtain ⟨b, off, spot⟩ := a
      have hc0 := (hx 0 (by omega)).1
      have hspot : spot = none := by simpa [Addr.add] using World.cell?_spot hc0
      subst hspot
      refine ⟨rows, some ⟨b, off, none⟩, b, off, cap, by rw [hrl], fun _ => ⟨rfl, ?_⟩, fun k hk => ⟨V k, ?_, hr k (by omega)⟩⟩
      · rw [add_none] at hc0; exact lt_of_cell hc0
      · have := (hx k (by omega)).1
        rw [add_none] at this
        exact this
end
end Nx
end Go.Proofs.Ytanlfmhlohcmgaa
