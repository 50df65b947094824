/- LexPieces: the law's walk. -/
import Derived.Test.YthcapeglhebdjaaDoorSplits
import Derived.Test.YthcapeglhebdjaaDoorApart
namespace Go.Proofs.YthcapeglhebdjaaDoor
open Go.RowKit

theorem Lx.Reads_place : ∀ (l : List Lx.Tok) {u : List UInt8} {p : Nat} {u' : List UInt8} {p' : Nat}, Lx.Reads u p l u' p' → ∀ t ∈ l, t.place ≤ p + u.length := by
  intro l
  induction l with
  | nil => intro u p u' p' _ t ht; simp at ht
  | cons x r ih =>
    intro u p u' p' h t ht
    obtain ⟨a, b, c, d, e⟩ := h
    have h1 := Lx.sk_le false u
    have h2 := Lx.rd_le (u.drop (Lx.sk false u))
    rcases List.mem_cons.1 ht with rfl | ht
    · rw [b]; show p + _ ≤ _; omega
    · have := ih e t ht
      simp only [List.length_drop] at this h2
      omega
theorem fin_place {s : ByteArray} {l : List Lx.Tok} (h : Lx.Ok (bs s) l) {i : Nat} {t : Lx.Tok} (ht : (fin s l)[i]? = some t) : t.place ≤ s.size := by
  obtain ⟨_, u, p, hr, _⟩ := h
  rcases List.mem_append.1 (List.mem_of_getElem? ht) with hm | hm
  · have := Lx.Reads_place l hr t hm; rw [bs_len] at this; omega
  · simp at hm; rw [hm]; exact Nat.le_refl _

/-- the fact: a text of three tokens -/
def lit0 : ByteArray := ⟨#[97, 32, 45, 45, 62, 32, 35, 32, 120, 10, 32, 98, 49]⟩
def toks0 : List Lx.Tok := [⟨1, [97], 0⟩, ⟨3, [45, 45, 62], 2⟩, ⟨1, [98, 49], 11⟩]
theorem ok0 : Lx.Ok (bs lit0) toks0 :=
  ⟨by decide, _, _, ⟨by decide, rfl, by decide, by decide, by decide, rfl, by decide, by decide, by decide, rfl, by decide, by decide, rfl, rfl⟩, by decide⟩

set_option maxRecDepth 100000 in
set_option maxHeartbeats 1000000 in
theorem cutup_any (w : World) (hm : Marks w) : Calls Tryd.prog 9 #[] w fun e w' => e = .returned (.bool true) ∧ Below w.heap.size w w' := by
  have hs := split_ok lit0 toks0 4 rfl w (by decide) hm ok0
  go_enter Tryd.func9, Tryd.ntmps9
  go_wp2_with (go_at_call 7; refine hs.mono ?_; rintro e w1 ⟨g, cap, rfl, hb, _, _, R⟩; have c4 : w1.cell? ⟨g, 4, none⟩ = some (.string ⟨#[45, 45, 62]⟩) := (R 1 _ rfl).2.1; have c7 : w1.cell? ⟨g, 7, none⟩ = some (.string ⟨#[98, 49]⟩) := (R 2 _ rfl).2.1; have c8 : w1.cell? ⟨g, 8, none⟩ = some (.int .i64 11) := (R 2 _ rfl).2.2; have c9 : w1.cell? ⟨g, 9, none⟩ = some (.int .i64 4) := (R 3 _ rfl).1; clear R)
  go_ret
  exact ⟨rfl, hb⟩

theorem ticket : Hid True := trivial
set_option maxRecDepth 100000 in
set_option maxHeartbeats 1000000 in
theorem pieces_noA (a b : ByteArray) (w : World) (ha : a.size ≤ 800) (hb : b.size ≤ 800) (hm : Marks w) (hno : ∀ l, ¬ Lx.Ok (bs a) l) :
    Calls Tryd.prog 5 #[.string a, .string b] w fun e w' => e = .returned (.bool true) ∧ Below w.heap.size w w' := by
  have HN : Hid (∀ l, ¬ Lx.Ok (bs a) l) := hno
  clear hno
  have T1 := ticket
  have T2 := ticket
  go_enter Tryd.func5, Tryd.ntmps5
  go_wp2_with (first
    | (go_at_call 9; refine (cutup_any _ hm).mono ?_; rintro e w0 ⟨rfl, hb0⟩; have hm0 := hm.below (Nat.le_refl _) hb0)
    | (go_at_call 7; clear T1; refine (split_bad a _ (by omega) hm0 HN.out).mono ?_; rintro e w1 ⟨ev, q, g, rfl, hb1, hbad, hg⟩; have hm1 := hm0.below (Nat.le_refl _) hb1)
    | (go_at_call 7; clear T2; refine (split_any b _ (by omega) hm1).mono ?_; rintro e w2 ⟨v2, err2, rfl, hS⟩))
  go_ret
  exact ⟨rfl, Below.up (Below.up hb0 hb1) hS.1⟩
set_option maxRecDepth 100000 in
set_option maxHeartbeats 1000000 in
theorem pieces_noB (a b : ByteArray) (l : List Lx.Tok) (w : World) (ha : a.size ≤ 800) (hb : b.size ≤ 800) (hm : Marks w) (hok : Lx.Ok (bs a) l) (hno : ∀ l, ¬ Lx.Ok (bs b) l) :
    Calls Tryd.prog 5 #[.string a, .string b] w fun e w' => e = .returned (.bool true) ∧ Below w.heap.size w w' := by
  have HN : Hid (∀ l, ¬ Lx.Ok (bs b) l) := hno
  have HK : Hid (Lx.Ok (bs a) l) := hok
  clear hno hok
  have T1 := ticket
  have T2 := ticket
  go_enter Tryd.func5, Tryd.ntmps5
  go_wp2_with (first
    | (go_at_call 9; refine (cutup_any _ hm).mono ?_; rintro e w0 ⟨rfl, hb0⟩; have hm0 := hm.below (Nat.le_refl _) hb0)
    | (go_at_call 7; clear T1; refine (split_ok a l _ rfl _ (by omega) hm0 HK.out).mono ?_; rintro e w1 ⟨g1, cap1, rfl, hb1, _, _, _⟩; have hm1 := hm0.below (Nat.le_refl _) hb1)
    | (go_at_call 7; clear T2; refine (split_bad b _ (by omega) hm1 HN.out).mono ?_; rintro e w2 ⟨ev, q, g, rfl, hb2, hbad, hg⟩))
  go_ret
  exact ⟨rfl, Below.up (Below.up hb0 hb1) hb2⟩

theorem cc_bs (a b : ByteArray) : bs (a ++ ⟨#[10]⟩ ++ b) = bs a ++ 10 :: bs b := by
  show (a ++ ⟨#[10]⟩ ++ b).data.toList = _
  rw [ByteArray.data_append, ByteArray.data_append]; simp
theorem adds (a b : ByteArray) (ha : a.size ≤ 800) (hb : b.size ≤ 800) : ∃ ab cc : ByteArray, (∀ w, (Op.stringOp .add a ⟨#[10]⟩).run Tryd.prog w = .ok (.string ab) w) ∧ (∀ w, (Op.stringOp .add ab b).run Tryd.prog w = .ok (.string cc) w) ∧ Hid (bs cc = bs a ++ 10 :: bs b) ∧ cc.size = a.size + 1 + b.size := by
  have e1 : (a ++ ⟨#[10]⟩ : ByteArray).size = a.size + 1 := by rw [ByteArray.size_append]; rfl
  refine ⟨a ++ ⟨#[10]⟩, a ++ ⟨#[10]⟩ ++ b, fun w => run_string_add_sum w a ⟨#[10]⟩ (by show a.size + 1 ≤ _; omega), fun w => run_string_add_sum w (a ++ ⟨#[10]⟩) b (by rw [e1]; omega), cc_bs a b, ?_⟩
  rw [ByteArray.size_append, e1]

set_option maxRecDepth 100000 in
set_option maxHeartbeats 1000000 in
theorem pieces_much (a b : ByteArray) (l m : List Lx.Tok) (w : World) (ha : a.size ≤ 800) (hb : b.size ≤ 800) (hm : Marks w) (he : ErrType w) (hA : Lx.Ok (bs a) l) (hB : Lx.Ok (bs b) m) (hn : 600 < l.length + m.length) :
    Calls Tryd.prog 5 #[.string a, .string b] w fun e w' => e = .returned (.bool true) ∧ Below w.heap.size w w' := by
  obtain ⟨ab, cc, had1, had2, hcc, hcs⟩ := adds a b ha hb
  obtain ⟨N, hN⟩ : ∃ N, Hid (N = l.length + 1) := ⟨_, rfl⟩
  obtain ⟨M, hM⟩ : ∃ M, Hid (M = m.length + 1) := ⟨_, rfl⟩
  have hsum : (600 : Int) < (N : Int) + M - 2 := by have := hN.out; have := hM.out; omega
  have hN6 : N ≤ 601 := by have := hA.1; have := hN.out; omega
  have hM6 : M ≤ 601 := by have := hB.1; have := hM.out; omega
  have hcz : cc.size ≤ 20000 := by omega
  have HR : Hid (∃ u p, Lx.Reads (bs cc) 0 (l ++ m.map (Lx.shift ((bs a).length + 1))) u p ∧ u.drop (Lx.sk false u) = []) := by rw [hcc.out]; exact Lx.pieces hA hB
  have HNo : Hid (∀ L, ¬ Lx.Ok (bs cc) L) := by
    obtain ⟨u, p, hr, _⟩ := HR.out; exact Lx.much_no hr (by simpa using hn)
  have H4 : Hid (∀ e q, Lx.Bad (bs cc) e q → e = 4) := by
    obtain ⟨u, p, hr, _⟩ := HR.out; exact fun e q hb => Lx.much_bad hr (by simpa using hn) hb
  have HA : Hid (Lx.Ok (bs a) l) := hA
  have HB : Hid (Lx.Ok (bs b) m) := hB
  clear HR hA hB hcs
  have T1 := ticket
  have T2 := ticket
  have T3 := ticket
  go_enter Tryd.func5, Tryd.ntmps5
  go_wp2_with (first
    | (go_at_call 9; refine (cutup_any _ hm).mono ?_; rintro e w0 ⟨rfl, hb0⟩; have hm0 := hm.below (Nat.le_refl _) hb0)
    | (go_at_call 7; clear T1; refine (split_ok a l N hN.out _ (by omega) hm0 HA.out).mono ?_; rintro e w1 ⟨g1, cap1, rfl, hb1, _, _, _⟩; have hm1 := hm0.below (Nat.le_refl _) hb1)
    | (go_at_call 7; clear T2; refine (split_ok b m M hM.out _ (by omega) hm1 HB.out).mono ?_; rintro e w2 ⟨g2, cap2, rfl, hb2, _, _, _⟩; have hm2 := hm1.below (Nat.le_refl _) hb2)
    | (go_at_call 7; clear T3; refine (split_bad cc _ hcz hm2 HNo.out).mono ?_; rintro e w3 ⟨ev, q, g, rfl, hb3, hbad, hg⟩; obtain rfl := H4.out _ _ hbad; have hB3 : Below w.heap.size w w3 := Below.up (Below.up (Below.up hb0 hb1) hb2) hb3; have he3 := he.below hB3)
    | (go_at_call 14; refine (tell_at g 4 q _ he3 hg).mono ?_; rintro e w4 ⟨rfl, hb4⟩))
  go_ret
  exact ⟨rfl, Below.up hB3 hb4⟩

theorem fin_pieces (a b cc : ByteArray) (l m : List Lx.Tok) (hcs : cc.size = a.size + 1 + b.size) :
    fin cc (l ++ m.map (Lx.shift (a.size + 1))) = l ++ (fin b m).map (Lx.shift (a.size + 1)) := by
  have e : Lx.shift (a.size + 1) ⟨4, [], b.size⟩ = ⟨4, [], cc.size⟩ := by
    rw [hcs]; show (⟨4, [], b.size + (a.size + 1)⟩ : Lx.Tok) = _; rw [Nat.add_comm]
  simp only [fin, List.map_append, List.append_assoc, List.map_cons, List.map_nil, e]
/-- cells that are read, in a later world and behind a new block -/
theorem read3 {w wr : World} {g k : Nat} {x y z : Value} (hb : Below w.heap.size w wr) (hg : g < w.heap.size) (h : w.cell? ⟨g, k, none⟩ = some x ∧ w.cell? ⟨g, k + 1, none⟩ = some y ∧ w.cell? ⟨g, k + 2, none⟩ = some z) :
    (∀ o, (wr.alloc o).cell? ⟨g, k, none⟩ = some x) ∧ (∀ o, (wr.alloc o).cell? ⟨g, k + 1, none⟩ = some y) ∧ (∀ o, (wr.alloc o).cell? ⟨g, k + 2, none⟩ = some z) := by
  have hs := hb.size
  have e : ∀ j o, (wr.alloc o).cell? ⟨g, j, none⟩ = w.cell? ⟨g, j, none⟩ := fun j o => by
    rw [World.cell?_alloc_lt _ _ ⟨g, j, none⟩ (show g < _ by omega), hb.cell (p := ⟨g, j, none⟩) hg]
  exact ⟨fun o => (e _ o).trans h.1, fun o => (e _ o).trans h.2.1, fun o => (e _ o).trans h.2.2⟩

set_option maxRecDepth 100000 in
set_option maxHeartbeats 2000000 in
theorem pieces_all (a b : ByteArray) (l m : List Lx.Tok) (w : World) (ha : a.size ≤ 800) (hb : b.size ≤ 800) (hm : Marks w) (hA : Lx.Ok (bs a) l) (hB : Lx.Ok (bs b) m) (hn : l.length + m.length ≤ 600) :
    Calls Tryd.prog 5 #[.string a, .string b] w fun e w' => e = .returned (.bool true) ∧ Below w.heap.size w w' := by
  obtain ⟨ab, cc, had1, had2, hcc, hcs⟩ := adds a b ha hb
  obtain ⟨N, hN⟩ : ∃ N, Hid (N = l.length + 1) := ⟨_, rfl⟩
  obtain ⟨M, hM⟩ : ∃ M, Hid (M = m.length + 1) := ⟨_, rfl⟩
  obtain ⟨L, hL⟩ : ∃ L, Hid (L = l ++ m.map (Lx.shift (a.size + 1))) := ⟨_, rfl⟩
  obtain ⟨K, hK⟩ : ∃ K, Hid (K = L.length + 1) := ⟨_, rfl⟩
  have hLl : L.length = l.length + m.length := by rw [hL.out]; simp
  have hK1 : (K : Int) ≤ (N : Int) + M - 1 := by have := hN.out; have := hM.out; have := hK.out; omega
  have hK2 : (N : Int) + M - 1 ≤ (K : Int) := by have := hN.out; have := hM.out; have := hK.out; omega
  have hN1 : 1 ≤ N := by have := hN.out; omega
  have hN6 : N ≤ 601 := by have := hN.out; omega
  have hM6 : M ≤ 601 := by have := hM.out; omega
  have hcz : cc.size ≤ 20000 := by omega
  have HC : Hid (Lx.Ok (bs cc) L) := by
    have := Lx.pieces_ok hA hB hn
    rw [bs_len] at this
    rw [Hid, hcc.out, hL.out]; exact this
  have HF : Hid (fin cc L = l ++ (fin b m).map (Lx.shift (a.size + 1))) := by rw [Hid, hL.out]; exact fin_pieces a b cc l m hcs
  have HA : Hid (Lx.Ok (bs a) l) := hA
  have HB : Hid (Lx.Ok (bs b) m) := hB
  clear hA hB hcs hLl hn
  have T1 := ticket
  have T2 := ticket
  have T3 := ticket
  go_enter Tryd.func5, Tryd.ntmps5
  go_wp2_with (first
    | (go_at_call 9; refine (cutup_any _ hm).mono ?_; rintro e w0 ⟨rfl, hb0⟩; have hm0 := hm.below (Nat.le_refl _) hb0)
    | (go_at_call 7; clear T1; refine (split_ok a l N hN.out _ (by omega) hm0 HA.out).mono ?_; rintro e w1 ⟨g1, cap1, rfl, hb1, _, hl1, hr1⟩; have hm1 := hm0.below (Nat.le_refl _) hb1; have R1 : Hid _ := hr1; clear hr1)
    | (go_at_call 7; clear T2; refine (split_ok b m M hM.out _ (by omega) hm1 HB.out).mono ?_; rintro e w2 ⟨g2, cap2, rfl, hb2, _, hl2, hr2⟩; have hm2 := hm1.below (Nat.le_refl _) hb2; have R2 : Hid _ := hr2; clear hr2)
    | (go_at_call 7; clear T3; refine (split_ok cc L K hK.out _ hcz hm2 HC.out).mono ?_; rintro e w3 ⟨g3, cap3, rfl, hb3, _, hl3, hr3⟩; have R3 : Hid _ := hr3; clear hr3))
  have hB3 : Below w.heap.size w w3 := Below.up (Below.up (Below.up hb0 hb1) hb2) hb3
  have hB13 : Below w1.heap.size w1 w3 := Below.up hb2 hb3
  have z13 := hB13.size
  have z23 := hb3.size
  go_loopw [11] (fun i wr => ∃ k : Nat, k ≤ K ∧ i = .int .i64 k ∧ Below w3.heap.size w3 wr) (fun i _ => K - (intOf i).toNat)
  case atStart => exact ⟨0, by omega, rfl, Below.refl _ _⟩
  case round =>
    obtain ⟨k, hk, rfl, hbr⟩ := hrel
    have zr := hbr.size
    by_cases hlt : k < K
    · have hi0 : (0 : Int) ≤ (k : Int) := Int.natCast_nonneg _
      have hi1 : (k : Int) < (K : Int) := by omega
      by_cases hkl : k + 1 < N
      · have hkl' : (k : Int) < (N : Int) - 1 := by omega
        have hkl2 : (k : Int) < (N : Int) := by omega
        have hkl3 : k < l.length := by have := hN.out; omega
        obtain ⟨t, ht⟩ : ∃ t, l[k]? = some t := ⟨l[k], List.getElem?_eq_getElem hkl3⟩
        have f1 : (fin a l)[k]? = some t := by rw [fin, List.getElem?_append_left hkl3]; exact ht
        have f3 : (fin cc L)[k]? = some t := by rw [HF.out, List.getElem?_append_left hkl3]; exact ht
        obtain ⟨a1, a2, a3⟩ := read3 (hB13.trans (hbr.mono z13)) hl1 (R1.out k t f1)
        obtain ⟨c1, c2, c3⟩ := read3 hbr hl3 (R3.out k t f3)
        clear f1 f3 ht hkl3
        go_wp2
        go_quiet (fail)
        go_wp2
        go_roundw
        case rel => exact ⟨k + 1, by omega, by go_num, below_drewN (hbr.alloc zr _) _⟩
        case measure => simp [intOf]; omega
      · obtain ⟨j, hj⟩ : ∃ j : Nat, Hid (j = k - l.length) := ⟨_, rfl⟩
        have hkl' : (N : Int) - 1 ≤ (k : Int) := by omega
        have hjM : j < M := by have := hj.out; have := hN.out; omega
        have hji : (k : Int) - N + 1 = j := by have := hj.out; have := hN.out; omega
        have hj0 : (0 : Int) ≤ (j : Int) := Int.natCast_nonneg _
        have hj1 : (j : Int) < (M : Int) := by omega
        have hkl3 : l.length ≤ k := by have := hN.out; omega
        obtain ⟨t, ht⟩ : ∃ t, (fin b m)[j]? = some t := by
          refine ⟨(fin b m)[j]'(by rw [fin_len]; have := hM.out; omega), List.getElem?_eq_getElem _⟩
        have htp := fin_place HB.out ht
        have f3 : (fin cc L)[k]? = some (Lx.shift (a.size + 1) t) := by
          rw [HF.out, List.getElem?_append_right hkl3, ← hj.out, List.getElem?_map, ht]; rfl
        obtain ⟨a1, a2, a3⟩ := read3 (Below.up hb3 hbr) hl2 (R2.out j t ht)
        obtain ⟨c1, c2, c3'⟩ := read3 hbr hl3 (R3.out k _ f3)
        have c3 : ∀ o, (wr.alloc o).cell? ⟨g3, k * 3 + 2, none⟩ = some (.int .i64 ((t.place : Int) + ((a.size : Int) + 1))) := fun o => by
          rw [c3' o]; simp [Lx.shift]
        have c1' : ∀ o, (wr.alloc o).cell? ⟨g3, k * 3, none⟩ = some (.int .i64 t.kind) := c1
        have c2' : ∀ o, (wr.alloc o).cell? ⟨g3, k * 3 + 1, none⟩ = some (.string ⟨t.text.toArray⟩) := c2
        clear f3 ht hkl3 c1 c2 c3' hkl
        go_wp2
        go_quiet (fail)
        go_wp2
        go_roundw
        case rel => exact ⟨k + 1, by omega, by go_num, below_drewN (hbr.alloc zr _) _⟩
        case measure => simp [intOf]; omega
    · go_wp2
      go_ret
      exact ⟨rfl, Below.up hB3 hbr⟩

theorem lexPieces_any (a b : ByteArray) (w : World) (hm : Marks w) (he : ErrType w) :
    Calls Tryd.prog 5 #[.string a, .string b] w fun e w' => e = .returned (.bool true) ∧ Below w.heap.size w w' := by
  by_cases ha : a.size ≤ 800
  · by_cases hb : b.size ≤ 800
    · by_cases hA : ∃ l, Lx.Ok (bs a) l
      · obtain ⟨l, hA⟩ := hA
        by_cases hB : ∃ m, Lx.Ok (bs b) m
        · obtain ⟨m, hB⟩ := hB
          by_cases hn : l.length + m.length ≤ 600
          · exact pieces_all a b l m w ha hb hm hA hB hn
          · exact pieces_much a b l m w ha hb hm he hA hB (by omega)
        · exact pieces_noB a b l w ha hb hm hA (fun l hl => hB ⟨l, hl⟩)
      · exact pieces_noA a b w ha hb hm (fun l hl => hA ⟨l, hl⟩)
    · have h1 : (a.size : Int) ≤ 800 := by omega
      have h2 : (800 : Int) < (b.size : Int) := by omega
      clear ha hb
      go_enter Tryd.func5, Tryd.ntmps5
      go_wp2
      go_ret
      exact ⟨rfl, Below.refl _ _⟩
  · have h1 : (800 : Int) < (a.size : Int) := by omega
    clear ha
    go_enter Tryd.func5, Tryd.ntmps5
    go_wp2
    go_ret
    exact ⟨rfl, Below.refl _ _⟩
end Go.Proofs.YthcapeglhebdjaaDoor
