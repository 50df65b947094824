/- LexBlanks: the law's walk. -/
import Derived.Test.YthcapeglhebdjaaDoorBlanks
namespace Go.Proofs.YthcapeglhebdjaaDoor
open Go.RowKit

theorem pick_at (a : Int) (k : Nat) (w : World) (h : Hid (pk a = k)) :
    Calls Tryd.prog 10 #[.int .i64 a, .int .i64 4] w fun e w' => e = .returned (.int .i64 k) ∧ w' = w := by
  rw [← h.out]; exact pick_any a w
theorem one_int (n : Int) : ∀ u ∈ [Value.int .i64 n], u.oneCell' = true := by
  intro u hu; simp at hu; subst hu; rfl
theorem below4 {w1 wr W2 W4 : World} {b n : Nat} {v : Value} {xs : List Value} {o1 o2 : Obj} (hbw : Below b w1 wr) (hbl : b < wr.heap.size) (hrow : wr.ownsRow (b + 1) 3 1 v n xs) (hb2 : Below b (wr.alloc o1) W2) (hgrow : (W2.alloc o2).grownBy W4 v.ownBlock) : Below b w1 W4 := by
  have z2 := hb2.size
  simp at z2
  refine Below.grown (((hbw.alloc (by omega) o1).trans hb2).alloc (by omega) o2) hgrow (by simp; omega) ?_
  intro j hj
  have := (hrow.lt _ hj).1; omega

/-- the numbers that came in -/
def How (w : World) (a0 : Option Addr) (len0 : Nat) : Prop :=
  len0 = 0 ∨ ∃ bh off, a0 = some ⟨bh, off, none⟩ ∧ bh < w.heap.size ∧ ∀ j, j < len0 → ∃ z : Int, w.cell? ⟨bh, off + j, none⟩ = some (.int .i64 z)

theorem ints_read {w : World} {B n : Nat} {v : Value} {xs : List Value} (h0 : 0 < n) (h : w.ownsRow B 3 1 v n xs) :
    ∃ g cap, v = .slice (some ⟨g, 0, none⟩) n cap ∧ B ≤ g ∧ ∀ w' : World, w'.ownsRow B 3 1 (.slice (some ⟨g, 0, none⟩) n cap) n xs → g < w'.heap.size ∧ ∀ i u, xs[i]? = some u → w'.cell? ⟨g, i, none⟩ = some u := by
  rcases h.2 with ⟨_, rfl⟩ | ⟨g, cap, cur, rfl, hg, _⟩
  · omega
  · refine ⟨g, cap, rfl, hg, fun w' h' => ⟨(World.ownsRow.lt h' g rfl).2, fun i u hu => ?_⟩⟩
    have h1 := World.ownsRow.cells h' (g := g) rfl i u hu
    have ad : (⟨g, 0, none⟩ : Addr).add i = ⟨g, i, none⟩ := by unfold Addr.add; split <;> simp_all
    rw [ad] at h1; exact h1
theorem string_k (b : Nat) (u : List UInt8) (S : ByteArray) (hS : Hid (S = ⟨u.toArray⟩)) (w : World) (h : Lib.IsBuilderF 43 5 b b (Lib.byteCells u) w) (hb : b ≤ w.heap.size) :
    Calls Tryd.prog 13 #[.pointer (some ⟨b, 0, none⟩)] w fun e w' => e = .returned (.string S) ∧ Below b w w' ∧ Lib.OthersKept 5 (some b) w w' := by
  refine (Tryd.Builder_String_any_k b b u w h hb).mono ?_
  rintro e w' ⟨rfl, _, h2, h3⟩
  exact ⟨by rw [hS.out], h2, h3⟩

set_option maxRecDepth 100000 in
set_option maxHeartbeats 1000000 in
theorem blanks_no (s : ByteArray) (a0 : Option Addr) (len0 cap0 : Nat) (w : World) (hs : s.size ≤ 800) (hh : len0 ≤ 100) (hm : Marks w) (hno : ∀ l, ¬ Lx.Ok (bs s) l) :
    Calls Tryd.prog 4 #[.string s, .slice a0 len0 cap0] w fun e w' => e = .returned (.bool true) ∧ Below w.heap.size w w' := by
  have HN : Hid (∀ l, ¬ Lx.Ok (bs s) l) := hno
  clear hno
  go_enter Tryd.func4, Tryd.ntmps4
  go_wp2_with (first
    | (go_at_call 9; refine (cutup_any _ hm).mono ?_; rintro e w0 ⟨rfl, hb0⟩; have hm0 := hm.below (Nat.le_refl _) hb0)
    | (go_at_call 7; refine (split_bad s _ (by omega) hm0 HN.out).mono ?_; rintro e w1 ⟨ev, q, g, rfl, hb1, hbad, hg⟩))
  go_ret
  exact ⟨rfl, Below.up hb0 hb1⟩

set_option maxRecDepth 100000 in
set_option maxHeartbeats 4000000 in
theorem blanks_ok (s : ByteArray) (l : List Lx.Tok) (a0 : Option Addr) (len0 cap0 : Nat) (w : World) (hs : s.size ≤ 800) (hh : len0 ≤ 100) (hm : Marks w) (hok : Lx.Ok (bs s) l) (hhow : How w a0 len0) :
    Calls Tryd.prog 4 #[.string s, .slice a0 len0 cap0] w fun e w' => e = .returned (.bool true) ∧ Below w.heap.size w w' := by
  obtain ⟨i0, hi, hz0, hz1, hz2⟩ := info_parts Tryd.info3
  obtain ⟨N, hN⟩ : ∃ N, Hid (N = l.length + 1) := ⟨_, rfl⟩
  have hN6 : N ≤ 601 := by have := hok.1; have := hN.out; omega
  have HK : Hid (Lx.Ok (bs s) l) := hok
  have HH : Hid (How w a0 len0) := hhow
  clear hok hhow
  go_enter Tryd.func4, Tryd.ntmps4
  go_wp2_with (first
    | (go_at_call 9; refine (cutup_any _ hm).mono ?_; rintro e w0 ⟨rfl, hb0⟩; have hm0 := hm.below (Nat.le_refl _) hb0)
    | (go_at_call 7; refine (split_ok s l N hN.out _ (by omega) hm0 HK.out).mono ?_; rintro e w1 ⟨g1, cap1, rfl, hb1, _, hl1, hr1⟩; have R1 : Hid _ := hr1; clear hr1))
  obtain ⟨b, hbb⟩ : ∃ b, b = w1.heap.size := ⟨_, rfl⟩
  have hnew := new_builder w1
  rw [← hbb] at hnew hl1
  have HBB : Hid (b = w1.heap.size) := hbb
  have hW1 : Below w.heap.size w w1 := Below.up hb0 hb1
  have hwb : w.heap.size ≤ b := by rw [HBB.out]; exact hW1.size
  have hm1 : Marks w1 := hm0.below (Nat.le_refl _) hb1
  rw [← hbb]
  clear hbb
  go_loopg [8, 9] N (fun g v i wr => ∃ (k : Nat) (P : List (Nat × Lx.Tok)), g = N - k ∧ k ≤ N ∧ i = .int .i64 k ∧ BRel s l w1 b k P v wr)
  case atStart => exact ⟨0, [], by omega, by omega, rfl, by simp, hnew, World.ownsRow_nil _ _ _ _, (Below.refl _ _).alloc (by have := HBB.out; omega) _, by have := HBB.out; simp; omega⟩
  case round =>
    obtain ⟨k, P, rfl, hk, rfl, hR⟩ := hrel
    have HR : Hid (BRel s l w1 b k P _ wr) := hR
    obtain ⟨_, hB, hrow, hbw, hbl⟩ := hR
    have hbd := brel_bound hs HK.out (by have := hN.out; omega) HR.out
    by_cases hlt : k < N
    · obtain ⟨t, ht⟩ : ∃ t, Hid ((fin s l)[k]? = some t) := ⟨(fin s l)[k]'(by rw [fin_len]; have := hN.out; omega), by rw [Hid, List.getElem?_eq_getElem]⟩
      have htl := fin_text HK.out ht.out
      have a2 : ∀ W, Below b w1 W → W.cell? ⟨g1, k * 3 + 1, none⟩ = some (.string ⟨t.text.toArray⟩) := fun W hW => by
        rw [hW.cell (p := ⟨g1, k * 3 + 1, none⟩) hl1]; exact (R1.out k t ht.out).2.1
      have hi0 : (0 : Int) ≤ (k : Int) := Int.natCast_nonneg _
      have hi1 : (k : Int) < (N : Int) := by omega
      by_cases hl0 : len0 = 0
      · have hl0' : (len0 : Int) ≤ 0 := by omega
        clear hl0
        obtain ⟨n, hn⟩ : ∃ n, Hid (n = (Lx.bld P ++ bs ⟨#[32]⟩).length) := ⟨_, rfl⟩
        have hn2 : n ≤ 10000 := by have := hn.out; rw [List.length_append] at this; have h9 : (bs ⟨#[32]⟩).length = 1 := rfl; omega
        have T1 := ticket
        have T2 := ticket
        go_wp2_with (first
          | (go_at_call 11; clear T1; refine (write_k b (Lx.bld P) ⟨#[32]⟩ _ (hB.alloc _) (by show _ + 1 ≤ _; omega) (by simp; omega)).mono ?_; rintro e W2 ⟨rfl, hB2, hb2, ho2⟩; have z2 := hb2.size)
          | (go_at_call 12; refine (len_k b _ n hn _ hB2).mono ?_; rintro e w' ⟨rfl, hw⟩; obtain rfl := hw.symm)
          | (at_builtin; refine wpList_append_own _ rfl (.tmp 52) (.tmp 54) 38 rfl (b + 1) 3 i0 (.int .i64 0) 1 8 Tryd.underlying38 hi hz0 hz1 hz2 rfl (by decide) _ _ _ rfl ((rkept (hrow.alloc _) ho2 (by omega)).alloc _) ⟨W2.heap.size, 0, none⟩ 1 1 [.int .i64 n] rfl rfl (cell_one_new _ _ _) (one_int _) (by unfold maxLen; omega) (by omega) (by simp at z2; simp; omega) ?_; intro v' W4 hown4 hgrow _; have hb4 : Below b w1 W4 := below4 hbw hbl hrow hb2 hgrow; have cT := a2 W4 hb4; have hB4 := bkept (hB2.alloc _) hgrow (row_int ((rkept (hrow.alloc _) ho2 (by omega)).alloc _)); have z4 : b < W4.heap.size := by (have := hgrow.size; simp at this z2; omega))
          | (go_at_call 11; clear T2; refine (write_k b _ ⟨t.text.toArray⟩ _ hB4 (by rw [List.length_append]; show _ + 1 + t.text.toArray.size ≤ _; simp; omega) (by omega)).mono ?_; rintro e W5 ⟨rfl, hB5, hb5, ho5⟩))
        have X := brel_step (kk := 0) HR.out ht.out rfl hn.out hb2 hown4 hgrow hB5 hb5 ho5
        go_roundg (N - (k + 1))
        case measure => omega
        case rel => exact ⟨k + 1, _, rfl, by omega, by go_num, X⟩
      · rcases HH.out with h0 | ⟨bh, off, rfl, hbh, hcz⟩
        · exact absurd h0 hl0
        · obtain ⟨j, hj⟩ : ∃ j, j = k % len0 := ⟨_, rfl⟩
          have hjl : j < len0 := by rw [hj]; exact Nat.mod_lt _ (by omega)
          have hm2 : (k : Int) % (len0 : Int) = (j : Int) := by rw [hj]; omega
          have hm3 : (k : Int).tmod (len0 : Int) = (j : Int) := by rw [Int.tmod_eq_emod_of_nonneg hi0]; exact hm2
          obtain ⟨z, hcw⟩ := hcz j hjl
          have hcz2 : wr.cell? ⟨bh, off + j, none⟩ = some (.int .i64 z) := by
            rw [hbw.cell (p := ⟨bh, off + j, none⟩) (show bh < b by omega), hW1.cell (p := ⟨bh, off + j, none⟩) hbh]; exact hcw
          have hl1' : (0 : Int) < (len0 : Int) := by omega
          have hl2' : ¬ (len0 : Int) = 0 := by omega
          have hl3' : ((len0 : Int) == 0) = false := by simpa using hl2'
          have hj0 : (0 : Int) ≤ (j : Int) := Int.natCast_nonneg _
          have hj1 : (j : Int) < (len0 : Int) := by omega
          clear hcz hcw hj
          rcases (show pk z = 0 ∨ pk z = 1 ∨ pk z = 2 ∨ pk z = 3 by have := pk_lt z; omega) with hp | hp | hp | hp
          · have hpk : Hid (pk z = 0) := hp
            clear hp
            obtain ⟨n, hn⟩ : ∃ n, Hid (n = (Lx.bld P ++ bs ⟨#[32]⟩).length) := ⟨_, rfl⟩
            have hn2 : n ≤ 10000 := by have := hn.out; rw [List.length_append] at this; have h9 : (bs ⟨#[32]⟩).length = 1 := rfl; omega
            have T1 := ticket
            have T2 := ticket
            go_wp2_with (first
              | (go_at_call 10; refine (pick_at z 0 _ hpk).mono ?_; rintro e w' ⟨rfl, hw⟩; obtain rfl := hw.symm)
              | (go_at_call 11; clear T1; refine (write_k b (Lx.bld P) ⟨#[32]⟩ _ (hB.alloc _) (by show _ + 1 ≤ _; omega) (by simp; omega)).mono ?_; rintro e W2 ⟨rfl, hB2, hb2, ho2⟩; have z2 := hb2.size)
              | (go_at_call 12; refine (len_k b _ n hn _ hB2).mono ?_; rintro e w' ⟨rfl, hw⟩; obtain rfl := hw.symm)
              | (at_builtin; refine wpList_append_own _ rfl (.tmp 52) (.tmp 54) 38 rfl (b + 1) 3 i0 (.int .i64 0) 1 8 Tryd.underlying38 hi hz0 hz1 hz2 rfl (by decide) _ _ _ rfl ((rkept (hrow.alloc _) ho2 (by omega)).alloc _) ⟨W2.heap.size, 0, none⟩ 1 1 [.int .i64 n] rfl rfl (cell_one_new _ _ _) (one_int _) (by unfold maxLen; omega) (by omega) (by simp at z2; simp; omega) ?_; intro v' W4 hown4 hgrow _; have hb4 : Below b w1 W4 := below4 hbw hbl hrow hb2 hgrow; have cT := a2 W4 hb4; have hB4 := bkept (hB2.alloc _) hgrow (row_int ((rkept (hrow.alloc _) ho2 (by omega)).alloc _)); have z4 : b < W4.heap.size := by (have := hgrow.size; simp at this z2; omega))
              | (go_at_call 11; clear T2; refine (write_k b _ ⟨t.text.toArray⟩ _ hB4 (by rw [List.length_append]; show _ + 1 + t.text.toArray.size ≤ _; simp; omega) (by omega)).mono ?_; rintro e W5 ⟨rfl, hB5, hb5, ho5⟩))
            have X := brel_step (kk := 0) HR.out ht.out rfl hn.out hb2 hown4 hgrow hB5 hb5 ho5
            go_roundg (N - (k + 1))
            case measure => omega
            case rel => exact ⟨k + 1, _, rfl, by omega, by go_num, X⟩
          · have hpk : Hid (pk z = 1) := hp
            clear hp
            obtain ⟨n, hn⟩ : ∃ n, Hid (n = (Lx.bld P ++ bs ⟨#[10]⟩).length) := ⟨_, rfl⟩
            have hn2 : n ≤ 10000 := by have := hn.out; rw [List.length_append] at this; have h9 : (bs ⟨#[10]⟩).length = 1 := rfl; omega
            have T1 := ticket
            have T2 := ticket
            go_wp2_with (first
              | (go_at_call 10; refine (pick_at z 1 _ hpk).mono ?_; rintro e w' ⟨rfl, hw⟩; obtain rfl := hw.symm)
              | (go_at_call 11; clear T1; refine (write_k b (Lx.bld P) ⟨#[10]⟩ _ (hB.alloc _) (by show _ + 1 ≤ _; omega) (by simp; omega)).mono ?_; rintro e W2 ⟨rfl, hB2, hb2, ho2⟩; have z2 := hb2.size)
              | (go_at_call 12; refine (len_k b _ n hn _ hB2).mono ?_; rintro e w' ⟨rfl, hw⟩; obtain rfl := hw.symm)
              | (at_builtin; refine wpList_append_own _ rfl (.tmp 52) (.tmp 54) 38 rfl (b + 1) 3 i0 (.int .i64 0) 1 8 Tryd.underlying38 hi hz0 hz1 hz2 rfl (by decide) _ _ _ rfl ((rkept (hrow.alloc _) ho2 (by omega)).alloc _) ⟨W2.heap.size, 0, none⟩ 1 1 [.int .i64 n] rfl rfl (cell_one_new _ _ _) (one_int _) (by unfold maxLen; omega) (by omega) (by simp at z2; simp; omega) ?_; intro v' W4 hown4 hgrow _; have hb4 : Below b w1 W4 := below4 hbw hbl hrow hb2 hgrow; have cT := a2 W4 hb4; have hB4 := bkept (hB2.alloc _) hgrow (row_int ((rkept (hrow.alloc _) ho2 (by omega)).alloc _)); have z4 : b < W4.heap.size := by (have := hgrow.size; simp at this z2; omega))
              | (go_at_call 11; clear T2; refine (write_k b _ ⟨t.text.toArray⟩ _ hB4 (by rw [List.length_append]; show _ + 1 + t.text.toArray.size ≤ _; simp; omega) (by omega)).mono ?_; rintro e W5 ⟨rfl, hB5, hb5, ho5⟩))
            have X := brel_step (kk := 1) HR.out ht.out rfl hn.out hb2 hown4 hgrow hB5 hb5 ho5
            go_roundg (N - (k + 1))
            case measure => omega
            case rel => exact ⟨k + 1, _, rfl, by omega, by go_num, X⟩
          · have hpk : Hid (pk z = 2) := hp
            clear hp
            obtain ⟨n, hn⟩ : ∃ n, Hid (n = (Lx.bld P ++ bs ⟨#[9, 32, 35, 32, 41, 32, 57, 32, 45, 45, 62, 32, 120, 10]⟩).length) := ⟨_, rfl⟩
            have hn2 : n ≤ 10000 := by have := hn.out; rw [List.length_append] at this; have h9 : (bs ⟨#[9, 32, 35, 32, 41, 32, 57, 32, 45, 45, 62, 32, 120, 10]⟩).length = 14 := rfl; omega
            have T1 := ticket
            have T2 := ticket
            go_wp2_with (first
              | (go_at_call 10; refine (pick_at z 2 _ hpk).mono ?_; rintro e w' ⟨rfl, hw⟩; obtain rfl := hw.symm)
              | (go_at_call 11; clear T1; refine (write_k b (Lx.bld P) ⟨#[9, 32, 35, 32, 41, 32, 57, 32, 45, 45, 62, 32, 120, 10]⟩ _ (hB.alloc _) (by show _ + 14 ≤ _; omega) (by simp; omega)).mono ?_; rintro e W2 ⟨rfl, hB2, hb2, ho2⟩; have z2 := hb2.size)
              | (go_at_call 12; refine (len_k b _ n hn _ hB2).mono ?_; rintro e w' ⟨rfl, hw⟩; obtain rfl := hw.symm)
              | (at_builtin; refine wpList_append_own _ rfl (.tmp 52) (.tmp 54) 38 rfl (b + 1) 3 i0 (.int .i64 0) 1 8 Tryd.underlying38 hi hz0 hz1 hz2 rfl (by decide) _ _ _ rfl ((rkept (hrow.alloc _) ho2 (by omega)).alloc _) ⟨W2.heap.size, 0, none⟩ 1 1 [.int .i64 n] rfl rfl (cell_one_new _ _ _) (one_int _) (by unfold maxLen; omega) (by omega) (by simp at z2; simp; omega) ?_; intro v' W4 hown4 hgrow _; have hb4 : Below b w1 W4 := below4 hbw hbl hrow hb2 hgrow; have cT := a2 W4 hb4; have hB4 := bkept (hB2.alloc _) hgrow (row_int ((rkept (hrow.alloc _) ho2 (by omega)).alloc _)); have z4 : b < W4.heap.size := by (have := hgrow.size; simp at this z2; omega))
              | (go_at_call 11; clear T2; refine (write_k b _ ⟨t.text.toArray⟩ _ hB4 (by rw [List.length_append]; show _ + 14 + t.text.toArray.size ≤ _; simp; omega) (by omega)).mono ?_; rintro e W5 ⟨rfl, hB5, hb5, ho5⟩))
            have X := brel_step (kk := 2) HR.out ht.out rfl hn.out hb2 hown4 hgrow hB5 hb5 ho5
            go_roundg (N - (k + 1))
            case measure => omega
            case rel => exact ⟨k + 1, _, rfl, by omega, by go_num, X⟩
          · have hpk : Hid (pk z = 3) := hp
            clear hp
            obtain ⟨n, hn⟩ : ∃ n, Hid (n = (Lx.bld P ++ bs ⟨#[32, 32, 32, 35, 10, 35, 10, 32]⟩).length) := ⟨_, rfl⟩
            have hn2 : n ≤ 10000 := by have := hn.out; rw [List.length_append] at this; have h9 : (bs ⟨#[32, 32, 32, 35, 10, 35, 10, 32]⟩).length = 8 := rfl; omega
            have T1 := ticket
            have T2 := ticket
            go_wp2_with (first
              | (go_at_call 10; refine (pick_at z 3 _ hpk).mono ?_; rintro e w' ⟨rfl, hw⟩; obtain rfl := hw.symm)
              | (go_at_call 11; clear T1; refine (write_k b (Lx.bld P) ⟨#[32, 32, 32, 35, 10, 35, 10, 32]⟩ _ (hB.alloc _) (by show _ + 8 ≤ _; omega) (by simp; omega)).mono ?_; rintro e W2 ⟨rfl, hB2, hb2, ho2⟩; have z2 := hb2.size)
              | (go_at_call 12; refine (len_k b _ n hn _ hB2).mono ?_; rintro e w' ⟨rfl, hw⟩; obtain rfl := hw.symm)
              | (at_builtin; refine wpList_append_own _ rfl (.tmp 52) (.tmp 54) 38 rfl (b + 1) 3 i0 (.int .i64 0) 1 8 Tryd.underlying38 hi hz0 hz1 hz2 rfl (by decide) _ _ _ rfl ((rkept (hrow.alloc _) ho2 (by omega)).alloc _) ⟨W2.heap.size, 0, none⟩ 1 1 [.int .i64 n] rfl rfl (cell_one_new _ _ _) (one_int _) (by unfold maxLen; omega) (by omega) (by simp at z2; simp; omega) ?_; intro v' W4 hown4 hgrow _; have hb4 : Below b w1 W4 := below4 hbw hbl hrow hb2 hgrow; have cT := a2 W4 hb4; have hB4 := bkept (hB2.alloc _) hgrow (row_int ((rkept (hrow.alloc _) ho2 (by omega)).alloc _)); have z4 : b < W4.heap.size := by (have := hgrow.size; simp at this z2; omega))
              | (go_at_call 11; clear T2; refine (write_k b _ ⟨t.text.toArray⟩ _ hB4 (by rw [List.length_append]; show _ + 8 + t.text.toArray.size ≤ _; simp; omega) (by omega)).mono ?_; rintro e W5 ⟨rfl, hB5, hb5, ho5⟩))
            have X := brel_step (kk := 3) HR.out ht.out rfl hn.out hb2 hown4 hgrow hB5 hb5 ho5
            go_roundg (N - (k + 1))
            case measure => omega
            case rel => exact ⟨k + 1, _, rfl, by omega, by go_num, X⟩
    · obtain rfl : k = N := by omega
      have HR' := HR.out
      rw [hN.out] at HR'
      obtain ⟨L, hLok, hLl, hLf, hLt⟩ := brel_end HK.out HR'
      obtain ⟨S, hS⟩ : ∃ S : ByteArray, S = ⟨(Lx.bld P).toArray⟩ := ⟨_, rfl⟩
      rw [← hS] at hLok hLf
      have HS : Hid (S = ⟨(Lx.bld P).toArray⟩) := hS
      have hSz : S.size ≤ 20000 := by
        rw [hS]; show (Lx.bld P).toArray.size ≤ _; simp; omega
      clear hS HR'
      have HL : Hid (Lx.Ok (bs S) L) := hLok
      have HF : Hid (fin S L = Lx.rel 0 P) := hLf
      have HT : Hid (∀ (i : Nat) (t t' : Lx.Tok), (fin s l)[i]? = some t → (Lx.rel 0 P)[i]? = some t' → t'.kind = t.kind ∧ t'.text = t.text) := hLt
      have HLl : Hid (k = L.length + 1) := by rw [Hid, hLl]; exact hN.out
      have hk0 : 0 < k := by have := hN.out; omega
      have hrl : Hid ((Lx.rel 0 P).length = k) := by rw [Hid, Lx.rel_len]; exact hbd.2
      clear hLok hLf hLt hLl
      obtain ⟨ga, capa, rfl, hga, hca⟩ := ints_read hk0 hrow
      go_wp2_with (first
        | (go_at_call 13; refine (string_k b (Lx.bld P) S HS _ hB (by omega)).mono ?_; rintro e W6 ⟨rfl, hb6, ho6⟩; have hb16 : Below b w1 W6 := hbw.trans hb6; have hm6 : Marks W6 := hm1.below (by have := HBB.out; omega) hb16; have hrow6 := rkept hrow ho6 (by omega); have z6 := hb6.size)
        | (go_at_call 7; refine (split_ok S L k HLl.out _ hSz hm6 HL.out).mono ?_; rintro e W7 ⟨g3, cap3, rfl, hb7, _, hl3, hr3⟩; have R3 : Hid _ := hr3; clear hr3))
      obtain ⟨hga6, hca6⟩ := hca W6 hrow6
      have z7 := hb7.size
      have hWW : Below w.heap.size w W7 := (hW1.trans (hb16.mono hwb)).trans (hb7.mono (by omega))
      have hb17 : Below b w1 W7 := hb16.trans (hb7.mono (by omega))
      go_loopg [12] k (fun g i wx => ∃ j : Nat, g = k - j ∧ j ≤ k ∧ i = .int .i64 j ∧ Below W7.heap.size W7 wx)
      case atStart => exact ⟨0, by omega, by omega, rfl, Below.refl _ _⟩
      case round =>
        obtain ⟨j, rfl, hj, rfl, hbx⟩ := hrel
        by_cases hlt2 : j < k
        · obtain ⟨t, ht⟩ : ∃ t, (fin s l)[j]? = some t := ⟨(fin s l)[j]'(by rw [fin_len]; have := hN.out; omega), List.getElem?_eq_getElem _⟩
          obtain ⟨t', ht'⟩ : ∃ t', (Lx.rel 0 P)[j]? = some t' := ⟨(Lx.rel 0 P)[j]'(by rw [hrl.out]; exact hlt2), List.getElem?_eq_getElem _⟩
          obtain ⟨e1, e2⟩ := HT.out j t t' ht ht'
          have hp : (places P)[j]? = some (.int .i64 t'.place) := by rw [places, List.getElem?_map, ht']; rfl
          obtain ⟨c1, c2, c3⟩ := R3.out j t' (by rw [HF.out]; exact ht')
          obtain ⟨d1, d2, _⟩ := R1.out j t ht
          have c4 := hca6 j _ hp
          rw [e1] at c1
          rw [e2] at c2
          rw [← hbx.cell (p := ⟨g3, j * 3, none⟩) hl3] at c1
          rw [← hbx.cell (p := ⟨g3, j * 3 + 1, none⟩) hl3] at c2
          rw [← hbx.cell (p := ⟨g3, j * 3 + 2, none⟩) hl3] at c3
          rw [← hb17.cell (p := ⟨g1, j * 3, none⟩) hl1, ← hbx.cell (p := ⟨g1, j * 3, none⟩) (show g1 < _ by omega)] at d1
          rw [← hb17.cell (p := ⟨g1, j * 3 + 1, none⟩) hl1, ← hbx.cell (p := ⟨g1, j * 3 + 1, none⟩) (show g1 < _ by omega)] at d2
          rw [← hb7.cell (p := ⟨ga, j, none⟩) hga6, ← hbx.cell (p := ⟨ga, j, none⟩) (show ga < _ by omega)] at c4
          have hi0 : (0 : Int) ≤ (j : Int) := Int.natCast_nonneg _
          have hi1 : (j : Int) < (k : Int) := by omega
          clear ht ht' e1 e2 hp
          go_wp2
          go_quiet (fail)
          go_wp2
          go_roundg (k - (j + 1))
          case measure => omega
          case rel => exact ⟨j + 1, rfl, by omega, by go_num, below_drewN hbx _⟩
        · go_wp2
          go_ret
          exact ⟨rfl, Below.up hWW hbx⟩

theorem lexBlanks_any (s : ByteArray) (a0 : Option Addr) (len0 cap0 : Nat) (w : World) (hm : Marks w) (hhow : How w a0 len0) :
    Calls Tryd.prog 4 #[.string s, .slice a0 len0 cap0] w fun e w' => e = .returned (.bool true) ∧ Below w.heap.size w w' := by
  by_cases hs : s.size ≤ 800
  · by_cases hh : len0 ≤ 100
    · by_cases hA : ∃ l, Lx.Ok (bs s) l
      · obtain ⟨l, hA⟩ := hA
        exact blanks_ok s l a0 len0 cap0 w hs hh hm hA hhow
      · exact blanks_no s a0 len0 cap0 w hs hh hm (fun l hl => hA ⟨l, hl⟩)
    · have h1 : (s.size : Int) ≤ 800 := by omega
      have h2 : (100 : Int) < (len0 : Int) := by omega
      clear hs hh hhow
      go_enter Tryd.func4, Tryd.ntmps4
      go_wp2
      go_ret
      exact ⟨rfl, Below.refl _ _⟩
  · have h1 : (800 : Int) < (s.size : Int) := by omega
    clear hs hhow
    go_enter Tryd.func4, Tryd.ntmps4
    go_wp2
    go_ret
    exact ⟨rfl, Below.refl _ _⟩
end Go.Proofs.YthcapeglhebdjaaDoor
