/- chapter 14: one more in a row; the program's numbers, the document's num. -/
import Derived.Test.YtiihgnagjemikaaGreatDoorVTrC
import Derived.Deep.AppendLies
import Derived.Test.YtiihgnagjemikaaGreatDoorVPstate
import Derived.Test.YtiihgnagjemikaaGreatDoorVPvar
import Derived.Defers
import Derived.Recover
namespace Go.Proofs.YtiihgnagjemikaaGreatDoor
open Go.RowKit
attribute [-go_sem] Builtin.append_
namespace Tq
open Nx (Ints lt_of_block)
theorem appV {t e : TypeId} {z : Value} {n8 : Nat} (ht : Tryz.prog.underlying t = some (.slice e)) (hinf : (Tryz.prog.info? e).map (fun i => (i.zero, i.size, i.bytes)) = some (some z, 1, n8)) (hz : z.cells.size = 1) (h8 : n8 ≤ 100) {B : Nat} {w : World} {v : Value} {n : Nat} {xs : List Value} (h : w.ownsRow B e 1 v n xs) (u : Value) (hu : u.oneCell' = true) (hB : B ≤ w.heap.size) (hl : n ≤ 100000) :
    ∃ g cap w5, (Builtin.append_ #[t, t] t #[v, .slice (some ⟨w.heap.size, 0, none⟩) 1 1]).run Tryz.prog (w.alloc (.cells #[u] e)) = .ok (.slice (some ⟨g, 0, none⟩) (n + 1) cap) w5 ∧ w5.ownsRow B e 1 (.slice (some ⟨g, 0, none⟩) (n + 1) cap) (n + 1) (xs ++ [u]) ∧ (w.alloc (.cells #[u] e)).grownBy w5 v.ownBlock ∧ (v.ownBlock = some g ∨ g = w.heap.size + 1) ∧ Below B w w5 := by
  obtain ⟨i0, hi, hz0, hz1, hz2⟩ := info_parts hinf
  have hown := h.alloc (.cells #[u] e)
  obtain ⟨g, cap, w5, hr, h2, h3, h4, h5⟩ := run_append_lies (P := Tryz.prog) (w.alloc (.cells #[u] e)) t t B e i0 z 1 n8 ht hi hz0 hz1 hz2 hz (by decide) v n xs hown ⟨w.heap.size, 0, none⟩ 1 1 [u] rfl
    (fun j x hx => by
      obtain rfl : j = 0 := by
        rcases Nat.eq_zero_or_pos j with h | h
        · exact h
        · rw [List.getElem?_eq_none (by simp; omega)] at hx; simp at hx
      obtain rfl : u = x := by simpa using hx
      exact cell_row (ck_new w _) 0 rfl)
    (fun x hx => by obtain rfl : x = u := by simpa using hx
                    exact hu) (by decide) (by unfold maxLen; omega) (Nat.le_trans (Nat.mul_le_mul (show n + 1 ≤ 100001 by omega) h8) (by decide)) (by simp; omega) _ rfl
  refine ⟨g, cap, w5, hr, h2, h3, by simpa using h4, ?_⟩
  have hb := (Below.refl B w).alloc hB (.cells #[u] e)
  refine ⟨h3.os.trans hb.os, h3.tape.trans hb.tape, h3.output.trans hb.output, Nat.le_trans hb.size h3.size, fun k hk => ?_⟩
  rw [h3.block k (by simp; omega) (fun e => ?_)]
  · exact hb.block k hk
  · have := (hown.lt k e.symm).1; omega
theorem infoI : (Tryz.prog.info? 2).map (fun i => (i.zero, i.size, i.bytes)) = some (some (.int .i64 0), 1, 8) := by kernel_rfl
theorem infoS : (Tryz.prog.info? 9).map (fun i => (i.zero, i.size, i.bytes)) = some (some (.string ⟨#[]⟩), 1, 16) := by kernel_rfl
theorem infoR : (Tryz.prog.info? 31).map (fun i => (i.zero, i.size, i.bytes)) = some (some (.slice none 0 0), 1, 24) := by kernel_rfl
theorem ownForm {B n : Nat} {e : TypeId} {w : World} {v : Value} {xs : List Value} (h : w.ownsRow B e 1 v n xs) : ∃ ad cap, v = .slice ad n cap := by
  rcases h.2 with ⟨rfl, rfl⟩ | ⟨g, cap, cur, rfl, _⟩
  · exact ⟨_, _, rfl⟩
  · exact ⟨_, _, rfl⟩
theorem Okeep {B e n : Nat} {w w' : World} {v : Value} {xs : List Value} (h : w.ownsRow B e 1 v n xs) (hb : Below w.heap.size w w') : w'.ownsRow B e 1 v n xs := by
  refine ⟨h.1, ?_⟩
  rcases h.2 with h2 | ⟨g, cap, cur, rfl, hB, hg, hr⟩
  · exact .inl h2
  · exact .inr ⟨g, cap, cur, rfl, hB, ck_block hb hg, hr⟩
theorem Omono {B B' e n : Nat} {w : World} {v : Value} {xs : List Value} (hb : B' ≤ B) (h : w.ownsRow B e 1 v n xs) : w.ownsRow B' e 1 v n xs := by
  refine ⟨h.1, ?_⟩
  rcases h.2 with h2 | ⟨g, cap, cur, rfl, hB, hg, hr⟩
  · exact .inl h2
  · exact .inr ⟨g, cap, cur, rfl, Nat.le_trans hb hB, hg, hr⟩
/-- a row of numbers of one's own is read -/
theorem ownInts {B : Nat} {e : TypeId} {w : World} {v : Value} {zs : List Int} (h : w.ownsRow B e 1 v zs.length (zs.map (Value.int .i64))) : Ints (fun b => B ≤ b ∧ b < w.heap.size ∧ v.ownBlock = some b) w v zs := by
  rcases h.2 with ⟨rfl, h0⟩ | ⟨g, cap, cur, rfl, hB, hg, _⟩
  · obtain rfl := List.length_eq_zero_iff.1 h0
    exact ⟨none, 0, 0, 0, rfl, fun h => absurd h (by simp), fun k hk => absurd hk (by simp)⟩
  · refine ⟨_, g, 0, cap, rfl, fun _ => ⟨rfl, hB, lt_of_block hg, rfl⟩, fun k hk => ?_⟩
    have h1 := h.cells (g := g) rfl k (.int .i64 (zs.getD k 0)) (by rw [List.getElem?_map, List.getElem?_eq_getElem hk, List.getD_eq_getElem?_getD, List.getElem?_eq_getElem hk]; rfl)
    rw [Nat.zero_add]
    have ad : (⟨g, 0, none⟩ : Addr).add k = ⟨g, k, none⟩ := by unfold Addr.add; split <;> simp_all
    rw [ad] at h1
    exact h1
/-- a row of words of one's own is read -/
theorem ownStrs {B : Nat} {e : TypeId} {w : World} {v : Value} {l : List By} (h : w.ownsRow B e 1 v l.length (l.map fun x => Value.string (st x))) : Strs (fun b => B ≤ b ∧ b < w.heap.size) w v l := by
  rcases h.2 with ⟨rfl, h0⟩ | ⟨g, cap, cur, rfl, hB, hg, _⟩
  · obtain rfl := List.length_eq_zero_iff.1 h0
    exact ⟨none, 0, 0, 0, rfl, fun h => absurd h (by simp), fun k hk => absurd hk (by simp)⟩
  · refine ⟨_, g, 0, cap, rfl, fun _ => ⟨rfl, hB, lt_of_block hg⟩, fun k hk => ?_⟩
    have h1 := h.cells (g := g) rfl k (.string (st (l.getD k []))) (by rw [List.getElem?_map, List.getElem?_eq_getElem hk, List.getD_eq_getElem?_getD, List.getElem?_eq_getElem hk]; rfl)
    rw [Nat.zero_add]
    have ad : (⟨g, 0, none⟩ : Addr).add k = ⟨g, k, none⟩ := by unfold Addr.add; split <;> simp_all
    rw [ad] at h1
    exact h1
theorem ixStr (ad : Option Addr) (b off n cap k : Nat) (hk : k < n) (ha : 0 < n → ad = some ⟨b, off, none⟩) (w : World) : (Instr.indexAt 69 (.slice ad n cap) (.int .i64 (k : Int))).run Tryz.prog w = .ok (.pointer (some ⟨b, off + k, none⟩)) w := by
  obtain rfl := ha (by omega)
  rw [run_indexAt_slice _ _ _ _ _ _ _ (by kernel_rfl), if_pos ⟨by omega, by omega⟩]
  have e : (sizeOf (Tryz.prog.elem 69)).run Tryz.prog w = .ok 1 w := by kernel_rfl
  rw [e]
  simp [Result.andThen, Addr.add]
theorem ixRow (ad : Option Addr) (b off n cap k : Nat) (hk : k < n) (ha : 0 < n → ad = some ⟨b, off, none⟩) (w : World) : (Instr.indexAt 22 (.slice ad n cap) (.int .i64 (k : Int))).run Tryz.prog w = .ok (.pointer (some ⟨b, off + k, none⟩)) w := by
  obtain rfl := ha (by omega)
  rw [run_indexAt_slice _ _ _ _ _ _ _ (by kernel_rfl), if_pos ⟨by omega, by omega⟩]
  have e : (sizeOf (Tryz.prog.elem 22)).run Tryz.prog w = .ok 1 w := by kernel_rfl
  rw [e]
  simp [Result.andThen, Addr.add]
theorem ixNum (ad : Option Addr) (b off n cap k : Nat) (hk : k < n) (ha : 0 < n → ad = some ⟨b, off, none⟩) (w : World) : (Instr.indexAt 31 (.slice ad n cap) (.int .i64 (k : Int))).run Tryz.prog w = .ok (.pointer (some ⟨b, off + k, none⟩)) w := by
  obtain rfl := ha (by omega)
  rw [run_indexAt_slice _ _ _ _ _ _ _ (by kernel_rfl), if_pos ⟨by omega, by omega⟩]
  have e : (sizeOf (Tryz.prog.elem 31)).run Tryz.prog w = .ok 1 w := by kernel_rfl
  rw [e]
  simp [Result.andThen, Addr.add]
/-- numbers of the first k words, and of one more -/
theorem nums_take {ws : List By} {k : Nat} {zs : List Int} (hk : k < ws.length) (h : numsW (ws.take k) = some zs) : numsW (ws.take (k + 1)) = (numW (ws.getD k [])).map fun v => zs ++ [v] := by
  have key : ∀ (a : List By) (x : By) (zs : List Int), numsW a = some zs → numsW (a ++ [x]) = (numW x).map fun v => zs ++ [v] := by
    intro a
    induction a with
    | nil => intro x zs h; obtain rfl := Option.some.inj h; simp only [List.nil_append, numsW]; cases numW x <;> rfl
    | cons y t ih =>
      intro x zs h
      rw [numsW] at h
      cases e1 : numW y with
      | none => rw [e1] at h; simp at h
      | some v =>
        cases e2 : numsW t with
        | none => rw [e1, e2] at h; simp at h
        | some l =>
          rw [e1, e2] at h
          obtain rfl := Option.some.inj h
          rw [List.cons_append, numsW, e1, ih x l e2]
          cases numW x <;> rfl
  rw [List.take_succ_eq_append_getElem hk, key _ _ zs h, List.getD_eq_getElem?_getD, List.getElem?_eq_getElem hk]; rfl
theorem nums_stop : ∀ (ws : List By) (k : Nat), k < ws.length → numW (ws.getD k []) = none → numsW ws = none
  | [], k, h, _ => absurd h (by simp)
  | x :: t, 0, _, h => by rw [numsW]; rw [show numW x = none from h]
  | x :: t, k + 1, hk, h => by
    rw [numsW, nums_stop t k (by simpa using hk) (by simpa using h)]
    cases numW x <;> rfl
theorem nums_len : ∀ {ws : List By} {zs : List Int}, numsW ws = some zs → zs.length = ws.length
  | [], zs, h => by obtain rfl := Option.some.inj h; rfl
  | x :: t, zs, h => by
    rw [numsW] at h
    cases e1 : numW x with
    | none => rw [e1] at h; simp at h
    | some v =>
      cases e2 : numsW t with
      | none => rw [e1, e2] at h; simp at h
      | some l =>
        rw [e1, e2] at h
        obtain rfl := Option.some.inj h
        simp [nums_len e2]
theorem wl_len : ∀ (l cur : By), (wl cur l).length ≤ l.length + 1
  | [], cur => by rw [wl]; split <;> simp
  | b :: t, cur => by
    rw [wl]
    split
    · split
      · have := wl_len t []; simp; omega
      · have := wl_len t []; simp; omega
    · have := wl_len t (cur ++ [b]); simp; omega
theorem wl_size : ∀ (l cur : By), ∀ x ∈ wl cur l, x.length ≤ cur.length + l.length
  | [], cur, x, h => by
    rw [wl] at h
    split at h
    · simp at h
    · obtain rfl : x = cur := by simpa using h
      simp
  | b :: t, cur, x, h => by
    rw [wl] at h
    split at h
    · split at h
      · have := wl_size t [] x h; simp at this ⊢; omega
      · rcases List.mem_cons.1 h with rfl | h
        · simp
        · have := wl_size t [] x h; simp at this ⊢; omega
    · have := wl_size t _ x h; simp at this ⊢; omega
theorem word_size {l : By} {k : Nat} (hk : k < (wordsT l).length) : ((wordsT l).getD k []).length ≤ l.length := by
  have := wl_size l [] ((wordsT l).getD k []) (by rw [List.getD_eq_getElem?_getD, show (wordsT l)[k]? = some (wordsT l)[k] from List.getElem?_eq_getElem hk]; exact List.getElem_mem _)
  simpa using this
/-- what numbers makes -/
def NumsO (w w' : World) (l : By) (v : Value) (b : Bool) : Prop :=
  Below w.heap.size w w' ∧ match numsW (wordsT l) with
    | some zs => b = true ∧ w'.ownsRow w.heap.size 2 1 v zs.length (zs.map (Value.int .i64))
    | none => b = false
set_option maxRecDepth 100000 in
set_option maxHeartbeats 4000000 in
theorem numbers_any {l : By} (hl : l.length ≤ 50000) {w : World} (hg : GV w) :
    Calls Tryz.prog 12 #[.string (st l)] w fun e w' => ∃ ad n cap b, e = .returned (.tuple #[.slice ad n cap, .bool b]) ∧ Hid (NumsO w w' l (.slice ad n cap) b) := by
  have HG : Hid (GV w ∧ l.length ≤ 50000) := ⟨hg, hl⟩
  have hf := fields_any (l := l) (by omega) w
  obtain ⟨s, hs⟩ : ∃ s, s = st l := ⟨_, rfl⟩
  rw [← hs] at hf ⊢
  obtain ⟨n, hn⟩ : ∃ n, n = (wordsT l).length := ⟨_, rfl⟩
  have HN : Hid (n = (wordsT l).length ∧ n ≤ 50001) := ⟨hn, by rw [hn]; have := wl_len l []; unfold wordsT; omega⟩
  rw [← hn] at hf
  clear hg hl hs hn
  go_enter Tryz.func12, Tryz.ntmps12
  go_wp2_with (go_at_call 24; refine hf.mono ?_; rintro e w1 ⟨b, cap, rfl, HF⟩; clear hf)
  go_loopw [4, 12] (fun v i wr => ∃ (k : Nat) (zs : List Int), k ≤ n ∧ i = .int .i64 k ∧ Hid (numsW ((wordsT l).take k) = some zs ∧ wr.ownsRow w1.heap.size 2 1 v zs.length (zs.map (Value.int .i64)) ∧ Below w1.heap.size w1 wr)) (fun _ i _ => n - (intOf i).toNat)
  case atStart => exact ⟨0, [], Nat.zero_le _, rfl, rfl, World.ownsRow_nil _ _ _ _, Below.refl _ _⟩
  case round =>
    obtain ⟨k, zs, hk, rfl, HR⟩ := hrel
    obtain ⟨a4, c4, hform⟩ := ownForm HR.out.2.1
    subst hform
    obtain ⟨zl, hzl⟩ : ∃ zl, zl = zs.length := ⟨_, rfl⟩
    have HZ : Hid (zl = zs.length ∧ zl = min k (wordsT l).length) := ⟨hzl, by rw [hzl, nums_len HR.out.1, List.length_take]⟩
    have HR' : Hid (numsW ((wordsT l).take k) = some zs ∧ wr.ownsRow w1.heap.size 2 1 (.slice a4 zl c4) zl (zs.map (Value.int .i64)) ∧ Below w1.heap.size w1 wr) := by rw [hzl]; exact HR.out
    rw [← hzl]
    clear HR hzl
    have hn5 : n ≤ 50001 := HN.out.2
    by_cases hlt : k < n
    · have hix := ixStr (some ⟨b, 0, none⟩) b 0 n cap k hlt (fun _ => rfl)
      obtain ⟨x, hx⟩ : ∃ x, x = (wordsT l).getD k [] := ⟨_, rfl⟩
      have hkw : k < (wordsT l).length := by rw [← HN.out.1]; exact hlt
      have cx : wr.cell? ⟨b, k, none⟩ = some (.string (st x)) := by rw [hx]; exact ck_cell HR'.out.2.2 (HF.out.2.1 k hlt)
      have hxl : x.length ≤ 50000 := by rw [hx]; exact Nat.le_trans (word_size hkw) HG.out.2
      have hgr : GV wr := (HG.out.1.below HF.out.2.2 HG.out.1.big).below HR'.out.2.2 (by have := HG.out.1.big; have := HF.out.2.2.size; omega)
      have hbw : Below w.heap.size w wr := HF.out.2.2.trans (HR'.out.2.2.mono HF.out.2.2.size)
      have HX : Hid (x = (wordsT l).getD k [] ∧ k < (wordsT l).length ∧ GV wr ∧ Below w.heap.size w wr) := ⟨hx, hkw, hgr, hbw⟩
      obtain ⟨sx, hsx⟩ : ∃ sx, sx = st x := ⟨_, rfl⟩
      rw [← hsx] at cx
      have hsz : sx.size ≤ 100000 := by rw [hsx, st_size]; omega
      by_cases hp : ∃ v, Lib.parseIntB 64 x = .ok v
      · obtain ⟨v, hp⟩ := hp
        have hpi := pint_ok hsz (v := v) (by rw [hsx]; exact hp) wr
        have hv64 : -9223372036854775808 ≤ v ∧ v ≤ 9223372036854775807 := by have := Lib.parseIntB_bounds hp; simp at this; omega
        obtain ⟨fv, hfv⟩ : ∃ fv, fv = st (Lib.itoa v) := ⟨_, rfl⟩
        have hfm := fun (w3 : World) (h3 : Below wr.heap.size wr w3) => fmt_any (n := v) hv64 (w := w3) (HX.out.2.2.1.below h3 HX.out.2.2.1.big)
        rw [← hfv] at hfm
        have HP : Hid (Lib.parseIntB 64 x = .ok v ∧ fv = st (Lib.itoa v) ∧ sx = st x) := ⟨hp, hfv, hsx⟩
        clear hx hkw hxl hgr hbw hsx hsz hp hv64 hfv
        by_cases he : fv = sx
        · subst he
          have HW : Hid (numW x = some v) := by
            unfold Hid numW
            rw [HP.out.1]
            have : Lib.itoa v = x := by have := congrArg (·.data.toList) (HP.out.2.1.symm.trans HP.out.2.2); exact this
            simp [this]
          go_wp2_with (first
            | (go_at_call 26; refine hpi.mono ?_; rintro e w3 ⟨rfl, h3⟩; clear hpi; have hfm3 := hfm w3 h3.out; clear hfm)
            | (go_at_call 15; refine hfm3.mono ?_; rintro e w4 ⟨rfl, h4⟩; clear hfm3
               have hb4 : Below w1.heap.size w1 w4 := HR'.out.2.2.trans ((ck_all h3.out h4.out).mono HR'.out.2.2.size)
               obtain ⟨g, cap5, w5, hr, hown5, hg5, _, hb5⟩ := appV Tryz.underlying31 infoI rfl (by decide) (w := w4) (B := w1.heap.size) (v := .slice a4 zl c4) (n := zl) (xs := zs.map (Value.int .i64)) (Okeep HR'.out.2.1 (ck_all h3.out h4.out)) (.int .i64 v) rfl hb4.size (by have := HZ.out.2; have := HN.out; omega)
               have H5 : Hid (w5.ownsRow w1.heap.size 2 1 (.slice (some ⟨g, 0, none⟩) (zl + 1) cap5) (zl + 1) (zs.map (Value.int .i64) ++ [.int .i64 v]) ∧ Below w1.heap.size w1 w5) := ⟨hown5, hb4.trans hb5⟩
               clear hown5 hg5 hb5 hb4))
          go_roundw
          case rel => exact ⟨k + 1, zs ++ [v], by omega, by go_num, by
            rw [nums_take HX.out.2.1 HR'.out.1, ← HX.out.1, HW.out]; rfl, by
            rw [List.length_append, List.length_singleton, ← HZ.out.1, List.map_append]; exact H5.out.1, H5.out.2⟩
          case measure => simp [intOf]; omega
        · have hcmp : (fv.toList == sx.toList) = false := by
            rw [Lib.toList_data, Lib.toList_data]
            exact beq_eq_false_iff_ne.2 fun e => he (by rw [← st_data fv, ← st_data sx, e])
          have HW : Hid (numW x = none) := by
            unfold Hid numW
            rw [HP.out.1]
            have : Lib.itoa v ≠ x := fun e => he (by rw [HP.out.2.1, HP.out.2.2, e])
            simp [this]
          go_wp2_with (first
            | (go_at_call 26; refine hpi.mono ?_; rintro e w3 ⟨rfl, h3⟩; clear hpi; have hfm3 := hfm w3 h3.out; clear hfm)
            | (go_at_call 15; refine hfm3.mono ?_; rintro e w4 ⟨rfl, h4⟩; clear hfm3))
          go_ret2
          refine ⟨none, 0, 0, false, rfl, HX.out.2.2.2.trans ((ck_all h3.out h4.out).mono HX.out.2.2.2.size), ?_⟩
          rw [nums_stop _ k HX.out.2.1 (by rw [← HX.out.1]; exact HW.out)]
      · have HW : Hid (numW x = none) := by
          unfold Hid numW
          split
          · rename_i u e; exact absurd ⟨u, e⟩ hp
          · rfl
        have hpi := pint_bad hsz (fun v e => hp ⟨v, by rw [hsx] at e; exact e⟩) HX.out.2.2.1
        clear hx hkw hxl hgr hbw hsx hsz hp
        go_wp2_with (go_at_call 26; refine hpi.mono ?_; rintro e w3 ⟨nn, q, rfl, h3⟩; clear hpi)
        go_ret2
        refine ⟨none, 0, 0, false, rfl, HX.out.2.2.2.trans (h3.out.mono HX.out.2.2.2.size), ?_⟩
        rw [nums_stop _ k HX.out.2.1 (by rw [← HX.out.1]; exact HW.out)]
    · obtain rfl : k = n := by omega
      go_wp2_with fail
      go_ret2
      refine ⟨a4, zl, c4, true, rfl, HF.out.2.2.trans (HR'.out.2.2.mono HF.out.2.2.size), ?_⟩
      have := HR'.out.1
      rw [HN.out.1, List.take_length] at this
      rw [this]
      exact ⟨rfl, by rw [← HZ.out.1]; exact Omono HF.out.2.2.size HR'.out.2.1⟩
end Tq
end Go.Proofs.YtiihgnagjemikaaGreatDoor
/- chapter 14: the document's num, words, lines. -/
namespace Go.Proofs.YtiihgnagjemikaaGreatDoor
open Go.RowKit
attribute [-go_sem] Builtin.append_
namespace Tq
open Nx (Ints lt_of_block)
theorem spl_len (c : UInt8) : ∀ (l cur : By), (spl c cur l).length ≤ l.length + 1
  | [], cur => by simp [spl]
  | b :: t, cur => by
    rw [spl]
    split
    · have := spl_len c t []; simp; omega
    · have := spl_len c t (cur ++ [b]); simp; omega
theorem spl_size (c : UInt8) : ∀ (l cur : By), ∀ x ∈ spl c cur l, x.length ≤ cur.length + l.length
  | [], cur, x, h => by
    obtain rfl : x = cur := by simpa [spl] using h
    simp
  | b :: t, cur, x, h => by
    rw [spl] at h
    split at h
    · rcases List.mem_cons.1 h with rfl | h
      · simp
      · have := spl_size c t [] x h; simp at this ⊢; omega
    · have := spl_size c t _ x h; simp at this ⊢; omega
end Tq
end Go.Proofs.YtiihgnagjemikaaGreatDoor
/- chapter 14: the document's lines. -/
namespace Go.Proofs.YtiihgnagjemikaaGreatDoor
open Go.RowKit
namespace Tq
open Nx (Ints lt_of_block)
theorem last_at {ws : List By} (h : 0 < ws.length) : ws.getLast? = some (ws.getD (ws.length - 1) []) := by
  rw [List.getLast?_eq_getElem?, List.getD_eq_getElem?_getD, List.getElem?_eq_getElem (by omega)]; rfl
end Tq
end Go.Proofs.YtiihgnagjemikaaGreatDoor
/- chapter 14: ticks as they are read: rows of numbers of one's own. -/
namespace Go.Proofs.YtiihgnagjemikaaGreatDoor
open Go.RowKit
namespace Tq
open Nx (Ints lt_of_block)
/-- how long, and how much room -/
def capOk : Value → Prop
  | .slice _ n m => n ≤ m ∧ m ≤ maxLen
  | _ => False
theorem own_cap {B n : Nat} {e : TypeId} {w : World} {v : Value} {xs : List Value} (h : w.ownsRow B e 1 v n xs) : capOk v := by
  obtain ⟨hl, h2⟩ := h
  rcases h2 with ⟨rfl, h0⟩ | ⟨g, cap, cur, rfl, hB, hg, h3, h4, hr⟩
  · exact ⟨Nat.le_refl _, by unfold maxLen; omega⟩
  · exact ⟨by omega, by omega⟩
/-- rows of numbers of one's own, from block S on -/
def OutR (S : Nat) (w : World) (v : Value) (rows : List (List Int)) : Prop :=
  ∃ xs : List Value, w.ownsRow S 31 1 v rows.length xs ∧ ∀ k, k < rows.length → ∃ u, xs[k]? = some u ∧ capOk u ∧ Ints (fun b => S ≤ b ∧ b < w.heap.size ∧ v.ownBlock ≠ some b) w u (rows.getD k [])
theorem OutR.nil (S : Nat) (w : World) : OutR S w (.slice none 0 0) [] := ⟨[], World.ownsRow_nil _ _ _ _, fun k hk => absurd hk (by simp)⟩
theorem OutR.below {S : Nat} {w w' : World} {v : Value} {rows : List (List Int)} (h : OutR S w v rows) (hb : Below w.heap.size w w') : OutR S w' v rows := by
  obtain ⟨xs, h1, h2⟩ := h
  refine ⟨xs, Okeep h1 hb, fun k hk => ?_⟩
  obtain ⟨u, hu, hcu, hi⟩ := h2 k hk
  exact ⟨u, hu, hcu, hi.carry fun b hA hl => ⟨⟨hA.1, Nat.lt_of_lt_of_le hl hb.size, hA.2.2⟩, hb.block b hl⟩⟩
theorem OutR.keep {S S' : Nat} {w w' : World} {v : Value} {rows : List (List Int)} (h : OutR S w v rows) (hS : S' ≤ S) (hb : ∀ b, S ≤ b → b < w.heap.size → w'.heap[b]? = w.heap[b]?) (hs : w.heap.size ≤ w'.heap.size) : OutR S' w' v rows := by
  obtain ⟨xs, h1, h2⟩ := h
  refine ⟨xs, Omono hS ⟨h1.1, ?_⟩, fun k hk => ?_⟩
  · rcases h1.2 with h3 | ⟨g, cap, cur, rfl, hB, hg, hr⟩
    · exact .inl h3
    · exact .inr ⟨g, cap, cur, rfl, hB, by rw [hb g hB (lt_of_block hg)]; exact hg, hr⟩
  · obtain ⟨u, hu, hcu, hi⟩ := h2 k hk
    exact ⟨u, hu, hcu, hi.carry fun b hA hl => ⟨⟨by omega, by omega, hA.2.2⟩, hb b hA.1 hl⟩⟩
theorem OutR.form {S : Nat} {w : World} {v : Value} {rows : List (List Int)} (h : OutR S w v rows) : ∃ ad cap, v = .slice ad rows.length cap := by
  obtain ⟨xs, h1, _⟩ := h
  exact ownForm h1
theorem ints_slice {A : Nat → Prop} {w : World} {u : Value} {zs : List Int} (h : Ints A w u zs) : ∃ ad cap, u = .slice ad zs.length cap := by
  obtain ⟨ad, b, off, cap, rfl, _⟩ := h
  exact ⟨ad, cap, rfl⟩
/-- one more -/
theorem OutR.more {S : Nat} {w : World} {v u : Value} {rows : List (List Int)} {zs : List Int} (h : OutR S w v rows) (hu : Ints (fun b => S ≤ b ∧ b < w.heap.size ∧ v.ownBlock ≠ some b) w u zs) (hcap : capOk u) (hS : S ≤ w.heap.size) (hl : rows.length ≤ 100000) :
    ∃ g cap w5, (Builtin.append_ #[22, 22] 22 #[v, .slice (some ⟨w.heap.size, 0, none⟩) 1 1]).run Tryz.prog (w.alloc (.cells #[u] 31)) = .ok (.slice (some ⟨g, 0, none⟩) (rows.length + 1) cap) w5 ∧ OutR S w5 (.slice (some ⟨g, 0, none⟩) (rows.length + 1) cap) (rows ++ [zs]) ∧ Below S w w5 ∧ (w.alloc (.cells #[u] 31)).grownBy w5 v.ownBlock ∧ S ≤ g := by
  obtain ⟨xs, h1, h2⟩ := h
  obtain ⟨ua, uc, hus⟩ := ints_slice hu
  obtain ⟨g, cap, w5, hr, hown, hg, hat, hb⟩ := appV Tryz.underlying22 infoR rfl (by decide) h1 u (by rw [hus]; rfl) hS hl
  have hsz := hg.size
  rw [World.size_alloc] at hsz
  have kp : ∀ b, b < w.heap.size → v.ownBlock ≠ some b → w5.heap[b]? = w.heap[b]? := fun b hl hn => by
    rw [hg.block b (by rw [World.size_alloc]; omega) (fun e => hn e.symm)]
    exact Below.heap_alloc _ _ _ hl
  have hng : ∀ b, b < w.heap.size → v.ownBlock ≠ some b → (Value.slice (some ⟨g, 0, none⟩) (rows.length + 1) cap).ownBlock ≠ some b := fun b hl hn e => by
    have : g = b := by simpa [Value.ownBlock] using e
    subst this
    rcases hat with e | e
    · exact hn e
    · omega
  have hlx : xs.length = rows.length := by rw [h1.1]; omega
  refine ⟨g, cap, w5, hr, ⟨xs ++ [u], by rw [List.length_append, List.length_singleton]; exact hown, fun k hk => ?_⟩, hb, hg, (hown.lt g rfl).1⟩
  rw [List.length_append, List.length_singleton] at hk
  by_cases hlt : k < rows.length
  · obtain ⟨y, hy, hcy, hi⟩ := h2 k hlt
    refine ⟨y, by rw [List.getElem?_append_left (by omega)]; exact hy, hcy, ?_⟩
    have : (rows ++ [zs]).getD k [] = rows.getD k [] := by rw [List.getD_eq_getElem?_getD, List.getElem?_append_left hlt, ← List.getD_eq_getElem?_getD]
    rw [this]
    exact hi.carry fun b hA hl => ⟨⟨hA.1, by omega, hng b hl hA.2.2⟩, kp b hl hA.2.2⟩
  · obtain rfl : k = rows.length := by omega
    refine ⟨u, by rw [← hlx]; simp, hcap, ?_⟩
    have : (rows ++ [zs]).getD rows.length [] = zs := by simp [List.getD_eq_getElem?_getD]
    rw [this]
    exact hu.carry fun b hA hl => ⟨⟨hA.1, by omega, hng b hl hA.2.2⟩, kp b hl hA.2.2⟩
/-- read row by row -/
theorem OutR.at {S : Nat} {w : World} {v : Value} {rows : List (List Int)} (h : OutR S w v rows) : ∃ ad b cap, v = .slice ad rows.length cap ∧ (0 < rows.length → ad = some ⟨b, 0, none⟩) ∧ ∀ k, k < rows.length → ∃ u, w.cell? ⟨b, k, none⟩ = some u ∧ Ints (fun b => S ≤ b ∧ b < w.heap.size) w u (rows.getD k []) := by
  obtain ⟨xs, h1, h2⟩ := h
  rcases h1.2 with ⟨rfl, h0⟩ | ⟨g, cap, cur, rfl, _⟩
  · rw [h0]
    exact ⟨none, 0, 0, rfl, fun h => absurd h (by simp), fun k hk => absurd hk (by omega)⟩
  · refine ⟨_, g, cap, rfl, fun _ => rfl, fun k hk => ?_⟩
    obtain ⟨u, hu, _, hi⟩ := h2 k hk
    have h3 := h1.cells (g := g) rfl k u hu
    have ad : (⟨g, 0, none⟩ : Addr).add k = ⟨g, k, none⟩ := by unfold Addr.add; split <;> simp_all
    rw [ad] at h3
    exact ⟨u, h3, hi.carry fun b hA hl => ⟨⟨hA.1, hA.2.1⟩, rfl⟩⟩
/-- what was read ahead of line i -/
def glue (rs : List (List Int)) : Except (Int × Int) (List (List Int)) → Except (Int × Int) (List (List Int))
  | .ok x => .ok (rs ++ x)
  | .error e => .error e
theorem rd_step {ls : List By} {i : Nat} {rs : List (List Int)} (hi : i < ls.length) (h : rdT 0 ls = glue rs (rdT i (ls.drop i))) {t : List Int} (ht : numsW (wordsT (ls.getD i [])) = some t) (h60 : i ≠ 60) : rdT 0 ls = glue (rs ++ [t]) (rdT (i + 1) (ls.drop (i + 1))) := by
  rw [h, List.drop_eq_getElem_cons hi, rdT]
  have e : ls.getD i [] = ls[i] := by rw [List.getD_eq_getElem?_getD, List.getElem?_eq_getElem hi]; rfl
  rw [e] at ht
  rw [ht]
  simp only [if_neg h60]
  cases rdT (i + 1) (ls.drop (i + 1)) with
  | ok x => simp [glue]
  | error e => rfl
theorem rd_form {ls : List By} {i : Nat} {rs : List (List Int)} (hi : i < ls.length) (h : rdT 0 ls = glue rs (rdT i (ls.drop i))) (ht : numsW (wordsT (ls.getD i [])) = none) : rdT 0 ls = .error (3, i) := by
  rw [h, List.drop_eq_getElem_cons hi, rdT]
  have e : ls.getD i [] = ls[i] := by rw [List.getD_eq_getElem?_getD, List.getElem?_eq_getElem hi]; rfl
  rw [e] at ht
  rw [ht]
  rfl
theorem rd_many {ls : List By} {i : Nat} {rs : List (List Int)} (hi : i < ls.length) (h : rdT 0 ls = glue rs (rdT i (ls.drop i))) {t : List Int} (ht : numsW (wordsT (ls.getD i [])) = some t) (h60 : i = 60) : rdT 0 ls = .error (4, -1) := by
  rw [h, List.drop_eq_getElem_cons hi, rdT]
  have e : ls.getD i [] = ls[i] := by rw [List.getD_eq_getElem?_getD, List.getElem?_eq_getElem hi]; rfl
  rw [e] at ht
  rw [ht]
  simp only [if_pos h60]
  rfl
theorem rd_end {ls : List By} {rs : List (List Int)} (h : rdT 0 ls = glue rs (rdT ls.length (ls.drop ls.length))) : rdT 0 ls = .ok rs := by
  rw [h, List.drop_length, rdT, glue, List.append_nil]
theorem ln_len : ∀ (l cur : By), (lnL cur l).length ≤ l.length + 1
  | [], cur => by rw [lnL]; split <;> simp
  | b :: t, cur => by
    rw [lnL]
    split
    · have := ln_len t []; simp; omega
    · have := ln_len t (cur ++ [b]); simp; omega
theorem ln_size : ∀ (l cur : By), ∀ x ∈ lnL cur l, x.length ≤ cur.length + l.length
  | [], cur, x, h => by
    rw [lnL] at h
    split at h
    · simp at h
    · obtain rfl : x = cur := by simpa using h
      simp
  | b :: t, cur, x, h => by
    rw [lnL] at h
    split at h
    · rcases List.mem_cons.1 h with rfl | h
      · simp
      · have := ln_size t [] x h; simp at this ⊢; omega
    · have := ln_size t _ x h; simp at this ⊢; omega
theorem line_size {l : By} {k : Nat} (hk : k < (linesT l).length) : ((linesT l).getD k []).length ≤ l.length := by
  have := ln_size l [] ((linesT l).getD k []) (by rw [List.getD_eq_getElem?_getD, show (linesT l)[k]? = some (linesT l)[k] from List.getElem?_eq_getElem hk]; exact List.getElem_mem _)
  simpa using this
end Tq
end Go.Proofs.YtiihgnagjemikaaGreatDoor
/- Plain mathematics: what is in a chart that is drawn: its expressions' shapes, its numbers, how much there is of all. -/
namespace Go.Proofs.YtiihgnagjemikaaGreatDoor
namespace Px
namespace Sh
open Go.Lib

def wE : E → Nat
  | .nil => 0
  | .node _ _ _ l r => 1 + wE l + wE r
/-- an expression such as is drawn -/
def TE : E → Prop
  | .nil => True
  | .node _ _ a l r => 1 ≤ a.code ∧ a.code ≤ 16 ∧ (-9223372036854775808 ≤ a.num ∧ a.num ≤ 9223372036854775807) ∧ a.name.length ≤ 12 ∧ ((a.code ≤ 3 → l = .nil) ∧ (a.code ≤ 5 → r = .nil) ∧ (4 ≤ a.code → l ≠ .nil) ∧ (6 ≤ a.code → r ≠ .nil)) ∧ TE l ∧ TE r
section
variable {L : List Lx.Tok}
def DE (f : Nat → Except F (E × Nat)) : Prop := ∀ i e j, f i = .ok (e, j) → (TE e ∧ e ≠ .nil) ∧ i < j ∧ wE e ≤ j - i
theorem nm_len {i : Nat} {s : Str} (h : nm L i = .ok s) : s.length ≤ 12 := by
  unfold nm at h
  split at h
  · exact absurd h (by simp)
  · split at h
    · exact absurd h (by simp)
    · injection h with h; subst h; omega
theorem codeIn_mem (l : List (Str × Nat)) (s : Str) : codeIn l s = 0 ∨ ∃ p ∈ l, codeIn l s = p.2 := by
  induction l with
  | nil => exact .inl rfl
  | cons p r ih =>
    obtain ⟨t, c⟩ := p
    rw [codeIn]
    split
    · exact .inr ⟨(t, c), by simp, rfl⟩
    · rcases ih with h | ⟨q, hq, he⟩
      · exact .inl h
      · exact .inr ⟨q, by simp [hq], he⟩
theorem signs_range : ∀ (t : Fin 5) (p : Str × Nat), p ∈ signs.getD t.val [] → 6 ≤ p.2 ∧ p.2 ≤ 16 := by decide
theorem codeAt_range (t : Nat) (ht : t < 5) (s : Str) : codeAt t s = 0 ∨ (6 ≤ codeAt t s ∧ codeAt t s ≤ 16) := by
  rcases codeIn_mem (signs.getD t []) s with h | ⟨p, hp, he⟩
  · exact .inl h
  · have := signs_range ⟨t, ht⟩ p hp
    rw [codeAt, he]; exact .inr this
theorem chainF_w {below : Nat → Except F (E × Nat)} {code : Str → Nat} (hb : DE below) (hc : ∀ s, code s = 0 ∨ (6 ≤ code s ∧ code s ≤ 16)) : ∀ (f : Nat) (e : E) (i : Nat) (e' : E) (j : Nat), chainF L below code f e i = .ok (e', j) → (TE e ∧ e ≠ .nil) → (TE e' ∧ e' ≠ .nil) ∧ i ≤ j ∧ wE e' ≤ wE e + (j - i) := by
  intro f
  induction f with
  | zero =>
    intro e i e' j h he
    rw [chainF] at h
    injection h with h
    injection h with h1 h2
    subst h1; subst h2
    exact ⟨he, Nat.le_refl _, by omega⟩
  | succ f ih =>
    intro e i e' j h he
    rw [chainF] at h
    split at h
    · injection h with h
      injection h with h1 h2
      subst h1; subst h2
      exact ⟨he, Nat.le_refl _, by omega⟩
    · rename_i hne
      split at h
      · exact absurd h (by simp)
      · rename_i r m hr
        obtain ⟨t1, t2, t3⟩ := hb _ _ _ hr
        have hcc := hc (tx L i)
        have hte : TE (eTwo (code (tx L i)) e r) := ⟨show 1 ≤ code (tx L i) by omega, show code (tx L i) ≤ 16 by omega, ⟨show (-9223372036854775808 : Int) ≤ 0 by omega, show (0 : Int) ≤ 9223372036854775807 by omega⟩, Nat.zero_le _, ⟨fun h => absurd (show code (tx L i) ≤ 3 from h) (by omega), fun h => absurd (show code (tx L i) ≤ 5 from h) (by omega), fun _ => he.2, fun _ => t1.2⟩, he.1, t1.1⟩
        obtain ⟨q1, q2, q3⟩ := ih _ _ _ _ h ⟨hte, by simp [eTwo]⟩
        rw [show wE (eTwo (code (tx L i)) e r) = 1 + wE e + wE r from rfl] at q3
        exact ⟨q1, by omega, by omega⟩
theorem chain_w {below : Nat → Except F (E × Nat)} {code : Str → Nat} (hb : DE below) (hc : ∀ s, code s = 0 ∨ (6 ≤ code s ∧ code s ≤ 16)) : DE (chain L below code) := by
  intro i e j h
  rw [chain] at h
  split at h
  · exact absurd h (by simp)
  · rename_i e0 m hr
    obtain ⟨t1, t2, t3⟩ := hb _ _ _ hr
    obtain ⟨q1, q2, q3⟩ := chainF_w hb hc _ _ _ _ _ h t1
    exact ⟨q1, by omega, by omega⟩
theorem lev_w {one : Nat → Except F (E × Nat)} (h : DE one) : ∀ t, t ≤ 5 → DE (lev L one t) := by
  intro t
  induction t with
  | zero => intro _; exact h
  | succ t ih => intro ht; rw [lev]; exact chain_w (ih (by omega)) (codeAt_range (4 - t) (by omega))
theorem codeAhead_range (s : Str) : codeAhead s = 0 ∨ codeAhead s = 4 ∨ codeAhead s = 5 := by unfold codeAhead; (repeat' split) <;> simp
theorem one_w (hL : Wf L) : ∀ k, DE (one L k) := by
  intro k
  induction k with
  | zero => intro i e j h; rw [one] at h; exact absurd h (by simp)
  | succ k ih =>
    intro i e j h
    rw [one] at h
    split at h
    · split at h
      · exact absurd h (by simp)
      · rename_i hne _ e0 m hr
        obtain ⟨t1, t2, t3⟩ := ih _ _ _ hr
        injection h with h
        injection h with h1 h2
        subst h1; subst h2
        have hcc := codeAhead_range (tx L i)
        refine ⟨⟨⟨show 1 ≤ codeAhead (tx L i) by omega, show codeAhead (tx L i) ≤ 16 by omega, ⟨show (-9223372036854775808 : Int) ≤ 0 by omega, show (0 : Int) ≤ 9223372036854775807 by omega⟩, Nat.zero_le _, ⟨fun h => absurd (show codeAhead (tx L i) ≤ 3 from h) (by omega), fun _ => rfl, fun _ => t1.2, fun h => absurd (show 6 ≤ codeAhead (tx L i) from h) (by omega)⟩, t1.1, trivial⟩, by simp [eOne]⟩, by omega, ?_⟩
        rw [show wE (eOne (codeAhead (tx L i)) e0) = 1 + wE e0 + 0 from rfl]
        omega
    · split at h
      · split at h
        · exact absurd h (by simp)
        · rename_i e0 m hr
          obtain ⟨t1, t2, t3⟩ := lev_w ih 5 (Nat.le_refl _) _ _ _ hr
          split at h
          · injection h with h
            injection h with h1 h2
            subst h1; subst h2
            exact ⟨t1, by omega, by omega⟩
          · exact absurd h (by simp)
      · split at h
        · split at h
          · split at h
            · exact absurd h (by simp)
            · rename_i s hs
              split at h
              · injection h with h
                injection h with h1 h2
                subst h1; subst h2
                refine ⟨⟨⟨show 1 ≤ 3 by omega, show 3 ≤ 16 by omega, ⟨show (-9223372036854775808 : Int) ≤ 0 by omega, show (0 : Int) ≤ 9223372036854775807 by omega⟩, nm_len hs, ⟨fun _ => rfl, fun _ => rfl, fun h => absurd (show 4 ≤ 3 from h) (by omega), fun h => absurd (show 6 ≤ 3 from h) (by omega)⟩, trivial, trivial⟩, by simp [eName]⟩, by omega, ?_⟩
                rw [show wE (eName 3 s) = 1 + 0 + 0 from rfl]; omega
              · exact absurd h (by simp)
          · exact absurd h (by simp)
        · split at h
          · rename_i hk
            injection h with h
            injection h with h1 h2
            subst h1; subst h2
            obtain ⟨n1, n2, n3⟩ := hL.num i hk
            have hv := (parse_digits (tx L i) n3 n1 n2).2
            have hp : (10 : Nat) ^ 18 = 1000000000000000000 := by decide
            rw [hp] at hv
            refine ⟨⟨⟨show 1 ≤ 1 by omega, show 1 ≤ 16 by omega, ⟨show (-9223372036854775808 : Int) ≤ (val (tx L i) : Int) by omega, show (val (tx L i) : Int) ≤ 9223372036854775807 by omega⟩, Nat.zero_le _, ⟨fun _ => rfl, fun _ => rfl, fun h => absurd (show 4 ≤ 1 from h) (by omega), fun h => absurd (show 6 ≤ 1 from h) (by omega)⟩, trivial, trivial⟩, by simp [eNum]⟩, by omega, ?_⟩
            rw [show wE (eNum (val (tx L i))) = 1 + 0 + 0 from rfl]; omega
          · split at h
            · exact absurd h (by simp)
            · rename_i s hs
              injection h with h
              injection h with h1 h2
              subst h1; subst h2
              refine ⟨⟨⟨show 1 ≤ 2 by omega, show 2 ≤ 16 by omega, ⟨show (-9223372036854775808 : Int) ≤ 0 by omega, show (0 : Int) ≤ 9223372036854775807 by omega⟩, nm_len hs, ⟨fun _ => rfl, fun _ => rfl, fun h => absurd (show 4 ≤ 2 from h) (by omega), fun h => absurd (show 6 ≤ 2 from h) (by omega)⟩, trivial, trivial⟩, by simp [eName]⟩, by omega, ?_⟩
              rw [show wE (eName 2 s) = 1 + 0 + 0 from rfl]; omega
theorem expr_w (hL : Wf L) : DE (expr L) := lev_w (one_w hL 7) 5 (Nat.le_refl _)
/-- sets -/
def wS : List Asg → Nat
  | [] => 0
  | a :: r => 1 + wE a.e + wS r
def TS (l : List Asg) : Prop := ∀ a ∈ l, TE a.e ∧ a.name.length ≤ 12
theorem wS_append (l m : List Asg) : wS (l ++ m) = wS l + wS m := by
  induction l with
  | nil => simp [wS]
  | cons a r ih => rw [List.cons_append, wS, wS, ih]; omega
theorem wS_len (l : List Asg) : l.length ≤ wS l := by
  induction l with
  | nil => simp
  | cons a r ih => rw [wS, List.length_cons]; omega
theorem TS.app {l m : List Asg} (h : TS l) (h' : TS m) : TS (l ++ m) := fun a ha => (List.mem_append.1 ha).elim (h a) (h' a)
theorem sets_w (hL : Wf L) : ∀ (f : Nat) (l : List Asg) (i : Nat) (l' : List Asg) (j : Nat), sets L f l i = .ok (l', j) → TS l → TS l' ∧ i ≤ j ∧ wS l' ≤ wS l + (j - i) := by
  intro f
  induction f with
  | zero =>
    intro l i l' j h hl
    rw [sets] at h
    injection h with h
    injection h with h1 h2
    subst h1; subst h2
    exact ⟨hl, Nat.le_refl _, by omega⟩
  | succ f ih =>
    intro l i l' j h hl
    rw [sets] at h
    split at h
    · exact absurd h (by simp)
    · rename_i s hs
      split at h
      · split at h
        · exact absurd h (by simp)
        · rename_i e m hr
          obtain ⟨t1, t2, t3⟩ := expr_w hL _ _ _ hr
          have hl' : TS (l ++ [⟨s, e⟩]) := hl.app (fun a ha => by obtain rfl := List.mem_singleton.1 ha; exact ⟨t1.1, nm_len hs⟩)
          have hw : wS (l ++ [⟨s, e⟩]) = wS l + (1 + wE e + 0) := wS_append _ _
          split at h
          · obtain ⟨q1, q2, q3⟩ := ih _ _ _ _ h hl'
            exact ⟨q1, by omega, by omega⟩
          · injection h with h
            injection h with h1 h2
            subst h1; subst h2
            exact ⟨hl', by omega, by omega⟩
      · exact absurd h (by simp)
/-- ways -/
def wW (y : Wy) : Nat := 1 + wE y.cond + wS y.sets
def TW (y : Wy) : Prop := y.kind ≤ 2 ∧ y.times ≤ 1000 ∧ TE y.cond ∧ TS y.sets ∧ y.to.length ≤ 12
theorem times_le {i n : Nat} (h : times L i = .ok n) : n ≤ 1000 := by
  unfold times at h
  split at h
  · exact absurd h (by simp)
  · split at h
    · exact absurd h (by simp)
    · injection h with h; omega
theorem cond_w (hL : Wf L) {i n j : Nat} {e : E} (h : cond L i = .ok (n, e, j)) : n ≤ 1000 ∧ TE e ∧ i ≤ j ∧ wE e ≤ j - i := by
  unfold cond at h
  split at h
  · split at h
    · split at h
      · exact absurd h (by simp)
      · rename_i n' hn
        split at h
        · exact absurd h (by simp)
        · rename_i e' m hr
          obtain ⟨t1, t2, t3⟩ := expr_w hL _ _ _ hr
          injection h with h
          injection h with h1 h2
          injection h2 with h2 h3
          subst h1; subst h2; subst h3
          exact ⟨times_le hn, t1.1, by omega, by omega⟩
    · split at h
      · exact absurd h (by simp)
      · rename_i e' m hr
        obtain ⟨t1, t2, t3⟩ := expr_w hL _ _ _ hr
        injection h with h
        injection h with h1 h2
        injection h2 with h2 h3
        subst h1; subst h2; subst h3
        exact ⟨by omega, t1.1, by omega, by omega⟩
  · injection h with h
    injection h with h1 h2
    injection h2 with h2 h3
    subst h1; subst h2; subst h3
    exact ⟨by omega, trivial, Nat.le_refl _, Nat.zero_le _⟩
theorem does_w (hL : Wf L) {i j : Nat} {l : List Asg} (h : does L i = .ok (l, j)) : TS l ∧ i ≤ j ∧ wS l ≤ j - i := by
  unfold does at h
  split at h
  · obtain ⟨q1, q2, q3⟩ := sets_w hL _ _ _ _ _ h (fun a ha => absurd ha (by simp))
    rw [show wS [] = 0 from rfl] at q3
    exact ⟨q1, by omega, by omega⟩
  · injection h with h
    injection h with h1 h2
    subst h1; subst h2
    exact ⟨fun a ha => absurd ha (by simp), Nat.le_refl _, Nat.zero_le _⟩
theorem tx_lt {i : Nat} {s : Str} (h : tx L i = s) (hs : s ≠ []) : i < L.length := by
  rcases Nat.lt_or_ge i L.length with h' | h'
  · exact h'
  · exact absurd (by rw [← h, tx, tok, List.getD_eq_getElem?_getD, List.getElem?_eq_none h']; rfl) hs
theorem way_w (hL : Wf L) {k i j : Nat} {y : Wy} (hk : k ≤ 2) (h : way L k i = .ok (y, j)) : TW y ∧ i < j ∧ wW y ≤ j - i ∧ j ≤ L.length := by
  unfold way at h
  split at h
  · exact absurd h (by simp)
  · rename_i n e m hr
    obtain ⟨c1, c2, c3, c4⟩ := cond_w hL hr
    split at h
    · exact absurd h (by simp)
    · rename_i l q hd
      obtain ⟨d1, d2, d3⟩ := does_w hL hd
      split at h
      · split at h
        · exact absurd h (by simp)
        · rename_i s hs
          split at h
          · rename_i ht
            have := tx_lt ht (by simp [kSemi])
            have o1 := opt_le L kImm i
            have o2 := opt_le L kHist (q + 2)
            injection h with h
            injection h with h1 h2
            subst h1; subst h2
            refine ⟨⟨hk, c1, c2, d1, nm_len hs⟩, by omega, ?_, by omega⟩
            show 1 + wE e + wS l ≤ _
            omega
          · exact absurd h (by simp)
      · exact absurd h (by simp)
end
/-- a sum over a list -/
def sumW {α : Type} (f : α → Nat) : List α → Nat
  | [] => 0
  | a :: r => f a + sumW f r
theorem sumW_append {α : Type} (f : α → Nat) (l m : List α) : sumW f (l ++ m) = sumW f l + sumW f m := by
  induction l with
  | nil => simp [sumW]
  | cons a r ih => rw [List.cons_append, sumW, sumW, ih]; omega
theorem sumW_one {α : Type} (f : α → Nat) (a : α) : sumW f [a] = f a := by simp [sumW]
section
variable {ρ : Type}
/-- how much is in a region -/
def wR (f : ρ → Nat) (r : List ρ) : Nat := 1 + sumW f r
def wStF (f : ρ → Nat) (s : StF ρ) : Nat := 1 + wS s.enter + wS s.during + wS s.leave + wE s.rests + sumW wW s.ways + sumW (wR f) s.regions
def TStF (T : ρ → Prop) (s : StF ρ) : Prop := s.name.length ≤ 12 ∧ TS s.enter ∧ TS s.during ∧ TS s.leave ∧ TE s.rests ∧ (∀ y ∈ s.ways, TW y) ∧ ∀ r ∈ s.regions, ∀ x ∈ r, T x
end
def wSt : (k : Nat) → St k → Nat
  | 0 => fun _ => 1
  | k + 1 => fun s => wStF (wSt k) s
def TSt : (k : Nat) → St k → Prop
  | 0 => fun _ => True
  | k + 1 => fun s => TStF (TSt k) s
section
variable {ρ : Type} {f : ρ → Nat} {T : ρ → Prop}
end
section
variable {L : List Lx.Tok} {ρ : Type}
/-- what a reader of regions gives -/
def DR (L : List Lx.Tok) (T : ρ → Prop) (f : ρ → Nat) (reg : Nat → Nat → Except F (List ρ × Nat × Nat)) : Prop := ∀ c i l c' j, reg c i = .ok (l, c', j) → (∀ x ∈ l, T x) ∧ i < j ∧ wR f l ≤ j - i ∧ j ≤ L.length
theorem semi_w {i m : Nat} (h : semi L i = .ok m) : m = i + 1 ∧ m ≤ L.length := by
  unfold semi at h
  split at h
  · rename_i ht
    have := tx_lt ht (by simp [kSemi])
    injection h with h; omega
  · exact absurd h (by simp)
theorem leadOf_le {s : Str} {k : Nat} (h : leadOf s = some k) : k ≤ 2 := by
  unfold leadOf at h
  split at h
  · injection h with h; omega
  · split at h
    · injection h with h; omega
    · split at h
      · injection h with h; omega
      · exact absurd h (by simp)
variable {T : ρ → Prop} {f : ρ → Nat} {reg : Nat → Nat → Except F (List ρ × Nat × Nat)}
theorem TS_nil : TS [] := fun a ha => absurd ha (by simp)
theorem part_w (hL : Wf L) (hr : DR L T f reg) {s s' : StF ρ} {c i c' j : Nat} (h : part L ρ reg s c i = .ok (some (s', c', j))) (hs : TStF T s) : TStF T s' ∧ i < j ∧ wStF f s' ≤ wStF f s + (j - i) ∧ j ≤ L.length := by
  obtain ⟨h0, h1, h2, h3, h4, h5, h6⟩ := hs
  rw [part] at h
  split at h
  · rename_i k hk
    split at h
    · exact absurd h (by simp)
    · rename_i y m hy
      obtain ⟨y1, y2, y3, y4⟩ := way_w hL (leadOf_le hk) hy
      injection h with h; injection h with h; injection h with e1 h; injection h with e2 e3
      subst e1; subst e2; subst e3
      refine ⟨⟨h0, h1, h2, h3, h4, fun z hz => (List.mem_append.1 hz).elim (h5 z) (fun hz => by rw [List.mem_singleton.1 hz]; exact y1), h6⟩, by omega, ?_, y4⟩
      have := sumW_append wW s.ways [y]
      rw [sumW_one] at this
      simp only [wStF]
      omega
  · split at h
    · split at h
      · exact absurd h (by simp)
      · rename_i l c1 m hy
        obtain ⟨y1, y2, y3, y4⟩ := hr _ _ _ _ _ hy
        injection h with h; injection h with h; injection h with e1 h; injection h with e2 e3
        subst e1; subst e2; subst e3
        refine ⟨⟨h0, h1, h2, h3, h4, h5, fun z hz => (List.mem_append.1 hz).elim (h6 z) (fun hz => by rw [List.mem_singleton.1 hz]; exact y1)⟩, by omega, ?_, y4⟩
        have := sumW_append (wR f) s.regions [l]
        rw [sumW_one] at this
        simp only [wStF]
        omega
    · split at h
      · split at h
        · exact absurd h (by simp)
        · rename_i l m hy
          obtain ⟨q1, q2, q3⟩ := sets_w hL _ _ _ _ _ hy TS_nil
          rw [show wS [] = 0 from rfl] at q3
          split at h
          · exact absurd h (by simp)
          · rename_i m2 hm
            have hm' := semi_w hm
            injection h with h; injection h with h; injection h with e1 h; injection h with e2 e3
            subst e1; subst e2; subst e3
            refine ⟨⟨h0, h1.app q1, h2, h3, h4, h5, h6⟩, by omega, ?_, hm'.2⟩
            have := wS_append s.enter l
            simp only [wStF]
            omega
      · split at h
        · split at h
          · exact absurd h (by simp)
          · rename_i l m hy
            obtain ⟨q1, q2, q3⟩ := sets_w hL _ _ _ _ _ hy TS_nil
            rw [show wS [] = 0 from rfl] at q3
            split at h
            · exact absurd h (by simp)
            · rename_i m2 hm
              have hm' := semi_w hm
              injection h with h; injection h with h; injection h with e1 h; injection h with e2 e3
              subst e1; subst e2; subst e3
              refine ⟨⟨h0, h1, h2.app q1, h3, h4, h5, h6⟩, by omega, ?_, hm'.2⟩
              have := wS_append s.during l
              simp only [wStF]
              omega
        · split at h
          · split at h
            · exact absurd h (by simp)
            · rename_i l m hy
              obtain ⟨q1, q2, q3⟩ := sets_w hL _ _ _ _ _ hy TS_nil
              rw [show wS [] = 0 from rfl] at q3
              split at h
              · exact absurd h (by simp)
              · rename_i m2 hm
                have hm' := semi_w hm
                injection h with h; injection h with h; injection h with e1 h; injection h with e2 e3
                subst e1; subst e2; subst e3
                refine ⟨⟨h0, h1, h2, h3.app q1, h4, h5, h6⟩, by omega, ?_, hm'.2⟩
                have := wS_append s.leave l
                simp only [wStF]
                omega
          · split at h
            · split at h
              · rename_i he
                split at h
                · exact absurd h (by simp)
                · rename_i e m hy
                  obtain ⟨q1, q2, q3⟩ := expr_w hL _ _ _ hy
                  split at h
                  · exact absurd h (by simp)
                  · rename_i m2 hm
                    have hm' := semi_w hm
                    injection h with h; injection h with h; injection h with e1 h; injection h with e2 e3
                    subst e1; subst e2; subst e3
                    refine ⟨⟨h0, h1, h2, h3, q1.1, h5, h6⟩, by omega, ?_, hm'.2⟩
                    simp only [wStF]
                    omega
              · exact absurd h (by simp)
            · exact absurd h (by simp)
theorem parts_w (hL : Wf L) (hr : DR L T f reg) : ∀ (n : Nat) (s : StF ρ) (c i : Nat) (s' : StF ρ) (c' j : Nat), parts L ρ reg n s c i = .ok (s', c', j) → TStF T s → i ≤ L.length → TStF T s' ∧ i ≤ j ∧ wStF f s' ≤ wStF f s + (j - i) ∧ j ≤ L.length := by
  intro n
  induction n with
  | zero =>
    intro s c i s' c' j h hs hi
    rw [parts] at h
    injection h with h; injection h with e1 h; injection h with e2 e3
    subst e1; subst e2; subst e3
    exact ⟨hs, Nat.le_refl _, by omega, hi⟩
  | succ n ih =>
    intro s c i s' c' j h hs hi
    rw [parts] at h
    split at h
    · exact absurd h (by simp)
    · split at h
      · rename_i ht
        have := tx_lt ht (by simp [kShut])
        injection h with h; injection h with e1 h; injection h with e2 e3
        subst e1; subst e2; subst e3
        exact ⟨hs, by omega, by omega, by omega⟩
      · exact absurd h (by simp)
    · rename_i s1 c1 m hp
      obtain ⟨p1, p2, p3, p4⟩ := part_w hL hr hp hs
      obtain ⟨q1, q2, q3, q4⟩ := ih _ _ _ _ _ _ h p1 p4
      exact ⟨q1, by omega, by omega, q4⟩
theorem state_w (hL : Wf L) (hr : DR L T f reg) {fi la : Bool} {c i c' j : Nat} {s : StF ρ} (h : state L ρ reg fi la c i = .ok (s, c', j)) : TStF T s ∧ i < j ∧ wStF f s ≤ j - i ∧ j ≤ L.length := by
  rw [state] at h
  split at h
  · split at h
    · exact absurd h (by simp)
    · split at h
      · exact absurd h (by simp)
      · rename_i nm' hn
        have hz : TStF T (⟨nm', fi, la, [], [], [], .nil, [], []⟩ : StF ρ) := ⟨nm_len hn, TS_nil, TS_nil, TS_nil, trivial, fun y hy => absurd hy (by simp), fun r hr => absurd hr (by simp)⟩
        have hw : wStF f (⟨nm', fi, la, [], [], [], .nil, [], []⟩ : StF ρ) = 1 := rfl
        split at h
        · rename_i ht
          have := tx_lt ht (by simp [kSemi])
          injection h with h; injection h with e1 h; injection h with e2 e3
          subst e1; subst e2; subst e3
          exact ⟨hz, by omega, by omega, by omega⟩
        · split at h
          · rename_i ht
            have := tx_lt ht (by simp [kOpen])
            obtain ⟨q1, q2, q3, q4⟩ := parts_w hL hr _ _ _ _ _ _ _ h hz (by omega)
            exact ⟨q1, by omega, by omega, q4⟩
          · exact absurd h (by simp)
  · exact absurd h (by simp)
theorem states_w (hL : Wf L) (hr : DR L T f reg) : ∀ (n : Nat) (l : List (StF ρ)) (c i : Nat) (l' : List (StF ρ)) (c' j : Nat), states L ρ reg n l c i = .ok (l', c', j) → (∀ x ∈ l, TStF T x) → i ≤ L.length → (∀ x ∈ l', TStF T x) ∧ i ≤ j ∧ sumW (wStF f) l' ≤ sumW (wStF f) l + (j - i) ∧ j ≤ L.length := by
  intro n
  induction n with
  | zero =>
    intro l c i l' c' j h hl hi
    rw [states] at h
    injection h with h; injection h with e1 h; injection h with e2 e3
    subst e1; subst e2; subst e3
    exact ⟨hl, Nat.le_refl _, by omega, hi⟩
  | succ n ih =>
    intro l c i l' c' j h hl hi
    rw [states] at h
    split at h
    · split at h
      · exact absurd h (by simp)
      · rename_i s c1 m hs
        obtain ⟨p1, p2, p3, p4⟩ := state_w hL hr hs
        have o1 := opt_le L kInitial i
        have o2 := opt_le L kFinal (opt L kInitial i)
        obtain ⟨q1, q2, q3, q4⟩ := ih _ _ _ _ _ _ h (fun x hx => (List.mem_append.1 hx).elim (hl x) (fun hx => by rw [List.mem_singleton.1 hx]; exact p1)) p4
        rw [sumW_append, sumW_one] at q3
        exact ⟨q1, by omega, by omega, q4⟩
    · split at h
      · rename_i ht
        have := tx_lt ht (by simp [kShut])
        injection h with h; injection h with e1 h; injection h with e2 e3
        subst e1; subst e2; subst e3
        exact ⟨hl, by omega, by omega, by omega⟩
      · exact absurd h (by simp)
end
theorem region_w {L : List Lx.Tok} (hL : Wf L) : ∀ k, DR L (TSt k) (wSt k) (region L k) := by
  intro k
  induction k with
  | zero => intro c i l c' j h; rw [region] at h; exact absurd h (by simp)
  | succ k ih =>
    intro c i l c' j h
    have h' : @ite (Except F (List (StF (St k)) × Nat × Nat)) (tx L i = kOpen) _ (states L (St k) (region L k) L.length [] c (i + 1)) (.error (3, pl L i)) = .ok (l, c', j) := h
    by_cases ht : tx L i = kOpen
    · rw [if_pos ht] at h'
      have := tx_lt ht (by simp [kOpen])
      obtain ⟨q1, q2, q3, q4⟩ := states_w hL ih _ _ _ _ _ _ _ h' (fun x hx => absurd hx (by simp)) (by omega)
      refine ⟨q1, by omega, ?_, q4⟩
      rw [show sumW (wStF (wSt k)) [] = 0 from rfl] at q3
      show 1 + sumW (wStF (wSt k)) l ≤ _
      omega
    · rw [if_neg ht] at h'
      exact absurd h' (by simp)
section
variable {L : List Lx.Tok}
def TD (v : Decl) : Prop := (1 ≤ v.kind ∧ v.kind ≤ 3 ∧ -9223372036854775808 ≤ v.first ∧ v.first ≤ 9223372036854775807) ∧ v.name.length ≤ 12
theorem number_w (hL : Wf L) {i n : Nat} (h : number L i = .ok n) : n < 1000000000000000000 := by
  unfold number at h
  split at h
  · rename_i hk
    obtain ⟨n1, n2, n3⟩ := hL.num i hk
    have hv := (parse_digits (tx L i) n3 n1 n2).2
    have hp : (10 : Nat) ^ 18 = 1000000000000000000 := by decide
    rw [hp] at hv
    injection h with h
    omega
  · exact absurd h (by simp)
theorem first_w (hL : Wf L) {i j : Nat} {n : Int} (h : first L i = .ok (n, j)) : -9223372036854775808 ≤ n ∧ n ≤ 9223372036854775807 ∧ i ≤ j := by
  unfold first at h
  split at h
  · split at h
    · split at h
      · exact absurd h (by simp)
      · rename_i q hq
        have := number_w hL hq
        injection h with h; injection h with e1 e2
        subst e1; subst e2
        exact ⟨by omega, by omega, by omega⟩
    · split at h
      · exact absurd h (by simp)
      · rename_i q hq
        have := number_w hL hq
        injection h with h; injection h with e1 e2
        subst e1; subst e2
        exact ⟨by omega, by omega, by omega⟩
  · injection h with h; injection h with e1 e2
    subst e1; subst e2
    exact ⟨by omega, by omega, by omega⟩
theorem kindOf_le (s : Str) : kindOf s ≤ 3 := by unfold kindOf; (repeat' split) <;> omega
theorem variable_w (hL : Wf L) {k i j : Nat} {v : Decl} (h1 : 1 ≤ k) (h3 : k ≤ 3) (h : variable_ L k i = .ok (v, j)) : TD v ∧ i < j ∧ j ≤ L.length := by
  unfold variable_ at h
  split at h
  · exact absurd h (by simp)
  · rename_i s hs
    split at h
    · exact absurd h (by simp)
    · rename_i n m hf
      obtain ⟨f1, f2, f3⟩ := first_w hL hf
      split at h
      · rename_i ht
        have := tx_lt ht (by simp [kSemi])
        injection h with h; injection h with e1 e2
        subst e1; subst e2
        exact ⟨⟨⟨h1, h3, f1, f2⟩, nm_len hs⟩, by omega, by omega⟩
      · exact absurd h (by simp)
theorem items_w (hL : Wf L) : ∀ (n : Nat) (vs : List Decl) (rs : List (List (St 6))) (c i : Nat) (vs' : List Decl) (rs' : List (List (St 6))) (j : Nat), items L n vs rs c i = .ok (vs', rs', j) → (∀ v ∈ vs, TD v) → (∀ r ∈ rs, ∀ x ∈ r, TSt 6 x) → i ≤ L.length →
    (∀ v ∈ vs', TD v) ∧ (∀ r ∈ rs', ∀ x ∈ r, TSt 6 x) ∧ i ≤ j ∧ vs'.length + sumW (wR (wSt 6)) rs' ≤ vs.length + sumW (wR (wSt 6)) rs + (j - i) ∧ j ≤ L.length := by
  intro n
  induction n with
  | zero =>
    intro vs rs c i vs' rs' j h hv hr hi
    rw [items] at h
    injection h with h; injection h with e1 h; injection h with e2 e3
    subst e1; subst e2; subst e3
    exact ⟨hv, hr, Nat.le_refl _, by omega, hi⟩
  | succ n ih =>
    intro vs rs c i vs' rs' j h hv hr hi
    rw [items] at h
    split at h
    · rename_i hk
      split at h
      · exact absurd h (by simp)
      · split at h
        · exact absurd h (by simp)
        · rename_i v m hd
          obtain ⟨p1, p2, p3⟩ := variable_w hL (by omega) (kindOf_le _) hd
          obtain ⟨q1, q2, q3, q4, q5⟩ := ih _ _ _ _ _ _ _ h (fun x hx => (List.mem_append.1 hx).elim (hv x) (fun hx => by rw [List.mem_singleton.1 hx]; exact p1)) hr p3
          rw [List.length_append, List.length_singleton] at q4
          exact ⟨q1, q2, by omega, by omega, q5⟩
    · split at h
      · split at h
        · exact absurd h (by simp)
        · rename_i l c1 m hd
          obtain ⟨p1, p2, p3, p4⟩ := region_w hL 6 _ _ _ _ _ hd
          obtain ⟨q1, q2, q3, q4, q5⟩ := ih _ _ _ _ _ _ _ h hv (fun x hx => (List.mem_append.1 hx).elim (hr x) (fun hx => by rw [List.mem_singleton.1 hx]; exact p1)) p4
          rw [sumW_append, sumW_one] at q4
          exact ⟨q1, q2, by omega, by omega, q5⟩
      · split at h
        · rename_i ht
          have := tx_lt ht (by simp [kShut])
          injection h with h; injection h with e1 h; injection h with e2 e3
          subst e1; subst e2; subst e3
          exact ⟨hv, hr, by omega, by omega, by omega⟩
        · exact absurd h (by simp)
theorem sumW_mem {α : Type} (g : α → Nat) (l : List α) (z : α) (hz : z ∈ l) : g z ≤ sumW g l := by
  induction l with
  | nil => exact absurd hz (by simp)
  | cons b q ihq =>
    rw [sumW]
    rcases List.mem_cons.1 hz with rfl | hz
    · omega
    · have := ihq hz; omega
/-- what is in a chart that is drawn -/
theorem chart_w (hL : Wf L) {c : Chart} (h : chart L = .ok c) : (∀ v ∈ c.vars, TD v) ∧ (∀ r ∈ c.regions, ∀ x ∈ r, TSt 6 x) ∧ c.vars.length + sumW (wR (wSt 6)) c.regions ≤ 601 := by
  unfold chart at h
  split at h
  · split at h
    · exact absurd h (by simp)
    · rename_i s hs
      split at h
      · rename_i ht
        have h2 := tx_lt ht (by simp [kOpen])
        split at h
        · exact absurd h (by simp)
        · rename_i vs rs i hi
          obtain ⟨q1, q2, q3, q4, q5⟩ := items_w hL _ _ _ _ _ _ _ _ hi (fun v hv => absurd hv (by simp)) (fun v hv => absurd hv (by simp)) (by omega)
          rw [show sumW (wR (wSt 6)) [] = 0 from rfl, List.length_nil] at q4
          have h6 := hL.len
          split at h
          · injection h with h
            subst h
            exact ⟨q1, q2, by show vs.length + sumW (wR (wSt 6)) rs ≤ 601; omega⟩
          · exact absurd h (by simp)
      · exact absurd h (by simp)
  · exact absurd h (by simp)
end
end Sh
end Px
end Go.Proofs.YtiihgnagjemikaaGreatDoor
/- The deferred closure of Parse: what was thrown is caught; nothing was thrown. -/
namespace Go.Proofs.YtiihgnagjemikaaGreatDoor
open Go.RowKit Px

theorem Tryz.isAtAny (v : Value) (w : World) : (Instr.typeAssert (.iface 45 v) 20 45 true).run Tryz.prog w = .ok (.tuple #[v, .bool true]) w := by kernel_rfl

set_option maxRecDepth 100000 in
set_option maxHeartbeats 2000000 in
theorem catch_idle (cb eb : Addr) (w : World) :
    CallsD Tryz.prog 31 #[.pointer (some cb), .pointer (some eb)] .returning w fun e u' w' => e = .returned (.tuple #[]) ∧ u' = .returning ∧ w' = w := by
  refine callsD_of_wpS Tryz.func31 rfl fun c₀ cs hu => ?_
  apply wpS_seq
  apply wpS_region
  simp [wpOpsS, go_sem, recoverD, hu, Tryz.ntmps31, Exit.thenS]
  apply wpS_of_wp
  go_wp2
  cases c₀
  simp_all [bodyPostS, results, Tryz.results31]
end Go.Proofs.YtiihgnagjemikaaGreatDoor
/- The deferred closure of Parse: what was thrown is caught. -/
namespace Go.Proofs.YtiihgnagjemikaaGreatDoor
open Go.RowKit Px

set_option maxRecDepth 100000 in
set_option maxHeartbeats 4000000 in
theorem catch_thrown (cb eb q : Nat) (w : World) (older : List PanicEntry) (k0 : w.cell? ⟨cb, 0, none⟩ = some (.string ⟨#[]⟩)) (k1 : w.cell? ⟨cb, 1, none⟩ = some (.slice none 0 0)) (k2 : w.cell? ⟨cb, 2, none⟩ = some (.slice none 0 0)) (kz : ∀ o, w.frozen? ⟨cb, o, none⟩ = false) (ke : w.cell? ⟨eb, 0, none⟩ = some .nilIface) (ez : w.frozen? ⟨eb, 0, none⟩ = false) (hne : cb ≠ eb) :
    CallsD Tryz.prog 31 #[.pointer (some ⟨cb, 0, none⟩), .pointer (some ⟨eb, 0, none⟩)] (.panicking ({ v := .iface 45 (.pointer (some ⟨q, 0, none⟩)), recovered := false } :: older)) w fun e u' w' => e = .returned (.tuple #[]) ∧ u' = .panicking ({ v := .iface 45 (.pointer (some ⟨q, 0, none⟩)), recovered := true } :: older) ∧ w' = (((w.setCell ⟨cb, 0, none⟩ (.string ⟨#[]⟩)).setCell ⟨cb, 1, none⟩ (.slice none 0 0)).setCell ⟨cb, 2, none⟩ (.slice none 0 0)).setCell ⟨eb, 0, none⟩ (.iface 45 (.pointer (some ⟨q, 0, none⟩))) := by
  refine callsD_of_wpS Tryz.func31 rfl fun c₀ cs hu => ?_
  apply wpS_seq
  apply wpS_region
  simp [wpOpsS, go_sem, recoverD, hu, Tryz.ntmps31, Exit.thenS]
  have harr : ∀ (V a b : Value), (#[a, b] ++ ((Array.replicate 17 undef).setIfInBounds 3 V).setIfInBounds 0 V : Array Value) = #[a, b, V, undef, undef, V, undef, undef, undef, undef, undef, undef, undef, undef, undef, undef, undef, undef, undef] := fun _ _ _ => rfl
  rw [harr]
  apply wpS_of_wp
  have hta := Tryz.isAtAny (.pointer (some ⟨q, 0, none⟩))
  go_wp2
  cases c₀
  simp_all [bodyPostS, results, Tryz.results31]
end Go.Proofs.YtiihgnagjemikaaGreatDoor
