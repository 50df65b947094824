/- chapter 14: one more in a row; the program's numbers, the document's num. -/
import Derived.Test.YtlaimlfacheolaaGreatDoorTrC
import Derived.Deep.AppendLies
namespace Go.Proofs.YtlaimlfacheolaaGreatDoor
open Go.RowKit
attribute [-go_sem] Builtin.append_
namespace Tq
open Nx (Ints lt_of_block)
theorem appV {t e : TypeId} {z : Value} {n8 : Nat} (ht : Tryz.prog.underlying t = some (.slice e)) (hinf : (Tryz.prog.info? e).map (fun i => (i.zero, i.size, i.bytes)) = some (some z, 1, n8)) (hz : z.cells.size = 1) (h8 : n8 ≤ 100) {B : Nat} {w : World} {v : Value} {n : Nat} {xs : List Value} (h : w.ownsRow B e 1 v n xs) (u : Value) (hu : u.oneCell' = true) (hB : B ≤ w.heap.size) (hl : n ≤ 100000) :
    ∃ g cap w5, (Builtin.append_ #[t, t] t #[v, .slice (some ⟨w.heap.size, 0, none⟩) 1 1]).run Tryz.prog (w.alloc (.cells #[u] e)) = .ok (.slice (some ⟨g, 0, none⟩) (n + 1) cap) w5 ∧ w5.ownsRow B e 1 (.slice (some ⟨g, 0, none⟩) (n + 1) cap) (n + 1) (xs ++ [u]) ∧ (w.alloc (.cells #[u] e)).grownBy w5 v.ownBlock ∧ (v.ownBlock = some g ∨ g = w.heap.size + 1) ∧ Below B w w5 := by
  obtain ⟨i0, hi, hz0, hz1, hz2⟩ := info_parts hinf
  have hown := h.alloc (.cells #[u] e)
  obtain ⟨g, cap, w5, hr, h2, h3, h4, h5⟩ := run_append_lies (P := Tryz.prog) (w.alloc (.cells #[u] e)) t t B e i0 z 1 n8 ht hi hz0 hz1 hz2 hz (by decide) v n xs hown ⟨w.heap.size, 0, none⟩ 1 1 [u] rfl
    (fun j x hx => by
      obtain rfl : j = 0 := by
        rcases Nat.eq_zero_or_pos j with h | h
        · exact h
        · rw [List.getElem?_eq_none (by simp; omega)] at hx; simp at hx
      obtain rfl : u = x := by simpa using hx
      exact cell_row (ck_new w _) 0 rfl)
    (fun x hx => by obtain rfl : x = u := by simpa using hx
                    exact hu) (by decide) (by unfold maxLen; omega) (Nat.le_trans (Nat.mul_le_mul (show n + 1 ≤ 100001 by omega) h8) (by decide)) (by simp; omega) _ rfl
  refine ⟨g, cap, w5, hr, h2, h3, by simpa using h4, ?_⟩
  have hb := (Below.refl B w).alloc hB (.cells #[u] e)
  refine ⟨h3.os.trans hb.os, h3.tape.trans hb.tape, h3.output.trans hb.output, Nat.le_trans hb.size h3.size, fun k hk => ?_⟩
  rw [h3.block k (by simp; omega) (fun e => ?_)]
  · exact hb.block k hk
  · have := (hown.lt k e.symm).1; omega
theorem infoI : (Tryz.prog.info? 2).map (fun i => (i.zero, i.size, i.bytes)) = some (some (.int .i64 0), 1, 8) := by kernel_rfl
theorem infoS : (Tryz.prog.info? 9).map (fun i => (i.zero, i.size, i.bytes)) = some (some (.string ⟨#[]⟩), 1, 16) := by kernel_rfl
theorem infoR : (Tryz.prog.info? 36).map (fun i => (i.zero, i.size, i.bytes)) = some (some (.slice none 0 0), 1, 24) := by kernel_rfl
theorem ownForm {B n : Nat} {e : TypeId} {w : World} {v : Value} {xs : List Value} (h : w.ownsRow B e 1 v n xs) : ∃ ad cap, v = .slice ad n cap := by
  rcases h.2 with ⟨rfl, rfl⟩ | ⟨g, cap, cur, rfl, _⟩
  · exact ⟨_, _, rfl⟩
  · exact ⟨_, _, rfl⟩
theorem Okeep {B e n : Nat} {w w' : World} {v : Value} {xs : List Value} (h : w.ownsRow B e 1 v n xs) (hb : Below w.heap.size w w') : w'.ownsRow B e 1 v n xs := by
  refine ⟨h.1, ?_⟩
  rcases h.2 with h2 | ⟨g, cap, cur, rfl, hB, hg, hr⟩
  · exact .inl h2
  · exact .inr ⟨g, cap, cur, rfl, hB, ck_block hb hg, hr⟩
theorem Omono {B B' e n : Nat} {w : World} {v : Value} {xs : List Value} (hb : B' ≤ B) (h : w.ownsRow B e 1 v n xs) : w.ownsRow B' e 1 v n xs := by
  refine ⟨h.1, ?_⟩
  rcases h.2 with h2 | ⟨g, cap, cur, rfl, hB, hg, hr⟩
  · exact .inl h2
  · exact .inr ⟨g, cap, cur, rfl, Nat.le_trans hb hB, hg, hr⟩
/-- a row of numbers of one's own is read -/
theorem ownInts {B : Nat} {e : TypeId} {w : World} {v : Value} {zs : List Int} (h : w.ownsRow B e 1 v zs.length (zs.map (Value.int .i64))) : Ints (fun b => B ≤ b ∧ b < w.heap.size ∧ v.ownBlock = some b) w v zs := by
  rcases h.2 with ⟨rfl, h0⟩ | ⟨g, cap, cur, rfl, hB, hg, _⟩
  · obtain rfl := List.length_eq_zero_iff.1 h0
    exact ⟨none, 0, 0, 0, rfl, fun h => absurd h (by simp), fun k hk => absurd hk (by simp)⟩
  · refine ⟨_, g, 0, cap, rfl, fun _ => ⟨rfl, hB, lt_of_block hg, rfl⟩, fun k hk => ?_⟩
    have h1 := h.cells (g := g) rfl k (.int .i64 (zs.getD k 0)) (by rw [List.getElem?_map, List.getElem?_eq_getElem hk, List.getD_eq_getElem?_getD, List.getElem?_eq_getElem hk]; rfl)
    rw [Nat.zero_add]
    have ad : (⟨g, 0, none⟩ : Addr).add k = ⟨g, k, none⟩ := by unfold Addr.add; split <;> simp_all
    rw [ad] at h1
    exact h1
/-- a row of words of one's own is read -/
theorem ownStrs {B : Nat} {e : TypeId} {w : World} {v : Value} {l : List By} (h : w.ownsRow B e 1 v l.length (l.map fun x => Value.string (st x))) : Strs (fun b => B ≤ b ∧ b < w.heap.size) w v l := by
  rcases h.2 with ⟨rfl, h0⟩ | ⟨g, cap, cur, rfl, hB, hg, _⟩
  · obtain rfl := List.length_eq_zero_iff.1 h0
    exact ⟨none, 0, 0, 0, rfl, fun h => absurd h (by simp), fun k hk => absurd hk (by simp)⟩
  · refine ⟨_, g, 0, cap, rfl, fun _ => ⟨rfl, hB, lt_of_block hg⟩, fun k hk => ?_⟩
    have h1 := h.cells (g := g) rfl k (.string (st (l.getD k []))) (by rw [List.getElem?_map, List.getElem?_eq_getElem hk, List.getD_eq_getElem?_getD, List.getElem?_eq_getElem hk]; rfl)
    rw [Nat.zero_add]
    have ad : (⟨g, 0, none⟩ : Addr).add k = ⟨g, k, none⟩ := by unfold Addr.add; split <;> simp_all
    rw [ad] at h1
    exact h1
theorem ixStr (ad : Option Addr) (b off n cap k : Nat) (hk : k < n) (ha : 0 < n → ad = some ⟨b, off, none⟩) (w : World) : (Instr.indexAt 38 (.slice ad n cap) (.int .i64 (k : Int))).run Tryz.prog w = .ok (.pointer (some ⟨b, off + k, none⟩)) w := by
  obtain rfl := ha (by omega)
  rw [run_indexAt_slice _ _ _ _ _ _ _ (by kernel_rfl), if_pos ⟨by omega, by omega⟩]
  have e : (sizeOf (Tryz.prog.elem 38)).run Tryz.prog w = .ok 1 w := by kernel_rfl
  rw [e]
  simp [Result.andThen, Addr.add]
theorem ixRow (ad : Option Addr) (b off n cap k : Nat) (hk : k < n) (ha : 0 < n → ad = some ⟨b, off, none⟩) (w : World) : (Instr.indexAt 22 (.slice ad n cap) (.int .i64 (k : Int))).run Tryz.prog w = .ok (.pointer (some ⟨b, off + k, none⟩)) w := by
  obtain rfl := ha (by omega)
  rw [run_indexAt_slice _ _ _ _ _ _ _ (by kernel_rfl), if_pos ⟨by omega, by omega⟩]
  have e : (sizeOf (Tryz.prog.elem 22)).run Tryz.prog w = .ok 1 w := by kernel_rfl
  rw [e]
  simp [Result.andThen, Addr.add]
theorem ixNum (ad : Option Addr) (b off n cap k : Nat) (hk : k < n) (ha : 0 < n → ad = some ⟨b, off, none⟩) (w : World) : (Instr.indexAt 36 (.slice ad n cap) (.int .i64 (k : Int))).run Tryz.prog w = .ok (.pointer (some ⟨b, off + k, none⟩)) w := by
  obtain rfl := ha (by omega)
  rw [run_indexAt_slice _ _ _ _ _ _ _ (by kernel_rfl), if_pos ⟨by omega, by omega⟩]
  have e : (sizeOf (Tryz.prog.elem 36)).run Tryz.prog w = .ok 1 w := by kernel_rfl
  rw [e]
  simp [Result.andThen, Addr.add]
/-- numbers of the first k words, and of one more -/
theorem nums_take {ws : List By} {k : Nat} {zs : List Int} (hk : k < ws.length) (h : numsW (ws.take k) = some zs) : numsW (ws.take (k + 1)) = (numW (ws.getD k [])).map fun v => zs ++ [v] := by
  have key : ∀ (a : List By) (x : By) (zs : List Int), numsW a = some zs → numsW (a ++ [x]) = (numW x).map fun v => zs ++ [v] := by
    intro a
    induction a with
    | nil => intro x zs h; obtain rfl := Option.some.inj h; simp only [List.nil_append, numsW]; cases numW x <;> rfl
    | cons y t ih =>
      intro x zs h
      rw [numsW] at h
      cases e1 : numW y with
      | none => rw [e1] at h; simp at h
      | some v =>
        cases e2 : numsW t with
        | none => rw [e1, e2] at h; simp at h
        | some l =>
          rw [e1, e2] at h
          obtain rfl := Option.some.inj h
          rw [List.cons_append, numsW, e1, ih x l e2]
          cases numW x <;> rfl
  rw [List.take_succ_eq_append_getElem hk, key _ _ zs h, List.getD_eq_getElem?_getD, List.getElem?_eq_getElem hk]; rfl
theorem nums_stop : ∀ (ws : List By) (k : Nat), k < ws.length → numW (ws.getD k []) = none → numsW ws = none
  | [], k, h, _ => absurd h (by simp)
  | x :: t, 0, _, h => by rw [numsW]; rw [show numW x = none from h]
  | x :: t, k + 1, hk, h => by
    rw [numsW, nums_stop t k (by simpa using hk) (by simpa using h)]
    cases numW x <;> rfl
theorem nums_len : ∀ {ws : List By} {zs : List Int}, numsW ws = some zs → zs.length = ws.length
  | [], zs, h => by obtain rfl := Option.some.inj h; rfl
  | x :: t, zs, h => by
    rw [numsW] at h
    cases e1 : numW x with
    | none => rw [e1] at h; simp at h
    | some v =>
      cases e2 : numsW t with
      | none => rw [e1, e2] at h; simp at h
      | some l =>
        rw [e1, e2] at h
        obtain rfl := Option.some.inj h
        simp [nums_len e2]
theorem wl_len : ∀ (l cur : By), (wl cur l).length ≤ l.length + 1
  | [], cur => by rw [wl]; split <;> simp
  | b :: t, cur => by
    rw [wl]
    split
    · split
      · have := wl_len t []; simp; omega
      · have := wl_len t []; simp; omega
    · have := wl_len t (cur ++ [b]); simp; omega
theorem wl_size : ∀ (l cur : By), ∀ x ∈ wl cur l, x.length ≤ cur.length + l.length
  | [], cur, x, h => by
    rw [wl] at h
    split at h
    · simp at h
    · obtain rfl : x = cur := by simpa using h
      simp
  | b :: t, cur, x, h => by
    rw [wl] at h
    split at h
    · split at h
      · have := wl_size t [] x h; simp at this ⊢; omega
      · rcases List.mem_cons.1 h with rfl | h
        · simp
        · have := wl_size t [] x h; simp at this ⊢; omega
    · have := wl_size t _ x h; simp at this ⊢; omega
theorem word_size {l : By} {k : Nat} (hk : k < (wordsT l).length) : ((wordsT l).getD k []).length ≤ l.length := by
  have := wl_size l [] ((wordsT l).getD k []) (by rw [List.getD_eq_getElem?_getD, show (wordsT l)[k]? = some (wordsT l)[k] from List.getElem?_eq_getElem hk]; exact List.getElem_mem _)
  simpa using this
/-- what numbers makes -/
def NumsO (w w' : World) (l : By) (v : Value) (b : Bool) : Prop :=
  Below w.heap.size w w' ∧ match numsW (wordsT l) with
    | some zs => b = true ∧ w'.ownsRow w.heap.size 2 1 v zs.length (zs.map (Value.int .i64))
    | none => b = false
set_option maxRecDepth 100000 in
set_option maxHeartbeats 4000000 in
theorem numbers_any {l : By} (hl : l.length ≤ 50000) {w : World} (hg : GV w) :
    Calls Tryz.prog 16 #[.string (st l)] w fun e w' => ∃ ad n cap b, e = .returned (.tuple #[.slice ad n cap, .bool b]) ∧ Hid (NumsO w w' l (.slice ad n cap) b) := by
  have HG : Hid (GV w ∧ l.length ≤ 50000) := ⟨hg, hl⟩
  have hf := fields_any (l := l) (by omega) w
  obtain ⟨s, hs⟩ : ∃ s, s = st l := ⟨_, rfl⟩
  rw [← hs] at hf ⊢
  obtain ⟨n, hn⟩ : ∃ n, n = (wordsT l).length := ⟨_, rfl⟩
  have HN : Hid (n = (wordsT l).length ∧ n ≤ 50001) := ⟨hn, by rw [hn]; have := wl_len l []; unfold wordsT; omega⟩
  rw [← hn] at hf
  clear hg hl hs hn
  go_enter Tryz.func16, Tryz.ntmps16
  go_wp2_with (go_at_call 27; refine hf.mono ?_; rintro e w1 ⟨b, cap, rfl, HF⟩; clear hf)
  go_loopw [4, 12] (fun v i wr => ∃ (k : Nat) (zs : List Int), k ≤ n ∧ i = .int .i64 k ∧ Hid (numsW ((wordsT l).take k) = some zs ∧ wr.ownsRow w1.heap.size 2 1 v zs.length (zs.map (Value.int .i64)) ∧ Below w1.heap.size w1 wr)) (fun _ i _ => n - (intOf i).toNat)
  case atStart => exact ⟨0, [], Nat.zero_le _, rfl, rfl, World.ownsRow_nil _ _ _ _, Below.refl _ _⟩
  case round =>
    obtain ⟨k, zs, hk, rfl, HR⟩ := hrel
    obtain ⟨a4, c4, hform⟩ := ownForm HR.out.2.1
    subst hform
    obtain ⟨zl, hzl⟩ : ∃ zl, zl = zs.length := ⟨_, rfl⟩
    have HZ : Hid (zl = zs.length ∧ zl = min k (wordsT l).length) := ⟨hzl, by rw [hzl, nums_len HR.out.1, List.length_take]⟩
    have HR' : Hid (numsW ((wordsT l).take k) = some zs ∧ wr.ownsRow w1.heap.size 2 1 (.slice a4 zl c4) zl (zs.map (Value.int .i64)) ∧ Below w1.heap.size w1 wr) := by rw [hzl]; exact HR.out
    rw [← hzl]
    clear HR hzl
    have hn5 : n ≤ 50001 := HN.out.2
    by_cases hlt : k < n
    · have hix := ixStr (some ⟨b, 0, none⟩) b 0 n cap k hlt (fun _ => rfl)
      obtain ⟨x, hx⟩ : ∃ x, x = (wordsT l).getD k [] := ⟨_, rfl⟩
      have hkw : k < (wordsT l).length := by rw [← HN.out.1]; exact hlt
      have cx : wr.cell? ⟨b, k, none⟩ = some (.string (st x)) := by rw [hx]; exact ck_cell HR'.out.2.2 (HF.out.2.1 k hlt)
      have hxl : x.length ≤ 50000 := by rw [hx]; exact Nat.le_trans (word_size hkw) HG.out.2
      have hgr : GV wr := (HG.out.1.below HF.out.2.2 HG.out.1.big).below HR'.out.2.2 (by have := HG.out.1.big; have := HF.out.2.2.size; omega)
      have hbw : Below w.heap.size w wr := HF.out.2.2.trans (HR'.out.2.2.mono HF.out.2.2.size)
      have HX : Hid (x = (wordsT l).getD k [] ∧ k < (wordsT l).length ∧ GV wr ∧ Below w.heap.size w wr) := ⟨hx, hkw, hgr, hbw⟩
      obtain ⟨sx, hsx⟩ : ∃ sx, sx = st x := ⟨_, rfl⟩
      rw [← hsx] at cx
      have hsz : sx.size ≤ 100000 := by rw [hsx, st_size]; omega
      by_cases hp : ∃ v, Lib.parseIntB 64 x = .ok v
      · obtain ⟨v, hp⟩ := hp
        have hpi := pint_ok hsz (v := v) (by rw [hsx]; exact hp) wr
        have hv64 : -9223372036854775808 ≤ v ∧ v ≤ 9223372036854775807 := by have := Lib.parseIntB_bounds hp; simp at this; omega
        obtain ⟨fv, hfv⟩ : ∃ fv, fv = st (Lib.itoa v) := ⟨_, rfl⟩
        have hfm := fun (w3 : World) (h3 : Below wr.heap.size wr w3) => fmt_any (n := v) hv64 (w := w3) (HX.out.2.2.1.below h3 HX.out.2.2.1.big)
        rw [← hfv] at hfm
        have HP : Hid (Lib.parseIntB 64 x = .ok v ∧ fv = st (Lib.itoa v) ∧ sx = st x) := ⟨hp, hfv, hsx⟩
        clear hx hkw hxl hgr hbw hsx hsz hp hv64 hfv
        by_cases he : fv = sx
        · subst he
          have HW : Hid (numW x = some v) := by
            unfold Hid numW
            rw [HP.out.1]
            have : Lib.itoa v = x := by have := congrArg (·.data.toList) (HP.out.2.1.symm.trans HP.out.2.2); exact this
            simp [this]
          go_wp2_with (first
            | (go_at_call 24; refine hpi.mono ?_; rintro e w3 ⟨rfl, h3⟩; clear hpi; have hfm3 := hfm w3 h3.out; clear hfm)
            | (go_at_call 20; refine hfm3.mono ?_; rintro e w4 ⟨rfl, h4⟩; clear hfm3
               have hb4 : Below w1.heap.size w1 w4 := HR'.out.2.2.trans ((ck_all h3.out h4.out).mono HR'.out.2.2.size)
               obtain ⟨g, cap5, w5, hr, hown5, hg5, _, hb5⟩ := appV Tryz.underlying36 infoI rfl (by decide) (w := w4) (B := w1.heap.size) (v := .slice a4 zl c4) (n := zl) (xs := zs.map (Value.int .i64)) (Okeep HR'.out.2.1 (ck_all h3.out h4.out)) (.int .i64 v) rfl hb4.size (by have := HZ.out.2; have := HN.out; omega)
               have H5 : Hid (w5.ownsRow w1.heap.size 2 1 (.slice (some ⟨g, 0, none⟩) (zl + 1) cap5) (zl + 1) (zs.map (Value.int .i64) ++ [.int .i64 v]) ∧ Below w1.heap.size w1 w5) := ⟨hown5, hb4.trans hb5⟩
               clear hown5 hg5 hb5 hb4))
          go_roundw
          case rel => exact ⟨k + 1, zs ++ [v], by omega, by go_num, by
            rw [nums_take HX.out.2.1 HR'.out.1, ← HX.out.1, HW.out]; rfl, by
            rw [List.length_append, List.length_singleton, ← HZ.out.1, List.map_append]; exact H5.out.1, H5.out.2⟩
          case measure => simp [intOf]; omega
        · have hcmp : (fv.toList == sx.toList) = false := by
            rw [Lib.toList_data, Lib.toList_data]
            exact beq_eq_false_iff_ne.2 fun e => he (by rw [← st_data fv, ← st_data sx, e])
          have HW : Hid (numW x = none) := by
            unfold Hid numW
            rw [HP.out.1]
            have : Lib.itoa v ≠ x := fun e => he (by rw [HP.out.2.1, HP.out.2.2, e])
            simp [this]
          go_wp2_with (first
            | (go_at_call 24; refine hpi.mono ?_; rintro e w3 ⟨rfl, h3⟩; clear hpi; have hfm3 := hfm w3 h3.out; clear hfm)
            | (go_at_call 20; refine hfm3.mono ?_; rintro e w4 ⟨rfl, h4⟩; clear hfm3))
          go_ret2
          refine ⟨none, 0, 0, false, rfl, HX.out.2.2.2.trans ((ck_all h3.out h4.out).mono HX.out.2.2.2.size), ?_⟩
          rw [nums_stop _ k HX.out.2.1 (by rw [← HX.out.1]; exact HW.out)]
      · have HW : Hid (numW x = none) := by
          unfold Hid numW
          split
          · rename_i u e; exact absurd ⟨u, e⟩ hp
          · rfl
        have hpi := pint_bad hsz (fun v e => hp ⟨v, by rw [hsx] at e; exact e⟩) HX.out.2.2.1
        clear hx hkw hxl hgr hbw hsx hsz hp
        go_wp2_with (go_at_call 24; refine hpi.mono ?_; rintro e w3 ⟨nn, q, rfl, h3⟩; clear hpi)
        go_ret2
        refine ⟨none, 0, 0, false, rfl, HX.out.2.2.2.trans (h3.out.mono HX.out.2.2.2.size), ?_⟩
        rw [nums_stop _ k HX.out.2.1 (by rw [← HX.out.1]; exact HW.out)]
    · obtain rfl : k = n := by omega
      go_wp2_with fail
      go_ret2
      refine ⟨a4, zl, c4, true, rfl, HF.out.2.2.trans (HR'.out.2.2.mono HF.out.2.2.size), ?_⟩
      have := HR'.out.1
      rw [HN.out.1, List.take_length] at this
      rw [this]
      exact ⟨rfl, by rw [← HZ.out.1]; exact Omono HF.out.2.2.size HR'.out.2.1⟩
end Tq
end Go.Proofs.YtlaimlfacheolaaGreatDoor
