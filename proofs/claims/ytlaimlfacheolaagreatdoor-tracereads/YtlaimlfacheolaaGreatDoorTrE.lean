/- chapter 14: the document's num, words, lines. -/
import Derived.Test.YtlaimlfacheolaaGreatDoorTrD
namespace Go.Proofs.YtlaimlfacheolaaGreatDoor
open Go.RowKit
attribute [-go_sem] Builtin.append_
namespace Tq
open Nx (Ints lt_of_block)
set_option maxRecDepth 100000 in
set_option maxHeartbeats 4000000 in
theorem refNum_any {x : By} (hx : x.length ≤ 100000) {w : World} (hg : GV w) :
    Calls Tryz.prog 13 #[.string (st x)] w fun e w' => ∃ n, e = .returned (.tuple #[.int .i64 n, .bool (numW x).isSome]) ∧ (∀ v, numW x = some v → n = v) ∧ Hid (Below w.heap.size w w') := by
  obtain ⟨sx, hsx⟩ : ∃ sx, sx = st x := ⟨_, rfl⟩
  have hsz : sx.size ≤ 100000 := by rw [hsx, st_size]; omega
  have HG : Hid (GV w) := hg
  by_cases hp : ∃ v, Lib.parseIntB 64 x = .ok v
  · obtain ⟨v, hp⟩ := hp
    have hpi := pint_ok hsz (v := v) (by rw [hsx]; exact hp) w
    have hv64 : -9223372036854775808 ≤ v ∧ v ≤ 9223372036854775807 := by have := Lib.parseIntB_bounds hp; simp at this; omega
    obtain ⟨fv, hfv⟩ : ∃ fv, fv = st (Lib.itoa v) := ⟨_, rfl⟩
    have hfm := fun (w3 : World) (h3 : Below w.heap.size w w3) => fmt_any (n := v) hv64 (w := w3) (HG.out.below h3 HG.out.big)
    rw [← hfv] at hfm
    by_cases he : fv = sx
    · have HW : Hid (numW x = some v) := by
        unfold Hid numW
        rw [hp]
        have : Lib.itoa v = x := by have := congrArg (·.data.toList) (hfv.symm.trans (he.trans hsx)); exact this
        simp [this]
      rw [HW.out, ← hsx]
      subst he
      clear hp hsx hfv hv64 hsz hg hx
      go_enter Tryz.func13, Tryz.ntmps13
      go_wp2_with (first
        | (go_at_call 24; refine hpi.mono ?_; rintro e w3 ⟨rfl, h3⟩; clear hpi; have hfm3 := hfm w3 h3.out; clear hfm)
        | (go_at_call 20; refine hfm3.mono ?_; rintro e w4 ⟨rfl, h4⟩; clear hfm3))
      go_ret2
      exact ⟨v, rfl, fun u hu => Option.some.inj hu, ck_all h3.out h4.out⟩
    · have hcmp : (fv.toList == sx.toList) = false := by
        rw [Lib.toList_data, Lib.toList_data]
        exact beq_eq_false_iff_ne.2 fun e => he (by rw [← st_data fv, ← st_data sx, e])
      have HW : Hid (numW x = none) := by
        unfold Hid numW
        rw [hp]
        have : Lib.itoa v ≠ x := fun e => he (by rw [hfv, hsx, e])
        simp [this]
      rw [HW.out, ← hsx]
      clear hp hsx hfv hv64 hsz hg hx he
      go_enter Tryz.func13, Tryz.ntmps13
      go_wp2_with (first
        | (go_at_call 24; refine hpi.mono ?_; rintro e w3 ⟨rfl, h3⟩; clear hpi; have hfm3 := hfm w3 h3.out; clear hfm)
        | (go_at_call 20; refine hfm3.mono ?_; rintro e w4 ⟨rfl, h4⟩; clear hfm3))
      go_ret2
      exact ⟨v, rfl, fun u hu => (by cases hu), ck_all h3.out h4.out⟩
  · have HW : Hid (numW x = none) := by
      unfold Hid numW
      split
      · rename_i u e; exact absurd ⟨u, e⟩ hp
      · rfl
    have hpi := pint_bad hsz (fun v e => hp ⟨v, by rw [hsx] at e; exact e⟩) HG.out
    rw [HW.out, ← hsx]
    clear hp hsx hsz hg hx
    go_enter Tryz.func13, Tryz.ntmps13
    go_wp2_with (go_at_call 24; refine hpi.mono ?_; rintro e w3 ⟨nn, q, rfl, h3⟩; clear hpi)
    go_ret2
    exact ⟨nn, rfl, fun u hu => (by cases hu), h3.out⟩
theorem spl_len (c : UInt8) : ∀ (l cur : By), (spl c cur l).length ≤ l.length + 1
  | [], cur => by simp [spl]
  | b :: t, cur => by
    rw [spl]
    split
    · have := spl_len c t []; simp; omega
    · have := spl_len c t (cur ++ [b]); simp; omega
theorem spl_size (c : UInt8) : ∀ (l cur : By), ∀ x ∈ spl c cur l, x.length ≤ cur.length + l.length
  | [], cur, x, h => by
    obtain rfl : x = cur := by simpa [spl] using h
    simp
  | b :: t, cur, x, h => by
    rw [spl] at h
    split at h
    · rcases List.mem_cons.1 h with rfl | h
      · simp
      · have := spl_size c t [] x h; simp at this ⊢; omega
    · have := spl_size c t _ x h; simp at this ⊢; omega
set_option maxRecDepth 100000 in
set_option maxHeartbeats 4000000 in
/-- the document's words -/
theorem refWords_any {l : By} (hl : l.length ≤ 50000) {w : World} (hg : GV w) :
    Calls Tryz.prog 12 #[.string (st l)] w fun e w' => ∃ ad cap, e = .returned (.slice ad (wordsT l).length cap) ∧ Hid (Strs (fun b => w.heap.size ≤ b ∧ b < w'.heap.size) w' (.slice ad (wordsT l).length cap) (wordsT l) ∧ Below w.heap.size w w') := by
  have hf := split_any (l := l) (by omega) 32 hg
  obtain ⟨s, hs⟩ : ∃ s, s = st l := ⟨_, rfl⟩
  obtain ⟨ws, hws⟩ : ∃ ws, ws = spl 32 [] l := ⟨_, rfl⟩
  obtain ⟨n, hn⟩ : ∃ n, n = ws.length := ⟨_, rfl⟩
  have HN : Hid (n = ws.length ∧ wordsT l = ws.filter fun x => decide (x ≠ [])) := ⟨hn, by rw [hws]; exact (words_split l []).symm⟩
  have hn5 : n ≤ 50001 := by rw [hn, hws]; have := spl_len 32 l []; omega
  rw [← hs, ← hws, ← hn] at hf
  rw [HN.out.2]
  rw [← hs]
  clear hg hl hs hws hn
  go_enter Tryz.func12, Tryz.ntmps12
  go_wp2_with (go_at_call 23; refine hf.mono ?_; rintro e w1 ⟨cap, rfl, hc5, hs5, hcl5, hb5⟩; clear hf)
  have HF : Hid ((∀ k, k < n → w1.cell? ⟨w.heap.size, k, none⟩ = some (.string (st (ws.getD k [])))) ∧ Below w.heap.size w w1 ∧ w1.heap.size = w.heap.size + 1) := ⟨hcl5, hb5.out, hs5⟩
  obtain ⟨B, hB⟩ : ∃ B, B = w.heap.size := ⟨_, rfl⟩
  rw [← hB] at HF ⊢
  have HB : Hid (B = w.heap.size) := hB
  clear hB hc5 hs5 hcl5 hb5
  go_loopw [3, 9] (fun v i wr => ∃ k : Nat, k ≤ n ∧ i = .int .i64 k ∧ Hid (wr.ownsRow w1.heap.size 9 1 v ((ws.take k).filter fun x => decide (x ≠ [])).length (((ws.take k).filter fun x => decide (x ≠ [])).map fun x => Value.string (st x)) ∧ Below w1.heap.size w1 wr)) (fun _ i _ => n - (intOf i).toNat)
  case atStart => exact ⟨0, Nat.zero_le _, rfl, World.ownsRow_nil _ _ _ _, Below.refl _ _⟩
  case round =>
    obtain ⟨k, hk, rfl, HR⟩ := hrel
    obtain ⟨a4, c4, hform⟩ := ownForm HR.out.1
    subst hform
    obtain ⟨zs, hzs⟩ : ∃ zs, zs = (ws.take k).filter fun x => decide (x ≠ []) := ⟨_, rfl⟩
    obtain ⟨zl, hzl⟩ : ∃ zl, zl = zs.length := ⟨_, rfl⟩
    have HR' : Hid (wr.ownsRow w1.heap.size 9 1 (.slice a4 zl c4) zl (zs.map fun x => Value.string (st x)) ∧ Below w1.heap.size w1 wr ∧ zl = zs.length ∧ zl ≤ k) := by
      refine ⟨?_, HR.out.2, hzl, ?_⟩
      · rw [hzl, hzs]; exact HR.out.1
      · rw [hzl, hzs]; exact Nat.le_trans (List.length_filter_le _ _) (by rw [List.length_take]; omega)
    rw [← hzs, ← hzl]
    have HZ : Hid (zs = (ws.take k).filter fun x => decide (x ≠ [])) := hzs
    clear HR hzl hzs
    by_cases hlt : k < n
    · have hix := ixStr (some ⟨B, 0, none⟩) B 0 n cap k hlt (fun _ => rfl)
      obtain ⟨x, hx⟩ : ∃ x, x = ws.getD k [] := ⟨_, rfl⟩
      have cx : wr.cell? ⟨B, k, none⟩ = some (.string (st x)) := by rw [hx]; exact ck_cell HR'.out.2.1 (HF.out.1 k hlt)
      obtain ⟨sx, hsx⟩ : ∃ sx, sx = st x := ⟨_, rfl⟩
      rw [← hsx] at cx
      have htk : (ws.take (k + 1)) = ws.take k ++ [x] := by
        have hkw : k < ws.length := by rw [← HN.out.1]; exact hlt
        rw [List.take_succ_eq_append_getElem hkw, hx, List.getD_eq_getElem?_getD, List.getElem?_eq_getElem hkw]; rfl
      by_cases he : x = []
      · have HW : Hid ((ws.take (k + 1)).filter (fun x => decide (x ≠ [])) = zs) := by
          unfold Hid
          rw [htk, List.filter_append, ← HZ.out, he]; simp
        have hcmp : sx = ⟨#[]⟩ := by rw [hsx, he]
        subst hcmp
        clear hx hsx he htk
        go_wp2_with fail
        go_roundw
        case rel => exact ⟨k + 1, by omega, by go_num, by rw [HW.out, ← HR'.out.2.2.1]; exact HR'.out.1, HR'.out.2.1⟩
        case measure => simp [intOf]; omega
      · have HW : Hid ((ws.take (k + 1)).filter (fun x => decide (x ≠ [])) = zs ++ [x] ∧ sx = st x) := by
          refine ⟨?_, hsx⟩
          rw [htk, List.filter_append, ← HZ.out]; simp [he]
        have hcmp : sx.toList.isEmpty = false := by
          rw [Lib.toList_data, hsx]
          simpa using he
        obtain ⟨g, cap5, w5, hr, hown5, _, _, hb5⟩ := appV Tryz.underlying38 infoS rfl (by decide) (w := wr) (B := w1.heap.size) (v := .slice a4 zl c4) (n := zl) HR'.out.1 (.string sx) rfl HR'.out.2.1.size (by have := HR'.out.2.2.2; omega)
        have H5 : Hid (w5.ownsRow w1.heap.size 9 1 (.slice (some ⟨g, 0, none⟩) (zl + 1) cap5) (zl + 1) ((zs.map fun x => Value.string (st x)) ++ [.string sx]) ∧ Below w1.heap.size w1 w5) := ⟨hown5, HR'.out.2.1.trans hb5⟩
        clear hx hsx he htk hown5 hb5
        go_wp2_with fail
        go_roundw
        case rel => exact ⟨k + 1, by omega, by go_num, by rw [HW.out.1, List.length_append, List.length_singleton, ← HR'.out.2.2.1, List.map_append, List.map_singleton, ← HW.out.2]; exact H5.out.1, H5.out.2⟩
        case measure => simp [intOf]; omega
    · obtain rfl : k = n := by omega
      go_wp2_with fail
      go_ret
      have hz : zs = ws.filter fun x => decide (x ≠ []) := by rw [HZ.out, HN.out.1, List.take_length]
      rw [← hz, ← HR'.out.2.2.1]
      refine ⟨a4, c4, rfl, ?_, ?_⟩
      · have := ownStrs (B := w1.heap.size) (l := zs) (by rw [← HR'.out.2.2.1]; exact HR'.out.1)
        exact this.carry fun b hb hl => ⟨⟨by have := HF.out.2.2; have := HB.out; omega, hb.2⟩, rfl⟩
      · have h1 := HF.out.2.1
        rw [HB.out] at h1
        exact h1.trans (HR'.out.2.1.mono (by have := HF.out.2.2; have := HB.out; omega))
end Tq
end Go.Proofs.YtlaimlfacheolaaGreatDoor
