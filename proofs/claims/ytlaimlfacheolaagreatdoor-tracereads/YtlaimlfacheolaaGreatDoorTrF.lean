/- chapter 14: the document's lines. -/
import Derived.Test.YtlaimlfacheolaaGreatDoorTrE
namespace Go.Proofs.YtlaimlfacheolaaGreatDoor
open Go.RowKit
namespace Tq
open Nx (Ints lt_of_block)
theorem last_at {ws : List By} (h : 0 < ws.length) : ws.getLast? = some (ws.getD (ws.length - 1) []) := by
  rw [List.getLast?_eq_getElem?, List.getD_eq_getElem?_getD, List.getElem?_eq_getElem (by omega)]; rfl
set_option maxRecDepth 100000 in
set_option maxHeartbeats 4000000 in
theorem refLines_any {l : By} (h0 : l ≠ []) (hl : l.length ≤ 50000) {w : World} (hg : GV w) :
    Calls Tryz.prog 11 #[.string (st l)] w fun e w' => ∃ ad cap, e = .returned (.slice ad (linesT l).length cap) ∧ Hid (Strs (fun b => w.heap.size ≤ b ∧ b < w'.heap.size) w' (.slice ad (linesT l).length cap) (linesT l) ∧ Below w.heap.size w w') := by
  have hf := split_any (l := l) (by omega) 10 hg
  have hls := lines_split h0
  obtain ⟨s, hs⟩ : ∃ s, s = st l := ⟨_, rfl⟩
  obtain ⟨ws, hws⟩ : ∃ ws, ws = spl 10 [] l := ⟨_, rfl⟩
  have hne : 0 < ws.length := by rw [hws]; exact List.length_pos_iff.2 (spl_ne 10 l [])
  have hn5 : ws.length ≤ 50001 := by rw [hws]; have := spl_len 10 l []; omega
  rw [← hws] at hls
  obtain ⟨n, hn⟩ : ∃ n, n = ws.length := ⟨_, rfl⟩
  obtain ⟨m, hm⟩ : ∃ m : Nat, m + 1 = n := ⟨n - 1, by omega⟩
  obtain ⟨x, hx⟩ : ∃ x, x = ws.getD m [] := ⟨_, rfl⟩
  have hla : ws.getLast? = some x := by rw [last_at hne, hx, ← hn, ← hm]; rfl
  obtain ⟨sx, hsx⟩ : ∃ sx, sx = st x := ⟨_, rfl⟩
  rw [← hs, ← hws, ← hn] at hf
  rw [← hs]
  have hn5' : n ≤ 50001 := by omega
  -- whether the last one goes
  have hcase : (x = [] ∧ 1 < n ∧ linesT l = ws.take m) ∨ (x ≠ [] ∧ 1 < n ∧ linesT l = ws) ∨ (n = 1 ∧ linesT l = ws) := by
    by_cases h1 : 1 < n
    · by_cases hxe : x = []
      · refine .inl ⟨hxe, h1, ?_⟩
        rw [hls, if_pos ⟨by omega, by rw [hla, hxe]⟩, List.dropLast_eq_take, ← hn, ← hm]; rfl
      · refine .inr (.inl ⟨hxe, h1, ?_⟩)
        rw [hls, if_neg (fun e => hxe (by have := e.2; rw [hla] at this; exact Option.some.inj this))]
    · exact .inr (.inr ⟨by omega, by rw [hls, if_neg (fun e => h1 (by omega))]⟩)
  have HN : Hid (n = ws.length ∧ x = ws.getD m [] ∧ sx = st x) := ⟨hn, hx, hsx⟩
  have hmi : (n : Int) - 1 = (m : Int) := by omega
  have hm1 := hm
  clear hg hl hs hws hls hn hn5 hne hx hla h0
  rcases hcase with ⟨hxe, h1, hlt⟩ | ⟨hxe, h1, hlt⟩ | ⟨h1, hlt⟩
  · have hlen : (linesT l).length = m := by rw [hlt, List.length_take, ← HN.out.1]; omega
    obtain rfl : sx = ⟨#[]⟩ := by rw [hsx, hxe]
    have hls := HN.out
    rw [hlen]
    have HL : Hid (linesT l = ws.take m) := hlt
    clear hsx hlt hlen hls hxe
    subst hm1
    clear hm
    go_enter Tryz.func11, Tryz.ntmps11
    go_wp2_with (go_at_call 23; refine hf.mono ?_; rintro e w1 ⟨cap, rfl, hc5, hs5, hcl5, hb5⟩; clear hf
                 have hix := ixStr (some ⟨w.heap.size, 0, none⟩) w.heap.size 0 (m + 1) cap m (by omega) (fun _ => rfl)
                 have cx := hcl5 m (by omega)
                 rw [← HN.out.2.1, ← HN.out.2.2] at cx
                 have HC : Hid _ := hcl5
                 clear hcl5)
    go_ret
    refine ⟨_, _, rfl, ⟨⟨some ⟨w.heap.size, 0, none⟩, w.heap.size, 0, cap, ?_, fun _ => ⟨rfl, Nat.le_refl _, by omega⟩, fun k hk => ?_⟩, hb5.out⟩⟩
    · rw [HL.out, List.length_take, ← HN.out.1, Nat.min_eq_left (by omega)]
    · rw [HL.out] at hk ⊢
      rw [List.length_take, ← HN.out.1] at hk
      rw [Nat.zero_add, HC.out k (by omega)]
      congr 3
      rw [List.getD_eq_getElem?_getD, List.getD_eq_getElem?_getD, List.getElem?_take, if_pos (by omega)]
  · have hcmp : sx.toList.isEmpty = false := by
      rw [Lib.toList_data, hsx]
      simpa using hxe
    have HL : Hid (linesT l = ws) := hlt
    have hlen : (linesT l).length = n := by rw [hlt, ← HN.out.1]
    rw [hlen]
    clear hsx hlt hlen hxe
    subst hm1
    clear hm
    go_enter Tryz.func11, Tryz.ntmps11
    go_wp2_with (go_at_call 23; refine hf.mono ?_; rintro e w1 ⟨cap, rfl, hc5, hs5, hcl5, hb5⟩; clear hf
                 have hix := ixStr (some ⟨w.heap.size, 0, none⟩) w.heap.size 0 (m + 1) cap m (by omega) (fun _ => rfl)
                 have cx := hcl5 m (by omega)
                 rw [← HN.out.2.1, ← HN.out.2.2] at cx
                 have HC : Hid _ := hcl5
                 clear hcl5)
    go_ret
    refine ⟨_, _, rfl, ⟨⟨some ⟨w.heap.size, 0, none⟩, w.heap.size, 0, cap, ?_, fun _ => ⟨rfl, Nat.le_refl _, by omega⟩, fun k hk => ?_⟩, hb5.out⟩⟩
    · rw [HL.out, ← HN.out.1]
    · rw [HL.out] at hk ⊢
      rw [Nat.zero_add, HC.out k (by rw [HN.out.1]; exact hk)]
  · have HL : Hid (linesT l = ws) := hlt
    have hlen : (linesT l).length = n := by rw [hlt, ← HN.out.1]
    rw [hlen]
    clear hsx hlt hlen hm hm1 hmi
    subst h1
    go_enter Tryz.func11, Tryz.ntmps11
    go_wp2_with (go_at_call 23; refine hf.mono ?_; rintro e w1 ⟨cap, rfl, hc5, hs5, hcl5, hb5⟩; clear hf; have HC : Hid _ := hcl5; clear hcl5)
    go_ret
    refine ⟨_, _, rfl, ⟨⟨some ⟨w.heap.size, 0, none⟩, w.heap.size, 0, cap, ?_, fun _ => ⟨rfl, Nat.le_refl _, by omega⟩, fun k hk => ?_⟩, hb5.out⟩⟩
    · rw [HL.out, ← HN.out.1]
    · rw [HL.out] at hk ⊢
      rw [Nat.zero_add, HC.out k (by rw [HN.out.1]; exact hk)]
end Tq
end Go.Proofs.YtlaimlfacheolaaGreatDoor
