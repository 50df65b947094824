/- The runner's look at ways: the first one that is open, of those that are asked: others, at once. -/
import Derived.Test.YtiihgnagjemikaaGreatDoorVUq1
namespace Go.Proofs.YtiihgnagjemikaaGreatDoor
open Go.RowKit Px
section
variable {A : Nat → Prop} {w w' : World} {rb bn bw m : Nat} {ns ls : List Str} {now was : Px.Env}
set_option maxRecDepth 100000 in
set_option maxHeartbeats 8000000 in
theorem open_NW {gS gW o M cap : Nat} {ad : Option Addr} {ys : List Wy} {cs : List Int} {ov : Bool}
    (hF : ∀ (W : World) (g o : Nat) (y : Wy), W.cell? ⟨g, o, none⟩ = some (.int .i64 (y.kind : Int)) → W.cell? ⟨g, o + 1, none⟩ = some (.bool y.now) → Calls Tryz.prog 104 #[.pointer (some ⟨g, o, none⟩)] W fun e w' => e = .returned (.bool (askNW y)) ∧ w' = W)
    (h9 : w.cell? ⟨gS, o + 9, none⟩ = some (.slice ad M cap)) (hM : M = ys.length) (hmx : M ≤ maxLen) (had : 0 < M → ad = some ⟨gW, 0, none⟩) (hW : WaysM A w ls gS gW ys cs) (hNu : ∀ y ∈ ys, NuOk y.cond) (h : RunV w rb bn bw m ns now was)
    (hne : 0 < M → gW ≠ rb ∧ gW ≠ bn ∧ gW ≠ bw ∧ gW ≠ gS ∧ gW < w.heap.size) (hsn : gS ≠ bn) (hrn : rb ≠ bn) (hwn : bw ≠ bn) (hA : ∀ b, A b → b < w.heap.size ∧ b ≠ bn ∧ (0 < M → b ≠ gW))
    (hov : ∀ (bx : Nat) (W : World), FrP (fun b => 0 < M ∧ b = gW) bn w W → W.cell? ⟨bx, 0, none⟩ = some (.pointer (some ⟨gS, o, none⟩)) → Calls Tryz.prog 126 #[.pointer (some ⟨bx, 0, none⟩)] W fun e w' => e = .returned (.bool ov) ∧ w' = W) :
    Calls Tryz.prog 102 #[.pointer (some ⟨rb, 0, none⟩), .pointer (some ⟨gS, o, none⟩), .func (.func 104) #[] #[]] w fun e w' => e = .returned (wP gW (opnW ov now was askNW ys cs).1) ∧ Hid (WaysM A w' ls gS gW ys (opnW ov now was askNW ys cs).2 ∧ FrP (fun b => 0 < M ∧ b = gW) bn w w' ∧ RunV w' rb bn bw m ns now was) := by
  have hmf : ∀ (fn : Fn) (first cap : Array Value) (w : World), (Instr.makeFunc fn first cap).run Tryz.prog w = .ok (.func fn first cap) w := fun _ _ _ _ => rfl
  have hN6 : (M : Int) ≤ 9223372036854775807 := by unfold maxLen at hmx; omega
  obtain ⟨X, hX⟩ : ∃ X, X = w.alloc (.cells #[.pointer (some ⟨gS, o, none⟩)] 99) := ⟨_, rfl⟩
  obtain ⟨bx, hbx⟩ : ∃ bx, bx = w.heap.size := ⟨_, rfl⟩
  have hbX : Below w.heap.size w X := by rw [hX]; exact ck_grown _ _
  have hkX : X.heap[bx]? = some (.cells #[.pointer (some ⟨gS, o, none⟩)] 99 (0, 0)) := by rw [hX, hbx]; exact ck_new _ _
  have HBX : Hid (∀ W, FrP (fun b => 0 < M ∧ b = gW) bn X W → W.cell? ⟨bx, 0, none⟩ = some (.pointer (some ⟨gS, o, none⟩)) ∧ W.cell? ⟨gS, o + 9, none⟩ = some (.slice ad M cap)) := fun W hW => by
    have hbl := h.mn.lt
    refine ⟨hW.cell (cell_row hkX 0 rfl) (fun e => by have := (hne e.1).2.2.2.2; have := e.2; simp only at this; omega) (by show bx ≠ bn; omega), hW.cell (ck_cell hbX h9) (fun e => (hne e.1).2.2.2.1 e.2.symm) hsn⟩
  have HV : Hid (∀ W, FrP (fun b => 0 < M ∧ b = gW) bn X W → W.heap[bn]? = X.heap[bn]? → RunV W rb bn bw m ns now was) := fun W hW hb => by
    have h1 := h.below hbX
    exact h1.fr hW ⟨fun e => (hne e.1).1 e.2.symm, hrn⟩ ⟨fun e => (hne e.1).2.2.1 e.2.symm, hwn⟩ (h1.mn.keep hb)
  have HW0 : Hid (WaysM A X ls gS gW ys cs) := hW.keep (fun b _ hlt => hbX.block b hlt) (fun hp => hbX.block gW (hne (by omega)).2.2.2.2)
  have HA : Hid (∀ b, A b → b < w.heap.size ∧ b ≠ bn ∧ (0 < M → b ≠ gW)) := hA
  have HF : Hid (∀ (W : World) (g o : Nat) (y : Wy), W.cell? ⟨g, o, none⟩ = some (.int .i64 (y.kind : Int)) → W.cell? ⟨g, o + 1, none⟩ = some (.bool y.now) → Calls Tryz.prog 104 #[.pointer (some ⟨g, o, none⟩)] W fun e w' => e = .returned (.bool (askNW y)) ∧ w' = W) := hF
  have HOV : Hid (∀ W, FrP (fun b => 0 < M ∧ b = gW) bn X W → Calls Tryz.prog 126 #[.pointer (some ⟨bx, 0, none⟩)] W fun e w' => e = .returned (.bool ov) ∧ w' = W) := fun W hW => hov bx W ((FrP.of_below hbX).trans hW) (HBX.out W hW).1
  have HNE : Hid (0 < M → gW ≠ rb ∧ gW ≠ bn ∧ gW ≠ bw ∧ gW ≠ gS ∧ gW < w.heap.size) := hne
  have HNU : Hid (∀ y ∈ ys, NuOk y.cond) := hNu
  have HAD : Hid (0 < M → ad = some ⟨gW, 0, none⟩) := had
  have HM : Hid (M = ys.length) := hM
  have HB0 : Hid (Below w.heap.size w X) := hbX
  obtain ⟨x0, x9⟩ := HBX.out X (FrP.refl _ _ _)
  obtain ⟨R, hR⟩ : ∃ R, R = opnW ov now was askNW ys cs := ⟨_, rfl⟩
  have HR : Hid (R = opnI ov now was askNW ys M 0 cs) := by rw [Hid, hR, opnW, hM]
  rw [← hR]
  clear hF hW hNu h hne hsn hrn hwn hA hov hbX hkX hM hmx had h9 hR
  rw [hX] at x0 x9
  rw [hbx] at x0
  go_enter Tryz.func102, Tryz.ntmps102
  go_wp2_with fail
  rw [← hX, ← hbx]
  clear x0 x9 hX hbx
  go_loopg [16] M (fun f i wr => ∃ (k : Nat) (ds : List Int), f = M - k ∧ k ≤ M ∧ i = .int .i64 (k : Int) ∧ Hid (R = opnI ov now was askNW ys (M - k) k ds ∧ WaysM A wr ls gS gW ys ds ∧ FrP (fun b => 0 < M ∧ b = gW) bn X wr ∧ wr.heap[bn]? = X.heap[bn]?))
  case atStart => exact ⟨0, cs, by omega, by omega, rfl, HR.out, HW0.out, FrP.refl _ _ _, rfl⟩
  case round =>
    obtain ⟨k, ds, rfl, hk, rfl, hr⟩ := hrel
    obtain ⟨hr1, hr2, hr3, hr4⟩ := hr.out
    by_cases hlt : k < M
    · obtain ⟨y, hy⟩ : ∃ y, ys[k]? = some y := ⟨ys[k]'(by rw [← HM.out]; exact hlt), by rw [List.getElem?_eq_getElem]⟩
      obtain ⟨c, hc⟩ : ∃ c, ds[k]? = some c := ⟨ds[k]'(by rw [hr2.1, ← HM.out]; exact hlt), by rw [List.getElem?_eq_getElem]⟩
      have hcd : ds.getD k 0 = c := by rw [List.getD_eq_getElem?_getD, hc]; rfl
      have hwm := hr2.2 k y c hy hc
      have hop := opnI_at (now := now) (was := was) (ov := ov) (ask := askNW) (f := M - (k + 1)) (cs := ds) hy
      rw [show M - (k + 1) + 1 = M - k by omega, hcd, ← hr1] at hop
      obtain ⟨z0, z9⟩ := HBX.out wr hr3
      have hix := ixY ad gW M cap k hlt HAD.out
      obtain ⟨⟨p, q, y0, y1, _⟩, _⟩ := hwm
      have hask := HF.out wr gW (k * 9) y y0 y1
      have hrv := HV.out wr hr3 hr4
      have hio := isOpen_any (bx := bx) (hr2.2 k y c hy hc) (HNU.out y (List.mem_of_getElem? hy)) hrv (fun W hW => HOV.out W (hr3.trans (FrP.of_below hW)))
      have HG : Hid (WaysM A wr ls gS gW ys ds ∧ FrP (fun b => 0 < M ∧ b = gW) bn X wr ∧ wr.heap[bn]? = X.heap[bn]? ∧ RunV wr rb bn bw m ns now was) := ⟨hr2, hr3, hr4, hrv⟩
      obtain ⟨tm, htm⟩ : ∃ tm : Int, tm = (y.times : Int) := ⟨_, rfl⟩
      rw [← htm] at hop hio
      unfold ovV at hio
      unfold OpenTo at hio
      have HNK : Hid (∀ W, Below wr.heap.size wr W → WaysM A W ls gS gW ys ds ∧ FrP (fun b => 0 < M ∧ b = gW) bn X W ∧ W.heap[bn]? = X.heap[bn]?) := fun W hW =>
        ⟨hr2.keep (fun b _ hl => hW.block b hl) (fun _ => hW.block gW (Nat.lt_of_lt_of_le (HNE.out (by omega)).2.2.2.2 (Nat.le_trans HB0.out.size hr3.size))), hr3.trans (FrP.of_below hW), by rw [hW.block bn hrv.mn.lt]; exact hr4⟩
      have HPUT : Hid (∀ W nq, Below wr.heap.size wr W → WaysM A ((W.setCell ⟨gW, k * 9 + 8, none⟩ (.int .i64 (wrap64 (c + 1)))).drewN nq) ls gS gW ys (ds.set k (wrap64 (c + 1))) ∧ FrP (fun b => 0 < M ∧ b = gW) bn X ((W.setCell ⟨gW, k * 9 + 8, none⟩ (.int .i64 (wrap64 (c + 1)))).drewN nq) ∧ ((W.setCell ⟨gW, k * 9 + 8, none⟩ (.int .i64 (wrap64 (c + 1)))).drewN nq).heap[bn]? = X.heap[bn]?) := fun W nq hW => by
        obtain ⟨a1, a2, a3⟩ := HNK.out W hW
        refine ⟨(a1.put (k := k) (c' := wrap64 (c + 1)) (fun b hb => (HA.out b hb).2.2 (by omega))).keep (fun _ _ _ => rfl) (fun _ => rfl), ?_, ?_⟩
        · exact (a2.setCell (p := ⟨gW, k * 9 + 8, none⟩) ⟨by omega, rfl⟩ _).trans ⟨rfl, rfl, rfl, Nat.le_refl _, fun _ _ _ _ => rfl⟩
        · show (W.setCell ⟨gW, k * 9 + 8, none⟩ _).heap[bn]? = _
          rw [Below.heap_setCell _ _ _ _ (fun e => (HNE.out (by omega)).2.1 e.symm)]; exact a3
      clear hr hr1 hr2 hr3 hr4 hy hc hcd hrv htm
      cases hak : askNW y with
      | false =>
        rw [hak] at hask hop
        rw [Bool.false_and, if_neg (by simp)] at hop
        have HOP : Hid (R = opnI ov now was askNW ys (M - (k + 1)) (k + 1) ds) := hop
        clear hop hak hio HNK HPUT
        go_wp2_with (refine hask.mono ?_; rintro e w' ⟨rfl, hw'⟩; obtain rfl := hw'.symm)
        go_roundg (M - (k + 1))
        case measure => omega
        case rel => exact ⟨k + 1, ds, rfl, by omega, by go_num, HOP.out, HG.out.1, HG.out.2.1, HG.out.2.2.1⟩
      | true =>
        rw [hak] at hask hop
        rw [Bool.true_and] at hop
        cases hso : isSo ov now was y with
        | false =>
          rw [hso] at hio hop
          rw [if_neg (by simp)] at hop
          have HOP : Hid (R = opnI ov now was askNW ys (M - (k + 1)) (k + 1) ds) := hop
          clear hop hak hso HPUT
          go_wp2_with (first
            | (go_at_call 127; refine hio.mono ?_; rintro e w1 ⟨W, nq, hB, ⟨-, rfl, hw1⟩ | ⟨hn, -⟩⟩; rotate_left; (· exact absurd hn (by simp)); obtain rfl := hw1.symm)
            | (refine hask.mono ?_; rintro e w' ⟨rfl, hw'⟩; obtain rfl := hw'.symm))
          go_roundg (M - (k + 1))
          case measure => omega
          case rel => obtain ⟨a1, a2, a3⟩ := HNK.out W hB.out; exact ⟨k + 1, ds, rfl, by omega, by go_num, HOP.out, a1, a2, a3⟩
        | true =>
          rw [hso] at hio hop
          rw [if_pos rfl] at hop
          by_cases htt : tm ≤ wrap64 (c + 1)
          · rw [if_pos htt] at hop
            have HOP : Hid (R = (some k, ds.set k (wrap64 (c + 1)))) := hop
            rw [show decide (tm ≤ wrap64 (c + 1)) = true from decide_eq_true htt] at hio
            clear hop hak hso HNK htt
            go_wp2_with (first
              | (go_at_call 127; refine hio.mono ?_; rintro e w1 ⟨W, nq, hB, ⟨hn, -⟩ | ⟨-, rfl, hw1⟩⟩; (· exact absurd hn (by simp)))
              | (refine hask.mono ?_; rintro e w' ⟨rfl, hw'⟩; obtain rfl := hw'.symm))
            go_ret
            obtain ⟨a1, a2, a3⟩ := HPUT.out W nq hB.out
            exact ⟨by rw [HOP.out]; rfl, by rw [HOP.out]; exact a1, (FrP.of_below HB0.out).trans a2, HV.out _ a2 a3⟩
          · rw [if_neg htt] at hop
            have HOP : Hid (R = opnI ov now was askNW ys (M - (k + 1)) (k + 1) (ds.set k (wrap64 (c + 1)))) := hop
            rw [show decide (tm ≤ wrap64 (c + 1)) = false from decide_eq_false htt] at hio
            clear hop hak hso HNK htt
            go_wp2_with (first
              | (go_at_call 127; refine hio.mono ?_; rintro e w1 ⟨W, nq, hB, ⟨hn, -⟩ | ⟨-, rfl, hw1⟩⟩; (· exact absurd hn (by simp)))
              | (refine hask.mono ?_; rintro e w' ⟨rfl, hw'⟩; obtain rfl := hw'.symm))
            go_roundg (M - (k + 1))
            case measure => omega
            case rel =>
              obtain ⟨a1, a2, a3⟩ := HPUT.out W nq hB.out
              exact ⟨k + 1, _, rfl, by omega, by go_num, HOP.out, a1, a2, a3⟩
    · obtain rfl : k = M := by omega
      rw [Nat.sub_self, opnI] at hr1
      have HFIN : Hid (R = (none, ds) ∧ WaysM A wr ls gS gW ys ds ∧ FrP (fun b => 0 < k ∧ b = gW) bn w wr ∧ RunV wr rb bn bw m ns now was) := ⟨hr1, hr2, (FrP.of_below HB0.out).trans hr3, HV.out wr hr3 hr4⟩
      clear hr hr1 hr2 hr3 hr4
      go_wp2_with fail
      go_ret
      exact ⟨by rw [HFIN.out.1]; rfl, by rw [HFIN.out.1]; exact HFIN.out.2.1, HFIN.out.2.2⟩
end
end Go.Proofs.YtiihgnagjemikaaGreatDoor
/- The runner's look at ways: the first one that is open, of those that are asked: strong. -/
namespace Go.Proofs.YtiihgnagjemikaaGreatDoor
open Go.RowKit Px
section
variable {A : Nat → Prop} {w w' : World} {rb bn bw m : Nat} {ns ls : List Str} {now was : Px.Env}
set_option maxRecDepth 100000 in
set_option maxHeartbeats 8000000 in
theorem open_S {gS gW o M cap : Nat} {ad : Option Addr} {ys : List Wy} {cs : List Int} {ov : Bool}
    (hF : ∀ (W : World) (g o : Nat) (y : Wy), W.cell? ⟨g, o, none⟩ = some (.int .i64 (y.kind : Int)) → W.cell? ⟨g, o + 1, none⟩ = some (.bool y.now) → Calls Tryz.prog 105 #[.pointer (some ⟨g, o, none⟩)] W fun e w' => e = .returned (.bool (askS y)) ∧ w' = W)
    (h9 : w.cell? ⟨gS, o + 9, none⟩ = some (.slice ad M cap)) (hM : M = ys.length) (hmx : M ≤ maxLen) (had : 0 < M → ad = some ⟨gW, 0, none⟩) (hW : WaysM A w ls gS gW ys cs) (hNu : ∀ y ∈ ys, NuOk y.cond) (h : RunV w rb bn bw m ns now was)
    (hne : 0 < M → gW ≠ rb ∧ gW ≠ bn ∧ gW ≠ bw ∧ gW ≠ gS ∧ gW < w.heap.size) (hsn : gS ≠ bn) (hrn : rb ≠ bn) (hwn : bw ≠ bn) (hA : ∀ b, A b → b < w.heap.size ∧ b ≠ bn ∧ (0 < M → b ≠ gW))
    (hov : ∀ (bx : Nat) (W : World), FrP (fun b => 0 < M ∧ b = gW) bn w W → W.cell? ⟨bx, 0, none⟩ = some (.pointer (some ⟨gS, o, none⟩)) → Calls Tryz.prog 126 #[.pointer (some ⟨bx, 0, none⟩)] W fun e w' => e = .returned (.bool ov) ∧ w' = W) :
    Calls Tryz.prog 102 #[.pointer (some ⟨rb, 0, none⟩), .pointer (some ⟨gS, o, none⟩), .func (.func 105) #[] #[]] w fun e w' => e = .returned (wP gW (opnW ov now was askS ys cs).1) ∧ Hid (WaysM A w' ls gS gW ys (opnW ov now was askS ys cs).2 ∧ FrP (fun b => 0 < M ∧ b = gW) bn w w' ∧ RunV w' rb bn bw m ns now was) := by
  have hmf : ∀ (fn : Fn) (first cap : Array Value) (w : World), (Instr.makeFunc fn first cap).run Tryz.prog w = .ok (.func fn first cap) w := fun _ _ _ _ => rfl
  have hN6 : (M : Int) ≤ 9223372036854775807 := by unfold maxLen at hmx; omega
  obtain ⟨X, hX⟩ : ∃ X, X = w.alloc (.cells #[.pointer (some ⟨gS, o, none⟩)] 99) := ⟨_, rfl⟩
  obtain ⟨bx, hbx⟩ : ∃ bx, bx = w.heap.size := ⟨_, rfl⟩
  have hbX : Below w.heap.size w X := by rw [hX]; exact ck_grown _ _
  have hkX : X.heap[bx]? = some (.cells #[.pointer (some ⟨gS, o, none⟩)] 99 (0, 0)) := by rw [hX, hbx]; exact ck_new _ _
  have HBX : Hid (∀ W, FrP (fun b => 0 < M ∧ b = gW) bn X W → W.cell? ⟨bx, 0, none⟩ = some (.pointer (some ⟨gS, o, none⟩)) ∧ W.cell? ⟨gS, o + 9, none⟩ = some (.slice ad M cap)) := fun W hW => by
    have hbl := h.mn.lt
    refine ⟨hW.cell (cell_row hkX 0 rfl) (fun e => by have := (hne e.1).2.2.2.2; have := e.2; simp only at this; omega) (by show bx ≠ bn; omega), hW.cell (ck_cell hbX h9) (fun e => (hne e.1).2.2.2.1 e.2.symm) hsn⟩
  have HV : Hid (∀ W, FrP (fun b => 0 < M ∧ b = gW) bn X W → W.heap[bn]? = X.heap[bn]? → RunV W rb bn bw m ns now was) := fun W hW hb => by
    have h1 := h.below hbX
    exact h1.fr hW ⟨fun e => (hne e.1).1 e.2.symm, hrn⟩ ⟨fun e => (hne e.1).2.2.1 e.2.symm, hwn⟩ (h1.mn.keep hb)
  have HW0 : Hid (WaysM A X ls gS gW ys cs) := hW.keep (fun b _ hlt => hbX.block b hlt) (fun hp => hbX.block gW (hne (by omega)).2.2.2.2)
  have HA : Hid (∀ b, A b → b < w.heap.size ∧ b ≠ bn ∧ (0 < M → b ≠ gW)) := hA
  have HF : Hid (∀ (W : World) (g o : Nat) (y : Wy), W.cell? ⟨g, o, none⟩ = some (.int .i64 (y.kind : Int)) → W.cell? ⟨g, o + 1, none⟩ = some (.bool y.now) → Calls Tryz.prog 105 #[.pointer (some ⟨g, o, none⟩)] W fun e w' => e = .returned (.bool (askS y)) ∧ w' = W) := hF
  have HOV : Hid (∀ W, FrP (fun b => 0 < M ∧ b = gW) bn X W → Calls Tryz.prog 126 #[.pointer (some ⟨bx, 0, none⟩)] W fun e w' => e = .returned (.bool ov) ∧ w' = W) := fun W hW => hov bx W ((FrP.of_below hbX).trans hW) (HBX.out W hW).1
  have HNE : Hid (0 < M → gW ≠ rb ∧ gW ≠ bn ∧ gW ≠ bw ∧ gW ≠ gS ∧ gW < w.heap.size) := hne
  have HNU : Hid (∀ y ∈ ys, NuOk y.cond) := hNu
  have HAD : Hid (0 < M → ad = some ⟨gW, 0, none⟩) := had
  have HM : Hid (M = ys.length) := hM
  have HB0 : Hid (Below w.heap.size w X) := hbX
  obtain ⟨x0, x9⟩ := HBX.out X (FrP.refl _ _ _)
  obtain ⟨R, hR⟩ : ∃ R, R = opnW ov now was askS ys cs := ⟨_, rfl⟩
  have HR : Hid (R = opnI ov now was askS ys M 0 cs) := by rw [Hid, hR, opnW, hM]
  rw [← hR]
  clear hF hW hNu h hne hsn hrn hwn hA hov hbX hkX hM hmx had h9 hR
  rw [hX] at x0 x9
  rw [hbx] at x0
  go_enter Tryz.func102, Tryz.ntmps102
  go_wp2_with fail
  rw [← hX, ← hbx]
  clear x0 x9 hX hbx
  go_loopg [16] M (fun f i wr => ∃ (k : Nat) (ds : List Int), f = M - k ∧ k ≤ M ∧ i = .int .i64 (k : Int) ∧ Hid (R = opnI ov now was askS ys (M - k) k ds ∧ WaysM A wr ls gS gW ys ds ∧ FrP (fun b => 0 < M ∧ b = gW) bn X wr ∧ wr.heap[bn]? = X.heap[bn]?))
  case atStart => exact ⟨0, cs, by omega, by omega, rfl, HR.out, HW0.out, FrP.refl _ _ _, rfl⟩
  case round =>
    obtain ⟨k, ds, rfl, hk, rfl, hr⟩ := hrel
    obtain ⟨hr1, hr2, hr3, hr4⟩ := hr.out
    by_cases hlt : k < M
    · obtain ⟨y, hy⟩ : ∃ y, ys[k]? = some y := ⟨ys[k]'(by rw [← HM.out]; exact hlt), by rw [List.getElem?_eq_getElem]⟩
      obtain ⟨c, hc⟩ : ∃ c, ds[k]? = some c := ⟨ds[k]'(by rw [hr2.1, ← HM.out]; exact hlt), by rw [List.getElem?_eq_getElem]⟩
      have hcd : ds.getD k 0 = c := by rw [List.getD_eq_getElem?_getD, hc]; rfl
      have hwm := hr2.2 k y c hy hc
      have hop := opnI_at (now := now) (was := was) (ov := ov) (ask := askS) (f := M - (k + 1)) (cs := ds) hy
      rw [show M - (k + 1) + 1 = M - k by omega, hcd, ← hr1] at hop
      obtain ⟨z0, z9⟩ := HBX.out wr hr3
      have hix := ixY ad gW M cap k hlt HAD.out
      obtain ⟨⟨p, q, y0, y1, _⟩, _⟩ := hwm
      have hask := HF.out wr gW (k * 9) y y0 y1
      have hrv := HV.out wr hr3 hr4
      have hio := isOpen_any (bx := bx) (hr2.2 k y c hy hc) (HNU.out y (List.mem_of_getElem? hy)) hrv (fun W hW => HOV.out W (hr3.trans (FrP.of_below hW)))
      have HG : Hid (WaysM A wr ls gS gW ys ds ∧ FrP (fun b => 0 < M ∧ b = gW) bn X wr ∧ wr.heap[bn]? = X.heap[bn]? ∧ RunV wr rb bn bw m ns now was) := ⟨hr2, hr3, hr4, hrv⟩
      obtain ⟨tm, htm⟩ : ∃ tm : Int, tm = (y.times : Int) := ⟨_, rfl⟩
      rw [← htm] at hop hio
      unfold ovV at hio
      unfold OpenTo at hio
      have HNK : Hid (∀ W, Below wr.heap.size wr W → WaysM A W ls gS gW ys ds ∧ FrP (fun b => 0 < M ∧ b = gW) bn X W ∧ W.heap[bn]? = X.heap[bn]?) := fun W hW =>
        ⟨hr2.keep (fun b _ hl => hW.block b hl) (fun _ => hW.block gW (Nat.lt_of_lt_of_le (HNE.out (by omega)).2.2.2.2 (Nat.le_trans HB0.out.size hr3.size))), hr3.trans (FrP.of_below hW), by rw [hW.block bn hrv.mn.lt]; exact hr4⟩
      have HPUT : Hid (∀ W nq, Below wr.heap.size wr W → WaysM A ((W.setCell ⟨gW, k * 9 + 8, none⟩ (.int .i64 (wrap64 (c + 1)))).drewN nq) ls gS gW ys (ds.set k (wrap64 (c + 1))) ∧ FrP (fun b => 0 < M ∧ b = gW) bn X ((W.setCell ⟨gW, k * 9 + 8, none⟩ (.int .i64 (wrap64 (c + 1)))).drewN nq) ∧ ((W.setCell ⟨gW, k * 9 + 8, none⟩ (.int .i64 (wrap64 (c + 1)))).drewN nq).heap[bn]? = X.heap[bn]?) := fun W nq hW => by
        obtain ⟨a1, a2, a3⟩ := HNK.out W hW
        refine ⟨(a1.put (k := k) (c' := wrap64 (c + 1)) (fun b hb => (HA.out b hb).2.2 (by omega))).keep (fun _ _ _ => rfl) (fun _ => rfl), ?_, ?_⟩
        · exact (a2.setCell (p := ⟨gW, k * 9 + 8, none⟩) ⟨by omega, rfl⟩ _).trans ⟨rfl, rfl, rfl, Nat.le_refl _, fun _ _ _ _ => rfl⟩
        · show (W.setCell ⟨gW, k * 9 + 8, none⟩ _).heap[bn]? = _
          rw [Below.heap_setCell _ _ _ _ (fun e => (HNE.out (by omega)).2.1 e.symm)]; exact a3
      clear hr hr1 hr2 hr3 hr4 hy hc hcd hrv htm
      cases hak : askS y with
      | false =>
        rw [hak] at hask hop
        rw [Bool.false_and, if_neg (by simp)] at hop
        have HOP : Hid (R = opnI ov now was askS ys (M - (k + 1)) (k + 1) ds) := hop
        clear hop hak hio HNK HPUT
        go_wp2_with (refine hask.mono ?_; rintro e w' ⟨rfl, hw'⟩; obtain rfl := hw'.symm)
        go_roundg (M - (k + 1))
        case measure => omega
        case rel => exact ⟨k + 1, ds, rfl, by omega, by go_num, HOP.out, HG.out.1, HG.out.2.1, HG.out.2.2.1⟩
      | true =>
        rw [hak] at hask hop
        rw [Bool.true_and] at hop
        cases hso : isSo ov now was y with
        | false =>
          rw [hso] at hio hop
          rw [if_neg (by simp)] at hop
          have HOP : Hid (R = opnI ov now was askS ys (M - (k + 1)) (k + 1) ds) := hop
          clear hop hak hso HPUT
          go_wp2_with (first
            | (go_at_call 127; refine hio.mono ?_; rintro e w1 ⟨W, nq, hB, ⟨-, rfl, hw1⟩ | ⟨hn, -⟩⟩; rotate_left; (· exact absurd hn (by simp)); obtain rfl := hw1.symm)
            | (refine hask.mono ?_; rintro e w' ⟨rfl, hw'⟩; obtain rfl := hw'.symm))
          go_roundg (M - (k + 1))
          case measure => omega
          case rel => obtain ⟨a1, a2, a3⟩ := HNK.out W hB.out; exact ⟨k + 1, ds, rfl, by omega, by go_num, HOP.out, a1, a2, a3⟩
        | true =>
          rw [hso] at hio hop
          rw [if_pos rfl] at hop
          by_cases htt : tm ≤ wrap64 (c + 1)
          · rw [if_pos htt] at hop
            have HOP : Hid (R = (some k, ds.set k (wrap64 (c + 1)))) := hop
            rw [show decide (tm ≤ wrap64 (c + 1)) = true from decide_eq_true htt] at hio
            clear hop hak hso HNK htt
            go_wp2_with (first
              | (go_at_call 127; refine hio.mono ?_; rintro e w1 ⟨W, nq, hB, ⟨hn, -⟩ | ⟨-, rfl, hw1⟩⟩; (· exact absurd hn (by simp)))
              | (refine hask.mono ?_; rintro e w' ⟨rfl, hw'⟩; obtain rfl := hw'.symm))
            go_ret
            obtain ⟨a1, a2, a3⟩ := HPUT.out W nq hB.out
            exact ⟨by rw [HOP.out]; rfl, by rw [HOP.out]; exact a1, (FrP.of_below HB0.out).trans a2, HV.out _ a2 a3⟩
          · rw [if_neg htt] at hop
            have HOP : Hid (R = opnI ov now was askS ys (M - (k + 1)) (k + 1) (ds.set k (wrap64 (c + 1)))) := hop
            rw [show decide (tm ≤ wrap64 (c + 1)) = false from decide_eq_false htt] at hio
            clear hop hak hso HNK htt
            go_wp2_with (first
              | (go_at_call 127; refine hio.mono ?_; rintro e w1 ⟨W, nq, hB, ⟨hn, -⟩ | ⟨-, rfl, hw1⟩⟩; (· exact absurd hn (by simp)))
              | (refine hask.mono ?_; rintro e w' ⟨rfl, hw'⟩; obtain rfl := hw'.symm))
            go_roundg (M - (k + 1))
            case measure => omega
            case rel =>
              obtain ⟨a1, a2, a3⟩ := HPUT.out W nq hB.out
              exact ⟨k + 1, _, rfl, by omega, by go_num, HOP.out, a1, a2, a3⟩
    · obtain rfl : k = M := by omega
      rw [Nat.sub_self, opnI] at hr1
      have HFIN : Hid (R = (none, ds) ∧ WaysM A wr ls gS gW ys ds ∧ FrP (fun b => 0 < k ∧ b = gW) bn w wr ∧ RunV wr rb bn bw m ns now was) := ⟨hr1, hr2, (FrP.of_below HB0.out).trans hr3, HV.out wr hr3 hr4⟩
      clear hr hr1 hr2 hr3 hr4
      go_wp2_with fail
      go_ret
      exact ⟨by rw [HFIN.out.1]; rfl, by rw [HFIN.out.1]; exact HFIN.out.2.1, HFIN.out.2.2⟩
end
end Go.Proofs.YtiihgnagjemikaaGreatDoor
/- The runner's look at ways: the first one that is open, of those that are asked: others. -/
namespace Go.Proofs.YtiihgnagjemikaaGreatDoor
open Go.RowKit Px
section
variable {A : Nat → Prop} {w w' : World} {rb bn bw m : Nat} {ns ls : List Str} {now was : Px.Env}
set_option maxRecDepth 100000 in
set_option maxHeartbeats 8000000 in
theorem open_W {gS gW o M cap : Nat} {ad : Option Addr} {ys : List Wy} {cs : List Int} {ov : Bool}
    (hF : ∀ (W : World) (g o : Nat) (y : Wy), W.cell? ⟨g, o, none⟩ = some (.int .i64 (y.kind : Int)) → W.cell? ⟨g, o + 1, none⟩ = some (.bool y.now) → Calls Tryz.prog 107 #[.pointer (some ⟨g, o, none⟩)] W fun e w' => e = .returned (.bool (askW y)) ∧ w' = W)
    (h9 : w.cell? ⟨gS, o + 9, none⟩ = some (.slice ad M cap)) (hM : M = ys.length) (hmx : M ≤ maxLen) (had : 0 < M → ad = some ⟨gW, 0, none⟩) (hW : WaysM A w ls gS gW ys cs) (hNu : ∀ y ∈ ys, NuOk y.cond) (h : RunV w rb bn bw m ns now was)
    (hne : 0 < M → gW ≠ rb ∧ gW ≠ bn ∧ gW ≠ bw ∧ gW ≠ gS ∧ gW < w.heap.size) (hsn : gS ≠ bn) (hrn : rb ≠ bn) (hwn : bw ≠ bn) (hA : ∀ b, A b → b < w.heap.size ∧ b ≠ bn ∧ (0 < M → b ≠ gW))
    (hov : ∀ (bx : Nat) (W : World), FrP (fun b => 0 < M ∧ b = gW) bn w W → W.cell? ⟨bx, 0, none⟩ = some (.pointer (some ⟨gS, o, none⟩)) → Calls Tryz.prog 126 #[.pointer (some ⟨bx, 0, none⟩)] W fun e w' => e = .returned (.bool ov) ∧ w' = W) :
    Calls Tryz.prog 102 #[.pointer (some ⟨rb, 0, none⟩), .pointer (some ⟨gS, o, none⟩), .func (.func 107) #[] #[]] w fun e w' => e = .returned (wP gW (opnW ov now was askW ys cs).1) ∧ Hid (WaysM A w' ls gS gW ys (opnW ov now was askW ys cs).2 ∧ FrP (fun b => 0 < M ∧ b = gW) bn w w' ∧ RunV w' rb bn bw m ns now was) := by
  have hmf : ∀ (fn : Fn) (first cap : Array Value) (w : World), (Instr.makeFunc fn first cap).run Tryz.prog w = .ok (.func fn first cap) w := fun _ _ _ _ => rfl
  have hN6 : (M : Int) ≤ 9223372036854775807 := by unfold maxLen at hmx; omega
  obtain ⟨X, hX⟩ : ∃ X, X = w.alloc (.cells #[.pointer (some ⟨gS, o, none⟩)] 99) := ⟨_, rfl⟩
  obtain ⟨bx, hbx⟩ : ∃ bx, bx = w.heap.size := ⟨_, rfl⟩
  have hbX : Below w.heap.size w X := by rw [hX]; exact ck_grown _ _
  have hkX : X.heap[bx]? = some (.cells #[.pointer (some ⟨gS, o, none⟩)] 99 (0, 0)) := by rw [hX, hbx]; exact ck_new _ _
  have HBX : Hid (∀ W, FrP (fun b => 0 < M ∧ b = gW) bn X W → W.cell? ⟨bx, 0, none⟩ = some (.pointer (some ⟨gS, o, none⟩)) ∧ W.cell? ⟨gS, o + 9, none⟩ = some (.slice ad M cap)) := fun W hW => by
    have hbl := h.mn.lt
    refine ⟨hW.cell (cell_row hkX 0 rfl) (fun e => by have := (hne e.1).2.2.2.2; have := e.2; simp only at this; omega) (by show bx ≠ bn; omega), hW.cell (ck_cell hbX h9) (fun e => (hne e.1).2.2.2.1 e.2.symm) hsn⟩
  have HV : Hid (∀ W, FrP (fun b => 0 < M ∧ b = gW) bn X W → W.heap[bn]? = X.heap[bn]? → RunV W rb bn bw m ns now was) := fun W hW hb => by
    have h1 := h.below hbX
    exact h1.fr hW ⟨fun e => (hne e.1).1 e.2.symm, hrn⟩ ⟨fun e => (hne e.1).2.2.1 e.2.symm, hwn⟩ (h1.mn.keep hb)
  have HW0 : Hid (WaysM A X ls gS gW ys cs) := hW.keep (fun b _ hlt => hbX.block b hlt) (fun hp => hbX.block gW (hne (by omega)).2.2.2.2)
  have HA : Hid (∀ b, A b → b < w.heap.size ∧ b ≠ bn ∧ (0 < M → b ≠ gW)) := hA
  have HF : Hid (∀ (W : World) (g o : Nat) (y : Wy), W.cell? ⟨g, o, none⟩ = some (.int .i64 (y.kind : Int)) → W.cell? ⟨g, o + 1, none⟩ = some (.bool y.now) → Calls Tryz.prog 107 #[.pointer (some ⟨g, o, none⟩)] W fun e w' => e = .returned (.bool (askW y)) ∧ w' = W) := hF
  have HOV : Hid (∀ W, FrP (fun b => 0 < M ∧ b = gW) bn X W → Calls Tryz.prog 126 #[.pointer (some ⟨bx, 0, none⟩)] W fun e w' => e = .returned (.bool ov) ∧ w' = W) := fun W hW => hov bx W ((FrP.of_below hbX).trans hW) (HBX.out W hW).1
  have HNE : Hid (0 < M → gW ≠ rb ∧ gW ≠ bn ∧ gW ≠ bw ∧ gW ≠ gS ∧ gW < w.heap.size) := hne
  have HNU : Hid (∀ y ∈ ys, NuOk y.cond) := hNu
  have HAD : Hid (0 < M → ad = some ⟨gW, 0, none⟩) := had
  have HM : Hid (M = ys.length) := hM
  have HB0 : Hid (Below w.heap.size w X) := hbX
  obtain ⟨x0, x9⟩ := HBX.out X (FrP.refl _ _ _)
  obtain ⟨R, hR⟩ : ∃ R, R = opnW ov now was askW ys cs := ⟨_, rfl⟩
  have HR : Hid (R = opnI ov now was askW ys M 0 cs) := by rw [Hid, hR, opnW, hM]
  rw [← hR]
  clear hF hW hNu h hne hsn hrn hwn hA hov hbX hkX hM hmx had h9 hR
  rw [hX] at x0 x9
  rw [hbx] at x0
  go_enter Tryz.func102, Tryz.ntmps102
  go_wp2_with fail
  rw [← hX, ← hbx]
  clear x0 x9 hX hbx
  go_loopg [16] M (fun f i wr => ∃ (k : Nat) (ds : List Int), f = M - k ∧ k ≤ M ∧ i = .int .i64 (k : Int) ∧ Hid (R = opnI ov now was askW ys (M - k) k ds ∧ WaysM A wr ls gS gW ys ds ∧ FrP (fun b => 0 < M ∧ b = gW) bn X wr ∧ wr.heap[bn]? = X.heap[bn]?))
  case atStart => exact ⟨0, cs, by omega, by omega, rfl, HR.out, HW0.out, FrP.refl _ _ _, rfl⟩
  case round =>
    obtain ⟨k, ds, rfl, hk, rfl, hr⟩ := hrel
    obtain ⟨hr1, hr2, hr3, hr4⟩ := hr.out
    by_cases hlt : k < M
    · obtain ⟨y, hy⟩ : ∃ y, ys[k]? = some y := ⟨ys[k]'(by rw [← HM.out]; exact hlt), by rw [List.getElem?_eq_getElem]⟩
      obtain ⟨c, hc⟩ : ∃ c, ds[k]? = some c := ⟨ds[k]'(by rw [hr2.1, ← HM.out]; exact hlt), by rw [List.getElem?_eq_getElem]⟩
      have hcd : ds.getD k 0 = c := by rw [List.getD_eq_getElem?_getD, hc]; rfl
      have hwm := hr2.2 k y c hy hc
      have hop := opnI_at (now := now) (was := was) (ov := ov) (ask := askW) (f := M - (k + 1)) (cs := ds) hy
      rw [show M - (k + 1) + 1 = M - k by omega, hcd, ← hr1] at hop
      obtain ⟨z0, z9⟩ := HBX.out wr hr3
      have hix := ixY ad gW M cap k hlt HAD.out
      obtain ⟨⟨p, q, y0, y1, _⟩, _⟩ := hwm
      have hask := HF.out wr gW (k * 9) y y0 y1
      have hrv := HV.out wr hr3 hr4
      have hio := isOpen_any (bx := bx) (hr2.2 k y c hy hc) (HNU.out y (List.mem_of_getElem? hy)) hrv (fun W hW => HOV.out W (hr3.trans (FrP.of_below hW)))
      have HG : Hid (WaysM A wr ls gS gW ys ds ∧ FrP (fun b => 0 < M ∧ b = gW) bn X wr ∧ wr.heap[bn]? = X.heap[bn]? ∧ RunV wr rb bn bw m ns now was) := ⟨hr2, hr3, hr4, hrv⟩
      obtain ⟨tm, htm⟩ : ∃ tm : Int, tm = (y.times : Int) := ⟨_, rfl⟩
      rw [← htm] at hop hio
      unfold ovV at hio
      unfold OpenTo at hio
      have HNK : Hid (∀ W, Below wr.heap.size wr W → WaysM A W ls gS gW ys ds ∧ FrP (fun b => 0 < M ∧ b = gW) bn X W ∧ W.heap[bn]? = X.heap[bn]?) := fun W hW =>
        ⟨hr2.keep (fun b _ hl => hW.block b hl) (fun _ => hW.block gW (Nat.lt_of_lt_of_le (HNE.out (by omega)).2.2.2.2 (Nat.le_trans HB0.out.size hr3.size))), hr3.trans (FrP.of_below hW), by rw [hW.block bn hrv.mn.lt]; exact hr4⟩
      have HPUT : Hid (∀ W nq, Below wr.heap.size wr W → WaysM A ((W.setCell ⟨gW, k * 9 + 8, none⟩ (.int .i64 (wrap64 (c + 1)))).drewN nq) ls gS gW ys (ds.set k (wrap64 (c + 1))) ∧ FrP (fun b => 0 < M ∧ b = gW) bn X ((W.setCell ⟨gW, k * 9 + 8, none⟩ (.int .i64 (wrap64 (c + 1)))).drewN nq) ∧ ((W.setCell ⟨gW, k * 9 + 8, none⟩ (.int .i64 (wrap64 (c + 1)))).drewN nq).heap[bn]? = X.heap[bn]?) := fun W nq hW => by
        obtain ⟨a1, a2, a3⟩ := HNK.out W hW
        refine ⟨(a1.put (k := k) (c' := wrap64 (c + 1)) (fun b hb => (HA.out b hb).2.2 (by omega))).keep (fun _ _ _ => rfl) (fun _ => rfl), ?_, ?_⟩
        · exact (a2.setCell (p := ⟨gW, k * 9 + 8, none⟩) ⟨by omega, rfl⟩ _).trans ⟨rfl, rfl, rfl, Nat.le_refl _, fun _ _ _ _ => rfl⟩
        · show (W.setCell ⟨gW, k * 9 + 8, none⟩ _).heap[bn]? = _
          rw [Below.heap_setCell _ _ _ _ (fun e => (HNE.out (by omega)).2.1 e.symm)]; exact a3
      clear hr hr1 hr2 hr3 hr4 hy hc hcd hrv htm
      cases hak : askW y with
      | false =>
        rw [hak] at hask hop
        rw [Bool.false_and, if_neg (by simp)] at hop
        have HOP : Hid (R = opnI ov now was askW ys (M - (k + 1)) (k + 1) ds) := hop
        clear hop hak hio HNK HPUT
        go_wp2_with (refine hask.mono ?_; rintro e w' ⟨rfl, hw'⟩; obtain rfl := hw'.symm)
        go_roundg (M - (k + 1))
        case measure => omega
        case rel => exact ⟨k + 1, ds, rfl, by omega, by go_num, HOP.out, HG.out.1, HG.out.2.1, HG.out.2.2.1⟩
      | true =>
        rw [hak] at hask hop
        rw [Bool.true_and] at hop
        cases hso : isSo ov now was y with
        | false =>
          rw [hso] at hio hop
          rw [if_neg (by simp)] at hop
          have HOP : Hid (R = opnI ov now was askW ys (M - (k + 1)) (k + 1) ds) := hop
          clear hop hak hso HPUT
          go_wp2_with (first
            | (go_at_call 127; refine hio.mono ?_; rintro e w1 ⟨W, nq, hB, ⟨-, rfl, hw1⟩ | ⟨hn, -⟩⟩; rotate_left; (· exact absurd hn (by simp)); obtain rfl := hw1.symm)
            | (refine hask.mono ?_; rintro e w' ⟨rfl, hw'⟩; obtain rfl := hw'.symm))
          go_roundg (M - (k + 1))
          case measure => omega
          case rel => obtain ⟨a1, a2, a3⟩ := HNK.out W hB.out; exact ⟨k + 1, ds, rfl, by omega, by go_num, HOP.out, a1, a2, a3⟩
        | true =>
          rw [hso] at hio hop
          rw [if_pos rfl] at hop
          by_cases htt : tm ≤ wrap64 (c + 1)
          · rw [if_pos htt] at hop
            have HOP : Hid (R = (some k, ds.set k (wrap64 (c + 1)))) := hop
            rw [show decide (tm ≤ wrap64 (c + 1)) = true from decide_eq_true htt] at hio
            clear hop hak hso HNK htt
            go_wp2_with (first
              | (go_at_call 127; refine hio.mono ?_; rintro e w1 ⟨W, nq, hB, ⟨hn, -⟩ | ⟨-, rfl, hw1⟩⟩; (· exact absurd hn (by simp)))
              | (refine hask.mono ?_; rintro e w' ⟨rfl, hw'⟩; obtain rfl := hw'.symm))
            go_ret
            obtain ⟨a1, a2, a3⟩ := HPUT.out W nq hB.out
            exact ⟨by rw [HOP.out]; rfl, by rw [HOP.out]; exact a1, (FrP.of_below HB0.out).trans a2, HV.out _ a2 a3⟩
          · rw [if_neg htt] at hop
            have HOP : Hid (R = opnI ov now was askW ys (M - (k + 1)) (k + 1) (ds.set k (wrap64 (c + 1)))) := hop
            rw [show decide (tm ≤ wrap64 (c + 1)) = false from decide_eq_false htt] at hio
            clear hop hak hso HNK htt
            go_wp2_with (first
              | (go_at_call 127; refine hio.mono ?_; rintro e w1 ⟨W, nq, hB, ⟨hn, -⟩ | ⟨-, rfl, hw1⟩⟩; (· exact absurd hn (by simp)))
              | (refine hask.mono ?_; rintro e w' ⟨rfl, hw'⟩; obtain rfl := hw'.symm))
            go_roundg (M - (k + 1))
            case measure => omega
            case rel =>
              obtain ⟨a1, a2, a3⟩ := HPUT.out W nq hB.out
              exact ⟨k + 1, _, rfl, by omega, by go_num, HOP.out, a1, a2, a3⟩
    · obtain rfl : k = M := by omega
      rw [Nat.sub_self, opnI] at hr1
      have HFIN : Hid (R = (none, ds) ∧ WaysM A wr ls gS gW ys ds ∧ FrP (fun b => 0 < k ∧ b = gW) bn w wr ∧ RunV wr rb bn bw m ns now was) := ⟨hr1, hr2, (FrP.of_below HB0.out).trans hr3, HV.out wr hr3 hr4⟩
      clear hr hr1 hr2 hr3 hr4
      go_wp2_with fail
      go_ret
      exact ⟨by rw [HFIN.out.1]; rfl, by rw [HFIN.out.1]; exact HFIN.out.2.1, HFIN.out.2.2⟩
end
end Go.Proofs.YtiihgnagjemikaaGreatDoor
/- The runner's open, at a state of a region that runs. -/
namespace Go.Proofs.YtiihgnagjemikaaGreatDoor
open Go.RowKit Px

def OpenOk (F : Nat) (ask : Wy → Bool) : Prop := ∀ {A : Nat → Prop} {w : World} {rb bn bw m : Nat} {ns ls : List Str} {now was : Px.Env} {gS gW o M cap : Nat} {ad : Option Addr} {ys : List Wy} {cs : List Int} {ov : Bool},
    w.cell? ⟨gS, o + 9, none⟩ = some (.slice ad M cap) → M = ys.length → M ≤ maxLen → (0 < M → ad = some ⟨gW, 0, none⟩) → WaysM A w ls gS gW ys cs → (∀ y ∈ ys, NuOk y.cond) → RunV w rb bn bw m ns now was →
    (0 < M → gW ≠ rb ∧ gW ≠ bn ∧ gW ≠ bw ∧ gW ≠ gS ∧ gW < w.heap.size) → gS ≠ bn → rb ≠ bn → bw ≠ bn → (∀ b, A b → b < w.heap.size ∧ b ≠ bn ∧ (0 < M → b ≠ gW)) →
    (∀ (bx : Nat) (W : World), FrP (fun b => 0 < M ∧ b = gW) bn w W → W.cell? ⟨bx, 0, none⟩ = some (.pointer (some ⟨gS, o, none⟩)) → Calls Tryz.prog 126 #[.pointer (some ⟨bx, 0, none⟩)] W fun e w' => e = .returned (.bool ov) ∧ w' = W) →
    Calls Tryz.prog 102 #[.pointer (some ⟨rb, 0, none⟩), .pointer (some ⟨gS, o, none⟩), .func (.func F) #[] #[]] w fun e w' => e = .returned (wP gW (opnW ov now was ask ys cs).1) ∧ Hid (WaysM A w' ls gS gW ys (opnW ov now was ask ys cs).2 ∧ FrP (fun b => 0 < M ∧ b = gW) bn w w' ∧ RunV w' rb bn bw m ns now was)
theorem open_ok1 : OpenOk 103 askNS := fun h1 h2 h3 h4 h5 h6 h7 h8 h9 h10 h11 h12 h13 => open_NS (fun _ _ _ _ c0 c1 => askNS_any c0 c1) h1 h2 h3 h4 h5 h6 h7 h8 h9 h10 h11 h12 h13
theorem open_ok2 : OpenOk 104 askNW := fun h1 h2 h3 h4 h5 h6 h7 h8 h9 h10 h11 h12 h13 => open_NW (fun _ _ _ _ c0 c1 => askNW_any c0 c1) h1 h2 h3 h4 h5 h6 h7 h8 h9 h10 h11 h12 h13
theorem open_ok3 : OpenOk 105 askS := fun h1 h2 h3 h4 h5 h6 h7 h8 h9 h10 h11 h12 h13 => open_S (fun _ _ _ _ c0 _ => askS_any c0) h1 h2 h3 h4 h5 h6 h7 h8 h9 h10 h11 h12 h13
theorem open_ok4 : OpenOk 107 askW := fun h1 h2 h3 h4 h5 h6 h7 h8 h9 h10 h11 h12 h13 => open_W (fun _ _ _ _ c0 _ => askW_any' c0) h1 h2 h3 h4 h5 h6 h7 h8 h9 h10 h11 h12 h13
theorem overs_all {σ ρ : Type} (O : Ops σ ρ) : ∀ (rs : List (List σ)) (ds : List ρ), overs O rs ds = (List.zipWith O.over rs ds).all id := by
  intro rs
  induction rs with
  | nil => intro ds; rfl
  | cons r rs ih =>
    intro ds
    cases ds with
    | nil => rfl
    | cons d ds => rw [overs, ih]; rfl
section
variable {A P : Nat → Prop} {w w' : World} {k g rb bn bw m : Nat} {ns : List Str} {now was : Px.Env} {L : List (StF (St k))} {d : RdF (Rd k)} {l : Lie}
theorem role_ne {l : Lie} {a b : Nat} {r r' : Role} (ha : l.role a = r) (hb : l.role b = r') (h : r ≠ r') : a ≠ b := fun e => h (by rw [← ha, ← hb, e])
theorem open_at {F : Nat} {ask : Wy → Bool} (hO : OpenOk F ask) {i : Nat} {s : StF (St k)} {x : SdF (Rd k)} (h : RMem A w (RegM A k w) P L d g l) (hst : StR ns s) (hS : Sep A P w rb bn bw) (hv : RunV w rb bn bw m ns now was) (hi : L[i]? = some s) (hx : d.sts[i]? = some x) :
    Calls Tryz.prog 102 #[.pointer (some ⟨rb, 0, none⟩), .pointer (some ⟨l.gS, i * 11, none⟩), .func (.func F) #[] #[]] w fun e w' => e = .returned (wP (l.gW i) (opnW (overs (OpsK k) s.regions x.inside) now was ask s.ways x.so).1) ∧
      Hid (RMem A w' (RegM A k w') P L (withS d i ⟨(opnW (overs (OpsK k) s.regions x.inside) now was ask s.ways x.so).2, x.inside⟩) g l ∧ RunV w' rb bn bw m ns now was ∧ FrP P bn w w') := by
  have hm := h.st i s x hi hx
  obtain ⟨aw, cw, c9, haw⟩ := hm.wy
  obtain ⟨ai, ci, c10, hai⟩ := hm.iy
  have hgs := hS.p _ h.ps.1
  refine (hO (ov := overs (OpsK k) s.regions x.inside) (gW := l.gW i) c9 rfl hst.wl (fun hp => (haw hp).1) ⟨hm.wl, hm.wm⟩ (fun y hy => (hst.wy y hy).1) hv (fun hp => ?_) hgs.2.2.1 hS.rn hS.wn (fun b hb => ⟨(hS.a b hb).1, (hS.a b hb).2.2, fun hp e => (hS.a b hb).2.1 (e ▸ (haw hp).2.1)⟩) (fun bx W hW hbx => ?_)).mono ?_
  · have hw := hS.p _ (haw hp).2.1
    exact ⟨hw.2.1, hw.2.2.1, hw.2.2.2, role_ne (haw hp).2.2 h.ps.2 (by simp), hw.1⟩
  · have hne : ∀ b, P b → (0 < s.ways.length → l.role b ≠ Role.ways i) → ¬ (0 < s.ways.length ∧ b = l.gW i) := fun b hb hr e => hr e.1 (e.2 ▸ (haw e.1).2.2)
    have hgS : ¬ (0 < s.ways.length ∧ l.gS = l.gW i) := hne _ h.ps.1 (fun _ => by rw [h.ps.2]; simp)
    rw [overs_all]
    refine over_any (gI := l.gI i) (gr := l.gr i) hbx (hW.cell c10 hgS hgs.2.2.1) (by rw [Hid, List.length_zipWith, hm.il]; simp) hst.il (fun hp => (hai hp).1) (fun j b hj => ?_)
    rw [List.getElem?_zipWith] at hj
    cases hr : s.regions[j]? with
    | none => rw [hr] at hj; simp at hj
    | some r =>
      cases hd : x.inside[j]? with
      | none => rw [hr, hd] at hj; simp at hj
      | some dj =>
        rw [hr, hd] at hj
        simp at hj
        subst hj
        have hlt : j < s.regions.length := (List.getElem?_eq_some_iff.1 hr).1
        obtain ⟨q1, q2⟩ := hm.im j r dj hr hd
        have hi2 := hai (by omega)
        refine ⟨hW.cell q1 (hne _ hi2.2.1 (fun _ => by rw [hi2.2.2]; simp)) (hS.p _ hi2.2.1).2.2.1, ?_⟩
        have hA : ∀ b, A b → b < w.heap.size ∧ ¬ (0 < s.ways.length ∧ b = l.gW i) ∧ b ≠ bn := fun b hb => ⟨(hS.a b hb).1, fun e => (hS.a b hb).2.1 (e.2 ▸ (haw e.1).2.1), (hS.a b hb).2.2⟩
        exact RegM.over k (hW.region hA (fun b hb => ⟨(hS.p b hb.1).1, hne b hb.1 (fun _ => by rw [hb.2]; simp), (hS.p b hb.1).2.2.1⟩) q2)
  · rintro e w' ⟨rfl, hh⟩
    obtain ⟨h1, h2, h3⟩ := hh.out
    exact ⟨rfl, h.ways hS hi hx h2 h1, h3, h2.wide fun b hb => hb.2 ▸ (haw hb.1).2.1⟩
end
end Go.Proofs.YtiihgnagjemikaaGreatDoor
/- The runner's arrive: all of entering a state but the way that is open then. -/
namespace Go.Proofs.YtiihgnagjemikaaGreatDoor
open Go.RowKit Px

def EnterOk (A : Nat → Prop) (k : Nat) : Prop := ∀ {P : Nat → Prop} {w : World} {rb bn bw m : Nat} {ns : List Str} {now was now' : Px.Env} {L : List (St k)} {d d' : Rd k} {g : Nat} (back : Bool), RegM A k w P L d g → StAll ns k L → Sep A P w rb bn bw → RunV w rb bn bw m ns now was → (OpsK k).enter was back L now d = some (now', d') →
  ∃ pf pw : Option Addr, w.cell? ⟨g, 0, none⟩ = some (.pointer pf) ∧ w.cell? ⟨g, 2, none⟩ = some (.pointer pw) ∧ (back = true → pw ≠ none → Calls Tryz.prog 39 #[.pointer (some ⟨rb, 0, none⟩), .pointer (some ⟨g, 0, none⟩), .pointer pw, .bool true] w (RegTo A k P rb bn bw m ns was w L g now' d')) ∧
    (back = false ∨ pw = none → Calls Tryz.prog 39 #[.pointer (some ⟨rb, 0, none⟩), .pointer (some ⟨g, 0, none⟩), .pointer pf, .bool false] w (RegTo A k P rb bn bw m ns was w L g now' d'))
/-- a way is handed back -/
def WayTo (A P : Nat → Prop) {k : Nat} (rb bn bw m : Nat) (ns : List Str) (was : Px.Env) (w : World) (L : List (StF (St k))) (g : Nat) (l : Lie) (i : Nat) (wj : Option Nat) (now' : Px.Env) (d' : RdF (Rd k)) (e : Ending) (w' : World) : Prop :=
  e = .returned (wP (l.gW i) wj) ∧ Hid (RMem A w' (RegM A k w') P L d' g l ∧ RunV w' rb bn bw m ns now' was ∧ FrP P bn w w')
/-- the first so many are 0 -/
def zk (k : Nat) (cs : List Int) : List Int := List.replicate k 0 ++ cs.drop k
theorem zk_zero (cs : List Int) : zk 0 cs = cs := rfl
theorem zk_all {cs : List Int} {n : Nat} (h : cs.length = n) : zk n cs = List.replicate n 0 := by unfold zk; rw [← h, List.drop_length, List.append_nil]
theorem zk_set {cs : List Int} {k : Nat} (hk : k < cs.length) : (zk k cs).set k 0 = zk (k + 1) cs := by
  unfold zk
  rw [List.set_append_right _ _ (by simp)]
  simp only [List.length_replicate, Nat.sub_self]
  rw [List.drop_eq_getElem_cons hk, List.set_cons_zero, List.replicate_succ', List.append_assoc]
  rfl
/-- what arrive comes to: a strong way is open at once, or what is inside is entered, and another way may be -/
theorem arriveR_cases {σ ρ : Type} {O : Ops σ ρ} {was : Px.Env} {L : List (StF σ)} {i : Nat} {back : Bool} {n : Px.Env} {d : RdF ρ} {s : StF σ} {x : SdF ρ} {wj : Option Nat} {n' : Px.Env} {d' : RdF ρ} (hs : L[i]? = some s) (hx : d.sts[i]? = some x) (h : arriveR O was L i back n d = some (wj, n', d')) :
    (∃ j, (opnW (overs O s.regions x.inside) (doS was s.enter n) was askNS s.ways (List.replicate s.ways.length 0)).1 = some j ∧ wj = some j ∧ n' = doS was s.enter n ∧ d' = ⟨some i, d.was, d.sts.set i ⟨(opnW (overs O s.regions x.inside) (doS was s.enter n) was askNS s.ways (List.replicate s.ways.length 0)).2, x.inside⟩⟩) ∨
    ((opnW (overs O s.regions x.inside) (doS was s.enter n) was askNS s.ways (List.replicate s.ways.length 0)).1 = none ∧ ∃ p, allI (O.enter was back) s.regions s.regions.length 0 (doS was s.enter n) x.inside = some p ∧
      wj = (opnW (overs O s.regions p.2) p.1 was askNW s.ways (opnW (overs O s.regions x.inside) (doS was s.enter n) was askNS s.ways (List.replicate s.ways.length 0)).2).1 ∧ n' = p.1 ∧ d' = ⟨some i, d.was, d.sts.set i ⟨(opnW (overs O s.regions p.2) p.1 was askNW s.ways (opnW (overs O s.regions x.inside) (doS was s.enter n) was askNS s.ways (List.replicate s.ways.length 0)).2).2, p.2⟩⟩) := by
  rw [arriveR, hs, hx] at h
  simp only at h
  cases ho : (opnW (overs O s.regions x.inside) (doS was s.enter n) was askNS s.ways (List.replicate s.ways.length 0)).1 with
  | some j =>
    rw [ho] at h
    simp only [Option.some.injEq, Prod.mk.injEq] at h
    exact .inl ⟨j, rfl, h.1.symm, h.2.1.symm, h.2.2.symm⟩
  | none =>
    rw [ho] at h
    simp only at h
    cases ha : allI (O.enter was back) s.regions s.regions.length 0 (doS was s.enter n) x.inside with
    | none => rw [ha] at h; exact absurd h (by simp)
    | some p =>
      rw [ha] at h
      simp only [Option.some.injEq, Prod.mk.injEq] at h
      exact .inr ⟨rfl, p, rfl, h.1.symm, h.2.1.symm, h.2.2.symm⟩
section
variable {A P : Nat → Prop} {w w' : World} {k g rb bn bw m : Nat} {ns : List Str} {now was : Px.Env} {L : List (StF (St k))} {d : RdF (Rd k)} {l : Lie}
/-- which state is there has changed -/
theorem RMem.setThere {i : Nat} (h : RMem A w (RegM A k w) P L d g l) (hS : Sep A P w rb bn bw) (hi : i < L.length) : RMem A (w.setCell ⟨g, 1, none⟩ (.pointer (some ⟨l.gS, i * 11, none⟩))) (RegM A k (w.setCell ⟨g, 1, none⟩ (.pointer (some ⟨l.gS, i * 11, none⟩)))) P L ⟨some i, d.was, d.sts⟩ g l :=
  h.keepBut (fun b hb _ => Below.heap_setCell _ _ _ _ (fun e => (hS.a b hb).2.1 (e ▸ h.pg.1))) (fun b _ hb => Below.heap_setCell _ _ _ _ hb) (ck_set (l := [pS l.gS (some l.fi), pS l.gS d.there, pS l.gS d.was]) h.hg 1 _) rfl (fun i' e => by injection e with e; rw [← e]; exact hi) h.wa
/-- nothing of a runner's has changed -/
theorem RunV.apart (h : RunV w rb bn bw m ns now was) (hS : Sep A P w rb bn bw) (hf : FrP P bn w w') (hb : w'.heap[bn]? = w.heap[bn]?) : RunV w' rb bn bw m ns now was :=
  h.fr hf ⟨fun e => (hS.p rb e).2.1 rfl, hS.rn⟩ ⟨fun e => (hS.p bw e).2.2.2 rfl, hS.wn⟩ (h.mn.keep hb)
set_option maxRecDepth 100000 in
set_option maxHeartbeats 16000000 in
theorem arrive_succ (ih : EnterOk A k) {i : Nat} {back : Bool} {wj : Option Nat} {now' : Px.Env} {d' : RdF (Rd k)} (h : RMem A w (RegM A k w) P L d g l) (hst : ∀ s ∈ L, StR ns s ∧ ∀ r ∈ s.regions, StAll ns k r) (hS : Sep A P w rb bn bw) (hv : RunV w rb bn bw m ns now was) (hl : arriveR (OpsK k) was L i back now d = some (wj, now', d')) :
    Calls Tryz.prog 73 #[.pointer (some ⟨rb, 0, none⟩), .pointer (some ⟨g, 0, none⟩), .pointer (some ⟨l.gS, i * 11, none⟩), .bool back] w (WayTo A P rb bn bw m ns was w L g l i wj now' d') := by
  obtain ⟨s, hs⟩ : ∃ s, L[i]? = some s := by
    cases hs : L[i]? with
    | none => rw [arriveR, hs] at hl; exact absurd hl (by simp)
    | some s => exact ⟨s, rfl⟩
  have hil : i < L.length := (List.getElem?_eq_some_iff.1 hs).1
  obtain ⟨x, hx⟩ : ∃ x, d.sts[i]? = some x := ⟨_, List.getElem?_eq_getElem (by rw [h.len]; exact hil)⟩
  have hl := arriveR_cases hs hx hl
  have hsr := (hst s (List.mem_of_getElem? hs)).1
  obtain ⟨d1, hd1⟩ : ∃ d1 : RdF (Rd k), d1 = ⟨some i, d.was, d.sts⟩ := ⟨_, rfl⟩
  have hx1 : d1.sts[i]? = some x := by rw [hd1]; exact hx
  have hxl : i < d1.sts.length := (List.getElem?_eq_some_iff.1 hx1).1
  obtain ⟨W1, hW1⟩ : ∃ W1, W1 = w.setCell ⟨g, 1, none⟩ (.pointer (some ⟨l.gS, i * 11, none⟩)) := ⟨_, rfl⟩
  have hR1 : RMem A W1 (RegM A k W1) P L d1 g l := by rw [hW1, hd1]; exact h.setThere hS hil
  have hf1 : FrP P bn w W1 := by rw [hW1]; exact (FrP.refl _ _ _).setCell (p := ⟨g, 1, none⟩) h.pg.1 _
  have hv1 : RunV W1 rb bn bw m ns now was := hv.apart hS hf1 (by rw [hW1]; exact Below.heap_setCell _ _ _ _ (fun e => (hS.p g h.pg.1).2.2.1 e.symm))
  have k1 := cell_row h.hg 1 rfl
  have z1 := ck_frozen h.hg 1
  obtain ⟨M, hM⟩ : ∃ M, M = s.ways.length := ⟨_, rfl⟩
  obtain ⟨n, hn⟩ : ∃ n, n = s.regions.length := ⟨_, rfl⟩
  have hm1 := hR1.st i s x hs hx1
  obtain ⟨aw, cw, c9, haw⟩ := hm1.wy
  obtain ⟨ai, ci, c10, hai⟩ := hm1.iy
  rw [← hM] at c9 haw
  rw [← hn] at c10 hai
  have hM6 : (M : Int) ≤ 9223372036854775807 := by have := hsr.wl; unfold maxLen at this; omega
  have hn6 : (n : Int) ≤ 9223372036854775807 := by have := hsr.il; unfold maxLen at this; omega
  have HI : Hid (L[i]? = some s ∧ d1.sts[i]? = some x ∧ i < d1.sts.length ∧ M = s.ways.length ∧ n = s.regions.length ∧ x.so.length = M) := ⟨hs, hx1, hxl, hM, hn, by rw [hM]; exact hm1.wl⟩
  have HSR : Hid (StR ns s ∧ ∀ r ∈ s.regions, StAll ns k r) := hst s (List.mem_of_getElem? hs)
  have HS : Hid (Sep A P w rb bn bw) := hS
  have HIH : Hid (EnterOk A k) := ih
  have HAW : Hid (0 < M → aw = some ⟨l.gW i, 0, none⟩ ∧ P (l.gW i) ∧ l.role (l.gW i) = Role.ways i) := haw
  have HAI : Hid (0 < n → ai = some ⟨l.gI i, 0, none⟩) := fun hp => (hai hp).1
  have H1 : Hid (RMem A W1 (RegM A k W1) P L (withS d1 i ⟨zk 0 x.so, x.inside⟩) g l ∧ RunV W1 rb bn bw m ns now was ∧ FrP P bn w W1) := ⟨by rw [zk_zero, withS_self hx1]; exact hR1, hv1, hf1⟩
  have HLE : Hid _ := hl
  have HD1 : Hid (d1 = ⟨some i, d.was, d.sts⟩) := hd1
  obtain ⟨oi, hoi⟩ : ∃ oi, oi = i * 11 := ⟨_, rfl⟩
  have HOI : Hid (oi = i * 11) := hoi
  rw [← hoi] at hW1 c9 c10 ⊢
  clear h hst hS hv hl ih hs hil hx hsr hd1 hx1 hxl hR1 hf1 hv1 hM hn hm1 haw hai hoi
  go_enter Tryz.func73, Tryz.ntmps73
  go_upto_region 2 with fail
  rw [← hW1]
  clear hW1 k1 z1
  go_wp2_with fail
  clear c9
  go_loopg [22] M (fun f i' wr => ∃ q : Nat, f = M - q ∧ q ≤ M ∧ i' = .int .i64 (q : Int) ∧ Hid (RMem A wr (RegM A k wr) P L (withS d1 i ⟨zk q x.so, x.inside⟩) g l ∧ RunV wr rb bn bw m ns now was ∧ FrP P bn w wr))
  case atStart => exact ⟨0, by omega, by omega, rfl, H1.out⟩
  case round =>
    obtain ⟨q, rfl, hq, rfl, hr⟩ := hrel
    obtain ⟨hr1, hr2, hr3⟩ := hr.out
    have hm := hr1.st i s ⟨zk q x.so, x.inside⟩ HI.out.1 (withS_at _ HI.out.2.2.1)
    by_cases hlt : q < M
    · obtain ⟨aw', cw', c9, haw'⟩ := hm.wy
      rw [← HI.out.2.2.2.1] at c9 haw'
      rw [← HOI.out] at c9
      have hixy := ixY aw' (l.gW i) M cw' q hlt (fun hp => (haw' hp).1)
      obtain ⟨y, hy⟩ : ∃ y, s.ways[q]? = some y := ⟨s.ways[q]'(by rw [← HI.out.2.2.2.1]; exact hlt), by rw [List.getElem?_eq_getElem]⟩
      have hzl : (zk q x.so).length = s.ways.length := hm.wl
      obtain ⟨c, hc⟩ : ∃ c, (zk q x.so)[q]? = some c := ⟨_, List.getElem?_eq_getElem (by rw [hzl, ← HI.out.2.2.2.1]; exact hlt)⟩
      have hwm := hm.wm q y c hy hc
      have s8 := hwm.so
      have f8 := hwm.fr
      have hgw := HAW.out (by omega)
      have HN : Hid (RMem A (wr.setCell ⟨l.gW i, q * 9 + 8, none⟩ (.int .i64 0)) (RegM A k (wr.setCell ⟨l.gW i, q * 9 + 8, none⟩ (.int .i64 0))) P L (withS d1 i ⟨zk (q + 1) x.so, x.inside⟩) g l ∧ RunV (wr.setCell ⟨l.gW i, q * 9 + 8, none⟩ (.int .i64 0)) rb bn bw m ns now was ∧ FrP P bn w (wr.setCell ⟨l.gW i, q * 9 + 8, none⟩ (.int .i64 0))) := by
        have hSw := HS.out.up hr3.size
        have hfw : FrP (fun b => 0 < s.ways.length ∧ b = l.gW i) bn wr (wr.setCell ⟨l.gW i, q * 9 + 8, none⟩ (.int .i64 0)) := (FrP.refl _ _ _).setCell (p := ⟨l.gW i, q * 9 + 8, none⟩) ⟨by rw [← HI.out.2.2.2.1]; omega, rfl⟩ _
        have hwp : WaysM A (wr.setCell ⟨l.gW i, q * 9 + 8, none⟩ (.int .i64 0)) (snames L) l.gS (l.gW i) s.ways (zk (q + 1) x.so) := by
          have := (show WaysM A wr (snames L) l.gS (l.gW i) s.ways (zk q x.so) from ⟨hzl, hm.wm⟩).put (k := q) (c' := 0) (fun b hb e => (hSw.a b hb).2.1 (e ▸ hgw.2.1))
          rwa [zk_set (by rw [HI.out.2.2.2.2.2]; exact hlt)] at this
        have := hr1.ways hSw HI.out.1 (withS_at _ HI.out.2.2.1) hfw hwp
        rw [withS_withS] at this
        have hfp : FrP P bn wr (wr.setCell ⟨l.gW i, q * 9 + 8, none⟩ (.int .i64 0)) := hfw.wide fun b hb => hb.2 ▸ hgw.2.1
        exact ⟨this, hr2.apart hSw hfp (Below.heap_setCell _ _ _ _ (fun e => (hSw.p _ hgw.2.1).2.2.1 e.symm)), hr3.trans hfp⟩
      clear hr hr1 hr2 hr3 hm hy hc hwm hgw hzl haw'
      go_wp2_with fail
      go_roundg (M - (q + 1))
      case measure => omega
      case rel => exact ⟨q + 1, rfl, by omega, by go_num, HN.out⟩
    · obtain rfl : q = M := by omega
      rw [zk_all HI.out.2.2.2.2.2] at hr1 hm
      obtain ⟨ve, c3, hve⟩ := hm.en
      rw [← HOI.out] at c3
      have hdo := do_any HSR.out.1.en hve hr2 (HS.out.up hr3.size).chart HS.out.rn HS.out.wn
      obtain ⟨va, vn, vc, rfl⟩ := hve.sl'
      have HG : Hid (RMem A wr (RegM A k wr) P L (withS d1 i ⟨List.replicate q 0, x.inside⟩) g l ∧ FrP P bn w wr) := ⟨hr1, hr3⟩
      clear hr hr1 hr2 hr3 hm hve H1 c10
      go_upto_region 7 with fail
      go_wp2_with fail
      refine hdo.mono ?_
      rintro e w2 ⟨rfl, h2⟩
      obtain ⟨hv2, hf2⟩ := h2.out
      have hR2 := HG.out.1.vars (HS.out.up HG.out.2.size) hf2 (fun _ _ h => h) (fun _ _ h => h)
      have hfw2 : FrP P bn w w2 := HG.out.2.trans (hf2.wide fun _ h => h.elim)
      have hop := open_at open_ok1 hR2 HSR.out.1 (HS.out.up hfw2.size) hv2 HI.out.1 (withS_at _ HI.out.2.2.1)
      rw [withS_withS, ← HOI.out] at hop
      simp only at hop
      obtain ⟨o1, ho1⟩ : ∃ o1, o1 = opnW (overs (OpsK k) s.regions x.inside) (doS was s.enter now) was askNS s.ways (List.replicate q 0) := ⟨_, rfl⟩
      have hle := HLE.out
      rw [← HI.out.2.2.2.1, ← ho1] at hle
      rw [← ho1] at hop
      have HF2 : Hid (FrP P bn w w2) := hfw2
      clear hdo h2 hv2 hf2 hR2 hfw2 HG HLE c3 ho1
      rcases hle with ⟨j, ho, e1, e2, e3⟩ | ⟨ho, p, hall, e1, e2, e3⟩
      · rw [ho] at hop
        subst e1 e2 e3
        clear ho
        unfold wP at hop
        go_wp2_with fail
        refine hop.mono ?_
        rintro e w3 ⟨rfl, h3⟩
        clear hop
        have HX : Hid (RMem A w3 (RegM A k w3) P L (⟨some i, d.was, d.sts.set i ⟨o1.2, x.inside⟩⟩ : RdF (Rd k)) g l ∧ RunV w3 rb bn bw m ns (doS was s.enter now) was ∧ FrP P bn w w3) := by
          obtain ⟨a1, a2, a3⟩ := h3.out
          rw [HD1.out] at a1
          exact ⟨a1, a2, HF2.out.trans a3⟩
        clear h3 HD1
        go_wp2_with fail
        go_ret
        exact ⟨rfl, HX.out⟩
      · rw [ho] at hop
        have HE : Hid (wj = (opnW (overs (OpsK k) s.regions p.2) p.1 was askNW s.ways o1.2).1 ∧ now' = p.1 ∧ d' = (⟨some i, d.was, d.sts.set i ⟨(opnW (overs (OpsK k) s.regions p.2) p.1 was askNW s.ways o1.2).2, p.2⟩⟩ : RdF (Rd k))) := ⟨e1, e2, e3⟩
        have HALL : Hid (allI ((OpsK k).enter was back) s.regions s.regions.length 0 (doS was s.enter now) x.inside = some p) := hall
        clear ho e1 e2 e3 hall
        unfold wP at hop
        go_wp2_with fail
        refine hop.mono ?_
        rintro e w3 ⟨rfl, h3⟩
        clear hop
        have H3 : Hid (allI ((OpsK k).enter was back) s.regions (n - 0) 0 (doS was s.enter now) x.inside = some p ∧ RMem A w3 (RegM A k w3) P L (withS d1 i ⟨o1.2, x.inside⟩) g l ∧ RunV w3 rb bn bw m ns (doS was s.enter now) was ∧ FrP P bn w w3) := by
          obtain ⟨a1, a2, a3⟩ := h3.out
          exact ⟨by rw [Nat.sub_zero, HI.out.2.2.2.2.1]; exact HALL.out, a1, a2, HF2.out.trans a3⟩
        have hm3 := H3.out.2.1.st i s ⟨o1.2, x.inside⟩ HI.out.1 (withS_at _ HI.out.2.2.1)
        obtain ⟨ai, ci, c10, hai⟩ := hm3.iy
        rw [← HI.out.2.2.2.2.1] at c10 hai
        rw [← HOI.out] at c10
        have HAI : Hid (0 < n → ai = some ⟨l.gI i, 0, none⟩) := fun hp => (hai hp).1
        clear h3 HALL hm3 hai HF2
        go_wp2_with fail
        clear c10
        go_loopg [51] n (fun f i' wr => ∃ (j : Nat) (nj : Px.Env) (ins : List (Rd k)), f = n - j ∧ j ≤ n ∧ i' = .int .i64 (j : Int) ∧ Hid (allI ((OpsK k).enter was back) s.regions (n - j) j nj ins = some p ∧ RMem A wr (RegM A k wr) P L (withS d1 i ⟨o1.2, ins⟩) g l ∧ RunV wr rb bn bw m ns nj was ∧ FrP P bn w wr))
        case atStart => exact ⟨0, _, x.inside, by omega, by omega, rfl, H3.out⟩
        case round =>
          obtain ⟨j, nj, ins, rfl, hj, rfl, hr⟩ := hrel
          obtain ⟨hr1, hr2, hr3, hr4⟩ := hr.out
          have hm := hr2.st i s ⟨o1.2, ins⟩ HI.out.1 (withS_at _ HI.out.2.2.1)
          by_cases hlt : j < n
          · obtain ⟨r, hrj⟩ : ∃ r, s.regions[j]? = some r := ⟨s.regions[j]'(by rw [← HI.out.2.2.2.2.1]; exact hlt), by rw [List.getElem?_eq_getElem]⟩
            rw [show n - j = n - (j + 1) + 1 by omega] at hr1
            obtain ⟨dj, qq, hd, hqq, hnx⟩ := allI_step hr1 hrj
            obtain ⟨cj, hRj⟩ := hm.im j r dj hrj hd
            have hix := ixG ai (l.gI i) n ci j hlt HAI.out
            obtain ⟨pf, pw, cf, cw2, hE1, hE2⟩ := HIH.out back hRj (HSR.out.2 r (List.mem_of_getElem? hrj)) ((HS.out.up hr4.size).sub fun b hb => hb.1) hr3 hqq
            unfold RegTo at hE1 hE2
            have HN : Hid (∀ w', RegM A k w' (fun b => P b ∧ l.role b = Role.inner i j) r qq.2 (l.gr i j) ∧ RunV w' rb bn bw m ns qq.1 was ∧ FrP (fun b => P b ∧ l.role b = Role.inner i j) bn wr w' → allI ((OpsK k).enter was back) s.regions (n - (j + 1)) (j + 1) qq.1 (ins.set j qq.2) = some p ∧ RMem A w' (RegM A k w') P L (withS d1 i ⟨o1.2, ins.set j qq.2⟩) g l ∧ RunV w' rb bn bw m ns qq.1 was ∧ FrP P bn w w') := fun w' ⟨a1, a2, a3⟩ => by
              have := hr2.inner (HS.out.up hr4.size) HI.out.1 (withS_at _ HI.out.2.2.1) hrj hd a3 a1
              rw [withS_withS] at this
              exact ⟨hnx, this, a2, hr4.trans (a3.wide fun b hb => hb.1)⟩
            clear hr hr1 hr2 hr3 hr4 hm hrj hd hqq hnx hRj
            cases back with
            | false =>
              have hcall := hE2 (.inl rfl)
              clear hE1 hE2
              go_wp2_with (refine hcall.mono ?_; rintro e w5 ⟨rfl, h5⟩)
              go_roundg (n - (j + 1))
              case measure => omega
              case rel => exact ⟨j + 1, qq.1, ins.set j qq.2, rfl, by omega, by go_num, HN.out w5 h5.out⟩
            | true =>
              cases pw with
              | none =>
                have hcall := hE2 (.inr rfl)
                clear hE1 hE2
                go_wp2_with (refine hcall.mono ?_; rintro e w5 ⟨rfl, h5⟩)
                go_roundg (n - (j + 1))
                case measure => omega
                case rel => exact ⟨j + 1, qq.1, ins.set j qq.2, rfl, by omega, by go_num, HN.out w5 h5.out⟩
              | some pa =>
                have hcall := hE1 rfl (by simp)
                clear hE1 hE2
                go_wp2_with (refine hcall.mono ?_; rintro e w5 ⟨rfl, h5⟩)
                go_roundg (n - (j + 1))
                case measure => omega
                case rel => exact ⟨j + 1, qq.1, ins.set j qq.2, rfl, by omega, by go_num, HN.out w5 h5.out⟩
          · obtain rfl : j = n := by omega
            rw [Nat.sub_self, allI] at hr1
            injection hr1 with hr1
            subst hr1
            have hop := open_at open_ok2 hr2 HSR.out.1 (HS.out.up hr4.size) hr3 HI.out.1 (withS_at _ HI.out.2.2.1)
            rw [withS_withS, ← HOI.out] at hop
            simp only at hop
            obtain ⟨o2, ho2⟩ : ∃ o2, o2 = opnW (overs (OpsK k) s.regions ins) nj was askNW s.ways o1.2 := ⟨_, rfl⟩
            have hE := HE.out
            simp only at hE
            rw [← ho2] at hop hE
            obtain ⟨rfl, rfl, rfl⟩ := hE
            have HF4 : Hid (FrP P bn w wr) := hr4
            have HO : Hid (∃ v, v = wP (l.gW i) o2.1) := ⟨_, rfl⟩
            obtain ⟨vo, hvo⟩ : ∃ vo : Option Addr, wP (l.gW i) o2.1 = .pointer vo := by cases o2.1 with | none => exact ⟨_, rfl⟩ | some _ => exact ⟨_, rfl⟩
            rw [hvo] at hop
            have HVO : Hid (wP (l.gW i) o2.1 = .pointer vo) := hvo
            clear hr hr2 hr3 hr4 hm ho2 HO hvo HE H3
            go_wp2_with (refine hop.mono ?_; rintro e w5 ⟨rfl, h5⟩)
            go_ret
            obtain ⟨a1, a2, a3⟩ := h5.out
            rw [HD1.out] at a1
            exact ⟨by rw [HVO.out]; rfl, a1, a2, HF4.out.trans a3⟩
end
end Go.Proofs.YtiihgnagjemikaaGreatDoor
