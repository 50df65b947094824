/- state, whole. -/
import Derived.Test.YtobamalnbjbmiaaGreatDoorQPstate
import Derived.StillTailTactics
namespace Go.Proofs.YtobamalnbjbmiaaGreatDoor
open Go.RowKit Px

set_option maxRecDepth 100000 in
set_option maxHeartbeats 4000000 in
theorem state_full {C : Ctx} {k sb ins i c : Nat} {w : World} {fi la : Bool} (h : PS C w i c ins 0) (hsb : C.rb < sb) (hs0 : w.heap[sb]? = some (.cells (stA [] fi la (.slice none 0 0) (.slice none 0 0) (.slice none 0 0) (.pointer none) (.slice none 0 0) (.slice none 0 0)) 65 (0, 0))) (hc : 24 ≤ c) : Calls Tryz.prog 136 #[.pointer (some ⟨C.rb, 0, none⟩), .pointer (some ⟨sb, 0, none⟩)] w (OutX w.heap.size [C.rb, sb] (StOk C k (w.heap.size + 2) sb ins) w (state C.L (St k) (region C.L k) fi la c i)) := by
  have hC := h.lts.1
  have hsl := lt_of_block hs0
  obtain ⟨hpa, hfa⟩ := h.alloc (.cells #[.pointer (some ⟨C.rb, 0, none⟩)] 153)
  obtain ⟨hp0, hfb⟩ := hpa.alloc (.cells #[.pointer (some ⟨sb, 0, none⟩)] 215)
  have hF0 := hfa.up hfb
  have hz0 : ((w.alloc (.cells #[.pointer (some ⟨C.rb, 0, none⟩)] 153)).alloc (.cells #[.pointer (some ⟨sb, 0, none⟩)] 215)).heap.size = w.heap.size + 2 := by simp
  have hx0 : Boxes C (w.heap.size + 2) sb w.heap.size (w.heap.size + 1) ((w.alloc (.cells #[.pointer (some ⟨C.rb, 0, none⟩)] 153)).alloc (.cells #[.pointer (some ⟨sb, 0, none⟩)] 215)) := ⟨by simp, by simp, by omega, by omega, by simp; omega, by simp; omega⟩
  have hb0 : ((w.alloc (.cells #[.pointer (some ⟨C.rb, 0, none⟩)] 153)).alloc (.cells #[.pointer (some ⟨sb, 0, none⟩)] 215)).heap[sb]? = some (.cells (stA [] fi la (.slice none 0 0) (.slice none 0 0) (.slice none 0 0) (.pointer none) (.slice none 0 0) (.slice none 0 0)) 65 (0, 0)) := by rw [hF0.block sb hsl (by simp; omega)]; exact hs0
  have hXs : sb ∉ [C.rb] := by simp; omega
  go_enter Tryz.func136, Tryz.ntmps136
  go_wp2_with (go_at_call 81; refine (need_any hp0 ⟨#[115, 116, 97, 116, 101]⟩ kState rfl (by decide)).mono ?_; rintro e w1 h1; rcases h1.cases with ⟨f, hr1, q, rfl, hq⟩ | ⟨_, v1, hr1, rfl, ⟨rfl, hp1⟩, hf1⟩; (· exact ⟨rfl, by rw [state, if_neg (need_bad hr1).1, ← (need_bad hr1).2]; exact Thrown.x ⟨q, rfl, hq⟩ (hF0.x (Nat.le_refl _)) (by omega) (by simp)⟩))
  have hx1 := hx0.carry (hf1.x (by omega))
  have hb1 : w1.heap[sb]? = some (.cells (stA [] fi la (.slice none 0 0) (.slice none 0 0) (.slice none 0 0) (.pointer none) (.slice none 0 0) (.slice none 0 0)) 65 (0, 0)) := by rw [hf1.block sb (by omega) hXs]; exact hb0
  have hF1 := hF0.up hf1
  have hz1 := hf1.size
  have x1 := hx1.a
  obtain ⟨-, -, c2, -⟩ := hp1.cells
  have hdr : Fr w1.heap.size [] w1 w1.drew := (Fr.refl _ _ _).drew
  have hpd := hp1.same hdr
  go_still_tail 5, (by kernel_rfl)
  go_wp2_with (go_at_call 87; refine (bound_bad hpd c 24 hc).mono ?_; rintro e w2 ⟨q, rfl, hq⟩; exact ⟨rfl, by rw [state, if_pos (need_ok hr1), if_pos hc]; exact Thrown.x ⟨q, rfl, hq⟩ ((hF1.x (Nat.le_refl _)).drew) (by (show w.heap.size ≤ w1.heap.size); omega) (by simp)⟩)

set_option maxRecDepth 100000 in
set_option maxHeartbeats 8000000 in
theorem state_semi {C : Ctx} {k sb ins i c : Nat} {w : World} {fi la : Bool} (h : PS C w i c ins 0) (hsb : C.rb < sb) (hs0 : w.heap[sb]? = some (.cells (stA [] fi la (.slice none 0 0) (.slice none 0 0) (.slice none 0 0) (.pointer none) (.slice none 0 0) (.slice none 0 0)) 65 (0, 0))) (hc : c < 24) (hse : tx C.L (i + 2) = kSemi) : Calls Tryz.prog 136 #[.pointer (some ⟨C.rb, 0, none⟩), .pointer (some ⟨sb, 0, none⟩)] w (OutX w.heap.size [C.rb, sb] (StOk C k (w.heap.size + 2) sb ins) w (state C.L (St k) (region C.L k) fi la c i)) := by
  have hC := h.lts.1
  have hsl := lt_of_block hs0
  obtain ⟨hpa, hfa⟩ := h.alloc (.cells #[.pointer (some ⟨C.rb, 0, none⟩)] 153)
  obtain ⟨hp0, hfb⟩ := hpa.alloc (.cells #[.pointer (some ⟨sb, 0, none⟩)] 215)
  have hF0 := hfa.up hfb
  have hz0 : ((w.alloc (.cells #[.pointer (some ⟨C.rb, 0, none⟩)] 153)).alloc (.cells #[.pointer (some ⟨sb, 0, none⟩)] 215)).heap.size = w.heap.size + 2 := by simp
  have hx0 : Boxes C (w.heap.size + 2) sb w.heap.size (w.heap.size + 1) ((w.alloc (.cells #[.pointer (some ⟨C.rb, 0, none⟩)] 153)).alloc (.cells #[.pointer (some ⟨sb, 0, none⟩)] 215)) := ⟨by simp, by simp, by omega, by omega, by simp; omega, by simp; omega⟩
  have hb0 : ((w.alloc (.cells #[.pointer (some ⟨C.rb, 0, none⟩)] 153)).alloc (.cells #[.pointer (some ⟨sb, 0, none⟩)] 215)).heap[sb]? = some (.cells (stA [] fi la (.slice none 0 0) (.slice none 0 0) (.slice none 0 0) (.pointer none) (.slice none 0 0) (.slice none 0 0)) 65 (0, 0)) := by rw [hF0.block sb hsl (by simp; omega)]; exact hs0
  have hXs : sb ∉ [C.rb] := by simp; omega
  have hmf : ∀ (fn : Fn) (first cap : Array Value) (w : World), (Instr.makeFunc fn first cap).run Tryz.prog w = .ok (.func fn first cap) w := fun _ _ _ _ => rfl
  have HO : ∀ s, Hid (nm C.L (i + 1) = .ok s) → tx C.L i = kState → Hid (state C.L (St k) (region C.L k) fi la c i = .ok (⟨s, fi, la, [], [], [], .nil, [], []⟩, c + 1, i + 3)) := fun s hs ht => by rw [Hid, state, if_pos ht, if_neg (by omega), hs.out]; simp only; rw [if_pos hse]
  have HE : ∀ f, Hid (nm C.L (i + 1) = .error f) → tx C.L i = kState → Hid (state C.L (St k) (region C.L k) fi la c i = .error f) := fun f hs ht => by rw [Hid, state, if_pos ht, if_neg (by omega), hs.out]
  have HSE : Hid (tx C.L (i + 2) = bs ⟨#[59]⟩) := hse
  clear hse
  go_enter Tryz.func136, Tryz.ntmps136
  go_wp2_with (go_at_call 81; refine (need_any hp0 ⟨#[115, 116, 97, 116, 101]⟩ kState rfl (by decide)).mono ?_; rintro e w1 h1; rcases h1.cases with ⟨f, hr1, q, rfl, hq⟩ | ⟨_, v1, hr1, rfl, ⟨rfl, hp1⟩, hf1⟩; (· exact ⟨rfl, by rw [state, if_neg (need_bad hr1).1, ← (need_bad hr1).2]; exact Thrown.x ⟨q, rfl, hq⟩ (hF0.x (Nat.le_refl _)) (by omega) (by simp)⟩))
  have hx1 := hx0.carry (hf1.x (by omega))
  have hb1 : w1.heap[sb]? = some (.cells (stA [] fi la (.slice none 0 0) (.slice none 0 0) (.slice none 0 0) (.pointer none) (.slice none 0 0) (.slice none 0 0)) 65 (0, 0)) := by rw [hf1.block sb (by omega) hXs]; exact hb0
  have hF1 := hF0.up hf1
  have hz1 := hf1.size
  have x1 := hx1.a
  obtain ⟨-, -, c2, -⟩ := hp1.cells
  have hdr : Fr w1.heap.size [] w1 w1.drew := (Fr.refl _ _ _).drew
  have hpd := hp1.same hdr
  go_still_tail 5, (by kernel_rfl)
  go_wp2_with (go_at_call 87; refine (bound_ok (C := C) c 24 hc).mono ?_; rintro e w2 ⟨rfl, hw2⟩; have hp2 : PS C w2 (i + 1) c ins 0 := (by rw [hw2]; exact hpd); have hf2 : Fr w1.heap.size [] w1 w2 := (by rw [hw2]; exact hdr); clear hw2; have hx2 := hx1.carry ((hf2.wide (X := [C.rb])).x (B := w.heap.size + 2) (by omega)); have y1 := hx2.a; obtain ⟨-, -, d2, -⟩ := hp2.cells; have z2 := hp2.frozen 2; have hz2 := hf2.size)
  obtain ⟨hp3, hf3⟩ := hp2.more
  have hx3 := hx2.carry (hf3.x (B := w.heap.size + 2) (by omega))
  have hb3 : (w2.setCell ⟨C.rb, 2, none⟩ (.int .i64 ((c : Int) + 1))).heap[sb]? = some (.cells (stA [] fi la (.slice none 0 0) (.slice none 0 0) (.slice none 0 0) (.pointer none) (.slice none 0 0) (.slice none 0 0)) 65 (0, 0)) := by rw [hf3.block sb (by omega) hXs, hf2.block sb (by omega) (by simp)]; exact hb1
  have hF3 := (hF1.up hf2.wide).up hf3
  have hz3 := hf3.size
  clear d2 z2 y1 x1 c2
  generalize (w2.setCell ⟨C.rb, 2, none⟩ (.int .i64 ((c : Int) + 1))) = w3 at hp3 hf3 hx3 hb3 hF3 hz3 ⊢
  have hd3 : Fr w3.heap.size [] w3 w3.drew := (Fr.refl _ _ _).drew
  have hp3d := hp3.same hd3
  have a3 := hx3.a
  have b3 := hx3.b
  go_region_law
    (go_simp
     go_at_call 82
     refine (name_any hp3d).mono ?_
     rintro e w4 h4
     rcases h4.cases with ⟨f, hr4, q, rfl, hq⟩ | ⟨s4, v4, hr4, rfl, ⟨rfl, hp4⟩, hf4⟩
     · exact ⟨rfl, by rw [(HE _ hr4 (need_ok hr1)).out]; exact Thrown.x ⟨q, rfl, hq⟩ ((hF3.x (Nat.le_refl _)).drew) (by (show w.heap.size ≤ w3.heap.size); omega) (by simp)⟩
     rw [sv]
     have hf34 : Fr w3.heap.size [C.rb] w3 w4 := hd3.wide.up hf4
     have hx4 := hx3.carry (hf34.x (B := w.heap.size + 2) (by omega))
     have a4 := hx4.a
     have b4 := hx4.b
     have hb4 : w4.heap[sb]? = some (.cells (stA [] fi la (.slice none 0 0) (.slice none 0 0) (.slice none 0 0) (.pointer none) (.slice none 0 0) (.slice none 0 0)) 65 (0, 0)) := by rw [hf34.block sb (by omega) hXs]; exact hb3
     obtain ⟨s0, zs0⟩ := cel hb4 0 (.string ⟨#[]⟩) rfl
     have hz4 := hf34.size
     have hp5 := hp4.put hsb 0 (.string ⟨s4.toArray⟩)
     have hb5 : (w4.setCell ⟨sb, 0, none⟩ (.string ⟨s4.toArray⟩)).heap[sb]? = some (.cells (stA s4 fi la (.slice none 0 0) (.slice none 0 0) (.slice none 0 0) (.pointer none) (.slice none 0 0) (.slice none 0 0)) 65 (0, 0)) := heap_setCell_same w4 sb 0 _ 65 _ hb4
     have hF5 := ((hF3.up hf34).x (sb := sb) (Nat.le_refl _)).setCell (p := ⟨sb, 0, none⟩) (.inr (by simp)) (.string ⟨s4.toArray⟩)
     have hx5 := hx4.carry (((Fr.refl (w.heap.size + 2) [C.rb, sb] w4)).setCell (p := ⟨sb, 0, none⟩) (.inr (by simp)) (.string ⟨s4.toArray⟩))
     have a5 := hx5.a
     have b5 := hx5.b)
  all_goals
    go_wp2_with (go_at_call 89; refine (take_yes hp5 ⟨#[59]⟩ HSE.out (by decide)).mono ?_; rintro e w6 ⟨rfl, hp6, hf6⟩)
    first
      | go_end0
      | refine bodyPost_ret (results_none rfl _ _ _) rfl ?_
    rw [(HO _ hr4 (need_ok hr1)).out]
    exact ⟨_, rfl, ⟨rfl, hp6, ⟨_, _, _, _, _, _, _, _, _, _, _, SU.start (by rw [hf6.block sb (by simp; omega) hXs]; exact hb5)⟩⟩, hF5.trans (hf6.x (by simp; omega))⟩

set_option maxRecDepth 100000 in
set_option maxHeartbeats 8000000 in
theorem state_brace {C : Ctx} {k sb ins i c : Nat} {w : World} {fi la : Bool} (h : PS C w i c ins 0) (hsb : C.rb < sb) (hs0 : w.heap[sb]? = some (.cells (stA [] fi la (.slice none 0 0) (.slice none 0 0) (.slice none 0 0) (.pointer none) (.slice none 0 0) (.slice none 0 0)) 65 (0, 0))) (hc : c < 24) (hse : tx C.L (i + 2) ≠ kSemi) (hR : Region C k) (hk : ins + k = 6) : Calls Tryz.prog 136 #[.pointer (some ⟨C.rb, 0, none⟩), .pointer (some ⟨sb, 0, none⟩)] w (OutX w.heap.size [C.rb, sb] (StOk C k (w.heap.size + 2) sb ins) w (state C.L (St k) (region C.L k) fi la c i)) := by
  have hC := h.lts.1
  have hsl := lt_of_block hs0
  obtain ⟨hpa, hfa⟩ := h.alloc (.cells #[.pointer (some ⟨C.rb, 0, none⟩)] 153)
  obtain ⟨hp0, hfb⟩ := hpa.alloc (.cells #[.pointer (some ⟨sb, 0, none⟩)] 215)
  have hF0 := hfa.up hfb
  have hz0 : ((w.alloc (.cells #[.pointer (some ⟨C.rb, 0, none⟩)] 153)).alloc (.cells #[.pointer (some ⟨sb, 0, none⟩)] 215)).heap.size = w.heap.size + 2 := by simp
  have hx0 : Boxes C (w.heap.size + 2) sb w.heap.size (w.heap.size + 1) ((w.alloc (.cells #[.pointer (some ⟨C.rb, 0, none⟩)] 153)).alloc (.cells #[.pointer (some ⟨sb, 0, none⟩)] 215)) := ⟨by simp, by simp, by omega, by omega, by simp; omega, by simp; omega⟩
  have hb0 : ((w.alloc (.cells #[.pointer (some ⟨C.rb, 0, none⟩)] 153)).alloc (.cells #[.pointer (some ⟨sb, 0, none⟩)] 215)).heap[sb]? = some (.cells (stA [] fi la (.slice none 0 0) (.slice none 0 0) (.slice none 0 0) (.pointer none) (.slice none 0 0) (.slice none 0 0)) 65 (0, 0)) := by rw [hF0.block sb hsl (by simp; omega)]; exact hs0
  have hXs : sb ∉ [C.rb] := by simp; omega
  have hmf : ∀ (fn : Fn) (first cap : Array Value) (w : World), (Instr.makeFunc fn first cap).run Tryz.prog w = .ok (.func fn first cap) w := fun _ _ _ _ => rfl
  have HO : ∀ s, Hid (nm C.L (i + 1) = .ok s) → tx C.L i = kState → Hid (state C.L (St k) (region C.L k) fi la c i = if tx C.L (i + 2) = kOpen then parts C.L (St k) (region C.L k) C.L.length ⟨s, fi, la, [], [], [], .nil, [], []⟩ (c + 1) (i + 2 + 1) else .error (3, pl C.L (i + 2))) := fun s hs ht => by rw [Hid, state, if_pos ht, if_neg (by omega), hs.out]; simp only; rw [if_neg hse]
  have HE : ∀ f, Hid (nm C.L (i + 1) = .error f) → tx C.L i = kState → Hid (state C.L (St k) (region C.L k) fi la c i = .error f) := fun f hs ht => by rw [Hid, state, if_pos ht, if_neg (by omega), hs.out]
  have HSE : Hid (tx C.L (i + 2) ≠ bs ⟨#[59]⟩) := hse
  clear hse
  go_enter Tryz.func136, Tryz.ntmps136
  go_wp2_with (go_at_call 81; refine (need_any hp0 ⟨#[115, 116, 97, 116, 101]⟩ kState rfl (by decide)).mono ?_; rintro e w1 h1; rcases h1.cases with ⟨f, hr1, q, rfl, hq⟩ | ⟨_, v1, hr1, rfl, ⟨rfl, hp1⟩, hf1⟩; (· exact ⟨rfl, by rw [state, if_neg (need_bad hr1).1, ← (need_bad hr1).2]; exact Thrown.x ⟨q, rfl, hq⟩ (hF0.x (Nat.le_refl _)) (by omega) (by simp)⟩))
  have hx1 := hx0.carry (hf1.x (by omega))
  have hb1 : w1.heap[sb]? = some (.cells (stA [] fi la (.slice none 0 0) (.slice none 0 0) (.slice none 0 0) (.pointer none) (.slice none 0 0) (.slice none 0 0)) 65 (0, 0)) := by rw [hf1.block sb (by omega) hXs]; exact hb0
  have hF1 := hF0.up hf1
  have hz1 := hf1.size
  have x1 := hx1.a
  obtain ⟨-, -, c2, -⟩ := hp1.cells
  have hdr : Fr w1.heap.size [] w1 w1.drew := (Fr.refl _ _ _).drew
  have hpd := hp1.same hdr
  go_still_tail 5, (by kernel_rfl)
  go_wp2_with (go_at_call 87; refine (bound_ok (C := C) c 24 hc).mono ?_; rintro e w2 ⟨rfl, hw2⟩; have hp2 : PS C w2 (i + 1) c ins 0 := (by rw [hw2]; exact hpd); have hf2 : Fr w1.heap.size [] w1 w2 := (by rw [hw2]; exact hdr); clear hw2; have hx2 := hx1.carry ((hf2.wide (X := [C.rb])).x (B := w.heap.size + 2) (by omega)); have y1 := hx2.a; obtain ⟨-, -, d2, -⟩ := hp2.cells; have z2 := hp2.frozen 2; have hz2 := hf2.size)
  obtain ⟨hp3, hf3⟩ := hp2.more
  have hx3 := hx2.carry (hf3.x (B := w.heap.size + 2) (by omega))
  have hb3 : (w2.setCell ⟨C.rb, 2, none⟩ (.int .i64 ((c : Int) + 1))).heap[sb]? = some (.cells (stA [] fi la (.slice none 0 0) (.slice none 0 0) (.slice none 0 0) (.pointer none) (.slice none 0 0) (.slice none 0 0)) 65 (0, 0)) := by rw [hf3.block sb (by omega) hXs, hf2.block sb (by omega) (by simp)]; exact hb1
  have hF3 := (hF1.up hf2.wide).up hf3
  have hz3 := hf3.size
  clear d2 z2 y1 x1 c2
  generalize (w2.setCell ⟨C.rb, 2, none⟩ (.int .i64 ((c : Int) + 1))) = w3 at hp3 hf3 hx3 hb3 hF3 hz3 ⊢
  have hd3 : Fr w3.heap.size [] w3 w3.drew := (Fr.refl _ _ _).drew
  have hp3d := hp3.same hd3
  have a3 := hx3.a
  have b3 := hx3.b
  go_region_law
    (go_simp
     go_at_call 82
     refine (name_any hp3d).mono ?_
     rintro e w4 h4
     rcases h4.cases with ⟨f, hr4, q, rfl, hq⟩ | ⟨s4, v4, hr4, rfl, ⟨rfl, hp4⟩, hf4⟩
     · exact ⟨rfl, by rw [(HE _ hr4 (need_ok hr1)).out]; exact Thrown.x ⟨q, rfl, hq⟩ ((hF3.x (Nat.le_refl _)).drew) (by (show w.heap.size ≤ w3.heap.size); omega) (by simp)⟩
     rw [sv]
     have hf34 : Fr w3.heap.size [C.rb] w3 w4 := hd3.wide.up hf4
     have hx4 := hx3.carry (hf34.x (B := w.heap.size + 2) (by omega))
     have a4 := hx4.a
     have b4 := hx4.b
     have hb4 : w4.heap[sb]? = some (.cells (stA [] fi la (.slice none 0 0) (.slice none 0 0) (.slice none 0 0) (.pointer none) (.slice none 0 0) (.slice none 0 0)) 65 (0, 0)) := by rw [hf34.block sb (by omega) hXs]; exact hb3
     obtain ⟨s0, zs0⟩ := cel hb4 0 (.string ⟨#[]⟩) rfl
     have hz4 := hf34.size
     have hp5 := hp4.put hsb 0 (.string ⟨s4.toArray⟩)
     have hb5 : (w4.setCell ⟨sb, 0, none⟩ (.string ⟨s4.toArray⟩)).heap[sb]? = some (.cells (stA s4 fi la (.slice none 0 0) (.slice none 0 0) (.slice none 0 0) (.pointer none) (.slice none 0 0) (.slice none 0 0)) 65 (0, 0)) := heap_setCell_same w4 sb 0 _ 65 _ hb4
     have hF5 := ((hF3.up hf34).x (sb := sb) (Nat.le_refl _)).setCell (p := ⟨sb, 0, none⟩) (.inr (by simp)) (.string ⟨s4.toArray⟩)
     have hx5 := hx4.carry (((Fr.refl (w.heap.size + 2) [C.rb, sb] w4)).setCell (p := ⟨sb, 0, none⟩) (.inr (by simp)) (.string ⟨s4.toArray⟩))
     have a5 := hx5.a
     have b5 := hx5.b)
  all_goals
    go_wp2_with (first
      | (go_at_call 89; refine (take_no hp5 ⟨#[59]⟩ HSE.out).mono ?_; rintro e w6 ⟨rfl, hp6, hf6⟩; have hz6 := hf6.size; have hx6 := hx5.carry ((hf6.wide (X := [C.rb])).x (B := w.heap.size + 2) (by simp; omega)); have q1 := hx6.a; have hS6 : SUx k (w.heap.size + 2) sb w6 ⟨s4, fi, la, [], [], [], .nil, [], []⟩ := ⟨_, _, _, _, _, _, _, _, _, _, _, SU.start (by rw [hf6.block sb (by simp; omega) (by simp)]; exact hb5)⟩; have hE6 : Env C (w.heap.size + 2) sb w6 := ⟨by omega, by omega, hsb, by simp at hz6; omega⟩)
      | (go_at_call 83; refine (brace_state hp6 hE6 hS6 ⟨by simp, by simp, by simp, by simp, by simp⟩ hR hk hx6).mono ?_; rintro e w7 h7; rcases h7.cases with ⟨f, hr7, q, rfl, hq⟩ | ⟨x7, v7, hr7, rfl, ⟨rfl, hp7, hS7⟩, hf7⟩; (· exact ⟨rfl, by rw [(HO _ hr4 (need_ok hr1)).out, hr7.out]; obtain ⟨q1, q2, q3⟩ := hq; exact ⟨q, rfl, q1, by (simp at hz6; have := hF5.size; simp at this; omega), (hF5.trans ((hf6.wide (X := [C.rb])).x (by simp; omega))).trans (q3.mono (by omega) (fun _ hx _ => hx))⟩⟩)))
    go_end0
    rw [(HO _ hr4 (need_ok hr1)).out, hr7.out]
    exact ⟨_, rfl, ⟨rfl, hp7, hS7⟩, (hF5.trans ((hf6.wide (X := [C.rb])).x (by simp; omega))).trans (hf7.mono (by omega) (fun _ hx _ => hx))⟩


theorem state_any {C : Ctx} {k sb ins i c : Nat} {w : World} {fi la : Bool} (h : PS C w i c ins 0) (hsb : C.rb < sb) (hs0 : w.heap[sb]? = some (.cells (stA [] fi la (.slice none 0 0) (.slice none 0 0) (.slice none 0 0) (.pointer none) (.slice none 0 0) (.slice none 0 0)) 65 (0, 0))) (hR : Region C k) (hk : ins + k = 6) : Calls Tryz.prog 136 #[.pointer (some ⟨C.rb, 0, none⟩), .pointer (some ⟨sb, 0, none⟩)] w (OutX w.heap.size [C.rb, sb] (StOk C k (w.heap.size + 2) sb ins) w (state C.L (St k) (region C.L k) fi la c i)) := by
  by_cases hc : 24 ≤ c
  · exact state_full h hsb hs0 hc
  · by_cases hse : tx C.L (i + 2) = kSemi
    · exact state_semi h hsb hs0 (by omega) hse
    · exact state_brace h hsb hs0 (by omega) hse hR hk
end Go.Proofs.YtobamalnbjbmiaaGreatDoor
