/- state, whole. -/
import Derived.Test.YtiihgnagjemikaaGreatDoorVPstate
import Derived.StillTailTactics
import Derived.Deep.RegionHeld3
import Derived.Deep.DeepCutAuto
namespace Go.Proofs.YtiihgnagjemikaaGreatDoor
open Go.RowKit Px

set_option maxRecDepth 100000 in
set_option maxHeartbeats 4000000 in
theorem state_full {C : Ctx} {k sb ins i c : Nat} {w : World} {fi la : Bool} (h : PS C w i c ins 0) (hsb : C.rb < sb) (hs0 : w.heap[sb]? = some (.cells (stA [] fi la (.slice none 0 0) (.slice none 0 0) (.slice none 0 0) (.pointer none) (.slice none 0 0) (.slice none 0 0)) 169 (0, 0))) (hc : 24 ≤ c) : Calls Tryz.prog 96 #[.pointer (some ⟨C.rb, 0, none⟩), .pointer (some ⟨sb, 0, none⟩)] w (OutX w.heap.size [C.rb, sb] (StOk C k (w.heap.size + 2) sb ins) w (state C.L (St k) (region C.L k) fi la c i)) := by
  have hC := h.lts.1
  have hsl := lt_of_block hs0
  obtain ⟨hpa, hfa⟩ := h.alloc (.cells #[.pointer (some ⟨C.rb, 0, none⟩)] 127)
  obtain ⟨hp0, hfb⟩ := hpa.alloc (.cells #[.pointer (some ⟨sb, 0, none⟩)] 171)
  have hF0 := hfa.up hfb
  have hz0 : ((w.alloc (.cells #[.pointer (some ⟨C.rb, 0, none⟩)] 127)).alloc (.cells #[.pointer (some ⟨sb, 0, none⟩)] 171)).heap.size = w.heap.size + 2 := by simp
  have hx0 : Boxes C (w.heap.size + 2) sb w.heap.size (w.heap.size + 1) ((w.alloc (.cells #[.pointer (some ⟨C.rb, 0, none⟩)] 127)).alloc (.cells #[.pointer (some ⟨sb, 0, none⟩)] 171)) := ⟨by simp, by simp, by omega, by omega, by simp; omega, by simp; omega⟩
  have hb0 : ((w.alloc (.cells #[.pointer (some ⟨C.rb, 0, none⟩)] 127)).alloc (.cells #[.pointer (some ⟨sb, 0, none⟩)] 171)).heap[sb]? = some (.cells (stA [] fi la (.slice none 0 0) (.slice none 0 0) (.slice none 0 0) (.pointer none) (.slice none 0 0) (.slice none 0 0)) 169 (0, 0)) := by rw [hF0.block sb hsl (by simp; omega)]; exact hs0
  have hXs : sb ∉ [C.rb] := by simp; omega
  go_enter Tryz.func96, Tryz.ntmps96
  go_wp2_with (go_at_call 57; refine (need_any hp0 ⟨#[115, 116, 97, 116, 101]⟩ kState rfl (by decide)).mono ?_; rintro e w1 h1; rcases h1.cases with ⟨f, hr1, q, rfl, hq⟩ | ⟨_, v1, hr1, rfl, ⟨rfl, hp1⟩, hf1⟩; (· exact ⟨rfl, by rw [state, if_neg (need_bad hr1).1, ← (need_bad hr1).2]; exact Thrown.x ⟨q, rfl, hq⟩ (hF0.x (Nat.le_refl _)) (by omega) (by simp)⟩))
  have hx1 := hx0.carry (hf1.x (by omega))
  have hb1 : w1.heap[sb]? = some (.cells (stA [] fi la (.slice none 0 0) (.slice none 0 0) (.slice none 0 0) (.pointer none) (.slice none 0 0) (.slice none 0 0)) 169 (0, 0)) := by rw [hf1.block sb (by omega) hXs]; exact hb0
  have hF1 := hF0.up hf1
  have hz1 := hf1.size
  have x1 := hx1.a
  obtain ⟨-, -, c2, -⟩ := hp1.cells
  have hdr : Fr w1.heap.size [] w1 w1.drew := (Fr.refl _ _ _).drew
  have hpd := hp1.same hdr
  go_still_tail 5, (by kernel_rfl)
  go_wp2_with (go_at_call 63; refine (bound_bad hpd c 24 hc).mono ?_; rintro e w2 ⟨q, rfl, hq⟩; exact ⟨rfl, by rw [state, if_pos (need_ok hr1), if_pos hc]; exact Thrown.x ⟨q, rfl, hq⟩ ((hF1.x (Nat.le_refl _)).drew) (by (show w.heap.size ≤ w1.heap.size); omega) (by simp)⟩)

set_option maxRecDepth 100000 in
set_option maxHeartbeats 8000000 in
theorem state_semi {C : Ctx} {k sb ins i c : Nat} {w : World} {fi la : Bool} (h : PS C w i c ins 0) (hsb : C.rb < sb) (hs0 : w.heap[sb]? = some (.cells (stA [] fi la (.slice none 0 0) (.slice none 0 0) (.slice none 0 0) (.pointer none) (.slice none 0 0) (.slice none 0 0)) 169 (0, 0))) (hc : c < 24) (hse : tx C.L (i + 2) = kSemi) : Calls Tryz.prog 96 #[.pointer (some ⟨C.rb, 0, none⟩), .pointer (some ⟨sb, 0, none⟩)] w (OutX w.heap.size [C.rb, sb] (StOk C k (w.heap.size + 2) sb ins) w (state C.L (St k) (region C.L k) fi la c i)) := by
  have hC := h.lts.1
  have hsl := lt_of_block hs0
  obtain ⟨hpa, hfa⟩ := h.alloc (.cells #[.pointer (some ⟨C.rb, 0, none⟩)] 127)
  obtain ⟨hp0, hfb⟩ := hpa.alloc (.cells #[.pointer (some ⟨sb, 0, none⟩)] 171)
  have hF0 := hfa.up hfb
  have hz0 : ((w.alloc (.cells #[.pointer (some ⟨C.rb, 0, none⟩)] 127)).alloc (.cells #[.pointer (some ⟨sb, 0, none⟩)] 171)).heap.size = w.heap.size + 2 := by simp
  have hx0 : Boxes C (w.heap.size + 2) sb w.heap.size (w.heap.size + 1) ((w.alloc (.cells #[.pointer (some ⟨C.rb, 0, none⟩)] 127)).alloc (.cells #[.pointer (some ⟨sb, 0, none⟩)] 171)) := ⟨by simp, by simp, by omega, by omega, by simp; omega, by simp; omega⟩
  have hb0 : ((w.alloc (.cells #[.pointer (some ⟨C.rb, 0, none⟩)] 127)).alloc (.cells #[.pointer (some ⟨sb, 0, none⟩)] 171)).heap[sb]? = some (.cells (stA [] fi la (.slice none 0 0) (.slice none 0 0) (.slice none 0 0) (.pointer none) (.slice none 0 0) (.slice none 0 0)) 169 (0, 0)) := by rw [hF0.block sb hsl (by simp; omega)]; exact hs0
  have hXs : sb ∉ [C.rb] := by simp; omega
  have hmf : ∀ (fn : Fn) (first cap : Array Value) (w : World), (Instr.makeFunc fn first cap).run Tryz.prog w = .ok (.func fn first cap) w := fun _ _ _ _ => rfl
  have HO : ∀ s, Hid (nm C.L (i + 1) = .ok s) → tx C.L i = kState → Hid (state C.L (St k) (region C.L k) fi la c i = .ok (⟨s, fi, la, [], [], [], .nil, [], []⟩, c + 1, i + 3)) := fun s hs ht => by rw [Hid, state, if_pos ht, if_neg (by omega), hs.out]; simp only; rw [if_pos hse]
  have HE : ∀ f, Hid (nm C.L (i + 1) = .error f) → tx C.L i = kState → Hid (state C.L (St k) (region C.L k) fi la c i = .error f) := fun f hs ht => by rw [Hid, state, if_pos ht, if_neg (by omega), hs.out]
  have HSE : Hid _ := hse
  clear hse
  go_enter Tryz.func96, Tryz.ntmps96
  go_wp2_with (go_at_call 57; refine (need_any hp0 ⟨#[115, 116, 97, 116, 101]⟩ kState rfl (by decide)).mono ?_; rintro e w1 h1; rcases h1.cases with ⟨f, hr1, q, rfl, hq⟩ | ⟨_, v1, hr1, rfl, ⟨rfl, hp1⟩, hf1⟩; (· exact ⟨rfl, by rw [state, if_neg (need_bad hr1).1, ← (need_bad hr1).2]; exact Thrown.x ⟨q, rfl, hq⟩ (hF0.x (Nat.le_refl _)) (by omega) (by simp)⟩))
  have hx1 := hx0.carry (hf1.x (by omega))
  have hb1 : w1.heap[sb]? = some (.cells (stA [] fi la (.slice none 0 0) (.slice none 0 0) (.slice none 0 0) (.pointer none) (.slice none 0 0) (.slice none 0 0)) 169 (0, 0)) := by rw [hf1.block sb (by omega) hXs]; exact hb0
  have hF1 := hF0.up hf1
  have hz1 := hf1.size
  have x1 := hx1.a
  obtain ⟨-, -, c2, -⟩ := hp1.cells
  have hdr : Fr w1.heap.size [] w1 w1.drew := (Fr.refl _ _ _).drew
  have hpd := hp1.same hdr
  go_still_tail 5, (by kernel_rfl)
  go_wp2_with (go_at_call 63; refine (bound_ok (C := C) c 24 hc).mono ?_; rintro e w2 ⟨rfl, hw2⟩; have hp2 : PS C w2 (i + 1) c ins 0 := (by rw [hw2]; exact hpd); have hf2 : Fr w1.heap.size [] w1 w2 := (by rw [hw2]; exact hdr); clear hw2; have hx2 := hx1.carry ((hf2.wide (X := [C.rb])).x (B := w.heap.size + 2) (by omega)); have y1 := hx2.a; obtain ⟨-, -, d2, -⟩ := hp2.cells; have z2 := hp2.frozen 2; have hz2 := hf2.size)
  obtain ⟨hp3, hf3⟩ := hp2.more
  have hx3 := hx2.carry (hf3.x (B := w.heap.size + 2) (by omega))
  have hb3 : (w2.setCell ⟨C.rb, 2, none⟩ (.int .i64 ((c : Int) + 1))).heap[sb]? = some (.cells (stA [] fi la (.slice none 0 0) (.slice none 0 0) (.slice none 0 0) (.pointer none) (.slice none 0 0) (.slice none 0 0)) 169 (0, 0)) := by rw [hf3.block sb (by omega) hXs, hf2.block sb (by omega) (by simp)]; exact hb1
  have hF3 := (hF1.up hf2.wide).up hf3
  have hz3 := hf3.size
  clear d2 z2 y1 x1 c2
  generalize (w2.setCell ⟨C.rb, 2, none⟩ (.int .i64 ((c : Int) + 1))) = w3 at hp3 hf3 hx3 hb3 hF3 hz3 ⊢
  have hd3 : Fr w3.heap.size [] w3 w3.drew := (Fr.refl _ _ _).drew
  have hp3d := hp3.same hd3
  have a3 := hx3.a
  have b3 := hx3.b
  go_region_law
    (go_simp
     go_at_call 58
     refine (name_any hp3d).mono ?_
     rintro e w4 h4
     rcases h4.cases with ⟨f, hr4, q, rfl, hq⟩ | ⟨s4, v4, hr4, rfl, ⟨rfl, hp4⟩, hf4⟩
     · exact ⟨rfl, by rw [(HE _ hr4 (need_ok hr1)).out]; exact Thrown.x ⟨q, rfl, hq⟩ ((hF3.x (Nat.le_refl _)).drew) (by (show w.heap.size ≤ w3.heap.size); omega) (by simp)⟩
     rw [sv]
     have hf34 := hd3.wide.up hf4
     have hx4 := hx3.carry (hf34.x (B := w.heap.size + 2) (by omega))
     have a4 := hx4.a
     have b4 := hx4.b
     have hb4 : w4.heap[sb]? = some (.cells (stA [] fi la (.slice none 0 0) (.slice none 0 0) (.slice none 0 0) (.pointer none) (.slice none 0 0) (.slice none 0 0)) 169 (0, 0)) := by rw [hf34.block sb (by omega) hXs]; exact hb3
     obtain ⟨s0, zs0⟩ := cel hb4 0 (.string ⟨#[]⟩) rfl
     have hz4 := hf34.size
     have hp5 := hp4.put hsb 0 (.string ⟨s4.toArray⟩)
     have hb5 : (w4.setCell ⟨sb, 0, none⟩ (.string ⟨s4.toArray⟩)).heap[sb]? = some (.cells (stA s4 fi la (.slice none 0 0) (.slice none 0 0) (.slice none 0 0) (.pointer none) (.slice none 0 0) (.slice none 0 0)) 169 (0, 0)) := heap_setCell_same w4 sb 0 _ 169 _ hb4
     have hF5 := ((hF3.up hf34).x (sb := sb) (Nat.le_refl _)).setCell (p := ⟨sb, 0, none⟩) (.inr (by simp)) (.string ⟨s4.toArray⟩)
     have hx5 := hx4.carry (((Fr.refl (w.heap.size + 2) [C.rb, sb] w4)).setCell (p := ⟨sb, 0, none⟩) (.inr (by simp)) (.string ⟨s4.toArray⟩))
     have a5 := hx5.a
     have b5 := hx5.b)
  all_goals
    go_wp2_with (go_at_call 65; refine (take_yes hp5 ⟨#[59]⟩ HSE.out (by decide)).mono ?_; rintro e w6 ⟨rfl, hp6, hf6⟩)
    first
      | go_end0
      | refine bodyPost_ret (results_none rfl _ _ _) rfl ?_
    rw [(HO _ hr4 (need_ok hr1)).out]
    exact ⟨_, rfl, ⟨rfl, hp6, ⟨_, _, _, _, _, _, _, _, _, _, _, SU.start (by rw [hf6.block sb (by simp; omega) hXs]; exact hb5)⟩⟩, hF5.trans (hf6.x (by simp; omega))⟩

set_option maxRecDepth 100000 in
set_option maxHeartbeats 8000000 in
theorem state_brace {C : Ctx} {k sb ins i c : Nat} {w : World} {fi la : Bool} (h : PS C w i c ins 0) (hsb : C.rb < sb) (hs0 : w.heap[sb]? = some (.cells (stA [] fi la (.slice none 0 0) (.slice none 0 0) (.slice none 0 0) (.pointer none) (.slice none 0 0) (.slice none 0 0)) 169 (0, 0))) (hc : c < 24) (hse : tx C.L (i + 2) ≠ kSemi) (hR : Region C k) (hk : ins + k = 6) : Calls Tryz.prog 96 #[.pointer (some ⟨C.rb, 0, none⟩), .pointer (some ⟨sb, 0, none⟩)] w (OutX w.heap.size [C.rb, sb] (StOk C k (w.heap.size + 2) sb ins) w (state C.L (St k) (region C.L k) fi la c i)) := by
  have hC := h.lts.1
  have hsl := lt_of_block hs0
  obtain ⟨hpa, hfa⟩ := h.alloc (.cells #[.pointer (some ⟨C.rb, 0, none⟩)] 127)
  obtain ⟨hp0, hfb⟩ := hpa.alloc (.cells #[.pointer (some ⟨sb, 0, none⟩)] 171)
  have hF0 := hfa.up hfb
  have hz0 : ((w.alloc (.cells #[.pointer (some ⟨C.rb, 0, none⟩)] 127)).alloc (.cells #[.pointer (some ⟨sb, 0, none⟩)] 171)).heap.size = w.heap.size + 2 := by simp
  have hx0 : Boxes C (w.heap.size + 2) sb w.heap.size (w.heap.size + 1) ((w.alloc (.cells #[.pointer (some ⟨C.rb, 0, none⟩)] 127)).alloc (.cells #[.pointer (some ⟨sb, 0, none⟩)] 171)) := ⟨by simp, by simp, by omega, by omega, by simp; omega, by simp; omega⟩
  have hb0 : ((w.alloc (.cells #[.pointer (some ⟨C.rb, 0, none⟩)] 127)).alloc (.cells #[.pointer (some ⟨sb, 0, none⟩)] 171)).heap[sb]? = some (.cells (stA [] fi la (.slice none 0 0) (.slice none 0 0) (.slice none 0 0) (.pointer none) (.slice none 0 0) (.slice none 0 0)) 169 (0, 0)) := by rw [hF0.block sb hsl (by simp; omega)]; exact hs0
  have hXs : sb ∉ [C.rb] := by simp; omega
  have hmf : ∀ (fn : Fn) (first cap : Array Value) (w : World), (Instr.makeFunc fn first cap).run Tryz.prog w = .ok (.func fn first cap) w := fun _ _ _ _ => rfl
  have HO : ∀ s, Hid (nm C.L (i + 1) = .ok s) → tx C.L i = kState → Hid (state C.L (St k) (region C.L k) fi la c i = if tx C.L (i + 2) = kOpen then parts C.L (St k) (region C.L k) C.L.length ⟨s, fi, la, [], [], [], .nil, [], []⟩ (c + 1) (i + 2 + 1) else .error (3, pl C.L (i + 2))) := fun s hs ht => by rw [Hid, state, if_pos ht, if_neg (by omega), hs.out]; simp only; rw [if_neg hse]
  have HE : ∀ f, Hid (nm C.L (i + 1) = .error f) → tx C.L i = kState → Hid (state C.L (St k) (region C.L k) fi la c i = .error f) := fun f hs ht => by rw [Hid, state, if_pos ht, if_neg (by omega), hs.out]
  have HSE : Hid _ := hse
  clear hse
  go_enter Tryz.func96, Tryz.ntmps96
  go_wp2_with (go_at_call 57; refine (need_any hp0 ⟨#[115, 116, 97, 116, 101]⟩ kState rfl (by decide)).mono ?_; rintro e w1 h1; rcases h1.cases with ⟨f, hr1, q, rfl, hq⟩ | ⟨_, v1, hr1, rfl, ⟨rfl, hp1⟩, hf1⟩; (· exact ⟨rfl, by rw [state, if_neg (need_bad hr1).1, ← (need_bad hr1).2]; exact Thrown.x ⟨q, rfl, hq⟩ (hF0.x (Nat.le_refl _)) (by omega) (by simp)⟩))
  have hx1 := hx0.carry (hf1.x (by omega))
  have hb1 : w1.heap[sb]? = some (.cells (stA [] fi la (.slice none 0 0) (.slice none 0 0) (.slice none 0 0) (.pointer none) (.slice none 0 0) (.slice none 0 0)) 169 (0, 0)) := by rw [hf1.block sb (by omega) hXs]; exact hb0
  have hF1 := hF0.up hf1
  have hz1 := hf1.size
  have x1 := hx1.a
  obtain ⟨-, -, c2, -⟩ := hp1.cells
  have hdr : Fr w1.heap.size [] w1 w1.drew := (Fr.refl _ _ _).drew
  have hpd := hp1.same hdr
  go_still_tail 5, (by kernel_rfl)
  go_wp2_with (go_at_call 63; refine (bound_ok (C := C) c 24 hc).mono ?_; rintro e w2 ⟨rfl, hw2⟩; have hp2 : PS C w2 (i + 1) c ins 0 := (by rw [hw2]; exact hpd); have hf2 : Fr w1.heap.size [] w1 w2 := (by rw [hw2]; exact hdr); clear hw2; have hx2 := hx1.carry ((hf2.wide (X := [C.rb])).x (B := w.heap.size + 2) (by omega)); have y1 := hx2.a; obtain ⟨-, -, d2, -⟩ := hp2.cells; have z2 := hp2.frozen 2; have hz2 := hf2.size)
  obtain ⟨hp3, hf3⟩ := hp2.more
  have hx3 := hx2.carry (hf3.x (B := w.heap.size + 2) (by omega))
  have hb3 : (w2.setCell ⟨C.rb, 2, none⟩ (.int .i64 ((c : Int) + 1))).heap[sb]? = some (.cells (stA [] fi la (.slice none 0 0) (.slice none 0 0) (.slice none 0 0) (.pointer none) (.slice none 0 0) (.slice none 0 0)) 169 (0, 0)) := by rw [hf3.block sb (by omega) hXs, hf2.block sb (by omega) (by simp)]; exact hb1
  have hF3 := (hF1.up hf2.wide).up hf3
  have hz3 := hf3.size
  clear d2 z2 y1 x1 c2
  generalize (w2.setCell ⟨C.rb, 2, none⟩ (.int .i64 ((c : Int) + 1))) = w3 at hp3 hf3 hx3 hb3 hF3 hz3 ⊢
  have hd3 : Fr w3.heap.size [] w3 w3.drew := (Fr.refl _ _ _).drew
  have hp3d := hp3.same hd3
  have a3 := hx3.a
  have b3 := hx3.b
  go_region_law
    (go_simp
     go_at_call 58
     refine (name_any hp3d).mono ?_
     rintro e w4 h4
     rcases h4.cases with ⟨f, hr4, q, rfl, hq⟩ | ⟨s4, v4, hr4, rfl, ⟨rfl, hp4⟩, hf4⟩
     · exact ⟨rfl, by rw [(HE _ hr4 (need_ok hr1)).out]; exact Thrown.x ⟨q, rfl, hq⟩ ((hF3.x (Nat.le_refl _)).drew) (by (show w.heap.size ≤ w3.heap.size); omega) (by simp)⟩
     rw [sv]
     have hf34 := hd3.wide.up hf4
     have hx4 := hx3.carry (hf34.x (B := w.heap.size + 2) (by omega))
     have a4 := hx4.a
     have b4 := hx4.b
     have hb4 : w4.heap[sb]? = some (.cells (stA [] fi la (.slice none 0 0) (.slice none 0 0) (.slice none 0 0) (.pointer none) (.slice none 0 0) (.slice none 0 0)) 169 (0, 0)) := by rw [hf34.block sb (by omega) hXs]; exact hb3
     obtain ⟨s0, zs0⟩ := cel hb4 0 (.string ⟨#[]⟩) rfl
     have hz4 := hf34.size
     have hp5 := hp4.put hsb 0 (.string ⟨s4.toArray⟩)
     have hb5 : (w4.setCell ⟨sb, 0, none⟩ (.string ⟨s4.toArray⟩)).heap[sb]? = some (.cells (stA s4 fi la (.slice none 0 0) (.slice none 0 0) (.slice none 0 0) (.pointer none) (.slice none 0 0) (.slice none 0 0)) 169 (0, 0)) := heap_setCell_same w4 sb 0 _ 169 _ hb4
     have hF5 := ((hF3.up hf34).x (sb := sb) (Nat.le_refl _)).setCell (p := ⟨sb, 0, none⟩) (.inr (by simp)) (.string ⟨s4.toArray⟩)
     have hx5 := hx4.carry (((Fr.refl (w.heap.size + 2) [C.rb, sb] w4)).setCell (p := ⟨sb, 0, none⟩) (.inr (by simp)) (.string ⟨s4.toArray⟩))
     have a5 := hx5.a
     have b5 := hx5.b)
  all_goals
    go_wp2_with (first
      | (go_at_call 65; refine (take_no hp5 ⟨#[59]⟩ HSE.out).mono ?_; rintro e w6 ⟨rfl, hp6, hf6⟩; have hz6 := hf6.size; have hx6 := hx5.carry ((hf6.wide (X := [C.rb])).x (B := w.heap.size + 2) (by simp; omega)); have q1 := hx6.a; have hS6 : SUx k (w.heap.size + 2) sb w6 ⟨s4, fi, la, [], [], [], .nil, [], []⟩ := ⟨_, _, _, _, _, _, _, _, _, _, _, SU.start (by rw [hf6.block sb (by simp; omega) (by simp)]; exact hb5)⟩; have hE6 : Env C (w.heap.size + 2) sb w6 := ⟨by omega, by omega, hsb, by simp at hz6; omega⟩)
      | (go_at_call 59; refine (brace_state hp6 hE6 hS6 ⟨by simp, by simp, by simp, by simp, by simp⟩ hR hk hx6).mono ?_; rintro e w7 h7; rcases h7.cases with ⟨f, hr7, q, rfl, hq⟩ | ⟨x7, v7, hr7, rfl, ⟨rfl, hp7, hS7⟩, hf7⟩; (· exact ⟨rfl, by rw [(HO _ hr4 (need_ok hr1)).out, hr7.out]; obtain ⟨q1, q2, q3⟩ := hq; exact ⟨q, rfl, q1, by (simp at hz6; have := hF5.size; simp at this; omega), (hF5.trans ((hf6.wide (X := [C.rb])).x (by simp; omega))).trans (q3.mono (by omega) (fun _ hx _ => hx))⟩⟩)))
    go_end0
    rw [(HO _ hr4 (need_ok hr1)).out, hr7.out]
    exact ⟨_, rfl, ⟨rfl, hp7, hS7⟩, (hF5.trans ((hf6.wide (X := [C.rb])).x (by simp; omega))).trans (hf7.mono (by omega) (fun _ hx _ => hx))⟩


theorem state_any {C : Ctx} {k sb ins i c : Nat} {w : World} {fi la : Bool} (h : PS C w i c ins 0) (hsb : C.rb < sb) (hs0 : w.heap[sb]? = some (.cells (stA [] fi la (.slice none 0 0) (.slice none 0 0) (.slice none 0 0) (.pointer none) (.slice none 0 0) (.slice none 0 0)) 169 (0, 0))) (hR : Region C k) (hk : ins + k = 6) : Calls Tryz.prog 96 #[.pointer (some ⟨C.rb, 0, none⟩), .pointer (some ⟨sb, 0, none⟩)] w (OutX w.heap.size [C.rb, sb] (StOk C k (w.heap.size + 2) sb ins) w (state C.L (St k) (region C.L k) fi la c i)) := by
  by_cases hc : 24 ≤ c
  · exact state_full h hsb hs0 hc
  · by_cases hse : tx C.L (i + 2) = kSemi
    · exact state_semi h hsb hs0 (by omega) hse
    · exact state_brace h hsb hs0 (by omega) hse hR hk
end Go.Proofs.YtiihgnagjemikaaGreatDoor
/- region: its states so far; the zero of a state. -/
namespace Go.Proofs.YtiihgnagjemikaaGreatDoor
open Go.RowKit Px

theorem Fr.stays {C : Ctx} {w w' : World} {b : Nat} {o : Obj} (hf : Fr w.heap.size [C.rb] w w') (hb : w.heap[b]? = some o) (hn : C.rb < b) : w'.heap[b]? = some o := by
  rw [hf.block b (lt_of_block hb) (by simp; omega)]; exact hb
theorem Tryz.sizeState : (Tryz.prog.info? 169).map (·.size) = some 9 := by kernel_rfl
theorem load38 {W : World} {g : Nat} {fc : Array Value} (hsz : fc.size = 9) (hg : W.heap[g]? = some (.cells fc 169 (0, 0))) : (loadVar 169 ⟨g, 0, none⟩).run Tryz.prog W = .ok (.agg fc) W :=
  run_loadVar_row (P := Tryz.prog) W g 169 169 fc (0, 0) _ hg Tryz.underlying169 rfl (by rw [hsz]; exact Tryz.sizeState)
theorem Tryz.infoState : (Tryz.prog.info? 169).map (fun i => (i.zero, i.size, i.bytes)) = some (some (.agg #[.string ⟨#[]⟩, .bool false, .bool false, .slice none 0 0, .slice none 0 0, .slice none 0 0, .pointer none, .slice none 0 0, .slice none 0 0]), 9, 152) := by kernel_rfl
/-- the states of a region, so far -/
structure StAt (k B : Nat) (w : World) (l : List (StF (St k))) (v : Value) (xs : List Value) : Prop where
  own : w.ownsRow B 169 9 v l.length xs
  rows : Rows (StC (GeNot B v) w (IsStates (GeNot B v) w k)) l xs
theorem StAt.done {k B : Nat} {w : World} {l : List (StF (St k))} {v : Value} {xs : List Value} (h : StAt k B w l v xs) : IsStates (Ge B) w (k + 1) l v :=
  ⟨xs, ⟨own_base0 h.own, fun g hg => (h.own.lt g hg).1⟩, h.rows.map (StC.carry geNot_ge (IsStates.carry geNot_ge k))⟩
theorem StAt.carry {C : Ctx} {k B : Nat} {w w' : World} {l : List (StF (St k))} {v : Value} {xs : List Value} (h : StAt k B w l v xs) (hB : C.rb < B) (hf : Fr w.heap.size [C.rb] w w') : StAt k B w' l v xs :=
  ⟨own_carry h.own hB hf, h.rows.map (StC.carry (keepNot hB hf) (IsStates.carry (keepNot hB hf) k))⟩
theorem states_step {C : Ctx} {k B : Nat} {w wr w5 w6 : World} {l : List (StF (St k))} {v v' : Value} {xs cs : List Value} {s : StF (St k)} {o : Obj} (hB : C.rb < B) (hBr : B ≤ wr.heap.size) (h : StAt k B wr l v xs) (hf : Fr wr.heap.size [C.rb] wr w5) (hw : Fr B [C.rb] w wr) (he : StC (Ge wr.heap.size) w5 (IsStates (Ge wr.heap.size) w5 k) s cs)
    (hown : w6.ownsRow B 169 9 v' (l.length + 1) (xs ++ cs)) (hg : (w5.alloc o).grownBy w6 v.ownBlock) (hat : v'.ownBlock = v.ownBlock ∨ v'.ownBlock = some (w5.alloc o).heap.size) :
    StAt k B w6 (l ++ [s]) v' (xs ++ cs) ∧ Fr B [C.rb] w w6 := by
  have hs5 := hf.size
  have kA : ∀ A : Nat → Prop, Keep A A w5 (w5.alloc o) := fun A b ha hb => ⟨ha, Below.heap_alloc _ _ _ hb⟩
  have k1 : Keep (GeNot B v) (GeNot B v') wr w6 := row_keep ((keepNot hB hf).trans (kA _) hs5) (by simp; omega) hg hat
  have hvl : ∀ g, v.ownBlock = some g → g < wr.heap.size := fun g hg => (h.own.lt g hg).2
  have k2 : Keep (Ge wr.heap.size) (GeNot B v') w5 w6 := ((ge_geNot hBr hvl).trans (row_keep (kA _) (by simp) hg hat) (Nat.le_refl _))
  refine ⟨⟨by rw [List.length_append]; exact hown, (h.rows.map (StC.carry k1 (IsStates.carry k1 k))).append (Rows.one (StC.carry k2 (IsStates.carry k2 k) _ _ he))⟩, ?_⟩
  exact ((hw.up' hf hBr).alloc (by omega) o).grown hg (by simp; omega) (fun k hk => .inl (h.own.lt k hk).1)
theorem IsWays.shape {A : Nat → Prop} {w : World} {l : List Wy} {v : Value} (h : IsWays A w l v) : ∃ ao n cap, v = .slice ao n cap := by
  obtain ⟨xs, hr, _⟩ := h
  obtain ⟨ao, cap, rfl⟩ := owns_shape hr.1
  exact ⟨ao, _, cap, rfl⟩
theorem IsRegs.shape {ρ : Type} {A : Nat → Prop} {w : World} {I : List ρ → Value → Prop} {l : List (List ρ)} {v : Value} (h : IsRegs A w I l v) : ∃ ao n cap, v = .slice ao n cap := by
  obtain ⟨xs, hr, _⟩ := h
  obtain ⟨ao, cap, rfl⟩ := owns_shape hr.1
  exact ⟨ao, _, cap, rfl⟩
theorem StC.shapes {ρ : Type} {A : Nat → Prop} {w : World} {I : List ρ → Value → Prop} {s : StF ρ} {e d l p y r : Value} (h : StC A w I s (stA s.name s.first s.last e d l p y r).toList) :
    (∃ a n c, e = .slice a n c) ∧ (∃ a n c, d = .slice a n c) ∧ (∃ a n c, l = .slice a n c) ∧ (∃ u, p = .pointer u) ∧ (∃ a n c, y = .slice a n c) ∧ (∃ a n c, r = .slice a n c) := by
  obtain ⟨e', d', l', p', y', r', heq, h1, h2, h3, h4, h5, h6⟩ := h
  simp at heq
  obtain ⟨rfl, rfl, rfl, rfl, rfl, rfl⟩ := heq
  exact ⟨h1.shape, h2.shape, h3.shape, h4.ptr, h5.shape, h6.shape⟩
end Go.Proofs.YtiihgnagjemikaaGreatDoor
/- region: the function in it. -/
namespace Go.Proofs.YtiihgnagjemikaaGreatDoor
open Go.RowKit Px

abbrev Z38 (fi la : Bool) : Array Value := stA [] fi la (.slice none 0 0) (.slice none 0 0) (.slice none 0 0) (.pointer none) (.slice none 0 0) (.slice none 0 0)
abbrev Z0 : Array Value := #[.string ⟨#[]⟩, .bool false, .bool false, .slice none 0 0, .slice none 0 0, .slice none 0 0, .pointer none, .slice none 0 0, .slice none 0 0]
theorem nine {w : World} {b : Nat} {fi la : Bool} (h : w.heap[b]? = some (.cells (Z38 fi la) 169 (0, 0))) : w.cell? ⟨b, 0, none⟩ = some (sv []) ∧ w.cell? ⟨b, 1, none⟩ = some (.bool fi) ∧ w.cell? ⟨b, 2, none⟩ = some (.bool la) ∧ w.cell? ⟨b, 3, none⟩ = some (.slice none 0 0) ∧ w.cell? ⟨b, 4, none⟩ = some (.slice none 0 0) ∧ w.cell? ⟨b, 5, none⟩ = some (.slice none 0 0) ∧ w.cell? ⟨b, 6, none⟩ = some (.pointer none) ∧ w.cell? ⟨b, 7, none⟩ = some (.slice none 0 0) ∧ w.cell? ⟨b, 8, none⟩ = some (.slice none 0 0) ∧ ∀ o, w.frozen? ⟨b, o, none⟩ = false := by
  refine ⟨?_, ?_, ?_, ?_, ?_, ?_, ?_, ?_, ?_, fun o => by simp [World.frozen?, h]⟩ <;> (rw [cell_of_row _ _ _ _ _ _ h]; rfl)
/-- a new variable of type State that is there, in whichever block -/
def Head (C : Ctx) (w : World) (j c ins : Nat) (b1 b2 : Bool) (s : Value) (wc : World) : Prop :=
  ∃ sb, s = .pointer (some ⟨sb, 0, none⟩) ∧ w.heap.size ≤ sb ∧ wc.heap[sb]? = some (.cells (Z38 b1 b2) 169 (0, 0)) ∧ PS C wc j c ins 0 ∧ Fr w.heap.size [C.rb] w wc
theorem nine_put {w : World} {b : Nat} {fi la : Bool} (h : w.heap[b]? = some (.cells (Z38 false false) 169 (0, 0))) :
    (((((((((w.setCell ⟨b, 0, none⟩ (.string ⟨#[]⟩)).setCell ⟨b, 1, none⟩ (.bool fi)).setCell ⟨b, 2, none⟩ (.bool la)).setCell ⟨b, 3, none⟩ (.slice none 0 0)).setCell ⟨b, 4, none⟩ (.slice none 0 0)).setCell ⟨b, 5, none⟩ (.slice none 0 0)).setCell ⟨b, 6, none⟩ (.pointer none)).setCell ⟨b, 7, none⟩ (.slice none 0 0)).setCell ⟨b, 8, none⟩ (.slice none 0 0)).heap[b]? = some (.cells (Z38 fi la) 169 (0, 0)) := by
  have h0 : (w.setCell ⟨b, 0, none⟩ (.string ⟨#[]⟩)).heap[b]? = some (.cells #[.string ⟨#[]⟩, .bool false, .bool false, .slice none 0 0, .slice none 0 0, .slice none 0 0, .pointer none, .slice none 0 0, .slice none 0 0] 169 (0, 0)) := by rw [heap_setCell_same _ b 0 _ 169 _ h]; rfl
  have h1 : ((w.setCell ⟨b, 0, none⟩ (.string ⟨#[]⟩)).setCell ⟨b, 1, none⟩ (.bool fi)).heap[b]? = some (.cells #[.string ⟨#[]⟩, .bool fi, .bool false, .slice none 0 0, .slice none 0 0, .slice none 0 0, .pointer none, .slice none 0 0, .slice none 0 0] 169 (0, 0)) := by rw [heap_setCell_same _ b 1 _ 169 _ h0]; rfl
  have h2 : (((w.setCell ⟨b, 0, none⟩ (.string ⟨#[]⟩)).setCell ⟨b, 1, none⟩ (.bool fi)).setCell ⟨b, 2, none⟩ (.bool la)).heap[b]? = some (.cells #[.string ⟨#[]⟩, .bool fi, .bool la, .slice none 0 0, .slice none 0 0, .slice none 0 0, .pointer none, .slice none 0 0, .slice none 0 0] 169 (0, 0)) := by rw [heap_setCell_same _ b 2 _ 169 _ h1]; rfl
  have h3 : ((((w.setCell ⟨b, 0, none⟩ (.string ⟨#[]⟩)).setCell ⟨b, 1, none⟩ (.bool fi)).setCell ⟨b, 2, none⟩ (.bool la)).setCell ⟨b, 3, none⟩ (.slice none 0 0)).heap[b]? = some (.cells #[.string ⟨#[]⟩, .bool fi, .bool la, .slice none 0 0, .slice none 0 0, .slice none 0 0, .pointer none, .slice none 0 0, .slice none 0 0] 169 (0, 0)) := by rw [heap_setCell_same _ b 3 _ 169 _ h2]; rfl
  have h4 : (((((w.setCell ⟨b, 0, none⟩ (.string ⟨#[]⟩)).setCell ⟨b, 1, none⟩ (.bool fi)).setCell ⟨b, 2, none⟩ (.bool la)).setCell ⟨b, 3, none⟩ (.slice none 0 0)).setCell ⟨b, 4, none⟩ (.slice none 0 0)).heap[b]? = some (.cells #[.string ⟨#[]⟩, .bool fi, .bool la, .slice none 0 0, .slice none 0 0, .slice none 0 0, .pointer none, .slice none 0 0, .slice none 0 0] 169 (0, 0)) := by rw [heap_setCell_same _ b 4 _ 169 _ h3]; rfl
  have h5 : ((((((w.setCell ⟨b, 0, none⟩ (.string ⟨#[]⟩)).setCell ⟨b, 1, none⟩ (.bool fi)).setCell ⟨b, 2, none⟩ (.bool la)).setCell ⟨b, 3, none⟩ (.slice none 0 0)).setCell ⟨b, 4, none⟩ (.slice none 0 0)).setCell ⟨b, 5, none⟩ (.slice none 0 0)).heap[b]? = some (.cells #[.string ⟨#[]⟩, .bool fi, .bool la, .slice none 0 0, .slice none 0 0, .slice none 0 0, .pointer none, .slice none 0 0, .slice none 0 0] 169 (0, 0)) := by rw [heap_setCell_same _ b 5 _ 169 _ h4]; rfl
  have h6 : (((((((w.setCell ⟨b, 0, none⟩ (.string ⟨#[]⟩)).setCell ⟨b, 1, none⟩ (.bool fi)).setCell ⟨b, 2, none⟩ (.bool la)).setCell ⟨b, 3, none⟩ (.slice none 0 0)).setCell ⟨b, 4, none⟩ (.slice none 0 0)).setCell ⟨b, 5, none⟩ (.slice none 0 0)).setCell ⟨b, 6, none⟩ (.pointer none)).heap[b]? = some (.cells #[.string ⟨#[]⟩, .bool fi, .bool la, .slice none 0 0, .slice none 0 0, .slice none 0 0, .pointer none, .slice none 0 0, .slice none 0 0] 169 (0, 0)) := by rw [heap_setCell_same _ b 6 _ 169 _ h5]; rfl
  have h7 : ((((((((w.setCell ⟨b, 0, none⟩ (.string ⟨#[]⟩)).setCell ⟨b, 1, none⟩ (.bool fi)).setCell ⟨b, 2, none⟩ (.bool la)).setCell ⟨b, 3, none⟩ (.slice none 0 0)).setCell ⟨b, 4, none⟩ (.slice none 0 0)).setCell ⟨b, 5, none⟩ (.slice none 0 0)).setCell ⟨b, 6, none⟩ (.pointer none)).setCell ⟨b, 7, none⟩ (.slice none 0 0)).heap[b]? = some (.cells #[.string ⟨#[]⟩, .bool fi, .bool la, .slice none 0 0, .slice none 0 0, .slice none 0 0, .pointer none, .slice none 0 0, .slice none 0 0] 169 (0, 0)) := by rw [heap_setCell_same _ b 7 _ 169 _ h6]; rfl
  have h8 : (((((((((w.setCell ⟨b, 0, none⟩ (.string ⟨#[]⟩)).setCell ⟨b, 1, none⟩ (.bool fi)).setCell ⟨b, 2, none⟩ (.bool la)).setCell ⟨b, 3, none⟩ (.slice none 0 0)).setCell ⟨b, 4, none⟩ (.slice none 0 0)).setCell ⟨b, 5, none⟩ (.slice none 0 0)).setCell ⟨b, 6, none⟩ (.pointer none)).setCell ⟨b, 7, none⟩ (.slice none 0 0)).setCell ⟨b, 8, none⟩ (.slice none 0 0)).heap[b]? = some (.cells #[.string ⟨#[]⟩, .bool fi, .bool la, .slice none 0 0, .slice none 0 0, .slice none 0 0, .pointer none, .slice none 0 0, .slice none 0 0] 169 (0, 0)) := by rw [heap_setCell_same _ b 8 _ 169 _ h7]; rfl
  exact h8
section
variable {C : Ctx} {w w2 : World} {j c ins : Nat} {b1 b2 : Bool}
theorem head_new (hp : PS C w2 j c ins 0) (hf : Fr w.heap.size [C.rb] w w2) : Head C w j c ins b1 b2 (.pointer (some ⟨w2.heap.size, 0, none⟩)) (w2.alloc (.cells #[.string ⟨#[]⟩, .bool b1, .bool b2, .slice none 0 0, .slice none 0 0, .slice none 0 0, .pointer none, .slice none 0 0, .slice none 0 0] 169)) :=
  ⟨_, rfl, hf.size, heap_alloc_new w2 _, (hp.alloc _).1, hf.up (hp.alloc _).2⟩
theorem head_put (sb : Nat) (hb : w2.heap[sb]? = some (.cells (Z38 false false) 169 (0, 0))) (hsb : w.heap.size ≤ sb) (hC : C.rb < w.heap.size) (hp : PS C w2 j c ins 0) (hf : Fr w.heap.size [C.rb] w w2) :
    Head C w j c ins b1 b2 (.pointer (some ⟨sb, 0, none⟩)) (((((((((w2.setCell ⟨sb, 0, none⟩ (.string ⟨#[]⟩)).setCell ⟨sb, 1, none⟩ (.bool b1)).setCell ⟨sb, 2, none⟩ (.bool b2)).setCell ⟨sb, 3, none⟩ (.slice none 0 0)).setCell ⟨sb, 4, none⟩ (.slice none 0 0)).setCell ⟨sb, 5, none⟩ (.slice none 0 0)).setCell ⟨sb, 6, none⟩ (.pointer none)).setCell ⟨sb, 7, none⟩ (.slice none 0 0)).setCell ⟨sb, 8, none⟩ (.slice none 0 0)) :=
  have hr : C.rb < sb := by omega
  ⟨sb, rfl, hsb, nine_put hb, ((((((((hp.put hr 0 _).put hr 1 _).put hr 2 _).put hr 3 _).put hr 4 _).put hr 5 _).put hr 6 _).put hr 7 _).put hr 8 _, ((((((((hf.setCell (.inl hsb) _).setCell (.inl hsb) _).setCell (.inl hsb) _).setCell (.inl hsb) _).setCell (.inl hsb) _).setCell (.inl hsb) _).setCell (.inl hsb) _).setCell (.inl hsb) _).setCell (.inl hsb) _⟩
end
theorem StAt.carryX {X : List Nat} {k B : Nat} {w w' : World} {l : List (StF (St k))} {v : Value} {xs : List Value} (h : StAt k B w l v xs) (hX : ∀ x ∈ X, x < B) (hf : Fr w.heap.size X w w') : StAt k B w' l v xs := by
  have kp : Keep (GeNot B v) (GeNot B v) w w' := hf.keep (fun b hb hm => by have := hX b hm; have := hb.1; omega)
  exact ⟨ownX h.own hX hf, h.rows.map (StC.carry kp (IsStates.carry kp k))⟩
/-- one state more of a region; none: none stands there -/
def stepS (L : List Lx.Tok) (k : Nat) (l : List (StF (St k))) (c i : Nat) : Except F (Option (List (StF (St k)) × Nat × Nat)) :=
  if tx L i = kInitial ∨ tx L i = kFinal ∨ tx L i = kState then
    match state L (St k) (region L k) (decide (tx L i = kInitial)) (decide (tx L (opt L kInitial i) = kFinal)) c (opt L kFinal (opt L kInitial i)) with
    | .error x => .error x
    | .ok (s, c', j) => .ok (some (l ++ [s], c', j))
  else .ok none
/-- the variables that the function in region holds -/
structure RE (C : Ctx) (B ba vb : Nat) (w : World) (v : Value) : Prop where
  a : w.cell? ⟨ba, 0, none⟩ = some (.pointer (some ⟨C.rb, 0, none⟩))
  v : w.heap[vb]? = some (.cells #[v] 133 (0, 0))
  la : ba < B
  lv : vb < B
  na : C.rb < ba
  nv : C.rb < vb
  nav : ba ≠ vb
  lr : C.rb < B
  hB : B ≤ w.heap.size
theorem RE.low {C : Ctx} {B ba vb : Nat} {w w' : World} {v : Value} (h : RE C B ba vb w v) (hf : Fr B [C.rb] w w') : RE C B ba vb w' v := by
  have h1 := h.na
  have h2 := h.nv
  exact ⟨by rw [hf.cell (p := ⟨ba, 0, none⟩) h.la (by simp; omega)]; exact h.a, by rw [hf.block vb h.lv (by simp; omega)]; exact h.v, h.la, h.lv, h1, h2, h.nav, h.lr, Nat.le_trans h.hB hf.size⟩
theorem RE.carry {C : Ctx} {B ba vb : Nat} {w w' : World} {v : Value} (h : RE C B ba vb w v) (hf : Fr w.heap.size [C.rb] w w') : RE C B ba vb w' v := h.low (hf.mono h.hB (by simp))
theorem RE.put {C : Ctx} {B ba vb : Nat} {w : World} {v : Value} (h : RE C B ba vb w v) (v' : Value) : RE C B ba vb (w.setCell ⟨vb, 0, none⟩ v') v' := by
  have h1 := h.la
  have h3 := h.hB
  have hf := fr_put w vb 0 v'
  refine ⟨?_, ?_, h.la, h.lv, h.na, h.nv, h.nav, h.lr, Nat.le_trans h.hB hf.size⟩
  · rw [hf.cell (p := ⟨ba, 0, none⟩) (by show ba < _; omega) (by simp; exact h.nav)]; exact h.a
  · rw [heap_setCell_same w vb 0 _ _ _ h.v]; rfl
def RegOk (C : Ctx) (k B ba vb ins i c : Nat) (l : List (StF (St k))) : Option (List (StF (St k)) × Nat × Nat) → Value → World → Prop
  | none, v, w' => v = .bool false ∧ PS C w' i c ins 0 ∧ ∃ u xs, RE C B ba vb w' u ∧ StAt k B w' l u xs
  | some (l', c', j), v, w' => v = .bool true ∧ i < j ∧ l'.length ≤ j ∧ PS C w' j c' ins 0 ∧ ∃ u xs, RE C B ba vb w' u ∧ StAt k B w' l' u xs

set_option maxRecDepth 100000 in
set_option maxHeartbeats 16000000 in
theorem region1_any {C : Ctx} {k B ba vb : Nat} {w : World} {i c ins : Nat} {l : List (StF (St k))} {u : Value} {xs : List Value} (h : PS C w i c ins 0) (hE : RE C B ba vb w u) (hS : StAt k B w l u xs) (hl : l.length ≤ i) (hR : Region C k) (hk : ins + k = 6) : Calls Tryz.prog 95 #[.pointer (some ⟨ba, 0, none⟩), .pointer (some ⟨vb, 0, none⟩)] w (OutX B [C.rb, vb] (RegOk C k B ba vb ins i c l) w (stepS C.L k l c i)) := by
  have hx := hE.a
  have hba : ba < w.heap.size := Nat.lt_of_lt_of_le hE.la hE.hB
  have hbr : ba ≠ C.rb := by have := hE.na; omega
  have hl0 := hS.own
  obtain ⟨ao, cap, rfl⟩ := owns_shape hl0
  obtain ⟨i0, hi, hz0, hz1, hz2'⟩ := info_parts Tryz.infoState
  have hC := h.lts.1
  obtain ⟨hpA, hfA⟩ := h.new (.cells Z0 169)
  have hdr : Fr w.heap.size [] w w.drew := (Fr.refl _ _ _).drew
  have hpB := h.same hdr
  obtain ⟨b1, hb1⟩ : ∃ x, Hid (x = decide (tx C.L i = kInitial)) := ⟨_, rfl⟩
  obtain ⟨i1, hi1⟩ : ∃ x, Hid (x = opt C.L kInitial i) := ⟨_, rfl⟩
  obtain ⟨b2, hb2⟩ : ∃ x, Hid (x = decide (tx C.L i1 = kFinal)) := ⟨_, rfl⟩
  obtain ⟨j, hj⟩ : ∃ x, Hid (x = opt C.L kFinal i1) := ⟨_, rfl⟩
  have c1 : ∀ W, PS C W i c ins 0 → Calls Tryz.prog 65 #[.pointer (some ⟨C.rb, 0, none⟩), .string ⟨#[105, 110, 105, 116, 105, 97, 108]⟩] W fun e w' => e = .returned (.bool b1) ∧ PS C w' i1 c ins 0 ∧ Fr W.heap.size [C.rb] W w' := fun W hW => by rw [hb1.out, hi1.out]; exact take_any hW _ kInitial rfl (by decide)
  have c2 : ∀ W, PS C W i1 c ins 0 → Calls Tryz.prog 65 #[.pointer (some ⟨C.rb, 0, none⟩), .string ⟨#[102, 105, 110, 97, 108]⟩] W fun e w' => e = .returned (.bool b2) ∧ PS C w' j c ins 0 ∧ Fr W.heap.size [C.rb] W w' := fun W hW => by rw [hb2.out, hj.out]; exact take_any hW _ kFinal rfl (by decide)
  have hcx : ∀ (W W' : World), W.cell? ⟨ba, 0, none⟩ = some (.pointer (some ⟨C.rb, 0, none⟩)) → ba < W.heap.size → Fr W.heap.size [C.rb] W W' → W'.cell? ⟨ba, 0, none⟩ = some (.pointer (some ⟨C.rb, 0, none⟩)) := fun W W' h1 h2 hf => by rw [hf.cell (p := ⟨ba, 0, none⟩) h2 (by simp; exact hbr)]; exact h1
  have HCX : Hid _ := hcx
  clear hcx
  have hbA : ((w.alloc (.cells Z0 169)).drew).heap[w.heap.size]? = some (.cells (Z38 false false) 169 (0, 0)) := heap_alloc_new w _
  have hxA : ((w.alloc (.cells Z0 169)).drew).cell? ⟨ba, 0, none⟩ = some (.pointer (some ⟨C.rb, 0, none⟩)) := by rw [hfA.cell (p := ⟨ba, 0, none⟩) hba (by simp)]; exact hx
  have hbaA : ba < ((w.alloc (.cells Z0 169)).drew).heap.size := Nat.lt_of_lt_of_le hba hfA.size
  have hxB : w.drew.cell? ⟨ba, 0, none⟩ = some (.pointer (some ⟨C.rb, 0, none⟩)) := hx
  have T1 : Hid True := trivial
  have T2 : Hid True := trivial
  go_enter Tryz.func95, Tryz.ntmps95
  go_upto_region 1 with fail
  go_cut [3] (fun s3 wc => Hid (Head C w j c ins b1 b2 s3 wc))
  case first =>
    go_region_law
      (first
        | (go_simp; go_at_call 65; clear T1; (with_reducible refine (c1 _ hpB).mono ?_); rintro e1 w1 ⟨rfl, hp1, hf1⟩; have hx1 := HCX.out _ _ hxB hba hf1; have hz1 : w.heap.size ≤ w1.heap.size := Nat.le_trans (Nat.le_refl _) hf1.size; obtain ⟨hpx, hfx⟩ := hp1.alloc (.cells Z0 169); have hxx := HCX.out _ _ hx1 (Nat.lt_of_lt_of_le hba hz1) hfx)
        | (go_simp; go_at_call 65; clear T1; (with_reducible refine (c1 _ hpA).mono ?_); rintro e1 w1 ⟨rfl, hp1, hf1⟩; have hbA1 := hf1.stays hbA hC; have hx1 := HCX.out _ _ hxA hbaA hf1; have hz1 := Nat.le_trans hfA.size hf1.size; obtain ⟨hpx, hfx⟩ := hp1.alloc (.cells Z0 169); have hxx := HCX.out _ _ hx1 (Nat.lt_of_lt_of_le hba hz1) hfx)
        | (go_simp; go_at_call 65; clear T2; (with_reducible refine (c2 _ hp1).mono ?_); rintro e1 w2 ⟨rfl, hp2, hf2⟩; try (have hbA2 := hf2.stays hbA1 hC; obtain ⟨n0, n1, n2, n3, n4, n5, n6, n7, n8, nz⟩ := nine hbA2; have nz0 := nz 0; have nz1 := nz 1; have nz2 := nz 2; have nz3 := nz 3; have nz4 := nz 4; have nz5 := nz 5; have nz6 := nz 6; have nz7 := nz 7; have nz8 := nz 8; clear nz))
        | (go_simp; go_at_call 65; clear T2; (with_reducible refine (c2 _ hpx).mono ?_); rintro e1 w2 ⟨rfl, hp2, hf2⟩; have hbB2 : w2.heap[w1.heap.size]? = some (.cells (Z38 false false) 169 (0, 0)) := hf2.stays (heap_alloc_new w1 (.cells Z0 169)) hp1.lts.1; obtain ⟨n0, n1, n2, n3, n4, n5, n6, n7, n8, nz⟩ := nine hbB2; have nz0 := nz 0; have nz1 := nz 1; have nz2 := nz 2; have nz3 := nz 3; have nz4 := nz 4; have nz5 := nz 5; have nz6 := nz 6; have nz7 := nz 7; have nz8 := nz 8; clear nz))
    all_goals
      go_wp2_with fail
      go_meet
      show Head _ _ _ _ _ _ _ _ _
      first
        | (have hq := head_new (b1 := b1) (b2 := b2) hp2 ((hdr.wide.up hf1).up hf2); (with_reducible exact hq))
        | (have hq := head_put (b1 := b1) (b2 := b2) w1.heap.size hbB2 hz1 hC hp2 (((hdr.wide.up hf1).up hfx).up hf2); (with_reducible exact hq))
        | (have hq := head_put (b1 := b1) (b2 := b2) w.heap.size hbA2 (Nat.le_refl _) hC hp2 ((hfA.wide.up hf1).up hf2); (with_reducible exact hq))
  case rest =>
    obtain ⟨sb, rfl, hsb, hbk, hp, hf⟩ := hcut.out
    clear hcut hpA hfA hdr hpB hbA hxA hbaA hxB c1 c2 HCX T1 T2
    have hE1 := hE.carry hf
    have hS1 := hS.carry hE.lr hf
    have hxc := hE1.a
    obtain ⟨-, m1, m2, -⟩ := nine hbk
    obtain ⟨tb, htb⟩ : ∃ tb : ByteArray, Hid (bs tb = tx C.L j) := ⟨⟨(tx C.L j).toArray⟩, rfl⟩
    by_cases hw : tx C.L i = kInitial ∨ tx C.L i = kFinal ∨ tx C.L i = kState
    · have HSP : Hid (stepS C.L k l c i = match state C.L (St k) (region C.L k) b1 b2 c j with
          | .error x => .error x
          | .ok (s, c', j) => .ok (some (l ++ [s], c', j))) := by rw [Hid, stepS, if_pos hw, hb1.out, hb2.out, hj.out, hi1.out]
      have HLE : Hid (i ≤ j) := by
        have := opt_le C.L kInitial i
        have := opt_le C.L kFinal i1
        rw [Hid, hj.out]
        have e := hi1.out
        omega
      have HKS : Hid (b1 = false → b2 = false → tx C.L j = kState) := fun f1 f2 => by
        have n1 : tx C.L i ≠ kInitial := fun e => by rw [hb1.out] at f1; exact absurd e (of_decide_eq_false f1)
        have e2 : i1 = i := by rw [hi1.out, opt, if_neg n1]
        have n2 : tx C.L i ≠ kFinal := fun e => by rw [hb2.out, e2] at f2; exact absurd e (of_decide_eq_false f2)
        have e4 : j = i := by rw [hj.out, e2, opt, if_neg n2]
        rw [e4]
        rcases hw with e | e | e
        · exact absurd e n1
        · exact absurd e n2
        · exact e
      clear hw
      obtain ⟨wq, hwq⟩ : ∃ x, x = wc := ⟨_, rfl⟩
      subst hwq
      go_upto_region 2 with fail
      go_cut [21] (fun s21 wc => Hid (s21 = .bool false ∧ PS C wc j c ins 0 ∧ Fr wq.heap.size [] wq wc))
      case first =>
        cases b1 with
        | true =>
          go_wp2_with fail
          go_meet
          exact ⟨rfl, hp, Fr.refl _ _ _⟩
        | false =>
          cases b2 with
          | true =>
            go_wp2_with fail
            go_meet
            exact ⟨rfl, hp, Fr.refl _ _ _⟩
          | false =>
            have h1' : (tb.toList == [115, 116, 97, 116, 101]) = true := by
              rw [ByteArray.toList_eq]; exact beq_iff_eq.2 (by show bs tb = kState; rw [htb.out]; exact HKS.out rfl rfl)
            go_wp2_with (go_at_call 62; refine (text_is hp tb htb).mono ?_; rintro e w3 ⟨rfl, hp3, hf3⟩)
            go_meet
            exact ⟨rfl, hp3, hf3⟩
      case rest =>
        obtain ⟨rfl, hp2, hf2⟩ := hcut.out
        clear hcut
        have hE2 := hE1.carry hf2.wide
        have hbk2 : wc.heap[sb]? = some (.cells (Z38 b1 b2) 169 (0, 0)) := by rw [hf2.block sb (lt_of_block hbk) (by simp)]; exact hbk
        have hrb : C.rb < sb := by have := hE.lr; have := hE.hB; omega
        have hxd := hE2.a
        have hst := state_any (k := k) hp2 hrb hbk2 hR hk
        have hF2 := hf.up hf2.wide
        have hz2 := hF2.size
        have hEB := hE.hB
        have hEr := hE.lr
        have hEv := hE.lv
        have HTH : Hid (∀ f e w5, ThrownX wc.heap.size [C.rb, sb] wc f e w5 → ThrownX B [C.rb, vb] w f e w5) := fun f e w5 ⟨q, h1, h2, h3, h4⟩ => ⟨q, h1, h2, Nat.le_trans hz2 h3, (hF2.mono hE.hB (by simp)).trans (h4.mono (by omega) (by intro x hx hlt; simp at hx ⊢; omega))⟩
        have hil := h.lt
        have h601 := h.wf.len
        go_wp2_with (first
          | (go_at_call 96; refine hst.mono ?_; rintro e w5 h5; rcases h5.cases with ⟨f, hr5, q, rfl, hq⟩ | ⟨⟨s5, c5, j5⟩, v5, hr5, rfl, ⟨rfl, hp5, e5, d5, l5, p5, y5, r5, xe, xd, xl, xy, xr, hU5⟩, hf5⟩; (· exact ⟨rfl, by rw [HSP.out, hr5.out]; exact HTH.out _ _ _ ⟨q, rfl, hq⟩⟩); have hF5 : Fr w.heap.size [C.rb] w w5 := hF2.trans (hf5.mono hz2 (by intro x hx hlt; simp at hx ⊢; omega)); have hE5 := hE.carry hF5; obtain ⟨v5c, v5z⟩ := cel hE5.v 0 (Value.slice ao l.length cap) rfl; have hd5 := hU5.done; obtain ⟨⟨a1, n1, q1, rfl⟩, ⟨a2, n2, q2, rfl⟩, ⟨a3, n3, q3, rfl⟩, ⟨u4', rfl⟩, ⟨a5, n5, q5, rfl⟩, ⟨a6, n6, q6, rfl⟩⟩ := hd5.shapes; have hz5 := hF5.size; have kst : Keep (Ge (wc.heap.size + 2)) (Ge w.heap.size) w5 w5 := (fun b hb _ => ⟨by simp [Ge] at *; omega, rfl⟩); have hst' := StC.carry kst (IsStates.carry kst k) _ _ hd5)
          | (refine wpList_load_eq rfl 169 (.tmp 3) rfl ⟨sb, 0, none⟩ rfl (.agg (stA s5.name s5.first s5.last (.slice a1 n1 q1) (.slice a2 n2 q2) (.slice a3 n3 q3) (.pointer u4') (.slice a5 n5 q5) (.slice a6 n6 q6))) (load38 rfl hU5.at_) ?_)
          | (at_builtin; refine wpList_append_own_at _ rfl (.tmp 24) (.tmp 26) 133 rfl B 169 i0 _ 9 152 Tryz.underlying133 hi hz0 hz1 hz2' rfl (by decide) _ _ _ rfl ((own_carry hS.own hE.lr hF5).alloc _) ⟨w5.heap.size, 0, none⟩ 1 1 (stA s5.name s5.first s5.last (.slice a1 n1 q1) (.slice a2 n2 q2) (.slice a3 n3 q3) (.pointer u4') (.slice a5 n5 q5) (.slice a6 n6 q6)).toList rfl rfl (World.news_of_block (fr := (0, 0)) (heap_alloc_new w5 _)) (by intro x hx; simp [sv] at hx; rcases hx with rfl | rfl | rfl | rfl | rfl | rfl | rfl | rfl | rfl <;> rfl) (by unfold maxLen; omega) (by omega) (by simp; omega) ?_; intro v6 w6 hown6 hgrow _ hat; obtain ⟨ao6, cap6, rfl⟩ := owns_shape hown6; obtain ⟨hS6, hF6⟩ := states_step (w := w) (wr := w) (s := s5) hE.lr hE.hB hS hF5 (Fr.refl _ _ _) hst' hown6 hgrow hat; have hp6 : PS C w6 j5 c5 ins 0 := hp5.low hE.lr (((Fr.refl _ _ _).alloc (by omega) _).grown hgrow (by simp; omega) (fun g hg => .inl (hS.own.lt g hg).1)); have hE6 := hE.low hF6; obtain ⟨v6c, v6z⟩ := cel hE6.v 0 (Value.slice ao l.length cap) rfl))
        go_ret
        rw [HSP.out, hr5.out]
        have hj5 := state_lt (region_lt k) hr5.out
        have hle := HLE.out
        exact ⟨_, rfl, ⟨rfl, by omega, by simp; omega, hp6.put hE.nv 0 _, _, _, hE6.put _, hS6.carryX (X := [vb]) (by simp; exact hE.lv) (fr_put _ _ _ _)⟩, (hF6.mono (Nat.le_refl _) (by simp)).setCell (.inr (by simp)) _⟩
    · have n1 : tx C.L i ≠ kInitial := fun e => hw (.inl e)
      have n2 : tx C.L i ≠ kFinal := fun e => hw (.inr (.inl e))
      have n3 : tx C.L i ≠ kState := fun e => hw (.inr (.inr e))
      have e1 : b1 = false := by rw [hb1.out]; exact decide_eq_false n1
      have e2 : i1 = i := by rw [hi1.out, opt, if_neg n1]
      have e3 : b2 = false := by rw [hb2.out, e2]; exact decide_eq_false n2
      have e4 : j = i := by rw [hj.out, e2, opt, if_neg n2]
      have HSP : Hid (stepS C.L k l c i = .ok none) := by rw [Hid, stepS, if_neg hw]
      subst e1; subst e3; subst e4
      have h1' : (tb.toList == [115, 116, 97, 116, 101]) = false := by
        rw [ByteArray.toList_eq]; exact beq_eq_false_iff_ne.2 (by show bs tb ≠ kState; rw [htb.out]; exact n3)
      clear hw n1 n2 n3 e2
      go_wp2_with (go_at_call 62; refine (text_is hp tb htb).mono ?_; rintro e w3 ⟨rfl, hp3, hf3⟩)
      go_ret
      rw [HSP.out]
      exact ⟨_, rfl, ⟨rfl, hp3, _, xs, hE1.carry hf3.wide, hS1.carry hE.lr hf3.wide⟩, ((hf.up hf3.wide).mono hE.hB (by simp))⟩
end Go.Proofs.YtiihgnagjemikaaGreatDoor
/- region: braced around the function in it, and region whole, by the depths that are left. -/
namespace Go.Proofs.YtiihgnagjemikaaGreatDoor
open Go.RowKit Px

set_option maxRecDepth 100000 in
set_option maxHeartbeats 2000000 in
theorem braced_region {C : Ctx} {w : World} {i st ins : Nat} {c1 c2 : Value} (h : PS C w i st ins 0) (R : Ending → World → Prop) (Inv : Nat → World → Prop) (Fin : World → Prop) (g0 : Nat)
    (herr : tx C.L i ≠ kOpen → ∀ e w', Thrown C w (3, pl C.L i) e w' → R e w')
    (hstart : tx C.L i = kOpen → ∀ w1, PS C w1 (i + 1) st ins 0 → Fr w.heap.size [C.rb] w w1 → Inv g0 w1)
    (hround : ∀ g w1, Inv g w1 → Calls Tryz.prog 95 #[c1, c2] w1 fun e w2 => (e = .returned (.bool true) ∧ ∃ g', g' < g ∧ Inv g' w2) ∨ (e = .returned (.bool false) ∧ Fin w2) ∨ (∃ ch, e = .panicked ch ∧ R e w2))
    (hfin : ∀ w2, Fin w2 → ∃ j st', PS C w2 j st' ins 0 ∧ (tx C.L j ≠ kShut → ∀ e w3, Thrown C w2 (3, pl C.L j) e w3 → R e w3) ∧ (tx C.L j = kShut → ∀ w3, PS C w3 (j + 1) st' ins 0 → Fr w2.heap.size [C.rb] w2 w3 → R (.returned (.tuple #[])) w3)) :
    Calls Tryz.prog 59 #[.pointer (some ⟨C.rb, 0, none⟩), .func (.func 95) #[] #[c1, c2]] w R := by
  have HE : Hid _ := herr
  have HS : Hid _ := hstart
  have HR : Hid _ := hround
  have HF : Hid _ := hfin
  clear herr hstart hround hfin
  go_enter Tryz.func59, Tryz.ntmps59
  go_wp2_with (go_at_call 57; refine (need_any h ⟨#[123]⟩ kOpen rfl (by decide)).mono ?_; rintro e w1 h1; rcases h1.cases with ⟨f, hr1, q, rfl, hq⟩ | ⟨_, v1, hr1, rfl, ⟨rfl, hp1⟩, hf1⟩; (· exact ⟨rfl, HE.out (need_bad hr1).1 _ _ (by rw [← (need_bad hr1).2]; exact ⟨q, rfl, hq⟩)⟩))
  have hI : Hid _ := HS.out (need_ok hr1) w1 hp1 hf1
  go_loopg [] g0 (fun g wr => Hid (Inv g wr))
  case atStart => exact hI
  case round =>
    go_wp2_with fail
    refine (HR.out _ _ hrel.out).mono ?_
    rintro e w2 (⟨rfl, g', hg', hi'⟩ | ⟨rfl, hfn⟩ | ⟨ch, rfl, hR⟩)
    · go_wp2_with fail
      go_roundg g'
      case measure => exact hg'
      case rel => exact hi'
    · obtain ⟨j, st', hp2, hb1, hb2⟩ := HF.out w2 hfn
      have HB1 : Hid _ := hb1
      have HB2 : Hid _ := hb2
      clear hb1 hb2
      go_wp2_with (go_at_call 57; refine (need_any hp2 ⟨#[125]⟩ kShut rfl (by decide)).mono ?_; rintro e w3 h3; rcases h3.cases with ⟨f, hr3, q, rfl, hq⟩ | ⟨_, v3, hr3, rfl, ⟨rfl, hp3⟩, hf3⟩; (· exact ⟨rfl, HB1.out (need_bad hr3).1 _ _ (by rw [← (need_bad hr3).2]; exact ⟨q, rfl, hq⟩)⟩))
      go_end0
      exact HB2.out (need_ok hr3) w3 hp3 hf3
    · exact ⟨rfl, hR⟩
set_option maxRecDepth 100000 in
set_option maxHeartbeats 2000000 in
theorem braced_chart {C : Ctx} {w : World} {i st ins : Nat} {c1 c2 : Value} (h : PS C w i st ins 0) (R : Ending → World → Prop) (Inv : Nat → World → Prop) (Fin : World → Prop) (g0 : Nat)
    (herr : tx C.L i ≠ kOpen → ∀ e w', Thrown C w (3, pl C.L i) e w' → R e w')
    (hstart : tx C.L i = kOpen → ∀ w1, PS C w1 (i + 1) st ins 0 → Fr w.heap.size [C.rb] w w1 → Inv g0 w1)
    (hround : ∀ g w1, Inv g w1 → Calls Tryz.prog 60 #[c1, c2] w1 fun e w2 => (e = .returned (.bool true) ∧ ∃ g', g' < g ∧ Inv g' w2) ∨ (e = .returned (.bool false) ∧ Fin w2) ∨ (∃ ch, e = .panicked ch ∧ R e w2))
    (hfin : ∀ w2, Fin w2 → ∃ j st', PS C w2 j st' ins 0 ∧ (tx C.L j ≠ kShut → ∀ e w3, Thrown C w2 (3, pl C.L j) e w3 → R e w3) ∧ (tx C.L j = kShut → ∀ w3, PS C w3 (j + 1) st' ins 0 → Fr w2.heap.size [C.rb] w2 w3 → R (.returned (.tuple #[])) w3)) :
    Calls Tryz.prog 59 #[.pointer (some ⟨C.rb, 0, none⟩), .func (.func 60) #[] #[c1, c2]] w R := by
  have HE : Hid _ := herr
  have HS : Hid _ := hstart
  have HR : Hid _ := hround
  have HF : Hid _ := hfin
  clear herr hstart hround hfin
  go_enter Tryz.func59, Tryz.ntmps59
  go_wp2_with (go_at_call 57; refine (need_any h ⟨#[123]⟩ kOpen rfl (by decide)).mono ?_; rintro e w1 h1; rcases h1.cases with ⟨f, hr1, q, rfl, hq⟩ | ⟨_, v1, hr1, rfl, ⟨rfl, hp1⟩, hf1⟩; (· exact ⟨rfl, HE.out (need_bad hr1).1 _ _ (by rw [← (need_bad hr1).2]; exact ⟨q, rfl, hq⟩)⟩))
  have hI : Hid _ := HS.out (need_ok hr1) w1 hp1 hf1
  go_loopg [] g0 (fun g wr => Hid (Inv g wr))
  case atStart => exact hI
  case round =>
    go_wp2_with fail
    refine (HR.out _ _ hrel.out).mono ?_
    rintro e w2 (⟨rfl, g', hg', hi'⟩ | ⟨rfl, hfn⟩ | ⟨ch, rfl, hR⟩)
    · go_wp2_with fail
      go_roundg g'
      case measure => exact hg'
      case rel => exact hi'
    · obtain ⟨j, st', hp2, hb1, hb2⟩ := HF.out w2 hfn
      have HB1 : Hid _ := hb1
      have HB2 : Hid _ := hb2
      clear hb1 hb2
      go_wp2_with (go_at_call 57; refine (need_any hp2 ⟨#[125]⟩ kShut rfl (by decide)).mono ?_; rintro e w3 h3; rcases h3.cases with ⟨f, hr3, q, rfl, hq⟩ | ⟨_, v3, hr3, rfl, ⟨rfl, hp3⟩, hf3⟩; (· exact ⟨rfl, HB1.out (need_bad hr3).1 _ _ (by rw [← (need_bad hr3).2]; exact ⟨q, rfl, hq⟩)⟩))
      go_end0
      exact HB2.out (need_ok hr3) w3 hp3 hf3
    · exact ⟨rfl, hR⟩

theorem step_err {L : List Lx.Tok} {k g c i : Nat} {l : List (StF (St k))} {f : F} (h : stepS L k l c i = .error f) : states L (St k) (region L k) (g + 1) l c i = .error f := by
  rw [stepS] at h
  by_cases hw : tx L i = kInitial ∨ tx L i = kFinal ∨ tx L i = kState
  · rw [if_pos hw] at h
    rw [states, if_pos hw]
    split at h
    · rename_i hs; injection h with h; subst h; rw [hs]
    · exact absurd h (by simp)
  · rw [if_neg hw] at h; exact absurd h (by simp)
theorem step_some {L : List Lx.Tok} {k g c i c' j : Nat} {l l' : List (StF (St k))} (h : stepS L k l c i = .ok (some (l', c', j))) : states L (St k) (region L k) (g + 1) l c i = states L (St k) (region L k) g l' c' j := by
  rw [stepS] at h
  by_cases hw : tx L i = kInitial ∨ tx L i = kFinal ∨ tx L i = kState
  · rw [if_pos hw] at h
    rw [states, if_pos hw]
    split at h
    · exact absurd h (by simp)
    · rename_i hs
      rw [hs]
      injection h with h; injection h with h; injection h with e1 h; injection h with e2 e3; subst e1; subst e2; subst e3
      rfl
  · rw [if_neg hw] at h; exact absurd h (by simp)
theorem step_none {L : List Lx.Tok} {k g c i : Nat} {l : List (StF (St k))} (h : stepS L k l c i = .ok none) : states L (St k) (region L k) (g + 1) l c i = if tx L i = kShut then .ok (l, c, i + 1) else .error (3, pl L i) := by
  rw [stepS] at h
  by_cases hw : tx L i = kInitial ∨ tx L i = kFinal ∨ tx L i = kState
  · rw [if_pos hw] at h
    split at h
    · exact absurd h (by simp)
    · exact absurd h (by simp)
  · rw [states, if_neg hw]
def RgOk (C : Ctx) (k B ba vb ins : Nat) (x : List (StF (St k)) × Nat × Nat) (v : Value) (w' : World) : Prop := v = .tuple #[] ∧ PS C w' x.2.2 x.2.1 ins 0 ∧ ∃ u xs, RE C B ba vb w' u ∧ StAt k B w' x.1 u xs
theorem brace_region {C : Ctx} {k B ba vb ins i c : Nat} {w : World} {u : Value} {xs : List Value} (h : PS C w i c ins 0) (hE : RE C B ba vb w u) (hS : StAt k B w [] u xs) (hR : Region C k) (hk : ins + k = 6) :
    Calls Tryz.prog 59 #[.pointer (some ⟨C.rb, 0, none⟩), .func (.func 95) #[] #[.pointer (some ⟨ba, 0, none⟩), .pointer (some ⟨vb, 0, none⟩)]] w
      (OutX B [C.rb, vb] (RgOk C k B ba vb ins) w (if tx C.L i = kOpen then states C.L (St k) (region C.L k) C.L.length [] c (i + 1) else .error (3, pl C.L i))) := by
  obtain ⟨RES, hRES⟩ : ∃ RES, RES = (if tx C.L i = kOpen then states C.L (St k) (region C.L k) C.L.length [] c (i + 1) else .error (3, pl C.L i)) := ⟨_, rfl⟩
  rw [← hRES]
  refine braced_region h _ (fun g w1 => ∃ (l : List (StF (St k))) (c1 j : Nat) (u : Value) (xs : List Value), RES = states C.L (St k) (region C.L k) g l c1 j ∧ C.L.length ≤ g + j ∧ l.length ≤ j ∧ PS C w1 j c1 ins 0 ∧ RE C B ba vb w1 u ∧ StAt k B w1 l u xs ∧ Fr B [C.rb, vb] w w1)
    (fun w2 => ∃ (l : List (StF (St k))) (c1 j : Nat) (u : Value) (xs : List Value), RES = (if tx C.L j = kShut then .ok (l, c1, j + 1) else .error (3, pl C.L j)) ∧ PS C w2 j c1 ins 0 ∧ RE C B ba vb w2 u ∧ StAt k B w2 l u xs ∧ Fr B [C.rb, vb] w w2) C.L.length ?_ ?_ ?_ ?_
  · intro hn e w' ht
    rw [hRES, if_neg hn]
    exact ht.x (Fr.refl _ _ _) hE.hB (by simp)
  · intro ho w1 hp1 hf1
    exact ⟨[], c, i + 1, u, xs, by rw [hRES, if_pos ho], by omega, by simp, hp1, hE.carry hf1, hS.carry hE.lr hf1, hf1.x hE.hB⟩
  · rintro g w1 ⟨l, c1, j, u1, xs1, hr1, hg, hlj, hp1, hE1, hS1, hf1⟩
    obtain ⟨g', rfl⟩ : ∃ g', g = g' + 1 := ⟨g - 1, by have := hp1.lt; omega⟩
    refine (region1_any hp1 hE1 hS1 hlj hR hk).mono ?_
    rintro e w2 h2
    rcases h2.cases with ⟨f, hr2, ht⟩ | ⟨o, v, hr2, rfl, hv, hf2⟩
    · refine .inr (.inr ?_)
      obtain ⟨q, rfl, hq⟩ := ht
      refine ⟨_, rfl, ?_⟩
      rw [hr1, step_err hr2.out]
      exact ThrownX.up ⟨q, rfl, hq⟩ hf1
    · cases o with
      | none =>
        obtain ⟨rfl, hp2, u2, xs2, hE2, hS2⟩ := hv
        exact .inr (.inl ⟨rfl, l, c1, j, u2, xs2, by rw [hr1, step_none hr2.out], hp2, hE2, hS2, hf1.trans hf2⟩)
      | some x =>
        obtain ⟨l2, c2, j2⟩ := x
        obtain ⟨rfl, hlt, hl2, hp2, u2, xs2, hE2, hS2⟩ := hv
        exact .inl ⟨rfl, g', by omega, l2, c2, j2, u2, xs2, by rw [hr1, step_some hr2.out], by omega, hl2, hp2, hE2, hS2, hf1.trans hf2⟩
  · rintro w2 ⟨l, c1, j, u1, xs1, hr1, hp1, hE1, hS1, hf1⟩
    refine ⟨j, c1, hp1, fun hn e w3 ht => ?_, fun ho w3 hp3 hf3 => ?_⟩
    · rw [hr1, if_neg hn]
      exact ht.x hf1 (Nat.le_trans hE.hB hf1.size) (by simp)
    · rw [hr1, if_pos ho]
      exact ⟨_, rfl, ⟨rfl, hp3, u1, xs1, hE1.carry hf3, hS1.carry hE.lr hf3⟩, hf1.trans (hf3.x (Nat.le_trans hE.hB hf1.size))⟩

set_option maxRecDepth 100000 in
set_option maxHeartbeats 4000000 in
theorem region_zero {C : Ctx} : Region C 0 := by
  intro w i c ins hk h
  obtain ⟨hp0, hf0⟩ := h.alloc (.cells #[.pointer (some ⟨C.rb, 0, none⟩)] 127)
  have x1 : (w.alloc (.cells #[.pointer (some ⟨C.rb, 0, none⟩)] 127)).cell? ⟨w.heap.size, 0, none⟩ = some (.pointer (some ⟨C.rb, 0, none⟩)) := by simp
  obtain ⟨-, -, -, c3, -⟩ := hp0.cells
  go_enter Tryz.func66, Tryz.ntmps66
  go_wp2_with fail
  generalize (w.alloc (.cells #[.pointer (some ⟨C.rb, 0, none⟩)] 127)) = W0 at hp0 hf0 x1 c3 ⊢
  have hdr := (Fr.refl W0.heap.size [] W0).drew
  have hpd := hp0.same hdr
  go_still_tail 5, (by kernel_rfl)
  go_wp2_with (go_at_call 63; refine (bound_bad hpd ins 6 (by omega)).mono ?_; rintro e w2 ⟨q, rfl, hq⟩; exact ⟨rfl, by (show Thrown C w (4, pl C.L i) _ _); exact Thrown.up (hf0.drew) ⟨q, rfl, hq⟩⟩)

set_option maxRecDepth 100000 in
set_option maxHeartbeats 8000000 in
theorem region_succ {C : Ctx} {k : Nat} (hR : Region C k) : Region C (k + 1) := by
  intro w i c ins hk h
  have hC := h.lts.1
  obtain ⟨hp0, hf0⟩ := h.alloc (.cells #[.pointer (some ⟨C.rb, 0, none⟩)] 127)
  have x1 : (w.alloc (.cells #[.pointer (some ⟨C.rb, 0, none⟩)] 127)).cell? ⟨w.heap.size, 0, none⟩ = some (.pointer (some ⟨C.rb, 0, none⟩)) := by simp
  obtain ⟨-, -, -, c3, -⟩ := hp0.cells
  have hmf : ∀ (fn : Fn) (first cap : Array Value) (w : World), (Instr.makeFunc fn first cap).run Tryz.prog w = .ok (.func fn first cap) w := fun _ _ _ _ => rfl
  have hz0 : (w.alloc (.cells #[.pointer (some ⟨C.rb, 0, none⟩)] 127)).heap.size = w.heap.size + 1 := by simp
  have HSP : Hid (region C.L (k + 1) c i = if tx C.L i = kOpen then states C.L (St k) (region C.L k) C.L.length [] c (i + 1) else .error (3, pl C.L i)) := rfl
  go_enter Tryz.func66, Tryz.ntmps66
  go_wp2_with fail
  generalize (w.alloc (.cells #[.pointer (some ⟨C.rb, 0, none⟩)] 127)) = W0 at hp0 hf0 x1 c3 hz0 ⊢
  have hdr := (Fr.refl W0.heap.size [] W0).drew
  have hpd := hp0.same hdr
  go_still_tail 5, (by kernel_rfl)
  go_wp2_with (go_at_call 63; refine (bound_ok (C := C) ins 6 (by omega)).mono ?_; rintro e w2 ⟨rfl, hw2⟩; have hp2 : PS C w2 i c ins 0 := (by rw [hw2]; exact hpd); have hf2 : Fr W0.heap.size [] W0 w2 := (by rw [hw2]; exact hdr); clear hw2; have y1 : w2.cell? ⟨w.heap.size, 0, none⟩ = some (.pointer (some ⟨C.rb, 0, none⟩)) := (by rw [hf2.cell (p := ⟨w.heap.size, 0, none⟩) (by show w.heap.size < _; omega) (by simp)]; exact x1); obtain ⟨-, -, -, d3, -⟩ := hp2.cells; have z3 := hp2.frozen 3; have hz2 := hf2.size; obtain ⟨hp3, hf3⟩ := hp2.into; obtain ⟨hp4, hf4⟩ := hp3.alloc (.cells #[.slice none 0 0] 133); have hz3 : (w2.setCell ⟨C.rb, 3, none⟩ (.int .i64 ((ins : Int) + 1))).heap.size = w2.heap.size := (by simp [World.setCell]); have hF4 : Fr w.heap.size [C.rb] w ((w2.setCell ⟨C.rb, 3, none⟩ (.int .i64 ((ins : Int) + 1))).alloc (.cells #[.slice none 0 0] 133)) := ((hf0.up hf2.wide).up hf3).up hf4; have y4 : ((w2.setCell ⟨C.rb, 3, none⟩ (.int .i64 ((ins : Int) + 1))).alloc (.cells #[.slice none 0 0] 133)).cell? ⟨w.heap.size, 0, none⟩ = some (.pointer (some ⟨C.rb, 0, none⟩)) := (by rw [hf4.cell (p := ⟨w.heap.size, 0, none⟩) (by show w.heap.size < _; omega) (by simp; omega), hf3.cell (p := ⟨w.heap.size, 0, none⟩) (by show w.heap.size < _; omega) (by simp; omega)]; exact y1); have hb4 : ((w2.setCell ⟨C.rb, 3, none⟩ (.int .i64 ((ins : Int) + 1))).alloc (.cells #[.slice none 0 0] 133)).heap[w2.heap.size]? = some (.cells #[.slice none 0 0] 133 (0, 0)) := (by rw [← hz3]; exact heap_alloc_new _ _); have hE4 : RE C (w2.heap.size + 1) w.heap.size w2.heap.size ((w2.setCell ⟨C.rb, 3, none⟩ (.int .i64 ((ins : Int) + 1))).alloc (.cells #[.slice none 0 0] 133)) (.slice none 0 0) := ⟨y4, hb4, by omega, by omega, hC, by omega, by omega, by omega, lt_of_block hb4⟩; have hS4 : StAt k (w2.heap.size + 1) ((w2.setCell ⟨C.rb, 3, none⟩ (.int .i64 ((ins : Int) + 1))).alloc (.cells #[.slice none 0 0] 133)) [] (.slice none 0 0) [] := ⟨World.ownsRow_nil _ _ _ _, rfl⟩; have hbr := brace_region hp4 hE4 hS4 hR (by omega); have hz4 := hF4.size; have HTH : Hid (∀ f e w5, ThrownX (w2.heap.size + 1) [C.rb, w2.heap.size] ((w2.setCell ⟨C.rb, 3, none⟩ (.int .i64 ((ins : Int) + 1))).alloc (.cells #[.slice none 0 0] 133)) f e w5 → Thrown C w f e w5) := (fun f e w5 ⟨q, h1, h2, h3, h4⟩ => ⟨q, h1, h2, Nat.le_trans hz4 h3, hF4.trans (h4.mono (by omega) (by intro x hx hlt; simp at hx ⊢; omega))⟩))
  go_wp2_with (first
    | (go_at_call 59; refine hbr.mono ?_; rintro e w5 h5; rcases h5.cases with ⟨f, hr5, q, rfl, hq⟩ | ⟨⟨l5, c5, j5⟩, v5, hr5, rfl, ⟨rfl, hp5, u5, xs5, hE5, hS5⟩, hf5⟩; (· exact ⟨rfl, by rw [HSP.out, hr5.out]; exact HTH.out _ _ _ ⟨q, rfl, hq⟩⟩); obtain ⟨ao5, cap5, rfl⟩ := owns_shape hS5.own; have y5 := hE5.a; obtain ⟨-, -, -, e3, -⟩ := hp5.cells; have ez3 := hp5.frozen 3; obtain ⟨v5c, v5z⟩ := cel hE5.v 0 _ rfl; have hne5 : ¬ C.rb = w2.heap.size := (by omega); have hne6 : ¬ w2.heap.size = C.rb := (by omega)))
  go_ret
  rw [HSP.out, hr5.out]
  obtain ⟨hp6, hf6⟩ := hp5.outOf
  have hF5 : Fr w.heap.size [C.rb] w w5 := hF4.trans (hf5.mono (by omega) (by intro x hx hlt; simp at hx ⊢; omega))
  have hl5 := hp5.lts.1
  have kq : Keep (Ge (w2.heap.size + 1)) (Ge w.heap.size) w5 (w5.setCell ⟨C.rb, 3, none⟩ (.int .i64 (ins : Int))) := fun b hb _ => ⟨by simp [Ge] at *; omega, Below.heap_setCell _ _ _ _ (by simp [Ge] at *; omega)⟩
  exact ⟨_, rfl, ⟨IsStates.carry kq (k + 1) _ _ hS5.done, hp6⟩, hF5.up hf6⟩
theorem region_any {C : Ctx} : ∀ k, Region C k := by
  intro k
  induction k with
  | zero => exact region_zero
  | succ k ih => exact region_succ ih
end Go.Proofs.YtiihgnagjemikaaGreatDoor
