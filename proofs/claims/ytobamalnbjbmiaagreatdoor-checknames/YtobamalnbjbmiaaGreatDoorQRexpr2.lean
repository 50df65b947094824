/- The document's own reader: expr and the functions in it. -/
import Derived.Test.YtobamalnbjbmiaaGreatDoorQRchain2
import Derived.Test.YtobamalnbjbmiaaGreatDoorQRchain5
namespace Go.Proofs.YtobamalnbjbmiaaGreatDoor
open Go.RowKit Px

/-- the variables that the functions in expr hold -/
structure Bx (C : Ctx) (n b : Nat) (w : World) : Prop where
  lo : C.rb < b
  hi : b + 6 ≤ w.heap.size
  c0 : w.cell? ⟨b, 0, none⟩ = some (.pointer (some ⟨C.rb, 0, none⟩))
  c1 : w.cell? ⟨b + 1, 0, none⟩ = some (.int .i64 n)
  c2 : w.cell? ⟨b + 2, 0, none⟩ = some (.func (.func 212) #[] #[.pointer (some ⟨b, 0, none⟩), .pointer (some ⟨b + 1, 0, none⟩)])
  c3 : w.cell? ⟨b + 3, 0, none⟩ = some (.func (.func 214) #[] #[.pointer (some ⟨b, 0, none⟩), .pointer (some ⟨b + 2, 0, none⟩)])
  c4 : w.cell? ⟨b + 4, 0, none⟩ = some (.func (.func 216) #[] #[.pointer (some ⟨b, 0, none⟩), .pointer (some ⟨b + 3, 0, none⟩)])
  c5 : w.cell? ⟨b + 5, 0, none⟩ = some (.func (.func 217) #[] #[.pointer (some ⟨b, 0, none⟩), .pointer (some ⟨b + 4, 0, none⟩)])
theorem Bx.carry {C : Ctx} {n b : Nat} (w w' : World) (h : Bx C n b w) (hf : Fr w.heap.size [C.rb] w w') : Bx C n b w' := by
  have h1 := h.lo
  have h2 := h.hi
  have h3 := hf.size
  exact ⟨h1, by omega, by rw [hf.cell (p := ⟨b, 0, none⟩) (by show b < _; omega) (by simp; omega)]; exact h.c0,
    by rw [hf.cell (p := ⟨b + 1, 0, none⟩) (by show b + 1 < _; omega) (by simp; omega)]; exact h.c1,
    by rw [hf.cell (p := ⟨b + 2, 0, none⟩) (by show b + 2 < _; omega) (by simp; omega)]; exact h.c2,
    by rw [hf.cell (p := ⟨b + 3, 0, none⟩) (by show b + 3 < _; omega) (by simp; omega)]; exact h.c3,
    by rw [hf.cell (p := ⟨b + 4, 0, none⟩) (by show b + 4 < _; omega) (by simp; omega)]; exact h.c4,
    by rw [hf.cell (p := ⟨b + 5, 0, none⟩) (by show b + 5 < _; omega) (by simp; omega)]; exact h.c5⟩
theorem ROut.of {C : Ctx} {w w1 : World} {p : E × S} {e : Ending} {w' : World} (hf : Fr w.heap.size [C.rb] w w1) (h : ROut C (fun e v w' => IsE (Ge w1.heap.size) w' e v) w1 p e w') : ROut C (fun e v w' => IsE (Ge w.heap.size) w' e v) w p e w' := by
  obtain ⟨v, h1, h2, h3, h4⟩ := h
  exact ⟨v, h1, h2.ge hf.size, h3, hf.up h4⟩
theorem signs_new (C : Ctx) (w : World) (sg : List (Str × Nat)) (T1 T2 : TypeId) (hC : C.rb < w.heap.size) : Signs C ((w.alloc (.cells (sg.map (fun p => sv p.1)).toArray T1)).alloc (.cells (sg.map (fun p => .int .i64 p.2)).toArray T2)) w.heap.size (w.heap.size + 1) sg := by
  have h1 : ((w.alloc (.cells (sg.map (fun p => sv p.1)).toArray T1)).alloc (.cells (sg.map (fun p => .int .i64 p.2)).toArray T2)).heap[w.heap.size]? = some (.cells (sg.map (fun p => sv p.1)).toArray T1 (0, 0)) := by
    rw [Below.heap_alloc _ _ _ (by simp)]; exact heap_alloc_new w _
  have h2 : ((w.alloc (.cells (sg.map (fun p => sv p.1)).toArray T1)).alloc (.cells (sg.map (fun p => .int .i64 p.2)).toArray T2)).heap[w.heap.size + 1]? = some (.cells (sg.map (fun p => .int .i64 p.2)).toArray T2 (0, 0)) := by
    have := heap_alloc_new (w.alloc (.cells (sg.map (fun p => sv p.1)).toArray T1)) (.cells (sg.map (fun p => .int .i64 p.2)).toArray T2)
    simpa using this
  refine ⟨fun j p hj => ⟨?_, ?_⟩, by simp; omega, by simp, by omega, by omega⟩
  · rw [cell_of_row _ _ _ _ _ _ h1]; simp [hj]
  · rw [cell_of_row _ _ _ _ _ _ h2]; simp [hj]
/-- a ONE, where so many depths are left -/
def ROne (C : Ctx) (k : Nat) : Prop := ∀ (w : World) (σ : S) (n : Nat), n + k = 7 → RS C w σ → Calls Tryz.prog 213 #[.pointer (some ⟨C.rb, 0, none⟩), .int .i64 n] w (ROut C (fun e v w' => IsE (Ge w.heap.size) w' e v) w (oneR C.L k σ))
set_option maxRecDepth 100000 in
set_option maxHeartbeats 1000000 in
theorem kid1 {C : Ctx} {k n b : Nat} (ho : ROne C k) (hn : n + k = 7) : Kid C 212 #[.pointer (some ⟨b, 0, none⟩), .pointer (some ⟨b + 1, 0, none⟩)] (Bx C n b) (levR C.L (oneR C.L k) 0) := by
  intro w σ h hb
  have c0 := hb.c0
  have c1 := hb.c1
  have hc := ho w σ n hn h
  go_enter Tryz.func212, Tryz.ntmps212
  go_wp2_with (go_at_call 213; refine hc.mono ?_; rintro e w1 ⟨v, rfl, hv, h1, hf⟩)
  go_ret
  exact ⟨v, rfl, hv, h1, hf⟩
set_option maxRecDepth 100000 in
set_option maxHeartbeats 2000000 in
theorem kid2 {C : Ctx} {k n b : Nat} (ho : ROne C k) (hn : n + k = 7) : Kid C 214 #[.pointer (some ⟨b, 0, none⟩), .pointer (some ⟨b + 2, 0, none⟩)] (Bx C n b) (levR C.L (oneR C.L k) 1) := by
  intro w σ h hb
  have c0 := hb.c0
  have c1 := hb.c2
  have hf0 : Fr w.heap.size [C.rb] w ((w.alloc (.cells #[.string ⟨#[42]⟩, .string ⟨#[47]⟩, .string ⟨#[37]⟩] 9)).alloc (.cells #[.int .i64 8, .int .i64 9, .int .i64 10] 3)) := ((Fr.refl _ _ _).alloc (Nat.le_refl _) _).alloc (by simp) _
  have hs := signs_new C w [([42], 8), ([47], 9), ([37], 10)] 9 3 h.lts.1
  have hc := r_chain1 (kid1 ho hn) Bx.carry (lev_sim (one_sim k) 0) (lev_lt (one_lt k) 0) [([42], 8), ([47], 9), ([37], 10)] (by decide) (by decide) (h.same (((Fr.refl _ _ _).alloc (Nat.le_refl _) _).alloc (by simp) _)) (Bx.carry _ _ hb hf0) hs
  go_enter Tryz.func214, Tryz.ntmps214
  go_wp2_with (go_at_call 215; refine hc.mono ?_; rintro e w1 hr; obtain ⟨v, rfl, hv, h1, hf⟩ := ROut.of hf0 hr)
  go_ret
  exact ⟨v, rfl, hv, h1, hf⟩
set_option maxRecDepth 100000 in
set_option maxHeartbeats 2000000 in
theorem kid3 {C : Ctx} {k n b : Nat} (ho : ROne C k) (hn : n + k = 7) : Kid C 216 #[.pointer (some ⟨b, 0, none⟩), .pointer (some ⟨b + 3, 0, none⟩)] (Bx C n b) (levR C.L (oneR C.L k) 2) := by
  intro w σ h hb
  have c0 := hb.c0
  have c1 := hb.c3
  have hf0 : Fr w.heap.size [C.rb] w ((w.alloc (.cells #[.string ⟨#[43]⟩, .string ⟨#[45]⟩] 9)).alloc (.cells #[.int .i64 6, .int .i64 7] 3)) := ((Fr.refl _ _ _).alloc (Nat.le_refl _) _).alloc (by simp) _
  have hs := signs_new C w [([43], 6), ([45], 7)] 9 3 h.lts.1
  have hc := r_chain2 (kid2 ho hn) Bx.carry (lev_sim (one_sim k) 1) (lev_lt (one_lt k) 1) [([43], 6), ([45], 7)] (by decide) (by decide) (h.same (((Fr.refl _ _ _).alloc (Nat.le_refl _) _).alloc (by simp) _)) (Bx.carry _ _ hb hf0) hs
  go_enter Tryz.func216, Tryz.ntmps216
  go_wp2_with (go_at_call 215; refine hc.mono ?_; rintro e w1 hr; obtain ⟨v, rfl, hv, h1, hf⟩ := ROut.of hf0 hr)
  go_ret
  exact ⟨v, rfl, hv, h1, hf⟩
set_option maxRecDepth 100000 in
set_option maxHeartbeats 2000000 in
theorem kid4 {C : Ctx} {k n b : Nat} (ho : ROne C k) (hn : n + k = 7) : Kid C 217 #[.pointer (some ⟨b, 0, none⟩), .pointer (some ⟨b + 4, 0, none⟩)] (Bx C n b) (levR C.L (oneR C.L k) 3) := by
  intro w σ h hb
  have c0 := hb.c0
  have c1 := hb.c4
  have hf0 : Fr w.heap.size [C.rb] w ((w.alloc (.cells #[.string ⟨#[61, 61]⟩, .string ⟨#[33, 61]⟩, .string ⟨#[60]⟩, .string ⟨#[60, 61]⟩] 9)).alloc (.cells #[.int .i64 11, .int .i64 12, .int .i64 13, .int .i64 14] 3)) := ((Fr.refl _ _ _).alloc (Nat.le_refl _) _).alloc (by simp) _
  have hs := signs_new C w [([61, 61], 11), ([33, 61], 12), ([60], 13), ([60, 61], 14)] 9 3 h.lts.1
  have hc := r_chain3 (kid3 ho hn) Bx.carry (lev_sim (one_sim k) 2) (lev_lt (one_lt k) 2) [([61, 61], 11), ([33, 61], 12), ([60], 13), ([60, 61], 14)] (by decide) (by decide) (h.same (((Fr.refl _ _ _).alloc (Nat.le_refl _) _).alloc (by simp) _)) (Bx.carry _ _ hb hf0) hs
  go_enter Tryz.func217, Tryz.ntmps217
  go_wp2_with (go_at_call 215; refine hc.mono ?_; rintro e w1 hr; obtain ⟨v, rfl, hv, h1, hf⟩ := ROut.of hf0 hr)
  go_ret
  exact ⟨v, rfl, hv, h1, hf⟩
set_option maxRecDepth 100000 in
set_option maxHeartbeats 2000000 in
theorem kid5 {C : Ctx} {k n b : Nat} (ho : ROne C k) (hn : n + k = 7) : Kid C 218 #[.pointer (some ⟨b, 0, none⟩), .pointer (some ⟨b + 5, 0, none⟩)] (Bx C n b) (levR C.L (oneR C.L k) 4) := by
  intro w σ h hb
  have c0 := hb.c0
  have c1 := hb.c5
  have hf0 : Fr w.heap.size [C.rb] w ((w.alloc (.cells #[.string ⟨#[38, 38]⟩] 9)).alloc (.cells #[.int .i64 15] 3)) := ((Fr.refl _ _ _).alloc (Nat.le_refl _) _).alloc (by simp) _
  have hs := signs_new C w [([38, 38], 15)] 9 3 h.lts.1
  have hc := r_chain4 (kid4 ho hn) Bx.carry (lev_sim (one_sim k) 3) (lev_lt (one_lt k) 3) [([38, 38], 15)] (by decide) (by decide) (h.same (((Fr.refl _ _ _).alloc (Nat.le_refl _) _).alloc (by simp) _)) (Bx.carry _ _ hb hf0) hs
  go_enter Tryz.func218, Tryz.ntmps218
  go_wp2_with (go_at_call 215; refine hc.mono ?_; rintro e w1 hr; obtain ⟨v, rfl, hv, h1, hf⟩ := ROut.of hf0 hr)
  go_ret
  exact ⟨v, rfl, hv, h1, hf⟩
end Go.Proofs.YtobamalnbjbmiaaGreatDoor
/- The document's own reader: expr. -/
namespace Go.Proofs.YtobamalnbjbmiaaGreatDoor
open Go.RowKit Px

theorem box_step (w : World) (v : Value) (T : TypeId) : (w.alloc (.cells #[v] T)).cell? ⟨w.heap.size, 0, none⟩ = some v ∧ (w.alloc (.cells #[v] T)).heap.size = w.heap.size + 1 ∧ (∀ b, b < w.heap.size → (w.alloc (.cells #[v] T)).cell? ⟨b, 0, none⟩ = w.cell? ⟨b, 0, none⟩) ∧ Fr w.heap.size [] w (w.alloc (.cells #[v] T)) :=
  ⟨by simp, by simp, fun b hb => World.cell?_alloc_lt _ _ ⟨b, 0, none⟩ hb, (Fr.refl _ _ _).alloc (Nat.le_refl _) _⟩
theorem bx_new {C : Ctx} (w : World) (n : Nat) (hC : C.rb < w.heap.size) : Bx C n w.heap.size ((((((w.alloc (.cells #[.pointer (some ⟨C.rb, 0, none⟩)] 178)).alloc (.cells #[.int .i64 n] 3)).alloc (.cells #[.func (.func 212) #[] #[.pointer (some ⟨w.heap.size, 0, none⟩), .pointer (some ⟨w.heap.size + 1, 0, none⟩)]] 278)).alloc (.cells #[.func (.func 214) #[] #[.pointer (some ⟨w.heap.size, 0, none⟩), .pointer (some ⟨w.heap.size + 2, 0, none⟩)]] 278)).alloc (.cells #[.func (.func 216) #[] #[.pointer (some ⟨w.heap.size, 0, none⟩), .pointer (some ⟨w.heap.size + 3, 0, none⟩)]] 278)).alloc (.cells #[.func (.func 217) #[] #[.pointer (some ⟨w.heap.size, 0, none⟩), .pointer (some ⟨w.heap.size + 4, 0, none⟩)]] 278)) ∧ Fr w.heap.size [] w ((((((w.alloc (.cells #[.pointer (some ⟨C.rb, 0, none⟩)] 178)).alloc (.cells #[.int .i64 n] 3)).alloc (.cells #[.func (.func 212) #[] #[.pointer (some ⟨w.heap.size, 0, none⟩), .pointer (some ⟨w.heap.size + 1, 0, none⟩)]] 278)).alloc (.cells #[.func (.func 214) #[] #[.pointer (some ⟨w.heap.size, 0, none⟩), .pointer (some ⟨w.heap.size + 2, 0, none⟩)]] 278)).alloc (.cells #[.func (.func 216) #[] #[.pointer (some ⟨w.heap.size, 0, none⟩), .pointer (some ⟨w.heap.size + 3, 0, none⟩)]] 278)).alloc (.cells #[.func (.func 217) #[] #[.pointer (some ⟨w.heap.size, 0, none⟩), .pointer (some ⟨w.heap.size + 4, 0, none⟩)]] 278)) ∧ ((((((w.alloc (.cells #[.pointer (some ⟨C.rb, 0, none⟩)] 178)).alloc (.cells #[.int .i64 n] 3)).alloc (.cells #[.func (.func 212) #[] #[.pointer (some ⟨w.heap.size, 0, none⟩), .pointer (some ⟨w.heap.size + 1, 0, none⟩)]] 278)).alloc (.cells #[.func (.func 214) #[] #[.pointer (some ⟨w.heap.size, 0, none⟩), .pointer (some ⟨w.heap.size + 2, 0, none⟩)]] 278)).alloc (.cells #[.func (.func 216) #[] #[.pointer (some ⟨w.heap.size, 0, none⟩), .pointer (some ⟨w.heap.size + 3, 0, none⟩)]] 278)).alloc (.cells #[.func (.func 217) #[] #[.pointer (some ⟨w.heap.size, 0, none⟩), .pointer (some ⟨w.heap.size + 4, 0, none⟩)]] 278)).heap.size = w.heap.size + 6 := by
  obtain ⟨a0, z0, o0, f0⟩ := box_step w (.pointer (some ⟨C.rb, 0, none⟩)) 178
  generalize (w.alloc (.cells #[.pointer (some ⟨C.rb, 0, none⟩)] 178)) = w1 at *
  obtain ⟨a1, z1, o1, f1⟩ := box_step w1 (.int .i64 n) 3
  generalize (w1.alloc (.cells #[.int .i64 n] 3)) = w2 at *
  obtain ⟨a2, z2, o2, f2⟩ := box_step w2 (.func (.func 212) #[] #[.pointer (some ⟨w.heap.size, 0, none⟩), .pointer (some ⟨w.heap.size + 1, 0, none⟩)]) 278
  generalize (w2.alloc (.cells #[.func (.func 212) #[] #[.pointer (some ⟨w.heap.size, 0, none⟩), .pointer (some ⟨w.heap.size + 1, 0, none⟩)]] 278)) = w3 at *
  obtain ⟨a3, z3, o3, f3⟩ := box_step w3 (.func (.func 214) #[] #[.pointer (some ⟨w.heap.size, 0, none⟩), .pointer (some ⟨w.heap.size + 2, 0, none⟩)]) 278
  generalize (w3.alloc (.cells #[.func (.func 214) #[] #[.pointer (some ⟨w.heap.size, 0, none⟩), .pointer (some ⟨w.heap.size + 2, 0, none⟩)]] 278)) = w4 at *
  obtain ⟨a4, z4, o4, f4⟩ := box_step w4 (.func (.func 216) #[] #[.pointer (some ⟨w.heap.size, 0, none⟩), .pointer (some ⟨w.heap.size + 3, 0, none⟩)]) 278
  generalize (w4.alloc (.cells #[.func (.func 216) #[] #[.pointer (some ⟨w.heap.size, 0, none⟩), .pointer (some ⟨w.heap.size + 3, 0, none⟩)]] 278)) = w5 at *
  obtain ⟨a5, z5, o5, f5⟩ := box_step w5 (.func (.func 217) #[] #[.pointer (some ⟨w.heap.size, 0, none⟩), .pointer (some ⟨w.heap.size + 4, 0, none⟩)]) 278
  generalize (w5.alloc (.cells #[.func (.func 217) #[] #[.pointer (some ⟨w.heap.size, 0, none⟩), .pointer (some ⟨w.heap.size + 4, 0, none⟩)]] 278)) = w6 at *
  refine ⟨⟨hC, by omega, by rw [o5 _ (by omega), o4 _ (by omega), o3 _ (by omega), o2 _ (by omega), o1 _ (by omega)]; exact a0, by rw [o5 _ (by omega), o4 _ (by omega), o3 _ (by omega), o2 _ (by omega)]; rw [show w.heap.size + 1 = w1.heap.size by omega]; exact a1, by rw [o5 _ (by omega), o4 _ (by omega), o3 _ (by omega)]; rw [show w.heap.size + 2 = w2.heap.size by omega]; exact a2, by rw [o5 _ (by omega), o4 _ (by omega)]; rw [show w.heap.size + 3 = w3.heap.size by omega]; exact a3, by rw [o5 _ (by omega)]; rw [show w.heap.size + 4 = w4.heap.size by omega]; exact a4, by rw [show w.heap.size + 5 = w5.heap.size by omega]; exact a5⟩, ?_, by omega⟩
  exact ((((f0.up f1).up f2).up f3).up f4).up f5
set_option maxRecDepth 100000 in
set_option maxHeartbeats 2000000 in
theorem r_expr {C : Ctx} {k : Nat} (ho : ROne C k) (w : World) (σ : S) (n : Nat) (hn : n + k = 7) (h : RS C w σ) : Calls Tryz.prog 186 #[.pointer (some ⟨C.rb, 0, none⟩), .int .i64 n] w (ROut C (fun e v w' => IsE (Ge w.heap.size) w' e v) w (exprR C.L k σ)) := by
  have hmf : ∀ (fn : Fn) (first cap : Array Value) (w : World), (Instr.makeFunc fn first cap).run Tryz.prog w = .ok (.func fn first cap) w := fun _ _ _ _ => rfl
  obtain ⟨hb, hf6, hz⟩ := bx_new w n h.lts.1
  have hs := signs_new C ((((((w.alloc (.cells #[.pointer (some ⟨C.rb, 0, none⟩)] 178)).alloc (.cells #[.int .i64 n] 3)).alloc (.cells #[.func (.func 212) #[] #[.pointer (some ⟨w.heap.size, 0, none⟩), .pointer (some ⟨w.heap.size + 1, 0, none⟩)]] 278)).alloc (.cells #[.func (.func 214) #[] #[.pointer (some ⟨w.heap.size, 0, none⟩), .pointer (some ⟨w.heap.size + 2, 0, none⟩)]] 278)).alloc (.cells #[.func (.func 216) #[] #[.pointer (some ⟨w.heap.size, 0, none⟩), .pointer (some ⟨w.heap.size + 3, 0, none⟩)]] 278)).alloc (.cells #[.func (.func 217) #[] #[.pointer (some ⟨w.heap.size, 0, none⟩), .pointer (some ⟨w.heap.size + 4, 0, none⟩)]] 278)) [([124, 124], 16)] 9 3 (by rw [hz]; have := h.lts.1; omega)
  rw [hz] at hs
  have hf2 : Fr ((((((w.alloc (.cells #[.pointer (some ⟨C.rb, 0, none⟩)] 178)).alloc (.cells #[.int .i64 n] 3)).alloc (.cells #[.func (.func 212) #[] #[.pointer (some ⟨w.heap.size, 0, none⟩), .pointer (some ⟨w.heap.size + 1, 0, none⟩)]] 278)).alloc (.cells #[.func (.func 214) #[] #[.pointer (some ⟨w.heap.size, 0, none⟩), .pointer (some ⟨w.heap.size + 2, 0, none⟩)]] 278)).alloc (.cells #[.func (.func 216) #[] #[.pointer (some ⟨w.heap.size, 0, none⟩), .pointer (some ⟨w.heap.size + 3, 0, none⟩)]] 278)).alloc (.cells #[.func (.func 217) #[] #[.pointer (some ⟨w.heap.size, 0, none⟩), .pointer (some ⟨w.heap.size + 4, 0, none⟩)]] 278)).heap.size [] ((((((w.alloc (.cells #[.pointer (some ⟨C.rb, 0, none⟩)] 178)).alloc (.cells #[.int .i64 n] 3)).alloc (.cells #[.func (.func 212) #[] #[.pointer (some ⟨w.heap.size, 0, none⟩), .pointer (some ⟨w.heap.size + 1, 0, none⟩)]] 278)).alloc (.cells #[.func (.func 214) #[] #[.pointer (some ⟨w.heap.size, 0, none⟩), .pointer (some ⟨w.heap.size + 2, 0, none⟩)]] 278)).alloc (.cells #[.func (.func 216) #[] #[.pointer (some ⟨w.heap.size, 0, none⟩), .pointer (some ⟨w.heap.size + 3, 0, none⟩)]] 278)).alloc (.cells #[.func (.func 217) #[] #[.pointer (some ⟨w.heap.size, 0, none⟩), .pointer (some ⟨w.heap.size + 4, 0, none⟩)]] 278)) ((((((((w.alloc (.cells #[.pointer (some ⟨C.rb, 0, none⟩)] 178)).alloc (.cells #[.int .i64 n] 3)).alloc (.cells #[.func (.func 212) #[] #[.pointer (some ⟨w.heap.size, 0, none⟩), .pointer (some ⟨w.heap.size + 1, 0, none⟩)]] 278)).alloc (.cells #[.func (.func 214) #[] #[.pointer (some ⟨w.heap.size, 0, none⟩), .pointer (some ⟨w.heap.size + 2, 0, none⟩)]] 278)).alloc (.cells #[.func (.func 216) #[] #[.pointer (some ⟨w.heap.size, 0, none⟩), .pointer (some ⟨w.heap.size + 3, 0, none⟩)]] 278)).alloc (.cells #[.func (.func 217) #[] #[.pointer (some ⟨w.heap.size, 0, none⟩), .pointer (some ⟨w.heap.size + 4, 0, none⟩)]] 278)).alloc (.cells #[.string ⟨#[124, 124]⟩] 9)).alloc (.cells #[.int .i64 16] 3)) := ((Fr.refl _ _ _).alloc (Nat.le_refl _) _).alloc (by simp) _
  have hf8 : Fr w.heap.size [C.rb] w ((((((((w.alloc (.cells #[.pointer (some ⟨C.rb, 0, none⟩)] 178)).alloc (.cells #[.int .i64 n] 3)).alloc (.cells #[.func (.func 212) #[] #[.pointer (some ⟨w.heap.size, 0, none⟩), .pointer (some ⟨w.heap.size + 1, 0, none⟩)]] 278)).alloc (.cells #[.func (.func 214) #[] #[.pointer (some ⟨w.heap.size, 0, none⟩), .pointer (some ⟨w.heap.size + 2, 0, none⟩)]] 278)).alloc (.cells #[.func (.func 216) #[] #[.pointer (some ⟨w.heap.size, 0, none⟩), .pointer (some ⟨w.heap.size + 3, 0, none⟩)]] 278)).alloc (.cells #[.func (.func 217) #[] #[.pointer (some ⟨w.heap.size, 0, none⟩), .pointer (some ⟨w.heap.size + 4, 0, none⟩)]] 278)).alloc (.cells #[.string ⟨#[124, 124]⟩] 9)).alloc (.cells #[.int .i64 16] 3)) := (hf6.up hf2).wide
  have hc := r_chain5 (kid5 ho hn) Bx.carry (lev_sim (one_sim k) 4) (lev_lt (one_lt k) 4) [([124, 124], 16)] (by decide) (by decide) (h.same (hf6.up hf2)) (Bx.carry _ _ hb hf2.wide) hs
  clear hb hf6 hs
  go_enter Tryz.func186, Tryz.ntmps186
  go_wp2_with (go_at_call 215; refine hc.mono ?_; rintro e w1 hr; obtain ⟨v, rfl, hv, h1, hf⟩ := ROut.of hf8 hr)
  go_ret
  exact ⟨v, rfl, hv, h1, hf⟩

/-- a node of an expression that is made -/
theorem isE_new {w : World} {c B n : Nat} {x : Int} {s : Str} {l : E} {lv : Value} (hn : w.heap.size = n) (hB : B ≤ n) (hl : IsE (Ge B) w l lv) :
    IsE (Ge B) (w.alloc (.cells #[.int .i64 c, .int .i64 x, sv s, lv, .pointer none] 61)) (.node 0 0 ⟨c, x, s⟩ l .nil) (.pointer (some ⟨n, 0, none⟩)) := by
  subst hn
  have k : Keep (Ge B) (Ge B) w (w.alloc (.cells #[.int .i64 c, .int .i64 x, sv s, lv, .pointer none] 61)) := fun b ha hb => ⟨ha, Below.heap_alloc _ _ _ hb⟩
  exact ⟨w.heap.size, lv, .pointer none, rfl, hB, heap_alloc_new w _, hl.carry k, rfl⟩
theorem RS.new {C : Ctx} {w : World} {σ : S} (h : RS C w σ) (o : Obj) : RS C (w.alloc o) σ := (h.alloc o).1
theorem takeS {C : Ctx} {w : World} {σ : S} (h : RS C w σ) (s : ByteArray) (hne : bs s ≠ []) {b : Bool} {σ' : S} (h1 : Hid (see C.L σ (bs s) = b)) (h2 : Hid (tk C.L σ (bs s) = σ')) : Calls Tryz.prog 103 #[.pointer (some ⟨C.rb, 0, none⟩), .string s] w fun e w' => e = .returned (.bool b) ∧ RS C w' σ' ∧ Fr w.heap.size [C.rb] w w' := by
  have := r_take h s hne
  rw [h1.out, h2.out] at this
  exact this
theorem takeY {C : Ctx} {w : World} {i st : Nat} (h : RS C w ⟨i, st, none⟩) (s : ByteArray) (hne : bs s ≠ []) (hy : Hid (tx C.L i = bs s)) : Calls Tryz.prog 103 #[.pointer (some ⟨C.rb, 0, none⟩), .string s] w fun e w' => e = .returned (.bool true) ∧ RS C w' ⟨i + 1, st, none⟩ ∧ Fr w.heap.size [C.rb] w w' :=
  takeS h s hne (by rw [Hid, see_ok]; exact decide_eq_true hy.out) (tk_yes hy.out)
theorem takeN {C : Ctx} {w : World} {i st : Nat} (h : RS C w ⟨i, st, none⟩) (s : ByteArray) (hne : bs s ≠ []) (hy : Hid (tx C.L i ≠ bs s)) : Calls Tryz.prog 103 #[.pointer (some ⟨C.rb, 0, none⟩), .string s] w fun e w' => e = .returned (.bool false) ∧ RS C w' ⟨i, st, none⟩ ∧ Fr w.heap.size [C.rb] w w' :=
  takeS h s hne (by rw [Hid, see_ok]; exact decide_eq_false hy.out) (tk_no hy.out)
theorem takeD {C : Ctx} {w : World} {i st : Nat} {f : F} (h : RS C w ⟨i, st, some f⟩) (s : ByteArray) (hne : bs s ≠ []) : Calls Tryz.prog 103 #[.pointer (some ⟨C.rb, 0, none⟩), .string s] w fun e w' => e = .returned (.bool false) ∧ RS C w' ⟨i, st, some f⟩ ∧ Fr w.heap.size [C.rb] w w' :=
  takeS h s hne rfl rfl
end Go.Proofs.YtobamalnbjbmiaaGreatDoor
