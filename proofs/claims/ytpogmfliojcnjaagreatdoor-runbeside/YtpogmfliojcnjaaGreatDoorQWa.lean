import Derived.Test.YtpogmfliojcnjaaGreatDoorQKr
import Derived.Test.YtpogmfliojcnjaaGreatDoorQCs4
import Derived.Test.YtpogmfliojcnjaaGreatDoorQPpart
import Derived.Test.YtpogmfliojcnjaaGreatDoorQRreg0
import Derived.Deep.DeepCutAuto
import Derived.Maps.AppendAt
namespace Go.Proofs.YtpogmfliojcnjaaGreatDoor
open Go.RowKit Px
namespace Kx
def NewNot (A : Nat → Prop) (B : Nat) (v : Value) (b : Nat) : Prop := (A b ∨ B ≤ b) ∧ v.ownBlock ≠ some b
structure RowAt {α : Type} (R : (Nat → Prop) → World → α → List Value → Prop) (A : Nat → Prop) (B e size : Nat) (w : World) (l : List α) (v : Value) (xs : List Value) : Prop where
 own : w.ownsRow B e size v l.length xs
 rows : Rows (R (NewNot A B v) w) l xs
def Carries {α : Type} (R : (Nat → Prop) → World → α → List Value → Prop) : Prop := ∀ {A A' : Nat → Prop} {w w' : World}, Keep A A' w w' → ∀ a c, R A w a c → R A' w' a c
section
variable {α : Type} {R : (Nat → Prop) → World → α → List Value → Prop} {A : Nat → Prop} {B e size : Nat} {w w' : World} {l : List α} {v : Value} {xs : List Value}
theorem ownLow (h : w.ownsRow B e size v l.length xs) (hb : Below w.heap.size w w') : w'.ownsRow B e size v l.length xs :=
 own_keep (A := fun _ => True) (A' := fun _ => True) h (fun _ _ => trivial) fun b _ hlt => ⟨trivial, hb.block b hlt⟩
theorem RowAt.nil : RowAt R A B e size w [] (.slice none 0 0) [] := ⟨World.ownsRow_nil _ _ _ _, rfl⟩
theorem RowAt.low (hR : Carries R) (h : RowAt R A B e size w l v xs) (hb : Below w.heap.size w w') : RowAt R A B e size w' l v xs :=
 ⟨ownLow h.own hb, h.rows.map (hR fun b hb' hlt => ⟨hb', hb.block b hlt⟩)⟩
theorem RowAt.done (hR : Carries R) (h : RowAt R A B e size w l v xs) : Row (fun b => A b ∨ B ≤ b) w e size v l.length xs ∧ Rows (R (fun b => A b ∨ B ≤ b) w) l xs :=
 ⟨⟨own_base0 h.own, fun g hg => .inr (h.own.lt g hg).1⟩, h.rows.map (hR fun _ hb _ => ⟨hb.1, rfl⟩)⟩
theorem RowAt.step (hR : Carries R) (hA : ∀ b, A b → b < B) {wr w5 w6 : World} {o : Obj} {a : α} {c : List Value} {v' : Value} (h : RowAt R A B e size wr l v xs) (hB : B ≤ wr.heap.size) (hb : Below wr.heap.size wr w5) (he : R (fun b => A b ∨ wr.heap.size ≤ b) w5 a c)
    (hown : w6.ownsRow B e size v' (l.length + 1) (xs ++ c)) (hg : (w5.alloc o).grownBy w6 v.ownBlock) (hat : v'.ownBlock = v.ownBlock ∨ v'.ownBlock = some (w5.alloc o).heap.size) :
    RowAt R A B e size w6 (l ++ [a]) v' (xs ++ c) ∧ Below B wr w6 := by
 have hs5 := hb.size
 have hsz : (w5.alloc o).heap.size = w5.heap.size + 1 := by simp
 have hvl : ∀ g, v.ownBlock = some g → B ≤ g ∧ g < wr.heap.size := fun g hg => h.own.lt g hg
 have k1 : Keep (NewNot A B v) (NewNot A B v') wr w6 := fun b hb' hlt => by
  refine ⟨⟨hb'.1, ?_⟩, ?_⟩
  ·rcases hat with e | e
   ·rw [e]; exact hb'.2
   ·rw [e]; intro e'; injection e' with e'; omega
  ·rw [hg.block b (by omega) (fun e => hb'.2 e.symm), Below.heap_alloc _ _ _ (by omega), hb.block b hlt]
 have k2 : Keep (fun b => A b ∨ wr.heap.size ≤ b) (NewNot A B v') w5 w6 := fun b hb' hlt => by
  have hne : v.ownBlock ≠ some b := fun e => by
   have := hvl b e
   rcases hb' with h1 | h1
   ·have := hA b h1; omega
   ·omega
  refine ⟨⟨by rcases hb' with h1 | h1; exact .inl h1; exact .inr (by omega), ?_⟩, ?_⟩
  ·rcases hat with e | e
   ·rw [e]; exact hne
   ·rw [e]; intro e'; injection e' with e'; omega
  ·rw [hg.block b (by omega) (fun e => hne e.symm), Below.heap_alloc _ _ _ (by omega)]
 refine ⟨⟨by rw [List.length_append]; exact hown, (h.rows.map (hR k1)).append (Rows.one (hR k2 _ _ he))⟩, ?_⟩
 exact ((hb.mono hB).alloc (by omega) o).grown hg (by omega) (fun k hk => (hvl k hk).1)
end
theorem cells_new (w : World) (l : List Value) (t : TypeId) : ∀ j u, l[j]? = some u → (w.alloc (.cells l.toArray t)).cell? ((⟨w.heap.size, 0, none⟩ : Addr).add j) = some u := by
 intro j u hj
 have hk := ck_new w (.cells l.toArray t)
 have e : (⟨w.heap.size, 0, none⟩ : Addr).add j = ⟨w.heap.size, j, none⟩ := by unfold Addr.add; split <;> simp_all
 rw [e]
 exact cell_row hk j (by simpa using hj)
section
variable {ρ : Type}
abbrev JFam (ρ : Type) := (Nat → Prop) → World → List ρ → Value → Prop
def JCarries (J : JFam ρ) : Prop := ∀ {A A' : Nat → Prop} {w w' : World}, Keep A A' w w' → ∀ l v, J A w l v → J A' w' l v
def RJ (J : JFam ρ) (A : Nat → Prop) (w : World) (l : List (StF ρ)) (v : Value) : Prop := (∃ xs, Row A w 69 9 v l.length xs ∧ Rows (StC A w (J A w)) l xs) ∧ (l = [] → v = .slice none 0 0)
theorem RJ.carry {J : JFam ρ} (hJ : JCarries J) {A A' : Nat → Prop} {w w' : World} (k : Keep A A' w w') (l : List (StF ρ)) (v : Value) (h : RJ J A w l v) : RJ J A' w' l v := by
 obtain ⟨⟨xs, hr, hs⟩, h0⟩ := h
 exact ⟨⟨xs, hr.carry k, hs.map (StC.carry k (hJ k))⟩, h0⟩
def ROut (J : JFam ρ) (A : Nat → Prop) (w : World) (r : List (StF ρ)) (c : List Value) : Prop := RegC (RJ J A w) r c
theorem rout_carries {J : JFam ρ} (hJ : JCarries J) : Carries (ROut J) := fun k _ _ ⟨u, hc, hu⟩ => ⟨u, hc, hu.carry hJ k _ _⟩
def RSt (J : JFam ρ) (A : Nat → Prop) (w : World) (s : StF ρ) (c : List Value) : Prop := StC A w (J A w) s c
theorem rst_carries {J : JFam ρ} (hJ : JCarries J) : Carries (RSt J) := fun k _ _ h => StC.carry k (hJ k) _ _ h
theorem rway_carries : Carries WayC := fun k _ _ h => WayC.carry k _ _ h
theorem take_map_snoc {α β : Type} (g : α → β) {l : List α} {k : Nat} {a : α} (h : l[k]? = some a) : (l.take (k + 1)).map g = (l.take k).map g ++ [g a] := by
 rw [List.take_add_one, h, List.map_append]; rfl
end
theorem take_map_len {α β : Type} (g : α → β) {l : List α} {k N : Nat} (hN : N = l.length) (hk : k ≤ N) : ((l.take k).map g).length = k := by
 rw [List.length_map, List.length_take]; omega
theorem RowAt.shape {α β : Type} {R : (Nat → Prop) → World → β → List Value → Prop} {A : Nat → Prop} {B e size : Nat} {w : World} {g : α → β} {l : List α} {k N : Nat} {v : Value} {xs : List Value} (h : RowAt R A B e size w ((l.take k).map g) v xs) (hN : N = l.length) (hk : k ≤ N) : ∃ ao cap, v = .slice ao k cap := by
 have := owns_shape h.own
 rwa [take_map_len g hN hk] at this
theorem RowAt.own' {α β : Type} {R : (Nat → Prop) → World → β → List Value → Prop} {A : Nat → Prop} {B e size : Nat} {w : World} {g : α → β} {l : List α} {k N : Nat} {v : Value} {xs : List Value} (h : RowAt R A B e size w ((l.take k).map g) v xs) (hN : N = l.length) (hk : k ≤ N) : w.ownsRow B e size v k xs := by
 have := h.own
 rwa [take_map_len g hN hk] at this
end Kx
end Go.Proofs.YtpogmfliojcnjaaGreatDoor
namespace Go.Proofs.YtpogmfliojcnjaaGreatDoor
open Go.RowKit Px
namespace Kx
def ApOut (e : E) (w : World) (r : Ending) (w' : World) : Prop := ∃ u, r = .returned (.pointer u) ∧ Hid (IsE (fun b => w.heap.size ≤ b) w' (apE e) (.pointer u) ∧ Below w.heap.size w w')
theorem ap_sv (S : ByteArray) (s : Str) (h : Value.string S = sv s) : Value.string ((⟨#[113]⟩ : ByteArray) ++ S) = sv (apN s) := by
 unfold sv at h ⊢
 injection h with h
 rw [h, ByteArray.mk_append_mk]
 simp [apN]
theorem apart_nil (w : World) : Calls Tryz.prog 33 #[.pointer none] w (ApOut .nil w) := by
 go_enter Tryz.func33, Tryz.ntmps33
 go_wp2_with fail
 go_ret
 exact ⟨none, rfl, rfl, Below.refl _ _⟩
set_option maxRecDepth 100000 in
set_option maxHeartbeats 8000000 in
theorem apart_node {w : World} {g : Nat} {cd nu : Int} {N : ByteArray} {p q : Option Addr} {l r : E} (hg : w.heap[g]? = some (.cells #[.int .i64 cd, .int .i64 nu, .string N, .pointer p, .pointer q] 132 (0, 0))) (hN : N.size ≤ 12) {NN : ByteArray} (hNN : Hid (NN = if cd = 2 ∨ cd = 3 then (⟨#[113]⟩ : ByteArray) ++ N else ⟨#[]⟩))
    (hl : Hid (∀ W, Below w.heap.size w W → Calls Tryz.prog 33 #[.pointer p] W (ApOut l W))) (hr : Hid (∀ W, Below w.heap.size w W → Calls Tryz.prog 33 #[.pointer q] W (ApOut r W))) :
    Calls Tryz.prog 33 #[.pointer (some ⟨g, 0, none⟩)] w fun e w' => ∃ g', e = .returned (.pointer (some ⟨g', 0, none⟩)) ∧ Hid (w.heap.size ≤ g' ∧ (∃ x y, w'.heap[g']? = some (.cells #[.int .i64 cd, .int .i64 nu, .string NN, .pointer x, .pointer y] 132 (0, 0)) ∧ IsE (fun b => w.heap.size ≤ b) w' (apE l) (.pointer x) ∧ IsE (fun b => w.heap.size ≤ b) w' (apE r) (.pointer y)) ∧ Below w.heap.size w w') := by
 have HC : Hid (∀ W, Below w.heap.size w W → W.cell? ⟨g, 0, none⟩ = some (.int .i64 cd) ∧ W.cell? ⟨g, 1, none⟩ = some (.int .i64 nu) ∧ W.cell? ⟨g, 2, none⟩ = some (.string N) ∧ W.cell? ⟨g, 3, none⟩ = some (.pointer p) ∧ W.cell? ⟨g, 4, none⟩ = some (.pointer q)) := fun W hW => ⟨ck_cell hW (cell_row hg 0 rfl), ck_cell hW (cell_row hg 1 rfl), ck_cell hW (cell_row hg 2 rfl), ck_cell hW (cell_row hg 3 rfl), ck_cell hW (cell_row hg 4 rfl)⟩
 have hbd : Below w.heap.size w w.drew := (Below.refl _ _).drew
 have hadd : ¬ 9223372036854775807 < 1 + N.size := by omega
 obtain ⟨c0, c1, c2, c3, c4⟩ := HC.out w.drew hbd
 have hcl := hl.out w.drew hbd
 unfold ApOut at hcl
 have HD : Hid (∀ W, Below w.drew.heap.size w.drew W → Below w.heap.size w W) := fun W hW => ck_all hbd hW
 clear hl hg hbd hN
 go_enter Tryz.func33, Tryz.ntmps33
 go_upto_region 3 with fail
 go_cut [3] (fun s3 wx => ∃ g' x y, s3 = .pointer (some ⟨g', 0, none⟩) ∧ Hid (w.heap.size ≤ g' ∧ wx.heap[g']? = some (.cells #[.int .i64 cd, .int .i64 nu, .string ⟨#[]⟩, .pointer x, .pointer y] 132 (0, 0)) ∧ IsE (fun b => w.heap.size ≤ b ∧ b ≠ g') wx (apE l) (.pointer x) ∧ IsE (fun b => w.heap.size ≤ b ∧ b ≠ g') wx (apE r) (.pointer y) ∧ Below w.heap.size w wx))
 case first =>
  have T1 : Hid True := trivial
  have T2 : Hid True := trivial
  go_region_held3 (fun W => W.cell? ⟨g, 0, none⟩ = some (.int .i64 cd) ∧ W.cell? ⟨g, 1, none⟩ = some (.int .i64 nu) ∧ W.cell? ⟨g, 3, none⟩ = some (.pointer p) ∧ W.cell? ⟨g, 4, none⟩ = some (.pointer q)) (first | with_reducible exact HQ4.out | with_reducible exact HQ3.out | go_keep)
   (first
    | (clear T1; go_at_call 33; refine hcl.mono ?_; rintro e w3 ⟨x, rfl, h3⟩; have hb3 : Below w.heap.size w w3 := HD.out w3 h3.out.2; have HQ3 : Hid (w3.cell? ⟨g, 0, none⟩ = some (.int .i64 cd) ∧ w3.cell? ⟨g, 1, none⟩ = some (.int .i64 nu) ∧ w3.cell? ⟨g, 3, none⟩ = some (.pointer p) ∧ w3.cell? ⟨g, 4, none⟩ = some (.pointer q)) := ⟨(HC.out w3 hb3).1, (HC.out w3 hb3).2.1, (HC.out w3 hb3).2.2.2.1, (HC.out w3 hb3).2.2.2.2⟩; have hcr := hr.out w3 hb3; unfold ApOut at hcr)
    | (clear T2; go_at_call 33; refine hcr.mono ?_; rintro e w4 ⟨y, rfl, h4⟩; have hb4 : Below w.heap.size w w4 := ck_all hb3 h4.out.2; have HQ4 : Hid (w4.cell? ⟨g, 0, none⟩ = some (.int .i64 cd) ∧ w4.cell? ⟨g, 1, none⟩ = some (.int .i64 nu) ∧ w4.cell? ⟨g, 3, none⟩ = some (.pointer p) ∧ w4.cell? ⟨g, 4, none⟩ = some (.pointer q)) := ⟨(HC.out w4 hb4).1, (HC.out w4 hb4).2.1, (HC.out w4 hb4).2.2.2.1, (HC.out w4 hb4).2.2.2.2⟩))
  all_goals
   go_wp2_with fail
   go_meet
   case rel =>
    have hs3 : w.heap.size ≤ w3.heap.size := hb3.size
    have hs4 : w3.heap.size ≤ w4.heap.size := h4.out.2.size
    refine ⟨w4.heap.size, x, y, rfl, by omega, ck_new w4 _, h3.out.1.carry fun b hb hlt => ⟨⟨hb, by omega⟩, ?_⟩, h4.out.1.carry fun b hb hlt => ⟨⟨Nat.le_trans hs3 hb, by omega⟩, ?_⟩, ck_all hb4 (ck_grown _ _)⟩
    ·rw [Below.heap_alloc _ _ _ (by omega), h4.out.2.block b hlt]
    ·rw [Below.heap_alloc _ _ _ hlt]
 case rest =>
  obtain ⟨g', x, y, rfl, h⟩ := hcut
  clear c0 c1 c2 c3 c4 hcl
  obtain ⟨c0, c1, c2, c3, c4⟩ := HC.out wc h.out.2.2.2.2
  have d2 := cell_row h.out.2.1 2 (u := .string ⟨#[]⟩) rfl
  have f2 := ck_frozen h.out.2.1 2
  have hne : ∀ b, (w.heap.size ≤ b ∧ b ≠ g') → b ≠ g' := fun _ hb => hb.2
  obtain ⟨X, hX⟩ : ∃ X, X = wc.setCell ⟨g', 2, none⟩ (.string ((⟨#[113]⟩ : ByteArray) ++ N)) := ⟨_, rfl⟩
  have HX : Hid (w.heap.size ≤ g' ∧ (∃ x y, X.heap[g']? = some (.cells #[.int .i64 cd, .int .i64 nu, .string ((⟨#[113]⟩ : ByteArray) ++ N), .pointer x, .pointer y] 132 (0, 0)) ∧ IsE (fun b => w.heap.size ≤ b) X (apE l) (.pointer x) ∧ IsE (fun b => w.heap.size ≤ b) X (apE r) (.pointer y)) ∧ Below w.heap.size w X) := by
   have kp : Keep (fun b => w.heap.size ≤ b ∧ b ≠ g') (fun b => w.heap.size ≤ b) wc X := fun b hb _ => ⟨hb.1, by rw [hX, Below.heap_setCell _ _ _ _ hb.2]⟩
   refine ⟨h.out.1, ⟨x, y, ?_, h.out.2.2.1.carry kp, h.out.2.2.2.1.carry kp⟩, ?_⟩
   ·rw [hX]; exact ck_set (l := [.int .i64 cd, .int .i64 nu, .string ⟨#[]⟩, .pointer x, .pointer y]) h.out.2.1 2 _
   ·rw [hX]; exact h.out.2.2.2.2.setCell (p := ⟨g', 2, none⟩) h.out.1 _
  have HY : Hid (w.heap.size ≤ g' ∧ (∃ x y, wc.heap[g']? = some (.cells #[.int .i64 cd, .int .i64 nu, .string ⟨#[]⟩, .pointer x, .pointer y] 132 (0, 0)) ∧ IsE (fun b => w.heap.size ≤ b) wc (apE l) (.pointer x) ∧ IsE (fun b => w.heap.size ≤ b) wc (apE r) (.pointer y)) ∧ Below w.heap.size w wc) :=
   ⟨h.out.1, ⟨x, y, h.out.2.1, h.out.2.2.1.carry fun b hb _ => ⟨hb.1, rfl⟩, h.out.2.2.2.1.carry fun b hb _ => ⟨hb.1, rfl⟩⟩, h.out.2.2.2.2⟩
  clear h hne
  by_cases e2 : cd = 2
  ·have t2 : (cd == 2) = true := by simpa using e2
   have HE : Hid (cd = 2) := e2
   clear e2
   go_wp2_with fail
   go_ret
   rw [← hX]
   have hn := hNN.out
   rw [if_pos (.inl HE.out)] at hn
   rw [hn]
   exact ⟨g', rfl, HX.out⟩
  ·have t2 : (cd == 2) = false := by simpa using e2
   by_cases e3 : cd = 3
   ·have t3 : (cd == 3) = true := by simpa using e3
    have HE : Hid (cd = 3) := e3
    clear e2 e3
    go_wp2_with fail
    go_ret
    rw [← hX]
    have hn := hNN.out
    rw [if_pos (.inr HE.out)] at hn
    rw [hn]
    exact ⟨g', rfl, HX.out⟩
   ·have t3 : (cd == 3) = false := by simpa using e3
    have HE : Hid (¬ (cd = 2 ∨ cd = 3)) := by rintro (h | h); exact e2 h; exact e3 h
    clear e2 e3
    go_wp2_with fail
    go_ret
    have hn := hNN.out
    rw [if_neg HE.out] at hn
    rw [hn]
    exact ⟨g', rfl, HY.out⟩
theorem apart_all : ∀ (e : E) (A : Nat → Prop) (w : World) (v : Value), Sh.TE e → IsE A w e v → Calls Tryz.prog 33 #[v] w (ApOut e w) := by
 intro e
 induction e with
 | nil =>
  intro A w v _ hv
  obtain rfl : v = .pointer none := hv
  exact apart_nil w
 | node b o a l r ihl ihr =>
  intro A w v hT hv
  obtain ⟨_, _, _, hn, _, hl, hr⟩ := hT
  obtain ⟨g, lv, rv, rfl, _, hg, il, ir⟩ := hv
  obtain ⟨p, rfl⟩ := il.ptr
  obtain ⟨q, rfl⟩ := ir.ptr
  obtain ⟨N, hN⟩ : ∃ N, Value.string N = sv a.name := ⟨_, rfl⟩
  have hNs : N.size ≤ 12 := by have : N.size = a.name.length := by { unfold sv at hN; injection hN with hN; rw [hN]; rfl }; omega
  rw [← hN] at hg
  refine (apart_node hg hNs (NN := if (a.code : Int) = 2 ∨ (a.code : Int) = 3 then (⟨#[113]⟩ : ByteArray) ++ N else ⟨#[]⟩) rfl (fun W hW => ihl A W _ hl (il.carry fun b hb hlt => ⟨hb, hW.block b hlt⟩)) (fun W hW => ihr A W _ hr (ir.carry fun b hb hlt => ⟨hb, hW.block b hlt⟩))).mono ?_
  rintro e w' ⟨g', rfl, h⟩
  obtain ⟨h1, ⟨x, y, h2, h3, h4⟩, h5⟩ := h.out
  refine ⟨_, rfl, ⟨g', .pointer x, .pointer y, rfl, h1, ?_, h3, h4⟩, h5⟩
  rw [h2]
  have e : Value.string (if (a.code : Int) = 2 ∨ (a.code : Int) = 3 then (⟨#[113]⟩ : ByteArray) ++ N else ⟨#[]⟩) = sv (if a.code = 2 ∨ a.code = 3 then apN a.name else []) := by
   by_cases hc : a.code = 2 ∨ a.code = 3
   ·rw [if_pos hc, if_pos (by omega), ap_sv N a.name hN]
   ·rw [if_neg hc, if_neg (by omega)]; rfl
  rw [e]
end Kx
end Go.Proofs.YtpogmfliojcnjaaGreatDoor
