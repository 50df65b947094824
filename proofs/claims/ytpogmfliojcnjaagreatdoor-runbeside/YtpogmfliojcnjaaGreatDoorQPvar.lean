import Derived.Test.YtpogmfliojcnjaaGreatDoorQSplit
import Derived.Maps.AppendAt
import Derived.Laws.Tables
import Derived.Laws.Rows
namespace Go.Proofs.YtpogmfliojcnjaaGreatDoor
open Go.RowKit Px
theorem Tryz.info130 : (Tryz.prog.info? 130).map (fun i => (i.zero, i.size, i.bytes)) = some (some (.agg #[.string ⟨#[]⟩, .pointer none]), 2, 24) := by kernel_rfl
theorem IsE.oneCell {A : Nat → Prop} {w : World} {e : E} {v : Value} (h : IsE A w e v) : v.oneCell' = true := by
 obtain ⟨u, rfl⟩ := h.ptr; rfl
def GeNot (n : Nat) (v : Value) (b : Nat) : Prop := n ≤ b ∧ v.ownBlock ≠ some b
theorem row_keep {B : Nat} {v v' : Value} {w w1 w2 : World} (hk : Keep (GeNot B v) (GeNot B v) w w1) (hs : w.heap.size ≤ w1.heap.size) (hg : w1.grownBy w2 v.ownBlock) (hat : v'.ownBlock = v.ownBlock ∨ v'.ownBlock = some w1.heap.size) : Keep (GeNot B v) (GeNot B v') w w2 := fun b hb hlt => by
 obtain ⟨h1, h2⟩ := hk b hb hlt
 refine ⟨⟨hb.1, ?_⟩, ?_⟩
 ·rcases hat with h | h
  ·rw [h]; exact hb.2
  ·rw [h]; intro e; injection e with e; omega
 ·rw [hg.block b (by omega) (fun e => hb.2 e.symm), h2]
theorem ge_geNot {B n : Nat} {v : Value} {w : World} (hB : B ≤ n) (hv : ∀ g, v.ownBlock = some g → g < n) : Keep (Ge n) (GeNot B v) w w := fun b hb _ =>
 ⟨⟨Nat.le_trans hB hb, fun e => by have := hv b e; simp [Ge] at hb; omega⟩, rfl⟩
theorem geNot_ge {B : Nat} {v : Value} {w : World} : Keep (GeNot B v) (Ge B) w w := fun _ hb _ => ⟨hb.1, rfl⟩
theorem keepNot {C : Ctx} {B : Nat} {v : Value} {w w' : World} (hB : C.rb < B) (hf : Fr w.heap.size [C.rb] w w') : Keep (GeNot B v) (GeNot B v) w w' := hf.keep (fun b hb => by
 have := hb.1; simp; omega)
theorem own_carry {C : Ctx} {B e size n : Nat} {v : Value} {xs : List Value} {w w' : World} (h : w.ownsRow B e size v n xs) (hB : C.rb < B) (hf : Fr w.heap.size [C.rb] w w') : w'.ownsRow B e size v n xs := by
 refine ⟨h.1, ?_⟩
 rcases h.2 with hn | ⟨g, cap, cur, rfl, hb, hgg, rest⟩
 ·exact .inl hn
 ·exact .inr ⟨g, cap, cur, rfl, hb, by rw [hf.block g (lt_of_block hgg) (by simp; omega)]; exact hgg, rest⟩
structure SetsAt (B : Nat) (w : World) (l : List Asg) (v : Value) (xs : List Value) : Prop where
 own : w.ownsRow B 130 2 v l.length xs
 rows : Rows (SetC (GeNot B v) w) l xs
theorem SetsAt.done {B : Nat} {w : World} {l : List Asg} {v : Value} {xs : List Value} (h : SetsAt B w l v xs) : IsSets (Ge B) w l v :=
 ⟨xs, ⟨own_base0 h.own, fun g hg => (h.own.lt g hg).1⟩, h.rows.map (SetC.carry geNot_ge)⟩
theorem SetsAt.carry {C : Ctx} {B : Nat} {w w' : World} {l : List Asg} {v : Value} {xs : List Value} (h : SetsAt B w l v xs) (hB : C.rb < B) (hf : Fr w.heap.size [C.rb] w w') : SetsAt B w' l v xs :=
 ⟨own_carry h.own hB hf, h.rows.map (SetC.carry (keepNot hB hf))⟩
theorem PS.low {C : Ctx} {w w' : World} {B i st ins und : Nat} (h : PS C w i st ins und) (hB : C.rb < B) (hf : Fr B [] w w') : PS C w' i st ins und := by
 have hgr := h.gr
 have hi := h.hi
 have hg : w'.heap[C.g]? = w.heap[C.g]? := hf.block _ (by omega) (by simp)
 refine ⟨by rw [hf.block _ hB (by simp)]; exact h.rd, fun k t hk => ?_, h.tab.keep (fun b hb => hf.block b (by omega) (by simp)), h.lt, h.wf, h.gr, h.hi⟩
 have := h.tk k t hk
 rw [World.cell?_of_block (w := w) (a := ⟨C.g, k * 3, none⟩) hg, World.cell?_of_block (w := w) (a := ⟨C.g, k * 3 + 1, none⟩) hg, World.cell?_of_block (w := w) (a := ⟨C.g, k * 3 + 2, none⟩) hg]
 exact this
def OkS (C : Ctx) (w : World) (st ins : Nat) (p : List Asg × Nat) (v : Value) (w' : World) : Prop := (∃ xs, SetsAt w.heap.size w' p.1 v xs) ∧ p.1.length ≤ p.2 ∧ PS C w' p.2 st ins 0
theorem cell_two_new (w : World) (a b : Value) (t : TypeId) : ∀ j u, [a, b][j]? = some u → (w.alloc (.cells #[a, b] t)).cell? ((⟨w.heap.size, 0, none⟩ : Addr).add j) = some u := by
 intro j u hj
 match j, hj with
 | 0, hj => simp at hj; subst hj; simp [Addr.add]
 | 1, hj => simp at hj; subst hj; simp [Addr.add]
 | j + 2, hj => simp at hj
theorem expr_lt {L : List Lx.Tok} {i j : Nat} {e : E} (h : Hid (expr L i = .ok (e, j))) : i < j := lev_lt (one_lt 7) _ _ _ _ h.out
theorem Fr.up' {B : Nat} {X : List Nat} {w w1 w2 : World} (h : Fr B X w w1) (k : Fr w1.heap.size X w1 w2) (hB : B ≤ w1.heap.size) : Fr B X w w2 := h.trans (k.mono hB (fun _ hx _ => hx))
theorem sets_step {C : Ctx} {B : Nat} {w wr w5 w6 : World} {l : List Asg} {v v' : Value} {xs : List Value} {s : Str} {e : E} {p : Value} {o : Obj} (hB : C.rb < B) (hBr : B ≤ wr.heap.size) (h : SetsAt B wr l v xs) (hf : Fr wr.heap.size [C.rb] wr w5) (hw : Fr B [C.rb] w wr) (he : IsE (Ge wr.heap.size) w5 e p)
    (hown : w6.ownsRow B 130 2 v' (l.length + 1) (xs ++ [sv s, p])) (hg : (w5.alloc o).grownBy w6 v.ownBlock) (hat : v'.ownBlock = v.ownBlock ∨ v'.ownBlock = some (w5.alloc o).heap.size) :
    SetsAt B w6 (l ++ [⟨s, e⟩]) v' (xs ++ [sv s, p]) ∧ Fr B [C.rb] w w6 := by
 have hs5 := hf.size
 have kA : ∀ A : Nat → Prop, Keep A A w5 (w5.alloc o) := fun A b ha hb => ⟨ha, Below.heap_alloc _ _ _ hb⟩
 have k1 : Keep (GeNot B v) (GeNot B v') wr w6 := row_keep ((keepNot hB hf).trans (kA _) hs5) (by simp; omega) hg hat
 have hvl : ∀ g, v.ownBlock = some g → g < wr.heap.size := fun g hg => (h.own.lt g hg).2
 have k2 : Keep (Ge wr.heap.size) (GeNot B v') w5 w6 := ((ge_geNot hBr hvl).trans (row_keep (kA _) (by simp) hg hat) (Nat.le_refl _))
 refine ⟨⟨by rw [List.length_append]; exact hown, (h.rows.map (SetC.carry k1)).append (Rows.one ⟨p, rfl, he.carry k2⟩)⟩, ?_⟩
 exact ((hw.up' hf hBr).alloc (by omega) o).grown hg (by simp; omega) (fun k hk => .inl (h.own.lt k hk).1)
set_option maxRecDepth 100000 in
set_option maxHeartbeats 4000000 in
theorem sets_any {C : Ctx} {w : World} {i st ins : Nat} (h : PS C w i st ins 0) : Calls Tryz.prog 204 #[.pointer (some ⟨C.rb, 0, none⟩)] w (Out C (OkS C w st ins) w (sets C.L C.L.length [] i)) := by
 obtain ⟨i0, hi, hz0, hz1, hz2⟩ := info_parts Tryz.info130
 have hC := h.lts.1
 go_enter Tryz.func204, Tryz.ntmps204
 go_wp2_with fail
 go_loopg [3] C.L.length (fun g v wr => ∃ (l : List Asg) (j : Nat) (xs : List Value), Hid (sets C.L C.L.length [] i = sets C.L g l j) ∧ C.L.length ≤ g + j ∧ l.length ≤ j ∧ SetsAt w.heap.size wr l v xs ∧ PS C wr j st ins 0 ∧ Fr w.heap.size [C.rb] w wr)
 case atStart => exact ⟨[], i, [], rfl, by omega, by simp, ⟨World.ownsRow_nil _ _ _ _, rfl⟩, h, Fr.refl _ _ _⟩
 case round =>
  obtain ⟨l, j, xs, hr1, hg, hlj, hS, hp1, hf1⟩ := hrel
  obtain ⟨ao, cap, rfl⟩ := owns_shape hS.own
  have hl6 := hp1.wf.len
  have hj6 := hp1.lt
  have hB1 := hf1.size
  obtain ⟨g', hgg⟩ : ∃ g', gk = g' + 1 := ⟨gk - 1, by have := hp1.lt; omega⟩
  subst hgg
  have T1 : Hid True := trivial
  go_wp2_with (first
   | (go_at_call 93; refine (name_any hp1).mono ?_; rintro e w2 h2; rcases h2.cases with ⟨f, hr2, q, rfl, hq⟩ | ⟨s2, v2, hr2, rfl, ⟨rfl, hp2⟩, hf2⟩; (· exact ⟨rfl, by rw [hr1.out, sets, hr2.out]; exact Thrown.up hf1 ⟨q, rfl, hq⟩⟩); rw [sv])
   | (go_at_call 92; refine (need_any hp2 ⟨#[58, 61]⟩ kColEq rfl (by decide)).mono ?_; rintro e w3 h3; rcases h3.cases with ⟨f, hr3, q, rfl, hq⟩ | ⟨_, v3, hr3, rfl, ⟨rfl, hp3⟩, hf3⟩; (· exact ⟨rfl, by rw [hr1.out, sets, hr2.out]; simp only; rw [if_neg (need_bad hr3).1, ← (need_bad hr3).2]; exact Thrown.up (hf1.up hf2) ⟨q, rfl, hq⟩⟩))
   | (go_at_call 205; refine (expr_any hp3).mono ?_; rintro e w4 h4; rcases h4.cases with ⟨f, hr4, q, rfl, hq⟩ | ⟨⟨e4, j4⟩, v4, hr4, rfl, ⟨hv4, hp4⟩, hf4⟩; (· exact ⟨rfl, by rw [hr1.out, sets, hr2.out]; simp only; rw [if_pos (need_ok hr3), hr4.out]; exact Thrown.up ((hf1.up hf2).up hf3) ⟨q, rfl, hq⟩⟩); obtain ⟨p4, rfl⟩ := hv4.ptr; have hj4 := expr_lt hr4; have hl4 := hp4.lt; have hF4 : Fr wr.heap.size [C.rb] wr w4 := (hf2.up hf3).up hf4; have hB4 := hF4.size; have hv4' := hv4.ge ((hf2.up hf3).size))
   | (at_builtin; refine wpList_append_own_at _ rfl (.tmp 9) (.tmp 14) 65 rfl w.heap.size 130 i0 (.agg #[.string ⟨#[]⟩, .pointer none]) 2 24 Tryz.underlying65 hi hz0 hz1 hz2 rfl (by decide) _ _ _ rfl ((own_carry hS.own hC hF4).alloc _) ⟨w4.heap.size, 0, none⟩ 1 1 [.string ⟨s2.toArray⟩, .pointer p4] rfl rfl (cell_two_new _ _ _ _) (by intro u hu; simp at hu; rcases hu with rfl | rfl <;> rfl) (by unfold maxLen; omega) (by omega) (by simp; omega) ?_; intro v5 w5 hown5 hgrow _ hat; obtain ⟨hS5, hF5⟩ := sets_step (s := s2) (e := e4) hC hB1 hS hF4 hf1 hv4' hown5 hgrow hat; clear hown5; have hb5 : Fr w.heap.size [] w4 w5 := ((Fr.refl _ _ _).alloc (by omega) _).grown hgrow (by simp; omega) (fun k hk => .inl (hS.own.lt k hk).1); have hp5 := hp4.low hC hb5))
  have hsh : w5.ownsRow w.heap.size 130 2 v5 (l.length + 1) (xs ++ [sv s2, .pointer p4]) := by have := hS5.own; rw [List.length_append] at this; exact this
  obtain ⟨ao5, cap5, rfl⟩ := owns_shape hsh
  by_cases hcm : tx C.L j4 = kComma
  ·go_wp2_with (go_at_call 100; refine (take_yes hp5 ⟨#[44]⟩ hcm (by decide)).mono ?_; rintro e w6 ⟨rfl, hp6, hf6⟩)
   go_roundg g'
   case measure => omega
   case rel => exact ⟨l ++ [⟨s2, e4⟩], j4 + 1, _, by rw [Hid, hr1.out, sets, hr2.out]; simp only; rw [if_pos (need_ok hr3), hr4.out]; simp only; rw [if_pos hcm], by omega, by simp; omega, hS5.carry hC hf6, hp6, hF5.up' hf6 (by have := hF5.size; omega)⟩
  ·go_wp2_with (go_at_call 100; refine (take_no hp5 ⟨#[44]⟩ hcm).mono ?_; rintro e w6 ⟨rfl, hp6, hf6⟩)
   go_ret
   rw [hr1.out, sets, hr2.out]
   simp only
   rw [if_pos (need_ok hr3), hr4.out]
   simp only
   rw [if_neg hcm]
   exact ⟨_, rfl, ⟨⟨_, hS5.carry hC hf6.wide⟩, by simp; omega, hp6⟩, hF5.up' hf6.wide (by have := hF5.size; omega)⟩
set_option maxRecDepth 100000 in
set_option maxHeartbeats 2000000 in
theorem times_any {C : Ctx} {w : World} {i st ins und : Nat} (h : PS C w i st ins und) : Calls Tryz.prog 237 #[.pointer (some ⟨C.rb, 0, none⟩)] w (Out C (fun (n : Nat) v w' => v = .int .i64 n ∧ PS C w' (i + 1) st ins und) w (times C.L i)) := by
 rcases hn : number C.L i with f | n
 ·have HN : Hid (number C.L i = .error f) := hn
  clear hn
  go_enter Tryz.func237, Tryz.ntmps237
  go_wp2_with (go_at_call 143; refine (number_any _ i st ins und h).mono ?_; rintro e w1 h1; rw [HN.out] at h1; obtain ⟨q, rfl, hq⟩ := h1; exact ⟨rfl, by rw [times, HN.out]; exact ⟨q, rfl, hq⟩⟩)
 ·have HN : Hid (number C.L i = .ok n) := hn
  clear hn
  by_cases hb : n < 1 ∨ 1000 < n
  ·have HT : Hid (times C.L i = .error (4, pl C.L i)) := by rw [Hid, times, HN.out]; exact if_pos hb
   rcases hb with hb | hb
   ·have hb1 : (n : Int) < 1 := by omega
    go_enter Tryz.func237, Tryz.ntmps237
    go_wp2_with (first
     | (go_at_call 143; refine (number_any _ i st ins und h).mono ?_; rintro e w1 h1; rw [HN.out] at h1; obtain ⟨v1, rfl, ⟨rfl, hn18, hp1⟩, hf1⟩ := h1; obtain ⟨-, c1, -⟩ := hp1.cells; have z1 := hp1.frozen 1; obtain ⟨hp2, hf2⟩ := hp1.back; have hl6 := hp1.wf.len; have hil := hp1.lt)
     | (go_at_call 102; refine (throw_any hp2 4).mono ?_; rintro e w3 ⟨q, rfl, ht⟩))
    rw [HT.out]
    exact ⟨rfl, Thrown.up (hf1.up hf2) ⟨q, rfl, ht⟩⟩
   ·have hb1 : ¬ (n : Int) < 1 := by omega
    have hb2 : (1000 : Int) < (n : Int) := by omega
    go_enter Tryz.func237, Tryz.ntmps237
    go_wp2_with (first
     | (go_at_call 143; refine (number_any _ i st ins und h).mono ?_; rintro e w1 h1; rw [HN.out] at h1; obtain ⟨v1, rfl, ⟨rfl, hn18, hp1⟩, hf1⟩ := h1; obtain ⟨-, c1, -⟩ := hp1.cells; have z1 := hp1.frozen 1; obtain ⟨hp2, hf2⟩ := hp1.back; have hl6 := hp1.wf.len; have hil := hp1.lt)
     | (go_at_call 102; refine (throw_any hp2 4).mono ?_; rintro e w3 ⟨q, rfl, ht⟩))
    rw [HT.out]
    exact ⟨rfl, Thrown.up (hf1.up hf2) ⟨q, rfl, ht⟩⟩
  ·have HT : Hid (times C.L i = .ok n) := by rw [Hid, times, HN.out]; exact if_neg hb
   have hb1 : ¬ (n : Int) < 1 := by omega
   have hb2 : ¬ (1000 : Int) < (n : Int) := by omega
   clear hb
   go_enter Tryz.func237, Tryz.ntmps237
   go_wp2_with (go_at_call 143; refine (number_any _ i st ins und h).mono ?_; rintro e w1 h1; rw [HN.out] at h1; obtain ⟨v1, rfl, ⟨rfl, hn18, hp1⟩, hf1⟩ := h1)
   go_ret
   rw [HT.out]
   exact ⟨_, rfl, ⟨rfl, hp1⟩, hf1⟩
end Go.Proofs.YtpogmfliojcnjaaGreatDoor
namespace Go.Proofs.YtpogmfliojcnjaaGreatDoor
open Go.RowKit Px
theorem PS.put {C : Ctx} {w : World} {i st ins und b : Nat} (h : PS C w i st ins und) (hb : C.rb < b) (o : Nat) (v : Value) : PS C (w.setCell ⟨b, o, none⟩ v) i st ins und :=
 h.low (B := b) hb ((Fr.refl b [] w).setCell (p := ⟨b, o, none⟩) (.inl (Nat.le_refl _)) v)
theorem Fr.row {B : Nat} {X : List Nat} {a w : World} (h : Fr B X a w) {b : Nat} (hp : B ≤ b ∨ b ∈ X) (cs : Array Value) : Fr B X a (w.setRow b cs) :=
 h.trans ⟨rfl, rfl, rfl, by simp [World.setRow], fun k hk hx => setRow_other _ _ _ _ (fun e => by rcases hp with hp | hp; omega; exact hx (e ▸ hp))⟩
theorem PS.row {C : Ctx} {w : World} {i st ins und b : Nat} (h : PS C w i st ins und) (hb : C.rb < b) (cs : Array Value) : PS C (w.setRow b cs) i st ins und :=
 h.low (B := b) hb ((Fr.refl _ _ _).row (.inl (Nat.le_refl _)) cs)
theorem blk {C : Ctx} {w w' : World} {b : Nat} {o : Obj} (h : w.heap[b]? = some o) (hb : C.rb < b) (hf : Fr w.heap.size [C.rb] w w') : w'.heap[b]? = some o := by
 rw [hf.block b (lt_of_block h) (by simp; omega)]; exact h
theorem blk2 {w : World} {a b : Nat} {O : Obj} {cs : Array Value} {t : TypeId} (H : w.heap[a]? = some O) (K : w.heap[b]? = some (.cells cs t (0, 0))) (hne : a ≠ b) (o : Nat) (v : Value) : (w.setCell ⟨b, o, none⟩ v).heap[a]? = some O ∧ (w.setCell ⟨b, o, none⟩ v).heap[b]? = some (.cells (cs.setIfInBounds o v) t (0, 0)) :=
 ⟨by rw [Below.heap_setCell _ _ _ _ hne]; exact H, heap_setCell_same w b o _ t _ K⟩
theorem cel {w : World} {b : Nat} {cs : Array Value} {t : TypeId} (K : w.heap[b]? = some (.cells cs t (0, 0))) (o : Nat) (v : Value) (hv : cs[o]? = some v) : w.cell? ⟨b, o, none⟩ = some v ∧ w.frozen? ⟨b, o, none⟩ = false :=
 ⟨by rw [cell_of_row _ _ _ _ _ _ K]; exact hv, by simp [World.frozen?, K]⟩
theorem take_any {C : Ctx} {w : World} {i st ins und : Nat} (h : PS C w i st ins und) (s : ByteArray) (k : Str) (hk : bs s = k) (hne : k ≠ []) : Calls Tryz.prog 100 #[.pointer (some ⟨C.rb, 0, none⟩), .string s] w fun e w' => e = .returned (.bool (decide (tx C.L i = k))) ∧ PS C w' (opt C.L k i) st ins und ∧ Fr w.heap.size [C.rb] w w' := by
 subst hk
 by_cases ht : tx C.L i = bs s
 ·refine (take_yes h s ht hne).mono ?_
  rintro e w' ⟨rfl, hp, hf⟩
  exact ⟨by rw [decide_eq_true ht], by rw [opt, if_pos ht]; exact hp, hf⟩
 ·refine (take_no h s ht).mono ?_
  rintro e w' ⟨rfl, hp, hf⟩
  exact ⟨by rw [decide_eq_false ht], by rw [opt, if_neg ht]; exact hp, hf.wide⟩
theorem Tryz.size33 : (Tryz.prog.info? 33).map (·.size) = some 3 := by kernel_rfl
theorem results74 (tmps : Array Value) (W : World) (g : Nat) (fc : Array Value) (hsz : fc.size = 3) (hp : tmps.getD 4 undef = .pointer (some ⟨g, 0, none⟩)) (hg : W.heap[g]? = some (.cells fc 33 (0, 0))) :
    (results Tryz.f99 tmps).run Tryz.prog W = .ok (.agg fc) W := by
 have hl := run_loadVar_row (P := Tryz.prog) W g 33 33 fc (0, 0) _ hg Tryz.underlying33 rfl (by rw [hsz]; exact Tryz.size33)
 have hp' : tmps[4]?.getD undef = .pointer (some ⟨g, 0, none⟩) := by simpa using hp
 simp [results, Tryz.results99, hp', asAddr, hl]
def OkV (C : Ctx) (st ins : Nat) (p : Decl × Nat) (v : Value) (w' : World) : Prop := v = .agg #[.int .i64 p.1.kind, sv p.1.name, .int .i64 p.1.first] ∧ PS C w' p.2 st ins 0
theorem load62 {W : World} {g : Nat} {fc : Array Value} (hsz : fc.size = 3) (hg : W.heap[g]? = some (.cells fc 33 (0, 0))) : (loadVar 33 ⟨g, 0, none⟩).run Tryz.prog W = .ok (.agg fc) W :=
 run_loadVar_row (P := Tryz.prog) W g 33 33 fc (0, 0) _ hg Tryz.underlying33 rfl (by rw [hsz]; exact Tryz.size33)
theorem three_one (a b : Int) (s : ByteArray) : (#[Value.int .i64 a, .string s, .int .i64 b] : Array Value).all (·.oneCell') = true := by simp [Value.oneCell']
set_option maxRecDepth 100000 in
set_option maxHeartbeats 4000000 in
theorem variable_none {C : Ctx} {w : World} {i st ins : Nat} (h : PS C w i st ins 0) (kind : Nat) (hce : tx C.L (i + 1) ≠ kColEq) : Calls Tryz.prog 99 #[.pointer (some ⟨C.rb, 0, none⟩), .int .i64 kind] w (Out C (OkV C st ins) w (variable_ C.L kind i)) := by
 have hC := h.lts.1
 obtain ⟨hp0, hf0⟩ := h.alloc (.cells #[.int .i64 0, .string ⟨#[]⟩, .int .i64 0] 33)
 have H0 : (w.alloc (.cells #[.int .i64 0, .string ⟨#[]⟩, .int .i64 0] 33)).heap[w.heap.size]? = some (.cells #[.int .i64 0, .string ⟨#[]⟩, .int .i64 0] 33 (0, 0)) := heap_alloc_new _ _
 have HCE : Hid (tx C.L (i + 1) ≠ kColEq) := hce
 have HV : ∀ s, Hid (nm C.L i = .ok s) → Hid (variable_ C.L kind i = if tx C.L (i + 1) = kSemi then .ok (⟨kind, s, 0⟩, i + 2) else .error (3, pl C.L (i + 1))) := fun s hs => by
  rw [Hid, variable_, hs.out, first, if_neg HCE.out]
 clear hce
 go_enter Tryz.func99, Tryz.ntmps99
 go_wp2_with (first
  | (go_at_call 93; refine (name_any hp0).mono ?_; rintro e w1 h1; rcases h1.cases with ⟨f, hr1, q, rfl, hq⟩ | ⟨s1, v1, hr1, rfl, ⟨rfl, hp1⟩, hf1⟩; (· exact ⟨rfl, by rw [variable_, hr1.out]; exact Thrown.up hf0 ⟨q, rfl, hq⟩⟩); rw [sv]; have H1 := blk H0 hC hf1; clear H0; obtain ⟨hp2, hf2⟩ := hp1.alloc (.cells #[.int .i64 kind, .string ⟨s1.toArray⟩, .int .i64 0] 33); have H2 := blk H1 hC hf2; have hc1 := hp1.lts.1; have hne : w.heap.size ≠ w1.heap.size := (by (have := hf1.size; simp at this; omega)); have K2 : (w1.alloc (.cells #[.int .i64 kind, .string ⟨s1.toArray⟩, .int .i64 0] 33)).heap[w1.heap.size]? = some (.cells #[.int .i64 kind, .string ⟨s1.toArray⟩, .int .i64 0] 33 (0, 0)) := heap_alloc_new _ _)
  | (go_at_call 100; refine (take_no hp2 ⟨#[58, 61]⟩ HCE.out).mono ?_; rintro e w3 ⟨rfl, hp3, hf3⟩; have H3 := blk H2 hC hf3.wide; have K3 := blk K2 hc1 hf3.wide)
  | (go_at_call 92; refine (need_any hp3 ⟨#[59]⟩ kSemi rfl (by decide)).mono ?_; rintro e w4 h4; rcases h4.cases with ⟨f, hr4, q, rfl, hq⟩ | ⟨_, v4, hr4, rfl, ⟨rfl, hp4⟩, hf4⟩; (· exact ⟨rfl, by rw [(HV _ hr1).out, if_neg (need_bad hr4).1, ← (need_bad hr4).2]; exact Thrown.up (((hf0.up hf1).up hf2).up hf3.wide) ⟨q, rfl, hq⟩⟩); have H4 := blk H3 hC hf4; have K4 := blk K3 hc1 hf4; clear H3 K3)
  | (refine wpList_load_eq rfl 33 (.tmp 5) rfl ⟨w1.heap.size, 0, none⟩ rfl (.agg #[.int .i64 kind, .string ⟨s1.toArray⟩, .int .i64 0]) (load62 rfl K4) ?_)
  | (refine wpList_store_row rfl 33 (.tmp 4) (.tmp 25) rfl w.heap.size #[.int .i64 kind, .string ⟨s1.toArray⟩, .int .i64 0] rfl rfl 33 _ H4 Tryz.size33 rfl (three_one _ _ _) ?_))
 refine bodyPost_ret (results74 _ _ w.heap.size #[.int .i64 kind, .string ⟨s1.toArray⟩, .int .i64 0] rfl rfl (setRow_heap _ _ _ _ _ _ H4)) rfl ?_
 rw [(HV _ hr1).out, if_pos (need_ok hr4)]
 exact ⟨_, rfl, ⟨rfl, hp4.row hC _⟩, (((((hf0.up hf1).up hf2).up hf3.wide).up hf4).row (.inl (Nat.le_refl _)) _)⟩
set_option maxRecDepth 100000 in
set_option maxHeartbeats 4000000 in
theorem variable_pos {C : Ctx} {w : World} {i st ins : Nat} (h : PS C w i st ins 0) (kind : Nat) (hce : tx C.L (i + 1) = kColEq) (hmi : tx C.L (i + 2) ≠ kMinus) : Calls Tryz.prog 99 #[.pointer (some ⟨C.rb, 0, none⟩), .int .i64 kind] w (Out C (OkV C st ins) w (variable_ C.L kind i)) := by
 have hC := h.lts.1
 obtain ⟨hp0, hf0⟩ := h.alloc (.cells #[.int .i64 0, .string ⟨#[]⟩, .int .i64 0] 33)
 have H0 : (w.alloc (.cells #[.int .i64 0, .string ⟨#[]⟩, .int .i64 0] 33)).heap[w.heap.size]? = some (.cells #[.int .i64 0, .string ⟨#[]⟩, .int .i64 0] 33 (0, 0)) := heap_alloc_new _ _
 have HV : ∀ s, Hid (nm C.L i = .ok s) → Hid (variable_ C.L kind i = match number C.L (i + 2) with | .error x => .error x | .ok n => if tx C.L (i + 3) = kSemi then .ok (⟨kind, s, (n : Int)⟩, i + 3 + 1) else .error (3, pl C.L (i + 3))) := fun s hs => by
  rw [Hid, variable_, hs.out, first, if_pos hce, if_neg hmi]
  cases number C.L (i + 2) <;> rfl
 have HCE : Hid (tx C.L (i + 1) = bs ⟨#[58, 61]⟩) := hce
 have HMI : Hid (tx C.L (i + 2) ≠ bs ⟨#[45]⟩) := hmi
 clear hce hmi
 have T1 : Hid True := trivial
 go_enter Tryz.func99, Tryz.ntmps99
 go_wp2_with (first
  | (go_at_call 93; refine (name_any hp0).mono ?_; rintro e w1 h1; rcases h1.cases with ⟨f, hr1, q, rfl, hq⟩ | ⟨s1, v1, hr1, rfl, ⟨rfl, hp1⟩, hf1⟩; (· exact ⟨rfl, by rw [variable_, hr1.out]; exact Thrown.up hf0 ⟨q, rfl, hq⟩⟩); rw [sv]; have H1 := blk H0 hC hf1; clear H0; obtain ⟨hp2, hf2⟩ := hp1.alloc (.cells #[.int .i64 kind, .string ⟨s1.toArray⟩, .int .i64 0] 33); have H2 := blk H1 hC hf2; have hc1 := hp1.lts.1; have hne : w.heap.size ≠ w1.heap.size := (by (have := hf1.size; simp at this; omega)); have K2 : (w1.alloc (.cells #[.int .i64 kind, .string ⟨s1.toArray⟩, .int .i64 0] 33)).heap[w1.heap.size]? = some (.cells #[.int .i64 kind, .string ⟨s1.toArray⟩, .int .i64 0] 33 (0, 0)) := heap_alloc_new _ _)
  | (go_at_call 100; clear T1; refine (take_yes hp2 ⟨#[58, 61]⟩ HCE.out (by decide)).mono ?_; rintro e w3 ⟨rfl, hp3, hf3⟩; have H3 := blk H2 hC hf3; have K3 := blk K2 hc1 hf3)
  | (go_at_call 100; refine (take_no hp3 ⟨#[45]⟩ HMI.out).mono ?_; rintro e w4 ⟨rfl, hp4, hf4⟩; have H4 := blk H3 hC hf4.wide; have K4 := blk K3 hc1 hf4.wide; clear H3 K3; have hF4 := (((hf0.up hf1).up hf2).up hf3).up hf4.wide)
  | (go_at_call 143; refine (number_any _ _ st ins 0 hp4).mono ?_; rintro e w5 h5; rcases h5.cases with ⟨f, hr5, q, rfl, hq⟩ | ⟨n, v5, hr5, rfl, ⟨rfl, hn18, hp5⟩, hf5⟩; (· exact ⟨rfl, by rw [(HV _ hr1).out, hr5.out]; exact Thrown.up hF4 ⟨q, rfl, hq⟩⟩); have H5 := blk H4 hC hf5; have K5 := blk K4 hc1 hf5; clear H4 K4; have hn1 : (n : Int) < 1000000000000000000 := (by omega); have hn0 : (0 : Int) ≤ n := (by omega); obtain ⟨k2, z2⟩ := cel K5 2 _ rfl; have hp6 := hp5.put hc1 2 (.int .i64 (n : Int)); obtain ⟨H6, K6⟩ := blk2 H5 K5 hne 2 (.int .i64 (n : Int)); have hF6 : Fr w.heap.size [C.rb] w (w5.setCell ⟨w1.heap.size, 2, none⟩ (.int .i64 (n : Int))) := (hF4.up hf5).setCell (.inl ((hf0.up hf1).size)) _)
  | (go_at_call 92; refine (need_any hp6 ⟨#[59]⟩ kSemi rfl (by decide)).mono ?_; rintro e w7 h7; rcases h7.cases with ⟨f, hr7, q, rfl, hq⟩ | ⟨_, v7, hr7, rfl, ⟨rfl, hp7⟩, hf7⟩; (· exact ⟨rfl, by rw [(HV _ hr1).out, hr5.out]; simp only; rw [if_neg (need_bad hr7).1, ← (need_bad hr7).2]; exact Thrown.up hF6 ⟨q, rfl, hq⟩⟩); have H7 := blk H6 hC hf7; have K7 := blk K6 hc1 hf7)
  | (refine wpList_load_eq rfl 33 (.tmp 5) rfl ⟨w1.heap.size, 0, none⟩ rfl (.agg #[.int .i64 kind, .string ⟨s1.toArray⟩, .int .i64 (n : Int)]) (load62 rfl K7) ?_)
  | (refine wpList_store_row rfl 33 (.tmp 4) (.tmp 25) rfl w.heap.size #[.int .i64 kind, .string ⟨s1.toArray⟩, .int .i64 (n : Int)] rfl rfl 33 _ H7 Tryz.size33 rfl (three_one _ _ _) ?_))
 refine bodyPost_ret (results74 _ _ w.heap.size #[.int .i64 kind, .string ⟨s1.toArray⟩, .int .i64 (n : Int)] rfl rfl (setRow_heap _ _ _ _ _ _ H7)) rfl ?_
 rw [(HV _ hr1).out, hr5.out]
 simp only
 rw [if_pos (need_ok hr7)]
 exact ⟨_, rfl, ⟨rfl, hp7.row hC _⟩, (hF6.up hf7).row (.inl (Nat.le_refl _)) _⟩
set_option maxRecDepth 100000 in
set_option maxHeartbeats 4000000 in
theorem variable_neg {C : Ctx} {w : World} {i st ins : Nat} (h : PS C w i st ins 0) (kind : Nat) (hce : tx C.L (i + 1) = kColEq) (hmi : tx C.L (i + 2) = kMinus) : Calls Tryz.prog 99 #[.pointer (some ⟨C.rb, 0, none⟩), .int .i64 kind] w (Out C (OkV C st ins) w (variable_ C.L kind i)) := by
 have hC := h.lts.1
 obtain ⟨hp0, hf0⟩ := h.alloc (.cells #[.int .i64 0, .string ⟨#[]⟩, .int .i64 0] 33)
 have H0 : (w.alloc (.cells #[.int .i64 0, .string ⟨#[]⟩, .int .i64 0] 33)).heap[w.heap.size]? = some (.cells #[.int .i64 0, .string ⟨#[]⟩, .int .i64 0] 33 (0, 0)) := heap_alloc_new _ _
 have HV : ∀ s, Hid (nm C.L i = .ok s) → Hid (variable_ C.L kind i = match number C.L (i + 3) with | .error x => .error x | .ok n => if tx C.L (i + 4) = kSemi then .ok (⟨kind, s, -(n : Int)⟩, i + 4 + 1) else .error (3, pl C.L (i + 4))) := fun s hs => by
  rw [Hid, variable_, hs.out, first, if_pos hce, if_pos hmi]
  cases number C.L (i + 3) <;> rfl
 have HCE : Hid (tx C.L (i + 1) = bs ⟨#[58, 61]⟩) := hce
 have HMI : Hid (tx C.L (i + 2) = bs ⟨#[45]⟩) := hmi
 clear hce hmi
 have T1 : Hid True := trivial
 go_enter Tryz.func99, Tryz.ntmps99
 go_wp2_with (first
  | (go_at_call 93; refine (name_any hp0).mono ?_; rintro e w1 h1; rcases h1.cases with ⟨f, hr1, q, rfl, hq⟩ | ⟨s1, v1, hr1, rfl, ⟨rfl, hp1⟩, hf1⟩; (· exact ⟨rfl, by rw [variable_, hr1.out]; exact Thrown.up hf0 ⟨q, rfl, hq⟩⟩); rw [sv]; have H1 := blk H0 hC hf1; clear H0; obtain ⟨hp2, hf2⟩ := hp1.alloc (.cells #[.int .i64 kind, .string ⟨s1.toArray⟩, .int .i64 0] 33); have H2 := blk H1 hC hf2; have hc1 := hp1.lts.1; have hne : w.heap.size ≠ w1.heap.size := (by (have := hf1.size; simp at this; omega)); have K2 : (w1.alloc (.cells #[.int .i64 kind, .string ⟨s1.toArray⟩, .int .i64 0] 33)).heap[w1.heap.size]? = some (.cells #[.int .i64 kind, .string ⟨s1.toArray⟩, .int .i64 0] 33 (0, 0)) := heap_alloc_new _ _)
  | (go_at_call 100; clear T1; refine (take_yes hp2 ⟨#[58, 61]⟩ HCE.out (by decide)).mono ?_; rintro e w3 ⟨rfl, hp3, hf3⟩; have H3 := blk H2 hC hf3; have K3 := blk K2 hc1 hf3)
  | (go_at_call 100; refine (take_yes hp3 ⟨#[45]⟩ HMI.out (by decide)).mono ?_; rintro e w4 ⟨rfl, hp4, hf4⟩; have H4 := blk H3 hC hf4; have K4 := blk K3 hc1 hf4; clear H3 K3; have hF4 := (((hf0.up hf1).up hf2).up hf3).up hf4)
  | (go_at_call 143; refine (number_any _ _ st ins 0 hp4).mono ?_; rintro e w5 h5; rcases h5.cases with ⟨f, hr5, q, rfl, hq⟩ | ⟨n, v5, hr5, rfl, ⟨rfl, hn18, hp5⟩, hf5⟩; (· exact ⟨rfl, by rw [(HV _ hr1).out, hr5.out]; exact Thrown.up hF4 ⟨q, rfl, hq⟩⟩); have H5 := blk H4 hC hf5; have K5 := blk K4 hc1 hf5; clear H4 K4; have hn1 : (n : Int) < 1000000000000000000 := (by omega); have hn0 : (0 : Int) ≤ n := (by omega); obtain ⟨k2, z2⟩ := cel K5 2 _ rfl; have hp6 := (hp5.put hc1 2 (.int .i64 (n : Int))).put hc1 2 (.int .i64 (-(n : Int))); obtain ⟨H6a, K6a⟩ := blk2 H5 K5 hne 2 (.int .i64 (n : Int)); obtain ⟨H6, K6⟩ := blk2 H6a K6a hne 2 (.int .i64 (-(n : Int))); have hF6 := ((hF4.up hf5).setCell (p := ⟨w1.heap.size, 2, none⟩) (.inl ((hf0.up hf1).size)) (.int .i64 (n : Int))).setCell (p := ⟨w1.heap.size, 2, none⟩) (.inl ((hf0.up hf1).size)) (.int .i64 (-(n : Int))))
  | (go_at_call 92; refine (need_any hp6 ⟨#[59]⟩ kSemi rfl (by decide)).mono ?_; rintro e w7 h7; rcases h7.cases with ⟨f, hr7, q, rfl, hq⟩ | ⟨_, v7, hr7, rfl, ⟨rfl, hp7⟩, hf7⟩; (· exact ⟨rfl, by rw [(HV _ hr1).out, hr5.out]; simp only; rw [if_neg (need_bad hr7).1, ← (need_bad hr7).2]; exact Thrown.up hF6 ⟨q, rfl, hq⟩⟩); have H7 := blk H6 hC hf7; have K7 := blk K6 hc1 hf7)
  | (refine wpList_load_eq rfl 33 (.tmp 5) rfl ⟨w1.heap.size, 0, none⟩ rfl (.agg #[.int .i64 kind, .string ⟨s1.toArray⟩, .int .i64 (-(n : Int))]) (load62 rfl K7) ?_)
  | (refine wpList_store_row rfl 33 (.tmp 4) (.tmp 25) rfl w.heap.size #[.int .i64 kind, .string ⟨s1.toArray⟩, .int .i64 (-(n : Int))] rfl rfl 33 _ H7 Tryz.size33 rfl (three_one _ _ _) ?_))
 refine bodyPost_ret (results74 _ _ w.heap.size #[.int .i64 kind, .string ⟨s1.toArray⟩, .int .i64 (-(n : Int))] rfl rfl (setRow_heap _ _ _ _ _ _ H7)) rfl ?_
 rw [(HV _ hr1).out, hr5.out]
 simp only
 rw [if_pos (need_ok hr7)]
 exact ⟨_, rfl, ⟨rfl, hp7.row hC _⟩, (hF6.up hf7).row (.inl (Nat.le_refl _)) _⟩
theorem variable_any {C : Ctx} {w : World} {i st ins : Nat} (h : PS C w i st ins 0) (kind : Nat) : Calls Tryz.prog 99 #[.pointer (some ⟨C.rb, 0, none⟩), .int .i64 kind] w (Out C (OkV C st ins) w (variable_ C.L kind i)) := by
 by_cases hce : tx C.L (i + 1) = kColEq
 ·by_cases hmi : tx C.L (i + 2) = kMinus
  ·exact variable_neg h kind hce hmi
  ·exact variable_pos h kind hce hmi
 ·exact variable_none h kind hce
end Go.Proofs.YtpogmfliojcnjaaGreatDoor
