/- Expressions: chain and one, by the depths that are left. -/
import Derived.Test.YtpbfmfhjgghldaaDoorJPrd
import Derived.Test.YtpbfmfhjgghldaaDoorJPint
import Derived.Lib.AtoiErrMem
import Derived.Deep.LoopGhost
import Derived.Deep.RegionHeld3
namespace Go.Proofs.YtpbfmfhjgghldaaDoor
open Go.RowKit Px

/-- blocks from a number on -/
def Ge (n b : Nat) : Prop := n ≤ b
theorem keepGe {C : Ctx} {n : Nat} {w w' : World} (hn : C.rb < n) (hf : Fr w.heap.size [C.rb] w w') : Keep (Ge n) (Ge n) w w' := hf.keep (fun b hb => by simp [Ge] at *; omega)
theorem IsE.ge {n m : Nat} {w : World} {e : E} {v : Value} (h : IsE (Ge m) w e v) (hn : n ≤ m) : IsE (Ge n) w e v := h.carry (fun _ hb _ => ⟨Nat.le_trans hn hb, rfl⟩)
theorem keepAll {A : Nat → Prop} {w w' : World} (hf : Fr w.heap.size [] w w') : Keep A A w w' := hf.keep (by simp)
/-- an expression was read: what it is, and up to where -/
def OkE (C : Ctx) (w : World) (st ins und : Nat) (p : E × Nat) (v : Value) (w' : World) : Prop := IsE (Ge w.heap.size) w' p.1 v ∧ PS C w' p.2 st ins und
def One (C : Ctx) (k : Nat) : Prop := ∀ (w : World) (i st ins und : Nat), und + k = 7 → PS C w i st ins und → Calls Tryd.prog 92 #[.pointer (some ⟨C.rb, 0, none⟩)] w (Out C (OkE C w st ins und) w (one C.L k i))
def Chain (C : Ctx) (k t : Nat) : Prop := ∀ (w : World) (i st ins und : Nat), und + k = 7 → PS C w i st ins und → Calls Tryd.prog 85 #[.pointer (some ⟨C.rb, 0, none⟩), .int .i64 ((5 - t : Nat) : Int)] w (Out C (OkE C w st ins und) w (lev C.L (one C.L k) t i))
theorem Out.of {C : Ctx} {α : Type} {ok : α → Value → World → Prop} {w w1 : World} {r : Except F α} {e : Ending} {w' : World} (hf : Fr w.heap.size [C.rb] w w1) (h : Out C ok w1 r e w') : Out C ok w r e w' := by
  cases r with
  | error f => exact Thrown.up hf h
  | ok a => obtain ⟨v, h1, h2, h3⟩ := h; exact ⟨v, h1, h2, hf.up h3⟩
theorem text_is {C : Ctx} {w : World} {i st ins und : Nat} (h : PS C w i st ins und) (tb : ByteArray) (htb : Hid (bs tb = tx C.L i)) : Calls Tryd.prog 25 #[.pointer (some ⟨C.rb, 0, none⟩)] w fun e w' => e = .returned (.string tb) ∧ PS C w' i st ins und ∧ Fr w.heap.size [] w w' := by
  refine (text_any h).mono ?_
  rintro e w' ⟨rfl, h1, h2⟩
  exact ⟨by rw [sv, ← htb.out], h1, h2⟩
theorem codeBetween_is {C : Ctx} {w : World} {i st ins und : Nat} (h : PS C w i st ins und) (tb : ByteArray) (t c : Nat) (ht : t < 5) (hc : Hid (codeAt t (bs tb) = c)) : Calls Tryd.prog 93 #[.string tb, .int .i64 t] w fun e w' => e = .returned (.int .i64 c) ∧ PS C w' i st ins und ∧ Fr w.heap.size [] w w' := by
  refine (codeBetween_any tb t ht w h.tab).mono ?_
  rintro e w' ⟨rfl, hb⟩
  have hf := Fr.of_below hb []
  exact ⟨by rw [hc.out], h.same hf, hf⟩

theorem Out.cases {C : Ctx} {α : Type} {ok : α → Value → World → Prop} {w : World} {r : Except F α} {e : Ending} {w' : World} (h : Out C ok w r e w') : (∃ f, Hid (r = .error f) ∧ Thrown C w f e w') ∨ (∃ a v, Hid (r = .ok a) ∧ e = .returned v ∧ ok a v w' ∧ Fr w.heap.size [C.rb] w w') := by
  cases r with
  | error f => exact .inl ⟨f, rfl, h⟩
  | ok a => obtain ⟨v, h1, h2, h3⟩ := h; exact .inr ⟨a, v, rfl, h1, h2, h3⟩

set_option maxRecDepth 100000 in
set_option maxHeartbeats 1000000 in
theorem chain_zero {C : Ctx} {k : Nat} (ho : One C k) : Chain C k 0 := by
  intro w i st ins und hu h
  go_enter Tryd.func85, Tryd.ntmps85
  go_wp2_with (go_at_call 92; refine (ho w i st ins und hu h).mono ?_; rintro e w1 h1; rcases h1.cases with ⟨f, hr, q, rfl, hq⟩ | ⟨p, v, hr, rfl, hv, hf⟩; · exact ⟨rfl, by rw [lev, hr.out]; exact ⟨q, rfl, hq⟩⟩)
  go_ret
  rw [lev, hr.out]
  exact ⟨v, rfl, hv, hf⟩

/-- a pair of a code and a new block -/
theorem isE_two {w : World} {c B n : Nat} {l r : E} {lv rv : Value} (hn : w.heap.size = n) (hB : B ≤ n) (hl : IsE (Ge B) w l lv) (hr : IsE (Ge B) w r rv) :
    IsE (Ge B) (w.alloc (.cells #[.int .i64 c, .int .i64 0, .string ⟨#[]⟩, lv, rv] 121)) (eTwo c l r) (.pointer (some ⟨n, 0, none⟩)) := by
  subst hn
  have k : Keep (Ge B) (Ge B) w (w.alloc (.cells #[.int .i64 c, .int .i64 0, .string ⟨#[]⟩, lv, rv] 121)) := fun b ha hb => ⟨ha, Below.heap_alloc _ _ _ hb⟩
  exact ⟨w.heap.size, lv, rv, rfl, hB, heap_alloc_new w _, hl.carry k, hr.carry k⟩
theorem IsE.ptr {A : Nat → Prop} {w : World} {e : E} {v : Value} (h : IsE A w e v) : ∃ u, v = .pointer u := by
  cases e with
  | nil => exact ⟨none, h⟩
  | node b o a l r => obtain ⟨g, lv, rv, rfl, _⟩ := h; exact ⟨_, rfl⟩
theorem Fr.wide {B : Nat} {X : List Nat} {w w' : World} (h : Fr B [] w w') : Fr B X w w' := h.mono (Nat.le_refl _) (by simp)
theorem chainF_le {L : List Lx.Tok} {below : Nat → Except F (E × Nat)} {code : Str → Nat} (hb : ∀ i e j, below i = .ok (e, j) → i < j) : ∀ (f : Nat) (e : E) (i : Nat) (e' : E) (j : Nat), chainF L below code f e i = .ok (e', j) → i ≤ j := by
  intro f
  induction f with
  | zero => intro e i e' j h; rw [chainF] at h; injection h with h; injection h with _ h2; omega
  | succ f ih =>
    intro e i e' j h
    rw [chainF] at h
    split at h
    · injection h with h; injection h with _ h2; omega
    · split at h
      · exact absurd h (by simp)
      · rename_i r m hm
        have h1 := hb _ _ _ hm
        have h2 := ih _ _ _ _ h
        omega
theorem lev_lt {L : List Lx.Tok} {one : Nat → Except F (E × Nat)} (ho : ∀ i e j, one i = .ok (e, j) → i < j) : ∀ (t i : Nat) (e : E) (j : Nat), lev L one t i = .ok (e, j) → i < j := by
  intro t
  induction t with
  | zero => exact ho
  | succ t ih =>
    intro i e j h
    rw [lev, chain] at h
    split at h
    · exact absurd h (by simp)
    · rename_i e1 m hm
      have h1 := ih _ _ _ hm
      have h2 := chainF_le ih _ _ _ _ _ h
      omega
theorem one_lt {L : List Lx.Tok} : ∀ (k i : Nat) (e : E) (j : Nat), one L k i = .ok (e, j) → i < j := by
  intro k
  induction k with
  | zero => intro i e j h; rw [one] at h; exact absurd h (by simp)
  | succ k ih =>
    intro i e j h
    rw [one] at h
    split at h
    · split at h
      · exact absurd h (by simp)
      · rename_i m hm
        have := ih _ _ _ hm
        injection h with h; injection h with _ h2; omega
    · split at h
      · split at h
        · exact absurd h (by simp)
        · rename_i m hm
          have := lev_lt ih _ _ _ _ hm
          split at h
          · injection h with h; injection h with _ h2; omega
          · exact absurd h (by simp)
      · split at h
        · split at h
          · split at h
            · exact absurd h (by simp)
            · split at h
              · injection h with h; injection h with _ h2; omega
              · exact absurd h (by simp)
          · exact absurd h (by simp)
        · split at h
          · injection h with h; injection h with _ h2; omega
          · split at h
            · exact absurd h (by simp)
            · injection h with h; injection h with _ h2; omega

set_option maxRecDepth 100000 in
set_option maxHeartbeats 2000000 in
theorem chain_succ {C : Ctx} {k t : Nat} (ht : t < 5) (hc : Chain C k t) : Chain C k (t + 1) := by
  intro w i st ins und hu h
  have ht0 : ((5 - (t + 1) : Nat) : Int) + 1 = ((5 - t : Nat) : Int) := by omega
  have hne : ¬ ((5 - (t + 1) : Nat) : Int) = 5 := by omega
  have hne' : (((5 - (t + 1) : Nat) : Int) == 5) = false := by simpa using hne
  obtain ⟨t', ht'⟩ : ∃ t', Hid (t' = 5 - (t + 1)) := ⟨_, rfl⟩
  have hlt5 : t' < 5 := by have := ht'.out; omega
  have ht4 : Hid (t' = 4 - t) := by rw [Hid, ht'.out]; omega
  rw [← ht'.out] at ht0 hne hne' ⊢
  have hcall : ∀ (w : World) (i st ins und : Nat), und + k = 7 → PS C w i st ins und → Calls Tryd.prog 85 #[.pointer (some ⟨C.rb, 0, none⟩), .int .i64 ((t' : Int) + 1)] w (Out C (OkE C w st ins und) w (lev C.L (one C.L k) t i)) := fun w i st ins und hu h => by
    rw [ht0]; exact hc w i st ins und hu h
  clear ht0
  go_enter Tryd.func85, Tryd.ntmps85
  go_wp2_with (go_at_call 85; refine (hcall w i st ins und hu h).mono ?_; rintro e w1 h1; rcases h1.cases with ⟨f, hr, q, rfl, hq⟩ | ⟨⟨e0, i0⟩, v, hr, rfl, ⟨hv, h1⟩, hf⟩; · exact ⟨rfl, by rw [lev, chain, hr.out]; exact ⟨q, rfl, hq⟩⟩)
  have HR : Hid (lev C.L (one C.L k) (t + 1) i = chainF C.L (lev C.L (one C.L k) t) (codeAt t') C.L.length e0 i0) := by
    rw [Hid, lev, chain, hr.out, ht4.out]
  go_loopg [5] C.L.length (fun g v wr => ∃ (e : E) (j : Nat), Hid (lev C.L (one C.L k) (t + 1) i = chainF C.L (lev C.L (one C.L k) t) (codeAt t') g e j) ∧ C.L.length ≤ g + j ∧ IsE (Ge w.heap.size) wr e v ∧ PS C wr j st ins und ∧ Fr w.heap.size [C.rb] w wr)
  case atStart => exact ⟨e0, i0, HR, by omega, hv, h1, hf⟩
  case round =>
    obtain ⟨e1, j, hr1, hg, hv1, hp1, hf1⟩ := hrel
    obtain ⟨p1, rfl⟩ := hv1.ptr
    obtain ⟨tb, htb⟩ : ∃ tb : ByteArray, Hid (bs tb = tx C.L j) := ⟨⟨(tx C.L j).toArray⟩, rfl⟩
    obtain ⟨c, hcc⟩ : ∃ c, Hid (codeAt t' (bs tb) = c) := ⟨_, rfl⟩
    have hcc' : Hid (codeAt t' (tx C.L j) = c) := by rw [Hid, ← htb.out]; exact hcc.out
    obtain ⟨g', hgg⟩ : ∃ g', gk = g' + 1 := ⟨gk - 1, by have := hp1.lt; omega⟩
    subst hgg
    have hjl := hp1.lt
    have hl6 := hp1.wf.len
    by_cases hc0 : c = 0
    · subst hc0
      have HE : Hid (lev C.L (one C.L k) (t + 1) i = .ok (e1, j)) := by rw [Hid, hr1.out, chainF, if_pos hcc'.out]
      go_wp2_with (first
        | (go_at_call 25; refine (text_is hp1 tb htb).mono ?_; rintro e w2 ⟨rfl, hp2, hf2⟩)
        | (go_at_call 93; refine (codeBetween_is hp2 tb t' 0 hlt5 hcc).mono ?_; rintro e w3 ⟨rfl, hp3, hf3⟩))
      go_ret
      rw [HE.out]
      refine ⟨_, rfl, ⟨?_, hp3⟩, ?_⟩
      · exact (hv1.carry (keepAll hf2)).carry (keepAll hf3)
      · exact (hf1.up hf2.wide).up hf3.wide
    · have hc1 : ¬ (c : Int) = 0 := by omega
      have hc2 : ((c : Int) == 0) = false := by simpa using hc1
      have hne2 : tx C.L j ≠ [] := by
        intro e; rw [e] at hcc'
        have : ∀ t : Fin 5, codeAt t.val [] = 0 := by decide
        exact hc0 (by rw [← hcc'.out]; exact this ⟨t', hlt5⟩)
      have hnx := hp1.wf.next hp1.lt hne2
      clear hne2
      go_wp2_with (first
        | (go_at_call 25; refine (text_is hp1 tb htb).mono ?_; rintro e w2 ⟨rfl, hp2, hf2⟩)
        | (go_at_call 93; refine (codeBetween_is hp2 tb t' c hlt5 hcc).mono ?_; rintro e w3 ⟨rfl, hp3, hf3⟩; obtain ⟨-, c1, -⟩ := hp3.cells; have z1 := hp3.frozen 1; obtain ⟨hp4, hf4⟩ := hp3.step hnx; have hl3 := hp3.lts.1)
        | (go_at_call 85; refine (hcall _ (j + 1) st ins und hu hp4).mono ?_; rintro e w5 h5; rcases h5.cases with ⟨f, hr5, q, rfl, hq⟩ | ⟨⟨e5, i5⟩, v5, hr5, rfl, ⟨hv5, hp5⟩, hf5⟩; (· exact ⟨rfl, by rw [hr1.out, chainF, if_neg (by rw [hcc'.out]; exact hc0), hr5.out]; exact Thrown.up (((hf1.up hf2.wide).up hf3.wide).up hf4) ⟨q, rfl, hq⟩⟩); obtain ⟨p5, rfl⟩ := hv5.ptr))
      have hF : Fr w.heap.size [C.rb] w w5 := (((hf1.up hf2.wide).up hf3.wide).up hf4).up hf5
      have hF2 := hF.size
      have hi5 : j + 1 < i5 := lev_lt (one_lt k) _ _ _ _ hr5.out
      have hC := h.lts.1
      have hvv : IsE (Ge w.heap.size) w5 e1 _ := ((((hv1.carry (keepAll hf2)).carry (keepAll hf3)).carry (keepGe hC hf4)).carry (keepGe hC hf5))
      have hv6 := hv5.ge ((((hf1.up hf2.wide).up hf3.wide).up hf4).size)
      go_roundg g'
      case measure => omega
      case rel => exact ⟨eTwo c e1 e5, i5, by rw [Hid, hr1.out, chainF, if_neg (by rw [hcc'.out]; exact hc0), hr5.out, hcc'.out], by omega, isE_two rfl (by omega) hvv hv6, hp5.same ((Fr.refl _ _ _).alloc (Nat.le_refl _) _), hF.alloc (by omega) _⟩
end Go.Proofs.YtpbfmfhjgghldaaDoor
/- Expressions: one, and so all of them. -/
namespace Go.Proofs.YtpbfmfhjgghldaaDoor
open Go.RowKit Px

theorem codeAhead_is {C : Ctx} {w : World} {i st ins und : Nat} (h : PS C w i st ins und) (tb : ByteArray) (c : Nat) (hc : Hid (codeAhead (bs tb) = c)) : Calls Tryd.prog 94 #[.string tb] w fun e w' => e = .returned (.int .i64 c) ∧ PS C w' i st ins und ∧ Fr w.heap.size [] w w' := by
  refine (codeAhead_any tb w h.tab).mono ?_
  rintro e w' ⟨rfl, hb⟩
  have hf := Fr.of_below hb []
  exact ⟨by rw [hc.out], h.same hf, hf⟩
set_option maxHeartbeats 400000 in
theorem loosest_of {C : Ctx} {k : Nat} (hc : Chain C k 5) (w : World) (i st ins und : Nat) (hu : und + k = 7) (h : PS C w i st ins und) : Calls Tryd.prog 67 #[.pointer (some ⟨C.rb, 0, none⟩)] w (Out C (OkE C w st ins und) w (lev C.L (one C.L k) 5 i)) := by
  have hc0 := hc w i st ins und hu h
  rw [show ((5 - 5 : Nat) : Int) = 0 from rfl] at hc0
  go_enter Tryd.func67, Tryd.ntmps67
  go_wp2_with (go_at_call 85; refine hc0.mono ?_; rintro e w1 h1; rcases h1.cases with ⟨f, hr, q, rfl, hq⟩ | ⟨p, v, hr, rfl, hv, hf⟩; (· exact ⟨rfl, by rw [hr.out]; exact ⟨q, rfl, hq⟩⟩))
  go_ret
  rw [hr.out]
  exact ⟨v, rfl, hv, hf⟩

/-- a leaf, in a new block -/
theorem isE_leaf {w : World} {c B n : Nat} {m : Int} {s : Str} {sb : ByteArray} (hn : w.heap.size = n) (hB : B ≤ n) (hs : sb = ⟨s.toArray⟩) :
    IsE (Ge B) (w.alloc (.cells #[.int .i64 c, .int .i64 m, .string sb, .pointer none, .pointer none] 121)) (.node 0 0 ⟨c, m, s⟩ .nil .nil) (.pointer (some ⟨n, 0, none⟩)) := by
  subst hn hs
  exact ⟨w.heap.size, _, _, rfl, hB, heap_alloc_new w _, rfl, rfl⟩
theorem isE_one {w : World} {c B n : Nat} {l : E} {lv : Value} (hn : w.heap.size = n) (hB : B ≤ n) (hl : IsE (Ge B) w l lv) :
    IsE (Ge B) (w.alloc (.cells #[.int .i64 c, .int .i64 0, .string ⟨#[]⟩, lv, .pointer none] 121)) (eOne c l) (.pointer (some ⟨n, 0, none⟩)) := by
  subst hn
  have k : Keep (Ge B) (Ge B) w (w.alloc (.cells #[.int .i64 c, .int .i64 0, .string ⟨#[]⟩, lv, .pointer none] 121)) := fun b ha hb => ⟨ha, Below.heap_alloc _ _ _ hb⟩
  exact ⟨w.heap.size, lv, _, rfl, hB, heap_alloc_new w _, hl.carry k, rfl⟩
theorem PS.alloc {C : Ctx} {w : World} {i st ins und : Nat} (h : PS C w i st ins und) (o : Obj) : PS C (w.alloc o) i st ins und ∧ Fr w.heap.size [C.rb] w (w.alloc o) :=
  ⟨h.same ((Fr.refl _ _ _).alloc (Nat.le_refl _) _), (Fr.refl _ _ _).alloc (Nat.le_refl _) _⟩

set_option maxRecDepth 100000 in
set_option maxHeartbeats 1000000 in
theorem one_zero {C : Ctx} : One C 0 := by
  intro w i st ins und hu h
  obtain ⟨-, -, -, -, c4⟩ := h.cells
  have hb := bound_bad h und 7 (by omega)
  go_enter Tryd.func92, Tryd.ntmps92
  go_wp2_with (go_at_call 26; refine hb.mono ?_; rintro e w1 ⟨q, rfl, hq⟩; exact ⟨rfl, by rw [one]; exact ⟨q, rfl, hq⟩⟩)

set_option maxRecDepth 100000 in
set_option maxHeartbeats 4000000 in
theorem one_ahead {C : Ctx} {k : Nat} (ho : One C k) (w : World) (i st ins und : Nat) (hu : und + (k + 1) = 7) (h : PS C w i st ins und) (hc0 : codeAhead (tx C.L i) ≠ 0) : Calls Tryd.prog 92 #[.pointer (some ⟨C.rb, 0, none⟩)] w (Out C (OkE C w st ins und) w (one C.L (k + 1) i)) := by
  obtain ⟨-, -, -, -, c4⟩ := h.cells
  obtain ⟨tb, htb⟩ : ∃ tb : ByteArray, Hid (bs tb = tx C.L i) := ⟨⟨(tx C.L i).toArray⟩, rfl⟩
  obtain ⟨c, hcc⟩ : ∃ c, Hid (codeAhead (bs tb) = c) := ⟨_, rfl⟩
  have hcc' : Hid (codeAhead (tx C.L i) = c) := by rw [Hid, ← htb.out]; exact hcc.out
  have hb := fun w => bound_ok (C := C) (w := w) und 7 (by omega)
  have H0 : Hid (codeAhead (tx C.L i) ≠ 0) := hc0
  have hne : tx C.L i ≠ [] := by intro e; rw [e] at hc0; exact hc0 (by decide)
  have hnx := h.wf.next h.lt hne
  have hl6 := h.wf.len
  rw [hcc'.out] at hc0
  have hc1 : ¬ (c : Int) = 0 := by omega
  have hc2 : ((c : Int) != 0) = true := by simpa using hc1
  have HE : ∀ f, Hid (one C.L k (i + 1) = .error f) → Hid (one C.L (k + 1) i = .error f) := fun f hr => by rw [Hid, one, if_pos H0.out, hr.out]
  have HO : ∀ e j, Hid (one C.L k (i + 1) = .ok (e, j)) → Hid (one C.L (k + 1) i = .ok (eOne c e, j)) := fun e j hr => by rw [Hid, one, if_pos H0.out, hr.out, hcc'.out]
  clear hne hc0
  go_enter Tryd.func92, Tryd.ntmps92
  go_wp2_with (first
    | (go_at_call 26; refine (hb _).mono ?_; rintro e w' ⟨rfl, hw⟩; obtain rfl := hw.symm)
    | (go_at_call 25; refine (text_is h tb htb).mono ?_; rintro e w2 ⟨rfl, hp2, hf2⟩)
    | (go_at_call 94; refine (codeAhead_is hp2 tb c hcc).mono ?_; rintro e w3 ⟨rfl, hp3, hf3⟩; obtain ⟨-, d1, -, -, d4⟩ := hp3.cells; have z1 := hp3.frozen 1; have z4 := hp3.frozen 4; obtain ⟨hp4, hf4⟩ := hp3.step hnx; obtain ⟨hp5, hf5⟩ := hp4.down; have hF5 := ((hf2.wide (X := [C.rb])).up hf3.wide).up (hf4.up hf5))
    | (go_at_call 92; refine (ho _ (i + 1) st ins (und + 1) (by omega) hp5).mono ?_; rintro e w6 h6; rcases h6.cases with ⟨f, hr6, q, rfl, hq⟩ | ⟨⟨e6, i6⟩, v6, hr6, rfl, ⟨hv6, hp6⟩, hf6⟩; (· exact ⟨rfl, by rw [(HE _ hr6).out]; exact Thrown.up hF5 ⟨q, rfl, hq⟩⟩); obtain ⟨p6, rfl⟩ := hv6.ptr; obtain ⟨-, -, -, -, b4⟩ := hp6.cells; have y4 := hp6.frozen 4; have l6 := hp6.lts.1))
  go_ret
  rw [(HO _ _ hr6).out]
  obtain ⟨hp7, hf7⟩ := hp6.upAgain
  obtain ⟨hp8, hf8⟩ := hp7.alloc (.cells #[.int .i64 c, .int .i64 0, .string ⟨#[]⟩, .pointer p6, .pointer none] 121)
  exact ⟨_, rfl, ⟨isE_one (by simp) (hF5.up hf6).size ((hv6.ge hF5.size).carry (keepGe h.lts.1 hf7)), hp8⟩, ((hF5.up hf6).up hf7).up hf8⟩

set_option maxRecDepth 100000 in
set_option maxHeartbeats 4000000 in
theorem one_par {C : Ctx} {k : Nat} (hch : Chain C k 5) (w : World) (i st ins und : Nat) (hu : und + (k + 1) = 7) (h : PS C w i st ins und) (hc0 : codeAhead (tx C.L i) = 0) (hpar : tx C.L i = kPar) : Calls Tryd.prog 92 #[.pointer (some ⟨C.rb, 0, none⟩)] w (Out C (OkE C w st ins und) w (one C.L (k + 1) i)) := by
  obtain ⟨-, -, -, -, c4⟩ := h.cells
  obtain ⟨tb, htb⟩ : ∃ tb : ByteArray, Hid (bs tb = tx C.L i) := ⟨⟨(tx C.L i).toArray⟩, rfl⟩
  have hcc : Hid (codeAhead (bs tb) = 0) := by rw [Hid, htb.out]; exact hc0
  have hb := fun w => bound_ok (C := C) (w := w) und 7 (by omega)
  have HE : ∀ f, Hid (lev C.L (one C.L k) 5 (i + 1) = .error f) → Hid (one C.L (k + 1) i = .error f) := fun f hr => by rw [Hid, one, if_neg (by simp [hc0]), if_pos hpar, hr.out]
  have HO : ∀ e j, Hid (lev C.L (one C.L k) 5 (i + 1) = .ok (e, j)) → Hid (one C.L (k + 1) i = if tx C.L j = kRap then .ok (e, j + 1) else .error (3, pl C.L j)) := fun e j hr => by rw [Hid, one, if_neg (by simp [hc0]), if_pos hpar, hr.out]
  have HP : Hid (tx C.L i = bs ⟨#[40]⟩) := hpar
  clear hc0 hpar
  go_enter Tryd.func92, Tryd.ntmps92
  go_wp2_with (first
    | (go_at_call 26; refine (hb _).mono ?_; rintro e w' ⟨rfl, hw⟩; obtain rfl := hw.symm)
    | (go_at_call 25; refine (text_is h tb htb).mono ?_; rintro e w2 ⟨rfl, hp2, hf2⟩)
    | (go_at_call 94; refine (codeAhead_is hp2 tb 0 hcc).mono ?_; rintro e w3 ⟨rfl, hp3, hf3⟩)
    | (go_at_call 28; refine (take_yes hp3 ⟨#[40]⟩ HP.out (by decide)).mono ?_; rintro e w4 ⟨rfl, hp4, hf4⟩; obtain ⟨-, -, -, -, d4⟩ := hp4.cells; have z4 := hp4.frozen 4; obtain ⟨hp5, hf5⟩ := hp4.down; have hF5 := ((hf2.wide (X := [C.rb])).up hf3.wide).up (hf4.up hf5))
    | (go_at_call 67; refine (loosest_of hch _ (i + 1) st ins (und + 1) (by omega) hp5).mono ?_; rintro e w6 h6; rcases h6.cases with ⟨f, hr6, q, rfl, hq⟩ | ⟨⟨e6, i6⟩, v6, hr6, rfl, ⟨hv6, hp6⟩, hf6⟩; (· exact ⟨rfl, by rw [(HE _ hr6).out]; exact Thrown.up hF5 ⟨q, rfl, hq⟩⟩); obtain ⟨p6, rfl⟩ := hv6.ptr; obtain ⟨-, -, -, -, b4⟩ := hp6.cells; have y4 := hp6.frozen 4; obtain ⟨hp7, hf7⟩ := hp6.upAgain)
    | (go_at_call 20; refine (need_any hp7 ⟨#[41]⟩ kRap rfl (by decide)).mono ?_; rintro e w8 h8; rcases h8.cases with ⟨f, hr8, q, rfl, hq⟩ | ⟨_, v8, hr8, rfl, ⟨rfl, hp8⟩, hf8⟩; (· exact ⟨rfl, by
        rw [(HO _ _ hr6).out]
        have hr9 := hr8.out
        rw [need] at hr9
        split at hr9
        · exact absurd hr9 (by simp)
        · rename_i hn
          rw [if_neg hn]
          injection hr9 with hr9
          rw [hr9]
          exact Thrown.up ((hF5.up hf6).up hf7) ⟨q, rfl, hq⟩⟩)))
  go_ret
  have hn : tx C.L i6 = kRap := by
    have hr9 := hr8.out
    rw [need] at hr9
    split at hr9
    · assumption
    · exact absurd hr9 (by simp)
  rw [(HO _ _ hr6).out, if_pos hn]
  exact ⟨_, rfl, ⟨((hv6.ge hF5.size).carry (keepGe h.lts.1 hf7)).carry (keepGe h.lts.1 hf8), hp8⟩, ((hF5.up hf6).up hf7).up hf8⟩
end Go.Proofs.YtpbfmfhjgghldaaDoor
/- number: strconv.ParseInt at the digits of a token. -/
namespace Go.Proofs.YtpbfmfhjgghldaaDoor
open Go.RowKit Px

def val0 (a : Nat) (s : Str) : Nat := s.foldl (fun n c => n * 10 + (c.toNat - 48)) a
theorem parseM (l : Str) : ∀ (a : Nat), (∀ c ∈ l, 48 ≤ c.toNat ∧ c.toNat ≤ 57) → (a + 1) * 10 ^ l.length ≤ 10 ^ 18 → Lib.parseUintM (2 ^ 64 - 1) a l = .ok (val0 a l) ∧ val0 a l < 10 ^ 18 := by
  induction l with
  | nil => intro a _ h; exact ⟨rfl, by simp at h; show a < 10 ^ 18; omega⟩
  | cons c r ih =>
    intro a hd h
    obtain ⟨h1, h2⟩ := hd c (by simp)
    have hp : 0 < 10 ^ r.length := Nat.pow_pos (by decide)
    have e : (a + 1) * 10 ^ (c :: r).length = ((a + 1) * 10) * 10 ^ r.length := by rw [List.length_cons, Nat.pow_succ]; rw [Nat.mul_assoc, Nat.mul_comm (10 ^ r.length) 10]
    rw [e] at h
    have hle : (a * 10 + (c.toNat - 48) + 1) * 10 ^ r.length ≤ 10 ^ 18 := Nat.le_trans (Nat.mul_le_mul_right _ (by omega)) h
    have ha : (a + 1) * 10 ≤ 10 ^ 18 := Nat.le_trans (Nat.le_mul_of_pos_right _ hp) h
    have hb : a * 10 + (c.toNat - 48) + 1 ≤ 10 ^ 18 := Nat.le_trans (Nat.le_mul_of_pos_right _ hp) hle
    have := ih (a * 10 + (c.toNat - 48)) (fun x hx => hd x (by simp [hx])) hle
    rw [Lib.parseUintM, if_pos ⟨h1, h2⟩, if_neg (by omega), if_neg (by omega)]
    exact this
theorem parse_digits (l : Str) (hne : l ≠ []) (hd : ∀ c ∈ l, 48 ≤ c.toNat ∧ c.toNat ≤ 57) (hl : l.length ≤ 18) : Lib.parseIntB 64 l = .ok ((val l : Nat) : Int) ∧ val l < 10 ^ 18 := by
  have hp : (0 + 1) * 10 ^ l.length ≤ 10 ^ 18 := by rw [Nat.zero_add, Nat.one_mul]; exact Nat.pow_le_pow_right (by decide) hl
  obtain ⟨h1, h2⟩ := parseM l 0 hd hp
  refine ⟨?_, h2⟩
  cases l with
  | nil => exact absurd rfl hne
  | cons c r =>
    obtain ⟨h3, h4⟩ := hd c (by simp)
    have e : Lib.parseUintB 64 (c :: r) = .ok (val (c :: r)) := by rw [Lib.parseUintB, if_neg (by simp)]; exact h1
    have h2' : val (c :: r) < 10 ^ 18 := h2
    simp only [Lib.parseIntB]
    rw [if_neg (show ¬ (c.toNat = 43 ∨ c.toNat = 45) by omega), e]
    simp only
    rw [if_neg (by omega), if_neg (by omega), if_neg (by omega)]

section
variable {C : Ctx} {w : World} {i st ins und : Nat}
set_option maxRecDepth 100000 in
set_option maxHeartbeats 2000000 in
theorem number_any (w : World) (i st ins und : Nat) (h : PS C w i st ins und) : Calls Tryd.prog 44 #[.pointer (some ⟨C.rb, 0, none⟩)] w (Out C (fun (n : Nat) v w' => v = .int .i64 n ∧ n < 10 ^ 18 ∧ PS C w' (i + 1) st ins und) w (number C.L i)) := by
  obtain ⟨c0, c1, -⟩ := h.cells
  obtain ⟨t0, t1, t2⟩ := h.now
  obtain ⟨l1, l2⟩ := h.lts
  have hi0 : (0 : Int) ≤ (i : Int) := Int.natCast_nonneg _
  have hi1 : (i : Int) < (C.L.length : Int) := by have := h.lt; omega
  have h6 := h.wf.len
  obtain ⟨tb, htb⟩ : ∃ tb : ByteArray, Hid (tb = ⟨(tx C.L i).toArray⟩) := ⟨_, rfl⟩
  have hbs : Hid (tb.data.toList = tx C.L i) := by rw [Hid, htb.out]
  rw [sv, ← htb.out] at t1
  by_cases hk : kd C.L i = 2
  · have hk' : ((kd C.L i : Nat) : Int) = 2 := by omega
    rw [hk'] at t0
    have H : Hid (number C.L i = .ok (val (tx C.L i))) := if_pos hk
    have hlt := h.wf.nextk h.lt (by rw [hk]; decide)
    obtain ⟨n1, n2, n3⟩ := h.wf.num i hk
    obtain ⟨hv, hv2⟩ := parse_digits _ n3 n1 n2
    obtain ⟨m, hm⟩ : ∃ m, Hid (m = val (tx C.L i)) := ⟨_, rfl⟩
    have hts : tb.size ≤ 18 := by
      have := congrArg List.length hbs.out
      rw [← bs_len tb]
      exact Nat.le_trans (Nat.le_of_eq this) n2
    rw [← hm.out, ← hbs.out] at hv
    have hpi := fun w => Tryd.strconv_ParseInt_10_at64_ok tb (by omega) m hv w
    clear hv n1 n2 n3 hk hk'
    go_enter Tryd.func44, Tryd.ntmps44
    go_wp2
    go_region
    obtain ⟨hn, hfn⟩ := h.new (.cells #[.int .i64 2, .string tb, .int .i64 (pl C.L i)] 66)
    obtain ⟨e0, e1, e2⟩ := tok_block w (.int .i64 2) (.string tb) (.int .i64 (pl C.L i)) 66
    generalize (w.alloc (.cells #[.int .i64 2, .string tb, .int .i64 (pl C.L i)] 66)).drew = w1 at hn hfn e0 e1 e2 ⊢
    clear c0 c1 t0 t1 t2 e2
    go_wp2_with (go_at_call 52; refine (hpi _).mono ?_; rintro e w2 ⟨rfl, hw2⟩; have hb2 : Below w1.heap.size w1 w2 := (by (rcases hw2 with rfl | ⟨t, rfl⟩; exact Below.refl _ _; exact Lib.bytesWorld_below _ _ _)); clear hw2; have hf2 := Fr.of_below hb2 []; have hp2 := hn.same hf2; obtain ⟨-, d1, -⟩ := hp2.cells; have z1 := hp2.frozen 1)
    go_ret
    rw [H.out]
    have hset := hp2.step hlt
    exact ⟨_, rfl, ⟨by rw [← hm.out]; rfl, hv2, hset.1⟩, ((hfn.wide (X := [C.rb])).up hf2.wide).up hset.2⟩
  · have hk' : ¬ ((kd C.L i : Nat) : Int) = 2 := by omega
    have hk'' : (((kd C.L i : Nat) : Int) != 2) = true := by simpa using hk'
    have H : Hid (number C.L i = .error (3, pl C.L i)) := if_neg hk
    clear hk
    go_enter Tryd.func44, Tryd.ntmps44
    go_wp2
    go_region
    obtain ⟨hn, hfn⟩ := h.new (.cells #[.int .i64 (kd C.L i), .string tb, .int .i64 (pl C.L i)] 66)
    go_wp2_with (go_at_call 30; refine (throw_any hn 3).mono ?_; rintro e w2 ⟨q, rfl, ht⟩)
    rw [H.out]
    exact ⟨rfl, Thrown.up hfn.wide ⟨q, rfl, ht⟩⟩
end

theorem need_ok {L : List Lx.Tok} {s : Str} {i : Nat} {a : Unit} (h : Hid (need L s i = .ok a)) : tx L i = s := by
  have h := h.out
  rw [need] at h
  split at h
  · assumption
  · exact absurd h (by simp)
theorem need_bad {L : List Lx.Tok} {s : Str} {i : Nat} {f : F} (h : Hid (need L s i = .error f)) : tx L i ≠ s ∧ f = (3, pl L i) := by
  have h := h.out
  rw [need] at h
  split at h
  · exact absurd h (by simp)
  · injection h with h; exact ⟨by assumption, h.symm⟩
theorem no_take {L : List Lx.Tok} {i : Nat} {k : Str} {s : ByteArray} (h : tx L i ≠ k) (hs : bs s = k) : tx L i ≠ bs s := by rw [hs]; exact h

set_option maxRecDepth 100000 in
set_option maxHeartbeats 4000000 in
theorem one_pre {C : Ctx} {k : Nat} (w : World) (i st ins und : Nat) (hu : und + (k + 1) = 7) (h : PS C w i st ins und) (hc0 : codeAhead (tx C.L i) = 0) (hpar : tx C.L i ≠ kPar) (hpre : tx C.L i = kPre) : Calls Tryd.prog 92 #[.pointer (some ⟨C.rb, 0, none⟩)] w (Out C (OkE C w st ins und) w (one C.L (k + 1) i)) := by
  obtain ⟨-, -, -, -, c4⟩ := h.cells
  obtain ⟨tb, htb⟩ : ∃ tb : ByteArray, Hid (bs tb = tx C.L i) := ⟨⟨(tx C.L i).toArray⟩, rfl⟩
  have hcc : Hid (codeAhead (bs tb) = 0) := by rw [Hid, htb.out]; exact hc0
  have hb := fun w => bound_ok (C := C) (w := w) und 7 (by omega)
  have HO : Hid (one C.L (k + 1) i = if tx C.L (i + 1) = kPar then (match nm C.L (i + 2) with | .error x => .error x | .ok s => if tx C.L (i + 3) = kRap then .ok (eName 3 s, i + 4) else .error (3, pl C.L (i + 3))) else .error (3, pl C.L (i + 1))) := by
    rw [Hid, one, if_neg (by simp [hc0]), if_neg hpar, if_pos hpre]
    split
    · cases nm C.L (i + 2) <;> rfl
    · rfl
  have HP : Hid (tx C.L i ≠ bs ⟨#[40]⟩) := hpar
  have HQ : Hid (tx C.L i = bs ⟨#[112, 114, 101]⟩) := hpre
  clear hc0 hpar hpre
  have T1 : Hid True := trivial
  have T2 : Hid True := trivial
  go_enter Tryd.func92, Tryd.ntmps92
  go_wp2_with (first
    | (go_at_call 26; refine (hb _).mono ?_; rintro e w' ⟨rfl, hw⟩; obtain rfl := hw.symm)
    | (go_at_call 25; refine (text_is h tb htb).mono ?_; rintro e w2 ⟨rfl, hp2, hf2⟩)
    | (go_at_call 94; refine (codeAhead_is hp2 tb 0 hcc).mono ?_; rintro e w3 ⟨rfl, hp3, hf3⟩)
    | (go_at_call 28; clear T1; refine (take_no hp3 ⟨#[40]⟩ HP.out).mono ?_; rintro e w4 ⟨rfl, hp4, hf4⟩)
    | (go_at_call 28; refine (take_yes hp4 ⟨#[112, 114, 101]⟩ HQ.out (by decide)).mono ?_; rintro e w5 ⟨rfl, hp5, hf5⟩; have hF5 := (((hf2.wide (X := [C.rb])).up hf3.wide).up hf4.wide).up hf5)
    | (go_at_call 20; clear T2; refine (need_any hp5 ⟨#[40]⟩ kPar rfl (by decide)).mono ?_; rintro e w6 h6; rcases h6.cases with ⟨f, hr6, q, rfl, hq⟩ | ⟨_, v6, hr6, rfl, ⟨rfl, hp6⟩, hf6⟩; (· exact ⟨rfl, by rw [HO.out, if_neg (need_bad hr6).1, ← (need_bad hr6).2]; exact Thrown.up hF5 ⟨q, rfl, hq⟩⟩))
    | (go_at_call 21; refine (name_any hp6).mono ?_; rintro e w7 h7; rcases h7.cases with ⟨f, hr7, q, rfl, hq⟩ | ⟨s7, v7, hr7, rfl, ⟨rfl, hp7⟩, hf7⟩; (· exact ⟨rfl, by rw [HO.out, if_pos (need_ok hr6), hr7.out]; exact Thrown.up (hF5.up hf6) ⟨q, rfl, hq⟩⟩); rw [sv]; obtain ⟨hp8, hf8⟩ := hp7.alloc (.cells #[.int .i64 3, .int .i64 0, .string ⟨s7.toArray⟩, .pointer none, .pointer none] 121))
    | (go_at_call 20; refine (need_any hp8 ⟨#[41]⟩ kRap rfl (by decide)).mono ?_; rintro e w9 h9; rcases h9.cases with ⟨f, hr9, q, rfl, hq⟩ | ⟨_, v9, hr9, rfl, ⟨rfl, hp9⟩, hf9⟩; (· exact ⟨rfl, by rw [HO.out, if_pos (need_ok hr6), hr7.out]; simp only; rw [if_neg (need_bad hr9).1, ← (need_bad hr9).2]; exact Thrown.up (((hF5.up hf6).up hf7).up hf8) ⟨q, rfl, hq⟩⟩)))
  go_ret
  rw [HO.out, if_pos (need_ok hr6), hr7.out]
  simp only
  rw [if_pos (need_ok hr9)]
  have hv : IsE (Ge w.heap.size) _ (eName 3 s7) (.pointer (some ⟨w7.heap.size, 0, none⟩)) := isE_leaf rfl ((hF5.up hf6).up hf7).size rfl
  exact ⟨_, rfl, ⟨hv.carry (keepGe h.lts.1 hf9), hp9⟩, (((hF5.up hf6).up hf7).up hf8).up hf9⟩

set_option maxRecDepth 100000 in
set_option maxHeartbeats 4000000 in
theorem one_num {C : Ctx} {k : Nat} (w : World) (i st ins und : Nat) (hu : und + (k + 1) = 7) (h : PS C w i st ins und) (hc0 : codeAhead (tx C.L i) = 0) (hpar : tx C.L i ≠ kPar) (hpre : tx C.L i ≠ kPre) (hk : kd C.L i = 2) : Calls Tryd.prog 92 #[.pointer (some ⟨C.rb, 0, none⟩)] w (Out C (OkE C w st ins und) w (one C.L (k + 1) i)) := by
  obtain ⟨-, -, -, -, c4⟩ := h.cells
  obtain ⟨tb, htb⟩ : ∃ tb : ByteArray, Hid (bs tb = tx C.L i) := ⟨⟨(tx C.L i).toArray⟩, rfl⟩
  have hcc : Hid (codeAhead (bs tb) = 0) := by rw [Hid, htb.out]; exact hc0
  have hb := fun w => bound_ok (C := C) (w := w) und 7 (by omega)
  have HO : Hid (one C.L (k + 1) i = .ok (eNum (val (tx C.L i)), i + 1)) := by
    rw [Hid, one, if_neg (by simp [hc0]), if_neg hpar, if_neg hpre, if_pos hk]
  have HN : Hid (number C.L i = .ok (val (tx C.L i))) := if_pos hk
  have HK : Hid (kd C.L i = 2) := hk
  have HP : Hid (tx C.L i ≠ bs ⟨#[40]⟩) := hpar
  have HQ : Hid (tx C.L i ≠ bs ⟨#[112, 114, 101]⟩) := hpre
  have hi0 : (0 : Int) ≤ (i : Int) := Int.natCast_nonneg _
  have hi1 : (i : Int) < (C.L.length : Int) := by have := h.lt; omega
  clear hc0 hpar hpre hk
  have T1 : Hid True := trivial
  go_enter Tryd.func92, Tryd.ntmps92
  go_wp2_with (first
    | (go_at_call 26; refine (hb _).mono ?_; rintro e w' ⟨rfl, hw⟩; obtain rfl := hw.symm)
    | (go_at_call 25; refine (text_is h tb htb).mono ?_; rintro e w2 ⟨rfl, hp2, hf2⟩)
    | (go_at_call 94; refine (codeAhead_is hp2 tb 0 hcc).mono ?_; rintro e w3 ⟨rfl, hp3, hf3⟩)
    | (go_at_call 28; clear T1; refine (take_no hp3 ⟨#[40]⟩ HP.out).mono ?_; rintro e w4 ⟨rfl, hp4, hf4⟩)
    | (go_at_call 28; refine (take_no hp4 ⟨#[112, 114, 101]⟩ HQ.out).mono ?_; rintro e w5 ⟨rfl, hp5, hf5⟩; obtain ⟨d0, d1, -⟩ := hp5.cells; obtain ⟨t0, -, -⟩ := hp5.now; rw [HK.out] at t0))
  go_quiet (fail)
  have hf6 := (Fr.refl w5.heap.size [] w5).drewN nq
  have hp6 := hp5.same hf6
  go_wp2_with (go_at_call 44; refine (number_any _ i st ins und hp6).mono ?_; rintro e w7 h7; rw [HN.out] at h7; obtain ⟨v7, rfl, ⟨rfl, -, hp7⟩, hf7⟩ := h7)
  go_ret
  rw [HO.out]
  obtain ⟨hp8, hf8⟩ := hp7.alloc (.cells #[.int .i64 1, .int .i64 (val (tx C.L i)), .string ⟨#[]⟩, .pointer none, .pointer none] 121)
  have hF := ((((hf2.wide (X := [C.rb])).up hf3.wide).up hf4.wide).up hf5.wide).up hf6.wide
  exact ⟨_, rfl, ⟨isE_leaf rfl (hF.up hf7).size rfl, hp8⟩, (hF.up hf7).up hf8⟩

set_option maxRecDepth 100000 in
set_option maxHeartbeats 4000000 in
theorem one_name {C : Ctx} {k : Nat} (w : World) (i st ins und : Nat) (hu : und + (k + 1) = 7) (h : PS C w i st ins und) (hc0 : codeAhead (tx C.L i) = 0) (hpar : tx C.L i ≠ kPar) (hpre : tx C.L i ≠ kPre) (hk : kd C.L i ≠ 2) : Calls Tryd.prog 92 #[.pointer (some ⟨C.rb, 0, none⟩)] w (Out C (OkE C w st ins und) w (one C.L (k + 1) i)) := by
  obtain ⟨-, -, -, -, c4⟩ := h.cells
  obtain ⟨tb, htb⟩ : ∃ tb : ByteArray, Hid (bs tb = tx C.L i) := ⟨⟨(tx C.L i).toArray⟩, rfl⟩
  have hcc : Hid (codeAhead (bs tb) = 0) := by rw [Hid, htb.out]; exact hc0
  have hb := fun w => bound_ok (C := C) (w := w) und 7 (by omega)
  have HE : ∀ f, Hid (nm C.L i = .error f) → Hid (one C.L (k + 1) i = .error f) := fun f hr => by rw [Hid, one, if_neg (by simp [hc0]), if_neg hpar, if_neg hpre, if_neg hk, hr.out]
  have HO : ∀ s, Hid (nm C.L i = .ok s) → Hid (one C.L (k + 1) i = .ok (eName 2 s, i + 1)) := fun s hr => by rw [Hid, one, if_neg (by simp [hc0]), if_neg hpar, if_neg hpre, if_neg hk, hr.out]
  have hk1 : ¬ ((kd C.L i : Nat) : Int) = 2 := by omega
  have hk2 : (((kd C.L i : Nat) : Int) == 2) = false := by simpa using hk1
  have HP : Hid (tx C.L i ≠ bs ⟨#[40]⟩) := hpar
  have HQ : Hid (tx C.L i ≠ bs ⟨#[112, 114, 101]⟩) := hpre
  have hi0 : (0 : Int) ≤ (i : Int) := Int.natCast_nonneg _
  have hi1 : (i : Int) < (C.L.length : Int) := by have := h.lt; omega
  clear hc0 hpar hpre hk
  have T1 : Hid True := trivial
  go_enter Tryd.func92, Tryd.ntmps92
  go_wp2_with (first
    | (go_at_call 26; refine (hb _).mono ?_; rintro e w' ⟨rfl, hw⟩; obtain rfl := hw.symm)
    | (go_at_call 25; refine (text_is h tb htb).mono ?_; rintro e w2 ⟨rfl, hp2, hf2⟩)
    | (go_at_call 94; refine (codeAhead_is hp2 tb 0 hcc).mono ?_; rintro e w3 ⟨rfl, hp3, hf3⟩)
    | (go_at_call 28; clear T1; refine (take_no hp3 ⟨#[40]⟩ HP.out).mono ?_; rintro e w4 ⟨rfl, hp4, hf4⟩)
    | (go_at_call 28; refine (take_no hp4 ⟨#[112, 114, 101]⟩ HQ.out).mono ?_; rintro e w5 ⟨rfl, hp5, hf5⟩; obtain ⟨d0, d1, -⟩ := hp5.cells; obtain ⟨t0, -, -⟩ := hp5.now))
  go_quiet (fail)
  have hf6 := (Fr.refl w5.heap.size [] w5).drewN nq
  have hp6 := hp5.same hf6
  have hF := ((((hf2.wide (X := [C.rb])).up hf3.wide).up hf4.wide).up hf5.wide).up hf6.wide
  go_wp2_with (go_at_call 21; refine (name_any hp6).mono ?_; rintro e w7 h7; rcases h7.cases with ⟨f, hr7, q, rfl, hq⟩ | ⟨s7, v7, hr7, rfl, ⟨rfl, hp7⟩, hf7⟩; (· exact ⟨rfl, by rw [(HE _ hr7).out]; exact Thrown.up hF ⟨q, rfl, hq⟩⟩); rw [sv])
  go_ret
  rw [(HO _ hr7).out]
  obtain ⟨hp8, hf8⟩ := hp7.alloc (.cells #[.int .i64 2, .int .i64 0, .string ⟨s7.toArray⟩, .pointer none, .pointer none] 121)
  exact ⟨_, rfl, ⟨isE_leaf rfl (hF.up hf7).size rfl, hp8⟩, (hF.up hf7).up hf8⟩

theorem one_succ {C : Ctx} {k : Nat} (ho : One C k) (hch : Chain C k 5) : One C (k + 1) := by
  intro w i st ins und hu h
  by_cases hc0 : codeAhead (tx C.L i) = 0
  · by_cases hpar : tx C.L i = kPar
    · exact one_par hch w i st ins und hu h hc0 hpar
    · by_cases hpre : tx C.L i = kPre
      · exact one_pre w i st ins und hu h hc0 hpar hpre
      · by_cases hk : kd C.L i = 2
        · exact one_num w i st ins und hu h hc0 hpar hpre hk
        · exact one_name w i st ins und hu h hc0 hpar hpre hk
  · exact one_ahead ho w i st ins und hu h hc0
theorem chain_all {C : Ctx} {k : Nat} (ho : One C k) : ∀ t, t ≤ 5 → Chain C k t := by
  intro t
  induction t with
  | zero => intro _; exact chain_zero ho
  | succ t ih => intro ht; exact chain_succ (by omega) (ih (by omega))
theorem one_all {C : Ctx} : ∀ k, One C k := by
  intro k
  induction k with
  | zero => exact one_zero
  | succ k ih => exact one_succ ih (chain_all ih 5 (Nat.le_refl _))
/-- an E -/
theorem expr_any {C : Ctx} {w : World} {i st ins : Nat} (h : PS C w i st ins 0) : Calls Tryd.prog 67 #[.pointer (some ⟨C.rb, 0, none⟩)] w (Out C (OkE C w st ins 0) w (expr C.L i)) :=
  loosest_of (chain_all (one_all 7) 5 (Nat.le_refl _)) w i st ins 0 (by omega) h
end Go.Proofs.YtpbfmfhjgghldaaDoor
/- The document's own reader: keep, name, number. -/
namespace Go.Proofs.YtpbfmfhjgghldaaDoor
open Go.RowKit Px

theorem keeps_at (k : Nat) (hk : k < 21) : ∃ mb : ByteArray, Hid (bs mb = words.getD k []) ∧ ∀ w : World, (Instr.index 83 (.agg #[.string ⟨#[97, 98, 111, 114, 116]⟩, .string ⟨#[99, 104, 97, 114, 116]⟩, .string ⟨#[99, 111, 117, 110, 116]⟩, .string ⟨#[100, 111]⟩, .string ⟨#[100, 117, 114, 105, 110, 103]⟩, .string ⟨#[101, 110, 116, 114, 121]⟩, .string ⟨#[101, 120, 105, 116]⟩, .string ⟨#[102, 105, 110, 97, 108]⟩, .string ⟨#[103, 111]⟩, .string ⟨#[104, 105, 115, 116, 111, 114, 121]⟩, .string ⟨#[105, 109, 109, 101, 100, 105, 97, 116, 101]⟩, .string ⟨#[105, 102]⟩, .string ⟨#[105, 110, 105, 116, 105, 97, 108]⟩, .string ⟨#[105, 110, 112, 117, 116]⟩, .string ⟨#[106, 111, 105, 110]⟩, .string ⟨#[111, 117, 116, 112, 117, 116]⟩, .string ⟨#[112, 114, 101]⟩, .string ⟨#[114, 101, 103, 105, 111, 110]⟩, .string ⟨#[115, 116, 97, 116, 101]⟩, .string ⟨#[115, 117, 115, 112, 101, 110, 100]⟩, .string ⟨#[118, 97, 114]⟩]) (.int .i64 k)).run Tryd.prog w = .ok (.string mb) w :=
  ⟨⟨(words.getD k []).toArray⟩, rfl, fun w => index_words k hk w⟩
section
variable {C : Ctx} {w : World}
theorem tok_blk (w : World) (a b c : Value) (t : TypeId) : (w.alloc (.cells #[a, b, c] t)).heap[w.heap.size]? = some (.cells #[a, b, c] t (0, 0)) := heap_alloc_new w _
theorem cells3 {w : World} {b : Nat} {a0 a1 a2 : Value} {t : TypeId} (h : w.heap[b]? = some (.cells #[a0, a1, a2] t (0, 0))) :
    w.cell? ⟨b, 0, none⟩ = some a0 ∧ w.cell? ⟨b, 1, none⟩ = some a1 ∧ w.cell? ⟨b, 2, none⟩ = some a2 := by
  refine ⟨?_, ?_, ?_⟩ <;> (rw [cell_of_row _ _ _ _ _ _ h]; rfl)
theorem nm_cases (L : List Lx.Tok) (i : Nat) : (kd L i ≠ 1 ∨ kw (tx L i) = true) ∧ nm L i = .error (3, pl L i) ∨ kd L i = 1 ∧ kw (tx L i) = false ∧ 12 < (tx L i).length ∧ nm L i = .error (4, pl L i) ∨ kd L i = 1 ∧ kw (tx L i) = false ∧ (tx L i).length ≤ 12 ∧ nm L i = .ok (tx L i) := by
  by_cases h1 : kd L i ≠ 1 ∨ kw (tx L i) = true
  · exact .inl ⟨h1, by rw [nm, if_pos h1]⟩
  · have h2 : kd L i = 1 := by
      by_cases e : kd L i = 1
      · exact e
      · exact absurd (.inl e) h1
    have h3 : kw (tx L i) = false := by
      cases e : kw (tx L i) with
      | false => rfl
      | true => exact absurd (.inr e) h1
    by_cases h4 : 12 < (tx L i).length
    · exact .inr (.inl ⟨h2, h3, h4, by rw [nm, if_neg h1, if_pos h4]⟩)
    · exact .inr (.inr ⟨h2, h3, by omega, by rw [nm, if_neg h1, if_neg h4]⟩)
end
end Go.Proofs.YtpbfmfhjgghldaaDoor
/- The document's own reader: number. -/
namespace Go.Proofs.YtpbfmfhjgghldaaDoor
open Go.RowKit Px

theorem val_snoc (l : Str) (c : UInt8) : val (l ++ [c]) = val l * 10 + (c.toNat - 48) := by simp [val, List.foldl_append]
theorem val_lt (l : Str) (hd : ∀ c ∈ l, 48 ≤ c.toNat ∧ c.toNat ≤ 57) : ∀ k, k ≤ l.length → val (l.take k) < 10 ^ k := by
  intro k
  induction k with
  | zero => intro _; simp [val]
  | succ k ih =>
    intro hk
    have h1 := ih (by omega)
    have hlt : k < l.length := by omega
    rw [List.take_succ_eq_append_getElem hlt, val_snoc]
    have h2 := hd l[k] (List.getElem_mem hlt)
    have : 10 ^ (k + 1) = 10 ^ k * 10 := Nat.pow_succ ..
    omega
theorem wrap_in (n : Int) (h0 : 0 ≤ n) (h1 : n ≤ 9223372036854775807) : wrap64 n = n := by unfold wrap64; omega
theorem num_step (x y : Nat) (hx : x < 100000000000000000) (h1 : 48 ≤ y) (h2 : y ≤ 57) : wrap64 (wrap64 ((x : Nat) * 10) + ((y : Int) - 48) % 256) = ((x * 10 + (y - 48) : Nat) : Int) := by
  have e1 : ((y : Int) - 48) % 256 = (y : Int) - 48 := Int.emod_eq_of_lt (by omega) (by omega)
  have e2 : wrap64 ((x : Nat) * 10) = (x : Int) * 10 := wrap_in _ (by omega) (by omega)
  rw [e1, e2, wrap_in _ (by omega) (by omega)]
  omega
section
variable {C : Ctx} {w : World}
end
end Go.Proofs.YtpbfmfhjgghldaaDoor
/- The document's own reader: chain. -/
namespace Go.Proofs.YtpbfmfhjgghldaaDoor
open Go.RowKit Px

theorem Px.Sim.lt {α : Type} {g : Nat → Except F (α × Nat)} {R : S → α × S} (h : Sim g R) (hl : ∀ i a j, g i = .ok (a, j) → i < j) {σ : S} (hb : (R σ).2.bad = none) : σ.i < (R σ).2.i := by
  obtain ⟨i, st, b⟩ := σ
  cases b with
  | some f => rw [h.dead] at hb; exact absurd hb (by simp)
  | none =>
    cases hg : g i with
    | error f => rw [h.err _ _ _ hg] at hb; exact absurd hb (by simp)
    | ok p => obtain ⟨a, j⟩ := p; rw [h.ok _ _ _ _ hg]; exact hl _ _ _ hg
theorem codeIn_no {sg : List (Str × Nat)} {s : Str} : (∀ p, p < sg.length → (sg.getD p ([], 0)).1 ≠ s) → codeIn sg s = 0 := by
  induction sg with
  | nil => intro _; rfl
  | cons q r ih =>
    intro h
    obtain ⟨t, c⟩ := q
    rw [codeIn, if_neg (by have := h 0 (by simp); simpa using this)]
    exact ih (fun p hp => by have := h (p + 1) (by simp; omega); simpa using this)
theorem codeIn_at {sg : List (Str × Nat)} {s : Str} : ∀ {p : Nat}, p < sg.length → (∀ q, q < p → (sg.getD q ([], 0)).1 ≠ s) → (sg.getD p ([], 0)).1 = s → codeIn sg s = (sg.getD p ([], 0)).2 := by
  induction sg with
  | nil => intro p hp; simp at hp
  | cons q r ih =>
    intro p hp h1 h2
    obtain ⟨t, c⟩ := q
    cases p with
    | zero => rw [codeIn, if_pos (by simpa using h2)]; simp
    | succ p =>
      rw [codeIn, if_neg (by have := h1 0 (by omega); simpa using this)]
      have := ih (p := p) (by simpa using hp) (fun q hq => by have := h1 (q + 1) (by omega); simpa using this) (by simpa using h2)
      rw [this]; simp
/-- signs and their codes, in memory -/
structure Signs (C : Ctx) (w : World) (sb cb : Nat) (sg : List (Str × Nat)) : Prop where
  at_ : ∀ j p, sg[j]? = some p → w.cell? ⟨sb, j, none⟩ = some (sv p.1) ∧ w.cell? ⟨cb, j, none⟩ = some (.int .i64 p.2)
  ls : sb < w.heap.size
  lc : cb < w.heap.size
  ns : sb ≠ C.rb
  nc : cb ≠ C.rb
theorem Signs.carry {C : Ctx} {w w' : World} {sb cb : Nat} {sg : List (Str × Nat)} (h : Signs C w sb cb sg) (hf : Fr w.heap.size [C.rb] w w') : Signs C w' sb cb sg :=
  ⟨fun j p hj => by rw [hf.cell (p := ⟨sb, j, none⟩) h.ls (by simp; exact h.ns), hf.cell (p := ⟨cb, j, none⟩) h.lc (by simp; exact h.nc)]; exact h.at_ j p hj, Nat.lt_of_lt_of_le h.ls hf.size, Nat.lt_of_lt_of_le h.lc hf.size, h.ns, h.nc⟩
theorem getD_get {α : Type} {l : List α} {j : Nat} (d : α) (h : j < l.length) : l[j]? = some (l.getD j d) := by
  rw [List.getD_eq_getElem?_getD, List.getElem?_eq_getElem h]; rfl

end Go.Proofs.YtpbfmfhjgghldaaDoor
/- The document's own reader: chain around the function of another line of the grammar. -/
namespace Go.Proofs.YtpbfmfhjgghldaaDoor
open Go.RowKit Px

end Go.Proofs.YtpbfmfhjgghldaaDoor
/- The document's own reader: chain around the function of another line of the grammar. -/
namespace Go.Proofs.YtpbfmfhjgghldaaDoor
open Go.RowKit Px

end Go.Proofs.YtpbfmfhjgghldaaDoor
/- The document's own reader: chain around the function of another line of the grammar. -/
namespace Go.Proofs.YtpbfmfhjgghldaaDoor
open Go.RowKit Px

end Go.Proofs.YtpbfmfhjgghldaaDoor
/- The document's own reader: chain around the function of another line of the grammar. -/
namespace Go.Proofs.YtpbfmfhjgghldaaDoor
open Go.RowKit Px

end Go.Proofs.YtpbfmfhjgghldaaDoor
