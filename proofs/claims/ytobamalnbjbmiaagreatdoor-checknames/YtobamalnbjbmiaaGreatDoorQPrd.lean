/- The reader of package parse: text, throw, bound, take, need, name. -/
import Derived.Test.YtobamalnbjbmiaaGreatDoorQTabs
import Derived.Deep.QuietTactic
import Derived.BigQuiet
import Derived.StillTailTactics
namespace Go.Proofs.YtobamalnbjbmiaaGreatDoor
open Go.RowKit Px

/-- where the reader lies, and the tokens -/
structure Ctx where
  rb : Nat
  g : Nat
  cap : Nat
  L : List Lx.Tok
/-- what is known of a list of tokens -/
structure Wf (L : List Lx.Tok) : Prop where
  pos : 0 < L.length
  len : L.length ≤ 601
  endk : kd L (L.length - 1) = 4
  endt : tx L (L.length - 1) = []
  num : ∀ k, kd L k = 2 → (∀ c ∈ tx L k, 48 ≤ c.toNat ∧ c.toNat ≤ 57) ∧ (tx L k).length ≤ 18 ∧ tx L k ≠ []
theorem Wf.next {L : List Lx.Tok} (h : Wf L) {i : Nat} (hi : i < L.length) (ht : tx L i ≠ []) : i + 1 < L.length := by
  rcases Nat.lt_or_ge (i + 1) L.length with h' | h'
  · exact h'
  · have : i = L.length - 1 := by omega
    rw [this] at ht; exact absurd h.endt ht
theorem Wf.nextk {L : List Lx.Tok} (h : Wf L) {i : Nat} (hi : i < L.length) (ht : kd L i ≠ 4) : i + 1 < L.length := by
  rcases Nat.lt_or_ge (i + 1) L.length with h' | h'
  · exact h'
  · have : i = L.length - 1 := by omega
    rw [this] at ht; exact absurd h.endk ht
def rdC (C : Ctx) (i st ins und : Nat) : Obj := .cells #[.slice (some ⟨C.g, 0, none⟩) C.L.length C.cap, .int .i64 i, .int .i64 st, .int .i64 ins, .int .i64 und] 90 (0, 0)
structure PS (C : Ctx) (w : World) (i st ins und : Nat) : Prop where
  rd : w.heap[C.rb]? = some (rdC C i st ins und)
  tk : ∀ k t, C.L[k]? = some t → w.cell? ⟨C.g, k * 3, none⟩ = some (.int .i64 t.kind) ∧ w.cell? ⟨C.g, k * 3 + 1, none⟩ = some (sv t.text) ∧ w.cell? ⟨C.g, k * 3 + 2, none⟩ = some (.int .i64 t.place)
  tab : Tabs w
  lt : i < C.L.length
  wf : Wf C.L
  gr : C.g < C.rb
  hi : 13 < C.g
theorem PS.keep {C : Ctx} {w w' : World} {i st ins und i' st' ins' und' : Nat} (h : PS C w i st ins und) (hf : Fr w.heap.size [C.rb] w w') (hr : w'.heap[C.rb]? = some (rdC C i' st' ins' und')) (hlt : i' < C.L.length) : PS C w' i' st' ins' und' := by
  have hrl := lt_of_block h.rd
  have hgl : C.g < w.heap.size := Nat.lt_trans h.gr hrl
  have hg : w'.heap[C.g]? = w.heap[C.g]? := hf.block _ hgl (by simp; exact Nat.ne_of_lt h.gr)
  refine ⟨hr, fun k t hk => ?_, h.tab.keep (fun b hb => hf.block b (by have := h.hi; omega) (by have := h.hi; have := h.gr; simp; omega)), hlt, h.wf, h.gr, h.hi⟩
  have := h.tk k t hk
  rw [World.cell?_of_block (w := w) (a := ⟨C.g, k * 3, none⟩) hg, World.cell?_of_block (w := w) (a := ⟨C.g, k * 3 + 1, none⟩) hg, World.cell?_of_block (w := w) (a := ⟨C.g, k * 3 + 2, none⟩) hg]
  exact this
theorem PS.same {C : Ctx} {w w' : World} {i st ins und : Nat} (h : PS C w i st ins und) (hf : Fr w.heap.size [] w w') : PS C w' i st ins und :=
  h.keep (hf.mono (Nat.le_refl _) (by simp)) (by rw [hf.block _ (lt_of_block h.rd) (by simp)]; exact h.rd) h.lt
theorem PS.cells {C : Ctx} {w : World} {i st ins und : Nat} (h : PS C w i st ins und) :
    w.cell? ⟨C.rb, 0, none⟩ = some (.slice (some ⟨C.g, 0, none⟩) C.L.length C.cap) ∧ w.cell? ⟨C.rb, 1, none⟩ = some (.int .i64 i) ∧ w.cell? ⟨C.rb, 2, none⟩ = some (.int .i64 st) ∧ w.cell? ⟨C.rb, 3, none⟩ = some (.int .i64 ins) ∧ w.cell? ⟨C.rb, 4, none⟩ = some (.int .i64 und) := by
  have := h.rd
  refine ⟨?_, ?_, ?_, ?_, ?_⟩ <;> (rw [cell_of_row _ _ _ _ _ _ h.rd]; rfl)
theorem PS.frozen {C : Ctx} {w : World} {i st ins und : Nat} (h : PS C w i st ins und) (o : Nat) : w.frozen? ⟨C.rb, o, none⟩ = false := by
  simp [World.frozen?, h.rd, rdC]
theorem tok_get {L : List Lx.Tok} {i : Nat} (h : i < L.length) : L[i]? = some (tok L i) := by
  rw [tok, List.getD_eq_getElem?_getD, List.getElem?_eq_getElem h]; rfl
theorem PS.now {C : Ctx} {w : World} {i st ins und : Nat} (h : PS C w i st ins und) :
    w.cell? ⟨C.g, i * 3, none⟩ = some (.int .i64 (kd C.L i)) ∧ w.cell? ⟨C.g, i * 3 + 1, none⟩ = some (sv (tx C.L i)) ∧ w.cell? ⟨C.g, i * 3 + 2, none⟩ = some (.int .i64 (pl C.L i)) := h.tk i _ (tok_get h.lt)
/-- a field of the reader is set -/
theorem PS.set {C : Ctx} {w : World} {i st ins und : Nat} (h : PS C w i st ins und) (o : Nat) (v : Value) {i' st' ins' und' : Nat} (he : (#[.slice (some ⟨C.g, 0, none⟩) C.L.length C.cap, .int .i64 i, .int .i64 st, .int .i64 ins, .int .i64 und] : Array Value).setIfInBounds o v = #[.slice (some ⟨C.g, 0, none⟩) C.L.length C.cap, .int .i64 i', .int .i64 st', .int .i64 ins', .int .i64 und']) (hlt : i' < C.L.length) :
    PS C (w.setCell ⟨C.rb, o, none⟩ v) i' st' ins' und' ∧ Fr w.heap.size [C.rb] w (w.setCell ⟨C.rb, o, none⟩ v) := by
  have hf : Fr w.heap.size [C.rb] w (w.setCell ⟨C.rb, o, none⟩ v) := (Fr.refl _ _ _).setCell (.inr (by simp)) v
  refine ⟨h.keep hf ?_ hlt, hf⟩
  rw [heap_setCell_same w C.rb o _ 90 _ h.rd, he]; rfl

/-- thrown: what is wrong, and where -/
def Thrown (C : Ctx) (w : World) (f : F) (e : Ending) (w' : World) : Prop :=
  ∃ q, e = .panicked [{ v := .iface 87 (.pointer (some ⟨q, 0, none⟩)), recovered := false }] ∧ w'.heap[q]? = some (.cells #[.int .i64 f.1, .int .i64 f.2] 94 (0, 0)) ∧ w.heap.size ≤ q ∧ Fr w.heap.size [C.rb] w w'
theorem Thrown.up {C : Ctx} {w w1 w' : World} {f : F} {e : Ending} (hf : Fr w.heap.size [C.rb] w w1) (h : Thrown C w1 f e w') : Thrown C w f e w' := by
  obtain ⟨q, h1, h2, h3, h4⟩ := h
  exact ⟨q, h1, h2, Nat.le_trans hf.size h3, hf.trans (h4.mono hf.size (by simp))⟩
/-- what a call comes to: as the document's grammar has it -/
def Out (C : Ctx) {α : Type} (ok : α → Value → World → Prop) (w : World) (r : Except F α) (e : Ending) (w' : World) : Prop :=
  match r with
  | .error f => Thrown C w f e w'
  | .ok a => ∃ v, e = .returned v ∧ ok a v w' ∧ Fr w.heap.size [C.rb] w w'
theorem Fr.up {X : List Nat} {w w1 w2 : World} (h : Fr w.heap.size X w w1) (k : Fr w1.heap.size X w1 w2) : Fr w.heap.size X w w2 := h.trans (k.mono h.size (fun _ hx _ => hx))

section
variable {C : Ctx} {w : World} {i st ins und : Nat}

set_option maxRecDepth 100000 in
set_option maxHeartbeats 1000000 in
theorem text_any (h : PS C w i st ins und) : Calls Tryz.prog 86 #[.pointer (some ⟨C.rb, 0, none⟩)] w fun e w' => e = .returned (sv (tx C.L i)) ∧ PS C w' i st ins und ∧ Fr w.heap.size [] w w' := by
  obtain ⟨c0, c1, -⟩ := h.cells
  obtain ⟨-, t1, -⟩ := h.now
  have H : Hid (PS C w i st ins und) := h
  have hi0 : (0 : Int) ≤ (i : Int) := Int.natCast_nonneg _
  have hi1 : (i : Int) < (C.L.length : Int) := by have := h.lt; omega
  clear h
  go_enter Tryz.func86, Tryz.ntmps86
  go_wp2
  go_quiet (fail)
  go_wp2
  go_ret
  have hf := (Fr.refl w.heap.size [] w).drewN nq
  exact ⟨rfl, H.out.same hf, hf⟩

set_option maxRecDepth 100000 in
set_option maxHeartbeats 1000000 in
theorem throw_any (h : PS C w i st ins und) (e : Nat) : Calls Tryz.prog 91 #[.pointer (some ⟨C.rb, 0, none⟩), .int .i64 e] w fun en w' => Thrown C w (e, pl C.L i) en w' := by
  obtain ⟨c0, c1, -⟩ := h.cells
  obtain ⟨-, -, t2⟩ := h.now
  have hi0 : (0 : Int) ≤ (i : Int) := Int.natCast_nonneg _
  have hi1 : (i : Int) < (C.L.length : Int) := by have := h.lt; omega
  have hp : ∀ (v : Value) (w : World), (Instr.panic (.iface 87 v)).run Tryz.prog w = .halt (.panic (.iface 87 v)) w := fun _ _ => rfl
  clear h
  go_enter Tryz.func91, Tryz.ntmps91
  go_wp2
  go_still_tail 13, (by kernel_rfl)
  go_wp2
  exact ⟨rfl, _, rfl, heap_alloc_new w _, Nat.le_refl _, ((Fr.refl _ _ _).alloc (Nat.le_refl _) _).drew⟩

theorem bound_ok (many most : Nat) (hm : many < most) : Calls Tryz.prog 87 #[.pointer (some ⟨C.rb, 0, none⟩), .int .i64 many, .int .i64 most] w fun e w' => e = .returned (.tuple #[]) ∧ w' = w := by
  have h1 : ¬ (most : Int) ≤ (many : Int) := by omega
  go_enter Tryz.func87, Tryz.ntmps87
  go_wp2
  go_end0
  exact ⟨rfl, rfl⟩
set_option maxHeartbeats 400000 in
theorem bound_bad (h : PS C w i st ins und) (many most : Nat) (hm : most ≤ many) : Calls Tryz.prog 87 #[.pointer (some ⟨C.rb, 0, none⟩), .int .i64 many, .int .i64 most] w fun e w' => Thrown C w (4, pl C.L i) e w' := by
  have h1 : (most : Int) ≤ (many : Int) := by omega
  go_enter Tryz.func87, Tryz.ntmps87
  go_wp2_with (go_at_call 91; refine (throw_any h 4).mono ?_; rintro e w' ⟨q, rfl, ht⟩)
  exact ⟨rfl, q, rfl, ht⟩

set_option maxRecDepth 100000 in
set_option maxHeartbeats 1000000 in
theorem take_yes (h : PS C w i st ins und) (s : ByteArray) (hs : tx C.L i = bs s) (hne : bs s ≠ []) : Calls Tryz.prog 89 #[.pointer (some ⟨C.rb, 0, none⟩), .string s] w fun e w' => e = .returned (.bool true) ∧ PS C w' (i + 1) st ins und ∧ Fr w.heap.size [C.rb] w w' := by
  have hlt := h.wf.next h.lt (by rw [hs]; exact hne)
  have h6 := h.wf.len
  have heq : (tx C.L i == s.toList) = true := by
    rw [ByteArray.toList_eq]; exact beq_iff_eq.2 hs
  clear hs hne
  go_enter Tryz.func89, Tryz.ntmps89
  go_wp2_with (go_at_call 86; refine (text_any h).mono ?_; rintro e w1 ⟨rfl, h1, hf1⟩; obtain ⟨-, c1, -⟩ := h1.cells; have z1 := h1.frozen 1; rw [sv])
  go_ret
  have hset := h1.set 1 (.int .i64 ((i + 1 : Nat) : Int)) (i' := i + 1) (st' := st) (ins' := ins) (und' := und) rfl hlt
  refine ⟨rfl, ?_, ?_⟩
  · exact hset.1
  · exact (hf1.mono (Nat.le_refl _) (by simp)).up hset.2
set_option maxRecDepth 100000 in
set_option maxHeartbeats 1000000 in
theorem take_no (h : PS C w i st ins und) (s : ByteArray) (hs : tx C.L i ≠ bs s) : Calls Tryz.prog 89 #[.pointer (some ⟨C.rb, 0, none⟩), .string s] w fun e w' => e = .returned (.bool false) ∧ PS C w' i st ins und ∧ Fr w.heap.size [] w w' := by
  have heq : (tx C.L i == s.toList) = false := by
    rw [ByteArray.toList_eq]; exact beq_eq_false_iff_ne.2 hs
  clear hs
  go_enter Tryz.func89, Tryz.ntmps89
  go_wp2_with (go_at_call 86; refine (text_any h).mono ?_; rintro e w1 ⟨rfl, h1, hf1⟩; rw [sv])
  go_ret
  exact ⟨rfl, h1, hf1⟩
set_option maxRecDepth 100000 in
set_option maxHeartbeats 1000000 in
theorem need_any (h : PS C w i st ins und) (s : ByteArray) (k : Str) (hk : bs s = k) (hne : k ≠ []) : Calls Tryz.prog 81 #[.pointer (some ⟨C.rb, 0, none⟩), .string s] w (Out C (fun _ v w' => v = .tuple #[] ∧ PS C w' (i + 1) st ins und) w (need C.L k i)) := by
  subst hk
  by_cases hs : tx C.L i = bs s
  · have H : Hid (need C.L (bs s) i = .ok ()) := if_pos hs
    go_enter Tryz.func81, Tryz.ntmps81
    go_wp2_with (go_at_call 89; refine (take_yes h s hs hne).mono ?_; rintro e w1 ⟨rfl, h1, hf1⟩)
    go_end0
    rw [H.out]
    exact ⟨_, rfl, ⟨rfl, h1⟩, hf1⟩
  · have H : Hid (need C.L (bs s) i = .error (3, pl C.L i)) := if_neg hs
    go_enter Tryz.func81, Tryz.ntmps81
    go_wp2_with (first
      | (go_at_call 89; refine (take_no h s hs).mono ?_; rintro e w1 ⟨rfl, h1, hf1⟩)
      | (go_at_call 91; refine (throw_any h1 3).mono ?_; rintro e w2 ⟨q, rfl, ht⟩))
    rw [H.out]
    exact ⟨rfl, Thrown.up (hf1.mono (Nat.le_refl _) (by simp)) ⟨q, rfl, ht⟩⟩

/-- the token that stands next, in a new block -/
theorem PS.new {C : Ctx} {w : World} {i st ins und : Nat} (h : PS C w i st ins und) (o : Obj) : PS C ((w.alloc o).drew) i st ins und ∧ Fr w.heap.size [] w ((w.alloc o).drew) := by
  have hf : Fr w.heap.size [] w ((w.alloc o).drew) := ((Fr.refl _ _ _).alloc (Nat.le_refl _) o).drew
  exact ⟨h.same hf, hf⟩
theorem tok_block (w : World) (a b c : Value) (t : TypeId) : ((w.alloc (.cells #[a, b, c] t)).drew).cell? ⟨w.heap.size, 0, none⟩ = some a ∧ ((w.alloc (.cells #[a, b, c] t)).drew).cell? ⟨w.heap.size, 1, none⟩ = some b ∧ ((w.alloc (.cells #[a, b, c] t)).drew).cell? ⟨w.heap.size, 2, none⟩ = some c := by simp
theorem PS.step {C : Ctx} {w : World} {i st ins und : Nat} (h : PS C w i st ins und) (hlt : i + 1 < C.L.length) : PS C (w.setCell ⟨C.rb, 1, none⟩ (.int .i64 ((i : Int) + 1))) (i + 1) st ins und ∧ Fr w.heap.size [C.rb] w (w.setCell ⟨C.rb, 1, none⟩ (.int .i64 ((i : Int) + 1))) := h.set 1 _ rfl hlt
theorem PS.back {C : Ctx} {w : World} {i st ins und : Nat} (h : PS C w (i + 1) st ins und) : PS C (w.setCell ⟨C.rb, 1, none⟩ (.int .i64 (i : Int))) i st ins und ∧ Fr w.heap.size [C.rb] w (w.setCell ⟨C.rb, 1, none⟩ (.int .i64 (i : Int))) := h.set 1 _ rfl (by have := h.lt; omega)
theorem PS.more {C : Ctx} {w : World} {i st ins und : Nat} (h : PS C w i st ins und) : PS C (w.setCell ⟨C.rb, 2, none⟩ (.int .i64 ((st : Int) + 1))) i (st + 1) ins und ∧ Fr w.heap.size [C.rb] w (w.setCell ⟨C.rb, 2, none⟩ (.int .i64 ((st : Int) + 1))) := h.set 2 _ rfl h.lt
theorem PS.into {C : Ctx} {w : World} {i st ins und : Nat} (h : PS C w i st ins und) : PS C (w.setCell ⟨C.rb, 3, none⟩ (.int .i64 ((ins : Int) + 1))) i st (ins + 1) und ∧ Fr w.heap.size [C.rb] w (w.setCell ⟨C.rb, 3, none⟩ (.int .i64 ((ins : Int) + 1))) := h.set 3 _ rfl h.lt
theorem PS.outOf {C : Ctx} {w : World} {i st ins und : Nat} (h : PS C w i st (ins + 1) und) : PS C (w.setCell ⟨C.rb, 3, none⟩ (.int .i64 (ins : Int))) i st ins und ∧ Fr w.heap.size [C.rb] w (w.setCell ⟨C.rb, 3, none⟩ (.int .i64 (ins : Int))) := h.set 3 _ rfl h.lt
theorem PS.down {C : Ctx} {w : World} {i st ins und : Nat} (h : PS C w i st ins und) : PS C (w.setCell ⟨C.rb, 4, none⟩ (.int .i64 ((und : Int) + 1))) i st ins (und + 1) ∧ Fr w.heap.size [C.rb] w (w.setCell ⟨C.rb, 4, none⟩ (.int .i64 ((und : Int) + 1))) := h.set 4 _ rfl h.lt
theorem PS.upAgain {C : Ctx} {w : World} {i st ins und : Nat} (h : PS C w i st ins (und + 1)) : PS C (w.setCell ⟨C.rb, 4, none⟩ (.int .i64 (und : Int))) i st ins und ∧ Fr w.heap.size [C.rb] w (w.setCell ⟨C.rb, 4, none⟩ (.int .i64 (und : Int))) := h.set 4 _ rfl h.lt
theorem PS.lts {C : Ctx} {w : World} {i st ins und : Nat} (h : PS C w i st ins und) : C.rb < w.heap.size ∧ C.g < w.heap.size := ⟨lt_of_block h.rd, Nat.lt_trans h.gr (lt_of_block h.rd)⟩
set_option maxRecDepth 100000 in
set_option maxHeartbeats 2000000 in
theorem name_any (h : PS C w i st ins und) : Calls Tryz.prog 82 #[.pointer (some ⟨C.rb, 0, none⟩)] w (Out C (fun s v w' => v = sv s ∧ PS C w' (i + 1) st ins und) w (nm C.L i)) := by
  obtain ⟨c0, c1, -⟩ := h.cells
  obtain ⟨t0, t1, t2⟩ := h.now
  obtain ⟨l1, l2⟩ := h.lts
  have hi0 : (0 : Int) ≤ (i : Int) := Int.natCast_nonneg _
  have hi1 : (i : Int) < (C.L.length : Int) := by have := h.lt; omega
  have h6 := h.wf.len
  obtain ⟨tb, htb⟩ : ∃ tb : ByteArray, Hid (tb = ⟨(tx C.L i).toArray⟩) := ⟨_, rfl⟩
  have hbs : Hid (bs tb = tx C.L i) := by rw [Hid, htb.out]
  have hsz : Hid (tb.size = (tx C.L i).length) := by rw [Hid, ← hbs.out]; exact (bs_len tb).symm
  rw [sv, ← htb.out] at t1
  by_cases hk1 : kd C.L i = 1
  · have hk1' : ((kd C.L i : Nat) : Int) = 1 := by omega
    rw [hk1'] at t0
    have H1 : Hid (kd C.L i = 1) := hk1
    clear hk1 hk1'
    by_cases hkw : kw (bs tb) = true
    · have H : Hid (nm C.L i = .error (3, pl C.L i)) := if_pos (.inr (by rw [← hbs.out]; exact hkw))
      have hw : ∀ w', Tabs w' → Calls Tryz.prog 133 #[.string tb] w' fun e w'' => e = .returned (.bool true) ∧ w'' = w' := fun w' ht => by
        have := isWordP_any tb w' ht; rw [hkw] at this; exact this
      clear hkw
      go_enter Tryz.func82, Tryz.ntmps82
      go_wp2
      go_region
      obtain ⟨hn, hfn⟩ := h.new (.cells #[.int .i64 1, .string tb, .int .i64 (pl C.L i)] 152)
      go_wp2_with (first
        | (go_at_call 133; refine (hw _ hn.tab).mono ?_; rintro e w1 ⟨rfl, hw1⟩; obtain rfl := hw1.symm)
        | (go_at_call 91; refine (throw_any hn 3).mono ?_; rintro e w2 ⟨q, rfl, ht⟩))
      rw [H.out]
      exact ⟨rfl, Thrown.up (hfn.mono (Nat.le_refl _) (by simp)) ⟨q, rfl, ht⟩⟩
    · have hkw' : kw (bs tb) = false := by simpa using hkw
      have hw : ∀ w', Tabs w' → Calls Tryz.prog 133 #[.string tb] w' fun e w'' => e = .returned (.bool false) ∧ w'' = w' := fun w' ht => by
        have := isWordP_any tb w' ht; rw [hkw'] at this; exact this
      have HK : Hid (¬ (kd C.L i ≠ 1 ∨ kw (tx C.L i) = true)) := by
        rw [Hid, ← hbs.out]; rintro (h | h)
        · exact h H1.out
        · exact hkw h
      clear hkw hkw'
      by_cases hln : 12 < tb.size
      · have H : Hid (nm C.L i = .error (4, pl C.L i)) := by rw [Hid, nm, if_neg HK.out, if_pos (by rw [← hsz.out]; exact hln)]
        have hln' : (12 : Int) < (tb.size : Int) := by omega
        go_enter Tryz.func82, Tryz.ntmps82
        go_wp2
        go_region
        obtain ⟨hn, hfn⟩ := h.new (.cells #[.int .i64 1, .string tb, .int .i64 (pl C.L i)] 152)
        go_wp2_with (first
          | (go_at_call 133; refine (hw _ hn.tab).mono ?_; rintro e w1 ⟨rfl, hw1⟩; obtain rfl := hw1.symm)
          | (go_at_call 91; refine (throw_any hn 4).mono ?_; rintro e w2 ⟨q, rfl, ht⟩))
        rw [H.out]
        exact ⟨rfl, Thrown.up (hfn.mono (Nat.le_refl _) (by simp)) ⟨q, rfl, ht⟩⟩
      · have H : Hid (nm C.L i = .ok (tx C.L i)) := by rw [Hid, nm, if_neg HK.out, if_neg (by rw [← hsz.out]; exact hln)]
        have hln' : ¬ (12 : Int) < (tb.size : Int) := by omega
        have hlt := h.wf.nextk h.lt (by rw [H1.out]; decide)
        go_enter Tryz.func82, Tryz.ntmps82
        go_wp2
        go_region
        obtain ⟨hn, hfn⟩ := h.new (.cells #[.int .i64 1, .string tb, .int .i64 (pl C.L i)] 152)
        obtain ⟨e0, e1, e2⟩ := tok_block w (.int .i64 1) (.string tb) (.int .i64 (pl C.L i)) 152
        generalize (w.alloc (.cells #[.int .i64 1, .string tb, .int .i64 (pl C.L i)] 152)).drew = w1 at hn hfn e0 e1 e2 ⊢
        obtain ⟨-, d1, -⟩ := hn.cells
        have z1 := hn.frozen 1
        have hbne : ¬ C.rb = w.heap.size := by omega
        clear c0 c1 t0 t1 t2 e2
        go_wp2_with (first
          | (go_at_call 133; refine (hw _ hn.tab).mono ?_; rintro e w2 ⟨rfl, hw1⟩; obtain rfl := hw1.symm))
        go_ret
        rw [H.out]
        have hset := hn.step hlt
        exact ⟨_, rfl, ⟨by rw [htb.out]; rfl, hset.1⟩, (hfn.mono (Nat.le_refl _) (by simp)).up hset.2⟩
  · have hk1' : ¬ ((kd C.L i : Nat) : Int) = 1 := by omega
    have hk1'' : (((kd C.L i : Nat) : Int) != 1) = true := by simpa using hk1'
    have H : Hid (nm C.L i = .error (3, pl C.L i)) := if_pos (.inl hk1)
    clear hk1
    go_enter Tryz.func82, Tryz.ntmps82
    go_wp2
    go_region
    obtain ⟨hn, hfn⟩ := h.new (.cells #[.int .i64 (kd C.L i), .string tb, .int .i64 (pl C.L i)] 152)
    go_wp2_with (go_at_call 91; refine (throw_any hn 3).mono ?_; rintro e w2 ⟨q, rfl, ht⟩)
    rw [H.out]
    exact ⟨rfl, Thrown.up (hfn.mono (Nat.le_refl _) (by simp)) ⟨q, rfl, ht⟩⟩
end
end Go.Proofs.YtobamalnbjbmiaaGreatDoor
