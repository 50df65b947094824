/- The program's Order, whole. -/
import Derived.Test.YtiihgnagjemikaaGreatDoorVCe2
import Derived.ArgAppend
import Derived.Test.YtiihgnagjemikaaGreatDoorVCs3
import Derived.BigQuiet
import Derived.Deep.DeepCutAuto
namespace Go.Proofs.YtiihgnagjemikaaGreatDoor
open Go.RowKit Px

/-- numbers in a slice -/
def NumsV (A : Nat → Prop) (w : World) (v : Value) (zs : List Nat) : Prop := ∃ ad g cap, v = .slice ad zs.length cap ∧ (0 < zs.length → ad = some ⟨g, 0, none⟩ ∧ A g ∧ g < w.heap.size) ∧ ∀ k, k < zs.length → w.cell? ⟨g, k, none⟩ = some (.int .i64 ((zs.getD k 0 : Nat) : Int))
/-- a region's states, as far as their order is asked, as they lie -/
def StsAt {ρ : Type} (w : World) (g : Nat) (l : List (StF ρ)) : Prop := ∀ i s, l[i]? = some s → g < w.heap.size ∧ w.cell? ⟨g, i * 9, none⟩ = some (sv s.name) ∧ w.cell? ⟨g, i * 9 + 1, none⟩ = some (.bool s.first) ∧ s.name.length ≤ maxLen ∧ s.ways.length ≤ 1000000 ∧
  ∃ ay gy capy, w.cell? ⟨g, i * 9 + 7, none⟩ = some (.slice ay s.ways.length capy) ∧ (0 < s.ways.length → ay = some ⟨gy, 0, none⟩ ∧ gy < w.heap.size) ∧ WaysAt w gy s.ways
theorem WaysAt.keep {w w' : World} {gy : Nat} {ys : List Wy} (h : WaysAt w gy ys) (hk : 0 < ys.length → w'.heap[gy]? = w.heap[gy]?) : WaysAt w' gy ys := by
  intro m y hm
  have e := hk (by have := (List.getElem?_eq_some_iff.1 hm).1; omega)
  have ec : ∀ o, w'.cell? ⟨gy, o, none⟩ = w.cell? ⟨gy, o, none⟩ := fun o => World.cell?_of_block (w := w) (a := ⟨gy, o, none⟩) e
  obtain ⟨p, q, h⟩ := h m y hm
  refine ⟨p, q, ?_⟩
  simp only [ec]
  exact h
theorem StsAt.below {ρ : Type} {w w' : World} {g : Nat} {l : List (StF ρ)} (h : StsAt w g l) (hb : Below w.heap.size w w') : StsAt w' g l := by
  intro i s hi
  obtain ⟨h0, h1, h2, h3, h4, ay, gy, capy, h5, h6, h7⟩ := h i s hi
  exact ⟨Nat.lt_of_lt_of_le h0 hb.size, ck_cell hb h1, ck_cell hb h2, h3, h4, ay, gy, capy, ck_cell hb h5, fun hp => ⟨(h6 hp).1, Nat.lt_of_lt_of_le (h6 hp).2 hb.size⟩, h7.keep fun hp => hb.block gy (h6 hp).2⟩
theorem StsAt.names {ρ : Type} {w : World} {g : Nat} {l : List (StF ρ)} (h : StsAt w g l) : NamesAt w g l.length (snames l) := by
  refine ⟨(snames_len l).symm, fun i hi => ?_⟩
  obtain ⟨_, h1, _, h3, _⟩ := h i _ (List.getElem?_eq_getElem hi)
  rw [snames_at l i _ (List.getElem?_eq_getElem hi)]
  exact ⟨h1, h3⟩

theorem Tryz.ckInfoInt : (Tryz.prog.info? 3).map (fun i => (i.zero, i.size, i.bytes)) = some (some (.int .i64 0), 1, 8) := by kernel_rfl
theorem ck_made0 (n : Nat) : (madeCells (Value.cells (.int .i64 0)) (n * 1)) = ((List.replicate n (0 : Int)).map (Value.int .i64)).toArray := by
  apply Array.toList_inj.1
  apply List.ext_getElem
  · simp [madeCells]
  · intro k h1 h2
    simp [madeCells, Value.cells, Nat.mod_one]
theorem ck_make (w : World) (l n : Nat) (hl : l ≤ n) (hn : n ≤ 1000000) : (Instr.makeSlice 199 (.int .i64 (l : Int)) (.int .i64 (n : Int))).run Tryz.prog w = .ok (.slice (some ⟨w.heap.size, 0, none⟩) l n) (w.alloc (.cells ((List.replicate n (0 : Int)).map (Value.int .i64)).toArray 3)) := by
  obtain ⟨i0, hi, hz0, hz1, hz2⟩ := info_parts Tryz.ckInfoInt
  have := run_make (P := Tryz.prog) w 199 3 i0 (.int .i64 0) Tryz.underlying199 hi hz0 .i64 .i64 (l : Int) (n : Int) (by omega) (by omega) (by rw [hz2]; omega) (by omega)
  rw [this, hz1]
  simp only [Int.toNat_natCast]
  rw [ck_made0]
theorem wpList_app1 {P : Program} {w w' : World} {ops : Array Oper} {rest : List Oper} {o : Oper} {a : Act} {Q : Exit → Act → World → Prop} (hgd : o.guard = none) (s x : Operand) (t : TypeId)
    (ho : o.op = .call { callee := .builtin .append, args := #[s, x], argTypes := #[t, t] }) (vs vx r : Value) (hs : a.eval s = vs) (hx : a.eval x = vx) (hr : (Builtin.append_ #[t, t] o.type #[vs, vx]).run P w = .ok r w') (h : wpList P ops Q rest (a.put o.dst r) w') : wpList P ops Q (o :: rest) a w :=
  wpList_plain hgd fun _ hK => by
    unfold Oper.wp execOp
    simp only [ho, resolve, invoke, builtin, Sem.run_bind, Sem.run_pure, Result.andThen_ok, List.map_toArray, List.map_cons, List.map_nil, hs, hx, hr]
    exact hK _ _ h
/-- one number is put behind the others, where there is room -/
theorem ck_app {w : World} {go r n q : Nat} {X : List Int} (x : Int) (hX : NumsAt w go X) (hn : X.length = n) (hr : r < n) (hq : w.cell? ⟨q, 0, none⟩ = some (.int .i64 x)) :
    (Builtin.append_ #[199, 199] 199 #[.slice (some ⟨go, 0, none⟩) r n, .slice (some ⟨q, 0, none⟩) 1 1]).run Tryz.prog w = .ok (.slice (some ⟨go, 0, none⟩) (r + 1) n) (w.setCell ⟨go, r, none⟩ (.int .i64 x)) := by
  obtain ⟨i0, hi, hz0, hz1, hz2⟩ := info_parts Tryz.ckInfoInt
  have hcell := hX.cell r (by omega)
  have := run_append_room_cells (P := Tryz.prog) w 199 199 3 i0 Tryz.underlying199 hi go 0 r n ⟨q, 0, none⟩ 1 1 [.int .i64 x] (by rw [hz1]; rfl) (fun j u hj => by
    cases j with
    | zero => simp at hj; subst hj; simpa [Addr.add] using hq
    | succ j => simp at hj) (by simp [Value.oneCell']) (by omega) (fun j hj => by
      obtain rfl : j = 0 := by simpa using hj
      rw [hz1, Nat.zero_add, Nat.mul_one, Nat.add_zero, hcell]; rfl) (fun j hj => by
      obtain rfl : j = 0 := by simpa using hj
      rw [hz1, Nat.zero_add, Nat.mul_one, Nat.add_zero]; exact ck_frozen hX _)
  rw [this, hz1, Nat.zero_add, Nat.mul_one]
  rfl

/-- what Order stands on, in the world as it is -/
structure OrdS {ρ : Type} (W : World) (ad : Option Addr) (g n cap rb fb wb gw pb mb nm : Nat) (l : List (StF ρ)) : Prop where
  hrb : W.cell? ⟨rb, 0, none⟩ = some (.slice ad n cap)
  hfb : W.cell? ⟨fb, 0, none⟩ = some (.func (.func 68) #[] #[.pointer (some ⟨pb, 0, none⟩)])
  hwb : W.cell? ⟨wb, 0, none⟩ = some (.slice (some ⟨gw, 0, none⟩) n n)
  hpb : W.heap[pb]? = some (.cells #[.map (some mb)] 136 (0, 0))
  hmb : MapF W mb nm (fnd (snames l))
  sts : StsAt W g l
  gl : ∀ i s, l[i]? = some s → g ≠ gw ∧ ∀ ay gy capy, W.cell? ⟨g, i * 9 + 7, none⟩ = some (.slice ay s.ways.length capy) → 0 < s.ways.length → ay = some ⟨gy, 0, none⟩ → gy ≠ gw
  ne : gw ≠ rb ∧ gw ≠ fb ∧ gw ≠ wb ∧ gw ≠ pb ∧ gw ≠ mb
theorem OrdS.fr {ρ : Type} {W wr : World} {ad : Option Addr} {g n cap rb fb wb gw pb mb nm : Nat} {l : List (StF ρ)} (h : OrdS W ad g n cap rb fb wb gw pb mb nm l) (hF : Fr W.heap.size [gw] W wr) : OrdS wr ad g n cap rb fb wb gw pb mb nm l := by
  obtain ⟨e1, e2, e3, e4, e5⟩ := h.ne
  have hc : ∀ {b o : Nat} {v : Value}, b ≠ gw → W.cell? ⟨b, o, none⟩ = some v → wr.cell? ⟨b, o, none⟩ = some v := fun {b o v} hb hv => by
    rw [hF.cell (p := ⟨b, o, none⟩) (World.block_lt_of_cell? W _ hv) (by simpa using hb)]; exact hv
  have hg : ∀ {b : Nat}, b ≠ gw → b < W.heap.size → wr.heap[b]? = W.heap[b]? := fun {b} hb hl => hF.block b hl (by simpa using hb)
  have hs : StsAt wr g l := by
    intro i s hi
    obtain ⟨h0, h1, h2, h3, h4, ay, gy, capy, h5, h6, h7⟩ := h.sts i s hi
    have hgg := (h.gl i s hi).1
    have hyy := (h.gl i s hi).2 ay gy capy h5
    exact ⟨Nat.lt_of_lt_of_le h0 hF.size, hc hgg h1, hc hgg h2, h3, h4, ay, gy, capy, hc hgg h5, fun hp => ⟨(h6 hp).1, Nat.lt_of_lt_of_le (h6 hp).2 hF.size⟩, h7.keep fun hp => hg (hyy hp (h6 hp).1) (h6 hp).2⟩
  refine ⟨hc (Ne.symm e1) h.hrb, hc (Ne.symm e2) h.hfb, hc (Ne.symm e3) h.hwb, by rw [hg (Ne.symm e4) (lt_of_block h.hpb)]; exact h.hpb, h.hmb.keep (hg (Ne.symm e5) h.hmb.lt), hs, fun i s hi => ⟨(h.gl i s hi).1, fun ay gy capy hcell => (h.gl i s hi).2 ay gy capy ?_⟩, h.ne⟩
  rw [← hcell, hF.cell (p := ⟨g, i * 9 + 7, none⟩) (h.sts i s hi).1 (by simpa using (h.gl i s hi).1)]
/-- count, where Order calls it -/
theorem OrdS.count {ρ : Type} {W : World} {ad : Option Addr} {g n cap rb fb wb gw pb mb nm : Nat} {l : List (StF ρ)} (h : OrdS W ad g n cap rb fb wb gw pb mb nm l) (hn : n = l.length) (ha : 0 < n → ad = some ⟨g, 0, none⟩) {V : List Int} (hV : NumsAt W gw V) (hVl : V.length = n) (by' : Int) (i : Nat) (hi : i < n)
    (hbd : ∀ m j, m ≤ ((graph l).getD i []).length → -4611686018427387904 ≤ (bump n by' ((graph l).getD i []) m V).getD j 0 ∧ (bump n by' ((graph l).getD i []) m V).getD j 0 ≤ 4611686018427387904) :
    Calls Tryz.prog 139 #[.int .i64 (i : Int), .int .i64 by', .pointer (some ⟨rb, 0, none⟩), .pointer (some ⟨fb, 0, none⟩), .pointer (some ⟨wb, 0, none⟩)] W fun e w' => e = .returned (.tuple #[]) ∧ Hid (NumsAt w' gw (bump n by' ((graph l).getD i []) ((graph l).getD i []).length V) ∧ Fr W.heap.size [gw] W w') := by
  obtain ⟨s, hs⟩ : ∃ s, l[i]? = some s := ⟨l[i]'(by omega), List.getElem?_eq_getElem (by omega)⟩
  obtain ⟨e1, e2, e3, e4, e5⟩ := h.ne
  obtain ⟨h0, h1, h2, h3, h4, ay, gy, capy, h5, h6, h7⟩ := h.sts i s hs
  rw [graph_at l i s hs, tosF_len] at hbd ⊢
  exact ckcount_any by' hi ha (N := s.ways.length) rfl h4 ⟨hVl.symm, fun s t ht => by have := (fnd_some ht).1; rw [snames_len] at this; omega⟩ h.hrb h.hfb h.hwb h.hpb h.hmb hV h5 h6 h7 ⟨e2, e3, e4, e5, fun hp => Ne.symm ((h.gl i s hs).2 ay gy capy h5 hp (h6 hp).1)⟩ hbd

/-- numbers of ways are small -/
theorem cnt_small {ρ : Type} (l : List (StF ρ)) (T : List Bool) (j : Nat) (k : Nat) (hk : k ≤ l.length) (hl : l.length ≤ 1000000) (hw : ∀ s ∈ l, s.ways.length ≤ 1000000) : cntK (graph l) T j k ≤ 1000000000000 := by
  have := cntK_le (graph l) T j 1000000 (fun i => by
    rw [graph, List.getD_eq_getElem?_getD, List.getElem?_map]
    cases h : l[i]? with
    | none => simp
    | some s => simp only [Option.map_some, Option.getD_some]; rw [tosF_len]; exact hw s (List.mem_of_getElem? h)) k
  have h2 : k * 1000000 ≤ 1000000 * 1000000 := Nat.mul_le_mul_right _ (by omega)
  omega
theorem graph_row {ρ : Type} (l : List (StF ρ)) (hw : ∀ s ∈ l, s.ways.length ≤ 1000000) (i : Nat) : ((graph l).getD i []).length ≤ 1000000 := by
  rw [graph, List.getD_eq_getElem?_getD, List.getElem?_map]
  cases h : l[i]? with
  | none => simp
  | some s => simp only [Option.map_some, Option.getD_some]; rw [tosF_len]; exact hw s (List.mem_of_getElem? h)
theorem bump_small (n : Nat) (by' : Int) (hby : by' = 1 ∨ by' = -1) (ts : List (Option Nat)) (hts : ts.length ≤ 1000000) (V : List Int) (hV : ∀ j, -1 ≤ V.getD j 0 ∧ V.getD j 0 ≤ 1000000000000) (m j : Nat) (hm : m ≤ ts.length) : -4611686018427387904 ≤ (bump n by' ts m V).getD j 0 ∧ (bump n by' ts m V).getD j 0 ≤ 4611686018427387904 := by
  by_cases hj : j < V.length
  · rw [bump_at n by' ts V m hm j hj]
    have h1 := List.count_le_length (a := some j) (l := ts.take m)
    have h2 : (ts.take m).length ≤ ts.length := by rw [List.length_take]; omega
    have h3 := hV j
    rcases hby with rfl | rfl <;> omega
  · rw [List.getD_eq_getElem?_getD, List.getElem?_eq_none (by rw [bump_len]; omega)]
    simp
end Go.Proofs.YtiihgnagjemikaaGreatDoor
/- The program's Order, walked. -/
namespace Go.Proofs.YtiihgnagjemikaaGreatDoor
open Go.RowKit Px

theorem wOf_small {ρ : Type} (l : List (StF ρ)) (T : List Bool) (hl : l.length ≤ 1000000) (hw : ∀ s ∈ l, s.ways.length ≤ 1000000) (j : Nat) : -1 ≤ (wOf (graph l) T).getD j 0 ∧ (wOf (graph l) T).getD j 0 ≤ 1000000000000 := by
  by_cases hj : j < (graph l).length
  · rw [wOf_at _ _ _ hj]
    have := cnt_small l T j (graph l).length (by rw [graph_len]; exact Nat.le_refl _) hl hw
    unfold cnt
    split <;> omega
  · rw [List.getD_eq_getElem?_getD, List.getElem?_eq_none (by rw [wOf_len]; omega)]
    simp
theorem wFirst_small {ρ : Type} (l : List (StF ρ)) (k : Nat) (hk : k ≤ l.length) (hl : l.length ≤ 1000000) (hw : ∀ s ∈ l, s.ways.length ≤ 1000000) (j : Nat) : -1 ≤ (wFirst (graph l) k).getD j 0 ∧ (wFirst (graph l) k).getD j 0 ≤ 1000000000000 := by
  by_cases hj : j < (graph l).length
  · rw [wFirst_at _ _ _ hj]
    have := cnt_small l (List.replicate (graph l).length false) j k hk hl hw
    omega
  · rw [List.getD_eq_getElem?_getD, List.getElem?_eq_none (by rw [wFirst_len]; omega)]
    simp
theorem set_small {V : List Int} (h : ∀ j, -1 ≤ V.getD j 0 ∧ V.getD j 0 ≤ 1000000000000) (i : Nat) (j : Nat) : -1 ≤ (V.set i (-1)).getD j 0 ∧ (V.set i (-1)).getD j 0 ≤ 1000000000000 := by
  rw [List.getD_eq_getElem?_getD, List.getElem?_set]
  by_cases e : i = j
  · subst e
    by_cases hl : i < V.length
    · simp [hl]
    · simp [hl]
  · rw [if_neg e, ← List.getD_eq_getElem?_getD]; exact h j

theorem index_some {w : World} {g n cap j : Nat} {G : List (List (Option Nat))} {T : List Bool} (hn : n = G.length) (hm : n ≤ 1000000) (hW : NumsAt w g (wOf G T)) (hj : nextG G T = some j) :
    Calls Tryz.prog 140 #[.slice (some ⟨g, 0, none⟩) n cap, .int .i64 0] w fun e w' => e = .returned (.int .i64 (j : Int)) ∧ w' = w := by
  refine (index_any (by rw [Hid, wOf_len]; exact hn) hm hW).mono fun e w' ⟨hw, ho⟩ => ⟨?_, hw⟩
  obtain ⟨j1, j2, j3⟩ := nextG_some hj
  rcases ho with ⟨k, rfl, hk, hz, hno⟩ | ⟨rfl, hno⟩
  · have hf := (wOf_zero G T k (by omega)).1 hz
    have : k = j := by
      by_cases h1 : k < j
      · rw [j3 k h1] at hf; simp at hf
      · by_cases h2 : j < k
        · exact absurd ((wOf_zero G T j j1).2 j2) (hno j h2)
        · omega
    rw [this]
  · exact absurd ((wOf_zero G T j j1).2 j2) (hno j (by omega))
theorem index_none {w : World} {g n cap : Nat} {G : List (List (Option Nat))} {T : List Bool} (hn : n = G.length) (hm : n ≤ 1000000) (hW : NumsAt w g (wOf G T)) (hj : nextG G T = none) :
    Calls Tryz.prog 140 #[.slice (some ⟨g, 0, none⟩) n cap, .int .i64 0] w fun e w' => e = .returned (.int .i64 (-1)) ∧ w' = w := by
  refine (index_any (by rw [Hid, wOf_len]; exact hn) hm hW).mono fun e w' ⟨hw, ho⟩ => ⟨?_, hw⟩
  rcases ho with ⟨k, rfl, hk, hz, hno⟩ | ⟨rfl, hno⟩
  · have hf := (wOf_zero G T k (by omega)).1 hz
    rw [nextG_none hj k (by omega)] at hf; simp at hf
  · rfl
theorem fr_on {W wr w' : World} {gw : Nat} (h : Fr W.heap.size [gw] W wr) (k : Fr wr.heap.size [gw] wr w') : Fr W.heap.size [gw] W w' := h.trans (k.mono h.size (fun _ hx _ => hx))
theorem setCell_other {w : World} {a : Addr} {v : Value} {b : Nat} (h : b ≠ a.block) : (w.setCell a v).heap[b]? = w.heap[b]? := Below.heap_setCell _ _ _ _ h

/-- what is known at a round of Order's second loop -/
def OrdR {ρ : Type} (W wr : World) (gw go n r : Nat) (l : List (StF ρ)) : Prop :=
  ∃ (os : List Nat) (T : List Bool) (X : List Int), ordK (graph l) r = some (os, T) ∧ NumsAt wr gw (wOf (graph l) T) ∧ Fr W.heap.size [gw] W wr ∧ NumsAt wr go X ∧ X.length = n ∧ (∀ k, k < r → X.getD k 0 = ((os.getD k 0 : Nat) : Int)) ∧ W.heap.size ≤ go

/-- what Order hands back -/
def OrdOut (w : World) (oo : Option (List Nat)) (e : Ending) (w' : World) : Prop := Below w.heap.size w w' ∧ ((oo = none ∧ e = .returned (.tuple #[.slice none 0 0, .bool false])) ∨ ∃ o v, oo = some o ∧ e = .returned (.tuple #[v, .bool true]) ∧ NumsV (fun b => w.heap.size ≤ b) w' v o)

set_option maxRecDepth 100000 in
set_option maxHeartbeats 8000000 in
theorem order_at {ρ : Type} {w : World} {ad : Option Addr} {g n cap : Nat} {l : List (StF ρ)} {oo : Option (List Nat)} (hoo : Hid (orderG (graph l) = oo)) (hn : Hid (n = l.length)) (hm : n ≤ 1000000) (ha : 0 < n → ad = some ⟨g, 0, none⟩) (hS : StsAt w g l) :
    Calls Tryz.prog 125 #[.slice ad n cap] w fun e w' => OrdOut w oo e w' := by
  have hmf : ∀ (fn : Fn) (first cap : Array Value) (w : World), (Instr.makeFunc fn first cap).run Tryz.prog w = .ok (.func fn first cap) w := fun _ _ _ _ => rfl
  have HS : Hid (StsAt w g l) := hS
  have HA : Hid (0 < n → ad = some ⟨g, 0, none⟩) := ha
  have HWL : Hid (∀ s ∈ l, s.ways.length ≤ 1000000) := fun s hs => by
    obtain ⟨i, hi⟩ := List.getElem?_of_mem hs
    exact (hS i s hi).2.2.2.2.1
  have hN := hS.names
  rw [← hn.out] at hN
  have hcall := stateFinder_any (cap := cap) ha hm (w := w.alloc (.cells #[.slice ad n cap] 133)) (ns := snames l) ⟨hN.1, fun i hi => ⟨ck_cell (ck_grown w _) (hN.2 i hi).1, (hN.2 i hi).2⟩⟩
  have hmk := fun X => ck_make X n n (Nat.le_refl _) hm
  have hmk0 : ∀ X, _ := fun X => ck_make X 0 n (Nat.zero_le _) hm
  rw [show ((0 : Nat) : Int) = 0 from rfl] at hmk0
  obtain ⟨ZF, hZF⟩ : ∃ ZF, ZF = Obj.cells ((List.replicate n (0 : Int)).map (Value.int .i64)).toArray 3 := ⟨_, rfl⟩
  rw [← hZF] at hmk hmk0
  have HZ : Hid (ZF = Obj.cells ((List.replicate n (0 : Int)).map (Value.int .i64)).toArray 3) := hZF
  clear hS hN hZF ha
  go_enter Tryz.func125, Tryz.ntmps125
  go_upto_region 4 with (refine hcall.mono ?_; rintro e w1 ⟨f, rfl, ⟨pb, mb, nm, rfl, hpb, hmb⟩, hb⟩; have HF : Hid ((w1.heap[pb]? = some (.cells #[.map (some mb)] 136 (0, 0)) ∧ MapF w1 mb nm (fnd (snames l))) ∧ Below (w.alloc (.cells #[.slice ad n cap] 133)).heap.size (w.alloc (.cells #[.slice ad n cap] 133)) w1) := ⟨⟨hpb, hmb⟩, hb⟩; have cr := ck_cell hb (cell_row (ck_new w (.cells #[.slice ad n cap] 133)) 0 rfl); have cr' := ck_cell (ck_grown w1 (.cells #[.func (.func 68) #[] #[.pointer (some ⟨pb, 0, none⟩)]] 83)) cr; clear hpb hmb hb)
  clear hcall cr'
  obtain ⟨W, hW⟩ : ∃ W, W = (((w1.alloc (.cells #[.func (.func 68) #[] #[.pointer (some ⟨pb, 0, none⟩)]] 83)).alloc ZF).alloc (.cells #[.slice (some ⟨w1.heap.size + 1, 0, none⟩) n n] 199)) := ⟨_, rfl⟩
  obtain ⟨rb, hrb⟩ : ∃ rb, rb = w.heap.size := ⟨_, rfl⟩
  obtain ⟨fb, hfb⟩ : ∃ fb, fb = w1.heap.size := ⟨_, rfl⟩
  obtain ⟨gw, hgw⟩ : ∃ gw, gw = w1.heap.size + 1 := ⟨_, rfl⟩
  obtain ⟨wb, hwb⟩ : ∃ wb, wb = w1.heap.size + 1 + 1 := ⟨_, rfl⟩
  have O : Hid (OrdS W ad g n cap rb fb wb gw pb mb nm l ∧ NumsAt W gw (wFirst (graph l) 0) ∧ Below w.heap.size w W ∧ w.heap.size ≤ gw ∧ gw < W.heap.size) := by
    have hb0 : Below w.heap.size w w1 := ck_all (ck_grown w _) HF.out.2
    have hs1 : w.heap.size < w1.heap.size := by have := HF.out.2.size; simp at this; omega
    have hbW : Below w1.heap.size w1 W := by rw [hW]; exact ((((Below.refl _ _).alloc (Nat.le_refl _) _).alloc (by simp) _).alloc (by simp; omega) _)
    have hsW : W.heap.size = w1.heap.size + 1 + 1 + 1 := by rw [hW]; simp
    have hwW : Below w.heap.size w W := hb0.trans (hbW.mono (by omega))
    have h1 : W.heap[w1.heap.size]? = some (.cells #[.func (.func 68) #[] #[.pointer (some ⟨pb, 0, none⟩)]] 83 (0, 0)) := by
      rw [hW, Below.heap_alloc _ _ _ (by simp; omega), Below.heap_alloc _ _ _ (by simp)]; exact heap_alloc_new _ _
    have h2 : W.heap[w1.heap.size + 1]? = some ZF := by
      rw [hW, Below.heap_alloc _ _ _ (by simp)]
      have e : w1.heap.size + 1 = (w1.alloc (.cells #[.func (.func 68) #[] #[.pointer (some ⟨pb, 0, none⟩)]] 83)).heap.size := by simp
      rw [e]; exact heap_alloc_new _ _
    have h3 : W.heap[w1.heap.size + 1 + 1]? = some (.cells #[.slice (some ⟨w1.heap.size + 1, 0, none⟩) n n] 199 (0, 0)) := by
      rw [hW]
      have e : w1.heap.size + 1 + 1 = ((w1.alloc (.cells #[.func (.func 68) #[] #[.pointer (some ⟨pb, 0, none⟩)]] 83)).alloc ZF).heap.size := by simp
      rw [e]; exact heap_alloc_new _ _
    have lp := lt_of_block HF.out.1.1
    have lm := HF.out.1.2.lt
    have hst := HS.out.below hwW
    refine ⟨⟨?_, ?_, ?_, ?_, ?_, hst, ?_, ?_⟩, ?_, hwW, by omega, by omega⟩
    · rw [hrb]; exact ck_cell hbW cr
    · rw [hfb]; exact cell_row h1 0 rfl
    · rw [hwb, hgw]; exact cell_row h3 0 rfl
    · exact ck_block hbW HF.out.1.1
    · exact HF.out.1.2.below hbW
    · intro i s hi
      obtain ⟨q0, q1, q2, q3, q4, ay, gy, capy, q5, q6, q7⟩ := HS.out i s hi
      refine ⟨by omega, fun ay' gy' capy' hc hp he => ?_⟩
      have := ck_cell hwW q5
      rw [this] at hc
      injection hc with hc
      injection hc with e1 e2 e3
      have := q6 hp
      rw [e1, he] at this
      have e4 := this.1
      injection e4 with e4
      injection e4 with e4
      omega
    · omega
    · rw [hgw, NumsAt, h2, HZ.out, wFirst, graph_len, ← hn.out]
  rw [← hW]
  rw [← hwb, ← hgw, ← hfb, ← hrb]
  clear hW hrb hfb hgw hwb cr HF HS
  have crW := O.out.1.hrb
  go_wp2_with fail
  clear crW
  go_loopg [18] n (fun f i wr => ∃ k : Nat, f = n - k ∧ k ≤ n ∧ i = .int .i64 (k : Int) ∧ Hid (NumsAt wr gw (wFirst (graph l) k) ∧ Fr W.heap.size [gw] W wr))
  case atStart => exact ⟨0, by omega, by omega, rfl, O.out.2.1, Fr.refl _ _ _⟩
  case round =>
    obtain ⟨k, rfl, hk, rfl, hr⟩ := hrel
    have OR := O.out.1.fr hr.out.2
    by_cases hlt : k < n
    · have hc := OR.count hn.out HA.out hr.out.1 (by rw [wFirst_len, graph_len]; exact hn.out.symm) 1 k hlt (fun m j h => bump_small n 1 (.inl rfl) _ (graph_row l HWL.out k) _ (wFirst_small l k (by have := hn.out; omega) (by have := hn.out; omega) HWL.out) m j h)
      clear OR
      go_wp2_with (refine hc.mono ?_; rintro e w' ⟨rfl, hc'⟩)
      go_roundg (n - (k + 1))
      case measure => omega
      case rel => exact ⟨k + 1, rfl, by omega, by go_num, by rw [wFirst, graph_len, ← hn.out]; exact hc'.out.1, fr_on hr.out.2 hc'.out.2⟩
    · obtain rfl : k = n := by omega
      obtain ⟨w3, hw3⟩ : ∃ w3, w3 = wr := ⟨_, rfl⟩
      have H3 : Hid (NumsAt w3 gw (wOf (graph l) (List.replicate (graph l).length false)) ∧ Fr W.heap.size [gw] W w3) := by
        rw [hw3, ← wFirst_all, graph_len, ← hn.out]; exact hr.out
      have c1 := OR.hrb
      rw [← hw3] at c1 ⊢
      have c2 := ck_cell (ck_grown w3 ZF) c1
      clear hw3 hr OR
      have HC0 : Hid (OrdR W (w3.alloc ZF) gw w3.heap.size k 0 l) := by
        refine ⟨[], _, List.replicate k 0, rfl, ck_old H3.out.1, H3.out.2.alloc H3.out.2.size _, ?_, by simp, fun j hj => absurd hj (by omega), H3.out.2.size⟩
        rw [NumsAt, ck_new, HZ.out]
      go_wp2_with fail
      clear c1 c2 H3 HZ
      obtain ⟨go, hgo⟩ : ∃ go, go = w3.heap.size := ⟨_, rfl⟩
      rw [← hgo] at HC0 ⊢
      clear hgo
      go_loopg [8, 30] k (fun f o i wr => ∃ r : Nat, f = k - r ∧ r ≤ k ∧ o = .slice (some ⟨go, 0, none⟩) r k ∧ i = .int .i64 (r : Int) ∧ Hid (OrdR W wr gw go k r l))
      case atStart => exact ⟨0, by omega, by omega, rfl, rfl, HC0.out⟩
      case round =>
        obtain ⟨r, rfl, hrk, rfl, rfl, hr⟩ := hrel
        obtain ⟨os, T, X, hord, hW', hF, hX, hXl, hXk, hgo⟩ := hr.out
        have OR := O.out.1.fr hF
        by_cases hlt : r < k
        · have cw := OR.hwb
          cases hnx : nextG (graph l) T with
          | none =>
            have hc := index_none (cap := k) (by rw [graph_len]; exact hn.out) hm hW' hnx
            have HN : Hid (orderG (graph l) = none) := by
              have : ordK (graph l) (r + 1) = none := by rw [ordK, hord]; show (match nextG (graph l) T with | none => none | some j => _) = none; rw [hnx]
              have := ordK_none this (s := (graph l).length) (by rw [graph_len, ← hn.out]; omega)
              rw [Hid, orderG, this]; rfl
            have HB : Hid (Below w.heap.size w wr) := O.out.2.2.1.trans ((hF.mono O.out.2.2.1.size (X' := []) (fun x hx h => by have := O.out.2.2.2.1; simp at hx; omega)).below)
            clear hord hW' hF hX hXl hXk hgo OR hnx hr
            go_wp2_with (refine hc.mono ?_; rintro e w' ⟨rfl, rfl⟩)
            go_ret2
            exact ⟨HB.out, .inl ⟨hoo.out.symm.trans HN.out, rfl⟩⟩
          | some j =>
            obtain ⟨j1, j2, j3⟩ := nextG_some hnx
            obtain ⟨hsh, hol, -⟩ := ordK_shut hord
            have hc := index_some (cap := k) (by rw [graph_len]; exact hn.out) hm hW' hnx
            have hjk : j < k := by rw [graph_len, ← hn.out] at j1; exact j1
            obtain ⟨wa, hwa⟩ : ∃ wa, wa = (wr.alloc (.cells #[.int .i64 (j : Int)] 3)).setCell ⟨go, r, none⟩ (.int .i64 (j : Int)) := ⟨_, rfl⟩
            have hap := ck_app (w := wr.alloc (.cells #[.int .i64 (j : Int)] 3)) (q := wr.heap.size) (j : Int) (ck_old hX) hXl hlt (cell_row (ck_new wr _) 0 rfl)
            rw [← hwa] at hap
            have lgo := lt_of_block hX
            have lgw := lt_of_block hW'
            have hgg : gw ≠ go := by have := O.out.2.2.2.2; omega
            have hFa : Fr W.heap.size [gw] W wa := by rw [hwa]; exact (hF.alloc hF.size _).setCell (.inl hgo) _
            have hWa : NumsAt wa gw (wOf (graph l) T) := by
              refine hW'.keep ?_
              rw [hwa, setCell_other hgg, Below.heap_alloc _ _ _ lgw]
            have hXa : NumsAt wa go (X.set r (j : Int)) := by rw [hwa]; exact NumsAt.set (ck_old hX) r _
            have ORa := O.out.1.fr hFa
            have cwa := ORa.hwb
            have cja := hWa.cell j (by rw [wOf_len]; exact j1)
            have cfa := ck_frozen hWa j
            have hix := ixI (some ⟨gw, 0, none⟩) gw k k j hjk (fun _ => rfl)
            have hFb : Fr W.heap.size [gw] W (wa.setCell ⟨gw, j, none⟩ (.int .i64 (-1))) := hFa.setCell (.inr (by simp)) _
            have hWb : NumsAt (wa.setCell ⟨gw, j, none⟩ (.int .i64 (-1))) gw ((wOf (graph l) T).set j (-1)) := hWa.set j (-1)
            have hXb : NumsAt (wa.setCell ⟨gw, j, none⟩ (.int .i64 (-1))) go (X.set r (j : Int)) := hXa.keep (setCell_other (Ne.symm hgg))
            have hcb := (O.out.1.fr hFb).count hn.out HA.out hWb (by rw [List.length_set, wOf_len, graph_len]; exact hn.out.symm) (-1) j hjk (fun m i h => bump_small k (-1) (.inr rfl) _ (graph_row l HWL.out j) _ (set_small (wOf_small l T (by have := hn.out; omega) HWL.out) j) m i h)
            have hws := wOf_set hsh j1 j2
            rw [graph_len, ← hn.out] at hws
            rw [hws] at hcb
            have HE : Hid (ordK (graph l) (r + 1) = some (os ++ [j], T.set j true) ∧ Fr W.heap.size [gw] W (wa.setCell ⟨gw, j, none⟩ (.int .i64 (-1))) ∧ NumsAt (wa.setCell ⟨gw, j, none⟩ (.int .i64 (-1))) go (X.set r (j : Int)) ∧ (X.set r (j : Int)).length = k ∧ (∀ i, i < r + 1 → (X.set r (j : Int)).getD i 0 = (((os ++ [j]).getD i 0 : Nat) : Int)) ∧ W.heap.size ≤ go) := by
              refine ⟨?_, hFb, hXb, by rw [List.length_set]; exact hXl, fun i hi => ?_, hgo⟩
              · rw [ordK, hord]; show (match nextG (graph l) T with | none => none | some j => some (os ++ [j], T.set j true)) = _; rw [hnx]
              · rw [List.getD_eq_getElem?_getD, List.getElem?_set]
                by_cases e : r = i
                · subst e
                  rw [if_pos rfl, if_pos (by omega), List.getD_eq_getElem?_getD, List.getElem?_append_right (by omega), hol]; simp
                · rw [if_neg e, ← List.getD_eq_getElem?_getD, hXk i (by omega), List.getD_eq_getElem?_getD, List.getD_eq_getElem?_getD, List.getElem?_append_left (by omega)]
            have hjj : ¬ (j : Int) < 0 := by omega
            clear hord hW' hF hX hXl hXk OR hnx hr hsh hol j1 j2 j3 lgo lgw hFa hWa hXa ORa hFb hWb hXb hws hwa
            go_wp2_with (first
              | (go_at_call 140; refine hc.mono ?_; rintro e w' ⟨rfl, rfl⟩)
              | (go_at_call 139; refine hcb.mono ?_; rintro e w' ⟨rfl, hc'⟩)
              | (at_builtin; refine wpList_app1 rfl (.tmp 36) (.tmp 38) _ rfl _ _ _ rfl rfl hap ?_))
            go_roundg (k - (r + 1))
            case measure => omega
            case rel =>
              obtain ⟨e1, e2, e3, e4, e5, e6⟩ := HE.out
              refine ⟨r + 1, rfl, by omega, rfl, by go_num, os ++ [j], T.set j true, X.set r (j : Int), e1, hc'.out.1, fr_on e2 hc'.out.2, e3.keep (hc'.out.2.block go (lt_of_block e3) (by simpa using Ne.symm hgg)), e4, e5, e6⟩
        · obtain rfl : r = k := by omega
          have HO : Hid (orderG (graph l) = some os) := by rw [Hid, orderG, graph_len, ← hn.out, hord]; rfl
          obtain ⟨-, hol, -⟩ := ordK_shut hord
          have HB : Hid (Below w.heap.size w wr ∧ NumsV (fun b => w.heap.size ≤ b) wr (.slice (some ⟨go, 0, none⟩) r r) os) := by
            refine ⟨O.out.2.2.1.trans ((hF.mono O.out.2.2.1.size (X' := []) (fun x hx h => by have := O.out.2.2.2.1; simp at hx; omega)).below), some ⟨go, 0, none⟩, go, r, by rw [hol], fun _ => ⟨rfl, Nat.le_trans O.out.2.2.1.size hgo, lt_of_block hX⟩, fun i hi => ?_⟩
            rw [hX.cell i (by omega), hXk i (by omega)]
          clear hord hW' hF hX hXl hXk hgo OR hr
          go_wp2_with fail
          go_ret2
          exact ⟨HB.out.1, .inr ⟨os, _, hoo.out.symm.trans HO.out, rfl, HB.out.2⟩⟩
end Go.Proofs.YtiihgnagjemikaaGreatDoor
/- The program's checker: a state's parts, as they lie. -/
namespace Go.Proofs.YtiihgnagjemikaaGreatDoor
open Go.RowKit Px

/-- a way, as it lies -/
def WayM (A : Nat → Prop) (w : World) (gy o : Nat) (y : Wy) (p : Option Addr) (q : Value) : Prop := w.cell? ⟨gy, o, none⟩ = some (.int .i64 (y.kind : Int)) ∧ w.cell? ⟨gy, o + 1, none⟩ = some (.bool y.now) ∧ w.cell? ⟨gy, o + 2, none⟩ = some (.pointer p) ∧ w.cell? ⟨gy, o + 3, none⟩ = some (.int .i64 (y.times : Int)) ∧ w.cell? ⟨gy, o + 4, none⟩ = some q ∧ w.cell? ⟨gy, o + 5, none⟩ = some (sv y.to) ∧ w.cell? ⟨gy, o + 6, none⟩ = some (.bool y.back) ∧ IsE A w y.cond (.pointer p) ∧ IsSets A w y.sets q
theorem IsWays.open {A : Nat → Prop} {w : World} {l : List Wy} {v : Value} (h : IsWays A w l v) :
    ∃ ad g cap, v = .slice ad l.length cap ∧ l.length ≤ maxLen ∧ (0 < l.length → ad = some ⟨g, 0, none⟩ ∧ g < w.heap.size) ∧ ∀ (i : Nat) (y : Wy), l[i]? = some y → ∃ p q, WayM A w g (i * 7) y p q := by
  obtain ⟨xs, hr, hs⟩ := h
  obtain ⟨ad, g, cap, h1, h2, h3, h4⟩ := Row.open (k := 7) (fun a c ⟨p, q, hc, _⟩ => by rw [hc]; rfl) hr hs
  refine ⟨ad, g, cap, h1, h2, fun hp => ⟨(h3 hp).1, (h3 hp).2.2⟩, fun i a hi => ?_⟩
  obtain ⟨c, ⟨p, q, rfl, hp, hq⟩, hx⟩ := h4 i a hi
  obtain ⟨u, rfl⟩ := hp.pt'
  exact ⟨u, q, hx 0 _ rfl, hx 1 _ rfl, hx 2 _ rfl, hx 3 _ rfl, hx 4 _ rfl, hx 5 _ rfl, hx 6 _ rfl, hp, hq⟩
theorem WayM.below {A : Nat → Prop} {w w' : World} {gy o : Nat} {y : Wy} {p : Option Addr} {q : Value} (h : WayM A w gy o y p q) (hb : Below w.heap.size w w') : WayM A w' gy o y p q := by
  obtain ⟨h0, h1, h2, h3, h4, h5, h6, h7, h8⟩ := h
  exact ⟨ck_cell hb h0, ck_cell hb h1, ck_cell hb h2, ck_cell hb h3, ck_cell hb h4, ck_cell hb h5, ck_cell hb h6, h7.carry fun x hx hlt => ⟨hx, hb.block x hlt⟩, h8.carry fun x hx hlt => ⟨hx, hb.block x hlt⟩⟩
theorem IsSets.sl' {A : Nat → Prop} {w : World} {l : List Asg} {v : Value} (h : IsSets A w l v) : ∃ a n c, v = .slice a n c := by
  obtain ⟨ad, g, cap, h1, _⟩ := h.open; exact ⟨_, _, _, h1⟩
/-- a state's parts -/
structure StM {ρ : Type} (A : Nat → Prop) (w : World) (g i : Nat) (s : StF ρ) (ve vd vl : Value) (p ay ar : Option Addr) (gy capy capr : Nat) : Prop where
  c0 : w.cell? ⟨g, i * 9, none⟩ = some (sv s.name)
  c1 : w.cell? ⟨g, i * 9 + 1, none⟩ = some (.bool s.first)
  c2 : w.cell? ⟨g, i * 9 + 2, none⟩ = some (.bool s.last)
  c3 : w.cell? ⟨g, i * 9 + 3, none⟩ = some ve
  c4 : w.cell? ⟨g, i * 9 + 4, none⟩ = some vd
  c5 : w.cell? ⟨g, i * 9 + 5, none⟩ = some vl
  c6 : w.cell? ⟨g, i * 9 + 6, none⟩ = some (.pointer p)
  c7 : w.cell? ⟨g, i * 9 + 7, none⟩ = some (.slice ay s.ways.length capy)
  c8 : w.cell? ⟨g, i * 9 + 8, none⟩ = some (.slice ar s.regions.length capr)
  he : IsSets A w s.enter ve
  hd : IsSets A w s.during vd
  hl : IsSets A w s.leave vl
  hp : IsE A w s.rests (.pointer p)
  hw : s.ways.length ≤ maxLen ∧ (0 < s.ways.length → ay = some ⟨gy, 0, none⟩ ∧ gy < w.heap.size) ∧ ∀ m y, s.ways[m]? = some y → ∃ p q, WayM A w gy (m * 7) y p q
theorem StM.below {ρ : Type} {A : Nat → Prop} {w w' : World} {g i : Nat} {s : StF ρ} {ve vd vl : Value} {p ay ar : Option Addr} {gy capy capr : Nat} (h : StM A w g i s ve vd vl p ay ar gy capy capr) (hb : Below w.heap.size w w') : StM A w' g i s ve vd vl p ay ar gy capy capr :=
  ⟨ck_cell hb h.c0, ck_cell hb h.c1, ck_cell hb h.c2, ck_cell hb h.c3, ck_cell hb h.c4, ck_cell hb h.c5, ck_cell hb h.c6, ck_cell hb h.c7, ck_cell hb h.c8, h.he.carry fun x hx hlt => ⟨hx, hb.block x hlt⟩, h.hd.carry fun x hx hlt => ⟨hx, hb.block x hlt⟩, h.hl.carry fun x hx hlt => ⟨hx, hb.block x hlt⟩, h.hp.carry fun x hx hlt => ⟨hx, hb.block x hlt⟩,
    h.hw.1, fun hp => ⟨(h.hw.2.1 hp).1, Nat.lt_of_lt_of_le (h.hw.2.1 hp).2 hb.size⟩, fun m y hm => by obtain ⟨p, q, hq⟩ := h.hw.2.2 m y hm; exact ⟨p, q, hq.below hb⟩⟩
theorem IsRegs.len {ρ : Type} {A : Nat → Prop} {w : World} {I : List ρ → Value → Prop} {l : List (List ρ)} {v : Value} (h : IsRegs A w I l v) : ∃ ad g cap, v = .slice ad l.length cap ∧ l.length ≤ maxLen ∧ (0 < l.length → ad = some ⟨g, 0, none⟩ ∧ g < w.heap.size) ∧ ∀ (i : Nat) (r : List ρ), l[i]? = some r → ∃ u, w.cell? ⟨g, i, none⟩ = some u ∧ I r u := by
  obtain ⟨xs, hr, hs⟩ := h
  obtain ⟨ad, g, cap, h1, h2, h3, h4⟩ := Row.open (k := 1) (fun a c ⟨u, hc, _⟩ => by rw [hc]; rfl) hr hs
  refine ⟨ad, g, cap, h1, h2, fun hp => ⟨(h3 hp).1, (h3 hp).2.2⟩, fun i a hi => ?_⟩
  obtain ⟨c, ⟨u, rfl, hu⟩, hx⟩ := h4 i a hi
  have := hx 0 u rfl
  rw [Nat.mul_one, Nat.add_zero] at this
  exact ⟨u, this, hu⟩
/-- a region that is not empty of depth, opened -/
theorem IsStates.open {A : Nat → Prop} {w : World} {k : Nat} {l : List (StF (St k))} {v : Value} (h : IsStates A w (k + 1) l v) :
    ∃ ad g cap, v = .slice ad l.length cap ∧ l.length ≤ maxLen ∧ (0 < l.length → ad = some ⟨g, 0, none⟩ ∧ g < w.heap.size) ∧ ∀ (i : Nat) (s : StF (St k)), l[i]? = some s → ∃ ve vd vl p ay ar gy capy capr, StM A w g i s ve vd vl p ay ar gy capy capr ∧ IsRegs A w (IsStates A w k) s.regions (.slice ar s.regions.length capr) := by
  obtain ⟨xs, hr, hs⟩ := h
  obtain ⟨ad, g, cap, h1, h2, h3, h4⟩ := Row.open (k := 9) (fun a c ⟨e, d, l, p, y, r, hc, _⟩ => by rw [hc]; rfl) hr hs
  refine ⟨ad, g, cap, h1, h2, fun hp => ⟨(h3 hp).1, (h3 hp).2.2⟩, fun i s hi => ?_⟩
  obtain ⟨c, ⟨e, d, l, p, y, r, rfl, q1, q2, q3, q4, q5, q6⟩, hx⟩ := h4 i s hi
  obtain ⟨u, rfl⟩ := q4.pt'
  obtain ⟨ay, gy, capy, rfl, y1, y2, y3⟩ := q5.open
  obtain ⟨ar, gr, capr, rfl, _⟩ := q6.len
  exact ⟨e, d, l, u, ay, ar, gy, capy, capr, ⟨hx 0 _ rfl, hx 1 _ rfl, hx 2 _ rfl, hx 3 _ rfl, hx 4 _ rfl, hx 5 _ rfl, hx 6 _ rfl, hx 7 _ rfl, hx 8 _ rfl, q1, q2, q3, q4, y1, y2, y3⟩, q6⟩
section
variable {ρ : Type}
/-- names are no longer than a string may be, and there is not too much of anything -/
def NmStF (s : StF ρ) : Prop := s.name.length ≤ maxLen ∧ NmSets s.enter ∧ NmSets s.during ∧ NmSets s.leave ∧ NmOk s.rests ∧ (∀ y ∈ s.ways, NmWay y) ∧ s.ways.length ≤ 1000000
theorem waysE_zero {vs : List Decl} {ns : List Str} {b : Bool} {l : List Wy} (k : Nat) (hz : ∀ j y, j < k → l[j]? = some y → wayE vs ns b y = 0) : waysE vs ns b l = waysE vs ns b (l.drop k) := by
  induction k generalizing l with
  | zero => rfl
  | succ k ih =>
    cases l with
    | nil => rfl
    | cons a r =>
      rw [waysE, if_neg (by simpa using hz 0 a (by omega) rfl), List.drop_succ_cons]
      exact ih fun j a' hj ha => hz (j + 1) a' (by omega) (by simpa using ha)
theorem waysE_at {vs : List Decl} {ns : List Str} {b : Bool} {l : List Wy} {k : Nat} {a : Wy} (hz : ∀ j y, j < k → l[j]? = some y → wayE vs ns b y = 0) (ha : l[k]? = some a) (hne : wayE vs ns b a ≠ 0) : waysE vs ns b l = wayE vs ns b a := by
  rw [waysE_zero k hz]
  have : l.drop k = a :: l.drop (k + 1) := by
    obtain ⟨hk, rfl⟩ := List.getElem?_eq_some_iff.1 ha
    exact List.drop_eq_getElem_cons hk
  rw [this, waysE, if_pos hne]
theorem waysE_all {vs : List Decl} {ns : List Str} {b : Bool} {l : List Wy} (hz : ∀ j y, j < l.length → l[j]? = some y → wayE vs ns b y = 0) : waysE vs ns b l = 0 := by
  rw [waysE_zero l.length hz, List.drop_length]; rfl
end
end Go.Proofs.YtiihgnagjemikaaGreatDoor
/- How what runs lies in memory: regions, their states, their ways; what is apart from what. -/
namespace Go.Proofs.YtiihgnagjemikaaGreatDoor
open Go.RowKit Px

/-- what a block of a region is for -/
abbrev Role := Nat × Nat × Nat
abbrev Role.reg : Role := (0, 0, 0)
abbrev Role.sts : Role := (1, 0, 0)
abbrev Role.junk : Role := (2, 0, 0)
abbrev Role.ways (i : Nat) : Role := (3, i, 0)
abbrev Role.ins (i : Nat) : Role := (4, i, 0)
abbrev Role.inner (i j : Nat) : Role := (5, i, j)
/-- a state of a region, or none -/
def pS (gS : Nat) : Option Nat → Value
  | none => .pointer none
  | some i => .pointer (some ⟨gS, i * 11, none⟩)
/-- a way, as it runs -/
structure WMem (A : Nat → Prop) (w : World) (ns : List Str) (gS gW j : Nat) (y : Wy) (c : Int) : Prop where
  way : ∃ p q, WayM A w gW (j * 9) y p q
  dest : ∃ t, fnd ns y.to = some t ∧ w.cell? ⟨gW, j * 9 + 7, none⟩ = some (.pointer (some ⟨gS, t * 11, none⟩))
  so : w.cell? ⟨gW, j * 9 + 8, none⟩ = some (.int .i64 c)
  fr : w.frozen? ⟨gW, j * 9 + 8, none⟩ = false
/-- a state, as it runs -/
structure SMem {σ ρ : Type} (A : Nat → Prop) (w : World) (RM : (Nat → Prop) → List σ → ρ → Nat → Prop) (P : Nat → Prop) (role : Nat → Role) (ns : List Str) (gS i : Nat) (s : StF σ) (x : SdF ρ) (gW gI : Nat) (gr : Nat → Nat) : Prop where
  c0 : w.cell? ⟨gS, i * 11, none⟩ = some (sv s.name)
  c2 : w.cell? ⟨gS, i * 11 + 2, none⟩ = some (.bool s.last)
  en : ∃ v, w.cell? ⟨gS, i * 11 + 3, none⟩ = some v ∧ IsSets A w s.enter v
  du : ∃ v, w.cell? ⟨gS, i * 11 + 4, none⟩ = some v ∧ IsSets A w s.during v
  le : ∃ v, w.cell? ⟨gS, i * 11 + 5, none⟩ = some v ∧ IsSets A w s.leave v
  re : ∃ p, w.cell? ⟨gS, i * 11 + 6, none⟩ = some (.pointer p) ∧ IsE A w s.rests (.pointer p)
  wy : ∃ ad cap, w.cell? ⟨gS, i * 11 + 9, none⟩ = some (.slice ad s.ways.length cap) ∧ (0 < s.ways.length → ad = some ⟨gW, 0, none⟩ ∧ P gW ∧ role gW = Role.ways i)
  wl : x.so.length = s.ways.length
  wm : ∀ j y c, s.ways[j]? = some y → x.so[j]? = some c → WMem A w ns gS gW j y c
  iy : ∃ ad cap, w.cell? ⟨gS, i * 11 + 10, none⟩ = some (.slice ad s.regions.length cap) ∧ (0 < s.regions.length → ad = some ⟨gI, 0, none⟩ ∧ P gI ∧ role gI = Role.ins i)
  il : x.inside.length = s.regions.length
  im : ∀ j r d, s.regions[j]? = some r → x.inside[j]? = some d → w.cell? ⟨gI, j, none⟩ = some (.pointer (some ⟨gr j, 0, none⟩)) ∧ RM (fun b => P b ∧ role b = Role.inner i j) r d (gr j)
/-- where a region's parts lie -/
structure Lie where
  gS : Nat
  gW : Nat → Nat
  gI : Nat → Nat
  gr : Nat → Nat → Nat
  role : Nat → Role
  fi : Nat
/-- a region, as it runs -/
structure RMem {σ ρ : Type} (A : Nat → Prop) (w : World) (RM : (Nat → Prop) → List σ → ρ → Nat → Prop) (P : Nat → Prop) (L : List (StF σ)) (d : RdF ρ) (g : Nat) (l : Lie) : Prop where
  hg : w.heap[g]? = some (.cells #[pS l.gS (some l.fi), pS l.gS d.there, pS l.gS d.was] 101 (0, 0))
  hf : firstI L = some l.fi
  pg : P g ∧ l.role g = Role.reg
  ps : P l.gS ∧ l.role l.gS = Role.sts
  len : d.sts.length = L.length
  th : ∀ i, d.there = some i → i < L.length
  wa : ∀ i, d.was = some i → i < L.length
  st : ∀ i s x, L[i]? = some s → d.sts[i]? = some x → SMem A w RM P l.role (snames L) l.gS i s x (l.gW i) (l.gI i) (l.gr i)
def RegM (A : Nat → Prop) : (k : Nat) → World → (Nat → Prop) → List (St k) → Rd k → Nat → Prop
  | 0 => fun _ _ _ _ _ => False
  | k + 1 => fun w P L d g => ∃ l, RMem A w (RegM A k w) P L d g l
section
variable {A P : Nat → Prop} {w w' : World}
theorem WMem.keep {ns : List Str} {gS gW j : Nat} {y : Wy} {c : Int} (h : WMem A w ns gS gW j y c) (hA : ∀ b, A b → b < w.heap.size → w'.heap[b]? = w.heap[b]?) (hW : w'.heap[gW]? = w.heap[gW]?) : WMem A w' ns gS gW j y c := by
  obtain ⟨⟨p, q, h0, h1, h2, h3, h4, h5, h6, h7, h8⟩, ⟨t, ht, h9⟩, h10, h11⟩ := h
  have kp : Keep A A w w' := fun b hb hlt => ⟨hb, hA b hb hlt⟩
  have hc : ∀ {o : Nat} {v : Value}, w.cell? ⟨gW, o, none⟩ = some v → w'.cell? ⟨gW, o, none⟩ = some v := fun {o v} hv => by rw [World.cell?_of_block (w := w) (a := ⟨gW, o, none⟩) hW]; exact hv
  refine ⟨⟨p, q, hc h0, hc h1, hc h2, hc h3, hc h4, hc h5, hc h6, h7.carry kp, h8.carry kp⟩, ⟨t, ht, hc h9⟩, hc h10, ?_⟩
  have : w'.frozen? ⟨gW, j * 9 + 8, none⟩ = w.frozen? ⟨gW, j * 9 + 8, none⟩ := by simp only [World.frozen?, hW]
  rw [this]; exact h11
theorem SMem.keep {σ ρ : Type} {RM RM' : (Nat → Prop) → List σ → ρ → Nat → Prop} {role : Nat → Role} {ns : List Str} {gS i : Nat} {s : StF σ} {x : SdF ρ} {gW gI : Nat} {gr : Nat → Nat} (h : SMem A w RM P role ns gS i s x gW gI gr) (hA : ∀ b, A b → b < w.heap.size → w'.heap[b]? = w.heap[b]?)
    (hS : w'.heap[gS]? = w.heap[gS]?) (hW : 0 < s.ways.length → w'.heap[gW]? = w.heap[gW]?) (hI : 0 < s.regions.length → w'.heap[gI]? = w.heap[gI]?) (hR : ∀ j r d, s.regions[j]? = some r → x.inside[j]? = some d → RM (fun b => P b ∧ role b = Role.inner i j) r d (gr j) → RM' (fun b => P b ∧ role b = Role.inner i j) r d (gr j)) : SMem A w' RM' P role ns gS i s x gW gI gr := by
  have kp : Keep A A w w' := fun b hb hlt => ⟨hb, hA b hb hlt⟩
  have hc : ∀ {o : Nat} {v : Value}, w.cell? ⟨gS, o, none⟩ = some v → w'.cell? ⟨gS, o, none⟩ = some v := fun {o v} hv => by rw [World.cell?_of_block (w := w) (a := ⟨gS, o, none⟩) hS]; exact hv
  obtain ⟨c0, c2, ⟨ve, e1, e2⟩, ⟨vd, d1, d2⟩, ⟨vl, l1, l2⟩, ⟨p, p1, p2⟩, ⟨aw, cw, w1, w2⟩, wl, wm, ⟨ai, ci, i1, i2⟩, il, im⟩ := h
  refine ⟨hc c0, hc c2, ⟨ve, hc e1, e2.carry kp⟩, ⟨vd, hc d1, d2.carry kp⟩, ⟨vl, hc l1, l2.carry kp⟩, ⟨p, hc p1, p2.carry kp⟩, ⟨aw, cw, hc w1, w2⟩, wl, fun j y c hy hc' => ?_, ⟨ai, ci, hc i1, i2⟩, il, fun j r d hr hd => ?_⟩
  · have hlt : j < s.ways.length := (List.getElem?_eq_some_iff.1 hy).1
    exact (wm j y c hy hc').keep hA (hW (by omega))
  · have hlt : j < s.regions.length := (List.getElem?_eq_some_iff.1 hr).1
    obtain ⟨h1, h2⟩ := im j r d hr hd
    exact ⟨by rw [World.cell?_of_block (w := w) (a := ⟨gI, j, none⟩) (hI (by omega))]; exact h1, hR j r d hr hd h2⟩
theorem RegM.keep : ∀ (k : Nat) {P : Nat → Prop} {L : List (St k)} {d : Rd k} {g : Nat}, RegM A k w P L d g → (∀ b, A b → b < w.heap.size → w'.heap[b]? = w.heap[b]?) → (∀ b, P b → w'.heap[b]? = w.heap[b]?) → RegM A k w' P L d g := by
  intro k
  induction k with
  | zero => intro P L d g h _ _; exact h.elim
  | succ k ih =>
    intro P L d g h hA hP
    obtain ⟨l, h⟩ := h
    refine ⟨l, ⟨by rw [hP g h.pg.1]; exact h.hg, h.hf, h.pg, h.ps, h.len, h.th, h.wa, fun i s x hs hx => ?_⟩⟩
    have hm := h.st i s x hs hx
    exact hm.keep hA (hP _ h.ps.1) (fun hw => hP _ (hm.wy.elim fun _ ⟨_, _, h⟩ => (h hw).2.1)) (fun hi => hP _ (hm.iy.elim fun _ ⟨_, _, h⟩ => (h hi).2.1)) (fun j r d' _ _ hr => ih hr hA fun b hb => hP b hb.1)
/-- what is there of a region is a last one -/
def OverM (w : World) (g : Nat) (b : Bool) : Prop := (w.cell? ⟨g, 1, none⟩ = some (.pointer none) ∧ b = false) ∨ ∃ gS i, w.cell? ⟨g, 1, none⟩ = some (.pointer (some ⟨gS, i * 11, none⟩)) ∧ w.cell? ⟨gS, i * 11 + 2, none⟩ = some (.bool b)
theorem RMem.over {σ ρ : Type} {RM : (Nat → Prop) → List σ → ρ → Nat → Prop} {L : List (StF σ)} {d : RdF ρ} {g : Nat} {l : Lie} (h : RMem A w RM P L d g l) : OverM w g (overR L d) := by
  have hc := cell_row h.hg 1 rfl
  unfold overR
  cases ht : d.there with
  | none => rw [ht] at hc; exact .inl ⟨hc, rfl⟩
  | some i =>
    rw [ht] at hc
    have hi := h.th i ht
    have h1 : L[i]? = some (L[i]'hi) := List.getElem?_eq_getElem hi
    have h2 : d.sts[i]? = some (d.sts[i]'(by rw [h.len]; exact hi)) := List.getElem?_eq_getElem _
    have hm := h.st i _ _ h1 h2
    refine .inr ⟨l.gS, i, hc, ?_⟩
    simp only [h1]
    exact hm.c2
theorem RegM.over : ∀ (k : Nat) {L : List (St k)} {d : Rd k} {g : Nat}, RegM A k w P L d g → OverM w g ((OpsK k).over L d) := by
  intro k
  cases k with
  | zero => intro L d g h; exact h.elim
  | succ k => intro L d g h; obtain ⟨l, h⟩ := h; exact h.over
/-- a runner's blocks, the chart's, and a region's are apart -/
structure Sep (A P : Nat → Prop) (w : World) (rb bn bw : Nat) : Prop where
  a : ∀ b, A b → b < w.heap.size ∧ ¬ P b ∧ b ≠ bn
  p : ∀ b, P b → b < w.heap.size ∧ b ≠ rb ∧ b ≠ bn ∧ b ≠ bw
  rn : rb ≠ bn
  wn : bw ≠ bn
theorem Sep.up {rb bn bw : Nat} (h : Sep A P w rb bn bw) (hs : w.heap.size ≤ w'.heap.size) : Sep A P w' rb bn bw :=
  ⟨fun b hb => ⟨Nat.lt_of_lt_of_le (h.a b hb).1 hs, (h.a b hb).2⟩, fun b hb => ⟨Nat.lt_of_lt_of_le (h.p b hb).1 hs, (h.p b hb).2⟩, h.rn, h.wn⟩
theorem Sep.sub {Q : Nat → Prop} {rb bn bw : Nat} (h : Sep A P w rb bn bw) (hQ : ∀ b, Q b → P b) : Sep A Q w rb bn bw :=
  ⟨fun b hb => ⟨(h.a b hb).1, fun hq => (h.a b hb).2.1 (hQ b hq), (h.a b hb).2.2⟩, fun b hb => h.p b (hQ b hb), h.rn, h.wn⟩
/-- all old blocks but the variables' and those are as they were -/
structure FrP (P : Nat → Prop) (bn : Nat) (w w' : World) : Prop where
  os : w'.os = w.os
  tape : w'.tape = w.tape
  output : w'.output = w.output
  size : w.heap.size ≤ w'.heap.size
  block : ∀ b, b < w.heap.size → ¬ P b → b ≠ bn → w'.heap[b]? = w.heap[b]?
theorem FrP.refl (P : Nat → Prop) (bn : Nat) (w : World) : FrP P bn w w := ⟨rfl, rfl, rfl, Nat.le_refl _, fun _ _ _ _ => rfl⟩
theorem FrP.trans {bn : Nat} {w'' : World} (h : FrP P bn w w') (k : FrP P bn w' w'') : FrP P bn w w'' :=
  ⟨k.os.trans h.os, k.tape.trans h.tape, k.output.trans h.output, Nat.le_trans h.size k.size, fun b hb hp hn => (k.block b (Nat.lt_of_lt_of_le hb h.size) hp hn).trans (h.block b hb hp hn)⟩
theorem FrP.wide {Q : Nat → Prop} {bn : Nat} (h : FrP P bn w w') (hQ : ∀ b, P b → Q b) : FrP Q bn w w' := ⟨h.os, h.tape, h.output, h.size, fun b hb hp hn => h.block b hb (fun h => hp (hQ b h)) hn⟩
theorem FrP.of_below {bn : Nat} (h : Below w.heap.size w w') : FrP P bn w w' := ⟨h.os, h.tape, h.output, h.size, fun b hb _ _ => h.block b hb⟩
theorem FrP.grown {bn : Nat} {w'' : World} (h : FrP P bn w w') (hg : w'.grownBy w'' (some bn)) : FrP P bn w w'' :=
  h.trans ⟨hg.os, hg.tape, hg.output, hg.size, fun b hb _ hn => hg.block b hb (fun e => hn (by injection e))⟩
theorem FrP.setCell {bn : Nat} (h : FrP P bn w w') {p : Addr} (hp : P p.block) (u : Value) : FrP P bn w (w'.setCell p u) :=
  h.trans ⟨rfl, rfl, rfl, by simp [World.setCell], fun b _ hb _ => Below.heap_setCell _ _ _ _ (fun e => hb (e ▸ hp))⟩
theorem FrP.drew {bn : Nat} (h : FrP P bn w w') : FrP P bn w w'.drew := ⟨h.os, h.tape, h.output, h.size, h.block⟩
theorem FrP.cell {bn : Nat} (h : FrP P bn w w') {a : Addr} {v : Value} (hc : w.cell? a = some v) (hp : ¬ P a.block) (hn : a.block ≠ bn) : w'.cell? a = some v := by
  rw [World.cell?_of_block (w := w) (h.block a.block (World.block_lt_of_cell? w a hc) hp hn)]; exact hc
/-- the chart stays -/
theorem FrP.chart {bn : Nat} (h : FrP P bn w w') (hA : ∀ b, A b → b < w.heap.size ∧ ¬ P b ∧ b ≠ bn) : ∀ b, A b → b < w.heap.size → w'.heap[b]? = w.heap[b]? := fun b hb hlt => h.block b hlt (hA b hb).2.1 (hA b hb).2.2
/-- a region that is apart stays -/
theorem FrP.region {Q : Nat → Prop} {bn k : Nat} {L : List (St k)} {d : Rd k} {g : Nat} (h : FrP P bn w w') (hA : ∀ b, A b → b < w.heap.size ∧ ¬ P b ∧ b ≠ bn) (hQ : ∀ b, Q b → b < w.heap.size ∧ ¬ P b ∧ b ≠ bn) (hr : RegM A k w Q L d g) : RegM A k w' Q L d g :=
  RegM.keep k hr (h.chart hA) fun b hb => h.block b (hQ b hb).1 (hQ b hb).2.1 (hQ b hb).2.2
end
end Go.Proofs.YtiihgnagjemikaaGreatDoor
/- The runner's do: what is set, one by one. -/
namespace Go.Proofs.YtiihgnagjemikaaGreatDoor
open Go.RowKit Px

theorem doS_snoc (was : Px.Env) (l : List Asg) (a : Asg) (n : Px.Env) : doS was (l ++ [a]) n = updE (doS was l n) a.name (evE (doS was l n) was a.e) := by
  induction l generalizing n with
  | nil => rfl
  | cons b r ih => exact ih _
theorem doS_take (was : Px.Env) {l : List Asg} {k : Nat} {a : Asg} (h : l[k]? = some a) (n : Px.Env) : doS was (l.take (k + 1)) n = updE (doS was (l.take k) n) a.name (evE (doS was (l.take k) n) was a.e) := by
  rw [List.take_add_one, h]
  exact doS_snoc was _ a n
section
variable {A : Nat → Prop} {w w' : World} {rb bn bw m : Nat} {ns : List Str} {now was : Px.Env}
theorem IsSets.open2 {l : List Asg} {v : Value} (h : IsSets A w l v) :
    ∃ ad g cap, v = .slice ad l.length cap ∧ l.length ≤ maxLen ∧ (0 < l.length → ad = some ⟨g, 0, none⟩ ∧ A g ∧ g < w.heap.size) ∧ ∀ (i : Nat) (a : Asg), l[i]? = some a → ∃ p, w.cell? ⟨g, i * 2, none⟩ = some (sv a.name) ∧ w.cell? ⟨g, i * 2 + 1, none⟩ = some (.pointer p) ∧ IsE A w a.e (.pointer p) := by
  obtain ⟨xs, hr, hs⟩ := h
  obtain ⟨ad, g, cap, h1, h2, h3, h4⟩ := Row.open (k := 2) (fun a c ⟨p, hc, _⟩ => by rw [hc]; rfl) hr hs
  refine ⟨ad, g, cap, h1, h2, h3, fun i a hi => ?_⟩
  obtain ⟨c, ⟨p, rfl, hp⟩, hx⟩ := h4 i a hi
  obtain ⟨u, rfl⟩ := hp.pt'
  exact ⟨u, hx 0 _ rfl, hx 1 _ rfl, hp⟩
theorem RunV.fr {P : Nat → Prop} (h : RunV w rb bn bw m ns now was) (hf : FrP P bn w w') (hr : ¬ P rb ∧ rb ≠ bn) (hw : ¬ P bw ∧ bw ≠ bn) {now' : Px.Env} (hm : MapE w' bn m ns now') : RunV w' rb bn bw m ns now' was :=
  ⟨hf.cell h.hn hr.1 hr.2, hf.cell h.hw hr.1 hr.2, hm, h.mw.keep (hf.block bw h.mw.lt hw.1 hw.2), h.hm⟩
set_option maxRecDepth 100000 in
set_option maxHeartbeats 4000000 in
theorem do_any {l : List Asg} {v : Value} (hl : SetsR ns l) (hv : IsSets A w l v) (h : RunV w rb bn bw m ns now was) (hA : ∀ b, A b → b < w.heap.size ∧ b ≠ bn) (hrn : rb ≠ bn) (hwn : bw ≠ bn) :
    Calls Tryz.prog 101 #[.pointer (some ⟨rb, 0, none⟩), v] w fun e w' => e = .returned (.tuple #[]) ∧ Hid (RunV w' rb bn bw m ns (doS was l now) was ∧ FrP (fun _ => False) bn w w') := by
  obtain ⟨ad, g, cap, rfl, hmx, hg, hcs⟩ := hv.open2
  obtain ⟨N, hN⟩ : ∃ N, N = l.length := ⟨_, rfl⟩
  rw [← hN] at hmx hg ⊢
  have HN : Hid (N = l.length) := hN
  have HA : Hid (∀ b, A b → b < w.heap.size ∧ b ≠ bn) := hA
  have HG : Hid (0 < N → ad = some ⟨g, 0, none⟩ ∧ A g ∧ g < w.heap.size) := hg
  have HCS : Hid (∀ (i : Nat) (a : Asg), l[i]? = some a → ∃ p, w.cell? ⟨g, i * 2, none⟩ = some (sv a.name) ∧ w.cell? ⟨g, i * 2 + 1, none⟩ = some (.pointer p) ∧ IsE A w a.e (.pointer p)) := hcs
  have HL : Hid (SetsR ns l) := hl
  have HV : Hid (RunV w rb bn bw m ns now was ∧ rb ≠ bn ∧ bw ≠ bn) := ⟨h, hrn, hwn⟩
  have hN6 : (N : Int) ≤ 9223372036854775807 := by unfold maxLen at hmx; omega
  clear hv hl h hA hrn hwn hN hmx hg hcs
  go_enter Tryz.func101, Tryz.ntmps101
  go_wp2_with fail
  go_loopg [8] N (fun f i wr => ∃ k : Nat, f = N - k ∧ k ≤ N ∧ i = .int .i64 (k : Int) ∧ Hid (RunV wr rb bn bw m ns (doS was (l.take k) now) was ∧ FrP (fun _ => False) bn w wr))
  case atStart => exact ⟨0, by omega, by omega, rfl, HV.out.1, FrP.refl _ _ _⟩
  case round =>
    obtain ⟨k, rfl, hk, rfl, hr⟩ := hrel
    by_cases hlt : k < N
    · obtain ⟨a, ha⟩ : ∃ a, l[k]? = some a := ⟨l[k]'(by rw [← HN.out]; exact hlt), by rw [List.getElem?_eq_getElem]⟩
      obtain ⟨p, c0, c1, he⟩ := HCS.out k a ha
      obtain ⟨hg1, hg2, hg3⟩ := HG.out (by omega)
      have hix := ixS ad g N cap k hlt (fun _ => hg1)
      have hgn := (HA.out g hg2).2
      have c0 := hr.out.2.cell c0 (fun h => h) hgn
      have c1 := hr.out.2.cell c1 (fun h => h) hgn
      obtain ⟨h1, h2, h3⟩ := HL.out a (List.mem_of_getElem? ha)
      obtain ⟨S, hS⟩ : ∃ S, Value.string S = sv a.name := ⟨_, rfl⟩
      rw [← hS] at c0
      obtain ⟨X, hX⟩ : ∃ X, X = wr.alloc (.cells #[.string S, .pointer p] 203) := ⟨_, rfl⟩
      obtain ⟨q, hq⟩ : ∃ q, q = wr.heap.size := ⟨_, rfl⟩
      have hbx : Below wr.heap.size wr X := by rw [hX]; exact ck_grown _ _
      have hkx : X.heap[q]? = some (.cells #[.string S, .pointer p] 203 (0, 0)) := by rw [hX, hq]; exact ck_new _ _
      have hbd : Below X.heap.size X X.drew := (Below.refl _ _).drew
      have hrv := (hr.out.1.below hbx).below hbd
      have kpA : Keep A A w X.drew := fun b hb hlt => ⟨hb, by rw [hbd.block b (Nat.lt_of_lt_of_le hlt (Nat.le_trans hr.out.2.size hbx.size)), hbx.block b (Nat.lt_of_lt_of_le hlt hr.out.2.size), hr.out.2.block b hlt (fun h => h) (HA.out b hb).2]⟩
      have hcall := ueval_any h3 (he.carry kpA) hrv
      obtain ⟨x, hx⟩ : ∃ x, x = evE (doS was (l.take k) now) was a.e := ⟨_, rfl⟩
      have hx64 : N64 x := by rw [hx]; exact evE_n64 (fun s hs => (hr.out.1.mn.look hs).2) (fun s hs => (hr.out.1.mw.look hs).2) _ h3
      rw [← hx] at hcall
      unfold EvTo at hcall
      have HP : Hid (∀ W, Below X.drew.heap.size X.drew W → W.cell? ⟨rb, 1, none⟩ = some (.map (some bn)) ∧ W.cell? ⟨q, 0, none⟩ = some (.string S) ∧ W.cell? ⟨q, 1, none⟩ = some (.pointer p)) := fun W hW =>
        ⟨ck_cell hW hrv.hn, ck_cell hW (cell_row hkx 0 rfl), ck_cell hW (cell_row hkx 1 rfl)⟩
      have HPUT : Hid (∀ W, Below X.drew.heap.size X.drew W → ∃ W', (Instr.mapUpdate 91 (.map (some bn)) (.string S) (.int .i64 x)).run Tryz.prog W = .ok () W' ∧ MapE W' bn m ns (doS was (l.take (k + 1)) now) ∧ W.grownBy W' (some bn)) := fun W hW => by
        obtain ⟨W', r1, r2, r3⟩ := (hrv.below hW).mn.put hrv.hm h1 h2 hx64
        rw [← hS] at r1
        exact ⟨W', r1, by rw [doS_take was ha, ← hx]; exact r2, r3⟩
      have HF : Hid (FrP (fun _ => False) bn w X.drew ∧ q ≠ bn) := ⟨hr.out.2.trans (FrP.of_below (hbx.drew)), by have := hr.out.1.mn.lt; omega⟩
      obtain ⟨p1, p2, p3⟩ := HP.out X.drew (Below.refl _ _)
      clear hr ha he h1 h2 h3 hS hbx hbd hrv kpA hx hx64 hg1 hg2 hg3 hgn hkx
      go_upto_region 3 with fail
      rw [← hX, ← hq]
      clear hX hq c0 c1 hix
      go_region_held3 (fun W => W.cell? ⟨rb, 1, none⟩ = some (.map (some bn)) ∧ W.cell? ⟨q, 0, none⟩ = some (.string S) ∧ W.cell? ⟨q, 1, none⟩ = some (.pointer p)) (first | exact HP.out _ hr.out | exact HZ.out | go_keep)
        (first
          | (go_at_call 106; refine hcall.mono ?_; rintro e w1 ⟨rfl, hr⟩; obtain ⟨w2, hrun, hM2, hg2⟩ := HPUT.out w1 hr.out; have HZ : Hid (w2.cell? ⟨rb, 1, none⟩ = some (.map (some bn)) ∧ w2.cell? ⟨q, 0, none⟩ = some (.string S) ∧ w2.cell? ⟨q, 1, none⟩ = some (.pointer p)) := by { have hz := HP.out w1 hr.out; have fz : FrP (fun _ => False) bn w1 w2 := (FrP.refl _ _ _).grown hg2; exact ⟨fz.cell hz.1 (fun h => h) HV.out.2.1, fz.cell hz.2.1 (fun h => h) HF.out.2, fz.cell hz.2.2 (fun h => h) HF.out.2⟩ }))
      all_goals
        go_wp2_with fail
        go_roundg (N - (k + 1))
        case measure => omega
        case rel => exact ⟨k + 1, rfl, by omega, by go_num, HV.out.1.fr ((HF.out.1.trans (FrP.of_below hr.out)).grown hg2) ⟨fun h => h, HV.out.2.1⟩ ⟨fun h => h, HV.out.2.2⟩ hM2, (HF.out.1.trans (FrP.of_below hr.out)).grown hg2⟩
    · obtain rfl : k = N := by omega
      have hfin := hr.out
      rw [HN.out, List.take_length] at hfin
      have HFIN : Hid (RunV wr rb bn bw m ns (doS was l now) was ∧ FrP (fun _ => False) bn w wr) := hfin
      clear hr hfin
      go_wp2_with fail
      go_end0
      exact ⟨rfl, HFIN.out⟩
end
end Go.Proofs.YtiihgnagjemikaaGreatDoor
