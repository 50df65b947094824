/- keep's few and sameNumbers; how many are there; two ticks of the small chart. -/
import Derived.Test.YtiihgnagjemikaaGreatDoorVKj0
import Derived.Test.YtiihgnagjemikaaGreatDoorVUn2
namespace Go.Proofs.YtiihgnagjemikaaGreatDoor
open Go.RowKit Px
theorem flat_len {α β γ : Type} {f : α → β → List γ} {g : α → Nat} (h : ∀ a b, (f a b).length ≤ g a) : ∀ (l : List α) (m : List β), (List.zipWith f l m).flatten.length ≤ sumC g l
  | [], _ => by simp
  | _ :: _, [] => by simp
  | a :: l, b :: m => by
    rw [List.zipWith_cons_cons, List.flatten_cons, List.length_append, sumC]
    have h1 := h a b
    have h2 := flat_len h l m
    omega
theorem thereF_len {k : Nat} (ih : ∀ (L : List (St k)) (d : Rd k), (thereK k L d).length ≤ cRg k L) (L : List (StF (St k))) (d : RdF (Rd k)) : (thereF (thereK k) L d).length ≤ cRg (k + 1) L := by
  unfold thereF
  split
  · exact Nat.zero_le _
  · split
    · rename_i s x hs hx
      have h1 := flat_len (f := thereK k) (g := cRg k) ih s.regions x.inside
      have h2 : 1 + cIn (k + 1) s ≤ cRg (k + 1) L := sumC_mem (fun x : St (k + 1) => 1 + cIn (k + 1) x) (List.mem_of_getElem? hs)
      have h3 : cIn (k + 1) s = sumC (cRg k) s.regions := rfl
      rw [List.length_cons]
      omega
    · exact Nat.zero_le _
theorem there_len : ∀ (k : Nat) (L : List (St k)) (d : Rd k), (thereK k L d).length ≤ cRg k L
  | 0, _, _ => Nat.zero_le _
  | k + 1, L, d => thereF_len (there_len k) L d
theorem thereC_len {c : Chart} (hN : NmChart c) (r : Rn) : (thereC c r).length ≤ 1000000 := by
  unfold thereC
  have := flat_len (f := thereK 6) (g := cRg 6) (there_len 6) c.regions r.ds
  have := hN.many
  omega
theorem INums.below {w w' : World} {v : Value} {zs : List Int} (h : INums w v zs) (hb : Below w.heap.size w w') : INums w' v zs := by
  obtain ⟨ad, b, off, cap, h1, h2, h3, h4, h5⟩ := h
  exact ⟨ad, b, off, cap, h1, h2, h3, h4, fun k hk => ck_cell hb (h5 k hk)⟩
/-- .. over other steps -/
theorem below_frq {B : Nat} {Q : Nat → Prop} {a w w' : World} (h : Below B a w) (hf : FrQ Q w w') (hQ : ∀ b, Q b → B ≤ b) (hs : B ≤ w.heap.size) : Below B a w' :=
  ⟨hf.os.trans h.os, hf.tape.trans h.tape, hf.output.trans h.output, Nat.le_trans h.size hf.size, fun b hb => (hf.block b (Nat.lt_of_lt_of_le hb hs) (fun hq => absurd (hQ b hq) (by omega))).trans (h.block b hb)⟩
namespace Kx
/-- rows of numbers -/
def IRws (w : World) (v : Value) (zss : List (List Int)) : Prop :=
  ∃ ad b off cap, v = .slice ad zss.length cap ∧ (0 < zss.length → ad = some ⟨b, off, none⟩) ∧ ∀ (k : Nat) (zs : List Int), zss[k]? = some zs → ∃ a c, w.cell? ⟨b, off + k, none⟩ = some (.slice a zs.length c) ∧ INums w (.slice a zs.length c) zs
theorem IRws.below {w w' : World} {v : Value} {zss : List (List Int)} (h : IRws w v zss) (hb : Below w.heap.size w w') : IRws w' v zss := by
  obtain ⟨ad, b, off, cap, h1, h2, h3⟩ := h
  refine ⟨ad, b, off, cap, h1, h2, fun k zs hk => ?_⟩
  obtain ⟨a, c, h4, h5⟩ := h3 k zs hk
  exact ⟨a, c, ck_cell hb h4, h5.below hb⟩
theorem ixM (ad : Option Addr) (b off n cap k : Nat) (hk : k < n) (ha : 0 < n → ad = some ⟨b, off, none⟩) (w : World) : (Instr.indexAt 22 (.slice ad n cap) (.int .i64 (k : Int))).run Tryz.prog w = .ok (.pointer (some ⟨b, off + k, none⟩)) w := by
  obtain rfl := ha (by omega)
  rw [run_indexAt_slice _ _ _ _ _ _ _ (by kernel_rfl), if_pos ⟨by omega, by omega⟩]
  have e : (sizeOf (Tryz.prog.elem 22)).run Tryz.prog w = .ok 1 w := by kernel_rfl
  rw [e]
  simp [Result.andThen, Addr.add]
def Few (zss : List (List Int)) : Prop := zss.length ≤ 40 ∧ ∀ zs ∈ zss, zs.length ≤ 30
theorem few_big (ad : Option Addr) (n cap : Nat) (w : World) (hn : 40 < n) :
    Calls Tryz.prog 4 #[.slice ad n cap] w fun e w' => e = .returned (.bool false) ∧ w' = w := by
  go_enter Tryz.func4, Tryz.ntmps4
  go_wp2
  go_ret
  exact ⟨rfl, rfl⟩
set_option maxHeartbeats 1000000 in
/-- rows of these lengths: few, or not -/
theorem few_rows (ad : Option Addr) (n cap b off : Nat) (w : World) (L : Nat → Nat) (hn : n ≤ 40) (ha : 0 < n → ad = some ⟨b, off, none⟩)
    (hc : ∀ k, k < n → ∃ a c, w.cell? ⟨b, off + k, none⟩ = some (.slice a (L k) c)) :
    Calls Tryz.prog 4 #[.slice ad n cap] w fun e w' => (e = .returned (.bool true) ∧ (∀ k, k < n → L k ≤ 30) ∨ e = .returned (.bool false) ∧ ¬ ∀ k, k < n → L k ≤ 30) ∧ w' = w := by
  have HA : Hid (0 < n → ad = some ⟨b, off, none⟩) := ha
  have HC : Hid (∀ k, k < n → ∃ a c, w.cell? ⟨b, off + k, none⟩ = some (.slice a (L k) c)) := hc
  clear ha hc
  go_enter Tryz.func4, Tryz.ntmps4
  go_wp2
  go_loopw [3] (fun i wr => ∃ k : Nat, k ≤ n ∧ i = .int .i64 k ∧ Hid (∀ j, j < k → L j ≤ 30) ∧ wr = w) (fun i _ => n - (intOf i).toNat)
  case atStart => exact ⟨0, Nat.zero_le _, rfl, fun j hj => by omega, rfl⟩
  case round =>
    obtain ⟨k, hk, rfl, HL, hw⟩ := hrel
    obtain rfl := hw
    by_cases hlt : k < n
    · have hix := ixM ad b off n cap k hlt HA.out
      obtain ⟨a, c, cx⟩ := HC.out k hlt
      obtain ⟨l, hl⟩ : ∃ l, l = L k := ⟨_, rfl⟩
      rw [← hl] at cx
      have HLK : Hid (l = L k) := hl
      clear hl
      by_cases h30 : l ≤ 30
      · go_wp2
        go_roundw
        case rel => exact ⟨k + 1, by omega, by go_num, fun j hj => by
          by_cases e : j = k
          · subst e; rw [← HLK.out]; exact h30
          · exact HL.out j (by omega), by first | trivial | rfl⟩
        case measure => simp [intOf]; omega
      · go_wp2
        go_ret
        exact ⟨.inr ⟨rfl, fun hh => h30 (by rw [HLK.out]; exact hh k hlt)⟩, rfl⟩
    · obtain rfl : k = n := by omega
      go_wp2
      go_ret
      exact ⟨.inl ⟨rfl, HL.out⟩, rfl⟩
theorem few_any {w : World} {v : Value} {zss : List (List Int)} (h : IRws w v zss) :
    Calls Tryz.prog 4 #[v] w fun e w' => (e = .returned (.bool true) ∧ Few zss ∨ e = .returned (.bool false) ∧ ¬ Few zss) ∧ w' = w := by
  obtain ⟨ad, b, off, cap, rfl, h2, h3⟩ := h
  by_cases hn : zss.length ≤ 40
  · refine (few_rows ad zss.length cap b off w (fun k => (zss.getD k []).length) hn h2 (fun k hk => ?_)).mono ?_
    · obtain ⟨a, c, h4, _⟩ := h3 k (zss[k]'hk) (List.getElem?_eq_getElem hk)
      refine ⟨a, c, ?_⟩
      rw [h4, List.getD_eq_getElem?_getD, List.getElem?_eq_getElem hk]; rfl
    · have hiff : (∀ k, k < zss.length → (zss.getD k []).length ≤ 30) ↔ ∀ zs ∈ zss, zs.length ≤ 30 := by
        constructor
        · intro hh zs hz
          obtain ⟨k, hk, e⟩ := List.getElem_of_mem hz
          have := hh k hk
          rw [List.getD_eq_getElem?_getD, List.getElem?_eq_getElem hk, e] at this
          exact this
        · intro hh k hk
          rw [List.getD_eq_getElem?_getD, List.getElem?_eq_getElem hk]
          exact hh _ (List.getElem_mem hk)
      rintro e w' ⟨⟨he, hh⟩ | ⟨he, hh⟩, hw⟩
      · exact ⟨.inl ⟨he, hn, hiff.1 hh⟩, hw⟩
      · exact ⟨.inr ⟨he, fun hf => hh (hiff.2 hf.2)⟩, hw⟩
  · exact (few_big ad zss.length cap w (by omega)).mono fun e w' ⟨he, hw⟩ => ⟨.inr ⟨he, fun hf => hn hf.1⟩, hw⟩
set_option maxHeartbeats 1000000 in
theorem same_nums {va vb : Value} {zs : List Int} {w : World} (ha : INums w va zs) (hb : INums w vb zs) (hl : zs.length ≤ 1000000) :
    Calls Tryz.prog 8 #[va, vb] w fun e w' => e = .returned (.bool true) ∧ Hid (Below w.heap.size w w') := by
  obtain ⟨ad1, b1, o1, c1, rfl, _, _, p1, q1⟩ := ha
  obtain ⟨ad2, b2, o2, c2, rfl, _, _, p2, q2⟩ := hb
  have H1 : Hid (0 < zs.length → ad1 = some ⟨b1, o1, none⟩) := p1
  have H2 : Hid (0 < zs.length → ad2 = some ⟨b2, o2, none⟩) := p2
  have Q1 : Hid (∀ k, k < zs.length → w.cell? ⟨b1, o1 + k, none⟩ = some (.int .i64 (zs.getD k 0))) := q1
  have Q2 : Hid (∀ k, k < zs.length → w.cell? ⟨b2, o2 + k, none⟩ = some (.int .i64 (zs.getD k 0))) := q2
  clear p1 p2 q1 q2
  go_enter Tryz.func8, Tryz.ntmps8
  go_wp2
  go_loopw [5] (fun i wr => ∃ k : Nat, k ≤ zs.length ∧ i = .int .i64 k ∧ Below w.heap.size w wr) (fun i _ => zs.length - (intOf i).toNat)
  case atStart => exact ⟨0, Nat.zero_le _, rfl, Below.refl _ _⟩
  case round =>
    obtain ⟨k, hk, rfl, hbr⟩ := hrel
    have HB : Hid (Below w.heap.size w wr) := hbr
    clear hbr
    by_cases hlt : k < zs.length
    · have hi1 := ixN ad1 b1 o1 zs.length c1 k hlt H1.out
      have hi2 := ixN ad2 b2 o2 zs.length c2 k hlt H2.out
      obtain ⟨x, hx⟩ : ∃ x, x = zs.getD k 0 := ⟨_, rfl⟩
      have y1 : wr.cell? ⟨b1, o1 + k, none⟩ = some (.int .i64 x) := by rw [hx]; exact ck_cell HB.out (Q1.out k hlt)
      have y2 : wr.cell? ⟨b2, o2 + k, none⟩ = some (.int .i64 x) := by rw [hx]; exact ck_cell HB.out (Q2.out k hlt)
      clear hx
      go_wp2_with fail
      go_quiet (fail)
      go_wp2_with fail
      go_roundw
      case rel => exact ⟨k + 1, by omega, by go_num, ck_all HB.out ⟨rfl, rfl, rfl, Nat.le_refl _, fun _ _ => rfl⟩⟩
      case measure => simp [intOf]; omega
    · go_wp2
      go_ret
      exact ⟨rfl, HB.out⟩
set_option maxRecDepth 100000 in
theorem small_one : (tickC smallC [5] (newC smallC)).map (outsC smallC) = some [2] := by kernel_rfl
set_option maxRecDepth 100000 in
theorem small_two : ((tickC smallC [5] (newC smallC)).bind fun r => (tickC smallC [5] r).map fun r' => (outsC smallC r', thereC smallC r')) = some ([7], [[116]]) := by kernel_rfl
theorem small_ticks : ∃ r1 r2, tickC smallC [5] (newC smallC) = some r1 ∧ outsC smallC r1 = [2] ∧ tickC smallC [5] r1 = some r2 ∧ outsC smallC r2 = [7] ∧ thereC smallC r2 = [[116]] := by
  have h1 := small_one
  have h2 := small_two
  cases hr : tickC smallC [5] (newC smallC) with
  | none => rw [hr] at h1; exact absurd h1 (by simp)
  | some r1 =>
    rw [hr] at h1 h2
    have h2' : (tickC smallC [5] r1).map (fun r' => (outsC smallC r', thereC smallC r')) = some ([7], [[116]]) := h2
    cases hr2 : tickC smallC [5] r1 with
    | none => rw [hr2] at h2'; exact absurd h2' (by simp)
    | some r2 =>
      rw [hr2] at h2'
      simp at h1 h2'
      exact ⟨r1, r2, rfl, h1, hr2, h2'.1, h2'.2⟩
end Kx
end Go.Proofs.YtiihgnagjemikaaGreatDoor
/- keep's ran: the small chart, two ticks. -/
namespace Go.Proofs.YtiihgnagjemikaaGreatDoor
open Go.RowKit Px
namespace Kx
/-- a chart in the blocks that there are -/
theorem chart_in {B : Nat} {w : World} {c : Chart} {v : Value} (h : IsChart (fun b => B < b) w c v) : IsChart (fun b => B < b ∧ b < w.heap.size) w c v := by
  have kp : Keep (fun b => B < b) (fun b => B < b ∧ b < w.heap.size) w w := fun b ha hlt => ⟨⟨ha, hlt⟩, rfl⟩
  obtain ⟨a, n, m, a2, n2, m2, rfl, hv, hr⟩ := h
  exact ⟨a, n, m, a2, n2, m2, rfl, hv.carry kp, hr.carry kp (IsStates.carry kp 6)⟩
/-- New, of a chart that may run, in whatever blocks -/
theorem new_run {A : Nat → Prop} {w : World} {c : Chart} {v : Value} (h : IsChart A w c v) (hc : RunC c) (hA : ∀ b, A b → b < w.heap.size) :
    Calls Tryz.prog 19 #[v] w fun e w' => ∃ rb, e = .returned (.tuple #[.pointer (some ⟨rb, 0, none⟩), .nilIface]) ∧ Hid ((∃ Q x, RnM A w' c (newC c) rb Q x ∧ ∀ b, Q b → w.heap.size ≤ b) ∧ Below w.heap.size w w') :=
  New_ok h hc.nm hc.ok hA hc.n64
theorem nums_one {w : World} {g : Nat} {x : Int} (h : w.cell? ⟨g, 0, none⟩ = some (.int .i64 x)) : INums w (.slice (some ⟨g, 0, none⟩) 1 1) [x] :=
  ⟨some ⟨g, 0, none⟩, g, 0, 1, rfl, Nat.le_refl _, by unfold maxLen; omega, fun _ => rfl, fun k hk => by
    have : k = 0 := by simp at hk; omega
    subst this
    exact h⟩
/-- what a row of one number is -/
theorem row_one {B : Nat} {w : World} {v : Value} {x : Int} (h : Row64 B w v [x]) : ∃ b o cap, v = .slice (some ⟨b, o, none⟩) 1 cap ∧ w.cell? ⟨b, o, none⟩ = some (.int .i64 x) := by
  obtain ⟨ad, b, off, cap, rfl, _, _, h4, h5⟩ := h.nums
  obtain rfl := h4 (by simp)
  exact ⟨b, off, cap, rfl, h5 0 (by simp)⟩
theorem rowS_one {B : Nat} {w : World} {v : Value} {x : Str} (h : RowS B w v [x]) : ∃ b o cap, v = .slice (some ⟨b, o, none⟩) 1 cap ∧ w.cell? ⟨b, o, none⟩ = some (sv x) := by
  obtain ⟨ad, b, off, cap, rfl, _, _, h4, h5⟩ := h.strs
  obtain rfl := h4 (by simp)
  exact ⟨b, off, cap, rfl, h5 0 x rfl⟩
/-- a row of one's own stands over other steps -/
theorem row_apart {B : Nat} {Q : Nat → Prop} {w w' : World} {v : Value} {zs : List Int} (h : Row64 B w v zs) (hQ : ∀ b, Q b → b < B) (hf : FrQ Q w w') : INums w' v zs := by
  have hlt := fun g hg => World.ownsRow.lt h g hg
  obtain ⟨ad, b, off, cap, rfl, h2, h3, h4, h5⟩ := h.nums
  refine ⟨ad, b, off, cap, rfl, h2, h3, h4, fun k hk => ?_⟩
  obtain rfl := h4 (by omega)
  have hb := hlt b rfl
  rw [World.cell?_of_block (w := w) (a := ⟨b, off + k, none⟩) (hf.block b hb.2 (fun hq => by have := hQ b hq; omega))]
  exact h5 k hk
theorem rows_apart {B : Nat} {Q : Nat → Prop} {w w' : World} {v : Value} {zs : List Str} (h : RowS B w v zs) (hQ : ∀ b, Q b → b < B) (hf : FrQ Q w w') : IStrs w' v zs := by
  have hlt := fun g hg => World.ownsRow.lt h g hg
  obtain ⟨ad, b, off, cap, rfl, h2, h3, h4, h5⟩ := h.strs
  refine ⟨ad, b, off, cap, rfl, h2, h3, h4, fun k s hk => ?_⟩
  obtain rfl := h4 (by have := (List.getElem?_eq_some_iff.1 hk).1; omega)
  have hb := hlt b rfl
  rw [World.cell?_of_block (w := w) (a := ⟨b, off + k, none⟩) (hf.block b hb.2 (fun hq => by have := hQ b hq; omega))]
  exact h5 k s hk
/-- a row of one number, opened -/
theorem nums_row {w : World} {a : Option Addr} {n m : Nat} {x : Int} (h : INums w (.slice a n m) [x]) : ∃ b o, a = some ⟨b, o, none⟩ ∧ n = 1 ∧ w.cell? ⟨b, o, none⟩ = some (.int .i64 x) := by
  obtain ⟨ad, b, off, cap, e, _, _, h4, h5⟩ := h
  injection e with e1 e2 e3
  subst e1
  exact ⟨b, off, h4 (by simp), e2, h5 0 (by simp)⟩
/-- a tick, with what it tells standing over the runner's later steps -/
theorem tick_run {A Q : Nat → Prop} {w : World} {c : Chart} {r r' : Rn} {rb : Nat} {x : RnL} {iv : Value} {ins : List Int} (h : RnM A w c r rb Q x) (hc : ChartR c) (hi : INums w iv ins) (h64 : ∀ y ∈ ins, N64 y) (ht : tickC c ins r = some r') :
    Calls Tryz.prog 21 #[.pointer (some ⟨rb, 0, none⟩), iv] w fun e w' => ∃ a n m, e = .returned (.slice a n m) ∧ Hid (RnM A w' c r' rb Q x ∧ (∀ Q' w'', (∀ b, Q' b → b < w.heap.size) → FrQ Q' w' w'' → INums w'' (.slice a n m) (outsC c r')) ∧ FrQ Q w w') :=
  (Tick_any h hc hi h64 ht).mono fun _ _ ⟨a, n, m, he, hh⟩ => ⟨a, n, m, he, hh.out.1, fun _ _ hQ hf => row_apart hh.out.2.1 hQ hf, hh.out.2.2⟩
end Kx
end Go.Proofs.YtiihgnagjemikaaGreatDoor
