/- CheckJudges: what a drawn chart is like; numbers in slices that are the same. -/
import Derived.Test.YtanlfmhlohcmgaaGreatDoorJJc2
import Derived.Test.YtanlfmhlohcmgaaGreatDoorJEp
import Derived.Test.YtanlfmhlohcmgaaGreatDoorJCr
namespace Go.Proofs.YtanlfmhlohcmgaaGreatDoor
open Go.RowKit Px

theorem TE_nm {e : E} (h : Sh.TE e) : NmOk e ∧ ShE e := by
  induction e with
  | nil => exact ⟨trivial, trivial⟩
  | node b o a l r ihl ihr =>
    obtain ⟨h1, h2, h3, h4, ⟨s1, s2, s3, s4⟩, h5, h6⟩ := h
    obtain ⟨il1, il2⟩ := ihl h5
    obtain ⟨ir1, ir2⟩ := ihr h6
    exact ⟨⟨by unfold maxLen; omega, il1, ir1⟩, ⟨fun hc => ⟨s1 (by omega), s2 (by omega)⟩, fun hc => s2 (by omega), il2, ir2⟩⟩
theorem TS_nm {l : List Asg} (h : Sh.TS l) : NmSets l ∧ ShSets l :=
  ⟨fun a ha => ⟨by have := (h a ha).2; unfold maxLen; omega, (TE_nm (h a ha).1).1⟩, fun a ha => (TE_nm (h a ha).1).2⟩
theorem sumW_ge {α : Type} (f : α → Nat) (hf : ∀ a, 1 ≤ f a) (l : List α) : l.length ≤ Sh.sumW f l := by
  induction l with
  | nil => simp
  | cons a r ih => rw [Sh.sumW, List.length_cons]; have := hf a; omega
theorem TSt_nm : ∀ (k : Nat) (x : St k), Sh.TSt k x → Sh.wSt k x ≤ 601 → NmSt k x ∧ ShSt k x := by
  intro k
  induction k with
  | zero => intro x _ _; exact ⟨trivial, trivial⟩
  | succ k ih =>
    intro x h hw
    obtain ⟨h0, h1, h2, h3, h4, h5, h6⟩ := h
    have hw' : Sh.wStF (Sh.wSt k) x ≤ 601 := hw
    unfold Sh.wStF at hw'
    have hl := sumW_ge Sh.wW (fun y => by unfold Sh.wW; omega) (StF.ways x)
    have hin : ∀ r ∈ StF.regions x, ∀ y ∈ r, NmSt k y ∧ ShSt k y := fun r hr y hy => ih y (h6 r hr y hy) (by
      have a1 : 1 + Sh.sumW (Sh.wSt k) r ≤ Sh.sumW (Sh.wR (Sh.wSt k)) (StF.regions x) := Sh.sumW_mem (Sh.wR (Sh.wSt k)) (StF.regions x) r hr
      have a2 := Sh.sumW_mem (Sh.wSt k) r y hy
      omega)
    refine ⟨⟨⟨by unfold maxLen; omega, (TS_nm h1).1, (TS_nm h2).1, (TS_nm h3).1, (TE_nm h4).1, fun y hy => ⟨by have := (h5 y hy).2.2.2.2; unfold maxLen; omega, (TE_nm (h5 y hy).2.2.1).1, (TS_nm (h5 y hy).2.2.2.1).1⟩, by omega⟩, fun r hr y hy => (hin r hr y hy).1⟩, ⟨(TS_nm h1).2, (TS_nm h2).2, (TS_nm h3).2, (TE_nm h4).2, fun y hy => ⟨(TE_nm (h5 y hy).2.2.1).2, (TS_nm (h5 y hy).2.2.2.1).2⟩⟩, fun r hr y hy => (hin r hr y hy).2⟩
theorem sumC_le {α : Type} {f g : α → Nat} (l : List α) (h : ∀ a ∈ l, f a ≤ g a) : sumC f l ≤ Sh.sumW g l := by
  induction l with
  | nil => simp [sumC, Sh.sumW]
  | cons a r ih => rw [sumC, Sh.sumW]; have := h a (by simp); have := ih (fun b hb => h b (by simp [hb])); omega
theorem cIn_le : ∀ (k : Nat) (x : St k), 1 + cIn k x ≤ Sh.wSt k x := by
  intro k
  induction k with
  | zero => intro x; exact Nat.le_refl _
  | succ k ih =>
    intro x
    show 1 + sumC (sumC fun y => 1 + cIn k y) (StF.regions x) ≤ Sh.wStF (Sh.wSt k) x
    unfold Sh.wStF
    have := sumC_le (f := sumC fun y => 1 + cIn k y) (g := Sh.wR (Sh.wSt k)) (StF.regions x) (fun r _ => by
      have := sumC_le (f := fun y => 1 + cIn k y) (g := Sh.wSt k) r (fun y _ => ih y)
      unfold Sh.wR; omega)
    omega
theorem drawn_nm {L : List Lx.Tok} (hL : Wf L) {c : Chart} (h : chart L = .ok c) : NmChart c ∧ ShChart c := by
  obtain ⟨h1, h2, h3⟩ := Sh.chart_w hL h
  have hx : ∀ r ∈ c.regions, ∀ x ∈ r, Sh.wSt 6 x ≤ 601 := fun r hr x hx => by
    have a1 : 1 + Sh.sumW (Sh.wSt 6) r ≤ Sh.sumW (Sh.wR (Sh.wSt 6)) c.regions := Sh.sumW_mem (Sh.wR (Sh.wSt 6)) c.regions r hr
    have a2 := Sh.sumW_mem (Sh.wSt 6) r x hx
    omega
  refine ⟨⟨by omega, fun v hv => by have := (h1 v hv).2; unfold maxLen; omega, fun r hr x hx' => (TSt_nm 6 x (h2 r hr x hx') (hx r hr x hx')).1, ?_⟩, ⟨fun v hv => ⟨(h1 v hv).1.1, (h1 v hv).1.2.1⟩, fun r hr x hx' => (TSt_nm 6 x (h2 r hr x hx') (hx r hr x hx')).2⟩⟩
  have := sumC_le (f := cRg 6) (g := Sh.wR (Sh.wSt 6)) c.regions (fun r _ => by
    have := sumC_le (f := fun y => 1 + cIn 6 y) (g := Sh.wSt 6) r (fun y _ => cIn_le 6 y)
    unfold cRg Sh.wR; omega)
  omega
/-- in a chart that may be, a region's names are apart -/
theorem regsE_each {ρ : Type} {R : List ρ → Nat → Res} : ∀ {l : List (List ρ)} {n m : Nat}, regsE R l n = .ok m → ∀ r ∈ l, ∃ n' m', R r n' = .ok m' := by
  intro l
  induction l with
  | nil => intro n m _ r hr; simp at hr
  | cons a rs ih =>
    intro n m h r hr
    rw [regsE] at h
    split at h
    · exact absurd h (by simp)
    · rename_i m' ha
      rcases List.mem_cons.1 hr with rfl | hr
      · exact ⟨n, m', ha⟩
      · exact ih h r hr
theorem regE_dist {vs : List Decl} {k : Nat} {l : List (StF (St k))} {n m : Nat} (h : regE vs (k + 1) l n = .ok m) : Dist (snames l) := by
  have h' : regF vs (regE vs k) l n = .ok m := h
  unfold regF at h'
  split at h'
  · exact absurd h' (by simp)
  · rename_i m' hs
    exact regF_dist hs
theorem checkC_none {c : Chart} (h : checkC c = none) : ∀ r ∈ c.regions, Dist (snames (ρ := St 5) r) := by
  intro r hr
  unfold checkC at h
  split at h
  · exact absurd h (by simp)
  · split at h
    · exact absurd h (by simp)
    · split at h
      · exact absurd h (by simp)
      · rename_i m hm
        obtain ⟨n', m', h1⟩ := regsE_each hm r hr
        exact regE_dist (k := 5) h1

set_option maxRecDepth 100000 in
set_option maxHeartbeats 1000000 in
theorem sameInts_any {A A' : Nat → Prop} {w : World} {va vb : Value} {zs : List Nat} (ha : NumsV A w va zs) (hb : NumsV A' w vb zs) (hl : zs.length ≤ 1000000) : Calls Tryz.prog 12 #[va, vb] w fun e w' => e = .returned (.bool true) ∧ Below w.heap.size w w' := by
  obtain ⟨ada, ga, capa, rfl, ha1, ha2⟩ := ha
  obtain ⟨adb, gb, capb, rfl, hb1, hb2⟩ := hb
  obtain ⟨N, hN⟩ : ∃ N, Hid (zs.length = N) := ⟨_, rfl⟩
  rw [hN.out] at ha1 ha2 hb1 hb2 hl ⊢
  have HA : Hid ((0 < N → ada = some ⟨ga, 0, none⟩) ∧ ∀ k, k < N → w.cell? ⟨ga, k, none⟩ = some (.int .i64 ((zs.getD k 0 : Nat) : Int))) := ⟨fun h => (ha1 h).1, ha2⟩
  have HB : Hid ((0 < N → adb = some ⟨gb, 0, none⟩) ∧ ∀ k, k < N → w.cell? ⟨gb, k, none⟩ = some (.int .i64 ((zs.getD k 0 : Nat) : Int))) := ⟨fun h => (hb1 h).1, hb2⟩
  clear ha1 ha2 hb1 hb2
  go_enter Tryz.func12, Tryz.ntmps12
  go_wp2_with fail
  go_loopg [5] N (fun f i wr => ∃ k : Nat, f = N - k ∧ k ≤ N ∧ i = .int .i64 (k : Int) ∧ Hid (Below w.heap.size w wr))
  case atStart => exact ⟨0, by omega, by omega, rfl, Below.refl _ _⟩
  case round =>
    obtain ⟨k, rfl, hk, rfl, hr⟩ := hrel
    by_cases hlt : k < N
    · have ca := ck_cell hr.out (HA.out.2 k hlt)
      have cb := ck_cell hr.out (HB.out.2 k hlt)
      have hixa := ixI ada ga N capa k hlt HA.out.1
      have hixb := ixI adb gb N capb k hlt HB.out.1
      generalize zs.getD k 0 = x at ca cb
      go_wp2_with fail
      go_quiet (fail)
      go_wp2_with fail
      go_roundg (N - (k + 1))
      case measure => omega
      case rel => exact ⟨k + 1, rfl, by omega, by go_num, hr.out.os, hr.out.tape, hr.out.output, hr.out.size, hr.out.block⟩
    · obtain rfl : k = N := by omega
      go_wp2_with fail
      go_ret
      exact ⟨rfl, hr.out⟩
end Go.Proofs.YtanlfmhlohcmgaaGreatDoor
/- CheckJudges: the law's walk. -/
namespace Go.Proofs.YtanlfmhlohcmgaaGreatDoor
open Go.RowKit Px

set_option maxRecDepth 100000 in
set_option maxHeartbeats 2000000 in
/-- of a text that draws nothing -/
theorem judges_no (s : ByteArray) (w : World) (hf : Fine w) (v1 v2 v3 : Value) (e q : Int) (hq : ¬ (e = 0 ∧ q = -1)) (hv : ∃ S a n c a' n' c', v1 = .string S ∧ v2 = .slice a n c ∧ v3 = .slice a' n' c')
    (hd : Calls Tryz.prog 6 #[.string s] w fun r w' => r = .returned (.tuple #[.agg #[v1, v2, v3], .agg #[.int .i64 e, .int .i64 q], .bool true]) ∧ Below w.heap.size w w') :
    Calls Tryz.prog 3 #[.string s] w fun r w' => r = .returned (.bool true) ∧ Below w.heap.size w w' := by
  obtain ⟨S, a, n, c, a', n', c', rfl, rfl, rfl⟩ := hv
  have HF : Hid (Fine w) := hf
  have hq' : (e = 0 → ¬ q = -1) := fun h1 h2 => hq ⟨h1, h2⟩
  by_cases h0 : e = 0
  · have h1 : ¬ q = -1 := hq' h0
    subst h0
    have h2 : (q == -1) = false := by simpa using h1
    clear hq hq' hf
    go_enter Tryz.func3, Tryz.ntmps3
    go_wp2_with (refine hd.mono ?_; rintro r w1 ⟨rfl, hb⟩; have HB : Hid (Below w.heap.size w w1) := hb; obtain ⟨f0, f1⟩ := (((HF.out.below hb).below (ck_grown w1 (.cells #[.string S, .slice a n c, .slice a' n' c'] 25))).below (ck_grown _ (.cells #[.int .i64 0, .int .i64 q] 28))); clear hb)
    go_ret
    exact ⟨rfl, ck_all HB.out (ck_all (ck_grown _ _) (ck_grown _ _))⟩
  · have h2 : (e == 0) = false := by simpa using h0
    clear hq hq' hf
    go_enter Tryz.func3, Tryz.ntmps3
    go_wp2_with (refine hd.mono ?_; rintro r w1 ⟨rfl, hb⟩; have HB : Hid (Below w.heap.size w w1) := hb; obtain ⟨f0, f1⟩ := (((HF.out.below hb).below (ck_grown w1 (.cells #[.string S, .slice a n c, .slice a' n' c'] 25))).below (ck_grown _ (.cells #[.int .i64 e, .int .i64 q] 28))); clear hb)
    go_ret
    exact ⟨rfl, ck_all HB.out (ck_all (ck_grown _ _) (ck_grown _ _))⟩
end Go.Proofs.YtanlfmhlohcmgaaGreatDoor
/- CheckJudges: the law's walk, of a text that draws a chart. -/
namespace Go.Proofs.YtanlfmhlohcmgaaGreatDoor
open Go.RowKit Px

theorem ErrType.up {w w' : World} (h : ErrType w) (hb : Below w.heap.size w w') : ErrType w' := h.below hb
/-- what Check hands back is what the document tells -/
theorem chk_is {c : Chart} {A : Nat → Prop} {w : World} {v : Value} {e0 q0 : Int} (h : IsChart A w c v) (hN : NmChart c) (hE : ErrType w) (hf : fltV (checkC c) = .agg #[.int .i64 e0, .int .i64 q0]) :
    Calls Tryz.prog 9 #[v] w fun e w' => ∃ vi, e = .returned vi ∧ Hid (Below w.heap.size w w' ∧ ∀ w'', Below w'.heap.size w' w'' → Calls Tryz.prog 8 #[vi, .agg #[.int .i64 e0, .int .i64 q0]] w'' fun r w3 => r = .returned (.bool true) ∧ Below w''.heap.size w'' w3) := by
  refine (check_any h hN).mono fun e w' ⟨hb, ho⟩ => ?_
  rcases ho with ⟨h1, rfl⟩ | ⟨cc, h1, rfl⟩ | ⟨cc, p, g, h1, rfl, hg, _⟩
  · rw [h1] at hf
    injection hf with hf
    simp at hf
    obtain ⟨rfl, rfl⟩ := hf
    exact ⟨_, rfl, hb, fun w'' _ => is_nil w''⟩
  · rw [h1] at hf
    injection hf with hf
    simp at hf
    obtain ⟨rfl, rfl⟩ := hf
    exact ⟨_, rfl, hb, fun w'' hb' => is_err cc w'' ((hE.up hb).up hb')⟩
  · rw [h1] at hf
    injection hf with hf
    simp at hf
    obtain ⟨rfl, rfl⟩ := hf
    exact ⟨_, rfl, hb, fun w'' hb' => is_at g cc p w'' ((hE.up hb).up hb') (ck_block hb' hg)⟩
theorem checkC_bare {c : Chart} {e : Nat} (h : checkC c = some (e, none)) : e = 8 := by
  unfold checkC at h
  split at h
  · injection h with h; injection h with _ h; exact absurd h (by simp)
  · split at h
    · injection h with h; injection h with h _; exact h.symm
    · split at h
      · injection h with h; injection h with _ h; exact absurd h (by simp)
      · exact absurd h (by simp)
/-- the fault's two numbers -/
theorem flt_two (c : Chart) : ∃ e q : Int, fltV (checkC c) = .agg #[.int .i64 e, .int .i64 q] ∧ ((checkC c = none ∧ e = 0 ∧ q = -1) ∨ (checkC c ≠ none ∧ e ≠ 0 ∧ q = -1) ∨ (checkC c ≠ none ∧ q ≠ -1)) := by
  cases h : checkC c with
  | none => exact ⟨0, -1, rfl, .inl ⟨rfl, rfl, rfl⟩⟩
  | some x =>
    obtain ⟨cc, p⟩ := x
    cases p with
    | none =>
      have := checkC_bare h
      subst this
      exact ⟨8, -1, rfl, .inr (.inl ⟨by simp, by simp, rfl⟩)⟩
    | some p => exact ⟨cc, p, rfl, .inr (.inr ⟨by simp, by omega⟩)⟩
/-- the two orders of a region -/
theorem both_orders {A : Nat → Prop} {w : World} {l : List (StF (St 5))} {va : Option Addr} {vb vc : Nat} (hI : IsStates A w 6 l (.slice va vb vc)) (hN : ∀ s ∈ l, NmStF s) (hd : Dist (snames l)) (hl : l.length ≤ 1000000) :
    (Calls Tryz.prog 10 #[.slice va vb vc] w (OrdOut w (orderG (graph l)))) ∧ Calls Tryz.prog 11 #[.slice va vb vc] w (OrdOut w (orderG (graph l))) := by
  obtain ⟨ad, g, cap, e, h1, h2, h3⟩ := IsStates.open (k := 5) hI
  injection e with e1 e2 e3
  subst e1; subst e2; subst e3
  refine ⟨jorder_at rfl hd rfl hl (fun hp => (h2 hp).1) (fun i s hi => ?_), order_at rfl rfl hl (fun hp => (h2 hp).1) (StM.sts (A := A) (fun hp => (h2 hp).2) (fun i s hi => ?_) hN)⟩
  · obtain ⟨ve, vd, vl, p, ay, ar, gy, capy, capr, hM, _⟩ := h3 i s hi
    exact hM.sto (hN s (List.mem_of_getElem? hi))
  · obtain ⟨ve, vd, vl, p, ay, ar, gy, capy, capr, hM, _⟩ := h3 i s hi
    exact ⟨ve, vd, vl, p, ay, ar, gy, capy, capr, hM⟩
theorem NumsV.below {A : Nat → Prop} {w w' : World} {v : Value} {zs : List Nat} (h : NumsV A w v zs) (hb : Below w.heap.size w w') : NumsV A w' v zs := by
  obtain ⟨ad, g, cap, h1, h2, h3⟩ := h
  exact ⟨ad, g, cap, h1, fun hp => ⟨(h2 hp).1, (h2 hp).2.1, Nat.lt_of_lt_of_le (h2 hp).2.2 hb.size⟩, fun k hk => ck_cell hb (h3 k hk)⟩
theorem numsV_nil (A : Nat → Prop) (w : World) : NumsV A w (.slice none 0 0) [] := ⟨none, 0, 0, rfl, fun h => absurd h (by simp), fun k hk => absurd hk (by simp)⟩

end Go.Proofs.YtanlfmhlohcmgaaGreatDoor
/- CheckJudges: the law's walk, of a text that draws a chart. -/
namespace Go.Proofs.YtanlfmhlohcmgaaGreatDoor
open Go.RowKit Px

set_option maxRecDepth 100000 in
set_option maxHeartbeats 8000000 in
theorem judges_ok (s : ByteArray) (w : World) (c : Chart) (hV : Fine w ∧ ErrType w) (hN : NmChart c) (hSh : ShChart c) (B : Nat)
    (hd : Calls Tryz.prog 6 #[.string s] w fun e w' => ∃ v, e = .returned (.tuple #[v, .agg #[.int .i64 0, .int .i64 (-1)], .bool true]) ∧ IsChart (Ge B) w' c v ∧ Below w.heap.size w w') :
    Calls Tryz.prog 3 #[.string s] w fun r w' => r = .returned (.bool true) ∧ Below w.heap.size w w' := by
  have HV : Hid (Fine w ∧ ErrType w) := hV
  have HN : Hid (NmChart c ∧ ShChart c) := ⟨hN, hSh⟩
  obtain ⟨e0, q0, hflt, hcase⟩ := flt_two c
  have HFL : Hid (fltV (checkC c) = .agg #[.int .i64 e0, .int .i64 q0]) := hflt
  have hd' : Calls Tryz.prog 6 #[.string s] w fun e w' => ∃ S a n m a' n' m', e = .returned (.tuple #[.agg #[.string S, .slice a n m, .slice a' n' m'], .agg #[.int .i64 0, .int .i64 (-1)], .bool true]) ∧ Hid (IsChart (Ge B) w' c (.agg #[.string S, .slice a n m, .slice a' n' m']) ∧ Below w.heap.size w w') := hd.mono fun e w' ⟨v, he, hC, hb⟩ => by
    obtain ⟨a, n, m, a', n', m', rfl, h1, h2⟩ := hC
    exact ⟨_, a, n, m, a', n', m', he, ⟨a, n, m, a', n', m', rfl, h1, h2⟩, hb⟩
  clear hd hV hN hSh hflt
  go_enter Tryz.func3, Tryz.ntmps3
  go_upto_region 4 with (go_at_call 6; refine hd'.mono ?_; rintro r w1 ⟨S, a, n, m, a', n', m', rfl, h1⟩; have hbx : Below w1.heap.size w1 ((w1.alloc (.cells #[.string S, .slice a n m, .slice a' n' m'] 25)).alloc (.cells #[.int .i64 0, .int .i64 (-1)] 28)) := ck_all (ck_grown _ _) (ck_grown _ _); obtain ⟨f0, f1⟩ := (HV.out.1.below (ck_all h1.out.2 hbx)))
  clear hd' f0 f1
  obtain ⟨W2, hW2⟩ : ∃ W2, W2 = (w1.alloc (.cells #[.string S, .slice a n m, .slice a' n' m'] 25)).alloc (.cells #[.int .i64 0, .int .i64 (-1)] 28) := ⟨_, rfl⟩
  obtain ⟨cb, hcb⟩ : ∃ cb, cb = w1.heap.size := ⟨_, rfl⟩
  have HW2 : Hid (W2.heap[cb]? = some (.cells #[.string S, .slice a n m, .slice a' n' m'] 25 (0, 0)) ∧ Below w.heap.size w W2 ∧ IsChart (Ge B) W2 c (.agg #[.string S, .slice a n m, .slice a' n' m'])) := by
    rw [← hW2] at hbx
    refine ⟨by rw [hW2, hcb]; exact ck_old (ck_new _ _), ck_all h1.out.2 hbx, ?_⟩
    obtain ⟨a2, n2, m2, a3, n3, m3, e, q1, q2⟩ := h1.out.1
    have hK : Keep (Ge B) (Ge B) w1 W2 := fun x hx hl => ⟨hx, hbx.block x hl⟩
    exact ⟨a2, n2, m2, a3, n3, m3, e, q1.carry hK, q2.carry hK (IsStates.carry hK 6)⟩
  rw [← hW2, ← hcb]
  clear hW2 hcb hbx h1
  have hcr := rcheck_any HW2.out.2.2 HN.out.1 HN.out.2 (HV.out.1.below HW2.out.2.1)
  rw [HFL.out] at hcr
  have x0 := cell_row HW2.out.1 0 (u := .string S) rfl
  have x1 := cell_row HW2.out.1 1 (u := .slice a n m) rfl
  have x2 := cell_row HW2.out.1 2 (u := .slice a' n' m') rfl
  go_wp2_with fail
  refine hcr.mono ?_
  rintro r w3 ⟨rfl, hb3⟩
  have HB3 : Hid (Below W2.heap.size W2 w3) := hb3
  clear hb3 hcr x0 x1 x2
  go_upto_region 5 with fail
  obtain ⟨fb, hfb⟩ : ∃ fb, fb = w3.heap.size := ⟨_, rfl⟩
  obtain ⟨W4, hW4⟩ : ∃ W4, W4 = w3.alloc (.cells #[.int .i64 e0, .int .i64 q0] 28) := ⟨_, rfl⟩
  have HW4 : Hid (∀ w', Below W4.heap.size W4 w' → w'.heap[cb]? = some (.cells #[.string S, .slice a n m, .slice a' n' m'] 25 (0, 0)) ∧ w'.heap[fb]? = some (.cells #[.int .i64 e0, .int .i64 q0] 28 (0, 0)) ∧ Below w.heap.size w w' ∧ IsChart (Ge B) w' c (.agg #[.string S, .slice a n m, .slice a' n' m']) ∧ Fine w' ∧ ErrType w') := fun w' hb => by
    have h4 : Below W2.heap.size W2 w' := ck_all HB3.out (ck_all (by rw [hW4]; exact ck_grown w3 _) hb)
    refine ⟨ck_block h4 HW2.out.1, ck_block hb (by rw [hW4, hfb]; exact ck_new _ _), ck_all HW2.out.2.1 h4, ?_, HV.out.1.below (ck_all HW2.out.2.1 h4), HV.out.2.up (ck_all HW2.out.2.1 h4)⟩
    obtain ⟨a2, n2, m2, a3, n3, m3, e, q1, q2⟩ := HW2.out.2.2
    have hK : Keep (Ge B) (Ge B) W2 w' := fun x hx hl => ⟨hx, h4.block x hl⟩
    exact ⟨a2, n2, m2, a3, n3, m3, e, q1.carry hK, q2.carry hK (IsStates.carry hK 6)⟩
  rw [← hW4, ← hfb]
  clear hW4 hfb HB3 HW2
  obtain ⟨k1, k2, k3, k4, k5, k6⟩ := HW4.out W4.drew ((Below.refl _ _).drew)
  have hck := chk_is k4 HN.out.1 k6 HFL.out
  have u0 : W4.cell? ⟨cb, 0, none⟩ = some (.string S) := cell_row k1 0 rfl
  have u1 : W4.cell? ⟨cb, 1, none⟩ = some (.slice a n m) := cell_row k1 1 rfl
  have u2 : W4.cell? ⟨cb, 2, none⟩ = some (.slice a' n' m') := cell_row k1 2 rfl
  have u3 : W4.cell? ⟨fb, 0, none⟩ = some (.int .i64 e0) := cell_row k2 0 rfl
  have u4 : W4.cell? ⟨fb, 1, none⟩ = some (.int .i64 q0) := cell_row k2 1 rfl
  have HP : Hid (∀ w', Below W4.drew.heap.size W4.drew w' → w'.cell? ⟨cb, 0, none⟩ = some (.string S) ∧ w'.cell? ⟨cb, 1, none⟩ = some (.slice a n m) ∧ w'.cell? ⟨cb, 2, none⟩ = some (.slice a' n' m') ∧ w'.cell? ⟨fb, 0, none⟩ = some (.int .i64 e0) ∧ w'.cell? ⟨fb, 1, none⟩ = some (.int .i64 q0)) := fun w' hb => ⟨ck_cell hb u0, ck_cell hb u1, ck_cell hb u2, ck_cell hb u3, ck_cell hb u4⟩
  clear k1 k2 k3 k4 k5 k6
  go_cut [32] (fun s wx => Hid (s = .bool false ∧ Below W4.heap.size W4 wx))
  case first =>
    go_region_held3 (fun w' => w'.cell? ⟨cb, 0, none⟩ = some (.string S) ∧ w'.cell? ⟨cb, 1, none⟩ = some (.slice a n m) ∧ w'.cell? ⟨cb, 2, none⟩ = some (.slice a' n' m') ∧ w'.cell? ⟨fb, 0, none⟩ = some (.int .i64 e0) ∧ w'.cell? ⟨fb, 1, none⟩ = some (.int .i64 q0)) (first | exact HP.out _ (ck_all hci.out.1 hi6) | exact HP.out _ hci.out.1 | go_keep)
      (first
        | (go_at_call 9; refine hck.mono ?_; rintro e w5 ⟨vi, rfl, hci⟩)
        | (go_at_call 8; refine (hci.out.2 w5 (Below.refl _ _)).mono ?_; rintro e w6 ⟨rfl, hi6⟩))
    all_goals
      go_wp2_with fail
      go_meet
      case rel => exact ⟨rfl, ck_all (W4.drew.heap.size.le_refl |> fun _ => (⟨rfl, rfl, rfl, Nat.le_refl _, fun _ _ => rfl⟩ : Below W4.heap.size W4 W4.drew)) (ck_all hci.out.1 hi6)⟩
  case rest =>
    obtain ⟨h32, hbc⟩ := hcut.out
    subst h32
    have HBC : Hid (Below W4.heap.size W4 wc) := hbc
    clear hcut hck u0 u1 u2 u3 u4 HP hbc
    have hreg : ∃ gr, n' = c.regions.length ∧ ((0 < n' → a' = some ⟨gr, 0, none⟩) ∧ n' ≤ maxLen) ∧ ∀ w', Below W4.heap.size W4 w' → ∀ (i : Nat) (r : List (St 6)), c.regions[i]? = some r → ∃ x y z, w'.cell? ⟨gr, i, none⟩ = some (.slice x y z) ∧ IsStates (Ge B) w' 6 r (.slice x y z) := by
      obtain ⟨-, -, -, ⟨a2, n2, m2, a3, n3, m3, e, q1, q2⟩, -, -⟩ := HW4.out W4 (Below.refl _ _)
      injection e with e
      simp at e
      obtain ⟨-, -, e⟩ := e
      obtain ⟨rfl, rfl, rfl⟩ := e
      obtain ⟨ad, gr, cap, e, r1, r2, r3⟩ := q2.openA
      injection e with e1 e2 e3
      subst e1
      refine ⟨gr, e2, ⟨fun hp => (r2 (by omega)).1, by omega⟩, fun w' hb i r hi => ?_⟩
      obtain ⟨u, hu, hI⟩ := r3 i r hi
      have hK : Keep (Ge B) (Ge B) W4 w' := fun x hx hl => ⟨hx, hb.block x hl⟩
      have hI' := IsStates.carry hK 6 r u hI
      obtain ⟨x, y, z, rfl⟩ := hI'.csl
      exact ⟨x, y, z, ck_cell hb hu, hI'⟩
    obtain ⟨gr, hn', ⟨hga, hgm⟩, hgc⟩ := hreg
    have HG : Hid (n' = c.regions.length ∧ (0 < n' → a' = some ⟨gr, 0, none⟩) ∧ ∀ w', Below W4.heap.size W4 w' → ∀ (i : Nat) (r : List (St 6)), c.regions[i]? = some r → ∃ x y z, w'.cell? ⟨gr, i, none⟩ = some (.slice x y z) ∧ IsStates (Ge B) w' 6 r (.slice x y z)) := ⟨hn', hga, hgc⟩
    have hn6 : (n' : Int) ≤ 9223372036854775807 := by unfold maxLen at hgm; omega
    clear hn' hga hgc hgm
    go_wp2_with fail
    go_loopg [7] n' (fun f i wr => ∃ k : Nat, f = n' - k ∧ k ≤ n' ∧ i = .int .i64 (k : Int) ∧ Hid (Below W4.heap.size W4 wr))
    case atStart => exact ⟨0, by omega, by omega, rfl, HBC.out⟩
    case round =>
      obtain ⟨k, rfl, hk, rfl, hr⟩ := hrel
      obtain ⟨k1, k2, k3, k4, ⟨f0, f1⟩, -⟩ := HW4.out wr hr.out
      have u2 := cell_row k1 2 (u := .slice a' n' m') rfl
      have u3 := cell_row k2 0 (u := .int .i64 e0) rfl
      have u4 := cell_row k2 1 (u := .int .i64 q0) rfl
      have HK : Hid (Below w.heap.size w wr ∧ IsChart (Ge B) wr c (.agg #[.string S, .slice a n m, .slice a' n' m'])) := ⟨k3, k4⟩
      clear k1 k2 k3 k4
      by_cases hlt : k < n'
      · rcases hcase with ⟨hno, rfl, rfl⟩ | ⟨-, hne, rfl⟩ | ⟨-, hne⟩
        · obtain ⟨r, hrk⟩ : ∃ r, c.regions[k]? = some r := ⟨c.regions[k]'(by rw [← HG.out.1]; exact hlt), by rw [List.getElem?_eq_getElem]⟩
          have hrm := List.mem_of_getElem? hrk
          obtain ⟨x, y, z, cx, hI⟩ := HG.out.2.2 wr hr.out k r hrk
          have hNr : ∀ s ∈ (show List (StF (St 5)) from r), NmStF s := fun s hs => (HN.out.1.sts r hrm s hs).1
          have hlr : List.length (show List (StF (St 5)) from r) ≤ 1000000 := by
            have h1 := sumC_mem (cRg 6) hrm
            have h2 := sumC_len (fun x => cIn 6 x) r
            have h3 := HN.out.1.many
            have h4 : cRg 6 r = sumC (fun x => 1 + cIn 6 x) r := rfl
            have h5 : List.length (show List (StF (St 5)) from r) = List.length r := rfl
            omega
          have hdr := checkC_none hno r hrm
          have HOB : Hid (∀ w', Below wr.heap.size wr w' → (Calls Tryz.prog 10 #[.slice x y z] w' (OrdOut w' (orderG (graph (show List (StF (St 5)) from r))))) ∧ Calls Tryz.prog 11 #[.slice x y z] w' (OrdOut w' (orderG (graph (show List (StF (St 5)) from r)))) ∧ w'.cell? ⟨cb, 2, none⟩ = some (.slice a' n' m') ∧ w'.cell? ⟨gr, k, none⟩ = some (.slice x y z)) := fun w' hb => by
            have hK : Keep (Ge B) (Ge B) wr w' := fun x hx hl => ⟨hx, hb.block x hl⟩
            obtain ⟨b1, b2⟩ := both_orders (IsStates.carry hK 6 r _ hI) hNr hdr hlr
            exact ⟨b1, b2, ck_cell hb u2, ck_cell hb cx⟩
          have hix := ixR a' gr n' m' k hlt HG.out.2.1
          have HLR : Hid (List.length (show List (StF (St 5)) from r) ≤ 1000000) := hlr
          obtain ⟨oo, hoo⟩ : ∃ oo, Hid (orderG (graph (show List (StF (St 5)) from r)) = oo) := ⟨_, rfl⟩
          rw [hoo.out] at HOB
          have hA := (HOB.out wr (Below.refl _ _)).1
          have HRR : Hid (Below W4.heap.size W4 wr) := hr.out
          clear hrk hrm hI hNr hlr hdr hr
          unfold OrdOut at hA
          cases oo with
          | none =>
            have hA2 : Calls Tryz.prog 10 #[.slice x y z] wr fun e w' => e = .returned (.tuple #[.slice none 0 0, .bool false]) ∧ Hid (Below wr.heap.size wr w') := hA.mono fun e w' ⟨hb, ho⟩ => by
              rcases ho with ⟨_, he⟩ | ⟨_, _, he, _⟩
              · exact ⟨he, hb⟩
              · simp at he
            clear hA
            go_wp2_with fail
            refine hA2.mono ?_
            rintro e w5 ⟨rfl, hb5⟩
            obtain ⟨-, hB, u2', cx'⟩ := HOB.out w5 hb5.out
            unfold OrdOut at hB
            have hB2 : Calls Tryz.prog 11 #[.slice x y z] w5 fun e w' => e = .returned (.tuple #[.slice none 0 0, .bool false]) ∧ Hid (Below w5.heap.size w5 w') := hB.mono fun e w' ⟨hb, ho⟩ => by
              rcases ho with ⟨_, he⟩ | ⟨_, _, he, _⟩
              · exact ⟨he, hb⟩
              · simp at he
            clear hB hA2 cx u2
            go_wp2_with fail
            refine hB2.mono ?_
            rintro e w6 ⟨rfl, hb6⟩
            have hsi := sameInts_any (numsV_nil (fun _ => True) w6) (numsV_nil (fun _ => True) w6) (by simp)
            clear hB2 cx' u2'
            go_wp2_with (refine hsi.mono ?_; rintro e w7 ⟨rfl, hb7⟩)
            go_roundg (n' - (k + 1))
            case measure => omega
            case rel => exact ⟨k + 1, rfl, by omega, by go_num, ck_all HRR.out (ck_all hb5.out (ck_all hb6.out hb7))⟩
          | some o =>
            have hol : o.length ≤ 1000000 := by
              have h1 := hoo.out
              unfold orderG at h1
              cases h2 : ordK (graph (show List (StF (St 5)) from r)) (graph (show List (StF (St 5)) from r)).length with
              | none => rw [h2] at h1; simp at h1
              | some p =>
                obtain ⟨os, T⟩ := p
                rw [h2] at h1
                simp at h1
                subst h1
                have := (ordK_shut h2).2.1
                rw [graph_len] at this
                have h3 := HLR.out
                omega
            have HOL : Hid (o.length ≤ 1000000) := hol
            have hA2 : Calls Tryz.prog 10 #[.slice x y z] wr fun e w' => ∃ x' y' z', e = .returned (.tuple #[.slice x' y' z', .bool true]) ∧ Hid (Below wr.heap.size wr w' ∧ NumsV (fun _ => True) w' (.slice x' y' z') o) := hA.mono fun e w' ⟨hb, ho⟩ => by
              rcases ho with ⟨he, _⟩ | ⟨o', v, he, h1, ad, g, cap, hv, q1, q2⟩
              · simp at he
              · injection he with he
                subst he
                subst hv
                exact ⟨_, _, _, h1, hb, ad, g, cap, rfl, fun hp => ⟨(q1 hp).1, trivial, (q1 hp).2.2⟩, q2⟩
            clear hA hol
            go_wp2_with fail
            refine hA2.mono ?_
            rintro e w5 ⟨x5, y5, z5, rfl, hb5⟩
            obtain ⟨-, hB, u2', cx'⟩ := HOB.out w5 hb5.out.1
            unfold OrdOut at hB
            have hB2 : Calls Tryz.prog 11 #[.slice x y z] w5 fun e w' => ∃ x' y' z', e = .returned (.tuple #[.slice x' y' z', .bool true]) ∧ Hid (Below w5.heap.size w5 w' ∧ NumsV (fun _ => True) w' (.slice x' y' z') o) := hB.mono fun e w' ⟨hb, ho⟩ => by
              rcases ho with ⟨he, _⟩ | ⟨o', v, he, h1, ad, g, cap, hv, q1, q2⟩
              · simp at he
              · injection he with he
                subst he
                subst hv
                exact ⟨_, _, _, h1, hb, ad, g, cap, rfl, fun hp => ⟨(q1 hp).1, trivial, (q1 hp).2.2⟩, q2⟩
            clear hB hA2 cx u2
            go_wp2_with fail
            refine hB2.mono ?_
            rintro e w6 ⟨x6, y6, z6, rfl, hb6⟩
            have hsi := sameInts_any hb6.out.2 (hb5.out.2.below hb6.out.1) HOL.out
            clear hB2 cx' u2'
            go_wp2_with (refine hsi.mono ?_; rintro e w7 ⟨rfl, hb7⟩)
            go_roundg (n' - (k + 1))
            case measure => omega
            case rel => exact ⟨k + 1, rfl, by omega, by go_num, ck_all HRR.out (ck_all hb5.out.1 (ck_all hb6.out.1 hb7))⟩
        · have h2 : (e0 == 0) = false := by simpa using hne
          go_wp2_with fail
          go_ret
          exact ⟨rfl, HK.out.1⟩
        · have h2 : (q0 == -1) = false := by simpa using hne
          go_wp2_with fail
          go_ret
          exact ⟨rfl, HK.out.1⟩
      · obtain rfl : k = n' := by omega
        go_wp2_with fail
        go_ret
        exact ⟨rfl, HK.out.1⟩
/-- the law: of whatever text -/
theorem checkJudges_any (s : ByteArray) (w : World) (hv : Vars w) : Calls Tryz.prog 3 #[.string s] w fun e w' => e = .returned (.bool true) ∧ Below w.heap.size w w' := by
  by_cases hs : s.size ≤ 1500
  · by_cases hok : ∃ l c, Lx.Ok (bs s) l ∧ chart (fin s l) = .ok c
    · obtain ⟨l, c, h1, h2⟩ := hok
      obtain ⟨n1, n2⟩ := drawn_nm (wf_ok h1) h2
      exact judges_ok s w c ⟨hv.fine, hv.err⟩ n1 n2 (w.heap.size + 2) (draws_ok s l c w hs hv h1 h2)
    · obtain ⟨ev, q, h⟩ := draws_bad s w hs hv (fun l c h => hok ⟨l, c, h⟩)
      exact judges_no s w hv.fine _ _ _ _ _ (by omega) ⟨_, _, _, _, _, _, _, rfl, rfl, rfl⟩ h
  · exact judges_no s w hv.fine _ _ _ _ _ (by omega) ⟨_, _, _, _, _, _, _, rfl, rfl, rfl⟩ (draws_big s w hs)
end Go.Proofs.YtanlfmhlohcmgaaGreatDoor
/- What the listed variables' readings give CheckJudges. -/
namespace Go.Proofs.YtanlfmhlohcmgaaGreatDoor
open Go.ChangeShapes Go.WideShapes Go.ChangeAt Go.RowKit Px

theorem judges_laid {W : World} (h : laidMetH Tryz.prog Rows.checkJudgesRow.laid W) : Vars W := by
  have h' : laidMet Tryz.prog [("math/bits.deBruijn32tab", Rows.laid_math_bits_deBruijn32tab), ("math/bits.deBruijn64tab", Rows.laid_math_bits_deBruijn64tab), ("internal/strconv.uint64pow10", Rows.laid_internal_strconv_uint64pow10), ("strconv.ErrRange", Rows.laid_strconv_ErrRange), ("strconv.ErrSyntax", Rows.laid_strconv_ErrSyntax), ("clepsydra/clepsydraref.Fine", Rows.laid_clepsydra_clepsydraref_Fine), ("clepsydra/lex.marks", Rows.laid_clepsydra_lex_marks), ("clepsydra/parse.between", Rows.laid_clepsydra_parse_between), ("clepsydra/parse.ahead", Rows.laid_clepsydra_parse_ahead), ("clepsydra/parse.kinds", Rows.laid_clepsydra_parse_kinds), ("clepsydra/parse.leads", Rows.laid_clepsydra_parse_leads), ("clepsydra/parse.words", Rows.laid_clepsydra_parse_words)] W ∧ handlesMet Tryz.prog [("errors.errorType", Rows.laid_errors_errorType)] W := h
  obtain ⟨⟨ps, hl, _⟩, hh⟩ := h'
  have m0 : ∀ (a : String × DataW Unit) (r : List (String × DataW Unit)), a ∈ a :: r := fun a r => List.mem_cons_self
  have hf := fine_of hl (.tail _ (.tail _ (.tail _ (.tail _ (.tail _ (m0 _ _))))))
  exact vars_laid hl hh (m0 _ _) hf (.tail _ (.tail _ (.tail _ (.tail _ (.tail _ (.tail _ (m0 _ _))))))) (.tail _ (.tail _ (.tail _ (.tail _ (.tail _ (.tail _ (.tail _ (m0 _ _)))))))) (.tail _ (.tail _ (.tail _ (.tail _ (.tail _ (.tail _ (.tail _ (.tail _ (m0 _ _))))))))) (.tail _ (.tail _ (.tail _ (.tail _ (.tail _ (.tail _ (.tail _ (.tail _ (.tail _ (m0 _ _)))))))))) (.tail _ (.tail _ (.tail _ (.tail _ (.tail _ (.tail _ (.tail _ (.tail _ (.tail _ (.tail _ (m0 _ _))))))))))) (.tail _ (.tail _ (.tail _ (.tail _ (.tail _ (.tail _ (.tail _ (.tail _ (.tail _ (.tail _ (.tail _ (m0 _ _)))))))))))) (.tail _ (m0 _ _))
end Go.Proofs.YtanlfmhlohcmgaaGreatDoor
