/- A map of numbers to numbers, told by a plain function, and how many there are. -/
import Derived.Test.YtanlfmhlohcmgaaGreatDoorQCm
import Derived.Maps.OwnSet
import Derived.Test.YtanlfmhlohcmgaaGreatDoorQCo
namespace Go.Proofs.YtanlfmhlohcmgaaGreatDoor
open Go.RowKit Go.Maps Go.WideMaps Px

theorem imapLaw : Keyed Tryz.prog 3 := int_keyed Tryz.underlying3
/-- block b is a map of so many numbers that has of each what f tells -/
def MapN (w : World) (b n : Nat) (f : Nat → Option Nat) : Prop :=
  ∃ D : DataW Unit, w.ownsMap Tryz.prog 3 (plainElem Tryz.prog 3) b n D ∧ Maps.size D = n ∧ ∀ (s : Nat) (zd : DataW Unit), D.atKey (.int .i64 (s : Int)) zd = match f s with
    | none => zd
    | some i => .lit (.int .i64 (i : Int))
theorem MapN.lt {w : World} {b n : Nat} {f : Nat → Option Nat} (h : MapN w b n f) : b < w.heap.size := by obtain ⟨D, h, _⟩ := h; exact h.lt
theorem MapN.keep {w w' : World} {b n : Nat} {f : Nat → Option Nat} (h : MapN w b n f) (hb : w'.heap[b]? = w.heap[b]?) : MapN w' b n f := by
  obtain ⟨D, ⟨es, clock, h1, h2⟩, h3⟩ := h
  exact ⟨D, ⟨es, clock, by rw [hb]; exact h1, h2⟩, h3⟩
theorem MapN.below {w w' : World} {b n : Nat} {f : Nat → Option Nat} (h : MapN w b n f) (hb : Below w.heap.size w w') : MapN w' b n f := h.keep (hb.block b h.lt)
theorem MapN.like {w : World} {b n : Nat} {f g : Nat → Option Nat} (h : MapN w b n f) (hfg : ∀ s, f s = g s) : MapN w b n g := by
  have : f = g := funext hfg
  exact this ▸ h
theorem mapN_made (w : World) : MapN (w.alloc (.map #[] 0)) w.heap.size 0 (fun _ => none) :=
  ⟨.map [], World.ownsMap_made _ _ _ _, rfl, fun _ _ => rfl⟩
theorem MapN.look1 {w : World} {b n : Nat} {f : Nat → Option Nat} (h : MapN w b n f) {s : Nat} (hs : s ≤ 9223372036854775807) :
    (Instr.lookup 82 (.map (some b)) (.int .i64 (s : Int)) false).run Tryz.prog w = .ok (.int .i64 (((f s).getD 0 : Nat) : Int)) w := by
  obtain ⟨D, ⟨es, clock, hb, F, hsz, rfl⟩, hm, hat⟩ := h
  rcases Maps.fit_look false imapLaw Tryz.underlying82 (smapZero w) hb F (keyOf_int_mk Tryz.underlying3 (nat_wf hs)) with ⟨hrun, _, h1⟩ | ⟨e0, y, _, _, hrun, hR, h1, _⟩
  · rw [hrun]
    cases hf : f s with
    | none => rfl
    | some i =>
      have a1 := hat s (.lit (.bool true))
      rw [hf, h1] at a1
      simp at a1
  · rw [hrun]
    cases hf : f s with
    | none =>
      have a1 := hat s (.lit (.bool true))
      have a2 := hat s (.lit (.bool false))
      rw [hf, h1] at a1
      rw [hf, h1] at a2
      rw [a1] at a2
      simp at a2
    | some i =>
      have a1 := hat s (.lit (.bool true))
      rw [hf, h1] at a1
      obtain ⟨c, hv, hy, _⟩ := plainElem_int_inv Tryz.underlying3 hR
      rw [hy] at a1
      simp only [DataW.lit.injEq, Lit.int.injEq, true_and] at a1
      rw [hv, a1]; rfl
theorem MapN.put {w : World} {b n : Nat} {f : Nat → Option Nat} (h : MapN w b n f) (hn : n < maxLen) {s : Nat} (hs : s ≤ 9223372036854775807) (hf : f s = none) {i : Nat} (hi : i ≤ 9223372036854775807) :
    ∃ w', (Instr.mapUpdate 82 (.map (some b)) (.int .i64 (s : Int)) (.int .i64 (i : Int))).run Tryz.prog w = .ok () w' ∧ MapN w' b (n + 1) (fun t => if s = t then some i else f t) ∧ w.grownBy w' (some b) := by
  obtain ⟨D, hD, hsz, hat⟩ := h
  obtain ⟨w', hrun, hD', hg⟩ := hD.update imapLaw Tryz.underlying82 hn (keyOf_int_mk Tryz.underlying3 (nat_wf hs)) (plainElem_int Tryz.underlying3 (nat_wf hi))
  have hno : Maps.has D (.int .i64 (s : Int)) = false := Maps.has_false_of_atKey fun z => by have := hat s z; rw [hf] at this; exact this
  refine ⟨w', hrun, ⟨_, hD', ?_, fun t zd => ?_⟩, hg⟩
  · rw [Maps.size_put (hD.tidy imapLaw), hno, hsz]; rfl
  · by_cases e : s = t
    · subst e
      rw [atKey_put_same hD.isMap (k := .int .i64 (s : Int)) (by simp [WideAt.IsKeyLit])]
      simp
    · rw [atKey_put_other (by intro hh; injection hh with _ hh; omega), hat t zd]
      simp [e]
theorem MapN.len {w : World} {b n : Nat} {f : Nat → Option Nat} (h : MapN w b n f) (ty : TypeId) : (Builtin.len_ #[82] ty #[.map (some b)]).run Tryz.prog w = .ok (.int .i64 (n : Int)) w := by
  obtain ⟨D, hD, hsz, _⟩ := h
  rw [hD.len Tryz.underlying82 ty, hsz]
theorem wpList_nLen (w : World) {ops : Array Oper} {rest : List Oper} {o : Oper} {a : Act} {Q : Exit → Act → World → Prop}
    (hg : o.guard = none) (m : Operand) (hop : o.op = Op.call { callee := Callee.builtin Builtin.len, args := #[m], argTypes := #[82] }) (b n : Nat) (f : Nat → Option Nat) (hm : a.eval m = .map (some b)) (hown : MapN w b n f)
    (hK : wpList Tryz.prog ops Q rest (a.put o.dst (.int .i64 (n : Int))) w) : wpList Tryz.prog ops Q (o :: rest) a w := by
  refine wpList_plain hg fun K' hK' => ?_
  unfold Oper.wp
  simp [execOp, hop, resolve, invoke, builtin, hm, hown.len o.type, Result.andThen]
  exact hK' _ _ hK
theorem wpList_nPut (w : World) {ops : Array Oper} {rest : List Oper} {o : Oper} {a : Act} {Q : Exit → Act → World → Prop}
    (hg : o.guard = none) (m x v : Operand) (hop : o.op = Op.mapUpdate 82 m x v) (b n : Nat) (f : Nat → Option Nat)
    (hm : a.eval m = .map (some b)) (s : Nat) (i : Nat) (hx : a.eval x = .int .i64 (s : Int)) (hv : a.eval v = .int .i64 (i : Int)) (hown : MapN w b n f) (hn : n < maxLen) (hs : s ≤ 9223372036854775807) (hf : f s = none) (hi : i ≤ 9223372036854775807)
    (hK : ∀ w', MapN w' b (n + 1) (fun t => if s = t then some i else f t) → w.grownBy w' (some b) → wpList Tryz.prog ops Q rest (a.put o.dst undef) w') :
    wpList Tryz.prog ops Q (o :: rest) a w := by
  refine wpList_plain hg fun K' hK' => ?_
  obtain ⟨w', hrun, r1, r2⟩ := hown.put hn hs hf hi
  unfold Oper.wp
  simp [execOp, hop, hm, hx, hv, hrun, Result.andThen]
  exact hK' _ _ (hK w' r1 r2)
end Go.Proofs.YtanlfmhlohcmgaaGreatDoor
/- Plain mathematics of the order: each state stands in it once, ahead of those to which its ways lead at once; no program. -/
namespace Go.Proofs.YtanlfmhlohcmgaaGreatDoor
namespace Px

/-- where a number stands in a list: the last place, if any -/
def posK (o : List Nat) : Nat → Nat → Option Nat
  | 0, _ => none
  | p + 1, k => if o.getD p 0 = k then some p else posK o p k
theorem posK_some {o : List Nat} : ∀ {p k q : Nat}, posK o p k = some q → q < p ∧ o.getD q 0 = k := by
  intro p
  induction p with
  | zero => intro k q h; simp [posK] at h
  | succ p ih =>
    intro k q h
    rw [posK] at h
    split at h
    · rename_i he
      injection h with h
      subst h
      exact ⟨by omega, he⟩
    · have := ih h
      exact ⟨by omega, this.2⟩
theorem posK_none {o : List Nat} : ∀ {p k : Nat}, (∀ q, q < p → o.getD q 0 ≠ k) → posK o p k = none := by
  intro p
  induction p with
  | zero => intro k _; rfl
  | succ p ih => intro k h; rw [posK, if_neg (h p (by omega))]; exact ih fun q hq => h q (by omega)
/-- no number stands twice -/
def Once (o : List Nat) : Prop := ∀ p q, p < o.length → q < o.length → o.getD p 0 = o.getD q 0 → p = q
theorem posK_of {o : List Nat} (ho : Once o) : ∀ {p q : Nat}, q < p → p ≤ o.length → posK o p (o.getD q 0) = some q := by
  intro p
  induction p with
  | zero => intro q h _; omega
  | succ p ih =>
    intro q h hp
    rw [posK]
    split
    · rename_i he
      rw [ho p q (by omega) (by omega) he]
    · rename_i hne
      by_cases e : q = p
      · subst e; exact absurd rfl hne
      · exact ih (by omega) (by omega)
theorem posK_fresh {o : List Nat} (ho : Once o) {p : Nat} (hp : p < o.length) : posK o p (o.getD p 0) = none :=
  posK_none fun q hq h => by have := ho q p (by omega) hp h; omega
theorem getD_snoc_lt (o : List Nat) (j p : Nat) (hp : p < o.length) : (o ++ [j]).getD p 0 = o.getD p 0 := by
  rw [List.getD_eq_getElem?_getD, List.getD_eq_getElem?_getD, List.getElem?_append_left hp]
theorem getD_snoc (o : List Nat) (j : Nat) : (o ++ [j]).getD o.length 0 = j := by
  rw [List.getD_eq_getElem?_getD, List.getElem?_append_right (Nat.le_refl _)]; simp
theorem mem_getD (o : List Nat) (k : Nat) : k ∈ o ↔ ∃ p, p < o.length ∧ o.getD p 0 = k := by
  constructor
  · intro h
    obtain ⟨p, hp, he⟩ := List.getElem_of_mem h
    exact ⟨p, hp, by rw [List.getD_eq_getElem?_getD, List.getElem?_eq_getElem hp]; exact he⟩
  · rintro ⟨p, hp, rfl⟩
    rw [List.getD_eq_getElem?_getD, List.getElem?_eq_getElem hp]
    exact List.getElem_mem hp
theorem cntK_zero {G : List (List (Option Nat))} {T : List Bool} {j : Nat} : ∀ {k : Nat}, cntK G T j k = 0 → ∀ i, i < k → T.getD i false = false → (G.getD i []).count (some j) = 0 := by
  intro k
  induction k with
  | zero => intro _ i h; omega
  | succ k ih =>
    intro h i hi ht
    rw [cntK] at h
    by_cases e : i = k
    · subst e
      rw [ht] at h
      simp only [Bool.false_eq_true, if_false] at h
      omega
    · exact ih (by omega) i (by omega) ht
/-- an order that is kept: no number twice; who is told is in it; and what leads to one that is in it stands ahead -/
structure Fair (G : List (List (Option Nat))) (o : List Nat) (T : List Bool) : Prop where
  once : Once o
  told : ∀ k, k < G.length → (T.getD k false = true ↔ k ∈ o)
  low : ∀ k ∈ o, k < G.length
  len : T.length = G.length
  ahead : ∀ q, q < o.length → ∀ k, k < G.length → some (o.getD q 0) ∈ G.getD k [] → ∃ p, p < q ∧ o.getD p 0 = k
theorem fair_ordK {G : List (List (Option Nat))} : ∀ {r : Nat} {o : List Nat} {T : List Bool}, ordK G r = some (o, T) → Fair G o T := by
  intro r
  induction r with
  | zero =>
    intro o T h
    rw [ordK] at h
    injection h with h
    injection h with h1 h2
    subst h1; subst h2
    exact ⟨fun p q hp => absurd hp (by simp), fun k _ => by rw [getD_repl]; simp, by simp, by simp, fun q hq => absurd hq (by simp)⟩
  | succ r ih =>
    intro o T h
    rw [ordK] at h
    split at h
    · exact absurd h (by simp)
    · rename_i o' T' hr
      split at h
      · exact absurd h (by simp)
      · rename_i j hj
        injection h with h
        injection h with h1 h2
        subst h1; subst h2
        have F := ih hr
        obtain ⟨n1, n2, _⟩ := nextG_some hj
        unfold freeG at n2
        simp only [Bool.and_eq_true, Bool.not_eq_true', decide_eq_true_eq] at n2
        have hjo : j ∉ o' := fun hm => by have := (F.told j n1).2 hm; rw [n2.1] at this; simp at this
        refine ⟨?_, ?_, ?_, by rw [List.length_set]; exact F.len, ?_⟩
        · intro p q hp hq he
          rw [List.length_append, List.length_singleton] at hp hq
          by_cases e1 : p < o'.length
          · by_cases e2 : q < o'.length
            · rw [getD_snoc_lt _ _ _ e1, getD_snoc_lt _ _ _ e2] at he
              exact F.once p q e1 e2 he
            · obtain rfl : q = o'.length := by omega
              rw [getD_snoc_lt _ _ _ e1, getD_snoc] at he
              exact absurd ((mem_getD _ _).2 ⟨p, e1, he⟩) hjo
          · obtain rfl : p = o'.length := by omega
            by_cases e2 : q < o'.length
            · rw [getD_snoc_lt _ _ _ e2, getD_snoc] at he
              exact absurd ((mem_getD _ _).2 ⟨q, e2, he.symm⟩) hjo
            · omega
        · intro k hk
          rw [set_getD T' j k (by rw [F.len]; exact n1)]
          by_cases e : j = k
          · subst e; simp
          · rw [if_neg e, F.told k hk]
            simp [Ne.symm e]
        · intro k hk
          rcases List.mem_append.1 hk with hk | hk
          · exact F.low k hk
          · rw [List.mem_singleton.1 hk]; exact n1
        · intro q hq k hk hm
          rw [List.length_append, List.length_singleton] at hq
          by_cases e : q < o'.length
          · rw [getD_snoc_lt _ _ _ e] at hm
            obtain ⟨p, hp, he⟩ := F.ahead q e k hk hm
            exact ⟨p, hp, by rw [getD_snoc_lt _ _ _ (by omega)]; exact he⟩
          · obtain rfl : q = o'.length := by omega
            rw [getD_snoc] at hm
            have hk1 : k ∈ o' := by
              rw [← F.told k hk]
              cases ht : T'.getD k false with
              | true => rfl
              | false =>
                have := cntK_zero n2.2 k hk ht
                exact absurd hm (List.count_eq_zero.1 this)
            obtain ⟨p, hp, he⟩ := (mem_getD _ _).1 hk1
            exact ⟨p, hp, by rw [getD_snoc_lt _ _ _ hp]; exact he⟩
theorem few_below : ∀ (n : Nat) (o : List Nat), o.Nodup → (∀ k ∈ o, k < n) → o.length ≤ n := by
  intro n
  induction n with
  | zero =>
    intro o _ h
    cases o with
    | nil => simp
    | cons a r => exact absurd (h a (by simp)) (by omega)
  | succ n ih =>
    intro o hd h
    by_cases hm : n ∈ o
    · have h1 := ih (o.erase n) (hd.erase n) (fun k hk => by
        have h2 := (hd.mem_erase_iff).1 hk
        have := h k h2.2
        have := h2.1
        omega)
      have := List.length_erase_of_mem hm
      omega
    · have := ih o hd (fun k hk => by
        have := h k hk
        have : k ≠ n := fun e => hm (e ▸ hk)
        omega)
      omega
/-- as many numbers below a bound as it says, none twice: each is there -/
theorem once_all : ∀ (n : Nat) (o : List Nat), Once o → (∀ k ∈ o, k < n) → o.length = n → ∀ k, k < n → k ∈ o := by
  intro n o ho hl hn k hk
  have hnd : o.Nodup := by
    rw [List.nodup_iff_pairwise_ne, List.pairwise_iff_getElem]
    intro i j hi hj hij he
    have := ho i j hi hj (by rw [List.getD_eq_getElem?_getD, List.getD_eq_getElem?_getD, List.getElem?_eq_getElem hi, List.getElem?_eq_getElem hj]; exact congrArg (fun x => (some x).getD 0) he)
    omega
  by_cases hm : k ∈ o
  · exact hm
  · have := few_below n (k :: o) (List.nodup_cons.2 ⟨hm, hnd⟩) (fun x hx => by
      rcases List.mem_cons.1 hx with rfl | hx
      · exact hk
      · exact hl x hx)
    rw [List.length_cons] at this
    omega
/-- what of an order the law asks -/
theorem order_fair {G : List (List (Option Nat))} {o : List Nat} (h : orderG G = some o) : o.length = G.length ∧ Once o ∧ (∀ k ∈ o, k < G.length) ∧ (∀ k, k < G.length → ∃ p, posK o o.length k = some p) ∧ ∀ k j, k < G.length → j < G.length → some j ∈ G.getD k [] → ∀ p q, posK o o.length k = some p → posK o o.length j = some q → p < q := by
  unfold orderG at h
  cases hk : ordK G G.length with
  | none => rw [hk] at h; simp at h
  | some x =>
    obtain ⟨o', T⟩ := x
    rw [hk] at h
    simp at h
    subst h
    have F := fair_ordK hk
    have hl := (ordK_shut hk).2.1
    refine ⟨hl, F.once, F.low, fun k hk' => ?_, fun k j hk' hj hm p q hp hq => ?_⟩
    · obtain ⟨p, hp, he⟩ := (mem_getD _ _).1 (once_all _ o' F.once F.low hl k hk')
      exact ⟨p, by rw [← he]; exact posK_of F.once hp (Nat.le_refl _)⟩
    · obtain ⟨p1, p2⟩ := posK_some hp
      obtain ⟨q1, q2⟩ := posK_some hq
      obtain ⟨p', hp', he⟩ := F.ahead q q1 k hk' (by rw [q2]; exact hm)
      have := F.once p p' p1 (by omega) (by rw [p2, he])
      omega
section
variable {ρ : Type}
/-- the names of a region's first states: the last one that has the name -/
def namK (ns : List Str) : Nat → Str → Option Nat
  | 0, _ => none
  | p + 1, s => if ns.getD p [] = s then some p else namK ns p s
theorem namK_of {ns : List Str} (hd : Dist ns) : ∀ {p q : Nat}, q < p → p ≤ ns.length → namK ns p (ns.getD q []) = some q := by
  intro p
  induction p with
  | zero => intro q h _; omega
  | succ p ih =>
    intro q h hp
    rw [namK]
    split
    · rename_i he
      rw [hd.inj (by omega) (by omega) he]
    · rename_i hne
      by_cases e : q = p
      · subst e; exact absurd rfl hne
      · exact ih (by omega) (by omega)
theorem namK_fnd {ns : List Str} (hd : Dist ns) {s : Str} {i : Nat} (h : fnd ns s = some i) : namK ns ns.length s = some i := by
  obtain ⟨h1, h2, _⟩ := fnd_some h
  rw [← h2]
  exact namK_of hd h1 (Nat.le_refl _)
/-- a state's ways are right: each leads to a state of the region -/
theorem waysE_to {vs : List Decl} {ns : List Str} {b : Bool} : ∀ {l : List Wy}, waysE vs ns b l = 0 → ∀ y ∈ l, ∃ i, fnd ns y.to = some i := by
  intro l
  induction l with
  | nil => intro _ y hy; simp at hy
  | cons a r ih =>
    intro h y hy
    rw [waysE] at h
    by_cases e : wayE vs ns b a = 0
    · rw [if_neg (by simp [e])] at h
      rcases List.mem_cons.1 hy with rfl | hy
      · cases hf : fnd ns y.to with
        | some i => exact ⟨i, rfl⟩
        | none => unfold wayE at e; rw [hf] at e; simp at e
      · exact ih h y hy
    · rw [if_pos e] at h
      exact absurd h e
theorem stateE_to {vs : List Decl} {ns : List Str} {i : Nat} {s : StF ρ} (h : stateE vs ns i s = 0) : ∀ y ∈ s.ways, ∃ i, fnd ns y.to = some i := by
  unfold stateE at h
  split at h
  · simp at h
  · unfold aloneE at h
    split at h
    · simp at h
    · split at h
      · contradiction
      · split at h
        · contradiction
        · split at h
          · contradiction
          · split at h
            · simp at h
            · exact waysE_to h
theorem statesE_ok {vs : List Decl} {R : List ρ → Nat → Res} {ns : List Str} : ∀ {l : List (StF ρ)} {i n m : Nat}, statesE vs R ns l i n = .ok m → ∀ s ∈ l, (∃ i, stateE vs ns i s = 0) ∧ ∃ n m, regsE R s.regions n = .ok m := by
  intro l
  induction l with
  | nil => intro i n m _ s hs; simp at hs
  | cons a r ih =>
    intro i n m h s hs
    rw [statesE] at h
    split at h
    · exact absurd h (by simp)
    · rename_i he
      split at h
      · exact absurd h (by simp)
      · rename_i m' hm'
        rcases List.mem_cons.1 hs with rfl | hs
        · exact ⟨⟨i, by omega⟩, _, _, hm'⟩
        · exact ih h s hs
theorem regsE_ok {R : List ρ → Nat → Res} : ∀ {l : List (List ρ)} {n m : Nat}, regsE R l n = .ok m → ∀ r ∈ l, ∃ n m, R r n = .ok m := by
  intro l
  induction l with
  | nil => intro n m _ r hr; simp at hr
  | cons a r ih =>
    intro n m h x hx
    rw [regsE] at h
    split at h
    · exact absurd h (by simp)
    · rename_i m' hm'
      rcases List.mem_cons.1 hx with rfl | hx
      · exact ⟨_, _, hm'⟩
      · exact ih h x hx
/-- a region that may be: what the law asks of it -/
def OrdOk (l : List (StF ρ)) : Prop := ∃ o, orderG (graph l) = some o ∧ Dist (snames l) ∧ ∀ s ∈ l, ∀ y ∈ s.ways, ∃ i, fnd (snames l) y.to = some i
theorem regF_ok {vs : List Decl} {R : List ρ → Nat → Res} {l : List (StF ρ)} {n m : Nat} (h : regF vs R l n = .ok m) : OrdOk l ∧ ∀ s ∈ l, ∃ n m, regsE R s.regions n = .ok m := by
  unfold regF at h
  split at h
  · exact absurd h (by simp)
  · rename_i m' hs
    split at h
    · exact absurd h (by simp)
    · rename_i hw
      have hw : wholeE l = 0 := by omega
      unfold wholeE at hw
      split at hw
      · simp at hw
      · split at hw
        · simp at hw
        · split at hw
          · simp at hw
          · rename_i ho
            cases hg : orderG (graph l) with
            | none => rw [hg] at ho; simp at ho
            | some o => exact ⟨⟨o, hg, regF_dist hs, fun s hs' => by obtain ⟨⟨i, hi⟩, _⟩ := statesE_ok hs s hs'; exact stateE_to hi⟩, fun s hs' => (statesE_ok hs s hs').2⟩
end
/-- .. at every depth -/
def OrdAll : (k : Nat) → List (St k) → Prop
  | 0 => fun _ => False
  | k + 1 => fun l => OrdOk l ∧ ∀ s ∈ (l : List (StF (St k))), ∀ r ∈ StF.regions s, OrdAll k r
theorem regE_all {vs : List Decl} : ∀ {k : Nat} {l : List (St k)} {n m : Nat}, regE vs k l n = .ok m → OrdAll k l := by
  intro k
  induction k with
  | zero => intro l n m h; simp [regE] at h
  | succ k ih =>
    intro l n m h
    obtain ⟨h1, h2⟩ := regF_ok (show regF vs (regE vs k) l n = .ok m from h)
    exact ⟨h1, fun s hs r hr => by
      obtain ⟨n, m, hq⟩ := h2 s hs
      obtain ⟨n', m', hq'⟩ := regsE_ok hq r hr
      exact ih hq'⟩
theorem check_all {c : Chart} (h : checkC c = none) : ∀ r ∈ c.regions, OrdAll 6 r := by
  unfold checkC at h
  split at h
  · exact absurd h (by simp)
  · split at h
    · exact absurd h (by simp)
    · split at h
      · exact absurd h (by simp)
      · rename_i m hm
        intro r hr
        obtain ⟨n, m, hq⟩ := regsE_ok hm r hr
        exact regE_all hq
end Px
end Go.Proofs.YtanlfmhlohcmgaaGreatDoor
