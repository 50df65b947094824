/- Plain mathematics of chapter 4: the document's own way of saying it. -/
import Derived.Test.YtiihgnagjemikaaGreatDoorVUk
import Derived.Deep.LoopGhost
import Derived.Deep.RegionHeld3
import Derived.Deep.DeepCutAuto
import Derived.Defers
import Derived.Recover
import Derived.Test.YtiihgnagjemikaaGreatDoorProg
import Derived.WalkKit
import Derived.WalkSpells
import Derived.WalkLawsBesides
import Derived.Laws.EntriesVeiled
import Derived.Deep.Cut
namespace Go.Proofs.YtiihgnagjemikaaGreatDoor
namespace Px

/-- all names of an expression are some of those -/
def namesR (ns : List Str) : E → Bool
  | .nil => true
  | .node _ _ a l r => if a.code = 2 ∨ a.code = 3 then (fnd ns a.name).isSome else namesR ns l && namesR ns r
/-- an expression's shape: what has nothing beside it -/
def ShE : E → Prop
  | .nil => True
  | .node _ _ a l r => (a.code = 1 → l = .nil ∧ r = .nil) ∧ (a.code = 4 ∨ a.code = 5 → r = .nil) ∧ ShE l ∧ ShE r
theorem namesR_eq (ns : List Str) {e : E} (h : ShE e) : namesR ns e = !strangeE ns e := by
  induction e with
  | nil => rfl
  | node b o a l r ihl ihr =>
    obtain ⟨h1, h2, h3, h4⟩ := h
    rw [namesR, strangeE]
    by_cases c23 : a.code = 2 ∨ a.code = 3
    · rw [if_pos c23, if_neg (by omega), if_pos c23]
      cases fnd ns a.name <;> rfl
    · rw [if_neg c23]
      by_cases c1 : a.code = 1
      · obtain ⟨rfl, rfl⟩ := h1 c1
        rw [if_pos c1]; rfl
      · rw [if_neg c1, if_neg c23, ihl h3, ihr h4]
        by_cases c4 : a.code = 4 ∨ a.code = 5
        · rw [if_pos c4]
          obtain rfl := h2 c4
          simp [strangeE]
        · rw [if_neg c4]; simp
theorem twice_iff (ns : List Str) (i : Nat) (hi : i < ns.length) : (fndI ns (ns.getD i []) < i) ↔ ∃ j, j < i ∧ ns.getD j [] = ns.getD i [] := by
  obtain ⟨k, hk, hle⟩ := fnd_le hi
  unfold fndI
  rw [hk]
  obtain ⟨h1, h2, h3⟩ := fnd_some hk
  constructor
  · intro h
    have : k < i := by
      have h' : (k : Int) < (i : Int) := h
      omega
    exact ⟨k, this, h2⟩
  · rintro ⟨j, hj, he⟩
    show (k : Int) < (i : Int)
    by_cases hkj : j < k
    · exact absurd he (h3 j hkj)
    · omega
/-- no two have one name -/
def Dist (ns : List Str) : Prop := ∀ i, i < ns.length → ¬ fndI ns (ns.getD i []) < i
theorem Dist.inj {ns : List Str} (h : Dist ns) {i j : Nat} (hi : i < ns.length) (hj : j < ns.length) (he : ns.getD i [] = ns.getD j []) : i = j := by
  by_cases h1 : i < j
  · exact absurd ((twice_iff ns j hj).2 ⟨i, h1, he⟩) (h j hj)
  · by_cases h2 : j < i
    · exact absurd ((twice_iff ns i hi).2 ⟨j, h2, he.symm⟩) (h i hi)
    · omega
theorem Dist.fnd {ns : List Str} (h : Dist ns) {i : Nat} (hi : i < ns.length) {s : Str} : fnd ns s = some i ↔ s = ns.getD i [] := by
  constructor
  · intro e; exact (fnd_some e).2.1.symm
  · intro e
    subst e
    exact fnd_of hi rfl fun j hj he => by have := h.inj (by omega) hi he; omega

section
variable {ρ : Type}
theorem snames_len (l : List (StF ρ)) : (snames l).length = l.length := by simp [snames]
theorem graph_len (l : List (StF ρ)) : (graph l).length = l.length := by simp [graph]
theorem snames_at (l : List (StF ρ)) (i : Nat) (s : StF ρ) (h : l[i]? = some s) : (snames l).getD i [] = s.name := by
  rw [snames, List.getD_eq_getElem?_getD, List.getElem?_map, h]; rfl
theorem graph_at (l : List (StF ρ)) (i : Nat) (s : StF ρ) (h : l[i]? = some s) : (graph l).getD i [] = tosF (snames l) s.ways := by
  rw [graph, List.getD_eq_getElem?_getD, List.getElem?_map, h]; rfl
theorem tosF_len (ns : List Str) (ys : List Wy) : (tosF ns ys).length = ys.length := by simp [tosF]
theorem tosF_at (ns : List Str) (ys : List Wy) (m : Nat) (y : Wy) (h : ys[m]? = some y) : (tosF ns ys).getD m none = if y.now then fnd ns y.to else none := by
  rw [tosF, List.getD_eq_getElem?_getD, List.getElem?_map, h]; rfl
/-- what the document asks of the next one, way by way: of state j the first m ways -/
def openW (T : List Bool) (nm : Str) (j : Nat) (ys : List Wy) : Bool := ys.all fun y => T.getD j false || !y.now || decide (y.to ≠ nm)
/-- of the first k states -/
def openK (l : List (StF ρ)) (T : List Bool) (nm : Str) : Nat → Bool
  | 0 => true
  | k + 1 => openK l T nm k && match l[k]? with
    | none => true
    | some s => openW T nm k s.ways
theorem count_tos {ns : List Str} (hd : Dist ns) {i : Nat} (hi : i < ns.length) (ys : List Wy) : (tosF ns ys).count (some i) = 0 ↔ ∀ y ∈ ys, y.now = false ∨ y.to ≠ ns.getD i [] := by
  rw [List.count_eq_zero, tosF]
  constructor
  · intro h y hy
    cases hn : y.now with
    | false => exact .inl rfl
    | true =>
      refine .inr fun he => h ?_
      refine List.mem_map.2 ⟨y, hy, ?_⟩
      rw [if_pos hn]
      exact (hd.fnd hi).2 he
  · intro h hm
    obtain ⟨y, hy, he⟩ := List.mem_map.1 hm
    rcases h y hy with hn | hn
    · rw [hn] at he; simp at he
    · by_cases hb : y.now = true
      · rw [if_pos hb] at he
        exact hn ((hd.fnd hi).1 he)
      · rw [if_neg hb] at he; simp at he
theorem openW_eq {ns : List Str} (hd : Dist ns) {i : Nat} (hi : i < ns.length) (T : List Bool) (j : Nat) (ys : List Wy) : openW T (ns.getD i []) j ys = decide ((if T.getD j false then 0 else (tosF ns ys).count (some i)) = 0) := by
  by_cases ht : T.getD j false = true
  · rw [if_pos ht]
    unfold openW
    rw [ht]; simp
  · rw [if_neg ht]
    have ht : T.getD j false = false := by simpa using ht
    rw [Bool.eq_iff_iff, decide_eq_true_iff, count_tos hd hi]
    unfold openW
    rw [ht, List.all_eq_true]
    constructor
    · intro h y hy
      have := h y hy
      cases hn : y.now with
      | false => exact .inl rfl
      | true => rw [hn] at this; simp at this; exact .inr this
    · intro h y hy
      rcases h y hy with hn | hn
      · rw [hn]; simp
      · simp only [Bool.false_or, Bool.or_eq_true, decide_eq_true_eq]; exact .inr hn
theorem openK_eq (l : List (StF ρ)) (hd : Dist (snames l)) {i : Nat} (hi : i < l.length) (T : List Bool) (k : Nat) (hk : k ≤ l.length) : openK l T ((snames l).getD i []) k = decide (cntK (graph l) T i k = 0) := by
  induction k with
  | zero => simp [openK, cntK]
  | succ k ih =>
    obtain ⟨s, hs⟩ : ∃ s, l[k]? = some s := ⟨l[k], List.getElem?_eq_getElem (by omega)⟩
    rw [openK, ih (by omega), hs, cntK, graph_at l k s hs]
    show (_ && openW _ _ _ _) = _
    rw [openW_eq hd (by rw [snames_len]; exact hi)]
    rw [Bool.eq_iff_iff]
    simp only [Bool.and_eq_true, decide_eq_true_eq]
    omega
theorem free_eq (l : List (StF ρ)) (hd : Dist (snames l)) {i : Nat} (hi : i < l.length) (T : List Bool) : freeG (graph l) T i = (!T.getD i false && openK l T ((snames l).getD i []) l.length) := by
  rw [openK_eq l hd hi T _ (Nat.le_refl _), freeG, cnt, graph_len]
/-- behind its states a region's names are apart -/
theorem statesE_dist {vs : List Decl} {R : List ρ → Nat → Res} {ns : List Str} : ∀ {l : List (StF ρ)} {i n m : Nat}, statesE vs R ns l i n = .ok m → ∀ j, j < l.length → ∀ s, l[j]? = some s → ¬ fndI ns s.name < ((i + j : Nat) : Int) := by
  intro l
  induction l with
  | nil => intro i n m _ j hj; simp at hj
  | cons a r ih =>
    intro i n m h j hj s hs
    rw [statesE] at h
    split at h
    · exact absurd h (by simp)
    · rename_i hz
      split at h
      · exact absurd h (by simp)
      · cases j with
        | zero =>
          obtain rfl : a = s := by simpa using hs
          intro hlt
          apply hz
          unfold stateE
          rw [if_pos (by simpa using hlt)]
          simp
        | succ j =>
          have := ih h j (by simpa using hj) s (by simpa using hs)
          rw [show i + (j + 1) = i + 1 + j by omega]; exact this
theorem regF_dist {vs : List Decl} {R : List ρ → Nat → Res} {l : List (StF ρ)} {n m : Nat} (h : statesE vs R (snames l) l 0 n = .ok m) : Dist (snames l) := by
  intro i hi
  rw [snames_len] at hi
  have := statesE_dist h i hi _ (List.getElem?_eq_getElem hi)
  rw [snames_at l i _ (List.getElem?_eq_getElem hi)]
  simpa using this
end
end Px
end Go.Proofs.YtiihgnagjemikaaGreatDoor
/- What is asked of a chart that is run, or written as code; no program. -/
namespace Go.Proofs.YtiihgnagjemikaaGreatDoor
open Go.RowKit Px

/-- its names are no longer than a string may be, and its numbers are of 64 bits -/
def NuOk : E → Prop
  | .nil => True
  | .node _ _ a l r => a.name.length ≤ maxLen ∧ N64 a.num ∧ NuOk l ∧ NuOk r
/-- what is set may be set -/
def SetsR (ns : List Str) (l : List Asg) : Prop := ∀ a ∈ l, a.name ∈ ns ∧ a.name.length ≤ maxLen ∧ NuOk a.e
/-- what is drawn of a state may run -/
structure StR {σ : Type} (ns : List Str) (s : StF σ) : Prop where
  en : SetsR ns s.enter
  du : SetsR ns s.during
  le : SetsR ns s.leave
  re : NuOk s.rests
  wy : ∀ y ∈ s.ways, NuOk y.cond ∧ SetsR ns y.sets
  wl : s.ways.length ≤ maxLen
  il : s.regions.length ≤ maxLen
def StAll (ns : List Str) : (k : Nat) → List (St k) → Prop
  | 0 => fun _ => True
  | k + 1 => fun L => ∀ s ∈ (show List (StF (St k)) from L), StR ns s ∧ ∀ r ∈ s.regions, StAll ns k r
/-- what is drawn of a region may be laid -/
def LayR : (k : Nat) → List (St k) → Prop
  | 0 => fun _ => False
  | k + 1 => fun L => firsts (ρ := St k) L = 1 ∧ Dist (snames (ρ := St k) L) ∧ (∀ s ∈ (show List (StF (St k)) from L), ∀ y ∈ s.ways, ∃ t, fnd (snames (ρ := St k) L) y.to = some t) ∧ List.length L ≤ 1000000 ∧ ∀ s ∈ (show List (StF (St k)) from L), s.name.length ≤ maxLen ∧ s.ways.length ≤ 1000000 ∧ s.regions.length ≤ 1000000 ∧ (∀ y ∈ s.ways, y.to.length ≤ maxLen) ∧ ∀ r ∈ s.regions, LayR k r
/-- what is drawn may run -/
structure ChartR (c : Chart) : Prop where
  vl : c.vars.length ≤ 1000000
  vn : ∀ v ∈ c.vars, v.name.length ≤ maxLen
  rl : c.regions.length ≤ maxLen
  st : ∀ L ∈ c.regions, StAll (vnames c.vars) 6 L
end Go.Proofs.YtiihgnagjemikaaGreatDoor
/- The program's finders: what a name's place is. -/
namespace Go.Proofs.YtiihgnagjemikaaGreatDoor
open Go.RowKit Px

/-- a finder's closure: it tells where a name stands among those -/
def FindV (w : World) (f : Value) (ns : List Str) : Prop :=
  ∃ pb mb n, f = .func (.func 68) #[] #[.pointer (some ⟨pb, 0, none⟩)] ∧ w.heap[pb]? = some (.cells #[.map (some mb)] 136 (0, 0)) ∧ MapF w mb n (fnd ns)
theorem FindV.keep {w w' : World} {f : Value} {ns : List Str} (h : FindV w f ns) (hk : ∀ b, b < w.heap.size → (∀ o, w.heap[b]? = some o → (∃ es c, o = .map es c) ∨ ∃ mb, o = .cells #[.map (some mb)] 136 (0, 0)) → w'.heap[b]? = w.heap[b]?) : FindV w' f ns := by
  obtain ⟨pb, mb, n, rfl, h1, h2⟩ := h
  have e1 := hk pb (lt_of_block h1) (fun o ho => by rw [h1] at ho; injection ho with ho; exact .inr ⟨mb, ho.symm⟩)
  have e2 := hk mb h2.lt (fun o ho => by
    obtain ⟨D, ⟨es, c, h3, _⟩, _⟩ := h2
    rw [h3] at ho; injection ho with ho; exact .inl ⟨es, c, ho.symm⟩)
  exact ⟨pb, mb, n, rfl, by rw [e1]; exact h1, h2.keep e2⟩
theorem FindV.below {w w' : World} {f : Value} {ns : List Str} (h : FindV w f ns) (hb : Below w.heap.size w w') : FindV w' f ns := h.keep fun b hl _ => hb.block b hl

theorem find_any {pb mb n : Nat} {ns : List Str} {s : Str} {w : World} (hp : w.heap[pb]? = some (.cells #[.map (some mb)] 136 (0, 0))) (hm : MapF w mb n (fnd ns)) (hs : s.length ≤ maxLen) :
    Calls Tryz.prog 68 #[sv s, .pointer (some ⟨pb, 0, none⟩)] w fun e w' => e = .returned (.int .i64 (fndI ns s)) ∧ w' = w := by
  have hc := cell_row hp 0 (u := .map (some mb)) rfl
  have hl := hm.look hs
  generalize sv s = S at hl ⊢
  cases hf : fnd ns s with
  | none =>
    rw [hf] at hl
    have e : fndI ns s = -1 := by unfold fndI; rw [hf]
    rw [e]
    clear e hf hm hp
    go_enter Tryz.func68, Tryz.ntmps68
    go_wp2_with fail
    go_ret
    exact ⟨rfl, rfl⟩
  | some i =>
    rw [hf] at hl
    have e : fndI ns s = (i : Int) := by unfold fndI; rw [hf]
    rw [e]
    clear e hf hm hp
    go_enter Tryz.func68, Tryz.ntmps68
    go_wp2_with fail
    go_ret
    exact ⟨rfl, rfl⟩
theorem name_var {cb i g n cap : Nat} {ad : Option Addr} {s : Str} {w : World} (h1 : w.cell? ⟨cb, 1, none⟩ = some (.slice ad n cap)) (hi : i < n) (ha : 0 < n → ad = some ⟨g, 0, none⟩) (hc : w.cell? ⟨g, i * 3 + 1, none⟩ = some (sv s)) :
    Calls Tryz.prog 34 #[.int .i64 (i : Int), .pointer (some ⟨cb, 0, none⟩)] w fun e w' => e = .returned (sv s) ∧ w' = w := by
  have hix := ixV ad g n cap i hi ha
  generalize sv s = S at hc ⊢
  go_enter Tryz.func34, Tryz.ntmps34
  go_wp2_with fail
  go_ret
  exact ⟨rfl, rfl⟩
theorem name_state {cb i g n cap : Nat} {ad : Option Addr} {s : Str} {w : World} (h1 : w.cell? ⟨cb, 0, none⟩ = some (.slice ad n cap)) (hi : i < n) (ha : 0 < n → ad = some ⟨g, 0, none⟩) (hc : w.cell? ⟨g, i * 9, none⟩ = some (sv s)) :
    Calls Tryz.prog 121 #[.int .i64 (i : Int), .pointer (some ⟨cb, 0, none⟩)] w fun e w' => e = .returned (sv s) ∧ w' = w := by
  have hix := ixT ad g n cap i hi ha
  generalize sv s = S at hc ⊢
  go_enter Tryz.func121, Tryz.ntmps121
  go_wp2_with fail
  go_ret
  exact ⟨rfl, rfl⟩

theorem mkmap (M : Int) (w : World) : (Instr.makeMap 136 (some (.int .i64 M))).run Tryz.prog w = .ok (.map (some w.heap.size)) (w.alloc (.map #[] 0)) := by kernel_rfl
theorem ck_drew {w w' : World} (h : Below w.heap.size w w') : Below w.heap.size w w'.drew := h.drew
set_option maxRecDepth 100000 in
set_option maxHeartbeats 2000000 in
theorem finder_any (K : Nat) (hK : K = 34 ∨ K = 121) (q : Nat) (ns : List Str) (M : Nat) (hM : Hid (M = ns.length)) (hmx : M ≤ 1000000) (hln : Hid (∀ i, i < M → (ns.getD i []).length ≤ maxLen)) (w : World)
    (hname : Hid (∀ X i, Below w.heap.size w X → i < M → Calls Tryz.prog K #[.int .i64 (i : Int), .pointer (some ⟨q, 0, none⟩)] X fun e w' => e = .returned (sv (ns.getD i [])) ∧ w' = X)) :
    Calls Tryz.prog 33 #[.int .i64 (M : Int), .func (.func K) #[] #[.pointer (some ⟨q, 0, none⟩)]] w fun e w' => ∃ f, e = .returned f ∧ FindV w' f ns ∧ Below w.heap.size w w' := by
  have hmf : ∀ (fn : Fn) (first cap : Array Value) (w : World), (Instr.makeFunc fn first cap).run Tryz.prog w = .ok (.func fn first cap) w := fun _ _ _ _ => rfl
  have hmk := mkmap (M : Int)
  rcases hK with rfl | rfl
  all_goals
    go_enter Tryz.func33, Tryz.ntmps33
    go_wp2_with fail
    go_loopg [6] M (fun f i wr => ∃ k : Nat, f = k ∧ k ≤ M ∧ i = .int .i64 ((k : Int) - 1) ∧ Hid (MapF wr w.heap.size (M - k) (fndK ns k) ∧ wr.heap[w.heap.size + 1]? = some (.cells #[.map (some w.heap.size)] 136 (0, 0)) ∧ Below w.heap.size w wr))
    case atStart =>
      refine ⟨M, rfl, Nat.le_refl _, rfl, ?_, ?_, ?_⟩
      · rw [Nat.sub_self]
        exact ((mapF_made w).keep (Below.heap_alloc _ _ _ (by simp))).like fun s => by rw [hM.out, fndK_end]
      · have e : w.heap.size + 1 = (w.alloc (.map #[] 0)).heap.size := by simp
        rw [e]; exact heap_alloc_new _ _
      · exact ((Below.refl _ _).alloc (Nat.le_refl _) _).alloc (by simp) _
    case round =>
      obtain ⟨k, rfl, hk, rfl, hr⟩ := hrel
      cases gk with
      | zero =>
        go_wp2_with fail
        go_ret
        refine ⟨_, rfl, ⟨w.heap.size + 1, w.heap.size, M, rfl, hr.out.2.1, ?_⟩, hr.out.2.2⟩
        exact hr.out.1.like (fndK_all ns)
      | succ j =>
        have ej : ((j + 1 : Nat) : Int) - 1 = (j : Int) := by omega
        rw [ej]
        have hc : wr.drew.cell? ⟨w.heap.size + 1, 0, none⟩ = some (.map (some w.heap.size)) := cell_row hr.out.2.1 0 rfl
        have hcall := hname.out wr.drew j hr.out.2.2.drew (by omega)
        have hsl := hln.out j (by omega)
        have HM : Hid (MapF wr.drew w.heap.size (M - (j + 1)) (fndK ns (j + 1))) := hr.out.1
        obtain ⟨w2, hrun, hM2, hg⟩ := HM.out.put (by unfold maxLen; omega) hsl (i := j) (by omega)
        have H2 : Hid (MapF w2 w.heap.size (M - j) (fndK ns j) ∧ w2.heap[w.heap.size + 1]? = some (.cells #[.map (some w.heap.size)] 136 (0, 0)) ∧ Below w.heap.size w w2) := by
          refine ⟨?_, ?_, ?_⟩
          · rw [show M - j = M - (j + 1) + 1 by omega]
            exact hM2.like fun s => (fndK_step ns j (by rw [← hM.out]; omega) s).symm
          · rw [hg.block _ (lt_of_block hr.out.2.1) (by simp)]; exact hr.out.2.1
          · exact hr.out.2.2.drew.grown hg hr.out.2.2.size (fun b hb => by cases hb; exact Nat.le_refl _)
        clear hM2 hg hsl ej
        generalize sv (ns.getD j []) = S at hcall hrun
        go_wp2_with fail
        go_region_with (refine hcall.mono ?_; rintro e w' ⟨rfl, rfl⟩)
        all_goals
          go_wp2_with fail
          go_roundg j
          case measure => omega
          case rel => exact ⟨j, rfl, by omega, by go_num, H2.out⟩
end Go.Proofs.YtiihgnagjemikaaGreatDoor
/- The program's Order: where a state of a region stands, how many ways lead to each, the first one to which none does. -/
namespace Go.Proofs.YtiihgnagjemikaaGreatDoor
open Go.RowKit Px

theorem ck_set {w : World} {g : Nat} {l : List Value} {T : TypeId} {f : Nat × Nat} (h : w.heap[g]? = some (.cells l.toArray T f)) (k : Nat) (x : Value) : (w.setCell ⟨g, k, none⟩ x).heap[g]? = some (.cells (l.set k x).toArray T f) := by
  have hl := lt_of_block h
  have e : w.heap[g] = .cells l.toArray T f := by rw [Array.getElem?_eq_getElem hl] at h; exact Option.some.inj h
  simp only [World.setCell]
  rw [Array.getElem?_eq_getElem (by simpa using hl), Array.getElem_modify]
  simp [e]
theorem ck_frozen {w : World} {g : Nat} {l : Array Value} {T : TypeId} (h : w.heap[g]? = some (.cells l T (0, 0))) (k : Nat) : w.frozen? ⟨g, k, none⟩ = false := by
  simp [World.frozen?, h]
/-- a row of numbers of one's own -/
def NumsAt (w : World) (g : Nat) (W : List Int) : Prop := w.heap[g]? = some (.cells (W.map (Value.int .i64)).toArray 3 (0, 0))
theorem NumsAt.cell {w : World} {g : Nat} {W : List Int} (h : NumsAt w g W) (j : Nat) (hj : j < W.length) : w.cell? ⟨g, j, none⟩ = some (.int .i64 (W.getD j 0)) := by
  refine cell_row h j ?_
  simp [List.getElem?_eq_getElem hj, List.getD_eq_getElem?_getD]
theorem NumsAt.set {w : World} {g : Nat} {W : List Int} (h : NumsAt w g W) (j : Nat) (x : Int) : NumsAt (w.setCell ⟨g, j, none⟩ (.int .i64 x)) g (W.set j x) := by
  have := ck_set h j (.int .i64 x)
  rw [NumsAt, List.map_set]; exact this
theorem NumsAt.keep {w w' : World} {g : Nat} {W : List Int} (h : NumsAt w g W) (hk : w'.heap[g]? = w.heap[g]?) : NumsAt w' g W := by rw [NumsAt, hk]; exact h

set_option maxRecDepth 100000 in
set_option maxHeartbeats 1000000 in
theorem index_any {w : World} {g n cap : Nat} {W : List Int} (hn : Hid (n = W.length)) (hm : n ≤ 1000000) (hW : NumsAt w g W) :
    Calls Tryz.prog 140 #[.slice (some ⟨g, 0, none⟩) n cap, .int .i64 0] w fun e w' => w' = w ∧ ((∃ k : Nat, e = .returned (.int .i64 (k : Int)) ∧ k < n ∧ W.getD k 0 = 0 ∧ ∀ j, j < k → W.getD j 0 ≠ 0) ∨ (e = .returned (.int .i64 (-1)) ∧ ∀ j, j < n → W.getD j 0 ≠ 0)) := by
  have HW : Hid (NumsAt w g W) := hW
  clear hW
  go_enter Tryz.func140, Tryz.ntmps140
  go_wp2_with fail
  go_loopg [8] n (fun f i wr => ∃ k : Nat, f = n - k ∧ k ≤ n ∧ i = .int .i64 (k : Int) ∧ Hid (wr = w ∧ ∀ j, j < k → W.getD j 0 ≠ 0))
  case atStart => exact ⟨0, by omega, by omega, rfl, rfl, fun j hj => absurd hj (by omega)⟩
  case round =>
    obtain ⟨k, rfl, hk, rfl, hr⟩ := hrel
    obtain ⟨hw, hno⟩ := hr.out
    subst hw
    have HN : Hid (∀ j, j < k → W.getD j 0 ≠ 0) := hno
    clear hr hno
    by_cases hlt : k < n
    · have hix := ixI (some ⟨g, 0, none⟩) g n cap k hlt (fun _ => rfl)
      have hc := HW.out.cell k (by rw [← hn.out]; exact hlt)
      obtain ⟨x, hx⟩ : ∃ x, x = W.getD k 0 := ⟨_, rfl⟩
      rw [← hx] at hc
      have HX : Hid _ := hx
      clear hx
      by_cases h0 : x = 0
      · subst h0
        go_wp2_with fail
        go_ret
        exact ⟨rfl, .inl ⟨k, rfl, hlt, HX.out.symm, HN.out⟩⟩
      · have h1 : ((0 : Int) == x) = false := by simp; omega
        have h2 : decide ((0 : Int) = x) = false := by simp; omega
        have h3 : ¬ (0 : Int) = x := by omega
        have H0 : Hid _ := h0
        clear h0
        go_wp2_with fail
        go_roundg (n - (k + 1))
        case measure => omega
        case rel =>
          refine ⟨k + 1, rfl, by omega, by go_num, rfl, fun j hj => ?_⟩
          by_cases e : j = k
          · subst e; rw [← HX.out]; exact H0.out
          · exact HN.out j (by omega)
    · obtain rfl : k = n := by omega
      go_wp2_with fail
      go_ret
      exact ⟨rfl, .inr ⟨rfl, HN.out⟩⟩

/-- a region's names, as they lie -/
def NamesAt (w : World) (g n : Nat) (ns : List Str) : Prop := n = ns.length ∧ ∀ i, i < n → w.cell? ⟨g, i * 9, none⟩ = some (sv (ns.getD i [])) ∧ (ns.getD i []).length ≤ maxLen
set_option maxRecDepth 100000 in
set_option maxHeartbeats 1000000 in
theorem stateFinder_any {w : World} {ad : Option Addr} {g n cap : Nat} {ns : List Str} (ha : 0 < n → ad = some ⟨g, 0, none⟩) (hm : n ≤ 1000000) (hN : NamesAt w g n ns) :
    Calls Tryz.prog 97 #[.slice ad n cap] w fun e w' => ∃ f, e = .returned f ∧ FindV w' f ns ∧ Below w.heap.size w w' := by
  have hmf : ∀ (fn : Fn) (first cap : Array Value) (w : World), (Instr.makeFunc fn first cap).run Tryz.prog w = .ok (.func fn first cap) w := fun _ _ _ _ => rfl
  have hb := ck_new w (.cells #[.slice ad n cap] 133)
  have hcall := finder_any 121 (.inr rfl) w.heap.size ns n hN.1 hm (fun i hi => (hN.2 i hi).2) (w.alloc (.cells #[.slice ad n cap] 133)) (fun X i hX hi =>
    name_state (ck_cell hX (cell_row hb 0 rfl)) hi ha (ck_cell hX (ck_cell (ck_grown w _) (hN.2 i hi).1)))
  clear hb hN
  go_enter Tryz.func97, Tryz.ntmps97
  go_wp2_with (refine hcall.mono ?_; rintro e w' ⟨f, rfl, hf⟩; have HF : Hid _ := hf; clear hf)
  go_ret
  exact ⟨f, rfl, HF.out.1, ck_all (ck_grown w _) HF.out.2⟩

/-- a state's ways, as they lie -/
def WaysAt (w : World) (gy : Nat) (ys : List Wy) : Prop := ∀ m y, ys[m]? = some y → ∃ p q, w.cell? ⟨gy, m * 7, none⟩ = some (.int .i64 y.kind) ∧ w.cell? ⟨gy, m * 7 + 1, none⟩ = some (.bool y.now) ∧ w.cell? ⟨gy, m * 7 + 2, none⟩ = some (.pointer p) ∧ w.cell? ⟨gy, m * 7 + 3, none⟩ = some (.int .i64 y.times) ∧ w.cell? ⟨gy, m * 7 + 4, none⟩ = some q ∧ w.cell? ⟨gy, m * 7 + 5, none⟩ = some (sv y.to) ∧ w.cell? ⟨gy, m * 7 + 6, none⟩ = some (.bool y.back) ∧ (∃ a n c, q = .slice a n c) ∧ y.to.length ≤ maxLen
set_option maxRecDepth 100000 in
set_option maxHeartbeats 4000000 in
theorem ckcount_any {w : World} {ad ay : Option Addr} {g gy n N cap capy i rb fb wb gw pb mb nm : Nat} {ns : List Str} {ys : List Wy} {W : List Int} (by' : Int) (hi : i < n) (ha : 0 < n → ad = some ⟨g, 0, none⟩) (hN : Hid (N = ys.length)) (hNm : N ≤ 1000000) (hn : Hid (n = W.length ∧ ∀ s t, fnd ns s = some t → t < n))
    (hrb : w.cell? ⟨rb, 0, none⟩ = some (.slice ad n cap)) (hfb : w.cell? ⟨fb, 0, none⟩ = some (.func (.func 68) #[] #[.pointer (some ⟨pb, 0, none⟩)])) (hwb : w.cell? ⟨wb, 0, none⟩ = some (.slice (some ⟨gw, 0, none⟩) n n))
    (hpb : w.heap[pb]? = some (.cells #[.map (some mb)] 136 (0, 0))) (hmb : MapF w mb nm (fnd ns)) (hW : NumsAt w gw W)
    (hy : w.cell? ⟨g, i * 9 + 7, none⟩ = some (.slice ay N capy)) (hay : 0 < N → ay = some ⟨gy, 0, none⟩ ∧ gy < w.heap.size) (hYs : WaysAt w gy ys) (hd : Hid (gw ≠ fb ∧ gw ≠ wb ∧ gw ≠ pb ∧ gw ≠ mb ∧ (0 < N → gw ≠ gy)))
    (hbd : Hid (∀ m j, m ≤ N → -4611686018427387904 ≤ (bump n by' (tosF ns ys) m W).getD j 0 ∧ (bump n by' (tosF ns ys) m W).getD j 0 ≤ 4611686018427387904)) :
    Calls Tryz.prog 139 #[.int .i64 (i : Int), .int .i64 by', .pointer (some ⟨rb, 0, none⟩), .pointer (some ⟨fb, 0, none⟩), .pointer (some ⟨wb, 0, none⟩)] w fun e w' => e = .returned (.tuple #[]) ∧ NumsAt w' gw (bump n by' (tosF ns ys) N W) ∧ Fr w.heap.size [gw] w w' := by
  have hix := ixT ad g n cap i hi ha
  have HW : Hid (NumsAt w gw W) := hW
  have HY : Hid (WaysAt w gy ys) := hYs
  have HM : Hid (MapF w mb nm (fnd ns)) := hmb
  have HP : Hid (w.heap[pb]? = some (.cells #[.map (some mb)] 136 (0, 0))) := hpb
  have HF : Hid (w.cell? ⟨fb, 0, none⟩ = some (.func (.func 68) #[] #[.pointer (some ⟨pb, 0, none⟩)]) ∧ w.cell? ⟨wb, 0, none⟩ = some (.slice (some ⟨gw, 0, none⟩) n n)) := ⟨hfb, hwb⟩
  have HA : Hid (0 < N → ay = some ⟨gy, 0, none⟩ ∧ gy < w.heap.size) := hay
  clear hW hYs hmb hpb hfb hwb hay
  go_enter Tryz.func139, Tryz.ntmps139
  go_wp2_with fail
  clear hix hrb hy
  go_loopg [16] N (fun f i wr => ∃ k : Nat, f = N - k ∧ k ≤ N ∧ i = .int .i64 (k : Int) ∧ Hid (NumsAt wr gw (bump n by' (tosF ns ys) k W) ∧ Fr w.heap.size [gw] w wr))
  case atStart => exact ⟨0, by omega, by omega, rfl, HW.out, Fr.refl _ _ _⟩
  case round =>
    obtain ⟨k, rfl, hk, rfl, hr⟩ := hrel
    by_cases hlt : k < N
    · obtain ⟨y, hyk⟩ : ∃ y, Hid (ys[k]? = some y) := ⟨ys[k]'(by rw [← hN.out]; exact hlt), by rw [Hid, List.getElem?_eq_getElem]⟩
      obtain ⟨p, q, c0, c1, c2, c3, c4, c5, c6, ⟨qa, qn, qc, rfl⟩, hto⟩ := HY.out k y hyk.out
      obtain ⟨d1, d2, d3, d4, d5⟩ := hd.out
      have hgy := (HA.out (by omega)).2
      have ey : wr.heap[gy]? = w.heap[gy]? := hr.out.2.block gy hgy (by simpa using fun e => d5 (by omega) e.symm)
      have ec : ∀ o, wr.cell? ⟨gy, o, none⟩ = w.cell? ⟨gy, o, none⟩ := fun o => World.cell?_of_block (w := w) (a := ⟨gy, o, none⟩) ey
      rw [← ec] at c0 c1 c2 c3 c4 c5 c6
      have hixk := ixW ay gy N capy k hlt (fun h => (HA.out h).1)
      have hlf : fb < w.heap.size := World.block_lt_of_cell? w _ HF.out.1
      have hlw : wb < w.heap.size := World.block_lt_of_cell? w _ HF.out.2
      have cf : wr.cell? ⟨fb, 0, none⟩ = some (.func (.func 68) #[] #[.pointer (some ⟨pb, 0, none⟩)]) := by
        rw [hr.out.2.cell (p := ⟨fb, 0, none⟩) hlf (by simpa using fun e => d1 e.symm)]; exact HF.out.1
      have cw : wr.cell? ⟨wb, 0, none⟩ = some (.slice (some ⟨gw, 0, none⟩) n n) := by
        rw [hr.out.2.cell (p := ⟨wb, 0, none⟩) hlw (by simpa using fun e => d2 e.symm)]; exact HF.out.2
      have hp' : wr.heap[pb]? = some (.cells #[.map (some mb)] 136 (0, 0)) := by
        rw [hr.out.2.block pb (lt_of_block HP.out) (by simpa using fun e => d3 e.symm)]; exact HP.out
      have hm' : MapF wr mb nm (fnd ns) := HM.out.keep (hr.out.2.block mb HM.out.lt (by simpa using fun e => d4 e.symm))
      obtain ⟨LO, hLO⟩ : ∃ LO, Hid (LO = Obj.cells #[.int .i64 y.kind, .bool y.now, .pointer p, .int .i64 y.times, .slice qa qn qc, sv y.to, .bool y.back] 180) := ⟨_, rfl⟩
      have hcall : Calls Tryz.prog 68 #[sv y.to, .pointer (some ⟨pb, 0, none⟩)] (wr.alloc LO) fun e w' => e = .returned (.int .i64 (fndI ns y.to)) ∧ w' = wr.alloc LO := find_any (ck_old hp') (hm'.below (ck_grown wr _)) hto
      have hnx : NumsAt (wr.alloc LO) gw (bump n by' (tosF ns ys) k W) := ck_old hr.out.1
      have hfr : Fr w.heap.size [gw] w (wr.alloc LO) := hr.out.2.alloc hr.out.2.size _
      have H1 : Hid (NumsAt (wr.alloc LO) gw (bump n by' (tosF ns ys) k W) ∧ Fr w.heap.size [gw] w (wr.alloc LO)) := ⟨hnx, hfr⟩
      rw [hLO.out] at hcall H1
      clear ey ec hp' hm' hnx hfr hr hLO d1 d2 d3 d4 d5 hgy
      obtain ⟨b0, hb0⟩ : ∃ b, Hid (y.now = b) := ⟨_, rfl⟩
      rw [hb0.out] at c1 hcall H1
      have hst := tosF_at ns ys k y hyk.out
      rw [hb0.out] at hst
      have HST : Hid _ := hst
      clear hst
      obtain ⟨S, hS⟩ : ∃ S, sv y.to = .string S := ⟨_, rfl⟩
      rw [hS] at c5 hcall H1
      clear hS
      have cf' := ck_cell (ck_grown wr (.cells #[.int .i64 y.kind, .bool b0, .pointer p, .int .i64 y.times, .slice qa qn qc, .string S, .bool y.back] 180)) cf
      clear cf
      cases b0 with
      | false =>
        obtain ⟨t9, ht9⟩ : ∃ t, t = fndI ns y.to := ⟨_, rfl⟩
        rw [← ht9] at hcall
        clear ht9
        go_wp2_with (refine hcall.mono ?_; rintro e w' ⟨rfl, rfl⟩)
        go_roundg (N - (k + 1))
        case measure => omega
        case rel =>
          refine ⟨k + 1, rfl, by omega, by go_num, ?_⟩
          rw [Hid, bump, HST.out]
          exact H1.out
      | true =>
        cases hf : fnd ns y.to with
        | none =>
          have e : fndI ns y.to = -1 := by unfold fndI; rw [hf]
          rw [e] at hcall
          rw [hf] at HST
          clear hf e
          go_wp2_with (refine hcall.mono ?_; rintro e w' ⟨rfl, rfl⟩)
          go_roundg (N - (k + 1))
          case measure => omega
          case rel =>
            refine ⟨k + 1, rfl, by omega, by go_num, ?_⟩
            rw [Hid, bump, HST.out]
            exact H1.out
        | some t =>
          have e : fndI ns y.to = (t : Int) := by unfold fndI; rw [hf]
          rw [e] at hcall
          have htn : t < n := hn.out.2 _ _ hf
          rw [hf] at HST
          clear hf e
          have hgz : (0 : Int) ≤ (t : Int) := by omega
          have hixt := ixI (some ⟨gw, 0, none⟩) gw n n t htn (fun _ => rfl)
          obtain ⟨x, hx⟩ : ∃ x, x = (bump n by' (tosF ns ys) k W).getD t 0 := ⟨_, rfl⟩
          have cx := H1.out.1.cell t (by rw [bump_len, ← hn.out.1]; exact htn)
          rw [← hx] at cx
          have cz := ck_frozen H1.out.1 t
          have hb := hbd.out (k + 1) t hlt
          have hbx : (bump n by' (tosF ns ys) (k + 1) W).getD t 0 = x + by' := by
            rw [bump, HST.out]
            show ((bump n by' (tosF ns ys) k W).set t _).getD t 0 = _
            rw [List.getD_eq_getElem?_getD, List.getElem?_set, if_pos rfl, bump_len, if_pos (by rw [← hn.out.1]; exact htn), ← hx]; rfl
          rw [hbx] at hb
          have hwr : IntKind.i64.wrap (x + by') = x + by' := by rw [IntKind.wrap_i64]; omega
          have cw' := ck_cell (ck_grown wr (.cells #[.int .i64 y.kind, .bool true, .pointer p, .int .i64 y.times, .slice qa qn qc, .string S, .bool y.back] 180)) cw
          have HX : Hid (x = (bump n by' (tosF ns ys) k W).getD t 0) := hx
          clear hx hb hbx cw
          go_wp2_with (refine hcall.mono ?_; rintro e w' ⟨rfl, rfl⟩)
          go_roundg (N - (k + 1))
          case measure => omega
          case rel =>
            refine ⟨k + 1, rfl, by omega, by go_num, ?_⟩
            rw [Hid, bump, HST.out]
            show NumsAt _ gw ((bump n by' (tosF ns ys) k W).set t ((bump n by' (tosF ns ys) k W).getD t 0 + by')) ∧ _
            rw [← HX.out]
            exact ⟨H1.out.1.set t _, H1.out.2.setCell (.inr (by simp)) _⟩
    · obtain rfl : k = N := by omega
      go_wp2_with fail
      go_end0
      exact ⟨rfl, hr.out⟩
end Go.Proofs.YtiihgnagjemikaaGreatDoor
/- The program's look at an expression's names: Eval, with a closure that writes down what it found. -/
namespace Go.Proofs.YtiihgnagjemikaaGreatDoor
open Go.RowKit Px

/-- the closure that looks for a name, and writes down whether one was no variable -/
def lookV (fb kb : Nat) : Value := .func (.func 138) #[] #[.pointer (some ⟨fb, 0, none⟩), .pointer (some ⟨kb, 0, none⟩)]
/-- what it stands on -/
structure LookAt (w : World) (fb kb ck pb mb nm : Nat) (ns : List Str) (b : Bool) : Prop where
  found : w.heap[fb]? = some (.cells #[.bool b] 4 (0, 0))
  hkb : w.cell? ⟨kb, 0, none⟩ = some (.pointer (some ⟨ck, 0, none⟩))
  hck : w.cell? ⟨ck, 1, none⟩ = some (.func (.func 68) #[] #[.pointer (some ⟨pb, 0, none⟩)])
  hpb : w.heap[pb]? = some (.cells #[.map (some mb)] 136 (0, 0))
  hmb : MapF w mb nm (fnd ns)
  ne : fb ≠ kb ∧ fb ≠ ck ∧ fb ≠ pb ∧ fb ≠ mb
theorem LookAt.fr {w w' : World} {fb kb ck pb mb nm : Nat} {ns : List Str} {b b' : Bool} (h : LookAt w fb kb ck pb mb nm ns b) (hF : Fr w.heap.size [fb] w w') (hf : w'.heap[fb]? = some (.cells #[.bool b'] 4 (0, 0))) : LookAt w' fb kb ck pb mb nm ns b' := by
  obtain ⟨e1, e2, e3, e4⟩ := h.ne
  have hc : ∀ {x o : Nat} {v : Value}, fb ≠ x → w.cell? ⟨x, o, none⟩ = some v → w'.cell? ⟨x, o, none⟩ = some v := fun {x o v} hb hv => by
    rw [hF.cell (p := ⟨x, o, none⟩) (World.block_lt_of_cell? w _ hv) (by simpa using Ne.symm hb)]; exact hv
  exact ⟨hf, hc e1 h.hkb, hc e2 h.hck, by rw [hF.block pb (lt_of_block h.hpb) (by simpa using Ne.symm e3)]; exact h.hpb, h.hmb.keep (hF.block mb h.hmb.lt (by simpa using Ne.symm e4)), h.ne⟩
theorem LookAt.below {w w' : World} {fb kb ck pb mb nm : Nat} {ns : List Str} {b : Bool} (h : LookAt w fb kb ck pb mb nm ns b) (hb : Below w.heap.size w w') : LookAt w' fb kb ck pb mb nm ns b :=
  h.fr (Fr.of_below hb _) (ck_block hb h.found)

set_option maxRecDepth 100000 in
theorem look_any {w : World} {fb kb ck pb mb nm : Nat} {ns : List Str} {b : Bool} {s : Str} (h : LookAt w fb kb ck pb mb nm ns b) (hs : s.length ≤ maxLen) :
    Calls Tryz.prog 138 #[sv s, .pointer (some ⟨fb, 0, none⟩), .pointer (some ⟨kb, 0, none⟩)] w fun e w' => e = .returned (.int .i64 0) ∧ w' = w.setCell ⟨fb, 0, none⟩ (.bool (b || (fnd ns s).isNone)) := by
  have c0 := cell_row h.found 0 (u := .bool b) rfl
  have z0 := ck_frozen h.found 0
  have c1 := h.hkb
  have c2 := h.hck
  have hcall := find_any h.hpb h.hmb hs
  clear h
  generalize sv s = S at hcall ⊢
  cases b with
  | true =>
    go_enter Tryz.func138, Tryz.ntmps138
    go_wp2_with fail
    go_ret
    exact ⟨rfl, rfl⟩
  | false =>
    cases hf : fnd ns s with
    | none =>
      have e : fndI ns s = -1 := by unfold fndI; rw [hf]
      rw [e] at hcall
      clear e hf
      go_enter Tryz.func138, Tryz.ntmps138
      go_wp2_with (go_at_call 68; refine hcall.mono ?_; rintro e w' ⟨rfl, rfl⟩)
      go_ret
      exact ⟨rfl, rfl⟩
    | some i =>
      have e : fndI ns s = (i : Int) := by unfold fndI; rw [hf]
      rw [e] at hcall
      have hi : ¬ (i : Int) < 0 := by omega
      clear e hf
      go_enter Tryz.func138, Tryz.ntmps138
      go_wp2_with (go_at_call 68; refine hcall.mono ?_; rintro e w' ⟨rfl, rfl⟩)
      go_ret
      exact ⟨rfl, rfl⟩

theorem ck_catch (p : Addr) (w : World) :
    CallsD Tryz.prog 146 #[.pointer (some p)] .returning w fun e u' w' => e = .returned (.tuple #[]) ∧ u' = .returning ∧ w' = w := by
  refine callsD_of_wpS Tryz.func146 rfl fun c₀ cs hu => ?_
  apply wpS_seq
  apply wpS_region
  simp [wpOpsS, go_sem, recoverD, hu, Tryz.ntmps146, Exit.thenS]
  refine wpS_cond (t := false) (by simp [Act.eval, Array.replicate]) ?_
  simp only [Bool.false_eq_true, if_false]
  refine wpS_of_wp (wp_skip ?_)
  cases c₀
  simp_all [bodyPostS, results, Tryz.results146]
theorem ck_notnil (x y : Value) (w : World) : (binOp BinOp.eql 206 (.func (.func 138) #[] #[x, y]) .nilFunc).run Tryz.prog w = .ok (.bool false) w := by kernel_rfl

theorem ask_any {w : World} {fb kb ck pb mb nm : Nat} {ns : List Str} {b : Bool} {s : Str} (h : LookAt w fb kb ck pb mb nm ns b) (hs : s.length ≤ maxLen) :
    Calls Tryz.prog 141 #[lookV fb kb, sv s] w fun e w' => e = .returned (.int .i64 0) ∧ Hid (Fr w.heap.size [fb] w w' ∧ LookAt w' fb kb ck pb mb nm ns (b || (fnd ns s).isNone)) := by
  have hmf : ∀ (fn : Fn) (first cap : Array Value) (w : World), (Instr.makeFunc fn first cap).run Tryz.prog w = .ok (.func fn first cap) w := fun _ _ _ _ => rfl
  have q0 := ck_notnil
  have HL : Hid _ := h
  have hcall := look_any (h.below (ck_grown w (.cells #[.int .i64 0] 2))) hs
  have hlt := lt_of_block h.found
  clear h
  unfold lookV
  obtain ⟨b', hb'⟩ : ∃ b', b' = (b || (fnd ns s).isNone) := ⟨_, rfl⟩
  rw [← hb'] at hcall ⊢
  clear hb'
  generalize sv s = S at hcall ⊢
  go_enter_defers Tryz.func141, Tryz.ntmps141
  go_wp2_with (refine hcall.mono ?_; rintro e w' ⟨rfl, rfl⟩)
  refine leaves_cons (f := 146) (args := #[.pointer (some ⟨w.heap.size, 0, none⟩)]) (by simp) (by simp [go_sem]) ?_
  refine (ck_catch ⟨w.heap.size, 0, none⟩ _).mono ?_
  rintro e u' w'' ⟨rfl, rfl, rfl⟩
  have hF : Fr w.heap.size [fb] w ((w.setCell ⟨fb, 0, none⟩ (.bool b')).alloc (.cells #[.int .i64 0] 2)) := ((Fr.refl _ _ _).setCell (.inr (by simp)) _).alloc (by simp [World.setCell]) _
  have hfd : ((w.setCell ⟨fb, 0, none⟩ (.bool b')).alloc (.cells #[.int .i64 0] 2)).heap[fb]? = some (.cells #[.bool b'] 4 (0, 0)) := ck_old (ck_set (l := [.bool b]) HL.out.found 0 (.bool b'))
  have hfin : Hid (_ ∧ _) := ⟨hF, HL.out.fr hF hfd⟩
  simp [Leaves, settle, results, Tryz.results141, go_sem, World.setCell]
  exact hfin
end Go.Proofs.YtiihgnagjemikaaGreatDoor
/-
  What each small function of the program's package value, and of the document's own answer, returns: every function of one, two or three numbers, but for the array's.
-/
namespace Go.Proofs.YtiihgnagjemikaaGreatDoor
open Go.RowKit

theorem truth_any (b : Bool) (w : World) :
    Calls Tryz.prog 147 #[.bool b] w fun e w' => e = .returned (.int .i64 (yes b)) ∧ w' = w := by
  cases b
  all_goals
    go_enter Tryz.func147, Tryz.ntmps147
    go_wp2
    go_ret
    exact ⟨rfl, rfl⟩

theorem add_any (a b : Int) (w : World) :
    Calls Tryz.prog 148 #[.int .i64 a, .int .i64 b] w fun e w' => e = .returned (.int .i64 (wrap64 (a + b))) ∧ w' = w := by
  go_enter Tryz.func148, Tryz.ntmps148
  go_wp2
  go_ret
  exact ⟨rfl, rfl⟩

theorem sub_any (a b : Int) (w : World) :
    Calls Tryz.prog 149 #[.int .i64 a, .int .i64 b] w fun e w' => e = .returned (.int .i64 (wrap64 (a - b))) ∧ w' = w := by
  go_enter Tryz.func149, Tryz.ntmps149
  go_wp2
  go_ret
  exact ⟨rfl, rfl⟩

theorem mul_any (a b : Int) (w : World) :
    Calls Tryz.prog 150 #[.int .i64 a, .int .i64 b] w fun e w' => e = .returned (.int .i64 (wrap64 (a * b))) ∧ w' = w := by
  go_enter Tryz.func150, Tryz.ntmps150
  go_wp2
  go_ret
  exact ⟨rfl, rfl⟩

theorem quotient_any (a b : Int) (w : World) :
    Calls Tryz.prog 151 #[.int .i64 a, .int .i64 b] w fun e w' => e = .returned (.int .i64 (vDiv a b)) ∧ w' = w := by
  by_cases h : b = 0
  · subst h
    go_enter Tryz.func151, Tryz.ntmps151
    go_wp2
    go_ret
    exact ⟨rfl, rfl⟩
  · have e : vDiv a b = wrap64 (a.tdiv b) := if_neg h
    have E : Hid _ := e
    clear e
    have hb : (b == 0) = false := by simpa using h
    go_enter Tryz.func151, Tryz.ntmps151
    go_wp2
    go_ret
    exact ⟨by rw [E.out]; rfl, rfl⟩

theorem rest_any (a b : Int) (w : World) :
    Calls Tryz.prog 152 #[.int .i64 a, .int .i64 b] w fun e w' => e = .returned (.int .i64 (vMod a b)) ∧ w' = w := by
  by_cases h : b = 0
  · subst h
    go_enter Tryz.func152, Tryz.ntmps152
    go_wp2
    go_ret
    exact ⟨rfl, rfl⟩
  · have E : Hid (vMod a b = a.tmod b) := if_neg h
    have hb : (b == 0) = false := by simpa using h
    go_enter Tryz.func152, Tryz.ntmps152
    go_wp2
    go_ret
    exact ⟨by rw [E.out]; rfl, rfl⟩

set_option maxHeartbeats 400000 in
theorem eq_any (a b : Int) (w : World) :
    Calls Tryz.prog 153 #[.int .i64 a, .int .i64 b] w fun e w' => e = .returned (.int .i64 (yes (a == b))) ∧ w' = w := by
  go_enter Tryz.func153, Tryz.ntmps153
  go_wp2_with (go_at_call 147; refine (truth_any _ _).mono ?_; rintro e w' ⟨rfl, rfl⟩)
  go_ret
  exact ⟨rfl, rfl⟩

theorem ne_any (a b : Int) (w : World) :
    Calls Tryz.prog 154 #[.int .i64 a, .int .i64 b] w fun e w' => e = .returned (.int .i64 (yes (a != b))) ∧ w' = w := by
  go_enter Tryz.func154, Tryz.ntmps154
  go_wp2_with (go_at_call 147; refine (truth_any _ _).mono ?_; rintro e w' ⟨rfl, rfl⟩)
  go_ret
  exact ⟨rfl, rfl⟩

theorem lt_any (a b : Int) (w : World) :
    Calls Tryz.prog 155 #[.int .i64 a, .int .i64 b] w fun e w' => e = .returned (.int .i64 (yes (decide (a < b)))) ∧ w' = w := by
  go_enter Tryz.func155, Tryz.ntmps155
  go_wp2_with (go_at_call 147; refine (truth_any _ _).mono ?_; rintro e w' ⟨rfl, rfl⟩)
  go_ret
  exact ⟨rfl, rfl⟩

theorem le_any (a b : Int) (w : World) :
    Calls Tryz.prog 156 #[.int .i64 a, .int .i64 b] w fun e w' => e = .returned (.int .i64 (yes (decide (a ≤ b)))) ∧ w' = w := by
  go_enter Tryz.func156, Tryz.ntmps156
  go_wp2_with (go_at_call 147; refine (truth_any _ _).mono ?_; rintro e w' ⟨rfl, rfl⟩)
  go_ret
  exact ⟨rfl, rfl⟩

theorem and_any (a b : Int) (w : World) :
    Calls Tryz.prog 157 #[.int .i64 a, .int .i64 b] w fun e w' => e = .returned (.int .i64 (yes (a != 0 && b != 0))) ∧ w' = w := by
  by_cases h : a = 0
  · subst h
    go_enter Tryz.func157, Tryz.ntmps157
    go_wp2_with (go_at_call 147; refine (truth_any _ _).mono ?_; rintro e w' ⟨rfl, rfl⟩)
    go_ret
    exact ⟨rfl, rfl⟩
  · have ha : (a != 0) = true := by simpa using h
    go_enter Tryz.func157, Tryz.ntmps157
    go_wp2_with (go_at_call 147; refine (truth_any _ _).mono ?_; rintro e w' ⟨rfl, rfl⟩)
    go_ret
    exact ⟨by rw [ha]; rfl, rfl⟩

theorem or_any (a b : Int) (w : World) :
    Calls Tryz.prog 158 #[.int .i64 a, .int .i64 b] w fun e w' => e = .returned (.int .i64 (yes (a != 0 || b != 0))) ∧ w' = w := by
  by_cases h : a = 0
  · subst h
    go_enter Tryz.func158, Tryz.ntmps158
    go_wp2_with (go_at_call 147; refine (truth_any _ _).mono ?_; rintro e w' ⟨rfl, rfl⟩)
    go_ret
    exact ⟨rfl, rfl⟩
  · have ha : (a != 0) = true := by simpa using h
    go_enter Tryz.func158, Tryz.ntmps158
    go_wp2_with (go_at_call 147; refine (truth_any _ _).mono ?_; rintro e w' ⟨rfl, rfl⟩)
    go_ret
    exact ⟨by rw [ha]; rfl, rfl⟩

theorem one_any (c a : Int) (w : World) :
    Calls Tryz.prog 142 #[.int .i64 c, .int .i64 a] w fun e w' => e = .returned (.int .i64 (vOne c a)) ∧ w' = w := by
  by_cases h4 : c = 4
  · subst h4
    go_enter Tryz.func142, Tryz.ntmps142
    go_wp2
    go_ret
    exact ⟨rfl, rfl⟩
  · by_cases h5 : c = 5
    · subst h5
      go_enter Tryz.func142, Tryz.ntmps142
      go_wp2_with (go_at_call 147; refine (truth_any _ _).mono ?_; rintro e w' ⟨rfl, rfl⟩)
      go_ret
      exact ⟨rfl, rfl⟩
    · have E : Hid (vOne c a = 0) := by unfold Hid vOne; rw [if_neg h4, if_neg h5]
      have b4 : (c == 4) = false := by simpa using h4
      have b5 : (c == 5) = false := by simpa using h5
      go_enter Tryz.func142, Tryz.ntmps142
      go_wp2
      go_ret
      exact ⟨by rw [E.out]; rfl, rfl⟩

end Go.Proofs.YtiihgnagjemikaaGreatDoor
/-
  What the program's Two returns: the array of what is asked of two numbers is laid anew in each call, a code is looked up in it, and what lies there is called.
-/
namespace Go.Proofs.YtiihgnagjemikaaGreatDoor
open Go.RowKit

theorem setRow_alloc (w : World) (a b : Array Value) (t : TypeId) : (w.alloc (.cells a t)).setRow w.heap.size b = w.alloc (.cells b t) := by
  unfold World.setRow World.alloc
  congr 1
  apply Array.ext
  · simp
  · intro k h1 h2
    simp only [Array.getElem_modify, Array.getElem_push]
    split
    · rename_i hk; subst hk; simp
    · rename_i hk; have : k < w.heap.size := by simp at h2; omega
      simp [this]

def asked : Array Value := #[.nilFunc, .nilFunc, .nilFunc, .nilFunc, .nilFunc, .nilFunc, .func (.func 148) #[] #[], .func (.func 149) #[] #[], .func (.func 150) #[] #[], .func (.func 151) #[] #[], .func (.func 152) #[] #[], .func (.func 153) #[] #[], .func (.func 154) #[] #[], .func (.func 155) #[] #[], .func (.func 156) #[] #[], .func (.func 157) #[] #[], .func (.func 158) #[] #[]]

theorem asked_one : (Array.all asked fun x => x.oneCell') = true := by kernel_rfl
theorem asked_info : (Tryz.prog.info? 231).map (·.size) = some asked.size := by kernel_rfl
theorem asked_cell (w : World) (j : Nat) (v : Value) (h : asked[j]? = some v) : (w.alloc (.cells asked 231)).cell? ⟨w.heap.size, j, none⟩ = some v := by
  have e := (MapKept.heap_alloc w (.cells asked 231)).1
  simp only [World.cell?, e]
  exact h

theorem neq_nil (k : Nat) (w : World) : (binOp BinOp.eql 230 (.func (.func k) #[] #[]) .nilFunc).run Tryz.prog w = .ok (.bool false) w := by kernel_rfl
theorem eq_nil (w : World) : (binOp BinOp.eql 230 .nilFunc .nilFunc).run Tryz.prog w = .ok (.bool true) w := by kernel_rfl


set_option maxHeartbeats 4000000 in
theorem two_func (c : Int) (k : Nat) (a b r : Int) (w : World) (h0 : 0 ≤ c) (h1 : c < 17) (hk : asked[c.toNat]? = some (.func (.func k) #[] #[]))
    (hkk : k = 148 ∨ k = 149 ∨ k = 150 ∨ k = 151 ∨ k = 152 ∨ k = 153 ∨ k = 154 ∨ k = 155 ∨ k = 156 ∨ k = 157 ∨ k = 158)
    (hcall : ∀ w, Calls Tryz.prog k #[.int .i64 a, .int .i64 b] w fun e w' => e = .returned (.int .i64 r) ∧ w' = w) :
    Calls Tryz.prog 143 #[.int .i64 c, .int .i64 a, .int .i64 b] w fun e w' => e = .returned (.int .i64 r) ∧ w' = w.alloc (.cells asked 231) := by
  have q0 := neq_nil
  have hc := asked_cell w c.toNat _ hk
  clear hk
  rcases hkk with rfl | rfl | rfl | rfl | rfl | rfl | rfl | rfl | rfl | rfl | rfl
  all_goals
    go_enter Tryz.func143, Tryz.ntmps143
    go_wp2_with (first | (refine wpList_store_row rfl 231 _ _ rfl w.heap.size asked rfl rfl 231 _ (MapKept.heap_alloc w _).1 asked_info rfl asked_one ?_; rw [setRow_alloc]) | (refine (hcall _).mono ?_; rintro e w' ⟨rfl, rfl⟩))
    go_ret
    exact ⟨rfl, rfl⟩

set_option maxHeartbeats 400000 in
theorem two_nil (c : Int) (a b : Int) (w : World) (h0 : 0 ≤ c) (h1 : c < 17) (hk : asked[c.toNat]? = some .nilFunc) :
    Calls Tryz.prog 143 #[.int .i64 c, .int .i64 a, .int .i64 b] w fun e w' => e = .returned (.int .i64 0) ∧ w' = w.alloc (.cells asked 231) := by
  have q1 := eq_nil
  have hc := asked_cell w c.toNat _ hk
  clear hk
  go_enter Tryz.func143, Tryz.ntmps143
  go_wp2_with (refine wpList_store_row rfl 231 _ _ rfl w.heap.size asked rfl rfl 231 _ (MapKept.heap_alloc w _).1 asked_info rfl asked_one ?_; rw [setRow_alloc])
  go_ret
  exact ⟨rfl, rfl⟩

set_option maxHeartbeats 400000 in
theorem two_low (c : Int) (a b : Int) (w : World) (h0 : c < 0) :
    Calls Tryz.prog 143 #[.int .i64 c, .int .i64 a, .int .i64 b] w fun e w' => e = .returned (.int .i64 0) ∧ w' = w.alloc (.cells asked 231) := by
  go_enter Tryz.func143, Tryz.ntmps143
  go_wp2_with (refine wpList_store_row rfl 231 _ _ rfl w.heap.size asked rfl rfl 231 _ (MapKept.heap_alloc w _).1 asked_info rfl asked_one ?_; rw [setRow_alloc])
  go_ret
  exact ⟨rfl, rfl⟩

set_option maxHeartbeats 400000 in
theorem two_high (c : Int) (a b : Int) (w : World) (h0 : 17 ≤ c) :
    Calls Tryz.prog 143 #[.int .i64 c, .int .i64 a, .int .i64 b] w fun e w' => e = .returned (.int .i64 0) ∧ w' = w.alloc (.cells asked 231) := by
  go_enter Tryz.func143, Tryz.ntmps143
  go_wp2_with (refine wpList_store_row rfl 231 _ _ rfl w.heap.size asked rfl rfl 231 _ (MapKept.heap_alloc w _).1 asked_info rfl asked_one ?_; rw [setRow_alloc])
  go_ret
  exact ⟨rfl, rfl⟩
end Go.Proofs.YtiihgnagjemikaaGreatDoor
/-
  What the program's Two returns, of any code.
-/
namespace Go.Proofs.YtiihgnagjemikaaGreatDoor
open Go.RowKit

theorem vTwo_none {c : Int} (h : ∀ k : Int, 6 ≤ k → k ≤ 16 → c ≠ k) (a b : Int) : vTwo c a b = 0 := by
  unfold vTwo
  rw [if_neg (h 6 (by omega) (by omega)), if_neg (h 7 (by omega) (by omega)), if_neg (h 8 (by omega) (by omega)), if_neg (h 9 (by omega) (by omega)), if_neg (h 10 (by omega) (by omega)), if_neg (h 11 (by omega) (by omega)), if_neg (h 12 (by omega) (by omega)), if_neg (h 13 (by omega) (by omega)), if_neg (h 14 (by omega) (by omega)), if_neg (h 15 (by omega) (by omega)), if_neg (h 16 (by omega) (by omega))]

theorem asked_nil (c : Int) (h0 : 0 ≤ c) (h1 : c < 6) : asked[c.toNat]? = some .nilFunc := by
  have h : c = 0 ∨ c = 1 ∨ c = 2 ∨ c = 3 ∨ c = 4 ∨ c = 5 := by omega
  rcases h with rfl | rfl | rfl | rfl | rfl | rfl <;> rfl

theorem two_any (c a b : Int) (w : World) :
    Calls Tryz.prog 143 #[.int .i64 c, .int .i64 a, .int .i64 b] w fun e w' => e = .returned (.int .i64 (vTwo c a b)) ∧ w' = w.alloc (.cells asked 231) := by
  by_cases h0 : c < 0
  · rw [vTwo_none (fun k hk _ => by omega)]
    exact two_low c a b w h0
  by_cases h1 : 17 ≤ c
  · rw [vTwo_none (fun k _ hk => by omega)]
    exact two_high c a b w h1
  by_cases h2 : c < 6
  · rw [vTwo_none (fun k hk _ => by omega)]
    exact two_nil c a b w (by omega) (by omega) (asked_nil c (by omega) h2)
  have h : c = 6 ∨ c = 7 ∨ c = 8 ∨ c = 9 ∨ c = 10 ∨ c = 11 ∨ c = 12 ∨ c = 13 ∨ c = 14 ∨ c = 15 ∨ c = 16 := by omega
  clear h0 h1 h2
  rcases h with rfl | rfl | rfl | rfl | rfl | rfl | rfl | rfl | rfl | rfl | rfl
  · exact two_func 6 148 a b _ w (by omega) (by omega) rfl (by omega) (add_any a b)
  · exact two_func 7 149 a b _ w (by omega) (by omega) rfl (by omega) (sub_any a b)
  · exact two_func 8 150 a b _ w (by omega) (by omega) rfl (by omega) (mul_any a b)
  · exact two_func 9 151 a b _ w (by omega) (by omega) rfl (by omega) (quotient_any a b)
  · exact two_func 10 152 a b _ w (by omega) (by omega) rfl (by omega) (rest_any a b)
  · exact two_func 11 153 a b _ w (by omega) (by omega) rfl (by omega) (eq_any a b)
  · exact two_func 12 154 a b _ w (by omega) (by omega) rfl (by omega) (ne_any a b)
  · exact two_func 13 155 a b _ w (by omega) (by omega) rfl (by omega) (lt_any a b)
  · exact two_func 14 156 a b _ w (by omega) (by omega) rfl (by omega) (le_any a b)
  · exact two_func 15 157 a b _ w (by omega) (by omega) rfl (by omega) (and_any a b)
  · exact two_func 16 158 a b _ w (by omega) (by omega) rfl (by omega) (or_any a b)

end Go.Proofs.YtiihgnagjemikaaGreatDoor
/- The program's look at an expression's names: Eval goes through all of it. -/
namespace Go.Proofs.YtiihgnagjemikaaGreatDoor
open Go.RowKit Px

/-- its names are no longer than a string may be -/
def NmOk : E → Prop
  | .nil => True
  | .node _ _ a l r => a.name.length ≤ maxLen ∧ NmOk l ∧ NmOk r
def LookOut (fb kb ck pb mb nm : Nat) (ns : List Str) (b : Bool) (w : World) (r : Ending) (w' : World) : Prop := ∃ x, r = .returned (.int .i64 x) ∧ Hid (Fr w.heap.size [fb] w w' ∧ LookAt w' fb kb ck pb mb nm ns b)
/-- Eval looks at all names of an expression -/
def EvOk (A : Nat → Prop) (fb kb ck pb mb nm : Nat) (ns : List Str) (e : E) : Prop := ∀ (w : World) (v : Value) (b : Bool), IsE A w e v → LookAt w fb kb ck pb mb nm ns b →
  Calls Tryz.prog 128 #[v, .agg #[lookV fb kb, lookV fb kb]] w (LookOut fb kb ck pb mb nm ns (b || strangeE ns e) w)
section
variable {A : Nat → Prop} {fb kb ck pb mb nm : Nat} {ns : List Str}
theorem frBelow' {w W w' : World} {X : List Nat} (h : Below w.heap.size w W) (k : Fr W.heap.size X W w') : Fr w.heap.size X w w' := (Fr.of_below h X).trans (k.mono h.size (fun _ hx _ => hx))
theorem eval_nil (w : World) (b : Bool) (h : LookAt w fb kb ck pb mb nm ns b) : Calls Tryz.prog 128 #[.pointer none, .agg #[lookV fb kb, lookV fb kb]] w (LookOut fb kb ck pb mb nm ns b w) := by
  have H : Hid _ := h
  clear h
  unfold lookV
  go_enter Tryz.func128, Tryz.ntmps128
  go_wp2_with fail
  go_ret
  exact ⟨_, rfl, Fr.of_below (ck_grown w _) _, H.out.below (ck_grown w _)⟩
set_option maxHeartbeats 1000000 in
theorem eval_num (w : World) (b : Bool) {g : Nat} {n : Int} {S : Value} {lv rv : Value} (hg : w.heap[g]? = some (.cells #[.int .i64 1, .int .i64 n, S, lv, rv] 222 (0, 0))) (h : LookAt w fb kb ck pb mb nm ns b) : Calls Tryz.prog 128 #[.pointer (some ⟨g, 0, none⟩), .agg #[lookV fb kb, lookV fb kb]] w (LookOut fb kb ck pb mb nm ns b w) := by
  have H : Hid _ := h
  have c0 := fun o => cell_row (ck_old (o' := o) hg) 0 (u := .int .i64 1) rfl
  have c1 := fun o => cell_row (ck_old (o' := o) hg) 1 (u := .int .i64 n) rfl
  clear h hg
  unfold lookV
  go_enter Tryz.func128, Tryz.ntmps128
  go_wp2_with fail
  go_ret
  exact ⟨_, rfl, Fr.of_below (ck_grown w _) _, H.out.below (ck_grown w _)⟩
set_option maxHeartbeats 2000000 in
theorem eval_name (w : World) (b : Bool) {g : Nat} {c n : Int} (hc : c = 2 ∨ c = 3) {s : Str} (hs : s.length ≤ maxLen) {lv rv : Value} (hg : w.heap[g]? = some (.cells #[.int .i64 c, .int .i64 n, sv s, lv, rv] 222 (0, 0))) (h : LookAt w fb kb ck pb mb nm ns b) : Calls Tryz.prog 128 #[.pointer (some ⟨g, 0, none⟩), .agg #[lookV fb kb, lookV fb kb]] w (LookOut fb kb ck pb mb nm ns (b || (fnd ns s).isNone) w) := by
  obtain ⟨O, hO⟩ : ∃ O, O = Obj.cells #[lookV fb kb, lookV fb kb] 208 := ⟨_, rfl⟩
  have hbO := ck_grown w O
  have hcall := ask_any ((h.below hbO).below (w' := (w.alloc O).drew) ((Below.refl _ _).drew)) hs
  have k0 : (w.alloc O).heap[w.heap.size]? = some (.cells #[lookV fb kb, lookV fb kb] 208 (0, 0)) := by rw [ck_new, hO]
  have e0 := cell_row k0 0 (u := lookV fb kb) rfl
  have e1 := cell_row k0 1 (u := lookV fb kb) rfl
  have c0 := cell_row (ck_old (o' := O) hg) 0 (u := .int .i64 c) rfl
  have c2 := cell_row (ck_old (o' := O) hg) 2 (u := sv s) rfl
  obtain ⟨b', hb'⟩ : ∃ b', b' = (b || (fnd ns s).isNone) := ⟨_, rfl⟩
  rw [← hb'] at hcall ⊢
  have HB : Hid _ := hbO.drew
  generalize sv s = S at hcall c2
  unfold lookV at hO hcall e0 e1 ⊢
  rw [hO] at hcall e0 e1 c0 c2 HB
  clear h hg hb' hbO k0 hO hs
  rcases hc with rfl | rfl
  all_goals
    go_enter Tryz.func128, Tryz.ntmps128
    go_wp2_with fail
    go_region_with (refine hcall.mono ?_; rintro e w' ⟨rfl, hr⟩)
    all_goals
      go_wp2_with fail
      go_ret
      exact ⟨_, rfl, frBelow' HB.out hr.out.1, hr.out.2⟩
end
end Go.Proofs.YtiihgnagjemikaaGreatDoor
