/- image: woven, unwoven, add. -/
import Derived.Test.YtalfelkblbbmpaaDoorIm
import Derived.Test.YtalfelkblbbmpaaDoorNv
import Derived.Maps.AppendAt
import Derived.Laws.IdiomStrings
import Derived.Laws.Bits64
namespace Go.Proofs.YtalfelkblbbmpaaDoor
open Go.RowKit
namespace Ix
open Nx

theorem xor_i64 (z : Int) (h : -9223372036854775808 ≤ z) (h' : z ≤ 9223372036854775807) : bits .xor .i64 (-1) z = -z - 1 := by
  show IntKind.i64.wrap ((BitVec.ofInt 64 (-1) ^^^ BitVec.ofInt 64 z).toNat : Int) = _
  have e : BitVec.ofInt 64 (-1) ^^^ BitVec.ofInt 64 z = ~~~ (BitVec.ofInt 64 z) := by
    rw [show BitVec.ofInt 64 (-1) = BitVec.allOnes 64 by decide]
    exact BitVec.allOnes_xor
  rw [e, BitVec.toNat_not, BitVec.toNat_ofInt]
  simp only [IntKind.wrap, IntKind.bits, IntKind.signed]
  simp
  omega
theorem or128 (u : Nat) : bits .or .u8 ((u % 256 : Nat) : Int) 128 = ((u % 128 + 128 : Nat) : Int) := by
  show IntKind.u8.wrap ((BitVec.ofInt 8 ((u % 256 : Nat) : Int) ||| BitVec.ofInt 8 128).toNat : Int) = _
  have h : ∀ k : Fin 256, (BitVec.ofInt 8 ((k.val : Nat) : Int) ||| BitVec.ofInt 8 128).toNat = k.val % 128 + 128 := by decide +kernel
  have hk := h ⟨u % 256, Nat.mod_lt _ (by decide)⟩
  simp only at hk
  rw [hk]
  simp only [IntKind.wrap, IntKind.bits, IntKind.signed]
  simp
  omega

set_option maxRecDepth 4000 in
theorem woven_any (z : Int) (w : World) (h : -9223372036854775808 ≤ z) (h' : z ≤ 9223372036854775807) :
    Calls Tryd.prog 41 #[.int .i64 z] w fun e w' => e = .returned (.int .u64 (wv z)) ∧ w' = w := by
  by_cases hz : z < 0
  · have e : IntKind.u64.wrap (IntKind.u64.wrap (2 * IntKind.u64.wrap (bits .xor .i64 (-1) z)) + 1) = (wv z : Int) := by
      rw [xor_i64 z h h', IntKind.wrap_u64, IntKind.wrap_u64, IntKind.wrap_u64]
      unfold wv
      rw [if_pos hz]
      omega
    go_enter Tryd.func41, Tryd.ntmps41
    go_wp2
    go_ret
    exact ⟨rfl, rfl⟩
  · have e : 2 * z = (wv z : Int) := by
      unfold wv
      rw [if_neg hz]
      omega
    go_enter Tryd.func41, Tryd.ntmps41
    go_wp2
    go_ret
    exact ⟨rfl, rfl⟩
theorem unwoven_any (u : Nat) (w : World) (h : u < 18446744073709551616) :
    Calls Tryd.prog 66 #[.int .u64 u] w fun e w' => e = .returned (.int .i64 (uv u)) ∧ w' = w := by
  by_cases hz : u % 2 = 1
  · have e : bits .xor .i64 (-1) ((u : Int) / 2) = uv u := by
      rw [xor_i64 _ (by omega) (by omega)]
      unfold uv
      rw [if_pos hz]
      omega
    go_enter Tryd.func66, Tryd.ntmps66
    go_wp2
    all_goals (first | (exfalso; omega) | skip)
    go_ret
    exact ⟨rfl, rfl⟩
  · have e : ((u : Int) / 2) = uv u := by
      unfold uv
      rw [if_neg hz]
      omega
    go_enter Tryd.func66, Tryd.ntmps66
    go_wp2
    all_goals (first | (exfalso; omega) | skip)
    go_ret
    exact ⟨rfl, rfl⟩

/-! bytes in a row -/
def bc (l : List UInt8) : List Value := l.map fun b => Value.int .u8 b.toNat
theorem bc_len (l : List UInt8) : (bc l).length = l.length := by simp [bc]
theorem bc_app (l m : List UInt8) : bc (l ++ m) = bc l ++ bc m := by simp [bc]
/-- bytes: in a row of one's own, or in one that is full -/
def Bys (w : World) (B : Nat) (v : Value) (l : List UInt8) : Prop :=
  w.ownsRow B 5 1 v l.length (bc l) ∨ ∃ g, v = .slice (some ⟨g, 0, none⟩) l.length l.length ∧ B ≤ g ∧ g < w.heap.size ∧ ∀ j u, (bc l)[j]? = some u → w.cell? ⟨g, j, none⟩ = some u
theorem bc_one (l : List UInt8) : ∀ u ∈ bc l, u.oneCell' = true := fun u hu => by
  obtain ⟨x, _, rfl⟩ := List.mem_map.1 hu
  rfl
theorem Tryd.infoU8 : (Tryd.prog.info? 5).map (fun i => (i.zero, i.size, i.bytes)) = some (some (.int .u8 0), 1, 1) := by kernel_rfl
theorem run_app1 {w : World} {B : Nat} {v : Value} {l : List UInt8} (h : Bys w B v l) (ty : TypeId) (ad : Addr) (c : Nat) (x : UInt8) (hx : w.cell? (ad.add 0) = some (.int .u8 x.toNat)) (hl : l.length + 1 ≤ 140737488355328) (hB : B ≤ w.heap.size) :
    ∃ v' w', (Builtin.append_ #[46, 46] ty #[v, .slice (some ad) 1 c]).run Tryd.prog w = .ok v' w' ∧ w'.ownsRow B 5 1 v' (l ++ [x]).length (bc (l ++ [x])) ∧ w.grownBy w' v.ownBlock ∧ (v'.ownBlock = v.ownBlock ∨ v'.ownBlock = some w.heap.size) := by
  obtain ⟨i, hi, hz0, hz1, hz2⟩ := info_parts Tryd.infoU8
  have e1 : (l ++ [x]).length = l.length + 1 := by simp
  have e2 : bc (l ++ [x]) = bc l ++ bc [x] := bc_app _ _
  have hnews : ∀ j u, (bc [x])[j]? = some u → w.cell? (ad.add j) = some u := fun j u hu => by
    cases j with
    | zero => simp [bc] at hu; rw [← hu]; exact hx
    | succ j => simp [bc] at hu
  rw [e1, e2]
  rcases h with h | ⟨g, rfl, hg, hgs, hc⟩
  · obtain ⟨v', w', h1, h2, h3, _, h4⟩ := run_append_own_at (P := Tryd.prog) w B 46 ty 5 i (.int .u8 0) 1 1 Tryd.underlying46 hi hz0 hz1 hz2 rfl (by omega) v l.length (bc l) h ad 1 c (bc [x]) rfl hnews (bc_one _) (by unfold maxLen; omega) (by omega) hB
    exact ⟨v', w', h1, h2, h3, h4⟩
  · have hr := run_append_grow (P := Tryd.prog) w 46 ty 5 i (.int .u8 0) Tryd.underlying46 hi hz0 ⟨g, 0, none⟩ l.length l.length (bc l) (by rw [hz1, bc_len]; omega) (fun j u hu => by rw [Addr.add_lit, Nat.zero_add]; exact hc j u hu) ad 1 c (bc [x]) (by rw [hz1]; rfl) hnews (by omega) (by omega) (growslice_fits (by omega) (by rw [hz2]; omega))
    refine ⟨_, _, hr, ⟨by simp [bc], .inr ⟨w.heap.size, _, _, rfl, hB, heap_alloc_new w.drew _, grownCap_ge _ _ _ _, grownCap_le_maxLen w _ _ _ (by unfold maxLen; omega), ?_, ?_⟩⟩, ⟨rfl, rfl, rfl, by simp, fun k hk _ => Below.heap_alloc w.drew _ k hk⟩, .inr rfl⟩
    · have := grownCap_ge w (l.length + 1) l.length 5
      simp only [Array.size_append, List.size_toArray, size_zeroCells, bc_len]
      simp [Value.cells]
      omega
    · simp only [Array.toList_append, List.append_assoc]
      rw [← List.append_assoc]
      have e3 : (bc l ++ bc [x]).length = (l.length + 1) * 1 := by simp [bc]
      rw [← e3]
      exact List.take_left
theorem wpList_app1 {w : World} {ops : Array Oper} {rest : List Oper} {o : Oper} {a : Act} {Q : Exit → Act → World → Prop} (hgd : o.guard = none) (s x : Operand)
    (ho : o.op = .call { callee := .builtin .append, args := #[s, x], argTypes := #[46, 46] }) (B : Nat) {v : Value} {l : List UInt8} (hs : a.eval s = v) (h : Bys w B v l) (ad : Addr) (c : Nat) (b : UInt8) (hx : a.eval x = .slice (some ad) 1 c)
    (hb : w.cell? (ad.add 0) = some (.int .u8 b.toNat)) (hl : l.length + 1 ≤ 140737488355328) (hB : B ≤ w.heap.size)
    (hK : ∀ v' w', w'.ownsRow B 5 1 v' (l ++ [b]).length (bc (l ++ [b])) → w.grownBy w' v.ownBlock → (v'.ownBlock = v.ownBlock ∨ v'.ownBlock = some w.heap.size) → wpList Tryd.prog ops Q rest (a.put o.dst v') w') :
    wpList Tryd.prog ops Q (o :: rest) a w := by
  obtain ⟨v', w', hr, h1, h2, h3⟩ := run_app1 h o.type ad c b hb hl hB
  refine wpList_plain hgd fun K hK' => ?_
  unfold Oper.wp execOp
  simp only [ho, resolve, invoke, builtin, Sem.run_bind, Sem.run_pure, Result.andThen_ok, List.map_toArray, List.map_cons, List.map_nil, hs, hx, hr]
  exact hK' _ _ (hK v' w' h1 h2 h3)
/-- what a string made of bytes is -/
theorem bys_string {w : World} {B : Nat} {v : Value} {l : List UInt8} (h : Bys w B v l) : (convert 46 9 v).run Tryd.prog w = .ok (.string ⟨l.toArray⟩) w := by
  have key : ∀ g cap, (∀ j u, (bc l)[j]? = some u → w.cell? ⟨g, j, none⟩ = some u) → (convert 46 9 (.slice (some ⟨g, 0, none⟩) l.length cap)).run Tryd.prog w = .ok (.string ⟨l.toArray⟩) w := fun g cap hc =>
    run_convert_bytes_back w _ _ 5 ⟨g, 0, none⟩ cap l Tryd.underlying46 Tryd.underlying5 Tryd.underlying9 (fun j hj => by
      rw [Addr.add_lit, Nat.zero_add]
      exact hc j _ (by simp [bc, hj]))
  rcases h with h | ⟨g, rfl, _, _, hc⟩
  · have hcl := fun g hg => World.ownsRow.cells h (g := g) hg
    rcases h.2 with ⟨rfl, h0⟩ | ⟨g, cap, cur, rfl, _⟩
    · have : l = [] := List.eq_nil_of_length_eq_zero h0
      subst this
      rw [run_convert_bytes_string w _ _ 5 none 0 0 Tryd.underlying46 Tryd.underlying5 Tryd.underlying9]
      rfl
    · refine key g cap fun j u hu => ?_
      have := hcl g rfl j u hu
      rwa [Addr.add_lit, Nat.zero_add] at this
  · exact key g _ hc
theorem Bys.kept {w w' : World} {B : Nat} {v : Value} {l : List UInt8} (h : Bys w B v l) (hk : ∀ g, v.ownBlock = some g → w'.heap[g]? = w.heap[g]?) (hs : w.heap.size ≤ w'.heap.size) : Bys w' B v l := by
  rcases h with h | ⟨g, rfl, hg, hgs, hc⟩
  · left
    refine ⟨h.1, ?_⟩
    rcases h.2 with hn | ⟨g, cap, cur, rfl, hb, hgg, rest⟩
    · exact .inl hn
    · exact .inr ⟨g, cap, cur, rfl, hb, by rw [hk g rfl]; exact hgg, rest⟩
  · right
    exact ⟨g, rfl, hg, by omega, fun j u hu => by rw [cell_of_block (hk g rfl)]; exact hc j u hu⟩
theorem Bys.lt {w : World} {B : Nat} {v : Value} {l : List UInt8} (h : Bys w B v l) : ∀ g, v.ownBlock = some g → B ≤ g ∧ g < w.heap.size := by
  intro k hk
  rcases h with h | ⟨g, rfl, hg, hgs, hc⟩
  · exact h.lt k hk
  · simp [Value.ownBlock] at hk
    subst hk
    exact ⟨hg, hgs⟩
theorem Bys.shape {w : World} {B : Nat} {v : Value} {l : List UInt8} (h : Bys w B v l) : ∃ ao cap, v = .slice ao l.length cap := by
  rcases h with h | ⟨g, rfl, _⟩
  · rcases h.2 with ⟨rfl, h0⟩ | ⟨g, cap, cur, rfl, _⟩
    · exact ⟨none, 0, by rw [h0]⟩
    · exact ⟨_, _, rfl⟩
  · exact ⟨_, _, rfl⟩
end Ix
end Go.Proofs.YtalfelkblbbmpaaDoor
