/- The library's contracts (strconv.FormatInt, Itoa, strings.Repeat) at this program: laid, no walk. -/
import Derived.Shelf.LaysM
import Derived.Shelf.Strconv.Itoa4
import Derived.Shelf.Strings.Repeat
import Derived.Test.YtpbfmfhjgghldaaDoorProg
import Derived.Test.YtpbfmfhjgghldaaDoorJWr3
import Derived.Lib.LaidTab
import Derived.Lib.QuietBelow
import Derived.Test.YtpbfmfhjgghldaaDoorJRead
import Derived.Deep.DeepCutAuto
namespace Go.Proofs
open Go.Shelf
def Tryd.laysM173_ren : Go.Shelf.Ren := ⟨fun | 173 => 33 | 246 => 47 | 283 => 55 | 284 => 56 | 285 => 57 | 286 => 58 | 129 => 69 | 317 => 68 | 318 => 70 | 319 => 71 | 320 => 72 | 337 => 86 | 338 => 87 | n => n, fun | 2 => 2 | 3 => 3 | 9 => 9 | 4 => 4 | 171 => 94 | 0 => 0 | 53 => 95 | 37 => 44 | 5 => 5 | 173 => 98 | 212 => 113 | 51 => 114 | 20 => 20 | 213 => 115 | 46 => 117 | 232 => 146 | 233 => 147 | n => n, fun | 17 => 3 | 18 => 9 | 19 => 10 | n => n⟩
theorem Tryd.laysM173 : Go.Proofs.LaysM.n173 Tryd.prog Tryd.laysM173_ren := {
  mixed := by kernel_rfl
  f129 := Tryd.func69.trans (congrArg some (by kernel_rfl))
  f173 := Tryd.func33.trans (congrArg some (by kernel_rfl))
  f246 := Tryd.func47.trans (congrArg some (by kernel_rfl))
  f283 := Tryd.func55.trans (congrArg some (by kernel_rfl))
  f284 := Tryd.func56.trans (congrArg some (by kernel_rfl))
  f285 := Tryd.func57.trans (congrArg some (by kernel_rfl))
  f286 := Tryd.func58.trans (congrArg some (by kernel_rfl))
  f317 := Tryd.func68.trans (congrArg some (by kernel_rfl))
  f318 := Tryd.func70.trans (congrArg some (by kernel_rfl))
  f319 := Tryd.func71.trans (congrArg some (by kernel_rfl))
  f320 := Tryd.func72.trans (congrArg some (by kernel_rfl))
  f337 := Tryd.func86.trans (congrArg some (by kernel_rfl))
  f338 := Tryd.func87.trans (congrArg some (by kernel_rfl))
  t0 := Tryd.underlying0
  a0 := Tryd.isAgg0
  z0 := Tryd.sizeOf0
  v0 := Tryd.zeroValue0
  t2 := Tryd.underlying2
  a2 := Tryd.isAgg2
  z2 := Tryd.sizeOf2
  v2 := Tryd.zeroValue2
  t3 := Tryd.underlying3
  a3 := Tryd.isAgg3
  z3 := Tryd.sizeOf3
  v3 := Tryd.zeroValue3
  t4 := Tryd.underlying4
  a4 := Tryd.isAgg4
  z4 := Tryd.sizeOf4
  v4 := Tryd.zeroValue4
  t5 := Tryd.underlying5
  a5 := Tryd.isAgg5
  z5 := Tryd.sizeOf5
  v5 := Tryd.zeroValue5
  t9 := Tryd.underlying9
  a9 := Tryd.isAgg9
  z9 := Tryd.sizeOf9
  v9 := Tryd.zeroValue9
  t20 := Tryd.underlying20
  a20 := Tryd.isAgg20
  z20 := Tryd.sizeOf20
  v20 := Tryd.zeroValue20
  t37 := Tryd.underlying44
  a37 := Tryd.isAgg44
  z37 := Tryd.sizeOf44
  v37 := Tryd.zeroValue44
  t46 := Tryd.underlying117
  a46 := Tryd.isAgg117
  z46 := Tryd.sizeOf117
  v46 := Tryd.zeroValue117
  t51 := Tryd.underlying114
  a51 := Tryd.isAgg114
  z51 := Tryd.sizeOf114
  v51 := Tryd.zeroValue114
  t53 := Tryd.underlying95
  a53 := Tryd.isAgg95
  z53 := Tryd.sizeOf95
  v53 := Tryd.zeroValue95
  t171 := Tryd.underlying94
  a171 := Tryd.isAgg94
  z171 := Tryd.sizeOf94
  v171 := Tryd.zeroValue94
  t173 := Tryd.underlying98
  a173 := Tryd.isAgg98
  z173 := Tryd.sizeOf98
  v173 := Tryd.zeroValue98
  t212 := Tryd.underlying113
  a212 := Tryd.isAgg113
  z212 := Tryd.sizeOf113
  v212 := Tryd.zeroValue113
  t213 := Tryd.underlying115
  a213 := Tryd.isAgg115
  z213 := Tryd.sizeOf115
  t232 := Tryd.underlying146
  a232 := Tryd.isAgg146
  z232 := Tryd.sizeOf146
  v232 := Tryd.zeroValue146
  t233 := Tryd.underlying147
  a233 := Tryd.isAgg147
  z233 := Tryd.sizeOf147
  v233 := Tryd.zeroValue147
  g17 := by kernel_rfl
  g18 := by kernel_rfl
  g19 := by kernel_rfl
  i0 := by kernel_rfl
  i2 := by kernel_rfl
  i3 := by kernel_rfl
  i4 := by kernel_rfl
  i5 := by kernel_rfl
  i9 := by kernel_rfl
  i20 := by kernel_rfl
  i37 := by kernel_rfl
  i46 := by kernel_rfl
  i51 := by kernel_rfl
  i53 := by kernel_rfl
  i171 := by kernel_rfl
  i173 := by kernel_rfl
  i212 := by kernel_rfl
  i232 := by kernel_rfl
  i233 := by kernel_rfl
  m17 := by kernel_rfl
  m18 := by kernel_rfl
  m19 := by kernel_rfl }
open Go.RowKit Go.Sort Go.Lib in
/-- strconv.FormatInt: "FormatInt returns the string representation of i in the given base": AT BASE 10: i's decimal numeral, for every int64. (LAID: no walk: one application.) -/
theorem Tryd.strconv_FormatInt_10 (n : Int) (h0 : -9223372036854775808 ≤ n) (h1 : n ≤ 9223372036854775807) (w : World) (htab : Lib.TabIs Tryd.prog w "internal/strconv.uint64pow10" .u64 Lib.pow10Tab) :
    Calls Tryd.prog 33 #[.int .i64 n, .int .i64 10] w fun e w' => e = .returned (.string ⟨(Lib.itoa n).toArray⟩) ∧ ∃ k os, w' = grow (w.drewN k) os := Any.strconv_FormatInt_10 Tryd.laysM173 n h0 h1 w htab
def Tryd.laysM171_ren : Go.Shelf.Ren := ⟨fun | 171 => 78 | 243 => 88 | 246 => 47 | 283 => 55 | 284 => 56 | 285 => 57 | 286 => 58 | 129 => 69 | 317 => 68 | 318 => 70 | 319 => 71 | 320 => 72 | 337 => 86 | 338 => 87 | n => n, fun | 3 => 3 | 9 => 9 | 2 => 2 | 4 => 4 | 171 => 94 | 0 => 0 | 53 => 95 | 37 => 44 | 5 => 5 | 173 => 98 | 212 => 113 | 51 => 114 | 20 => 20 | 213 => 115 | 46 => 117 | 232 => 146 | 233 => 147 | n => n, fun | 17 => 3 | 18 => 9 | 19 => 10 | n => n⟩
theorem Tryd.laysM171 : Go.Proofs.LaysM.n171 Tryd.prog Tryd.laysM171_ren := {
  mixed := by kernel_rfl
  f129 := Tryd.func69.trans (congrArg some (by kernel_rfl))
  f171 := Tryd.func78.trans (congrArg some (by kernel_rfl))
  f243 := Tryd.func88.trans (congrArg some (by kernel_rfl))
  f246 := Tryd.func47.trans (congrArg some (by kernel_rfl))
  f283 := Tryd.func55.trans (congrArg some (by kernel_rfl))
  f284 := Tryd.func56.trans (congrArg some (by kernel_rfl))
  f285 := Tryd.func57.trans (congrArg some (by kernel_rfl))
  f286 := Tryd.func58.trans (congrArg some (by kernel_rfl))
  f317 := Tryd.func68.trans (congrArg some (by kernel_rfl))
  f318 := Tryd.func70.trans (congrArg some (by kernel_rfl))
  f319 := Tryd.func71.trans (congrArg some (by kernel_rfl))
  f320 := Tryd.func72.trans (congrArg some (by kernel_rfl))
  f337 := Tryd.func86.trans (congrArg some (by kernel_rfl))
  f338 := Tryd.func87.trans (congrArg some (by kernel_rfl))
  t0 := Tryd.underlying0
  a0 := Tryd.isAgg0
  z0 := Tryd.sizeOf0
  v0 := Tryd.zeroValue0
  t2 := Tryd.underlying2
  a2 := Tryd.isAgg2
  z2 := Tryd.sizeOf2
  v2 := Tryd.zeroValue2
  t3 := Tryd.underlying3
  a3 := Tryd.isAgg3
  z3 := Tryd.sizeOf3
  v3 := Tryd.zeroValue3
  t4 := Tryd.underlying4
  a4 := Tryd.isAgg4
  z4 := Tryd.sizeOf4
  v4 := Tryd.zeroValue4
  t5 := Tryd.underlying5
  a5 := Tryd.isAgg5
  z5 := Tryd.sizeOf5
  v5 := Tryd.zeroValue5
  t9 := Tryd.underlying9
  a9 := Tryd.isAgg9
  z9 := Tryd.sizeOf9
  v9 := Tryd.zeroValue9
  t20 := Tryd.underlying20
  a20 := Tryd.isAgg20
  z20 := Tryd.sizeOf20
  v20 := Tryd.zeroValue20
  t37 := Tryd.underlying44
  a37 := Tryd.isAgg44
  z37 := Tryd.sizeOf44
  v37 := Tryd.zeroValue44
  t46 := Tryd.underlying117
  a46 := Tryd.isAgg117
  z46 := Tryd.sizeOf117
  v46 := Tryd.zeroValue117
  t51 := Tryd.underlying114
  a51 := Tryd.isAgg114
  z51 := Tryd.sizeOf114
  v51 := Tryd.zeroValue114
  t53 := Tryd.underlying95
  a53 := Tryd.isAgg95
  z53 := Tryd.sizeOf95
  v53 := Tryd.zeroValue95
  t171 := Tryd.underlying94
  a171 := Tryd.isAgg94
  z171 := Tryd.sizeOf94
  v171 := Tryd.zeroValue94
  t173 := Tryd.underlying98
  a173 := Tryd.isAgg98
  z173 := Tryd.sizeOf98
  v173 := Tryd.zeroValue98
  t212 := Tryd.underlying113
  a212 := Tryd.isAgg113
  z212 := Tryd.sizeOf113
  v212 := Tryd.zeroValue113
  t213 := Tryd.underlying115
  a213 := Tryd.isAgg115
  z213 := Tryd.sizeOf115
  t232 := Tryd.underlying146
  a232 := Tryd.isAgg146
  z232 := Tryd.sizeOf146
  v232 := Tryd.zeroValue146
  t233 := Tryd.underlying147
  a233 := Tryd.isAgg147
  z233 := Tryd.sizeOf147
  v233 := Tryd.zeroValue147
  g17 := by kernel_rfl
  g18 := by kernel_rfl
  g19 := by kernel_rfl
  i0 := by kernel_rfl
  i2 := by kernel_rfl
  i3 := by kernel_rfl
  i4 := by kernel_rfl
  i5 := by kernel_rfl
  i9 := by kernel_rfl
  i20 := by kernel_rfl
  i37 := by kernel_rfl
  i46 := by kernel_rfl
  i51 := by kernel_rfl
  i53 := by kernel_rfl
  i171 := by kernel_rfl
  i173 := by kernel_rfl
  i212 := by kernel_rfl
  i232 := by kernel_rfl
  i233 := by kernel_rfl
  m17 := by kernel_rfl
  m18 := by kernel_rfl
  m19 := by kernel_rfl }
open Go.RowKit Go.Sort Go.Lib in
/-- strconv.Itoa: "Itoa is equivalent to FormatInt(int64(i), 10).": i's DECIMAL NUMERAL ('Lib.itoa': a '-' where i is negative, then the digits), FOR EVERY int. The world behind the call: the world before it, new blocks behind the heap (the library's 'var a [24]byte'), draws. (LAID: no walk: one application.) -/
theorem Tryd.strconv_Itoa (n : Int) (h0 : -9223372036854775808 ≤ n) (h1 : n ≤ 9223372036854775807) (w : World) (htab : Lib.TabIs Tryd.prog w "internal/strconv.uint64pow10" .u64 Lib.pow10Tab) :
    Calls Tryd.prog 78 #[.int .i64 n] w fun e w' => e = .returned (.string ⟨(Lib.itoa n).toArray⟩) ∧ ∃ k os, w' = grow (w.drewN k) os := Any.strconv_Itoa Tryd.laysM171 n h0 h1 w htab
end Go.Proofs
/- The program's writer: expressions. -/
namespace Go.Proofs.YtpbfmfhjgghldaaDoor
open Go.RowKit Go.Lib Go.Sort Px

/-- what of the listed variables the writer asks -/
structure WEnv (wb : Nat) (w : World) : Prop where
  tabs : Tabs w
  pow : Lib.TabIs Tryd.prog w "internal/strconv.uint64pow10" .u64 Lib.pow10Tab
  big : 11 ≤ wb
theorem gPow : Tryd.prog.globalNamed "internal/strconv.uint64pow10" = some 3 := by kernel_rfl
theorem pow_keep {w w' : World} (h : Lib.TabIs Tryd.prog w "internal/strconv.uint64pow10" .u64 Lib.pow10Tab) (hk : w'.heap[3]? = w.heap[3]?) : Lib.TabIs Tryd.prog w' "internal/strconv.uint64pow10" .u64 Lib.pow10Tab := by
  rw [Lib.TabIs, World.var?, gPow, Option.bind_some] at h ⊢
  rw [hk]; exact h
theorem WEnv.keep {wb : Nat} {w w' : World} (h : WEnv wb w) (hk : ∀ b, b < wb → w'.heap[b]? = w.heap[b]?) : WEnv wb w' := by
  have hb := h.big
  exact ⟨h.tabs.keep (fun b hl => hk b (by omega)), pow_keep h.pow (hk _ (by omega)), hb⟩
theorem WSt.env {wb : Nat} {w wk : World} {v0 vk : Value} {t : Str} {d : Nat} (S : WSt wb w v0 wk vk t d) (h : WEnv wb w) : WEnv wb wk :=
  h.keep (fun b hb => (S.keep b hb (by have := S.wlt; omega)).2)
theorem WEnv.below {wb : Nat} {w w' : World} (h : WEnv wb w) (hl : wb ≤ w.heap.size) (hb : Below w.heap.size w w') : WEnv wb w' := h.keep (fun b hlt => hb.block b (by omega))
theorem formatInt {w : World} (n : Int) (h0 : -9223372036854775808 ≤ n ∧ n ≤ 9223372036854775807) (hp : Lib.TabIs Tryd.prog w "internal/strconv.uint64pow10" .u64 Lib.pow10Tab) :
    Calls Tryd.prog 33 #[.int .i64 n, .int .i64 10] w fun e w' => e = .returned (.string ⟨(Lib.itoa n).toArray⟩) ∧ Below w.heap.size w w' := by
  refine (Tryd.strconv_FormatInt_10 n h0.1 h0.2 w hp).mono ?_
  rintro e w' ⟨rfl, k, os, rfl⟩
  exact ⟨rfl, ⟨rfl, rfl, rfl, by simp [grow, World.drewN], fun i hi => by simp [grow, World.drewN, Array.getElem?_append_left hi]⟩⟩
theorem signBetween_any {c : Nat} {w : World} (h6 : 6 ≤ c) (h16 : c ≤ 16) (ht : Tabs w) : Calls Tryd.prog 75 #[.int .i64 c] w fun e w' => e = .returned (.tuple #[.string ⟨(signT c).toArray⟩, .int .i64 ((line c - 1 : Nat) : Int)]) ∧ Below w.heap.size w w' := by
  have hc : c = 6 ∨ c = 7 ∨ c = 8 ∨ c = 9 ∨ c = 10 ∨ c = 11 ∨ c = 12 ∨ c = 13 ∨ c = 14 ∨ c = 15 ∨ c = 16 := by omega
  rcases hc with rfl | rfl | rfl | rfl | rfl | rfl | rfl | rfl | rfl | rfl | rfl
  · exact signBetween_6 w ht
  · exact signBetween_7 w ht
  · exact signBetween_8 w ht
  · exact signBetween_9 w ht
  · exact signBetween_10 w ht
  · exact signBetween_11 w ht
  · exact signBetween_12 w ht
  · exact signBetween_13 w ht
  · exact signBetween_14 w ht
  · exact signBetween_15 w ht
  · exact signBetween_16 w ht

theorem wrap_small {n : Nat} (h : n ≤ 1000000) : IntKind.i64.wrap ((n : Int) + 1) = ((n + 1 : Nat) : Int) := by
  have : IntKind.i64.wrap ((n : Int) + 1) = (n : Int) + 1 := by simp [IntKind.wrap, IntKind.signed, IntKind.bits]; omega
  rw [this]; rfl
/-- an expression is written where it may stand -/
def ExprOk (e : E) : Prop := ∀ (wb : Nat) (w : World) (v p : Value) (t : Str) (d tight : Nat), WAt wb w v t d → IsE (· < wb) w e p → WEnv wb w → tight ≤ 5 → t.length + (exprT e (tight + 1)).length ≤ 140737488355328 →
  Calls Tryd.prog 60 #[.pointer (some ⟨wb, 0, none⟩), p, .int .i64 tight] w fun e' w' => e' = .returned (.tuple #[]) ∧ Wrote wb w v (t ++ exprT e (tight + 1)) d w'

set_option maxRecDepth 100000 in
set_option maxHeartbeats 2000000 in
theorem expr_nil : ExprOk .nil := by
  intro wb w v p t d tight hW hE _ _ _
  obtain rfl : p = .pointer none := hE
  go_enter Tryd.func60, Tryd.ntmps60
  go_wp2_with fail
  refine bodyPost_ret (results_none rfl _ _ _) rfl ?_
  exact ⟨rfl, by rw [exprT, List.append_nil]; exact Wrote.refl hW⟩
/-- the cells of an expression -/
theorem expr_cells {wb : Nat} {w : World} {b o : Nat} {a : Nd} {l r : E} {p : Value} (h : IsE (· < wb) w (.node b o a l r) p) : ∃ g lv rv, p = .pointer (some ⟨g, 0, none⟩) ∧ g < wb ∧ w.heap[g]? = some (.cells #[.int .i64 a.code, .int .i64 a.num, sv a.name, lv, rv] 121 (0, 0)) ∧ IsE (· < wb) w l lv ∧ IsE (· < wb) w r rv := h

set_option maxRecDepth 100000 in
set_option maxHeartbeats 2000000 in
theorem chain_any {l r : E} (hl : ExprOk l) (hr : ExprOk r) {wb g : Nat} {w : World} {v lv rv : Value} {x0 x1 x2 : Value} {t s : Str} {d own m : Nat} (hm : Hid (m = own + 1)) (br : Bool) (hW : WAt wb w v t d) (hg : g < wb) (hb : w.heap[g]? = some (.cells #[x0, x1, x2, lv, rv] 121 (0, 0))) (h1 : IsE (· < wb) w l lv) (h2 : IsE (· < wb) w r rv) (hE : WEnv wb w) (ho : own ≤ 4)
    (hlim : t.length + (brack br (exprT l m ++ [32] ++ s ++ [32] ++ exprT r (m + 1))).length ≤ 140737488355328) :
    Calls Tryd.prog 76 #[.pointer (some ⟨wb, 0, none⟩), .pointer (some ⟨g, 0, none⟩), .string ⟨s.toArray⟩, .int .i64 own, .bool br] w fun e' w' => e' = .returned (.tuple #[]) ∧ Wrote wb w v (t ++ brack br (exprT l m ++ [32] ++ s ++ [32] ++ exprT r (m + 1))) d w' := by
  have HL : Hid _ := hlim
  have HW : Hid (ExprOk l ∧ ExprOk r) := ⟨hl, hr⟩
  have HX : ∀ (w : World) (v : Value) (t : Str), WAt wb w v t d → IsE (· < wb) w l lv → WEnv wb w → t.length + (exprT l m).length ≤ 140737488355328 → Calls Tryd.prog 60 #[.pointer (some ⟨wb, 0, none⟩), lv, .int .i64 own] w fun e' w' => e' = .returned (.tuple #[]) ∧ Wrote wb w v (t ++ exprT l m) d w' := fun w v t h1 h2 h3 h4 => by
    rw [hm.out] at h4 ⊢; exact hl wb w v lv t d own h1 h2 h3 (by omega) h4
  have HX' : Hid _ := HX
  clear HX
  have S0 := WSt.start hW
  have lx := S0.wlt
  have hgv : v.ownBlock ≠ some g := fun e => by have := (S0.low g e).1; omega
  have hgw : g ≠ wb := by omega
  clear hlim hl hr
  have hwrap : IntKind.i64.wrap ((own : Int) + 1) = (m : Int) := by rw [hm.out]; exact wrap_small (by omega)
  have HO : Hid (m ≤ 5) := by rw [Hid, hm.out]; omega
  cases br with
  | false =>
    have HL' : Hid (t.length + (exprT l m).length ≤ 140737488355328 ∧ t.length + (exprT l m).length + (1 + (s.length + 1)) ≤ 140737488355328 ∧ t.length + (exprT l m).length + (1 + (s.length + 1)) + (exprT r (m + 1)).length ≤ 140737488355328) := by
      have := HL.out
      simp [brack] at this
      refine ⟨?_, ?_, ?_⟩ <;> omega
    obtain ⟨c3, -⟩ := cel hb 3 _ rfl
    go_enter Tryd.func76, Tryd.ntmps76
    go_wp2_with (first
      | (go_at_call_of 60 lv; refine (HX'.out _ v t hW h1 hE HL'.out.1).mono ?_; rintro _ w1 ⟨rfl, hw1⟩; obtain ⟨v1, S1⟩ := S0.step hw1)
      | (go_at_call 11; refine (say3 S1.at_ [32] s [32] (by have := HL'.out.2.1; simp; omega)).mono ?_; rintro _ w2 ⟨rfl, hw2⟩; obtain ⟨v2, S2⟩ := S1.step hw2; obtain ⟨c4, -⟩ := cel (S2.blk hb hgw hgv) 4 _ rfl)
      | (go_at_call_of 60 rv; refine (HW.out.2 wb _ v2 rv _ d m S2.at_ (h2.carry S2.keep) (S2.env hE) HO.out (by have := HL'.out.2.2; simp; omega)).mono ?_; rintro _ w3 ⟨rfl, hw3⟩; obtain ⟨v3, S3⟩ := S2.step hw3))
    go_end0
    exact ⟨rfl, by have := S3.out; simpa [brack, List.append_assoc] using this⟩
  | true =>
    have HL' : Hid (t.length + 1 ≤ 140737488355328 ∧ t.length + 1 + (exprT l m).length ≤ 140737488355328 ∧ t.length + 1 + (exprT l m).length + (1 + (s.length + 1)) ≤ 140737488355328 ∧ t.length + 1 + (exprT l m).length + (1 + (s.length + 1)) + (exprT r (m + 1)).length ≤ 140737488355328 ∧ t.length + 1 + (exprT l m).length + (1 + (s.length + 1)) + (exprT r (m + 1)).length + 1 ≤ 140737488355328) := by
      have := HL.out
      simp [brack] at this
      refine ⟨?_, ?_, ?_, ?_, ?_⟩ <;> omega
    have T1 : Hid True := trivial
    go_enter Tryd.func76, Tryd.ntmps76
    go_wp2_with (first
      | (go_at_call 11; clear T1; refine (say1 hW [40] HL'.out.1).mono ?_; rintro _ w0 ⟨rfl, hw0⟩; obtain ⟨v0, S01⟩ := S0.step hw0; obtain ⟨c3, -⟩ := cel (S01.blk hb hgw hgv) 3 _ rfl; have T2 : Hid True := trivial)
      | (go_at_call_of 60 lv; refine (HX'.out _ v0 _ S01.at_ (h1.carry S01.keep) (S01.env hE) (by have := HL'.out.2.1; simp; omega)).mono ?_; rintro _ w1 ⟨rfl, hw1⟩; obtain ⟨v1, S1⟩ := S01.step hw1)
      | (go_at_call 11; clear T2; refine (say3 S1.at_ [32] s [32] (by have := HL'.out.2.2.1; simp; omega)).mono ?_; rintro _ w2 ⟨rfl, hw2⟩; obtain ⟨v2, S2⟩ := S1.step hw2; obtain ⟨c4, -⟩ := cel (S2.blk hb hgw hgv) 4 _ rfl)
      | (go_at_call_of 60 rv; refine (HW.out.2 wb _ v2 rv _ d m S2.at_ (h2.carry S2.keep) (S2.env hE) HO.out (by have := HL'.out.2.2.2.1; simp; omega)).mono ?_; rintro _ w3 ⟨rfl, hw3⟩; obtain ⟨v3, S3⟩ := S2.step hw3)
      | (go_at_call 11; refine (say1 S3.at_ [41] (by have := HL'.out.2.2.2.2; simp; omega)).mono ?_; rintro _ w4 ⟨rfl, hw4⟩; obtain ⟨v4, S4⟩ := S3.step hw4))
    go_end0
    exact ⟨rfl, by have := S4.out; simpa [brack, List.append_assoc] using this⟩
end Go.Proofs.YtpbfmfhjgghldaaDoor
/- The program's writer: expressions, whole. -/
namespace Go.Proofs.YtpbfmfhjgghldaaDoor
open Go.RowKit Go.Lib Go.Sort Px

section
variable {wb g : Nat} {w : World} {v lv rv : Value} {t : Str} {d tight : Nat} {a : Nd} {l r : E} {b o : Nat}
set_option maxRecDepth 100000 in
set_option maxHeartbeats 2000000 in
theorem expr_num (hc : a.code = 1) (hn : -9223372036854775808 ≤ a.num ∧ a.num ≤ 9223372036854775807) (hW : WAt wb w v t d) (hb : w.heap[g]? = some (.cells #[.int .i64 a.code, .int .i64 a.num, sv a.name, lv, rv] 121 (0, 0))) (hE : WEnv wb w) (hlim : t.length + (exprT (.node b o a l r) (tight + 1)).length ≤ 140737488355328) :
    Calls Tryd.prog 60 #[.pointer (some ⟨wb, 0, none⟩), .pointer (some ⟨g, 0, none⟩), .int .i64 tight] w fun e' w' => e' = .returned (.tuple #[]) ∧ Wrote wb w v (t ++ exprT (.node b o a l r) (tight + 1)) d w' := by
  have S0 := WSt.start hW
  have HT : Hid (exprT (.node b o a l r) (tight + 1) = itoa a.num) := by rw [Hid, exprT, if_pos hc]
  rw [HT.out] at hlim ⊢
  have HL : Hid _ := hlim
  rw [hc] at hb
  clear hlim hc
  obtain ⟨c0, -⟩ := cel hb 0 _ rfl
  obtain ⟨c1, -⟩ := cel hb 1 _ rfl
  go_enter Tryd.func60, Tryd.ntmps60
  go_wp2_with (first
    | (go_at_call 33; refine (formatInt a.num hn hE.pow).mono ?_; rintro _ w1 ⟨rfl, hb1⟩; have S1 := S0.below hb1)
    | (go_at_call 11; refine (say1 S1.at_ (itoa a.num) HL.out).mono ?_; rintro _ w2 ⟨rfl, hw2⟩; obtain ⟨v2, S2⟩ := S1.step hw2))
  refine bodyPost_ret (results_none rfl _ _ _) rfl ?_
  exact ⟨rfl, S2.out⟩
set_option maxRecDepth 100000 in
set_option maxHeartbeats 2000000 in
theorem expr_var (hc : a.code = 2) (hW : WAt wb w v t d) (hb : w.heap[g]? = some (.cells #[.int .i64 a.code, .int .i64 a.num, sv a.name, lv, rv] 121 (0, 0))) (hlim : t.length + (exprT (.node b o a l r) (tight + 1)).length ≤ 140737488355328) :
    Calls Tryd.prog 60 #[.pointer (some ⟨wb, 0, none⟩), .pointer (some ⟨g, 0, none⟩), .int .i64 tight] w fun e' w' => e' = .returned (.tuple #[]) ∧ Wrote wb w v (t ++ exprT (.node b o a l r) (tight + 1)) d w' := by
  have HT : Hid (exprT (.node b o a l r) (tight + 1) = a.name) := by rw [Hid, exprT, if_neg (by omega), if_pos hc]
  rw [HT.out] at hlim ⊢
  have HL : Hid _ := hlim
  rw [hc] at hb
  clear hlim hc
  obtain ⟨c0, -⟩ := cel hb 0 _ rfl
  obtain ⟨c2, -⟩ := cel hb 2 _ rfl
  rw [sv] at c2
  go_enter Tryd.func60, Tryd.ntmps60
  go_wp2_with (go_at_call 11; refine (say1 hW a.name HL.out).mono ?_; rintro _ w2 ⟨rfl, hw2⟩)
  refine bodyPost_ret (results_none rfl _ _ _) rfl ?_
  exact ⟨rfl, hw2⟩
set_option maxRecDepth 100000 in
set_option maxHeartbeats 2000000 in
theorem expr_pre (hc : a.code = 3) (hW : WAt wb w v t d) (hb : w.heap[g]? = some (.cells #[.int .i64 a.code, .int .i64 a.num, sv a.name, lv, rv] 121 (0, 0))) (hlim : t.length + (exprT (.node b o a l r) (tight + 1)).length ≤ 140737488355328) :
    Calls Tryd.prog 60 #[.pointer (some ⟨wb, 0, none⟩), .pointer (some ⟨g, 0, none⟩), .int .i64 tight] w fun e' w' => e' = .returned (.tuple #[]) ∧ Wrote wb w v (t ++ exprT (.node b o a l r) (tight + 1)) d w' := by
  have HT : Hid (exprT (.node b o a l r) (tight + 1) = [112, 114, 101, 40] ++ (a.name ++ [41])) := by rw [Hid, exprT, if_neg (by omega), if_neg (by omega), if_pos hc, List.append_assoc]
  rw [HT.out] at hlim ⊢
  have HL : Hid _ := hlim
  rw [hc] at hb
  clear hlim hc
  obtain ⟨c0, -⟩ := cel hb 0 _ rfl
  obtain ⟨c2, -⟩ := cel hb 2 _ rfl
  rw [sv] at c2
  go_enter Tryd.func60, Tryd.ntmps60
  go_wp2_with (go_at_call 11; refine (say3 hW [112, 114, 101, 40] a.name [41] (by have := HL.out; simp at this ⊢; omega)).mono ?_; rintro _ w2 ⟨rfl, hw2⟩)
  refine bodyPost_ret (results_none rfl _ _ _) rfl ?_
  exact ⟨rfl, hw2⟩
set_option maxRecDepth 100000 in
set_option maxHeartbeats 2000000 in
theorem expr_ahead (hl : ExprOk l) (s : Str) (hs : s = [45] ∧ a.code = 4 ∨ s = [33] ∧ a.code = 5) (hW : WAt wb w v t d) (hg : g < wb) (hb : w.heap[g]? = some (.cells #[.int .i64 a.code, .int .i64 a.num, sv a.name, lv, rv] 121 (0, 0))) (h1 : IsE (· < wb) w l lv) (hE : WEnv wb w) (hlim : t.length + (exprT (.node b o a l r) (tight + 1)).length ≤ 140737488355328) :
    Calls Tryd.prog 60 #[.pointer (some ⟨wb, 0, none⟩), .pointer (some ⟨g, 0, none⟩), .int .i64 tight] w fun e' w' => e' = .returned (.tuple #[]) ∧ Wrote wb w v (t ++ exprT (.node b o a l r) (tight + 1)) d w' := by
  have S0 := WSt.start hW
  have hgv : v.ownBlock ≠ some g := fun e => by have := (S0.low g e).1; omega
  have hgw : g ≠ wb := by omega
  have HT : Hid (exprT (.node b o a l r) (tight + 1) = s ++ exprT l 6) := by
    rcases hs with ⟨rfl, hc⟩ | ⟨rfl, hc⟩
    · rw [Hid, exprT, if_neg (by omega), if_neg (by omega), if_neg (by omega), if_pos (.inl hc), hc]; rfl
    · rw [Hid, exprT, if_neg (by omega), if_neg (by omega), if_neg (by omega), if_pos (.inr hc), hc]; rfl
  rw [HT.out] at hlim ⊢
  have HL : Hid _ := hlim
  clear hlim
  have HO : Hid (ExprOk l) := hl
  rcases hs with ⟨rfl, hc⟩ | ⟨rfl, hc⟩
  all_goals
    rw [hc] at hb
    have hA : ∀ W, Tabs W → Calls Tryd.prog 74 #[.int .i64 (_ : Nat)] W _ := fun W hT => signAhead_any a.code W hT
    rw [hc] at hA
    clear hc hl
    obtain ⟨c0, -⟩ := cel hb 0 _ rfl
    have hTb := hE.tabs
    go_enter Tryd.func60, Tryd.ntmps60
    go_wp2_with (first
      | (go_at_call 74; refine (hA _ hTb).mono ?_; rintro _ w1 ⟨rfl, hb1⟩; have S1 := S0.below hb1; simp only [aheadT, ↓reduceIte, Nat.reduceEqDiff])
      | (go_at_call 11; refine (say1 S1.at_ _ (by have := HL.out; simp at this ⊢; omega)).mono ?_; rintro _ w2 ⟨rfl, hw2⟩; obtain ⟨v2, S2⟩ := S1.step hw2; obtain ⟨c3, -⟩ := cel (S2.blk hb hgw hgv) 3 _ rfl)
      | (go_at_call 60; refine (HO.out wb _ v2 lv _ d 5 S2.at_ (h1.carry S2.keep) (S2.env hE) (by omega) (by have := HL.out; simp at this ⊢; omega)).mono ?_; rintro _ w3 ⟨rfl, hw3⟩; obtain ⟨v3, S3⟩ := S2.step hw3))
    refine bodyPost_ret (results_none rfl _ _ _) rfl ?_
    exact ⟨rfl, by have := S3.out; simpa [List.append_assoc] using this⟩
end
end Go.Proofs.YtpbfmfhjgghldaaDoor
/- The program's writer: expressions, all of them. -/
namespace Go.Proofs.YtpbfmfhjgghldaaDoor
open Go.RowKit Go.Lib Go.Sort Px

theorem Px.signT_ne (c : Nat) : signT c ≠ [] := by unfold signT; (repeat' split) <;> simp
theorem Px.line_pos (c : Nat) : 1 ≤ line c := by unfold line; (repeat' split) <;> omega
theorem Px.line_two {c : Nat} (h6 : 6 ≤ c) (h16 : c ≤ 16) : line c ≤ 5 := by unfold line; (repeat' split) <;> omega
set_option maxRecDepth 100000 in
set_option maxHeartbeats 2000000 in
theorem expr_two {wb g : Nat} {w : World} {v lv rv : Value} {t : Str} {d tight : Nat} {a : Nd} {l r : E} {b o : Nat} (hl : ExprOk l) (hr : ExprOk r) (h6 : 6 ≤ a.code) (h16 : a.code ≤ 16) (hW : WAt wb w v t d) (hg : g < wb) (hb : w.heap[g]? = some (.cells #[.int .i64 a.code, .int .i64 a.num, sv a.name, lv, rv] 121 (0, 0))) (h1 : IsE (· < wb) w l lv) (h2 : IsE (· < wb) w r rv) (hE : WEnv wb w) (hlim : t.length + (exprT (.node b o a l r) (tight + 1)).length ≤ 140737488355328) :
    Calls Tryd.prog 60 #[.pointer (some ⟨wb, 0, none⟩), .pointer (some ⟨g, 0, none⟩), .int .i64 tight] w fun e' w' => e' = .returned (.tuple #[]) ∧ Wrote wb w v (t ++ exprT (.node b o a l r) (tight + 1)) d w' := by
  have S0 := WSt.start hW
  have hgv : v.ownBlock ≠ some g := fun e => by have := (S0.low g e).1; omega
  have hgw : g ≠ wb := by omega
  obtain ⟨c, hc⟩ : ∃ c, Hid (c = a.code) := ⟨_, rfl⟩
  obtain ⟨own, hown⟩ : ∃ own, Hid (own = line c - 1) := ⟨_, rfl⟩
  obtain ⟨m, hm⟩ : ∃ m, Hid (m = own + 1) := ⟨_, rfl⟩
  obtain ⟨s, hs⟩ : ∃ s, Hid (s = signT c) := ⟨_, rfl⟩
  have hml : Hid (m = line c) := by have := line_pos c; have := hown.out; have := hm.out; rw [Hid]; omega
  have ho4 : own ≤ 4 := by have := line_two (c := c) (by rw [hc.out]; exact h6) (by rw [hc.out]; exact h16); have := hown.out; omega
  have HT : Hid (exprT (.node b o a l r) (tight + 1) = brack (decide (own < tight)) (exprT l m ++ [32] ++ s ++ [32] ++ exprT r (m + 1))) := by
    rw [Hid, exprT, if_neg (by omega), if_neg (by omega), if_neg (by omega), if_neg (by omega), hml.out, hs.out, hc.out]
    have e : decide (line a.code < tight + 1) = decide (own < tight) := by
      have := hm.out; have e1 := hml.out; rw [hc.out] at e1
      exact decide_eq_decide.2 (by omega)
    rw [e]
  rw [HT.out] at hlim ⊢
  have HL : Hid _ := hlim
  rw [← hc.out] at hb h6 h16
  clear hlim
  have HO : Hid (ExprOk l ∧ ExprOk r) := ⟨hl, hr⟩
  have hA : ∀ W, Tabs W → Calls Tryd.prog 74 #[.int .i64 c] W fun e w' => e = .returned (.string ⟨#[]⟩) ∧ Below W.heap.size W w' := fun W hT => by
    have := signAhead_any c W hT
    rw [aheadT, if_neg (by omega), if_neg (by omega)] at this
    exact this
  have hB : ∀ W, Tabs W → Calls Tryd.prog 75 #[.int .i64 c] W fun e w' => e = .returned (.tuple #[.string ⟨s.toArray⟩, .int .i64 own]) ∧ Below W.heap.size W w' := fun W hT => by
    rw [hs.out, hown.out]; exact signBetween_any h6 h16 hT
  have hne : List.isEmpty s = false := by rw [hs.out, List.isEmpty_eq_false_iff]; exact signT_ne c
  have n1 : ¬ (c : Int) = 1 := by omega
  have n2 : ¬ (c : Int) = 2 := by omega
  have n3 : ¬ (c : Int) = 3 := by omega
  have hlx := S0.wlt
  have hgl : g < w.heap.size := by omega
  clear hl hr h6 h16 hs
  obtain ⟨c0, -⟩ := cel hb 0 _ rfl
  go_enter Tryd.func60, Tryd.ntmps60
  go_wp2_with (first
    | (go_at_call 74; refine (hA _ hE.tabs).mono ?_; rintro _ w1 ⟨rfl, hb1⟩; have S1 := S0.below hb1; obtain ⟨c1, -⟩ := cel (S1.blk hb hgw hgv) 0 _ rfl)
    | (go_at_call 75; refine (hB _ (S1.env hE).tabs).mono ?_; rintro _ w2 ⟨rfl, hb2⟩; have S2 := S1.below hb2)
    | (go_at_call 76; refine (chain_any HO.out.1 HO.out.2 hm _ S2.at_ hg (S2.blk hb hgw hgv) (h1.carry S2.keep) (h2.carry S2.keep) (S2.env hE) ho4 HL.out).mono ?_; rintro _ w3 ⟨rfl, hw3⟩; obtain ⟨v3, S3⟩ := S2.step hw3))
  go_end0
  exact ⟨rfl, S3.out⟩

theorem expr_ok : ∀ (e : E), GoodE e → ExprOk e := by
  intro e
  induction e with
  | nil => intro _; exact expr_nil
  | node b o a l r ihl ihr =>
    intro ⟨g1, g2, g3, g4, g5⟩ wb w v p t d tight hW hI hE ht hlim
    obtain ⟨g, lv, rv, rfl, hg, hb, h1, h2⟩ := expr_cells hI
    have hc : a.code = 1 ∨ a.code = 2 ∨ a.code = 3 ∨ a.code = 4 ∨ a.code = 5 ∨ 6 ≤ a.code := by omega
    rcases hc with hc | hc | hc | hc | hc | hc
    · exact expr_num hc g3 hW hb hE hlim
    · exact expr_var hc hW hb hlim
    · exact expr_pre hc hW hb hlim
    · exact expr_ahead (ihl g4) [45] (.inl ⟨rfl, hc⟩) hW hg hb h1 hE hlim
    · exact expr_ahead (ihl g4) [33] (.inr ⟨rfl, hc⟩) hW hg hb h1 hE hlim
    · exact expr_two (ihl g4) (ihr g5) hc g2 hW hg hb h1 h2 hE hlim
/-- an expression, where anything may stand -/
theorem expr_top {e : E} (he : GoodE e) {wb : Nat} {w : World} {v p : Value} {t : Str} {d : Nat} (hW : WAt wb w v t d) (hI : IsE (· < wb) w e p) (hE : WEnv wb w) (hlim : t.length + (exprT e 0).length ≤ 140737488355328) :
    Calls Tryd.prog 60 #[.pointer (some ⟨wb, 0, none⟩), p, .int .i64 0] w fun e' w' => e' = .returned (.tuple #[]) ∧ Wrote wb w v (t ++ exprT e 0) d w' := by
  have := expr_ok e he wb w v p t d 0 hW hI hE (by omega)
  rw [exprT_zero] at this
  exact this hlim
end Go.Proofs.YtpbfmfhjgghldaaDoor
/- The program's writer: sets, moments. -/
namespace Go.Proofs.YtpbfmfhjgghldaaDoor
open Go.RowKit Go.Lib Go.Sort Px

section
variable {wb : Nat} {w wk : World} {v vk : Value} {t t' : Str} {d d' : Nat}
/-- a local variable is laid -/
theorem WAt.local (h : WAt wb w v t d) (cs : Array Value) (T : Nat) : WSt wb (w.alloc (.cells cs T)) v (w.alloc (.cells cs T)) v t d ∧ (w.alloc (.cells cs T)).heap[w.heap.size]? = some (.cells cs T (0, 0)) ∧ w.heap.size ≠ wb ∧ v.ownBlock ≠ some w.heap.size := by
  have S := (WSt.start h).alloc (.cells cs T)
  exact ⟨WSt.start S.at_, heap_alloc_new w _, by have := S.wlt; omega, fun e => by have := (S.low _ e).2; omega⟩
theorem WSt.leave {o : Obj} (S : WSt wb (w.alloc o) v wk vk t' d') (h : WAt wb w v t d) : Wrote wb w v t' d' wk := by
  obtain ⟨v', S'⟩ := ((WSt.start h).alloc o).step S.out
  exact S'.out
end
theorem take_snoc {α : Type} {l : List α} {k : Nat} {a : α} (h : l[k]? = some a) : l.take (k + 1) = l.take k ++ [a] := by rw [List.take_add_one, h]; rfl
theorem setsT_take_le (l : List Asg) (k : Nat) : (setsT (l.take k)).length ≤ (setsT l).length := by
  conv => rhs; rw [← List.take_append_drop k l]
  generalize l.take k = m
  cases m with
  | nil => simp [setsT]
  | cons a r => simp [setsT]

set_option maxRecDepth 100000 in
set_option maxHeartbeats 2000000 in
theorem sets_some {wb : Nat} {w : World} {v : Value} {t : Str} {d N g cap : Nat} (l : List Asg) (hG : GoodSets l) (hW : WAt wb w v t d) (hE : WEnv wb w) (hN : Hid (N = l.length)) (hm : N ≤ maxLen) (hgw : g < wb)
    (R : Hid (∀ (i : Nat) (a : Asg), l[i]? = some a → ∃ p, w.cell? ⟨g, i * 2, none⟩ = some (sv a.name) ∧ w.cell? ⟨g, i * 2 + 1, none⟩ = some p ∧ IsE (· < wb) w a.e p)) (hlim : t.length + (setsT l).length ≤ 140737488355328) :
    Calls Tryd.prog 73 #[.pointer (some ⟨wb, 0, none⟩), .slice (some ⟨g, 0, none⟩) N cap] w fun e' w' => e' = .returned (.tuple #[]) ∧ Wrote wb w v (t ++ setsT l) d w' := by
  have hN6 : (N : Int) ≤ 9223372036854775807 := by unfold maxLen at hm; omega
  have HL : Hid _ := hlim
  have HG : Hid (GoodSets l) := hG
  have lx := (WSt.start hW).wlt
  clear hlim hG hm
  go_enter Tryd.func73, Tryd.ntmps73
  go_wp2_with fail
  go_loopg [8] N (fun f i wr => ∃ k : Nat, f = N - k ∧ k ≤ N ∧ i = .int .i64 k ∧ Hid (Wrote wb w v (t ++ setsT (l.take k)) d wr))
  case atStart => exact ⟨0, by omega, by omega, rfl, by rw [Hid, List.take_zero, setsT, List.append_nil]; exact Wrote.refl hW⟩
  case round =>
    obtain ⟨k, rfl, hk, rfl, hr⟩ := hrel
    by_cases hlt : k < N
    · obtain ⟨a, ha⟩ : ∃ a, Hid (l[k]? = some a) := ⟨l[k]'(by rw [← hN.out]; exact hlt), by rw [Hid, List.getElem?_eq_getElem]⟩
      obtain ⟨T, hT⟩ : ∃ T, Hid (T = t ++ setsT (l.take k)) := ⟨_, rfl⟩
      obtain ⟨X, hX⟩ : ∃ X, Hid (X = exprT a.e 0) := ⟨_, rfl⟩
      replace hr := hr.out
      rw [← hT.out] at hr
      obtain ⟨v1, hA, hat, hf⟩ := hr
      have S : WSt wb w v wr v1 T d := ⟨hA, (WSt.start hW).low, lx, hat, hf⟩
      obtain ⟨p, x0, x1, hp⟩ := R.out k a ha.out
      have hgk : wr.heap[g]? = w.heap[g]? := (S.keep g hgw (by omega)).2
      rw [← World.cell?_of_block (w := w) (a := ⟨g, k * 2, none⟩) hgk] at x0
      rw [← World.cell?_of_block (w := w) (a := ⟨g, k * 2 + 1, none⟩) hgk] at x1
      rw [sv] at x0
      obtain ⟨u, rfl⟩ : ∃ u, p = .pointer u := by
        cases he : a.e with
        | nil => rw [he] at hp; exact ⟨none, hp⟩
        | node _ _ _ _ _ => rw [he] at hp; obtain ⟨g', _, _, e, _⟩ := hp; exact ⟨_, e⟩
      obtain ⟨S0, hb, nb, nv⟩ := hA.local #[.string ⟨a.name.toArray⟩, .pointer u] 134
      have hp0 : IsE (· < wb) (wr.alloc (.cells #[.string ⟨a.name.toArray⟩, .pointer u] 134)) a.e (.pointer u) := (hp.carry S.keep).carry (fun b hb' hl => ⟨hb', heap_alloc_old _ _ hl⟩)
      have hE0 : WEnv wb (wr.alloc (.cells #[.string ⟨a.name.toArray⟩, .pointer u] 134)) := (S.alloc _).env hE
      have HGa : Hid (GoodE a.e) := HG.out a (List.mem_of_getElem? ha.out)
      have HB : Hid (T.length + (if k = 0 then 0 else 2) + (a.name.length + 4) + X.length ≤ 140737488355328 ∧ t ++ setsT (l.take (k + 1)) = T ++ ((if k = 0 then [] else [44, 32]) ++ (a.name ++ ([32, 58, 61, 32] ++ X)))) := by
        have e1 : t ++ setsT (l.take (k + 1)) = T ++ ((if k = 0 then [] else [44, 32]) ++ (a.name ++ ([32, 58, 61, 32] ++ X))) := by
          rw [take_snoc ha.out, setsT_snoc, hT.out, hX.out, setT]
          have : (l.take k = []) ↔ k = 0 := by
            rw [List.take_eq_nil_iff]
            constructor
            · rintro (h | rfl)
              · exact h
              · have h1 := hN.out; simp at h1; omega
            · exact .inl
          simp only [this, List.append_assoc]
        refine ⟨?_, e1⟩
        have h1 := congrArg List.length e1
        have h2 := setsT_take_le l (k + 1)
        have h3 := HL.out
        simp only [List.length_append] at h1
        have h4 : (if k = 0 then ([] : Str) else [44, 32]).length = if k = 0 then 0 else 2 := by split <;> rfl
        rw [h4] at h1
        simp only [List.length_cons, List.length_nil] at h1
        omega
      have hi0 : (0 : Int) ≤ (k : Int) := Int.natCast_nonneg _
      have hi1 : (k : Int) < (N : Int) := by omega
      have hleave : ∀ wk vk t', WSt wb (wr.alloc (.cells #[.string ⟨a.name.toArray⟩, .pointer u] 134)) v1 wk vk t' d → Wrote wb w v t' d wk := fun wk vk t' h => Wrote.trans hat hf (h.leave hA)
      clear hf hat hp
      have T1 : Hid True := trivial
      by_cases hk0 : k = 0
      · subst hk0
        simp only [↓reduceIte, List.nil_append] at HB
        have H1 : Hid _ := HB.out.1
        go_upto_region 3 with fail
        generalize wr.alloc (.cells #[.string ⟨a.name.toArray⟩, .pointer u] 134) = W at S0 hb hp0 hE0 hleave ⊢
        obtain ⟨y0, -⟩ := cel hb 0 _ rfl
        go_wp2_with (first
          | (go_at_call 11; refine (say2 S0.at_ a.name [32, 58, 61, 32] (by have := H1.out; simp; omega)).mono ?_; rintro _ w2 ⟨rfl, hw2⟩; obtain ⟨v2, S2⟩ := S0.step hw2; obtain ⟨y1, -⟩ := cel (S2.blk hb nb nv) 1 _ rfl)
          | (go_at_call 60; refine (expr_top HGa.out S2.at_ (hp0.carry S2.keep) (S2.env hE0) (by rw [← hX.out]; have := H1.out; simp; omega)).mono ?_; rintro _ w3 ⟨rfl, hw3⟩; rw [← hX.out] at hw3; obtain ⟨v3, S3⟩ := S2.step hw3))
        go_roundg (N - (0 + 1))
        case measure => omega
        case rel => exact ⟨0 + 1, rfl, by omega, by go_num, by rw [Hid, HB.out.2]; have := hleave _ _ _ S3; simpa [List.append_assoc] using this⟩
      · have hk1 : (0 : Int) < (k : Int) := by omega
        have hk2 : 0 < k := by omega
        simp only [hk0, ↓reduceIte] at HB
        have H1 : Hid _ := HB.out.1
        go_upto_region 3 with fail
        generalize wr.alloc (.cells #[.string ⟨a.name.toArray⟩, .pointer u] 134) = W at S0 hb hp0 hE0 hleave ⊢
        go_wp2_with (first
          | (go_at_call 11; clear T1; refine (say1 S0.at_ [44, 32] (by have := H1.out; simp; omega)).mono ?_; rintro _ w1 ⟨rfl, hw1⟩; obtain ⟨v0, S1⟩ := S0.step hw1; obtain ⟨y0, -⟩ := cel (S1.blk hb nb nv) 0 _ rfl)
          | (go_at_call 11; refine (say2 S1.at_ a.name [32, 58, 61, 32] (by have := H1.out; simp; omega)).mono ?_; rintro _ w2 ⟨rfl, hw2⟩; obtain ⟨v2, S2⟩ := S1.step hw2; obtain ⟨y1, -⟩ := cel (S2.blk hb nb nv) 1 _ rfl)
          | (go_at_call 60; refine (expr_top HGa.out S2.at_ (hp0.carry S2.keep) (S2.env hE0) (by rw [← hX.out]; have := H1.out; simp; omega)).mono ?_; rintro _ w3 ⟨rfl, hw3⟩; rw [← hX.out] at hw3; obtain ⟨v3, S3⟩ := S2.step hw3))
        go_roundg (N - (k + 1))
        case measure => omega
        case rel => exact ⟨k + 1, rfl, by omega, by go_num, by rw [Hid, HB.out.2]; have := hleave _ _ _ S3; simpa [List.append_assoc] using this⟩
    · obtain rfl : k = N := by omega
      go_wp2_with fail
      go_end0
      exact ⟨rfl, by have := hr.out; rw [List.take_of_length_le (by rw [← hN.out]; exact Nat.le_refl _)] at this; exact this⟩
/-- the slice of some sets: none, or some -/
theorem IsSets.cut {A : Nat → Prop} {w : World} {l : List Asg} {p : Value} (h : IsSets A w l p) : ∃ ao cap, p = .slice ao l.length cap := by
  rcases h.read with ⟨rfl, ao, cap, rfl⟩ | ⟨g, cap, rfl, _⟩
  · exact ⟨ao, cap, rfl⟩
  · exact ⟨_, cap, rfl⟩
theorem wsets_any {wb : Nat} {w : World} {v p : Value} {t : Str} {d : Nat} {l : List Asg} (hne : l ≠ []) (hG : GoodSets l) (hW : WAt wb w v t d) (hE : WEnv wb w) (hp : IsSets (· < wb) w l p) (hlim : t.length + (setsT l).length ≤ 140737488355328) :
    Calls Tryd.prog 73 #[.pointer (some ⟨wb, 0, none⟩), p] w fun e' w' => e' = .returned (.tuple #[]) ∧ Wrote wb w v (t ++ setsT l) d w' := by
  rcases hp.read with ⟨h, _⟩ | ⟨g, cap, rfl, _, h2, _, h4, h5⟩
  · exact absurd h hne
  · exact sets_some l hG hW hE rfl h2 h4 h5 hlim

set_option maxRecDepth 100000 in
set_option maxHeartbeats 2000000 in
theorem moment_any {wb : Nat} {w : World} {v p : Value} {t : Str} {d : Nat} {l : List Asg} (word : Str) (hG : GoodSets l) (hW : WAt wb w v t d) (hE : WEnv wb w) (hd : d ≤ 1000) (hp : IsSets (· < wb) w l p) (hlim : t.length + (momT d word l).length ≤ 140737488355328) :
    Calls Tryd.prog 59 #[.pointer (some ⟨wb, 0, none⟩), .string ⟨word.toArray⟩, p] w fun e' w' => e' = .returned (.tuple #[]) ∧ Wrote wb w v (t ++ momT d word l) d w' := by
  obtain ⟨ao, cap, rfl⟩ := hp.cut
  have S0 := WSt.start hW
  by_cases hne : l = []
  · have HT : Hid (momT d word l = []) := by rw [Hid, momT, if_pos hne]
    rw [HT.out]
    obtain ⟨N, hN⟩ : ∃ N, N = l.length := ⟨_, rfl⟩
    rw [← hN]
    obtain rfl : N = 0 := by rw [hN, hne]; rfl
    clear hlim hp hN
    go_enter Tryd.func59, Tryd.ntmps59
    go_wp2_with fail
    refine bodyPost_ret (results_none rfl _ _ _) rfl ?_
    exact ⟨rfl, by rw [List.append_nil]; exact Wrote.refl hW⟩
  · have HT : Hid (momT d word l = padT d ++ (word ++ (setsT l ++ [59, 10]))) := by rw [Hid, momT, if_neg hne]; simp [List.append_assoc]
    rw [HT.out] at hlim ⊢
    have HL : Hid (t.length + (padT d).length + word.length + (setsT l).length + 2 ≤ 140737488355328) := by rw [Hid]; simp at hlim; omega
    obtain ⟨N, hN⟩ : ∃ N, Hid (N = l.length) := ⟨_, rfl⟩
    rw [← hN.out] at hp ⊢
    have hN0 : ¬ (N : Int) = 0 := by have := hN.out; have := List.length_pos_iff.2 hne; omega
    have hN1 : ¬ N = 0 := by omega
    have HG : Hid _ := hG
    have HP : Hid _ := hp
    have HN : Hid _ := hne
    have T1 : Hid True := trivial
    clear hlim hG hp hne
    go_enter Tryd.func59, Tryd.ntmps59
    go_wp2_with (first
      | (go_at_call 31; refine (begin_any hW hd (by have := HL.out; omega)).mono ?_; rintro _ w1 ⟨rfl, hw1⟩; obtain ⟨v1, S1⟩ := S0.step hw1)
      | (go_at_call 11; clear T1; refine (say1 S1.at_ word (by have := HL.out; simp; omega)).mono ?_; rintro _ w2 ⟨rfl, hw2⟩; obtain ⟨v2, S2⟩ := S1.step hw2)
      | (go_at_call 73; refine (wsets_any HN.out HG.out S2.at_ (S2.env hE) (IsSets.carry S2.keep HP.out) (by have := HL.out; simp; omega)).mono ?_; rintro _ w3 ⟨rfl, hw3⟩; obtain ⟨v3, S3⟩ := S2.step hw3)
      | (go_at_call 11; refine (say1 S3.at_ [59, 10] (by have := HL.out; simp; omega)).mono ?_; rintro _ w4 ⟨rfl, hw4⟩; obtain ⟨v4, S4⟩ := S3.step hw4))
    go_end0
    exact ⟨rfl, by have := S4.out; simpa [List.append_assoc] using this⟩

set_option maxRecDepth 100000 in
set_option maxHeartbeats 2000000 in
theorem leadBy_any {k : Nat} {w : World} (hk : k ≤ 2) (ht : Tabs w) : Calls Tryd.prog 77 #[.int .i64 k] w fun e w' => e = .returned (.string ⟨(leadT k).toArray⟩) ∧ Below w.heap.size w w' := by
  have h0 : w.cell? ⟨4, 0, none⟩ = some (.string ⟨#[103, 111]⟩) := ht.leads 0 _ rfl
  have h1 : w.cell? ⟨4, 1, none⟩ = some (.string ⟨#[97, 98, 111, 114, 116]⟩) := ht.leads 1 _ rfl
  have h2 : w.cell? ⟨4, 2, none⟩ = some (.string ⟨#[106, 111, 105, 110]⟩) := ht.leads 2 _ rfl
  have hc : k = 0 ∨ k = 1 ∨ k = 2 := by omega
  clear ht
  rcases hc with rfl | rfl | rfl
  all_goals
    go_enter Tryd.func77, Tryd.ntmps77
    go_wp2_with fail
    go_ret
    exact ⟨rfl, Below.refl _ _⟩
set_option maxRecDepth 100000 in
set_option maxHeartbeats 2000000 in
theorem wordOf_any {k : Nat} {w : World} (h1 : 1 ≤ k) (hk : k ≤ 3) (ht : Tabs w) : Calls Tryd.prog 32 #[.int .i64 k] w fun e w' => e = .returned (.string ⟨(kindT k).toArray⟩) ∧ Below w.heap.size w w' := by
  have h1' : w.cell? ⟨1, 1, none⟩ = some (.string ⟨#[105, 110, 112, 117, 116]⟩) := ht.kinds 1 _ rfl
  have h2 : w.cell? ⟨1, 2, none⟩ = some (.string ⟨#[111, 117, 116, 112, 117, 116]⟩) := ht.kinds 2 _ rfl
  have h3 : w.cell? ⟨1, 3, none⟩ = some (.string ⟨#[118, 97, 114]⟩) := ht.kinds 3 _ rfl
  have hc : k = 1 ∨ k = 2 ∨ k = 3 := by omega
  clear ht
  rcases hc with rfl | rfl | rfl
  all_goals
    go_enter Tryd.func32, Tryd.ntmps32
    go_wp2_with fail
    go_ret
    exact ⟨rfl, Below.refl _ _⟩
end Go.Proofs.YtpbfmfhjgghldaaDoor
