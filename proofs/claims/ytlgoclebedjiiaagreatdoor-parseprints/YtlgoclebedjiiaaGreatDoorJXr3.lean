/- The program's Print and Expr, whole. -/
import Derived.Test.YtlgoclebedjiiaaGreatDoorJWrF
import Derived.Test.YtlgoclebedjiiaaGreatDoorJMark2
namespace Go.Proofs.YtlgoclebedjiiaaGreatDoor
open Go.RowKit Go.Lib Go.Sort Px

/-- a chart such as there are -/
def Px.OkChart (c : Chart) : Prop := (∀ v ∈ c.vars, GoodDecl v) ∧ ∀ r ∈ c.regions, ∀ s ∈ r, OkSt 6 s
/-- what of the listed variables printing asks -/
structure PEnv (w : World) : Prop where
  tabs : Tabs w
  pow : Lib.TabIs Tryz.prog w "internal/strconv.uint64pow10" .u64 Lib.pow10Tab
  big : 14 ≤ w.heap.size
theorem PEnv.up {w w' : World} (h : PEnv w) (hb : Below w.heap.size w w') : PEnv w' := by
  have hg := h.big
  exact ⟨h.tabs.keep (fun b hl => hb.block b (by omega)), pow_keep h.pow (hb.block _ (by omega)), Nat.le_trans h.big hb.size⟩
theorem Fr.cut {B : Nat} {X : List Nat} {w w' : World} (h : Fr B X w w') {B' : Nat} (hB : B' ≤ B) (hX : ∀ x ∈ X, B' ≤ x) : Below B' w w' :=
  (h.mono (X' := []) hB (fun x hx hl => by have := hX x hx; omega)).below

set_option maxRecDepth 100000 in
set_option maxHeartbeats 4000000 in
theorem print_any {A : Nat → Prop} {c : Chart} {w : World} {cv : Value} (hG : OkChart c) (h : IsChart A w c cv) (hE : PEnv w) (hlim : (printT c).length ≤ 140737488355328) :
    Calls Tryz.prog 9 #[cv] w fun e w' => e = .returned (.string ⟨(printT c).toArray⟩) ∧ Below w.heap.size w w' := by
  obtain ⟨a, n, m, b, n', m', rfl, hv, hr⟩ := h
  obtain ⟨X, hX⟩ : ∃ X : Str, Hid (X = c.vars.flatMap declT ++ regT (stateT 6) c.regions 1) := ⟨_, rfl⟩
  obtain ⟨PT, hPT⟩ : ∃ PT : Str, Hid (PT = printT c) := ⟨_, rfl⟩
  have HPT : Hid ([] ++ ([99, 104, 97, 114, 116, 32] ++ c.name) ++ ([32, 123, 10] ++ X ++ padT 0 ++ [125, 10]) = PT) := by
    rw [Hid, hPT.out, hX.out, printT, show padT 0 = [] from rfl]; simp [List.append_assoc]
  rw [← hPT.out] at hlim ⊢
  have HL : Hid (6 + c.name.length + (3 + X.length + 2) ≤ 140737488355328) := by
    have h1 := congrArg List.length HPT.out
    simp [padT] at h1
    rw [Hid]; omega
  clear hlim
  rw [sv]
  have e0 : ∃ W, W = (w.alloc (.cells #[.string ⟨c.name.toArray⟩, .slice a n m, .slice b n' m'] 25)).alloc (.cells #[.slice none 0 0, .int .i64 0] 65) ∧ Below w.heap.size w W ∧ W.heap.size = w.heap.size + 2 ∧ W.heap[w.heap.size]? = some (.cells #[.string ⟨c.name.toArray⟩, .slice a n m, .slice b n' m'] 25 (0, 0)) ∧ W.heap[w.heap.size + 1]? = some (.cells #[.slice none 0 0, .int .i64 0] 65 (0, 0)) := by
    refine ⟨_, rfl, ((Below.refl _ w).alloc (Nat.le_refl _) _).alloc (by simp) _, by simp, ?_, ?_⟩
    · rw [heap_alloc_old _ _ (by simp)]; exact heap_alloc_new w _
    · have := heap_alloc_new (w.alloc (.cells #[.string ⟨c.name.toArray⟩, .slice a n m, .slice b n' m'] 25)) (.cells #[.slice none 0 0, .int .i64 0] 65)
      simpa using this
  obtain ⟨W, hWe, hbW, hz, hcb, hwb⟩ := e0
  have hW : WAt (w.heap.size + 1) W (.slice none 0 0) [] 0 := ⟨hwb, World.ownsRow_nil _ _ _ _⟩
  have S0 := WSt.start hW
  have kp : Keep A (· < w.heap.size + 1) w W := fun b' _ hl => ⟨by omega, hbW.block b' hl⟩
  have hE0 : WEnv (w.heap.size + 1) W := ⟨(hE.up hbW).tabs, (hE.up hbW).pow, by have := hE.big; omega⟩
  have hv0 := hv.carry kp
  have hr0 := hr.carry kp (IsStates.carry kp 6)
  have hcw : w.heap.size < w.heap.size + 1 := Nat.lt_succ_self _
  have hin : ∀ w1 v1 w2 v2 t, WSt (w.heap.size + 1) W (.slice none 0 0) w2 v2 t 0 → WSt (w.heap.size + 1) w2 v2 w1 v1 (t ++ [32, 123, 10]) (0 + 1) → (t ++ [32, 123, 10]).length + X.length ≤ 140737488355328 → Calls Tryz.prog 31 #[.pointer (some ⟨w.heap.size, 0, none⟩), .pointer (some ⟨w.heap.size + 1, 0, none⟩)] w1 fun e w3 => e = .returned (.tuple #[]) ∧ Wrote (w.heap.size + 1) w1 v1 (t ++ [32, 123, 10] ++ X) (0 + 1) w3 := by
    intro w1 v1 w2 v2 t S2 S1 hl
    have hk2 := S2.keep
    have hk1 := S1.keep
    have hcb1 : w1.heap[w.heap.size]? = _ := (hk1 _ hcw (by have := S2.oth.size; omega)).2.trans ((hk2 _ hcw (by omega)).2.trans hcb)
    have hv1 := (hv0.carry hk2).carry hk1
    have hr1 := (hr0.carry hk2 (IsStates.carry hk2 6)).carry hk1 (IsStates.carry hk1 6)
    have hE1 := S1.env (S2.env hE0)
    rw [hX.out] at hl ⊢
    rcases hv1.look with ⟨hnil, ao, cap, e⟩ | ⟨g, cap, e, g2, g3, g4, g5⟩
    · rw [e] at hcb1
      rw [hnil, List.flatMap_nil, List.nil_append] at hl ⊢
      exact print1_nil c.regions hG.2 S1.at_ hE1 hcb1 hr1 hl
    · rw [e] at hcb1
      exact print1_some c.vars c.regions hG.1 hG.2 S1.at_ hE1 hcw hcb1 rfl g2 g4 g5 hr1 hl
  have HI : Hid _ := hin
  have HZ : Hid (W.heap.size = w.heap.size + 2) := hz
  clear hin hv hr hv0 hr0 kp hG hE hz
  obtain ⟨c0, -⟩ := cel hcb 0 _ rfl
  go_enter Tryz.func9, Tryz.ntmps9
  go_upto_region 2 with fail
  rw [show (w.alloc (.cells #[.string ⟨c.name.toArray⟩, .slice a n m, .slice b n' m'] 25)).alloc (.cells #[.slice none 0 0, .int .i64 0] 65) = W from hWe.symm]
  clear hWe
  go_wp2_with (first
    | (go_at_call 29; refine (say2 hW [99, 104, 97, 114, 116, 32] c.name (by have := HL.out; simp; omega)).mono ?_; rintro _ w2 ⟨rfl, hw2⟩; obtain ⟨v2, S2⟩ := S0.step hw2)
    | (go_at_call 30; refine (braced_print (X := X) (by omega) S2.at_ (by have := HL.out; simp [padT]; omega) (fun w3 v3 S3 => HI.out w3 v3 _ _ _ S2 S3 (by have := HL.out; simp; omega))).mono ?_; rintro _ w4 ⟨rfl, hw4⟩; rw [HPT.out] at hw4; obtain ⟨v4, S4⟩ := S2.step hw4; have hconv := conv_text S4.at_; have hat4 := S4.at_.1; obtain ⟨ao, cap, rfl⟩ := S4.at_.shape; obtain ⟨y4, -⟩ := cel hat4 0 _ rfl))
  go_ret
  have hz := HZ.out
  refine ⟨rfl, hbW.trans (Fr.cut S4.oth (by omega) (fun x hx => ?_))⟩
  simp [Value.ownBlock] at hx
  omega

set_option maxRecDepth 100000 in
set_option maxHeartbeats 4000000 in
theorem pexpr_any {A : Nat → Prop} {e : E} {w : World} {p : Value} (hG : GoodE e) (h : IsE A w e p) (hE : PEnv w) (hlim : (exprT e 0).length ≤ 140737488355328) :
    Calls Tryz.prog 11 #[p] w fun e' w' => e' = .returned (.string ⟨(exprT e 0).toArray⟩) ∧ Below w.heap.size w w' := by
  obtain ⟨PT, hPT⟩ : ∃ PT : Str, Hid (PT = exprT e 0) := ⟨_, rfl⟩
  have hbW := (Below.refl w.heap.size w).alloc (Nat.le_refl _) (.cells #[.slice none 0 0, .int .i64 0] 65)
  have hW : WAt w.heap.size (w.alloc (.cells #[.slice none 0 0, .int .i64 0] 65)) (.slice none 0 0) [] 0 := ⟨heap_alloc_new w _, World.ownsRow_nil _ _ _ _⟩
  have S0 := WSt.start hW
  have kp : Keep A (· < w.heap.size) w (w.alloc (.cells #[.slice none 0 0, .int .i64 0] 65)) := fun b' _ hl => ⟨hl, hbW.block b' hl⟩
  have hc : Hid _ := expr_top hG hW (h.carry kp) ⟨(hE.up hbW).tabs, (hE.up hbW).pow, hE.big⟩ (by simpa using hlim)
  rw [← hPT.out] at hc ⊢
  have hzz : (w.alloc (.cells #[.slice none 0 0, .int .i64 0] 65)).heap.size = w.heap.size + 1 := by simp
  clear hG h hE hlim kp
  go_enter Tryz.func11, Tryz.ntmps11
  go_upto_region 2 with fail
  generalize w.alloc (.cells #[.slice none 0 0, .int .i64 0] 65) = W at hbW hW S0 hc hzz ⊢
  go_wp2_with (go_at_call 36; refine (Calls.mono hc.out ?_); rintro _ w4 ⟨rfl, hw4⟩; rw [List.nil_append] at hw4; obtain ⟨v4, S4⟩ := S0.step hw4; have hconv := conv_text S4.at_; have hat4 := S4.at_.1; obtain ⟨ao, cap, rfl⟩ := S4.at_.shape; obtain ⟨y4, -⟩ := cel hat4 0 _ rfl)
  go_ret
  refine ⟨rfl, hbW.trans (Fr.cut S4.oth (by omega) (fun x hx => ?_))⟩
  simp [Value.ownBlock] at hx
  omega
end Go.Proofs.YtlgoclebedjiiaaGreatDoor
/- The document's own Print: expressions. -/
namespace Go.Proofs.YtlgoclebedjiiaaGreatDoor
open Go.RowKit Go.Lib Go.Sort Px

set_option maxRecDepth 100000 in
set_option maxHeartbeats 2000000 in
theorem xline_any (c : Nat) (h1 : 1 ≤ c) (h16 : c ≤ 16) (w : World) : Calls Tryz.prog 37 #[.int .i64 c] w fun e w' => e = .returned (.int .i64 (line c : Nat)) ∧ w' = w := by
  have hc : c = 1 ∨ c = 2 ∨ c = 3 ∨ c = 4 ∨ c = 5 ∨ c = 6 ∨ c = 7 ∨ c = 8 ∨ c = 9 ∨ c = 10 ∨ c = 11 ∨ c = 12 ∨ c = 13 ∨ c = 14 ∨ c = 15 ∨ c = 16 := by omega
  rcases hc with rfl | rfl | rfl | rfl | rfl | rfl | rfl | rfl | rfl | rfl | rfl | rfl | rfl | rfl | rfl | rfl
  all_goals
    go_enter Tryz.func37, Tryz.ntmps37
    go_wp2_with fail
    go_ret
    exact ⟨rfl, rfl⟩
set_option maxRecDepth 100000 in
set_option maxHeartbeats 2000000 in
theorem xsign_any (c : Nat) (h6 : 6 ≤ c) (h16 : c ≤ 16) (w : World) : Calls Tryz.prog 38 #[.int .i64 c] w fun e w' => e = .returned (.string ⟨(signT c).toArray⟩) ∧ w' = w := by
  have hc : c = 6 ∨ c = 7 ∨ c = 8 ∨ c = 9 ∨ c = 10 ∨ c = 11 ∨ c = 12 ∨ c = 13 ∨ c = 14 ∨ c = 15 ∨ c = 16 := by omega
  rcases hc with rfl | rfl | rfl | rfl | rfl | rfl | rfl | rfl | rfl | rfl | rfl
  all_goals
    go_enter Tryz.func38, Tryz.ntmps38
    go_wp2_with fail
    go_ret
    exact ⟨rfl, rfl⟩
/-- an expression's text, as the document tells -/
def ExprX (e : E) : Prop := ∀ (A : Nat → Prop) (w : World) (p : Value) (least : Nat), IsE A w e p → least ≤ 6 → PEnv w → (exprT e least).length ≤ 140737488355328 →
  Calls Tryz.prog 12 #[p, .int .i64 least] w fun e' w' => e' = .returned (.string ⟨(exprT e least).toArray⟩) ∧ Below w.heap.size w w'
set_option maxRecDepth 100000 in
set_option maxHeartbeats 2000000 in
theorem xexpr_nil : ExprX .nil := by
  intro A w p least h _ _ _
  obtain rfl : p = .pointer none := h
  go_enter Tryz.func12, Tryz.ntmps12
  go_wp2_with fail
  go_ret
  exact ⟨rfl, Below.refl _ _⟩
section
variable {w : World} {g least b o : Nat} {a : Nd} {lv rv : Value} {l r : E}
set_option maxRecDepth 100000 in
set_option maxHeartbeats 2000000 in
theorem xexpr_num (hc : a.code = 1) (hn : -9223372036854775808 ≤ a.num ∧ a.num ≤ 9223372036854775807) (hb : w.heap[g]? = some (.cells #[.int .i64 a.code, .int .i64 a.num, sv a.name, lv, rv] 78 (0, 0))) (hl : least ≤ 6) (hE : PEnv w) :
    Calls Tryz.prog 12 #[.pointer (some ⟨g, 0, none⟩), .int .i64 least] w fun e' w' => e' = .returned (.string ⟨(exprT (.node b o a l r) least).toArray⟩) ∧ Below w.heap.size w w' := by
  have HT : Hid (exprT (.node b o a l r) least = itoa a.num) := by rw [Hid, exprT, if_pos hc]
  rw [HT.out]
  rw [hc] at hb
  obtain ⟨c0, -⟩ := cel hb 0 _ rfl
  obtain ⟨c1, -⟩ := cel hb 1 _ rfl
  have hl' : ¬ (6 : Int) < (least : Int) := by omega
  have hL : ∀ W, Calls Tryz.prog 37 #[.int .i64 1] W fun e w' => e = .returned (.int .i64 6) ∧ w' = W := fun W => xline_any 1 (by omega) (by omega) W
  clear hc
  go_enter Tryz.func12, Tryz.ntmps12
  go_wp2_with (first
    | (go_at_call 37; refine (hL _).mono ?_; rintro _ w1 ⟨rfl, hw⟩; obtain rfl := hw.symm)
    | (go_at_call 34; refine (formatInt a.num hn hE.pow).mono ?_; rintro _ w1 ⟨rfl, hb1⟩))
  go_ret
  exact ⟨rfl, hb1⟩
set_option maxRecDepth 100000 in
set_option maxHeartbeats 2000000 in
theorem xexpr_var (hc : a.code = 2) (hb : w.heap[g]? = some (.cells #[.int .i64 a.code, .int .i64 a.num, sv a.name, lv, rv] 78 (0, 0))) (hl : least ≤ 6) :
    Calls Tryz.prog 12 #[.pointer (some ⟨g, 0, none⟩), .int .i64 least] w fun e' w' => e' = .returned (.string ⟨(exprT (.node b o a l r) least).toArray⟩) ∧ Below w.heap.size w w' := by
  have HT : Hid (exprT (.node b o a l r) least = a.name) := by rw [Hid, exprT, if_neg (by omega), if_pos hc]
  rw [HT.out]
  rw [hc] at hb
  obtain ⟨c0, -⟩ := cel hb 0 _ rfl
  obtain ⟨c2, -⟩ := cel hb 2 _ rfl
  rw [sv] at c2
  have hl' : ¬ (6 : Int) < (least : Int) := by omega
  have hL : ∀ W, Calls Tryz.prog 37 #[.int .i64 2] W fun e w' => e = .returned (.int .i64 6) ∧ w' = W := fun W => xline_any 2 (by omega) (by omega) W
  clear hc
  go_enter Tryz.func12, Tryz.ntmps12
  go_wp2_with (go_at_call 37; refine (hL _).mono ?_; rintro _ w1 ⟨rfl, hw⟩; obtain rfl := hw.symm)
  go_ret
  exact ⟨rfl, Below.refl _ _⟩
set_option maxRecDepth 100000 in
set_option maxHeartbeats 2000000 in
theorem xexpr_pre (hc : a.code = 3) (hb : w.heap[g]? = some (.cells #[.int .i64 a.code, .int .i64 a.num, sv a.name, lv, rv] 78 (0, 0))) (hl : least ≤ 6) (hlim : (exprT (.node b o a l r) least).length ≤ 140737488355328) :
    Calls Tryz.prog 12 #[.pointer (some ⟨g, 0, none⟩), .int .i64 least] w fun e' w' => e' = .returned (.string ⟨(exprT (.node b o a l r) least).toArray⟩) ∧ Below w.heap.size w w' := by
  have HT : Hid (exprT (.node b o a l r) least = [112, 114, 101, 40] ++ a.name ++ [41]) := by rw [Hid, exprT, if_neg (by omega), if_neg (by omega), if_pos hc]
  rw [HT.out] at hlim ⊢
  rw [hc] at hb
  have hlen : a.name.length ≤ 140737488355328 := by simp at hlim; omega
  obtain ⟨c0, -⟩ := cel hb 0 _ rfl
  obtain ⟨c2, -⟩ := cel hb 2 _ rfl
  rw [sv] at c2
  have hl' : ¬ (6 : Int) < (least : Int) := by omega
  have hL : ∀ W, Calls Tryz.prog 37 #[.int .i64 3] W fun e w' => e = .returned (.int .i64 6) ∧ w' = W := fun W => xline_any 3 (by omega) (by omega) W
  clear hc hlim
  go_enter Tryz.func12, Tryz.ntmps12
  go_wp2_with (go_at_call 37; refine (hL _).mono ?_; rintro _ w1 ⟨rfl, hw⟩; obtain rfl := hw.symm)
  go_ret
  exact ⟨by simp [ByteArray.mk_append_mk], Below.refl _ _⟩
set_option maxRecDepth 100000 in
set_option maxHeartbeats 2000000 in
theorem xexpr_neg (hX : ExprX l) {A : Nat → Prop} (hc : a.code = 4) (hb : w.heap[g]? = some (.cells #[.int .i64 a.code, .int .i64 a.num, sv a.name, lv, rv] 78 (0, 0))) (h1 : IsE A w l lv) (hl : least ≤ 6) (hE : PEnv w) (hlim : (exprT (.node b o a l r) least).length ≤ 140737488355328) :
    Calls Tryz.prog 12 #[.pointer (some ⟨g, 0, none⟩), .int .i64 least] w fun e' w' => e' = .returned (.string ⟨(exprT (.node b o a l r) least).toArray⟩) ∧ Below w.heap.size w w' := by
  obtain ⟨X, hXX⟩ : ∃ X : Str, Hid (X = exprT l 6) := ⟨_, rfl⟩
  have HT : Hid (exprT (.node b o a l r) least = [45] ++ X) := by rw [Hid, exprT, if_neg (by omega), if_neg (by omega), if_neg (by omega), if_pos (.inl hc), hXX.out, hc]; rfl
  rw [HT.out] at hlim ⊢
  rw [hc] at hb
  have hlen : X.length ≤ 140737488355328 := by simp at hlim; omega
  obtain ⟨c0, -⟩ := cel hb 0 _ rfl
  obtain ⟨c3, -⟩ := cel hb 3 _ rfl
  have hl' : ¬ (6 : Int) < (least : Int) := by omega
  have hL : ∀ W, Calls Tryz.prog 37 #[.int .i64 4] W fun e w' => e = .returned (.int .i64 6) ∧ w' = W := fun W => xline_any 4 (by omega) (by omega) W
  have hc6 := hX A w lv 6 h1 (by omega) hE (by rw [← hXX.out]; exact hlen)
  rw [← hXX.out] at hc6
  clear hc hlim h1 hX
  go_enter Tryz.func12, Tryz.ntmps12
  go_wp2_with (first
    | (go_at_call 37; refine (hL _).mono ?_; rintro _ w1 ⟨rfl, hw⟩; obtain rfl := hw.symm)
    | (go_at_call 12; refine hc6.mono ?_; rintro _ w1 ⟨rfl, hb1⟩))
  go_ret
  exact ⟨by simp [ByteArray.mk_append_mk], hb1⟩
set_option maxRecDepth 100000 in
set_option maxHeartbeats 2000000 in
theorem xexpr_not (hX : ExprX l) {A : Nat → Prop} (hc : a.code = 5) (hb : w.heap[g]? = some (.cells #[.int .i64 a.code, .int .i64 a.num, sv a.name, lv, rv] 78 (0, 0))) (h1 : IsE A w l lv) (hl : least ≤ 6) (hE : PEnv w) (hlim : (exprT (.node b o a l r) least).length ≤ 140737488355328) :
    Calls Tryz.prog 12 #[.pointer (some ⟨g, 0, none⟩), .int .i64 least] w fun e' w' => e' = .returned (.string ⟨(exprT (.node b o a l r) least).toArray⟩) ∧ Below w.heap.size w w' := by
  obtain ⟨X, hXX⟩ : ∃ X : Str, Hid (X = exprT l 6) := ⟨_, rfl⟩
  have HT : Hid (exprT (.node b o a l r) least = [33] ++ X) := by rw [Hid, exprT, if_neg (by omega), if_neg (by omega), if_neg (by omega), if_pos (.inr hc), hXX.out, hc]; rfl
  rw [HT.out] at hlim ⊢
  rw [hc] at hb
  have hlen : X.length ≤ 140737488355328 := by simp at hlim; omega
  obtain ⟨c0, -⟩ := cel hb 0 _ rfl
  obtain ⟨c3, -⟩ := cel hb 3 _ rfl
  have hl' : ¬ (6 : Int) < (least : Int) := by omega
  have hL : ∀ W, Calls Tryz.prog 37 #[.int .i64 5] W fun e w' => e = .returned (.int .i64 6) ∧ w' = W := fun W => xline_any 5 (by omega) (by omega) W
  have hc6 := hX A w lv 6 h1 (by omega) hE (by rw [← hXX.out]; exact hlen)
  rw [← hXX.out] at hc6
  clear hc hlim h1 hX
  go_enter Tryz.func12, Tryz.ntmps12
  go_wp2_with (first
    | (go_at_call 37; refine (hL _).mono ?_; rintro _ w1 ⟨rfl, hw⟩; obtain rfl := hw.symm)
    | (go_at_call 12; refine hc6.mono ?_; rintro _ w1 ⟨rfl, hb1⟩))
  go_ret
  exact ⟨by simp [ByteArray.mk_append_mk], hb1⟩
end
end Go.Proofs.YtlgoclebedjiiaaGreatDoor
/- The document's own Print: expressions of two. -/
namespace Go.Proofs.YtlgoclebedjiiaaGreatDoor
open Go.RowKit Go.Lib Go.Sort Px
section
variable {w : World} {g least b o : Nat} {a : Nd} {lv rv : Value} {l r : E}
set_option maxRecDepth 100000 in
set_option maxHeartbeats 2000000 in
theorem xexpr_two (hX : ExprX l) (hY : ExprX r) {A : Nat → Prop} (h6 : 6 ≤ a.code) (h16 : a.code ≤ 16) (hb : w.heap[g]? = some (.cells #[.int .i64 a.code, .int .i64 a.num, sv a.name, lv, rv] 78 (0, 0))) (h1 : IsE A w l lv) (h2 : IsE A w r rv) (hE : PEnv w) (hlim : (exprT (.node b o a l r) least).length ≤ 140737488355328) :
    Calls Tryz.prog 12 #[.pointer (some ⟨g, 0, none⟩), .int .i64 least] w fun e' w' => e' = .returned (.string ⟨(exprT (.node b o a l r) least).toArray⟩) ∧ Below w.heap.size w w' := by
  obtain ⟨c, hc⟩ : ∃ c, Hid (c = a.code) := ⟨_, rfl⟩
  obtain ⟨n, hn⟩ : ∃ n, Hid (n = line c) := ⟨_, rfl⟩
  obtain ⟨m, hm⟩ : ∃ m, Hid (m = n + 1) := ⟨_, rfl⟩
  obtain ⟨s, hs⟩ : ∃ s : Str, Hid (s = signT c) := ⟨_, rfl⟩
  obtain ⟨X, hXX⟩ : ∃ X : Str, Hid (X = exprT l n) := ⟨_, rfl⟩
  obtain ⟨Y, hYY⟩ : ∃ Y : Str, Hid (Y = exprT r m) := ⟨_, rfl⟩
  have HT : Hid (exprT (.node b o a l r) least = brack (decide (n < least)) (X ++ [32] ++ s ++ [32] ++ Y)) := by
    rw [Hid, exprT, if_neg (by omega), if_neg (by omega), if_neg (by omega), if_neg (by omega), hXX.out, hYY.out, hm.out, hn.out, hs.out, hc.out]
  rw [HT.out] at hlim ⊢
  rw [← hc.out] at hb h6 h16
  have hn5 : n ≤ 5 := by rw [hn.out]; exact line_two h6 h16
  have hlen : X.length + s.length + Y.length + 2 ≤ 140737488355328 := by
    unfold brack at hlim
    split at hlim <;> simp at hlim <;> omega
  have hx1 : X.length ≤ 140737488355328 := by omega
  have hx2 : Y.length ≤ 140737488355328 := by omega
  have hx3 : s.length ≤ 140737488355328 := by omega
  have hwr : IntKind.i64.wrap ((n : Int) + 1) = (m : Int) := by rw [hm.out]; exact wrap_small (by omega)
  have hL : ∀ W, Calls Tryz.prog 37 #[.int .i64 c] W fun e w' => e = .returned (.int .i64 n) ∧ w' = W := fun W => by rw [hn.out]; exact xline_any c (by omega) h16 W
  have hSg : ∀ W, Calls Tryz.prog 38 #[.int .i64 c] W fun e w' => e = .returned (.string ⟨s.toArray⟩) ∧ w' = W := fun W => by rw [hs.out]; exact xsign_any c h6 h16 W
  have hC1 : ∀ W, Below w.heap.size w W → Calls Tryz.prog 12 #[lv, .int .i64 n] W fun e' w' => e' = .returned (.string ⟨X.toArray⟩) ∧ Below W.heap.size W w' := fun W hbW => by
    rw [hXX.out]; exact hX A W lv n (h1.carry (keep_below hbW)) (by omega) (hE.up hbW) (by rw [← hXX.out]; exact hx1)
  have hC2 : ∀ W, Below w.heap.size w W → Calls Tryz.prog 12 #[rv, .int .i64 m] W fun e' w' => e' = .returned (.string ⟨Y.toArray⟩) ∧ Below W.heap.size W w' := fun W hbW => by
    rw [hYY.out]; exact hY A W rv m (h2.carry (keep_below hbW)) (by rw [hm.out]; omega) (hE.up hbW) (by rw [← hYY.out]; exact hx2)
  have n1 : ¬ (c : Int) = 1 := by omega
  have n2 : ¬ (c : Int) = 2 := by omega
  have n3 : ¬ (c : Int) = 3 := by omega
  have n4 : ¬ (c : Int) = 4 := by omega
  have n5 : ¬ (c : Int) = 5 := by omega
  obtain ⟨c0, -⟩ := cel hb 0 (.int .i64 c) rfl
  have q0 := fun x os => cell_regrown c0 x os
  have q3 := fun x os => cell_regrown (cel hb 3 lv rfl).1 x os
  have q4 := fun x os => cell_regrown (cel hb 4 rv rfl).1 x os
  have hq1 := fun x os => Calls.regrown_of (hC1 (grow (redrawn w x) os) (below_regrown _ x os))
  have hq2 := fun x os => Calls.regrown_of (hC2 (grow (redrawn w x) os) (below_regrown _ x os))
  have hqs := fun x os => Calls.regrown_of ((hSg (grow (redrawn w x) os)).mono fun _ _ ⟨he, hw⟩ => ⟨he, by rw [hw]; exact Below.refl _ _⟩)
  have k1 : ¬ 9223372036854775807 < X.length + 1 := by omega
  have k2 : ¬ 9223372036854775807 < X.length + 1 + s.length := by omega
  have k3 : ¬ 9223372036854775807 < X.length + 1 + s.length + 1 := by omega
  have k4 : ¬ 9223372036854775807 < X.length + 1 + s.length + 1 + Y.length := by omega
  clear hX hY h1 h2 hE h6 h16 hs hlim hb hC1 hC2 hSg
  go_enter Tryz.func12, Tryz.ntmps12
  go_wp2_with (first
    | (go_at_call 37; refine (hL _).mono ?_; rintro _ w1 ⟨rfl, hw⟩; obtain rfl := hw.symm))
  refine wp_region_quiet_below (by kernel_rfl) (by kernel_rfl) ?_
  repeat (quiet_step (first | (go_at_call_of 12 lv; exact hq1 _ _) | (go_at_call 38; exact hqs _ _) | (go_at_call_of 12 rv; exact hq2 _ _)))
  refine wpQuiet_nil ?_
  intro _ hw'
  obtain ⟨⟨dq, osq⟩, hw''⟩ := hw'
  subst hw''
  by_cases hlt : n < least
  · have hlt' : (n : Int) < (least : Int) := by omega
    go_wp2_with fail
    go_ret
    exact ⟨by simp [brack, hlt, ByteArray.mk_append_mk], below_regrown _ dq osq⟩
  · have hlt' : ¬ (n : Int) < (least : Int) := by omega
    go_wp2_with fail
    go_ret
    exact ⟨by simp [brack, ByteArray.mk_append_mk], below_regrown _ dq osq⟩
end
theorem xexpr_ok : ∀ (e : E), GoodE e → ExprX e := by
  intro e
  induction e with
  | nil => intro _; exact xexpr_nil
  | node b o a l r ihl ihr =>
    intro ⟨g1, g2, g3, g4, g5⟩ A w p least hI hl hE hlim
    obtain ⟨g, lv, rv, rfl, ha, hb, h1, h2⟩ := hI
    have hc : a.code = 1 ∨ a.code = 2 ∨ a.code = 3 ∨ a.code = 4 ∨ a.code = 5 ∨ 6 ≤ a.code := by omega
    rcases hc with hc | hc | hc | hc | hc | hc
    · exact xexpr_num hc g3 hb hl hE
    · exact xexpr_var hc hb hl
    · exact xexpr_pre hc hb hl hlim
    · exact xexpr_neg (ihl g4) hc hb h1 hl hE hlim
    · exact xexpr_not (ihl g4) hc hb h1 hl hE hlim
    · exact xexpr_two (ihl g4) (ihr g5) hc g2 hb h1 h2 hE hlim
end Go.Proofs.YtlgoclebedjiiaaGreatDoor
/- The document's own Print: pads, sets. -/
namespace Go.Proofs.YtlgoclebedjiiaaGreatDoor
open Go.RowKit Go.Lib Go.Sort Px

theorem below_up {w w' w'' : World} (h : Below w.heap.size w w') (h' : Below w'.heap.size w' w'') : Below w.heap.size w w'' := h.trans (h'.mono h.size)
theorem repeat_pad (n : Nat) : Lib.repeatL [32, 32] n = padT n := by
  induction n with
  | zero => rfl
  | succ n ih => rw [padT_succ, Lib.repeatL_add, Lib.repeatL_one, ih]
set_option maxRecDepth 100000 in
set_option maxHeartbeats 2000000 in
theorem xpad_any (n : Nat) (hn : n ≤ 1000) (w : World) : Calls Tryz.prog 64 #[.int .i64 n] w fun e w' => e = .returned (.string ⟨(padT n).toArray⟩) ∧ Below w.heap.size w w' := by
  have hC := Tryz.strings_Repeat ⟨#[32, 32]⟩ n w (by omega) (by rw [show (ByteArray.mk #[32, 32]).size = 2 from rfl]; omega)
  rw [show (ByteArray.mk #[32, 32]).data.toList = [32, 32] from rfl, repeat_pad] at hC
  go_enter Tryz.func64, Tryz.ntmps64
  go_wp2_with (go_at_call 103; refine hC.mono ?_; rintro _ w1 ⟨rfl, hb1⟩)
  go_ret
  exact ⟨rfl, hb1⟩

set_option maxRecDepth 100000 in
set_option maxHeartbeats 2000000 in
theorem xsets_some {A : Nat → Prop} {w : World} {N g cap : Nat} (l : List Asg) (hG : GoodSets l) (hE : PEnv w) (hN : Hid (N = l.length)) (hm : N ≤ maxLen)
    (R : Hid (∀ (i : Nat) (a : Asg), l[i]? = some a → ∃ p, w.cell? ⟨g, i * 2, none⟩ = some (sv a.name) ∧ w.cell? ⟨g, i * 2 + 1, none⟩ = some p ∧ IsE A w a.e p)) (hlim : (setsT l).length ≤ 140737488355328) :
    Calls Tryz.prog 104 #[.slice (some ⟨g, 0, none⟩) N cap] w fun e' w' => e' = .returned (.string ⟨(setsT l).toArray⟩) ∧ Below w.heap.size w w' := by
  have hN6 : (N : Int) ≤ 9223372036854775807 := by unfold maxLen at hm; omega
  have HL : Hid _ := hlim
  have HG : Hid (GoodSets l) := hG
  clear hlim hG hm
  go_enter Tryz.func104, Tryz.ntmps104
  go_wp2_with fail
  go_loopg [3, 8] N (fun f s0 i wr => ∃ k : Nat, f = N - k ∧ k ≤ N ∧ s0 = .string ⟨(setsT (l.take k)).toArray⟩ ∧ i = .int .i64 k ∧ Hid (Below w.heap.size w wr))
  case atStart => exact ⟨0, by omega, by omega, rfl, rfl, Below.refl _ _⟩
  case round =>
    obtain ⟨k, rfl, hk, rfl, rfl, hr⟩ := hrel
    obtain ⟨T, hT⟩ : ∃ T, Hid (T = setsT (l.take k)) := ⟨_, rfl⟩
    rw [← hT.out]
    by_cases hlt : k < N
    · obtain ⟨a, ha⟩ : ∃ a, Hid (l[k]? = some a) := ⟨l[k]'(by rw [← hN.out]; exact hlt), by rw [Hid, List.getElem?_eq_getElem]⟩
      obtain ⟨X, hX⟩ : ∃ X, Hid (X = exprT a.e 0) := ⟨_, rfl⟩
      obtain ⟨p, x0, x1, hp⟩ := R.out k a ha.out
      rw [← hr.out.cell (block_lt_of_cell x0)] at x0
      rw [← hr.out.cell (block_lt_of_cell x1)] at x1
      rw [sv] at x0
      obtain ⟨u, rfl⟩ : ∃ u, p = .pointer u := by
        cases he : a.e with
        | nil => rw [he] at hp; exact ⟨none, hp⟩
        | node _ _ _ _ _ => rw [he] at hp; obtain ⟨g', _, _, e, _⟩ := hp; exact ⟨_, e⟩
      have hb := heap_alloc_new wr (.cells #[.string ⟨a.name.toArray⟩, .pointer u] 210)
      have hB0 : Hid (Below w.heap.size w (wr.alloc (.cells #[.string ⟨a.name.toArray⟩, .pointer u] 210))) := hr.out.alloc hr.out.size _
      have HGa : Hid (GoodE a.e) := HG.out a (List.mem_of_getElem? ha.out)
      have HB : Hid (T.length + (if k = 0 then 0 else 2) + (a.name.length + 4) + X.length ≤ 140737488355328 ∧ setsT (l.take (k + 1)) = T ++ ((if k = 0 then [] else [44, 32]) ++ (a.name ++ ([32, 58, 61, 32] ++ X)))) := by
        have e1 : setsT (l.take (k + 1)) = T ++ ((if k = 0 then [] else [44, 32]) ++ (a.name ++ ([32, 58, 61, 32] ++ X))) := by
          rw [take_snoc ha.out, setsT_snoc, hT.out, hX.out, setT]
          have : (l.take k = []) ↔ k = 0 := by
            rw [List.take_eq_nil_iff]
            constructor
            · rintro (h | rfl)
              · exact h
              · have h1 := hN.out; simp at h1; omega
            · exact .inl
          simp only [this, List.append_assoc]
        refine ⟨?_, e1⟩
        have h1 := congrArg List.length e1
        have h2 := setsT_take_le l (k + 1)
        have h3 := HL.out
        simp only [List.length_append] at h1
        have h4 : (if k = 0 then ([] : Str) else [44, 32]).length = if k = 0 then 0 else 2 := by split <;> rfl
        rw [h4] at h1
        simp only [List.length_cons, List.length_nil] at h1
        omega
      have hi0 : (0 : Int) ≤ (k : Int) := Int.natCast_nonneg _
      have hi1 : (k : Int) < (N : Int) := by omega
      have hx : Hid ((exprT a.e 0).length ≤ 140737488355328) := by rw [Hid, ← hX.out]; have := HB.out.1; omega
      have hC : Hid (∀ W, Below w.heap.size w W → Calls Tryz.prog 12 #[.pointer u, .int .i64 0] W fun e' w' => e' = .returned (.string ⟨X.toArray⟩) ∧ Below W.heap.size W w') := fun W hbW => by
        rw [hX.out]; exact xexpr_ok a.e HGa.out A W (.pointer u) 0 (hp.carry (keep_below hbW)) (by omega) (hE.up hbW) hx.out
      clear hp hE hx
      by_cases hk0 : k = 0
      · subst hk0
        simp only [↓reduceIte, List.nil_append] at HB
        have k1 : ¬ 9223372036854775807 < a.name.length + 4 := by have := HB.out.1; omega
        have k2 : ¬ 9223372036854775807 < a.name.length + 4 + X.length := by have := HB.out.1; omega
        have k3 : ¬ 9223372036854775807 < T.length + (a.name.length + 4 + X.length) := by have := HB.out.1; omega
        go_upto_region 7 with fail
        generalize wr.alloc (.cells #[.string ⟨a.name.toArray⟩, .pointer u] 210) = W at hb hB0 ⊢
        have q0 := fun x os => cell_regrown (cel hb 0 _ rfl).1 x os
        have q1 := fun x os => cell_regrown (cel hb 1 _ rfl).1 x os
        have hq := fun x os => Calls.regrown_of (hC.out (grow (redrawn W x) os) (below_up hB0.out (below_regrown _ x os)))
        refine wp_region_quiet_below (by kernel_rfl) (by kernel_rfl) ?_
        repeat (quiet_step ((go_at_call 12; exact hq _ _)))
        refine wpQuiet_nil ?_
        intro _ hw'
        obtain ⟨⟨dq, osq⟩, hw''⟩ := hw'
        subst hw''
        have hB1 : Hid (Below w.heap.size w (grow (redrawn W dq) osq)) := below_up hB0.out (below_regrown _ dq osq)
        generalize grow (redrawn W dq) osq = W1 at hB1 ⊢
        go_wp2_with fail
        go_roundg (N - (0 + 1))
        case measure => omega
        case rel => exact ⟨0 + 1, rfl, by omega, by rw [HB.out.2]; simp [ByteArray.mk_append_mk], by go_num, hB1⟩
      · have hk1 : (0 : Int) < (k : Int) := by omega
        have hk2 : 0 < k := by omega
        simp only [hk0, ↓reduceIte] at HB
        have k0 : ¬ 9223372036854775807 < T.length + 2 := by have := HB.out.1; omega
        have k1 : ¬ 9223372036854775807 < a.name.length + 4 := by have := HB.out.1; omega
        have k2 : ¬ 9223372036854775807 < a.name.length + 4 + X.length := by have := HB.out.1; omega
        have k3 : ¬ 9223372036854775807 < T.length + 2 + (a.name.length + 4 + X.length) := by have := HB.out.1; omega
        go_upto_region 7 with fail
        generalize wr.alloc (.cells #[.string ⟨a.name.toArray⟩, .pointer u] 210) = W at hb hB0 ⊢
        have q0 := fun x os => cell_regrown (cel hb 0 _ rfl).1 x os
        have q1 := fun x os => cell_regrown (cel hb 1 _ rfl).1 x os
        have hq := fun x os => Calls.regrown_of (hC.out (grow (redrawn W x) os) (below_up hB0.out (below_regrown _ x os)))
        refine wp_region_quiet_below (by kernel_rfl) (by kernel_rfl) ?_
        repeat (quiet_step ((go_at_call 12; exact hq _ _)))
        refine wpQuiet_nil ?_
        intro _ hw'
        obtain ⟨⟨dq, osq⟩, hw''⟩ := hw'
        subst hw''
        have hB1 : Hid (Below w.heap.size w (grow (redrawn W dq) osq)) := below_up hB0.out (below_regrown _ dq osq)
        generalize grow (redrawn W dq) osq = W1 at hB1 ⊢
        go_wp2_with fail
        go_roundg (N - (k + 1))
        case measure => omega
        case rel => exact ⟨k + 1, rfl, by omega, by rw [HB.out.2]; simp [ByteArray.mk_append_mk], by go_num, hB1⟩
    · obtain rfl : k = N := by omega
      go_wp2_with fail
      go_ret
      exact ⟨by rw [hT.out, List.take_of_length_le (by rw [← hN.out]; exact Nat.le_refl _)]; rfl, hr.out⟩
theorem xsets_any {A : Nat → Prop} {w : World} {p : Value} {l : List Asg} (hne : l ≠ []) (hG : GoodSets l) (hE : PEnv w) (hp : IsSets A w l p) (hlim : (setsT l).length ≤ 140737488355328) :
    Calls Tryz.prog 104 #[p] w fun e' w' => e' = .returned (.string ⟨(setsT l).toArray⟩) ∧ Below w.heap.size w w' := by
  rcases hp.read with ⟨h, _⟩ | ⟨g, cap, rfl, _, h2, _, h4, h5⟩
  · exact absurd h hne
  · exact xsets_some l hG hE rfl h2 h5 hlim
end Go.Proofs.YtlgoclebedjiiaaGreatDoor
