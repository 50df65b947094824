/- The library's contracts (strconv.FormatInt, Itoa, strings.Repeat) at this program: laid, no walk. -/
import Derived.Shelf.LaysM
import Derived.Shelf.Strconv.Itoa4
import Derived.Shelf.Strings.Repeat
import Derived.Test.YtlgoclebedjiiaaGreatDoorProg
import Derived.Test.YtlgoclebedjiiaaGreatDoorJWr3
import Derived.Lib.LaidTab
import Derived.Lib.QuietBelow
namespace Go.Proofs
open Go.Shelf
def Tryz.laysM173_ren : Go.Shelf.Ren := ⟨fun | 173 => 34 | 246 => 63 | 283 => 99 | 284 => 100 | 285 => 101 | 286 => 102 | 129 => 133 | 317 => 132 | 318 => 134 | 319 => 135 | 320 => 136 | 337 => 162 | 338 => 163 | n => n, fun | 2 => 2 | 3 => 3 | 9 => 9 | 4 => 4 | 171 => 151 | 0 => 0 | 53 => 152 | 37 => 63 | 5 => 5 | 173 => 155 | 212 => 194 | 51 => 195 | 20 => 20 | 213 => 196 | 46 => 198 | 232 => 245 | 233 => 246 | n => n, fun | 17 => 6 | 18 => 9 | 19 => 10 | n => n⟩
theorem Tryz.laysM173 : Go.Proofs.LaysM.n173 Tryz.prog Tryz.laysM173_ren := {
  mixed := by kernel_rfl
  f129 := Tryz.func133.trans (congrArg some (by kernel_rfl))
  f173 := Tryz.func34.trans (congrArg some (by kernel_rfl))
  f246 := Tryz.func63.trans (congrArg some (by kernel_rfl))
  f283 := Tryz.func99.trans (congrArg some (by kernel_rfl))
  f284 := Tryz.func100.trans (congrArg some (by kernel_rfl))
  f285 := Tryz.func101.trans (congrArg some (by kernel_rfl))
  f286 := Tryz.func102.trans (congrArg some (by kernel_rfl))
  f317 := Tryz.func132.trans (congrArg some (by kernel_rfl))
  f318 := Tryz.func134.trans (congrArg some (by kernel_rfl))
  f319 := Tryz.func135.trans (congrArg some (by kernel_rfl))
  f320 := Tryz.func136.trans (congrArg some (by kernel_rfl))
  f337 := Tryz.func162.trans (congrArg some (by kernel_rfl))
  f338 := Tryz.func163.trans (congrArg some (by kernel_rfl))
  t0 := Tryz.underlying0
  a0 := Tryz.isAgg0
  z0 := Tryz.sizeOf0
  v0 := Tryz.zeroValue0
  t2 := Tryz.underlying2
  a2 := Tryz.isAgg2
  z2 := Tryz.sizeOf2
  v2 := Tryz.zeroValue2
  t3 := Tryz.underlying3
  a3 := Tryz.isAgg3
  z3 := Tryz.sizeOf3
  v3 := Tryz.zeroValue3
  t4 := Tryz.underlying4
  a4 := Tryz.isAgg4
  z4 := Tryz.sizeOf4
  v4 := Tryz.zeroValue4
  t5 := Tryz.underlying5
  a5 := Tryz.isAgg5
  z5 := Tryz.sizeOf5
  v5 := Tryz.zeroValue5
  t9 := Tryz.underlying9
  a9 := Tryz.isAgg9
  z9 := Tryz.sizeOf9
  v9 := Tryz.zeroValue9
  t20 := Tryz.underlying20
  a20 := Tryz.isAgg20
  z20 := Tryz.sizeOf20
  v20 := Tryz.zeroValue20
  t37 := Tryz.underlying63
  a37 := Tryz.isAgg63
  z37 := Tryz.sizeOf63
  v37 := Tryz.zeroValue63
  t46 := Tryz.underlying198
  a46 := Tryz.isAgg198
  z46 := Tryz.sizeOf198
  v46 := Tryz.zeroValue198
  t51 := Tryz.underlying195
  a51 := Tryz.isAgg195
  z51 := Tryz.sizeOf195
  v51 := Tryz.zeroValue195
  t53 := Tryz.underlying152
  a53 := Tryz.isAgg152
  z53 := Tryz.sizeOf152
  v53 := Tryz.zeroValue152
  t171 := Tryz.underlying151
  a171 := Tryz.isAgg151
  z171 := Tryz.sizeOf151
  v171 := Tryz.zeroValue151
  t173 := Tryz.underlying155
  a173 := Tryz.isAgg155
  z173 := Tryz.sizeOf155
  v173 := Tryz.zeroValue155
  t212 := Tryz.underlying194
  a212 := Tryz.isAgg194
  z212 := Tryz.sizeOf194
  v212 := Tryz.zeroValue194
  t213 := Tryz.underlying196
  a213 := Tryz.isAgg196
  z213 := Tryz.sizeOf196
  t232 := Tryz.underlying245
  a232 := Tryz.isAgg245
  z232 := Tryz.sizeOf245
  v232 := Tryz.zeroValue245
  t233 := Tryz.underlying246
  a233 := Tryz.isAgg246
  z233 := Tryz.sizeOf246
  v233 := Tryz.zeroValue246
  g17 := by kernel_rfl
  g18 := by kernel_rfl
  g19 := by kernel_rfl
  i0 := by kernel_rfl
  i2 := by kernel_rfl
  i3 := by kernel_rfl
  i4 := by kernel_rfl
  i5 := by kernel_rfl
  i9 := by kernel_rfl
  i20 := by kernel_rfl
  i37 := by kernel_rfl
  i46 := by kernel_rfl
  i51 := by kernel_rfl
  i53 := by kernel_rfl
  i171 := by kernel_rfl
  i173 := by kernel_rfl
  i212 := by kernel_rfl
  i232 := by kernel_rfl
  i233 := by kernel_rfl
  m17 := by kernel_rfl
  m18 := by kernel_rfl
  m19 := by kernel_rfl }
open Go.RowKit Go.Sort Go.Lib in
/-- strconv.FormatInt: "FormatInt returns the string representation of i in the given base": AT BASE 10: i's decimal numeral, for every int64. (LAID: no walk: one application.) -/
theorem Tryz.strconv_FormatInt_10 (n : Int) (h0 : -9223372036854775808 ≤ n) (h1 : n ≤ 9223372036854775807) (w : World) (htab : Lib.TabIs Tryz.prog w "internal/strconv.uint64pow10" .u64 Lib.pow10Tab) :
    Calls Tryz.prog 34 #[.int .i64 n, .int .i64 10] w fun e w' => e = .returned (.string ⟨(Lib.itoa n).toArray⟩) ∧ ∃ k os, w' = grow (w.drewN k) os := Any.strconv_FormatInt_10 Tryz.laysM173 n h0 h1 w htab
def Tryz.laysM171_ren : Go.Shelf.Ren := ⟨fun | 171 => 142 | 243 => 168 | 246 => 63 | 283 => 99 | 284 => 100 | 285 => 101 | 286 => 102 | 129 => 133 | 317 => 132 | 318 => 134 | 319 => 135 | 320 => 136 | 337 => 162 | 338 => 163 | n => n, fun | 3 => 3 | 9 => 9 | 2 => 2 | 4 => 4 | 171 => 151 | 0 => 0 | 53 => 152 | 37 => 63 | 5 => 5 | 173 => 155 | 212 => 194 | 51 => 195 | 20 => 20 | 213 => 196 | 46 => 198 | 232 => 245 | 233 => 246 | n => n, fun | 17 => 6 | 18 => 9 | 19 => 10 | n => n⟩
theorem Tryz.laysM171 : Go.Proofs.LaysM.n171 Tryz.prog Tryz.laysM171_ren := {
  mixed := by kernel_rfl
  f129 := Tryz.func133.trans (congrArg some (by kernel_rfl))
  f171 := Tryz.func142.trans (congrArg some (by kernel_rfl))
  f243 := Tryz.func168.trans (congrArg some (by kernel_rfl))
  f246 := Tryz.func63.trans (congrArg some (by kernel_rfl))
  f283 := Tryz.func99.trans (congrArg some (by kernel_rfl))
  f284 := Tryz.func100.trans (congrArg some (by kernel_rfl))
  f285 := Tryz.func101.trans (congrArg some (by kernel_rfl))
  f286 := Tryz.func102.trans (congrArg some (by kernel_rfl))
  f317 := Tryz.func132.trans (congrArg some (by kernel_rfl))
  f318 := Tryz.func134.trans (congrArg some (by kernel_rfl))
  f319 := Tryz.func135.trans (congrArg some (by kernel_rfl))
  f320 := Tryz.func136.trans (congrArg some (by kernel_rfl))
  f337 := Tryz.func162.trans (congrArg some (by kernel_rfl))
  f338 := Tryz.func163.trans (congrArg some (by kernel_rfl))
  t0 := Tryz.underlying0
  a0 := Tryz.isAgg0
  z0 := Tryz.sizeOf0
  v0 := Tryz.zeroValue0
  t2 := Tryz.underlying2
  a2 := Tryz.isAgg2
  z2 := Tryz.sizeOf2
  v2 := Tryz.zeroValue2
  t3 := Tryz.underlying3
  a3 := Tryz.isAgg3
  z3 := Tryz.sizeOf3
  v3 := Tryz.zeroValue3
  t4 := Tryz.underlying4
  a4 := Tryz.isAgg4
  z4 := Tryz.sizeOf4
  v4 := Tryz.zeroValue4
  t5 := Tryz.underlying5
  a5 := Tryz.isAgg5
  z5 := Tryz.sizeOf5
  v5 := Tryz.zeroValue5
  t9 := Tryz.underlying9
  a9 := Tryz.isAgg9
  z9 := Tryz.sizeOf9
  v9 := Tryz.zeroValue9
  t20 := Tryz.underlying20
  a20 := Tryz.isAgg20
  z20 := Tryz.sizeOf20
  v20 := Tryz.zeroValue20
  t37 := Tryz.underlying63
  a37 := Tryz.isAgg63
  z37 := Tryz.sizeOf63
  v37 := Tryz.zeroValue63
  t46 := Tryz.underlying198
  a46 := Tryz.isAgg198
  z46 := Tryz.sizeOf198
  v46 := Tryz.zeroValue198
  t51 := Tryz.underlying195
  a51 := Tryz.isAgg195
  z51 := Tryz.sizeOf195
  v51 := Tryz.zeroValue195
  t53 := Tryz.underlying152
  a53 := Tryz.isAgg152
  z53 := Tryz.sizeOf152
  v53 := Tryz.zeroValue152
  t171 := Tryz.underlying151
  a171 := Tryz.isAgg151
  z171 := Tryz.sizeOf151
  v171 := Tryz.zeroValue151
  t173 := Tryz.underlying155
  a173 := Tryz.isAgg155
  z173 := Tryz.sizeOf155
  v173 := Tryz.zeroValue155
  t212 := Tryz.underlying194
  a212 := Tryz.isAgg194
  z212 := Tryz.sizeOf194
  v212 := Tryz.zeroValue194
  t213 := Tryz.underlying196
  a213 := Tryz.isAgg196
  z213 := Tryz.sizeOf196
  t232 := Tryz.underlying245
  a232 := Tryz.isAgg245
  z232 := Tryz.sizeOf245
  v232 := Tryz.zeroValue245
  t233 := Tryz.underlying246
  a233 := Tryz.isAgg246
  z233 := Tryz.sizeOf246
  v233 := Tryz.zeroValue246
  g17 := by kernel_rfl
  g18 := by kernel_rfl
  g19 := by kernel_rfl
  i0 := by kernel_rfl
  i2 := by kernel_rfl
  i3 := by kernel_rfl
  i4 := by kernel_rfl
  i5 := by kernel_rfl
  i9 := by kernel_rfl
  i20 := by kernel_rfl
  i37 := by kernel_rfl
  i46 := by kernel_rfl
  i51 := by kernel_rfl
  i53 := by kernel_rfl
  i171 := by kernel_rfl
  i173 := by kernel_rfl
  i212 := by kernel_rfl
  i232 := by kernel_rfl
  i233 := by kernel_rfl
  m17 := by kernel_rfl
  m18 := by kernel_rfl
  m19 := by kernel_rfl }
open Go.RowKit Go.Sort Go.Lib in
/-- strconv.Itoa: "Itoa is equivalent to FormatInt(int64(i), 10).": i's DECIMAL NUMERAL ('Lib.itoa': a '-' where i is negative, then the digits), FOR EVERY int. The world behind the call: the world before it, new blocks behind the heap (the library's 'var a [24]byte'), draws. (LAID: no walk: one application.) -/
theorem Tryz.strconv_Itoa (n : Int) (h0 : -9223372036854775808 ≤ n) (h1 : n ≤ 9223372036854775807) (w : World) (htab : Lib.TabIs Tryz.prog w "internal/strconv.uint64pow10" .u64 Lib.pow10Tab) :
    Calls Tryz.prog 142 #[.int .i64 n] w fun e w' => e = .returned (.string ⟨(Lib.itoa n).toArray⟩) ∧ ∃ k os, w' = grow (w.drewN k) os := Any.strconv_Itoa Tryz.laysM171 n h0 h1 w htab
def Tryz.lays105_ren : Go.Shelf.Ren := ⟨fun | 105 => 103 | 212 => 137 | 99 => 119 | 165 => 138 | 166 => 139 | 170 => 140 | 169 => 141 | 263 => 164 | 264 => 165 | 206 => 149 | 240 => 166 | 241 => 167 | 276 => 177 | 277 => 178 | n => n, fun | 9 => 9 | 3 => 3 | 4 => 4 | 20 => 20 | 0 => 0 | 46 => 198 | 109 => 200 | 5 => 5 | 72 => 204 | 76 => 206 | 51 => 195 | 146 => 234 | 53 => 152 | 148 => 236 | 70 => 202 | 37 => 63 | 75 => 44 | 127 => 226 | 164 => 169 | 80 => 117 | n => n, fun | n => n⟩
theorem Tryz.lays105 : Go.Proofs.Lays.n105 Tryz.prog Tryz.lays105_ren := {
  mixed := by kernel_rfl
  f99 := Tryz.func119.trans (congrArg some (by kernel_rfl))
  f105 := Tryz.func103.trans (congrArg some (by kernel_rfl))
  f165 := Tryz.func138.trans (congrArg some (by kernel_rfl))
  f166 := Tryz.func139.trans (congrArg some (by kernel_rfl))
  f169 := Tryz.func141.trans (congrArg some (by kernel_rfl))
  f170 := Tryz.func140.trans (congrArg some (by kernel_rfl))
  f206 := Tryz.func149.trans (congrArg some (by kernel_rfl))
  f212 := Tryz.func137.trans (congrArg some (by kernel_rfl))
  f240 := Tryz.func166.trans (congrArg some (by kernel_rfl))
  f241 := Tryz.func167.trans (congrArg some (by kernel_rfl))
  f263 := Tryz.func164.trans (congrArg some (by kernel_rfl))
  f264 := Tryz.func165.trans (congrArg some (by kernel_rfl))
  f276 := Tryz.func177.trans (congrArg some (by kernel_rfl))
  f277 := Tryz.func178.trans (congrArg some (by kernel_rfl))
  t0 := Tryz.underlying0
  a0 := Tryz.isAgg0
  z0 := Tryz.sizeOf0
  v0 := Tryz.zeroValue0
  t3 := Tryz.underlying3
  a3 := Tryz.isAgg3
  z3 := Tryz.sizeOf3
  v3 := Tryz.zeroValue3
  t4 := Tryz.underlying4
  a4 := Tryz.isAgg4
  z4 := Tryz.sizeOf4
  v4 := Tryz.zeroValue4
  t5 := Tryz.underlying5
  a5 := Tryz.isAgg5
  z5 := Tryz.sizeOf5
  v5 := Tryz.zeroValue5
  t9 := Tryz.underlying9
  a9 := Tryz.isAgg9
  z9 := Tryz.sizeOf9
  v9 := Tryz.zeroValue9
  t20 := Tryz.underlying20
  a20 := Tryz.isAgg20
  z20 := Tryz.sizeOf20
  v20 := Tryz.zeroValue20
  t37 := Tryz.underlying63
  a37 := Tryz.isAgg63
  z37 := Tryz.sizeOf63
  v37 := Tryz.zeroValue63
  t46 := Tryz.underlying198
  a46 := Tryz.isAgg198
  z46 := Tryz.sizeOf198
  v46 := Tryz.zeroValue198
  t51 := Tryz.underlying195
  a51 := Tryz.isAgg195
  z51 := Tryz.sizeOf195
  v51 := Tryz.zeroValue195
  t53 := Tryz.underlying152
  a53 := Tryz.isAgg152
  z53 := Tryz.sizeOf152
  v53 := Tryz.zeroValue152
  t70 := Tryz.underlying202
  a70 := Tryz.isAgg202
  z70 := Tryz.sizeOf202
  v70 := Tryz.zeroValue202
  t72 := Tryz.underlying204
  a72 := Tryz.isAgg204
  z72 := Tryz.sizeOf204
  v72 := Tryz.zeroValue204
  t75 := Tryz.underlying44
  a75 := Tryz.isAgg44
  z75 := Tryz.sizeOf44
  v75 := Tryz.zeroValue44
  t76 := Tryz.underlying206
  a76 := Tryz.isAgg206
  z76 := Tryz.sizeOf206
  v76 := Tryz.zeroValue206
  t109 := Tryz.underlying200
  a109 := Tryz.isAgg200
  z109 := Tryz.sizeOf200
  v109 := Tryz.zeroValue200
  t127 := Tryz.underlying226
  a127 := Tryz.isAgg226
  z127 := Tryz.sizeOf226
  v127 := Tryz.zeroValue226
  t146 := Tryz.underlying234
  a146 := Tryz.isAgg234
  z146 := Tryz.sizeOf234
  v146 := Tryz.zeroValue234
  t148 := Tryz.underlying236
  a148 := Tryz.isAgg236
  z148 := Tryz.sizeOf236
  v148 := Tryz.zeroValue236
  t164 := Tryz.underlying169
  a164 := Tryz.isAgg169
  z164 := Tryz.sizeOf169
  v164 := Tryz.zeroValue169 }
theorem Tryz.Builder_Extra_105 : Builder.Extra Tryz.prog Tryz.lays105_ren := {
  sizeBuilder := by kernel_rfl
  liesBuilder := by kernel_rfl
  t5 := Tryz.underlying5
  a5 := Tryz.isAgg5
  z5 := Tryz.sizeOf5
  v5 := Tryz.zeroValue5
  infoByte := by kernel_rfl
  cellsByte := by kernel_rfl
  sizeByte := by kernel_rfl
  neB5 := by decide }
open Go.RowKit Go.Lib in
/-- **strings.Repeat: count ≥ 0, the result within one allocation: count copies of s.** (LAID: no walk: one application.) -/
theorem Tryz.strings_Repeat (s : ByteArray) (c : Nat) (w : World) (hc : c ≤ 9223372036854775807) (hlen : s.size * c ≤ 140737488355328) :
    Calls Tryz.prog 103 #[.string s, .int .i64 c] w fun e w' => e = .returned (.string ⟨(Lib.repeatL s.data.toList c).toArray⟩) ∧ Below w.heap.size w w' := Any.strings_Repeat Tryz.lays105 Tryz.Builder_Extra_105 s c w hc hlen
end Go.Proofs
/- The program's writer: expressions. -/
namespace Go.Proofs.YtlgoclebedjiiaaGreatDoor
open Go.RowKit Go.Lib Go.Sort Px

/-- what of the listed variables the writer asks -/
structure WEnv (wb : Nat) (w : World) : Prop where
  tabs : Tabs w
  pow : Lib.TabIs Tryz.prog w "internal/strconv.uint64pow10" .u64 Lib.pow10Tab
  big : 14 ≤ wb
theorem gPow : Tryz.prog.globalNamed "internal/strconv.uint64pow10" = some 6 := by kernel_rfl
theorem pow_keep {w w' : World} (h : Lib.TabIs Tryz.prog w "internal/strconv.uint64pow10" .u64 Lib.pow10Tab) (hk : w'.heap[6]? = w.heap[6]?) : Lib.TabIs Tryz.prog w' "internal/strconv.uint64pow10" .u64 Lib.pow10Tab := by
  rw [Lib.TabIs, World.var?, gPow, Option.bind_some] at h ⊢
  rw [hk]; exact h
theorem WEnv.keep {wb : Nat} {w w' : World} (h : WEnv wb w) (hk : ∀ b, b < wb → w'.heap[b]? = w.heap[b]?) : WEnv wb w' := by
  have hb := h.big
  exact ⟨h.tabs.keep (fun b hl => hk b (by omega)), pow_keep h.pow (hk _ (by omega)), hb⟩
theorem WSt.env {wb : Nat} {w wk : World} {v0 vk : Value} {t : Str} {d : Nat} (S : WSt wb w v0 wk vk t d) (h : WEnv wb w) : WEnv wb wk :=
  h.keep (fun b hb => (S.keep b hb (by have := S.wlt; omega)).2)
theorem WEnv.below {wb : Nat} {w w' : World} (h : WEnv wb w) (hl : wb ≤ w.heap.size) (hb : Below w.heap.size w w') : WEnv wb w' := h.keep (fun b hlt => hb.block b (by omega))
theorem formatInt {w : World} (n : Int) (h0 : -9223372036854775808 ≤ n ∧ n ≤ 9223372036854775807) (hp : Lib.TabIs Tryz.prog w "internal/strconv.uint64pow10" .u64 Lib.pow10Tab) :
    Calls Tryz.prog 34 #[.int .i64 n, .int .i64 10] w fun e w' => e = .returned (.string ⟨(Lib.itoa n).toArray⟩) ∧ Below w.heap.size w w' := by
  refine (Tryz.strconv_FormatInt_10 n h0.1 h0.2 w hp).mono ?_
  rintro e w' ⟨rfl, k, os, rfl⟩
  exact ⟨rfl, ⟨rfl, rfl, rfl, by simp [grow, World.drewN], fun i hi => by simp [grow, World.drewN, Array.getElem?_append_left hi]⟩⟩
theorem signBetween_any {c : Nat} {w : World} (h6 : 6 ≤ c) (h16 : c ≤ 16) (ht : Tabs w) : Calls Tryz.prog 67 #[.int .i64 c] w fun e w' => e = .returned (.tuple #[.string ⟨(signT c).toArray⟩, .int .i64 ((line c - 1 : Nat) : Int)]) ∧ Below w.heap.size w w' := by
  have hc : c = 6 ∨ c = 7 ∨ c = 8 ∨ c = 9 ∨ c = 10 ∨ c = 11 ∨ c = 12 ∨ c = 13 ∨ c = 14 ∨ c = 15 ∨ c = 16 := by omega
  rcases hc with rfl | rfl | rfl | rfl | rfl | rfl | rfl | rfl | rfl | rfl | rfl
  · exact signBetween_6 w ht
  · exact signBetween_7 w ht
  · exact signBetween_8 w ht
  · exact signBetween_9 w ht
  · exact signBetween_10 w ht
  · exact signBetween_11 w ht
  · exact signBetween_12 w ht
  · exact signBetween_13 w ht
  · exact signBetween_14 w ht
  · exact signBetween_15 w ht
  · exact signBetween_16 w ht

theorem wrap_small {n : Nat} (h : n ≤ 1000000) : IntKind.i64.wrap ((n : Int) + 1) = ((n + 1 : Nat) : Int) := by
  have : IntKind.i64.wrap ((n : Int) + 1) = (n : Int) + 1 := by simp [IntKind.wrap, IntKind.signed, IntKind.bits]; omega
  rw [this]; rfl
/-- an expression is written where it may stand -/
def ExprOk (e : E) : Prop := ∀ (wb : Nat) (w : World) (v p : Value) (t : Str) (d tight : Nat), WAt wb w v t d → IsE (· < wb) w e p → WEnv wb w → tight ≤ 5 → t.length + (exprT e (tight + 1)).length ≤ 140737488355328 →
  Calls Tryz.prog 36 #[.pointer (some ⟨wb, 0, none⟩), p, .int .i64 tight] w fun e' w' => e' = .returned (.tuple #[]) ∧ Wrote wb w v (t ++ exprT e (tight + 1)) d w'

set_option maxRecDepth 100000 in
set_option maxHeartbeats 2000000 in
theorem expr_nil : ExprOk .nil := by
  intro wb w v p t d tight hW hE _ _ _
  obtain rfl : p = .pointer none := hE
  go_enter Tryz.func36, Tryz.ntmps36
  go_wp2_with fail
  refine bodyPost_ret (results_none rfl _ _ _) rfl ?_
  exact ⟨rfl, by rw [exprT, List.append_nil]; exact Wrote.refl hW⟩
/-- the cells of an expression -/
theorem expr_cells {wb : Nat} {w : World} {b o : Nat} {a : Nd} {l r : E} {p : Value} (h : IsE (· < wb) w (.node b o a l r) p) : ∃ g lv rv, p = .pointer (some ⟨g, 0, none⟩) ∧ g < wb ∧ w.heap[g]? = some (.cells #[.int .i64 a.code, .int .i64 a.num, sv a.name, lv, rv] 78 (0, 0)) ∧ IsE (· < wb) w l lv ∧ IsE (· < wb) w r rv := h

set_option maxRecDepth 100000 in
set_option maxHeartbeats 2000000 in
theorem chain_any {l r : E} (hl : ExprOk l) (hr : ExprOk r) {wb g : Nat} {w : World} {v lv rv : Value} {x0 x1 x2 : Value} {t s : Str} {d own m : Nat} (hm : Hid (m = own + 1)) (br : Bool) (hW : WAt wb w v t d) (hg : g < wb) (hb : w.heap[g]? = some (.cells #[x0, x1, x2, lv, rv] 78 (0, 0))) (h1 : IsE (· < wb) w l lv) (h2 : IsE (· < wb) w r rv) (hE : WEnv wb w) (ho : own ≤ 4)
    (hlim : t.length + (brack br (exprT l m ++ [32] ++ s ++ [32] ++ exprT r (m + 1))).length ≤ 140737488355328) :
    Calls Tryz.prog 68 #[.pointer (some ⟨wb, 0, none⟩), .pointer (some ⟨g, 0, none⟩), .string ⟨s.toArray⟩, .int .i64 own, .bool br] w fun e' w' => e' = .returned (.tuple #[]) ∧ Wrote wb w v (t ++ brack br (exprT l m ++ [32] ++ s ++ [32] ++ exprT r (m + 1))) d w' := by
  have HL : Hid _ := hlim
  have HW : Hid (ExprOk l ∧ ExprOk r) := ⟨hl, hr⟩
  have HX : ∀ (w : World) (v : Value) (t : Str), WAt wb w v t d → IsE (· < wb) w l lv → WEnv wb w → t.length + (exprT l m).length ≤ 140737488355328 → Calls Tryz.prog 36 #[.pointer (some ⟨wb, 0, none⟩), lv, .int .i64 own] w fun e' w' => e' = .returned (.tuple #[]) ∧ Wrote wb w v (t ++ exprT l m) d w' := fun w v t h1 h2 h3 h4 => by
    rw [hm.out] at h4 ⊢; exact hl wb w v lv t d own h1 h2 h3 (by omega) h4
  have HX' : Hid _ := HX
  clear HX
  have S0 := WSt.start hW
  have lx := S0.wlt
  have hgv : v.ownBlock ≠ some g := fun e => by have := (S0.low g e).1; omega
  have hgw : g ≠ wb := by omega
  clear hlim hl hr
  have hwrap : IntKind.i64.wrap ((own : Int) + 1) = (m : Int) := by rw [hm.out]; exact wrap_small (by omega)
  have HO : Hid (m ≤ 5) := by rw [Hid, hm.out]; omega
  cases br with
  | false =>
    have HL' : Hid (t.length + (exprT l m).length ≤ 140737488355328 ∧ t.length + (exprT l m).length + (1 + (s.length + 1)) ≤ 140737488355328 ∧ t.length + (exprT l m).length + (1 + (s.length + 1)) + (exprT r (m + 1)).length ≤ 140737488355328) := by
      have := HL.out
      simp [brack] at this
      refine ⟨?_, ?_, ?_⟩ <;> omega
    obtain ⟨c3, -⟩ := cel hb 3 _ rfl
    go_enter Tryz.func68, Tryz.ntmps68
    go_wp2_with (first
      | (go_at_call_of 36 lv; refine (HX'.out _ v t hW h1 hE HL'.out.1).mono ?_; rintro _ w1 ⟨rfl, hw1⟩; obtain ⟨v1, S1⟩ := S0.step hw1)
      | (go_at_call 29; refine (say3 S1.at_ [32] s [32] (by have := HL'.out.2.1; simp; omega)).mono ?_; rintro _ w2 ⟨rfl, hw2⟩; obtain ⟨v2, S2⟩ := S1.step hw2; obtain ⟨c4, -⟩ := cel (S2.blk hb hgw hgv) 4 _ rfl)
      | (go_at_call_of 36 rv; refine (HW.out.2 wb _ v2 rv _ d m S2.at_ (h2.carry S2.keep) (S2.env hE) HO.out (by have := HL'.out.2.2; simp; omega)).mono ?_; rintro _ w3 ⟨rfl, hw3⟩; obtain ⟨v3, S3⟩ := S2.step hw3))
    go_end0
    exact ⟨rfl, by have := S3.out; simpa [brack, List.append_assoc] using this⟩
  | true =>
    have HL' : Hid (t.length + 1 ≤ 140737488355328 ∧ t.length + 1 + (exprT l m).length ≤ 140737488355328 ∧ t.length + 1 + (exprT l m).length + (1 + (s.length + 1)) ≤ 140737488355328 ∧ t.length + 1 + (exprT l m).length + (1 + (s.length + 1)) + (exprT r (m + 1)).length ≤ 140737488355328 ∧ t.length + 1 + (exprT l m).length + (1 + (s.length + 1)) + (exprT r (m + 1)).length + 1 ≤ 140737488355328) := by
      have := HL.out
      simp [brack] at this
      refine ⟨?_, ?_, ?_, ?_, ?_⟩ <;> omega
    have T1 : Hid True := trivial
    go_enter Tryz.func68, Tryz.ntmps68
    go_wp2_with (first
      | (go_at_call 29; clear T1; refine (say1 hW [40] HL'.out.1).mono ?_; rintro _ w0 ⟨rfl, hw0⟩; obtain ⟨v0, S01⟩ := S0.step hw0; obtain ⟨c3, -⟩ := cel (S01.blk hb hgw hgv) 3 _ rfl; have T2 : Hid True := trivial)
      | (go_at_call_of 36 lv; refine (HX'.out _ v0 _ S01.at_ (h1.carry S01.keep) (S01.env hE) (by have := HL'.out.2.1; simp; omega)).mono ?_; rintro _ w1 ⟨rfl, hw1⟩; obtain ⟨v1, S1⟩ := S01.step hw1)
      | (go_at_call 29; clear T2; refine (say3 S1.at_ [32] s [32] (by have := HL'.out.2.2.1; simp; omega)).mono ?_; rintro _ w2 ⟨rfl, hw2⟩; obtain ⟨v2, S2⟩ := S1.step hw2; obtain ⟨c4, -⟩ := cel (S2.blk hb hgw hgv) 4 _ rfl)
      | (go_at_call_of 36 rv; refine (HW.out.2 wb _ v2 rv _ d m S2.at_ (h2.carry S2.keep) (S2.env hE) HO.out (by have := HL'.out.2.2.2.1; simp; omega)).mono ?_; rintro _ w3 ⟨rfl, hw3⟩; obtain ⟨v3, S3⟩ := S2.step hw3)
      | (go_at_call 29; refine (say1 S3.at_ [41] (by have := HL'.out.2.2.2.2; simp; omega)).mono ?_; rintro _ w4 ⟨rfl, hw4⟩; obtain ⟨v4, S4⟩ := S3.step hw4))
    go_end0
    exact ⟨rfl, by have := S4.out; simpa [brack, List.append_assoc] using this⟩
end Go.Proofs.YtlgoclebedjiiaaGreatDoor
/- The program's writer: expressions, whole. -/
namespace Go.Proofs.YtlgoclebedjiiaaGreatDoor
open Go.RowKit Go.Lib Go.Sort Px

section
variable {wb g : Nat} {w : World} {v lv rv : Value} {t : Str} {d tight : Nat} {a : Nd} {l r : E} {b o : Nat}
set_option maxRecDepth 100000 in
set_option maxHeartbeats 2000000 in
theorem expr_num (hc : a.code = 1) (hn : -9223372036854775808 ≤ a.num ∧ a.num ≤ 9223372036854775807) (hW : WAt wb w v t d) (hb : w.heap[g]? = some (.cells #[.int .i64 a.code, .int .i64 a.num, sv a.name, lv, rv] 78 (0, 0))) (hE : WEnv wb w) (hlim : t.length + (exprT (.node b o a l r) (tight + 1)).length ≤ 140737488355328) :
    Calls Tryz.prog 36 #[.pointer (some ⟨wb, 0, none⟩), .pointer (some ⟨g, 0, none⟩), .int .i64 tight] w fun e' w' => e' = .returned (.tuple #[]) ∧ Wrote wb w v (t ++ exprT (.node b o a l r) (tight + 1)) d w' := by
  have S0 := WSt.start hW
  have HT : Hid (exprT (.node b o a l r) (tight + 1) = itoa a.num) := by rw [Hid, exprT, if_pos hc]
  rw [HT.out] at hlim ⊢
  have HL : Hid _ := hlim
  rw [hc] at hb
  clear hlim hc
  obtain ⟨c0, -⟩ := cel hb 0 _ rfl
  obtain ⟨c1, -⟩ := cel hb 1 _ rfl
  go_enter Tryz.func36, Tryz.ntmps36
  go_wp2_with (first
    | (go_at_call 34; refine (formatInt a.num hn hE.pow).mono ?_; rintro _ w1 ⟨rfl, hb1⟩; have S1 := S0.below hb1)
    | (go_at_call 29; refine (say1 S1.at_ (itoa a.num) HL.out).mono ?_; rintro _ w2 ⟨rfl, hw2⟩; obtain ⟨v2, S2⟩ := S1.step hw2))
  refine bodyPost_ret (results_none rfl _ _ _) rfl ?_
  exact ⟨rfl, S2.out⟩
set_option maxRecDepth 100000 in
set_option maxHeartbeats 2000000 in
theorem expr_var (hc : a.code = 2) (hW : WAt wb w v t d) (hb : w.heap[g]? = some (.cells #[.int .i64 a.code, .int .i64 a.num, sv a.name, lv, rv] 78 (0, 0))) (hlim : t.length + (exprT (.node b o a l r) (tight + 1)).length ≤ 140737488355328) :
    Calls Tryz.prog 36 #[.pointer (some ⟨wb, 0, none⟩), .pointer (some ⟨g, 0, none⟩), .int .i64 tight] w fun e' w' => e' = .returned (.tuple #[]) ∧ Wrote wb w v (t ++ exprT (.node b o a l r) (tight + 1)) d w' := by
  have HT : Hid (exprT (.node b o a l r) (tight + 1) = a.name) := by rw [Hid, exprT, if_neg (by omega), if_pos hc]
  rw [HT.out] at hlim ⊢
  have HL : Hid _ := hlim
  rw [hc] at hb
  clear hlim hc
  obtain ⟨c0, -⟩ := cel hb 0 _ rfl
  obtain ⟨c2, -⟩ := cel hb 2 _ rfl
  rw [sv] at c2
  go_enter Tryz.func36, Tryz.ntmps36
  go_wp2_with (go_at_call 29; refine (say1 hW a.name HL.out).mono ?_; rintro _ w2 ⟨rfl, hw2⟩)
  refine bodyPost_ret (results_none rfl _ _ _) rfl ?_
  exact ⟨rfl, hw2⟩
set_option maxRecDepth 100000 in
set_option maxHeartbeats 2000000 in
theorem expr_pre (hc : a.code = 3) (hW : WAt wb w v t d) (hb : w.heap[g]? = some (.cells #[.int .i64 a.code, .int .i64 a.num, sv a.name, lv, rv] 78 (0, 0))) (hlim : t.length + (exprT (.node b o a l r) (tight + 1)).length ≤ 140737488355328) :
    Calls Tryz.prog 36 #[.pointer (some ⟨wb, 0, none⟩), .pointer (some ⟨g, 0, none⟩), .int .i64 tight] w fun e' w' => e' = .returned (.tuple #[]) ∧ Wrote wb w v (t ++ exprT (.node b o a l r) (tight + 1)) d w' := by
  have HT : Hid (exprT (.node b o a l r) (tight + 1) = [112, 114, 101, 40] ++ (a.name ++ [41])) := by rw [Hid, exprT, if_neg (by omega), if_neg (by omega), if_pos hc, List.append_assoc]
  rw [HT.out] at hlim ⊢
  have HL : Hid _ := hlim
  rw [hc] at hb
  clear hlim hc
  obtain ⟨c0, -⟩ := cel hb 0 _ rfl
  obtain ⟨c2, -⟩ := cel hb 2 _ rfl
  rw [sv] at c2
  go_enter Tryz.func36, Tryz.ntmps36
  go_wp2_with (go_at_call 29; refine (say3 hW [112, 114, 101, 40] a.name [41] (by have := HL.out; simp at this ⊢; omega)).mono ?_; rintro _ w2 ⟨rfl, hw2⟩)
  refine bodyPost_ret (results_none rfl _ _ _) rfl ?_
  exact ⟨rfl, hw2⟩
set_option maxRecDepth 100000 in
set_option maxHeartbeats 2000000 in
theorem expr_ahead (hl : ExprOk l) (s : Str) (hs : s = [45] ∧ a.code = 4 ∨ s = [33] ∧ a.code = 5) (hW : WAt wb w v t d) (hg : g < wb) (hb : w.heap[g]? = some (.cells #[.int .i64 a.code, .int .i64 a.num, sv a.name, lv, rv] 78 (0, 0))) (h1 : IsE (· < wb) w l lv) (hE : WEnv wb w) (hlim : t.length + (exprT (.node b o a l r) (tight + 1)).length ≤ 140737488355328) :
    Calls Tryz.prog 36 #[.pointer (some ⟨wb, 0, none⟩), .pointer (some ⟨g, 0, none⟩), .int .i64 tight] w fun e' w' => e' = .returned (.tuple #[]) ∧ Wrote wb w v (t ++ exprT (.node b o a l r) (tight + 1)) d w' := by
  have S0 := WSt.start hW
  have hgv : v.ownBlock ≠ some g := fun e => by have := (S0.low g e).1; omega
  have hgw : g ≠ wb := by omega
  have HT : Hid (exprT (.node b o a l r) (tight + 1) = s ++ exprT l 6) := by
    rcases hs with ⟨rfl, hc⟩ | ⟨rfl, hc⟩
    · rw [Hid, exprT, if_neg (by omega), if_neg (by omega), if_neg (by omega), if_pos (.inl hc), hc]; rfl
    · rw [Hid, exprT, if_neg (by omega), if_neg (by omega), if_neg (by omega), if_pos (.inr hc), hc]; rfl
  rw [HT.out] at hlim ⊢
  have HL : Hid _ := hlim
  clear hlim
  have HO : Hid (ExprOk l) := hl
  rcases hs with ⟨rfl, hc⟩ | ⟨rfl, hc⟩
  all_goals
    rw [hc] at hb
    have hA : ∀ W, Tabs W → Calls Tryz.prog 66 #[.int .i64 (_ : Nat)] W _ := fun W hT => signAhead_any a.code W hT
    rw [hc] at hA
    clear hc hl
    obtain ⟨c0, -⟩ := cel hb 0 _ rfl
    have hTb := hE.tabs
    go_enter Tryz.func36, Tryz.ntmps36
    go_wp2_with (first
      | (go_at_call 66; refine (hA _ hTb).mono ?_; rintro _ w1 ⟨rfl, hb1⟩; have S1 := S0.below hb1; simp only [aheadT, ↓reduceIte, Nat.reduceEqDiff])
      | (go_at_call 29; refine (say1 S1.at_ _ (by have := HL.out; simp at this ⊢; omega)).mono ?_; rintro _ w2 ⟨rfl, hw2⟩; obtain ⟨v2, S2⟩ := S1.step hw2; obtain ⟨c3, -⟩ := cel (S2.blk hb hgw hgv) 3 _ rfl)
      | (go_at_call 36; refine (HO.out wb _ v2 lv _ d 5 S2.at_ (h1.carry S2.keep) (S2.env hE) (by omega) (by have := HL.out; simp at this ⊢; omega)).mono ?_; rintro _ w3 ⟨rfl, hw3⟩; obtain ⟨v3, S3⟩ := S2.step hw3))
    refine bodyPost_ret (results_none rfl _ _ _) rfl ?_
    exact ⟨rfl, by have := S3.out; simpa [List.append_assoc] using this⟩
end
end Go.Proofs.YtlgoclebedjiiaaGreatDoor
/- The program's writer: expressions, all of them. -/
namespace Go.Proofs.YtlgoclebedjiiaaGreatDoor
open Go.RowKit Go.Lib Go.Sort Px

theorem Px.signT_ne (c : Nat) : signT c ≠ [] := by unfold signT; (repeat' split) <;> simp
theorem Px.line_pos (c : Nat) : 1 ≤ line c := by unfold line; (repeat' split) <;> omega
theorem Px.line_two {c : Nat} (h6 : 6 ≤ c) (h16 : c ≤ 16) : line c ≤ 5 := by unfold line; (repeat' split) <;> omega
set_option maxRecDepth 100000 in
set_option maxHeartbeats 2000000 in
theorem expr_two {wb g : Nat} {w : World} {v lv rv : Value} {t : Str} {d tight : Nat} {a : Nd} {l r : E} {b o : Nat} (hl : ExprOk l) (hr : ExprOk r) (h6 : 6 ≤ a.code) (h16 : a.code ≤ 16) (hW : WAt wb w v t d) (hg : g < wb) (hb : w.heap[g]? = some (.cells #[.int .i64 a.code, .int .i64 a.num, sv a.name, lv, rv] 78 (0, 0))) (h1 : IsE (· < wb) w l lv) (h2 : IsE (· < wb) w r rv) (hE : WEnv wb w) (hlim : t.length + (exprT (.node b o a l r) (tight + 1)).length ≤ 140737488355328) :
    Calls Tryz.prog 36 #[.pointer (some ⟨wb, 0, none⟩), .pointer (some ⟨g, 0, none⟩), .int .i64 tight] w fun e' w' => e' = .returned (.tuple #[]) ∧ Wrote wb w v (t ++ exprT (.node b o a l r) (tight + 1)) d w' := by
  have S0 := WSt.start hW
  have hgv : v.ownBlock ≠ some g := fun e => by have := (S0.low g e).1; omega
  have hgw : g ≠ wb := by omega
  obtain ⟨c, hc⟩ : ∃ c, Hid (c = a.code) := ⟨_, rfl⟩
  obtain ⟨own, hown⟩ : ∃ own, Hid (own = line c - 1) := ⟨_, rfl⟩
  obtain ⟨m, hm⟩ : ∃ m, Hid (m = own + 1) := ⟨_, rfl⟩
  obtain ⟨s, hs⟩ : ∃ s, Hid (s = signT c) := ⟨_, rfl⟩
  have hml : Hid (m = line c) := by have := line_pos c; have := hown.out; have := hm.out; rw [Hid]; omega
  have ho4 : own ≤ 4 := by have := line_two (c := c) (by rw [hc.out]; exact h6) (by rw [hc.out]; exact h16); have := hown.out; omega
  have HT : Hid (exprT (.node b o a l r) (tight + 1) = brack (decide (own < tight)) (exprT l m ++ [32] ++ s ++ [32] ++ exprT r (m + 1))) := by
    rw [Hid, exprT, if_neg (by omega), if_neg (by omega), if_neg (by omega), if_neg (by omega), hml.out, hs.out, hc.out]
    have e : decide (line a.code < tight + 1) = decide (own < tight) := by
      have := hm.out; have e1 := hml.out; rw [hc.out] at e1
      exact decide_eq_decide.2 (by omega)
    rw [e]
  rw [HT.out] at hlim ⊢
  have HL : Hid _ := hlim
  rw [← hc.out] at hb h6 h16
  clear hlim
  have HO : Hid (ExprOk l ∧ ExprOk r) := ⟨hl, hr⟩
  have hA : ∀ W, Tabs W → Calls Tryz.prog 66 #[.int .i64 c] W fun e w' => e = .returned (.string ⟨#[]⟩) ∧ Below W.heap.size W w' := fun W hT => by
    have := signAhead_any c W hT
    rw [aheadT, if_neg (by omega), if_neg (by omega)] at this
    exact this
  have hB : ∀ W, Tabs W → Calls Tryz.prog 67 #[.int .i64 c] W fun e w' => e = .returned (.tuple #[.string ⟨s.toArray⟩, .int .i64 own]) ∧ Below W.heap.size W w' := fun W hT => by
    rw [hs.out, hown.out]; exact signBetween_any h6 h16 hT
  have hne : List.isEmpty s = false := by rw [hs.out, List.isEmpty_eq_false_iff]; exact signT_ne c
  have n1 : ¬ (c : Int) = 1 := by omega
  have n2 : ¬ (c : Int) = 2 := by omega
  have n3 : ¬ (c : Int) = 3 := by omega
  have hlx := S0.wlt
  have hgl : g < w.heap.size := by omega
  clear hl hr h6 h16 hs
  obtain ⟨c0, -⟩ := cel hb 0 _ rfl
  go_enter Tryz.func36, Tryz.ntmps36
  go_wp2_with (first
    | (go_at_call 66; refine (hA _ hE.tabs).mono ?_; rintro _ w1 ⟨rfl, hb1⟩; have S1 := S0.below hb1; obtain ⟨c1, -⟩ := cel (S1.blk hb hgw hgv) 0 _ rfl)
    | (go_at_call 67; refine (hB _ (S1.env hE).tabs).mono ?_; rintro _ w2 ⟨rfl, hb2⟩; have S2 := S1.below hb2)
    | (go_at_call 68; refine (chain_any HO.out.1 HO.out.2 hm _ S2.at_ hg (S2.blk hb hgw hgv) (h1.carry S2.keep) (h2.carry S2.keep) (S2.env hE) ho4 HL.out).mono ?_; rintro _ w3 ⟨rfl, hw3⟩; obtain ⟨v3, S3⟩ := S2.step hw3))
  go_end0
  exact ⟨rfl, S3.out⟩

theorem expr_ok : ∀ (e : E), GoodE e → ExprOk e := by
  intro e
  induction e with
  | nil => intro _; exact expr_nil
  | node b o a l r ihl ihr =>
    intro ⟨g1, g2, g3, g4, g5⟩ wb w v p t d tight hW hI hE ht hlim
    obtain ⟨g, lv, rv, rfl, hg, hb, h1, h2⟩ := expr_cells hI
    have hc : a.code = 1 ∨ a.code = 2 ∨ a.code = 3 ∨ a.code = 4 ∨ a.code = 5 ∨ 6 ≤ a.code := by omega
    rcases hc with hc | hc | hc | hc | hc | hc
    · exact expr_num hc g3 hW hb hE hlim
    · exact expr_var hc hW hb hlim
    · exact expr_pre hc hW hb hlim
    · exact expr_ahead (ihl g4) [45] (.inl ⟨rfl, hc⟩) hW hg hb h1 hE hlim
    · exact expr_ahead (ihl g4) [33] (.inr ⟨rfl, hc⟩) hW hg hb h1 hE hlim
    · exact expr_two (ihl g4) (ihr g5) hc g2 hW hg hb h1 h2 hE hlim
/-- an expression, where anything may stand -/
theorem expr_top {e : E} (he : GoodE e) {wb : Nat} {w : World} {v p : Value} {t : Str} {d : Nat} (hW : WAt wb w v t d) (hI : IsE (· < wb) w e p) (hE : WEnv wb w) (hlim : t.length + (exprT e 0).length ≤ 140737488355328) :
    Calls Tryz.prog 36 #[.pointer (some ⟨wb, 0, none⟩), p, .int .i64 0] w fun e' w' => e' = .returned (.tuple #[]) ∧ Wrote wb w v (t ++ exprT e 0) d w' := by
  have := expr_ok e he wb w v p t d 0 hW hI hE (by omega)
  rw [exprT_zero] at this
  exact this hlim
end Go.Proofs.YtlgoclebedjiiaaGreatDoor
