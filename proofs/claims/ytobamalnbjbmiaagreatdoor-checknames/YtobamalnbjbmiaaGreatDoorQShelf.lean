/- strconv.ParseInt at this program: laid, no walk. -/
import Derived.Shelf.LaysC
import Derived.Shelf.Strconv.ParseIntPublic10
import Derived.Test.YtobamalnbjbmiaaGreatDoorProg
import Derived.Test.YtobamalnbjbmiaaGreatDoorQDraw
import Derived.WalkKit
import Derived.Shelf.LaysM
import Derived.Shelf.Strconv.Clone
import Derived.Shelf.Strings.Prefix
namespace Go.Proofs
open Go.Shelf
def Tryz.laysC174_ren : Go.Shelf.Ren := ⟨fun | 174 => 172 | 247 => 200 | 245 => 201 | 287 => 230 | 279 => 231 | 280 => 232 | 281 => 233 | 282 => 234 | 321 => 252 | 322 => 253 | 316 => 132 | 171 => 115 | 205 => 254 | 243 => 161 | 246 => 164 | 283 => 193 | 284 => 194 | 285 => 195 | 286 => 196 | 129 => 221 | 317 => 220 | 318 => 222 | 319 => 223 | 320 => 224 | 337 => 250 | 338 => 251 | n => n, fun | 9 => 9 | 3 => 3 | 2 => 2 | 75 => 28 | 85 => 248 | 4 => 4 | 167 => 292 | 5 => 5 | 53 => 265 | 175 => 293 | 46 => 122 | 168 => 295 | 37 => 123 | 0 => 0 | 210 => 310 | 21 => 21 | 127 => 247 | 145 => 316 | 143 => 314 | 171 => 268 | 173 => 271 | 212 => 285 | 51 => 286 | 20 => 20 | 213 => 287 | 232 => 312 | 233 => 313 | 80 => 155 | n => n, fun | 15 => 9 | 16 => 10 | 17 => 5 | 18 => 11 | 19 => 12 | n => n⟩
theorem Tryz.laysC174 : Go.Proofs.LaysC.n174 Tryz.prog Tryz.laysC174_ren := {
  mixed := by kernel_rfl
  f129 := Tryz.func221.trans (congrArg some (by kernel_rfl))
  f171 := Tryz.func115.trans (congrArg some (by kernel_rfl))
  f174 := Tryz.func172.trans (congrArg some (by kernel_rfl))
  f205 := Tryz.func254.trans (congrArg some (by kernel_rfl))
  f243 := Tryz.func161.trans (congrArg some (by kernel_rfl))
  f245 := Tryz.func201.trans (congrArg some (by kernel_rfl))
  f246 := Tryz.func164.trans (congrArg some (by kernel_rfl))
  f247 := Tryz.func200.trans (congrArg some (by kernel_rfl))
  f279 := Tryz.func231.trans (congrArg some (by kernel_rfl))
  f280 := Tryz.func232.trans (congrArg some (by kernel_rfl))
  f281 := Tryz.func233.trans (congrArg some (by kernel_rfl))
  f282 := Tryz.func234.trans (congrArg some (by kernel_rfl))
  f283 := Tryz.func193.trans (congrArg some (by kernel_rfl))
  f284 := Tryz.func194.trans (congrArg some (by kernel_rfl))
  f285 := Tryz.func195.trans (congrArg some (by kernel_rfl))
  f286 := Tryz.func196.trans (congrArg some (by kernel_rfl))
  f287 := Tryz.func230.trans (congrArg some (by kernel_rfl))
  f316 := Tryz.func132.trans (congrArg some (by kernel_rfl))
  f317 := Tryz.func220.trans (congrArg some (by kernel_rfl))
  f318 := Tryz.func222.trans (congrArg some (by kernel_rfl))
  f319 := Tryz.func223.trans (congrArg some (by kernel_rfl))
  f320 := Tryz.func224.trans (congrArg some (by kernel_rfl))
  f321 := Tryz.func252.trans (congrArg some (by kernel_rfl))
  f322 := Tryz.func253.trans (congrArg some (by kernel_rfl))
  f337 := Tryz.func250.trans (congrArg some (by kernel_rfl))
  f338 := Tryz.func251.trans (congrArg some (by kernel_rfl))
  t0 := Tryz.underlying0
  a0 := Tryz.isAgg0
  z0 := Tryz.sizeOf0
  v0 := Tryz.zeroValue0
  t2 := Tryz.underlying2
  a2 := Tryz.isAgg2
  z2 := Tryz.sizeOf2
  v2 := Tryz.zeroValue2
  t3 := Tryz.underlying3
  a3 := Tryz.isAgg3
  z3 := Tryz.sizeOf3
  v3 := Tryz.zeroValue3
  t4 := Tryz.underlying4
  a4 := Tryz.isAgg4
  z4 := Tryz.sizeOf4
  v4 := Tryz.zeroValue4
  t5 := Tryz.underlying5
  a5 := Tryz.isAgg5
  z5 := Tryz.sizeOf5
  v5 := Tryz.zeroValue5
  t9 := Tryz.underlying9
  a9 := Tryz.isAgg9
  z9 := Tryz.sizeOf9
  v9 := Tryz.zeroValue9
  t20 := Tryz.underlying20
  a20 := Tryz.isAgg20
  z20 := Tryz.sizeOf20
  v20 := Tryz.zeroValue20
  t21 := Tryz.underlying21
  a21 := Tryz.isAgg21
  z21 := Tryz.sizeOf21
  v21 := Tryz.zeroValue21
  t37 := Tryz.underlying123
  a37 := Tryz.isAgg123
  z37 := Tryz.sizeOf123
  v37 := Tryz.zeroValue123
  t46 := Tryz.underlying122
  a46 := Tryz.isAgg122
  z46 := Tryz.sizeOf122
  v46 := Tryz.zeroValue122
  t51 := Tryz.underlying286
  a51 := Tryz.isAgg286
  z51 := Tryz.sizeOf286
  v51 := Tryz.zeroValue286
  t53 := Tryz.underlying265
  a53 := Tryz.isAgg265
  z53 := Tryz.sizeOf265
  v53 := Tryz.zeroValue265
  t75 := Tryz.underlying28
  a75 := Tryz.isAgg28
  z75 := Tryz.sizeOf28
  v75 := Tryz.zeroValue28
  t85 := Tryz.underlying248
  a85 := Tryz.isAgg248
  z85 := Tryz.sizeOf248
  v85 := Tryz.zeroValue248
  t127 := Tryz.underlying247
  a127 := Tryz.isAgg247
  z127 := Tryz.sizeOf247
  v127 := Tryz.zeroValue247
  t143 := Tryz.underlying314
  a143 := Tryz.isAgg314
  z143 := Tryz.sizeOf314
  v143 := Tryz.zeroValue314
  t145 := Tryz.underlying316
  a145 := Tryz.isAgg316
  z145 := Tryz.sizeOf316
  v145 := Tryz.zeroValue316
  t167 := Tryz.underlying292
  a167 := Tryz.isAgg292
  z167 := Tryz.sizeOf292
  v167 := Tryz.zeroValue292
  t168 := Tryz.underlying295
  a168 := Tryz.isAgg295
  z168 := Tryz.sizeOf295
  v168 := Tryz.zeroValue295
  t171 := Tryz.underlying268
  a171 := Tryz.isAgg268
  z171 := Tryz.sizeOf268
  v171 := Tryz.zeroValue268
  t173 := Tryz.underlying271
  a173 := Tryz.isAgg271
  z173 := Tryz.sizeOf271
  v173 := Tryz.zeroValue271
  t175 := Tryz.underlying293
  a175 := Tryz.isAgg293
  z175 := Tryz.sizeOf293
  v175 := Tryz.zeroValue293
  t210 := Tryz.underlying310
  a210 := Tryz.isAgg310
  z210 := Tryz.sizeOf310
  v210 := Tryz.zeroValue310
  t212 := Tryz.underlying285
  a212 := Tryz.isAgg285
  z212 := Tryz.sizeOf285
  v212 := Tryz.zeroValue285
  t213 := Tryz.underlying287
  a213 := Tryz.isAgg287
  z213 := Tryz.sizeOf287
  t232 := Tryz.underlying312
  a232 := Tryz.isAgg312
  z232 := Tryz.sizeOf312
  v232 := Tryz.zeroValue312
  t233 := Tryz.underlying313
  a233 := Tryz.isAgg313
  z233 := Tryz.sizeOf313
  v233 := Tryz.zeroValue313
  g15 := by kernel_rfl
  g16 := by kernel_rfl
  g17 := by kernel_rfl
  g18 := by kernel_rfl
  g19 := by kernel_rfl
  t80 := Tryz.underlying155
  a80 := Tryz.isAgg155
  z80 := Tryz.sizeOf155
  v80 := Tryz.zeroValue155
  i0 := by kernel_rfl
  i2 := by kernel_rfl
  i3 := by kernel_rfl
  i4 := by kernel_rfl
  i5 := by kernel_rfl
  i9 := by kernel_rfl
  i20 := by kernel_rfl
  i21 := by kernel_rfl
  i37 := by kernel_rfl
  i46 := by kernel_rfl
  i51 := by kernel_rfl
  i53 := by kernel_rfl
  i75 := by kernel_rfl
  i80 := by kernel_rfl
  i85 := by kernel_rfl
  i127 := by kernel_rfl
  i143 := by kernel_rfl
  i145 := by kernel_rfl
  i167 := by kernel_rfl
  i168 := by kernel_rfl
  i171 := by kernel_rfl
  i173 := by kernel_rfl
  i175 := by kernel_rfl
  i210 := by kernel_rfl
  i212 := by kernel_rfl
  i232 := by kernel_rfl
  i233 := by kernel_rfl
  m15 := by kernel_rfl
  m16 := by kernel_rfl
  m17 := by kernel_rfl
  m18 := by kernel_rfl
  m19 := by kernel_rfl
  c0 := by kernel_rfl
  c2 := by kernel_rfl
  c3 := by kernel_rfl
  c4 := by kernel_rfl
  c5 := by kernel_rfl
  c9 := by kernel_rfl
  c20 := by kernel_rfl
  c21 := by kernel_rfl
  c37 := by kernel_rfl
  c46 := by kernel_rfl
  c51 := by kernel_rfl
  c53 := by kernel_rfl
  c75 := by kernel_rfl
  c80 := by kernel_rfl
  c85 := by kernel_rfl
  c127 := by kernel_rfl
  c143 := by kernel_rfl
  c145 := by kernel_rfl
  c167 := by kernel_rfl
  c168 := by kernel_rfl
  c171 := by kernel_rfl
  c173 := by kernel_rfl
  c175 := by kernel_rfl
  c210 := by kernel_rfl
  c212 := by kernel_rfl
  c213 := by kernel_rfl
  c232 := by kernel_rfl
  c233 := by kernel_rfl }
open Go.RowKit in
theorem Tryz.strconv_ParseInt_10_at64_ok (s : ByteArray) (hmax : s.size ≤ 9223372036854775806) (v : Int) (h : Lib.parseIntB 64 s.data.toList = .ok v) (w : World) :
    Calls Tryz.prog 172 #[.string s, .int .i64 10, .int .i64 64] w fun e w' => e = .returned (.tuple #[.int .i64 v, .nilIface]) ∧ (w' = w ∨ ∃ t, w' = Lib.bytesWorld w 5 t) := Any.strconv_ParseInt_10_at64_ok Tryz.laysC174 s hmax v h w
end Go.Proofs
/- The small functions of the program and of the document's own answer: isBlank, inLine, isDigit, isWord, alpha, digit. -/
namespace Go.Proofs.YtobamalnbjbmiaaGreatDoor
open Go.RowKit

theorem u8_eq (c : UInt8) (n : Nat) (hn : n < 256) : (c == UInt8.ofNat n) = decide ((c.toNat : Int) = (n : Int)) := by
  rw [Bool.eq_iff_iff]
  simp only [beq_iff_eq, decide_eq_true_eq]
  constructor
  · rintro rfl; simp; omega
  · intro h; apply UInt8.toNat_inj.1; simp; omega
theorem ret_bool {a b : Bool} (h : a = b) : Ending.returned (.bool a) = .returned (.bool b) := by rw [h]

set_option maxHeartbeats 400000 in
theorem isBlank_any (c : UInt8) (w : World) :
    Calls Tryz.prog 126 #[.int .u8 c.toNat] w fun e w' => e = .returned (.bool (Lx.blank c)) ∧ w' = w := by
  have hb : Lx.blank c = (decide ((c.toNat : Int) = 32) || decide ((c.toNat : Int) = 9) || decide ((c.toNat : Int) = 10)) := by
    have h1 : (c == 32) = decide ((c.toNat : Int) = 32) := u8_eq c 32 (by decide)
    have h2 : (c == 9) = decide ((c.toNat : Int) = 9) := u8_eq c 9 (by decide)
    have h3 : (c == 10) = decide ((c.toNat : Int) = 10) := u8_eq c 10 (by decide)
    unfold Lx.blank; rw [h1, h2, h3]
  have H : Hid (Lx.blank c = (decide ((c.toNat : Int) = 32) || decide ((c.toNat : Int) = 9) || decide ((c.toNat : Int) = 10))) := hb
  clear hb
  go_enter Tryz.func126, Tryz.ntmps126
  go_wp2
  all_goals go_ret
  all_goals (refine ⟨ret_bool ?_, rfl⟩; rw [H.out, Bool.eq_iff_iff]; simp <;> omega)
set_option maxHeartbeats 400000 in
theorem inLine_any (c : UInt8) (w : World) :
    Calls Tryz.prog 128 #[.int .u8 c.toNat] w fun e w' => e = .returned (.bool (Lx.inl c)) ∧ w' = w := by
  have H : Hid (Lx.inl c = !decide ((c.toNat : Int) = 10)) := by
    have h3 : (c == 10) = decide ((c.toNat : Int) = 10) := u8_eq c 10 (by decide)
    show _ = _; unfold Lx.inl bne; rw [h3]
  go_enter Tryz.func128, Tryz.ntmps128
  go_wp2
  all_goals go_ret
  all_goals (refine ⟨ret_bool ?_, rfl⟩; rw [H.out, Bool.eq_iff_iff]; simp <;> omega)
set_option maxHeartbeats 400000 in
theorem isDigit_any (c : UInt8) (w : World) :
    Calls Tryz.prog 129 #[.int .u8 c.toNat] w fun e w' => e = .returned (.bool (Lx.digit c)) ∧ w' = w := by
  have H : Hid (Lx.digit c = (decide (48 ≤ (c.toNat : Int)) && decide ((c.toNat : Int) ≤ 57))) := by
    show _ = _; unfold Lx.digit; congr 1 <;> (rw [decide_eq_decide]; omega)
  go_enter Tryz.func129, Tryz.ntmps129
  go_wp2
  all_goals go_ret
  all_goals (refine ⟨ret_bool ?_, rfl⟩; rw [H.out, Bool.eq_iff_iff]; simp <;> omega)
set_option maxHeartbeats 400000 in
theorem digit_any (c : UInt8) (w : World) :
    Calls Tryz.prog 149 #[.int .u8 c.toNat] w fun e w' => e = .returned (.bool (Lx.digit c)) ∧ w' = w := by
  have H : Hid (Lx.digit c = (decide (48 ≤ (c.toNat : Int)) && decide ((c.toNat : Int) ≤ 57))) := by
    show _ = _; unfold Lx.digit; congr 1 <;> (rw [decide_eq_decide]; omega)
  go_enter Tryz.func149, Tryz.ntmps149
  go_wp2
  all_goals go_ret
  all_goals (refine ⟨ret_bool ?_, rfl⟩; rw [H.out, Bool.eq_iff_iff]; simp <;> omega)
theorem alpha_int (c : UInt8) : Lx.alpha c = ((decide (97 ≤ (c.toNat : Int)) && decide ((c.toNat : Int) ≤ 122)) || (decide (65 ≤ (c.toNat : Int)) && decide ((c.toNat : Int) ≤ 90)) || decide ((c.toNat : Int) = 95)) := by
  have h3 : (c == 95) = decide ((c.toNat : Int) = 95) := u8_eq c 95 (by decide)
  unfold Lx.alpha; rw [h3]
  have a : decide (97 ≤ c.toNat) = decide (97 ≤ (c.toNat : Int)) := by rw [decide_eq_decide]; omega
  have b : decide (c.toNat ≤ 122) = decide ((c.toNat : Int) ≤ 122) := by rw [decide_eq_decide]; omega
  have d : decide (65 ≤ c.toNat) = decide (65 ≤ (c.toNat : Int)) := by rw [decide_eq_decide]; omega
  have e : decide (c.toNat ≤ 90) = decide ((c.toNat : Int) ≤ 90) := by rw [decide_eq_decide]; omega
  rw [a, b, d, e]
set_option maxHeartbeats 400000 in
theorem alpha_any (c : UInt8) (w : World) :
    Calls Tryz.prog 148 #[.int .u8 c.toNat] w fun e w' => e = .returned (.bool (Lx.alpha c)) ∧ w' = w := by
  have H : Hid (Lx.alpha c = _) := alpha_int c
  go_enter Tryz.func148, Tryz.ntmps148
  go_wp2
  all_goals go_ret
  all_goals (refine ⟨ret_bool ?_, rfl⟩; rw [H.out, Bool.eq_iff_iff]; simp <;> omega)
set_option maxHeartbeats 800000 in
theorem isWord_any (c : UInt8) (w : World) :
    Calls Tryz.prog 130 #[.int .u8 c.toNat] w fun e w' => e = .returned (.bool (Lx.word c)) ∧ w' = w := by
  have H : Hid (Lx.alpha c = _) := alpha_int c
  have H2 : Hid (Lx.word c = (Lx.alpha c || Lx.digit c)) := rfl
  go_enter Tryz.func130, Tryz.ntmps130
  go_wp2_with (go_at_call 129; refine (isDigit_any _ _).mono ?_; rintro e w' ⟨rfl, rfl⟩)
  all_goals go_ret
  all_goals (refine ⟨ret_bool ?_, rfl⟩; rw [H2.out, H.out, Bool.eq_iff_iff]; generalize Lx.digit c = d; cases d <;> simp <;> omega)
end Go.Proofs.YtobamalnbjbmiaaGreatDoor
/- pass, skip: where a run ends, where what is nothing ends. -/
namespace Go.Proofs.YtobamalnbjbmiaaGreatDoor
open Go.RowKit

abbrev bs (s : ByteArray) : List UInt8 := s.data.toList
theorem bs_at (s : ByteArray) (k : Nat) (h : k < s.size) : (bs s)[k]? = some s[k] := by
  rw [List.getElem?_eq_getElem (by simpa using h)]; rfl
theorem bs_len (s : ByteArray) : (bs s).length = s.size := by simp
theorem ret_int {k : IntKind} {a b : Int} (h : a = b) : Ending.returned (.int k a) = .returned (.int k b) := by rw [h]

set_option maxHeartbeats 800000 in
theorem pass_inl (s : ByteArray) (a : Nat) (w : World) (hs : s.size ≤ 1000000) (ha : a ≤ s.size) :
    Calls Tryz.prog 127 #[.string s, .int .i64 a, .func (.func 128) #[] #[]] w fun e w' => e = .returned (.int .i64 (Lx.runTo Lx.inl (bs s) a : Nat)) ∧ w' = w := by
  go_enter Tryz.func127, Tryz.ntmps127
  go_wp2
  go_loop [1] (fun i => ∃ k : Nat, k ≤ s.size ∧ i = .int .i64 k ∧ Hid (Lx.runTo Lx.inl (bs s) a = Lx.runTo Lx.inl (bs s) k)) (fun i => s.size - (intOf i).toNat)
  case atStart => exact ⟨a, ha, rfl, rfl⟩
  case round =>
    obtain ⟨k, hk, rfl, hr⟩ := hrel
    by_cases hlt : k < s.size
    · have hc := bs_at s k hlt
      have HC : Hid ((bs s)[k]? = some s[k]) := hc
      clear hc
      by_cases hp : Lx.inl s[k] = true
      · go_wp2_with (go_at_call 128; refine (inLine_any _ _).mono ?_; rintro e w' ⟨rfl, rfl⟩)
        go_round
        case rel => exact ⟨k + 1, by omega, by go_num, hr.out.trans (Lx.runTo_yes HC.out hp)⟩
        case measure => simp [intOf]; omega
      · have hp' : Lx.inl s[k] = false := by simpa using hp
        clear hp
        go_wp2_with (go_at_call 128; refine (inLine_any _ _).mono ?_; rintro e w' ⟨rfl, rfl⟩)
        go_ret
        exact ⟨ret_int (by rw [hr.out, Lx.runTo_no HC.out hp']), rfl⟩
    · go_wp2
      go_ret
      exact ⟨ret_int (by rw [hr.out, Lx.runTo_end (by rw [bs_len]; omega)]), rfl⟩
set_option maxHeartbeats 800000 in
theorem pass_digit (s : ByteArray) (a : Nat) (w : World) (hs : s.size ≤ 1000000) (ha : a ≤ s.size) :
    Calls Tryz.prog 127 #[.string s, .int .i64 a, .func (.func 129) #[] #[]] w fun e w' => e = .returned (.int .i64 (Lx.runTo Lx.digit (bs s) a : Nat)) ∧ w' = w := by
  go_enter Tryz.func127, Tryz.ntmps127
  go_wp2
  go_loop [1] (fun i => ∃ k : Nat, k ≤ s.size ∧ i = .int .i64 k ∧ Hid (Lx.runTo Lx.digit (bs s) a = Lx.runTo Lx.digit (bs s) k)) (fun i => s.size - (intOf i).toNat)
  case atStart => exact ⟨a, ha, rfl, rfl⟩
  case round =>
    obtain ⟨k, hk, rfl, hr⟩ := hrel
    by_cases hlt : k < s.size
    · have hc := bs_at s k hlt
      have HC : Hid ((bs s)[k]? = some s[k]) := hc
      clear hc
      by_cases hp : Lx.digit s[k] = true
      · go_wp2_with (go_at_call 129; refine (isDigit_any _ _).mono ?_; rintro e w' ⟨rfl, rfl⟩)
        go_round
        case rel => exact ⟨k + 1, by omega, by go_num, hr.out.trans (Lx.runTo_yes HC.out hp)⟩
        case measure => simp [intOf]; omega
      · have hp' : Lx.digit s[k] = false := by simpa using hp
        clear hp
        go_wp2_with (go_at_call 129; refine (isDigit_any _ _).mono ?_; rintro e w' ⟨rfl, rfl⟩)
        go_ret
        exact ⟨ret_int (by rw [hr.out, Lx.runTo_no HC.out hp']), rfl⟩
    · go_wp2
      go_ret
      exact ⟨ret_int (by rw [hr.out, Lx.runTo_end (by rw [bs_len]; omega)]), rfl⟩
set_option maxHeartbeats 800000 in
theorem pass_word (s : ByteArray) (a : Nat) (w : World) (hs : s.size ≤ 1000000) (ha : a ≤ s.size) :
    Calls Tryz.prog 127 #[.string s, .int .i64 a, .func (.func 130) #[] #[]] w fun e w' => e = .returned (.int .i64 (Lx.runTo Lx.word (bs s) a : Nat)) ∧ w' = w := by
  go_enter Tryz.func127, Tryz.ntmps127
  go_wp2
  go_loop [1] (fun i => ∃ k : Nat, k ≤ s.size ∧ i = .int .i64 k ∧ Hid (Lx.runTo Lx.word (bs s) a = Lx.runTo Lx.word (bs s) k)) (fun i => s.size - (intOf i).toNat)
  case atStart => exact ⟨a, ha, rfl, rfl⟩
  case round =>
    obtain ⟨k, hk, rfl, hr⟩ := hrel
    by_cases hlt : k < s.size
    · have hc := bs_at s k hlt
      have HC : Hid ((bs s)[k]? = some s[k]) := hc
      clear hc
      by_cases hp : Lx.word s[k] = true
      · go_wp2_with (go_at_call 130; refine (isWord_any _ _).mono ?_; rintro e w' ⟨rfl, rfl⟩)
        go_round
        case rel => exact ⟨k + 1, by omega, by go_num, hr.out.trans (Lx.runTo_yes HC.out hp)⟩
        case measure => simp [intOf]; omega
      · have hp' : Lx.word s[k] = false := by simpa using hp
        clear hp
        go_wp2_with (go_at_call 130; refine (isWord_any _ _).mono ?_; rintro e w' ⟨rfl, rfl⟩)
        go_ret
        exact ⟨ret_int (by rw [hr.out, Lx.runTo_no HC.out hp']), rfl⟩
    · go_wp2
      go_ret
      exact ⟨ret_int (by rw [hr.out, Lx.runTo_end (by rw [bs_len]; omega)]), rfl⟩
end Go.Proofs.YtobamalnbjbmiaaGreatDoor
/- skip: where what is nothing ends. -/
namespace Go.Proofs.YtobamalnbjbmiaaGreatDoor
open Go.RowKit

set_option maxHeartbeats 1600000 in
theorem skip_any (s : ByteArray) (a : Nat) (w : World) (hs : s.size ≤ 1000000) (ha : a ≤ s.size) :
    Calls Tryz.prog 77 #[.string s, .int .i64 a] w fun e w' => e = .returned (.int .i64 (Lx.skipTo (bs s) a : Nat)) ∧ w' = w := by
  go_enter Tryz.func77, Tryz.ntmps77
  go_wp2
  go_loop [1] (fun i => ∃ k : Nat, k ≤ s.size ∧ i = .int .i64 k ∧ Hid (Lx.skipTo (bs s) a = Lx.skipTo (bs s) k)) (fun i => s.size - (intOf i).toNat)
  case atStart => exact ⟨a, ha, rfl, rfl⟩
  case round =>
    obtain ⟨k, hk, rfl, hr⟩ := hrel
    by_cases hlt : k < s.size
    · have HC : Hid ((bs s)[k]? = some s[k]) := bs_at s k hlt
      by_cases hb : Lx.blank s[k] = true
      · go_wp2_with (go_at_call 126; refine (isBlank_any s[k] _).mono ?_; rintro e w' ⟨rfl, rfl⟩)
        go_round
        case rel => exact ⟨k + 1, by omega, by go_num, hr.out.trans (Lx.skipTo_blank HC.out hb)⟩
        case measure => simp [intOf]; omega
      · have hb' : Lx.blank s[k] = false := by simpa using hb
        clear hb
        by_cases h35 : (s[k].toNat : Int) = 35
        · have HH : Hid ((bs s)[k]? = some 35) := by
            rw [Hid, HC.out]; congr 1; apply UInt8.toNat_inj.1; show _ = 35; omega
          have hle := Lx.runTo_le (p := Lx.inl) (s := bs s) (k := k) (by rw [bs_len]; omega)
          rw [bs_len] at hle
          have hgt := Lx.runTo_remark_lt HH.out
          have H35 : Hid ((s[k].toNat : Int) = 35) := h35
          clear h35
          go_wp2_with (first | (go_at_call 126; refine (isBlank_any s[k] _).mono ?_; rintro e w' ⟨rfl, rfl⟩; have h35 := H35.out) | (go_at_call 127; refine (pass_inl s k _ hs (by omega)).mono ?_; rintro e w' ⟨rfl, rfl⟩))
          go_round
          case rel => exact ⟨_, hle.2, rfl, hr.out.trans (Lx.skipTo_remark HH.out)⟩
          case measure => simp [intOf]; omega
        · have hn : s[k] ≠ 35 := fun h => h35 (by rw [h]; rfl)
          have HN : Hid (s[k] ≠ 35) := hn
          clear hn
          go_wp2_with (first | (go_at_call 126; refine (isBlank_any s[k] _).mono ?_; rintro e w' ⟨rfl, rfl⟩))
          go_ret
          exact ⟨ret_int (by rw [hr.out, Lx.skipTo_no HC.out hb' HN.out]), rfl⟩
    · go_wp2
      go_ret
      exact ⟨ret_int (by rw [hr.out, Lx.skipTo_end (by rw [bs_len]; omega)]), rfl⟩
end Go.Proofs.YtobamalnbjbmiaaGreatDoor
/- The library's contracts (strings.HasPrefix, Clone) at this program: laid, no walk. -/
namespace Go.Proofs
open Go.Shelf
def Tryz.laysM316_ren : Go.Shelf.Ren := ⟨fun | 316 => 132 | n => n, fun | 9 => 9 | 3 => 3 | 4 => 4 | 37 => 123 | 0 => 0 | 127 => 247 | 5 => 5 | n => n, fun | n => n⟩
theorem Tryz.laysM316 : Go.Proofs.LaysM.n316 Tryz.prog Tryz.laysM316_ren := {
  mixed := by kernel_rfl
  f316 := Tryz.func132.trans (congrArg some (by kernel_rfl))
  t0 := Tryz.underlying0
  a0 := Tryz.isAgg0
  z0 := Tryz.sizeOf0
  v0 := Tryz.zeroValue0
  t3 := Tryz.underlying3
  a3 := Tryz.isAgg3
  z3 := Tryz.sizeOf3
  v3 := Tryz.zeroValue3
  t4 := Tryz.underlying4
  a4 := Tryz.isAgg4
  z4 := Tryz.sizeOf4
  v4 := Tryz.zeroValue4
  t9 := Tryz.underlying9
  a9 := Tryz.isAgg9
  z9 := Tryz.sizeOf9
  v9 := Tryz.zeroValue9
  t37 := Tryz.underlying123
  a37 := Tryz.isAgg123
  z37 := Tryz.sizeOf123
  v37 := Tryz.zeroValue123
  t127 := Tryz.underlying247
  a127 := Tryz.isAgg247
  z127 := Tryz.sizeOf247
  v127 := Tryz.zeroValue247
  t5 := Tryz.underlying5
  a5 := Tryz.isAgg5
  z5 := Tryz.sizeOf5
  v5 := Tryz.zeroValue5
  i0 := by kernel_rfl
  i3 := by kernel_rfl
  i4 := by kernel_rfl
  i5 := by kernel_rfl
  i9 := by kernel_rfl
  i37 := by kernel_rfl
  i127 := by kernel_rfl }
open Go.RowKit in
theorem Tryz.stringslite_Clone (s : ByteArray) (w : World) (hlim : s.size ≤ 281474976710656) :
    Calls Tryz.prog 132 #[.string s] w fun e w' => e = .returned (.string s) ∧ Below w.heap.size w w' := Any.stringslite_Clone Tryz.laysM316 s w hlim
def Tryz.lays99_ren : Go.Shelf.Ren := ⟨fun | 99 => 131 | 206 => 171 | n => n, fun | 9 => 9 | 4 => 4 | 3 => 3 | n => n, fun | n => n⟩
theorem Tryz.lays99 : Go.Proofs.Lays.n99 Tryz.prog Tryz.lays99_ren := {
  mixed := by kernel_rfl
  f99 := Tryz.func131.trans (congrArg some (by kernel_rfl))
  f206 := Tryz.func171.trans (congrArg some (by kernel_rfl))
  t3 := Tryz.underlying3
  a3 := Tryz.isAgg3
  z3 := Tryz.sizeOf3
  v3 := Tryz.zeroValue3
  t4 := Tryz.underlying4
  a4 := Tryz.isAgg4
  z4 := Tryz.sizeOf4
  v4 := Tryz.zeroValue4
  t9 := Tryz.underlying9
  a9 := Tryz.isAgg9
  z9 := Tryz.sizeOf9
  v9 := Tryz.zeroValue9 }
open Go.RowKit Go.Lib in
theorem Tryz.strings_HasPrefix (s p : ByteArray) (w : World) :
    Calls Tryz.prog 131 #[.string s, .string p] w fun e w' => e = .returned (.bool (Lib.hasPrefix s.data.toList p.data.toList)) ∧ w' = w := Any.strings_HasPrefix Tryz.lays99 s p w
end Go.Proofs
