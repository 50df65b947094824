/- strconv.ParseInt at this program: laid, no walk. -/
import Derived.Shelf.LaysC
import Derived.Shelf.Strconv.ParseIntPublic10
import Derived.Test.YtanlfmhlohcmgaaGreatDoorProg
import Derived.Test.YtanlfmhlohcmgaaGreatDoorJPrd
import Derived.Lib.AtoiErrMem
namespace Go.Proofs
open Go.Shelf
def Tryz.laysC174_ren : Go.Shelf.Ren := ⟨fun | 174 => 101 | 247 => 113 | 245 => 114 | 287 => 122 | 279 => 123 | 280 => 124 | 281 => 125 | 282 => 126 | 321 => 142 | 322 => 143 | 316 => 84 | 171 => 145 | 205 => 144 | 243 => 148 | 246 => 150 | 283 => 151 | 284 => 152 | 285 => 153 | 286 => 154 | 129 => 156 | 317 => 155 | 318 => 157 | 319 => 158 | 320 => 159 | 337 => 160 | 338 => 161 | n => n, fun | 9 => 9 | 3 => 3 | 2 => 2 | 75 => 34 | 85 => 175 | 4 => 4 | 167 => 189 | 5 => 5 | 53 => 190 | 175 => 191 | 46 => 193 | 168 => 194 | 37 => 173 | 0 => 0 | 210 => 204 | 21 => 21 | 127 => 174 | 145 => 208 | 143 => 206 | 171 => 215 | 173 => 218 | 212 => 222 | 51 => 223 | 20 => 20 | 213 => 224 | 232 => 228 | 233 => 229 | 80 => 100 | n => n, fun | 15 => 6 | 16 => 7 | 17 => 10 | 18 => 11 | 19 => 12 | n => n⟩
theorem Tryz.laysC174 : Go.Proofs.LaysC.n174 Tryz.prog Tryz.laysC174_ren := {
  mixed := by kernel_rfl
  f129 := Tryz.func156.trans (congrArg some (by kernel_rfl))
  f171 := Tryz.func145.trans (congrArg some (by kernel_rfl))
  f174 := Tryz.func101.trans (congrArg some (by kernel_rfl))
  f205 := Tryz.func144.trans (congrArg some (by kernel_rfl))
  f243 := Tryz.func148.trans (congrArg some (by kernel_rfl))
  f245 := Tryz.func114.trans (congrArg some (by kernel_rfl))
  f246 := Tryz.func150.trans (congrArg some (by kernel_rfl))
  f247 := Tryz.func113.trans (congrArg some (by kernel_rfl))
  f279 := Tryz.func123.trans (congrArg some (by kernel_rfl))
  f280 := Tryz.func124.trans (congrArg some (by kernel_rfl))
  f281 := Tryz.func125.trans (congrArg some (by kernel_rfl))
  f282 := Tryz.func126.trans (congrArg some (by kernel_rfl))
  f283 := Tryz.func151.trans (congrArg some (by kernel_rfl))
  f284 := Tryz.func152.trans (congrArg some (by kernel_rfl))
  f285 := Tryz.func153.trans (congrArg some (by kernel_rfl))
  f286 := Tryz.func154.trans (congrArg some (by kernel_rfl))
  f287 := Tryz.func122.trans (congrArg some (by kernel_rfl))
  f316 := Tryz.func84.trans (congrArg some (by kernel_rfl))
  f317 := Tryz.func155.trans (congrArg some (by kernel_rfl))
  f318 := Tryz.func157.trans (congrArg some (by kernel_rfl))
  f319 := Tryz.func158.trans (congrArg some (by kernel_rfl))
  f320 := Tryz.func159.trans (congrArg some (by kernel_rfl))
  f321 := Tryz.func142.trans (congrArg some (by kernel_rfl))
  f322 := Tryz.func143.trans (congrArg some (by kernel_rfl))
  f337 := Tryz.func160.trans (congrArg some (by kernel_rfl))
  f338 := Tryz.func161.trans (congrArg some (by kernel_rfl))
  t0 := Tryz.underlying0
  a0 := Tryz.isAgg0
  z0 := Tryz.sizeOf0
  v0 := Tryz.zeroValue0
  t2 := Tryz.underlying2
  a2 := Tryz.isAgg2
  z2 := Tryz.sizeOf2
  v2 := Tryz.zeroValue2
  t3 := Tryz.underlying3
  a3 := Tryz.isAgg3
  z3 := Tryz.sizeOf3
  v3 := Tryz.zeroValue3
  t4 := Tryz.underlying4
  a4 := Tryz.isAgg4
  z4 := Tryz.sizeOf4
  v4 := Tryz.zeroValue4
  t5 := Tryz.underlying5
  a5 := Tryz.isAgg5
  z5 := Tryz.sizeOf5
  v5 := Tryz.zeroValue5
  t9 := Tryz.underlying9
  a9 := Tryz.isAgg9
  z9 := Tryz.sizeOf9
  v9 := Tryz.zeroValue9
  t20 := Tryz.underlying20
  a20 := Tryz.isAgg20
  z20 := Tryz.sizeOf20
  v20 := Tryz.zeroValue20
  t21 := Tryz.underlying21
  a21 := Tryz.isAgg21
  z21 := Tryz.sizeOf21
  v21 := Tryz.zeroValue21
  t37 := Tryz.underlying173
  a37 := Tryz.isAgg173
  z37 := Tryz.sizeOf173
  v37 := Tryz.zeroValue173
  t46 := Tryz.underlying193
  a46 := Tryz.isAgg193
  z46 := Tryz.sizeOf193
  v46 := Tryz.zeroValue193
  t51 := Tryz.underlying223
  a51 := Tryz.isAgg223
  z51 := Tryz.sizeOf223
  v51 := Tryz.zeroValue223
  t53 := Tryz.underlying190
  a53 := Tryz.isAgg190
  z53 := Tryz.sizeOf190
  v53 := Tryz.zeroValue190
  t75 := Tryz.underlying34
  a75 := Tryz.isAgg34
  z75 := Tryz.sizeOf34
  v75 := Tryz.zeroValue34
  t85 := Tryz.underlying175
  a85 := Tryz.isAgg175
  z85 := Tryz.sizeOf175
  v85 := Tryz.zeroValue175
  t127 := Tryz.underlying174
  a127 := Tryz.isAgg174
  z127 := Tryz.sizeOf174
  v127 := Tryz.zeroValue174
  t143 := Tryz.underlying206
  a143 := Tryz.isAgg206
  z143 := Tryz.sizeOf206
  v143 := Tryz.zeroValue206
  t145 := Tryz.underlying208
  a145 := Tryz.isAgg208
  z145 := Tryz.sizeOf208
  v145 := Tryz.zeroValue208
  t167 := Tryz.underlying189
  a167 := Tryz.isAgg189
  z167 := Tryz.sizeOf189
  v167 := Tryz.zeroValue189
  t168 := Tryz.underlying194
  a168 := Tryz.isAgg194
  z168 := Tryz.sizeOf194
  v168 := Tryz.zeroValue194
  t171 := Tryz.underlying215
  a171 := Tryz.isAgg215
  z171 := Tryz.sizeOf215
  v171 := Tryz.zeroValue215
  t173 := Tryz.underlying218
  a173 := Tryz.isAgg218
  z173 := Tryz.sizeOf218
  v173 := Tryz.zeroValue218
  t175 := Tryz.underlying191
  a175 := Tryz.isAgg191
  z175 := Tryz.sizeOf191
  v175 := Tryz.zeroValue191
  t210 := Tryz.underlying204
  a210 := Tryz.isAgg204
  z210 := Tryz.sizeOf204
  v210 := Tryz.zeroValue204
  t212 := Tryz.underlying222
  a212 := Tryz.isAgg222
  z212 := Tryz.sizeOf222
  v212 := Tryz.zeroValue222
  t213 := Tryz.underlying224
  a213 := Tryz.isAgg224
  z213 := Tryz.sizeOf224
  t232 := Tryz.underlying228
  a232 := Tryz.isAgg228
  z232 := Tryz.sizeOf228
  v232 := Tryz.zeroValue228
  t233 := Tryz.underlying229
  a233 := Tryz.isAgg229
  z233 := Tryz.sizeOf229
  v233 := Tryz.zeroValue229
  g15 := by kernel_rfl
  g16 := by kernel_rfl
  g17 := by kernel_rfl
  g18 := by kernel_rfl
  g19 := by kernel_rfl
  t80 := Tryz.underlying100
  a80 := Tryz.isAgg100
  z80 := Tryz.sizeOf100
  v80 := Tryz.zeroValue100
  i0 := by kernel_rfl
  i2 := by kernel_rfl
  i3 := by kernel_rfl
  i4 := by kernel_rfl
  i5 := by kernel_rfl
  i9 := by kernel_rfl
  i20 := by kernel_rfl
  i21 := by kernel_rfl
  i37 := by kernel_rfl
  i46 := by kernel_rfl
  i51 := by kernel_rfl
  i53 := by kernel_rfl
  i75 := by kernel_rfl
  i80 := by kernel_rfl
  i85 := by kernel_rfl
  i127 := by kernel_rfl
  i143 := by kernel_rfl
  i145 := by kernel_rfl
  i167 := by kernel_rfl
  i168 := by kernel_rfl
  i171 := by kernel_rfl
  i173 := by kernel_rfl
  i175 := by kernel_rfl
  i210 := by kernel_rfl
  i212 := by kernel_rfl
  i232 := by kernel_rfl
  i233 := by kernel_rfl
  m15 := by kernel_rfl
  m16 := by kernel_rfl
  m17 := by kernel_rfl
  m18 := by kernel_rfl
  m19 := by kernel_rfl
  c0 := by kernel_rfl
  c2 := by kernel_rfl
  c3 := by kernel_rfl
  c4 := by kernel_rfl
  c5 := by kernel_rfl
  c9 := by kernel_rfl
  c20 := by kernel_rfl
  c21 := by kernel_rfl
  c37 := by kernel_rfl
  c46 := by kernel_rfl
  c51 := by kernel_rfl
  c53 := by kernel_rfl
  c75 := by kernel_rfl
  c80 := by kernel_rfl
  c85 := by kernel_rfl
  c127 := by kernel_rfl
  c143 := by kernel_rfl
  c145 := by kernel_rfl
  c167 := by kernel_rfl
  c168 := by kernel_rfl
  c171 := by kernel_rfl
  c173 := by kernel_rfl
  c175 := by kernel_rfl
  c210 := by kernel_rfl
  c212 := by kernel_rfl
  c213 := by kernel_rfl
  c232 := by kernel_rfl
  c233 := by kernel_rfl }
open Go.RowKit in
theorem Tryz.strconv_ParseInt_10_at64_ok (s : ByteArray) (hmax : s.size ≤ 9223372036854775806) (v : Int) (h : Lib.parseIntB 64 s.data.toList = .ok v) (w : World) :
    Calls Tryz.prog 101 #[.string s, .int .i64 10, .int .i64 64] w fun e w' => e = .returned (.tuple #[.int .i64 v, .nilIface]) ∧ (w' = w ∨ ∃ t, w' = Lib.bytesWorld w 5 t) := Any.strconv_ParseInt_10_at64_ok Tryz.laysC174 s hmax v h w
end Go.Proofs
/- Expressions: chain and one, by the depths that are left. -/
namespace Go.Proofs.YtanlfmhlohcmgaaGreatDoor
open Go.RowKit Px

/-- blocks from a number on -/
def Ge (n b : Nat) : Prop := n ≤ b
theorem keepGe {C : Ctx} {n : Nat} {w w' : World} (hn : C.rb < n) (hf : Fr w.heap.size [C.rb] w w') : Keep (Ge n) (Ge n) w w' := hf.keep (fun b hb => by simp [Ge] at *; omega)
theorem IsE.ge {n m : Nat} {w : World} {e : E} {v : Value} (h : IsE (Ge m) w e v) (hn : n ≤ m) : IsE (Ge n) w e v := h.carry (fun _ hb _ => ⟨Nat.le_trans hn hb, rfl⟩)
theorem keepAll {A : Nat → Prop} {w w' : World} (hf : Fr w.heap.size [] w w') : Keep A A w w' := hf.keep (by simp)
/-- an expression was read: what it is, and up to where -/
def OkE (C : Ctx) (w : World) (st ins und : Nat) (p : E × Nat) (v : Value) (w' : World) : Prop := IsE (Ge w.heap.size) w' p.1 v ∧ PS C w' p.2 st ins und
def One (C : Ctx) (k : Nat) : Prop := ∀ (w : World) (i st ins und : Nat), und + k = 7 → PS C w i st ins und → Calls Tryz.prog 146 #[.pointer (some ⟨C.rb, 0, none⟩)] w (Out C (OkE C w st ins und) w (one C.L k i))
def Chain (C : Ctx) (k t : Nat) : Prop := ∀ (w : World) (i st ins und : Nat), und + k = 7 → PS C w i st ins und → Calls Tryz.prog 128 #[.pointer (some ⟨C.rb, 0, none⟩), .int .i64 ((5 - t : Nat) : Int)] w (Out C (OkE C w st ins und) w (lev C.L (one C.L k) t i))
theorem Out.of {C : Ctx} {α : Type} {ok : α → Value → World → Prop} {w w1 : World} {r : Except F α} {e : Ending} {w' : World} (hf : Fr w.heap.size [C.rb] w w1) (h : Out C ok w1 r e w') : Out C ok w r e w' := by
  cases r with
  | error f => exact Thrown.up hf h
  | ok a => obtain ⟨v, h1, h2, h3⟩ := h; exact ⟨v, h1, h2, hf.up h3⟩
theorem text_is {C : Ctx} {w : World} {i st ins und : Nat} (h : PS C w i st ins und) (tb : ByteArray) (htb : Hid (bs tb = tx C.L i)) : Calls Tryz.prog 57 #[.pointer (some ⟨C.rb, 0, none⟩)] w fun e w' => e = .returned (.string tb) ∧ PS C w' i st ins und ∧ Fr w.heap.size [] w w' := by
  refine (text_any h).mono ?_
  rintro e w' ⟨rfl, h1, h2⟩
  exact ⟨by rw [sv, ← htb.out], h1, h2⟩
theorem codeBetween_is {C : Ctx} {w : World} {i st ins und : Nat} (h : PS C w i st ins und) (tb : ByteArray) (t c : Nat) (ht : t < 5) (hc : Hid (codeAt t (bs tb) = c)) : Calls Tryz.prog 147 #[.string tb, .int .i64 t] w fun e w' => e = .returned (.int .i64 c) ∧ PS C w' i st ins und ∧ Fr w.heap.size [] w w' := by
  refine (codeBetween_any tb t ht w h.tab).mono ?_
  rintro e w' ⟨rfl, hb⟩
  have hf := Fr.of_below hb []
  exact ⟨by rw [hc.out], h.same hf, hf⟩

theorem Out.cases {C : Ctx} {α : Type} {ok : α → Value → World → Prop} {w : World} {r : Except F α} {e : Ending} {w' : World} (h : Out C ok w r e w') : (∃ f, Hid (r = .error f) ∧ Thrown C w f e w') ∨ (∃ a v, Hid (r = .ok a) ∧ e = .returned v ∧ ok a v w' ∧ Fr w.heap.size [C.rb] w w') := by
  cases r with
  | error f => exact .inl ⟨f, rfl, h⟩
  | ok a => obtain ⟨v, h1, h2, h3⟩ := h; exact .inr ⟨a, v, rfl, h1, h2, h3⟩

set_option maxRecDepth 100000 in
set_option maxHeartbeats 1000000 in
theorem chain_zero {C : Ctx} {k : Nat} (ho : One C k) : Chain C k 0 := by
  intro w i st ins und hu h
  go_enter Tryz.func128, Tryz.ntmps128
  go_wp2_with (go_at_call 146; refine (ho w i st ins und hu h).mono ?_; rintro e w1 h1; rcases h1.cases with ⟨f, hr, q, rfl, hq⟩ | ⟨p, v, hr, rfl, hv, hf⟩; · exact ⟨rfl, by rw [lev, hr.out]; exact ⟨q, rfl, hq⟩⟩)
  go_ret
  rw [lev, hr.out]
  exact ⟨v, rfl, hv, hf⟩

/-- a pair of a code and a new block -/
theorem isE_two {w : World} {c B n : Nat} {l r : E} {lv rv : Value} (hn : w.heap.size = n) (hB : B ≤ n) (hl : IsE (Ge B) w l lv) (hr : IsE (Ge B) w r rv) :
    IsE (Ge B) (w.alloc (.cells #[.int .i64 c, .int .i64 0, .string ⟨#[]⟩, lv, rv] 157)) (eTwo c l r) (.pointer (some ⟨n, 0, none⟩)) := by
  subst hn
  have k : Keep (Ge B) (Ge B) w (w.alloc (.cells #[.int .i64 c, .int .i64 0, .string ⟨#[]⟩, lv, rv] 157)) := fun b ha hb => ⟨ha, Below.heap_alloc _ _ _ hb⟩
  exact ⟨w.heap.size, lv, rv, rfl, hB, heap_alloc_new w _, hl.carry k, hr.carry k⟩
theorem IsE.ptr {A : Nat → Prop} {w : World} {e : E} {v : Value} (h : IsE A w e v) : ∃ u, v = .pointer u := by
  cases e with
  | nil => exact ⟨none, h⟩
  | node b o a l r => obtain ⟨g, lv, rv, rfl, _⟩ := h; exact ⟨_, rfl⟩
theorem Fr.wide {B : Nat} {X : List Nat} {w w' : World} (h : Fr B [] w w') : Fr B X w w' := h.mono (Nat.le_refl _) (by simp)
theorem chainF_le {L : List Lx.Tok} {below : Nat → Except F (E × Nat)} {code : Str → Nat} (hb : ∀ i e j, below i = .ok (e, j) → i < j) : ∀ (f : Nat) (e : E) (i : Nat) (e' : E) (j : Nat), chainF L below code f e i = .ok (e', j) → i ≤ j := by
  intro f
  induction f with
  | zero => intro e i e' j h; rw [chainF] at h; injection h with h; injection h with _ h2; omega
  | succ f ih =>
    intro e i e' j h
    rw [chainF] at h
    split at h
    · injection h with h; injection h with _ h2; omega
    · split at h
      · exact absurd h (by simp)
      · rename_i r m hm
        have h1 := hb _ _ _ hm
        have h2 := ih _ _ _ _ h
        omega
theorem lev_lt {L : List Lx.Tok} {one : Nat → Except F (E × Nat)} (ho : ∀ i e j, one i = .ok (e, j) → i < j) : ∀ (t i : Nat) (e : E) (j : Nat), lev L one t i = .ok (e, j) → i < j := by
  intro t
  induction t with
  | zero => exact ho
  | succ t ih =>
    intro i e j h
    rw [lev, chain] at h
    split at h
    · exact absurd h (by simp)
    · rename_i e1 m hm
      have h1 := ih _ _ _ hm
      have h2 := chainF_le ih _ _ _ _ _ h
      omega
theorem one_lt {L : List Lx.Tok} : ∀ (k i : Nat) (e : E) (j : Nat), one L k i = .ok (e, j) → i < j := by
  intro k
  induction k with
  | zero => intro i e j h; rw [one] at h; exact absurd h (by simp)
  | succ k ih =>
    intro i e j h
    rw [one] at h
    split at h
    · split at h
      · exact absurd h (by simp)
      · rename_i m hm
        have := ih _ _ _ hm
        injection h with h; injection h with _ h2; omega
    · split at h
      · split at h
        · exact absurd h (by simp)
        · rename_i m hm
          have := lev_lt ih _ _ _ _ hm
          split at h
          · injection h with h; injection h with _ h2; omega
          · exact absurd h (by simp)
      · split at h
        · split at h
          · split at h
            · exact absurd h (by simp)
            · split at h
              · injection h with h; injection h with _ h2; omega
              · exact absurd h (by simp)
          · exact absurd h (by simp)
        · split at h
          · injection h with h; injection h with _ h2; omega
          · split at h
            · exact absurd h (by simp)
            · injection h with h; injection h with _ h2; omega

set_option maxRecDepth 100000 in
set_option maxHeartbeats 2000000 in
theorem chain_succ {C : Ctx} {k t : Nat} (ht : t < 5) (hc : Chain C k t) : Chain C k (t + 1) := by
  intro w i st ins und hu h
  have ht0 : ((5 - (t + 1) : Nat) : Int) + 1 = ((5 - t : Nat) : Int) := by omega
  have hne : ¬ ((5 - (t + 1) : Nat) : Int) = 5 := by omega
  have hne' : (((5 - (t + 1) : Nat) : Int) == 5) = false := by simpa using hne
  obtain ⟨t', ht'⟩ : ∃ t', Hid (t' = 5 - (t + 1)) := ⟨_, rfl⟩
  have hlt5 : t' < 5 := by have := ht'.out; omega
  have ht4 : Hid (t' = 4 - t) := by rw [Hid, ht'.out]; omega
  rw [← ht'.out] at ht0 hne hne' ⊢
  have hcall : ∀ (w : World) (i st ins und : Nat), und + k = 7 → PS C w i st ins und → Calls Tryz.prog 128 #[.pointer (some ⟨C.rb, 0, none⟩), .int .i64 ((t' : Int) + 1)] w (Out C (OkE C w st ins und) w (lev C.L (one C.L k) t i)) := fun w i st ins und hu h => by
    rw [ht0]; exact hc w i st ins und hu h
  clear ht0
  go_enter Tryz.func128, Tryz.ntmps128
  go_wp2_with (go_at_call 128; refine (hcall w i st ins und hu h).mono ?_; rintro e w1 h1; rcases h1.cases with ⟨f, hr, q, rfl, hq⟩ | ⟨⟨e0, i0⟩, v, hr, rfl, ⟨hv, h1⟩, hf⟩; · exact ⟨rfl, by rw [lev, chain, hr.out]; exact ⟨q, rfl, hq⟩⟩)
  have HR : Hid (lev C.L (one C.L k) (t + 1) i = chainF C.L (lev C.L (one C.L k) t) (codeAt t') C.L.length e0 i0) := by
    rw [Hid, lev, chain, hr.out, ht4.out]
  go_loopg [5] C.L.length (fun g v wr => ∃ (e : E) (j : Nat), Hid (lev C.L (one C.L k) (t + 1) i = chainF C.L (lev C.L (one C.L k) t) (codeAt t') g e j) ∧ C.L.length ≤ g + j ∧ IsE (Ge w.heap.size) wr e v ∧ PS C wr j st ins und ∧ Fr w.heap.size [C.rb] w wr)
  case atStart => exact ⟨e0, i0, HR, by omega, hv, h1, hf⟩
  case round =>
    obtain ⟨e1, j, hr1, hg, hv1, hp1, hf1⟩ := hrel
    obtain ⟨p1, rfl⟩ := hv1.ptr
    obtain ⟨tb, htb⟩ : ∃ tb : ByteArray, Hid (bs tb = tx C.L j) := ⟨⟨(tx C.L j).toArray⟩, rfl⟩
    obtain ⟨c, hcc⟩ : ∃ c, Hid (codeAt t' (bs tb) = c) := ⟨_, rfl⟩
    have hcc' : Hid (codeAt t' (tx C.L j) = c) := by rw [Hid, ← htb.out]; exact hcc.out
    obtain ⟨g', hgg⟩ : ∃ g', gk = g' + 1 := ⟨gk - 1, by have := hp1.lt; omega⟩
    subst hgg
    have hjl := hp1.lt
    have hl6 := hp1.wf.len
    by_cases hc0 : c = 0
    · subst hc0
      have HE : Hid (lev C.L (one C.L k) (t + 1) i = .ok (e1, j)) := by rw [Hid, hr1.out, chainF, if_pos hcc'.out]
      go_wp2_with (first
        | (go_at_call 57; refine (text_is hp1 tb htb).mono ?_; rintro e w2 ⟨rfl, hp2, hf2⟩)
        | (go_at_call 147; refine (codeBetween_is hp2 tb t' 0 hlt5 hcc).mono ?_; rintro e w3 ⟨rfl, hp3, hf3⟩))
      go_ret
      rw [HE.out]
      refine ⟨_, rfl, ⟨?_, hp3⟩, ?_⟩
      · exact (hv1.carry (keepAll hf2)).carry (keepAll hf3)
      · exact (hf1.up hf2.wide).up hf3.wide
    · have hc1 : ¬ (c : Int) = 0 := by omega
      have hc2 : ((c : Int) == 0) = false := by simpa using hc1
      have hne2 : tx C.L j ≠ [] := by
        intro e; rw [e] at hcc'
        have : ∀ t : Fin 5, codeAt t.val [] = 0 := by decide
        exact hc0 (by rw [← hcc'.out]; exact this ⟨t', hlt5⟩)
      have hnx := hp1.wf.next hp1.lt hne2
      clear hne2
      go_wp2_with (first
        | (go_at_call 57; refine (text_is hp1 tb htb).mono ?_; rintro e w2 ⟨rfl, hp2, hf2⟩)
        | (go_at_call 147; refine (codeBetween_is hp2 tb t' c hlt5 hcc).mono ?_; rintro e w3 ⟨rfl, hp3, hf3⟩; obtain ⟨-, c1, -⟩ := hp3.cells; have z1 := hp3.frozen 1; obtain ⟨hp4, hf4⟩ := hp3.step hnx; have hl3 := hp3.lts.1)
        | (go_at_call 128; refine (hcall _ (j + 1) st ins und hu hp4).mono ?_; rintro e w5 h5; rcases h5.cases with ⟨f, hr5, q, rfl, hq⟩ | ⟨⟨e5, i5⟩, v5, hr5, rfl, ⟨hv5, hp5⟩, hf5⟩; (· exact ⟨rfl, by rw [hr1.out, chainF, if_neg (by rw [hcc'.out]; exact hc0), hr5.out]; exact Thrown.up (((hf1.up hf2.wide).up hf3.wide).up hf4) ⟨q, rfl, hq⟩⟩); obtain ⟨p5, rfl⟩ := hv5.ptr))
      have hF : Fr w.heap.size [C.rb] w w5 := (((hf1.up hf2.wide).up hf3.wide).up hf4).up hf5
      have hF2 := hF.size
      have hi5 : j + 1 < i5 := lev_lt (one_lt k) _ _ _ _ hr5.out
      have hC := h.lts.1
      have hvv : IsE (Ge w.heap.size) w5 e1 _ := ((((hv1.carry (keepAll hf2)).carry (keepAll hf3)).carry (keepGe hC hf4)).carry (keepGe hC hf5))
      have hv6 := hv5.ge ((((hf1.up hf2.wide).up hf3.wide).up hf4).size)
      go_roundg g'
      case measure => omega
      case rel => exact ⟨eTwo c e1 e5, i5, by rw [Hid, hr1.out, chainF, if_neg (by rw [hcc'.out]; exact hc0), hr5.out, hcc'.out], by omega, isE_two rfl (by omega) hvv hv6, hp5.same ((Fr.refl _ _ _).alloc (Nat.le_refl _) _), hF.alloc (by omega) _⟩
end Go.Proofs.YtanlfmhlohcmgaaGreatDoor
/- Expressions: one, and so all of them. -/
namespace Go.Proofs.YtanlfmhlohcmgaaGreatDoor
open Go.RowKit Px

theorem codeAhead_is {C : Ctx} {w : World} {i st ins und : Nat} (h : PS C w i st ins und) (tb : ByteArray) (c : Nat) (hc : Hid (codeAhead (bs tb) = c)) : Calls Tryz.prog 149 #[.string tb] w fun e w' => e = .returned (.int .i64 c) ∧ PS C w' i st ins und ∧ Fr w.heap.size [] w w' := by
  refine (codeAhead_any tb w h.tab).mono ?_
  rintro e w' ⟨rfl, hb⟩
  have hf := Fr.of_below hb []
  exact ⟨by rw [hc.out], h.same hf, hf⟩
set_option maxHeartbeats 400000 in
theorem loosest_of {C : Ctx} {k : Nat} (hc : Chain C k 5) (w : World) (i st ins und : Nat) (hu : und + k = 7) (h : PS C w i st ins und) : Calls Tryz.prog 118 #[.pointer (some ⟨C.rb, 0, none⟩)] w (Out C (OkE C w st ins und) w (lev C.L (one C.L k) 5 i)) := by
  have hc0 := hc w i st ins und hu h
  rw [show ((5 - 5 : Nat) : Int) = 0 from rfl] at hc0
  go_enter Tryz.func118, Tryz.ntmps118
  go_wp2_with (go_at_call 128; refine hc0.mono ?_; rintro e w1 h1; rcases h1.cases with ⟨f, hr, q, rfl, hq⟩ | ⟨p, v, hr, rfl, hv, hf⟩; (· exact ⟨rfl, by rw [hr.out]; exact ⟨q, rfl, hq⟩⟩))
  go_ret
  rw [hr.out]
  exact ⟨v, rfl, hv, hf⟩

/-- a leaf, in a new block -/
theorem isE_leaf {w : World} {c B n : Nat} {m : Int} {s : Str} {sb : ByteArray} (hn : w.heap.size = n) (hB : B ≤ n) (hs : sb = ⟨s.toArray⟩) :
    IsE (Ge B) (w.alloc (.cells #[.int .i64 c, .int .i64 m, .string sb, .pointer none, .pointer none] 157)) (.node 0 0 ⟨c, m, s⟩ .nil .nil) (.pointer (some ⟨n, 0, none⟩)) := by
  subst hn hs
  exact ⟨w.heap.size, _, _, rfl, hB, heap_alloc_new w _, rfl, rfl⟩
theorem isE_one {w : World} {c B n : Nat} {l : E} {lv : Value} (hn : w.heap.size = n) (hB : B ≤ n) (hl : IsE (Ge B) w l lv) :
    IsE (Ge B) (w.alloc (.cells #[.int .i64 c, .int .i64 0, .string ⟨#[]⟩, lv, .pointer none] 157)) (eOne c l) (.pointer (some ⟨n, 0, none⟩)) := by
  subst hn
  have k : Keep (Ge B) (Ge B) w (w.alloc (.cells #[.int .i64 c, .int .i64 0, .string ⟨#[]⟩, lv, .pointer none] 157)) := fun b ha hb => ⟨ha, Below.heap_alloc _ _ _ hb⟩
  exact ⟨w.heap.size, lv, _, rfl, hB, heap_alloc_new w _, hl.carry k, rfl⟩
theorem PS.alloc {C : Ctx} {w : World} {i st ins und : Nat} (h : PS C w i st ins und) (o : Obj) : PS C (w.alloc o) i st ins und ∧ Fr w.heap.size [C.rb] w (w.alloc o) :=
  ⟨h.same ((Fr.refl _ _ _).alloc (Nat.le_refl _) _), (Fr.refl _ _ _).alloc (Nat.le_refl _) _⟩

set_option maxRecDepth 100000 in
set_option maxHeartbeats 1000000 in
theorem one_zero {C : Ctx} : One C 0 := by
  intro w i st ins und hu h
  obtain ⟨-, -, -, -, c4⟩ := h.cells
  have hb := bound_bad h und 7 (by omega)
  go_enter Tryz.func146, Tryz.ntmps146
  go_wp2_with (go_at_call 58; refine hb.mono ?_; rintro e w1 ⟨q, rfl, hq⟩; exact ⟨rfl, by rw [one]; exact ⟨q, rfl, hq⟩⟩)

set_option maxRecDepth 100000 in
set_option maxHeartbeats 4000000 in
theorem one_ahead {C : Ctx} {k : Nat} (ho : One C k) (w : World) (i st ins und : Nat) (hu : und + (k + 1) = 7) (h : PS C w i st ins und) (hc0 : codeAhead (tx C.L i) ≠ 0) : Calls Tryz.prog 146 #[.pointer (some ⟨C.rb, 0, none⟩)] w (Out C (OkE C w st ins und) w (one C.L (k + 1) i)) := by
  obtain ⟨-, -, -, -, c4⟩ := h.cells
  obtain ⟨tb, htb⟩ : ∃ tb : ByteArray, Hid (bs tb = tx C.L i) := ⟨⟨(tx C.L i).toArray⟩, rfl⟩
  obtain ⟨c, hcc⟩ : ∃ c, Hid (codeAhead (bs tb) = c) := ⟨_, rfl⟩
  have hcc' : Hid (codeAhead (tx C.L i) = c) := by rw [Hid, ← htb.out]; exact hcc.out
  have hb := fun w => bound_ok (C := C) (w := w) und 7 (by omega)
  have H0 : Hid (codeAhead (tx C.L i) ≠ 0) := hc0
  have hne : tx C.L i ≠ [] := by intro e; rw [e] at hc0; exact hc0 (by decide)
  have hnx := h.wf.next h.lt hne
  have hl6 := h.wf.len
  rw [hcc'.out] at hc0
  have hc1 : ¬ (c : Int) = 0 := by omega
  have hc2 : ((c : Int) != 0) = true := by simpa using hc1
  have HE : ∀ f, Hid (one C.L k (i + 1) = .error f) → Hid (one C.L (k + 1) i = .error f) := fun f hr => by rw [Hid, one, if_pos H0.out, hr.out]
  have HO : ∀ e j, Hid (one C.L k (i + 1) = .ok (e, j)) → Hid (one C.L (k + 1) i = .ok (eOne c e, j)) := fun e j hr => by rw [Hid, one, if_pos H0.out, hr.out, hcc'.out]
  clear hne hc0
  go_enter Tryz.func146, Tryz.ntmps146
  go_wp2_with (first
    | (go_at_call 58; refine (hb _).mono ?_; rintro e w' ⟨rfl, hw⟩; obtain rfl := hw.symm)
    | (go_at_call 57; refine (text_is h tb htb).mono ?_; rintro e w2 ⟨rfl, hp2, hf2⟩)
    | (go_at_call 149; refine (codeAhead_is hp2 tb c hcc).mono ?_; rintro e w3 ⟨rfl, hp3, hf3⟩; obtain ⟨-, d1, -, -, d4⟩ := hp3.cells; have z1 := hp3.frozen 1; have z4 := hp3.frozen 4; obtain ⟨hp4, hf4⟩ := hp3.step hnx; obtain ⟨hp5, hf5⟩ := hp4.down; have hF5 := ((hf2.wide (X := [C.rb])).up hf3.wide).up (hf4.up hf5))
    | (go_at_call 146; refine (ho _ (i + 1) st ins (und + 1) (by omega) hp5).mono ?_; rintro e w6 h6; rcases h6.cases with ⟨f, hr6, q, rfl, hq⟩ | ⟨⟨e6, i6⟩, v6, hr6, rfl, ⟨hv6, hp6⟩, hf6⟩; (· exact ⟨rfl, by rw [(HE _ hr6).out]; exact Thrown.up hF5 ⟨q, rfl, hq⟩⟩); obtain ⟨p6, rfl⟩ := hv6.ptr; obtain ⟨-, -, -, -, b4⟩ := hp6.cells; have y4 := hp6.frozen 4; have l6 := hp6.lts.1))
  go_ret
  rw [(HO _ _ hr6).out]
  obtain ⟨hp7, hf7⟩ := hp6.upAgain
  obtain ⟨hp8, hf8⟩ := hp7.alloc (.cells #[.int .i64 c, .int .i64 0, .string ⟨#[]⟩, .pointer p6, .pointer none] 157)
  exact ⟨_, rfl, ⟨isE_one (by simp) (hF5.up hf6).size ((hv6.ge hF5.size).carry (keepGe h.lts.1 hf7)), hp8⟩, ((hF5.up hf6).up hf7).up hf8⟩

set_option maxRecDepth 100000 in
set_option maxHeartbeats 4000000 in
theorem one_par {C : Ctx} {k : Nat} (hch : Chain C k 5) (w : World) (i st ins und : Nat) (hu : und + (k + 1) = 7) (h : PS C w i st ins und) (hc0 : codeAhead (tx C.L i) = 0) (hpar : tx C.L i = kPar) : Calls Tryz.prog 146 #[.pointer (some ⟨C.rb, 0, none⟩)] w (Out C (OkE C w st ins und) w (one C.L (k + 1) i)) := by
  obtain ⟨-, -, -, -, c4⟩ := h.cells
  obtain ⟨tb, htb⟩ : ∃ tb : ByteArray, Hid (bs tb = tx C.L i) := ⟨⟨(tx C.L i).toArray⟩, rfl⟩
  have hcc : Hid (codeAhead (bs tb) = 0) := by rw [Hid, htb.out]; exact hc0
  have hb := fun w => bound_ok (C := C) (w := w) und 7 (by omega)
  have HE : ∀ f, Hid (lev C.L (one C.L k) 5 (i + 1) = .error f) → Hid (one C.L (k + 1) i = .error f) := fun f hr => by rw [Hid, one, if_neg (by simp [hc0]), if_pos hpar, hr.out]
  have HO : ∀ e j, Hid (lev C.L (one C.L k) 5 (i + 1) = .ok (e, j)) → Hid (one C.L (k + 1) i = if tx C.L j = kRap then .ok (e, j + 1) else .error (3, pl C.L j)) := fun e j hr => by rw [Hid, one, if_neg (by simp [hc0]), if_pos hpar, hr.out]
  have HP : Hid (tx C.L i = bs ⟨#[40]⟩) := hpar
  clear hc0 hpar
  go_enter Tryz.func146, Tryz.ntmps146
  go_wp2_with (first
    | (go_at_call 58; refine (hb _).mono ?_; rintro e w' ⟨rfl, hw⟩; obtain rfl := hw.symm)
    | (go_at_call 57; refine (text_is h tb htb).mono ?_; rintro e w2 ⟨rfl, hp2, hf2⟩)
    | (go_at_call 149; refine (codeAhead_is hp2 tb 0 hcc).mono ?_; rintro e w3 ⟨rfl, hp3, hf3⟩)
    | (go_at_call 60; refine (take_yes hp3 ⟨#[40]⟩ HP.out (by decide)).mono ?_; rintro e w4 ⟨rfl, hp4, hf4⟩; obtain ⟨-, -, -, -, d4⟩ := hp4.cells; have z4 := hp4.frozen 4; obtain ⟨hp5, hf5⟩ := hp4.down; have hF5 := ((hf2.wide (X := [C.rb])).up hf3.wide).up (hf4.up hf5))
    | (go_at_call 118; refine (loosest_of hch _ (i + 1) st ins (und + 1) (by omega) hp5).mono ?_; rintro e w6 h6; rcases h6.cases with ⟨f, hr6, q, rfl, hq⟩ | ⟨⟨e6, i6⟩, v6, hr6, rfl, ⟨hv6, hp6⟩, hf6⟩; (· exact ⟨rfl, by rw [(HE _ hr6).out]; exact Thrown.up hF5 ⟨q, rfl, hq⟩⟩); obtain ⟨p6, rfl⟩ := hv6.ptr; obtain ⟨-, -, -, -, b4⟩ := hp6.cells; have y4 := hp6.frozen 4; obtain ⟨hp7, hf7⟩ := hp6.upAgain)
    | (go_at_call 52; refine (need_any hp7 ⟨#[41]⟩ kRap rfl (by decide)).mono ?_; rintro e w8 h8; rcases h8.cases with ⟨f, hr8, q, rfl, hq⟩ | ⟨_, v8, hr8, rfl, ⟨rfl, hp8⟩, hf8⟩; (· exact ⟨rfl, by
        rw [(HO _ _ hr6).out]
        have hr9 := hr8.out
        rw [need] at hr9
        split at hr9
        · exact absurd hr9 (by simp)
        · rename_i hn
          rw [if_neg hn]
          injection hr9 with hr9
          rw [hr9]
          exact Thrown.up ((hF5.up hf6).up hf7) ⟨q, rfl, hq⟩⟩)))
  go_ret
  have hn : tx C.L i6 = kRap := by
    have hr9 := hr8.out
    rw [need] at hr9
    split at hr9
    · assumption
    · exact absurd hr9 (by simp)
  rw [(HO _ _ hr6).out, if_pos hn]
  exact ⟨_, rfl, ⟨((hv6.ge hF5.size).carry (keepGe h.lts.1 hf7)).carry (keepGe h.lts.1 hf8), hp8⟩, ((hF5.up hf6).up hf7).up hf8⟩
end Go.Proofs.YtanlfmhlohcmgaaGreatDoor
/- number: strconv.ParseInt at the digits of a token. -/
namespace Go.Proofs.YtanlfmhlohcmgaaGreatDoor
open Go.RowKit Px

def val0 (a : Nat) (s : Str) : Nat := s.foldl (fun n c => n * 10 + (c.toNat - 48)) a
theorem parseM (l : Str) : ∀ (a : Nat), (∀ c ∈ l, 48 ≤ c.toNat ∧ c.toNat ≤ 57) → (a + 1) * 10 ^ l.length ≤ 10 ^ 18 → Lib.parseUintM (2 ^ 64 - 1) a l = .ok (val0 a l) ∧ val0 a l < 10 ^ 18 := by
  induction l with
  | nil => intro a _ h; exact ⟨rfl, by simp at h; show a < 10 ^ 18; omega⟩
  | cons c r ih =>
    intro a hd h
    obtain ⟨h1, h2⟩ := hd c (by simp)
    have hp : 0 < 10 ^ r.length := Nat.pow_pos (by decide)
    have e : (a + 1) * 10 ^ (c :: r).length = ((a + 1) * 10) * 10 ^ r.length := by rw [List.length_cons, Nat.pow_succ]; rw [Nat.mul_assoc, Nat.mul_comm (10 ^ r.length) 10]
    rw [e] at h
    have hle : (a * 10 + (c.toNat - 48) + 1) * 10 ^ r.length ≤ 10 ^ 18 := Nat.le_trans (Nat.mul_le_mul_right _ (by omega)) h
    have ha : (a + 1) * 10 ≤ 10 ^ 18 := Nat.le_trans (Nat.le_mul_of_pos_right _ hp) h
    have hb : a * 10 + (c.toNat - 48) + 1 ≤ 10 ^ 18 := Nat.le_trans (Nat.le_mul_of_pos_right _ hp) hle
    have := ih (a * 10 + (c.toNat - 48)) (fun x hx => hd x (by simp [hx])) hle
    rw [Lib.parseUintM, if_pos ⟨h1, h2⟩, if_neg (by omega), if_neg (by omega)]
    exact this
theorem parse_digits (l : Str) (hne : l ≠ []) (hd : ∀ c ∈ l, 48 ≤ c.toNat ∧ c.toNat ≤ 57) (hl : l.length ≤ 18) : Lib.parseIntB 64 l = .ok ((val l : Nat) : Int) ∧ val l < 10 ^ 18 := by
  have hp : (0 + 1) * 10 ^ l.length ≤ 10 ^ 18 := by rw [Nat.zero_add, Nat.one_mul]; exact Nat.pow_le_pow_right (by decide) hl
  obtain ⟨h1, h2⟩ := parseM l 0 hd hp
  refine ⟨?_, h2⟩
  cases l with
  | nil => exact absurd rfl hne
  | cons c r =>
    obtain ⟨h3, h4⟩ := hd c (by simp)
    have e : Lib.parseUintB 64 (c :: r) = .ok (val (c :: r)) := by rw [Lib.parseUintB, if_neg (by simp)]; exact h1
    have h2' : val (c :: r) < 10 ^ 18 := h2
    simp only [Lib.parseIntB]
    rw [if_neg (show ¬ (c.toNat = 43 ∨ c.toNat = 45) by omega), e]
    simp only
    rw [if_neg (by omega), if_neg (by omega), if_neg (by omega)]

section
variable {C : Ctx} {w : World} {i st ins und : Nat}
set_option maxRecDepth 100000 in
set_option maxHeartbeats 2000000 in
theorem number_any (w : World) (i st ins und : Nat) (h : PS C w i st ins und) : Calls Tryz.prog 86 #[.pointer (some ⟨C.rb, 0, none⟩)] w (Out C (fun (n : Nat) v w' => v = .int .i64 n ∧ n < 10 ^ 18 ∧ PS C w' (i + 1) st ins und) w (number C.L i)) := by
  obtain ⟨c0, c1, -⟩ := h.cells
  obtain ⟨t0, t1, t2⟩ := h.now
  obtain ⟨l1, l2⟩ := h.lts
  have hi0 : (0 : Int) ≤ (i : Int) := Int.natCast_nonneg _
  have hi1 : (i : Int) < (C.L.length : Int) := by have := h.lt; omega
  have h6 := h.wf.len
  obtain ⟨tb, htb⟩ : ∃ tb : ByteArray, Hid (tb = ⟨(tx C.L i).toArray⟩) := ⟨_, rfl⟩
  have hbs : Hid (tb.data.toList = tx C.L i) := by rw [Hid, htb.out]
  rw [sv, ← htb.out] at t1
  by_cases hk : kd C.L i = 2
  · have hk' : ((kd C.L i : Nat) : Int) = 2 := by omega
    rw [hk'] at t0
    have H : Hid (number C.L i = .ok (val (tx C.L i))) := if_pos hk
    have hlt := h.wf.nextk h.lt (by rw [hk]; decide)
    obtain ⟨n1, n2, n3⟩ := h.wf.num i hk
    obtain ⟨hv, hv2⟩ := parse_digits _ n3 n1 n2
    obtain ⟨m, hm⟩ : ∃ m, Hid (m = val (tx C.L i)) := ⟨_, rfl⟩
    have hts : tb.size ≤ 18 := by
      have := congrArg List.length hbs.out
      rw [← bs_len tb]
      exact Nat.le_trans (Nat.le_of_eq this) n2
    rw [← hm.out, ← hbs.out] at hv
    have hpi := fun w => Tryz.strconv_ParseInt_10_at64_ok tb (by omega) m hv w
    clear hv n1 n2 n3 hk hk'
    go_enter Tryz.func86, Tryz.ntmps86
    go_wp2
    go_region
    obtain ⟨hn, hfn⟩ := h.new (.cells #[.int .i64 2, .string tb, .int .i64 (pl C.L i)] 119)
    obtain ⟨e0, e1, e2⟩ := tok_block w (.int .i64 2) (.string tb) (.int .i64 (pl C.L i)) 119
    generalize (w.alloc (.cells #[.int .i64 2, .string tb, .int .i64 (pl C.L i)] 119)).drew = w1 at hn hfn e0 e1 e2 ⊢
    clear c0 c1 t0 t1 t2 e2
    go_wp2_with (go_at_call 101; refine (hpi _).mono ?_; rintro e w2 ⟨rfl, hw2⟩; have hb2 : Below w1.heap.size w1 w2 := (by (rcases hw2 with rfl | ⟨t, rfl⟩; exact Below.refl _ _; exact Lib.bytesWorld_below _ _ _)); clear hw2; have hf2 := Fr.of_below hb2 []; have hp2 := hn.same hf2; obtain ⟨-, d1, -⟩ := hp2.cells; have z1 := hp2.frozen 1)
    go_ret
    rw [H.out]
    have hset := hp2.step hlt
    exact ⟨_, rfl, ⟨by rw [← hm.out]; rfl, hv2, hset.1⟩, ((hfn.wide (X := [C.rb])).up hf2.wide).up hset.2⟩
  · have hk' : ¬ ((kd C.L i : Nat) : Int) = 2 := by omega
    have hk'' : (((kd C.L i : Nat) : Int) != 2) = true := by simpa using hk'
    have H : Hid (number C.L i = .error (3, pl C.L i)) := if_neg hk
    clear hk
    go_enter Tryz.func86, Tryz.ntmps86
    go_wp2
    go_region
    obtain ⟨hn, hfn⟩ := h.new (.cells #[.int .i64 (kd C.L i), .string tb, .int .i64 (pl C.L i)] 119)
    go_wp2_with (go_at_call 62; refine (throw_any hn 3).mono ?_; rintro e w2 ⟨q, rfl, ht⟩)
    rw [H.out]
    exact ⟨rfl, Thrown.up hfn.wide ⟨q, rfl, ht⟩⟩
end

theorem need_ok {L : List Lx.Tok} {s : Str} {i : Nat} {a : Unit} (h : Hid (need L s i = .ok a)) : tx L i = s := by
  have h := h.out
  rw [need] at h
  split at h
  · assumption
  · exact absurd h (by simp)
theorem need_bad {L : List Lx.Tok} {s : Str} {i : Nat} {f : F} (h : Hid (need L s i = .error f)) : tx L i ≠ s ∧ f = (3, pl L i) := by
  have h := h.out
  rw [need] at h
  split at h
  · exact absurd h (by simp)
  · injection h with h; exact ⟨by assumption, h.symm⟩
theorem no_take {L : List Lx.Tok} {i : Nat} {k : Str} {s : ByteArray} (h : tx L i ≠ k) (hs : bs s = k) : tx L i ≠ bs s := by rw [hs]; exact h

set_option maxRecDepth 100000 in
set_option maxHeartbeats 4000000 in
theorem one_pre {C : Ctx} {k : Nat} (w : World) (i st ins und : Nat) (hu : und + (k + 1) = 7) (h : PS C w i st ins und) (hc0 : codeAhead (tx C.L i) = 0) (hpar : tx C.L i ≠ kPar) (hpre : tx C.L i = kPre) : Calls Tryz.prog 146 #[.pointer (some ⟨C.rb, 0, none⟩)] w (Out C (OkE C w st ins und) w (one C.L (k + 1) i)) := by
  obtain ⟨-, -, -, -, c4⟩ := h.cells
  obtain ⟨tb, htb⟩ : ∃ tb : ByteArray, Hid (bs tb = tx C.L i) := ⟨⟨(tx C.L i).toArray⟩, rfl⟩
  have hcc : Hid (codeAhead (bs tb) = 0) := by rw [Hid, htb.out]; exact hc0
  have hb := fun w => bound_ok (C := C) (w := w) und 7 (by omega)
  have HO : Hid (one C.L (k + 1) i = if tx C.L (i + 1) = kPar then (match nm C.L (i + 2) with | .error x => .error x | .ok s => if tx C.L (i + 3) = kRap then .ok (eName 3 s, i + 4) else .error (3, pl C.L (i + 3))) else .error (3, pl C.L (i + 1))) := by
    rw [Hid, one, if_neg (by simp [hc0]), if_neg hpar, if_pos hpre]
    split
    · cases nm C.L (i + 2) <;> rfl
    · rfl
  have HP : Hid (tx C.L i ≠ bs ⟨#[40]⟩) := hpar
  have HQ : Hid (tx C.L i = bs ⟨#[112, 114, 101]⟩) := hpre
  clear hc0 hpar hpre
  have T1 : Hid True := trivial
  have T2 : Hid True := trivial
  go_enter Tryz.func146, Tryz.ntmps146
  go_wp2_with (first
    | (go_at_call 58; refine (hb _).mono ?_; rintro e w' ⟨rfl, hw⟩; obtain rfl := hw.symm)
    | (go_at_call 57; refine (text_is h tb htb).mono ?_; rintro e w2 ⟨rfl, hp2, hf2⟩)
    | (go_at_call 149; refine (codeAhead_is hp2 tb 0 hcc).mono ?_; rintro e w3 ⟨rfl, hp3, hf3⟩)
    | (go_at_call 60; clear T1; refine (take_no hp3 ⟨#[40]⟩ HP.out).mono ?_; rintro e w4 ⟨rfl, hp4, hf4⟩)
    | (go_at_call 60; refine (take_yes hp4 ⟨#[112, 114, 101]⟩ HQ.out (by decide)).mono ?_; rintro e w5 ⟨rfl, hp5, hf5⟩; have hF5 := (((hf2.wide (X := [C.rb])).up hf3.wide).up hf4.wide).up hf5)
    | (go_at_call 52; clear T2; refine (need_any hp5 ⟨#[40]⟩ kPar rfl (by decide)).mono ?_; rintro e w6 h6; rcases h6.cases with ⟨f, hr6, q, rfl, hq⟩ | ⟨_, v6, hr6, rfl, ⟨rfl, hp6⟩, hf6⟩; (· exact ⟨rfl, by rw [HO.out, if_neg (need_bad hr6).1, ← (need_bad hr6).2]; exact Thrown.up hF5 ⟨q, rfl, hq⟩⟩))
    | (go_at_call 53; refine (name_any hp6).mono ?_; rintro e w7 h7; rcases h7.cases with ⟨f, hr7, q, rfl, hq⟩ | ⟨s7, v7, hr7, rfl, ⟨rfl, hp7⟩, hf7⟩; (· exact ⟨rfl, by rw [HO.out, if_pos (need_ok hr6), hr7.out]; exact Thrown.up (hF5.up hf6) ⟨q, rfl, hq⟩⟩); rw [sv]; obtain ⟨hp8, hf8⟩ := hp7.alloc (.cells #[.int .i64 3, .int .i64 0, .string ⟨s7.toArray⟩, .pointer none, .pointer none] 157))
    | (go_at_call 52; refine (need_any hp8 ⟨#[41]⟩ kRap rfl (by decide)).mono ?_; rintro e w9 h9; rcases h9.cases with ⟨f, hr9, q, rfl, hq⟩ | ⟨_, v9, hr9, rfl, ⟨rfl, hp9⟩, hf9⟩; (· exact ⟨rfl, by rw [HO.out, if_pos (need_ok hr6), hr7.out]; simp only; rw [if_neg (need_bad hr9).1, ← (need_bad hr9).2]; exact Thrown.up (((hF5.up hf6).up hf7).up hf8) ⟨q, rfl, hq⟩⟩)))
  go_ret
  rw [HO.out, if_pos (need_ok hr6), hr7.out]
  simp only
  rw [if_pos (need_ok hr9)]
  have hv : IsE (Ge w.heap.size) _ (eName 3 s7) (.pointer (some ⟨w7.heap.size, 0, none⟩)) := isE_leaf rfl ((hF5.up hf6).up hf7).size rfl
  exact ⟨_, rfl, ⟨hv.carry (keepGe h.lts.1 hf9), hp9⟩, (((hF5.up hf6).up hf7).up hf8).up hf9⟩

set_option maxRecDepth 100000 in
set_option maxHeartbeats 4000000 in
theorem one_num {C : Ctx} {k : Nat} (w : World) (i st ins und : Nat) (hu : und + (k + 1) = 7) (h : PS C w i st ins und) (hc0 : codeAhead (tx C.L i) = 0) (hpar : tx C.L i ≠ kPar) (hpre : tx C.L i ≠ kPre) (hk : kd C.L i = 2) : Calls Tryz.prog 146 #[.pointer (some ⟨C.rb, 0, none⟩)] w (Out C (OkE C w st ins und) w (one C.L (k + 1) i)) := by
  obtain ⟨-, -, -, -, c4⟩ := h.cells
  obtain ⟨tb, htb⟩ : ∃ tb : ByteArray, Hid (bs tb = tx C.L i) := ⟨⟨(tx C.L i).toArray⟩, rfl⟩
  have hcc : Hid (codeAhead (bs tb) = 0) := by rw [Hid, htb.out]; exact hc0
  have hb := fun w => bound_ok (C := C) (w := w) und 7 (by omega)
  have HO : Hid (one C.L (k + 1) i = .ok (eNum (val (tx C.L i)), i + 1)) := by
    rw [Hid, one, if_neg (by simp [hc0]), if_neg hpar, if_neg hpre, if_pos hk]
  have HN : Hid (number C.L i = .ok (val (tx C.L i))) := if_pos hk
  have HK : Hid (kd C.L i = 2) := hk
  have HP : Hid (tx C.L i ≠ bs ⟨#[40]⟩) := hpar
  have HQ : Hid (tx C.L i ≠ bs ⟨#[112, 114, 101]⟩) := hpre
  have hi0 : (0 : Int) ≤ (i : Int) := Int.natCast_nonneg _
  have hi1 : (i : Int) < (C.L.length : Int) := by have := h.lt; omega
  clear hc0 hpar hpre hk
  have T1 : Hid True := trivial
  go_enter Tryz.func146, Tryz.ntmps146
  go_wp2_with (first
    | (go_at_call 58; refine (hb _).mono ?_; rintro e w' ⟨rfl, hw⟩; obtain rfl := hw.symm)
    | (go_at_call 57; refine (text_is h tb htb).mono ?_; rintro e w2 ⟨rfl, hp2, hf2⟩)
    | (go_at_call 149; refine (codeAhead_is hp2 tb 0 hcc).mono ?_; rintro e w3 ⟨rfl, hp3, hf3⟩)
    | (go_at_call 60; clear T1; refine (take_no hp3 ⟨#[40]⟩ HP.out).mono ?_; rintro e w4 ⟨rfl, hp4, hf4⟩)
    | (go_at_call 60; refine (take_no hp4 ⟨#[112, 114, 101]⟩ HQ.out).mono ?_; rintro e w5 ⟨rfl, hp5, hf5⟩; obtain ⟨d0, d1, -⟩ := hp5.cells; obtain ⟨t0, -, -⟩ := hp5.now; rw [HK.out] at t0))
  go_quiet (fail)
  have hf6 := (Fr.refl w5.heap.size [] w5).drewN nq
  have hp6 := hp5.same hf6
  go_wp2_with (go_at_call 86; refine (number_any _ i st ins und hp6).mono ?_; rintro e w7 h7; rw [HN.out] at h7; obtain ⟨v7, rfl, ⟨rfl, -, hp7⟩, hf7⟩ := h7)
  go_ret
  rw [HO.out]
  obtain ⟨hp8, hf8⟩ := hp7.alloc (.cells #[.int .i64 1, .int .i64 (val (tx C.L i)), .string ⟨#[]⟩, .pointer none, .pointer none] 157)
  have hF := ((((hf2.wide (X := [C.rb])).up hf3.wide).up hf4.wide).up hf5.wide).up hf6.wide
  exact ⟨_, rfl, ⟨isE_leaf rfl (hF.up hf7).size rfl, hp8⟩, (hF.up hf7).up hf8⟩

set_option maxRecDepth 100000 in
set_option maxHeartbeats 4000000 in
theorem one_name {C : Ctx} {k : Nat} (w : World) (i st ins und : Nat) (hu : und + (k + 1) = 7) (h : PS C w i st ins und) (hc0 : codeAhead (tx C.L i) = 0) (hpar : tx C.L i ≠ kPar) (hpre : tx C.L i ≠ kPre) (hk : kd C.L i ≠ 2) : Calls Tryz.prog 146 #[.pointer (some ⟨C.rb, 0, none⟩)] w (Out C (OkE C w st ins und) w (one C.L (k + 1) i)) := by
  obtain ⟨-, -, -, -, c4⟩ := h.cells
  obtain ⟨tb, htb⟩ : ∃ tb : ByteArray, Hid (bs tb = tx C.L i) := ⟨⟨(tx C.L i).toArray⟩, rfl⟩
  have hcc : Hid (codeAhead (bs tb) = 0) := by rw [Hid, htb.out]; exact hc0
  have hb := fun w => bound_ok (C := C) (w := w) und 7 (by omega)
  have HE : ∀ f, Hid (nm C.L i = .error f) → Hid (one C.L (k + 1) i = .error f) := fun f hr => by rw [Hid, one, if_neg (by simp [hc0]), if_neg hpar, if_neg hpre, if_neg hk, hr.out]
  have HO : ∀ s, Hid (nm C.L i = .ok s) → Hid (one C.L (k + 1) i = .ok (eName 2 s, i + 1)) := fun s hr => by rw [Hid, one, if_neg (by simp [hc0]), if_neg hpar, if_neg hpre, if_neg hk, hr.out]
  have hk1 : ¬ ((kd C.L i : Nat) : Int) = 2 := by omega
  have hk2 : (((kd C.L i : Nat) : Int) == 2) = false := by simpa using hk1
  have HP : Hid (tx C.L i ≠ bs ⟨#[40]⟩) := hpar
  have HQ : Hid (tx C.L i ≠ bs ⟨#[112, 114, 101]⟩) := hpre
  have hi0 : (0 : Int) ≤ (i : Int) := Int.natCast_nonneg _
  have hi1 : (i : Int) < (C.L.length : Int) := by have := h.lt; omega
  clear hc0 hpar hpre hk
  have T1 : Hid True := trivial
  go_enter Tryz.func146, Tryz.ntmps146
  go_wp2_with (first
    | (go_at_call 58; refine (hb _).mono ?_; rintro e w' ⟨rfl, hw⟩; obtain rfl := hw.symm)
    | (go_at_call 57; refine (text_is h tb htb).mono ?_; rintro e w2 ⟨rfl, hp2, hf2⟩)
    | (go_at_call 149; refine (codeAhead_is hp2 tb 0 hcc).mono ?_; rintro e w3 ⟨rfl, hp3, hf3⟩)
    | (go_at_call 60; clear T1; refine (take_no hp3 ⟨#[40]⟩ HP.out).mono ?_; rintro e w4 ⟨rfl, hp4, hf4⟩)
    | (go_at_call 60; refine (take_no hp4 ⟨#[112, 114, 101]⟩ HQ.out).mono ?_; rintro e w5 ⟨rfl, hp5, hf5⟩; obtain ⟨d0, d1, -⟩ := hp5.cells; obtain ⟨t0, -, -⟩ := hp5.now))
  go_quiet (fail)
  have hf6 := (Fr.refl w5.heap.size [] w5).drewN nq
  have hp6 := hp5.same hf6
  have hF := ((((hf2.wide (X := [C.rb])).up hf3.wide).up hf4.wide).up hf5.wide).up hf6.wide
  go_wp2_with (go_at_call 53; refine (name_any hp6).mono ?_; rintro e w7 h7; rcases h7.cases with ⟨f, hr7, q, rfl, hq⟩ | ⟨s7, v7, hr7, rfl, ⟨rfl, hp7⟩, hf7⟩; (· exact ⟨rfl, by rw [(HE _ hr7).out]; exact Thrown.up hF ⟨q, rfl, hq⟩⟩); rw [sv])
  go_ret
  rw [(HO _ hr7).out]
  obtain ⟨hp8, hf8⟩ := hp7.alloc (.cells #[.int .i64 2, .int .i64 0, .string ⟨s7.toArray⟩, .pointer none, .pointer none] 157)
  exact ⟨_, rfl, ⟨isE_leaf rfl (hF.up hf7).size rfl, hp8⟩, (hF.up hf7).up hf8⟩

theorem one_succ {C : Ctx} {k : Nat} (ho : One C k) (hch : Chain C k 5) : One C (k + 1) := by
  intro w i st ins und hu h
  by_cases hc0 : codeAhead (tx C.L i) = 0
  · by_cases hpar : tx C.L i = kPar
    · exact one_par hch w i st ins und hu h hc0 hpar
    · by_cases hpre : tx C.L i = kPre
      · exact one_pre w i st ins und hu h hc0 hpar hpre
      · by_cases hk : kd C.L i = 2
        · exact one_num w i st ins und hu h hc0 hpar hpre hk
        · exact one_name w i st ins und hu h hc0 hpar hpre hk
  · exact one_ahead ho w i st ins und hu h hc0
theorem chain_all {C : Ctx} {k : Nat} (ho : One C k) : ∀ t, t ≤ 5 → Chain C k t := by
  intro t
  induction t with
  | zero => intro _; exact chain_zero ho
  | succ t ih => intro ht; exact chain_succ (by omega) (ih (by omega))
theorem one_all {C : Ctx} : ∀ k, One C k := by
  intro k
  induction k with
  | zero => exact one_zero
  | succ k ih => exact one_succ ih (chain_all ih 5 (Nat.le_refl _))
/-- an E -/
theorem expr_any {C : Ctx} {w : World} {i st ins : Nat} (h : PS C w i st ins 0) : Calls Tryz.prog 118 #[.pointer (some ⟨C.rb, 0, none⟩)] w (Out C (OkE C w st ins 0) w (expr C.L i)) :=
  loosest_of (chain_all (one_all 7) 5 (Nat.le_refl _)) w i st ins 0 (by omega) h
end Go.Proofs.YtanlfmhlohcmgaaGreatDoor
