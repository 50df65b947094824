/- Expressions: one, and so all of them. -/
import Derived.Test.YtiihgnagjemikaaGreatDoorVPex
import Derived.Test.YtiihgnagjemikaaGreatDoorVPint
import Derived.Lib.AtoiErrMem
import Derived.Maps.AppendAt
import Derived.Test.YtiihgnagjemikaaGreatDoorVUn2
import Derived.Laws.Tables
import Derived.Laws.Rows
namespace Go.Proofs.YtiihgnagjemikaaGreatDoor
open Go.RowKit Px

theorem codeAhead_is {C : Ctx} {w : World} {i st ins und : Nat} (h : PS C w i st ins und) (tb : ByteArray) (c : Nat) (hc : Hid (codeAhead (bs tb) = c)) : Calls Tryz.prog 161 #[.string tb] w fun e w' => e = .returned (.int .i64 c) ∧ PS C w' i st ins und ∧ Fr w.heap.size [] w w' := by
  refine (codeAhead_any tb w h.tab).mono ?_
  rintro e w' ⟨rfl, hb⟩
  have hf := Fr.of_below hb []
  exact ⟨by rw [hc.out], h.same hf, hf⟩
set_option maxHeartbeats 400000 in
theorem loosest_of {C : Ctx} {k : Nat} (hc : Chain C k 5) (w : World) (i st ins und : Nat) (hu : und + k = 7) (h : PS C w i st ins und) : Calls Tryz.prog 137 #[.pointer (some ⟨C.rb, 0, none⟩)] w (Out C (OkE C w st ins und) w (lev C.L (one C.L k) 5 i)) := by
  have hc0 := hc w i st ins und hu h
  rw [show ((5 - 5 : Nat) : Int) = 0 from rfl] at hc0
  go_enter Tryz.func137, Tryz.ntmps137
  go_wp2_with (go_at_call 145; refine hc0.mono ?_; rintro e w1 h1; rcases h1.cases with ⟨f, hr, q, rfl, hq⟩ | ⟨p, v, hr, rfl, hv, hf⟩; (· exact ⟨rfl, by rw [hr.out]; exact ⟨q, rfl, hq⟩⟩))
  go_ret
  rw [hr.out]
  exact ⟨v, rfl, hv, hf⟩

/-- a leaf, in a new block -/
theorem isE_leaf {w : World} {c B n : Nat} {m : Int} {s : Str} {sb : ByteArray} (hn : w.heap.size = n) (hB : B ≤ n) (hs : sb = ⟨s.toArray⟩) :
    IsE (Ge B) (w.alloc (.cells #[.int .i64 c, .int .i64 m, .string sb, .pointer none, .pointer none] 222)) (.node 0 0 ⟨c, m, s⟩ .nil .nil) (.pointer (some ⟨n, 0, none⟩)) := by
  subst hn hs
  exact ⟨w.heap.size, _, _, rfl, hB, heap_alloc_new w _, rfl, rfl⟩
theorem isE_one {w : World} {c B n : Nat} {l : E} {lv : Value} (hn : w.heap.size = n) (hB : B ≤ n) (hl : IsE (Ge B) w l lv) :
    IsE (Ge B) (w.alloc (.cells #[.int .i64 c, .int .i64 0, .string ⟨#[]⟩, lv, .pointer none] 222)) (eOne c l) (.pointer (some ⟨n, 0, none⟩)) := by
  subst hn
  have k : Keep (Ge B) (Ge B) w (w.alloc (.cells #[.int .i64 c, .int .i64 0, .string ⟨#[]⟩, lv, .pointer none] 222)) := fun b ha hb => ⟨ha, Below.heap_alloc _ _ _ hb⟩
  exact ⟨w.heap.size, lv, _, rfl, hB, heap_alloc_new w _, hl.carry k, rfl⟩
theorem PS.alloc {C : Ctx} {w : World} {i st ins und : Nat} (h : PS C w i st ins und) (o : Obj) : PS C (w.alloc o) i st ins und ∧ Fr w.heap.size [C.rb] w (w.alloc o) :=
  ⟨h.same ((Fr.refl _ _ _).alloc (Nat.le_refl _) _), (Fr.refl _ _ _).alloc (Nat.le_refl _) _⟩

set_option maxRecDepth 100000 in
set_option maxHeartbeats 1000000 in
theorem one_zero {C : Ctx} : One C 0 := by
  intro w i st ins und hu h
  obtain ⟨-, -, -, -, c4⟩ := h.cells
  have hb := bound_bad h und 7 (by omega)
  go_enter Tryz.func159, Tryz.ntmps159
  go_wp2_with (go_at_call 63; refine hb.mono ?_; rintro e w1 ⟨q, rfl, hq⟩; exact ⟨rfl, by rw [one]; exact ⟨q, rfl, hq⟩⟩)

set_option maxRecDepth 100000 in
set_option maxHeartbeats 4000000 in
theorem one_ahead {C : Ctx} {k : Nat} (ho : One C k) (w : World) (i st ins und : Nat) (hu : und + (k + 1) = 7) (h : PS C w i st ins und) (hc0 : codeAhead (tx C.L i) ≠ 0) : Calls Tryz.prog 159 #[.pointer (some ⟨C.rb, 0, none⟩)] w (Out C (OkE C w st ins und) w (one C.L (k + 1) i)) := by
  obtain ⟨-, -, -, -, c4⟩ := h.cells
  obtain ⟨tb, htb⟩ : ∃ tb : ByteArray, Hid (bs tb = tx C.L i) := ⟨⟨(tx C.L i).toArray⟩, rfl⟩
  obtain ⟨c, hcc⟩ : ∃ c, Hid (codeAhead (bs tb) = c) := ⟨_, rfl⟩
  have hcc' : Hid (codeAhead (tx C.L i) = c) := by rw [Hid, ← htb.out]; exact hcc.out
  have hb := fun w => bound_ok (C := C) (w := w) und 7 (by omega)
  have H0 : Hid _ := hc0
  have hne : tx C.L i ≠ [] := by intro e; rw [e] at hc0; exact hc0 (by decide)
  have hnx := h.wf.next h.lt hne
  have hl6 := h.wf.len
  rw [hcc'.out] at hc0
  have hc1 : ¬ (c : Int) = 0 := by omega
  have hc2 : ((c : Int) != 0) = true := by simpa using hc1
  have HE : ∀ f, Hid (one C.L k (i + 1) = .error f) → Hid (one C.L (k + 1) i = .error f) := fun f hr => by rw [Hid, one, if_pos H0.out, hr.out]
  have HO : ∀ e j, Hid (one C.L k (i + 1) = .ok (e, j)) → Hid (one C.L (k + 1) i = .ok (eOne c e, j)) := fun e j hr => by rw [Hid, one, if_pos H0.out, hr.out, hcc'.out]
  clear hne hc0
  go_enter Tryz.func159, Tryz.ntmps159
  go_wp2_with (first
    | (go_at_call 63; refine (hb _).mono ?_; rintro e w' ⟨rfl, hw⟩; obtain rfl := hw.symm)
    | (go_at_call 62; refine (text_is h tb htb).mono ?_; rintro e w2 ⟨rfl, hp2, hf2⟩)
    | (go_at_call 161; refine (codeAhead_is hp2 tb c hcc).mono ?_; rintro e w3 ⟨rfl, hp3, hf3⟩; obtain ⟨-, d1, -, -, d4⟩ := hp3.cells; have z1 := hp3.frozen 1; have z4 := hp3.frozen 4; obtain ⟨hp4, hf4⟩ := hp3.step hnx; obtain ⟨hp5, hf5⟩ := hp4.down; have hF5 := ((hf2.wide (X := [C.rb])).up hf3.wide).up (hf4.up hf5))
    | (go_at_call 159; refine (ho _ (i + 1) st ins (und + 1) (by omega) hp5).mono ?_; rintro e w6 h6; rcases h6.cases with ⟨f, hr6, q, rfl, hq⟩ | ⟨⟨e6, i6⟩, v6, hr6, rfl, ⟨hv6, hp6⟩, hf6⟩; (· exact ⟨rfl, by rw [(HE _ hr6).out]; exact Thrown.up hF5 ⟨q, rfl, hq⟩⟩); obtain ⟨p6, rfl⟩ := hv6.ptr; obtain ⟨-, -, -, -, b4⟩ := hp6.cells; have y4 := hp6.frozen 4; have l6 := hp6.lts.1))
  go_ret
  rw [(HO _ _ hr6).out]
  obtain ⟨hp7, hf7⟩ := hp6.upAgain
  obtain ⟨hp8, hf8⟩ := hp7.alloc (.cells #[.int .i64 c, .int .i64 0, .string ⟨#[]⟩, .pointer p6, .pointer none] 222)
  exact ⟨_, rfl, ⟨isE_one (by simp) (hF5.up hf6).size ((hv6.ge hF5.size).carry (keepGe h.lts.1 hf7)), hp8⟩, ((hF5.up hf6).up hf7).up hf8⟩

set_option maxRecDepth 100000 in
set_option maxHeartbeats 4000000 in
theorem one_par {C : Ctx} {k : Nat} (hch : Chain C k 5) (w : World) (i st ins und : Nat) (hu : und + (k + 1) = 7) (h : PS C w i st ins und) (hc0 : codeAhead (tx C.L i) = 0) (hpar : tx C.L i = kPar) : Calls Tryz.prog 159 #[.pointer (some ⟨C.rb, 0, none⟩)] w (Out C (OkE C w st ins und) w (one C.L (k + 1) i)) := by
  obtain ⟨-, -, -, -, c4⟩ := h.cells
  obtain ⟨tb, htb⟩ : ∃ tb : ByteArray, Hid (bs tb = tx C.L i) := ⟨⟨(tx C.L i).toArray⟩, rfl⟩
  have hcc : Hid (codeAhead (bs tb) = 0) := by rw [Hid, htb.out]; exact hc0
  have hb := fun w => bound_ok (C := C) (w := w) und 7 (by omega)
  have HE : ∀ f, Hid (lev C.L (one C.L k) 5 (i + 1) = .error f) → Hid (one C.L (k + 1) i = .error f) := fun f hr => by rw [Hid, one, if_neg (by simp [hc0]), if_pos hpar, hr.out]
  have HO : ∀ e j, Hid (lev C.L (one C.L k) 5 (i + 1) = .ok (e, j)) → Hid (one C.L (k + 1) i = if tx C.L j = kRap then .ok (e, j + 1) else .error (3, pl C.L j)) := fun e j hr => by rw [Hid, one, if_neg (by simp [hc0]), if_pos hpar, hr.out]
  have HP : Hid _ := hpar
  clear hc0 hpar
  go_enter Tryz.func159, Tryz.ntmps159
  go_wp2_with (first
    | (go_at_call 63; refine (hb _).mono ?_; rintro e w' ⟨rfl, hw⟩; obtain rfl := hw.symm)
    | (go_at_call 62; refine (text_is h tb htb).mono ?_; rintro e w2 ⟨rfl, hp2, hf2⟩)
    | (go_at_call 161; refine (codeAhead_is hp2 tb 0 hcc).mono ?_; rintro e w3 ⟨rfl, hp3, hf3⟩)
    | (go_at_call 65; refine (take_yes hp3 ⟨#[40]⟩ HP.out (by decide)).mono ?_; rintro e w4 ⟨rfl, hp4, hf4⟩; obtain ⟨-, -, -, -, d4⟩ := hp4.cells; have z4 := hp4.frozen 4; obtain ⟨hp5, hf5⟩ := hp4.down; have hF5 := ((hf2.wide (X := [C.rb])).up hf3.wide).up (hf4.up hf5))
    | (go_at_call 137; refine (loosest_of hch _ (i + 1) st ins (und + 1) (by omega) hp5).mono ?_; rintro e w6 h6; rcases h6.cases with ⟨f, hr6, q, rfl, hq⟩ | ⟨⟨e6, i6⟩, v6, hr6, rfl, ⟨hv6, hp6⟩, hf6⟩; (· exact ⟨rfl, by rw [(HE _ hr6).out]; exact Thrown.up hF5 ⟨q, rfl, hq⟩⟩); obtain ⟨p6, rfl⟩ := hv6.ptr; obtain ⟨-, -, -, -, b4⟩ := hp6.cells; have y4 := hp6.frozen 4; obtain ⟨hp7, hf7⟩ := hp6.upAgain)
    | (go_at_call 57; refine (need_any hp7 ⟨#[41]⟩ kRap rfl (by decide)).mono ?_; rintro e w8 h8; rcases h8.cases with ⟨f, hr8, q, rfl, hq⟩ | ⟨_, v8, hr8, rfl, ⟨rfl, hp8⟩, hf8⟩; (· exact ⟨rfl, by
        rw [(HO _ _ hr6).out]
        have hr9 := hr8.out
        rw [need] at hr9
        split at hr9
        · exact absurd hr9 (by simp)
        · rename_i hn
          rw [if_neg hn]
          injection hr9 with hr9
          rw [hr9]
          exact Thrown.up ((hF5.up hf6).up hf7) ⟨q, rfl, hq⟩⟩)))
  go_ret
  have hn : tx C.L i6 = kRap := by
    have hr9 := hr8.out
    rw [need] at hr9
    split at hr9
    · assumption
    · exact absurd hr9 (by simp)
  rw [(HO _ _ hr6).out, if_pos hn]
  exact ⟨_, rfl, ⟨((hv6.ge hF5.size).carry (keepGe h.lts.1 hf7)).carry (keepGe h.lts.1 hf8), hp8⟩, ((hF5.up hf6).up hf7).up hf8⟩
end Go.Proofs.YtiihgnagjemikaaGreatDoor
/- number: strconv.ParseInt at the digits of a token. -/
namespace Go.Proofs.YtiihgnagjemikaaGreatDoor
open Go.RowKit Px

def val0 (a : Nat) (s : Str) : Nat := s.foldl (fun n c => n * 10 + (c.toNat - 48)) a
theorem parseM (l : Str) : ∀ (a : Nat), (∀ c ∈ l, 48 ≤ c.toNat ∧ c.toNat ≤ 57) → (a + 1) * 10 ^ l.length ≤ 10 ^ 18 → Lib.parseUintM (2 ^ 64 - 1) a l = .ok (val0 a l) ∧ val0 a l < 10 ^ 18 := by
  induction l with
  | nil => intro a _ h; exact ⟨rfl, by simp at h; show a < 10 ^ 18; omega⟩
  | cons c r ih =>
    intro a hd h
    obtain ⟨h1, h2⟩ := hd c (by simp)
    have hp : 0 < 10 ^ r.length := Nat.pow_pos (by decide)
    have e : (a + 1) * 10 ^ (c :: r).length = ((a + 1) * 10) * 10 ^ r.length := by rw [List.length_cons, Nat.pow_succ]; rw [Nat.mul_assoc, Nat.mul_comm (10 ^ r.length) 10]
    rw [e] at h
    have hle : (a * 10 + (c.toNat - 48) + 1) * 10 ^ r.length ≤ 10 ^ 18 := Nat.le_trans (Nat.mul_le_mul_right _ (by omega)) h
    have ha : (a + 1) * 10 ≤ 10 ^ 18 := Nat.le_trans (Nat.le_mul_of_pos_right _ hp) h
    have hb : a * 10 + (c.toNat - 48) + 1 ≤ 10 ^ 18 := Nat.le_trans (Nat.le_mul_of_pos_right _ hp) hle
    have := ih (a * 10 + (c.toNat - 48)) (fun x hx => hd x (by simp [hx])) hle
    rw [Lib.parseUintM, if_pos ⟨h1, h2⟩, if_neg (by omega), if_neg (by omega)]
    exact this
theorem parse_digits (l : Str) (hne : l ≠ []) (hd : ∀ c ∈ l, 48 ≤ c.toNat ∧ c.toNat ≤ 57) (hl : l.length ≤ 18) : Lib.parseIntB 64 l = .ok ((val l : Nat) : Int) ∧ val l < 10 ^ 18 := by
  have hp : (0 + 1) * 10 ^ l.length ≤ 10 ^ 18 := by rw [Nat.zero_add, Nat.one_mul]; exact Nat.pow_le_pow_right (by decide) hl
  obtain ⟨h1, h2⟩ := parseM l 0 hd hp
  refine ⟨?_, h2⟩
  cases l with
  | nil => exact absurd rfl hne
  | cons c r =>
    obtain ⟨h3, h4⟩ := hd c (by simp)
    have e : Lib.parseUintB 64 (c :: r) = .ok (val (c :: r)) := by rw [Lib.parseUintB, if_neg (by simp)]; exact h1
    have h2' : val (c :: r) < 10 ^ 18 := h2
    simp only [Lib.parseIntB]
    rw [if_neg (show ¬ (c.toNat = 43 ∨ c.toNat = 45) by omega), e]
    simp only
    rw [if_neg (by omega), if_neg (by omega), if_neg (by omega)]

section
variable {C : Ctx} {w : World} {i st ins und : Nat}
set_option maxRecDepth 100000 in
set_option maxHeartbeats 2000000 in
theorem number_any (w : World) (i st ins und : Nat) (h : PS C w i st ins und) : Calls Tryz.prog 94 #[.pointer (some ⟨C.rb, 0, none⟩)] w (Out C (fun (n : Nat) v w' => v = .int .i64 n ∧ n < 10 ^ 18 ∧ PS C w' (i + 1) st ins und) w (number C.L i)) := by
  obtain ⟨c0, c1, -⟩ := h.cells
  obtain ⟨t0, t1, t2⟩ := h.now
  obtain ⟨l1, l2⟩ := h.lts
  have hi0 : (0 : Int) ≤ (i : Int) := Int.natCast_nonneg _
  have hi1 : (i : Int) < (C.L.length : Int) := by have := h.lt; omega
  have h6 := h.wf.len
  obtain ⟨tb, htb⟩ : ∃ tb : ByteArray, Hid (tb = ⟨(tx C.L i).toArray⟩) := ⟨_, rfl⟩
  have hbs : Hid (tb.data.toList = tx C.L i) := by rw [Hid, htb.out]
  rw [sv, ← htb.out] at t1
  by_cases hk : kd C.L i = 2
  · have hk' : ((kd C.L i : Nat) : Int) = 2 := by omega
    rw [hk'] at t0
    have H : Hid (number C.L i = .ok (val (tx C.L i))) := if_pos hk
    have hlt := h.wf.nextk h.lt (by rw [hk]; decide)
    obtain ⟨n1, n2, n3⟩ := h.wf.num i hk
    obtain ⟨hv, hv2⟩ := parse_digits _ n3 n1 n2
    obtain ⟨m, hm⟩ : ∃ m, Hid (m = val (tx C.L i)) := ⟨_, rfl⟩
    have hts : tb.size ≤ 18 := by
      have := congrArg List.length hbs.out
      rw [← bs_len tb]
      exact Nat.le_trans (Nat.le_of_eq this) n2
    rw [← hm.out, ← hbs.out] at hv
    have hpi := fun w => Tryz.strconv_ParseInt_10_at64_ok tb (by omega) m hv w
    clear hv n1 n2 n3 hk hk'
    go_enter Tryz.func94, Tryz.ntmps94
    go_wp2
    go_region
    obtain ⟨hn, hfn⟩ := h.new (.cells #[.int .i64 2, .string tb, .int .i64 (pl C.L i)] 126)
    obtain ⟨e0, e1, e2⟩ := tok_block w (.int .i64 2) (.string tb) (.int .i64 (pl C.L i)) 126
    generalize (w.alloc (.cells #[.int .i64 2, .string tb, .int .i64 (pl C.L i)] 126)).drew = w1 at hn hfn e0 e1 e2 ⊢
    clear c0 c1 t0 t1 t2 e2
    go_wp2_with (go_at_call 26; refine (hpi _).mono ?_; rintro e w2 ⟨rfl, hw2⟩; have hb2 : Below w1.heap.size w1 w2 := (by (rcases hw2 with rfl | ⟨t, rfl⟩; exact Below.refl _ _; exact Lib.bytesWorld_below _ _ _)); clear hw2; have hf2 := Fr.of_below hb2 []; have hp2 := hn.same hf2; obtain ⟨-, d1, -⟩ := hp2.cells; have z1 := hp2.frozen 1)
    go_ret
    rw [H.out]
    have hset := hp2.step hlt
    exact ⟨_, rfl, ⟨by rw [← hm.out]; rfl, hv2, hset.1⟩, ((hfn.wide (X := [C.rb])).up hf2.wide).up hset.2⟩
  · have hk' : ¬ ((kd C.L i : Nat) : Int) = 2 := by omega
    have hk'' : (((kd C.L i : Nat) : Int) != 2) = true := by simpa using hk'
    have H : Hid (number C.L i = .error (3, pl C.L i)) := if_neg hk
    clear hk
    go_enter Tryz.func94, Tryz.ntmps94
    go_wp2
    go_region
    obtain ⟨hn, hfn⟩ := h.new (.cells #[.int .i64 (kd C.L i), .string tb, .int .i64 (pl C.L i)] 126)
    go_wp2_with (go_at_call 67; refine (throw_any hn 3).mono ?_; rintro e w2 ⟨q, rfl, ht⟩)
    rw [H.out]
    exact ⟨rfl, Thrown.up hfn.wide ⟨q, rfl, ht⟩⟩
end

theorem need_ok {L : List Lx.Tok} {s : Str} {i : Nat} {a : Unit} (h : Hid (need L s i = .ok a)) : tx L i = s := by
  have h := h.out
  rw [need] at h
  split at h
  · assumption
  · exact absurd h (by simp)
theorem need_bad {L : List Lx.Tok} {s : Str} {i : Nat} {f : F} (h : Hid (need L s i = .error f)) : tx L i ≠ s ∧ f = (3, pl L i) := by
  have h := h.out
  rw [need] at h
  split at h
  · exact absurd h (by simp)
  · injection h with h; exact ⟨by assumption, h.symm⟩
theorem no_take {L : List Lx.Tok} {i : Nat} {k : Str} {s : ByteArray} (h : tx L i ≠ k) (hs : bs s = k) : tx L i ≠ bs s := by rw [hs]; exact h

set_option maxRecDepth 100000 in
set_option maxHeartbeats 4000000 in
theorem one_pre {C : Ctx} {k : Nat} (w : World) (i st ins und : Nat) (hu : und + (k + 1) = 7) (h : PS C w i st ins und) (hc0 : codeAhead (tx C.L i) = 0) (hpar : tx C.L i ≠ kPar) (hpre : tx C.L i = kPre) : Calls Tryz.prog 159 #[.pointer (some ⟨C.rb, 0, none⟩)] w (Out C (OkE C w st ins und) w (one C.L (k + 1) i)) := by
  obtain ⟨-, -, -, -, c4⟩ := h.cells
  obtain ⟨tb, htb⟩ : ∃ tb : ByteArray, Hid (bs tb = tx C.L i) := ⟨⟨(tx C.L i).toArray⟩, rfl⟩
  have hcc : Hid (codeAhead (bs tb) = 0) := by rw [Hid, htb.out]; exact hc0
  have hb := fun w => bound_ok (C := C) (w := w) und 7 (by omega)
  have HO : Hid (one C.L (k + 1) i = if tx C.L (i + 1) = kPar then (match nm C.L (i + 2) with | .error x => .error x | .ok s => if tx C.L (i + 3) = kRap then .ok (eName 3 s, i + 4) else .error (3, pl C.L (i + 3))) else .error (3, pl C.L (i + 1))) := by
    rw [Hid, one, if_neg (by simp [hc0]), if_neg hpar, if_pos hpre]
    split
    · cases nm C.L (i + 2) <;> rfl
    · rfl
  have HP : Hid _ := hpar
  have HQ : Hid _ := hpre
  clear hc0 hpar hpre
  have T1 : Hid True := trivial
  have T2 : Hid True := trivial
  go_enter Tryz.func159, Tryz.ntmps159
  go_wp2_with (first
    | (go_at_call 63; refine (hb _).mono ?_; rintro e w' ⟨rfl, hw⟩; obtain rfl := hw.symm)
    | (go_at_call 62; refine (text_is h tb htb).mono ?_; rintro e w2 ⟨rfl, hp2, hf2⟩)
    | (go_at_call 161; refine (codeAhead_is hp2 tb 0 hcc).mono ?_; rintro e w3 ⟨rfl, hp3, hf3⟩)
    | (go_at_call 65; clear T1; refine (take_no hp3 ⟨#[40]⟩ HP.out).mono ?_; rintro e w4 ⟨rfl, hp4, hf4⟩)
    | (go_at_call 65; refine (take_yes hp4 ⟨#[112, 114, 101]⟩ HQ.out (by decide)).mono ?_; rintro e w5 ⟨rfl, hp5, hf5⟩; have hF5 := (((hf2.wide (X := [C.rb])).up hf3.wide).up hf4.wide).up hf5)
    | (go_at_call 57; clear T2; refine (need_any hp5 ⟨#[40]⟩ kPar rfl (by decide)).mono ?_; rintro e w6 h6; rcases h6.cases with ⟨f, hr6, q, rfl, hq⟩ | ⟨_, v6, hr6, rfl, ⟨rfl, hp6⟩, hf6⟩; (· exact ⟨rfl, by rw [HO.out, if_neg (need_bad hr6).1, ← (need_bad hr6).2]; exact Thrown.up hF5 ⟨q, rfl, hq⟩⟩))
    | (go_at_call 58; refine (name_any hp6).mono ?_; rintro e w7 h7; rcases h7.cases with ⟨f, hr7, q, rfl, hq⟩ | ⟨s7, v7, hr7, rfl, ⟨rfl, hp7⟩, hf7⟩; (· exact ⟨rfl, by rw [HO.out, if_pos (need_ok hr6), hr7.out]; exact Thrown.up (hF5.up hf6) ⟨q, rfl, hq⟩⟩); rw [sv]; obtain ⟨hp8, hf8⟩ := hp7.alloc (.cells #[.int .i64 3, .int .i64 0, .string ⟨s7.toArray⟩, .pointer none, .pointer none] 222))
    | (go_at_call 57; refine (need_any hp8 ⟨#[41]⟩ kRap rfl (by decide)).mono ?_; rintro e w9 h9; rcases h9.cases with ⟨f, hr9, q, rfl, hq⟩ | ⟨_, v9, hr9, rfl, ⟨rfl, hp9⟩, hf9⟩; (· exact ⟨rfl, by rw [HO.out, if_pos (need_ok hr6), hr7.out]; simp only; rw [if_neg (need_bad hr9).1, ← (need_bad hr9).2]; exact Thrown.up (((hF5.up hf6).up hf7).up hf8) ⟨q, rfl, hq⟩⟩)))
  go_ret
  rw [HO.out, if_pos (need_ok hr6), hr7.out]
  simp only
  rw [if_pos (need_ok hr9)]
  have hv : IsE (Ge w.heap.size) _ (eName 3 s7) (.pointer (some ⟨w7.heap.size, 0, none⟩)) := isE_leaf rfl ((hF5.up hf6).up hf7).size rfl
  exact ⟨_, rfl, ⟨hv.carry (keepGe h.lts.1 hf9), hp9⟩, (((hF5.up hf6).up hf7).up hf8).up hf9⟩

set_option maxRecDepth 100000 in
set_option maxHeartbeats 4000000 in
theorem one_num {C : Ctx} {k : Nat} (w : World) (i st ins und : Nat) (hu : und + (k + 1) = 7) (h : PS C w i st ins und) (hc0 : codeAhead (tx C.L i) = 0) (hpar : tx C.L i ≠ kPar) (hpre : tx C.L i ≠ kPre) (hk : kd C.L i = 2) : Calls Tryz.prog 159 #[.pointer (some ⟨C.rb, 0, none⟩)] w (Out C (OkE C w st ins und) w (one C.L (k + 1) i)) := by
  obtain ⟨-, -, -, -, c4⟩ := h.cells
  obtain ⟨tb, htb⟩ : ∃ tb : ByteArray, Hid (bs tb = tx C.L i) := ⟨⟨(tx C.L i).toArray⟩, rfl⟩
  have hcc : Hid (codeAhead (bs tb) = 0) := by rw [Hid, htb.out]; exact hc0
  have hb := fun w => bound_ok (C := C) (w := w) und 7 (by omega)
  have HO : Hid (one C.L (k + 1) i = .ok (eNum (val (tx C.L i)), i + 1)) := by
    rw [Hid, one, if_neg (by simp [hc0]), if_neg hpar, if_neg hpre, if_pos hk]
  have HN : Hid (number C.L i = .ok (val (tx C.L i))) := if_pos hk
  have HK : Hid _ := hk
  have HP : Hid _ := hpar
  have HQ : Hid _ := hpre
  have hi0 : (0 : Int) ≤ (i : Int) := Int.natCast_nonneg _
  have hi1 : (i : Int) < (C.L.length : Int) := by have := h.lt; omega
  clear hc0 hpar hpre hk
  have T1 : Hid True := trivial
  go_enter Tryz.func159, Tryz.ntmps159
  go_wp2_with (first
    | (go_at_call 63; refine (hb _).mono ?_; rintro e w' ⟨rfl, hw⟩; obtain rfl := hw.symm)
    | (go_at_call 62; refine (text_is h tb htb).mono ?_; rintro e w2 ⟨rfl, hp2, hf2⟩)
    | (go_at_call 161; refine (codeAhead_is hp2 tb 0 hcc).mono ?_; rintro e w3 ⟨rfl, hp3, hf3⟩)
    | (go_at_call 65; clear T1; refine (take_no hp3 ⟨#[40]⟩ HP.out).mono ?_; rintro e w4 ⟨rfl, hp4, hf4⟩)
    | (go_at_call 65; refine (take_no hp4 ⟨#[112, 114, 101]⟩ HQ.out).mono ?_; rintro e w5 ⟨rfl, hp5, hf5⟩; obtain ⟨d0, d1, -⟩ := hp5.cells; obtain ⟨t0, -, -⟩ := hp5.now; rw [HK.out] at t0))
  go_quiet (fail)
  have hf6 := (Fr.refl w5.heap.size [] w5).drewN nq
  have hp6 := hp5.same hf6
  go_wp2_with (go_at_call 94; refine (number_any _ i st ins und hp6).mono ?_; rintro e w7 h7; rw [HN.out] at h7; obtain ⟨v7, rfl, ⟨rfl, -, hp7⟩, hf7⟩ := h7)
  go_ret
  rw [HO.out]
  obtain ⟨hp8, hf8⟩ := hp7.alloc (.cells #[.int .i64 1, .int .i64 (val (tx C.L i)), .string ⟨#[]⟩, .pointer none, .pointer none] 222)
  have hF := ((((hf2.wide (X := [C.rb])).up hf3.wide).up hf4.wide).up hf5.wide).up hf6.wide
  exact ⟨_, rfl, ⟨isE_leaf rfl (hF.up hf7).size rfl, hp8⟩, (hF.up hf7).up hf8⟩

set_option maxRecDepth 100000 in
set_option maxHeartbeats 4000000 in
theorem one_name {C : Ctx} {k : Nat} (w : World) (i st ins und : Nat) (hu : und + (k + 1) = 7) (h : PS C w i st ins und) (hc0 : codeAhead (tx C.L i) = 0) (hpar : tx C.L i ≠ kPar) (hpre : tx C.L i ≠ kPre) (hk : kd C.L i ≠ 2) : Calls Tryz.prog 159 #[.pointer (some ⟨C.rb, 0, none⟩)] w (Out C (OkE C w st ins und) w (one C.L (k + 1) i)) := by
  obtain ⟨-, -, -, -, c4⟩ := h.cells
  obtain ⟨tb, htb⟩ : ∃ tb : ByteArray, Hid (bs tb = tx C.L i) := ⟨⟨(tx C.L i).toArray⟩, rfl⟩
  have hcc : Hid (codeAhead (bs tb) = 0) := by rw [Hid, htb.out]; exact hc0
  have hb := fun w => bound_ok (C := C) (w := w) und 7 (by omega)
  have HE : ∀ f, Hid (nm C.L i = .error f) → Hid (one C.L (k + 1) i = .error f) := fun f hr => by rw [Hid, one, if_neg (by simp [hc0]), if_neg hpar, if_neg hpre, if_neg hk, hr.out]
  have HO : ∀ s, Hid (nm C.L i = .ok s) → Hid (one C.L (k + 1) i = .ok (eName 2 s, i + 1)) := fun s hr => by rw [Hid, one, if_neg (by simp [hc0]), if_neg hpar, if_neg hpre, if_neg hk, hr.out]
  have hk1 : ¬ ((kd C.L i : Nat) : Int) = 2 := by omega
  have hk2 : (((kd C.L i : Nat) : Int) == 2) = false := by simpa using hk1
  have HP : Hid _ := hpar
  have HQ : Hid _ := hpre
  have hi0 : (0 : Int) ≤ (i : Int) := Int.natCast_nonneg _
  have hi1 : (i : Int) < (C.L.length : Int) := by have := h.lt; omega
  clear hc0 hpar hpre hk
  have T1 : Hid True := trivial
  go_enter Tryz.func159, Tryz.ntmps159
  go_wp2_with (first
    | (go_at_call 63; refine (hb _).mono ?_; rintro e w' ⟨rfl, hw⟩; obtain rfl := hw.symm)
    | (go_at_call 62; refine (text_is h tb htb).mono ?_; rintro e w2 ⟨rfl, hp2, hf2⟩)
    | (go_at_call 161; refine (codeAhead_is hp2 tb 0 hcc).mono ?_; rintro e w3 ⟨rfl, hp3, hf3⟩)
    | (go_at_call 65; clear T1; refine (take_no hp3 ⟨#[40]⟩ HP.out).mono ?_; rintro e w4 ⟨rfl, hp4, hf4⟩)
    | (go_at_call 65; refine (take_no hp4 ⟨#[112, 114, 101]⟩ HQ.out).mono ?_; rintro e w5 ⟨rfl, hp5, hf5⟩; obtain ⟨d0, d1, -⟩ := hp5.cells; obtain ⟨t0, -, -⟩ := hp5.now))
  go_quiet (fail)
  have hf6 := (Fr.refl w5.heap.size [] w5).drewN nq
  have hp6 := hp5.same hf6
  have hF := ((((hf2.wide (X := [C.rb])).up hf3.wide).up hf4.wide).up hf5.wide).up hf6.wide
  go_wp2_with (go_at_call 58; refine (name_any hp6).mono ?_; rintro e w7 h7; rcases h7.cases with ⟨f, hr7, q, rfl, hq⟩ | ⟨s7, v7, hr7, rfl, ⟨rfl, hp7⟩, hf7⟩; (· exact ⟨rfl, by rw [(HE _ hr7).out]; exact Thrown.up hF ⟨q, rfl, hq⟩⟩); rw [sv])
  go_ret
  rw [(HO _ hr7).out]
  obtain ⟨hp8, hf8⟩ := hp7.alloc (.cells #[.int .i64 2, .int .i64 0, .string ⟨s7.toArray⟩, .pointer none, .pointer none] 222)
  exact ⟨_, rfl, ⟨isE_leaf rfl (hF.up hf7).size rfl, hp8⟩, (hF.up hf7).up hf8⟩

theorem one_succ {C : Ctx} {k : Nat} (ho : One C k) (hch : Chain C k 5) : One C (k + 1) := by
  intro w i st ins und hu h
  by_cases hc0 : codeAhead (tx C.L i) = 0
  · by_cases hpar : tx C.L i = kPar
    · exact one_par hch w i st ins und hu h hc0 hpar
    · by_cases hpre : tx C.L i = kPre
      · exact one_pre w i st ins und hu h hc0 hpar hpre
      · by_cases hk : kd C.L i = 2
        · exact one_num w i st ins und hu h hc0 hpar hpre hk
        · exact one_name w i st ins und hu h hc0 hpar hpre hk
  · exact one_ahead ho w i st ins und hu h hc0
theorem chain_all {C : Ctx} {k : Nat} (ho : One C k) : ∀ t, t ≤ 5 → Chain C k t := by
  intro t
  induction t with
  | zero => intro _; exact chain_zero ho
  | succ t ih => intro ht; exact chain_succ (by omega) (ih (by omega))
theorem one_all {C : Ctx} : ∀ k, One C k := by
  intro k
  induction k with
  | zero => exact one_zero
  | succ k ih => exact one_succ ih (chain_all ih 5 (Nat.le_refl _))
/-- an E -/
theorem expr_any {C : Ctx} {w : World} {i st ins : Nat} (h : PS C w i st ins 0) : Calls Tryz.prog 137 #[.pointer (some ⟨C.rb, 0, none⟩)] w (Out C (OkE C w st ins 0) w (expr C.L i)) :=
  loosest_of (chain_all (one_all 7) 5 (Nat.le_refl _)) w i st ins 0 (by omega) h
end Go.Proofs.YtiihgnagjemikaaGreatDoor
/- sets, times, way. -/
namespace Go.Proofs.YtiihgnagjemikaaGreatDoor
open Go.RowKit Px

theorem Tryz.info203 : (Tryz.prog.info? 203).map (fun i => (i.zero, i.size, i.bytes)) = some (some (.agg #[.string ⟨#[]⟩, .pointer none]), 2, 24) := by kernel_rfl
theorem IsE.oneCell {A : Nat → Prop} {w : World} {e : E} {v : Value} (h : IsE A w e v) : v.oneCell' = true := by
  obtain ⟨u, rfl⟩ := h.ptr; rfl
/-- blocks from a number on that a value does not own -/
def GeNot (n : Nat) (v : Value) (b : Nat) : Prop := n ≤ b ∧ v.ownBlock ≠ some b
/-- a row to which records were added, and what lay in it, and in others -/
theorem row_keep {B : Nat} {v v' : Value} {w w1 w2 : World} (hk : Keep (GeNot B v) (GeNot B v) w w1) (hs : w.heap.size ≤ w1.heap.size) (hg : w1.grownBy w2 v.ownBlock) (hat : v'.ownBlock = v.ownBlock ∨ v'.ownBlock = some w1.heap.size) : Keep (GeNot B v) (GeNot B v') w w2 := fun b hb hlt => by
  obtain ⟨h1, h2⟩ := hk b hb hlt
  refine ⟨⟨hb.1, ?_⟩, ?_⟩
  · rcases hat with h | h
    · rw [h]; exact hb.2
    · rw [h]; intro e; injection e with e; omega
  · rw [hg.block b (by omega) (fun e => hb.2 e.symm), h2]
theorem ge_geNot {B n : Nat} {v : Value} {w : World} (hB : B ≤ n) (hv : ∀ g, v.ownBlock = some g → g < n) : Keep (Ge n) (GeNot B v) w w := fun b hb _ =>
  ⟨⟨Nat.le_trans hB hb, fun e => by have := hv b e; simp [Ge] at hb; omega⟩, rfl⟩
theorem geNot_ge {B : Nat} {v : Value} {w : World} : Keep (GeNot B v) (Ge B) w w := fun _ hb _ => ⟨hb.1, rfl⟩
theorem keepNot {C : Ctx} {B : Nat} {v : Value} {w w' : World} (hB : C.rb < B) (hf : Fr w.heap.size [C.rb] w w') : Keep (GeNot B v) (GeNot B v) w w' := hf.keep (fun b hb => by
  have := hb.1; simp; omega)
theorem own_carry {C : Ctx} {B e size n : Nat} {v : Value} {xs : List Value} {w w' : World} (h : w.ownsRow B e size v n xs) (hB : C.rb < B) (hf : Fr w.heap.size [C.rb] w w') : w'.ownsRow B e size v n xs := by
  refine ⟨h.1, ?_⟩
  rcases h.2 with hn | ⟨g, cap, cur, rfl, hb, hgg, rest⟩
  · exact .inl hn
  · exact .inr ⟨g, cap, cur, rfl, hb, by rw [hf.block g (lt_of_block hgg) (by simp; omega)]; exact hgg, rest⟩
/-- what is set, so far -/
structure SetsAt (B : Nat) (w : World) (l : List Asg) (v : Value) (xs : List Value) : Prop where
  own : w.ownsRow B 203 2 v l.length xs
  rows : Rows (SetC (GeNot B v) w) l xs
theorem SetsAt.done {B : Nat} {w : World} {l : List Asg} {v : Value} {xs : List Value} (h : SetsAt B w l v xs) : IsSets (Ge B) w l v :=
  ⟨xs, ⟨own_base0 h.own, fun g hg => (h.own.lt g hg).1⟩, h.rows.map (SetC.carry geNot_ge)⟩
theorem SetsAt.carry {C : Ctx} {B : Nat} {w w' : World} {l : List Asg} {v : Value} {xs : List Value} (h : SetsAt B w l v xs) (hB : C.rb < B) (hf : Fr w.heap.size [C.rb] w w') : SetsAt B w' l v xs :=
  ⟨own_carry h.own hB hf, h.rows.map (SetC.carry (keepNot hB hf))⟩
theorem PS.low {C : Ctx} {w w' : World} {B i st ins und : Nat} (h : PS C w i st ins und) (hB : C.rb < B) (hf : Fr B [] w w') : PS C w' i st ins und := by
  have hgr := h.gr
  have hi := h.hi
  have hg : w'.heap[C.g]? = w.heap[C.g]? := hf.block _ (by omega) (by simp)
  refine ⟨by rw [hf.block _ hB (by simp)]; exact h.rd, fun k t hk => ?_, h.tab.keep (fun b hb => hf.block b (by omega) (by simp)), h.lt, h.wf, h.gr, h.hi⟩
  have := h.tk k t hk
  rw [World.cell?_of_block (w := w) (a := ⟨C.g, k * 3, none⟩) hg, World.cell?_of_block (w := w) (a := ⟨C.g, k * 3 + 1, none⟩) hg, World.cell?_of_block (w := w) (a := ⟨C.g, k * 3 + 2, none⟩) hg]
  exact this
def OkS (C : Ctx) (w : World) (st ins : Nat) (p : List Asg × Nat) (v : Value) (w' : World) : Prop := (∃ xs, SetsAt w.heap.size w' p.1 v xs) ∧ p.1.length ≤ p.2 ∧ PS C w' p.2 st ins 0
theorem cell_two_new (w : World) (a b : Value) (t : TypeId) : ∀ j u, [a, b][j]? = some u → (w.alloc (.cells #[a, b] t)).cell? ((⟨w.heap.size, 0, none⟩ : Addr).add j) = some u := by
  intro j u hj
  match j, hj with
  | 0, hj => simp at hj; subst hj; simp [Addr.add]
  | 1, hj => simp at hj; subst hj; simp [Addr.add]
  | j + 2, hj => simp at hj
theorem expr_lt {L : List Lx.Tok} {i j : Nat} {e : E} (h : Hid (expr L i = .ok (e, j))) : i < j := lev_lt (one_lt 7) _ _ _ _ h.out
theorem Fr.up' {B : Nat} {X : List Nat} {w w1 w2 : World} (h : Fr B X w w1) (k : Fr w1.heap.size X w1 w2) (hB : B ≤ w1.heap.size) : Fr B X w w2 := h.trans (k.mono hB (fun _ hx _ => hx))
/-- one more that is set -/
theorem sets_step {C : Ctx} {B : Nat} {w wr w5 w6 : World} {l : List Asg} {v v' : Value} {xs : List Value} {s : Str} {e : E} {p : Value} {o : Obj} (hB : C.rb < B) (hBr : B ≤ wr.heap.size) (h : SetsAt B wr l v xs) (hf : Fr wr.heap.size [C.rb] wr w5) (hw : Fr B [C.rb] w wr) (he : IsE (Ge wr.heap.size) w5 e p)
    (hown : w6.ownsRow B 203 2 v' (l.length + 1) (xs ++ [sv s, p])) (hg : (w5.alloc o).grownBy w6 v.ownBlock) (hat : v'.ownBlock = v.ownBlock ∨ v'.ownBlock = some (w5.alloc o).heap.size) :
    SetsAt B w6 (l ++ [⟨s, e⟩]) v' (xs ++ [sv s, p]) ∧ Fr B [C.rb] w w6 := by
  have hs5 := hf.size
  have kA : ∀ A : Nat → Prop, Keep A A w5 (w5.alloc o) := fun A b ha hb => ⟨ha, Below.heap_alloc _ _ _ hb⟩
  have k1 : Keep (GeNot B v) (GeNot B v') wr w6 := row_keep ((keepNot hB hf).trans (kA _) hs5) (by simp; omega) hg hat
  have hvl : ∀ g, v.ownBlock = some g → g < wr.heap.size := fun g hg => (h.own.lt g hg).2
  have k2 : Keep (Ge wr.heap.size) (GeNot B v') w5 w6 := ((ge_geNot hBr hvl).trans (row_keep (kA _) (by simp) hg hat) (Nat.le_refl _))
  refine ⟨⟨by rw [List.length_append]; exact hown, (h.rows.map (SetC.carry k1)).append (Rows.one ⟨p, rfl, he.carry k2⟩)⟩, ?_⟩
  exact ((hw.up' hf hBr).alloc (by omega) o).grown hg (by simp; omega) (fun k hk => .inl (h.own.lt k hk).1)

set_option maxRecDepth 100000 in
set_option maxHeartbeats 4000000 in
theorem sets_any {C : Ctx} {w : World} {i st ins : Nat} (h : PS C w i st ins 0) : Calls Tryz.prog 136 #[.pointer (some ⟨C.rb, 0, none⟩)] w (Out C (OkS C w st ins) w (sets C.L C.L.length [] i)) := by
  obtain ⟨i0, hi, hz0, hz1, hz2⟩ := info_parts Tryz.info203
  have hC := h.lts.1
  go_enter Tryz.func136, Tryz.ntmps136
  go_wp2_with fail
  go_loopg [3] C.L.length (fun g v wr => ∃ (l : List Asg) (j : Nat) (xs : List Value), Hid (sets C.L C.L.length [] i = sets C.L g l j) ∧ C.L.length ≤ g + j ∧ l.length ≤ j ∧ SetsAt w.heap.size wr l v xs ∧ PS C wr j st ins 0 ∧ Fr w.heap.size [C.rb] w wr)
  case atStart => exact ⟨[], i, [], rfl, by omega, by simp, ⟨World.ownsRow_nil _ _ _ _, rfl⟩, h, Fr.refl _ _ _⟩
  case round =>
    obtain ⟨l, j, xs, hr1, hg, hlj, hS, hp1, hf1⟩ := hrel
    obtain ⟨ao, cap, rfl⟩ := owns_shape hS.own
    have hl6 := hp1.wf.len
    have hj6 := hp1.lt
    have hB1 := hf1.size
    obtain ⟨g', hgg⟩ : ∃ g', gk = g' + 1 := ⟨gk - 1, by have := hp1.lt; omega⟩
    subst hgg
    have T1 : Hid True := trivial
    go_wp2_with (first
      | (go_at_call 58; refine (name_any hp1).mono ?_; rintro e w2 h2; rcases h2.cases with ⟨f, hr2, q, rfl, hq⟩ | ⟨s2, v2, hr2, rfl, ⟨rfl, hp2⟩, hf2⟩; (· exact ⟨rfl, by rw [hr1.out, sets, hr2.out]; exact Thrown.up hf1 ⟨q, rfl, hq⟩⟩); rw [sv])
      | (go_at_call 57; refine (need_any hp2 ⟨#[58, 61]⟩ kColEq rfl (by decide)).mono ?_; rintro e w3 h3; rcases h3.cases with ⟨f, hr3, q, rfl, hq⟩ | ⟨_, v3, hr3, rfl, ⟨rfl, hp3⟩, hf3⟩; (· exact ⟨rfl, by rw [hr1.out, sets, hr2.out]; simp only; rw [if_neg (need_bad hr3).1, ← (need_bad hr3).2]; exact Thrown.up (hf1.up hf2) ⟨q, rfl, hq⟩⟩))
      | (go_at_call 137; refine (expr_any hp3).mono ?_; rintro e w4 h4; rcases h4.cases with ⟨f, hr4, q, rfl, hq⟩ | ⟨⟨e4, j4⟩, v4, hr4, rfl, ⟨hv4, hp4⟩, hf4⟩; (· exact ⟨rfl, by rw [hr1.out, sets, hr2.out]; simp only; rw [if_pos (need_ok hr3), hr4.out]; exact Thrown.up ((hf1.up hf2).up hf3) ⟨q, rfl, hq⟩⟩); obtain ⟨p4, rfl⟩ := hv4.ptr; have hj4 := expr_lt hr4; have hl4 := hp4.lt; have hF4 : Fr wr.heap.size [C.rb] wr w4 := (hf2.up hf3).up hf4; have hB4 := hF4.size; have hv4' := hv4.ge ((hf2.up hf3).size))
      | (at_builtin; refine wpList_append_own_at _ rfl (.tmp 9) (.tmp 14) 165 rfl w.heap.size 203 i0 (.agg #[.string ⟨#[]⟩, .pointer none]) 2 24 Tryz.underlying165 hi hz0 hz1 hz2 rfl (by decide) _ _ _ rfl ((own_carry hS.own hC hF4).alloc _) ⟨w4.heap.size, 0, none⟩ 1 1 [.string ⟨s2.toArray⟩, .pointer p4] rfl rfl (cell_two_new _ _ _ _) (by intro u hu; simp at hu; rcases hu with rfl | rfl <;> rfl) (by unfold maxLen; omega) (by omega) (by simp; omega) ?_; intro v5 w5 hown5 hgrow _ hat; obtain ⟨hS5, hF5⟩ := sets_step (s := s2) (e := e4) hC hB1 hS hF4 hf1 hv4' hown5 hgrow hat; clear hown5; have hb5 : Fr w.heap.size [] w4 w5 := ((Fr.refl _ _ _).alloc (by omega) _).grown hgrow (by simp; omega) (fun k hk => .inl (hS.own.lt k hk).1); have hp5 := hp4.low hC hb5))
    have hsh : w5.ownsRow w.heap.size 203 2 v5 (l.length + 1) (xs ++ [sv s2, .pointer p4]) := by have := hS5.own; rw [List.length_append] at this; exact this
    obtain ⟨ao5, cap5, rfl⟩ := owns_shape hsh
    by_cases hcm : tx C.L j4 = kComma
    · go_wp2_with (go_at_call 65; refine (take_yes hp5 ⟨#[44]⟩ hcm (by decide)).mono ?_; rintro e w6 ⟨rfl, hp6, hf6⟩)
      go_roundg g'
      case measure => omega
      case rel => exact ⟨l ++ [⟨s2, e4⟩], j4 + 1, _, by rw [Hid, hr1.out, sets, hr2.out]; simp only; rw [if_pos (need_ok hr3), hr4.out]; simp only; rw [if_pos hcm], by omega, by simp; omega, hS5.carry hC hf6, hp6, hF5.up' hf6 (by have := hF5.size; omega)⟩
    · go_wp2_with (go_at_call 65; refine (take_no hp5 ⟨#[44]⟩ hcm).mono ?_; rintro e w6 ⟨rfl, hp6, hf6⟩)
      go_ret
      rw [hr1.out, sets, hr2.out]
      simp only
      rw [if_pos (need_ok hr3), hr4.out]
      simp only
      rw [if_neg hcm]
      exact ⟨_, rfl, ⟨⟨_, hS5.carry hC hf6.wide⟩, by simp; omega, hp6⟩, hF5.up' hf6.wide (by have := hF5.size; omega)⟩

set_option maxRecDepth 100000 in
set_option maxHeartbeats 2000000 in
theorem times_any {C : Ctx} {w : World} {i st ins und : Nat} (h : PS C w i st ins und) : Calls Tryz.prog 144 #[.pointer (some ⟨C.rb, 0, none⟩)] w (Out C (fun (n : Nat) v w' => v = .int .i64 n ∧ PS C w' (i + 1) st ins und) w (times C.L i)) := by
  rcases hn : number C.L i with f | n
  · have HN : Hid _ := hn
    clear hn
    go_enter Tryz.func144, Tryz.ntmps144
    go_wp2_with (go_at_call 94; refine (number_any _ i st ins und h).mono ?_; rintro e w1 h1; rw [HN.out] at h1; obtain ⟨q, rfl, hq⟩ := h1; exact ⟨rfl, by rw [times, HN.out]; exact ⟨q, rfl, hq⟩⟩)
  · have HN : Hid _ := hn
    clear hn
    by_cases hb : n < 1 ∨ 1000 < n
    · have HT : Hid (times C.L i = .error (4, pl C.L i)) := by rw [Hid, times, HN.out]; exact if_pos hb
      rcases hb with hb | hb
      · have hb1 : (n : Int) < 1 := by omega
        go_enter Tryz.func144, Tryz.ntmps144
        go_wp2_with (first
          | (go_at_call 94; refine (number_any _ i st ins und h).mono ?_; rintro e w1 h1; rw [HN.out] at h1; obtain ⟨v1, rfl, ⟨rfl, hn18, hp1⟩, hf1⟩ := h1; obtain ⟨-, c1, -⟩ := hp1.cells; have z1 := hp1.frozen 1; obtain ⟨hp2, hf2⟩ := hp1.back; have hl6 := hp1.wf.len; have hil := hp1.lt)
          | (go_at_call 67; refine (throw_any hp2 4).mono ?_; rintro e w3 ⟨q, rfl, ht⟩))
        rw [HT.out]
        exact ⟨rfl, Thrown.up (hf1.up hf2) ⟨q, rfl, ht⟩⟩
      · have hb1 : ¬ (n : Int) < 1 := by omega
        have hb2 : (1000 : Int) < (n : Int) := by omega
        go_enter Tryz.func144, Tryz.ntmps144
        go_wp2_with (first
          | (go_at_call 94; refine (number_any _ i st ins und h).mono ?_; rintro e w1 h1; rw [HN.out] at h1; obtain ⟨v1, rfl, ⟨rfl, hn18, hp1⟩, hf1⟩ := h1; obtain ⟨-, c1, -⟩ := hp1.cells; have z1 := hp1.frozen 1; obtain ⟨hp2, hf2⟩ := hp1.back; have hl6 := hp1.wf.len; have hil := hp1.lt)
          | (go_at_call 67; refine (throw_any hp2 4).mono ?_; rintro e w3 ⟨q, rfl, ht⟩))
        rw [HT.out]
        exact ⟨rfl, Thrown.up (hf1.up hf2) ⟨q, rfl, ht⟩⟩
    · have HT : Hid (times C.L i = .ok n) := by rw [Hid, times, HN.out]; exact if_neg hb
      have hb1 : ¬ (n : Int) < 1 := by omega
      have hb2 : ¬ (1000 : Int) < (n : Int) := by omega
      clear hb
      go_enter Tryz.func144, Tryz.ntmps144
      go_wp2_with (go_at_call 94; refine (number_any _ i st ins und h).mono ?_; rintro e w1 h1; rw [HN.out] at h1; obtain ⟨v1, rfl, ⟨rfl, hn18, hp1⟩, hf1⟩ := h1)
      go_ret
      rw [HT.out]
      exact ⟨_, rfl, ⟨rfl, hp1⟩, hf1⟩
end Go.Proofs.YtiihgnagjemikaaGreatDoor
/- variable: a struct as a result. -/
namespace Go.Proofs.YtiihgnagjemikaaGreatDoor
open Go.RowKit Px

theorem PS.put {C : Ctx} {w : World} {i st ins und b : Nat} (h : PS C w i st ins und) (hb : C.rb < b) (o : Nat) (v : Value) : PS C (w.setCell ⟨b, o, none⟩ v) i st ins und :=
  h.low (B := b) hb ((Fr.refl b [] w).setCell (p := ⟨b, o, none⟩) (.inl (Nat.le_refl _)) v)
theorem Fr.row {B : Nat} {X : List Nat} {a w : World} (h : Fr B X a w) {b : Nat} (hp : B ≤ b ∨ b ∈ X) (cs : Array Value) : Fr B X a (w.setRow b cs) :=
  h.trans ⟨rfl, rfl, rfl, by simp [World.setRow], fun k hk hx => setRow_other _ _ _ _ (fun e => by rcases hp with hp | hp; omega; exact hx (e ▸ hp))⟩
theorem PS.row {C : Ctx} {w : World} {i st ins und b : Nat} (h : PS C w i st ins und) (hb : C.rb < b) (cs : Array Value) : PS C (w.setRow b cs) i st ins und :=
  h.low (B := b) hb ((Fr.refl _ _ _).row (.inl (Nat.le_refl _)) cs)
theorem blk {C : Ctx} {w w' : World} {b : Nat} {o : Obj} (h : w.heap[b]? = some o) (hb : C.rb < b) (hf : Fr w.heap.size [C.rb] w w') : w'.heap[b]? = some o := by
  rw [hf.block b (lt_of_block h) (by simp; omega)]; exact h
theorem blk2 {w : World} {a b : Nat} {O : Obj} {cs : Array Value} {t : TypeId} (H : w.heap[a]? = some O) (K : w.heap[b]? = some (.cells cs t (0, 0))) (hne : a ≠ b) (o : Nat) (v : Value) : (w.setCell ⟨b, o, none⟩ v).heap[a]? = some O ∧ (w.setCell ⟨b, o, none⟩ v).heap[b]? = some (.cells (cs.setIfInBounds o v) t (0, 0)) :=
  ⟨by rw [Below.heap_setCell _ _ _ _ hne]; exact H, heap_setCell_same w b o _ t _ K⟩
theorem cel {w : World} {b : Nat} {cs : Array Value} {t : TypeId} (K : w.heap[b]? = some (.cells cs t (0, 0))) (o : Nat) (v : Value) (hv : cs[o]? = some v) : w.cell? ⟨b, o, none⟩ = some v ∧ w.frozen? ⟨b, o, none⟩ = false :=
  ⟨by rw [cell_of_row _ _ _ _ _ _ K]; exact hv, by simp [World.frozen?, K]⟩
theorem take_any {C : Ctx} {w : World} {i st ins und : Nat} (h : PS C w i st ins und) (s : ByteArray) (k : Str) (hk : bs s = k) (hne : k ≠ []) : Calls Tryz.prog 65 #[.pointer (some ⟨C.rb, 0, none⟩), .string s] w fun e w' => e = .returned (.bool (decide (tx C.L i = k))) ∧ PS C w' (opt C.L k i) st ins und ∧ Fr w.heap.size [C.rb] w w' := by
  subst hk
  by_cases ht : tx C.L i = bs s
  · refine (take_yes h s ht hne).mono ?_
    rintro e w' ⟨rfl, hp, hf⟩
    exact ⟨by rw [decide_eq_true ht], by rw [opt, if_pos ht]; exact hp, hf⟩
  · refine (take_no h s ht).mono ?_
    rintro e w' ⟨rfl, hp, hf⟩
    exact ⟨by rw [decide_eq_false ht], by rw [opt, if_neg ht]; exact hp, hf.wide⟩
theorem Tryz.size86 : (Tryz.prog.info? 86).map (·.size) = some 3 := by kernel_rfl
theorem results74 (tmps : Array Value) (W : World) (g : Nat) (fc : Array Value) (hsz : fc.size = 3) (hp : tmps.getD 4 undef = .pointer (some ⟨g, 0, none⟩)) (hg : W.heap[g]? = some (.cells fc 86 (0, 0))) :
    (results Tryz.f64 tmps).run Tryz.prog W = .ok (.agg fc) W := by
  have hl := run_loadVar_row (P := Tryz.prog) W g 86 86 fc (0, 0) _ hg Tryz.underlying86 rfl (by rw [hsz]; exact Tryz.size86)
  have hp' : tmps[4]?.getD undef = .pointer (some ⟨g, 0, none⟩) := by simpa using hp
  simp [results, Tryz.results64, hp', asAddr, hl]
def OkV (C : Ctx) (st ins : Nat) (p : Decl × Nat) (v : Value) (w' : World) : Prop := v = .agg #[.int .i64 p.1.kind, sv p.1.name, .int .i64 p.1.first] ∧ PS C w' p.2 st ins 0
theorem load62 {W : World} {g : Nat} {fc : Array Value} (hsz : fc.size = 3) (hg : W.heap[g]? = some (.cells fc 86 (0, 0))) : (loadVar 86 ⟨g, 0, none⟩).run Tryz.prog W = .ok (.agg fc) W :=
  run_loadVar_row (P := Tryz.prog) W g 86 86 fc (0, 0) _ hg Tryz.underlying86 rfl (by rw [hsz]; exact Tryz.size86)
theorem three_one (a b : Int) (s : ByteArray) : (#[Value.int .i64 a, .string s, .int .i64 b] : Array Value).all (·.oneCell') = true := by simp [Value.oneCell']

set_option maxRecDepth 100000 in
set_option maxHeartbeats 4000000 in
theorem variable_none {C : Ctx} {w : World} {i st ins : Nat} (h : PS C w i st ins 0) (kind : Nat) (hce : tx C.L (i + 1) ≠ kColEq) : Calls Tryz.prog 64 #[.pointer (some ⟨C.rb, 0, none⟩), .int .i64 kind] w (Out C (OkV C st ins) w (variable_ C.L kind i)) := by
  have hC := h.lts.1
  obtain ⟨hp0, hf0⟩ := h.alloc (.cells #[.int .i64 0, .string ⟨#[]⟩, .int .i64 0] 86)
  have H0 : (w.alloc (.cells #[.int .i64 0, .string ⟨#[]⟩, .int .i64 0] 86)).heap[w.heap.size]? = some (.cells #[.int .i64 0, .string ⟨#[]⟩, .int .i64 0] 86 (0, 0)) := heap_alloc_new _ _
  have HCE : Hid _ := hce
  have HV : ∀ s, Hid (nm C.L i = .ok s) → Hid (variable_ C.L kind i = if tx C.L (i + 1) = kSemi then .ok (⟨kind, s, 0⟩, i + 2) else .error (3, pl C.L (i + 1))) := fun s hs => by
    rw [Hid, variable_, hs.out, first, if_neg HCE.out]
  clear hce
  go_enter Tryz.func64, Tryz.ntmps64
  go_wp2_with (first
    | (go_at_call 58; refine (name_any hp0).mono ?_; rintro e w1 h1; rcases h1.cases with ⟨f, hr1, q, rfl, hq⟩ | ⟨s1, v1, hr1, rfl, ⟨rfl, hp1⟩, hf1⟩; (· exact ⟨rfl, by rw [variable_, hr1.out]; exact Thrown.up hf0 ⟨q, rfl, hq⟩⟩); rw [sv]; have H1 := blk H0 hC hf1; clear H0; obtain ⟨hp2, hf2⟩ := hp1.alloc (.cells #[.int .i64 kind, .string ⟨s1.toArray⟩, .int .i64 0] 86); have H2 := blk H1 hC hf2; have hc1 := hp1.lts.1; have hne : w.heap.size ≠ w1.heap.size := (by (have := hf1.size; simp at this; omega)); have K2 : (w1.alloc (.cells #[.int .i64 kind, .string ⟨s1.toArray⟩, .int .i64 0] 86)).heap[w1.heap.size]? = some (.cells #[.int .i64 kind, .string ⟨s1.toArray⟩, .int .i64 0] 86 (0, 0)) := heap_alloc_new _ _)
    | (go_at_call 65; refine (take_no hp2 ⟨#[58, 61]⟩ HCE.out).mono ?_; rintro e w3 ⟨rfl, hp3, hf3⟩; have H3 := blk H2 hC hf3.wide; have K3 := blk K2 hc1 hf3.wide)
    | (go_at_call 57; refine (need_any hp3 ⟨#[59]⟩ kSemi rfl (by decide)).mono ?_; rintro e w4 h4; rcases h4.cases with ⟨f, hr4, q, rfl, hq⟩ | ⟨_, v4, hr4, rfl, ⟨rfl, hp4⟩, hf4⟩; (· exact ⟨rfl, by rw [(HV _ hr1).out, if_neg (need_bad hr4).1, ← (need_bad hr4).2]; exact Thrown.up (((hf0.up hf1).up hf2).up hf3.wide) ⟨q, rfl, hq⟩⟩); have H4 := blk H3 hC hf4; have K4 := blk K3 hc1 hf4; clear H3 K3)
    | (refine wpList_load_eq rfl 86 (.tmp 5) rfl ⟨w1.heap.size, 0, none⟩ rfl (.agg #[.int .i64 kind, .string ⟨s1.toArray⟩, .int .i64 0]) (load62 rfl K4) ?_)
    | (refine wpList_store_row rfl 86 (.tmp 4) (.tmp 25) rfl w.heap.size #[.int .i64 kind, .string ⟨s1.toArray⟩, .int .i64 0] rfl rfl 86 _ H4 Tryz.size86 rfl (three_one _ _ _) ?_))
  refine bodyPost_ret (results74 _ _ w.heap.size #[.int .i64 kind, .string ⟨s1.toArray⟩, .int .i64 0] rfl rfl (setRow_heap _ _ _ _ _ _ H4)) rfl ?_
  rw [(HV _ hr1).out, if_pos (need_ok hr4)]
  exact ⟨_, rfl, ⟨rfl, hp4.row hC _⟩, (((((hf0.up hf1).up hf2).up hf3.wide).up hf4).row (.inl (Nat.le_refl _)) _)⟩

set_option maxRecDepth 100000 in
set_option maxHeartbeats 4000000 in
theorem variable_pos {C : Ctx} {w : World} {i st ins : Nat} (h : PS C w i st ins 0) (kind : Nat) (hce : tx C.L (i + 1) = kColEq) (hmi : tx C.L (i + 2) ≠ kMinus) : Calls Tryz.prog 64 #[.pointer (some ⟨C.rb, 0, none⟩), .int .i64 kind] w (Out C (OkV C st ins) w (variable_ C.L kind i)) := by
  have hC := h.lts.1
  obtain ⟨hp0, hf0⟩ := h.alloc (.cells #[.int .i64 0, .string ⟨#[]⟩, .int .i64 0] 86)
  have H0 : (w.alloc (.cells #[.int .i64 0, .string ⟨#[]⟩, .int .i64 0] 86)).heap[w.heap.size]? = some (.cells #[.int .i64 0, .string ⟨#[]⟩, .int .i64 0] 86 (0, 0)) := heap_alloc_new _ _
  have HV : ∀ s, Hid (nm C.L i = .ok s) → Hid (variable_ C.L kind i = match number C.L (i + 2) with | .error x => .error x | .ok n => if tx C.L (i + 3) = kSemi then .ok (⟨kind, s, (n : Int)⟩, i + 3 + 1) else .error (3, pl C.L (i + 3))) := fun s hs => by
    rw [Hid, variable_, hs.out, first, if_pos hce, if_neg hmi]
    cases number C.L (i + 2) <;> rfl
  have HCE : Hid _ := hce
  have HMI : Hid _ := hmi
  clear hce hmi
  have T1 : Hid True := trivial
  go_enter Tryz.func64, Tryz.ntmps64
  go_wp2_with (first
    | (go_at_call 58; refine (name_any hp0).mono ?_; rintro e w1 h1; rcases h1.cases with ⟨f, hr1, q, rfl, hq⟩ | ⟨s1, v1, hr1, rfl, ⟨rfl, hp1⟩, hf1⟩; (· exact ⟨rfl, by rw [variable_, hr1.out]; exact Thrown.up hf0 ⟨q, rfl, hq⟩⟩); rw [sv]; have H1 := blk H0 hC hf1; clear H0; obtain ⟨hp2, hf2⟩ := hp1.alloc (.cells #[.int .i64 kind, .string ⟨s1.toArray⟩, .int .i64 0] 86); have H2 := blk H1 hC hf2; have hc1 := hp1.lts.1; have hne : w.heap.size ≠ w1.heap.size := (by (have := hf1.size; simp at this; omega)); have K2 : (w1.alloc (.cells #[.int .i64 kind, .string ⟨s1.toArray⟩, .int .i64 0] 86)).heap[w1.heap.size]? = some (.cells #[.int .i64 kind, .string ⟨s1.toArray⟩, .int .i64 0] 86 (0, 0)) := heap_alloc_new _ _)
    | (go_at_call 65; clear T1; refine (take_yes hp2 ⟨#[58, 61]⟩ HCE.out (by decide)).mono ?_; rintro e w3 ⟨rfl, hp3, hf3⟩; have H3 := blk H2 hC hf3; have K3 := blk K2 hc1 hf3)
    | (go_at_call 65; refine (take_no hp3 ⟨#[45]⟩ HMI.out).mono ?_; rintro e w4 ⟨rfl, hp4, hf4⟩; have H4 := blk H3 hC hf4.wide; have K4 := blk K3 hc1 hf4.wide; clear H3 K3; have hF4 := (((hf0.up hf1).up hf2).up hf3).up hf4.wide)
    | (go_at_call 94; refine (number_any _ _ st ins 0 hp4).mono ?_; rintro e w5 h5; rcases h5.cases with ⟨f, hr5, q, rfl, hq⟩ | ⟨n, v5, hr5, rfl, ⟨rfl, hn18, hp5⟩, hf5⟩; (· exact ⟨rfl, by rw [(HV _ hr1).out, hr5.out]; exact Thrown.up hF4 ⟨q, rfl, hq⟩⟩); have H5 := blk H4 hC hf5; have K5 := blk K4 hc1 hf5; clear H4 K4; have hn1 : (n : Int) < 1000000000000000000 := (by omega); have hn0 : (0 : Int) ≤ n := (by omega); obtain ⟨k2, z2⟩ := cel K5 2 _ rfl; have hp6 := hp5.put hc1 2 (.int .i64 (n : Int)); obtain ⟨H6, K6⟩ := blk2 H5 K5 hne 2 (.int .i64 (n : Int)); have hF6 : Fr w.heap.size [C.rb] w (w5.setCell ⟨w1.heap.size, 2, none⟩ (.int .i64 (n : Int))) := (hF4.up hf5).setCell (.inl ((hf0.up hf1).size)) _)
    | (go_at_call 57; refine (need_any hp6 ⟨#[59]⟩ kSemi rfl (by decide)).mono ?_; rintro e w7 h7; rcases h7.cases with ⟨f, hr7, q, rfl, hq⟩ | ⟨_, v7, hr7, rfl, ⟨rfl, hp7⟩, hf7⟩; (· exact ⟨rfl, by rw [(HV _ hr1).out, hr5.out]; simp only; rw [if_neg (need_bad hr7).1, ← (need_bad hr7).2]; exact Thrown.up hF6 ⟨q, rfl, hq⟩⟩); have H7 := blk H6 hC hf7; have K7 := blk K6 hc1 hf7)
    | (refine wpList_load_eq rfl 86 (.tmp 5) rfl ⟨w1.heap.size, 0, none⟩ rfl (.agg #[.int .i64 kind, .string ⟨s1.toArray⟩, .int .i64 (n : Int)]) (load62 rfl K7) ?_)
    | (refine wpList_store_row rfl 86 (.tmp 4) (.tmp 25) rfl w.heap.size #[.int .i64 kind, .string ⟨s1.toArray⟩, .int .i64 (n : Int)] rfl rfl 86 _ H7 Tryz.size86 rfl (three_one _ _ _) ?_))
  refine bodyPost_ret (results74 _ _ w.heap.size #[.int .i64 kind, .string ⟨s1.toArray⟩, .int .i64 (n : Int)] rfl rfl (setRow_heap _ _ _ _ _ _ H7)) rfl ?_
  rw [(HV _ hr1).out, hr5.out]
  simp only
  rw [if_pos (need_ok hr7)]
  exact ⟨_, rfl, ⟨rfl, hp7.row hC _⟩, (hF6.up hf7).row (.inl (Nat.le_refl _)) _⟩

set_option maxRecDepth 100000 in
set_option maxHeartbeats 4000000 in
theorem variable_neg {C : Ctx} {w : World} {i st ins : Nat} (h : PS C w i st ins 0) (kind : Nat) (hce : tx C.L (i + 1) = kColEq) (hmi : tx C.L (i + 2) = kMinus) : Calls Tryz.prog 64 #[.pointer (some ⟨C.rb, 0, none⟩), .int .i64 kind] w (Out C (OkV C st ins) w (variable_ C.L kind i)) := by
  have hC := h.lts.1
  obtain ⟨hp0, hf0⟩ := h.alloc (.cells #[.int .i64 0, .string ⟨#[]⟩, .int .i64 0] 86)
  have H0 : (w.alloc (.cells #[.int .i64 0, .string ⟨#[]⟩, .int .i64 0] 86)).heap[w.heap.size]? = some (.cells #[.int .i64 0, .string ⟨#[]⟩, .int .i64 0] 86 (0, 0)) := heap_alloc_new _ _
  have HV : ∀ s, Hid (nm C.L i = .ok s) → Hid (variable_ C.L kind i = match number C.L (i + 3) with | .error x => .error x | .ok n => if tx C.L (i + 4) = kSemi then .ok (⟨kind, s, -(n : Int)⟩, i + 4 + 1) else .error (3, pl C.L (i + 4))) := fun s hs => by
    rw [Hid, variable_, hs.out, first, if_pos hce, if_pos hmi]
    cases number C.L (i + 3) <;> rfl
  have HCE : Hid _ := hce
  have HMI : Hid _ := hmi
  clear hce hmi
  have T1 : Hid True := trivial
  go_enter Tryz.func64, Tryz.ntmps64
  go_wp2_with (first
    | (go_at_call 58; refine (name_any hp0).mono ?_; rintro e w1 h1; rcases h1.cases with ⟨f, hr1, q, rfl, hq⟩ | ⟨s1, v1, hr1, rfl, ⟨rfl, hp1⟩, hf1⟩; (· exact ⟨rfl, by rw [variable_, hr1.out]; exact Thrown.up hf0 ⟨q, rfl, hq⟩⟩); rw [sv]; have H1 := blk H0 hC hf1; clear H0; obtain ⟨hp2, hf2⟩ := hp1.alloc (.cells #[.int .i64 kind, .string ⟨s1.toArray⟩, .int .i64 0] 86); have H2 := blk H1 hC hf2; have hc1 := hp1.lts.1; have hne : w.heap.size ≠ w1.heap.size := (by (have := hf1.size; simp at this; omega)); have K2 : (w1.alloc (.cells #[.int .i64 kind, .string ⟨s1.toArray⟩, .int .i64 0] 86)).heap[w1.heap.size]? = some (.cells #[.int .i64 kind, .string ⟨s1.toArray⟩, .int .i64 0] 86 (0, 0)) := heap_alloc_new _ _)
    | (go_at_call 65; clear T1; refine (take_yes hp2 ⟨#[58, 61]⟩ HCE.out (by decide)).mono ?_; rintro e w3 ⟨rfl, hp3, hf3⟩; have H3 := blk H2 hC hf3; have K3 := blk K2 hc1 hf3)
    | (go_at_call 65; refine (take_yes hp3 ⟨#[45]⟩ HMI.out (by decide)).mono ?_; rintro e w4 ⟨rfl, hp4, hf4⟩; have H4 := blk H3 hC hf4; have K4 := blk K3 hc1 hf4; clear H3 K3; have hF4 := (((hf0.up hf1).up hf2).up hf3).up hf4)
    | (go_at_call 94; refine (number_any _ _ st ins 0 hp4).mono ?_; rintro e w5 h5; rcases h5.cases with ⟨f, hr5, q, rfl, hq⟩ | ⟨n, v5, hr5, rfl, ⟨rfl, hn18, hp5⟩, hf5⟩; (· exact ⟨rfl, by rw [(HV _ hr1).out, hr5.out]; exact Thrown.up hF4 ⟨q, rfl, hq⟩⟩); have H5 := blk H4 hC hf5; have K5 := blk K4 hc1 hf5; clear H4 K4; have hn1 : (n : Int) < 1000000000000000000 := (by omega); have hn0 : (0 : Int) ≤ n := (by omega); obtain ⟨k2, z2⟩ := cel K5 2 _ rfl; have hp6 := (hp5.put hc1 2 (.int .i64 (n : Int))).put hc1 2 (.int .i64 (-(n : Int))); obtain ⟨H6a, K6a⟩ := blk2 H5 K5 hne 2 (.int .i64 (n : Int)); obtain ⟨H6, K6⟩ := blk2 H6a K6a hne 2 (.int .i64 (-(n : Int))); have hF6 := ((hF4.up hf5).setCell (p := ⟨w1.heap.size, 2, none⟩) (.inl ((hf0.up hf1).size)) (.int .i64 (n : Int))).setCell (p := ⟨w1.heap.size, 2, none⟩) (.inl ((hf0.up hf1).size)) (.int .i64 (-(n : Int))))
    | (go_at_call 57; refine (need_any hp6 ⟨#[59]⟩ kSemi rfl (by decide)).mono ?_; rintro e w7 h7; rcases h7.cases with ⟨f, hr7, q, rfl, hq⟩ | ⟨_, v7, hr7, rfl, ⟨rfl, hp7⟩, hf7⟩; (· exact ⟨rfl, by rw [(HV _ hr1).out, hr5.out]; simp only; rw [if_neg (need_bad hr7).1, ← (need_bad hr7).2]; exact Thrown.up hF6 ⟨q, rfl, hq⟩⟩); have H7 := blk H6 hC hf7; have K7 := blk K6 hc1 hf7)
    | (refine wpList_load_eq rfl 86 (.tmp 5) rfl ⟨w1.heap.size, 0, none⟩ rfl (.agg #[.int .i64 kind, .string ⟨s1.toArray⟩, .int .i64 (-(n : Int))]) (load62 rfl K7) ?_)
    | (refine wpList_store_row rfl 86 (.tmp 4) (.tmp 25) rfl w.heap.size #[.int .i64 kind, .string ⟨s1.toArray⟩, .int .i64 (-(n : Int))] rfl rfl 86 _ H7 Tryz.size86 rfl (three_one _ _ _) ?_))
  refine bodyPost_ret (results74 _ _ w.heap.size #[.int .i64 kind, .string ⟨s1.toArray⟩, .int .i64 (-(n : Int))] rfl rfl (setRow_heap _ _ _ _ _ _ H7)) rfl ?_
  rw [(HV _ hr1).out, hr5.out]
  simp only
  rw [if_pos (need_ok hr7)]
  exact ⟨_, rfl, ⟨rfl, hp7.row hC _⟩, (hF6.up hf7).row (.inl (Nat.le_refl _)) _⟩

theorem variable_any {C : Ctx} {w : World} {i st ins : Nat} (h : PS C w i st ins 0) (kind : Nat) : Calls Tryz.prog 64 #[.pointer (some ⟨C.rb, 0, none⟩), .int .i64 kind] w (Out C (OkV C st ins) w (variable_ C.L kind i)) := by
  by_cases hce : tx C.L (i + 1) = kColEq
  · by_cases hmi : tx C.L (i + 2) = kMinus
    · exact variable_neg h kind hce hmi
    · exact variable_pos h kind hce hmi
  · exact variable_none h kind hce
end Go.Proofs.YtiihgnagjemikaaGreatDoor
