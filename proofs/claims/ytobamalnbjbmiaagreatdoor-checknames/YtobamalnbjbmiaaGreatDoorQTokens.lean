/- the document's own answer, Tokens. -/
import Derived.Test.YtobamalnbjbmiaaGreatDoorQMark2
import Derived.Deep.CutRange
import Derived.Deep.LoopGhost
import Derived.Deep.RegionHeld3
import Derived.Laws.CopyOwn
import Derived.Deep.AppendLies
namespace Go.Proofs.YtobamalnbjbmiaaGreatDoor
open Go.RowKit

def Fine (w : World) : Prop := w.cell? ⟨0, 0, none⟩ = some (.int .i64 0) ∧ w.cell? ⟨0, 1, none⟩ = some (.int .i64 (-1))

def Toks (s : ByteArray) (w : World) (v f : Value) (w' : World) : Prop :=
  Below w.heap.size w w' ∧
  ((∃ l, Lx.Ok (bs s) l ∧ f = .agg #[.int .i64 0, .int .i64 (-1)] ∧ w'.ownsRow w.heap.size 183 3 v (l.length + 1) (cells (l ++ [⟨4, [], s.size⟩]))) ∨
   (∃ e q : Nat, Lx.Bad (bs s) e q ∧ v = .slice none 0 0 ∧ f = .agg #[.int .i64 e, .int .i64 q]))

theorem Tryz.info183 : (Tryz.prog.info? 183).map (fun i => (i.zero, i.size, i.bytes)) = some (some (.agg #[.int .i64 0, .string ⟨#[]⟩, .int .i64 0]), 3, 32) := by kernel_rfl

/-- what stays, behind a new block -/
theorem ref_keep {w wr : World} {v : Value} {n : Nat} {xs : List Value} {fc : Array Value} (o : Obj) (hown : wr.ownsRow (w.heap.size + 1) 183 3 v n xs) (hF : wr.heap[w.heap.size]? = some (.cells fc 74 (0, 0))) (hbw : Below w.heap.size w wr) :
    (wr.alloc o).ownsRow (w.heap.size + 1) 183 3 v n xs ∧ (wr.alloc o).heap[w.heap.size]? = some (.cells fc 74 (0, 0)) ∧ Below w.heap.size w (wr.alloc o) :=
  ⟨hown.alloc o, by rw [Below.heap_alloc _ _ _ (lt_of_block hF)]; exact hF, hbw.alloc hbw.size o⟩

theorem blank_cases (c : UInt8) (h : Lx.blank c = true) : (c.toNat : Int) = 32 ∨ (c.toNat : Int) = 9 ∨ (c.toNat : Int) = 10 := by
  simp [Lx.blank] at h
  rcases h with (rfl | rfl) | rfl
  · exact .inl rfl
  · exact .inr (.inl rfl)
  · exact .inr (.inr rfl)
theorem blank_not (c : UInt8) (h : Lx.blank c = false) : ¬ (c.toNat : Int) = 32 ∧ ¬ (c.toNat : Int) = 9 ∧ ¬ (c.toNat : Int) = 10 := by
  simp only [Lx.blank, Bool.or_eq_false_iff, beq_eq_false_iff_ne, ne_eq] at h
  refine ⟨fun e => h.1.1 ?_, fun e => h.1.2 ?_, fun e => h.2 ?_⟩ <;> (apply UInt8.toNat_inj.1; simp; omega)

theorem alpha_digit (c : UInt8) (h : Lx.alpha c = true) : Lx.digit c = false := by
  rw [alpha_int] at h
  have : Lx.digit c = (decide (48 ≤ (c.toNat : Int)) && decide ((c.toNat : Int) ≤ 57)) := by
    unfold Lx.digit; congr 1 <;> (rw [decide_eq_decide]; omega)
  rw [this]; simp at h ⊢; omega
theorem mark_at (s : ByteArray) (a m : Nat) (w : World) (h : Hid (Lx.mk ((bs s).drop a) = m)) :
    Calls Tryz.prog 150 #[.string (s.extract a s.size)] w fun e w' => e = .returned (.int .i64 m) ∧ w' = w := by
  refine (mark_any (s.extract a s.size) w).mono ?_
  rintro e w' ⟨rfl, rfl⟩
  exact ⟨ret_int (by rw [bs_from, h.out]), rfl⟩
theorem Tryz.info74 : (Tryz.prog.info? 74).map (·.size) = some 2 := by kernel_rfl
theorem results6 (tmps : Array Value) (W : World) (g : Nat) (fc : Array Value) (hsz : fc.size = 2) (hp : tmps.getD 3 undef = .pointer (some ⟨g, 0, none⟩)) (hg : W.heap[g]? = some (.cells fc 74 (0, 0))) :
    (results Tryz.f99 tmps).run Tryz.prog W = .ok (.tuple #[tmps.getD 2 undef, .agg fc]) W := by
  have hl := run_loadVar_row (P := Tryz.prog) W g 74 74 fc (0, 0) _ hg Tryz.underlying74 rfl (by rw [hsz]; exact Tryz.info74)
  have hp' : tmps[3]?.getD undef = .pointer (some ⟨g, 0, none⟩) := by simpa using hp
  simp [results, Tryz.results99, hp', asAddr, hl]
theorem two_one (e q : Int) : (#[Value.int .i64 e, .int .i64 q] : Array Value).all (·.oneCell') = true := by simp [Value.oneCell']
theorem cell_three_at (w : World) (n : Nat) (hn : w.heap.size = n) (a b c : Value) (t : TypeId) : ∀ j u, [a, b, c][j]? = some u → (w.alloc (.cells #[a, b, c] t)).cell? ((⟨n, 0, none⟩ : Addr).add j) = some u := by
  subst hn; exact cell_three_new w a b c t
/-- an answer of the wrong kind -/
theorem toks_bad {s : ByteArray} {w wr : World} {l : List Lx.Tok} {k a kd ln e : Nat} {o : Obj} {fc : Array Value} (hto : Lx.To (bs s) l k) (hn : l.length ≤ 600) (ha : a = Lx.skipTo (bs s) k) (hlt : a < s.size)
    (hrd : Lx.rd ((bs s).drop a) = (kd, ln)) (hf : Lx.flt kd ln l.length = e) (he : e ≠ 0) (hbw : Below w.heap.size w wr) : Toks s w (.slice none 0 0) (.agg #[.int .i64 e, .int .i64 a]) ((wr.alloc o).setRow w.heap.size fc) := by
  refine ⟨below_setRow (hbw.alloc hbw.size o) (Nat.le_refl _) _, .inr ⟨e, a, ?_, rfl, rfl⟩⟩
  exact Lx.To_Bad hto hn ha (by rw [bs_len]; exact hlt) (by rw [hrd]; exact hf.symm) he
/-- a token more -/
theorem toks_step {s : ByteArray} {w wr w2 : World} {l : List Lx.Tok} {k a kd ln en : Nat} {v v' : Value} {o o2 : Obj} (hen : en = a + ln) (hto : Lx.To (bs s) l k) (ha : a = Lx.skipTo (bs s) k) (hlt : a < s.size)
    (hrd : Lx.rd ((bs s).drop a) = (kd, ln)) (hf : Lx.flt kd ln l.length = 0) (hbw : Below w.heap.size w wr) (hown : wr.ownsRow (w.heap.size + 1) 183 3 v l.length (cells l)) (hF : wr.heap[w.heap.size]? = some (.cells #[.int .i64 0, .int .i64 0] 74 (0, 0)))
    (hown' : w2.ownsRow (w.heap.size + 1) 183 3 v' (l.length + 1) (cells l ++ [.int .i64 kd, .string (s.extract a en), .int .i64 a])) (hg : ((wr.alloc o).alloc o2).grownBy w2 v.ownBlock) :
    ∃ l' : List Lx.Tok, Lx.To (bs s) l' en ∧ l'.length ≤ 600 ∧ w2.ownsRow (w.heap.size + 1) 183 3 v' l'.length (cells l') ∧ w2.heap[w.heap.size]? = some (.cells #[.int .i64 0, .int .i64 0] 74 (0, 0)) ∧ Below w.heap.size w w2 := by
  subst hen
  have h0 : kd ≠ 0 := by
    intro h; rw [h] at hf; simp [Lx.flt] at hf
  have h1 : ¬ (kd = 2 ∧ 18 < ln) := by
    intro h; rw [Lx.flt, if_neg h0, if_pos h] at hf; exact absurd hf (by decide)
  have h2 : ¬ 600 ≤ l.length := by
    intro h; rw [Lx.flt, if_neg h0, if_neg h1, if_pos h] at hf; exact absurd hf (by decide)
  have e1 : (Lx.rd ((bs s).drop a)).1 = kd := by rw [hrd]
  have e2 : (Lx.rd ((bs s).drop a)).2 = ln := by rw [hrd]
  have st := Lx.To_snoc hto ha (by rw [bs_len]; exact hlt) (by rw [e1]; exact h0) (by rw [e1, e2]; exact h1)
  rw [e1, e2] at st
  have hlt2 := lt_of_block hF
  refine ⟨_, st, by simp; omega, ?_, ?_, ?_⟩
  · have ec : tokCells ⟨kd, ((bs s).drop a).take ln, a⟩ = [.int .i64 kd, .string (s.extract a (a + ln)), .int .i64 a] := by
      have : (⟨(((bs s).drop a).take ln).toArray⟩ : ByteArray) = s.extract a (a + ln) := by
        have hx := bs_extract s a (a + ln)
        rw [Nat.add_sub_cancel_left] at hx
        rw [← hx]
      simp only [tokCells, this]
    rw [cells_snoc, ec, List.length_append]
    exact hown'
  · rw [hg.block w.heap.size (by simp; omega) (fun h => by have := (hown.lt _ h.symm).1; omega), Below.heap_alloc _ _ _ (by simp; omega), Below.heap_alloc _ _ _ hlt2]; exact hF
  · refine Below.grown ((hbw.alloc hbw.size _).alloc (by simp; omega) _) hg (by simp; omega) ?_
    intro j hj; have := (hown.lt _ hj).1; omega

theorem own_base {w : World} {B e size n : Nat} {v : Value} {xs : List Value} (h : w.ownsRow (B + 1) e size v n xs) : w.ownsRow B e size v n xs := by
  refine ⟨h.1, ?_⟩
  rcases h.2 with hn | ⟨g, cap, cur, rfl, hg, rest⟩
  · exact .inl hn
  · exact .inr ⟨g, cap, cur, rfl, by omega, rest⟩
theorem own_set {w : World} {B e size n : Nat} {v : Value} {xs : List Value} (h : w.ownsRow (B + 1) e size v n xs) (o : Nat) (x : Value) : (w.setCell ⟨B, o, none⟩ x).ownsRow (B + 1) e size v n xs := by
  refine ⟨h.1, ?_⟩
  rcases h.2 with hn | ⟨g, cap, cur, rfl, hg, hh, rest⟩
  · exact .inl hn
  · exact .inr ⟨g, cap, cur, rfl, hg, by rw [Below.heap_setCell _ _ _ _ (show g ≠ B by omega)]; exact hh, rest⟩
theorem fine_set {w1 : World} {B : Nat} (hF1 : w1.heap[B]? = some (.cells #[.int .i64 0, .int .i64 0] 74 (0, 0))) :
    ((w1.setCell ⟨B, 0, none⟩ (.int .i64 0)).setCell ⟨B, 1, none⟩ (.int .i64 (-1))).heap[B]? = some (.cells #[.int .i64 0, .int .i64 (-1)] 74 (0, 0)) :=
  heap_setCell_same _ B 1 _ 74 _ (heap_setCell_same w1 B 0 _ 74 _ hF1)
theorem toks_end {s : ByteArray} {w w1 : World} {l : List Lx.Tok} {k : Nat} {v' x y : Value} (hto : Lx.To (bs s) l k) (hn : l.length ≤ 600) (ha : Lx.skipTo (bs s) s.size = Lx.skipTo (bs s) k)
    (hown : w1.ownsRow (w.heap.size + 1) 183 3 v' (l.length + 1) (cells l ++ [.int .i64 4, .string ⟨#[]⟩, .int .i64 s.size])) (hb : Below w.heap.size w w1) :
    Toks s w v' (.agg #[.int .i64 0, .int .i64 (-1)]) ((w1.setCell ⟨w.heap.size, 0, none⟩ x).setCell ⟨w.heap.size, 1, none⟩ y) := by
  refine ⟨(hb.setCell (Nat.le_refl _) _).setCell (Nat.le_refl _) _, .inl ⟨l, ?_, rfl, ?_⟩⟩
  · refine Lx.To_Ok hto hn ?_
    rw [← ha, Lx.skipTo_end (by rw [bs_len]; exact Nat.le_refl _), bs_len]; exact Nat.le_refl _
  · rw [cells_snoc]
    exact own_base (own_set (own_set hown _ _) _ _)

set_option maxRecDepth 100000 in
set_option maxHeartbeats 4000000 in
theorem tokens_any (s : ByteArray) (w : World) (hs : s.size ≤ 1000000) (hg : Fine w) :
    Calls Tryz.prog 99 #[.string s] w fun e w' => ∃ v f, e = .returned (.tuple #[v, f]) ∧ Toks s w v f w' := by
  obtain ⟨i0, hi, hz0, hz1, hz2⟩ := info_parts Tryz.info183
  go_enter Tryz.func99, Tryz.ntmps99
  go_wp2
  go_loopg [4, 5] s.size (fun g v i wr => ∃ (l : List Lx.Tok) (k a : Nat), g = s.size - a ∧ Lx.To (bs s) l k ∧ l.length ≤ 600 ∧ Hid (Lx.skipTo (bs s) a = Lx.skipTo (bs s) k) ∧ a ≤ s.size ∧ i = .int .i64 a ∧ wr.ownsRow (w.heap.size + 1) 183 3 v l.length (cells l) ∧ wr.heap[w.heap.size]? = some (.cells #[.int .i64 0, .int .i64 0] 74 (0, 0)) ∧ Below w.heap.size w wr)
  case atStart => exact ⟨[], 0, 0, by omega, Lx.To_zero _, by simp, rfl, by omega, rfl, World.ownsRow_nil _ _ _ _, heap_alloc_new _ _, (Below.refl _ _).alloc (Nat.le_refl _) _⟩
  case round =>
    obtain ⟨l, k, a, rfl, hto, hn, ha, hale, rfl, hown, hF, hbw⟩ := hrel
    obtain ⟨ao, cap, rfl⟩ := owns_shape hown
    by_cases hlt : a < s.size
    · have HC : Hid ((bs s)[a]? = some s[a]) := bs_at s a hlt
      by_cases hb : Lx.blank s[a] = true
      · have H : Hid (Lx.skipTo (bs s) (a + 1) = Lx.skipTo (bs s) k) := (Lx.skipTo_blank HC.out hb).symm.trans ha.out
        rcases blank_cases _ hb with h | h | h
        all_goals
          go_wp2
          go_roundg (s.size - (a + 1))
          case measure => omega
          case rel => exact ⟨l, k, a + 1, rfl, hto, hn, H, by omega, by go_num, ref_keep _ hown hF hbw⟩
      · have hb' : Lx.blank s[a] = false := by simpa using hb
        obtain ⟨n1, n2, n3⟩ := blank_not _ hb'
        have n1' : ((s[a].toNat : Int) == 32) = false := by simpa using n1
        have n2' : ((s[a].toNat : Int) == 9) = false := by simpa using n2
        have n3' : ((s[a].toNat : Int) == 10) = false := by simpa using n3
        clear hb
        by_cases h35 : (s[a].toNat : Int) = 35
        · have HH : Hid ((bs s)[a]? = some 35) := by
            rw [Hid, HC.out]; congr 1; apply UInt8.toNat_inj.1; show _ = 35; omega
          have hle := Lx.runTo_le (p := Lx.inl) (s := bs s) (k := a) (by rw [bs_len]; omega)
          rw [bs_len] at hle
          have hgt := Lx.runTo_remark_lt HH.out
          have H : Hid (Lx.skipTo (bs s) (Lx.runTo Lx.inl (bs s) a) = Lx.skipTo (bs s) k) := (Lx.skipTo_remark HH.out).symm.trans ha.out
          go_wp2
          go_loop [5] (fun i => ∃ b : Nat, a ≤ b ∧ b ≤ s.size ∧ i = .int .i64 b ∧ Hid (Lx.runTo Lx.inl (bs s) a = Lx.runTo Lx.inl (bs s) b)) (fun i => s.size - (intOf i).toNat)
          case atStart => exact ⟨a, by omega, by omega, rfl, rfl⟩
          case round =>
            obtain ⟨b, hab, hbs, rfl, hr⟩ := hrel
            by_cases hlt2 : b < s.size
            · have HC2 : Hid ((bs s)[b]? = some s[b]) := bs_at s b hlt2
              by_cases h10 : (s[b].toNat : Int) = 10
              · have hp : Lx.inl s[b] = false := by
                  have : s[b] = 10 := by apply UInt8.toNat_inj.1; show _ = 10; omega
                  rw [this]; rfl
                have he : b = Lx.runTo Lx.inl (bs s) a := by rw [hr.out, Lx.runTo_no HC2.out hp]
                have HE : Hid (b = Lx.runTo Lx.inl (bs s) a) := he
                clear he
                go_wp2
                go_roundg (s.size - b)
                case measure => have := HE.out; omega
                case rel => exact ⟨l, k, b, rfl, hto, hn, (by rw [HE.out]; exact H.out : _ = _), by omega, rfl, ref_keep _ hown hF hbw⟩
              · have hp : Lx.inl s[b] = true := by
                  simp only [Lx.inl, bne_iff_ne, ne_eq]; intro e; apply h10; rw [e]; rfl
                have HP : Hid (Lx.inl s[b] = true) := hp
                clear hp
                go_wp2
                go_round
                case rel => exact ⟨b + 1, by omega, by omega, by go_num, hr.out.trans (Lx.runTo_yes HC2.out HP.out)⟩
                case measure => simp [intOf]; omega
            · have HE : Hid (b = Lx.runTo Lx.inl (bs s) a) := by rw [Hid, hr.out, Lx.runTo_end (by rw [bs_len]; omega)]
              go_wp2
              go_roundg (s.size - b)
              case measure => have := HE.out; omega
              case rel => exact ⟨l, k, b, rfl, hto, hn, (by rw [HE.out]; exact H.out : _ = _), by omega, rfl, ref_keep _ hown hF hbw⟩
        · have h35' : ((s[a].toNat : Int) == 35) = false := by simpa using h35
          have hn35 : s[a] ≠ 35 := fun h => h35 (by rw [h]; rfl)
          have HA : Hid (a = Lx.skipTo (bs s) k) := by
            show _ = _; rw [← ha.out]; exact (Lx.skipTo_no HC.out hb' hn35).symm
          clear hn35
          have hwb := hbw.size
          have hF2 : ∀ o, (wr.alloc o).heap[w.heap.size]? = some (.cells #[.int .i64 0, .int .i64 0] 74 (0, 0)) := fun o => by rw [Below.heap_alloc _ _ _ (lt_of_block hF)]; exact hF
          have hFlt := lt_of_block hF
          have hcons : (bs s).drop a = s[a] :: (bs s).drop (a + 1) := by
            rw [List.drop_eq_getElem_cons (by rw [bs_len]; exact hlt)]; rfl
          by_cases hal : Lx.alpha s[a] = true
          · obtain ⟨ln, hrd⟩ : ∃ ln, Hid (Lx.rd ((bs s).drop a) = (1, ln)) := by
              refine ⟨Lx.wh Lx.word ((bs s).drop a), ?_⟩
              show _ = _; rw [hcons, Lx.rd_cons, if_neg (by rw [alpha_digit _ hal]; simp), if_pos (by simp [Lx.word, hal])]
            have HW : Hid (a + ln = Lx.runTo Lx.word (bs s) a) := by
              have h1 := hrd.out; rw [hcons, Lx.rd_cons, if_neg (by rw [alpha_digit _ hal]; simp), if_pos (by simp [Lx.word, hal])] at h1
              rw [Hid, Lx.runTo, hcons]; have := congrArg Prod.snd h1; simp at this; omega
            have hln : 0 < ln ∧ a + ln ≤ s.size := by
              have h1 := Lx.rd_pos ((bs s).drop a) (by rw [hrd.out]; simp)
              have h2 := Lx.rd_le ((bs s).drop a)
              rw [hrd.out] at h1 h2; rw [List.length_drop, bs_len] at h2; simp at h1 h2; omega
            clear hcons
            go_wp2_with (first | (go_at_call 148; refine (alpha_any _ _).mono ?_; rintro e w' ⟨rfl, hw⟩; obtain rfl := hw.symm) | (go_at_call 149; refine (digit_any _ _).mono ?_; rintro e w' ⟨rfl, hw⟩; obtain rfl := hw.symm))
            go_loop [7] (fun i => ∃ b : Nat, a ≤ b ∧ b ≤ s.size ∧ i = .int .i64 b ∧ Hid (a + ln = Lx.runTo Lx.word (bs s) b)) (fun i => s.size - (intOf i).toNat)
            case atStart => exact ⟨a, Nat.le_refl _, by omega, rfl, HW⟩
            case round =>
              obtain ⟨b, hab, hbs, rfl, hr⟩ := hrel
              by_cases hlt2 : b < s.size
              · have HC2 : Hid ((bs s)[b]? = some s[b]) := bs_at s b hlt2
                by_cases hal2 : Lx.alpha s[b] = true
                · go_wp2_with (first | (go_at_call 148; refine (alpha_any _ _).mono ?_; rintro e w' ⟨rfl, hw⟩; obtain rfl := hw.symm) | (go_at_call 149; refine (digit_any _ _).mono ?_; rintro e w' ⟨rfl, hw⟩; obtain rfl := hw.symm))
                  go_round
                  case rel => exact ⟨b + 1, by omega, by omega, by go_num, hr.out.trans (Lx.runTo_yes HC2.out (by simp [Lx.word, hal2]))⟩
                  case measure => simp [intOf]; omega
                · have hal2' : Lx.alpha s[b] = false := by simpa using hal2
                  clear hal2
                  by_cases hdg : Lx.digit s[b] = true
                  · go_wp2_with (first | (go_at_call 148; refine (alpha_any _ _).mono ?_; rintro e w' ⟨rfl, hw⟩; obtain rfl := hw.symm) | (go_at_call 149; refine (digit_any _ _).mono ?_; rintro e w' ⟨rfl, hw⟩; obtain rfl := hw.symm))
                    go_round
                    case rel => exact ⟨b + 1, by omega, by omega, by go_num, hr.out.trans (Lx.runTo_yes HC2.out (by simp [Lx.word, hdg]))⟩
                    case measure => simp [intOf]; omega
                  · have hdg' : Lx.digit s[b] = false := by simpa using hdg
                    clear hdg
                    have HE : Hid (b = a + ln) := by rw [Hid, hr.out, Lx.runTo_no HC2.out (by simp [Lx.word, hal2', hdg'])]
                    have hab2 : a < b := by have := HE.out; omega
                    have hne : ((b : Int) == a) = false := by simp; omega
                    have hne' : ¬ (b : Int) = a := by omega
                    by_cases h600 : l.length = 600
                    · have h600' : (l.length : Int) = 600 := by omega
                      go_wp2_with (first | (go_at_call 148; refine (alpha_any _ _).mono ?_; rintro e w' ⟨rfl, hw⟩; obtain rfl := hw.symm) | (go_at_call 149; refine (digit_any _ _).mono ?_; rintro e w' ⟨rfl, hw⟩; obtain rfl := hw.symm) | (refine wpList_store_row rfl 74 (.tmp 3) (.tmp 112) rfl w.heap.size #[.int .i64 4, .int .i64 a] rfl rfl 74 _ (hF2 _) Tryz.info74 rfl (two_one _ _) ?_))
                      exact bodyPost_ret (results6 _ _ w.heap.size #[.int .i64 4, .int .i64 a] rfl rfl (setRow_heap _ _ _ _ _ _ (hF2 _))) rfl ⟨_, _, rfl, toks_bad hto hn HA.out hlt hrd.out (e := 4) (by rw [h600]; rfl) (by decide) hbw⟩
                    · have h600' : ¬ (l.length : Int) = 600 := by omega
                      have h600'' : ((l.length : Int) == 600) = false := by simpa using h600'
                      go_wp2_with (first
                        | (go_at_call 148; refine (alpha_any _ _).mono ?_; rintro e w' ⟨rfl, hw⟩; obtain rfl := hw.symm)
                        | (go_at_call 149; refine (digit_any _ _).mono ?_; rintro e w' ⟨rfl, hw⟩; obtain rfl := hw.symm)
                        | (at_builtin; refine wpList_append_own _ rfl (.tmp 118) (.tmp 120) 175 rfl (w.heap.size + 1) 183 i0 (.agg #[.int .i64 0, .string ⟨#[]⟩, .int .i64 0]) 3 32 Tryz.underlying175 hi hz0 hz1 hz2 rfl (by decide) _ _ _ rfl ((hown.alloc _).alloc _) ⟨wr.heap.size + 1, 0, none⟩ 1 1 [.int .i64 1, .string (s.extract a b), .int .i64 a] rfl rfl (cell_three_at _ _ (by simp) _ _ _ _) (tok_one _ _ _) (by unfold maxLen; omega) (by omega) (by simp; omega) ?_; intro v' w2 hown' hgrow _; have X : Hid _ := toks_step HE.out hto HA.out hlt hrd.out (by rw [Lx.flt, if_neg (by decide), if_neg (fun h => absurd h.1 (by decide)), if_neg (by omega)]) hbw hown hF hown' hgrow; clear hown' hgrow hown hbw hF hF2))
                      obtain ⟨l', hto', hn', hown', hF', hbw'⟩ := X.out
                      go_roundg (s.size - b)
                      case measure => omega
                      case rel => exact ⟨l', b, b, rfl, hto', hn', rfl, hbs, rfl, hown', hF', hbw'⟩
              · have HE : Hid (b = a + ln) := by rw [Hid, hr.out, Lx.runTo_end (by rw [bs_len]; omega)]
                have hab2 : a < b := by have := HE.out; omega
                have hne : ((b : Int) == a) = false := by simp; omega
                have hne' : ¬ (b : Int) = a := by omega
                by_cases h600 : l.length = 600
                · have h600' : (l.length : Int) = 600 := by omega
                  go_wp2_with (first | (go_at_call 148; refine (alpha_any _ _).mono ?_; rintro e w' ⟨rfl, hw⟩; obtain rfl := hw.symm) | (go_at_call 149; refine (digit_any _ _).mono ?_; rintro e w' ⟨rfl, hw⟩; obtain rfl := hw.symm) | (refine wpList_store_row rfl 74 (.tmp 3) (.tmp 112) rfl w.heap.size #[.int .i64 4, .int .i64 a] rfl rfl 74 _ (hF2 _) Tryz.info74 rfl (two_one _ _) ?_))
                  exact bodyPost_ret (results6 _ _ w.heap.size #[.int .i64 4, .int .i64 a] rfl rfl (setRow_heap _ _ _ _ _ _ (hF2 _))) rfl ⟨_, _, rfl, toks_bad hto hn HA.out hlt hrd.out (e := 4) (by rw [h600]; rfl) (by decide) hbw⟩
                · have h600' : ¬ (l.length : Int) = 600 := by omega
                  have h600'' : ((l.length : Int) == 600) = false := by simpa using h600'
                  go_wp2_with (first
                    | (go_at_call 148; refine (alpha_any _ _).mono ?_; rintro e w' ⟨rfl, hw⟩; obtain rfl := hw.symm)
                    | (go_at_call 149; refine (digit_any _ _).mono ?_; rintro e w' ⟨rfl, hw⟩; obtain rfl := hw.symm)
                    | (at_builtin; refine wpList_append_own _ rfl (.tmp 118) (.tmp 120) 175 rfl (w.heap.size + 1) 183 i0 (.agg #[.int .i64 0, .string ⟨#[]⟩, .int .i64 0]) 3 32 Tryz.underlying175 hi hz0 hz1 hz2 rfl (by decide) _ _ _ rfl ((hown.alloc _).alloc _) ⟨wr.heap.size + 1, 0, none⟩ 1 1 [.int .i64 1, .string (s.extract a b), .int .i64 a] rfl rfl (cell_three_at _ _ (by simp) _ _ _ _) (tok_one _ _ _) (by unfold maxLen; omega) (by omega) (by simp; omega) ?_; intro v' w2 hown' hgrow _; have X : Hid _ := toks_step HE.out hto HA.out hlt hrd.out (by rw [Lx.flt, if_neg (by decide), if_neg (fun h => absurd h.1 (by decide)), if_neg (by omega)]) hbw hown hF hown' hgrow; clear hown' hgrow hown hbw hF hF2))
                  obtain ⟨l', hto', hn', hown', hF', hbw'⟩ := X.out
                  go_roundg (s.size - b)
                  case measure => omega
                  case rel => exact ⟨l', b, b, rfl, hto', hn', rfl, hbs, rfl, hown', hF', hbw'⟩
          · have hal' : Lx.alpha s[a] = false := by simpa using hal
            clear hal
            by_cases hdi : Lx.digit s[a] = true
            · obtain ⟨ln, hrd⟩ : ∃ ln, Hid (Lx.rd ((bs s).drop a) = (2, ln)) := by
                refine ⟨Lx.wh Lx.digit ((bs s).drop a), ?_⟩
                show _ = _; rw [hcons, Lx.rd_cons, if_pos hdi]
              have HW : Hid (a + ln = Lx.runTo Lx.digit (bs s) a) := by
                have h1 := hrd.out; rw [hcons, Lx.rd_cons, if_pos hdi] at h1
                rw [Hid, Lx.runTo, hcons]; have := congrArg Prod.snd h1; simp at this; omega
              have hln : 0 < ln ∧ a + ln ≤ s.size := by
                have h1 := Lx.rd_pos ((bs s).drop a) (by rw [hrd.out]; simp)
                have h2 := Lx.rd_le ((bs s).drop a)
                rw [hrd.out] at h1 h2; rw [List.length_drop, bs_len] at h2; simp at h1 h2; omega
              clear hcons
              go_wp2_with (first | (go_at_call 148; refine (alpha_any _ _).mono ?_; rintro e w' ⟨rfl, hw⟩; obtain rfl := hw.symm) | (go_at_call 149; refine (digit_any _ _).mono ?_; rintro e w' ⟨rfl, hw⟩; obtain rfl := hw.symm))
              go_loop [7] (fun i => ∃ b : Nat, a ≤ b ∧ b ≤ s.size ∧ i = .int .i64 b ∧ Hid (a + ln = Lx.runTo Lx.digit (bs s) b)) (fun i => s.size - (intOf i).toNat)
              case atStart => exact ⟨a, Nat.le_refl _, by omega, rfl, HW⟩
              case round =>
                obtain ⟨b, hab, hbs, rfl, hr⟩ := hrel
                by_cases hlt2 : b < s.size
                · have HC2 : Hid ((bs s)[b]? = some s[b]) := bs_at s b hlt2
                  by_cases hdg : Lx.digit s[b] = true
                  · go_wp2_with (first | (go_at_call 148; refine (alpha_any _ _).mono ?_; rintro e w' ⟨rfl, hw⟩; obtain rfl := hw.symm) | (go_at_call 149; refine (digit_any _ _).mono ?_; rintro e w' ⟨rfl, hw⟩; obtain rfl := hw.symm))
                    go_round
                    case rel => exact ⟨b + 1, by omega, by omega, by go_num, hr.out.trans (Lx.runTo_yes HC2.out hdg)⟩
                    case measure => simp [intOf]; omega
                  · have hdg' : Lx.digit s[b] = false := by simpa using hdg
                    clear hdg
                    have HE : Hid (b = a + ln) := by rw [Hid, hr.out, Lx.runTo_no HC2.out hdg']
                    have hab2 : a < b := by have := HE.out; omega
                    have hne : ((b : Int) == a) = false := by simp; omega
                    have hne' : ¬ (b : Int) = a := by omega
                    by_cases h18 : 18 < ln
                    · have h18' : 18 < (b : Int) - a := by have := HE.out; omega
                      go_wp2_with (first | (go_at_call 148; refine (alpha_any _ _).mono ?_; rintro e w' ⟨rfl, hw⟩; obtain rfl := hw.symm) | (go_at_call 149; refine (digit_any _ _).mono ?_; rintro e w' ⟨rfl, hw⟩; obtain rfl := hw.symm) | (refine wpList_store_row rfl 74 (.tmp 3) (.tmp 112) rfl w.heap.size #[.int .i64 4, .int .i64 a] rfl rfl 74 _ (hF2 _) Tryz.info74 rfl (two_one _ _) ?_))
                      exact bodyPost_ret (results6 _ _ w.heap.size #[.int .i64 4, .int .i64 a] rfl rfl (setRow_heap _ _ _ _ _ _ (hF2 _))) rfl ⟨_, _, rfl, toks_bad hto hn HA.out hlt hrd.out (e := 4) (by rw [Lx.flt, if_neg (by decide), if_pos ⟨rfl, h18⟩]) (by decide) hbw⟩
                    · have h18' : (b : Int) - a ≤ 18 := by have := HE.out; omega
                      by_cases h600 : l.length = 600
                      · have h600' : (l.length : Int) = 600 := by omega
                        go_wp2_with (first | (go_at_call 148; refine (alpha_any _ _).mono ?_; rintro e w' ⟨rfl, hw⟩; obtain rfl := hw.symm) | (go_at_call 149; refine (digit_any _ _).mono ?_; rintro e w' ⟨rfl, hw⟩; obtain rfl := hw.symm) | (refine wpList_store_row rfl 74 (.tmp 3) (.tmp 112) rfl w.heap.size #[.int .i64 4, .int .i64 a] rfl rfl 74 _ (hF2 _) Tryz.info74 rfl (two_one _ _) ?_))
                        exact bodyPost_ret (results6 _ _ w.heap.size #[.int .i64 4, .int .i64 a] rfl rfl (setRow_heap _ _ _ _ _ _ (hF2 _))) rfl ⟨_, _, rfl, toks_bad hto hn HA.out hlt hrd.out (e := 4) (by rw [Lx.flt, if_neg (by decide), if_neg (fun h => h18 h.2), if_pos (by omega)]) (by decide) hbw⟩
                      · have h600' : ¬ (l.length : Int) = 600 := by omega
                        have h600'' : ((l.length : Int) == 600) = false := by simpa using h600'
                        go_wp2_with (first
                          | (go_at_call 148; refine (alpha_any _ _).mono ?_; rintro e w' ⟨rfl, hw⟩; obtain rfl := hw.symm)
                          | (go_at_call 149; refine (digit_any _ _).mono ?_; rintro e w' ⟨rfl, hw⟩; obtain rfl := hw.symm)
                          | (at_builtin; refine wpList_append_own _ rfl (.tmp 118) (.tmp 120) 175 rfl (w.heap.size + 1) 183 i0 (.agg #[.int .i64 0, .string ⟨#[]⟩, .int .i64 0]) 3 32 Tryz.underlying175 hi hz0 hz1 hz2 rfl (by decide) _ _ _ rfl ((hown.alloc _).alloc _) ⟨wr.heap.size + 1, 0, none⟩ 1 1 [.int .i64 2, .string (s.extract a b), .int .i64 a] rfl rfl (cell_three_at _ _ (by simp) _ _ _ _) (tok_one _ _ _) (by unfold maxLen; omega) (by omega) (by simp; omega) ?_; intro v' w2 hown' hgrow _; have X : Hid _ := toks_step HE.out hto HA.out hlt hrd.out (by rw [Lx.flt, if_neg (by decide), if_neg (fun h => h18 h.2), if_neg (by omega)]) hbw hown hF hown' hgrow; clear hown' hgrow hown hbw hF hF2))
                        obtain ⟨l', hto', hn', hown', hF', hbw'⟩ := X.out
                        go_roundg (s.size - b)
                        case measure => omega
                        case rel => exact ⟨l', b, b, rfl, hto', hn', rfl, hbs, rfl, hown', hF', hbw'⟩
                · have HE : Hid (b = a + ln) := by rw [Hid, hr.out, Lx.runTo_end (by rw [bs_len]; omega)]
                  have hab2 : a < b := by have := HE.out; omega
                  have hne : ((b : Int) == a) = false := by simp; omega
                  have hne' : ¬ (b : Int) = a := by omega
                  by_cases h18 : 18 < ln
                  · have h18' : 18 < (b : Int) - a := by have := HE.out; omega
                    go_wp2_with (first | (go_at_call 148; refine (alpha_any _ _).mono ?_; rintro e w' ⟨rfl, hw⟩; obtain rfl := hw.symm) | (go_at_call 149; refine (digit_any _ _).mono ?_; rintro e w' ⟨rfl, hw⟩; obtain rfl := hw.symm) | (refine wpList_store_row rfl 74 (.tmp 3) (.tmp 112) rfl w.heap.size #[.int .i64 4, .int .i64 a] rfl rfl 74 _ (hF2 _) Tryz.info74 rfl (two_one _ _) ?_))
                    exact bodyPost_ret (results6 _ _ w.heap.size #[.int .i64 4, .int .i64 a] rfl rfl (setRow_heap _ _ _ _ _ _ (hF2 _))) rfl ⟨_, _, rfl, toks_bad hto hn HA.out hlt hrd.out (e := 4) (by rw [Lx.flt, if_neg (by decide), if_pos ⟨rfl, h18⟩]) (by decide) hbw⟩
                  · have h18' : (b : Int) - a ≤ 18 := by have := HE.out; omega
                    by_cases h600 : l.length = 600
                    · have h600' : (l.length : Int) = 600 := by omega
                      go_wp2_with (first | (go_at_call 148; refine (alpha_any _ _).mono ?_; rintro e w' ⟨rfl, hw⟩; obtain rfl := hw.symm) | (go_at_call 149; refine (digit_any _ _).mono ?_; rintro e w' ⟨rfl, hw⟩; obtain rfl := hw.symm) | (refine wpList_store_row rfl 74 (.tmp 3) (.tmp 112) rfl w.heap.size #[.int .i64 4, .int .i64 a] rfl rfl 74 _ (hF2 _) Tryz.info74 rfl (two_one _ _) ?_))
                      exact bodyPost_ret (results6 _ _ w.heap.size #[.int .i64 4, .int .i64 a] rfl rfl (setRow_heap _ _ _ _ _ _ (hF2 _))) rfl ⟨_, _, rfl, toks_bad hto hn HA.out hlt hrd.out (e := 4) (by rw [Lx.flt, if_neg (by decide), if_neg (fun h => h18 h.2), if_pos (by omega)]) (by decide) hbw⟩
                    · have h600' : ¬ (l.length : Int) = 600 := by omega
                      have h600'' : ((l.length : Int) == 600) = false := by simpa using h600'
                      go_wp2_with (first
                        | (go_at_call 148; refine (alpha_any _ _).mono ?_; rintro e w' ⟨rfl, hw⟩; obtain rfl := hw.symm)
                        | (go_at_call 149; refine (digit_any _ _).mono ?_; rintro e w' ⟨rfl, hw⟩; obtain rfl := hw.symm)
                        | (at_builtin; refine wpList_append_own _ rfl (.tmp 118) (.tmp 120) 175 rfl (w.heap.size + 1) 183 i0 (.agg #[.int .i64 0, .string ⟨#[]⟩, .int .i64 0]) 3 32 Tryz.underlying175 hi hz0 hz1 hz2 rfl (by decide) _ _ _ rfl ((hown.alloc _).alloc _) ⟨wr.heap.size + 1, 0, none⟩ 1 1 [.int .i64 2, .string (s.extract a b), .int .i64 a] rfl rfl (cell_three_at _ _ (by simp) _ _ _ _) (tok_one _ _ _) (by unfold maxLen; omega) (by omega) (by simp; omega) ?_; intro v' w2 hown' hgrow _; have X : Hid _ := toks_step HE.out hto HA.out hlt hrd.out (by rw [Lx.flt, if_neg (by decide), if_neg (fun h => h18 h.2), if_neg (by omega)]) hbw hown hF hown' hgrow; clear hown' hgrow hown hbw hF hF2))
                      obtain ⟨l', hto', hn', hown', hF', hbw'⟩ := X.out
                      go_roundg (s.size - b)
                      case measure => omega
                      case rel => exact ⟨l', b, b, rfl, hto', hn', rfl, hbs, rfl, hown', hF', hbw'⟩
            · have hdi' : Lx.digit s[a] = false := by simpa using hdi
              clear hdi
              have hwd : Lx.word s[a] = false := by simp [Lx.word, hal', hdi']
              have hrd0 := rd_mark _ _ (drop_head s a hlt) hdi' hwd
              clear hcons hwd
              obtain ⟨m, hm⟩ : ∃ m, Hid (Lx.mk ((bs s).drop a) = m) := ⟨_, rfl⟩
              rw [hm.out] at hrd0
              have hmle : a + m ≤ s.size := by
                have := Lx.mk_le ((bs s).drop a); rw [hm.out, List.length_drop, bs_len] at this; omega
              by_cases hm0 : m = 0
              · subst hm0
                have hrd : Hid (Lx.rd ((bs s).drop a) = (0, 0)) := by rw [Hid, hrd0]; rfl
                clear hrd0
                have HS : Hid (True) := trivial
                go_wp2_with (first | (go_at_call 148; refine (alpha_any _ _).mono ?_; rintro e w' ⟨rfl, hw⟩; obtain rfl := hw.symm) | (go_at_call 149; refine (digit_any _ _).mono ?_; rintro e w' ⟨rfl, hw⟩; obtain rfl := hw.symm) | (go_at_call 150; refine (mark_at s a 0 _ hm).mono ?_; rintro e w' ⟨rfl, hw⟩; obtain rfl := hw.symm; have hsum := HS.out) | (refine wpList_store_row rfl 74 (.tmp 3) (.tmp 96) rfl w.heap.size #[.int .i64 3, .int .i64 a] rfl rfl 74 _ (hF2 _) Tryz.info74 rfl (two_one _ _) ?_))
                exact bodyPost_ret (results6 _ _ w.heap.size #[.int .i64 3, .int .i64 a] rfl rfl (setRow_heap _ _ _ _ _ _ (hF2 _))) rfl ⟨_, _, rfl, toks_bad hto hn HA.out hlt hrd.out (e := 3) (rfl) (by decide) hbw⟩
              · have hrd : Hid (Lx.rd ((bs s).drop a) = (3, m)) := by rw [Hid, hrd0, if_neg hm0]
                clear hrd0
                obtain ⟨b, HE⟩ : ∃ b, Hid (b = a + m) := ⟨_, rfl⟩
                have hab2 : a < b := by have := HE.out; omega
                have hab : a ≤ b := by omega
                have hbs : b ≤ s.size := by have := HE.out; omega
                have HS : Hid ((a : Int) + m = b) := by have := HE.out; show _ = _; omega
                have hne : ((b : Int) == a) = false := by simp; omega
                have hne' : ¬ (b : Int) = a := by omega
                by_cases h600 : l.length = 600
                · have h600' : (l.length : Int) = 600 := by omega
                  go_wp2_with (first | (go_at_call 148; refine (alpha_any _ _).mono ?_; rintro e w' ⟨rfl, hw⟩; obtain rfl := hw.symm) | (go_at_call 149; refine (digit_any _ _).mono ?_; rintro e w' ⟨rfl, hw⟩; obtain rfl := hw.symm) | (go_at_call 150; refine (mark_at s a m _ hm).mono ?_; rintro e w' ⟨rfl, hw⟩; obtain rfl := hw.symm; have hsum := HS.out) | (refine wpList_store_row rfl 74 (.tmp 3) (.tmp 112) rfl w.heap.size #[.int .i64 4, .int .i64 a] rfl rfl 74 _ (hF2 _) Tryz.info74 rfl (two_one _ _) ?_))
                  exact bodyPost_ret (results6 _ _ w.heap.size #[.int .i64 4, .int .i64 a] rfl rfl (setRow_heap _ _ _ _ _ _ (hF2 _))) rfl ⟨_, _, rfl, toks_bad hto hn HA.out hlt hrd.out (e := 4) (by rw [h600]; rfl) (by decide) hbw⟩
                · have h600' : ¬ (l.length : Int) = 600 := by omega
                  have h600'' : ((l.length : Int) == 600) = false := by simpa using h600'
                  go_wp2_with (first
                    | (go_at_call 148; refine (alpha_any _ _).mono ?_; rintro e w' ⟨rfl, hw⟩; obtain rfl := hw.symm)
                    | (go_at_call 149; refine (digit_any _ _).mono ?_; rintro e w' ⟨rfl, hw⟩; obtain rfl := hw.symm) | (go_at_call 150; refine (mark_at s a m _ hm).mono ?_; rintro e w' ⟨rfl, hw⟩; obtain rfl := hw.symm; have hsum := HS.out)
                    | (at_builtin; refine wpList_append_own _ rfl (.tmp 118) (.tmp 120) 175 rfl (w.heap.size + 1) 183 i0 (.agg #[.int .i64 0, .string ⟨#[]⟩, .int .i64 0]) 3 32 Tryz.underlying175 hi hz0 hz1 hz2 rfl (by decide) _ _ _ rfl ((hown.alloc _).alloc _) ⟨wr.heap.size + 1, 0, none⟩ 1 1 [.int .i64 3, .string (s.extract a b), .int .i64 a] rfl rfl (cell_three_at _ _ (by simp) _ _ _ _) (tok_one _ _ _) (by unfold maxLen; omega) (by omega) (by simp; omega) ?_; intro v' w2 hown' hgrow _; have X : Hid _ := toks_step HE.out hto HA.out hlt hrd.out (by rw [Lx.flt, if_neg (by decide), if_neg (fun h => absurd h.1 (by decide)), if_neg (by omega)]) hbw hown hF hown' hgrow; clear hown' hgrow hown hbw hF hF2))
                  obtain ⟨l', hto', hn', hown', hF', hbw'⟩ := X.out
                  go_roundg (s.size - b)
                  case measure => omega
                  case rel => exact ⟨l', b, b, rfl, hto', hn', rfl, hbs, rfl, hown', hF', hbw'⟩
    · have hwb := hbw.size
      obtain rfl : a = s.size := by omega
      have h0lt := lt_of_cell hg.1
      have g0 : wr.cell? ⟨0, 0, none⟩ = some (.int .i64 0) := by rw [hbw.cell (p := ⟨0, 0, none⟩) h0lt]; exact hg.1
      have g1 : wr.cell? ⟨0, 1, none⟩ = some (.int .i64 (-1)) := by rw [hbw.cell (p := ⟨0, 1, none⟩) h0lt]; exact hg.2
      have ag : (Value.slice ao l.length cap).ownBlock ≠ some 0 := fun h => by have := (hown.lt _ h).1; omega
      have ab : (Value.slice ao l.length cap).ownBlock ≠ some w.heap.size := fun h => by have := (hown.lt _ h).1; omega
      have hFlt := lt_of_block hF
      have m0 := World.new_ne wr ⟨0, 0, none⟩ g0
      have m1 := World.new_ne wr ⟨0, 1, none⟩ g1
      have z0 : w.heap.size ≠ 0 := by omega
      go_wp2_with fail
      go_region_held3 (fun w' => w'.cell? ⟨0, 0, none⟩ = some (.int .i64 0) ∧ w'.cell? ⟨0, 1, none⟩ = some (.int .i64 (-1)))
        (first
          | go_keep
          | (go_split_ands
             refine ⟨?_, ?_⟩
             · (rw [hgrow.cell_far _ (by first | (simp; done) | (simp; omega)) (Ne.symm ag)]; assumption)
             · (rw [hgrow.cell_far _ (by first | (simp; done) | (simp; omega)) (Ne.symm ag)]; assumption))
          | (go_split_ands
             refine ⟨?_, ?_⟩
             · (rw [World.cell?_setCell_far _ _ _ _ z0, World.cell?_setCell_far _ _ _ _ z0]; assumption)
             · (rw [World.cell?_setCell_far _ _ _ _ z0, World.cell?_setCell_far _ _ _ _ z0]; assumption)))
        ((refine step_append_lies _ (by rfl) _ _ _ (by rfl) (w.heap.size + 1) 183 i0 _ 3 32 Tryz.underlying175 hi hz0 hz1 hz2 rfl (by omega) (Value.slice ao l.length cap) l.length (cells l) (by rfl) ((hown.alloc _).drew)
            ⟨wr.heap.size, 0, none⟩ 1 1 [.int .i64 4, .string ⟨#[]⟩, .int .i64 s.size] (by rfl) (by rfl) (World.news_of_block (cs := #[.int .i64 4, .string ⟨#[]⟩, .int .i64 s.size]) (t := 183) (fr := (0, 0)) (heap_alloc_new wr _)) (tok_one _ _ _)
            (by omega) (by unfold maxLen; omega) (by omega) (by simp; omega) (wr.heap.size + 1) (by simp) ?_
          intro gg cap' w1 hown1 hgrow hat hlt1
          have hF1 : w1.heap[w.heap.size]? = some (.cells #[.int .i64 0, .int .i64 0] 74 (0, 0)) := by
            rw [hgrow.block w.heap.size (by simp; omega) (fun h => ab h.symm)]
            show (wr.alloc _).heap[w.heap.size]? = _
            rw [Below.heap_alloc _ _ _ hFlt]; exact hF
          have b0 : w1.cell? ⟨w.heap.size, 0, none⟩ = some (.int .i64 0) := by rw [cell_of_row _ _ _ _ _ _ hF1]; rfl
          have b1 : w1.cell? ⟨w.heap.size, 1, none⟩ = some (.int .i64 0) := by rw [cell_of_row _ _ _ _ _ _ hF1]; rfl
          have f0 : w1.frozen? ⟨w.heap.size, 0, none⟩ = false := by simp [World.frozen?, hF1]
          have f1 : w1.frozen? ⟨w.heap.size, 1, none⟩ = false := by simp [World.frozen?, hF1]))
      go_wp2
      have hb1 : Below w.heap.size w w1 := Below.grown ((hbw.alloc hwb _).drew) hgrow (by simp; omega) (fun j hj => by have := (hown.lt _ hj).1; omega)
      exact bodyPost_ret (results6 _ _ w.heap.size #[.int .i64 0, .int .i64 (-1)] rfl rfl (fine_set hF1)) rfl ⟨_, _, rfl, toks_end hto hn ha.out hown1 hb1⟩
end Go.Proofs.YtobamalnbjbmiaaGreatDoor
