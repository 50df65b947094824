/- pass, skip: where a run ends, where what is nothing ends. -/
import Derived.Test.YtanlfmhlohcmgaaGreatDoorJSmall
import Derived.Lib.QuietBelow
import Derived.Deep.RegionWith
import Derived.Deep.LoopGhost
import Derived.Deep.DeepCutAuto
import Derived.BigQuiet
import Derived.Deep.QuietTactic
namespace Go.Proofs.YtanlfmhlohcmgaaGreatDoor
open Go.RowKit

abbrev bs (s : ByteArray) : List UInt8 := s.data.toList
theorem bs_at (s : ByteArray) (k : Nat) (h : k < s.size) : (bs s)[k]? = some s[k] := by
  rw [List.getElem?_eq_getElem (by simpa using h)]; rfl
theorem bs_len (s : ByteArray) : (bs s).length = s.size := by simp
theorem ret_int {k : IntKind} {a b : Int} (h : a = b) : Ending.returned (.int k a) = .returned (.int k b) := by rw [h]

set_option maxHeartbeats 800000 in
theorem pass_inl (s : ByteArray) (a : Nat) (w : World) (hs : s.size ≤ 1000000) (ha : a ≤ s.size) :
    Calls Tryz.prog 79 #[.string s, .int .i64 a, .func (.func 80) #[] #[]] w fun e w' => e = .returned (.int .i64 (Lx.runTo Lx.inl (bs s) a : Nat)) ∧ w' = w := by
  go_enter Tryz.func79, Tryz.ntmps79
  go_wp2
  go_loop [1] (fun i => ∃ k : Nat, k ≤ s.size ∧ i = .int .i64 k ∧ Hid (Lx.runTo Lx.inl (bs s) a = Lx.runTo Lx.inl (bs s) k)) (fun i => s.size - (intOf i).toNat)
  case atStart => exact ⟨a, ha, rfl, rfl⟩
  case round =>
    obtain ⟨k, hk, rfl, hr⟩ := hrel
    by_cases hlt : k < s.size
    · have hc := bs_at s k hlt
      have HC : Hid ((bs s)[k]? = some s[k]) := hc
      clear hc
      by_cases hp : Lx.inl s[k] = true
      · go_wp2_with (go_at_call 80; refine (inLine_any _ _).mono ?_; rintro e w' ⟨rfl, rfl⟩)
        go_round
        case rel => exact ⟨k + 1, by omega, by go_num, hr.out.trans (Lx.runTo_yes HC.out hp)⟩
        case measure => simp [intOf]; omega
      · have hp' : Lx.inl s[k] = false := by simpa using hp
        clear hp
        go_wp2_with (go_at_call 80; refine (inLine_any _ _).mono ?_; rintro e w' ⟨rfl, rfl⟩)
        go_ret
        exact ⟨ret_int (by rw [hr.out, Lx.runTo_no HC.out hp']), rfl⟩
    · go_wp2
      go_ret
      exact ⟨ret_int (by rw [hr.out, Lx.runTo_end (by rw [bs_len]; omega)]), rfl⟩
set_option maxHeartbeats 800000 in
theorem pass_digit (s : ByteArray) (a : Nat) (w : World) (hs : s.size ≤ 1000000) (ha : a ≤ s.size) :
    Calls Tryz.prog 79 #[.string s, .int .i64 a, .func (.func 81) #[] #[]] w fun e w' => e = .returned (.int .i64 (Lx.runTo Lx.digit (bs s) a : Nat)) ∧ w' = w := by
  go_enter Tryz.func79, Tryz.ntmps79
  go_wp2
  go_loop [1] (fun i => ∃ k : Nat, k ≤ s.size ∧ i = .int .i64 k ∧ Hid (Lx.runTo Lx.digit (bs s) a = Lx.runTo Lx.digit (bs s) k)) (fun i => s.size - (intOf i).toNat)
  case atStart => exact ⟨a, ha, rfl, rfl⟩
  case round =>
    obtain ⟨k, hk, rfl, hr⟩ := hrel
    by_cases hlt : k < s.size
    · have hc := bs_at s k hlt
      have HC : Hid ((bs s)[k]? = some s[k]) := hc
      clear hc
      by_cases hp : Lx.digit s[k] = true
      · go_wp2_with (go_at_call 81; refine (isDigit_any _ _).mono ?_; rintro e w' ⟨rfl, rfl⟩)
        go_round
        case rel => exact ⟨k + 1, by omega, by go_num, hr.out.trans (Lx.runTo_yes HC.out hp)⟩
        case measure => simp [intOf]; omega
      · have hp' : Lx.digit s[k] = false := by simpa using hp
        clear hp
        go_wp2_with (go_at_call 81; refine (isDigit_any _ _).mono ?_; rintro e w' ⟨rfl, rfl⟩)
        go_ret
        exact ⟨ret_int (by rw [hr.out, Lx.runTo_no HC.out hp']), rfl⟩
    · go_wp2
      go_ret
      exact ⟨ret_int (by rw [hr.out, Lx.runTo_end (by rw [bs_len]; omega)]), rfl⟩
set_option maxHeartbeats 800000 in
theorem pass_word (s : ByteArray) (a : Nat) (w : World) (hs : s.size ≤ 1000000) (ha : a ≤ s.size) :
    Calls Tryz.prog 79 #[.string s, .int .i64 a, .func (.func 82) #[] #[]] w fun e w' => e = .returned (.int .i64 (Lx.runTo Lx.word (bs s) a : Nat)) ∧ w' = w := by
  go_enter Tryz.func79, Tryz.ntmps79
  go_wp2
  go_loop [1] (fun i => ∃ k : Nat, k ≤ s.size ∧ i = .int .i64 k ∧ Hid (Lx.runTo Lx.word (bs s) a = Lx.runTo Lx.word (bs s) k)) (fun i => s.size - (intOf i).toNat)
  case atStart => exact ⟨a, ha, rfl, rfl⟩
  case round =>
    obtain ⟨k, hk, rfl, hr⟩ := hrel
    by_cases hlt : k < s.size
    · have hc := bs_at s k hlt
      have HC : Hid ((bs s)[k]? = some s[k]) := hc
      clear hc
      by_cases hp : Lx.word s[k] = true
      · go_wp2_with (go_at_call 82; refine (isWord_any _ _).mono ?_; rintro e w' ⟨rfl, rfl⟩)
        go_round
        case rel => exact ⟨k + 1, by omega, by go_num, hr.out.trans (Lx.runTo_yes HC.out hp)⟩
        case measure => simp [intOf]; omega
      · have hp' : Lx.word s[k] = false := by simpa using hp
        clear hp
        go_wp2_with (go_at_call 82; refine (isWord_any _ _).mono ?_; rintro e w' ⟨rfl, rfl⟩)
        go_ret
        exact ⟨ret_int (by rw [hr.out, Lx.runTo_no HC.out hp']), rfl⟩
    · go_wp2
      go_ret
      exact ⟨ret_int (by rw [hr.out, Lx.runTo_end (by rw [bs_len]; omega)]), rfl⟩
end Go.Proofs.YtanlfmhlohcmgaaGreatDoor
/- skip: where what is nothing ends. -/
namespace Go.Proofs.YtanlfmhlohcmgaaGreatDoor
open Go.RowKit

set_option maxHeartbeats 1600000 in
theorem skip_any (s : ByteArray) (a : Nat) (w : World) (hs : s.size ≤ 1000000) (ha : a ≤ s.size) :
    Calls Tryz.prog 48 #[.string s, .int .i64 a] w fun e w' => e = .returned (.int .i64 (Lx.skipTo (bs s) a : Nat)) ∧ w' = w := by
  go_enter Tryz.func48, Tryz.ntmps48
  go_wp2
  go_loop [1] (fun i => ∃ k : Nat, k ≤ s.size ∧ i = .int .i64 k ∧ Hid (Lx.skipTo (bs s) a = Lx.skipTo (bs s) k)) (fun i => s.size - (intOf i).toNat)
  case atStart => exact ⟨a, ha, rfl, rfl⟩
  case round =>
    obtain ⟨k, hk, rfl, hr⟩ := hrel
    by_cases hlt : k < s.size
    · have HC : Hid ((bs s)[k]? = some s[k]) := bs_at s k hlt
      by_cases hb : Lx.blank s[k] = true
      · go_wp2_with (go_at_call 78; refine (isBlank_any s[k] _).mono ?_; rintro e w' ⟨rfl, rfl⟩)
        go_round
        case rel => exact ⟨k + 1, by omega, by go_num, hr.out.trans (Lx.skipTo_blank HC.out hb)⟩
        case measure => simp [intOf]; omega
      · have hb' : Lx.blank s[k] = false := by simpa using hb
        clear hb
        by_cases h35 : (s[k].toNat : Int) = 35
        · have HH : Hid ((bs s)[k]? = some 35) := by
            rw [Hid, HC.out]; congr 1; apply UInt8.toNat_inj.1; show _ = 35; omega
          have hle := Lx.runTo_le (p := Lx.inl) (s := bs s) (k := k) (by rw [bs_len]; omega)
          rw [bs_len] at hle
          have hgt := Lx.runTo_remark_lt HH.out
          have H35 : Hid ((s[k].toNat : Int) = 35) := h35
          clear h35
          go_wp2_with (first | (go_at_call 78; refine (isBlank_any s[k] _).mono ?_; rintro e w' ⟨rfl, rfl⟩; have h35 := H35.out) | (go_at_call 79; refine (pass_inl s k _ hs (by omega)).mono ?_; rintro e w' ⟨rfl, rfl⟩))
          go_round
          case rel => exact ⟨_, hle.2, rfl, hr.out.trans (Lx.skipTo_remark HH.out)⟩
          case measure => simp [intOf]; omega
        · have hn : s[k] ≠ 35 := fun h => h35 (by rw [h]; rfl)
          have HN : Hid (s[k] ≠ 35) := hn
          clear hn
          go_wp2_with (first | (go_at_call 78; refine (isBlank_any s[k] _).mono ?_; rintro e w' ⟨rfl, rfl⟩))
          go_ret
          exact ⟨ret_int (by rw [hr.out, Lx.skipTo_no HC.out hb' HN.out]), rfl⟩
    · go_wp2
      go_ret
      exact ⟨ret_int (by rw [hr.out, Lx.skipTo_end (by rw [bs_len]; omega)]), rfl⟩
end Go.Proofs.YtanlfmhlohcmgaaGreatDoor
/- Two expressions in memory that are one: the law's comparison says so. -/
namespace Go.Proofs.YtanlfmhlohcmgaaGreatDoor
open Go.RowKit Go.Sort Px

def Yes (w : World) (r : Ending) (w' : World) : Prop := r = .returned (.bool true) ∧ Below w.heap.size w w'

set_option maxRecDepth 100000 in
set_option maxHeartbeats 2000000 in
theorem same_expr_nil (w : World) : Calls Tryz.prog 93 #[.pointer none, .pointer none] w (Yes w) := by
  go_enter Tryz.func93, Tryz.ntmps93
  go_wp2_with fail
  go_ret
  exact ⟨rfl, Below.refl _ _⟩

/-- whatever grows behind it, the comparison says yes -/
def Alike (f : Nat) (w : World) (l r : Value) : Prop := ∀ w', Below w.heap.size w w' → Calls Tryz.prog f #[l, r] w' (Yes w')

set_option maxRecDepth 100000 in
set_option maxHeartbeats 2000000 in
theorem same_expr_node (w : World) (b b' : Nat) (c n : Int) (s : ByteArray) (l l' r r' : Value)
    (h0 : w.heap[b]? = some (.cells #[.int .i64 c, .int .i64 n, .string s, l, r] 157 (0, 0)))
    (h1 : w.heap[b']? = some (.cells #[.int .i64 c, .int .i64 n, .string s, l', r'] 157 (0, 0)))
    (hl : Alike 93 w l l') (hr : Alike 93 w r r') :
    Calls Tryz.prog 93 #[.pointer (some ⟨b, 0, none⟩), .pointer (some ⟨b', 0, none⟩)] w (Yes w) := by
  have a0 := fun d os => cell_regrown (show w.cell? ⟨b, 0, none⟩ = some (.int .i64 c) by rw [World.cell?]; simp [h0]) d os
  have a1 := fun d os => cell_regrown (show w.cell? ⟨b, 1, none⟩ = some (.int .i64 n) by rw [World.cell?]; simp [h0]) d os
  have a2 := fun d os => cell_regrown (show w.cell? ⟨b, 2, none⟩ = some (.string s) by rw [World.cell?]; simp [h0]) d os
  have a3 := fun d os => cell_regrown (show w.cell? ⟨b, 3, none⟩ = some l by rw [World.cell?]; simp [h0]) d os
  have a4 := fun d os => cell_regrown (show w.cell? ⟨b, 4, none⟩ = some r by rw [World.cell?]; simp [h0]) d os
  have b0 := fun d os => cell_regrown (show w.cell? ⟨b', 0, none⟩ = some (.int .i64 c) by rw [World.cell?]; simp [h1]) d os
  have b1 := fun d os => cell_regrown (show w.cell? ⟨b', 1, none⟩ = some (.int .i64 n) by rw [World.cell?]; simp [h1]) d os
  have b2 := fun d os => cell_regrown (show w.cell? ⟨b', 2, none⟩ = some (.string s) by rw [World.cell?]; simp [h1]) d os
  have b3 := fun d os => cell_regrown (show w.cell? ⟨b', 3, none⟩ = some l' by rw [World.cell?]; simp [h1]) d os
  have b4 := fun d os => cell_regrown (show w.cell? ⟨b', 4, none⟩ = some r' by rw [World.cell?]; simp [h1]) d os
  have hcl := fun d os => Calls.regrown_of (hl (grow (redrawn w d) os) (below_regrown _ d os))
  have hcr := fun d os => Calls.regrown_of (hr (grow (redrawn w d) os) (below_regrown _ d os))
  clear h0 h1 hl hr
  go_enter Tryz.func93, Tryz.ntmps93
  go_wp2_with fail
  refine wp_region_quiet_below (by kernel_rfl) (by kernel_rfl) ?_
  repeat (quiet_step (first | (go_at_call_of 93 l; exact hcl _ _) | (go_at_call_of 93 r; exact hcr _ _)))
  refine wpQuiet_nil ?_
  intro _ hw'
  obtain ⟨⟨dq, osq⟩, hw''⟩ := hw'
  subst hw''
  go_wp2_with fail
  go_ret
  exact ⟨rfl, below_regrown _ dq osq⟩
end Go.Proofs.YtanlfmhlohcmgaaGreatDoor
/- Two lists of sets in memory that are one: the law's comparison says so. -/
namespace Go.Proofs.YtanlfmhlohcmgaaGreatDoor
open Go.RowKit Go.Sort Px

theorem Yes.below {w : World} {r : Ending} {w' : World} (h : Yes w r w') : Below w.heap.size w w' := h.2
theorem keep_below {A : Nat → Prop} {w w' : World} (hb : Below w.heap.size w w') : Keep A A w w' := fun b ha hlt => ⟨ha, hb.block b hlt⟩
theorem Alike.up {f : Nat} {w w' : World} {l r : Value} (h : Alike f w l r) (hb : Below w.heap.size w w') : Alike f w' l r := fun w'' hb' => h w'' (hb.trans (hb'.mono hb.size))
theorem same_expr {A A' : Nat → Prop} : ∀ (e : E) (w : World) (v v' : Value), IsE A w e v → IsE A' w e v' → Alike 93 w v v' := by
  intro e
  induction e with
  | nil =>
    intro w v v' h h' w' _
    obtain rfl : v = .pointer none := h
    obtain rfl : v' = .pointer none := h'
    exact same_expr_nil w'
  | node b o a l r ihl ihr =>
    intro w v v' h h' w' hb
    obtain ⟨g, lv, rv, rfl, ha, hg, hl, hr⟩ := h.carry (keep_below hb)
    obtain ⟨g', lv', rv', rfl, ha', hg', hl', hr'⟩ := h'.carry (keep_below hb)
    exact same_expr_node w' g g' _ _ _ _ _ _ _ hg hg' (ihl w' _ _ hl hl') (ihr w' _ _ hr hr')

/-- a row that is read: its cells -/
theorem Row.read {A : Nat → Prop} {w : World} {e size n : Nat} {v : Value} {xs : List Value} (h : Row A w e size v n xs) :
    ∃ ao cap, v = .slice ao n cap ∧ n ≤ cap ∧ cap ≤ maxLen ∧ (0 < n → ∃ g, ao = some ⟨g, 0, none⟩ ∧ A g ∧ g < w.heap.size ∧ ∀ (j : Nat) (u : Value), xs[j]? = some u → w.cell? ⟨g, j, none⟩ = some u) := by
  have hc := fun g hg => World.ownsRow.cells h.1 (g := g) hg
  have hl := fun g hg => World.ownsRow.lt h.1 g hg
  have hA := h.2
  rcases h.1.2 with ⟨rfl, rfl⟩ | ⟨g, cap, cur, rfl, _, _, h2, h3, _⟩
  · exact ⟨none, 0, rfl, Nat.le_refl _, Nat.zero_le _, fun h => absurd h (Nat.lt_irrefl _)⟩
  · refine ⟨_, cap, rfl, h2, h3, fun _ => ⟨g, rfl, hA g rfl, (hl g rfl).2, fun j u hj => ?_⟩⟩
    have h1 := hc g rfl j u hj
    have ad : (⟨g, 0, none⟩ : Addr).add j = ⟨g, j, none⟩ := by unfold Addr.add; split <;> simp_all
    rw [ad] at h1
    exact h1
/-- records one behind the other, that are read -/
theorem Row.recs {α : Type} {R : α → List Value → Prop} {A : Nat → Prop} {w : World} {e k : Nat} {v : Value} {l : List α} {xs : List Value} (hk : ∀ a c, R a c → c.length = k) (hr : Row A w e k v l.length xs) (hs : Rows R l xs) :
    (l = [] ∧ ∃ ao cap, v = .slice ao 0 cap) ∨ ∃ g cap, v = .slice (some ⟨g, 0, none⟩) l.length cap ∧ 0 < l.length ∧ l.length ≤ maxLen ∧ g < w.heap.size ∧ A g ∧ ∀ (i : Nat) (a : α), l[i]? = some a → ∃ c, R a c ∧ ∀ (j : Nat) (u : Value), c[j]? = some u → w.cell? ⟨g, i * k + j, none⟩ = some u := by
  obtain ⟨ao, cap, rfl, h1, h2, h3⟩ := hr.read
  cases l with
  | nil => exact .inl ⟨rfl, ao, cap, rfl⟩
  | cons x r =>
    obtain ⟨g, rfl, hA, hg, hc⟩ := h3 (by simp)
    refine .inr ⟨g, cap, rfl, by simp, by omega, hg, hA, fun i a hi => ?_⟩
    obtain ⟨c, hc', hx⟩ := Rows.get hk hs i a hi
    exact ⟨c, hc', fun j u hj => hc _ _ (hx j u hj)⟩
theorem IsSets.read {A : Nat → Prop} {w : World} {l : List Asg} {v : Value} (h : IsSets A w l v) :
    (l = [] ∧ ∃ ao cap, v = .slice ao 0 cap) ∨ ∃ g cap, v = .slice (some ⟨g, 0, none⟩) l.length cap ∧ 0 < l.length ∧ l.length ≤ maxLen ∧ g < w.heap.size ∧ A g ∧ ∀ (i : Nat) (a : Asg), l[i]? = some a → ∃ p, w.cell? ⟨g, i * 2, none⟩ = some (sv a.name) ∧ w.cell? ⟨g, i * 2 + 1, none⟩ = some p ∧ IsE A w a.e p := by
  obtain ⟨xs, hr, hs⟩ := h
  rcases Row.recs (k := 2) (fun a c ⟨p, hc, _⟩ => by rw [hc]; rfl) hr hs with h | ⟨g, cap, h1, h2, h3, h4, h5, h6⟩
  · exact .inl h
  · refine .inr ⟨g, cap, h1, h2, h3, h4, h5, fun i a hi => ?_⟩
    obtain ⟨c, ⟨p, rfl, hp⟩, hx⟩ := h6 i a hi
    exact ⟨p, hx 0 _ rfl, hx 1 _ rfl, hp⟩
end Go.Proofs.YtanlfmhlohcmgaaGreatDoor
/- Two lists of sets in memory that are one: the law's comparison says so. -/
namespace Go.Proofs.YtanlfmhlohcmgaaGreatDoor
open Go.RowKit Go.Sort Px

set_option maxRecDepth 100000 in
set_option maxHeartbeats 2000000 in
theorem same_sets_nil (w : World) (ao ao' : Option Addr) (cap cap' : Nat) : Calls Tryz.prog 92 #[.slice ao 0 cap, .slice ao' 0 cap'] w (Yes w) := by
  go_enter Tryz.func92, Tryz.ntmps92
  go_wp2_with fail
  refine wp_loop_rounds 1 ?_
  rw [rounds_succ]
  go_wp2_with fail
  go_ret
  exact ⟨rfl, Below.refl _ _⟩

set_option maxRecDepth 100000 in
set_option maxHeartbeats 2000000 in
theorem same_sets_some {A A' : Nat → Prop} (l : List Asg) (w : World) (N g g' cap cap' : Nat) (hN : Hid (N = l.length)) (hm : N ≤ maxLen) (hg : g < w.heap.size) (hg' : g' < w.heap.size)
    (R : Hid (∀ (i : Nat) (a : Asg), l[i]? = some a → ∃ p, w.cell? ⟨g, i * 2, none⟩ = some (sv a.name) ∧ w.cell? ⟨g, i * 2 + 1, none⟩ = some p ∧ IsE A w a.e p))
    (R' : Hid (∀ (i : Nat) (a : Asg), l[i]? = some a → ∃ p, w.cell? ⟨g', i * 2, none⟩ = some (sv a.name) ∧ w.cell? ⟨g', i * 2 + 1, none⟩ = some p ∧ IsE A' w a.e p)) :
    Calls Tryz.prog 92 #[.slice (some ⟨g, 0, none⟩) N cap, .slice (some ⟨g', 0, none⟩) N cap'] w (Yes w) := by
  have hN6 : (N : Int) ≤ 9223372036854775807 := by unfold maxLen at hm; omega
  clear hm
  go_enter Tryz.func92, Tryz.ntmps92
  go_wp2_with fail
  go_loopw [5] (fun i wr => ∃ k : Nat, k ≤ N ∧ i = .int .i64 k ∧ Below w.heap.size w wr) (fun i _ => N - (intOf i).toNat)
  case atStart => exact ⟨0, by omega, rfl, Below.refl _ _⟩
  case round =>
    obtain ⟨k, hk, rfl, hbr⟩ := hrel
    by_cases hlt : k < N
    · obtain ⟨a, ha⟩ : ∃ a, Hid (l[k]? = some a) := ⟨l[k]'(by rw [← hN.out]; exact hlt), by rw [Hid, List.getElem?_eq_getElem]⟩
      obtain ⟨p, a1, a2, hp⟩ := R.out k a ha.out
      obtain ⟨p', b1, b2, hp'⟩ := R'.out k a ha.out
      have q1 := fun d os => cell_regrown ((hbr.cell (p := ⟨g, k * 2, none⟩) hg).trans a1) d os
      have q2 := fun d os => cell_regrown ((hbr.cell (p := ⟨g, k * 2 + 1, none⟩) hg).trans a2) d os
      have q3 := fun d os => cell_regrown ((hbr.cell (p := ⟨g', k * 2, none⟩) hg').trans b1) d os
      have q4 := fun d os => cell_regrown ((hbr.cell (p := ⟨g', k * 2 + 1, none⟩) hg').trans b2) d os
      have hs := (same_expr a.e w p p' hp hp').up hbr
      have hcl := fun d os => Calls.regrown_of (hs (grow (redrawn _ d) os) (below_regrown _ d os))
      clear a1 a2 b1 b2 hp hp' hs
      rw [sv] at q1 q3
      have hi0 : (0 : Int) ≤ (k : Int) := Int.natCast_nonneg _
      have hi1 : (k : Int) < (N : Int) := by omega
      go_wp2_with fail
      refine wp_region_quiet_below (by kernel_rfl) (by kernel_rfl) ?_
      repeat (quiet_step (first | (go_at_call 93; exact hcl _ _)))
      refine wpQuiet_nil ?_
      intro _ hw'
      obtain ⟨⟨dq, osq⟩, hw''⟩ := hw'
      subst hw''
      go_wp2_with fail
      go_roundw
      case rel => exact ⟨k + 1, by omega, by go_num, hbr.trans ((below_regrown _ dq osq).mono hbr.size)⟩
      case measure => simp [intOf]; omega
    · go_wp2_with fail
      go_ret
      exact ⟨rfl, hbr⟩

theorem same_sets {A A' : Nat → Prop} (l : List Asg) (w : World) (v v' : Value) (h : IsSets A w l v) (h' : IsSets A' w l v') : Alike 92 w v v' := by
  intro w' hb
  rcases (h.carry (keep_below hb)).read with ⟨rfl, ao, cap, rfl⟩ | ⟨g, cap, rfl, h0, h1, h2, h3, h4⟩ <;>
  rcases (h'.carry (keep_below hb)).read with ⟨h5, ao', cap', rfl⟩ | ⟨g', cap', rfl, h0', h1', h2', h3', h4'⟩
  · exact same_sets_nil w' ao ao' cap cap'
  · exact absurd h0' (by simp)
  · subst h5; exact absurd h0 (by simp)
  · exact same_sets_some l w' _ g g' cap cap' rfl h1 h2 h2' h4 h4'
end Go.Proofs.YtanlfmhlohcmgaaGreatDoor
/- Two states in memory that are one: the law's comparison says so. -/
namespace Go.Proofs.YtanlfmhlohcmgaaGreatDoor
open Go.RowKit Go.Sort Px

/-- what a block holds -/
def Held (w : World) (b : Nat) (xs : Array Value) : Prop := ∀ (j : Nat) (u : Value), xs[j]? = some u → w.cell? ⟨b, j, none⟩ = some u
theorem Held.up {w w' : World} {b B : Nat} {xs : Array Value} (h : Held w b xs) (hb : Below B w w') (hlt : b < B) : Held w' b xs := fun j u hj => (hb.cell (p := ⟨b, j, none⟩) hlt).trans (h j u hj)
/-- the two parameters are laid -/
theorem two_laid (w : World) (x y : Array Value) (t : Nat) : ∃ W, W = (w.alloc (.cells x t)).alloc (.cells y t) ∧ Below w.heap.size w W ∧ W.heap.size = w.heap.size + 2 ∧ Held W w.heap.size x ∧ Held W (w.heap.size + 1) y := by
  refine ⟨_, rfl, ((Below.refl _ w).alloc (Nat.le_refl _) _).alloc (by simp) _, by simp, fun j u hj => ?_, fun j u hj => ?_⟩
  · have h0 : ((w.alloc (.cells x t)).alloc (.cells y t)).heap[w.heap.size]? = some (.cells x t (0, 0)) := by
      rw [heap_alloc_old _ _ (by simp)]; exact heap_alloc_new w _
    rw [cell_of_row _ _ _ _ _ _ h0]; exact hj
  · have h0 : ((w.alloc (.cells x t)).alloc (.cells y t)).heap[w.heap.size + 1]? = some (.cells y t (0, 0)) := by
      have := heap_alloc_new (w.alloc (.cells x t)) (.cells y t); simpa using this
    rw [cell_of_row _ _ _ _ _ _ h0]; exact hj
def WayAt (w : World) (g i : Nat) (a : Wy) (p q : Value) : Prop := Held w g #[] ∧ w.cell? ⟨g, i * 7, none⟩ = some (.int .i64 a.kind) ∧ w.cell? ⟨g, i * 7 + 1, none⟩ = some (.bool a.now) ∧ w.cell? ⟨g, i * 7 + 2, none⟩ = some p ∧ w.cell? ⟨g, i * 7 + 3, none⟩ = some (.int .i64 a.times) ∧ w.cell? ⟨g, i * 7 + 4, none⟩ = some q ∧ w.cell? ⟨g, i * 7 + 5, none⟩ = some (sv a.to) ∧ w.cell? ⟨g, i * 7 + 6, none⟩ = some (.bool a.back)

set_option maxRecDepth 100000 in
set_option maxHeartbeats 4000000 in
theorem same_state (w : World) (ys : List Wy) (N : Nat) (hN : Hid (N = ys.length)) (n : ByteArray) (f la : Bool) (e d l p e' d' l' p' r r' : Value) (ao ao' : Option Addr) (cap cap' g g' : Nat) (hm : N ≤ maxLen) (he : Alike 92 w e e') (hd : Alike 92 w d d') (hl : Alike 92 w l l') (hp : Alike 93 w p p') (hr : Alike 42 w r r')
    (R : Hid (∀ (i : Nat) (a : Wy), ys[i]? = some a → ao = some ⟨g, 0, none⟩ ∧ ao' = some ⟨g', 0, none⟩ ∧ g < w.heap.size ∧ g' < w.heap.size ∧ ∃ p p' q n c q' n' c', WayAt w g i a (.pointer p) (.slice q n c) ∧ WayAt w g' i a (.pointer p') (.slice q' n' c') ∧ Alike 93 w (.pointer p) (.pointer p') ∧ Alike 92 w (.slice q n c) (.slice q' n' c'))) :
    Calls Tryz.prog 69 #[.agg #[.string n, .bool f, .bool la, e, d, l, p, .slice ao N cap, r], .agg #[.string n, .bool f, .bool la, e', d', l', p', .slice ao' N cap', r']] w (Yes w) := by
  have hN6 : (N : Int) ≤ 9223372036854775807 := by unfold maxLen at hm; omega
  clear hm
  obtain ⟨W, hW, hB, hz, hC, hC'⟩ := two_laid w #[.string n, .bool f, .bool la, e, d, l, p, .slice ao N cap, r] #[.string n, .bool f, .bool la, e', d', l', p', .slice ao' N cap', r'] 75
  go_enter Tryz.func69, Tryz.ntmps69
  go_upto_region 1 with fail
  rw [show (w.alloc (.cells #[.string n, .bool f, .bool la, e, d, l, p, .slice ao N cap, r] 75)).alloc (.cells #[.string n, .bool f, .bool la, e', d', l', p', .slice ao' N cap', r'] 75) = W from hW.symm]
  clear hW
  have a0_ := hC 0 _ rfl
  have b0_ := hC' 0 _ rfl
  have a1_ := hC 1 _ rfl
  have b1_ := hC' 1 _ rfl
  have a2_ := hC 2 _ rfl
  have b2_ := hC' 2 _ rfl
  have a3_ := hC 3 _ rfl
  have b3_ := hC' 3 _ rfl
  go_wp2_with (first
    | (go_at_call_of 92 e; refine (he _ hB).mono ?_; rintro _ w1 ⟨rfl, hb1⟩; have hz1 := hb1.size; have hB1 := hB.trans (hb1.mono hB.size); have hC1 := hC.up hb1 (by omega); have hC1' := hC'.up hb1 (by omega); have a4_ := hC1 4 _ rfl; have b4_ := hC1' 4 _ rfl)
    | (go_at_call_of 92 d; refine (hd _ hB1).mono ?_; rintro _ w2 ⟨rfl, hb2⟩; have hz2 := hb2.size; have hB2 := hB1.trans (hb2.mono hB1.size); have hC2 := hC1.up hb2 (by omega); have hC2' := hC1'.up hb2 (by omega); have a5_ := hC2 5 _ rfl; have b5_ := hC2' 5 _ rfl)
    | (go_at_call_of 92 l; refine (hl _ hB2).mono ?_; rintro _ w3 ⟨rfl, hb3⟩; have hz3 := hb3.size; have hB3 := hB2.trans (hb3.mono hB2.size); have hC3 := hC2.up hb3 (by omega); have hC3' := hC2'.up hb3 (by omega); have a6_ := hC3 6 _ rfl; have b6_ := hC3' 6 _ rfl)
    | (go_at_call_of 93 p; refine (hp _ hB3).mono ?_; rintro _ w4 ⟨rfl, hb4⟩; have hz4 := hb4.size; have hB4 := hB3.trans (hb4.mono hB3.size); have hC4 := hC3.up hb4 (by omega); have hC4' := hC3'.up hb4 (by omega); have a7_ := hC4 7 _ rfl; have b7_ := hC4' 7 _ rfl))
  go_loopw [5] (fun i wr => ∃ k : Nat, k ≤ N ∧ i = .int .i64 k ∧ Below w4.heap.size w4 wr) (fun i _ => N - (intOf i).toNat)
  case atStart => exact ⟨0, by omega, rfl, Below.refl _ _⟩
  case round =>
    obtain ⟨k, hk, rfl, hbr⟩ := hrel
    have hCr := hC4.up hbr (by omega)
    have hCr' := hC4'.up hbr (by omega)
    have hBr := hB4.trans (hbr.mono hB4.size)
    by_cases hlt : k < N
    · obtain ⟨a, ha⟩ : ∃ a, Hid (ys[k]? = some a) := ⟨ys[k]'(by rw [← hN.out]; exact hlt), by rw [Hid, List.getElem?_eq_getElem]⟩
      obtain ⟨hao, hao', hg, hg', pw, pw', qa, qn, qc, qa', qn', qc', hy, hy', hpw, hqw⟩ := R.out k a ha.out
      have a7_ := hCr 7 _ rfl
      have b7_ := hCr' 7 _ rfl
      rw [hao] at a7_
      rw [hao'] at b7_
      clear hao hao'
      obtain ⟨-, x0, x1, x2, x3, x4, x5, x6⟩ := hy
      obtain ⟨-, y0, y1, y2, y3, y4, y5, y6⟩ := hy'
      rw [← hBr.cell (p := ⟨g, k * 7, none⟩) hg] at x0
      rw [← hBr.cell (p := ⟨g', k * 7, none⟩) hg'] at y0
      rw [← hBr.cell (p := ⟨g, k * 7 + 1, none⟩) hg] at x1
      rw [← hBr.cell (p := ⟨g', k * 7 + 1, none⟩) hg'] at y1
      rw [← hBr.cell (p := ⟨g, k * 7 + 2, none⟩) hg] at x2
      rw [← hBr.cell (p := ⟨g', k * 7 + 2, none⟩) hg'] at y2
      rw [← hBr.cell (p := ⟨g, k * 7 + 3, none⟩) hg] at x3
      rw [← hBr.cell (p := ⟨g', k * 7 + 3, none⟩) hg'] at y3
      rw [← hBr.cell (p := ⟨g, k * 7 + 4, none⟩) hg] at x4
      rw [← hBr.cell (p := ⟨g', k * 7 + 4, none⟩) hg'] at y4
      rw [← hBr.cell (p := ⟨g, k * 7 + 5, none⟩) hg] at x5
      rw [← hBr.cell (p := ⟨g', k * 7 + 5, none⟩) hg'] at y5
      rw [← hBr.cell (p := ⟨g, k * 7 + 6, none⟩) hg] at x6
      rw [← hBr.cell (p := ⟨g', k * 7 + 6, none⟩) hg'] at y6
      rw [sv] at x5 y5
      have hi0 : (0 : Int) ≤ (k : Int) := Int.natCast_nonneg _
      have hi1 : (k : Int) < (N : Int) := by omega
      have hzr := hBr.size
      have hz4r := hbr.size
      have ll0 : w.heap.size < wr.heap.size := by omega
      have lm0 : w.heap.size < wr.heap.size + 1 := by omega
      have ll1 : w.heap.size + 1 < wr.heap.size := by omega
      have ll2 : g < wr.heap.size := by omega
      have lm2 : g < wr.heap.size + 1 := by omega
      have ll3 : g' < wr.heap.size := by omega
      have lm3 : g' < wr.heap.size + 1 := by omega
      have lm1 : w.heap.size + 1 < wr.heap.size + 1 := by omega
      go_upto_region 6 with fail
      go_region
      · obtain ⟨W6, hW6, hB6, hz6, hX0, hY0⟩ := two_laid wr #[.int .i64 a.kind, .bool a.now, .pointer pw, .int .i64 a.times, .slice qa qn qc, .string ⟨a.to.toArray⟩, .bool a.back] #[.int .i64 a.kind, .bool a.now, .pointer pw', .int .i64 a.times, .slice qa' qn' qc', .string ⟨a.to.toArray⟩, .bool a.back] 77
        rw [show (wr.alloc (.cells #[.int .i64 a.kind, .bool a.now, .pointer pw, .int .i64 a.times, .slice qa qn qc, .string ⟨a.to.toArray⟩, .bool a.back] 77)).alloc (.cells #[.int .i64 a.kind, .bool a.now, .pointer pw', .int .i64 a.times, .slice qa' qn' qc', .string ⟨a.to.toArray⟩, .bool a.back] 77) = W6 from hW6.symm]
        clear hW6 x0 x1 x2 x3 x4 x5 x6 y0 y1 y2 y3 y4 y5 y6
        have hX := hX0.up ((Below.refl W6.heap.size W6).drew) (by omega)
        have hY := hY0.up ((Below.refl W6.heap.size W6).drew) (by omega)
        have h46 : Below w4.heap.size w4 W6.drew := (hbr.trans (hB6.mono hbr.size)).drew
        have h06 := hB4.trans (h46.mono hB4.size)
        have hzz : W6.drew.heap.size = W6.heap.size := rfl
        have u0 := hX 0 _ rfl
        have u1 := hX 1 _ rfl
        have u2 := hX 2 _ rfl
        have v0 := hY 0 _ rfl
        have v1 := hY 1 _ rfl
        have v2 := hY 2 _ rfl
        go_wp2_with (first
          | (go_at_call 93; refine (hpw _ h06).mono ?_; rintro _ w5 ⟨rfl, hb5⟩; have hz5 := hb5.size; have h45 := h46.trans (hb5.mono h46.size); have h05 := h06.trans (hb5.mono h06.size); have hX5 := hX.up hb5 (by omega); have hY5 := hY.up hb5 (by omega); have u3 := hX5 3 _ rfl; have v3 := hY5 3 _ rfl; have u4 := hX5 4 _ rfl; have v4 := hY5 4 _ rfl)
          | (go_at_call 92; refine (hqw _ h05).mono ?_; rintro _ w6 ⟨rfl, hb6⟩; have h47 := h45.trans (hb6.mono h45.size); have hX6 := hX5.up hb6 (by omega); have hY6 := hY5.up hb6 (by omega); have u5 := hX6 5 _ rfl; have v5 := hY6 5 _ rfl; have u6 := hX6 6 _ rfl; have v6 := hY6 6 _ rfl))
        go_roundw
        case rel => exact ⟨k + 1, by omega, by go_num, h47⟩
        case measure => simp [intOf]; omega
      · obtain ⟨W6, hW6, hB6, hz6, hY0, hX0⟩ := two_laid wr #[.int .i64 a.kind, .bool a.now, .pointer pw', .int .i64 a.times, .slice qa' qn' qc', .string ⟨a.to.toArray⟩, .bool a.back] #[.int .i64 a.kind, .bool a.now, .pointer pw, .int .i64 a.times, .slice qa qn qc, .string ⟨a.to.toArray⟩, .bool a.back] 77
        rw [show (wr.alloc (.cells #[.int .i64 a.kind, .bool a.now, .pointer pw', .int .i64 a.times, .slice qa' qn' qc', .string ⟨a.to.toArray⟩, .bool a.back] 77)).alloc (.cells #[.int .i64 a.kind, .bool a.now, .pointer pw, .int .i64 a.times, .slice qa qn qc, .string ⟨a.to.toArray⟩, .bool a.back] 77) = W6 from hW6.symm]
        clear hW6 x0 x1 x2 x3 x4 x5 x6 y0 y1 y2 y3 y4 y5 y6
        have hX := hX0.up ((Below.refl W6.heap.size W6).drew) (by omega)
        have hY := hY0.up ((Below.refl W6.heap.size W6).drew) (by omega)
        have h46 : Below w4.heap.size w4 W6.drew := (hbr.trans (hB6.mono hbr.size)).drew
        have h06 := hB4.trans (h46.mono hB4.size)
        have hzz : W6.drew.heap.size = W6.heap.size := rfl
        have u0 := hX 0 _ rfl
        have u1 := hX 1 _ rfl
        have u2 := hX 2 _ rfl
        have v0 := hY 0 _ rfl
        have v1 := hY 1 _ rfl
        have v2 := hY 2 _ rfl
        go_wp2_with (first
          | (go_at_call 93; refine (hpw _ h06).mono ?_; rintro _ w5 ⟨rfl, hb5⟩; have hz5 := hb5.size; have h45 := h46.trans (hb5.mono h46.size); have h05 := h06.trans (hb5.mono h06.size); have hX5 := hX.up hb5 (by omega); have hY5 := hY.up hb5 (by omega); have u3 := hX5 3 _ rfl; have v3 := hY5 3 _ rfl; have u4 := hX5 4 _ rfl; have v4 := hY5 4 _ rfl)
          | (go_at_call 92; refine (hqw _ h05).mono ?_; rintro _ w6 ⟨rfl, hb6⟩; have h47 := h45.trans (hb6.mono h45.size); have hX6 := hX5.up hb6 (by omega); have hY6 := hY5.up hb6 (by omega); have u5 := hX6 5 _ rfl; have v5 := hY6 5 _ rfl; have u6 := hX6 6 _ rfl; have v6 := hY6 6 _ rfl))
        go_roundw
        case rel => exact ⟨k + 1, by omega, by go_num, h47⟩
        case measure => simp [intOf]; omega
    · have a7_ := hCr 7 _ rfl
      have a8_ := hCr 8 _ rfl
      have b8_ := hCr' 8 _ rfl
      go_wp2_with (go_at_call 42; refine (hr _ hBr).mono ?_; rintro _ w5 ⟨rfl, hb5⟩)
      go_ret
      exact ⟨rfl, hBr.trans (hb5.mono hBr.size)⟩
end Go.Proofs.YtanlfmhlohcmgaaGreatDoor
/- Regions in memory that are one: the law's comparison says so. -/
namespace Go.Proofs.YtanlfmhlohcmgaaGreatDoor
open Go.RowKit Go.Sort Px

set_option maxRecDepth 100000 in
set_option maxHeartbeats 2000000 in
theorem same_regions_nil (w : World) (ao ao' : Option Addr) (cap cap' : Nat) : Calls Tryz.prog 42 #[.slice ao 0 cap, .slice ao' 0 cap'] w (Yes w) := by
  go_enter Tryz.func42, Tryz.ntmps42
  go_wp2_with fail
  refine wp_loop_rounds 1 ?_
  rw [rounds_succ]
  go_wp2_with fail
  go_ret
  exact ⟨rfl, Below.refl _ _⟩
/-- a state's cells -/
def Nine (w : World) (h k : Nat) (c0 c1 c2 c3 c4 c5 c6 c7 c8 : Value) : Prop := w.cell? ⟨h, k * 9, none⟩ = some c0 ∧ w.cell? ⟨h, k * 9 + 1, none⟩ = some c1 ∧ w.cell? ⟨h, k * 9 + 2, none⟩ = some c2 ∧ w.cell? ⟨h, k * 9 + 3, none⟩ = some c3 ∧ w.cell? ⟨h, k * 9 + 4, none⟩ = some c4 ∧ w.cell? ⟨h, k * 9 + 5, none⟩ = some c5 ∧ w.cell? ⟨h, k * 9 + 6, none⟩ = some c6 ∧ w.cell? ⟨h, k * 9 + 7, none⟩ = some c7 ∧ w.cell? ⟨h, k * 9 + 8, none⟩ = some c8
/-- two lists of states that lie in memory, each state of one as the other's -/
def RegAt (w : World) (g g' i : Nat) : Prop :=
  ∃ (M : Nat) (ao ao' : Option Addr) (cap cap' h h' : Nat), w.cell? ⟨g, i, none⟩ = some (.slice ao M cap) ∧ w.cell? ⟨g', i, none⟩ = some (.slice ao' M cap') ∧ M ≤ maxLen ∧ (0 < M → ao = some ⟨h, 0, none⟩ ∧ ao' = some ⟨h', 0, none⟩ ∧ h < w.heap.size ∧ h' < w.heap.size) ∧
    ∀ k, k < M → ∃ c0 c1 c2 c3 c4 c5 c6 c7 c8 d0 d1 d2 d3 d4 d5 d6 d7 d8 : Value, Nine w h k c0 c1 c2 c3 c4 c5 c6 c7 c8 ∧ Nine w h' k d0 d1 d2 d3 d4 d5 d6 d7 d8 ∧ Alike 69 w (.agg #[c0, c1, c2, c3, c4, c5, c6, c7, c8]) (.agg #[d0, d1, d2, d3, d4, d5, d6, d7, d8])

set_option maxRecDepth 100000 in
set_option maxHeartbeats 4000000 in
theorem same_regions_some (w : World) (N g g' cap cap' : Nat) (hm : N ≤ maxLen) (hg : g < w.heap.size) (hg' : g' < w.heap.size) (R : Hid (∀ i, i < N → RegAt w g g' i)) :
    Calls Tryz.prog 42 #[.slice (some ⟨g, 0, none⟩) N cap, .slice (some ⟨g', 0, none⟩) N cap'] w (Yes w) := by
  have hN6 : (N : Int) ≤ 9223372036854775807 := by unfold maxLen at hm; omega
  clear hm
  go_enter Tryz.func42, Tryz.ntmps42
  go_wp2_with fail
  go_loopg [5] N (fun f v wr => ∃ i : Nat, f = N - i ∧ i ≤ N ∧ v = .int .i64 i ∧ Below w.heap.size w wr)
  case atStart => exact ⟨0, by omega, by omega, rfl, Below.refl _ _⟩
  case round =>
    obtain ⟨i, rfl, hi, rfl, hbr⟩ := hrel
    by_cases hlt : i < N
    · obtain ⟨M, ao, ao', cap1, cap1', h, h', x0, y0, hM, hh, hS⟩ := R.out i hlt
      have hM6 : (M : Int) ≤ 9223372036854775807 := by unfold maxLen at hM; omega
      have HS : Hid _ := hS
      clear hM hS
      have x1 := (hbr.cell (p := ⟨g, i, none⟩) hg).trans x0
      have y1 := (hbr.cell (p := ⟨g', i, none⟩) hg').trans y0
      have hi0 : (0 : Int) ≤ (i : Int) := Int.natCast_nonneg _
      have hi1 : (i : Int) < (N : Int) := by omega
      by_cases hM0 : M = 0
      · subst hM0
        clear hh
        go_wp2_with fail
        go_quiet (fail)
        go_wp2_with fail
        refine wp_loop_rounds 1 ?_
        rw [rounds_succ]
        go_wp2_with fail
        go_roundg (N - (i + 1))
        case measure => omega
        case rel => exact ⟨i + 1, rfl, by omega, by go_num, hbr.trans ⟨rfl, rfl, rfl, Nat.le_refl _, fun _ _ => rfl⟩⟩
      · obtain ⟨rfl, rfl, hA, hA'⟩ := hh (by omega)
        clear hh
        go_wp2_with fail
        go_quiet (fail)
        go_wp2_with fail
        go_loopg [6] M (fun f v ws => ∃ k : Nat, f = M - k ∧ k ≤ M ∧ v = .int .i64 k ∧ Below w.heap.size w ws)
        case atStart => exact ⟨0, by omega, by omega, rfl, hbr.trans ⟨rfl, rfl, rfl, Nat.le_refl _, fun _ _ => rfl⟩⟩
        case round =>
          clear x1 y1 hbr
          obtain ⟨k, rfl, hk, rfl, hbr⟩ := hrel
          have x2 := (hbr.cell (p := ⟨g, i, none⟩) hg).trans x0
          have y2 := (hbr.cell (p := ⟨g', i, none⟩) hg').trans y0
          by_cases hlk : k < M
          · obtain ⟨c0, c1, c2, c3, c4, c5, c6, c7, c8, d0, d1, d2, d3, d4, d5, d6, d7, d8, hc, hd, hs⟩ := HS.out k hlk
            obtain ⟨s0, s1, s2, s3, s4, s5, s6, s7, s8⟩ := hc
            obtain ⟨t0, t1, t2, t3, t4, t5, t6, t7, t8⟩ := hd
            have hq := fun x os => Calls.regrown_of (hs (grow (redrawn _ x) os) (hbr.trans ((below_regrown _ x os).mono hbr.size)))
            have qx := fun x os => cell_regrown x2 x os
            have qy := fun x os => cell_regrown y2 x os
            have z0 := fun x os => cell_regrown ((hbr.cell (p := ⟨h, k * 9, none⟩) hA).trans s0) x os
            have v0 := fun x os => cell_regrown ((hbr.cell (p := ⟨h', k * 9, none⟩) hA').trans t0) x os
            have z1 := fun x os => cell_regrown ((hbr.cell (p := ⟨h, k * 9 + 1, none⟩) hA).trans s1) x os
            have v1 := fun x os => cell_regrown ((hbr.cell (p := ⟨h', k * 9 + 1, none⟩) hA').trans t1) x os
            have z2 := fun x os => cell_regrown ((hbr.cell (p := ⟨h, k * 9 + 2, none⟩) hA).trans s2) x os
            have v2 := fun x os => cell_regrown ((hbr.cell (p := ⟨h', k * 9 + 2, none⟩) hA').trans t2) x os
            have z3 := fun x os => cell_regrown ((hbr.cell (p := ⟨h, k * 9 + 3, none⟩) hA).trans s3) x os
            have v3 := fun x os => cell_regrown ((hbr.cell (p := ⟨h', k * 9 + 3, none⟩) hA').trans t3) x os
            have z4 := fun x os => cell_regrown ((hbr.cell (p := ⟨h, k * 9 + 4, none⟩) hA).trans s4) x os
            have v4 := fun x os => cell_regrown ((hbr.cell (p := ⟨h', k * 9 + 4, none⟩) hA').trans t4) x os
            have z5 := fun x os => cell_regrown ((hbr.cell (p := ⟨h, k * 9 + 5, none⟩) hA).trans s5) x os
            have v5 := fun x os => cell_regrown ((hbr.cell (p := ⟨h', k * 9 + 5, none⟩) hA').trans t5) x os
            have z6 := fun x os => cell_regrown ((hbr.cell (p := ⟨h, k * 9 + 6, none⟩) hA).trans s6) x os
            have v6 := fun x os => cell_regrown ((hbr.cell (p := ⟨h', k * 9 + 6, none⟩) hA').trans t6) x os
            have z7 := fun x os => cell_regrown ((hbr.cell (p := ⟨h, k * 9 + 7, none⟩) hA).trans s7) x os
            have v7 := fun x os => cell_regrown ((hbr.cell (p := ⟨h', k * 9 + 7, none⟩) hA').trans t7) x os
            have z8 := fun x os => cell_regrown ((hbr.cell (p := ⟨h, k * 9 + 8, none⟩) hA).trans s8) x os
            have v8 := fun x os => cell_regrown ((hbr.cell (p := ⟨h', k * 9 + 8, none⟩) hA').trans t8) x os
            clear s0 t0 s1 t1 s2 t2 s3 t3 s4 t4 s5 t5 s6 t6 s7 t7 s8 t8
            have hk0 : (0 : Int) ≤ (k : Int) := Int.natCast_nonneg _
            have hk1 : (k : Int) < (M : Int) := by omega
            clear hs
            go_wp2_with fail
            refine wp_region_quiet_below (by kernel_rfl) (by kernel_rfl) ?_
            repeat (quiet_step (first | (go_at_call 69; exact hq _ _)))
            refine wpQuiet_nil ?_
            intro _ hw'
            obtain ⟨⟨dq, osq⟩, hw''⟩ := hw'
            subst hw''
            go_wp2_with fail
            go_roundg (M - (k + 1))
            case measure => omega
            case rel => exact ⟨k + 1, rfl, by omega, by go_num, hbr.trans ((below_regrown _ dq osq).mono hbr.size)⟩
          · go_wp2_with fail
            go_roundg (N - (i + 1))
            case measure => omega
            case rel => exact ⟨i + 1, rfl, by omega, by go_num, hbr⟩
    · go_wp2_with fail
      go_ret
      exact ⟨rfl, hbr⟩
end Go.Proofs.YtanlfmhlohcmgaaGreatDoor
/- Charts in memory that are one: the law's comparison says so. -/
namespace Go.Proofs.YtanlfmhlohcmgaaGreatDoor
open Go.RowKit Go.Sort Px

set_option maxRecDepth 100000 in
set_option maxHeartbeats 4000000 in
theorem same_chart (w : World) (vs : List Decl) (N : Nat) (hN : Hid (N = vs.length)) (n : ByteArray) (r r' : Value) (ao ao' : Option Addr) (cap cap' g g' : Nat) (hm : N ≤ maxLen) (hr : Alike 42 w r r')
    (R : Hid (∀ (i : Nat) (a : Decl), vs[i]? = some a → ao = some ⟨g, 0, none⟩ ∧ ao' = some ⟨g', 0, none⟩ ∧ g < w.heap.size ∧ g' < w.heap.size ∧ w.cell? ⟨g, i * 3, none⟩ = some (.int .i64 a.kind) ∧ w.cell? ⟨g, i * 3 + 1, none⟩ = some (sv a.name) ∧ w.cell? ⟨g, i * 3 + 2, none⟩ = some (.int .i64 a.first) ∧
      w.cell? ⟨g', i * 3, none⟩ = some (.int .i64 a.kind) ∧ w.cell? ⟨g', i * 3 + 1, none⟩ = some (sv a.name) ∧ w.cell? ⟨g', i * 3 + 2, none⟩ = some (.int .i64 a.first))) :
    Calls Tryz.prog 22 #[.agg #[.string n, .slice ao N cap, r], .agg #[.string n, .slice ao' N cap', r']] w (Yes w) := by
  have hN6 : (N : Int) ≤ 9223372036854775807 := by unfold maxLen at hm; omega
  clear hm
  obtain ⟨W, hW, hB, hz, hC, hC'⟩ := two_laid w #[.string n, .slice ao N cap, r] #[.string n, .slice ao' N cap', r'] 25
  go_enter Tryz.func22, Tryz.ntmps22
  go_upto_region 1 with fail
  rw [show (w.alloc (.cells #[.string n, .slice ao N cap, r] 25)).alloc (.cells #[.string n, .slice ao' N cap', r'] 25) = W from hW.symm]
  clear hW
  have a0_ := hC 0 _ rfl
  have b0_ := hC' 0 _ rfl
  have a1_ := hC 1 _ rfl
  have b1_ := hC' 1 _ rfl
  go_wp2_with fail
  go_loopw [5] (fun i wr => ∃ k : Nat, k ≤ N ∧ i = .int .i64 k ∧ Below W.heap.size W wr) (fun i _ => N - (intOf i).toNat)
  case atStart => exact ⟨0, by omega, rfl, Below.refl _ _⟩
  case round =>
    obtain ⟨k, hk, rfl, hbr⟩ := hrel
    have hCr := hC.up hbr (by omega)
    have hCr' := hC'.up hbr (by omega)
    have hBr := hB.trans (hbr.mono hB.size)
    by_cases hlt : k < N
    · obtain ⟨a, ha⟩ : ∃ a, Hid (vs[k]? = some a) := ⟨vs[k]'(by rw [← hN.out]; exact hlt), by rw [Hid, List.getElem?_eq_getElem]⟩
      obtain ⟨hao, hao', hg, hg', x0, x1, x2, y0, y1, y2⟩ := R.out k a ha.out
      have a7_ := hCr 1 _ rfl
      have b7_ := hCr' 1 _ rfl
      rw [hao] at a7_
      rw [hao'] at b7_
      clear hao hao'
      rw [← hBr.cell (p := ⟨g, k * 3, none⟩) hg] at x0
      rw [← hBr.cell (p := ⟨g, k * 3 + 1, none⟩) hg] at x1
      rw [← hBr.cell (p := ⟨g, k * 3 + 2, none⟩) hg] at x2
      rw [← hBr.cell (p := ⟨g', k * 3, none⟩) hg'] at y0
      rw [← hBr.cell (p := ⟨g', k * 3 + 1, none⟩) hg'] at y1
      rw [← hBr.cell (p := ⟨g', k * 3 + 2, none⟩) hg'] at y2
      rw [sv] at x1 y1
      have hi0 : (0 : Int) ≤ (k : Int) := Int.natCast_nonneg _
      have hi1 : (k : Int) < (N : Int) := by omega
      go_wp2_with fail
      go_quiet (fail)
      go_wp2_with fail
      go_roundw
      case rel => exact ⟨k + 1, by omega, by go_num, hbr.trans ⟨rfl, rfl, rfl, Nat.le_refl _, fun _ _ => rfl⟩⟩
      case measure => simp [intOf]; omega
    · have a7_ := hCr 1 _ rfl
      have a8_ := hCr 2 _ rfl
      have b8_ := hCr' 2 _ rfl
      go_wp2_with (go_at_call 42; refine (hr _ hBr).mono ?_; rintro _ w5 ⟨rfl, hb5⟩)
      go_ret
      exact ⟨rfl, hBr.trans (hb5.mono hBr.size)⟩
end Go.Proofs.YtanlfmhlohcmgaaGreatDoor
