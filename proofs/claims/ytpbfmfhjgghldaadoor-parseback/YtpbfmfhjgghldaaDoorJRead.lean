/- pass, skip: where a run ends, where what is nothing ends. -/
import Derived.Test.YtpbfmfhjgghldaaDoorJSmall
import Derived.Lib.QuietBelow
import Derived.Deep.RegionWith
import Derived.Deep.LoopGhost
import Derived.Deep.DeepCutAuto
import Derived.BigQuiet
import Derived.Deep.QuietTactic
import Derived.Shelf.LaysM
import Derived.Shelf.Strconv.Clone
import Derived.Shelf.Strings.Prefix
import Derived.Test.YtpbfmfhjgghldaaDoorProg
import Derived.Laws.EntriesVeiled
namespace Go.Proofs.YtpbfmfhjgghldaaDoor
open Go.RowKit

abbrev bs (s : ByteArray) : List UInt8 := s.data.toList
theorem bs_at (s : ByteArray) (k : Nat) (h : k < s.size) : (bs s)[k]? = some s[k] := by
  rw [List.getElem?_eq_getElem (by simpa using h)]; rfl
theorem bs_len (s : ByteArray) : (bs s).length = s.size := by simp
theorem ret_int {k : IntKind} {a b : Int} (h : a = b) : Ending.returned (.int k a) = .returned (.int k b) := by rw [h]

set_option maxHeartbeats 800000 in
theorem pass_inl (s : ByteArray) (a : Nat) (w : World) (hs : s.size ≤ 1000000) (ha : a ≤ s.size) :
    Calls Tryd.prog 37 #[.string s, .int .i64 a, .func (.func 38) #[] #[]] w fun e w' => e = .returned (.int .i64 (Lx.runTo Lx.inl (bs s) a : Nat)) ∧ w' = w := by
  go_enter Tryd.func37, Tryd.ntmps37
  go_wp2
  go_loop [1] (fun i => ∃ k : Nat, k ≤ s.size ∧ i = .int .i64 k ∧ Hid (Lx.runTo Lx.inl (bs s) a = Lx.runTo Lx.inl (bs s) k)) (fun i => s.size - (intOf i).toNat)
  case atStart => exact ⟨a, ha, rfl, rfl⟩
  case round =>
    obtain ⟨k, hk, rfl, hr⟩ := hrel
    by_cases hlt : k < s.size
    · have hc := bs_at s k hlt
      have HC : Hid ((bs s)[k]? = some s[k]) := hc
      clear hc
      by_cases hp : Lx.inl s[k] = true
      · go_wp2_with (go_at_call 38; refine (inLine_any _ _).mono ?_; rintro e w' ⟨rfl, rfl⟩)
        go_round
        case rel => exact ⟨k + 1, by omega, by go_num, hr.out.trans (Lx.runTo_yes HC.out hp)⟩
        case measure => simp [intOf]; omega
      · have hp' : Lx.inl s[k] = false := by simpa using hp
        clear hp
        go_wp2_with (go_at_call 38; refine (inLine_any _ _).mono ?_; rintro e w' ⟨rfl, rfl⟩)
        go_ret
        exact ⟨ret_int (by rw [hr.out, Lx.runTo_no HC.out hp']), rfl⟩
    · go_wp2
      go_ret
      exact ⟨ret_int (by rw [hr.out, Lx.runTo_end (by rw [bs_len]; omega)]), rfl⟩
set_option maxHeartbeats 800000 in
theorem pass_digit (s : ByteArray) (a : Nat) (w : World) (hs : s.size ≤ 1000000) (ha : a ≤ s.size) :
    Calls Tryd.prog 37 #[.string s, .int .i64 a, .func (.func 39) #[] #[]] w fun e w' => e = .returned (.int .i64 (Lx.runTo Lx.digit (bs s) a : Nat)) ∧ w' = w := by
  go_enter Tryd.func37, Tryd.ntmps37
  go_wp2
  go_loop [1] (fun i => ∃ k : Nat, k ≤ s.size ∧ i = .int .i64 k ∧ Hid (Lx.runTo Lx.digit (bs s) a = Lx.runTo Lx.digit (bs s) k)) (fun i => s.size - (intOf i).toNat)
  case atStart => exact ⟨a, ha, rfl, rfl⟩
  case round =>
    obtain ⟨k, hk, rfl, hr⟩ := hrel
    by_cases hlt : k < s.size
    · have hc := bs_at s k hlt
      have HC : Hid ((bs s)[k]? = some s[k]) := hc
      clear hc
      by_cases hp : Lx.digit s[k] = true
      · go_wp2_with (go_at_call 39; refine (isDigit_any _ _).mono ?_; rintro e w' ⟨rfl, rfl⟩)
        go_round
        case rel => exact ⟨k + 1, by omega, by go_num, hr.out.trans (Lx.runTo_yes HC.out hp)⟩
        case measure => simp [intOf]; omega
      · have hp' : Lx.digit s[k] = false := by simpa using hp
        clear hp
        go_wp2_with (go_at_call 39; refine (isDigit_any _ _).mono ?_; rintro e w' ⟨rfl, rfl⟩)
        go_ret
        exact ⟨ret_int (by rw [hr.out, Lx.runTo_no HC.out hp']), rfl⟩
    · go_wp2
      go_ret
      exact ⟨ret_int (by rw [hr.out, Lx.runTo_end (by rw [bs_len]; omega)]), rfl⟩
set_option maxHeartbeats 800000 in
theorem pass_word (s : ByteArray) (a : Nat) (w : World) (hs : s.size ≤ 1000000) (ha : a ≤ s.size) :
    Calls Tryd.prog 37 #[.string s, .int .i64 a, .func (.func 40) #[] #[]] w fun e w' => e = .returned (.int .i64 (Lx.runTo Lx.word (bs s) a : Nat)) ∧ w' = w := by
  go_enter Tryd.func37, Tryd.ntmps37
  go_wp2
  go_loop [1] (fun i => ∃ k : Nat, k ≤ s.size ∧ i = .int .i64 k ∧ Hid (Lx.runTo Lx.word (bs s) a = Lx.runTo Lx.word (bs s) k)) (fun i => s.size - (intOf i).toNat)
  case atStart => exact ⟨a, ha, rfl, rfl⟩
  case round =>
    obtain ⟨k, hk, rfl, hr⟩ := hrel
    by_cases hlt : k < s.size
    · have hc := bs_at s k hlt
      have HC : Hid ((bs s)[k]? = some s[k]) := hc
      clear hc
      by_cases hp : Lx.word s[k] = true
      · go_wp2_with (go_at_call 40; refine (isWord_any _ _).mono ?_; rintro e w' ⟨rfl, rfl⟩)
        go_round
        case rel => exact ⟨k + 1, by omega, by go_num, hr.out.trans (Lx.runTo_yes HC.out hp)⟩
        case measure => simp [intOf]; omega
      · have hp' : Lx.word s[k] = false := by simpa using hp
        clear hp
        go_wp2_with (go_at_call 40; refine (isWord_any _ _).mono ?_; rintro e w' ⟨rfl, rfl⟩)
        go_ret
        exact ⟨ret_int (by rw [hr.out, Lx.runTo_no HC.out hp']), rfl⟩
    · go_wp2
      go_ret
      exact ⟨ret_int (by rw [hr.out, Lx.runTo_end (by rw [bs_len]; omega)]), rfl⟩
end Go.Proofs.YtpbfmfhjgghldaaDoor
/- skip: where what is nothing ends. -/
namespace Go.Proofs.YtpbfmfhjgghldaaDoor
open Go.RowKit

set_option maxHeartbeats 1600000 in
theorem skip_any (s : ByteArray) (a : Nat) (w : World) (hs : s.size ≤ 1000000) (ha : a ≤ s.size) :
    Calls Tryd.prog 16 #[.string s, .int .i64 a] w fun e w' => e = .returned (.int .i64 (Lx.skipTo (bs s) a : Nat)) ∧ w' = w := by
  go_enter Tryd.func16, Tryd.ntmps16
  go_wp2
  go_loop [1] (fun i => ∃ k : Nat, k ≤ s.size ∧ i = .int .i64 k ∧ Hid (Lx.skipTo (bs s) a = Lx.skipTo (bs s) k)) (fun i => s.size - (intOf i).toNat)
  case atStart => exact ⟨a, ha, rfl, rfl⟩
  case round =>
    obtain ⟨k, hk, rfl, hr⟩ := hrel
    by_cases hlt : k < s.size
    · have HC : Hid ((bs s)[k]? = some s[k]) := bs_at s k hlt
      by_cases hb : Lx.blank s[k] = true
      · go_wp2_with (go_at_call 36; refine (isBlank_any s[k] _).mono ?_; rintro e w' ⟨rfl, rfl⟩)
        go_round
        case rel => exact ⟨k + 1, by omega, by go_num, hr.out.trans (Lx.skipTo_blank HC.out hb)⟩
        case measure => simp [intOf]; omega
      · have hb' : Lx.blank s[k] = false := by simpa using hb
        clear hb
        by_cases h35 : (s[k].toNat : Int) = 35
        · have HH : Hid ((bs s)[k]? = some 35) := by
            rw [Hid, HC.out]; congr 1; apply UInt8.toNat_inj.1; show _ = 35; omega
          have hle := Lx.runTo_le (p := Lx.inl) (s := bs s) (k := k) (by rw [bs_len]; omega)
          rw [bs_len] at hle
          have hgt := Lx.runTo_remark_lt HH.out
          have H35 : Hid ((s[k].toNat : Int) = 35) := h35
          clear h35
          go_wp2_with (first | (go_at_call 36; refine (isBlank_any s[k] _).mono ?_; rintro e w' ⟨rfl, rfl⟩; have h35 := H35.out) | (go_at_call 37; refine (pass_inl s k _ hs (by omega)).mono ?_; rintro e w' ⟨rfl, rfl⟩))
          go_round
          case rel => exact ⟨_, hle.2, rfl, hr.out.trans (Lx.skipTo_remark HH.out)⟩
          case measure => simp [intOf]; omega
        · have hn : s[k] ≠ 35 := fun h => h35 (by rw [h]; rfl)
          have HN : Hid (s[k] ≠ 35) := hn
          clear hn
          go_wp2_with (first | (go_at_call 36; refine (isBlank_any s[k] _).mono ?_; rintro e w' ⟨rfl, rfl⟩))
          go_ret
          exact ⟨ret_int (by rw [hr.out, Lx.skipTo_no HC.out hb' HN.out]), rfl⟩
    · go_wp2
      go_ret
      exact ⟨ret_int (by rw [hr.out, Lx.skipTo_end (by rw [bs_len]; omega)]), rfl⟩
end Go.Proofs.YtpbfmfhjgghldaaDoor
/- Two expressions in memory that are one: the law's comparison says so. -/
namespace Go.Proofs.YtpbfmfhjgghldaaDoor
open Go.RowKit Go.Sort Px

def Yes (w : World) (r : Ending) (w' : World) : Prop := r = .returned (.bool true) ∧ Below w.heap.size w w'

/-- whatever grows behind it, the comparison says yes -/
def Alike (f : Nat) (w : World) (l r : Value) : Prop := ∀ w', Below w.heap.size w w' → Calls Tryd.prog f #[l, r] w' (Yes w')

end Go.Proofs.YtpbfmfhjgghldaaDoor
/- Two lists of sets in memory that are one: the law's comparison says so. -/
namespace Go.Proofs.YtpbfmfhjgghldaaDoor
open Go.RowKit Go.Sort Px

theorem Yes.below {w : World} {r : Ending} {w' : World} (h : Yes w r w') : Below w.heap.size w w' := h.2
theorem keep_below {A : Nat → Prop} {w w' : World} (hb : Below w.heap.size w w') : Keep A A w w' := fun b ha hlt => ⟨ha, hb.block b hlt⟩
theorem Alike.up {f : Nat} {w w' : World} {l r : Value} (h : Alike f w l r) (hb : Below w.heap.size w w') : Alike f w' l r := fun w'' hb' => h w'' (hb.trans (hb'.mono hb.size))
/-- a row that is read: its cells -/
theorem Row.read {A : Nat → Prop} {w : World} {e size n : Nat} {v : Value} {xs : List Value} (h : Row A w e size v n xs) :
    ∃ ao cap, v = .slice ao n cap ∧ n ≤ cap ∧ cap ≤ maxLen ∧ (0 < n → ∃ g, ao = some ⟨g, 0, none⟩ ∧ A g ∧ g < w.heap.size ∧ ∀ (j : Nat) (u : Value), xs[j]? = some u → w.cell? ⟨g, j, none⟩ = some u) := by
  have hc := fun g hg => World.ownsRow.cells h.1 (g := g) hg
  have hl := fun g hg => World.ownsRow.lt h.1 g hg
  have hA := h.2
  rcases h.1.2 with ⟨rfl, rfl⟩ | ⟨g, cap, cur, rfl, _, _, h2, h3, _⟩
  · exact ⟨none, 0, rfl, Nat.le_refl _, Nat.zero_le _, fun h => absurd h (Nat.lt_irrefl _)⟩
  · refine ⟨_, cap, rfl, h2, h3, fun _ => ⟨g, rfl, hA g rfl, (hl g rfl).2, fun j u hj => ?_⟩⟩
    have h1 := hc g rfl j u hj
    have ad : (⟨g, 0, none⟩ : Addr).add j = ⟨g, j, none⟩ := by unfold Addr.add; split <;> simp_all
    rw [ad] at h1
    exact h1
/-- records one behind the other, that are read -/
theorem Row.recs {α : Type} {R : α → List Value → Prop} {A : Nat → Prop} {w : World} {e k : Nat} {v : Value} {l : List α} {xs : List Value} (hk : ∀ a c, R a c → c.length = k) (hr : Row A w e k v l.length xs) (hs : Rows R l xs) :
    (l = [] ∧ ∃ ao cap, v = .slice ao 0 cap) ∨ ∃ g cap, v = .slice (some ⟨g, 0, none⟩) l.length cap ∧ 0 < l.length ∧ l.length ≤ maxLen ∧ g < w.heap.size ∧ A g ∧ ∀ (i : Nat) (a : α), l[i]? = some a → ∃ c, R a c ∧ ∀ (j : Nat) (u : Value), c[j]? = some u → w.cell? ⟨g, i * k + j, none⟩ = some u := by
  obtain ⟨ao, cap, rfl, h1, h2, h3⟩ := hr.read
  cases l with
  | nil => exact .inl ⟨rfl, ao, cap, rfl⟩
  | cons x r =>
    obtain ⟨g, rfl, hA, hg, hc⟩ := h3 (by simp)
    refine .inr ⟨g, cap, rfl, by simp, by omega, hg, hA, fun i a hi => ?_⟩
    obtain ⟨c, hc', hx⟩ := Rows.get hk hs i a hi
    exact ⟨c, hc', fun j u hj => hc _ _ (hx j u hj)⟩
theorem IsSets.read {A : Nat → Prop} {w : World} {l : List Asg} {v : Value} (h : IsSets A w l v) :
    (l = [] ∧ ∃ ao cap, v = .slice ao 0 cap) ∨ ∃ g cap, v = .slice (some ⟨g, 0, none⟩) l.length cap ∧ 0 < l.length ∧ l.length ≤ maxLen ∧ g < w.heap.size ∧ A g ∧ ∀ (i : Nat) (a : Asg), l[i]? = some a → ∃ p, w.cell? ⟨g, i * 2, none⟩ = some (sv a.name) ∧ w.cell? ⟨g, i * 2 + 1, none⟩ = some p ∧ IsE A w a.e p := by
  obtain ⟨xs, hr, hs⟩ := h
  rcases Row.recs (k := 2) (fun a c ⟨p, hc, _⟩ => by rw [hc]; rfl) hr hs with h | ⟨g, cap, h1, h2, h3, h4, h5, h6⟩
  · exact .inl h
  · refine .inr ⟨g, cap, h1, h2, h3, h4, h5, fun i a hi => ?_⟩
    obtain ⟨c, ⟨p, rfl, hp⟩, hx⟩ := h6 i a hi
    exact ⟨p, hx 0 _ rfl, hx 1 _ rfl, hp⟩
end Go.Proofs.YtpbfmfhjgghldaaDoor
/- Two lists of sets in memory that are one: the law's comparison says so. -/
namespace Go.Proofs.YtpbfmfhjgghldaaDoor
open Go.RowKit Go.Sort Px

end Go.Proofs.YtpbfmfhjgghldaaDoor
/- Two states in memory that are one: the law's comparison says so. -/
namespace Go.Proofs.YtpbfmfhjgghldaaDoor
open Go.RowKit Go.Sort Px

/-- what a block holds -/
def Held (w : World) (b : Nat) (xs : Array Value) : Prop := ∀ (j : Nat) (u : Value), xs[j]? = some u → w.cell? ⟨b, j, none⟩ = some u
theorem Held.up {w w' : World} {b B : Nat} {xs : Array Value} (h : Held w b xs) (hb : Below B w w') (hlt : b < B) : Held w' b xs := fun j u hj => (hb.cell (p := ⟨b, j, none⟩) hlt).trans (h j u hj)
/-- the two parameters are laid -/
theorem two_laid (w : World) (x y : Array Value) (t : Nat) : ∃ W, W = (w.alloc (.cells x t)).alloc (.cells y t) ∧ Below w.heap.size w W ∧ W.heap.size = w.heap.size + 2 ∧ Held W w.heap.size x ∧ Held W (w.heap.size + 1) y := by
  refine ⟨_, rfl, ((Below.refl _ w).alloc (Nat.le_refl _) _).alloc (by simp) _, by simp, fun j u hj => ?_, fun j u hj => ?_⟩
  · have h0 : ((w.alloc (.cells x t)).alloc (.cells y t)).heap[w.heap.size]? = some (.cells x t (0, 0)) := by
      rw [heap_alloc_old _ _ (by simp)]; exact heap_alloc_new w _
    rw [cell_of_row _ _ _ _ _ _ h0]; exact hj
  · have h0 : ((w.alloc (.cells x t)).alloc (.cells y t)).heap[w.heap.size + 1]? = some (.cells y t (0, 0)) := by
      have := heap_alloc_new (w.alloc (.cells x t)) (.cells y t); simpa using this
    rw [cell_of_row _ _ _ _ _ _ h0]; exact hj
def WayAt (w : World) (g i : Nat) (a : Wy) (p q : Value) : Prop := Held w g #[] ∧ w.cell? ⟨g, i * 7, none⟩ = some (.int .i64 a.kind) ∧ w.cell? ⟨g, i * 7 + 1, none⟩ = some (.bool a.now) ∧ w.cell? ⟨g, i * 7 + 2, none⟩ = some p ∧ w.cell? ⟨g, i * 7 + 3, none⟩ = some (.int .i64 a.times) ∧ w.cell? ⟨g, i * 7 + 4, none⟩ = some q ∧ w.cell? ⟨g, i * 7 + 5, none⟩ = some (sv a.to) ∧ w.cell? ⟨g, i * 7 + 6, none⟩ = some (.bool a.back)

end Go.Proofs.YtpbfmfhjgghldaaDoor
/- Regions in memory that are one: the law's comparison says so. -/
namespace Go.Proofs.YtpbfmfhjgghldaaDoor
open Go.RowKit Go.Sort Px

/-- a state's cells -/
def Nine (w : World) (h k : Nat) (c0 c1 c2 c3 c4 c5 c6 c7 c8 : Value) : Prop := w.cell? ⟨h, k * 9, none⟩ = some c0 ∧ w.cell? ⟨h, k * 9 + 1, none⟩ = some c1 ∧ w.cell? ⟨h, k * 9 + 2, none⟩ = some c2 ∧ w.cell? ⟨h, k * 9 + 3, none⟩ = some c3 ∧ w.cell? ⟨h, k * 9 + 4, none⟩ = some c4 ∧ w.cell? ⟨h, k * 9 + 5, none⟩ = some c5 ∧ w.cell? ⟨h, k * 9 + 6, none⟩ = some c6 ∧ w.cell? ⟨h, k * 9 + 7, none⟩ = some c7 ∧ w.cell? ⟨h, k * 9 + 8, none⟩ = some c8
end Go.Proofs.YtpbfmfhjgghldaaDoor
/- Charts in memory that are one: the law's comparison says so. -/
namespace Go.Proofs.YtpbfmfhjgghldaaDoor
open Go.RowKit Go.Sort Px

end Go.Proofs.YtpbfmfhjgghldaaDoor
/- Two charts in memory that are one: the law's comparison says so. -/
namespace Go.Proofs.YtpbfmfhjgghldaaDoor
open Go.RowKit Go.Sort Px

theorem Row.recs' {α : Type} {R : α → List Value → Prop} {A : Nat → Prop} {w : World} {e k : Nat} {v : Value} {l : List α} {xs : List Value} (hk : ∀ a c, R a c → c.length = k) (hr : Row A w e k v l.length xs) (hs : Rows R l xs) :
    ∃ ao cap g, v = .slice ao l.length cap ∧ l.length ≤ maxLen ∧ ∀ (i : Nat) (a : α), l[i]? = some a → ao = some ⟨g, 0, none⟩ ∧ g < w.heap.size ∧ ∃ c, R a c ∧ ∀ (j : Nat) (u : Value), c[j]? = some u → w.cell? ⟨g, i * k + j, none⟩ = some u := by
  rcases Row.recs hk hr hs with ⟨rfl, ao, cap, rfl⟩ | ⟨g, cap, rfl, h2, h3, h4, h5, h6⟩
  · exact ⟨ao, cap, 0, rfl, Nat.zero_le _, fun i a hi => absurd hi (by simp)⟩
  · exact ⟨_, cap, g, rfl, h3, fun i a hi => ⟨rfl, h4, h6 i a hi⟩⟩
theorem IsE.pt {A : Nat → Prop} {w : World} {e : E} {v : Value} (h : IsE A w e v) : ∃ u, v = .pointer u := by
  cases e with
  | nil => exact ⟨none, h⟩
  | node _ _ _ _ _ => obtain ⟨g, _, _, rfl, _⟩ := h; exact ⟨_, rfl⟩
theorem IsSets.sl {A : Nat → Prop} {w : World} {l : List Asg} {v : Value} (h : IsSets A w l v) : ∃ a n c, v = .slice a n c := by
  obtain ⟨xs, hr, hs⟩ := h
  obtain ⟨ao, cap, rfl, _⟩ := hr.read
  exact ⟨_, _, _, rfl⟩
theorem IsWays.read {A : Nat → Prop} {w : World} {l : List Wy} {v : Value} (h : IsWays A w l v) :
    ∃ ao cap g, v = .slice ao l.length cap ∧ l.length ≤ maxLen ∧ ∀ (i : Nat) (a : Wy), l[i]? = some a → ao = some ⟨g, 0, none⟩ ∧ g < w.heap.size ∧ ∃ p q n c, WayAt w g i a (.pointer p) (.slice q n c) ∧ IsE A w a.cond (.pointer p) ∧ IsSets A w a.sets (.slice q n c) := by
  obtain ⟨xs, hr, hs⟩ := h
  obtain ⟨ao, cap, g, h1, h2, h3⟩ := Row.recs' (k := 7) (fun a c ⟨p, q, hc, _⟩ => by rw [hc]; rfl) hr hs
  refine ⟨ao, cap, g, h1, h2, fun i a hi => ?_⟩
  obtain ⟨h4, h5, c, ⟨p, q, rfl, hp, hq⟩, hx⟩ := h3 i a hi
  obtain ⟨u, rfl⟩ := hp.pt
  obtain ⟨qa, qn, qc, rfl⟩ := hq.sl
  exact ⟨h4, h5, u, qa, qn, qc, ⟨fun j u hj => absurd hj (by simp), hx 0 _ rfl, hx 1 _ rfl, hx 2 _ rfl, hx 3 _ rfl, hx 4 _ rfl, hx 5 _ rfl, hx 6 _ rfl⟩, hp, hq⟩

theorem IsVars.read {A : Nat → Prop} {w : World} {l : List Decl} {v : Value} (h : IsVars A w l v) :
    ∃ ao cap g, v = .slice ao l.length cap ∧ l.length ≤ maxLen ∧ ∀ (i : Nat) (a : Decl), l[i]? = some a → ao = some ⟨g, 0, none⟩ ∧ g < w.heap.size ∧ w.cell? ⟨g, i * 3, none⟩ = some (.int .i64 a.kind) ∧ w.cell? ⟨g, i * 3 + 1, none⟩ = some (sv a.name) ∧ w.cell? ⟨g, i * 3 + 2, none⟩ = some (.int .i64 a.first) := by
  obtain ⟨xs, hr, hs⟩ := h
  obtain ⟨ao, cap, g, h1, h2, h3⟩ := Row.recs' (k := 3) (fun a c (hc : c = _) => by rw [hc]; rfl) hr hs
  refine ⟨ao, cap, g, h1, h2, fun i a hi => ?_⟩
  obtain ⟨h4, h5, c, hc, hx⟩ := h3 i a hi
  replace hc : c = [.int .i64 a.kind, sv a.name, .int .i64 a.first] := hc
  subst hc
  exact ⟨h4, h5, hx 0 _ rfl, hx 1 _ rfl, hx 2 _ rfl⟩
end Go.Proofs.YtpbfmfhjgghldaaDoor
/- The library's contracts (strings.HasPrefix, Clone) at this program: laid, no walk. -/
namespace Go.Proofs
open Go.Shelf
def Tryd.laysM316_ren : Go.Shelf.Ren := ⟨fun | 316 => 42 | n => n, fun | 9 => 9 | 3 => 3 | 4 => 4 | 37 => 44 | 0 => 0 | 127 => 90 | 5 => 5 | n => n, fun | n => n⟩
theorem Tryd.laysM316 : Go.Proofs.LaysM.n316 Tryd.prog Tryd.laysM316_ren := {
  mixed := by kernel_rfl
  f316 := Tryd.func42.trans (congrArg some (by kernel_rfl))
  t0 := Tryd.underlying0
  a0 := Tryd.isAgg0
  z0 := Tryd.sizeOf0
  v0 := Tryd.zeroValue0
  t3 := Tryd.underlying3
  a3 := Tryd.isAgg3
  z3 := Tryd.sizeOf3
  v3 := Tryd.zeroValue3
  t4 := Tryd.underlying4
  a4 := Tryd.isAgg4
  z4 := Tryd.sizeOf4
  v4 := Tryd.zeroValue4
  t9 := Tryd.underlying9
  a9 := Tryd.isAgg9
  z9 := Tryd.sizeOf9
  v9 := Tryd.zeroValue9
  t37 := Tryd.underlying44
  a37 := Tryd.isAgg44
  z37 := Tryd.sizeOf44
  v37 := Tryd.zeroValue44
  t127 := Tryd.underlying90
  a127 := Tryd.isAgg90
  z127 := Tryd.sizeOf90
  v127 := Tryd.zeroValue90
  t5 := Tryd.underlying5
  a5 := Tryd.isAgg5
  z5 := Tryd.sizeOf5
  v5 := Tryd.zeroValue5
  i0 := by kernel_rfl
  i3 := by kernel_rfl
  i4 := by kernel_rfl
  i5 := by kernel_rfl
  i9 := by kernel_rfl
  i37 := by kernel_rfl
  i127 := by kernel_rfl }
open Go.RowKit in
theorem Tryd.stringslite_Clone (s : ByteArray) (w : World) (hlim : s.size ≤ 281474976710656) :
    Calls Tryd.prog 42 #[.string s] w fun e w' => e = .returned (.string s) ∧ Below w.heap.size w w' := Any.stringslite_Clone Tryd.laysM316 s w hlim
def Tryd.lays99_ren : Go.Shelf.Ren := ⟨fun | 99 => 41 | 206 => 51 | n => n, fun | 9 => 9 | 4 => 4 | 3 => 3 | n => n, fun | n => n⟩
theorem Tryd.lays99 : Go.Proofs.Lays.n99 Tryd.prog Tryd.lays99_ren := {
  mixed := by kernel_rfl
  f99 := Tryd.func41.trans (congrArg some (by kernel_rfl))
  f206 := Tryd.func51.trans (congrArg some (by kernel_rfl))
  t3 := Tryd.underlying3
  a3 := Tryd.isAgg3
  z3 := Tryd.sizeOf3
  v3 := Tryd.zeroValue3
  t4 := Tryd.underlying4
  a4 := Tryd.isAgg4
  z4 := Tryd.sizeOf4
  v4 := Tryd.zeroValue4
  t9 := Tryd.underlying9
  a9 := Tryd.isAgg9
  z9 := Tryd.sizeOf9
  v9 := Tryd.zeroValue9 }
open Go.RowKit Go.Lib in
theorem Tryd.strings_HasPrefix (s p : ByteArray) (w : World) :
    Calls Tryd.prog 41 #[.string s, .string p] w fun e w' => e = .returned (.bool (Lib.hasPrefix s.data.toList p.data.toList)) ∧ w' = w := Any.strings_HasPrefix Tryd.lays99 s p w
end Go.Proofs
/- read: the token that begins at a place. -/
namespace Go.Proofs.YtpbfmfhjgghldaaDoor
open Go.RowKit

def markS (m : List UInt8) : Value := .string ⟨m.toArray⟩
/-- the marks lie where the program laid them -/
def Marks (w : World) : Prop := ∀ i, i < 21 → w.cell? ⟨0, i, none⟩ = some (markS (Lx.marks.getD i []))

set_option maxRecDepth 100000 in
set_option maxHeartbeats 800000 in
theorem fault_any (kind len n : Nat) (w : World) (h1 : kind ≤ 3) (h2 : len ≤ 1000000) (h3 : n ≤ 600) :
    Calls Tryd.prog 18 #[.int .i64 kind, .int .i64 len, .int .i64 n] w fun e w' => e = .returned (.int .i64 (Lx.flt kind len n : Nat)) ∧ w' = w := by
  by_cases h : kind = 0
  · subst h
    go_enter Tryd.func18, Tryd.ntmps18
    go_wp2
    go_ret
    exact ⟨rfl, rfl⟩
  · have hk : ((kind : Int) == 0) = false := by simp; omega
    have hk' : ¬ (kind : Int) = 0 := by omega
    by_cases h4 : kind = 2
    · subst h4
      by_cases h5 : 18 < len
      · go_enter Tryd.func18, Tryd.ntmps18
        go_wp2
        go_ret
        exact ⟨ret_int (by rw [Lx.flt, if_neg (by decide), if_pos ⟨rfl, h5⟩]; rfl), rfl⟩
      · by_cases h6 : 600 ≤ n
        all_goals
          go_enter Tryd.func18, Tryd.ntmps18
          go_wp2
          go_ret
          exact ⟨ret_int (by rw [Lx.flt, if_neg (by decide), if_neg (fun h => h5 h.2)]; first | (rw [if_pos h6]; rfl) | (rw [if_neg h6]; rfl)), rfl⟩
    · have h4' : ((kind : Int) == 2) = false := by simp; omega
      have h4'' : ¬ (kind : Int) = 2 := by omega
      by_cases h6 : 600 ≤ n
      all_goals
        go_enter Tryd.func18, Tryd.ntmps18
        go_wp2
        go_ret
        exact ⟨ret_int (by rw [Lx.flt, if_neg h, if_neg (fun h => h4 h.1)]; first | (rw [if_pos h6]; rfl) | (rw [if_neg h6]; rfl)), rfl⟩

/-- the marks, as an array's cells -/
def MV : Array Value := (Lx.marks.map markS).toArray
theorem MV_size : MV.size = 21 := by decide
theorem load_marks {w : World} (hm : Marks w) : (loadVar 83 ⟨0, 0, none⟩).run Tryd.prog w = .ok (.agg MV) w := by
  have hl := run_loadCells_list (P := Tryd.prog) w ⟨0, 0, none⟩ (Lx.marks.map markS) (fun j v hv => by
    have hadd : (⟨0, 0, none⟩ : Addr).add j = ⟨0, j, none⟩ := by unfold Addr.add; split <;> simp_all
    have hj : j < 21 := by
      have := (List.getElem?_eq_some_iff.1 hv).1; simpa [Lx.marks] using this
    rw [hadd, hm j hj, ← hv]
    simp [List.getD, Lx.marks.getElem?_eq_getElem (show j < Lx.marks.length from hj)])
  have hagg : (isAgg 83).run Tryd.prog w = .ok true w := by kernel_rfl
  have hsz : (sizeOf 83).run Tryd.prog w = .ok 21 w := by kernel_rfl
  have hl' : (loadCells ⟨0, 0, none⟩ 21).run Tryd.prog w = .ok (Lx.marks.map markS).toArray w := hl
  unfold loadVar
  rw [Sem.run_bind, hagg]
  simp only [Result.andThen, if_true, Sem.run_bind, hsz, hl']
  rfl
theorem ix0 (w : World) : (Instr.index 83 (.agg MV) (.int .i64 0)).run Tryd.prog w = .ok (markS (Lx.marks.getD 0 [])) w := by kernel_rfl
theorem ix1 (w : World) : (Instr.index 83 (.agg MV) (.int .i64 1)).run Tryd.prog w = .ok (markS (Lx.marks.getD 1 [])) w := by kernel_rfl
theorem ix2 (w : World) : (Instr.index 83 (.agg MV) (.int .i64 2)).run Tryd.prog w = .ok (markS (Lx.marks.getD 2 [])) w := by kernel_rfl
theorem ix3 (w : World) : (Instr.index 83 (.agg MV) (.int .i64 3)).run Tryd.prog w = .ok (markS (Lx.marks.getD 3 [])) w := by kernel_rfl
theorem ix4 (w : World) : (Instr.index 83 (.agg MV) (.int .i64 4)).run Tryd.prog w = .ok (markS (Lx.marks.getD 4 [])) w := by kernel_rfl
theorem ix5 (w : World) : (Instr.index 83 (.agg MV) (.int .i64 5)).run Tryd.prog w = .ok (markS (Lx.marks.getD 5 [])) w := by kernel_rfl
theorem ix6 (w : World) : (Instr.index 83 (.agg MV) (.int .i64 6)).run Tryd.prog w = .ok (markS (Lx.marks.getD 6 [])) w := by kernel_rfl
theorem ix7 (w : World) : (Instr.index 83 (.agg MV) (.int .i64 7)).run Tryd.prog w = .ok (markS (Lx.marks.getD 7 [])) w := by kernel_rfl
theorem ix8 (w : World) : (Instr.index 83 (.agg MV) (.int .i64 8)).run Tryd.prog w = .ok (markS (Lx.marks.getD 8 [])) w := by kernel_rfl
theorem ix9 (w : World) : (Instr.index 83 (.agg MV) (.int .i64 9)).run Tryd.prog w = .ok (markS (Lx.marks.getD 9 [])) w := by kernel_rfl
theorem ix10 (w : World) : (Instr.index 83 (.agg MV) (.int .i64 10)).run Tryd.prog w = .ok (markS (Lx.marks.getD 10 [])) w := by kernel_rfl
theorem ix11 (w : World) : (Instr.index 83 (.agg MV) (.int .i64 11)).run Tryd.prog w = .ok (markS (Lx.marks.getD 11 [])) w := by kernel_rfl
theorem ix12 (w : World) : (Instr.index 83 (.agg MV) (.int .i64 12)).run Tryd.prog w = .ok (markS (Lx.marks.getD 12 [])) w := by kernel_rfl
theorem ix13 (w : World) : (Instr.index 83 (.agg MV) (.int .i64 13)).run Tryd.prog w = .ok (markS (Lx.marks.getD 13 [])) w := by kernel_rfl
theorem ix14 (w : World) : (Instr.index 83 (.agg MV) (.int .i64 14)).run Tryd.prog w = .ok (markS (Lx.marks.getD 14 [])) w := by kernel_rfl
theorem ix15 (w : World) : (Instr.index 83 (.agg MV) (.int .i64 15)).run Tryd.prog w = .ok (markS (Lx.marks.getD 15 [])) w := by kernel_rfl
theorem ix16 (w : World) : (Instr.index 83 (.agg MV) (.int .i64 16)).run Tryd.prog w = .ok (markS (Lx.marks.getD 16 [])) w := by kernel_rfl
theorem ix17 (w : World) : (Instr.index 83 (.agg MV) (.int .i64 17)).run Tryd.prog w = .ok (markS (Lx.marks.getD 17 [])) w := by kernel_rfl
theorem ix18 (w : World) : (Instr.index 83 (.agg MV) (.int .i64 18)).run Tryd.prog w = .ok (markS (Lx.marks.getD 18 [])) w := by kernel_rfl
theorem ix19 (w : World) : (Instr.index 83 (.agg MV) (.int .i64 19)).run Tryd.prog w = .ok (markS (Lx.marks.getD 19 [])) w := by kernel_rfl
theorem ix20 (w : World) : (Instr.index 83 (.agg MV) (.int .i64 20)).run Tryd.prog w = .ok (markS (Lx.marks.getD 20 [])) w := by kernel_rfl
theorem index_marks (k : Nat) (hk : k < 21) (w : World) : (Instr.index 83 (.agg MV) (.int .i64 k)).run Tryd.prog w = .ok (markS (Lx.marks.getD k [])) w := by
  match k, hk with
  | 0, _ => exact ix0 w
  | 1, _ => exact ix1 w
  | 2, _ => exact ix2 w
  | 3, _ => exact ix3 w
  | 4, _ => exact ix4 w
  | 5, _ => exact ix5 w
  | 6, _ => exact ix6 w
  | 7, _ => exact ix7 w
  | 8, _ => exact ix8 w
  | 9, _ => exact ix9 w
  | 10, _ => exact ix10 w
  | 11, _ => exact ix11 w
  | 12, _ => exact ix12 w
  | 13, _ => exact ix13 w
  | 14, _ => exact ix14 w
  | 15, _ => exact ix15 w
  | 16, _ => exact ix16 w
  | 17, _ => exact ix17 w
  | 18, _ => exact ix18 w
  | 19, _ => exact ix19 w
  | 20, _ => exact ix20 w
  | k + 21, h => omega

theorem bs_extract (s : ByteArray) (a b : Nat) : bs (s.extract a b) = ((bs s).drop a).take (b - a) := by
  show (s.extract a b).data.toList = _
  rw [ByteArray.data_extract, Array.toList_extract]
theorem bs_from (s : ByteArray) (a : Nat) : bs (s.extract a s.size) = (bs s).drop a := by
  rw [bs_extract s a _, List.take_of_length_le (by simp)]
theorem hasPrefix_at (s mb : ByteArray) (a : Nat) (b : Bool) (w : World) (h : (bs mb).isPrefixOf ((bs s).drop a) = b) :
    Calls Tryd.prog 41 #[.string (s.extract a s.size), .string mb] w fun e w' => e = .returned (.bool b) ∧ w' = w := by
  refine (Tryd.strings_HasPrefix (s.extract a s.size) mb w).mono ?_
  rintro e w' ⟨rfl, rfl⟩
  exact ⟨by rw [← h, ← bs_from]; rfl, rfl⟩
theorem marks_drop (k : Nat) (h : k < 21) : Lx.marks.drop k = Lx.marks.getD k [] :: Lx.marks.drop (k + 1) := by
  have hl : k < Lx.marks.length := h
  rw [List.drop_eq_getElem_cons hl, List.getD_eq_getElem?_getD, List.getElem?_eq_getElem hl]; rfl
theorem marks_pos (k : Nat) (h : k < 21) : 0 < (Lx.marks.getD k []).length := by
  have : ∀ k : Fin 21, 0 < (Lx.marks.getD k.val []).length := by decide
  exact this ⟨k, h⟩
theorem rd_mark (u : List UInt8) (c : UInt8) (hc : u.head? = some c) (hd : Lx.digit c = false) (hw : Lx.word c = false) : Lx.rd u = if Lx.mk u = 0 then (0, 0) else (3, Lx.mk u) := by
  cases u with
  | nil => simp at hc
  | cons x r => simp at hc; subst hc; rw [Lx.rd_cons, hd, hw]; rfl
theorem drop_head (s : ByteArray) (a : Nat) (h : a < s.size) : ((bs s).drop a).head? = some s[a] := by
  rw [List.head?_drop]; exact bs_at s a h
/-- a load whose answer is known -/
theorem wpList_load_eq {ops : Array Oper} {rest : List Oper} {o : Oper} {a : Act} {w : World} {Q : Exit → Act → World → Prop} (hgd : o.guard = none) (ty : TypeId) (x : Operand) (ho : o.op = .load ty x)
    (ad : Addr) (hx : a.eval x = .pointer (some ad)) (v : Value) (hl : (loadVar ty ad).run Tryd.prog w = .ok v w) (h : wpList Tryd.prog ops Q rest (a.put o.dst v) w) : wpList Tryd.prog ops Q (o :: rest) a w :=
  wpList_plain hgd fun K hK => by
    unfold Oper.wp execOp
    simp only [ho, hx, Instr.loadAt, Instr.sureAddr, Sem.run_bind, Sem.run_pure, Result.andThen_ok, hl]
    exact hK _ _ h

set_option maxRecDepth 100000 in
set_option maxHeartbeats 1600000 in
theorem read_mark (s : ByteArray) (a : Nat) (w : World) (hs : s.size ≤ 1000000) (ha : a < s.size) (hm : Marks w) (hd : Lx.digit s[a] = false) (hw : Lx.word s[a] = false) :
    Calls Tryd.prog 17 #[.string s, .int .i64 a] w fun e w' => e = .returned (.tuple #[.int .i64 (Lx.rd ((bs s).drop a)).1, .int .i64 ((a + (Lx.rd ((bs s).drop a)).2 : Nat) : Int)]) ∧ w' = w := by
  have hl := load_marks hm
  clear hm
  go_enter Tryd.func17, Tryd.ntmps17
  go_wp2_with (first | (refine wpList_load_eq rfl 83 (.global 0) rfl ⟨0, 0, none⟩ rfl (.agg MV) hl ?_; clear hl) | (go_at_call 39; refine (isDigit_any s[a] _).mono ?_; rintro e w' ⟨rfl, rfl⟩) | (go_at_call 40; refine (isWord_any s[a] _).mono ?_; rintro e w' ⟨rfl, rfl⟩))
  go_loop [25] (fun i => ∃ k : Nat, k ≤ 21 ∧ i = .int .i64 k ∧ Hid (Lx.mk ((bs s).drop a) = Lx.markIn (Lx.marks.drop k) ((bs s).drop a))) (fun i => 21 - (intOf i).toNat)
  case atStart => exact ⟨0, by omega, rfl, rfl⟩
  case round =>
    obtain ⟨k, hk, rfl, hr⟩ := hrel
    by_cases hlt : k < 21
    · obtain ⟨mb, hmb⟩ : ∃ mb : ByteArray, mb = ⟨(Lx.marks.getD k []).toArray⟩ := ⟨_, rfl⟩
      have hix : ∀ w, (Instr.index 83 (.agg MV) (.int .i64 k)).run Tryd.prog w = .ok (.string mb) w := by
        intro w; rw [hmb]; exact index_marks k hlt w
      have HMB : Hid (bs mb = Lx.marks.getD k []) := by
        show _ = _; rw [hmb]
      clear hmb
      have hpos := marks_pos k hlt
      have hlen : mb.size = (Lx.marks.getD k []).length := by rw [← HMB.out]; exact (bs_len mb).symm
      have hd2 := marks_drop k hlt
      have hrd := rd_mark _ _ (drop_head s a ha) hd hw
      by_cases hp : (bs mb).isPrefixOf ((bs s).drop a) = true
      · have hmk : Lx.mk ((bs s).drop a) = mb.size := by
          rw [hr.out, hd2, Lx.markIn, ← HMB.out, if_pos hp, bs_len]
        have hle : mb.size ≤ s.size - a := by
          have := (List.isPrefixOf_iff_prefix.1 hp).length_le; rw [bs_len, List.length_drop, bs_len] at this; exact this
        have H : Hid (Lx.rd ((bs s).drop a) = (3, mb.size)) := by
          show _ = _; rw [hrd, hmk, if_neg (by omega)]
        clear hrd hmk hd2 hpos hlen
        go_wp2_with (go_at_call 41; refine (hasPrefix_at s mb a true _ hp).mono ?_; rintro e w' ⟨rfl, rfl⟩)
        go_ret2
        exact ⟨by rw [H.out]; simp, rfl⟩
      · have hp' : (bs mb).isPrefixOf ((bs s).drop a) = false := Bool.eq_false_iff.2 hp
        have H : Hid (Lx.mk ((bs s).drop a) = Lx.markIn (Lx.marks.drop (k + 1)) ((bs s).drop a)) := by
          show _ = _; rw [hr.out, hd2, Lx.markIn, ← HMB.out, hp']; rfl
        clear hrd hd2 hpos hlen hp
        go_wp2_with (go_at_call 41; refine (hasPrefix_at s mb a false _ hp').mono ?_; rintro e w' ⟨rfl, rfl⟩)
        go_round
        case rel => exact ⟨k + 1, by omega, by go_num, H⟩
        case measure => simp [intOf]; omega
    · have hk21 : k = 21 := by omega
      subst hk21
      have hrd := rd_mark _ _ (drop_head s a ha) hd hw
      have H : Hid (Lx.rd ((bs s).drop a) = (0, 0)) := by
        show _ = _; rw [hrd, hr.out]; rfl
      clear hrd
      go_wp2
      go_ret2
      exact ⟨by rw [H.out]; simp, rfl⟩

set_option maxRecDepth 100000 in
set_option maxHeartbeats 1600000 in
theorem read_any (s : ByteArray) (a : Nat) (w : World) (hs : s.size ≤ 1000000) (ha : a < s.size) (hm : Marks w) :
    Calls Tryd.prog 17 #[.string s, .int .i64 a] w fun e w' => e = .returned (.tuple #[.int .i64 (Lx.rd ((bs s).drop a)).1, .int .i64 ((a + (Lx.rd ((bs s).drop a)).2 : Nat) : Int)]) ∧ w' = w := by
  have hc : (bs s).drop a = s[a] :: (bs s).drop (a + 1) := by
    rw [List.drop_eq_getElem_cons (by rw [bs_len]; exact ha)]; rfl
  by_cases hd : Lx.digit s[a] = true
  · have H : Hid (Lx.rd ((bs s).drop a) = (2, Lx.wh Lx.digit ((bs s).drop a))) := by
      show _ = _; rw [hc, Lx.rd_cons, if_pos hd]
    clear hc
    go_enter Tryd.func17, Tryd.ntmps17
    go_wp2_with (first | (go_at_call 39; refine (isDigit_any s[a] _).mono ?_; rintro e w' ⟨rfl, rfl⟩) | (go_at_call 37; refine (pass_digit s a _ hs (by omega)).mono ?_; rintro e w' ⟨rfl, rfl⟩))
    go_ret2
    exact ⟨by rw [H.out]; rfl, rfl⟩
  · have hd' : Lx.digit s[a] = false := by simpa using hd
    by_cases hw : Lx.word s[a] = true
    · have H : Hid (Lx.rd ((bs s).drop a) = (1, Lx.wh Lx.word ((bs s).drop a))) := by
        show _ = _; rw [hc, Lx.rd_cons, if_neg hd, if_pos hw]
      clear hc hd
      go_enter Tryd.func17, Tryd.ntmps17
      go_wp2_with (first | (go_at_call 39; refine (isDigit_any s[a] _).mono ?_; rintro e w' ⟨rfl, rfl⟩) | (go_at_call 40; refine (isWord_any s[a] _).mono ?_; rintro e w' ⟨rfl, rfl⟩) | (go_at_call 37; refine (pass_word s a _ hs (by omega)).mono ?_; rintro e w' ⟨rfl, rfl⟩))
      go_ret2
      exact ⟨by rw [H.out]; rfl, rfl⟩
    · exact read_mark s a w hs ha hm hd' (by simpa using hw)
end Go.Proofs.YtpbfmfhjgghldaaDoor
