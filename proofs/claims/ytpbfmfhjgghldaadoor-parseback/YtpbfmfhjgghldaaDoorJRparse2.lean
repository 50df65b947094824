/- the document's own answer: how long the mark is that stands first. -/
import Derived.Test.YtpbfmfhjgghldaaDoorJRsets
import Derived.Deep.CutRange
import Derived.Deep.LoopGhost
import Derived.Deep.RegionHeld3
import Derived.Laws.CopyOwn
import Derived.Deep.AppendLies
import Derived.LaidEql
import Derived.Stop.Asserts
import Derived.RowKitTokens
import Derived.Deep.QuietTactic
import Derived.BigQuiet
import Derived.Test.YtpbfmfhjgghldaaDoorJPrd
import Derived.Test.YtpbfmfhjgghldaaDoorJPregion2
import Derived.Test.YtpbfmfhjgghldaaDoorJPchart2
import Derived.Test.YtpbfmfhjgghldaaDoorJPcatch
import Derived.Test.YtpbfmfhjgghldaaDoorJRead
import Derived.Deep.DeepCutAuto
import Derived.Deep.CutBlock
namespace Go.Proofs.YtpbfmfhjgghldaaDoor
open Go.RowKit

/-- by lengths, the longest first -/
def byLen : Nat → List UInt8 → Nat
  | 0, _ => 0
  | n + 1, u => if u.length < n + 1 then byLen n u else if Lx.marks.contains (u.take (n + 1)) then n + 1 else byLen n u

theorem prefix_take (m u : List UInt8) (n : Nat) (hn : m.length = n) : m.isPrefixOf u = (decide (n ≤ u.length) && (u.take n == m)) := by
  rw [Bool.eq_iff_iff]
  simp only [List.isPrefixOf_iff_prefix, Bool.and_eq_true, decide_eq_true_eq, beq_iff_eq]
  constructor
  · intro h; refine ⟨hn ▸ h.length_le, ?_⟩; rw [← hn]; exact (List.prefix_iff_eq_take.1 h).symm
  · rintro ⟨_, h2⟩; rw [← h2]; exact List.take_prefix n u

theorem markIn_same (M : List (List UInt8)) (n : Nat) (h : ∀ m ∈ M, m.length = n) (R : List (List UInt8)) (u : List UInt8) :
    Lx.markIn (M ++ R) u = if decide (n ≤ u.length) && M.contains (u.take n) then n else Lx.markIn R u := by
  induction M with
  | nil => simp
  | cons m r ih =>
    have hm := h m (by simp)
    rw [List.cons_append, Lx.markIn, prefix_take m u n hm, ih (fun x hx => h x (by simp [hx])), hm]
    by_cases h1 : n ≤ u.length
    · by_cases h2 : u.take n = m
      · simp [h1, h2]
      · simp only [h1, decide_true, Bool.true_and, beq_iff_eq, h2, if_false, List.contains_cons]
        have h3 : (List.take n u == m) = false := by simpa using h2
        rw [h3, Bool.false_or]
    · simp [h1]

theorem contains_len (A B : List (List UInt8)) (x : List UInt8) (h : ∀ m ∈ A, m.length ≠ x.length) : (A ++ B).contains x = B.contains x := by
  rw [Bool.eq_iff_iff]
  simp only [List.contains_iff_mem, List.mem_append]
  constructor
  · rintro (h1 | h1)
    · exact absurd rfl (h x h1)
    · exact h1
  · exact .inr

theorem mk_byLen (u : List UInt8) : Lx.mk u = byLen 3 u := by
  have e : Lx.marks = [[45, 45, 62]] ++ ([[58, 61], [61, 61], [33, 61], [60, 61], [38, 38], [124, 124]] ++ ([[60], [43], [45], [42], [47], [37], [33], [40], [41], [123], [125], [59], [58], [44]] ++ [])) := rfl
  unfold Lx.mk
  rw [e, markIn_same _ 3 (by decide), markIn_same _ 2 (by decide), markIn_same _ 1 (by decide)]
  simp only [byLen, Lx.markIn]
  have c3 : 3 ≤ u.length → Lx.marks.contains (u.take 3) = [[45, 45, 62]].contains (u.take 3) := by
    intro h
    have hl : (u.take 3).length = 3 := by rw [List.length_take]; omega
    rw [Bool.eq_iff_iff]; simp only [List.contains_iff_mem, Lx.marks, List.mem_cons, List.not_mem_nil, or_false]
    constructor
    · rintro (h | h | h | h | h | h | h | h | h | h | h | h | h | h | h | h | h | h | h | h | h) <;> first | exact h | (rw [h] at hl; simp at hl)
    · exact .inl
  have c2 : 2 ≤ u.length → Lx.marks.contains (u.take 2) = [[58, 61], [61, 61], [33, 61], [60, 61], [38, 38], [124, 124]].contains (u.take 2) := by
    intro h
    have hl : (u.take 2).length = 2 := by rw [List.length_take]; omega
    rw [Bool.eq_iff_iff]; simp only [List.contains_iff_mem, Lx.marks, List.mem_cons, List.not_mem_nil, or_false]
    constructor
    · rintro (h | h | h | h | h | h | h | h | h | h | h | h | h | h | h | h | h | h | h | h | h) <;> first | (simp [h]; done) | (rw [h] at hl; simp at hl)
    · rintro (h | h | h | h | h | h) <;> simp [h]
  have c1 : 1 ≤ u.length → Lx.marks.contains (u.take 1) = [[60], [43], [45], [42], [47], [37], [33], [40], [41], [123], [125], [59], [58], [44]].contains (u.take 1) := by
    intro h
    have hl : (u.take 1).length = 1 := by rw [List.length_take]; omega
    rw [Bool.eq_iff_iff]; simp only [List.contains_iff_mem, Lx.marks, List.mem_cons, List.not_mem_nil, or_false]
    constructor
    · rintro (h | h | h | h | h | h | h | h | h | h | h | h | h | h | h | h | h | h | h | h | h) <;> first | (simp [h]; done) | (rw [h] at hl; simp at hl)
    · rintro (h | h | h | h | h | h | h | h | h | h | h | h | h | h) <;> simp [h]
  by_cases h3 : 3 ≤ u.length
  · rw [c3 h3, c2 (by omega), c1 (by omega)]
    simp [h3, show 2 ≤ u.length by omega, show 1 ≤ u.length by omega, show ¬ u.length < 3 by omega, show ¬ u.length < 2 by omega, show ¬ u.length < 1 by omega]
  · by_cases h2 : 2 ≤ u.length
    · rw [c2 h2, c1 (by omega)]
      simp [h3, h2, show 1 ≤ u.length by omega, show u.length < 3 by omega, show ¬ u.length < 2 by omega, show ¬ u.length < 1 by omega]
    · by_cases h1 : 1 ≤ u.length
      · rw [c1 h1]
        simp [h3, h2, h1, show u.length < 3 by omega, show u.length < 2 by omega, show ¬ u.length < 1 by omega]
      · simp [h3, h2, h1, show u.length < 3 by omega, show u.length < 2 by omega, show u.length < 1 by omega]
end Go.Proofs.YtpbfmfhjgghldaaDoor
/- the document's own answer, mark: its walk. -/
namespace Go.Proofs.YtpbfmfhjgghldaaDoor
open Go.RowKit

theorem byLen_pos (n : Nat) (u : List UInt8) (h : 0 < n) : byLen n u = if u.length < n then byLen (n - 1) u else if Lx.marks.contains (u.take n) then n else byLen (n - 1) u := by
  obtain ⟨m, rfl⟩ : ∃ m, n = m + 1 := ⟨n - 1, by omega⟩
  rfl
theorem lits_at (k : Nat) (hk : k < 21) : ∃ mb : ByteArray, Hid (bs mb = Lx.marks.getD k []) ∧ ∀ w : World, (Instr.index 83 (.agg #[.string ⟨#[45, 45, 62]⟩, .string ⟨#[58, 61]⟩, .string ⟨#[61, 61]⟩, .string ⟨#[33, 61]⟩, .string ⟨#[60, 61]⟩, .string ⟨#[38, 38]⟩, .string ⟨#[124, 124]⟩, .string ⟨#[60]⟩, .string ⟨#[43]⟩, .string ⟨#[45]⟩, .string ⟨#[42]⟩, .string ⟨#[47]⟩, .string ⟨#[37]⟩, .string ⟨#[33]⟩, .string ⟨#[40]⟩, .string ⟨#[41]⟩, .string ⟨#[123]⟩, .string ⟨#[125]⟩, .string ⟨#[59]⟩, .string ⟨#[58]⟩, .string ⟨#[44]⟩]) (.int .i64 k)).run Tryd.prog w = .ok (.string mb) w :=
  ⟨⟨(Lx.marks.getD k []).toArray⟩, rfl, fun w => index_marks k hk w⟩

theorem cut_eq (s mb : ByteArray) (n : Nat) : ((s.extract 0 n).toList == mb.toList) = decide (bs mb = (bs s).take n) := by
  rw [ByteArray.toList_eq, ByteArray.toList_eq, Bool.eq_iff_iff]
  simp only [beq_iff_eq, decide_eq_true_eq]
  have h := bs_extract s 0 n
  rw [List.drop_zero, Nat.sub_zero] at h
  constructor
  · intro h2; rw [← h]; exact h2.symm
  · intro h2; rw [← h] at h2; exact h2.symm
theorem marks_mem (k : Nat) (h : k < 21) : Lx.marks.contains (Lx.marks.getD k []) = true := by
  have : ∀ k : Fin 21, Lx.marks.contains (Lx.marks.getD k.val []) = true := by decide
  exact this ⟨k, h⟩
theorem marks_not (x : List UInt8) (h : ∀ j, j < 21 → Lx.marks.getD j [] ≠ x) : Lx.marks.contains x = false := by
  rw [Bool.eq_false_iff]
  intro hc
  obtain ⟨j, hj, he⟩ := List.getElem_of_mem (List.contains_iff_mem.1 hc)
  exact h j hj (by rw [List.getD_eq_getElem?_getD, List.getElem?_eq_getElem hj]; exact he)
end Go.Proofs.YtpbfmfhjgghldaaDoor
/- the document's own answer, Tokens. -/
namespace Go.Proofs.YtpbfmfhjgghldaaDoor
open Go.RowKit

theorem blank_cases (c : UInt8) (h : Lx.blank c = true) : (c.toNat : Int) = 32 ∨ (c.toNat : Int) = 9 ∨ (c.toNat : Int) = 10 := by
  simp [Lx.blank] at h
  rcases h with (rfl | rfl) | rfl
  · exact .inl rfl
  · exact .inr (.inl rfl)
  · exact .inr (.inr rfl)
theorem blank_not (c : UInt8) (h : Lx.blank c = false) : ¬ (c.toNat : Int) = 32 ∧ ¬ (c.toNat : Int) = 9 ∧ ¬ (c.toNat : Int) = 10 := by
  simp only [Lx.blank, Bool.or_eq_false_iff, beq_eq_false_iff_ne, ne_eq] at h
  refine ⟨fun e => h.1.1 ?_, fun e => h.1.2 ?_, fun e => h.2 ?_⟩ <;> (apply UInt8.toNat_inj.1; simp; omega)

theorem alpha_digit (c : UInt8) (h : Lx.alpha c = true) : Lx.digit c = false := by
  rw [alpha_int] at h
  have : Lx.digit c = (decide (48 ≤ (c.toNat : Int)) && decide ((c.toNat : Int) ≤ 57)) := by
    unfold Lx.digit; congr 1 <;> (rw [decide_eq_decide]; omega)
  rw [this]; simp at h ⊢; omega
theorem two_one (e q : Int) : (#[Value.int .i64 e, .int .i64 q] : Array Value).all (·.oneCell') = true := by simp [Value.oneCell']
theorem cell_three_at (w : World) (n : Nat) (hn : w.heap.size = n) (a b c : Value) (t : TypeId) : ∀ j u, [a, b, c][j]? = some u → (w.alloc (.cells #[a, b, c] t)).cell? ((⟨n, 0, none⟩ : Addr).add j) = some u := by
  subst hn; exact cell_three_new w a b c t
theorem own_base {w : World} {B e size n : Nat} {v : Value} {xs : List Value} (h : w.ownsRow (B + 1) e size v n xs) : w.ownsRow B e size v n xs := by
  refine ⟨h.1, ?_⟩
  rcases h.2 with hn | ⟨g, cap, cur, rfl, hg, rest⟩
  · exact .inl hn
  · exact .inr ⟨g, cap, cur, rfl, by omega, rest⟩
theorem own_set {w : World} {B e size n : Nat} {v : Value} {xs : List Value} (h : w.ownsRow (B + 1) e size v n xs) (o : Nat) (x : Value) : (w.setCell ⟨B, o, none⟩ x).ownsRow (B + 1) e size v n xs := by
  refine ⟨h.1, ?_⟩
  rcases h.2 with hn | ⟨g, cap, cur, rfl, hg, hh, rest⟩
  · exact .inl hn
  · exact .inr ⟨g, cap, cur, rfl, hg, by rw [Below.heap_setCell _ _ _ _ (show g ≠ B by omega)]; exact hh, rest⟩
end Go.Proofs.YtpbfmfhjgghldaaDoor
/- errors.As at an *api.At and a target of type *api.Errno: the entries of internal/reflectlite at this program's types. -/
namespace Go.Proofs.YtpbfmfhjgghldaaDoor
open Go.RowKit Go.Extern.Stop Go.Stop Go.Extern

theorem Tryd.kind23 (w : World) : ((ReflectliteType.abiMethod fun t => (fun a : Nat => Value.int IntKind.u8 (a : Int)) <$> Rtype.kind t) #[.pointer (some ⟨11, 60, none⟩)]).run Tryd.prog w = .ok (.int .u8 2) w := by kernel_rfl
theorem Tryd.valueOf23 (e : Int) (w : World) : (ReflectliteValue.unpack (.iface 60 (.int .i64 e))).run Tryd.prog w
    = .ok (.agg #[.pointer (some ⟨11, 60, none⟩), .pointer (some ⟨w.heap.size, 0, none⟩), .int .u64 130]) (w.alloc (.cells #[.int .i64 e] 60)) := by kernel_rfl
theorem Tryd.mk23 (p : Addr) (w : World) : (ReflectliteValue.mk 60 p ReflectliteValue.flagAddr).run Tryd.prog w = .ok (.agg #[.pointer (some ⟨11, 60, none⟩), .pointer (some p), .int .u64 386]) w := by kernel_rfl
theorem Tryd.parts23a (a : Addr) (w : World) : (ReflectliteValue.parts (.agg #[.pointer (some ⟨11, 60, none⟩), .pointer (some a), .int .u64 386])).run Tryd.prog w = .ok (some (60, a, 386)) w := by kernel_rfl
theorem Tryd.parts23 (a : Addr) (w : World) : (ReflectliteValue.parts (.agg #[.pointer (some ⟨11, 60, none⟩), .pointer (some a), .int .u64 130])).run Tryd.prog w = .ok (some (60, a, 130)) w := by kernel_rfl
theorem Tryd.direct23 (w : World) : (Rtype.directlyAssignable 60 60).run Tryd.prog w = .ok true w := by kernel_rfl
theorem Tryd.set23 (ta b : Addr) (e : Int) (old : Value) (W : World) (hb : W.cell? b = some (.int .i64 e)) (ht : W.cell? ta = some old) (hf : W.frozen? ta = false) :
    (ReflectliteValue.set #[.agg #[.pointer (some ⟨11, 60, none⟩), .pointer (some ta), .int .u64 386], .agg #[.pointer (some ⟨11, 60, none⟩), .pointer (some b), .int .u64 130]]).run Tryd.prog W
      = .ok (.tuple #[]) (W.setCell ta (.int .i64 e)) := by
  have g1 : ∀ (h1 : (#[.agg #[.pointer (some ⟨11, 60, none⟩), .pointer (some ta), .int .u64 386], .agg #[.pointer (some ⟨11, 60, none⟩), .pointer (some b), .int .u64 130]] : Array Value).size = 2) (h2 : 1 < 2), Array.getLit (n := 2) (#[.agg #[.pointer (some ⟨11, 60, none⟩), .pointer (some ta), .int .u64 386], .agg #[.pointer (some ⟨11, 60, none⟩), .pointer (some b), .int .u64 130]] : Array Value) 1 h1 h2 = .agg #[.pointer (some ⟨11, 60, none⟩), .pointer (some b), .int .u64 130] := fun _ _ => rfl
  rw [show ReflectliteValue.set #[.agg #[.pointer (some ⟨11, 60, none⟩), .pointer (some ta), .int .u64 386], .agg #[.pointer (some ⟨11, 60, none⟩), .pointer (some b), .int .u64 130]] = ReflectliteValue.parts (.agg #[.pointer (some ⟨11, 60, none⟩), .pointer (some ta), .int .u64 386]) >>= _ from rfl]
  simp only [g1, Sem.run_bind, Tryd.parts23a, Tryd.parts23, Result.andThen]
  simp [ReflectliteValue.flagAddr, loadVar, isAgg, underlying, Tryd.underlying60, hb, Result.andThen, Tryd.direct23, storeVar, Value.cells, storeCells, Addr.add]
  rw [run_store Tryd.prog W ta _ _ (by rfl)]
  simp [ht, hf]
end Go.Proofs.YtpbfmfhjgghldaaDoor
/- errors.As, api.Tell, plain.Place at what Split answers. -/
namespace Go.Proofs.YtpbfmfhjgghldaaDoor
open Go.RowKit Go.Extern.Stop Go.Stop Go.Extern

end Go.Proofs.YtpbfmfhjgghldaaDoor
/- api.Tell and plain.Place at what Split answers. -/
namespace Go.Proofs.YtpbfmfhjgghldaaDoor
open Go.RowKit Go.Extern.Stop Go.Stop Go.Extern

theorem Tryd.isAt (v : Value) (x : TypeId) (w : World) : (Instr.typeAssert (.iface 39 v) x 39 true).run Tryd.prog w = .ok (.tuple #[v, .bool true]) w := by kernel_rfl

end Go.Proofs.YtpbfmfhjgghldaaDoor
/- The tokens of a text, once more: what lex.Split and the document's own Tokens lay; what is known of the list. -/
namespace Go.Proofs.YtpbfmfhjgghldaaDoor
open Go.RowKit Px

theorem cells_at (L : List Lx.Tok) : ∀ (i : Nat) (t : Lx.Tok), L[i]? = some t → (cells L)[i * 3]? = some (.int .i64 t.kind) ∧ (cells L)[i * 3 + 1]? = some (.string ⟨t.text.toArray⟩) ∧ (cells L)[i * 3 + 2]? = some (.int .i64 t.place) := by
  induction L with
  | nil => intro i t h; simp at h
  | cons x r ih =>
    intro i t h
    have e : cells (x :: r) = .int .i64 x.kind :: .string ⟨x.text.toArray⟩ :: .int .i64 x.place :: cells r := rfl
    rw [e]
    cases i with
    | zero => simp at h; subst h; simp
    | succ i =>
      have := ih i t (by simpa using h)
      have e1 : (i + 1) * 3 = i * 3 + 1 + 1 + 1 := by omega
      have e2 : (i + 1) * 3 + 1 = i * 3 + 1 + 1 + 1 + 1 := by omega
      have e3 : (i + 1) * 3 + 2 = i * 3 + 2 + 1 + 1 + 1 := by omega
      rw [e2, e3, e1]
      simpa using this
/-- what is owned can be read -/
theorem toks_read {w : World} {B E n : Nat} {v : Value} {L : List Lx.Tok} (hn : n = L.length) (h0 : 0 < n) (h : w.ownsRow B E 3 v n (cells L)) :
    ∃ g cap, v = .slice (some ⟨g, 0, none⟩) n cap ∧ B ≤ g ∧ g < w.heap.size ∧ ∀ i t, L[i]? = some t → w.cell? ⟨g, i * 3, none⟩ = some (.int .i64 t.kind) ∧ w.cell? ⟨g, i * 3 + 1, none⟩ = some (.string ⟨t.text.toArray⟩) ∧ w.cell? ⟨g, i * 3 + 2, none⟩ = some (.int .i64 t.place) := by
  have hc := fun g hg => World.ownsRow.cells h (g := g) hg
  have hl := fun g hg => World.ownsRow.lt h g hg
  rcases h.2 with ⟨_, rfl⟩ | ⟨g, cap, cur, rfl, hg, _⟩
  · omega
  · refine ⟨g, cap, rfl, hg, (hl g rfl).2, fun i t ht => ?_⟩
    obtain ⟨a, b, c⟩ := cells_at L i t ht
    have ad : ∀ j, (⟨g, 0, none⟩ : Addr).add j = ⟨g, j, none⟩ := fun j => by unfold Addr.add; split <;> simp_all
    have h1 := hc g rfl _ _ a
    have h2 := hc g rfl _ _ b
    have h3 := hc g rfl _ _ c
    rw [ad] at h1 h2 h3
    exact ⟨h1, h2, h3⟩
theorem below_drewN {B : Nat} {a w : World} (h : Below B a w) (n : Nat) : Below B a (w.drewN n) := h.trans ⟨rfl, rfl, rfl, Nat.le_refl _, fun _ _ => rfl⟩

def fin (s : ByteArray) (l : List Lx.Tok) : List Lx.Tok := l ++ [⟨4, [], s.size⟩]
theorem fin_len (s : ByteArray) (l : List Lx.Tok) : (fin s l).length = l.length + 1 := by simp [fin]

theorem split_ok (s : ByteArray) (l : List Lx.Tok) (N : Nat) (hN : N = l.length + 1) (w : World) (hs : s.size ≤ 1000000) (hm : Marks w) (hok : Lx.Ok (bs s) l) :
    Calls Tryd.prog 8 #[.string s] w fun e w' => ∃ g cap, e = .returned (.tuple #[.slice (some ⟨g, 0, none⟩) N cap, .nilIface]) ∧ Below w.heap.size w w' ∧ w.heap.size ≤ g ∧ g < w'.heap.size ∧
      ∀ i t, (fin s l)[i]? = some t → w'.cell? ⟨g, i * 3, none⟩ = some (.int .i64 t.kind) ∧ w'.cell? ⟨g, i * 3 + 1, none⟩ = some (.string ⟨t.text.toArray⟩) ∧ w'.cell? ⟨g, i * 3 + 2, none⟩ = some (.int .i64 t.place) := by
  refine (split_any s w hs hm).mono ?_
  rintro e w' ⟨v, err, rfl, hb, ⟨l', hok', rfl, hown⟩ | ⟨e, q, g, hbad, _⟩⟩
  · obtain rfl := Lx.Ok_Ok hok hok'
    rw [← hN] at hown
    obtain ⟨g, cap, rfl, h1, h2, h3⟩ := toks_read (L := fin s l) (by rw [hN, fin_len]) (by omega) hown
    exact ⟨g, cap, rfl, hb, h1, h2, h3⟩
  · exact (Lx.Ok_Bad hok hbad).elim
theorem split_bad (s : ByteArray) (w : World) (hs : s.size ≤ 1000000) (hm : Marks w) (hno : ∀ l, ¬ Lx.Ok (bs s) l) :
    Calls Tryd.prog 8 #[.string s] w fun e w' => ∃ ev q g : Nat, e = .returned (.tuple #[.slice none 0 0, .iface 39 (.pointer (some ⟨g, 0, none⟩))]) ∧ Below w.heap.size w w' ∧ Lx.Bad (bs s) ev q ∧ w'.heap[g]? = some (.cells #[.int .i64 ev, .int .i64 q] 63 (0, 0)) := by
  refine (split_any s w hs hm).mono ?_
  rintro e w' ⟨v, err, rfl, hb, ⟨l', hok', rfl, hown⟩ | ⟨e, q, g, hbad, _, rfl, rfl, _, hh⟩⟩
  · exact (hno l' hok').elim
  · exact ⟨e, q, g, rfl, hb, hbad, hh⟩
/-- Below, behind a new block -/
theorem below_new {w w1 w2 : World} {o : Obj} (h : Below w.heap.size w w1) (k : Below (w1.alloc o).heap.size (w1.alloc o) w2) : Below w.heap.size w w2 := by
  have := h.size
  exact (h.alloc h.size o).trans (k.mono (by simp; omega))
theorem new_cell {w1 w2 : World} {x y : Value} {t : TypeId} (k : Below (w1.alloc (.cells #[x, y] t)).heap.size (w1.alloc (.cells #[x, y] t)) w2) : w2.cell? ⟨w1.heap.size, 0, none⟩ = some x ∧ w2.cell? ⟨w1.heap.size, 1, none⟩ = some y := by
  rw [k.cell (p := ⟨w1.heap.size, 0, none⟩) (by simp), k.cell (p := ⟨w1.heap.size, 1, none⟩) (by simp)]; simp


theorem mem_wh {p : UInt8 → Bool} : ∀ (u : List UInt8) (c : UInt8), c ∈ u.take (Lx.wh p u) → p c = true
  | [], c, h => by simp at h
  | x :: r, c, h => by
    unfold Lx.wh at h
    rw [List.takeWhile_cons] at h
    split at h
    · next hx =>
      simp only [List.length_cons, List.take_succ_cons, List.mem_cons] at h
      rcases h with rfl | h
      · exact hx
      · exact mem_wh r c h
    · simp at h
theorem rd_two {u : List UInt8} (h : (Lx.rd u).1 = 2) : (∀ c ∈ u.take (Lx.rd u).2, 48 ≤ c.toNat ∧ c.toNat ≤ 57) ∧ u.take (Lx.rd u).2 ≠ [] := by
  cases u with
  | nil => simp [Lx.rd] at h
  | cons c r =>
    have hc : Lx.digit c = true := by
      rw [Lx.rd_cons] at h
      by_cases hc : Lx.digit c = true
      · exact hc
      · rw [if_neg hc] at h
        by_cases hw : Lx.word c = true
        · rw [if_pos hw] at h; simp at h
        · rw [if_neg hw] at h
          by_cases hm : Lx.mk (c :: r) = 0
          · rw [if_pos hm] at h; simp at h
          · rw [if_neg hm] at h; simp at h
    have e : (Lx.rd (c :: r)).2 = Lx.wh Lx.digit (c :: r) := by rw [Lx.rd_cons, if_pos hc]
    rw [e]
    refine ⟨fun d hd => ?_, ?_⟩
    · have := mem_wh _ _ hd; simpa [Lx.digit] using this
    · simp [Lx.wh, hc]
theorem reads_each {l : List Lx.Tok} : ∀ {u : List UInt8} {p : Nat} {u1 : List UInt8} {p1 : Nat}, Lx.Reads u p l u1 p1 → ∀ t ∈ l, t.kind ≤ 3 ∧ t.kind ≠ 0 ∧ (t.kind = 2 → (∀ c ∈ t.text, 48 ≤ c.toNat ∧ c.toNat ≤ 57) ∧ t.text.length ≤ 18 ∧ t.text ≠ []) := by
  induction l with
  | nil => intro _ _ _ _ _ t ht; simp at ht
  | cons x r ih =>
    intro u p u1 p1 h t ht
    obtain ⟨a, b, c, d, e⟩ := h
    rcases List.mem_cons.1 ht with rfl | ht
    · subst b
      refine ⟨Lx.rd_kind _, c, fun h2 => ?_⟩
      have h2' : (Lx.rd (u.drop (Lx.sk false u))).1 = 2 := h2
      refine ⟨(rd_two h2').1, ?_, (rd_two h2').2⟩
      have : (Lx.rd (u.drop (Lx.sk false u))).2 ≤ 18 := Nat.le_of_not_lt fun hl => d ⟨h2', hl⟩
      simp only [List.length_take]; omega
    · exact ih e t ht
theorem fin_get (s : ByteArray) (l : List Lx.Tok) (k : Nat) : (k < l.length ∧ Px.tok (fin s l) k ∈ l) ∨ (k = l.length ∧ Px.tok (fin s l) k = ⟨4, [], s.size⟩) ∨ (l.length < k ∧ (fin s l)[k]? = none) := by
  rcases Nat.lt_trichotomy k l.length with h | h | h
  · refine .inl ⟨h, ?_⟩
    simp [Px.tok, fin, List.getD_eq_getElem?_getD, List.getElem?_append_left h, List.getElem?_eq_getElem h]
  · refine .inr (.inl ⟨h, ?_⟩)
    subst h; simp [Px.tok, fin, List.getD_eq_getElem?_getD]
  · refine .inr (.inr ⟨h, ?_⟩)
    simp [fin]; omega
theorem tok_none {L : List Lx.Tok} {k : Nat} (h : L[k]? = none) : Px.tok L k = ⟨4, [], 0⟩ := by
  simp [Px.tok, List.getD_eq_getElem?_getD, h]
theorem wf_ok {s : ByteArray} {l : List Lx.Tok} (h : Lx.Ok (bs s) l) : Wf (fin s l) := by
  obtain ⟨hn, u, p, hr, _⟩ := h
  have he := reads_each hr
  have hl : Px.tok (fin s l) ((fin s l).length - 1) = ⟨4, [], s.size⟩ := by
    rcases fin_get s l ((fin s l).length - 1) with h | h | h
    · have := fin_len s l; omega
    · exact h.2
    · have := fin_len s l; omega
  refine ⟨by rw [fin_len]; omega, by rw [fin_len]; omega, by rw [kd, hl], by rw [tx, hl], fun k hk => ?_⟩
  rcases fin_get s l k with h | h | h
  · exact (he _ h.2).2.2 hk
  · rw [kd, h.2] at hk; simp at hk
  · rw [kd, tok_none h.2] at hk; simp at hk
theorem e4_ok {s : ByteArray} {l : List Lx.Tok} (h : Lx.Ok (bs s) l) (k : Nat) (hk : kd (fin s l) k = 4) : tx (fin s l) k = [] := by
  obtain ⟨hn, u, p, hr, _⟩ := h
  have he := reads_each hr
  rcases fin_get s l k with h | h | h
  · have := (he _ h.2).1; rw [kd] at hk; omega
  · rw [tx, h.2]
  · rw [tx, tok_none h.2]
end Go.Proofs.YtpbfmfhjgghldaaDoor
/- Parse: the tokens, then the chart; what is thrown is caught. -/
namespace Go.Proofs.YtpbfmfhjgghldaaDoor
open Go.RowKit Px

/-- the two results are laid -/
theorem parse_open (w : World) : ∃ W, W = (w.alloc (.cells ZC 26)).alloc (.cells #[.nilIface] 28) ∧ Below w.heap.size w W ∧ W.heap.size = w.heap.size + 2 ∧ W.heap[w.heap.size]? = some (.cells ZC 26 (0, 0)) ∧ W.heap[w.heap.size + 1]? = some (.cells #[.nilIface] 28 (0, 0)) := by
  refine ⟨_, rfl, ((Below.refl _ w).alloc (Nat.le_refl _) _).alloc (by simp) _, by simp, ?_, ?_⟩
  · have := heap_alloc_new w (.cells ZC 26)
    rw [heap_alloc_old _ _ (by simp)]; exact this
  · have := heap_alloc_new (w.alloc (.cells ZC 26)) (.cells #[.nilIface] 28)
    simpa using this

theorem load44 {W : World} {g : Nat} {v : Value} (hg : W.heap[g]? = some (.cells #[v] 28 (0, 0))) : (loadVar 28 ⟨g, 0, none⟩).run Tryd.prog W = .ok v W := by
  have hc : W.cell? ⟨g, 0, none⟩ = some v := by rw [cell_of_row _ _ _ _ _ _ hg]; rfl
  simp [go_sem, hc]
theorem resultsP (tmps : Array Value) (W : World) (c e : Nat) (fc : Array Value) (v : Value) (hsz : fc.size = 3) (hp : tmps[2]?.getD undef = .pointer (some ⟨c, 0, none⟩)) (hq : tmps[3]?.getD undef = .pointer (some ⟨e, 0, none⟩)) (hc : W.heap[c]? = some (.cells fc 26 (0, 0))) (he : W.heap[e]? = some (.cells #[v] 28 (0, 0))) :
    (results Tryd.f5 tmps).run Tryd.prog W = .ok (.tuple #[.agg fc, v]) W := by
  simp [results, Tryd.results5, hp, hq, asAddr, load25 hsz hc, load44 he]
/-- the two results are set -/
theorem laid_set {w2 : World} {c e : Nat} {a b d v v' : Value} (hc : w2.heap[c]? = some (.cells ZC 26 (0, 0))) (he : w2.heap[e]? = some (.cells #[v'] 28 (0, 0))) (hne : c ≠ e) :
    ((((w2.setCell ⟨c, 0, none⟩ a).setCell ⟨c, 1, none⟩ b).setCell ⟨c, 2, none⟩ d).setCell ⟨e, 0, none⟩ v).heap[c]? = some (.cells #[a, b, d] 26 (0, 0)) ∧
    ((((w2.setCell ⟨c, 0, none⟩ a).setCell ⟨c, 1, none⟩ b).setCell ⟨c, 2, none⟩ d).setCell ⟨e, 0, none⟩ v).heap[e]? = some (.cells #[v] 28 (0, 0)) ∧
    (∀ k, k ≠ c → k ≠ e → ((((w2.setCell ⟨c, 0, none⟩ a).setCell ⟨c, 1, none⟩ b).setCell ⟨c, 2, none⟩ d).setCell ⟨e, 0, none⟩ v).heap[k]? = w2.heap[k]?) ∧
    (∀ B a0, Below B a0 w2 → B ≤ c → B ≤ e → Below B a0 ((((w2.setCell ⟨c, 0, none⟩ a).setCell ⟨c, 1, none⟩ b).setCell ⟨c, 2, none⟩ d).setCell ⟨e, 0, none⟩ v)) := by
  have h0 := heap_setCell_same w2 c 0 _ _ a hc
  have h1 := heap_setCell_same _ c 1 _ _ b h0
  have h2 := heap_setCell_same _ c 2 _ _ d h1
  have k0 : (((w2.setCell ⟨c, 0, none⟩ a).setCell ⟨c, 1, none⟩ b).setCell ⟨c, 2, none⟩ d).heap[e]? = some (.cells #[v'] 28 (0, 0)) := by
    rw [heap_setCell_other _ _ _ _ (by simpa using hne.symm), heap_setCell_other _ _ _ _ (by simpa using hne.symm), heap_setCell_other _ _ _ _ (by simpa using hne.symm)]; exact he
  refine ⟨?_, ?_, fun k hkc hke => ?_, fun B _ hb hBc hBe => ?_⟩
  · rw [heap_setCell_other _ _ _ _ (by simpa using hne)]; exact h2
  · exact heap_setCell_same _ e 0 _ _ v k0
  · rw [heap_setCell_other _ _ _ _ (by simpa using hke), heap_setCell_other _ _ _ _ (by simpa using hkc), heap_setCell_other _ _ _ _ (by simpa using hkc), heap_setCell_other _ _ _ _ (by simpa using hkc)]
  · exact (((hb.setCell (by simpa using hBc) _).setCell (by simpa using hBc) _).setCell (by simpa using hBc) _).setCell (by simpa using hBe) _

/-- the reader is laid -/
theorem parse_ps {s : ByteArray} {l : List Lx.Tok} {w W0 w1 : World} {g cap : Nat} (hG : 11 ≤ w.heap.size) (ht : Tabs w) (hok : Lx.Ok (bs s) l) (hb0 : Below w.heap.size w W0) (hz0 : W0.heap.size = w.heap.size + 2) (hb1 : Below W0.heap.size W0 w1) (hg0 : W0.heap.size ≤ g) (hg1 : g < w1.heap.size)
    (hg : ∀ i t, (fin s l)[i]? = some t → w1.cell? ⟨g, i * 3, none⟩ = some (.int .i64 t.kind) ∧ w1.cell? ⟨g, i * 3 + 1, none⟩ = some (.string ⟨t.text.toArray⟩) ∧ w1.cell? ⟨g, i * 3 + 2, none⟩ = some (.int .i64 t.place))
    (c1 : w1.heap[w.heap.size]? = some (.cells ZC 26 (0, 0))) (e1 : w1.heap[w.heap.size + 1]? = some (.cells #[.nilIface] 28 (0, 0))) :
    ∃ W2, W2 = (w1.setCell ⟨w.heap.size + 1, 0, none⟩ .nilIface).alloc (.cells #[.slice (some ⟨g, 0, none⟩) (l.length + 1) cap, .int .i64 0, .int .i64 0, .int .i64 0, .int .i64 0] 42) ∧
      PS ⟨w1.heap.size, g, cap, fin s l⟩ W2 0 0 0 0 ∧ Below w.heap.size w W2 ∧ W2.heap[w.heap.size]? = some (.cells ZC 26 (0, 0)) ∧ W2.heap[w.heap.size + 1]? = some (.cells #[.nilIface] 28 (0, 0)) ∧ W2.heap.size = w1.heap.size + 1 := by
  have hs1 := hb1.size
  have hB1 : Below w.heap.size w w1 := hb0.trans (hb1.mono hb0.size)
  have hB2 : Below w.heap.size w (w1.setCell ⟨w.heap.size + 1, 0, none⟩ .nilIface) := hB1.setCell (by simp) _
  have hz2 : (w1.setCell ⟨w.heap.size + 1, 0, none⟩ .nilIface).heap.size = w1.heap.size := by simp
  have old : ∀ k, k < w1.heap.size → k ≠ w.heap.size + 1 → ((w1.setCell ⟨w.heap.size + 1, 0, none⟩ .nilIface).alloc (.cells #[.slice (some ⟨g, 0, none⟩) (l.length + 1) cap, .int .i64 0, .int .i64 0, .int .i64 0, .int .i64 0] 42)).heap[k]? = w1.heap[k]? := fun k hk hn => by
    rw [heap_alloc_old _ _ (by rw [hz2]; exact hk), heap_setCell_other _ _ _ _ (by simpa using hn)]
  have hwf := wf_ok hok
  refine ⟨_, rfl, ⟨?_, fun k t hk => ?_, ?_, hwf.pos, hwf, hg1, ?_⟩, hB2.alloc hB2.size _, ?_, ?_, by simp⟩
  · have := heap_alloc_new (w1.setCell ⟨w.heap.size + 1, 0, none⟩ .nilIface) (.cells #[.slice (some ⟨g, 0, none⟩) (l.length + 1) cap, .int .i64 0, .int .i64 0, .int .i64 0, .int .i64 0] 42)
    rw [hz2] at this
    rw [rdC, fin_len]; exact this
  · have hb := old g hg1 (by omega)
    have := hg k t hk
    rw [World.cell?_of_block (w := w1) (a := ⟨g, k * 3, none⟩) hb, World.cell?_of_block (w := w1) (a := ⟨g, k * 3 + 1, none⟩) hb, World.cell?_of_block (w := w1) (a := ⟨g, k * 3 + 2, none⟩) hb]
    exact this
  · exact ht.keep (fun b hb => (hB2.alloc hB2.size _).block b (by omega))
  · show 11 < g; omega
  · rw [old _ (by omega) (by omega)]; exact c1
  · rw [heap_alloc_old _ _ (by rw [hz2]; omega)]; exact heap_setCell_same w1 _ 0 _ _ .nilIface e1

set_option maxRecDepth 100000 in
set_option maxHeartbeats 2000000 in
theorem parse_bad (s : ByteArray) (w : World) (hs : s.size ≤ 1000000) (hm : Marks w) (hno : ∀ l, ¬ Lx.Ok (bs s) l) :
    Calls Tryd.prog 5 #[.string s] w fun e w' => ∃ ev q g : Nat, e = .returned (.tuple #[.agg ZC, .iface 39 (.pointer (some ⟨g, 0, none⟩))]) ∧ Lx.Bad (bs s) ev q ∧ w'.heap[g]? = some (.cells #[.int .i64 ev, .int .i64 q] 63 (0, 0)) ∧ Below w.heap.size w w' := by
  have HN : Hid (∀ l, ¬ Lx.Ok (bs s) l) := hno
  clear hno
  have hmf : ∀ (fn : Fn) (first cap : Array Value) (w : World), (Instr.makeFunc fn first cap).run Tryd.prog w = .ok (.func fn first cap) w := fun _ _ _ _ => rfl
  obtain ⟨W0, hW, hb0, hz0, c0, e0⟩ := parse_open w
  have hm0 := hm.below (Nat.le_refl _) hb0
  go_enter_defers Tryd.func5, Tryd.ntmps5
  go_upto_region 1 with fail
  rw [show (w.alloc (.cells #[.string ⟨#[]⟩, .slice none 0 0, .slice none 0 0] 26)).alloc (.cells #[.nilIface] 28) = W0 from hW.symm]
  clear hW
  go_wp2_with (go_at_call 8; refine (split_bad s _ hs hm0 HN.out).mono ?_; rintro e w1 ⟨ev, q, g, rfl, hb1, hbad, hg⟩; have c1 := (hb1.block _ (by omega)).trans c0; have e1 := (hb1.block _ (by omega)).trans e0; obtain ⟨-, e1c⟩ : True ∧ w1.cell? ⟨w.heap.size + 1, 0, none⟩ = some .nilIface := ⟨trivial, by rw [cell_of_row _ _ _ _ _ _ e1]; rfl⟩; have e1z : w1.frozen? ⟨w.heap.size + 1, 0, none⟩ = false := by simp [World.frozen?, e1])
  have hb2 : Below w.heap.size w (w1.setCell ⟨w.heap.size + 1, 0, none⟩ (.iface 39 (.pointer (some ⟨g, 0, none⟩)))) := (hb0.trans (hb1.mono hb0.size)).setCell (by simp) _
  have c2 : (w1.setCell ⟨w.heap.size + 1, 0, none⟩ (.iface 39 (.pointer (some ⟨g, 0, none⟩)))).heap[w.heap.size]? = some (.cells ZC 26 (0, 0)) := by
    rw [heap_setCell_other w1 _ _ _ (by simp)]; exact c1
  have e2 := heap_setCell_same w1 (w.heap.size + 1) 0 _ 28 (.iface 39 (.pointer (some ⟨g, 0, none⟩))) e1
  have hne : g ≠ w.heap.size + 1 := by rintro rfl; rw [e1] at hg; simp at hg
  have hne' : g ≠ w.heap.size := by rintro rfl; rw [c1] at hg; simp [ZC] at hg
  have g2 : (w1.setCell ⟨w.heap.size + 1, 0, none⟩ (.iface 39 (.pointer (some ⟨g, 0, none⟩)))).heap[g]? = some (.cells #[.int .i64 ev, .int .i64 q] 63 (0, 0)) := by
    rw [heap_setCell_other w1 _ _ _ hne]; exact hg
  generalize (w1.setCell ⟨w.heap.size + 1, 0, none⟩ (.iface 39 (.pointer (some ⟨g, 0, none⟩)))) = w2 at hb2 c2 e2 g2 ⊢
  have f0 : w2.cell? ⟨w.heap.size, 0, none⟩ = some (.string ⟨#[]⟩) := by rw [cell_of_row _ _ _ _ _ _ c2]; rfl
  have f1 : w2.cell? ⟨w.heap.size, 1, none⟩ = some (.slice none 0 0) := by rw [cell_of_row _ _ _ _ _ _ c2]; rfl
  have f2 : w2.cell? ⟨w.heap.size, 2, none⟩ = some (.slice none 0 0) := by rw [cell_of_row _ _ _ _ _ _ c2]; rfl
  have fz : ∀ o, w2.frozen? ⟨w.heap.size, o, none⟩ = false := fun o => by simp [World.frozen?, c2]
  have fe : w2.cell? ⟨w.heap.size + 1, 0, none⟩ = some (.iface 39 (.pointer (some ⟨g, 0, none⟩))) := by rw [cell_of_row _ _ _ _ _ _ e2]; rfl
  have fy : w2.frozen? ⟨w.heap.size + 1, 0, none⟩ = false := by simp [World.frozen?, e2]
  obtain ⟨z0, z1, z2, z3⟩ := laid_set (a := .string ⟨#[]⟩) (b := .slice none 0 0) (d := .slice none 0 0) (v := .iface 39 (.pointer (some ⟨g, 0, none⟩))) c2 e2 (by omega)
  go_region
  go_wp2
  exact ⟨_, resultsP _ _ _ _ _ _ rfl rfl rfl z0 z1, _, _, _, rfl, hbad, (z2 g hne' hne).trans g2, (z3 _ _ hb2 (Nat.le_refl _) (by omega)).drew⟩

set_option maxRecDepth 100000 in
set_option maxHeartbeats 2000000 in
theorem parse_err (s : ByteArray) (l : List Lx.Tok) (f : F) (w : World) (hs : s.size ≤ 1000000) (hG : 11 ≤ w.heap.size) (ht : Tabs w) (hm : Marks w) (hok : Lx.Ok (bs s) l) (hch : chart (fin s l) = .error f) :
    Calls Tryd.prog 5 #[.string s] w fun e w' => ∃ q : Nat, e = .returned (.tuple #[.agg ZC, .iface 39 (.pointer (some ⟨q, 0, none⟩))]) ∧ w'.heap[q]? = some (.cells #[.int .i64 f.1, .int .i64 f.2] 63 (0, 0)) ∧ Below w.heap.size w w' := by
  have HN : Hid (Lx.Ok (bs s) l) := hok
  have HC : Hid (chart (fin s l) = .error f) := hch
  clear hok hch
  have hmf : ∀ (fn : Fn) (first cap : Array Value) (w : World), (Instr.makeFunc fn first cap).run Tryd.prog w = .ok (.func fn first cap) w := fun _ _ _ _ => rfl
  obtain ⟨W0, hW, hb0, hz0, c0, e0⟩ := parse_open w
  have hm0 := hm.below (Nat.le_refl _) hb0
  go_enter_defers Tryd.func5, Tryd.ntmps5
  go_upto_region 1 with fail
  rw [show (w.alloc (.cells #[.string ⟨#[]⟩, .slice none 0 0, .slice none 0 0] 26)).alloc (.cells #[.nilIface] 28) = W0 from hW.symm]
  clear hW
  go_wp2_with (first
    | (go_at_call 8; refine (split_ok s l _ rfl _ hs hm0 HN.out).mono ?_; rintro e w1 ⟨g, cap, rfl, hb1, hg0, hg1, hg⟩; have c1 := (hb1.block _ (by omega)).trans c0; have e1 := (hb1.block _ (by omega)).trans e0; obtain ⟨-, e1c⟩ : True ∧ w1.cell? ⟨w.heap.size + 1, 0, none⟩ = some .nilIface := ⟨trivial, by rw [cell_of_row _ _ _ _ _ _ e1]; rfl⟩; have e1z : w1.frozen? ⟨w.heap.size + 1, 0, none⟩ = false := (by simp [World.frozen?, e1]); obtain ⟨W2, hW2, hps, hbW, cW, eW, hzW⟩ := parse_ps (cap := cap) hG ht HN.out hb0 hz0 hb1 hg0 hg1 hg c1 e1; have HW2 : Hid _ := hW2; clear hW2)
    | (go_at_call 10; rw [show (w1.setCell ⟨w.heap.size + 1, 0, none⟩ .nilIface).alloc (.cells #[.slice (some ⟨g, 0, none⟩) (l.length + 1) cap, .int .i64 0, .int .i64 0, .int .i64 0, .int .i64 0] 42) = W2 from HW2.out.symm]; refine (chart_any hps).mono ?_; rintro e w3 h3; rw [show chart (⟨w1.heap.size, g, cap, fin s l⟩ : Ctx).L = _ from HC.out] at h3; obtain ⟨q, rfl, hq, hge, hfr⟩ : Thrown ⟨w1.heap.size, g, cap, fin s l⟩ W2 f e w3 := h3))
  have hs1 := hb1.size
  have c3 := (hfr.block _ (by omega) (by simp; omega)).trans cW
  have e3 := (hfr.block _ (by omega) (by simp; omega)).trans eW
  have hB3 : Below w.heap.size w w3 := hbW.trans (Fr.below (hfr.mono (by omega) (by simp; omega)))
  obtain ⟨z0, z1, z2, z3⟩ := laid_set (a := .string ⟨#[]⟩) (b := .slice none 0 0) (d := .slice none 0 0) (v := .iface 39 (.pointer (some ⟨q, 0, none⟩))) c3 e3 (by omega)
  refine leaves_cons (f := 9) (args := #[.pointer (some ⟨w.heap.size, 0, none⟩), .pointer (some ⟨w.heap.size + 1, 0, none⟩)]) (by simp) (by simp [go_sem]) ?_
  refine (catch_thrown w.heap.size (w.heap.size + 1) q w3 [] (by rw [cell_of_row _ _ _ _ _ _ c3]; rfl) (by rw [cell_of_row _ _ _ _ _ _ c3]; rfl) (by rw [cell_of_row _ _ _ _ _ _ c3]; rfl) (fun o => by simp [World.frozen?, c3]) (by rw [cell_of_row _ _ _ _ _ _ e3]; rfl) (by simp [World.frozen?, e3]) (by omega)).mono ?_
  rintro e u' w'' ⟨rfl, rfl, rfl⟩
  exact ⟨_, resultsP _ _ _ _ _ _ rfl rfl rfl z0 z1, q, rfl, (z2 q (by omega) (by omega)).trans hq, z3 _ _ hB3 (Nat.le_refl _) (by omega)⟩

set_option maxRecDepth 100000 in
set_option maxHeartbeats 2000000 in
theorem parse_ok (s : ByteArray) (l : List Lx.Tok) (c : Chart) (w : World) (hs : s.size ≤ 1000000) (hG : 11 ≤ w.heap.size) (ht : Tabs w) (hm : Marks w) (hok : Lx.Ok (bs s) l) (hch : chart (fin s l) = .ok c) :
    Calls Tryd.prog 5 #[.string s] w fun e w' => ∃ v, e = .returned (.tuple #[v, .nilIface]) ∧ IsChart (Ge w.heap.size) w' c v ∧ Below w.heap.size w w' := by
  have HN : Hid (Lx.Ok (bs s) l) := hok
  have HC : Hid (chart (fin s l) = .ok c) := hch
  clear hok hch
  have hmf : ∀ (fn : Fn) (first cap : Array Value) (w : World), (Instr.makeFunc fn first cap).run Tryd.prog w = .ok (.func fn first cap) w := fun _ _ _ _ => rfl
  obtain ⟨W0, hW, hb0, hz0, c0, e0⟩ := parse_open w
  have hm0 := hm.below (Nat.le_refl _) hb0
  go_enter_defers Tryd.func5, Tryd.ntmps5
  go_upto_region 1 with fail
  rw [show (w.alloc (.cells #[.string ⟨#[]⟩, .slice none 0 0, .slice none 0 0] 26)).alloc (.cells #[.nilIface] 28) = W0 from hW.symm]
  clear hW
  go_wp2_with (first
    | (go_at_call 8; refine (split_ok s l _ rfl _ hs hm0 HN.out).mono ?_; rintro e w1 ⟨g, cap, rfl, hb1, hg0, hg1, hg⟩; have c1 := (hb1.block _ (by omega)).trans c0; have e1 := (hb1.block _ (by omega)).trans e0; obtain ⟨-, e1c⟩ : True ∧ w1.cell? ⟨w.heap.size + 1, 0, none⟩ = some .nilIface := ⟨trivial, by rw [cell_of_row _ _ _ _ _ _ e1]; rfl⟩; have e1z : w1.frozen? ⟨w.heap.size + 1, 0, none⟩ = false := (by simp [World.frozen?, e1]); obtain ⟨W2, hW2, hps, hbW, cW, eW, hzW⟩ := parse_ps (cap := cap) hG ht HN.out hb0 hz0 hb1 hg0 hg1 hg c1 e1; have HW2 : Hid _ := hW2; clear hW2)
    | (go_at_call 10; rw [show (w1.setCell ⟨w.heap.size + 1, 0, none⟩ .nilIface).alloc (.cells #[.slice (some ⟨g, 0, none⟩) (l.length + 1) cap, .int .i64 0, .int .i64 0, .int .i64 0, .int .i64 0] 42) = W2 from HW2.out.symm]; refine (chart_any hps).mono ?_; rintro e w3 h3; rw [show chart (⟨w1.heap.size, g, cap, fin s l⟩ : Ctx).L = _ from HC.out] at h3; obtain ⟨v, rfl, ⟨a1, n1, m1, a2, n2, m2, rfl, d1, d2⟩, hfr⟩ := h3; have hs1 := hb1.size; have c3 := (hfr.block w.heap.size (by omega) (by simp; omega)).trans cW; have e3 := (hfr.block (w.heap.size + 1) (by omega) (by simp; omega)).trans eW; have f0 : w3.cell? ⟨w.heap.size, 0, none⟩ = some (.string ⟨#[]⟩) := by rw [cell_of_row _ _ _ _ _ _ c3]; rfl
       have f1 : w3.cell? ⟨w.heap.size, 1, none⟩ = some (.slice none 0 0) := by rw [cell_of_row _ _ _ _ _ _ c3]; rfl
       have f2 : w3.cell? ⟨w.heap.size, 2, none⟩ = some (.slice none 0 0) := by rw [cell_of_row _ _ _ _ _ _ c3]; rfl
       have fz : ∀ o, w3.frozen? ⟨w.heap.size, o, none⟩ = false := fun o => by simp [World.frozen?, c3]
       have fe : w3.cell? ⟨w.heap.size + 1, 0, none⟩ = some .nilIface := by rw [cell_of_row _ _ _ _ _ _ e3]; rfl
       have fy : w3.frozen? ⟨w.heap.size + 1, 0, none⟩ = false := by simp [World.frozen?, e3]
       rw [sv]))
  have hB3 : Below w.heap.size w w3 := hbW.trans (Fr.below (hfr.mono (by omega) (by simp; omega)))
  obtain ⟨z0, z1, z2, z3⟩ := laid_set (a := .string ⟨c.name.toArray⟩) (b := .slice a1 n1 m1) (d := .slice a2 n2 m2) (v := .nilIface) c3 e3 (by omega)
  refine leaves_cons (f := 9) (args := #[.pointer (some ⟨w.heap.size, 0, none⟩), .pointer (some ⟨w.heap.size + 1, 0, none⟩)]) (by simp) (by simp [go_sem]) ?_
  refine (catch_idle ⟨w.heap.size, 0, none⟩ ⟨w.heap.size + 1, 0, none⟩ _).mono ?_
  rintro e u' w'' ⟨rfl, rfl, rfl⟩
  have kp : Keep (Ge W2.heap.size) (Ge w.heap.size) w3 _ := fun b hb hlt => ⟨by simp [Ge] at *; omega, z2 b (by simp [Ge] at hb; omega) (by simp [Ge] at hb; omega)⟩
  exact ⟨_, resultsP _ _ _ _ _ _ rfl rfl rfl z0 z1, _, rfl, ⟨a1, n1, m1, a2, n2, m2, rfl, d1.carry kp, d2.carry kp (IsStates.carry kp 6)⟩, z3 _ _ hB3 (Nat.le_refl _) (by omega)⟩
end Go.Proofs.YtpbfmfhjgghldaaDoor
/- The document's own Parse. -/
namespace Go.Proofs.YtpbfmfhjgghldaaDoor
open Go.RowKit Px

end Go.Proofs.YtpbfmfhjgghldaaDoor
/- The document's own Parse: a chart that is being read, where it lies. -/
namespace Go.Proofs.YtpbfmfhjgghldaaDoor
open Go.RowKit Px

theorem Px.endR_dead {L : List Lx.Tok} (i st : Nat) (f : F) : endR L ⟨i, st, some f⟩ = ⟨i, st, some f⟩ := by
  rw [endR]; split <;> rfl
theorem Px.numberR_lt {L : List Lx.Tok} (wf : Wf L) (σ : S) : (numberR L σ).1 < 1000000000000000000 := by
  rw [numberR]
  split
  · show 0 < _; omega
  · rw [number]
    by_cases hk : kd L σ.i = 2
    · obtain ⟨hd, hl, _⟩ := wf.num σ.i hk
      rw [if_pos hk]
      have h1 := val_lt (tx L σ.i) hd (tx L σ.i).length (Nat.le_refl _)
      rw [List.take_length] at h1
      have h2 : 10 ^ (tx L σ.i).length ≤ 10 ^ 18 := Nat.pow_le_pow_right (by omega) hl
      show val (tx L σ.i) < 1000000000000000000
      omega
    · rw [if_neg hk]; show 0 < _; omega
theorem Px.variableR_lt {L : List Lx.Tok} {n kind i st : Nat} (h : (variableR L n kind ⟨i, st, none⟩).2.bad = none) : n ≠ 20 ∧ i < (variableR L n kind ⟨i, st, none⟩).2.i := by
  by_cases hn : n = 20
  · subst hn; rw [variable_full] at h; exact absurd h (by simp)
  · refine ⟨hn, ?_⟩
    cases hp : variable_ L kind i with
    | error f => rw [(variable_sim n kind hn).err i st f hp] at h; exact absurd h (by simp)
    | ok q =>
      obtain ⟨a, j⟩ := q
      rw [(variable_sim n kind hn).ok i st a j hp]
      exact variable_lt hp
theorem Px.regionR_lt {L : List Lx.Tok} {k i st : Nat} (h : (regionR L k ⟨i, st, none⟩).2.bad = none) : i < (regionR L k ⟨i, st, none⟩).2.i := by
  cases hp : region L k st i with
  | error f => rw [(region_sim k).err i st f hp] at h; exact absurd h (by simp)
  | ok q =>
    obtain ⟨a, c, j⟩ := q
    rw [(region_sim k).ok i st a c j hp]
    exact region_lt _ _ _ _ _ _ hp
end Go.Proofs.YtpbfmfhjgghldaaDoor
/- draws: what both say of a text. -/
namespace Go.Proofs.YtpbfmfhjgghldaaDoor
open Go.RowKit Go.Sort Px

/-- a store of what is there changes nothing -/
theorem setCell_self {w : World} {b i : Nat} {v : Value} (h : w.cell? ⟨b, i, none⟩ = some v) : w.setCell ⟨b, i, none⟩ v = w := by
  obtain ⟨heap, tape, drawn, os, output⟩ := w
  have e : (World.setCell ⟨heap, tape, drawn, os, output⟩ ⟨b, i, none⟩ v).heap = heap := by
    apply Array.ext_getElem?
    intro k
    simp only [World.setCell, Array.getElem?_modify]
    split
    · rename_i hk
      subst hk
      simp only [World.cell?] at h
      split at h
      · rename_i c t fr hc
        rw [hc]
        simp at h
        simp only [Option.map_some, Option.some.injEq, Obj.cells.injEq, and_true]
        apply Array.ext_getElem?
        intro j
        simp only [Option.isSome_none, Bool.false_eq_true, ↓reduceIte]
        rw [Array.getElem?_setIfInBounds]
        split
        · rename_i hj
          subst hj
          rw [if_pos (Array.getElem?_eq_some_iff.1 h).1]; exact h.symm
        · rfl
      · exact absurd h (by simp)
    · rfl
  exact congrArg (fun x => (⟨x, tape, drawn, os, output⟩ : World)) e
/-- what may change of a world between -/
def Mid (B : Nat) (W W' : World) : Prop := W.heap.size ≤ W'.heap.size ∧ ∀ b, B + 2 ≤ b → b < W.heap.size → W'.heap[b]? = W.heap[b]?
theorem draws_mid2 {w w1 : World} {B : Nat} {a b c : Value} (hB : Below B w w1) (h0 : w1.heap[B]? = some (.cells #[.string ⟨#[]⟩, .slice none 0 0, .slice none 0 0] 26 (0, 0))) :
    ∃ W, W = ((w1.setCell ⟨B, 0, none⟩ a).setCell ⟨B, 1, none⟩ b).setCell ⟨B, 2, none⟩ c ∧ Below B w W ∧ W.heap.size = w1.heap.size ∧ W.heap[B]? = some (.cells #[a, b, c] 26 (0, 0)) ∧ (∀ k, k ≠ B → W.heap[k]? = w1.heap[k]?) := by
  have k2 := heap_setCell_same _ B 0 _ _ a h0
  have k3 := heap_setCell_same _ B 1 _ _ b k2
  have k4 := heap_setCell_same _ B 2 _ _ c k3
  refine ⟨_, rfl, ((hB.setCell (by simp) _).setCell (by simp) _).setCell (by simp) _, by simp, k4, fun k hk => ?_⟩
  rw [heap_setCell_other _ _ _ _ (by simpa using hk), heap_setCell_other _ _ _ _ (by simpa using hk), heap_setCell_other _ _ _ _ (by simpa using hk)]

end Go.Proofs.YtpbfmfhjgghldaaDoor
/- The document's own Parse: the walk. -/
namespace Go.Proofs.YtpbfmfhjgghldaaDoor
open Go.RowKit Px

def RPost (w : World) (R : (Str × List Decl × List (List (St 6))) × S) (e : Ending) (w' : World) : Prop :=
  ∃ v, e = .returned (.tuple #[v, .agg #[errV R.2.bad, plV R.2.bad]]) ∧ (R.2.bad = none → IsChart (Ge w.heap.size) w' ⟨R.1.1, R.1.2.1, R.1.2.2⟩ v) ∧ (R.2.bad ≠ none → v = .agg ZC) ∧ Below w.heap.size w w'

theorem keep_set {w3 W : World} {cb B c e : Nat} (hc : c < cb) (he : e < cb) (hB : B ≤ cb) (z2 : ∀ k, k ≠ c → k ≠ e → W.heap[k]? = w3.heap[k]?) : Keep (Ge (cb + 1)) (Ge B) w3 W.drew := fun b hb _ => by
  unfold Ge at *
  exact ⟨by omega, z2 b (by omega) (by omega)⟩

end Go.Proofs.YtpbfmfhjgghldaaDoor
