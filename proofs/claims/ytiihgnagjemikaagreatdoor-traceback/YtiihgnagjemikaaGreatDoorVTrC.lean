/- chapter 14, plain: the library's fields are words. -/
import Derived.Test.YtiihgnagjemikaaGreatDoorVTrA
import Derived.Shelf.Strings.BuilderK
import Derived.Shelf.Strings.BuilderRune
import Derived.Shelf.Strconv.Itoa4
import Derived.Shelf.Strconv.ParseIntPublic10
import Derived.Shelf.Strings.Cut
import Derived.Shelf.Strings.Prefix
import Derived.Shelf.Strings.Split
import Derived.Shelf.Strings.FieldsFuncAny
import Derived.Lib.LaidTab
import Derived.Lib.AtoiErrMem
import Derived.Test.YtiihgnagjemikaaGreatDoorRows
import Derived.Test.YtiihgnagjemikaaGreatDoorProg
import Derived.Test.YtiihgnagjemikaaGreatDoorVPint
import Derived.Test.YtiihgnagjemikaaGreatDoorVUk
import Derived.WalkKit
import Derived.WalkSpells
import Derived.WalkLawsBesides
import Derived.Below
namespace Go.Proofs.YtiihgnagjemikaaGreatDoor
namespace Tq
open Go.Lib
/-- what a rune's bytes are -/
theorem rune_bytes (s : ByteArray) (pos : Nat) (h : pos < s.size) :
    pos + (Utf8.decode s pos).2 ≤ s.size ∧ 1 ≤ (Utf8.decode s pos).2 ∧
    (((Utf8.decode s pos).1 = 32 ∧ s.data.toList.drop pos = 32 :: s.data.toList.drop (pos + (Utf8.decode s pos).2)) ∨
     ((Utf8.decode s pos).1 ≠ 32 ∧ (32 : UInt8) ∉ (s.data.toList.drop pos).take (Utf8.decode s pos).2)) := by
  have hlen : s.data.toList.length = s.size := (size_eq s).symm
  have hle : pos + (Utf8.decode s pos).2 ≤ s.size := by
    have := decodeN_le_n' (s.size - pos) (s.get! pos).toNat (s.get! (pos + 1)).toNat (s.get! (pos + 2)).toNat (s.get! (pos + 3)).toNat (by omega)
    rw [← decode_at] at this
    omega
  have hg : ∀ j, pos + j < s.size → s.data.toList[pos + j]? = some (s.get! (pos + j)) := fun j hj => by
    have e : s.get! (pos + j) = s.data[pos + j]! := rfl
    rw [e, Array.getElem?_toList, getElem!_pos s.data (pos + j) hj, Array.getElem?_eq_getElem hj]
  refine ⟨hle, width_pos s pos, ?_⟩
  have hc := decodeN_conts (s.size - pos) (s.get! pos).toNat (s.get! (pos + 1)).toNat (s.get! (pos + 2)).toNat (s.get! (pos + 3)).toNat
  have hk := decodeN_cases (s.size - pos) (s.get! pos).toNat (s.get! (pos + 1)).toNat (s.get! (pos + 2)).toNat (s.get! (pos + 3)).toNat
  rw [← decode_at] at hc hk
  by_cases hb : (s.get! pos).toNat = 32
  · left
    rcases hk with ⟨_, e⟩ | ⟨e0, _⟩ | ⟨e0, _⟩ | hk
    · rw [e]
      refine ⟨hb, ?_⟩
      have := hg 0 h
      simp only [Nat.add_zero] at this
      have e32 : s.get! pos = 32 := UInt8.toNat_inj.1 hb
      rw [e32] at this
      exact drop_at this
    · omega
    · omega
    · exfalso
      have : Utf8.decode s pos = (32, 1) := by
        rw [decode_at, decodeN_ascii _ _ _ _ _ (by omega), hb]
      rw [this] at hk
      simp at hk
  · right
    refine ⟨?_, ?_⟩
    · rcases hk with ⟨_, e⟩ | ⟨_, _, _, e0, e⟩ | ⟨_, _, _, _, e0, e⟩ | ⟨e, _⟩ | e
      · rw [e]; exact hb
      · rw [e]; simp only; omega
      · rw [e]; simp only; omega
      · omega
      · rw [e]; simp
    · intro hm
      obtain ⟨j, hj, e⟩ := List.mem_iff_getElem.1 hm
      have hj2 : j < (Utf8.decode s pos).2 := by
        have := List.length_take_le (Utf8.decode s pos).2 (s.data.toList.drop pos); omega
      have e2 : s.data.toList[pos + j]? = some 32 := by
        rw [← e, List.getElem_take, List.getElem_drop, List.getElem?_eq_getElem]
      rw [hg j (by omega)] at e2
      have e3 : (s.get! (pos + j)).toNat = 32 := by rw [Option.some.inj e2]; rfl
      match j, hj2, e3 with
      | 0, _, e3 => exact hb e3
      | 1, hj2, e3 => have := (hc.1 (by omega)).1; omega
      | 2, hj2, e3 => have := (hc.2.1 (by omega)).1; omega
      | 3, hj2, e3 => have := (hc.2.2.1 (by omega)).1; omega
      | k + 4, hj2, _ => have := hc.2.2.2; omega
def isBl (r : Nat) : Bool := decide (r = 32)
theorem spans_wl (s : ByteArray) : ∀ (f pos : Nat) (st : Option Nat) (acc : List (Nat × Nat)), s.size ≤ pos + f → pos ≤ s.size → (∀ a, st = some a → a < pos) →
    (closeSpans s (spansFromP isBl s f pos st acc)).map (fun p => pieceU s.data.toList p.1 p.2) = acc.map (fun p => pieceU s.data.toList p.1 p.2) ++ wl (openPiece s.data.toList st pos) (s.data.toList.drop pos)
  | f, pos, st, acc, h, hp, hst => by
    have hlen : s.data.toList.length = s.size := (size_eq s).symm
    by_cases hlt : pos < s.size
    · cases f with
      | zero => omega
      | succ f =>
        obtain ⟨h1, h2, h3⟩ := rune_bytes s pos hlt
        unfold spansFromP
        rw [if_pos hlt]
        rcases h3 with ⟨e, hd⟩ | ⟨e, hn⟩
        · have hb : isBl (Utf8.decode s pos).1 = true := by simp [isBl, e]
          rw [if_pos hb, hd, wl, if_pos rfl]
          cases st with
          | none =>
            rw [spans_wl s f _ none acc (by omega) h1 (fun a h => by cases h)]
            simp [openPiece]
          | some a =>
            have hne := pieceU_ne s.data.toList a pos (hst a rfl) (by omega)
            show (closeSpans s (spansFromP isBl s f (pos + (Utf8.decode s pos).2) none (acc ++ [(a, pos)]))).map _ = _
            rw [spans_wl s f _ none (acc ++ [(a, pos)]) (by omega) h1 (fun a h => by cases h)]
            simp [openPiece, hne]
        · have hb : ¬ isBl (Utf8.decode s pos).1 = true := by simp [isBl, e]
          have hd : s.data.toList.drop pos = (s.data.toList.drop pos).take (Utf8.decode s pos).2 ++ s.data.toList.drop (pos + (Utf8.decode s pos).2) := by
            conv => lhs; rw [← List.take_append_drop (Utf8.decode s pos).2 (s.data.toList.drop pos)]
            rw [List.drop_drop]
          rw [if_neg hb]
          conv => rhs; rw [hd, wl_run _ _ _ hn]
          cases st with
          | none =>
            show (closeSpans s (spansFromP isBl s f (pos + (Utf8.decode s pos).2) (some pos) acc)).map _ = _
            rw [spans_wl s f _ (some pos) acc (by omega) h1 (fun a h => by cases h; omega)]
            simp only [openPiece, List.nil_append]
            congr 2
            unfold pieceU
            rw [Nat.add_sub_cancel_left]
          | some a =>
            show (closeSpans s (spansFromP isBl s f (pos + (Utf8.decode s pos).2) (some a) acc)).map _ = _
            rw [spans_wl s f _ (some a) acc (by omega) h1 (fun b h => by cases h; have := hst a rfl; omega)]
            simp only [openPiece]
            rw [pieceU_grow _ _ _ _ (Nat.le_of_lt (hst a rfl))]
    · obtain rfl : pos = s.size := by omega
      rw [spansFromP_end _ _ _ _ _ _ hlt, List.drop_eq_nil_of_le (by omega), wl]
      cases st with
      | none => simp [closeSpans, openPiece]
      | some a =>
        have hne := pieceU_ne s.data.toList a s.size (hst a rfl) (by omega)
        simp [closeSpans, openPiece, hne]
/-- the program's words -/
theorem words_fields (s : ByteArray) : (goFieldsP isBl s).map (·.data.toList) = wordsT s.data.toList := by
  have h := spans_wl s s.size 0 none [] (by omega) (Nat.zero_le _) (fun a h => by cases h)
  simp only [List.map_nil, List.nil_append, openPiece, List.drop_zero] at h
  unfold wordsT goFieldsP spansOfP
  rw [← h, List.map_map]
  congr 1
  funext p
  simp [pieceU]
/-- what a word is the number of -/
def numW (w : By) : Option Int := match parseIntB 64 w with | .ok v => if itoa v = w then some v else none | _ => none
def numsW : List By → Option (List Int)
  | [] => some []
  | x :: t => match numW x, numsW t with | some v, some l => some (v :: l) | _, _ => none
/-- lines from line i on -/
def rdT : Nat → List By → Except (Int × Int) (List (List Int))
  | _, [] => .ok []
  | i, l :: r => match numsW (wordsT l) with
    | none => .error (3, i)
    | some t => if i = 60 then .error (4, -1) else match rdT (i + 1) r with | .ok x => .ok (t :: x) | .error e => .error e
def readT (s : By) : Except (Int × Int) (List (List Int)) := rdT 0 (linesT s)
theorem numW_bounds {w : By} {v : Int} (h : numW w = some v) : -9223372036854775808 ≤ v ∧ v ≤ 9223372036854775807 ∧ parseIntB 64 w = .ok v ∧ itoa v = w := by
  unfold numW at h
  split at h
  · rename_i u e
    split at h
    · rename_i e2
      obtain rfl := Option.some.inj h
      have := parseIntB_bounds e
      simp at this
      exact ⟨this.1, by omega, e, e2⟩
    · simp at h
  · simp at h
end Tq
end Go.Proofs.YtiihgnagjemikaaGreatDoor
/- the library's contracts that traces call, at this program: laid, no walk. -/
namespace Go.Proofs
open Go.Shelf
def Tryz.lays169_ren : Go.Shelf.Ren := ⟨fun | 169 => 16 | n => n, fun | 70 => 49 | 9 => 9 | 0 => 0 | 72 => 52 | 37 => 50 | 127 => 75 | 3 => 3 | 5 => 5 | n => n, fun | n => n⟩
theorem Tryz.lays169 : Go.Proofs.Lays.n169 Tryz.prog Tryz.lays169_ren := {
  mixed := by kernel_rfl
  f169 := Tryz.func16.trans (congrArg some (by kernel_rfl))
  t0 := Tryz.underlying0
  a0 := Tryz.isAgg0
  z0 := Tryz.sizeOf0
  v0 := Tryz.zeroValue0
  t3 := Tryz.underlying3
  a3 := Tryz.isAgg3
  z3 := Tryz.sizeOf3
  v3 := Tryz.zeroValue3
  t9 := Tryz.underlying9
  a9 := Tryz.isAgg9
  z9 := Tryz.sizeOf9
  v9 := Tryz.zeroValue9
  t37 := Tryz.underlying50
  a37 := Tryz.isAgg50
  z37 := Tryz.sizeOf50
  v37 := Tryz.zeroValue50
  t70 := Tryz.underlying49
  a70 := Tryz.isAgg49
  z70 := Tryz.sizeOf49
  v70 := Tryz.zeroValue49
  t72 := Tryz.underlying52
  a72 := Tryz.isAgg52
  z72 := Tryz.sizeOf52
  v72 := Tryz.zeroValue52
  t127 := Tryz.underlying75
  a127 := Tryz.isAgg75
  z127 := Tryz.sizeOf75
  v127 := Tryz.zeroValue75 }
theorem Tryz.Builder_Extra_169 : Builder.Extra Tryz.prog Tryz.lays169_ren := {
  sizeBuilder := by kernel_rfl
  liesBuilder := by kernel_rfl
  t5 := Tryz.underlying5
  a5 := Tryz.isAgg5
  z5 := Tryz.sizeOf5
  v5 := Tryz.zeroValue5
  infoByte := by kernel_rfl
  cellsByte := by kernel_rfl
  sizeByte := by kernel_rfl
  neB5 := by decide }
open Go.RowKit Go.Lib Go.Sort in
theorem Tryz.Builder_String_any_k (B b : Nat) (l : List UInt8) (w : World) (h : Lib.IsBuilderF 52 5 B b (Lib.byteCells l) w) (hBw : B ≤ w.heap.size) :
    Calls Tryz.prog 16 #[.pointer (some ⟨b, 0, none⟩)] w fun e w' => e = .returned (.string ⟨l.toArray⟩) ∧ (Lib.IsBuilderF 52 5 B b (Lib.byteCells l) w' ∧ Below B w w' ∧ Lib.OthersKept 5 (some b) w w') := Any.Builder_String_any_k Tryz.lays169 Tryz.Builder_Extra_169 B b l w h hBw
def Tryz.laysM173_ren : Go.Shelf.Ren := ⟨fun | 173 => 15 | 246 => 29 | 283 => 49 | 284 => 50 | 285 => 51 | 286 => 52 | 129 => 82 | 317 => 81 | 318 => 83 | 319 => 84 | 320 => 85 | 337 => 116 | 338 => 117 | n => n, fun | 2 => 2 | 3 => 3 | 9 => 9 | 4 => 4 | 171 => 114 | 0 => 0 | 53 => 115 | 37 => 50 | 5 => 5 | 173 => 118 | 212 => 156 | 51 => 113 | 20 => 20 | 213 => 157 | 46 => 150 | 232 => 214 | 233 => 215 | n => n, fun | 17 => 0 | 18 => 7 | 19 => 8 | n => n⟩
theorem Tryz.laysM173 : Go.Proofs.LaysM.n173 Tryz.prog Tryz.laysM173_ren := {
  mixed := by kernel_rfl
  f129 := Tryz.func82.trans (congrArg some (by kernel_rfl))
  f173 := Tryz.func15.trans (congrArg some (by kernel_rfl))
  f246 := Tryz.func29.trans (congrArg some (by kernel_rfl))
  f283 := Tryz.func49.trans (congrArg some (by kernel_rfl))
  f284 := Tryz.func50.trans (congrArg some (by kernel_rfl))
  f285 := Tryz.func51.trans (congrArg some (by kernel_rfl))
  f286 := Tryz.func52.trans (congrArg some (by kernel_rfl))
  f317 := Tryz.func81.trans (congrArg some (by kernel_rfl))
  f318 := Tryz.func83.trans (congrArg some (by kernel_rfl))
  f319 := Tryz.func84.trans (congrArg some (by kernel_rfl))
  f320 := Tryz.func85.trans (congrArg some (by kernel_rfl))
  f337 := Tryz.func116.trans (congrArg some (by kernel_rfl))
  f338 := Tryz.func117.trans (congrArg some (by kernel_rfl))
  t0 := Tryz.underlying0
  a0 := Tryz.isAgg0
  z0 := Tryz.sizeOf0
  v0 := Tryz.zeroValue0
  t2 := Tryz.underlying2
  a2 := Tryz.isAgg2
  z2 := Tryz.sizeOf2
  v2 := Tryz.zeroValue2
  t3 := Tryz.underlying3
  a3 := Tryz.isAgg3
  z3 := Tryz.sizeOf3
  v3 := Tryz.zeroValue3
  t4 := Tryz.underlying4
  a4 := Tryz.isAgg4
  z4 := Tryz.sizeOf4
  v4 := Tryz.zeroValue4
  t5 := Tryz.underlying5
  a5 := Tryz.isAgg5
  z5 := Tryz.sizeOf5
  v5 := Tryz.zeroValue5
  t9 := Tryz.underlying9
  a9 := Tryz.isAgg9
  z9 := Tryz.sizeOf9
  v9 := Tryz.zeroValue9
  t20 := Tryz.underlying20
  a20 := Tryz.isAgg20
  z20 := Tryz.sizeOf20
  v20 := Tryz.zeroValue20
  t37 := Tryz.underlying50
  a37 := Tryz.isAgg50
  z37 := Tryz.sizeOf50
  v37 := Tryz.zeroValue50
  t46 := Tryz.underlying150
  a46 := Tryz.isAgg150
  z46 := Tryz.sizeOf150
  v46 := Tryz.zeroValue150
  t51 := Tryz.underlying113
  a51 := Tryz.isAgg113
  z51 := Tryz.sizeOf113
  v51 := Tryz.zeroValue113
  t53 := Tryz.underlying115
  a53 := Tryz.isAgg115
  z53 := Tryz.sizeOf115
  v53 := Tryz.zeroValue115
  t171 := Tryz.underlying114
  a171 := Tryz.isAgg114
  z171 := Tryz.sizeOf114
  v171 := Tryz.zeroValue114
  t173 := Tryz.underlying118
  a173 := Tryz.isAgg118
  z173 := Tryz.sizeOf118
  v173 := Tryz.zeroValue118
  t212 := Tryz.underlying156
  a212 := Tryz.isAgg156
  z212 := Tryz.sizeOf156
  v212 := Tryz.zeroValue156
  t213 := Tryz.underlying157
  a213 := Tryz.isAgg157
  z213 := Tryz.sizeOf157
  t232 := Tryz.underlying214
  a232 := Tryz.isAgg214
  z232 := Tryz.sizeOf214
  v232 := Tryz.zeroValue214
  t233 := Tryz.underlying215
  a233 := Tryz.isAgg215
  z233 := Tryz.sizeOf215
  v233 := Tryz.zeroValue215
  g17 := by kernel_rfl
  g18 := by kernel_rfl
  g19 := by kernel_rfl
  i0 := by kernel_rfl
  i2 := by kernel_rfl
  i3 := by kernel_rfl
  i4 := by kernel_rfl
  i5 := by kernel_rfl
  i9 := by kernel_rfl
  i20 := by kernel_rfl
  i37 := by kernel_rfl
  i46 := by kernel_rfl
  i51 := by kernel_rfl
  i53 := by kernel_rfl
  i171 := by kernel_rfl
  i173 := by kernel_rfl
  i212 := by kernel_rfl
  i232 := by kernel_rfl
  i233 := by kernel_rfl
  m17 := by kernel_rfl
  m18 := by kernel_rfl
  m19 := by kernel_rfl }
open Go.RowKit Go.Lib Go.Sort in
theorem Tryz.strconv_FormatInt_10 (n : Int) (h0 : -9223372036854775808 ≤ n) (h1 : n ≤ 9223372036854775807) (w : World) (htab : Lib.TabIs Tryz.prog w "internal/strconv.uint64pow10" .u64 Lib.pow10Tab) :
    Calls Tryz.prog 15 #[.int .i64 n, .int .i64 10] w fun e w' => e = .returned (.string ⟨(Lib.itoa n).toArray⟩) ∧ ∃ k os, w' = grow (w.drewN k) os := Any.strconv_FormatInt_10 Tryz.laysM173 n h0 h1 w htab
open Go.RowKit Go.Lib Go.Sort in
theorem Tryz.strconv_ParseInt_10_at64_syntax (s : ByteArray) (hlim : s.size ≤ 281474976710656) (h : Lib.parseIntB 64 s.data.toList = .«syntax») (ev : Value) (w : World) (hv : w.cell? ⟨4, 0, none⟩ = some ev) (hev : ev = .nilIface ∨ ∃ te pe, ev = .iface te pe) :
    Calls Tryz.prog 26 #[.string s, .int .i64 10, .int .i64 64] w fun e w' => ∃ N, e = .returned (.tuple #[.int .i64 (0), .iface 151 (.pointer (some ⟨N, 0, none⟩))]) ∧ w.heap.size ≤ N ∧ w'.heap[N]? = some (.cells #[.string ⟨#[80, 97, 114, 115, 101, 73, 110, 116]⟩, .string s, ev] 191 (0, 0)) ∧ Below w.heap.size w w' := Any.strconv_ParseInt_10_at64_syntax Tryz.laysC174 s hlim h ev w hv hev
open Go.RowKit Go.Lib Go.Sort in
theorem Tryz.strconv_ParseInt_10_at64_range (s : ByteArray) (hlim : s.size ≤ 281474976710656) (h : Lib.parseIntB 64 s.data.toList = .range) (ev : Value) (w : World) (hv : w.cell? ⟨5, 0, none⟩ = some ev) (hev : ev = .nilIface ∨ ∃ te pe, ev = .iface te pe) :
    Calls Tryz.prog 26 #[.string s, .int .i64 10, .int .i64 64] w fun e w' => ∃ N, e = .returned (.tuple #[.int .i64 (Lib.intSat 64 s.data.toList), .iface 151 (.pointer (some ⟨N, 0, none⟩))]) ∧ w.heap.size ≤ N ∧ w'.heap[N]? = some (.cells #[.string ⟨#[80, 97, 114, 115, 101, 73, 110, 116]⟩, .string s, ev] 191 (0, 0)) ∧ Below w.heap.size w w' := Any.strconv_ParseInt_10_at64_range Tryz.laysC174 s hlim h ev w hv hev
def Tryz.lays145_ren : Go.Shelf.Ren := ⟨fun | 145 => 23 | 220 => 44 | 219 => 75 | 217 => 108 | 225 => 109 | 224 => 110 | 267 => 111 | 266 => 131 | 314 => 132 | n => n, fun | 9 => 9 | 4 => 4 | 59 => 67 | 3 => 3 | 5 => 5 | 46 => 150 | 146 => 209 | 51 => 113 | n => n, fun | 1 => 3 | n => n⟩
theorem Tryz.lays145 : Go.Proofs.Lays.n145 Tryz.prog Tryz.lays145_ren := {
  mixed := by kernel_rfl
  f145 := Tryz.func23.trans (congrArg some (by kernel_rfl))
  f217 := Tryz.func108.trans (congrArg some (by kernel_rfl))
  f219 := Tryz.func75.trans (congrArg some (by kernel_rfl))
  f220 := Tryz.func44.trans (congrArg some (by kernel_rfl))
  f224 := Tryz.func110.trans (congrArg some (by kernel_rfl))
  f225 := Tryz.func109.trans (congrArg some (by kernel_rfl))
  f266 := Tryz.func131.trans (congrArg some (by kernel_rfl))
  f267 := Tryz.func111.trans (congrArg some (by kernel_rfl))
  f314 := Tryz.func132.trans (congrArg some (by kernel_rfl))
  t3 := Tryz.underlying3
  a3 := Tryz.isAgg3
  z3 := Tryz.sizeOf3
  v3 := Tryz.zeroValue3
  t4 := Tryz.underlying4
  a4 := Tryz.isAgg4
  z4 := Tryz.sizeOf4
  v4 := Tryz.zeroValue4
  t5 := Tryz.underlying5
  a5 := Tryz.isAgg5
  z5 := Tryz.sizeOf5
  v5 := Tryz.zeroValue5
  t9 := Tryz.underlying9
  a9 := Tryz.isAgg9
  z9 := Tryz.sizeOf9
  v9 := Tryz.zeroValue9
  t46 := Tryz.underlying150
  a46 := Tryz.isAgg150
  z46 := Tryz.sizeOf150
  v46 := Tryz.zeroValue150
  t51 := Tryz.underlying113
  a51 := Tryz.isAgg113
  z51 := Tryz.sizeOf113
  v51 := Tryz.zeroValue113
  t59 := Tryz.underlying67
  a59 := Tryz.isAgg67
  z59 := Tryz.sizeOf67
  v59 := Tryz.zeroValue67
  t146 := Tryz.underlying209
  a146 := Tryz.isAgg209
  z146 := Tryz.sizeOf209
  v146 := Tryz.zeroValue209
  g1 := by kernel_rfl }
open Go.RowKit Go.Lib Go.Sort in
theorem Tryz.strings_Cut (s sep : ByteArray) (m : Int) (w : World) (hs : s.size < 4294967281) (hm : w.cell? ⟨3, 0, none⟩ = some (.int .i64 m)) :
    Calls Tryz.prog 23 #[.string s, .string sep] w fun e w' => e = .returned (.tuple #[.string ⟨(Lib.cut s.data.toList sep.data.toList).1.toArray⟩, .string ⟨(Lib.cut s.data.toList sep.data.toList).2.1.toArray⟩, .bool (Lib.cut s.data.toList sep.data.toList).2.2]) ∧ ∃ n, w' = w.drewN n := Any.strings_Cut Tryz.lays145 s sep m w hs hm
def Tryz.lays229_ren : Go.Shelf.Ren := ⟨fun | 229 => 24 | n => n, fun | 9 => 9 | 40 => 71 | 31 => 69 | 152 => 107 | 3 => 3 | 0 => 0 | 4 => 4 | 21 => 21 | 154 => 109 | n => n, fun | n => n⟩
theorem Tryz.lays229 : Go.Proofs.Lays.n229 Tryz.prog Tryz.lays229_ren := {
  mixed := by kernel_rfl
  f229 := Tryz.func24.trans (congrArg some (by kernel_rfl))
  t0 := Tryz.underlying0
  a0 := Tryz.isAgg0
  z0 := Tryz.sizeOf0
  v0 := Tryz.zeroValue0
  t3 := Tryz.underlying3
  a3 := Tryz.isAgg3
  z3 := Tryz.sizeOf3
  v3 := Tryz.zeroValue3
  t4 := Tryz.underlying4
  a4 := Tryz.isAgg4
  z4 := Tryz.sizeOf4
  v4 := Tryz.zeroValue4
  t9 := Tryz.underlying9
  a9 := Tryz.isAgg9
  z9 := Tryz.sizeOf9
  v9 := Tryz.zeroValue9
  t21 := Tryz.underlying21
  a21 := Tryz.isAgg21
  z21 := Tryz.sizeOf21
  v21 := Tryz.zeroValue21
  t31 := Tryz.underlying69
  a31 := Tryz.isAgg69
  z31 := Tryz.sizeOf69
  v31 := Tryz.zeroValue69
  t40 := Tryz.underlying71
  a40 := Tryz.isAgg71
  z40 := Tryz.sizeOf71
  v40 := Tryz.zeroValue71
  t152 := Tryz.underlying107
  a152 := Tryz.isAgg107
  z152 := Tryz.sizeOf107
  v152 := Tryz.zeroValue107
  t154 := Tryz.underlying109
  a154 := Tryz.isAgg109
  z154 := Tryz.sizeOf109
  v154 := Tryz.zeroValue109 }
open Go.RowKit Go.Lib Go.Sort in
theorem Tryz.strings_FieldsFunc_runes (g : Nat) (lb : Array Value) (eg : ∀ args w, (callFunc g args).run Tryz.prog w = .ok (.enter g args) w) (p : Nat → Bool) (s : ByteArray) (w : World) (hs : s.size ≤ 4294967296) (hp : PredAtRunes Tryz.prog g lb p w) :
    Calls Tryz.prog 24 #[.string s, .func (.func g) #[] lb] w fun e w' => ∃ A, e = .returned (.slice (some ⟨A, 0, none⟩) (Lib.goFieldsP p s).length (Lib.goFieldsP p s).length) ∧ w.heap.size ≤ A ∧
      w'.ownsRow w.heap.size 9 1 (.slice (some ⟨A, 0, none⟩) (Lib.goFieldsP p s).length (Lib.goFieldsP p s).length) (Lib.goFieldsP p s).length ((Lib.goFieldsP p s).map Value.string) ∧ Below w.heap.size w w' := Any.strings_FieldsFunc_runes Tryz.lays229 g lb eg p s w hs hp (by kernel_rfl) (by kernel_rfl)
def Tryz.lays166_ren : Go.Shelf.Ren := ⟨fun | 166 => 14 | 240 => 27 | 276 => 47 | n => n, fun | 0 => 0 | 3 => 3 | 4 => 4 | 5 => 5 | 9 => 9 | 20 => 20 | 37 => 50 | 70 => 49 | 72 => 52 | 75 => 26 | 80 => 57 | 164 => 111 | n => n, fun | n => n⟩
theorem Tryz.lays166 : Go.Proofs.Lays.n166 Tryz.prog Tryz.lays166_ren := {
  mixed := by kernel_rfl
  f166 := Tryz.func14.trans (congrArg some (by kernel_rfl))
  f240 := Tryz.func27.trans (congrArg some (by kernel_rfl))
  f276 := Tryz.func47.trans (congrArg some (by kernel_rfl))
  t0 := Tryz.underlying0
  a0 := Tryz.isAgg0
  z0 := Tryz.sizeOf0
  v0 := Tryz.zeroValue0
  t3 := Tryz.underlying3
  a3 := Tryz.isAgg3
  z3 := Tryz.sizeOf3
  v3 := Tryz.zeroValue3
  t4 := Tryz.underlying4
  a4 := Tryz.isAgg4
  z4 := Tryz.sizeOf4
  v4 := Tryz.zeroValue4
  t9 := Tryz.underlying9
  a9 := Tryz.isAgg9
  z9 := Tryz.sizeOf9
  v9 := Tryz.zeroValue9
  t20 := Tryz.underlying20
  a20 := Tryz.isAgg20
  z20 := Tryz.sizeOf20
  v20 := Tryz.zeroValue20
  t37 := Tryz.underlying50
  a37 := Tryz.isAgg50
  z37 := Tryz.sizeOf50
  v37 := Tryz.zeroValue50
  t70 := Tryz.underlying49
  a70 := Tryz.isAgg49
  z70 := Tryz.sizeOf49
  v70 := Tryz.zeroValue49
  t72 := Tryz.underlying52
  a72 := Tryz.isAgg52
  z72 := Tryz.sizeOf52
  v72 := Tryz.zeroValue52
  t75 := Tryz.underlying26
  a75 := Tryz.isAgg26
  z75 := Tryz.sizeOf26
  v75 := Tryz.zeroValue26
  t164 := Tryz.underlying111
  a164 := Tryz.isAgg111
  z164 := Tryz.sizeOf111
  v164 := Tryz.zeroValue111 }
theorem Tryz.Builder_Extra_166 : Builder.Extra Tryz.prog Tryz.lays166_ren := {
  sizeBuilder := by kernel_rfl
  liesBuilder := by kernel_rfl
  t5 := Tryz.underlying5
  a5 := Tryz.isAgg5
  z5 := Tryz.sizeOf5
  v5 := Tryz.zeroValue5
  infoByte := by kernel_rfl
  cellsByte := by kernel_rfl
  sizeByte := by kernel_rfl
  neB5 := by decide }
def Tryz.lays168_ren : Go.Shelf.Ren := ⟨fun | 168 => 13 | 240 => 27 | 242 => 28 | 276 => 47 | 278 => 48 | n => n, fun | 0 => 0 | 3 => 3 | 4 => 4 | 5 => 5 | 9 => 9 | 20 => 20 | 21 => 21 | 37 => 50 | 46 => 150 | 51 => 113 | 70 => 49 | 72 => 52 | 75 => 26 | 80 => 57 | 164 => 111 | n => n, fun | n => n⟩
theorem Tryz.lays168 : Go.Proofs.Lays.n168 Tryz.prog Tryz.lays168_ren := {
  mixed := by kernel_rfl
  f168 := Tryz.func13.trans (congrArg some (by kernel_rfl))
  f240 := Tryz.func27.trans (congrArg some (by kernel_rfl))
  f242 := Tryz.func28.trans (congrArg some (by kernel_rfl))
  f276 := Tryz.func47.trans (congrArg some (by kernel_rfl))
  f278 := Tryz.func48.trans (congrArg some (by kernel_rfl))
  t0 := Tryz.underlying0
  a0 := Tryz.isAgg0
  z0 := Tryz.sizeOf0
  v0 := Tryz.zeroValue0
  t3 := Tryz.underlying3
  a3 := Tryz.isAgg3
  z3 := Tryz.sizeOf3
  v3 := Tryz.zeroValue3
  t4 := Tryz.underlying4
  a4 := Tryz.isAgg4
  z4 := Tryz.sizeOf4
  v4 := Tryz.zeroValue4
  t5 := Tryz.underlying5
  a5 := Tryz.isAgg5
  z5 := Tryz.sizeOf5
  v5 := Tryz.zeroValue5
  t9 := Tryz.underlying9
  a9 := Tryz.isAgg9
  z9 := Tryz.sizeOf9
  v9 := Tryz.zeroValue9
  t20 := Tryz.underlying20
  a20 := Tryz.isAgg20
  z20 := Tryz.sizeOf20
  v20 := Tryz.zeroValue20
  t21 := Tryz.underlying21
  a21 := Tryz.isAgg21
  z21 := Tryz.sizeOf21
  v21 := Tryz.zeroValue21
  t37 := Tryz.underlying50
  a37 := Tryz.isAgg50
  z37 := Tryz.sizeOf50
  v37 := Tryz.zeroValue50
  t46 := Tryz.underlying150
  a46 := Tryz.isAgg150
  z46 := Tryz.sizeOf150
  v46 := Tryz.zeroValue150
  t51 := Tryz.underlying113
  a51 := Tryz.isAgg113
  z51 := Tryz.sizeOf113
  v51 := Tryz.zeroValue113
  t70 := Tryz.underlying49
  a70 := Tryz.isAgg49
  z70 := Tryz.sizeOf49
  v70 := Tryz.zeroValue49
  t72 := Tryz.underlying52
  a72 := Tryz.isAgg52
  z72 := Tryz.sizeOf52
  v72 := Tryz.zeroValue52
  t75 := Tryz.underlying26
  a75 := Tryz.isAgg26
  z75 := Tryz.sizeOf26
  v75 := Tryz.zeroValue26
  t164 := Tryz.underlying111
  a164 := Tryz.isAgg111
  z164 := Tryz.sizeOf111
  v164 := Tryz.zeroValue111 }
theorem Tryz.Builder_Extra_168 : Builder.Extra Tryz.prog Tryz.lays168_ren := {
  sizeBuilder := by kernel_rfl
  liesBuilder := by kernel_rfl
  t5 := Tryz.underlying5
  a5 := Tryz.isAgg5
  z5 := Tryz.sizeOf5
  v5 := Tryz.zeroValue5
  infoByte := by kernel_rfl
  cellsByte := by kernel_rfl
  sizeByte := by kernel_rfl
  neB5 := by decide }
open Go.RowKit Go.Lib Go.Sort in
theorem Tryz.Builder_WriteString_k (B b : Nat) (bs : List Value) (s : ByteArray) (w : World) (h : Lib.IsBuilderF 52 5 B b bs w) (hlen : bs.length + s.size ≤ 140737488355328) (hBw : B ≤ w.heap.size) :
    Calls Tryz.prog 14 #[.pointer (some ⟨b, 0, none⟩), .string s] w fun e w' => e = .returned (.tuple #[.int .i64 s.size, .nilIface]) ∧ (Lib.BuilderAtF 52 5 B b (.pointer (some ⟨b, 0, none⟩)) (bs ++ Lib.strCells s) w' ∧ Below B w w' ∧ Lib.OthersKept 5 (some b) w w') := Any.Builder_WriteString_k Tryz.lays166 Tryz.Builder_Extra_166 B b bs s w h hlen hBw
open Go.RowKit Go.Lib Go.Sort in
theorem Tryz.Builder_WriteRune_k (B b : Nat) (bs : List Value) (r : Int) (hr0 : -2147483648 ≤ r) (hr1 : r ≤ 2147483647) (w : World) (h : Lib.IsBuilderF 52 5 B b bs w) (hlen : bs.length + 4 ≤ 140737488355328) (hBw : B ≤ w.heap.size) :
    Calls Tryz.prog 13 #[.pointer (some ⟨b, 0, none⟩), .int .i32 r] w fun e w' => e = .returned (.tuple #[.int .i64 (Lib.runeCells r).length, .nilIface]) ∧ (Lib.BuilderAtF 52 5 B b (.pointer (some ⟨b, 0, none⟩)) (bs ++ Lib.runeCells r) w' ∧ Below B w w' ∧ Lib.OthersKept 5 (some b) w w') := Any.Builder_WriteRune_k Tryz.lays168 Tryz.Builder_Extra_168 B b bs r hr0 hr1 w h hlen hBw
end Go.Proofs
/- What code is, what may be wrong with it, and what it tells: plain, no program in sight. -/
namespace Go.Proofs.YtiihgnagjemikaaGreatDoor
namespace Nx

structure Sp where
  code : Int
  dst : Int
  a : Int
  b : Int
  c : Int

structure Nt where
  places : Int
  first : List Int
  ins : List Int
  outs : List Int
  keeps : List Int
  nums : List Int
  code : List Sp

def sp0 : Sp := ⟨0, 0, 0, 0, 0⟩

/-- what stands at a place of a list; 0 if it has none there -/
def get (l : List Int) (i : Int) : Int := if 0 ≤ i then l.getD i.toNat 0 else 0
def put (l : List Int) (i x : Int) : List Int := if 0 ≤ i then l.set i.toNat x else l

theorem put_len (l : List Int) (i x : Int) : (put l i x).length = l.length := by unfold put; split <;> simp
theorem get_nat (l : List Int) (k : Nat) : get l k = l.getD k 0 := by unfold get; simp
theorem get_low (l : List Int) (i : Int) (h : i < 0) : get l i = 0 := by unfold get; rw [if_neg (by omega)]
theorem get_high (l : List Int) (i : Int) (h : (l.length : Int) ≤ i) : get l i = 0 := by
  unfold get
  split
  · rw [List.getD_eq_getElem?_getD, List.getElem?_eq_none (by omega)]; rfl
  · rfl
theorem get_in (l : List Int) (i : Int) (h0 : 0 ≤ i) : get l i = l.getD i.toNat 0 := by unfold get; rw [if_pos h0]
theorem put_in (l : List Int) (i x : Int) (h0 : 0 ≤ i) : put l i x = l.set i.toNat x := by unfold put; rw [if_pos h0]
theorem put_out (l : List Int) (i x : Int) (h : i < 0 ∨ (l.length : Int) ≤ i) : put l i x = l := by
  unfold put
  split
  · rw [List.set_eq_of_length_le (by omega)]
  · rfl
theorem get_put (l : List Int) (i j x : Int) : get (put l i x) j = if i = j ∧ 0 ≤ i ∧ i < l.length then x else get l j := by
  by_cases hj : 0 ≤ j
  · rw [get_in _ _ hj, get_in _ _ hj]
    by_cases hi : 0 ≤ i
    · rw [put_in _ _ _ hi]
      simp only [List.getD_eq_getElem?_getD, List.getElem?_set]
      by_cases e : i = j
      · subst e
        by_cases hl : i < l.length
        · rw [if_pos rfl, if_pos (by omega), if_pos ⟨rfl, hi, hl⟩]; rfl
        · rw [if_pos rfl, if_neg (by omega), if_neg (by omega), List.getElem?_eq_none (by omega)]
      · rw [if_neg (by omega), if_neg (by omega)]
    · rw [put_out _ _ _ (.inl (by omega)), if_neg (by omega)]
  · rw [get_low _ _ (by omega), get_low _ _ (by omega)]
    split
    · omega
    · rfl

def asks (s : Sp) : List Int :=
  if s.code = 2 ∨ s.code = 4 ∨ s.code = 5 then [s.a] else if 6 ≤ s.code ∧ s.code ≤ 16 then [s.a, s.b] else if s.code = 17 then [s.a, s.b, s.c] else []

def isPl (P p : Int) : Bool := decide (0 ≤ p) && decide (p < P)

/-- what is wrong with one step -/
def stepE (P : Int) (nums : Nat) (s : Sp) : Nat :=
  if s.code < 1 ∨ 17 < s.code ∨ s.code = 3 then 3
  else if ¬ (isPl P s.dst = true ∧ (asks s).all (isPl P) = true) then 2
  else if s.code = 1 ∧ ¬ (0 ≤ s.a ∧ s.a < nums) then 2
  else if ([s.a, s.b, s.c].drop (if s.code = 1 then 1 else (asks s).length)).any (· != 0) then 1 else 0

/-- what is wrong with all of code but its steps -/
def wholeE (n : Nt) : Nat :=
  if n.places < 0 ∨ 4000 < n.places ∨ 4000 < n.code.length ∨ 4000 < n.nums.length ∨ 4000 < n.ins.length + n.outs.length + n.keeps.length then 4
  else if (n.first.length : Int) ≠ n.places then 3
  else if ¬ (n.ins.all (isPl n.places) = true ∧ n.outs.all (isPl n.places) = true ∧ n.keeps.all (isPl n.places) = true) then 2
  else if ¬ n.ins.Nodup then 9 else 0

def stepsE (P : Int) (nums : Nat) : List Sp → Nat → Nat × Int
  | [], _ => (0, -1)
  | s :: r, i => if stepE P nums s = 0 then stepsE P nums r (i + 1) else (stepE P nums s, i)

/-- what is wrong with code, and where (-1: nowhere) -/
def check (n : Nt) : Nat × Int := if wholeE n = 0 then stepsE n.places n.nums.length n.code 0 else (wholeE n, -1)

theorem stepsE_drop (P : Int) (nums : Nat) (l : List Sp) (i k : Nat) (h : ∀ j, j < k → stepE P nums (l.getD j sp0) = 0) (hk : k ≤ l.length) : stepsE P nums l i = stepsE P nums (l.drop k) (i + k) := by
  induction k generalizing l i with
  | zero => simp
  | succ k ih =>
    cases l with
    | nil => simp at hk
    | cons s r =>
      have h0 : stepE P nums s = 0 := by simpa using h 0 (by omega)
      rw [stepsE, if_pos h0, ih r (i + 1) (fun j hj => by simpa using h (j + 1) (by omega)) (by simpa using hk)]
      simp only [List.drop_succ_cons]
      congr 1; omega
theorem stepsE_at (P : Int) (nums : Nat) (l : List Sp) (k : Nat) (h : ∀ j, j < k → stepE P nums (l.getD j sp0) = 0) (hk : k < l.length) (hb : stepE P nums (l.getD k sp0) ≠ 0) : stepsE P nums l 0 = (stepE P nums (l.getD k sp0), (k : Int)) := by
  rw [stepsE_drop P nums l 0 k h (by omega)]
  have e : l.drop k = l.getD k sp0 :: l.drop (k + 1) := by
    rw [List.drop_eq_getElem_cons hk]
    simp [List.getD_eq_getElem?_getD, hk]
  rw [e, stepsE, if_neg hb]; simp
theorem stepsE_fine (P : Int) (nums : Nat) (l : List Sp) (h : ∀ j, j < l.length → stepE P nums (l.getD j sp0) = 0) : stepsE P nums l 0 = (0, -1) := by
  rw [stepsE_drop P nums l 0 l.length h (by omega)]; simp [stepsE]

/-! what it tells -/
def insK (l ins V : List Int) : Nat → List Int
  | 0 => V
  | k + 1 => put (insK l ins V k) (l.getD k 0) (ins.getD k 0)

def made (nums V : List Int) (s : Sp) : Int :=
  if s.code = 1 then get nums s.a else if s.code = 2 then get V s.a else if s.code = 4 ∨ s.code = 5 then vOne s.code (get V s.a)
  else if s.code = 17 then vPick (get V s.a) (get V s.b) (get V s.c) else vTwo s.code (get V s.a) (get V s.b)

def codeK (nums : List Int) (cs : List Sp) (V : List Int) : Nat → List Int
  | 0 => V
  | k + 1 => put (codeK nums cs V k) (cs.getD k sp0).dst (made nums (codeK nums cs V k) (cs.getD k sp0))

def keepK (keeps V : List Int) : Nat → List Int
  | 0 => List.replicate V.length 0
  | k + 1 => put (keepK keeps V k) (keeps.getD k 0) (get V (keeps.getD k 0))

def ran (n : Nt) (V ins : List Int) : List Int := codeK n.nums n.code (insK n.ins ins V n.ins.length) n.code.length
def tells (n : Nt) (V ins : List Int) : List Int := n.outs.map (get (ran n V ins))
def after (n : Nt) (V ins : List Int) : List Int := keepK n.keeps (ran n V ins) n.keeps.length

theorem insK_len (l ins V : List Int) (k : Nat) : (insK l ins V k).length = V.length := by
  induction k with
  | zero => rfl
  | succ k ih => rw [insK, put_len, ih]
theorem codeK_len (nums : List Int) (cs : List Sp) (V : List Int) (k : Nat) : (codeK nums cs V k).length = V.length := by
  induction k with
  | zero => rfl
  | succ k ih => rw [codeK, put_len, ih]
theorem keepK_len (keeps V : List Int) (k : Nat) : (keepK keeps V k).length = V.length := by
  induction k with
  | zero => simp [keepK]
  | succ k ih => rw [keepK, put_len, ih]
theorem ran_len (n : Nt) (V ins : List Int) : (ran n V ins).length = V.length := by unfold ran; rw [codeK_len, insK_len]
theorem after_len (n : Nt) (V ins : List Int) : (after n V ins).length = V.length := by unfold after; rw [keepK_len, ran_len]
theorem tells_len (n : Nt) (V ins : List Int) : (tells n V ins).length = n.outs.length := by unfold tells; simp
theorem tells_at (n : Nt) (V ins : List Int) (k : Nat) (h : k < n.outs.length) : (n.outs.take (k + 1)).map (get (ran n V ins)) = (n.outs.take k).map (get (ran n V ins)) ++ [get (ran n V ins) (n.outs.getD k 0)] := by
  rw [List.take_succ_eq_append_getElem h, List.map_append]; simp [List.getD_eq_getElem?_getD, h]

end Nx
end Go.Proofs.YtiihgnagjemikaaGreatDoor
/- How code and what it runs on lie in memory. -/
namespace Go.Proofs.YtiihgnagjemikaaGreatDoor
open Go.RowKit
namespace Nx

/-- all old blocks below B but those of X are as they were -/
structure Fr (B : Nat) (X : List Nat) (w w' : World) : Prop where
  os : w'.os = w.os
  tape : w'.tape = w.tape
  output : w'.output = w.output
  size : w.heap.size ≤ w'.heap.size
  block : ∀ k, k < B → k ∉ X → w'.heap[k]? = w.heap[k]?
theorem Fr.refl (B : Nat) (X : List Nat) (w : World) : Fr B X w w := ⟨rfl, rfl, rfl, Nat.le_refl _, fun _ _ _ => rfl⟩
theorem Fr.trans {B : Nat} {X : List Nat} {a b c : World} (h : Fr B X a b) (k : Fr B X b c) : Fr B X a c :=
  ⟨k.os.trans h.os, k.tape.trans h.tape, k.output.trans h.output, Nat.le_trans h.size k.size, fun i hi hx => (k.block i hi hx).trans (h.block i hi hx)⟩
theorem Fr.mono {B B' : Nat} {X X' : List Nat} {w w' : World} (h : Fr B X w w') (hB : B' ≤ B) (hX : ∀ x ∈ X, x < B' → x ∈ X') : Fr B' X' w w' :=
  ⟨h.os, h.tape, h.output, h.size, fun k hk hx => h.block k (by omega) (fun hm => hx (hX k hm hk))⟩
theorem Fr.of_below {B : Nat} {w w' : World} (h : Below B w w') (X : List Nat) : Fr B X w w' := ⟨h.os, h.tape, h.output, h.size, fun k hk _ => h.block k hk⟩
theorem Fr.below {B : Nat} {w w' : World} (h : Fr B [] w w') : Below B w w' := ⟨h.os, h.tape, h.output, h.size, fun k hk => h.block k hk (by simp)⟩
theorem Fr.alloc {B : Nat} {X : List Nat} {a w : World} (h : Fr B X a w) (hB : B ≤ w.heap.size) (o : Obj) : Fr B X a (w.alloc o) :=
  h.trans ⟨rfl, rfl, rfl, by simp, fun k hk _ => Below.heap_alloc _ _ _ (by omega)⟩
theorem Fr.setCell {B : Nat} {X : List Nat} {a w : World} (h : Fr B X a w) {p : Addr} (hp : B ≤ p.block ∨ p.block ∈ X) (u : Value) : Fr B X a (w.setCell p u) :=
  h.trans ⟨rfl, rfl, rfl, by simp [World.setCell], fun k hk hx => Below.heap_setCell _ _ _ _ (fun e => by rcases hp with hp | hp; omega; exact hx (e ▸ hp))⟩
theorem Fr.drew {B : Nat} {X : List Nat} {a w : World} (h : Fr B X a w) : Fr B X a w.drew := ⟨h.os, h.tape, h.output, h.size, h.block⟩

theorem lt_of_block {w : World} {b : Nat} {o : Obj} (h : w.heap[b]? = some o) : b < w.heap.size := (Array.getElem?_eq_some_iff.1 h).1
theorem cell_of_block {w w' : World} {b : Nat} (h : w'.heap[b]? = w.heap[b]?) (o : Nat) : w'.cell? ⟨b, o, none⟩ = w.cell? ⟨b, o, none⟩ := by
  simp only [World.cell?, h]
theorem lt_of_cell {w : World} {b o : Nat} {v : Value} (h : w.cell? ⟨b, o, none⟩ = some v) : b < w.heap.size := by
  rcases Nat.lt_or_ge b w.heap.size with hl | hl
  · exact hl
  · simp [World.cell?, Array.getElem?_eq_none hl] at h

/-- what lies in blocks of those lies there still, in blocks of these -/
def Keep (A A' : Nat → Prop) (w w' : World) : Prop := ∀ b, A b → b < w.heap.size → A' b ∧ w'.heap[b]? = w.heap[b]?

/-- a slice of numbers, in a block of those -/
def Ints (A : Nat → Prop) (w : World) (v : Value) (zs : List Int) : Prop :=
  ∃ ad b off cap, v = .slice ad zs.length cap ∧ (0 < zs.length → ad = some ⟨b, off, none⟩ ∧ A b) ∧ ∀ k, k < zs.length → w.cell? ⟨b, off + k, none⟩ = some (.int .i64 (zs.getD k 0))
theorem Ints.carry {A A' : Nat → Prop} {w w' : World} {v : Value} {zs : List Int} (h : Ints A w v zs) (k : Keep A A' w w') : Ints A' w' v zs := by
  obtain ⟨ad, b, off, cap, rfl, h1, h2⟩ := h
  refine ⟨ad, b, off, cap, rfl, fun hp => ?_, fun j hj => ?_⟩
  · obtain ⟨e, ha⟩ := h1 hp
    exact ⟨e, (k b ha (lt_of_cell (h2 0 hp))).1⟩
  · obtain ⟨e, ha⟩ := h1 (by omega)
    rw [cell_of_block (k b ha (lt_of_cell (h2 j hj))).2]; exact h2 j hj

/-- a slice of steps, in a block of those -/
def Steps (A : Nat → Prop) (w : World) (v : Value) (l : List Sp) : Prop :=
  ∃ ad b off cap, v = .slice ad l.length cap ∧ (0 < l.length → ad = some ⟨b, off, none⟩ ∧ A b) ∧
    ∀ k, k < l.length → w.cell? ⟨b, off + k * 5, none⟩ = some (.int .i64 (l.getD k sp0).code) ∧ w.cell? ⟨b, off + k * 5 + 1, none⟩ = some (.int .i64 (l.getD k sp0).dst) ∧
      w.cell? ⟨b, off + k * 5 + 2, none⟩ = some (.int .i64 (l.getD k sp0).a) ∧ w.cell? ⟨b, off + k * 5 + 3, none⟩ = some (.int .i64 (l.getD k sp0).b) ∧ w.cell? ⟨b, off + k * 5 + 4, none⟩ = some (.int .i64 (l.getD k sp0).c)
theorem Steps.carry {A A' : Nat → Prop} {w w' : World} {v : Value} {l : List Sp} (h : Steps A w v l) (k : Keep A A' w w') : Steps A' w' v l := by
  obtain ⟨ad, b, off, cap, rfl, h1, h2⟩ := h
  refine ⟨ad, b, off, cap, rfl, fun hp => ?_, fun j hj => ?_⟩
  · obtain ⟨e, ha⟩ := h1 hp
    exact ⟨e, (k b ha (lt_of_cell (h2 0 hp).1)).1⟩
  · obtain ⟨e, ha⟩ := h1 (by omega)
    have hb := (k b ha (lt_of_cell (h2 j hj).1)).2
    rw [cell_of_block hb, cell_of_block hb, cell_of_block hb, cell_of_block hb, cell_of_block hb]; exact h2 j hj

/-- a slice of numbers that is written into: it lies at the head of block g -/
def Own (w : World) (v : Value) (V : List Int) (g : Nat) : Prop :=
  ∃ ad cap, v = .slice ad V.length cap ∧ (0 < V.length → ad = some ⟨g, 0, none⟩ ∧ ∃ rest T, w.heap[g]? = some (.cells (V.map (Value.int .i64) ++ rest).toArray T (0, 0)))
theorem Own.keep {w w' : World} {v : Value} {V : List Int} {g : Nat} (h : Own w v V g) (hg : w'.heap[g]? = w.heap[g]?) : Own w' v V g := by
  obtain ⟨ad, cap, rfl, h1⟩ := h
  exact ⟨ad, cap, rfl, fun hp => by obtain ⟨e, rest, T, hb⟩ := h1 hp; exact ⟨e, rest, T, by rw [hg]; exact hb⟩⟩
theorem cell_of_cells {w : World} {g : Nat} {l : List Value} {T : TypeId} {f : Nat × Nat} (h : w.heap[g]? = some (.cells l.toArray T f)) (k : Nat) : w.cell? ⟨g, k, none⟩ = l[k]? := by
  simp only [World.cell?, h]
  simp
theorem Own.cell {w : World} {v : Value} {V : List Int} {g : Nat} (h : Own w v V g) (k : Nat) (hk : k < V.length) : w.cell? ⟨g, k, none⟩ = some (.int .i64 (V.getD k 0)) := by
  obtain ⟨ad, cap, rfl, h1⟩ := h
  obtain ⟨e, rest, T, hb⟩ := h1 (by omega)
  rw [cell_of_cells hb, List.getElem?_append_left (by simpa using hk), List.getElem?_map, List.getD_eq_getElem?_getD, List.getElem?_eq_getElem hk]; rfl
theorem Own.ints {w : World} {v : Value} {V : List Int} {g : Nat} (h : Own w v V g) {A : Nat → Prop} (ha : 0 < V.length → A g) : Ints A w v V := by
  have hc := h.cell
  obtain ⟨ad, cap, rfl, h1⟩ := h
  exact ⟨ad, g, 0, cap, rfl, fun hp => ⟨(h1 hp).1, ha hp⟩, fun k hk => by rw [Nat.zero_add]; exact hc k hk⟩

end Nx
end Go.Proofs.YtiihgnagjemikaaGreatDoor
/- chapter 14: the library's functions, in plain words. -/
namespace Go.Proofs.YtiihgnagjemikaaGreatDoor
open Go.RowKit Go.Sort
namespace Tq
open Nx (Ints lt_of_block)
theorem cell_row {w : World} {g T : Nat} {cs : Array Value} (h : w.heap[g]? = some (.cells cs T (0, 0))) (j : Nat) {u : Value} (hj : cs[j]? = some u) : w.cell? ⟨g, j, none⟩ = some u := by
  simp [World.cell?, h, hj]
theorem ck_new (w : World) (o : Obj) : (w.alloc o).heap[w.heap.size]? = some o := heap_alloc_new w o
theorem ck_grown (w : World) (o : Obj) : Below w.heap.size w (w.alloc o) := (Below.refl _ _).alloc (Nat.le_refl _) _
theorem ck_all {w w' w'' : World} (h : Below w.heap.size w w') (k : Below w'.heap.size w' w'') : Below w.heap.size w w'' := h.trans (k.mono h.size)
theorem ck_cell {w w' : World} (h : Below w.heap.size w w') {a : Addr} {v : Value} (hc : w.cell? a = some v) : w'.cell? a = some v := by
  rw [h.cell (World.block_lt_of_cell? w a hc)]; exact hc
theorem ck_block {w w' : World} (h : Below w.heap.size w w') {b : Nat} {o : Obj} (hb : w.heap[b]? = some o) : w'.heap[b]? = some o := by
  rw [h.block b (lt_of_block hb)]; exact hb
abbrev st (l : By) : ByteArray := ⟨l.toArray⟩
theorem st_list (l : By) : (st l).data.toList = l := rfl
theorem st_data (s : ByteArray) : st s.data.toList = s := rfl
theorem st_size (l : By) : (st l).size = l.length := by simp [ByteArray.size]
/-- what of the listed variables is asked -/
structure GV (w : World) : Prop where
  ml : ∃ m, w.cell? ⟨3, 0, none⟩ = some (.int .i64 m)
  sy : ∃ t p, w.cell? ⟨4, 0, none⟩ = some (.iface t p)
  rg : ∃ t p, w.cell? ⟨5, 0, none⟩ = some (.iface t p)
  tab : Lib.TabIs Tryz.prog w "internal/strconv.uint64pow10" .u64 Lib.pow10Tab
  big : 12 ≤ w.heap.size
theorem gPow : Tryz.prog.globalNamed "internal/strconv.uint64pow10" = some 0 := by kernel_rfl
theorem GV.keep {w w' : World} (h : GV w) (hk : ∀ b, b < 12 → w'.heap[b]? = w.heap[b]?) (hs : 12 ≤ w'.heap.size) : GV w' := by
  have kc : ∀ (b o : Nat), b < 12 → w'.cell? ⟨b, o, none⟩ = w.cell? ⟨b, o, none⟩ := fun b o hb => Nx.cell_of_block (hk b hb) o
  refine ⟨by rw [kc _ _ (by omega)]; exact h.ml, by rw [kc _ _ (by omega)]; exact h.sy, by rw [kc _ _ (by omega)]; exact h.rg, ?_, hs⟩
  have := h.tab
  rw [Lib.TabIs, World.var?, gPow, Option.bind_some] at this ⊢
  rw [hk _ (by omega)]; exact this
theorem GV.below {w w' : World} (h : GV w) {B : Nat} (hb : Below B w w') (hB : 12 ≤ B) : GV w' := h.keep (fun b hl => hb.block b (by omega)) (Nat.le_trans h.big hb.size)
theorem fmt_any {n : Int} (hn : -9223372036854775808 ≤ n ∧ n ≤ 9223372036854775807) {w : World} (hg : GV w) :
    Calls Tryz.prog 15 #[.int .i64 n, .int .i64 10] w fun e w' => e = .returned (.string (st (Lib.itoa n))) ∧ Hid (Below w.heap.size w w') := by
  refine (Tryz.strconv_FormatInt_10 n hn.1 hn.2 w hg.tab).mono ?_
  rintro e w' ⟨rfl, k, os, rfl⟩
  exact ⟨rfl, rfl, rfl, rfl, by simp [grow, World.drewN], fun i hi => by simp [grow, World.drewN, Array.getElem?_append_left hi]⟩
theorem pint_ok {s : ByteArray} (hs : s.size ≤ 100000) {v : Int} (h : Lib.parseIntB 64 s.data.toList = .ok v) (w : World) :
    Calls Tryz.prog 26 #[.string s, .int .i64 10, .int .i64 64] w fun e w' => e = .returned (.tuple #[.int .i64 v, .nilIface]) ∧ Hid (Below w.heap.size w w') := by
  refine (Tryz.strconv_ParseInt_10_at64_ok s (by omega) v h w).mono ?_
  rintro e w' ⟨rfl, rfl | ⟨t, rfl⟩⟩
  · exact ⟨rfl, Below.refl _ _⟩
  · exact ⟨rfl, Lib.bytesWorld_below _ _ _⟩
theorem pint_bad {s : ByteArray} (hs : s.size ≤ 100000) (h : ∀ v, Lib.parseIntB 64 s.data.toList ≠ .ok v) {w : World} (hg : GV w) :
    Calls Tryz.prog 26 #[.string s, .int .i64 10, .int .i64 64] w fun e w' => ∃ n q, e = .returned (.tuple #[.int .i64 n, .iface 151 (.pointer (some ⟨q, 0, none⟩))]) ∧ Hid (Below w.heap.size w w') := by
  obtain ⟨t1, p1, h1⟩ := hg.sy
  obtain ⟨t2, p2, h2⟩ := hg.rg
  cases e : Lib.parseIntB 64 s.data.toList with
  | ok v => exact absurd e (h v)
  | «syntax» => exact (Tryz.strconv_ParseInt_10_at64_syntax s (by omega) e _ w h1 (.inr ⟨_, _, rfl⟩)).mono fun e w' ⟨q, he, _, _, hb⟩ => ⟨_, q, he, hb⟩
  | range => exact (Tryz.strconv_ParseInt_10_at64_range s (by omega) e _ w h2 (.inr ⟨_, _, rfl⟩)).mono fun e w' ⟨q, he, _, _, hb⟩ => ⟨_, q, he, hb⟩
theorem cut_any {l : By} (hl : l.length ≤ 100000) {w : World} (hg : GV w) :
    Calls Tryz.prog 23 #[.string (st l), .string ⟨#[10]⟩] w fun e w' => ∃ b, e = .returned (.tuple #[.string (st (Lib.cut l [10]).1), .string (st (Lib.cut l [10]).2.1), .bool b]) ∧ Hid (Below w.heap.size w w') := by
  obtain ⟨m, hm⟩ := hg.ml
  refine (Tryz.strings_Cut (st l) ⟨#[10]⟩ m w (by rw [st_size]; omega) hm).mono ?_
  rintro e w' ⟨rfl, n, rfl⟩
  exact ⟨_, rfl, rfl, rfl, rfl, Nat.le_refl _, fun _ _ => rfl⟩
/-- a slice of words, in a block of those -/
def Strs (A : Nat → Prop) (w : World) (v : Value) (l : List By) : Prop :=
  ∃ ad b off cap, v = .slice ad l.length cap ∧ (0 < l.length → ad = some ⟨b, off, none⟩ ∧ A b) ∧ ∀ k, k < l.length → w.cell? ⟨b, off + k, none⟩ = some (.string (st (l.getD k [])))
theorem Strs.carry {A A' : Nat → Prop} {w w' : World} {v : Value} {l : List By} (h : Strs A w v l) (k : ∀ b, A b → b < w.heap.size → A' b ∧ w'.heap[b]? = w.heap[b]?) : Strs A' w' v l := by
  obtain ⟨ad, b, off, cap, rfl, h1, h2⟩ := h
  refine ⟨ad, b, off, cap, rfl, fun hp => ?_, fun j hj => ?_⟩
  · obtain ⟨e, ha⟩ := h1 hp
    exact ⟨e, (k b ha (Nx.lt_of_cell (h2 0 hp))).1⟩
  · obtain ⟨e, ha⟩ := h1 (by omega)
    rw [Nx.cell_of_block (k b ha (Nx.lt_of_cell (h2 j hj))).2]; exact h2 j hj
theorem getD_st {l : List ByteArray} {k : Nat} (hk : k < l.length) : l[k] = st ((l.map (·.data.toList)).getD k []) := by
  rw [List.getD_eq_getElem?_getD, List.getElem?_map, List.getElem?_eq_getElem hk]; rfl
theorem blank_at (w : World) : PredAtRunes Tryz.prog 25 #[] isBl w := by
  intro W x hx hb
  have e : (decide ((x : Int) = 32)) = isBl x := by unfold isBl; congr 1; exact propext ⟨fun h => by omega, fun h => by omega⟩
  show Calls Tryz.prog 25 #[.int .i32 (x : Int)] W _
  rw [← e]
  obtain ⟨z, hz⟩ : ∃ z : Int, z = (x : Int) := ⟨_, rfl⟩
  rw [← hz]
  clear hz e hx hb
  go_enter Tryz.func25, Tryz.ntmps25
  go_wp2
  go_ret
  exact ⟨rfl, 0, rfl⟩
theorem fields_any {l : By} (hl : l.length ≤ 100000) (w : World) :
    Calls Tryz.prog 24 #[.string (st l), .func (.func 25) #[] #[]] w fun e w' => ∃ b cap, e = .returned (.slice (some ⟨b, 0, none⟩) (wordsT l).length cap) ∧ Hid (w.heap.size ≤ b ∧ (∀ k, k < (wordsT l).length → w'.cell? ⟨b, k, none⟩ = some (.string (st ((wordsT l).getD k [])))) ∧ Below w.heap.size w w') := by
  refine (Tryz.strings_FieldsFunc_runes 25 #[] (enters_of Tryz.func25 (by kernel_rfl) rfl) isBl (st l) w (by rw [st_size]; omega) (blank_at w)).mono ?_
  rintro e w' ⟨b, rfl, hb, hown, hB⟩
  have hw := words_fields (st l)
  have hlen : (Lib.goFieldsP isBl (st l)).length = (wordsT l).length := by rw [← List.length_map (f := (·.data.toList)), hw]
  refine ⟨b, _, by rw [hlen], hb, fun k hk => ?_, hB⟩
  obtain ⟨_, h2⟩ := hown
  rcases h2 with ⟨h0, _⟩ | ⟨g, cap, cur, hv, hBg, hg, hn, hc, hs, hcur⟩
  · exact absurd h0 (by simp)
  · have hgb : b = g := by simpa [Value.ownBlock] using congrArg Value.ownBlock hv
    subst hgb
    have hk2 : k < (Lib.goFieldsP isBl (st l)).length := by rw [hlen]; exact hk
    have h3 : (cur.toList.take ((Lib.goFieldsP isBl (st l)).length * 1))[k]? = some (.string (st ((wordsT l).getD k []))) := by
      rw [hcur, List.getElem?_map, List.getElem?_eq_getElem hk2, Option.map_some, getD_st hk2, hw]
    rw [List.getElem?_take, if_pos (by omega), Array.getElem?_toList] at h3
    exact cell_row hg k h3
end Tq
end Go.Proofs.YtiihgnagjemikaaGreatDoor
