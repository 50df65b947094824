/- chapter 14, plain: the library's fields are words. -/
import Derived.Test.YtlaimlfacheolaaGreatDoorTrA
namespace Go.Proofs.YtlaimlfacheolaaGreatDoor
namespace Tq
open Go.Lib
/-- what a rune's bytes are -/
theorem rune_bytes (s : ByteArray) (pos : Nat) (h : pos < s.size) :
    pos + (Utf8.decode s pos).2 ≤ s.size ∧ 1 ≤ (Utf8.decode s pos).2 ∧
    (((Utf8.decode s pos).1 = 32 ∧ s.data.toList.drop pos = 32 :: s.data.toList.drop (pos + (Utf8.decode s pos).2)) ∨
     ((Utf8.decode s pos).1 ≠ 32 ∧ (32 : UInt8) ∉ (s.data.toList.drop pos).take (Utf8.decode s pos).2)) := by
  have hlen : s.data.toList.length = s.size := (size_eq s).symm
  have hle : pos + (Utf8.decode s pos).2 ≤ s.size := by
    have := decodeN_le_n' (s.size - pos) (s.get! pos).toNat (s.get! (pos + 1)).toNat (s.get! (pos + 2)).toNat (s.get! (pos + 3)).toNat (by omega)
    rw [← decode_at] at this
    omega
  have hg : ∀ j, pos + j < s.size → s.data.toList[pos + j]? = some (s.get! (pos + j)) := fun j hj => by
    have e : s.get! (pos + j) = s.data[pos + j]! := rfl
    rw [e, Array.getElem?_toList, getElem!_pos s.data (pos + j) hj, Array.getElem?_eq_getElem hj]
  refine ⟨hle, width_pos s pos, ?_⟩
  have hc := decodeN_conts (s.size - pos) (s.get! pos).toNat (s.get! (pos + 1)).toNat (s.get! (pos + 2)).toNat (s.get! (pos + 3)).toNat
  have hk := decodeN_cases (s.size - pos) (s.get! pos).toNat (s.get! (pos + 1)).toNat (s.get! (pos + 2)).toNat (s.get! (pos + 3)).toNat
  rw [← decode_at] at hc hk
  by_cases hb : (s.get! pos).toNat = 32
  · left
    rcases hk with ⟨_, e⟩ | ⟨e0, _⟩ | ⟨e0, _⟩ | hk
    · rw [e]
      refine ⟨hb, ?_⟩
      have := hg 0 h
      simp only [Nat.add_zero] at this
      have e32 : s.get! pos = 32 := UInt8.toNat_inj.1 hb
      rw [e32] at this
      exact drop_at this
    · omega
    · omega
    · exfalso
      have : Utf8.decode s pos = (32, 1) := by
        rw [decode_at, decodeN_ascii _ _ _ _ _ (by omega), hb]
      rw [this] at hk
      simp at hk
  · right
    refine ⟨?_, ?_⟩
    · rcases hk with ⟨_, e⟩ | ⟨_, _, _, e0, e⟩ | ⟨_, _, _, _, e0, e⟩ | ⟨e, _⟩ | e
      · rw [e]; exact hb
      · rw [e]; simp only; omega
      · rw [e]; simp only; omega
      · omega
      · rw [e]; simp
    · intro hm
      obtain ⟨j, hj, e⟩ := List.mem_iff_getElem.1 hm
      have hj2 : j < (Utf8.decode s pos).2 := by
        have := List.length_take_le (Utf8.decode s pos).2 (s.data.toList.drop pos); omega
      have e2 : s.data.toList[pos + j]? = some 32 := by
        rw [← e, List.getElem_take, List.getElem_drop, List.getElem?_eq_getElem]
      rw [hg j (by omega)] at e2
      have e3 : (s.get! (pos + j)).toNat = 32 := by rw [Option.some.inj e2]; rfl
      match j, hj2, e3 with
      | 0, _, e3 => exact hb e3
      | 1, hj2, e3 => have := (hc.1 (by omega)).1; omega
      | 2, hj2, e3 => have := (hc.2.1 (by omega)).1; omega
      | 3, hj2, e3 => have := (hc.2.2.1 (by omega)).1; omega
      | k + 4, hj2, _ => have := hc.2.2.2; omega
def isBl (r : Nat) : Bool := decide (r = 32)
theorem spans_wl (s : ByteArray) : ∀ (f pos : Nat) (st : Option Nat) (acc : List (Nat × Nat)), s.size ≤ pos + f → pos ≤ s.size → (∀ a, st = some a → a < pos) →
    (closeSpans s (spansFromP isBl s f pos st acc)).map (fun p => pieceU s.data.toList p.1 p.2) = acc.map (fun p => pieceU s.data.toList p.1 p.2) ++ wl (openPiece s.data.toList st pos) (s.data.toList.drop pos)
  | f, pos, st, acc, h, hp, hst => by
    have hlen : s.data.toList.length = s.size := (size_eq s).symm
    by_cases hlt : pos < s.size
    · cases f with
      | zero => omega
      | succ f =>
        obtain ⟨h1, h2, h3⟩ := rune_bytes s pos hlt
        unfold spansFromP
        rw [if_pos hlt]
        rcases h3 with ⟨e, hd⟩ | ⟨e, hn⟩
        · have hb : isBl (Utf8.decode s pos).1 = true := by simp [isBl, e]
          rw [if_pos hb, hd, wl, if_pos rfl]
          cases st with
          | none =>
            rw [spans_wl s f _ none acc (by omega) h1 (fun a h => by cases h)]
            simp [openPiece]
          | some a =>
            have hne := pieceU_ne s.data.toList a pos (hst a rfl) (by omega)
            show (closeSpans s (spansFromP isBl s f (pos + (Utf8.decode s pos).2) none (acc ++ [(a, pos)]))).map _ = _
            rw [spans_wl s f _ none (acc ++ [(a, pos)]) (by omega) h1 (fun a h => by cases h)]
            simp [openPiece, hne]
        · have hb : ¬ isBl (Utf8.decode s pos).1 = true := by simp [isBl, e]
          have hd : s.data.toList.drop pos = (s.data.toList.drop pos).take (Utf8.decode s pos).2 ++ s.data.toList.drop (pos + (Utf8.decode s pos).2) := by
            conv => lhs; rw [← List.take_append_drop (Utf8.decode s pos).2 (s.data.toList.drop pos)]
            rw [List.drop_drop]
          rw [if_neg hb]
          conv => rhs; rw [hd, wl_run _ _ _ hn]
          cases st with
          | none =>
            show (closeSpans s (spansFromP isBl s f (pos + (Utf8.decode s pos).2) (some pos) acc)).map _ = _
            rw [spans_wl s f _ (some pos) acc (by omega) h1 (fun a h => by cases h; omega)]
            simp only [openPiece, List.nil_append]
            congr 2
            unfold pieceU
            rw [Nat.add_sub_cancel_left]
          | some a =>
            show (closeSpans s (spansFromP isBl s f (pos + (Utf8.decode s pos).2) (some a) acc)).map _ = _
            rw [spans_wl s f _ (some a) acc (by omega) h1 (fun b h => by cases h; have := hst a rfl; omega)]
            simp only [openPiece]
            rw [pieceU_grow _ _ _ _ (Nat.le_of_lt (hst a rfl))]
    · obtain rfl : pos = s.size := by omega
      rw [spansFromP_end _ _ _ _ _ _ hlt, List.drop_eq_nil_of_le (by omega), wl]
      cases st with
      | none => simp [closeSpans, openPiece]
      | some a =>
        have hne := pieceU_ne s.data.toList a s.size (hst a rfl) (by omega)
        simp [closeSpans, openPiece, hne]
/-- the program's words -/
theorem words_fields (s : ByteArray) : (goFieldsP isBl s).map (·.data.toList) = wordsT s.data.toList := by
  have h := spans_wl s s.size 0 none [] (by omega) (Nat.zero_le _) (fun a h => by cases h)
  simp only [List.map_nil, List.nil_append, openPiece, List.drop_zero] at h
  unfold wordsT goFieldsP spansOfP
  rw [← h, List.map_map]
  congr 1
  funext p
  simp [pieceU]
/-- what a word is the number of -/
def numW (w : By) : Option Int := match parseIntB 64 w with | .ok v => if itoa v = w then some v else none | _ => none
def numsW : List By → Option (List Int)
  | [] => some []
  | x :: t => match numW x, numsW t with | some v, some l => some (v :: l) | _, _ => none
/-- lines from line i on -/
def rdT : Nat → List By → Except (Int × Int) (List (List Int))
  | _, [] => .ok []
  | i, l :: r => match numsW (wordsT l) with
    | none => .error (3, i)
    | some t => if i = 60 then .error (4, -1) else match rdT (i + 1) r with | .ok x => .ok (t :: x) | .error e => .error e
def readT (s : By) : Except (Int × Int) (List (List Int)) := rdT 0 (linesT s)
theorem numW_bounds {w : By} {v : Int} (h : numW w = some v) : -9223372036854775808 ≤ v ∧ v ≤ 9223372036854775807 ∧ parseIntB 64 w = .ok v ∧ itoa v = w := by
  unfold numW at h
  split at h
  · rename_i u e
    split at h
    · rename_i e2
      obtain rfl := Option.some.inj h
      have := parseIntB_bounds e
      simp at this
      exact ⟨this.1, by omega, e, e2⟩
    · simp at h
  · simp at h
end Tq
end Go.Proofs.YtlaimlfacheolaaGreatDoor
