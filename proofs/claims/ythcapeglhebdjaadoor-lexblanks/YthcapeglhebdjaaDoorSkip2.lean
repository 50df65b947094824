/- skip: where what is nothing ends. -/
import Derived.Test.YthcapeglhebdjaaDoorSkip
namespace Go.Proofs.YthcapeglhebdjaaDoor
open Go.RowKit

set_option maxHeartbeats 1600000 in
theorem skip_any (s : ByteArray) (a : Nat) (w : World) (hs : s.size ≤ 20000) (ha : a ≤ s.size) :
    Calls Tryd.prog 18 #[.string s, .int .i64 a] w fun e w' => e = .returned (.int .i64 (Lx.skipTo (bs s) a : Nat)) ∧ w' = w := by
  go_enter Tryd.func18, Tryd.ntmps18
  go_wp2
  go_loop [1] (fun i => ∃ k : Nat, k ≤ s.size ∧ i = .int .i64 k ∧ Hid (Lx.skipTo (bs s) a = Lx.skipTo (bs s) k)) (fun i => s.size - (intOf i).toNat)
  case atStart => exact ⟨a, ha, rfl, rfl⟩
  case round =>
    obtain ⟨k, hk, rfl, hr⟩ := hrel
    by_cases hlt : k < s.size
    · have HC : Hid ((bs s)[k]? = some s[k]) := bs_at s k hlt
      by_cases hb : Lx.blank s[k] = true
      · go_wp2_with (go_at_call 25; refine (isBlank_any s[k] _).mono ?_; rintro e w' ⟨rfl, rfl⟩)
        go_round
        case rel => exact ⟨k + 1, by omega, by go_num, hr.out.trans (Lx.skipTo_blank HC.out hb)⟩
        case measure => simp [intOf]; omega
      · have hb' : Lx.blank s[k] = false := by simpa using hb
        clear hb
        by_cases h35 : (s[k].toNat : Int) = 35
        · have HH : Hid ((bs s)[k]? = some 35) := by
            rw [Hid, HC.out]; congr 1; apply UInt8.toNat_inj.1; show _ = 35; omega
          have hle := Lx.runTo_le (p := Lx.inl) (s := bs s) (k := k) (by rw [bs_len]; omega)
          rw [bs_len] at hle
          have hgt := Lx.runTo_remark_lt HH.out
          have H35 : Hid ((s[k].toNat : Int) = 35) := h35
          clear h35
          go_wp2_with (first | (go_at_call 25; refine (isBlank_any s[k] _).mono ?_; rintro e w' ⟨rfl, rfl⟩; have h35 := H35.out) | (go_at_call 26; refine (pass_inl s k _ hs (by omega)).mono ?_; rintro e w' ⟨rfl, rfl⟩))
          go_round
          case rel => exact ⟨_, hle.2, rfl, hr.out.trans (Lx.skipTo_remark HH.out)⟩
          case measure => simp [intOf]; omega
        · have hn : s[k] ≠ 35 := fun h => h35 (by rw [h]; rfl)
          have HN : Hid (s[k] ≠ 35) := hn
          clear hn
          go_wp2_with (first | (go_at_call 25; refine (isBlank_any s[k] _).mono ?_; rintro e w' ⟨rfl, rfl⟩))
          go_ret
          exact ⟨ret_int (by rw [hr.out, Lx.skipTo_no HC.out hb' HN.out]), rfl⟩
    · go_wp2
      go_ret
      exact ⟨ret_int (by rw [hr.out, Lx.skipTo_end (by rw [bs_len]; omega)]), rfl⟩
end Go.Proofs.YthcapeglhebdjaaDoor
