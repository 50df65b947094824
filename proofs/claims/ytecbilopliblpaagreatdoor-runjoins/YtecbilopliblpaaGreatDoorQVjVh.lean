/- RunOrders: its two charts, and what they do. -/
import Derived.Test.YtecbilopliblpaaGreatDoorQVe
namespace Go.Proofs.YtecbilopliblpaaGreatDoor
open Go.RowKit Px
namespace Kx
def ordS (k : Nat) : StF (St 5) := ⟨[115], true, false, [], [⟨[120], eTwo 6 (eName 2 [120]) (eNum 1)⟩], [⟨[121], eTwo 6 (eName 2 [121]) (eNum 1)⟩], .nil, [⟨k, false, eName 2 [97], 1, [], [116], false⟩], []⟩
def ordT : StF (St 5) := ⟨[116], false, false, [], [], [], .nil, [], []⟩
def ordC (k : Nat) : Chart := ⟨[99], [⟨1, [97], 0⟩, ⟨2, [120], 0⟩, ⟨2, [121], 0⟩], [[ordS k, ordT]]⟩
abbrev ordGC : Chart := ordC 0
abbrev ordAC : Chart := ordC 1
def ordGL : List UInt8 := [99, 104, 97, 114, 116, 32, 99, 32, 123, 32, 105, 110, 112, 117, 116, 32, 97, 59, 32, 111, 117, 116, 112, 117, 116, 32, 120, 59, 32, 111, 117, 116, 112, 117, 116, 32, 121, 59, 32, 114, 101, 103, 105, 111, 110, 32, 123, 32, 105, 110, 105, 116, 105, 97, 108, 32, 115, 116, 97, 116, 101, 32, 115, 32, 123, 32, 100, 117, 114, 105, 110, 103, 32, 120, 32, 58, 61, 32, 120, 32, 43, 32, 49, 59, 32, 101, 120, 105, 116, 32, 121, 32, 58, 61, 32, 121, 32, 43, 32, 49, 59, 32, 103, 111, 32, 105, 102, 32, 97, 32, 45, 45, 62, 32, 116, 59, 32, 125, 32, 115, 116, 97, 116, 101, 32, 116, 59, 32, 125, 32, 125]
def ordGK : List Lx.Tok := [⟨1, [99, 104, 97, 114, 116], 0⟩, ⟨1, [99], 6⟩, ⟨3, [123], 8⟩, ⟨1, [105, 110, 112, 117, 116], 10⟩, ⟨1, [97], 16⟩, ⟨3, [59], 17⟩, ⟨1, [111, 117, 116, 112, 117, 116], 19⟩, ⟨1, [120], 26⟩, ⟨3, [59], 27⟩, ⟨1, [111, 117, 116, 112, 117, 116], 29⟩, ⟨1, [121], 36⟩, ⟨3, [59], 37⟩, ⟨1, [114, 101, 103, 105, 111, 110], 39⟩, ⟨3, [123], 46⟩, ⟨1, [105, 110, 105, 116, 105, 97, 108], 48⟩, ⟨1, [115, 116, 97, 116, 101], 56⟩, ⟨1, [115], 62⟩, ⟨3, [123], 64⟩, ⟨1, [100, 117, 114, 105, 110, 103], 66⟩, ⟨1, [120], 73⟩, ⟨3, [58, 61], 75⟩, ⟨1, [120], 78⟩, ⟨3, [43], 80⟩, ⟨2, [49], 82⟩, ⟨3, [59], 83⟩, ⟨1, [101, 120, 105, 116], 85⟩, ⟨1, [121], 90⟩, ⟨3, [58, 61], 92⟩, ⟨1, [121], 95⟩, ⟨3, [43], 97⟩, ⟨2, [49], 99⟩, ⟨3, [59], 100⟩, ⟨1, [103, 111], 102⟩, ⟨1, [105, 102], 105⟩, ⟨1, [97], 108⟩, ⟨3, [45, 45, 62], 110⟩, ⟨1, [116], 114⟩, ⟨3, [59], 115⟩, ⟨3, [125], 117⟩, ⟨1, [115, 116, 97, 116, 101], 119⟩, ⟨1, [116], 125⟩, ⟨3, [59], 126⟩, ⟨3, [125], 128⟩, ⟨3, [125], 130⟩]
set_option maxRecDepth 100000 in
theorem ordG_lex : lexF 46 ordGL 0 = some ordGK := by kernel_rfl
set_option maxRecDepth 100000 in
theorem ordG_chart (n : Nat) : chart (ordGK ++ [⟨4, [], n⟩]) = .ok ordGC := by kernel_rfl
theorem ordG_ok {s : ByteArray} (h : bs s = ordGL) : Lx.Ok (bs s) ordGK ∧ chart (fin s ordGK) = .ok ordGC := by
  refine ⟨⟨by decide, ?_⟩, ordG_chart _⟩
  rw [h]
  exact lexF_ok _ _ _ _ ordG_lex
set_option maxRecDepth 100000 in
theorem ordG_check : checkC ordGC = none := by kernel_rfl
def ordAL : List UInt8 := [99, 104, 97, 114, 116, 32, 99, 32, 123, 32, 105, 110, 112, 117, 116, 32, 97, 59, 32, 111, 117, 116, 112, 117, 116, 32, 120, 59, 32, 111, 117, 116, 112, 117, 116, 32, 121, 59, 32, 114, 101, 103, 105, 111, 110, 32, 123, 32, 105, 110, 105, 116, 105, 97, 108, 32, 115, 116, 97, 116, 101, 32, 115, 32, 123, 32, 100, 117, 114, 105, 110, 103, 32, 120, 32, 58, 61, 32, 120, 32, 43, 32, 49, 59, 32, 101, 120, 105, 116, 32, 121, 32, 58, 61, 32, 121, 32, 43, 32, 49, 59, 32, 97, 98, 111, 114, 116, 32, 105, 102, 32, 97, 32, 45, 45, 62, 32, 116, 59, 32, 125, 32, 115, 116, 97, 116, 101, 32, 116, 59, 32, 125, 32, 125]
def ordAK : List Lx.Tok := [⟨1, [99, 104, 97, 114, 116], 0⟩, ⟨1, [99], 6⟩, ⟨3, [123], 8⟩, ⟨1, [105, 110, 112, 117, 116], 10⟩, ⟨1, [97], 16⟩, ⟨3, [59], 17⟩, ⟨1, [111, 117, 116, 112, 117, 116], 19⟩, ⟨1, [120], 26⟩, ⟨3, [59], 27⟩, ⟨1, [111, 117, 116, 112, 117, 116], 29⟩, ⟨1, [121], 36⟩, ⟨3, [59], 37⟩, ⟨1, [114, 101, 103, 105, 111, 110], 39⟩, ⟨3, [123], 46⟩, ⟨1, [105, 110, 105, 116, 105, 97, 108], 48⟩, ⟨1, [115, 116, 97, 116, 101], 56⟩, ⟨1, [115], 62⟩, ⟨3, [123], 64⟩, ⟨1, [100, 117, 114, 105, 110, 103], 66⟩, ⟨1, [120], 73⟩, ⟨3, [58, 61], 75⟩, ⟨1, [120], 78⟩, ⟨3, [43], 80⟩, ⟨2, [49], 82⟩, ⟨3, [59], 83⟩, ⟨1, [101, 120, 105, 116], 85⟩, ⟨1, [121], 90⟩, ⟨3, [58, 61], 92⟩, ⟨1, [121], 95⟩, ⟨3, [43], 97⟩, ⟨2, [49], 99⟩, ⟨3, [59], 100⟩, ⟨1, [97, 98, 111, 114, 116], 102⟩, ⟨1, [105, 102], 108⟩, ⟨1, [97], 111⟩, ⟨3, [45, 45, 62], 113⟩, ⟨1, [116], 117⟩, ⟨3, [59], 118⟩, ⟨3, [125], 120⟩, ⟨1, [115, 116, 97, 116, 101], 122⟩, ⟨1, [116], 128⟩, ⟨3, [59], 129⟩, ⟨3, [125], 131⟩, ⟨3, [125], 133⟩]
set_option maxRecDepth 100000 in
theorem ordA_lex : lexF 46 ordAL 0 = some ordAK := by kernel_rfl
set_option maxRecDepth 100000 in
theorem ordA_chart (n : Nat) : chart (ordAK ++ [⟨4, [], n⟩]) = .ok ordAC := by kernel_rfl
theorem ordA_ok {s : ByteArray} (h : bs s = ordAL) : Lx.Ok (bs s) ordAK ∧ chart (fin s ordAK) = .ok ordAC := by
  refine ⟨⟨by decide, ?_⟩, ordA_chart _⟩
  rw [h]
  exact lexF_ok _ _ _ _ ordA_lex
set_option maxRecDepth 100000 in
theorem ordA_check : checkC ordAC = none := by kernel_rfl

def ordD0 : Rd 6 := (⟨some 0, none, [⟨[0], []⟩, ⟨[], []⟩]⟩ : RdF (Rd 5))
def ordD1 : Rd 6 := (⟨some 1, some 0, [⟨[1], []⟩, ⟨[], []⟩]⟩ : RdF (Rd 5))
theorem ord_new (k : Nat) (z : Int) : ∃ n, tickC (ordC k) [z] (newC (ordC k)) = some ⟨n, n, [ordD0]⟩ ∧ n [120] = 0 ∧ n [121] = 0 :=
  ⟨hearE (ordC k).vars [z] (firstE (ordC k).vars), rfl, rfl, rfl⟩
theorem ord_rest (k : Nat) (z : Int) (n w : Px.Env) : tickC (ordC k) [z] ⟨n, w, [ordD1]⟩ = some ⟨updE n [97] z, updE n [97] z, [ordD1]⟩ := rfl
theorem v_add1 {a : Int} (h : 0 ≤ a ∧ a ≤ 100) : vTwo 6 a 1 = a + 1 := by
  unfold vTwo wrap64
  simp
  omega
theorem v_add0 {a : Int} (h : a = 0) : vTwo 6 a 1 = 1 := by subst h; unfold vTwo wrap64; simp
theorem pos_ne (m : Nat) : ¬ Int.ofNat (m + 1) = 0 := fun h => by cases h
theorem neg_ne (m : Nat) : ¬ Int.negSucc m = 0 := fun h => by cases h
/-- a way that is no strong one -/
theorem ord_go (z : Int) (n w : Px.Env) (hx : 0 ≤ n [120] ∧ n [120] ≤ 100) (hy : n [121] = 0) : ∃ n', tickC (ordC 0) [z] ⟨n, w, [ordD0]⟩ = some ⟨n', n', [if z = 0 then ordD0 else ordD1]⟩ ∧ n' [120] = n [120] + 1 ∧ n' [121] = if z = 0 then 0 else 1 := by
  cases z with
  | ofNat m =>
    cases m with
    | zero =>
      refine ⟨_, rfl, ?_, ?_⟩
      · exact v_add1 hx
      · exact hy
    | succ m =>
      rw [if_neg (pos_ne m), if_neg (pos_ne m)]
      refine ⟨updE (updE (updE n [97] (Int.ofNat (m + 1))) [120] (vTwo 6 (n [120]) 1)) [121] (vTwo 6 (n [121]) 1), by kernel_rfl, ?_, ?_⟩
      · exact v_add1 hx
      · exact v_add0 hy
  | negSucc m =>
    rw [if_neg (neg_ne m), if_neg (neg_ne m)]
    refine ⟨updE (updE (updE n [97] (Int.negSucc m)) [120] (vTwo 6 (n [120]) 1)) [121] (vTwo 6 (n [121]) 1), by kernel_rfl, ?_, ?_⟩
    · exact v_add1 hx
    · exact v_add0 hy
/-- a strong one -/
theorem ord_abort (z : Int) (n w : Px.Env) (hx : 0 ≤ n [120] ∧ n [120] ≤ 100) (hy : n [121] = 0) : ∃ n', tickC (ordC 1) [z] ⟨n, w, [ordD0]⟩ = some ⟨n', n', [if z = 0 then ordD0 else ordD1]⟩ ∧ n' [120] = (if z = 0 then n [120] + 1 else n [120]) ∧ n' [121] = if z = 0 then 0 else 1 := by
  cases z with
  | ofNat m =>
    cases m with
    | zero =>
      refine ⟨_, rfl, ?_, ?_⟩
      · exact v_add1 hx
      · exact hy
    | succ m =>
      rw [if_neg (pos_ne m), if_neg (pos_ne m), if_neg (pos_ne m)]
      refine ⟨updE (updE n [97] (Int.ofNat (m + 1))) [121] (vTwo 6 (n [121]) 1), by kernel_rfl, ?_, ?_⟩
      · rfl
      · exact v_add0 hy
  | negSucc m =>
    rw [if_neg (neg_ne m), if_neg (neg_ne m), if_neg (neg_ne m)]
    refine ⟨updE (updE n [97] (Int.negSucc m)) [121] (vTwo 6 (n [121]) 1), by kernel_rfl, ?_, ?_⟩
    · rfl
    · exact v_add0 hy
/-- what the law reckons: how often, and whether it was left -/
def ordStep (k : Nat) (i : Nat) (z : Int) (p : Int × Int) : Int × Int :=
  if 0 < i ∧ p.2 = 0 then (if z = 0 ∨ k = 0 then p.1 + 1 else p.1, if z = 0 then p.2 else 1) else p
/-- how the chart stands behind i ticks -/
def OrdI (k i : Nat) (r : Rn) (p : Int × Int) : Prop :=
  (i = 0 ∧ r = newC (ordC k) ∧ p = (0, 0)) ∨ (0 < i ∧ ∃ n w, n [120] = p.1 ∧ n [121] = p.2 ∧ 0 ≤ p.1 ∧ p.1 ≤ i ∧ ((p.2 = 0 ∧ r = ⟨n, w, [ordD0]⟩) ∨ (p.2 = 1 ∧ r = ⟨n, w, [ordD1]⟩)))
theorem ord_step {k i : Nat} (hk : k ≤ 1) (hi : i ≤ 60) {r : Rn} {p : Int × Int} (h : OrdI k i r p) (z : Int) : ∃ r', tickC (ordC k) [z] r = some r' ∧ OrdI k (i + 1) r' (ordStep k i z p) ∧ outsC (ordC k) r' = [(ordStep k i z p).1, (ordStep k i z p).2] := by
  rcases h with ⟨rfl, rfl, rfl⟩ | ⟨h0, n, w, h1, h2, h3, h4, ⟨h5, rfl⟩ | ⟨h5, rfl⟩⟩
  · obtain ⟨n, t1, t2, t3⟩ := ord_new k z
    have e : ordStep k 0 z (0, 0) = (0, 0) := by unfold ordStep; rw [if_neg (by omega)]
    rw [e]
    refine ⟨_, t1, .inr ⟨by omega, n, n, t2, t3, by omega, by omega, .inl ⟨rfl, rfl⟩⟩, ?_⟩
    show [n [120], n [121]] = _
    rw [t2, t3]
  · have e : ordStep k i z p = (if z = 0 ∨ k = 0 then p.1 + 1 else p.1, if z = 0 then p.2 else 1) := by unfold ordStep; rw [if_pos ⟨h0, h5⟩]
    rw [e]
    have hn : ∃ n', tickC (ordC k) [z] ⟨n, w, [ordD0]⟩ = some ⟨n', n', [if z = 0 then ordD0 else ordD1]⟩ ∧ n' [120] = (if z = 0 ∨ k = 0 then p.1 + 1 else p.1) ∧ n' [121] = if z = 0 then 0 else 1 := by
      have hk' : k = 0 ∨ k = 1 := by omega
      rcases hk' with rfl | rfl
      · obtain ⟨n', t1, t2, t3⟩ := ord_go z n w (by rw [h1]; omega) (h2.trans h5)
        exact ⟨n', t1, by rw [t2, h1, if_pos (.inr rfl)], t3⟩
      · obtain ⟨n', t1, t2, t3⟩ := ord_abort z n w (by rw [h1]; omega) (h2.trans h5)
        refine ⟨n', t1, ?_, t3⟩
        rw [t2, h1]
        by_cases hz : z = 0
        · rw [if_pos hz, if_pos (.inl hz)]
        · rw [if_neg hz, if_neg (by omega)]
    obtain ⟨n', t1, t2, t3⟩ := hn
    refine ⟨_, t1, .inr ⟨by omega, n', n', t2, by rw [t3, h5], ?_, ?_, ?_⟩, ?_⟩
    · show 0 ≤ (if z = 0 ∨ k = 0 then p.1 + 1 else p.1); split <;> omega
    · show (if z = 0 ∨ k = 0 then p.1 + 1 else p.1) ≤ _; split <;> omega
    · by_cases hz : z = 0
      · exact .inl ⟨by show (if z = 0 then p.2 else 1) = 0; rw [if_pos hz, h5], by rw [if_pos hz]⟩
      · exact .inr ⟨by show (if z = 0 then p.2 else 1) = 1; rw [if_neg hz], by rw [if_neg hz]⟩
    · show [n' [120], n' [121]] = _
      rw [t2, t3, h5]
  · have e : ordStep k i z p = p := by unfold ordStep; rw [if_neg (by omega)]
    rw [e]
    refine ⟨_, ord_rest k z n w, .inr ⟨by omega, _, _, ?_, ?_, h3, by omega, .inr ⟨h5, rfl⟩⟩, ?_⟩
    · exact h1
    · exact h2
    · show [n [120], n [121]] = _
      rw [h1, h2]
end Kx
end Go.Proofs.YtecbilopliblpaaGreatDoor
/- RunJoins: its chart, and what it does. -/
namespace Go.Proofs.YtecbilopliblpaaGreatDoor
open Go.RowKit Px
namespace Kx
def joinR (v : Str) : List (St 5) := ([⟨[112], true, false, [], [], [], .nil, [⟨0, false, eName 2 v, 1, [], [113], false⟩], []⟩, ⟨[113], false, true, [], [], [], .nil, [], []⟩] : List (StF (St 4)))
def joinS : StF (St 5) := ⟨[115], true, false, [], [], [], .nil, [⟨2, false, .nil, 1, [⟨[120], eNum 1⟩], [116], false⟩], [joinR [97], joinR [98]]⟩
def joinC : Chart := ⟨[99], [⟨1, [97], 0⟩, ⟨1, [98], 0⟩, ⟨2, [120], 0⟩], [[joinS, ordT]]⟩
def joinL : List UInt8 := [99, 104, 97, 114, 116, 32, 99, 32, 123, 32, 105, 110, 112, 117, 116, 32, 97, 59, 32, 105, 110, 112, 117, 116, 32, 98, 59, 32, 111, 117, 116, 112, 117, 116, 32, 120, 59, 32, 114, 101, 103, 105, 111, 110, 32, 123, 32, 105, 110, 105, 116, 105, 97, 108, 32, 115, 116, 97, 116, 101, 32, 115, 32, 123, 32, 106, 111, 105, 110, 32, 100, 111, 32, 120, 32, 58, 61, 32, 49, 32, 45, 45, 62, 32, 116, 59, 32, 114, 101, 103, 105, 111, 110, 32, 123, 32, 105, 110, 105, 116, 105, 97, 108, 32, 115, 116, 97, 116, 101, 32, 112, 32, 123, 32, 103, 111, 32, 105, 102, 32, 97, 32, 45, 45, 62, 32, 113, 59, 32, 125, 32, 102, 105, 110, 97, 108, 32, 115, 116, 97, 116, 101, 32, 113, 59, 32, 125, 32, 114, 101, 103, 105, 111, 110, 32, 123, 32, 105, 110, 105, 116, 105, 97, 108, 32, 115, 116, 97, 116, 101, 32, 112, 32, 123, 32, 103, 111, 32, 105, 102, 32, 98, 32, 45, 45, 62, 32, 113, 59, 32, 125, 32, 102, 105, 110, 97, 108, 32, 115, 116, 97, 116, 101, 32, 113, 59, 32, 125, 32, 125, 32, 115, 116, 97, 116, 101, 32, 116, 59, 32, 125, 32, 125]
def joinK : List Lx.Tok := [⟨1, [99, 104, 97, 114, 116], 0⟩, ⟨1, [99], 6⟩, ⟨3, [123], 8⟩, ⟨1, [105, 110, 112, 117, 116], 10⟩, ⟨1, [97], 16⟩, ⟨3, [59], 17⟩, ⟨1, [105, 110, 112, 117, 116], 19⟩, ⟨1, [98], 25⟩, ⟨3, [59], 26⟩, ⟨1, [111, 117, 116, 112, 117, 116], 28⟩, ⟨1, [120], 35⟩, ⟨3, [59], 36⟩, ⟨1, [114, 101, 103, 105, 111, 110], 38⟩, ⟨3, [123], 45⟩, ⟨1, [105, 110, 105, 116, 105, 97, 108], 47⟩, ⟨1, [115, 116, 97, 116, 101], 55⟩, ⟨1, [115], 61⟩, ⟨3, [123], 63⟩, ⟨1, [106, 111, 105, 110], 65⟩, ⟨1, [100, 111], 70⟩, ⟨1, [120], 73⟩, ⟨3, [58, 61], 75⟩, ⟨2, [49], 78⟩, ⟨3, [45, 45, 62], 80⟩, ⟨1, [116], 84⟩, ⟨3, [59], 85⟩, ⟨1, [114, 101, 103, 105, 111, 110], 87⟩, ⟨3, [123], 94⟩, ⟨1, [105, 110, 105, 116, 105, 97, 108], 96⟩, ⟨1, [115, 116, 97, 116, 101], 104⟩, ⟨1, [112], 110⟩, ⟨3, [123], 112⟩, ⟨1, [103, 111], 114⟩, ⟨1, [105, 102], 117⟩, ⟨1, [97], 120⟩, ⟨3, [45, 45, 62], 122⟩, ⟨1, [113], 126⟩, ⟨3, [59], 127⟩, ⟨3, [125], 129⟩, ⟨1, [102, 105, 110, 97, 108], 131⟩, ⟨1, [115, 116, 97, 116, 101], 137⟩, ⟨1, [113], 143⟩, ⟨3, [59], 144⟩, ⟨3, [125], 146⟩, ⟨1, [114, 101, 103, 105, 111, 110], 148⟩, ⟨3, [123], 155⟩, ⟨1, [105, 110, 105, 116, 105, 97, 108], 157⟩, ⟨1, [115, 116, 97, 116, 101], 165⟩, ⟨1, [112], 171⟩, ⟨3, [123], 173⟩, ⟨1, [103, 111], 175⟩, ⟨1, [105, 102], 178⟩, ⟨1, [98], 181⟩, ⟨3, [45, 45, 62], 183⟩, ⟨1, [113], 187⟩, ⟨3, [59], 188⟩, ⟨3, [125], 190⟩, ⟨1, [102, 105, 110, 97, 108], 192⟩, ⟨1, [115, 116, 97, 116, 101], 198⟩, ⟨1, [113], 204⟩, ⟨3, [59], 205⟩, ⟨3, [125], 207⟩, ⟨3, [125], 209⟩, ⟨1, [115, 116, 97, 116, 101], 211⟩, ⟨1, [116], 217⟩, ⟨3, [59], 218⟩, ⟨3, [125], 220⟩, ⟨3, [125], 222⟩]
set_option maxRecDepth 100000 in
theorem join_lex : lexF 70 joinL 0 = some joinK := by kernel_rfl
set_option maxRecDepth 100000 in
theorem join_chart (n : Nat) : chart (joinK ++ [⟨4, [], n⟩]) = .ok joinC := by kernel_rfl
theorem join_ok {s : ByteArray} (h : bs s = joinL) : Lx.Ok (bs s) joinK ∧ chart (fin s joinK) = .ok joinC := by
  refine ⟨⟨by decide, ?_⟩, join_chart _⟩
  rw [h]
  exact lexF_ok _ _ _ _ join_lex
set_option maxRecDepth 100000 in
theorem join_check : checkC joinC = none := by kernel_rfl

def joinI : Bool → Rd 5
  | true => (⟨some 1, some 0, [⟨[1], []⟩, ⟨[], []⟩]⟩ : RdF (Rd 4))
  | false => (⟨some 0, none, [⟨[0], []⟩, ⟨[], []⟩]⟩ : RdF (Rd 4))
def joinE : Rd 5 := (⟨none, some 1, [⟨[1], []⟩, ⟨[], []⟩]⟩ : RdF (Rd 4))
def joinD (p q : Bool) : Rd 6 := if p && q then (⟨some 1, some 0, [⟨[1], [joinE, joinE]⟩, ⟨[], []⟩]⟩ : RdF (Rd 5)) else (⟨some 0, none, [⟨[0], [joinI p, joinI q]⟩, ⟨[], []⟩]⟩ : RdF (Rd 5))
theorem join_hear (ins : List Int) (n : Px.Env) : hearE joinC.vars ins n = hearE joinC.vars [ins.getD 0 0, ins.getD 1 0] n := by
  match ins with
  | [] => rfl
  | [_] => rfl
  | _ :: _ :: _ => rfl
theorem join_ins (ins : List Int) (r : Rn) : tickC joinC ins r = tickC joinC [ins.getD 0 0, ins.getD 1 0] r := by
  unfold tickC
  rw [join_hear]
theorem join_new (u v : Int) : tickC joinC [u, v] (newC joinC) = some ⟨hearE joinC.vars [u, v] (firstE joinC.vars), hearE joinC.vars [u, v] (firstE joinC.vars), [joinD false false]⟩ := by kernel_rfl
def hitB (z : Int) : Bool := decide (z ≠ 0)
theorem hit_pos (m : Nat) : hitB (Int.ofNat (m + 1)) = true := decide_eq_true (pos_ne m)
theorem hit_neg (m : Nat) : hitB (Int.negSucc m) = true := decide_eq_true (neg_ne m)
theorem hit_zero : hitB (Int.ofNat 0) = false := rfl
def joinN (p q p' q' : Bool) (n : Px.Env) : Px.Env := if p' && q' && !(p && q) then updE n [120] 1 else n
theorem join_ff_zz (n w : Px.Env) : tickC joinC [Int.ofNat 0, Int.ofNat 0] ⟨n, w, [joinD false false]⟩ = some ⟨joinN false false false false (hearE joinC.vars [Int.ofNat 0, Int.ofNat 0] n), joinN false false false false (hearE joinC.vars [Int.ofNat 0, Int.ofNat 0] n), [joinD false false]⟩ := by kernel_rfl
theorem join_ff_zp (k : Nat) (n w : Px.Env) : tickC joinC [Int.ofNat 0, Int.ofNat (k + 1)] ⟨n, w, [joinD false false]⟩ = some ⟨joinN false false false true (hearE joinC.vars [Int.ofNat 0, Int.ofNat (k + 1)] n), joinN false false false true (hearE joinC.vars [Int.ofNat 0, Int.ofNat (k + 1)] n), [joinD false true]⟩ := by kernel_rfl
theorem join_ff_zn (k : Nat) (n w : Px.Env) : tickC joinC [Int.ofNat 0, Int.negSucc k] ⟨n, w, [joinD false false]⟩ = some ⟨joinN false false false true (hearE joinC.vars [Int.ofNat 0, Int.negSucc k] n), joinN false false false true (hearE joinC.vars [Int.ofNat 0, Int.negSucc k] n), [joinD false true]⟩ := by kernel_rfl
theorem join_ff_pz (m : Nat) (n w : Px.Env) : tickC joinC [Int.ofNat (m + 1), Int.ofNat 0] ⟨n, w, [joinD false false]⟩ = some ⟨joinN false false true false (hearE joinC.vars [Int.ofNat (m + 1), Int.ofNat 0] n), joinN false false true false (hearE joinC.vars [Int.ofNat (m + 1), Int.ofNat 0] n), [joinD true false]⟩ := by kernel_rfl
theorem join_ff_pp (m : Nat) (k : Nat) (n w : Px.Env) : tickC joinC [Int.ofNat (m + 1), Int.ofNat (k + 1)] ⟨n, w, [joinD false false]⟩ = some ⟨joinN false false true true (hearE joinC.vars [Int.ofNat (m + 1), Int.ofNat (k + 1)] n), joinN false false true true (hearE joinC.vars [Int.ofNat (m + 1), Int.ofNat (k + 1)] n), [joinD true true]⟩ := by kernel_rfl
theorem join_ff_pn (m : Nat) (k : Nat) (n w : Px.Env) : tickC joinC [Int.ofNat (m + 1), Int.negSucc k] ⟨n, w, [joinD false false]⟩ = some ⟨joinN false false true true (hearE joinC.vars [Int.ofNat (m + 1), Int.negSucc k] n), joinN false false true true (hearE joinC.vars [Int.ofNat (m + 1), Int.negSucc k] n), [joinD true true]⟩ := by kernel_rfl
theorem join_ff_nz (m : Nat) (n w : Px.Env) : tickC joinC [Int.negSucc m, Int.ofNat 0] ⟨n, w, [joinD false false]⟩ = some ⟨joinN false false true false (hearE joinC.vars [Int.negSucc m, Int.ofNat 0] n), joinN false false true false (hearE joinC.vars [Int.negSucc m, Int.ofNat 0] n), [joinD true false]⟩ := by kernel_rfl
theorem join_ff_np (m : Nat) (k : Nat) (n w : Px.Env) : tickC joinC [Int.negSucc m, Int.ofNat (k + 1)] ⟨n, w, [joinD false false]⟩ = some ⟨joinN false false true true (hearE joinC.vars [Int.negSucc m, Int.ofNat (k + 1)] n), joinN false false true true (hearE joinC.vars [Int.negSucc m, Int.ofNat (k + 1)] n), [joinD true true]⟩ := by kernel_rfl
theorem join_ff_nn (m : Nat) (k : Nat) (n w : Px.Env) : tickC joinC [Int.negSucc m, Int.negSucc k] ⟨n, w, [joinD false false]⟩ = some ⟨joinN false false true true (hearE joinC.vars [Int.negSucc m, Int.negSucc k] n), joinN false false true true (hearE joinC.vars [Int.negSucc m, Int.negSucc k] n), [joinD true true]⟩ := by kernel_rfl
theorem join_ft_zz (n w : Px.Env) : tickC joinC [Int.ofNat 0, Int.ofNat 0] ⟨n, w, [joinD false true]⟩ = some ⟨joinN false true false true (hearE joinC.vars [Int.ofNat 0, Int.ofNat 0] n), joinN false true false true (hearE joinC.vars [Int.ofNat 0, Int.ofNat 0] n), [joinD false true]⟩ := by kernel_rfl
theorem join_ft_zp (k : Nat) (n w : Px.Env) : tickC joinC [Int.ofNat 0, Int.ofNat (k + 1)] ⟨n, w, [joinD false true]⟩ = some ⟨joinN false true false true (hearE joinC.vars [Int.ofNat 0, Int.ofNat (k + 1)] n), joinN false true false true (hearE joinC.vars [Int.ofNat 0, Int.ofNat (k + 1)] n), [joinD false true]⟩ := by kernel_rfl
theorem join_ft_zn (k : Nat) (n w : Px.Env) : tickC joinC [Int.ofNat 0, Int.negSucc k] ⟨n, w, [joinD false true]⟩ = some ⟨joinN false true false true (hearE joinC.vars [Int.ofNat 0, Int.negSucc k] n), joinN false true false true (hearE joinC.vars [Int.ofNat 0, Int.negSucc k] n), [joinD false true]⟩ := by kernel_rfl
theorem join_ft_pz (m : Nat) (n w : Px.Env) : tickC joinC [Int.ofNat (m + 1), Int.ofNat 0] ⟨n, w, [joinD false true]⟩ = some ⟨joinN false true true true (hearE joinC.vars [Int.ofNat (m + 1), Int.ofNat 0] n), joinN false true true true (hearE joinC.vars [Int.ofNat (m + 1), Int.ofNat 0] n), [joinD true true]⟩ := by kernel_rfl
theorem join_ft_pp (m : Nat) (k : Nat) (n w : Px.Env) : tickC joinC [Int.ofNat (m + 1), Int.ofNat (k + 1)] ⟨n, w, [joinD false true]⟩ = some ⟨joinN false true true true (hearE joinC.vars [Int.ofNat (m + 1), Int.ofNat (k + 1)] n), joinN false true true true (hearE joinC.vars [Int.ofNat (m + 1), Int.ofNat (k + 1)] n), [joinD true true]⟩ := by kernel_rfl
theorem join_ft_pn (m : Nat) (k : Nat) (n w : Px.Env) : tickC joinC [Int.ofNat (m + 1), Int.negSucc k] ⟨n, w, [joinD false true]⟩ = some ⟨joinN false true true true (hearE joinC.vars [Int.ofNat (m + 1), Int.negSucc k] n), joinN false true true true (hearE joinC.vars [Int.ofNat (m + 1), Int.negSucc k] n), [joinD true true]⟩ := by kernel_rfl
theorem join_ft_nz (m : Nat) (n w : Px.Env) : tickC joinC [Int.negSucc m, Int.ofNat 0] ⟨n, w, [joinD false true]⟩ = some ⟨joinN false true true true (hearE joinC.vars [Int.negSucc m, Int.ofNat 0] n), joinN false true true true (hearE joinC.vars [Int.negSucc m, Int.ofNat 0] n), [joinD true true]⟩ := by kernel_rfl
theorem join_ft_np (m : Nat) (k : Nat) (n w : Px.Env) : tickC joinC [Int.negSucc m, Int.ofNat (k + 1)] ⟨n, w, [joinD false true]⟩ = some ⟨joinN false true true true (hearE joinC.vars [Int.negSucc m, Int.ofNat (k + 1)] n), joinN false true true true (hearE joinC.vars [Int.negSucc m, Int.ofNat (k + 1)] n), [joinD true true]⟩ := by kernel_rfl
theorem join_ft_nn (m : Nat) (k : Nat) (n w : Px.Env) : tickC joinC [Int.negSucc m, Int.negSucc k] ⟨n, w, [joinD false true]⟩ = some ⟨joinN false true true true (hearE joinC.vars [Int.negSucc m, Int.negSucc k] n), joinN false true true true (hearE joinC.vars [Int.negSucc m, Int.negSucc k] n), [joinD true true]⟩ := by kernel_rfl
theorem join_tf_zz (n w : Px.Env) : tickC joinC [Int.ofNat 0, Int.ofNat 0] ⟨n, w, [joinD true false]⟩ = some ⟨joinN true false true false (hearE joinC.vars [Int.ofNat 0, Int.ofNat 0] n), joinN true false true false (hearE joinC.vars [Int.ofNat 0, Int.ofNat 0] n), [joinD true false]⟩ := by kernel_rfl
theorem join_tf_zp (k : Nat) (n w : Px.Env) : tickC joinC [Int.ofNat 0, Int.ofNat (k + 1)] ⟨n, w, [joinD true false]⟩ = some ⟨joinN true false true true (hearE joinC.vars [Int.ofNat 0, Int.ofNat (k + 1)] n), joinN true false true true (hearE joinC.vars [Int.ofNat 0, Int.ofNat (k + 1)] n), [joinD true true]⟩ := by kernel_rfl
theorem join_tf_zn (k : Nat) (n w : Px.Env) : tickC joinC [Int.ofNat 0, Int.negSucc k] ⟨n, w, [joinD true false]⟩ = some ⟨joinN true false true true (hearE joinC.vars [Int.ofNat 0, Int.negSucc k] n), joinN true false true true (hearE joinC.vars [Int.ofNat 0, Int.negSucc k] n), [joinD true true]⟩ := by kernel_rfl
theorem join_tf_pz (m : Nat) (n w : Px.Env) : tickC joinC [Int.ofNat (m + 1), Int.ofNat 0] ⟨n, w, [joinD true false]⟩ = some ⟨joinN true false true false (hearE joinC.vars [Int.ofNat (m + 1), Int.ofNat 0] n), joinN true false true false (hearE joinC.vars [Int.ofNat (m + 1), Int.ofNat 0] n), [joinD true false]⟩ := by kernel_rfl
theorem join_tf_pp (m : Nat) (k : Nat) (n w : Px.Env) : tickC joinC [Int.ofNat (m + 1), Int.ofNat (k + 1)] ⟨n, w, [joinD true false]⟩ = some ⟨joinN true false true true (hearE joinC.vars [Int.ofNat (m + 1), Int.ofNat (k + 1)] n), joinN true false true true (hearE joinC.vars [Int.ofNat (m + 1), Int.ofNat (k + 1)] n), [joinD true true]⟩ := by kernel_rfl
theorem join_tf_pn (m : Nat) (k : Nat) (n w : Px.Env) : tickC joinC [Int.ofNat (m + 1), Int.negSucc k] ⟨n, w, [joinD true false]⟩ = some ⟨joinN true false true true (hearE joinC.vars [Int.ofNat (m + 1), Int.negSucc k] n), joinN true false true true (hearE joinC.vars [Int.ofNat (m + 1), Int.negSucc k] n), [joinD true true]⟩ := by kernel_rfl
theorem join_tf_nz (m : Nat) (n w : Px.Env) : tickC joinC [Int.negSucc m, Int.ofNat 0] ⟨n, w, [joinD true false]⟩ = some ⟨joinN true false true false (hearE joinC.vars [Int.negSucc m, Int.ofNat 0] n), joinN true false true false (hearE joinC.vars [Int.negSucc m, Int.ofNat 0] n), [joinD true false]⟩ := by kernel_rfl
theorem join_tf_np (m : Nat) (k : Nat) (n w : Px.Env) : tickC joinC [Int.negSucc m, Int.ofNat (k + 1)] ⟨n, w, [joinD true false]⟩ = some ⟨joinN true false true true (hearE joinC.vars [Int.negSucc m, Int.ofNat (k + 1)] n), joinN true false true true (hearE joinC.vars [Int.negSucc m, Int.ofNat (k + 1)] n), [joinD true true]⟩ := by kernel_rfl
theorem join_tf_nn (m : Nat) (k : Nat) (n w : Px.Env) : tickC joinC [Int.negSucc m, Int.negSucc k] ⟨n, w, [joinD true false]⟩ = some ⟨joinN true false true true (hearE joinC.vars [Int.negSucc m, Int.negSucc k] n), joinN true false true true (hearE joinC.vars [Int.negSucc m, Int.negSucc k] n), [joinD true true]⟩ := by kernel_rfl
theorem join_tt_zz (n w : Px.Env) : tickC joinC [Int.ofNat 0, Int.ofNat 0] ⟨n, w, [joinD true true]⟩ = some ⟨joinN true true true true (hearE joinC.vars [Int.ofNat 0, Int.ofNat 0] n), joinN true true true true (hearE joinC.vars [Int.ofNat 0, Int.ofNat 0] n), [joinD true true]⟩ := by kernel_rfl
theorem join_tt_zp (k : Nat) (n w : Px.Env) : tickC joinC [Int.ofNat 0, Int.ofNat (k + 1)] ⟨n, w, [joinD true true]⟩ = some ⟨joinN true true true true (hearE joinC.vars [Int.ofNat 0, Int.ofNat (k + 1)] n), joinN true true true true (hearE joinC.vars [Int.ofNat 0, Int.ofNat (k + 1)] n), [joinD true true]⟩ := by kernel_rfl
theorem join_tt_zn (k : Nat) (n w : Px.Env) : tickC joinC [Int.ofNat 0, Int.negSucc k] ⟨n, w, [joinD true true]⟩ = some ⟨joinN true true true true (hearE joinC.vars [Int.ofNat 0, Int.negSucc k] n), joinN true true true true (hearE joinC.vars [Int.ofNat 0, Int.negSucc k] n), [joinD true true]⟩ := by kernel_rfl
theorem join_tt_pz (m : Nat) (n w : Px.Env) : tickC joinC [Int.ofNat (m + 1), Int.ofNat 0] ⟨n, w, [joinD true true]⟩ = some ⟨joinN true true true true (hearE joinC.vars [Int.ofNat (m + 1), Int.ofNat 0] n), joinN true true true true (hearE joinC.vars [Int.ofNat (m + 1), Int.ofNat 0] n), [joinD true true]⟩ := by kernel_rfl
theorem join_tt_pp (m : Nat) (k : Nat) (n w : Px.Env) : tickC joinC [Int.ofNat (m + 1), Int.ofNat (k + 1)] ⟨n, w, [joinD true true]⟩ = some ⟨joinN true true true true (hearE joinC.vars [Int.ofNat (m + 1), Int.ofNat (k + 1)] n), joinN true true true true (hearE joinC.vars [Int.ofNat (m + 1), Int.ofNat (k + 1)] n), [joinD true true]⟩ := by kernel_rfl
theorem join_tt_pn (m : Nat) (k : Nat) (n w : Px.Env) : tickC joinC [Int.ofNat (m + 1), Int.negSucc k] ⟨n, w, [joinD true true]⟩ = some ⟨joinN true true true true (hearE joinC.vars [Int.ofNat (m + 1), Int.negSucc k] n), joinN true true true true (hearE joinC.vars [Int.ofNat (m + 1), Int.negSucc k] n), [joinD true true]⟩ := by kernel_rfl
theorem join_tt_nz (m : Nat) (n w : Px.Env) : tickC joinC [Int.negSucc m, Int.ofNat 0] ⟨n, w, [joinD true true]⟩ = some ⟨joinN true true true true (hearE joinC.vars [Int.negSucc m, Int.ofNat 0] n), joinN true true true true (hearE joinC.vars [Int.negSucc m, Int.ofNat 0] n), [joinD true true]⟩ := by kernel_rfl
theorem join_tt_np (m : Nat) (k : Nat) (n w : Px.Env) : tickC joinC [Int.negSucc m, Int.ofNat (k + 1)] ⟨n, w, [joinD true true]⟩ = some ⟨joinN true true true true (hearE joinC.vars [Int.negSucc m, Int.ofNat (k + 1)] n), joinN true true true true (hearE joinC.vars [Int.negSucc m, Int.ofNat (k + 1)] n), [joinD true true]⟩ := by kernel_rfl
theorem join_tt_nn (m : Nat) (k : Nat) (n w : Px.Env) : tickC joinC [Int.negSucc m, Int.negSucc k] ⟨n, w, [joinD true true]⟩ = some ⟨joinN true true true true (hearE joinC.vars [Int.negSucc m, Int.negSucc k] n), joinN true true true true (hearE joinC.vars [Int.negSucc m, Int.negSucc k] n), [joinD true true]⟩ := by kernel_rfl
theorem join_go (p q : Bool) (u v : Int) (n w : Px.Env) : tickC joinC [u, v] ⟨n, w, [joinD p q]⟩ = some ⟨joinN p q (p || hitB u) (q || hitB v) (hearE joinC.vars [u, v] n), joinN p q (p || hitB u) (q || hitB v) (hearE joinC.vars [u, v] n), [joinD (p || hitB u) (q || hitB v)]⟩ := by
  rcases u with (_ | m) | m <;> rcases v with (_ | k) | k <;> cases p <;> cases q
  · exact join_ff_zz n w
  · exact join_ft_zz n w
  · exact join_tf_zz n w
  · exact join_tt_zz n w
  · exact join_ff_zp k n w
  · exact join_ft_zp k n w
  · exact join_tf_zp k n w
  · exact join_tt_zp k n w
  · exact join_ff_zn k n w
  · exact join_ft_zn k n w
  · exact join_tf_zn k n w
  · exact join_tt_zn k n w
  · exact join_ff_pz m n w
  · exact join_ft_pz m n w
  · exact join_tf_pz m n w
  · exact join_tt_pz m n w
  · exact join_ff_pp m k n w
  · exact join_ft_pp m k n w
  · exact join_tf_pp m k n w
  · exact join_tt_pp m k n w
  · exact join_ff_pn m k n w
  · exact join_ft_pn m k n w
  · exact join_tf_pn m k n w
  · exact join_tt_pn m k n w
  · exact join_ff_nz m n w
  · exact join_ft_nz m n w
  · exact join_tf_nz m n w
  · exact join_tt_nz m n w
  · exact join_ff_np m k n w
  · exact join_ft_np m k n w
  · exact join_tf_np m k n w
  · exact join_tt_np m k n w
  · exact join_ff_nn m k n w
  · exact join_ft_nn m k n w
  · exact join_tf_nn m k n w
  · exact join_tt_nn m k n w
/-- whether it was so, with one tick more -/
def joinH (i : Nat) (p : Bool) (z : Int) : Bool := if 0 < i then p || hitB z else p
def JoinI (i : Nat) (r : Rn) (p q : Bool) : Prop :=
  (i = 0 ∧ r = newC joinC ∧ p = false ∧ q = false) ∨ (0 < i ∧ ∃ n w, n [120] = (if p && q then 1 else 0) ∧ r = ⟨n, w, [joinD p q]⟩)
theorem joinN_x (p q p' q' : Bool) (n : Px.Env) (u v : Int) (hn : n [120] = if p && q then 1 else 0) (hp : p = true → p' = true) (hq : q = true → q' = true) : joinN p q p' q' (hearE joinC.vars [u, v] n) [120] = if p' && q' then 1 else 0 := by
  have e : hearE joinC.vars [u, v] n [120] = n [120] := rfl
  unfold joinN
  cases p <;> cases q <;> cases p' <;> cases q' <;> simp_all [updE]
theorem join_step {i : Nat} {r : Rn} {p q : Bool} (h : JoinI i r p q) (ins : List Int) : ∃ r', tickC joinC ins r = some r' ∧ JoinI (i + 1) r' (joinH i p (ins.getD 0 0)) (joinH i q (ins.getD 1 0)) ∧ outsC joinC r' = [if joinH i p (ins.getD 0 0) && joinH i q (ins.getD 1 0) then 1 else 0] := by
  rw [join_ins]
  generalize ins.getD 0 0 = u
  generalize ins.getD 1 0 = v
  rcases h with ⟨rfl, rfl, rfl, rfl⟩ | ⟨h0, n, w, hn, rfl⟩
  · refine ⟨_, join_new u v, .inr ⟨by omega, _, _, ?_, rfl⟩, ?_⟩
    · rfl
    · rfl
  · have e1 : joinH i p u = (p || hitB u) := by unfold joinH; rw [if_pos h0]
    have e2 : joinH i q v = (q || hitB v) := by unfold joinH; rw [if_pos h0]
    rw [e1, e2]
    have hx := joinN_x p q (p || hitB u) (q || hitB v) n u v hn (fun h => by rw [h]; rfl) (fun h => by rw [h]; rfl)
    refine ⟨_, join_go p q u v n w, .inr ⟨by omega, _, _, hx, rfl⟩, ?_⟩
    show [joinN p q (p || hitB u) (q || hitB v) (hearE joinC.vars [u, v] n) [120]] = _
    rw [hx]
end Kx
end Go.Proofs.YtecbilopliblpaaGreatDoor
