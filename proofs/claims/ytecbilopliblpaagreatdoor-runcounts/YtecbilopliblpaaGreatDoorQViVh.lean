/- RunOrders: its two charts, and what they do. -/
import Derived.Test.YtecbilopliblpaaGreatDoorQVe
namespace Go.Proofs.YtecbilopliblpaaGreatDoor
open Go.RowKit Px
namespace Kx
def ordS (k : Nat) : StF (St 5) := ⟨[115], true, false, [], [⟨[120], eTwo 6 (eName 2 [120]) (eNum 1)⟩], [⟨[121], eTwo 6 (eName 2 [121]) (eNum 1)⟩], .nil, [⟨k, false, eName 2 [97], 1, [], [116], false⟩], []⟩
def ordT : StF (St 5) := ⟨[116], false, false, [], [], [], .nil, [], []⟩
def ordC (k : Nat) : Chart := ⟨[99], [⟨1, [97], 0⟩, ⟨2, [120], 0⟩, ⟨2, [121], 0⟩], [[ordS k, ordT]]⟩
abbrev ordGC : Chart := ordC 0
abbrev ordAC : Chart := ordC 1
def ordGL : List UInt8 := [99, 104, 97, 114, 116, 32, 99, 32, 123, 32, 105, 110, 112, 117, 116, 32, 97, 59, 32, 111, 117, 116, 112, 117, 116, 32, 120, 59, 32, 111, 117, 116, 112, 117, 116, 32, 121, 59, 32, 114, 101, 103, 105, 111, 110, 32, 123, 32, 105, 110, 105, 116, 105, 97, 108, 32, 115, 116, 97, 116, 101, 32, 115, 32, 123, 32, 100, 117, 114, 105, 110, 103, 32, 120, 32, 58, 61, 32, 120, 32, 43, 32, 49, 59, 32, 101, 120, 105, 116, 32, 121, 32, 58, 61, 32, 121, 32, 43, 32, 49, 59, 32, 103, 111, 32, 105, 102, 32, 97, 32, 45, 45, 62, 32, 116, 59, 32, 125, 32, 115, 116, 97, 116, 101, 32, 116, 59, 32, 125, 32, 125]
def ordGK : List Lx.Tok := [⟨1, [99, 104, 97, 114, 116], 0⟩, ⟨1, [99], 6⟩, ⟨3, [123], 8⟩, ⟨1, [105, 110, 112, 117, 116], 10⟩, ⟨1, [97], 16⟩, ⟨3, [59], 17⟩, ⟨1, [111, 117, 116, 112, 117, 116], 19⟩, ⟨1, [120], 26⟩, ⟨3, [59], 27⟩, ⟨1, [111, 117, 116, 112, 117, 116], 29⟩, ⟨1, [121], 36⟩, ⟨3, [59], 37⟩, ⟨1, [114, 101, 103, 105, 111, 110], 39⟩, ⟨3, [123], 46⟩, ⟨1, [105, 110, 105, 116, 105, 97, 108], 48⟩, ⟨1, [115, 116, 97, 116, 101], 56⟩, ⟨1, [115], 62⟩, ⟨3, [123], 64⟩, ⟨1, [100, 117, 114, 105, 110, 103], 66⟩, ⟨1, [120], 73⟩, ⟨3, [58, 61], 75⟩, ⟨1, [120], 78⟩, ⟨3, [43], 80⟩, ⟨2, [49], 82⟩, ⟨3, [59], 83⟩, ⟨1, [101, 120, 105, 116], 85⟩, ⟨1, [121], 90⟩, ⟨3, [58, 61], 92⟩, ⟨1, [121], 95⟩, ⟨3, [43], 97⟩, ⟨2, [49], 99⟩, ⟨3, [59], 100⟩, ⟨1, [103, 111], 102⟩, ⟨1, [105, 102], 105⟩, ⟨1, [97], 108⟩, ⟨3, [45, 45, 62], 110⟩, ⟨1, [116], 114⟩, ⟨3, [59], 115⟩, ⟨3, [125], 117⟩, ⟨1, [115, 116, 97, 116, 101], 119⟩, ⟨1, [116], 125⟩, ⟨3, [59], 126⟩, ⟨3, [125], 128⟩, ⟨3, [125], 130⟩]
set_option maxRecDepth 100000 in
theorem ordG_lex : lexF 46 ordGL 0 = some ordGK := by kernel_rfl
set_option maxRecDepth 100000 in
theorem ordG_chart (n : Nat) : chart (ordGK ++ [⟨4, [], n⟩]) = .ok ordGC := by kernel_rfl
theorem ordG_ok {s : ByteArray} (h : bs s = ordGL) : Lx.Ok (bs s) ordGK ∧ chart (fin s ordGK) = .ok ordGC := by
  refine ⟨⟨by decide, ?_⟩, ordG_chart _⟩
  rw [h]
  exact lexF_ok _ _ _ _ ordG_lex
set_option maxRecDepth 100000 in
theorem ordG_check : checkC ordGC = none := by kernel_rfl
def ordAL : List UInt8 := [99, 104, 97, 114, 116, 32, 99, 32, 123, 32, 105, 110, 112, 117, 116, 32, 97, 59, 32, 111, 117, 116, 112, 117, 116, 32, 120, 59, 32, 111, 117, 116, 112, 117, 116, 32, 121, 59, 32, 114, 101, 103, 105, 111, 110, 32, 123, 32, 105, 110, 105, 116, 105, 97, 108, 32, 115, 116, 97, 116, 101, 32, 115, 32, 123, 32, 100, 117, 114, 105, 110, 103, 32, 120, 32, 58, 61, 32, 120, 32, 43, 32, 49, 59, 32, 101, 120, 105, 116, 32, 121, 32, 58, 61, 32, 121, 32, 43, 32, 49, 59, 32, 97, 98, 111, 114, 116, 32, 105, 102, 32, 97, 32, 45, 45, 62, 32, 116, 59, 32, 125, 32, 115, 116, 97, 116, 101, 32, 116, 59, 32, 125, 32, 125]
def ordAK : List Lx.Tok := [⟨1, [99, 104, 97, 114, 116], 0⟩, ⟨1, [99], 6⟩, ⟨3, [123], 8⟩, ⟨1, [105, 110, 112, 117, 116], 10⟩, ⟨1, [97], 16⟩, ⟨3, [59], 17⟩, ⟨1, [111, 117, 116, 112, 117, 116], 19⟩, ⟨1, [120], 26⟩, ⟨3, [59], 27⟩, ⟨1, [111, 117, 116, 112, 117, 116], 29⟩, ⟨1, [121], 36⟩, ⟨3, [59], 37⟩, ⟨1, [114, 101, 103, 105, 111, 110], 39⟩, ⟨3, [123], 46⟩, ⟨1, [105, 110, 105, 116, 105, 97, 108], 48⟩, ⟨1, [115, 116, 97, 116, 101], 56⟩, ⟨1, [115], 62⟩, ⟨3, [123], 64⟩, ⟨1, [100, 117, 114, 105, 110, 103], 66⟩, ⟨1, [120], 73⟩, ⟨3, [58, 61], 75⟩, ⟨1, [120], 78⟩, ⟨3, [43], 80⟩, ⟨2, [49], 82⟩, ⟨3, [59], 83⟩, ⟨1, [101, 120, 105, 116], 85⟩, ⟨1, [121], 90⟩, ⟨3, [58, 61], 92⟩, ⟨1, [121], 95⟩, ⟨3, [43], 97⟩, ⟨2, [49], 99⟩, ⟨3, [59], 100⟩, ⟨1, [97, 98, 111, 114, 116], 102⟩, ⟨1, [105, 102], 108⟩, ⟨1, [97], 111⟩, ⟨3, [45, 45, 62], 113⟩, ⟨1, [116], 117⟩, ⟨3, [59], 118⟩, ⟨3, [125], 120⟩, ⟨1, [115, 116, 97, 116, 101], 122⟩, ⟨1, [116], 128⟩, ⟨3, [59], 129⟩, ⟨3, [125], 131⟩, ⟨3, [125], 133⟩]
set_option maxRecDepth 100000 in
theorem ordA_lex : lexF 46 ordAL 0 = some ordAK := by kernel_rfl
set_option maxRecDepth 100000 in
theorem ordA_chart (n : Nat) : chart (ordAK ++ [⟨4, [], n⟩]) = .ok ordAC := by kernel_rfl
theorem ordA_ok {s : ByteArray} (h : bs s = ordAL) : Lx.Ok (bs s) ordAK ∧ chart (fin s ordAK) = .ok ordAC := by
  refine ⟨⟨by decide, ?_⟩, ordA_chart _⟩
  rw [h]
  exact lexF_ok _ _ _ _ ordA_lex
set_option maxRecDepth 100000 in
theorem ordA_check : checkC ordAC = none := by kernel_rfl

def ordD0 : Rd 6 := (⟨some 0, none, [⟨[0], []⟩, ⟨[], []⟩]⟩ : RdF (Rd 5))
def ordD1 : Rd 6 := (⟨some 1, some 0, [⟨[1], []⟩, ⟨[], []⟩]⟩ : RdF (Rd 5))
theorem ord_new (k : Nat) (z : Int) : ∃ n, tickC (ordC k) [z] (newC (ordC k)) = some ⟨n, n, [ordD0]⟩ ∧ n [120] = 0 ∧ n [121] = 0 :=
  ⟨hearE (ordC k).vars [z] (firstE (ordC k).vars), rfl, rfl, rfl⟩
theorem ord_rest (k : Nat) (z : Int) (n w : Px.Env) : tickC (ordC k) [z] ⟨n, w, [ordD1]⟩ = some ⟨updE n [97] z, updE n [97] z, [ordD1]⟩ := rfl
theorem v_add1 {a : Int} (h : 0 ≤ a ∧ a ≤ 100) : vTwo 6 a 1 = a + 1 := by
  unfold vTwo wrap64
  simp
  omega
theorem v_add0 {a : Int} (h : a = 0) : vTwo 6 a 1 = 1 := by subst h; unfold vTwo wrap64; simp
theorem pos_ne (m : Nat) : ¬ Int.ofNat (m + 1) = 0 := fun h => by cases h
theorem neg_ne (m : Nat) : ¬ Int.negSucc m = 0 := fun h => by cases h
/-- a way that is no strong one -/
theorem ord_go (z : Int) (n w : Px.Env) (hx : 0 ≤ n [120] ∧ n [120] ≤ 100) (hy : n [121] = 0) : ∃ n', tickC (ordC 0) [z] ⟨n, w, [ordD0]⟩ = some ⟨n', n', [if z = 0 then ordD0 else ordD1]⟩ ∧ n' [120] = n [120] + 1 ∧ n' [121] = if z = 0 then 0 else 1 := by
  cases z with
  | ofNat m =>
    cases m with
    | zero =>
      refine ⟨_, rfl, ?_, ?_⟩
      · exact v_add1 hx
      · exact hy
    | succ m =>
      rw [if_neg (pos_ne m), if_neg (pos_ne m)]
      refine ⟨updE (updE (updE n [97] (Int.ofNat (m + 1))) [120] (vTwo 6 (n [120]) 1)) [121] (vTwo 6 (n [121]) 1), by kernel_rfl, ?_, ?_⟩
      · exact v_add1 hx
      · exact v_add0 hy
  | negSucc m =>
    rw [if_neg (neg_ne m), if_neg (neg_ne m)]
    refine ⟨updE (updE (updE n [97] (Int.negSucc m)) [120] (vTwo 6 (n [120]) 1)) [121] (vTwo 6 (n [121]) 1), by kernel_rfl, ?_, ?_⟩
    · exact v_add1 hx
    · exact v_add0 hy
/-- a strong one -/
theorem ord_abort (z : Int) (n w : Px.Env) (hx : 0 ≤ n [120] ∧ n [120] ≤ 100) (hy : n [121] = 0) : ∃ n', tickC (ordC 1) [z] ⟨n, w, [ordD0]⟩ = some ⟨n', n', [if z = 0 then ordD0 else ordD1]⟩ ∧ n' [120] = (if z = 0 then n [120] + 1 else n [120]) ∧ n' [121] = if z = 0 then 0 else 1 := by
  cases z with
  | ofNat m =>
    cases m with
    | zero =>
      refine ⟨_, rfl, ?_, ?_⟩
      · exact v_add1 hx
      · exact hy
    | succ m =>
      rw [if_neg (pos_ne m), if_neg (pos_ne m), if_neg (pos_ne m)]
      refine ⟨updE (updE n [97] (Int.ofNat (m + 1))) [121] (vTwo 6 (n [121]) 1), by kernel_rfl, ?_, ?_⟩
      · rfl
      · exact v_add0 hy
  | negSucc m =>
    rw [if_neg (neg_ne m), if_neg (neg_ne m), if_neg (neg_ne m)]
    refine ⟨updE (updE n [97] (Int.negSucc m)) [121] (vTwo 6 (n [121]) 1), by kernel_rfl, ?_, ?_⟩
    · rfl
    · exact v_add0 hy
/-- what the law reckons: how often, and whether it was left -/
def ordStep (k : Nat) (i : Nat) (z : Int) (p : Int × Int) : Int × Int :=
  if 0 < i ∧ p.2 = 0 then (if z = 0 ∨ k = 0 then p.1 + 1 else p.1, if z = 0 then p.2 else 1) else p
/-- how the chart stands behind i ticks -/
def OrdI (k i : Nat) (r : Rn) (p : Int × Int) : Prop :=
  (i = 0 ∧ r = newC (ordC k) ∧ p = (0, 0)) ∨ (0 < i ∧ ∃ n w, n [120] = p.1 ∧ n [121] = p.2 ∧ 0 ≤ p.1 ∧ p.1 ≤ i ∧ ((p.2 = 0 ∧ r = ⟨n, w, [ordD0]⟩) ∨ (p.2 = 1 ∧ r = ⟨n, w, [ordD1]⟩)))
theorem ord_step {k i : Nat} (hk : k ≤ 1) (hi : i ≤ 60) {r : Rn} {p : Int × Int} (h : OrdI k i r p) (z : Int) : ∃ r', tickC (ordC k) [z] r = some r' ∧ OrdI k (i + 1) r' (ordStep k i z p) ∧ outsC (ordC k) r' = [(ordStep k i z p).1, (ordStep k i z p).2] := by
  rcases h with ⟨rfl, rfl, rfl⟩ | ⟨h0, n, w, h1, h2, h3, h4, ⟨h5, rfl⟩ | ⟨h5, rfl⟩⟩
  · obtain ⟨n, t1, t2, t3⟩ := ord_new k z
    have e : ordStep k 0 z (0, 0) = (0, 0) := by unfold ordStep; rw [if_neg (by omega)]
    rw [e]
    refine ⟨_, t1, .inr ⟨by omega, n, n, t2, t3, by omega, by omega, .inl ⟨rfl, rfl⟩⟩, ?_⟩
    show [n [120], n [121]] = _
    rw [t2, t3]
  · have e : ordStep k i z p = (if z = 0 ∨ k = 0 then p.1 + 1 else p.1, if z = 0 then p.2 else 1) := by unfold ordStep; rw [if_pos ⟨h0, h5⟩]
    rw [e]
    have hn : ∃ n', tickC (ordC k) [z] ⟨n, w, [ordD0]⟩ = some ⟨n', n', [if z = 0 then ordD0 else ordD1]⟩ ∧ n' [120] = (if z = 0 ∨ k = 0 then p.1 + 1 else p.1) ∧ n' [121] = if z = 0 then 0 else 1 := by
      have hk' : k = 0 ∨ k = 1 := by omega
      rcases hk' with rfl | rfl
      · obtain ⟨n', t1, t2, t3⟩ := ord_go z n w (by rw [h1]; omega) (h2.trans h5)
        exact ⟨n', t1, by rw [t2, h1, if_pos (.inr rfl)], t3⟩
      · obtain ⟨n', t1, t2, t3⟩ := ord_abort z n w (by rw [h1]; omega) (h2.trans h5)
        refine ⟨n', t1, ?_, t3⟩
        rw [t2, h1]
        by_cases hz : z = 0
        · rw [if_pos hz, if_pos (.inl hz)]
        · rw [if_neg hz, if_neg (by omega)]
    obtain ⟨n', t1, t2, t3⟩ := hn
    refine ⟨_, t1, .inr ⟨by omega, n', n', t2, by rw [t3, h5], ?_, ?_, ?_⟩, ?_⟩
    · show 0 ≤ (if z = 0 ∨ k = 0 then p.1 + 1 else p.1); split <;> omega
    · show (if z = 0 ∨ k = 0 then p.1 + 1 else p.1) ≤ _; split <;> omega
    · by_cases hz : z = 0
      · exact .inl ⟨by show (if z = 0 then p.2 else 1) = 0; rw [if_pos hz, h5], by rw [if_pos hz]⟩
      · exact .inr ⟨by show (if z = 0 then p.2 else 1) = 1; rw [if_neg hz], by rw [if_neg hz]⟩
    · show [n' [120], n' [121]] = _
      rw [t2, t3, h5]
  · have e : ordStep k i z p = p := by unfold ordStep; rw [if_neg (by omega)]
    rw [e]
    refine ⟨_, ord_rest k z n w, .inr ⟨by omega, _, _, ?_, ?_, h3, by omega, .inr ⟨h5, rfl⟩⟩, ?_⟩
    · exact h1
    · exact h2
    · show [n [120], n [121]] = _
      rw [h1, h2]
end Kx
end Go.Proofs.YtecbilopliblpaaGreatDoor
/- RunOrders: strong is ahead, weak is behind. -/
namespace Go.Proofs.YtecbilopliblpaaGreatDoor
open Go.RowKit Px
namespace Kx
theorem ixO0 (a b : Value) (w : World) : (Instr.index 64 (.agg #[a, b]) (.int .i64 0)).run Tryz.prog w = .ok a w := by kernel_rfl
theorem ixO1 (a b : Value) (w : World) : (Instr.index 64 (.agg #[a, b]) (.int .i64 1)).run Tryz.prog w = .ok b w := by kernel_rfl
theorem chart_all {w : World} {c : Chart} {v : Value} (h : IsChart (fun _ => True) w c v) : IsChart (fun b => b < w.heap.size) w c v := by
  have kp : Keep (fun _ => True) (fun b => b < w.heap.size) w w := fun b ha hlt => ⟨hlt, rfl⟩
  obtain ⟨a, n, m, a2, n2, m2, rfl, hv, hr⟩ := h
  exact ⟨a, n, m, a2, n2, m2, rfl, hv.carry kp, hr.carry kp (IsStates.carry kp 6)⟩
/-- a row of two numbers, opened -/
theorem nums_two {w : World} {a : Option Addr} {n m : Nat} {x y : Int} (h : INums w (.slice a n m) [x, y]) : ∃ b o, a = some ⟨b, o, none⟩ ∧ n = 2 ∧ w.cell? ⟨b, o, none⟩ = some (.int .i64 x) ∧ w.cell? ⟨b, o + 1, none⟩ = some (.int .i64 y) := by
  obtain ⟨ad, b, off, cap, e, _, _, h4, h5⟩ := h
  injection e with e1 e2 e3
  subst e1
  exact ⟨b, off, h4 (by simp), e2, h5 0 (by simp), h5 1 (by simp)⟩
/-- what a fixed text draws -/
theorem fixed_parse {c : Chart} {L : List UInt8} {K : List Lx.Tok} (hok : ∀ {s : ByteArray}, bs s = L → Lx.Ok (bs s) K ∧ chart (fin s K) = .ok c) (hl : L.length ≤ 1500) {w : World} (hv : KEnv0 w) (s : ByteArray) (hs : bs s = L) :
    Calls Tryz.prog 25 #[.string s] w fun e w' => ∃ S a n m a' n' m', e = .returned (.tuple #[.agg #[.string S, .slice a n m, .slice a' n' m'], .nilIface]) ∧ Hid (IsChart (fun _ => True) w' c (.agg #[.string S, .slice a n m, .slice a' n' m']) ∧ Below w.heap.size w w') :=
  parseAt (by rw [← bs_len, hs]; exact hl) hv (hok hs).1 (hok hs).2
theorem fixed_run {c : Chart} {L : List UInt8} {K : List Lx.Tok} (hok : ∀ {s : ByteArray}, bs s = L → Lx.Ok (bs s) K ∧ chart (fin s K) = .ok c) (hc : checkC c = none) : RunC c :=
  runC (s := ⟨L.toArray⟩) (hok rfl).1 (hok rfl).2 hc
set_option maxRecDepth 100000 in
set_option maxHeartbeats 16000000 in
theorem runOrders_fine {w : World} {iv : Value} {zs : List Int} (hv : KEnv0 w) (hI : INums w iv zs) (h64 : ∀ y ∈ zs, N64 y) (h60 : zs.length ≤ 60) :
    Calls Tryz.prog 7 #[iv] w fun e w' => e = .returned (.bool true) ∧ Hid (Below w.heap.size w w') := by
  have hran := ran_any hv
  have HP0 : Hid (∀ W, Below w.heap.size w W → ∀ s : ByteArray, bs s = ordGL → Calls Tryz.prog 25 #[.string s] W fun e w' => ∃ S a n m a' n' m', e = .returned (.tuple #[.agg #[.string S, .slice a n m, .slice a' n' m'], .nilIface]) ∧ Hid (IsChart (fun _ => True) w' (ordC 0) (.agg #[.string S, .slice a n m, .slice a' n' m']) ∧ Below W.heap.size W w')) := fun W hb s hs => fixed_parse ordG_ok (by decide) (hv.up hb) s hs
  have HP1 : Hid (∀ W, Below w.heap.size w W → ∀ s : ByteArray, bs s = ordAL → Calls Tryz.prog 25 #[.string s] W fun e w' => ∃ S a n m a' n' m', e = .returned (.tuple #[.agg #[.string S, .slice a n m, .slice a' n' m'], .nilIface]) ∧ Hid (IsChart (fun _ => True) w' (ordC 1) (.agg #[.string S, .slice a n m, .slice a' n' m']) ∧ Below W.heap.size W w')) := fun W hb s hs => fixed_parse ordA_ok (by decide) (hv.up hb) s hs
  have HC0 : Hid (RunC (ordC 0)) := fixed_run ordG_ok ordG_check
  have HC1 : Hid (RunC (ordC 1)) := fixed_run ordA_ok ordA_check
  obtain ⟨iad, ib, io, ic, rfl, hc1, hc2, hia, hin⟩ := hI
  obtain ⟨N, hN⟩ : ∃ N, N = zs.length := ⟨_, rfl⟩
  rw [← hN] at hc1 hia hin h60 ⊢
  have H : Hid (N = zs.length ∧ N ≤ 60 ∧ (N ≤ ic ∧ ic ≤ maxLen) ∧ (0 < N → iad = some ⟨ib, io, none⟩) ∧ (∀ k, k < N → w.cell? ⟨ib, io + k, none⟩ = some (.int .i64 (zs.getD k 0))) ∧ ∀ y ∈ zs, N64 y) := ⟨hN, h60, ⟨hc1, hc2⟩, hia, hin, h64⟩
  clear hv hN hia hin h64 hc1 hc2
  go_enter Tryz.func7, Tryz.ntmps7
  go_wp2_with fail
  refine hran.mono ?_
  rintro e w1 ⟨rfl, hb1⟩
  clear hran
  go_wp2_with fail
  go_loopg [18] 2 (fun f kv wr => ∃ k : Nat, f = 2 - k ∧ k ≤ 2 ∧ kv = .int .i64 (k : Int) ∧ Hid (Below w.heap.size w wr))
  case atStart => exact ⟨0, by omega, by omega, rfl, hb1.out⟩
  case round =>
    clear hb1
    obtain ⟨k, rfl, hk, rfl, hr⟩ := hrel
    have hk3 : k = 0 ∨ k = 1 ∨ k = 2 := by omega
    rcases hk3 with rfl | rfl | rfl
    · have hixk := ixO0
      have hp := HP0.out wr hr.out
      have HB1 : Hid (Below w.heap.size w wr) := hr.out
      clear hr
      go_wp2_with fail
      refine (hp _ (by kernel_rfl)).mono ?_
      rintro e w2 ⟨S, a, n, m, a', n', m', rfl, h2⟩
      clear hp
      obtain ⟨W2, hW2⟩ : ∃ W2, W2 = w2.alloc (.cells #[.string S, .slice a n m, .slice a' n' m'] 28) := ⟨_, rfl⟩
      obtain ⟨cb, hcb⟩ : ∃ cb, cb = w2.heap.size := ⟨_, rfl⟩
      have hg2 : Below w2.heap.size w2 W2 := by rw [hW2]; exact ck_grown _ _
      have k2 : W2.heap[cb]? = some (.cells #[.string S, .slice a n m, .slice a' n' m'] 28 (0, 0)) := by rw [hW2, hcb]; exact ck_new _ _
      obtain ⟨A, hA⟩ : ∃ A : Nat → Prop, A = fun b => b < w2.heap.size := ⟨_, rfl⟩
      have hCh : IsChart A W2 (ordC 0) (.agg #[.string S, .slice a n m, .slice a' n' m']) := by rw [hA]; exact chartUp (chart_all h2.out.1) hg2
      have hAW : ∀ b, A b → b < W2.heap.size := fun b hb => by rw [hA] at hb; exact Nat.lt_of_lt_of_le hb hg2.size
      have HC : Hid (RunC (ordC 0)) := HC0.out
      have hn1 := new_run hCh HC.out hAW
      have HW : Hid (Below w.heap.size w W2) := ck_all (ck_all HB1.out h2.out.2) hg2
      have x0 := cell_row k2 0 (u := .string S) rfl
      have x1 := cell_row k2 1 (u := .slice a n m) rfl
      have x2 := cell_row k2 2 (u := .slice a' n' m') rfl
      clear h2 hg2 k2 hA hCh hAW HB1
      go_upto_region 11 with fail
      rw [← hcb, ← hW2]
      clear hcb hW2
      go_wp2_with fail
      refine hn1.mono ?_
      rintro e w3 ⟨rb, rfl, h3⟩
      clear hn1 x0 x1 x2
      obtain ⟨⟨Q, x, hR1, hQ1⟩, hb3⟩ := h3.out
      have HR : Hid (RnM A w3 (ordC 0) (newC (ordC 0)) rb Q x ∧ (∀ b, Q b → w.heap.size ≤ b) ∧ Below w.heap.size w w3) := ⟨hR1, fun b hb => Nat.le_trans HW.out.size (hQ1 b hb), ck_all HW.out hb3⟩
      have HQ : Hid ((∀ b, Q b → w.heap.size ≤ b) ∧ True) := ⟨HR.out.2.1, trivial⟩
      clear h3 hR1 hQ1 hb3 HW
      go_wp2_with fail
      go_loopg [8, 9, 10] N (fun f nv lv iv wr => ∃ (i : Nat) (pn pl : Int) (r : Rn), f = N - i ∧ i ≤ N ∧ nv = .int .i64 pn ∧ lv = .int .i64 pl ∧ iv = .int .i64 (i : Int) ∧ Hid (OrdI 0 i r (pn, pl) ∧ RnM A wr (ordC 0) r rb Q x ∧ Below w.heap.size w wr))
      case atStart => exact ⟨0, 0, 0, newC (ordC 0), by omega, by omega, rfl, rfl, rfl, .inl ⟨rfl, rfl, rfl⟩, HR.out.1, HR.out.2.2⟩
      case round =>
        obtain ⟨i, pn, pl, r, rfl, hi, rfl, rfl, rfl, hr⟩ := hrel
        obtain ⟨W5, hW5⟩ : ∃ W, W = wr := ⟨_, rfl⟩
        subst hW5
        by_cases hlt : i < N
        · obtain ⟨z, hz⟩ : ∃ z, z = zs.getD i 0 := ⟨_, rfl⟩
          have hcz : W5.cell? ⟨ib, io + i, none⟩ = some (.int .i64 z) := by rw [hz]; exact ck_cell hr.out.2.2 (H.out.2.2.2.2.1 i hlt)
          obtain ⟨r', ht, hst, hou⟩ := ord_step (k := 0) (by omega) (by have := H.out.2.1; omega) hr.out.1 z
          have hz64 : N64 z := by
            rw [hz, List.getD_eq_getElem?_getD, List.getElem?_eq_getElem (by rw [← H.out.1]; exact hlt)]
            exact H.out.2.2.2.2.2 _ (List.getElem_mem _)
          obtain rfl := H.out.2.2.2.1 (by omega)
          have hix := ixN (some ⟨ib, io, none⟩) ib io N ic i hlt (fun _ => rfl)
          have hT := tick_run hr.out.2.1 HC.out.run (iv := .slice (some ⟨ib, io + i, none⟩) 1 (ic - i)) (ins := [z]) ⟨_, ib, io + i, ic - i, rfl, by have := H.out.2.2.1.1; simp; omega, by have := H.out.2.2.1.2; omega, fun _ => rfl, fun j hj => by
            have : j = 0 := by simp at hj; omega
            subst this
            exact hcz⟩ (fun y hy => by simp at hy; subst hy; exact hz64) ht
          have HX : Hid (tickC (ordC 0) [z] r = some r' ∧ OrdI 0 (i + 1) r' (ordStep 0 i z (pn, pl)) ∧ outsC (ordC 0) r' = [(ordStep 0 i z (pn, pl)).1, (ordStep 0 i z (pn, pl)).2]) := ⟨ht, hst, hou⟩
          have HBW : Hid (Below w.heap.size w W5) := hr.out.2.2
          have HQS : Hid (∀ b, Q b → b < W5.heap.size) := hr.out.2.1.hQ
          have hic1 : (N : Int) ≤ (ic : Int) := by have := H.out.2.2.1.1; omega
          have hic2 : (ic : Int) ≤ 9223372036854775807 := by have := H.out.2.2.1.2; unfold maxLen at this; omega
          have hic3 : ¬ ic = i := by have := H.out.2.2.1.1; omega
          have hi1 : (i : Int) + 1 ≤ (ic : Int) := by omega
          have hpn : 0 ≤ pn ∧ pn ≤ 60 := by
            rcases hr.out.1 with ⟨_, _, e⟩ | ⟨_, _, _, _, _, q1, q2, _⟩
            · injection e with e1 e2; omega
            · have := H.out.2.1; exact ⟨q1, by show pn ≤ 60; have : pn ≤ (i : Int) := q2; omega⟩
          have hpl : i = 0 ∨ (0 < i ∧ pl = 0) ∨ (0 < i ∧ pl = 1) := by
            rcases hr.out.1 with ⟨e, _⟩ | ⟨e, _, _, _, _, _, _, ⟨q, _⟩ | ⟨q, _⟩⟩
            · exact .inl e
            · exact .inr (.inl ⟨e, q⟩)
            · exact .inr (.inr ⟨e, q⟩)
          clear hr hz ht hst hou hz64
          rcases hpl with h0 | ⟨h0, h1⟩ | ⟨h0, h1⟩

          · subst h0
            have hw : ordStep 0 0 z (pn, pl) = (pn, pl) := by unfold ordStep; rw [if_neg (by omega)]
            clear hpn
            go_upto_region 23 with fail
            go_wp2_with fail
            refine hT.mono ?_
            rintro e w5 ⟨a5, n5, m5, rfl, h5⟩
            clear hT
            obtain ⟨hR5, hr5, hf5⟩ := h5.out
            have hO5 := hr5 Q w5 HQS.out (FrQ.refl _ _)
            rw [HX.out.2.2] at hO5
            obtain ⟨b5, o5, e5, e6, y0, y1⟩ := nums_two hO5
            subst e5
            subst e6
            have HE : Hid (OrdI 0 (0 + 1) r' (ordStep 0 0 z (pn, pl)) ∧ RnM A w5 (ordC 0) r' rb Q x ∧ Below w.heap.size w w5) := ⟨HX.out.2.1, hR5, below_frq HBW.out hf5 HQ.out.1 HBW.out.size⟩
            have HP : Hid (ordStep 0 0 z (pn, pl) = (pn, pl)) := hw
            rw [HP.out] at y0 y1 HE
            have hi0 := ixN (some ⟨b5, o5, none⟩) b5 o5 2 m5 0 (by omega) (fun _ => rfl)
            have hi1 := ixN (some ⟨b5, o5, none⟩) b5 o5 2 m5 1 (by omega) (fun _ => rfl)
            clear h5 hR5 hr5 hf5 hO5 HX HBW HP
            go_wp2_with fail
            go_roundg (N - (0 + 1))
            case measure => omega
            case rel => exact ⟨0 + 1, pn, pl, r', by omega, by omega, by go_num, by go_num, by go_num, HE.out⟩
          · subst h1
            by_cases hz0 : z = 0
            · subst hz0
              have hw : ordStep 0 i 0 (pn, 0) = (pn + 1, 0) := by unfold ordStep; rw [if_pos ⟨h0, rfl⟩, if_pos (.inl rfl), if_pos rfl]
              go_upto_region 23 with fail
              go_wp2_with fail
              refine hT.mono ?_
              rintro e w5 ⟨a5, n5, m5, rfl, h5⟩
              clear hT
              obtain ⟨hR5, hr5, hf5⟩ := h5.out
              have hO5 := hr5 Q w5 HQS.out (FrQ.refl _ _)
              rw [HX.out.2.2] at hO5
              obtain ⟨b5, o5, e5, e6, y0, y1⟩ := nums_two hO5
              subst e5
              subst e6
              have HE : Hid (OrdI 0 (i + 1) r' (ordStep 0 i 0 (pn, 0)) ∧ RnM A w5 (ordC 0) r' rb Q x ∧ Below w.heap.size w w5) := ⟨HX.out.2.1, hR5, below_frq HBW.out hf5 HQ.out.1 HBW.out.size⟩
              have HP : Hid (ordStep 0 i 0 (pn, 0) = ((pn + 1), 0)) := hw
              rw [HP.out] at y0 y1 HE
              have hi0 := ixN (some ⟨b5, o5, none⟩) b5 o5 2 m5 0 (by omega) (fun _ => rfl)
              have hi1 := ixN (some ⟨b5, o5, none⟩) b5 o5 2 m5 1 (by omega) (fun _ => rfl)
              clear h5 hR5 hr5 hf5 hO5 HX HBW HP
              go_wp2_with fail
              go_roundg (N - (i + 1))
              case measure => omega
              case rel => exact ⟨i + 1, (pn + 1), 0, r', by omega, by omega, by go_num, by go_num, by go_num, HE.out⟩
            · have hw : ordStep 0 i z (pn, 0) = (pn + 1, 1) := by unfold ordStep; rw [if_pos ⟨h0, rfl⟩, if_pos (.inr rfl), if_neg hz0]
              go_upto_region 23 with fail
              go_wp2_with fail
              refine hT.mono ?_
              rintro e w5 ⟨a5, n5, m5, rfl, h5⟩
              clear hT
              obtain ⟨hR5, hr5, hf5⟩ := h5.out
              have hO5 := hr5 Q w5 HQS.out (FrQ.refl _ _)
              rw [HX.out.2.2] at hO5
              obtain ⟨b5, o5, e5, e6, y0, y1⟩ := nums_two hO5
              subst e5
              subst e6
              have HE : Hid (OrdI 0 (i + 1) r' (ordStep 0 i z (pn, 0)) ∧ RnM A w5 (ordC 0) r' rb Q x ∧ Below w.heap.size w w5) := ⟨HX.out.2.1, hR5, below_frq HBW.out hf5 HQ.out.1 HBW.out.size⟩
              have HP : Hid (ordStep 0 i z (pn, 0) = ((pn + 1), 1)) := hw
              rw [HP.out] at y0 y1 HE
              have hi0 := ixN (some ⟨b5, o5, none⟩) b5 o5 2 m5 0 (by omega) (fun _ => rfl)
              have hi1 := ixN (some ⟨b5, o5, none⟩) b5 o5 2 m5 1 (by omega) (fun _ => rfl)
              clear h5 hR5 hr5 hf5 hO5 HX HBW HP
              go_wp2_with fail
              go_roundg (N - (i + 1))
              case measure => omega
              case rel => exact ⟨i + 1, (pn + 1), 1, r', by omega, by omega, by go_num, by go_num, by go_num, HE.out⟩
          · subst h1
            have hw : ordStep 0 i z (pn, 1) = (pn, 1) := by unfold ordStep; rw [if_neg (by simp)]
            go_upto_region 23 with fail
            go_wp2_with fail
            refine hT.mono ?_
            rintro e w5 ⟨a5, n5, m5, rfl, h5⟩
            clear hT
            obtain ⟨hR5, hr5, hf5⟩ := h5.out
            have hO5 := hr5 Q w5 HQS.out (FrQ.refl _ _)
            rw [HX.out.2.2] at hO5
            obtain ⟨b5, o5, e5, e6, y0, y1⟩ := nums_two hO5
            subst e5
            subst e6
            have HE : Hid (OrdI 0 (i + 1) r' (ordStep 0 i z (pn, 1)) ∧ RnM A w5 (ordC 0) r' rb Q x ∧ Below w.heap.size w w5) := ⟨HX.out.2.1, hR5, below_frq HBW.out hf5 HQ.out.1 HBW.out.size⟩
            have HP : Hid (ordStep 0 i z (pn, 1) = (pn, 1)) := hw
            rw [HP.out] at y0 y1 HE
            have hi0 := ixN (some ⟨b5, o5, none⟩) b5 o5 2 m5 0 (by omega) (fun _ => rfl)
            have hi1 := ixN (some ⟨b5, o5, none⟩) b5 o5 2 m5 1 (by omega) (fun _ => rfl)
            clear h5 hR5 hr5 hf5 hO5 HX HBW HP
            go_wp2_with fail
            go_roundg (N - (i + 1))
            case measure => omega
            case rel => exact ⟨i + 1, pn, 1, r', by omega, by omega, by go_num, by go_num, by go_num, HE.out⟩
        · obtain rfl : i = N := by omega
          have HB5 : Hid (Below w.heap.size w W5) := hr.out.2.2
          clear hr
          go_wp2_with fail
          go_roundg (2 - (0 + 1))
          case measure => omega
          case rel => exact ⟨0 + 1, by omega, by omega, by go_num, HB5.out⟩
    · have hixk := ixO1
      have hp := HP1.out wr hr.out
      have HB1 : Hid (Below w.heap.size w wr) := hr.out
      clear hr
      go_wp2_with fail
      refine (hp _ (by kernel_rfl)).mono ?_
      rintro e w2 ⟨S, a, n, m, a', n', m', rfl, h2⟩
      clear hp
      obtain ⟨W2, hW2⟩ : ∃ W2, W2 = w2.alloc (.cells #[.string S, .slice a n m, .slice a' n' m'] 28) := ⟨_, rfl⟩
      obtain ⟨cb, hcb⟩ : ∃ cb, cb = w2.heap.size := ⟨_, rfl⟩
      have hg2 : Below w2.heap.size w2 W2 := by rw [hW2]; exact ck_grown _ _
      have k2 : W2.heap[cb]? = some (.cells #[.string S, .slice a n m, .slice a' n' m'] 28 (0, 0)) := by rw [hW2, hcb]; exact ck_new _ _
      obtain ⟨A, hA⟩ : ∃ A : Nat → Prop, A = fun b => b < w2.heap.size := ⟨_, rfl⟩
      have hCh : IsChart A W2 (ordC 1) (.agg #[.string S, .slice a n m, .slice a' n' m']) := by rw [hA]; exact chartUp (chart_all h2.out.1) hg2
      have hAW : ∀ b, A b → b < W2.heap.size := fun b hb => by rw [hA] at hb; exact Nat.lt_of_lt_of_le hb hg2.size
      have HC : Hid (RunC (ordC 1)) := HC1.out
      have hn1 := new_run hCh HC.out hAW
      have HW : Hid (Below w.heap.size w W2) := ck_all (ck_all HB1.out h2.out.2) hg2
      have x0 := cell_row k2 0 (u := .string S) rfl
      have x1 := cell_row k2 1 (u := .slice a n m) rfl
      have x2 := cell_row k2 2 (u := .slice a' n' m') rfl
      clear h2 hg2 k2 hA hCh hAW HB1
      go_upto_region 11 with fail
      rw [← hcb, ← hW2]
      clear hcb hW2
      go_wp2_with fail
      refine hn1.mono ?_
      rintro e w3 ⟨rb, rfl, h3⟩
      clear hn1 x0 x1 x2
      obtain ⟨⟨Q, x, hR1, hQ1⟩, hb3⟩ := h3.out
      have HR : Hid (RnM A w3 (ordC 1) (newC (ordC 1)) rb Q x ∧ (∀ b, Q b → w.heap.size ≤ b) ∧ Below w.heap.size w w3) := ⟨hR1, fun b hb => Nat.le_trans HW.out.size (hQ1 b hb), ck_all HW.out hb3⟩
      have HQ : Hid ((∀ b, Q b → w.heap.size ≤ b) ∧ True) := ⟨HR.out.2.1, trivial⟩
      clear h3 hR1 hQ1 hb3 HW
      go_wp2_with fail
      go_loopg [8, 9, 10] N (fun f nv lv iv wr => ∃ (i : Nat) (pn pl : Int) (r : Rn), f = N - i ∧ i ≤ N ∧ nv = .int .i64 pn ∧ lv = .int .i64 pl ∧ iv = .int .i64 (i : Int) ∧ Hid (OrdI 1 i r (pn, pl) ∧ RnM A wr (ordC 1) r rb Q x ∧ Below w.heap.size w wr))
      case atStart => exact ⟨0, 0, 0, newC (ordC 1), by omega, by omega, rfl, rfl, rfl, .inl ⟨rfl, rfl, rfl⟩, HR.out.1, HR.out.2.2⟩
      case round =>
        obtain ⟨i, pn, pl, r, rfl, hi, rfl, rfl, rfl, hr⟩ := hrel
        obtain ⟨W5, hW5⟩ : ∃ W, W = wr := ⟨_, rfl⟩
        subst hW5
        by_cases hlt : i < N
        · obtain ⟨z, hz⟩ : ∃ z, z = zs.getD i 0 := ⟨_, rfl⟩
          have hcz : W5.cell? ⟨ib, io + i, none⟩ = some (.int .i64 z) := by rw [hz]; exact ck_cell hr.out.2.2 (H.out.2.2.2.2.1 i hlt)
          obtain ⟨r', ht, hst, hou⟩ := ord_step (k := 1) (by omega) (by have := H.out.2.1; omega) hr.out.1 z
          have hz64 : N64 z := by
            rw [hz, List.getD_eq_getElem?_getD, List.getElem?_eq_getElem (by rw [← H.out.1]; exact hlt)]
            exact H.out.2.2.2.2.2 _ (List.getElem_mem _)
          obtain rfl := H.out.2.2.2.1 (by omega)
          have hix := ixN (some ⟨ib, io, none⟩) ib io N ic i hlt (fun _ => rfl)
          have hT := tick_run hr.out.2.1 HC.out.run (iv := .slice (some ⟨ib, io + i, none⟩) 1 (ic - i)) (ins := [z]) ⟨_, ib, io + i, ic - i, rfl, by have := H.out.2.2.1.1; simp; omega, by have := H.out.2.2.1.2; omega, fun _ => rfl, fun j hj => by
            have : j = 0 := by simp at hj; omega
            subst this
            exact hcz⟩ (fun y hy => by simp at hy; subst hy; exact hz64) ht
          have HX : Hid (tickC (ordC 1) [z] r = some r' ∧ OrdI 1 (i + 1) r' (ordStep 1 i z (pn, pl)) ∧ outsC (ordC 1) r' = [(ordStep 1 i z (pn, pl)).1, (ordStep 1 i z (pn, pl)).2]) := ⟨ht, hst, hou⟩
          have HBW : Hid (Below w.heap.size w W5) := hr.out.2.2
          have HQS : Hid (∀ b, Q b → b < W5.heap.size) := hr.out.2.1.hQ
          have hic1 : (N : Int) ≤ (ic : Int) := by have := H.out.2.2.1.1; omega
          have hic2 : (ic : Int) ≤ 9223372036854775807 := by have := H.out.2.2.1.2; unfold maxLen at this; omega
          have hic3 : ¬ ic = i := by have := H.out.2.2.1.1; omega
          have hi1 : (i : Int) + 1 ≤ (ic : Int) := by omega
          have hpn : 0 ≤ pn ∧ pn ≤ 60 := by
            rcases hr.out.1 with ⟨_, _, e⟩ | ⟨_, _, _, _, _, q1, q2, _⟩
            · injection e with e1 e2; omega
            · have := H.out.2.1; exact ⟨q1, by show pn ≤ 60; have : pn ≤ (i : Int) := q2; omega⟩
          have hpl : i = 0 ∨ (0 < i ∧ pl = 0) ∨ (0 < i ∧ pl = 1) := by
            rcases hr.out.1 with ⟨e, _⟩ | ⟨e, _, _, _, _, _, _, ⟨q, _⟩ | ⟨q, _⟩⟩
            · exact .inl e
            · exact .inr (.inl ⟨e, q⟩)
            · exact .inr (.inr ⟨e, q⟩)
          clear hr hz ht hst hou hz64
          rcases hpl with h0 | ⟨h0, h1⟩ | ⟨h0, h1⟩

          · subst h0
            have hw : ordStep 1 0 z (pn, pl) = (pn, pl) := by unfold ordStep; rw [if_neg (by omega)]
            clear hpn
            go_upto_region 23 with fail
            go_wp2_with fail
            refine hT.mono ?_
            rintro e w5 ⟨a5, n5, m5, rfl, h5⟩
            clear hT
            obtain ⟨hR5, hr5, hf5⟩ := h5.out
            have hO5 := hr5 Q w5 HQS.out (FrQ.refl _ _)
            rw [HX.out.2.2] at hO5
            obtain ⟨b5, o5, e5, e6, y0, y1⟩ := nums_two hO5
            subst e5
            subst e6
            have HE : Hid (OrdI 1 (0 + 1) r' (ordStep 1 0 z (pn, pl)) ∧ RnM A w5 (ordC 1) r' rb Q x ∧ Below w.heap.size w w5) := ⟨HX.out.2.1, hR5, below_frq HBW.out hf5 HQ.out.1 HBW.out.size⟩
            have HP : Hid (ordStep 1 0 z (pn, pl) = (pn, pl)) := hw
            rw [HP.out] at y0 y1 HE
            have hi0 := ixN (some ⟨b5, o5, none⟩) b5 o5 2 m5 0 (by omega) (fun _ => rfl)
            have hi1 := ixN (some ⟨b5, o5, none⟩) b5 o5 2 m5 1 (by omega) (fun _ => rfl)
            clear h5 hR5 hr5 hf5 hO5 HX HBW HP
            go_wp2_with fail
            go_roundg (N - (0 + 1))
            case measure => omega
            case rel => exact ⟨0 + 1, pn, pl, r', by omega, by omega, by go_num, by go_num, by go_num, HE.out⟩
          · subst h1
            by_cases hz0 : z = 0
            · subst hz0
              have hw : ordStep 1 i 0 (pn, 0) = (pn + 1, 0) := by unfold ordStep; rw [if_pos ⟨h0, rfl⟩, if_pos (.inl rfl), if_pos rfl]
              go_upto_region 23 with fail
              go_wp2_with fail
              refine hT.mono ?_
              rintro e w5 ⟨a5, n5, m5, rfl, h5⟩
              clear hT
              obtain ⟨hR5, hr5, hf5⟩ := h5.out
              have hO5 := hr5 Q w5 HQS.out (FrQ.refl _ _)
              rw [HX.out.2.2] at hO5
              obtain ⟨b5, o5, e5, e6, y0, y1⟩ := nums_two hO5
              subst e5
              subst e6
              have HE : Hid (OrdI 1 (i + 1) r' (ordStep 1 i 0 (pn, 0)) ∧ RnM A w5 (ordC 1) r' rb Q x ∧ Below w.heap.size w w5) := ⟨HX.out.2.1, hR5, below_frq HBW.out hf5 HQ.out.1 HBW.out.size⟩
              have HP : Hid (ordStep 1 i 0 (pn, 0) = ((pn + 1), 0)) := hw
              rw [HP.out] at y0 y1 HE
              have hi0 := ixN (some ⟨b5, o5, none⟩) b5 o5 2 m5 0 (by omega) (fun _ => rfl)
              have hi1 := ixN (some ⟨b5, o5, none⟩) b5 o5 2 m5 1 (by omega) (fun _ => rfl)
              clear h5 hR5 hr5 hf5 hO5 HX HBW HP
              go_wp2_with fail
              go_roundg (N - (i + 1))
              case measure => omega
              case rel => exact ⟨i + 1, (pn + 1), 0, r', by omega, by omega, by go_num, by go_num, by go_num, HE.out⟩
            · have hw : ordStep 1 i z (pn, 0) = (pn, 1) := by unfold ordStep; rw [if_pos ⟨h0, rfl⟩, if_neg (by omega), if_neg hz0]
              go_upto_region 23 with fail
              go_wp2_with fail
              refine hT.mono ?_
              rintro e w5 ⟨a5, n5, m5, rfl, h5⟩
              clear hT
              obtain ⟨hR5, hr5, hf5⟩ := h5.out
              have hO5 := hr5 Q w5 HQS.out (FrQ.refl _ _)
              rw [HX.out.2.2] at hO5
              obtain ⟨b5, o5, e5, e6, y0, y1⟩ := nums_two hO5
              subst e5
              subst e6
              have HE : Hid (OrdI 1 (i + 1) r' (ordStep 1 i z (pn, 0)) ∧ RnM A w5 (ordC 1) r' rb Q x ∧ Below w.heap.size w w5) := ⟨HX.out.2.1, hR5, below_frq HBW.out hf5 HQ.out.1 HBW.out.size⟩
              have HP : Hid (ordStep 1 i z (pn, 0) = ((pn), 1)) := hw
              rw [HP.out] at y0 y1 HE
              have hi0 := ixN (some ⟨b5, o5, none⟩) b5 o5 2 m5 0 (by omega) (fun _ => rfl)
              have hi1 := ixN (some ⟨b5, o5, none⟩) b5 o5 2 m5 1 (by omega) (fun _ => rfl)
              clear h5 hR5 hr5 hf5 hO5 HX HBW HP
              go_wp2_with fail
              go_roundg (N - (i + 1))
              case measure => omega
              case rel => exact ⟨i + 1, (pn), 1, r', by omega, by omega, by go_num, by go_num, by go_num, HE.out⟩
          · subst h1
            have hw : ordStep 1 i z (pn, 1) = (pn, 1) := by unfold ordStep; rw [if_neg (by simp)]
            go_upto_region 23 with fail
            go_wp2_with fail
            refine hT.mono ?_
            rintro e w5 ⟨a5, n5, m5, rfl, h5⟩
            clear hT
            obtain ⟨hR5, hr5, hf5⟩ := h5.out
            have hO5 := hr5 Q w5 HQS.out (FrQ.refl _ _)
            rw [HX.out.2.2] at hO5
            obtain ⟨b5, o5, e5, e6, y0, y1⟩ := nums_two hO5
            subst e5
            subst e6
            have HE : Hid (OrdI 1 (i + 1) r' (ordStep 1 i z (pn, 1)) ∧ RnM A w5 (ordC 1) r' rb Q x ∧ Below w.heap.size w w5) := ⟨HX.out.2.1, hR5, below_frq HBW.out hf5 HQ.out.1 HBW.out.size⟩
            have HP : Hid (ordStep 1 i z (pn, 1) = (pn, 1)) := hw
            rw [HP.out] at y0 y1 HE
            have hi0 := ixN (some ⟨b5, o5, none⟩) b5 o5 2 m5 0 (by omega) (fun _ => rfl)
            have hi1 := ixN (some ⟨b5, o5, none⟩) b5 o5 2 m5 1 (by omega) (fun _ => rfl)
            clear h5 hR5 hr5 hf5 hO5 HX HBW HP
            go_wp2_with fail
            go_roundg (N - (i + 1))
            case measure => omega
            case rel => exact ⟨i + 1, pn, 1, r', by omega, by omega, by go_num, by go_num, by go_num, HE.out⟩
        · obtain rfl : i = N := by omega
          have HB5 : Hid (Below w.heap.size w W5) := hr.out.2.2
          clear hr
          go_wp2_with fail
          go_roundg (2 - (1 + 1))
          case measure => omega
          case rel => exact ⟨1 + 1, by omega, by omega, by go_num, HB5.out⟩
    · have HB5 : Hid (Below w.heap.size w wr) := hr.out
      clear hr
      go_wp2_with fail
      go_ret
      exact ⟨rfl, HB5.out⟩
set_option maxHeartbeats 2000000 in
theorem runOrders_many {w : World} {iv : Value} {zs : List Int} (hI : INums w iv zs) (h60 : ¬ zs.length ≤ 60) :
    Calls Tryz.prog 7 #[iv] w fun e w' => e = .returned (.bool true) ∧ Hid (Below w.heap.size w w') := by
  obtain ⟨iad, ib, io, ic, rfl, _⟩ := hI
  have h6 : (60 : Int) < (zs.length : Int) := by omega
  go_enter Tryz.func7, Tryz.ntmps7
  go_wp2_with fail
  go_ret
  exact ⟨rfl, Below.refl _ _⟩
theorem runOrders_any {w : World} {iv : Value} {zs : List Int} (hv : KEnv0 w) (hI : INums w iv zs) (h64 : ∀ y ∈ zs, N64 y) :
    Calls Tryz.prog 7 #[iv] w fun e w' => e = .returned (.bool true) ∧ Hid (Below w.heap.size w w') := by
  by_cases h : zs.length ≤ 60
  · exact runOrders_fine hv hI h64 h
  · exact runOrders_many hI h
end Kx
end Go.Proofs.YtecbilopliblpaaGreatDoor
