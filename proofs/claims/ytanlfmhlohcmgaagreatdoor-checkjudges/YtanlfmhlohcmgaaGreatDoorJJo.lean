/- The document's judge: a state by itself. -/
import Derived.Test.YtanlfmhlohcmgaaGreatDoorJJn
import Derived.Deep.AppendLies
namespace Go.Proofs.YtanlfmhlohcmgaaGreatDoor
open Go.RowKit Px

/-- a state's nine cells, of which the name is told -/
def StC9 (w : World) (g j : Nat) (nm : Str) : Prop := ∃ (b1 b2 : Bool) (xe : Option Addr) (ye ze : Nat) (xd : Option Addr) (yd zd : Nat) (xl : Option Addr) (yl zl : Nat) (p xy : Option Addr) (yy zy : Nat) (xr : Option Addr) (yr zr : Nat),
  w.cell? ⟨g, j * 9, none⟩ = some (sv nm) ∧ w.cell? ⟨g, j * 9 + 1, none⟩ = some (.bool b1) ∧ w.cell? ⟨g, j * 9 + 2, none⟩ = some (.bool b2) ∧ w.cell? ⟨g, j * 9 + 3, none⟩ = some (.slice xe ye ze) ∧ w.cell? ⟨g, j * 9 + 4, none⟩ = some (.slice xd yd zd) ∧ w.cell? ⟨g, j * 9 + 5, none⟩ = some (.slice xl yl zl) ∧ w.cell? ⟨g, j * 9 + 6, none⟩ = some (.pointer p) ∧ w.cell? ⟨g, j * 9 + 7, none⟩ = some (.slice xy yy zy) ∧ w.cell? ⟨g, j * 9 + 8, none⟩ = some (.slice xr yr zr)
theorem StC9.below {w w' : World} {g j : Nat} {nm : Str} (h : StC9 w g j nm) (hb : Below w.heap.size w w') : StC9 w' g j nm := by
  obtain ⟨b1, b2, xe, ye, ze, xd, yd, zd, xl, yl, zl, p, xy, yy, zy, xr, yr, zr, h0, h1, h2, h3, h4, h5, h6, h7, h8⟩ := h
  exact ⟨b1, b2, xe, ye, ze, xd, yd, zd, xl, yl, zl, p, xy, yy, zy, xr, yr, zr, ck_cell hb h0, ck_cell hb h1, ck_cell hb h2, ck_cell hb h3, ck_cell hb h4, ck_cell hb h5, ck_cell hb h6, ck_cell hb h7, ck_cell hb h8⟩
theorem StM.nine {ρ : Type} {A : Nat → Prop} {w : World} {g i : Nat} {s : StF ρ} {ve vd vl : Value} {p ay ar : Option Addr} {gy capy capr : Nat} (h : StM A w g i s ve vd vl p ay ar gy capy capr) : StC9 w g i s.name := by
  obtain ⟨xe, ye, ze, rfl⟩ := h.he.sl'
  obtain ⟨xd, yd, zd, rfl⟩ := h.hd.sl'
  obtain ⟨xl, yl, zl, rfl⟩ := h.hl.sl'
  exact ⟨_, _, xe, ye, ze, xd, yd, zd, xl, yl, zl, p, ay, _, capy, ar, _, capr, h.c0, h.c1, h.c2, h.c3, h.c4, h.c5, h.c6, h.c7, h.c8⟩
/-- one of the first k has that name -/
def anyK (ns : List Str) (s : Str) : Nat → Bool
  | 0 => false
  | k + 1 => anyK ns s k || decide (ns.getD k [] = s)
theorem anyK_iff (ns : List Str) (s : Str) (k : Nat) : anyK ns s k = true ↔ ∃ j, j < k ∧ ns.getD j [] = s := by
  induction k with
  | zero => simp [anyK]
  | succ k ih =>
    rw [anyK, Bool.or_eq_true, ih, decide_eq_true_iff]
    constructor
    · rintro (⟨j, h1, h2⟩ | h)
      · exact ⟨j, by omega, h2⟩
      · exact ⟨k, by omega, h⟩
    · rintro ⟨j, h1, h2⟩
      by_cases e : j = k
      · subst e; exact .inr h2
      · exact .inl ⟨j, by omega, h2⟩
theorem anyK_all (ns : List Str) (s : Str) : anyK ns s ns.length = (fnd ns s).isSome := by
  rw [Bool.eq_iff_iff, anyK_iff]
  constructor
  · rintro ⟨j, h1, h2⟩
    cases hf : fnd ns s with
    | none => exact absurd h2 (fnd_none hf j h1)
    | some i => rfl
  · intro h
    cases hf : fnd ns s with
    | none => rw [hf] at h; simp at h
    | some i => exact ⟨i, (fnd_some hf).1, (fnd_some hf).2.1⟩
theorem sv_inj {a b : Str} {S T : ByteArray} (h1 : sv a = .string S) (h2 : sv b = .string T) : S = T ↔ a = b := by
  unfold sv at h1 h2
  injection h1 with h1
  injection h2 with h2
  subst h1; subst h2
  constructor
  · intro h
    injection h with h
    simpa using h
  · rintro rfl; rfl
section
variable {jb mk nm : Nat} {vs : List Decl}
theorem jsets_any {w : World} {n : Nat} (h : JdAt w jb mk nm vs n) {l : List Asg} {v : Value} {A : Nat → Prop} (hl : IsSets A w l v) (hNm : NmSets l) (hSh : ShSets l) :
    Calls Tryz.prog 70 #[.pointer (some ⟨jb, 0, none⟩), v] w fun r w' => r = .returned (.int .i64 ((setsE vs l : Nat) : Int)) ∧ Below w.heap.size w w' := by
  obtain ⟨ad, g, cap, rfl, h2, h3, h4⟩ := hl.open
  exact jsets_at h rfl h2 h3 hNm hSh h4
end
theorem strE {a b : Str} {S T : ByteArray} (h1 : sv a = .string S) (h2 : sv b = .string T) : (S.toList == T.toList) = decide (a = b) := by
  unfold sv at h1 h2
  injection h1 with h1
  injection h2 with h2
  subst h1; subst h2
  rw [ByteArray.toList_eq, ByteArray.toList_eq, Bool.eq_iff_iff, beq_iff_eq, decide_eq_true_iff]
section
variable {ρ : Type} {jb mk nm : Nat} {vs : List Decl}
/-- shapes of a state's expressions -/
def ShStF (s : StF ρ) : Prop := ShSets s.enter ∧ ShSets s.during ∧ ShSets s.leave ∧ ShE s.rests ∧ ∀ y ∈ s.ways, ShE y.cond ∧ ShSets y.sets
set_option maxRecDepth 100000 in
set_option maxHeartbeats 8000000 in
theorem alone_any {w : World} {n : Nat} (h : JdAt w jb mk nm vs n) {s : StF ρ} {ns : List Str} {A : Nat → Prop} {ad : Option Addr} {g N cap : Nat} {xe : Option Addr} {ye ze : Nat} {xd : Option Addr} {yd zd : Nat} {xl : Option Addr} {yl zl : Nat} {p ay ar : Option Addr} {gy NW capy NR capr : Nat}
    (hn : Hid (N = ns.length)) (hNm : N ≤ 1000000) (ha : 0 < N → ad = some ⟨g, 0, none⟩) (h9 : Hid (∀ j, j < N → StC9 w g j (ns.getD j []))) (hNW : Hid (s.ways.length = NW)) (hNR : Hid (s.regions.length = NR))
    (he : IsSets A w s.enter (.slice xe ye ze)) (hd : IsSets A w s.during (.slice xd yd zd)) (hl : IsSets A w s.leave (.slice xl yl zl)) (hp : IsE A w s.rests (.pointer p)) (hay : 0 < NW → ay = some ⟨gy, 0, none⟩) (hw : Hid (∀ m y, s.ways[m]? = some y → ∃ p q, WayM A w gy (m * 7) y p q)) (hN : NmStF s) (hSh : ShStF s) :
    Calls Tryz.prog 43 #[.pointer (some ⟨jb, 0, none⟩), .agg #[sv s.name, .bool s.first, .bool s.last, .slice xe ye ze, .slice xd yd zd, .slice xl yl zl, .pointer p, .slice ay NW capy, .slice ar NR capr], .slice ad N cap] w fun r w' => r = .returned (.int .i64 ((aloneE vs ns s : Nat) : Int)) ∧ Below w.heap.size w w' := by
  obtain ⟨n0, n1, n2, n3, n4, n5, n6⟩ := hN
  obtain ⟨s1, s2, s3, s4, s5⟩ := hSh
  obtain ⟨S, hS⟩ : ∃ S, sv s.name = .string S := ⟨_, rfl⟩
  rw [hS]
  obtain ⟨O, hO⟩ : ∃ O, O = Obj.cells #[.string S, .bool s.first, .bool s.last, .slice xe ye ze, .slice xd yd zd, .slice xl yl zl, .pointer p, .slice ay NW capy, .slice ar NR capr] 75 := ⟨_, rfl⟩
  have hb0 : Below w.heap.size w (w.alloc O) := ck_grown w O
  have hbx : (w.alloc O).heap[w.heap.size]? = some (.cells #[.string S, .bool s.first, .bool s.last, .slice xe ye ze, .slice xd yd zd, .slice xl yl zl, .pointer p, .slice ay NW capy, .slice ar NR capr] 75 (0, 0)) := by rw [ck_new, hO]
  have HX : Hid (∀ w', Below (w.alloc O).heap.size (w.alloc O) w' → w'.heap[w.heap.size]? = some (.cells #[.string S, .bool s.first, .bool s.last, .slice xe ye ze, .slice xd yd zd, .slice xl yl zl, .pointer p, .slice ay NW capy, .slice ar NR capr] 75 (0, 0)) ∧ Below w.heap.size w w') := fun w' hb => ⟨ck_block hb hbx, ck_all hb0 hb⟩
  have HC : Hid (∀ w', Below w.heap.size w w' → JdAt w' jb mk nm vs n) := fun w' hb => h.below hb
  have HSE : Hid (∀ w', Below w.heap.size w w' → Calls Tryz.prog 70 #[.pointer (some ⟨jb, 0, none⟩), .slice xe ye ze] w' fun r w'' => r = .returned (.int .i64 ((setsE vs s.enter : Nat) : Int)) ∧ Below w'.heap.size w' w'') := fun w' hb => jsets_any (h.below hb) (he.carry fun x hx hlt => ⟨hx, hb.block x hlt⟩) n1 s1
  have HSD : Hid (∀ w', Below w.heap.size w w' → Calls Tryz.prog 70 #[.pointer (some ⟨jb, 0, none⟩), .slice xd yd zd] w' fun r w'' => r = .returned (.int .i64 ((setsE vs s.during : Nat) : Int)) ∧ Below w'.heap.size w' w'') := fun w' hb => jsets_any (h.below hb) (hd.carry fun x hx hlt => ⟨hx, hb.block x hlt⟩) n2 s2
  have HSL : Hid (∀ w', Below w.heap.size w w' → Calls Tryz.prog 70 #[.pointer (some ⟨jb, 0, none⟩), .slice xl yl zl] w' fun r w'' => r = .returned (.int .i64 ((setsE vs s.leave : Nat) : Int)) ∧ Below w'.heap.size w' w'') := fun w' hb => jsets_any (h.below hb) (hl.carry fun x hx hlt => ⟨hx, hb.block x hlt⟩) n3 s3
  have HSP : Hid (∀ w', Below w.heap.size w w' → Calls Tryz.prog 71 #[.pointer (some ⟨jb, 0, none⟩), .pointer p] w' fun r w'' => r = .returned (.bool (!strangeE (vnames vs) s.rests)) ∧ Below w'.heap.size w' w'') := fun w' hb => names_any (hp.carry fun x hx hlt => ⟨hx, hb.block x hlt⟩) n4 s4 (h.below hb)
  have HNN : Hid (∀ y ∈ s.ways, NmWay y ∧ ShE y.cond ∧ ShSets y.sets) := fun y hy => ⟨n5 y hy, s5 y hy⟩
  have HAY : Hid (0 < NW → ay = some ⟨gy, 0, none⟩) := hay
  have HAD : Hid (0 < N → ad = some ⟨g, 0, none⟩) := ha
  have hNW6 : NW ≤ 1000000 := by rw [← hNW.out]; exact n6
  have x2 := cell_row hbx 2 (u := .bool s.last) rfl
  have x7 := cell_row hbx 7 (u := .slice ay NW capy) rfl
  have x8 := cell_row hbx 8 (u := .slice ar NR capr) rfl
  have x3 := cell_row hbx 3 (u := .slice xe ye ze) rfl
  rw [hO] at x2 x7 x8 x3 HX
  clear h he hd hl hp hS n0 n1 n2 n3 n4 n5 n6 s1 s2 s3 s4 s5 hb0 hbx hO hay ha
  obtain ⟨B1, hB1⟩ : ∃ B1, Hid ((s.last && (decide (0 < s.ways.length) || decide (0 < s.regions.length))) = B1) := ⟨_, rfl⟩
  obtain ⟨E1, hE1⟩ : ∃ E1, Hid (setsE vs s.enter = E1) := ⟨_, rfl⟩
  obtain ⟨E2, hE2⟩ : ∃ E2, Hid (setsE vs s.during = E2) := ⟨_, rfl⟩
  obtain ⟨E3, hE3⟩ : ∃ E3, Hid (setsE vs s.leave = E3) := ⟨_, rfl⟩
  obtain ⟨Z, hZ⟩ : ∃ Z, Hid (strangeE (vnames vs) s.rests = Z) := ⟨_, rfl⟩
  have HE : Hid (aloneE vs ns s = if B1 then 6 else if E1 ≠ 0 then E1 else if E2 ≠ 0 then E2 else if E3 ≠ 0 then E3 else if Z then 5 else waysE vs ns (decide (0 < NR)) s.ways) := by
    unfold Hid aloneE; rw [hB1.out, hE1.out, hE2.out, hE3.out, hZ.out, hNR.out]
  rw [hE1.out] at HSE
  rw [hE2.out] at HSD
  rw [hE3.out] at HSL
  rw [hZ.out] at HSP
  go_enter Tryz.func43, Tryz.ntmps43
  go_upto_region 1 with fail
  obtain ⟨W0, hW0⟩ : ∃ W0, W0 = w.alloc (.cells #[.string S, .bool s.first, .bool s.last, .slice xe ye ze, .slice xd yd zd, .slice xl yl zl, .pointer p, .slice ay NW capy, .slice ar NR capr] 75) := ⟨_, rfl⟩
  rw [← hW0] at x2 x7 x8 x3 HX ⊢
  clear hW0
  go_cut [29] (fun s wx => Hid (s = .bool B1 ∧ wx = W0))
  case first =>
    obtain ⟨la, hla⟩ : ∃ la, Hid (s.last = la) := ⟨_, rfl⟩
    rw [hla.out] at x2
    have hBB := hB1.out
    rw [hla.out, hNW.out, hNR.out] at hBB
    clear HE HX HC HSE HSD HSL HSP HNN
    cases la with
    | false =>
      have hBt : B1 = false := by rw [← hBB]; rfl
      subst hBt
      clear hBB
      go_wp2_with fail
      go_meet
      case rel => exact ⟨rfl, rfl⟩
    | true =>
      by_cases h1 : 0 < NW
      · have hBt : B1 = true := by rw [← hBB]; simp [h1]
        subst hBt
        have h1' : (0 : Int) < (NW : Int) := by omega
        clear hBB
        go_wp2_with fail
        go_meet
        case rel => exact ⟨rfl, rfl⟩
      · have h1' : ¬ (0 : Int) < (NW : Int) := by omega
        by_cases h2 : 0 < NR
        · have hBt : B1 = true := by rw [← hBB]; simp [h2]
          subst hBt
          have h2' : (0 : Int) < (NR : Int) := by omega
          clear hBB
          go_wp2_with fail
          go_meet
          case rel => exact ⟨rfl, rfl⟩
        · have hBt : B1 = false := by rw [← hBB]; simp [h1, h2]
          subst hBt
          have h2' : ¬ (0 : Int) < (NR : Int) := by omega
          clear hBB
          go_wp2_with fail
          go_meet
          case rel => exact ⟨rfl, rfl⟩
  case rest =>
    obtain ⟨hs, hw0⟩ := hcut.out
    subst hs
    subst hw0
    clear hcut x2 x7 x8 hB1
    obtain ⟨W0, hW0⟩ : ∃ W0, W0 = wc := ⟨_, rfl⟩
    subst hW0
    cases B1 with
    | true =>
      rw [if_pos rfl] at HE
      go_wp2_with fail
      go_ret
      exact ⟨by rw [HE.out]; rfl, (HX.out W0 (Below.refl _ _)).2⟩
    | false =>
      rw [if_neg (by simp)] at HE
      have hce := HSE.out W0 (HX.out W0 (Below.refl _ _)).2
      go_wp2_with fail
      by_cases e1 : E1 = 0
      · subst e1
        rw [show ((0 : Nat) : Int) = 0 from rfl] at hce
        rw [if_neg (by simp)] at HE
        refine hce.mono ?_
        rintro e w1 ⟨rfl, hw1⟩
        have HW1 : Hid (Below W0.heap.size W0 w1) := hw1
        have x4 := cell_row (HX.out w1 hw1).1 4 (u := .slice xd yd zd) rfl
        have hcd := HSD.out w1 (HX.out w1 hw1).2
        clear hce hw1 x3
        go_wp2_with fail
        by_cases e2 : E2 = 0
        · subst e2
          rw [show ((0 : Nat) : Int) = 0 from rfl] at hcd
          rw [if_neg (by simp)] at HE
          refine hcd.mono ?_
          rintro e w2 ⟨rfl, hw2⟩
          have HW2 : Hid (Below W0.heap.size W0 w2) := ck_all HW1.out hw2
          have x5 := cell_row (HX.out w2 HW2.out).1 5 (u := .slice xl yl zl) rfl
          have hcl := HSL.out w2 (HX.out w2 HW2.out).2
          clear hcd hw2 x4
          go_wp2_with fail
          by_cases e3 : E3 = 0
          · subst e3
            rw [show ((0 : Nat) : Int) = 0 from rfl] at hcl
            rw [if_neg (by simp)] at HE
            refine hcl.mono ?_
            rintro e w3 ⟨rfl, hw3⟩
            have HW3 : Hid (Below W0.heap.size W0 w3) := ck_all HW2.out hw3
            have x6 := cell_row (HX.out w3 HW3.out).1 6 (u := .pointer p) rfl
            have hcp := HSP.out w3 (HX.out w3 HW3.out).2
            clear hcl hw3 x5
            go_wp2_with fail
            cases Z with
            | true =>
              rw [if_pos rfl] at HE
              refine hcp.mono ?_
              rintro e w4 ⟨rfl, hw4⟩
              go_wp2_with fail
              go_ret
              exact ⟨by rw [HE.out]; rfl, (HX.out _ (ck_all HW3.out hw4)).2⟩
            | false =>
              rw [if_neg (by simp)] at HE
              refine hcp.mono ?_
              rintro e w4 ⟨rfl, hw4⟩
              have HW4 : Hid (Below W0.heap.size W0 w4) := ck_all HW3.out hw4
              have x7 := cell_row (HX.out w4 HW4.out).1 7 (u := .slice ay NW capy) rfl
              clear hcp hw4 x6 HW1 HW2 HW3 HSE HSD HSL HSP
              go_wp2_with fail
              clear x7
              obtain ⟨ins, hins⟩ : ∃ ins, Hid (decide (0 < NR) = ins) := ⟨_, rfl⟩
              rw [hins.out] at HE
              go_loopg [59] NW (fun f i wr => ∃ k : Nat, f = NW - k ∧ k ≤ NW ∧ i = .int .i64 (k : Int) ∧ Hid (Below W0.heap.size W0 wr ∧ ∀ j y, j < k → s.ways[j]? = some y → wayE vs ns ins y = 0))
              case atStart => exact ⟨0, by omega, by omega, rfl, HW4.out, fun j y hj => absurd hj (by omega)⟩
              case round =>
                obtain ⟨k, rfl, hk, rfl, hr⟩ := hrel
                have HBr : Hid (Below W0.heap.size W0 wr) := hr.out.1
                have HZW : Hid (∀ j y, j < k → s.ways[j]? = some y → wayE vs ns ins y = 0) := hr.out.2
                clear hr
                by_cases hlt : k < NW
                · obtain ⟨y, hyk⟩ : ∃ y, Hid (s.ways[k]? = some y) := ⟨s.ways[k]'(by rw [hNW.out]; exact hlt), by rw [Hid, List.getElem?_eq_getElem]⟩
                  obtain ⟨p', q', hWM⟩ := hw.out k y hyk.out
                  have hBw := (HX.out wr HBr.out).2
                  obtain ⟨m0, m1, m2, m3, m4, m5, m6, m7, m8⟩ := hWM.below hBw
                  obtain ⟨qa, qn, qc, rfl⟩ := m8.sl'
                  obtain ⟨⟨ny1, ny2, ny3⟩, sy1, sy2⟩ := HNN.out y (List.mem_of_getElem? hyk.out)
                  have hixy := ixW ay gy NW capy k hlt HAY.out
                  obtain ⟨T, hT⟩ : ∃ T, sv y.to = .string T := ⟨_, rfl⟩
                  obtain ⟨nw, hnw⟩ : ∃ nw, Hid (y.now = nw) := ⟨_, rfl⟩
                  rw [hT] at m5
                  rw [hnw.out] at m1
                  obtain ⟨wl, hwl⟩ : ∃ wl, wl = wr.alloc (.cells #[.int .i64 (y.kind : Int), .bool nw, .pointer p', .int .i64 (y.times : Int), .slice qa qn qc, .string T, .bool y.back] 77) := ⟨_, rfl⟩
                  have hbl : Below W0.heap.size W0 wl := by rw [hwl]; exact ck_all HBr.out (ck_grown wr _)
                  have hlx : wl.heap[wr.heap.size]? = some (.cells #[.int .i64 (y.kind : Int), .bool nw, .pointer p', .int .i64 (y.times : Int), .slice qa qn qc, .string T, .bool y.back] 77 (0, 0)) := by rw [hwl]; exact ck_new _ _
                  have HL : Hid (∀ w', Below wl.heap.size wl w' → w'.heap[wr.heap.size]? = some (.cells #[.int .i64 (y.kind : Int), .bool nw, .pointer p', .int .i64 (y.times : Int), .slice qa qn qc, .string T, .bool y.back] 77 (0, 0)) ∧ Below W0.heap.size W0 w' ∧ Below w.heap.size w w') := fun w' hb => ⟨ck_block hb hlx, ck_all hbl hb, (HX.out w' (ck_all hbl hb)).2⟩
                  have HNm : Hid (∀ w', Below w.heap.size w w' → Calls Tryz.prog 71 #[.pointer (some ⟨jb, 0, none⟩), .pointer p'] w' fun r w'' => r = .returned (.bool (!strangeE (vnames vs) y.cond)) ∧ Below w'.heap.size w' w'') := fun w' hb => names_any ((hWM.below hb).2.2.2.2.2.2.2.1) ny2 sy1 (HC.out w' hb)
                  have HSt : Hid (∀ w', Below w.heap.size w w' → Calls Tryz.prog 70 #[.pointer (some ⟨jb, 0, none⟩), .slice qa qn qc] w' fun r w'' => r = .returned (.int .i64 ((setsE vs y.sets : Nat) : Int)) ∧ Below w'.heap.size w' w'') := fun w' hb => jsets_any (HC.out w' hb) ((hWM.below hb).2.2.2.2.2.2.2.2) ny3 sy2
                  have HTT : Hid (sv y.to = .string T) := hT
                  clear hWM hBw m7 m8 ny1 ny2 ny3 sy1 sy2 hbl hlx hT
                  go_upto_region 18 with fail
                  rw [← hwl]
                  clear hwl m0 m1 m2 m3 m4 m5 m6 hixy
                  go_wp2_with fail
                  go_loopg [12, 65] N (fun f b i wr2 => ∃ k2 : Nat, f = N - k2 ∧ k2 ≤ N ∧ b = .bool (anyK ns y.to k2) ∧ i = .int .i64 (k2 : Int) ∧ Hid (Below wl.heap.size wl wr2))
                  case atStart => exact ⟨0, by omega, by omega, rfl, rfl, Below.refl _ _⟩
                  case round =>
                    obtain ⟨k2, rfl, hk2, rfl, rfl, hr2⟩ := hrel
                    by_cases hlt2 : k2 < N
                    · obtain ⟨b1, b2, xe', ye', ze', xd', yd', zd', xl', yl', zl', pp, xy, yy, zy, xr, yr, zr, q0, q1, q2, q3, q4, q5, q6, q7, q8⟩ := (h9.out k2 hlt2).below (HL.out wr hr2.out).2.2
                      obtain ⟨U, hU⟩ : ∃ U, sv (ns.getD k2 []) = .string U := ⟨_, rfl⟩
                      have hse := strE hU HTT.out
                      rw [hU] at q0
                      have hixt := ixT ad g N cap k2 hlt2 HAD.out
                      have t5 := ck_cell (ck_grown wr (.cells #[.string U, .bool b1, .bool b2, .slice xe' ye' ze', .slice xd' yd' zd', .slice xl' yl' zl', .pointer pp, .slice xy yy zy, .slice xr yr zr] 75)) (cell_row (HL.out wr hr2.out).1 5 (u := .string T) rfl)
                      have HR2 : Hid (Below wl.heap.size wl (wr.alloc (.cells #[.string U, .bool b1, .bool b2, .slice xe' ye' ze', .slice xd' yd' zd', .slice xl' yl' zl', .pointer pp, .slice xy yy zy, .slice xr yr zr] 75))) := ck_all hr2.out (ck_grown wr _)
                      clear hU hr2
                      obtain ⟨ak, hak⟩ : ∃ ak, Hid (anyK ns y.to k2 = ak) := ⟨_, rfl⟩
                      have HAK : Hid (anyK ns y.to (k2 + 1) = (ak || decide (ns.getD k2 [] = y.to))) := by rw [Hid, anyK, hak.out]
                      rw [hak.out]
                      obtain ⟨de, hde⟩ : ∃ de, decide (ns.getD k2 [] = y.to) = de := ⟨_, rfl⟩
                      rw [hde] at hse HAK
                      clear hde
                      cases ak with
                      | true =>
                        clear hse
                        go_wp2_with fail
                        go_roundg (N - (k2 + 1))
                        case measure => omega
                        case rel => exact ⟨k2 + 1, rfl, by omega, by rw [HAK.out]; rfl, by go_num, HR2.out⟩
                      | false =>
                        cases de with
                        | true =>
                          go_wp2_with fail
                          go_roundg (N - (k2 + 1))
                          case measure => omega
                          case rel => exact ⟨k2 + 1, rfl, by omega, by rw [HAK.out]; rfl, by go_num, HR2.out⟩
                        | false =>
                          go_wp2_with fail
                          go_roundg (N - (k2 + 1))
                          case measure => omega
                          case rel => exact ⟨k2 + 1, rfl, by omega, by rw [HAK.out]; rfl, by go_num, HR2.out⟩
                    · obtain rfl : k2 = N := by omega
                      rw [show anyK ns y.to k2 = (fnd ns y.to).isSome by rw [hn.out]; exact anyK_all ns y.to]
                      obtain ⟨HL1, HL2, HL3⟩ := HL.out wr hr2.out
                      have HB2 : Hid (Below W0.heap.size W0 wr) := HL2
                      cases hfn : fnd ns y.to with
                      | none =>
                        have HWE : Hid (wayE vs ns ins y = 7) := by unfold Hid wayE; rw [hfn]; rfl
                        have HXE : Hid (waysE vs ns ins s.ways = 7) := by rw [Hid, waysE_at HZW.out hyk.out (by rw [HWE.out]; simp), HWE.out]
                        clear HL1 HL2 HL3
                        go_wp2_with fail
                        go_ret
                        exact ⟨by rw [HE.out, HXE.out]; rfl, (HX.out wr HB2.out).2⟩
                      | some t =>
                        obtain ⟨B, hB⟩ : ∃ B, Hid (((decide (y.kind = 2) && !ins) || (y.now && decide (1 < y.times))) = B) := ⟨_, rfl⟩
                        obtain ⟨Z2, hZ2⟩ : ∃ Z2, Hid (strangeE (vnames vs) y.cond = Z2) := ⟨_, rfl⟩
                        obtain ⟨M, hM⟩ : ∃ M, Hid (setsE vs y.sets = M) := ⟨_, rfl⟩
                        have HWE : Hid (wayE vs ns ins y = if B then 6 else if Z2 then 5 else M) := by unfold Hid wayE; rw [hfn, hB.out, hZ2.out, hM.out]; rfl
                        have hcn := HNm.out wr HL3
                        rw [hZ2.out] at hcn
                        rw [hM.out] at HSt
                        have l0 := cell_row HL1 0 (u := .int .i64 (y.kind : Int)) rfl
                        have l1 := cell_row HL1 1 (u := .bool nw) rfl
                        have l2 := cell_row HL1 2 (u := .pointer p') rfl
                        have l3 := cell_row HL1 3 (u := .int .i64 (y.times : Int)) rfl
                        have l8 := cell_row (HX.out wr HB2.out).1 8 (u := .slice ar NR capr) rfl
                        have HL4 : Hid (∀ w', Below wr.heap.size wr w' → w'.cell? ⟨_, 4, none⟩ = some (.slice qa qn qc)) := fun w' hb => ck_cell hb (cell_row HL1 4 (u := .slice qa qn qc) rfl)
                        have HR3 : Hid (Below wl.heap.size wl wr) := hr2.out
                        clear HL1 HL2 HL3 hfn hr2
                        go_upto_region 25 with fail
                        go_cut [97] (fun s wx => Hid (s = .bool B ∧ wx = wr))
                        case first =>
                          have hBB := hB.out
                          rw [hnw.out] at hBB
                          clear HWE HL4 hcn HSt HNm
                          by_cases hkd : y.kind = 2
                          · rw [hkd] at l0
                            by_cases hr0 : NR = 0
                            · have hBt : B = true := by rw [← hBB, hkd, ← hins.out, hr0]; rfl
                              subst hBt
                              rw [hr0] at l8
                              rw [show ((2 : Nat) : Int) = 2 from rfl] at l0
                              go_wp2_with fail
                              go_meet
                              case rel => exact ⟨rfl, rfl⟩
                            · have hr1 : ¬ (NR : Int) = 0 := by omega
                              have hr2 : ((NR : Int) == 0) = false := by simp; omega
                              have hi1 : ins = true := by rw [← hins.out]; simp; omega
                              rw [show ((2 : Nat) : Int) = 2 from rfl] at l0
                              cases nw with
                              | false =>
                                have hBt : B = false := by rw [← hBB, hi1]; simp
                                subst hBt
                                go_wp2_with fail
                                go_meet
                                case rel => exact ⟨rfl, rfl⟩
                              | true =>
                                by_cases ht : 1 < y.times
                                · have hBt : B = true := by rw [← hBB]; simp [ht]
                                  subst hBt
                                  have ht' : (1 : Int) < (y.times : Int) := by omega
                                  clear ht
                                  go_wp2_with fail
                                  go_meet
                                  case rel => exact ⟨rfl, rfl⟩
                                · have hBt : B = false := by rw [← hBB, hi1]; simp [ht]
                                  subst hBt
                                  have ht' : ¬ (1 : Int) < (y.times : Int) := by omega
                                  clear ht
                                  go_wp2_with fail
                                  go_meet
                                  case rel => exact ⟨rfl, rfl⟩
                          · have hk2 : ¬ (y.kind : Int) = 2 := by omega
                            have hk3 : ((y.kind : Int) == 2) = false := by simp; omega
                            cases nw with
                            | false =>
                              have hBt : B = false := by rw [← hBB]; simp [hkd]
                              subst hBt
                              go_wp2_with fail
                              go_meet
                              case rel => exact ⟨rfl, rfl⟩
                            | true =>
                              by_cases ht : 1 < y.times
                              · have hBt : B = true := by rw [← hBB]; simp [ht]
                                subst hBt
                                have ht' : (1 : Int) < (y.times : Int) := by omega
                                clear ht
                                go_wp2_with fail
                                go_meet
                                case rel => exact ⟨rfl, rfl⟩
                              · have hBt : B = false := by rw [← hBB]; simp [ht, hkd]
                                subst hBt
                                have ht' : ¬ (1 : Int) < (y.times : Int) := by omega
                                clear ht
                                go_wp2_with fail
                                go_meet
                                case rel => exact ⟨rfl, rfl⟩
                        case rest =>
                          obtain ⟨hs97, hw97⟩ := hcut.out
                          subst hs97
                          rw [hw97]
                          clear hcut hw97 l0 l1 l3 l8 hB
                          cases B with
                          | true =>
                            rw [if_pos rfl] at HWE
                            have HXE : Hid (waysE vs ns ins s.ways = 6) := by rw [Hid, waysE_at HZW.out hyk.out (by rw [HWE.out]; simp), HWE.out]
                            go_wp2_with fail
                            go_ret
                            exact ⟨by rw [HE.out, HXE.out]; rfl, (HX.out wr HB2.out).2⟩
                          | false =>
                            rw [if_neg (by simp)] at HWE
                            go_wp2_with fail
                            refine hcn.mono ?_
                            rintro e w5 ⟨rfl, hw5⟩
                            have l4 := HL4.out w5 hw5
                            have HB5 : Hid (Below W0.heap.size W0 w5) := ck_all HB2.out hw5
                            clear hcn
                            cases Z2 with
                            | true =>
                              rw [if_pos rfl] at HWE
                              have HXE : Hid (waysE vs ns ins s.ways = 5) := by rw [Hid, waysE_at HZW.out hyk.out (by rw [HWE.out]; simp), HWE.out]
                              go_wp2_with fail
                              go_ret
                              exact ⟨by rw [HE.out, HXE.out]; rfl, (HX.out w5 HB5.out).2⟩
                            | false =>
                              rw [if_neg (by simp)] at HWE
                              have hcs := HSt.out w5 (HX.out w5 HB5.out).2
                              by_cases hM0 : M = 0
                              · subst hM0
                                rw [show ((0 : Nat) : Int) = 0 from rfl] at hcs
                                go_wp2_with (refine hcs.mono ?_; rintro e w6 ⟨rfl, hw6⟩)
                                go_roundg (NW - (k + 1))
                                case measure => omega
                                case rel =>
                                  refine ⟨k + 1, rfl, by omega, by go_num, ck_all HB5.out hw6, fun j y' hj hy' => ?_⟩
                                  by_cases e : j = k
                                  · subst e
                                    have := hyk.out
                                    rw [hy'] at this
                                    injection this with this
                                    subst this
                                    exact HWE.out
                                  · exact HZW.out j y' (by omega) hy'
                              · have hz1 : ¬ (M : Int) = 0 := by omega
                                have hz2 : ((M : Int) == 0) = false := by simp; omega
                                have HXE : Hid (waysE vs ns ins s.ways = M) := by rw [Hid, waysE_at HZW.out hyk.out (by rw [HWE.out]; exact hM0), HWE.out]
                                go_wp2_with (refine hcs.mono ?_; rintro e w6 ⟨rfl, hw6⟩)
                                go_ret
                                exact ⟨by rw [HE.out, HXE.out]; rfl, (HX.out w6 (ck_all HB5.out hw6)).2⟩
                · obtain rfl : k = NW := by omega
                  have HX2 : Hid (waysE vs ns ins s.ways = 0) := waysE_all (by rw [hNW.out]; exact HZW.out)
                  go_wp2_with fail
                  go_ret
                  exact ⟨by rw [HE.out, HX2.out]; rfl, (HX.out wr HBr.out).2⟩
          · rw [if_pos e3] at HE
            have hz1 : ¬ (E3 : Int) = 0 := by omega
            have hz2 : ((E3 : Int) == 0) = false := by simp; omega
            refine hcl.mono ?_
            rintro e w3 ⟨rfl, hw3⟩
            go_wp2_with fail
            go_ret
            exact ⟨by rw [HE.out]; rfl, (HX.out _ (ck_all HW2.out hw3)).2⟩
        · rw [if_pos e2] at HE
          have hz1 : ¬ (E2 : Int) = 0 := by omega
          have hz2 : ((E2 : Int) == 0) = false := by simp; omega
          refine hcd.mono ?_
          rintro e w2 ⟨rfl, hw2⟩
          go_wp2_with fail
          go_ret
          exact ⟨by rw [HE.out]; rfl, (HX.out _ (ck_all HW1.out hw2)).2⟩
      · rw [if_pos e1] at HE
        have hz1 : ¬ (E1 : Int) = 0 := by omega
        have hz2 : ((E1 : Int) == 0) = false := by simp; omega
        refine hce.mono ?_
        rintro e w1 ⟨rfl, hw1⟩
        go_wp2_with fail
        go_ret
        exact ⟨by rw [HE.out]; rfl, (HX.out _ hw1).2⟩
end
end Go.Proofs.YtanlfmhlohcmgaaGreatDoor
/- The document's order: what it stands on. -/
namespace Go.Proofs.YtanlfmhlohcmgaaGreatDoor
open Go.RowKit Px

/-- what the document asks of a state's first m ways -/
def opM (T : List Bool) (nm : Str) (j : Nat) (ys : List Wy) : Nat → Bool
  | 0 => true
  | m + 1 => opM T nm j ys m && match ys[m]? with
    | none => true
    | some y => T.getD j false || !y.now || decide (y.to ≠ nm)
theorem opM_take (T : List Bool) (nm : Str) (j : Nat) (ys : List Wy) (m : Nat) (hm : m ≤ ys.length) : opM T nm j ys m = openW T nm j (ys.take m) := by
  induction m with
  | zero => rfl
  | succ m ih =>
    obtain ⟨y, hy⟩ : ∃ y, ys[m]? = some y := ⟨ys[m], List.getElem?_eq_getElem (by omega)⟩
    rw [opM, ih (by omega), hy, openW, openW, List.take_add_one, hy]
    simp
theorem opM_all (T : List Bool) (nm : Str) (j : Nat) (ys : List Wy) : opM T nm j ys ys.length = openW T nm j ys := by
  rw [opM_take _ _ _ _ _ (Nat.le_refl _), List.take_length]
/-- the first one below k that may be next -/
def nxK (G : List (List (Option Nat))) (T : List Bool) : Nat → Option Nat
  | 0 => none
  | k + 1 => match nxK G T k with
    | some j => some j
    | none => if freeG G T k then some k else none
theorem nxK_none {G : List (List (Option Nat))} {T : List Bool} {k : Nat} (h : nxK G T k = none) : ∀ j, j < k → freeG G T j = false := by
  induction k with
  | zero => intro j hj; omega
  | succ k ih =>
    rw [nxK] at h
    intro j hj
    split at h
    · exact absurd h (by simp)
    · rename_i hk
      split at h
      · exact absurd h (by simp)
      · rename_i hf
        by_cases e : j = k
        · subst e; simpa using hf
        · exact ih hk j (by omega)
theorem nxK_some {G : List (List (Option Nat))} {T : List Bool} {k i : Nat} (h : nxK G T k = some i) : i < k ∧ freeG G T i = true ∧ ∀ j, j < i → freeG G T j = false := by
  induction k with
  | zero => rw [nxK] at h; exact absurd h (by simp)
  | succ k ih =>
    rw [nxK] at h
    split at h
    · rename_i j hk
      injection h with h
      subst h
      obtain ⟨h1, h2⟩ := ih hk
      exact ⟨by omega, h2⟩
    · rename_i hk
      split at h
      · rename_i hf
        injection h with h
        subst h
        exact ⟨by omega, hf, fun j hj => nxK_none hk j hj⟩
      · exact absurd h (by simp)
theorem nxK_all (G : List (List (Option Nat))) (T : List Bool) : nxK G T G.length = nextG G T := by
  cases h : nxK G T G.length with
  | none => exact (nextG_no (nxK_none h)).symm
  | some i => obtain ⟨h1, h2, h3⟩ := nxK_some h; exact (nextG_of h1 h2 h3).symm
def nxI (o : Option Nat) : Int := match o with | some i => (i : Int) | none => -1

theorem ixB (ad : Option Addr) (g n cap k : Nat) (hk : k < n) (ha : 0 < n → ad = some ⟨g, 0, none⟩) (w : World) : (Instr.indexAt 70 (.slice ad n cap) (.int .i64 (k : Int))).run Tryz.prog w = .ok (.pointer (some ⟨g, k, none⟩)) w := by
  obtain rfl := ha (by omega)
  rw [run_indexAt_slice _ _ _ _ _ _ _ (by kernel_rfl), if_pos ⟨by omega, by omega⟩]
  have e : (sizeOf (Tryz.prog.elem 70)).run Tryz.prog w = .ok 1 w := by kernel_rfl
  rw [e]
  simp [Result.andThen, Addr.add]
  try (intro h; exact h.symm)
/-- a row of yes and no of one's own -/
def BoolsAt (w : World) (g : Nat) (T : List Bool) : Prop := w.heap[g]? = some (.cells (T.map Value.bool).toArray 4 (0, 0))
theorem BoolsAt.cell {w : World} {g : Nat} {T : List Bool} (h : BoolsAt w g T) (j : Nat) (hj : j < T.length) : w.cell? ⟨g, j, none⟩ = some (.bool (T.getD j false)) := by
  refine cell_row h j ?_
  simp [List.getElem?_eq_getElem hj, List.getD_eq_getElem?_getD]
theorem BoolsAt.set {w : World} {g : Nat} {T : List Bool} (h : BoolsAt w g T) (j : Nat) (x : Bool) : BoolsAt (w.setCell ⟨g, j, none⟩ (.bool x)) g (T.set j x) := by
  have := ck_set h j (.bool x)
  rw [BoolsAt, List.map_set]; exact this
theorem Tryz.ckInfoBool : (Tryz.prog.info? 4).map (fun i => (i.zero, i.size, i.bytes)) = some (some (.bool false), 1, 1) := by kernel_rfl
theorem ck_madeB (n : Nat) : (madeCells (Value.cells (.bool false)) (n * 1)) = ((List.replicate n false).map Value.bool).toArray := by
  apply Array.toList_inj.1
  apply List.ext_getElem
  · simp [madeCells]
  · intro k h1 h2
    simp [madeCells, Value.cells, Nat.mod_one]
theorem ck_makeB (w : World) (n : Nat) (hn : n ≤ 1000000) : (Instr.makeSlice 70 (.int .i64 (n : Int)) (.int .i64 (n : Int))).run Tryz.prog w = .ok (.slice (some ⟨w.heap.size, 0, none⟩) n n) (w.alloc (.cells ((List.replicate n false).map Value.bool).toArray 4)) := by
  obtain ⟨i0, hi, hz0, hz1, hz2⟩ := info_parts Tryz.ckInfoBool
  have := run_make (P := Tryz.prog) w 70 4 i0 (.bool false) Tryz.underlying70 hi hz0 .i64 .i64 (n : Int) (n : Int) (by omega) (by omega) (by rw [hz2]; omega) (by omega)
  rw [this, hz1]
  simp only [Int.toNat_natCast]
  rw [ck_madeB]

/-- a row of numbers that grows -/
def RowN (B : Nat) (w : World) (v : Value) (zs : List Int) : Prop := w.ownsRow B 3 1 v zs.length (zs.map (Value.int .i64))
theorem RowN.keep {B : Nat} {w w' : World} {v : Value} {zs : List Int} (h : RowN B w v zs) (hk : ∀ k, v.ownBlock = some k → w'.heap[k]? = w.heap[k]?) : RowN B w' v zs := by
  obtain ⟨hl, h2⟩ := h
  refine ⟨hl, ?_⟩
  rcases h2 with h2 | ⟨g, cap, cur, rfl, hB, hg, hr⟩
  · exact .inl h2
  · exact .inr ⟨g, cap, cur, rfl, hB, by rw [hk g rfl]; exact hg, hr⟩
theorem RowN.form {B : Nat} {w : World} {v : Value} {zs : List Int} (h : RowN B w v zs) : ∃ ad cap, v = .slice ad zs.length cap ∧ (∀ k, v.ownBlock = some k → B ≤ k ∧ k < w.heap.size) := by
  obtain ⟨hl, h2⟩ := h
  rcases h2 with ⟨rfl, h0⟩ | ⟨g, cap, cur, rfl, hB, hg, hr⟩
  · exact ⟨none, 0, by rw [h0], fun k hk => by simp [Value.ownBlock] at hk⟩
  · refine ⟨_, cap, rfl, fun k hk => ?_⟩
    have : g = k := by simpa [Value.ownBlock] using hk
    subst this
    exact ⟨hB, lt_of_block hg⟩
theorem RowN.below {B : Nat} {w w' : World} {v : Value} {zs : List Int} (h : RowN B w v zs) (hb : Below w.heap.size w w') : RowN B w' v zs := by
  obtain ⟨_, _, _, hk⟩ := h.form
  exact h.keep fun k hk' => hb.block k (hk k hk').2
theorem RowN.nums {B : Nat} {w : World} {v : Value} {zs : List Nat} (h : RowN B w v (zs.map fun x : Nat => (x : Int))) : NumsV (fun b => B ≤ b) w v zs := by
  have hc := fun g hg => World.ownsRow.cells h (g := g) hg
  obtain ⟨hl, h2⟩ := h
  rcases h2 with ⟨rfl, h0⟩ | ⟨g, cap, cur, rfl, hB, hg, hr⟩
  · rw [List.length_map] at h0
    exact ⟨none, 0, 0, by rw [h0], fun h => absurd h (by omega), fun k hk => absurd hk (by omega)⟩
  · refine ⟨some ⟨g, 0, none⟩, g, cap, by rw [List.length_map], fun _ => ⟨rfl, hB, lt_of_block hg⟩, fun k hk => ?_⟩
    have := hc g rfl k (.int .i64 ((zs.getD k 0 : Nat) : Int)) (by simp [List.getElem?_eq_getElem hk, List.getD_eq_getElem?_getD])
    have ad : (⟨g, 0, none⟩ : Addr).add k = ⟨g, k, none⟩ := by unfold Addr.add; split <;> simp_all
    rw [ad] at this
    exact this
theorem ck_appN (B : Nat) (w : World) (v : Value) (zs : List Int) (x : Int) (q : Nat) (h : RowN B w v zs) (hq : w.cell? ⟨q, 0, none⟩ = some (.int .i64 x)) (hB : B ≤ w.heap.size) (hl : zs.length ≤ 1000000) :
    ∃ g cap w', (Builtin.append_ #[36, 36] 36 #[v, .slice (some ⟨q, 0, none⟩) 1 1]).run Tryz.prog w = .ok (.slice (some ⟨g, 0, none⟩) (zs.length + 1) cap) w' ∧ RowN B w' (.slice (some ⟨g, 0, none⟩) (zs.length + 1) cap) (zs ++ [x]) ∧ w.grownBy w' v.ownBlock ∧ (v.ownBlock = some g ∨ g = w.heap.size) ∧ g < w'.heap.size := by
  obtain ⟨i0, hi, hz0, hz1, hz2⟩ := info_parts Tryz.ckInfoInt
  obtain ⟨g, cap, w', hr, h2, h3, h4, h5⟩ := run_append_lies (P := Tryz.prog) w 36 36 B 3 i0 (.int .i64 0) 1 8 Tryz.underlying36 hi hz0 hz1 hz2 rfl (by decide) v zs.length _ h ⟨q, 0, none⟩ 1 1 [.int .i64 x] (by simp)
    (fun j u hu => by
      cases j with
      | zero => simp at hu; subst hu; simpa [Addr.add] using hq
      | succ j => simp at hu)
    (fun u hu => by obtain rfl := List.mem_singleton.1 hu; rfl) (by omega) (by unfold maxLen; omega) (by omega) hB _ rfl
  refine ⟨g, cap, w', hr, ?_, h3, h4, h5⟩
  unfold RowN
  rw [List.length_append, List.map_append]; exact h2

/-- a state's nine cells, of which the name and the ways are told -/
def StO {ρ : Type} (w : World) (g j : Nat) (s : StF ρ) : Prop := ∃ (b1 b2 : Bool) (xe : Option Addr) (ye ze : Nat) (xd : Option Addr) (yd zd : Nat) (xl : Option Addr) (yl zl : Nat) (p xy : Option Addr) (zy : Nat) (xr : Option Addr) (yr zr gy : Nat),
  (w.cell? ⟨g, j * 9, none⟩ = some (sv s.name) ∧ w.cell? ⟨g, j * 9 + 1, none⟩ = some (.bool b1) ∧ w.cell? ⟨g, j * 9 + 2, none⟩ = some (.bool b2) ∧ w.cell? ⟨g, j * 9 + 3, none⟩ = some (.slice xe ye ze) ∧ w.cell? ⟨g, j * 9 + 4, none⟩ = some (.slice xd yd zd) ∧ w.cell? ⟨g, j * 9 + 5, none⟩ = some (.slice xl yl zl) ∧ w.cell? ⟨g, j * 9 + 6, none⟩ = some (.pointer p) ∧ w.cell? ⟨g, j * 9 + 7, none⟩ = some (.slice xy s.ways.length zy) ∧ w.cell? ⟨g, j * 9 + 8, none⟩ = some (.slice xr yr zr)) ∧
  (0 < s.ways.length → xy = some ⟨gy, 0, none⟩ ∧ gy < w.heap.size) ∧ WaysAt w gy s.ways ∧ s.ways.length ≤ 1000000
theorem StO.below {ρ : Type} {w w' : World} {g j : Nat} {s : StF ρ} (h : StO w g j s) (hb : Below w.heap.size w w') : StO w' g j s := by
  obtain ⟨b1, b2, xe, ye, ze, xd, yd, zd, xl, yl, zl, p, xy, zy, xr, yr, zr, gy, ⟨h0, h1, h2, h3, h4, h5, h6, h7, h8⟩, h9, hA, hB⟩ := h
  exact ⟨b1, b2, xe, ye, ze, xd, yd, zd, xl, yl, zl, p, xy, zy, xr, yr, zr, gy, ⟨ck_cell hb h0, ck_cell hb h1, ck_cell hb h2, ck_cell hb h3, ck_cell hb h4, ck_cell hb h5, ck_cell hb h6, ck_cell hb h7, ck_cell hb h8⟩, fun hp => ⟨(h9 hp).1, Nat.lt_of_lt_of_le (h9 hp).2 hb.size⟩, hA.keep fun hp => hb.block gy (h9 hp).2, hB⟩
theorem StM.sto {ρ : Type} {A : Nat → Prop} {w : World} {g i : Nat} {s : StF ρ} {ve vd vl : Value} {p ay ar : Option Addr} {gy capy capr : Nat} (h : StM A w g i s ve vd vl p ay ar gy capy capr) (hN : NmStF s) : StO w g i s := by
  obtain ⟨xe, ye, ze, rfl⟩ := h.he.sl'
  obtain ⟨xd, yd, zd, rfl⟩ := h.hd.sl'
  obtain ⟨xl, yl, zl, rfl⟩ := h.hl.sl'
  refine ⟨_, _, xe, ye, ze, xd, yd, zd, xl, yl, zl, p, ay, capy, ar, _, capr, gy, ⟨h.c0, h.c1, h.c2, h.c3, h.c4, h.c5, h.c6, h.c7, h.c8⟩, h.hw.2.1, fun m y hm => ?_, hN.2.2.2.2.2.2⟩
  obtain ⟨p', q', m0, m1, m2, m3, m4, m5, m6, m7, m8⟩ := h.hw.2.2 m y hm
  obtain ⟨a, b, c, rfl⟩ := m8.sl'
  exact ⟨p', _, m0, m1, m2, m3, m4, m5, m6, ⟨a, b, c, rfl⟩, (hN.2.2.2.2.2.1 y (List.mem_of_getElem? hm)).1⟩
end Go.Proofs.YtanlfmhlohcmgaaGreatDoor
