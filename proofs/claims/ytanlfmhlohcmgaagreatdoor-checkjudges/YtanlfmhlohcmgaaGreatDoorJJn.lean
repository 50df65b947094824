/- The document's judge: names, what is set. -/
import Derived.Test.YtanlfmhlohcmgaaGreatDoorJCg2
namespace Go.Proofs.YtanlfmhlohcmgaaGreatDoor
open Go.RowKit Px

/-- the kind of the variable of that name, if there is one -/
def kf (vs : List Decl) (s : Str) : Option Nat := (fnd (vnames vs) s).map fun i => (vs.getD i decl0).kind
/-- the judge, as it lies: it has come to n states -/
structure JdAt (w : World) (jb mk nm : Nat) (vs : List Decl) (n : Nat) : Prop where
  box : w.heap[jb]? = some (.cells #[.map (some mk), .int .i64 (n : Int)] 58 (0, 0))
  map : MapF w mk nm (kf vs)
  pos : ∀ v ∈ vs, 1 ≤ v.kind ∧ v.kind ≤ 3
  ne : jb ≠ mk
theorem kf_pos {vs : List Decl} (h : ∀ v ∈ vs, 1 ≤ v.kind ∧ v.kind ≤ 3) (s : Str) : 0 < (kf vs s).getD 0 ↔ (fnd (vnames vs) s).isSome = true := by
  unfold kf
  cases hf : fnd (vnames vs) s with
  | none => simp
  | some i =>
    have hi := (fnd_some hf).1
    rw [vnames, List.length_map] at hi
    have := h (vs[i]) (List.getElem_mem _)
    simp [List.getD_eq_getElem?_getD, List.getElem?_eq_getElem hi]
    omega
theorem kf_kind (vs : List Decl) (s : Str) (h : (fnd (vnames vs) s).isSome = true) : (kf vs s).getD 0 = vkind vs s := by
  unfold kf vkind fndI
  cases hf : fnd (vnames vs) s with
  | none => rw [hf] at h; simp at h
  | some i => simp
section
variable {jb mk nm : Nat} {vs : List Decl}
theorem JdAt.below {w w' : World} {n : Nat} (h : JdAt w jb mk nm vs n) (hb : Below w.heap.size w w') : JdAt w' jb mk nm vs n :=
  ⟨ck_block hb h.box, h.map.below hb, h.pos, h.ne⟩
theorem names_nil (w : World) : Calls Tryz.prog 71 #[.pointer (some ⟨jb, 0, none⟩), .pointer none] w fun r w' => r = .returned (.bool true) ∧ Below w.heap.size w w' := by
  go_enter Tryz.func71, Tryz.ntmps71
  go_wp2_with fail
  go_ret
  exact ⟨rfl, Below.refl _ _⟩
set_option maxHeartbeats 2000000 in
theorem names_name {w : World} {n g : Nat} {c x : Int} (hc : c = 2 ∨ c = 3) {s : Str} (hs : s.length ≤ maxLen) {lv rv : Value} (hg : w.heap[g]? = some (.cells #[.int .i64 c, .int .i64 x, sv s, lv, rv] 157 (0, 0))) (h : JdAt w jb mk nm vs n) : Calls Tryz.prog 71 #[.pointer (some ⟨jb, 0, none⟩), .pointer (some ⟨g, 0, none⟩)] w fun r w' => r = .returned (.bool ((fnd (vnames vs) s).isSome)) ∧ Below w.heap.size w w' := by
  have c0 := cell_row hg 0 (u := .int .i64 c) rfl
  have c2 := cell_row hg 2 (u := sv s) rfl
  have k0 := cell_row h.box 0 (u := .map (some mk)) rfl
  have hl : ∀ nq : Nat, (Instr.lookup 56 (.map (some mk)) (sv s) false).run Tryz.prog (w.drewN nq) = .ok (.int .i64 (((kf vs s).getD 0 : Nat) : Int)) (w.drewN nq) := fun nq => (h.map.keep (w' := w.drewN nq) rfl).look1 hs
  have hl0 := h.map.look1 hs
  have hp := kf_pos h.pos s
  obtain ⟨K, hK⟩ : ∃ K, Hid ((kf vs s).getD 0 = K) := ⟨_, rfl⟩
  rw [hK.out] at hl hp hl0
  generalize sv s = S at c2 hl hl0
  obtain ⟨b, hb⟩ : ∃ b, (fnd (vnames vs) s).isSome = b := ⟨_, rfl⟩
  rw [hb] at hp ⊢
  have hd : b = decide (0 < K) := by
    cases b with
    | true => rw [decide_eq_true (hp.2 rfl)]
    | false => rw [decide_eq_false (by intro h; have := hp.1 h; simp at this)]
  subst hd
  clear hp hg h hb
  rcases hc with rfl | rfl
  all_goals
    go_enter Tryz.func71, Tryz.ntmps71
    go_wp2_with fail
    go_quiet (fail)
    go_wp2_with fail
    go_ret
    exact ⟨rfl, rfl, rfl, rfl, Nat.le_refl _, fun _ _ => rfl⟩
def NamesOk (jb mk nm : Nat) (vs : List Decl) (n : Nat) (A : Nat → Prop) (e : E) : Prop := ∀ (w : World) (v : Value), IsE A w e v → JdAt w jb mk nm vs n → Calls Tryz.prog 71 #[.pointer (some ⟨jb, 0, none⟩), v] w fun r w' => r = .returned (.bool (namesR (vnames vs) e)) ∧ Below w.heap.size w w'
set_option maxHeartbeats 4000000 in
theorem names_two {A : Nat → Prop} {w : World} {n g : Nat} {c x : Int} (hc : c ≠ 2 ∧ c ≠ 3) {S : Value} {l r : E} {lv rv : Value} (hg : w.heap[g]? = some (.cells #[.int .i64 c, .int .i64 x, S, lv, rv] 157 (0, 0))) (hl : IsE A w l lv) (hr : IsE A w r rv) (ihl : NamesOk jb mk nm vs n A l) (ihr : NamesOk jb mk nm vs n A r) (h : JdAt w jb mk nm vs n) :
    Calls Tryz.prog 71 #[.pointer (some ⟨jb, 0, none⟩), .pointer (some ⟨g, 0, none⟩)] w fun r' w' => r' = .returned (.bool (namesR (vnames vs) l && namesR (vnames vs) r)) ∧ Below w.heap.size w w' := by
  obtain ⟨p, rfl⟩ := hl.pt'
  obtain ⟨q, rfl⟩ := hr.pt'
  have c0 := cell_row hg 0 (u := .int .i64 c) rfl
  have c3 := cell_row hg 3 (u := .pointer p) rfl
  have H4 : Hid (∀ w', Below w.heap.size w w' → w'.cell? ⟨g, 4, none⟩ = some (.pointer q)) := fun w' hb => ck_cell hb (cell_row hg 4 rfl)
  have hcl := ihl w (.pointer p) hl h
  have HR : Hid (∀ w', Below w.heap.size w w' → Calls Tryz.prog 71 #[.pointer (some ⟨jb, 0, none⟩), .pointer q] w' fun r' w'' => r' = .returned (.bool (namesR (vnames vs) r)) ∧ Below w'.heap.size w' w'') := fun w' hb => ihr w' _ (hr.carry fun b hb' hlt => ⟨hb', hb.block b hlt⟩) (h.below hb)
  obtain ⟨b1, hb1⟩ : ∃ b, namesR (vnames vs) l = b := ⟨_, rfl⟩
  obtain ⟨b2, hb2⟩ : ∃ b, namesR (vnames vs) r = b := ⟨_, rfl⟩
  rw [hb1] at hcl ⊢
  rw [hb2] at HR ⊢
  have t2 : (c == 2) = false := by simpa using hc.1
  have t3 : (c == 3) = false := by simpa using hc.2
  have t2' : ¬ c = 2 := hc.1
  have t3' : ¬ c = 3 := hc.2
  clear hg hl hr ihl ihr h hb1 hb2 hc
  cases b1 with
  | false =>
    go_enter Tryz.func71, Tryz.ntmps71
    go_wp2_with (refine hcl.mono ?_; rintro e w' ⟨rfl, hw⟩)
    go_ret
    exact ⟨rfl, hw⟩
  | true =>
    have T1 : Hid True := trivial
    go_enter Tryz.func71, Tryz.ntmps71
    go_wp2_with (first
      | (clear T1; refine hcl.mono ?_; rintro e w1 ⟨rfl, hw1⟩; have c4 := H4.out w1 hw1)
      | (refine (HR.out w1 hw1).mono ?_; rintro e w2 ⟨rfl, hw2⟩))
    go_ret
    exact ⟨by rw [Bool.true_and]; rfl, ck_all hw1 hw2⟩
theorem names_all {A : Nat → Prop} {n : Nat} : ∀ e, NmOk e → NamesOk jb mk nm vs n A e := by
  intro e
  induction e with
  | nil =>
    intro _ w v hv h
    obtain rfl : v = .pointer none := hv
    exact names_nil w
  | node b0 o a l r ihl ihr =>
    intro hn w v hv h
    obtain ⟨n1, n2, n3⟩ := hn
    obtain ⟨g, lv, rv, rfl, hga, hg, hl, hr⟩ := hv
    rw [namesR]
    by_cases c2 : a.code = 2 ∨ a.code = 3
    · rw [if_pos c2]
      exact names_name (by omega) n1 hg h
    · rw [if_neg c2]
      exact names_two ⟨by omega, by omega⟩ hg hl hr (ihl n2) (ihr n3) h
theorem names_any {A : Nat → Prop} {n : Nat} {w : World} {e : E} {v : Value} (he : IsE A w e v) (hN : NmOk e) (hS : ShE e) (h : JdAt w jb mk nm vs n) : Calls Tryz.prog 71 #[.pointer (some ⟨jb, 0, none⟩), v] w fun r w' => r = .returned (.bool (!strangeE (vnames vs) e)) ∧ Below w.heap.size w w' := by
  rw [← namesR_eq _ hS]
  exact names_all e hN w v he h
def ShSets (l : List Asg) : Prop := ∀ a ∈ l, ShE a.e
set_option maxRecDepth 100000 in
set_option maxHeartbeats 4000000 in
theorem jsets_at {w : World} {n : Nat} (h : JdAt w jb mk nm vs n) {l : List Asg} {ad : Option Addr} {g N cap : Nat} {A : Nat → Prop} (hN : Hid (N = l.length)) (hm : N ≤ maxLen) (ha : 0 < N → ad = some ⟨g, 0, none⟩ ∧ g < w.heap.size) (hNm : NmSets l) (hSh : ShSets l)
    (R : Hid (∀ (i : Nat) (a : Asg), l[i]? = some a → ∃ p, w.cell? ⟨g, i * 2, none⟩ = some (sv a.name) ∧ w.cell? ⟨g, i * 2 + 1, none⟩ = some (.pointer p) ∧ IsE A w a.e (.pointer p))) :
    Calls Tryz.prog 70 #[.pointer (some ⟨jb, 0, none⟩), .slice ad N cap] w fun r w' => r = .returned (.int .i64 ((setsE vs l : Nat) : Int)) ∧ Below w.heap.size w w' := by
  have hN6 : (N : Int) ≤ 9223372036854775807 := by unfold maxLen at hm; omega
  have HC : Hid (JdAt w jb mk nm vs n) := h
  have HA : Hid (0 < N → ad = some ⟨g, 0, none⟩ ∧ g < w.heap.size) := ha
  have HNM : Hid (NmSets l ∧ ShSets l) := ⟨hNm, hSh⟩
  clear h ha hNm hm hSh
  go_enter Tryz.func70, Tryz.ntmps70
  go_wp2_with fail
  go_loopg [9] N (fun f i wr => ∃ k : Nat, f = N - k ∧ k ≤ N ∧ i = .int .i64 (k : Int) ∧ Hid (Below w.heap.size w wr ∧ ∀ j a, j < k → l[j]? = some a → setE vs a = 0))
  case atStart => exact ⟨0, by omega, by omega, rfl, Below.refl _ _, fun j a hj => absurd hj (by omega)⟩
  case round =>
    obtain ⟨k, rfl, hk, rfl, hr⟩ := hrel
    by_cases hlt : k < N
    · obtain ⟨a, hak⟩ : ∃ a, Hid (l[k]? = some a) := ⟨l[k]'(by rw [← hN.out]; exact hlt), by rw [Hid, List.getElem?_eq_getElem]⟩
      obtain ⟨p, x0, x1, hp⟩ := R.out k a hak.out
      have hix := ixS ad g N cap k hlt (fun h => (HA.out h).1)
      have y0 := ck_cell hr.out.1 x0
      have y1 := ck_cell hr.out.1 x1
      obtain ⟨LO, hLO⟩ : ∃ LO, LO = Obj.cells #[sv a.name, .pointer p] 155 := ⟨_, rfl⟩
      have hbL : Below w.heap.size w (wr.alloc LO) := ck_all hr.out.1 (ck_grown wr LO)
      have hC := HC.out.below hbL.drew
      have HC2 : Hid (∀ w', Below (wr.alloc LO).drew.heap.size (wr.alloc LO).drew w' → JdAt w' jb mk nm vs n) := fun w' hb => hC.below hb
      obtain ⟨n1, n2⟩ := HNM.out.1 a (List.mem_of_getElem? hak.out)
      have n3 := HNM.out.2 a (List.mem_of_getElem? hak.out)
      have hst := names_any (hp.carry fun x hx hlt => ⟨hx, hbL.drew.block x hlt⟩) n2 n3 hC
      have hlk : ∀ nq : Nat, (Instr.lookup 56 (.map (some mk)) (sv a.name) false).run Tryz.prog ((wr.alloc LO).drewN nq) = .ok (.int .i64 (((kf vs a.name).getD 0 : Nat) : Int)) ((wr.alloc LO).drewN nq) := fun nq => (hC.map.keep (w' := (wr.alloc LO).drewN nq) rfl).look1 n1
      have hlk1 : (Instr.lookup 56 (.map (some mk)) (sv a.name) false).run Tryz.prog (wr.alloc LO).drew = .ok (.int .i64 (((kf vs a.name).getD 0 : Nat) : Int)) (wr.alloc LO).drew := hC.map.look1 n1
      have HLK : Hid (∀ w', Below (wr.alloc LO).drew.heap.size (wr.alloc LO).drew w' → ∀ nq : Nat, (Instr.lookup 56 (.map (some mk)) (sv a.name) false).run Tryz.prog (w'.drewN nq) = .ok (.int .i64 (((kf vs a.name).getD 0 : Nat) : Int)) (w'.drewN nq)) := fun w' hb nq => ((hC.below hb).map.keep (w' := w'.drewN nq) rfl).look1 n1
      have c1 : (wr.alloc LO).drew.cell? ⟨jb, 0, none⟩ = some (.map (some mk)) := cell_row hC.box 0 rfl
      have HBL : Hid (Below w.heap.size w (wr.alloc LO).drew) := hbL.drew
      have k0 : (wr.alloc LO).heap[wr.heap.size]? = some (.cells #[sv a.name, .pointer p] 155 (0, 0)) := by rw [ck_new, hLO]
      have l0 := cell_row k0 0 (u := sv a.name) rfl
      have l1 := cell_row k0 1 (u := .pointer p) rfl
      have HP : Hid (∀ w', Below (wr.alloc LO).drew.heap.size (wr.alloc LO).drew w' → w'.cell? ⟨jb, 0, none⟩ = some (.map (some mk)) ∧ w'.cell? ⟨wr.heap.size, 0, none⟩ = some (sv a.name)) := fun w' hb => ⟨ck_cell hb c1, ck_cell hb l0⟩
      have hkp := kf_pos hC.pos a.name
      have hkk := kf_kind vs a.name
      obtain ⟨S, hS⟩ : ∃ S, sv a.name = .string S := ⟨_, rfl⟩
      rw [hS] at y0 hLO l0 hlk hlk1 HLK HP
      obtain ⟨b, hb⟩ : ∃ b, Hid (strangeE (vnames vs) a.e = b) := ⟨_, rfl⟩
      rw [hb.out] at hst
      obtain ⟨K, hK⟩ : ∃ K, Hid ((kf vs a.name).getD 0 = K) := ⟨_, rfl⟩
      rw [hK.out] at hlk hlk1 HLK hkp hkk
      have HZ : Hid (∀ j a, j < k → l[j]? = some a → setE vs a = 0) := hr.out.2
      rw [hLO] at HBL hst HC2 c1 l0 l1 hlk hlk1 HLK HP
      clear hbL hC x0 x1 hp n1 n2 n3 hLO hS hr k0
      go_upto_region 4 with fail
      obtain ⟨B, hB⟩ : ∃ B, Hid ((decide (K = 0) || b) = B) := ⟨_, rfl⟩
      go_cut [27] (fun s27 wx => Hid (s27 = .bool B ∧ Below (wr.alloc (.cells #[.string S, .pointer p] 155)).drew.heap.size (wr.alloc (.cells #[.string S, .pointer p] 155)).drew wx))
      case first =>
        by_cases h0 : K = 0
        · subst h0
          have hBt : B = true := by rw [← hB.out]; rfl
          subst hBt
          have c1b : (wr.alloc (.cells #[.string S, .pointer p] 155)).cell? ⟨jb, 0, none⟩ = some (.map (some mk)) := c1
          clear hlk1 hst c1
          rw [show ((0 : Nat) : Int) = 0 from rfl] at hlk
          go_quiet (fail)
          go_wp2_with fail
          go_meet
          case rel => exact ⟨rfl, rfl, rfl, rfl, Nat.le_refl _, fun _ _ => rfl⟩
        · have h1 : ¬ (K : Int) = 0 := by omega
          have h2 : ((K : Int) == 0) = false := by simp; omega
          have hBt : B = b := by rw [← hB.out]; simp [h0]
          subst hBt
          clear hlk
          go_region_with (go_at_call 71; refine hst.mono ?_; rintro e w' ⟨rfl, hw⟩)
          all_goals
            go_wp2_with fail
            go_meet
            case rel => exact ⟨by simp, hw⟩
      case rest =>
        obtain ⟨h27, hbw⟩ := hcut.out
        subst h27
        have HBW : Hid (Below w.heap.size w wc) := ck_all HBL.out hbw
        obtain ⟨d0, d1⟩ := HP.out wc hbw
        have hlq := HLK.out wc hbw
        clear hcut hlk hlk1 hst c1 l0 l1 hbw y0 y1 hix
        cases B with
        | true =>
          have HE : Hid (setsE vs l = 5) := by
            have : setE vs a = 5 := by
              unfold setE
              rw [hb.out]
              by_cases h0 : K = 0
              · have : fnd (vnames vs) a.name = none := by
                  cases hf : fnd (vnames vs) a.name with
                  | none => rfl
                  | some i => have := hkp.2 (by rw [hf]; rfl); omega
                rw [this]; rfl
              · have : b = true := by have := hB.out; simpa [h0] using this
                rw [this, Bool.or_true]; rfl
            rw [Hid, setsE_at HZ.out hak.out (by rw [this]; simp), this]
          go_wp2_with fail
          go_ret
          exact ⟨by rw [HE.out]; rfl, HBW.out⟩
        | false =>
          have hBB := hB.out
          rw [Bool.or_eq_false_iff] at hBB
          have hK0 : ¬ K = 0 := by simpa using hBB.1
          have hsm : (fnd (vnames vs) a.name).isSome = true := hkp.1 (by omega)
          have hvk := hkk hsm
          have HSE : Hid (setE vs a = if K = 1 then 1 else 0) := by
            unfold Hid setE
            rw [hb.out, hBB.2, ← hvk]
            cases hf : fnd (vnames vs) a.name with
            | none => rw [hf] at hsm; simp at hsm
            | some i => rfl
          clear hBB hK0 hsm hvk hkp hkk
          by_cases h1 : K = 1
          · subst h1
            rw [if_pos rfl] at HSE
            have HE : Hid (setsE vs l = 1) := by rw [Hid, setsE_at HZ.out hak.out (by rw [HSE.out]; simp), HSE.out]
            rw [show ((1 : Nat) : Int) = 1 from rfl] at hlq
            go_wp2_with fail
            go_quiet (fail)
            go_wp2_with fail
            go_ret
            exact ⟨by rw [HE.out]; rfl, HBW.out.os, HBW.out.tape, HBW.out.output, HBW.out.size, HBW.out.block⟩
          · rw [if_neg h1] at HSE
            have h2 : ¬ (K : Int) = 1 := by omega
            have h3 : ((K : Int) == 1) = false := by simp; omega
            go_wp2_with fail
            go_quiet (fail)
            go_wp2_with fail
            go_roundg (N - (k + 1))
            case measure => omega
            case rel =>
              refine ⟨k + 1, rfl, by omega, by go_num, ⟨HBW.out.os, HBW.out.tape, HBW.out.output, HBW.out.size, HBW.out.block⟩, fun j a' hj ha' => ?_⟩
              by_cases e : j = k
              · subst e
                have := hak.out
                rw [ha'] at this
                injection this with this
                subst this
                exact HSE.out
              · exact HZ.out j a' (by omega) ha'
    · obtain rfl : k = N := by omega
      have HE : Hid (setsE vs l = 0) := setsE_all (by rw [← hN.out]; exact hr.out.2)
      have HB : Hid (Below w.heap.size w wr) := hr.out.1
      clear hr
      go_wp2_with fail
      go_ret
      exact ⟨by rw [HE.out]; rfl, HB.out⟩
end
end Go.Proofs.YtanlfmhlohcmgaaGreatDoor
