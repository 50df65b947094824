/- keep's few, either way; a text that may run, or none. -/
import Derived.Test.YtecbilopliblpaaGreatDoorQVe
import Derived.Test.YtecbilopliblpaaGreatDoorQKj0
namespace Go.Proofs.YtecbilopliblpaaGreatDoor
open Go.RowKit Px
namespace Kx
theorem few_no {w : World} {iv : Value} {zss : List (List Int)} (hI : IRws w iv zss) (h : ¬ Few zss) : Calls Tryz.prog 11 #[iv] w fun e w' => e = .returned (.bool false) ∧ w' = w := (few_any hI).mono fun e w' ⟨h', hw⟩ => ⟨by
    rcases h' with ⟨_, hn⟩ | ⟨he, _⟩
    · exact absurd hn h
    · exact he, hw⟩
theorem few_yes {w : World} {iv : Value} {zss : List (List Int)} (hI : IRws w iv zss) (h : Few zss) : Calls Tryz.prog 11 #[iv] w fun e w' => e = .returned (.bool true) ∧ w' = w := (few_any hI).mono fun e w' ⟨h', hw⟩ => ⟨by
    rcases h' with ⟨he, _⟩ | ⟨_, hn⟩
    · exact he
    · exact absurd h hn, hw⟩
/-- a text that may run, or keep's chart says no -/
theorem may_or (s : ByteArray) : (∃ l c, s.size ≤ 1500 ∧ Lx.Ok (bs s) l ∧ chart (fin s l) = .ok c ∧ checkC c = none) ∨ ∀ w, KEnv0 w → Calls Tryz.prog 13 #[.string s] w fun e w' => e = .returned (.tuple #[.agg #[.string ⟨#[]⟩, .slice none 0 0, .slice none 0 0], .bool false]) ∧ Hid (Below w.heap.size w w') := by
  by_cases h : ∃ l c, s.size ≤ 1500 ∧ Lx.Ok (bs s) l ∧ chart (fin s l) = .ok c
  · obtain ⟨l, c, h1, h2, h3⟩ := h
    by_cases hc : checkC c = none
    · exact .inl ⟨l, c, h1, h2, h3, hc⟩
    · refine .inr fun w hv => (chart_drawn h1 hv h2 h3).mono fun e w' h => ?_
      rcases h with ⟨hn, _⟩ | ⟨_, he, hb⟩
      · exact absurd hn hc
      · exact ⟨he, hb⟩
  · exact .inr fun w hv => chart_none hv fun h1 l c h2 => h ⟨l, c, h1, h2.1, h2.2⟩
end Kx
end Go.Proofs.YtecbilopliblpaaGreatDoor
/- RunRests: what the law asks of variables; the chart that rests may run. -/
namespace Go.Proofs.YtecbilopliblpaaGreatDoor
open Go.RowKit Px
namespace Kx
/-- all but inputs are the same -/
def Same1 (vs : List Decl) (n n1 : Px.Env) : Prop := ∀ v ∈ vs, v.kind ≠ 1 → n v.name = n1 v.name
theorem not_in {vs : List Decl} (hd : Dist (vnames vs)) {v : Decl} (hv : v ∈ vs) (hk : v.kind ≠ 1) : ¬ InN vs v.name := fun ⟨u, hu, k1, k2⟩ => by
  have h1 := vkind_of hd hv
  have h2 := vkind_of hd hu
  rw [k2] at h2
  rw [h1] at h2
  exact hk (by rw [h2, k1])
theorem hear_same {vs : List Decl} (hd : Dist (vnames vs)) {n n1 : Px.Env} (h : Same1 vs n n1) (ins : List Int) : Same1 vs (hearE vs ins n) n1 := fun v hv hk => by
  rw [hearE_other vs ins n v.name (not_in hd hv hk)]
  exact h v hv hk
theorem tell_same {vs : List Decl} {n n1 : Px.Env} (h : Same1 vs n n1) : tellC (fun k => decide (k = 2)) vs n = tellC (fun k => decide (k = 2)) vs n1 := by
  unfold tellC
  refine List.map_congr_left fun v hv => ?_
  rw [List.mem_filter] at hv
  have h2 : v.kind = 2 := by simpa using hv.2
  exact h v hv.1 (by omega)
theorem many601 {L : List Lx.Tok} (hL : Wf L) {c : Chart} (h : chart L = .ok c) : sumC (cRg 6) c.regions ≤ 601 := by
  obtain ⟨h1, h2, h3⟩ := Sh.chart_w hL h
  have := sumLe (f := cRg 6) (g := Sh.wR (Sh.wSt 6)) c.regions (fun r _ => by
    have := sumLe (f := fun y => 1 + cIn 6 y) (g := Sh.wSt 6) r (fun y _ => inLe 6 y)
    unfold cRg Sh.wR; omega)
  omega
theorem wrap_only {c : Chart} {rs : List (List (St 5))} {r : List (St 6)} (hr : r ∈ (wrapC c rs).regions) {x : St 6} (hx : x ∈ r) : x = (show St 6 from wrapS rs) := by
  have h1 : r = (show List (St 6) from ([wrapS rs] : List (StF (St 5)))) := List.mem_singleton.1 hr
  rw [h1] at hx
  exact List.mem_singleton.1 hx
theorem nmS_nil : NmSets [] := fun a ha => by cases ha
theorem nbS_nil : NbSets [] := fun a ha => by cases ha
theorem len_le {l : List UInt8} (h : l.length ≤ 1) : l.length ≤ maxLen := by unfold maxLen; omega
theorem wrap_nm (rs : List (List (St 5))) : NmStF (wrapS rs) :=
  ⟨len_le (l := [119]) (by decide), nmS_nil, nmS_nil, nmS_nil, ⟨len_le (l := []) (by decide), trivial, trivial⟩, fun y hy => (by cases hy), Nat.zero_le _⟩
theorem wrap_nb (rs : List (List (St 5))) : NbStF (wrapS rs) :=
  ⟨nbS_nil, nbS_nil, nbS_nil, ⟨⟨by show (-9223372036854775808 : Int) ≤ 1; omega, by show (1 : Int) ≤ 9223372036854775807; omega⟩, trivial, trivial⟩, fun y hy => by cases hy⟩
theorem wrap_run {s : ByteArray} {l : List Lx.Tok} {c : Chart} {rs : List (List (St 5))} (hok : Lx.Ok (bs s) l) (hch : chart (fin s l) = .ok c) (h : checkC c = none) (hd : L2r (DnK 5) c.regions rs) : RunC (wrapC c rs) := by
  have hN := nmChart (wf_ok hok) hch
  have hB := nbChart (wf_ok hok) hch
  have hm := many601 (wf_ok hok) hch
  have hc := wrap_check h hd
  have hst : ∀ r ∈ rs, ∀ x ∈ r, NmSt 5 x ∧ NbSt 5 x := fun r hr x hx => by
    obtain ⟨r0, hr0, hrr⟩ := hd.mem hr
    exact ⟨nm_dn 5 r0 r hrr (hN.sts r0 hr0) x hx, nb_dn 5 r0 r hrr (hB.1 r0 hr0) x hx⟩
  have hN' : NmChart (wrapC c rs) := by
    refine ⟨hN.vars, hN.names, fun r hr x hx => ?_, ?_⟩
    · obtain rfl := wrap_only hr hx
      exact ⟨wrap_nm rs, fun r hr y hy => (hst r hr y hy).1⟩
    · have e : sumC (cRg 6) c.regions = sumC (cRg 5) rs := sumC_dn (fun r r' hr => crg_dn 5 r r' hr) hd
      show (1 + sumC (cRg 5) rs + 0) + 0 ≤ 1000000
      rw [← e]
      omega
  refine ⟨hc, hN', check_runs hc hN' fun r hr x hx => ?_, hB.2⟩
  obtain rfl := wrap_only hr hx
  exact ⟨wrap_nb rs, fun r hr y hy => (hst r hr y hy).2⟩
theorem FrQ.wide {Q Q' : Nat → Prop} {w w' : World} (h : FrQ Q w w') (hQ : ∀ b, Q b → Q' b) : FrQ Q' w w' := ⟨h.os, h.tape, h.output, h.size, fun b hb hq => h.block b hb (fun e => hq (hQ b e))⟩
/-- the chart that rests, between two ticks -/
structure RestI (c : Chart) (rs : List (List (St 5))) (A2 Q2 : Nat → Prop) (W wr : World) (n1 : Px.Env) (r : Rn) (rb2 : Nat) (x2 : RnL) (fv vv : Value) : Prop where
  run : RnM A2 wr (wrapC c rs) r rb2 Q2 x2
  st : ∃ n w ds, r = ⟨n, w, [wrapD ds]⟩ ∧ Same1 c.vars n n1
  first : ∀ w'', FrQ Q2 wr w'' → INums w'' fv (tellC (fun k => decide (k = 2)) c.vars n1)
  vars : ∀ w'', FrQ Q2 wr w'' → INums w'' vv (c.vars.map fun v => n1 v.name)
  bel : Below W.heap.size W wr
theorem tell_len (p : Nat → Bool) (vs : List Decl) (n : Px.Env) : (tellC p vs n).length ≤ vs.length := by
  unfold tellC
  rw [List.length_map]
  exact List.length_filter_le _ _
end Kx
end Go.Proofs.YtecbilopliblpaaGreatDoor
