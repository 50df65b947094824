/- NetForgets: of whatever code, of which nothing is kept, and whatever it is told: in each tick but the first one it tells what it would tell in any other one, and code that is told the same tells the same: the law returns true; the code and the numbers read as before.
   No condition besides the card's: errors' handle starts as the program's text lays it; the card ties it to it (to the pruned copy that the seat holds). -/
import Derived.Test.YtmibilgoblifmaaDoorNLaid
import Derived.Test.YtmibilgoblifmaaDoorNf4
import Derived.ChangeOld
import Derived.Test.YtmibilgoblifmaaDoorTie
import Derived.Test.YtmibilgoblifmaaDoorCards
import Derived.SevenTiedAt
namespace Go.Proofs.YtmibilgoblifmaaDoor
open Go Go.ChangeShapes Go.WideShapes Go.ChangeAt Go.RowKit Nx
namespace netForgets

/-- the law, of whatever it is handed -/
theorem any (n : Nt) (w : World) (vF vI vO vK vN vC va vb : Value) (za zb : List Int) (h : NetV w.heap.size w n vF vI vO vK vN vC) (ha : Ints (· < w.heap.size) w va za) (hb : Ints (· < w.heap.size) w vb zb) (hE : ErrType w) :
    Calls Tryd.prog 4 #[.agg #[.int .i64 n.places, vF, vI, vO, vK, vN, vC], va, vb] w fun e w' => e = .returned (.bool true) ∧ Below w.heap.size w w' := by
  by_cases hn : Held n
  · obtain ⟨ad, _, _, ca, ea, -, -⟩ := id ha
    obtain ⟨ad', _, _, cb, eb, -, -⟩ := id hb
    obtain ⟨adO, _, _, capO, eO, -, -⟩ := id h.o
    subst ea eb eO
    by_cases hl : 30 < za.length ∨ 30 < zb.length
    · exact forgets_long n w vF vI _ vK vN vC h hn ad za.length ca ad' zb.length cb hl
    · by_cases hok : (check (bare n)).1 = 0
      · exact forgets_fine n w vF vI vK vN vC adO capO h hn za zb ad za.length ca ad' zb.length cb ha hb (by omega) (by omega) hok
      · exact forgets_bad n w vF vI _ vK vN vC h hn hE ad za.length ca ad' zb.length cb (by omega) (by omega) hok
  · exact forgets_big n w vF vI vO vK vN vC va vb h hn

theorem door_met (os : Os) (args : Array Value) : laidMetH Tryd.prog Rows.netForgetsRow.laid ((World.doorLaid Tryd.prog 400 os).forCall (fun _ _ => 0) ⟨#[], args, []⟩).memory :=
  laidMetH_of_parts3 (fuel := 8) (laidMet_of_run' 8 (by kernel_rfl) (by kernel_rfl)) (by kernel_rfl) (by kernel_rfl)

set_option maxRecDepth 100000 in
theorem lifted (os : Os) (started : os.Started) (H : Type) (enc : TypeId × Value → H) :
    ReturnsInHanded {} Tryd.checked os 4 .any (fun w args => (Rows.netForgetsSpec.pre enc Tryd.prog Tryd.f4 [] false w args ∧ laidMetH Tryd.prog Rows.netForgetsRow.laid w) ∧ sizedMet enc Tryd.prog Tryd.f4 (OpenSpec.ofChange Rows.netForgetsSpec) false w args)
      (Rows.netForgetsSpec.post enc Tryd.prog Tryd.f4 false true false false) := by
  refine returnsInHanded_of_change_and (C := Tryd.checked) (X := fun w _ => laidMetH Tryd.prog Rows.netForgetsRow.laid w) (fun _ _ _ hh h => h.of_heap hh) ownKn started (by kernel_rfl) Tryd.func4
    (ChangeSpec.witness_shaped (enc := enc) (C := Tryd.checked) (os := os) (X := fun w _ => laidMetH Tryd.prog Rows.netForgetsRow.laid w) false (World.doorLaid Tryd.prog 400 os) #[.agg #[.int .i64 0, .slice none 0 0, .slice none 0 0, .slice none 0 0, .slice none 0 0, .slice none 0 0, .slice none 0 0], .slice none 0 0, .slice none 0 0] 8 rfl (World.shaped_of_RefB (by kernel_rfl) (by kernel_rfl)) (by kernel_rfl) (by kernel_rfl) (by kernel_rfl) (door_met os _)) ?_
  intro W base args ds gs before hval0 hW _ _ hL _
  have hval : ∀ (j : Nat) t v, Tryd.f4.params[j]? = some t → args[j]? = some v → Value.okWide Tryd.prog W .any base t v := hval0
  have hW' := hW
  obtain ⟨p, q, hA0, hV, rfl, hfz, hnd⟩ := hW
  have hA : DataW.TrodAll enc Tryd.prog W 0 (fun _ => true) true Tryd.f4.params.toList args.toList ds p := hA0
  rw [Tryd.params4] at hA hval
  obtain ⟨v0, vs0, d0, ds0, p0, q0, hargs, rfl, rfl, h0, r0⟩ := trodAll_cons hA
  obtain ⟨v1, vs1, d1, ds1, p1, q1, rfl, rfl, rfl, h1, r1⟩ := trodAll_cons r0
  obtain ⟨v2, vs2, d2, ds2, p2, q2, rfl, rfl, rfl, h2, r2⟩ := trodAll_cons r1
  obtain ⟨rfl, rfl, rfl⟩ := trodAll_nil r2
  obtain rfl : args = #[v0, v1, v2] := by cases args; simp_all
  obtain ⟨rfl, rfl⟩ := trodVars_none hV
  have lt0 : ∀ x ∈ p0, x.block < W.heap.size := by obtain ⟨m, hm⟩ := id h0; exact DataW.trod_lt m _ _ _ hm
  have lt1 : ∀ x ∈ p1, x.block < W.heap.size := by obtain ⟨m, hm⟩ := id h1; exact DataW.trod_lt m _ _ _ hm
  have lt2 : ∀ x ∈ p2, x.block < W.heap.size := by obtain ⟨m, hm⟩ := id h2; exact DataW.trod_lt m _ _ _ hm
  obtain ⟨n, vF, vI, vO, vK, vN, vC, rfl, hN, _, _⟩ := net_of_trod (hval 0 26 v0 rfl rfl) h0
  obtain ⟨a1, l1, c1, rfl⟩ := okWide_slice Tryd.underlying22 (hval 1 22 v1 rfl rfl)
  obtain ⟨a2, l2, c2, rfl⟩ := okWide_slice Tryd.underlying22 (hval 2 22 v2 rfl rfl)
  obtain ⟨za, hza, _⟩ : ∃ zs, Ints (· < W.heap.size) W (.slice a1 l1 c1) zs ∧ (∀ z ∈ zs, Fits z) := by
    obtain ⟨m, hm⟩ := id h1
    exact ints_of_trod Tryd.underlying22 Tryd.underlying2 (by kernel_rfl) (by simpa [Value.cells] using hm)
  obtain ⟨zb, hzb, _⟩ : ∃ zs, Ints (· < W.heap.size) W (.slice a2 l2 c2) zs ∧ (∀ z ∈ zs, Fits z) := by
    obtain ⟨m, hm⟩ := id h2
    exact ints_of_trod Tryd.underlying22 Tryd.underlying2 (by kernel_rfl) (by simpa [Value.cells] using hm)
  have hE : ErrType W := by
    have h' : laidMet Tryd.prog [] W ∧ handlesMet Tryd.prog [("errors.errorType", Rows.laid_errors_errorType)] W := hL
    exact errType_laid h'.2 List.mem_cons_self
  clear hA0 hval0
  refine (any n W vF vI vO vK vN vC _ _ za zb hN hza hzb hE).mono fun e W' ⟨he, bel⟩ => ?_
  subst he
  exact ⟨_, rfl, _, _, _, [], _, [], hW', trodAll_mk1 (shut_bool Tryd.underlying4 _), (trodAll_cons_mk (Below.trod laidOut (by kernel_rfl) (of_decide_eq_true (by kernel_rfl)) h0 bel lt0) (trodAll_cons_mk (Below.trod laidOut (by kernel_rfl) (of_decide_eq_true (by kernel_rfl)) h1 bel lt1) (trodAll_cons_mk (Below.trod laidOut (by kernel_rfl) (of_decide_eq_true (by kernel_rfl)) h2 bel lt2) trodAll_mk0))), rfl, bel.frame _, fun h => by cases h⟩

theorem row : Rows.NetForgetsSaid :=
  OpenClaim.holds_of_wide 4 Tryd.f4 rfl rfl rfl rfl rfl rfl rfl ⟨rfl, rfl, rfl, rfl, rfl⟩ rfl rfl rfl rfl rfl (by kernel_rfl) Tryd.func4 (by kernel_rfl)
    (of_decide_eq_true (by kernel_rfl)) (by unfold Func.isWrapper; first | (rw [if_pos (by decide +kernel)]; kernel_rfl) | (rw [if_neg (by decide +kernel)]; exact ⟨rfl, rfl⟩))
    (fun os started H enc _ => lifted os started H enc)

theorem proved : Rows.NetForgetsCardSaid :=
  Claim7.holds_tied_plain_at .later [] [.handle] true (true, "d8d10331cff4e4adc9f1e12ec448085730943a77349c5e8a16573f9a2ce9d66a") true
    row (fun _ h => by cases h) (by kernel_rfl) (fun _ h => by cases h) netForgets_row_tie rfl ⟨rfl, rfl⟩ (by kernel_rfl) rfl
    (fun f fn hf hfn => by
      obtain rfl : f = 4 := Option.some.inj ((show Tryd.prog.funcNamed "clepsydra/clepsydrakeep.NetForgets" = some 4 by kernel_rfl).symm.trans hf) |>.symm
      obtain rfl : fn = Tryd.f4 := (Option.some.inj (Tryd.func4.symm.trans hfn)).symm
      exact ⟨by kernel_rfl, fun j t ht => by
        rw [Tryd.params4] at ht
        have hm : t ∈ [26, 22] := by have := Array.mem_of_getElem? ht; simp at this; simp; omega
        have hall : ([26, 22].all fun u => !Tryd.prog.wantsStandIn u) = true := by kernel_rfl
        exact (show Tryd.prog.wantsStandIn t = false by simpa using List.all_eq_true.1 hall t hm)⟩)
    (by kernel_rfl)
#print axioms proved
end netForgets
end Go.Proofs.YtmibilgoblifmaaDoor
