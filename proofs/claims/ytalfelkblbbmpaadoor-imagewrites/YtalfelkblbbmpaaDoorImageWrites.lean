/- ImageWrites: of whatever code, the bytes that the program writes (or what is wrong with the code) are the document's own: the law returns true; the code reads as before.
   No condition besides the card's: Fine and errors' handle start as the program's text lays them; the card ties them to it (to the pruned copy that the seat holds). -/
import Derived.Test.YtalfelkblbbmpaaDoorNLaid2
import Derived.Test.YtalfelkblbbmpaaDoorIj
import Derived.Test.YtalfelkblbbmpaaDoorNo2
import Derived.ChangeOld
import Derived.Test.YtalfelkblbbmpaaDoorTie
import Derived.Test.YtalfelkblbbmpaaDoorCards
import Derived.SevenTiedAt
namespace Go.Proofs.YtalfelkblbbmpaaDoor
open Go Go.ChangeShapes Go.WideShapes Go.ChangeAt Go.RowKit Nx Ix
namespace imageWrites

/-- the law, of whatever it is handed -/
theorem any (n : Nt) (w : World) (vF vI vO vK vN vC : Value) (h : NetV w.heap.size w n vF vI vO vK vN vC) (hcap : ∃ ad cap, vI = .slice ad n.ins.length cap ∧ n.ins.length ≤ cap) (hf : N64 n.first) (hm : N64 n.nums) (hE : ErrType w) (hF : w.cell? ⟨0, 0, none⟩ = some (.int .i64 0) ∧ w.cell? ⟨0, 1, none⟩ = some (.int .i64 (-1))) :
    Calls Tryd.prog 3 #[.agg #[.int .i64 n.places, vF, vI, vO, vK, vN, vC]] w fun e w' => e = .returned (.bool true) ∧ Below w.heap.size w w' := by
  by_cases hn : Held n
  · exact writes_held n w vF vI vO vK vN vC h hcap hn hf hm hE hF
  · exact writes_big n w vF vI vO vK vN vC h hn

theorem door_met (os : Os) (args : Array Value) : laidMetH Tryd.prog Rows.imageWritesRow.laid ((World.doorLaid Tryd.prog 400 os).forCall (fun _ _ => 0) ⟨#[], args, []⟩).memory :=
  laidMetH_of_parts3 (fuel := 8) (laidMet_of_run' 8 (by kernel_rfl) (by kernel_rfl)) (by kernel_rfl) (by kernel_rfl)

set_option maxRecDepth 100000 in
theorem lifted (os : Os) (started : os.Started) (H : Type) (enc : TypeId × Value → H) :
    ReturnsInHanded {} Tryd.checked os 3 .any (fun w args => (Rows.imageWritesSpec.pre enc Tryd.prog Tryd.f3 [] false w args ∧ laidMetH Tryd.prog Rows.imageWritesRow.laid w) ∧ sizedMet enc Tryd.prog Tryd.f3 (OpenSpec.ofChange Rows.imageWritesSpec) false w args)
      (Rows.imageWritesSpec.post enc Tryd.prog Tryd.f3 false true false false) := by
  refine returnsInHanded_of_change_and (C := Tryd.checked) (X := fun w _ => laidMetH Tryd.prog Rows.imageWritesRow.laid w) (fun _ _ _ hh h => h.of_heap hh) ownKn started (by kernel_rfl) Tryd.func3
    (ChangeSpec.witness_shaped (enc := enc) (C := Tryd.checked) (os := os) (X := fun w _ => laidMetH Tryd.prog Rows.imageWritesRow.laid w) false (World.doorLaid Tryd.prog 400 os) #[.agg #[.int .i64 0, .slice none 0 0, .slice none 0 0, .slice none 0 0, .slice none 0 0, .slice none 0 0, .slice none 0 0]] 8 rfl (World.shaped_of_RefB (by kernel_rfl) (by kernel_rfl)) (by kernel_rfl) (by kernel_rfl) (by kernel_rfl) (door_met os _)) ?_
  intro W base args ds gs before hval0 hW _ _ hL _
  have hval : ∀ (j : Nat) t v, Tryd.f3.params[j]? = some t → args[j]? = some v → Value.okWide Tryd.prog W .any base t v := hval0
  have hW' := hW
  obtain ⟨p, q, hA0, hV, rfl, hfz, hnd⟩ := hW
  have hA : DataW.TrodAll enc Tryd.prog W 0 (fun _ => true) true Tryd.f3.params.toList args.toList ds p := hA0
  rw [Tryd.params3] at hA hval
  obtain ⟨v0, d0, rfl, rfl, h0⟩ := trodAll_one hA
  obtain ⟨rfl, rfl⟩ := trodVars_none hV
  have lt0 : ∀ x ∈ p, x.block < W.heap.size := by obtain ⟨m, hm⟩ := id h0; exact DataW.trod_lt m _ _ _ hm
  obtain ⟨n, vF, vI, vO, vK, vN, vC, rfl, hN, hf64, hm64, hcap⟩ := net_of_trodC (hval 0 26 v0 rfl rfl) h0
  have h' : laidMet Tryd.prog [("clepsydra/clepsydraref.Fine", Rows.laid_clepsydra_clepsydraref_Fine)] W ∧ handlesMet Tryd.prog [("errors.errorType", Rows.laid_errors_errorType)] W := hL
  have hE : ErrType W := errType_laid h'.2 List.mem_cons_self
  obtain ⟨ps, hl, _⟩ := h'.1
  have hF := fine_laid hl List.mem_cons_self
  clear hA0 hval0
  refine (any n W vF vI vO vK vN vC hN hcap (fun z hz => hf64 z hz) (fun z hz => hm64 z hz) hE hF).mono fun e W' ⟨he, bel⟩ => ?_
  subst he
  exact ⟨_, rfl, _, _, _, [], _, [], hW', trodAll_mk1 (shut_bool Tryd.underlying4 _), trodAll_mk1 (Below.trod laidOut (by kernel_rfl) (of_decide_eq_true (by kernel_rfl)) h0 bel lt0), rfl, bel.frame _, fun h => by cases h⟩

theorem row : Rows.ImageWritesSaid :=
  OpenClaim.holds_of_wide 3 Tryd.f3 rfl rfl rfl rfl rfl rfl rfl ⟨rfl, rfl, rfl, rfl, rfl⟩ rfl rfl rfl rfl rfl (by kernel_rfl) Tryd.func3 (by kernel_rfl)
    (of_decide_eq_true (by kernel_rfl)) (by unfold Func.isWrapper; first | (rw [if_pos (by decide +kernel)]; kernel_rfl) | (rw [if_neg (by decide +kernel)]; exact ⟨rfl, rfl⟩))
    (fun os started H enc _ => lifted os started H enc)

theorem proved : Rows.ImageWritesCardSaid :=
  Claim7.holds_tied_plain_at .later [] [.handle, .data] true (true, "c78ef5a563d23bd5aeea8d4ba7d8bdca24077a61293e6e69ecf4a1f18b996c55") true
    row (fun _ h => by cases h) (by kernel_rfl) (fun _ h => by cases h) imageWrites_row_tie rfl ⟨rfl, rfl⟩ (by kernel_rfl) rfl
    (fun f fn hf hfn => by
      obtain rfl : f = 3 := Option.some.inj ((show Tryd.prog.funcNamed "clepsydra/clepsydralaw.ImageWrites" = some 3 by kernel_rfl).symm.trans hf) |>.symm
      obtain rfl : fn = Tryd.f3 := (Option.some.inj (Tryd.func3.symm.trans hfn)).symm
      exact ⟨by kernel_rfl, fun j t ht => by
        rw [Tryd.params3] at ht
        have hm : t ∈ [26] := by simpa using Array.mem_of_getElem? ht
        have hall : ([26].all fun u => !Tryd.prog.wantsStandIn u) = true := by kernel_rfl
        exact (show Tryd.prog.wantsStandIn t = false by simpa using List.all_eq_true.1 hall t hm)⟩)
    (by kernel_rfl)
#print axioms proved
end imageWrites
end Go.Proofs.YtalfelkblbbmpaaDoor
