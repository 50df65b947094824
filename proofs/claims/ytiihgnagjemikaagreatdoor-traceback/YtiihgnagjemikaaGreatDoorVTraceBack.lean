/- TraceBack: of whatever text, and whatever ticks: ticks that are printed read as they were; what a chart is told tick by tick it tells tick by tick, and ticks that follow change nothing of what was told before: the law returns true; what it is handed reads as before.
   No condition besides the card's: the tables, the marks and strconv's errors start as the program's text lays them; the card ties them to it (to the pruned copy that the seat holds); of internal/bytealg.MaxLen it speaks for every value. -/
import Derived.Test.YtiihgnagjemikaaGreatDoorVVoLaidU
import Derived.ChangeOld
import Derived.ShutString
import Derived.Handed
import Derived.Lay
import Derived.Test.YtiihgnagjemikaaGreatDoorTie
import Derived.Test.YtiihgnagjemikaaGreatDoorCards
import Derived.SevenTiedAt
namespace Go.Proofs.YtiihgnagjemikaaGreatDoor
open Go Go.ChangeShapes Go.WideShapes Go.ChangeAt Go.RowKit Nx
open Go.ChangeMaps (open_string shut_string)
namespace traceBack

theorem back_any (s : ByteArray) {aA aB : Option Addr} {nA cA nB cB : Nat} {A B : List (List Int)} {W : World} (hA : Kx.IRws W (.slice aA nA cA) A) (hB : Kx.IRws W (.slice aB nB cB) B) (hNA : ∀ r ∈ A, ∀ z ∈ r, N64 z) (hNB : ∀ r ∈ B, ∀ z ∈ r, N64 z) (he : Tq.GV W ∧ Kx.KEnv0 W) :
    Calls Tryz.prog 3 #[.string s, .slice aA nA cA, .slice aB nB cB] W fun e w' => e = .returned (.bool true) ∧ Hid (Below W.heap.size W w') := by
  by_cases h : Kx.Few A
  · by_cases h' : Kx.Few B
    · exact Tq.back_few hA hB hNA hNB h h' he.1 he.2
    · exact Tq.back_second hA hB h h'
  · exact Tq.back_first hA h

theorem door_met (os : Os) (args : Array Value) : laidMetH Tryz.prog Rows.traceBackRow.laid ((World.doorLaid Tryz.prog 400 os).forCall (fun _ _ => 0) ⟨#[], args, []⟩).memory :=
  laidMetH_of_parts3 (fuel := 8) (laidMet_of_run' 8 (by kernel_rfl) (by kernel_rfl)) (by kernel_rfl) (by kernel_rfl)

set_option maxRecDepth 100000 in
theorem lifted (os : Os) (started : os.Started) (H : Type) (enc : TypeId × Value → H) :
    ReturnsInHanded {} Tryz.checked os 3 .any (fun w args => (Rows.traceBackSpec.pre enc Tryz.prog Tryz.f3 [] false w args ∧ laidMetH Tryz.prog Rows.traceBackRow.laid w) ∧ sizedMet enc Tryz.prog Tryz.f3 (OpenSpec.ofChange Rows.traceBackSpec) false w args)
      (Rows.traceBackSpec.post enc Tryz.prog Tryz.f3 false true false false) := by
  refine returnsInHanded_of_calls (C := Tryz.checked) ownKn started (by kernel_rfl)
    (ChangeSpec.witness_shaped (enc := enc) (C := Tryz.checked) (os := os) (X := fun w _ => laidMetH Tryz.prog Rows.traceBackRow.laid w) false (World.doorLaid Tryz.prog 400 os) #[.string ⟨#[]⟩, .slice none 0 0, .slice none 0 0] 8 rfl (World.shaped_of_RefB (by kernel_rfl) (by kernel_rfl)) (by kernel_rfl) (by kernel_rfl) (by kernel_rfl) (door_met os _)) ?_
  intro w tape i _ hopen _ hin hmet _
  obtain ⟨_, _, _, fn, hfn, _, _, _, _, hvals⟩ := hin
  obtain rfl : fn = Tryz.f3 := Option.some.inj (hfn.symm.trans Tryz.func3)
  obtain ⟨⟨⟨ds, gs, before, hwhole, _⟩, hlaid⟩, _⟩ := hmet
  obtain ⟨W, hWd⟩ : ∃ W, W = w.forCall tape i := ⟨_, rfl⟩
  have hheap : (w.forCall tape i).memory.heap = W.heap := by rw [hWd]; rfl
  have hW := DataW.Whole.of_heap hheap hwhole
  have hL := hlaid.of_heap hheap
  have hval0 : ∀ (j : Nat) t v, Tryz.f3.params[j]? = some t → i.args[j]? = some v → Value.okWide Tryz.prog W .any w.heap.size t v := by rw [hWd]; exact hvals
  rw [← hWd] at hopen ⊢
  obtain ⟨args, ha⟩ : ∃ args, args = i.args := ⟨_, rfl⟩
  rw [← ha] at hval0 hW ⊢
  refine Calls.mono (R := fun e W' => ∃ v, e = .returned v ∧ Rows.traceBackSpec.post enc Tryz.prog Tryz.f3 false true false false W args v W') ?_ (fun e W' ⟨v, he, hp⟩ => by subst he; exact ChangeSpec.post_blind hp)
  have hval : ∀ (j : Nat) t v, Tryz.f3.params[j]? = some t → args[j]? = some v → Value.okWide Tryz.prog W .any w.heap.size t v := hval0
  have hW' := hW
  obtain ⟨p, q, hA0, hV, rfl, hfz, hnd⟩ := hW
  have hA : DataW.TrodAll enc Tryz.prog W 0 (fun _ => true) true Tryz.f3.params.toList args.toList ds p := hA0
  rw [Tryz.params3] at hA hval
  obtain ⟨v0, v1, v2, d0, d1, d2, p0, p1, p2, hargs, rfl, hp, h0, h1, h2⟩ := trodAll_three hA
  subst hargs
  obtain ⟨rfl, rfl⟩ := trodVars_none hV
  have lt1 : ∀ x ∈ p1, x.block < W.heap.size := by obtain ⟨m, hm⟩ := id h1; exact DataW.trod_lt m _ _ _ hm
  have lt2 : ∀ x ∈ p2, x.block < W.heap.size := by obtain ⟨m, hm⟩ := id h2; exact DataW.trod_lt m _ _ _ hm
  obtain ⟨s, rfl, rfl, rfl, hs⟩ := open_string Tryz.underlying9 (hval 0 9 v0 rfl rfl) h0
  obtain ⟨a1, l1, c1, rfl⟩ := okWide_slice Tryz.underlying22 (hval 1 22 v1 rfl rfl)
  obtain ⟨a2, l2, c2, rfl⟩ := okWide_slice Tryz.underlying22 (hval 2 22 v2 rfl rfl)
  obtain ⟨m1, hm1⟩ := id h1
  obtain ⟨m2, hm2⟩ := id h2
  obtain ⟨z1, hz1, hy1⟩ := Kx.rows_of_trod (v := .slice a1 l1 c1) (by kernel_rfl) (by kernel_rfl) hm1
  obtain ⟨z2, hz2, hy2⟩ := Kx.rows_of_trod (v := .slice a2 l2 c2) (by kernel_rfl) (by kernel_rfl) hm2
  clear hm1 hm2
  have hE := Tq.back_laid hL hopen
  clear hA0 hval0
  refine (back_any s hz1 hz2 hy1 hy2 hE).mono fun e W' ⟨he, hb⟩ => ?_
  have bel := hb.out
  subst he
  exact ⟨_, rfl, _, _, _, [], _, [], hW', trodAll_mk1 (shut_bool Tryz.underlying4 _), (trodAll_cons_mk (shut_string Tryz.underlying9 hs) (trodAll_cons_mk (Below.trod laidOut (by kernel_rfl) (of_decide_eq_true (by kernel_rfl)) h1 bel lt1) (trodAll_cons_mk (Below.trod laidOut (by kernel_rfl) (of_decide_eq_true (by kernel_rfl)) h2 bel lt2) trodAll_mk0))), (by first | rfl | simp [hp] | (rw [hp]; simp)), bel.frame _, fun h => by cases h⟩

theorem row : Rows.TraceBackSaid :=
  OpenClaim.holds_of_wide 3 Tryz.f3 rfl rfl rfl rfl rfl rfl rfl ⟨rfl, rfl, rfl, rfl, rfl⟩ rfl rfl rfl rfl rfl (by kernel_rfl) Tryz.func3 (by kernel_rfl)
    (of_decide_eq_true (by kernel_rfl)) (by unfold Func.isWrapper; first | (rw [if_pos (by decide +kernel)]; kernel_rfl) | (rw [if_neg (by decide +kernel)]; exact ⟨rfl, rfl⟩))
    (fun os started H enc _ => lifted os started H enc)

theorem proved : Rows.TraceBackCardSaid :=
  Claim7.holds_tied_plain_at .later [] [.data, .data, .data, .sentinel, .sentinel, .data, .data, .data, .data, .data, .data] true (true, "66df0b273203e3f8ab94dedd23400e7a5a2a44b7c900600eb85b55f16dfead07") true
    row (fun _ h => by cases h) (by kernel_rfl) (fun _ h => by cases h) traceBack_row_tie rfl ⟨rfl, rfl⟩ (by kernel_rfl) rfl
    (fun f fn hf hfn => by
      obtain rfl : f = 3 := Option.some.inj ((show Tryz.prog.funcNamed "clepsydra/clepsydrakeep.TraceBack" = some 3 by kernel_rfl).symm.trans hf) |>.symm
      obtain rfl : fn = Tryz.f3 := (Option.some.inj (Tryz.func3.symm.trans hfn)).symm
      exact ⟨by kernel_rfl, fun j t ht => by
        rw [Tryz.params3] at ht
        have hm : t ∈ [9, 22, 22] := by simpa using Array.mem_of_getElem? ht
        have hall : ([9, 22, 22].all fun u => !Tryz.prog.wantsStandIn u) = true := by kernel_rfl
        exact (show Tryz.prog.wantsStandIn t = false by simpa using List.all_eq_true.1 hall t hm)⟩)
    (by kernel_rfl)
#print axioms proved
end traceBack
end Go.Proofs.YtiihgnagjemikaaGreatDoor
