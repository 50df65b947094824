/- TraceReads: of whatever text, the ticks that the program's Read tells, or which line is none, and how numbers are printed, is the document's own answer: the law returns true; what it is handed reads as before.
   No condition besides the card's: the listed variables (the table of powers of ten, strconv's errors, Fine, errors' handle) start as the program's text lays them; the card ties them to it (to the pruned copy that the seat holds); of internal/bytealg.MaxLen it speaks for every value. -/
import Derived.Test.YtlaimlfacheolaaGreatDoorTrV
import Derived.ChangeOld
import Derived.ShutString
import Derived.Handed
import Derived.Lay
import Derived.Test.YtlaimlfacheolaaGreatDoorTie
import Derived.Test.YtlaimlfacheolaaGreatDoorCards
import Derived.SevenTiedAt
namespace Go.Proofs.YtlaimlfacheolaaGreatDoor
open Go Go.ChangeShapes Go.WideShapes Go.ChangeAt Go.RowKit Nx
open Go.ChangeMaps (open_string shut_string)
namespace traceReads

theorem reads_any (s : ByteArray) (v : Value) (rows : List (List Int)) (W : World) (hr : Tq.RowsI W v rows) (he : Tq.TEnv W) (hN : ∀ k j, Tq.I64 ((rows.getD k []).getD j 0)) :
    Calls Tryz.prog 3 #[.string s, v] W fun e w' => e = .returned (.bool true) ∧ Hid (Below W.heap.size W w') := by
  by_cases hs : 1500 < s.size
  · exact Tq.law_big hs v W
  · obtain ⟨ad, b, off, cap, rfl, h1, h2⟩ := id hr
    by_cases h40 : rows.length ≤ 40
    · have hfew := Tq.few_any ad rows.length cap b off W (fun k => (rows.getD k []).length) h40 h1 (fun k hk => by
        obtain ⟨u, hu, a, _, _, c, rfl, _⟩ := h2 k hk
        exact ⟨a, c, hu⟩)
      by_cases hL : ∀ k, k < rows.length → (rows.getD k []).length ≤ 30
      · have hsz : s.data.toList.length ≤ 1500 := by rw [← Tq.st_size, Tq.st_data]; omega
        have := Tq.law_few hsz hr he hN h40 hL (hfew.mono fun e w2 ⟨ho, hw⟩ => ⟨by
          rcases ho with ⟨he', _⟩ | ⟨_, hno⟩
          · exact he'
          · exact absurd hL hno, hw⟩)
        rw [Tq.st_data] at this
        exact this
      · exact Tq.law_many (by omega) (hfew.mono fun e w2 ⟨ho, hw⟩ => ⟨by
          rcases ho with ⟨_, hy⟩ | ⟨he', _⟩
          · exact absurd hy hL
          · exact he', hw⟩)
    · exact Tq.law_many (by omega) (Tq.few_big ad rows.length cap W (by omega))

/-- the listed variables besides the handle -/
abbrev plainL : List (String × DataW Unit) := Rows.traceReadsRow.laid.filter fun x => x.2.handleName?.isNone
/-- the start: the world in which the great table is laid, too -/
theorem door_met (os : Os) (args : Array Value) : laidMetH Tryz.prog Rows.traceReadsRow.laid (((World.doorLaid Tryz.prog 400 os).layVars Tryz.prog (plainL.filter fun x => ["unicode/utf8.first"].contains x.1)).forCall (fun _ _ => 0) ⟨#[], args, []⟩).memory :=
  laidMetH_of_parts3 (fuel := 8) (laidMet_layVars (w0 := World.doorLaid Tryz.prog 400 os) ["unicode/utf8.first"] ((List.range 17).filter fun b => b != 8) (by simp [World.memory, World.forCall, Input.heap]) (by kernel_rfl) (by kernel_rfl)
    (LaidIn.of_run _ 8 (by kernel_rfl) (by kernel_rfl) (by kernel_rfl) (by kernel_rfl))) (by kernel_rfl) (by kernel_rfl)

set_option maxRecDepth 100000 in
theorem lifted (os : Os) (started : os.Started) (H : Type) (enc : TypeId × Value → H) :
    ReturnsInHanded {} Tryz.checked os 3 .any (fun w args => (Rows.traceReadsSpec.pre enc Tryz.prog Tryz.f3 [] false w args ∧ laidMetH Tryz.prog Rows.traceReadsRow.laid w) ∧ sizedMet enc Tryz.prog Tryz.f3 (OpenSpec.ofChange Rows.traceReadsSpec) false w args)
      (Rows.traceReadsSpec.post enc Tryz.prog Tryz.f3 false true false false) := by
  refine returnsInHanded_of_calls (C := Tryz.checked) ownKn started (by kernel_rfl)
    (ChangeSpec.witness_shaped (enc := enc) (C := Tryz.checked) (os := os) (X := fun w _ => laidMetH Tryz.prog Rows.traceReadsRow.laid w) false ((World.doorLaid Tryz.prog 400 os).layVars Tryz.prog (plainL.filter fun x => ["unicode/utf8.first"].contains x.1)) #[.string ⟨#[]⟩, .slice none 0 0] 8 (World.layVars_os _ _ _) (World.shaped_of_ZipB (by kernel_rfl) (by kernel_rfl)) (by kernel_rfl) (by kernel_rfl) (by kernel_rfl) (door_met os _)) ?_
  intro w tape i _ hopen _ hin hmet _
  obtain ⟨_, _, _, fn, hfn, _, _, _, _, hvals⟩ := hin
  obtain rfl : fn = Tryz.f3 := Option.some.inj (hfn.symm.trans Tryz.func3)
  obtain ⟨⟨⟨ds, gs, before, hwhole, _⟩, hlaid⟩, _⟩ := hmet
  obtain ⟨W, hWd⟩ : ∃ W, W = w.forCall tape i := ⟨_, rfl⟩
  have hheap : (w.forCall tape i).memory.heap = W.heap := by rw [hWd]; rfl
  have hW := DataW.Whole.of_heap hheap hwhole
  have hL := hlaid.of_heap hheap
  have hval0 : ∀ (j : Nat) t v, Tryz.f3.params[j]? = some t → i.args[j]? = some v → Value.okWide Tryz.prog W .any w.heap.size t v := by rw [hWd]; exact hvals
  rw [← hWd] at hopen ⊢
  obtain ⟨args, ha⟩ : ∃ args, args = i.args := ⟨_, rfl⟩
  rw [← ha] at hval0 hW ⊢
  refine Calls.mono (R := fun e W' => ∃ v, e = .returned v ∧ Rows.traceReadsSpec.post enc Tryz.prog Tryz.f3 false true false false W args v W') ?_ (fun e W' ⟨v, he, hp⟩ => by subst he; exact ChangeSpec.post_blind hp)
  have hval : ∀ (j : Nat) t v, Tryz.f3.params[j]? = some t → args[j]? = some v → Value.okWide Tryz.prog W .any w.heap.size t v := hval0
  have hW' := hW
  obtain ⟨p, q, hA0, hV, rfl, hfz, hnd⟩ := hW
  have hA : DataW.TrodAll enc Tryz.prog W 0 (fun _ => true) true Tryz.f3.params.toList args.toList ds p := hA0
  rw [Tryz.params3] at hA hval
  obtain ⟨v0, v1, d0, d1, p0, p1, hargs, rfl, hp, h0, h1⟩ := trodAll_two hA
  subst hargs
  obtain ⟨rfl, rfl⟩ := trodVars_none hV
  have lt1 : ∀ x ∈ p1, x.block < W.heap.size := by obtain ⟨m, hm⟩ := id h1; exact DataW.trod_lt m _ _ _ hm
  obtain ⟨s, rfl, rfl, rfl, hs⟩ := open_string Tryz.underlying9 (hval 0 9 v0 rfl rfl) h0
  obtain ⟨a1, l1, c1, rfl⟩ := okWide_slice Tryz.underlying22 (hval 1 22 v1 rfl rfl)
  obtain ⟨m1, hm1⟩ := id h1
  obtain ⟨rows, adr, bR, offR, capR, hvr, hra, hrc, hF3⟩ := Tq.irows_of_trod (v := .slice a1 l1 c1) (by kernel_rfl) (by kernel_rfl) hm1
  clear hm1
  rw [hvr] at h1 hval hW' ⊢
  have hE := Tq.trace_laid hL hopen
  clear hA0 hval0
  refine (reads_any s _ rows W ⟨adr, bR, offR, capR, rfl, fun h => (hra h).1, hrc⟩ hE hF3).mono fun e W' ⟨he, hb⟩ => ?_
  have bel := hb.out
  subst he
  exact ⟨_, rfl, _, _, _, [], _, [], hW', trodAll_mk1 (shut_bool Tryz.underlying4 _), (trodAll_cons_mk (shut_string Tryz.underlying9 hs) (trodAll_cons_mk (Below.trod laidOut (by kernel_rfl) (of_decide_eq_true (by kernel_rfl)) h1 bel lt1) trodAll_mk0)), (by first | rfl | simp [hp] | (rw [hp]; simp)), bel.frame _, fun h => by cases h⟩

theorem row : Rows.TraceReadsSaid :=
  OpenClaim.holds_of_wide 3 Tryz.f3 rfl rfl rfl rfl rfl rfl rfl ⟨rfl, rfl, rfl, rfl, rfl⟩ rfl rfl rfl rfl rfl (by kernel_rfl) Tryz.func3 (by kernel_rfl)
    (of_decide_eq_true (by kernel_rfl)) (by unfold Func.isWrapper; first | (rw [if_pos (by decide +kernel)]; kernel_rfl) | (rw [if_neg (by decide +kernel)]; exact ⟨rfl, rfl⟩))
    (fun os started H enc _ => lifted os started H enc)

theorem proved : Rows.TraceReadsCardSaid :=
  Claim7.holds_tied_plain_at .later [] [.data, .data, .data, .data, .handle, .sentinel, .sentinel, .data, .pinned] true (true, "4de82f7a65cb1d21c82d27d4f000ddd59020e339eb4eb24b8cd66e2e804078f3") true
    row (fun _ h => by cases h) (by kernel_rfl) (fun _ h => by cases h) traceReads_row_tie rfl ⟨rfl, rfl⟩ (by kernel_rfl) rfl
    (fun f fn hf hfn => by
      obtain rfl : f = 3 := Option.some.inj ((show Tryz.prog.funcNamed "clepsydra/clepsydralaw.TraceReads" = some 3 by kernel_rfl).symm.trans hf) |>.symm
      obtain rfl : fn = Tryz.f3 := (Option.some.inj (Tryz.func3.symm.trans hfn)).symm
      exact ⟨by kernel_rfl, fun j t ht => by
        rw [Tryz.params3] at ht
        have hm : t ∈ [9, 22] := by simpa using Array.mem_of_getElem? ht
        have hall : ([9, 22].all fun u => !Tryz.prog.wantsStandIn u) = true := by kernel_rfl
        exact (show Tryz.prog.wantsStandIn t = false by simpa using List.all_eq_true.1 hall t hm)⟩)
    (by kernel_rfl)
#print axioms proved
end traceReads
end Go.Proofs.YtlaimlfacheolaaGreatDoor
