/- RunPrinted: of whatever text and whatever it is told: a chart that is printed, and read again, tells the same; with other names of states, too: the law returns true; what it is handed reads as before.
   No condition besides the card's: the tables, the marks and the powers of ten start as the program's text lays them; the card ties them to it (to the pruned copy that the seat holds). -/
import Derived.Test.YtpogmfliojcnjaaGreatDoorSLaidU
import Derived.Test.YtpogmfliojcnjaaGreatDoorSVe
import Derived.Test.YtpogmfliojcnjaaGreatDoorSLaidP
import Derived.ChangeOld
import Derived.Test.YtpogmfliojcnjaaGreatDoorTie
import Derived.Test.YtpogmfliojcnjaaGreatDoorCards
import Derived.SevenTiedAt
namespace Go.Proofs.YtpogmfliojcnjaaGreatDoor
open Go Go.ChangeShapes Go.WideShapes Go.ChangeAt Go.RowKit
open Go.ChangeMaps (open_string shut_string)
namespace runPrinted
theorem door_met (os:Os) (args:Array Value):laidMetH Tryz.prog Rows.runPrintedRow.laid ((World.doorLaid Tryz.prog 400 os).forCall (fun _ _=>0) ⟨#[],args,[]⟩).memory:=
 laidMetH_of_parts3 (fuel:=8) (laidMet_of_run' 8 (by kernel_rfl) (by kernel_rfl)) (by kernel_rfl) (by kernel_rfl)
set_option maxRecDepth 100000 in
theorem lifted (os:Os) (started:os.Started) (H:Type) (enc:TypeId×Value->H) :
    ReturnsInHanded {} Tryz.checked os 5 .any (fun w args=>(Rows.runPrintedSpec.pre enc Tryz.prog Tryz.f5 [] false w args/\laidMetH Tryz.prog Rows.runPrintedRow.laid w)/\sizedMet enc Tryz.prog Tryz.f5 (OpenSpec.ofChange Rows.runPrintedSpec) false w args)
     (Rows.runPrintedSpec.post enc Tryz.prog Tryz.f5 false true false false):=by
 refine returnsInHanded_of_change_and (C:=Tryz.checked) (X:=fun w _=>laidMetH Tryz.prog Rows.runPrintedRow.laid w) (fun _ _ _ hh h=>h.of_heap hh) ownKn started (by kernel_rfl) Tryz.func5
  (ChangeSpec.witness_shaped (enc:=enc) (C:=Tryz.checked) (os:=os) (X:=fun w _=>laidMetH Tryz.prog Rows.runPrintedRow.laid w) false (World.doorLaid Tryz.prog 400 os) #[.string ⟨#[]⟩,.slice none 0 0] 8 rfl (World.shaped_of_RefB (by kernel_rfl) (by kernel_rfl)) (by kernel_rfl) (by kernel_rfl) (by kernel_rfl) (door_met os _)) ?_
 intro W base args ds gs before hval0 hW _ _ hL _
 have hval:∀(j:Nat) t v,Tryz.f5.params[j]?=some t->args[j]?=some v->Value.okWide Tryz.prog W .any base t v:=hval0
 have hW':=hW
 obtain ⟨p,q,hA0,hV,rfl,hfz,hnd⟩:=hW
 have hA:DataW.TrodAll enc Tryz.prog W 0 (fun _=>true) true Tryz.f5.params.toList args.toList ds p:=hA0
 rw[Tryz.params5] at hA hval
 obtain ⟨v0,v1,d0,d1,p0,p1,rfl,rfl,hp,h0,h1⟩:=trodAll_two hA
 obtain ⟨rfl,rfl⟩:=trodVars_none hV
 obtain ⟨s0,rfl,rfl,rfl,hs0⟩:=open_string Tryz.underlying9 (hval 0 9 v0 rfl rfl) h0
 have lt1:∀x∈p1,x.block<W.heap.size:=by obtain ⟨m,hm⟩:=id h1;exact DataW.trod_lt m _ _ _ hm
 obtain ⟨a1,l1,c1,rfl⟩:=okWide_slice Tryz.underlying22 (hval 1 22 v1 rfl rfl)
 obtain ⟨m1,hm1⟩:=id h1
 obtain ⟨z1,hz1,hy1⟩:=Kx.rows_of_trod (v:=.slice a1 l1 c1) (by kernel_rfl) (by kernel_rfl) hm1
 have hv:Kx.KEnv0 W/\PEnv W:=⟨run_laid hL,print_laid hL⟩
 clear hA0 hval0
 refine (Kx.runPrinted_any s0 hv  hz1 hy1).mono fun e W' ⟨he,bel0⟩=>?_
 have bel:=bel0.out
 subst he
 exact ⟨_,rfl,_,_,_,[],_,[],hW',trodAll_mk1 (shut_bool Tryz.underlying4 _),(trodAll_cons_mk (shut_string Tryz.underlying9 hs0) (trodAll_cons_mk (Below.trod laidOut (by kernel_rfl) (of_decide_eq_true (by kernel_rfl)) h1 bel lt1) trodAll_mk0)),(by first|rfl|simp[hp]|(rw[hp];simp)),bel.frame _,fun h=>by cases h⟩
theorem facts:joinedFacts Tryz.pinned.checked.prog 5 Tryz.f5 Rows.runPrintedSpec Rows.runPrintedRow=true:=by kernel_rfl
theorem row:Rows.RunPrintedSaid:=
 OpenClaim.holds_of_wide 5 Tryz.f5 rfl rfl rfl rfl rfl rfl rfl ⟨rfl,rfl,rfl,rfl,rfl⟩ rfl rfl rfl rfl rfl (by kernel_rfl) Tryz.func5 facts
  (of_decide_eq_true (by kernel_rfl)) (by unfold Func.isWrapper;first|(rw[if_pos (by decide +kernel)];kernel_rfl)|(rw[if_neg (by decide +kernel)];exact ⟨rfl,rfl⟩))
  (fun os started H enc _=>lifted os started H enc)
theorem proved:Rows.RunPrintedCardSaid:=
 Claim7.holds_tied_plain_at .later [] [.data,.data,.data,.sentinel,.sentinel,.data,.data,.data,.data,.data,.data] true (true,"5942fe57def1d51063b2be3a557a54b600a132ff86a905f7ff624b47b9d9542b") true
  row (fun _ h=>by cases h) (by kernel_rfl) (fun _ h=>by cases h) runPrinted_row_tie rfl ⟨rfl,rfl⟩ (by kernel_rfl) rfl
  (fun f fn hf hfn=>by
   obtain rfl:f=5:=Option.some.inj ((show Tryz.prog.funcNamed "clepsydra/clepsydrakeep.RunPrinted"=some 5 by kernel_rfl).symm.trans hf) |>.symm
   obtain rfl:fn=Tryz.f5:=(Option.some.inj (Tryz.func5.symm.trans hfn)).symm
   exact ⟨by kernel_rfl,fun j t ht=>by
    rw[Tryz.params5] at ht
    have hm:t∈[9,22]:=by simpa using Array.mem_of_getElem? ht
    have hall:([9,22].all fun u=>!Tryz.prog.wantsStandIn u)=true:=by kernel_rfl
    exact (show Tryz.prog.wantsStandIn t=false by simpa using List.all_eq_true.1 hall t hm)⟩)
  (by kernel_rfl)
#print axioms proved
end runPrinted
end Go.Proofs.YtpogmfliojcnjaaGreatDoor
