/- ImageBack: of whatever text, code and bytes: what code is written as is that code again, no beginning of it is one, and what was read is written just so: the law returns true; what it is handed reads as before.
   No condition besides the card's: the tables and the marks start as the program's text lays them; the card ties them to it (to the pruned copy that the seat holds). -/
import Derived.Test.YtcdbhoknhnimcaaGreatDoorSLaidU
import Derived.Test.YtcdbhoknhnimcaaGreatDoorSNo
import Derived.Test.YtcdbhoknhnimcaaGreatDoorSIbk
import Derived.ChangeOld
import Derived.Test.YtcdbhoknhnimcaaGreatDoorTie
import Derived.Test.YtcdbhoknhnimcaaGreatDoorCards
import Derived.SevenTiedAt
import Derived.Carry
set_option maxRecDepth 100000
namespace Go.Proofs.YtcdbhoknhnimcaaGreatDoor
open Go Go.ChangeShapes Go.WideShapes Go.ChangeAt Go.RowKit
open Go.ChangeMaps (open_string shut_string)
namespace imageBack
theorem bL7 (os:Os) (args:Array Value):laidMetH Tryz.prog Rows.imageBackRow.laid ((World.doorLaid Tryz.prog 400 os).forCall (fun _ _=>0) ⟨#[],args,[]⟩).memory:=
 laidMetH_of_parts3 (fuel:=8) (laidMet_of_run' 8 (by kernel_rfl) (by kernel_rfl)) (by kernel_rfl) (by kernel_rfl)
theorem cD7 (os:Os) (started:os.Started) (H:Type) (enc:TypeId×Value->H) :
    ReturnsInHanded {} Tryz.checked os 7 .any (fun w args=>(Rows.imageBackSpec.pre enc Tryz.prog Tryz.f7 [] false w args/\laidMetH Tryz.prog Rows.imageBackRow.laid w)/\sizedMet enc Tryz.prog Tryz.f7 (OpenSpec.ofChange Rows.imageBackSpec) false w args)
     (Rows.imageBackSpec.post enc Tryz.prog Tryz.f7 false true false false):=by
 refine returnsInHanded_of_change_and (C:=Tryz.checked) (X:=fun w _=>laidMetH Tryz.prog Rows.imageBackRow.laid w) (fun _ _ _ hh h=>h.of_heap hh) cJ1 started (by kernel_rfl) Tryz.func7
  (ChangeSpec.witness_shaped (enc:=enc) (C:=Tryz.checked) (os:=os) (X:=fun w _=>laidMetH Tryz.prog Rows.imageBackRow.laid w) false (World.doorLaid Tryz.prog 400 os) #[.string ⟨#[]⟩,.agg #[.int .i64 0,.slice none 0 0,.slice none 0 0,.slice none 0 0,.slice none 0 0,.slice none 0 0,.slice none 0 0],.string ⟨#[]⟩,.int .i64 0] 8 rfl (World.shaped_of_RefB (by kernel_rfl) (by kernel_rfl)) (by kernel_rfl) (by kernel_rfl) (by kernel_rfl) (bL7 os _)) ?_
 intro W base args ds gs before hval0 hW _ _ hL _
 have hval:=hval0
 have hW':=hW
 obtain ⟨p,q,hA0,hV,rfl,hfz,hnd⟩:=hW
 have hA:=hA0
 rw[Tryz.params7] at hA hval
 obtain ⟨v0,v1,v2,v3,d0,d1,d2,d3,p0,p1,p2,p3,rfl,rfl,hp,h0,h1,h2,h3⟩:=trodAll_four hA
 obtain ⟨rfl,rfl⟩:=trodVars_none hV
 obtain ⟨s0,rfl,rfl,rfl,hs0⟩:=open_string Tryz.underlying9 (hval 0 9 v0 rfl rfl) h0
 have lt1:∀x∈p1,x.block<W.heap.size:=by obtain ⟨m,hm⟩:=id h1;exact DataW.trod_lt m _ _ _ hm
 obtain ⟨n1,vF,vI,vO,vK,vN,vC,rfl,hN1,hf1,hm1⟩:=Nx.U9 (hval 1 26 v1 rfl rfl) h1
 obtain ⟨e1,_,_,o1,rfl,_⟩:=id hN1.f
 obtain ⟨e2,_,_,o2,rfl,_⟩:=id hN1.i
 obtain ⟨e3,_,_,o3,rfl,_⟩:=id hN1.o
 obtain ⟨e4,_,_,o4,rfl,_⟩:=id hN1.k
 obtain ⟨e5,_,_,o5,rfl,_⟩:=id hN1.m
 obtain ⟨e6,_,_,o6,rfl,_⟩:=id hN1.c
 obtain ⟨s2,rfl,rfl,rfl,hs2⟩:=open_string Tryz.underlying9 (hval 2 9 v2 rfl rfl) h2
 have lt3:∀x∈p3,x.block<W.heap.size:=by obtain ⟨m,hm⟩:=id h3;exact DataW.trod_lt m _ _ _ hm
 obtain ⟨z3,rfl⟩:=okWide_int Tryz.underlying3 (hval 3 3 v3 rfl rfl)
 have hv:=bC5 hL
 clear hA0 hval0
 refine (Ew.xT (s:=s0) (t:=s2) (cut:=z3) hv hN1 (fun z hz=>hf1 z hz) (fun z hz=>hm1 z hz)).mono fun e W' ⟨he,bel0⟩=>?_
 have bel:=bel0.out
 subst he
 exact ⟨_,rfl,_,_,_,[],_,[],hW',trodAll_mk1 (shut_bool Tryz.underlying4 _),(trodAll_cons_mk (shut_string Tryz.underlying9 hs0) (trodAll_cons_mk (Below.trod aM3 (by kernel_rfl) (of_decide_eq_true (by kernel_rfl)) h1 bel lt1) (trodAll_cons_mk (shut_string Tryz.underlying9 hs2) (trodAll_cons_mk (Below.trod aM3 (by kernel_rfl) (of_decide_eq_true (by kernel_rfl)) h3 bel lt3) trodAll_mk0)))),(by first|rfl|simp[hp]|(rw[hp];simp)),bel.frame _,fun h=>by cases h⟩
theorem facts:joinedFacts Tryz.pinned.checked.prog 7 Tryz.f7 Rows.imageBackSpec Rows.imageBackRow=true:=by kernel_rfl
theorem row:Rows.ImageBackSaid:=
 OpenClaim.holds_of_wide 7 Tryz.f7 rfl rfl rfl rfl rfl rfl rfl ⟨rfl,rfl,rfl,rfl,rfl⟩ rfl rfl rfl rfl rfl (by kernel_rfl) Tryz.func7 facts
  (of_decide_eq_true (by kernel_rfl)) (by unfold Func.isWrapper;first|(rw[if_pos (by decide +kernel)];kernel_rfl)|(rw[if_neg (by decide +kernel)];exact ⟨rfl,rfl⟩))
  (fun os started H enc _=>cD7 os started H enc)
theorem proved:Rows.ImageBackCardSaid:=
 Claim7.holds_tied_plain_at .later [] [.data,.data,.data,.sentinel,.sentinel,.data,.data,.data,.data,.data,.data] true (true,"79738e9bcae60566430c5748b8d3b5e12adf19cc824f88f94da9a5cfc90916fc") true
  row (fun _ h=>by cases h) (by kernel_rfl) (fun _ h=>by cases h) imageBack_row_tie rfl ⟨rfl,rfl⟩ (by kernel_rfl) rfl
  (fun f fn hf hfn=>by
   obtain rfl:f=7:=Option.some.inj ((show Tryz.prog.funcNamed "clepsydra/clepsydrakeep.ImageBack"=some 7 by kernel_rfl).symm.trans hf) |>.symm
   obtain rfl:fn=Tryz.f7:=(Option.some.inj (Tryz.func7.symm.trans hfn)).symm
   exact ⟨by kernel_rfl,fun j t ht=>by
    rw[Tryz.params7] at ht
    have hm:t∈[9,26,9,3]:=by simpa using Array.mem_of_getElem? ht
    have hall:([9,26,9,3].all fun u=>!Tryz.prog.wantsStandIn u)=true:=by kernel_rfl
    exact (show Tryz.prog.wantsStandIn t=false by simpa using List.all_eq_true.1 hall t hm)⟩)
  (by kernel_rfl)
#print axioms proved
end imageBack
end Go.Proofs.YtcdbhoknhnimcaaGreatDoor
