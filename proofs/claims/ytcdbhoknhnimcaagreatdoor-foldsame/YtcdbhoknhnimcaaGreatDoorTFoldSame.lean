/- FoldSame: of whatever text, code and ticks: folded code fN the same, in no more steps, and none of them makes something of numbers alone: the law returns true; what it is handed reads as before.
   No condition besides the card's: the tables and the marks start as the program's text lays them; the card ties them to it (to the pruned copy that the seat holds). -/
import Derived.Test.YtcdbhoknhnimcaaGreatDoorTLaidU
import Derived.Test.YtcdbhoknhnimcaaGreatDoorTNo
import Derived.Test.YtcdbhoknhnimcaaGreatDoorTQr
import Derived.ChangeOld
import Derived.Test.YtcdbhoknhnimcaaGreatDoorTie
import Derived.Test.YtcdbhoknhnimcaaGreatDoorCards
import Derived.SevenTiedAt
import Derived.Carry
set_option maxRecDepth 100000
namespace Go.Proofs.YtcdbhoknhnimcaaGreatDoor
open Go Go.ChangeShapes Go.WideShapes Go.ChangeAt Go.RowKit
open Go.ChangeMaps (open_string shut_string)
namespace foldSame
theorem Rk (os:Os) (args:Array Value):laidMetH Tryz.prog Rows.foldSameRow.laid ((World.doorLaid Tryz.prog 400 os).forCall (fun _ _=>0) ⟨#[],args,[]⟩).memory:=
 laidMetH_of_parts3 (fuel:=8) (laidMet_of_run' 8 (by kernel_rfl) (by kernel_rfl)) (by kernel_rfl) (by kernel_rfl)
theorem Zb (os:Os) (started:os.Started) (H:Type) (enc:TypeId×Value->H) :
    ReturnsInHanded {} Tryz.checked os 3 .any (fun w args=>(Rows.foldSameSpec.pre enc Tryz.prog Tryz.f3 [] false w args/\laidMetH Tryz.prog Rows.foldSameRow.laid w)/\sizedMet enc Tryz.prog Tryz.f3 (OpenSpec.ofChange Rows.foldSameSpec) false w args)
     (Rows.foldSameSpec.post enc Tryz.prog Tryz.f3 false true false false):=by
 refine returnsInHanded_of_change_and (C:=Tryz.checked) (X:=fun w _=>laidMetH Tryz.prog Rows.foldSameRow.laid w) (fun _ _ _ hh h=>h.of_heap hh) aC8 started (by kernel_rfl) Tryz.func3
  (ChangeSpec.witness_shaped (enc:=enc) (C:=Tryz.checked) (os:=os) (X:=fun w _=>laidMetH Tryz.prog Rows.foldSameRow.laid w) false (World.doorLaid Tryz.prog 400 os) #[.string ⟨#[]⟩,.agg #[.int .i64 0,.slice none 0 0,.slice none 0 0,.slice none 0 0,.slice none 0 0,.slice none 0 0,.slice none 0 0],.slice none 0 0] 8 rfl (World.shaped_of_RefB (by kernel_rfl) (by kernel_rfl)) (by kernel_rfl) (by kernel_rfl) (by kernel_rfl) (Rk os _)) ?_
 intro W base args ds gs before hval0 hW _ _ hL _
 have hval:∀(j:Nat) t v,Tryz.f3.params[j]?=some t->args[j]?=some v->Value.okWide Tryz.prog W .any base t v:=hval0
 have hW':=hW
 obtain ⟨p,q,hA0,hV,rfl,hfz,hnd⟩:=hW
 have hA:DataW.TrodAll enc Tryz.prog W 0 (fun _=>true) true Tryz.f3.params.toList args.toList ds p:=hA0
 rw[Tryz.params3] at hA hval
 obtain ⟨v0,v1,v2,d0,d1,d2,p0,p1,p2,rfl,rfl,hp,h0,h1,h2⟩:=trodAll_three hA
 obtain ⟨rfl,rfl⟩:=trodVars_none hV
 obtain ⟨s0,rfl,rfl,rfl,hs0⟩:=open_string Tryz.underlying9 (hval 0 9 v0 rfl rfl) h0
 have lt1:∀x∈p1,x.block<W.heap.size:=by obtain ⟨m,hm⟩:=id h1;exact DataW.trod_lt m _ _ _ hm
 obtain ⟨n1,vF,vI,vO,vK,vN,vC,rfl,hN1,hf1,hm1⟩:=Nx.X2 (hval 1 26 v1 rfl rfl) h1
 obtain ⟨e1,_,_,o1,rfl,_⟩:=id hN1.f
 obtain ⟨e2,_,_,o2,rfl,_⟩:=id hN1.i
 obtain ⟨e3,_,_,o3,rfl,_⟩:=id hN1.o
 obtain ⟨e4,_,_,o4,rfl,_⟩:=id hN1.k
 obtain ⟨e5,_,_,o5,rfl,_⟩:=id hN1.m
 obtain ⟨e6,_,_,o6,rfl,_⟩:=id hN1.c
 have lt2:∀x∈p2,x.block<W.heap.size:=by obtain ⟨m,hm⟩:=id h2;exact DataW.trod_lt m _ _ _ hm
 obtain ⟨a2,l2,c2,rfl⟩:=okWide_slice Tryz.underlying27 (hval 2 27 v2 rfl rfl)
 obtain ⟨m2,hm2⟩:=id h2
 obtain ⟨rows,adr,bR,offR,capR,hvr,hra,hrc⟩:=Nx.D6 (v:=.slice a2 l2 c2) (by kernel_rfl) (by kernel_rfl) hm2
 clear hm2
 rw[hvr] at h2 hval hW' ⊢
 have hv:=Mx hL
 clear hA0 hval0
 refine (Fw.G6 (s:=s0) hv hN1 (fun z hz=>hf1 z hz) (fun z hz=>hm1 z hz) hra hrc).mono fun e W' ⟨he,bel0⟩=>?_
 have bel:=bel0.out
 subst he
 exact ⟨_,rfl,_,_,_,[],_,[],hW',trodAll_mk1 (shut_bool Tryz.underlying4 _),(trodAll_cons_mk (shut_string Tryz.underlying9 hs0) (trodAll_cons_mk (Below.trod Fp (by kernel_rfl) (of_decide_eq_true (by kernel_rfl)) h1 bel lt1) (trodAll_cons_mk (Below.trod Fp (by kernel_rfl) (of_decide_eq_true (by kernel_rfl)) h2 bel lt2) trodAll_mk0))),(by first|rfl|simp[hp]|(rw[hp];simp)),bel.frame _,fun h=>by cases h⟩
theorem facts:joinedFacts Tryz.pinned.checked.prog 3 Tryz.f3 Rows.foldSameSpec Rows.foldSameRow=true:=by kernel_rfl
theorem row:Rows.FoldSameSaid:=
 OpenClaim.holds_of_wide 3 Tryz.f3 rfl rfl rfl rfl rfl rfl rfl ⟨rfl,rfl,rfl,rfl,rfl⟩ rfl rfl rfl rfl rfl (by kernel_rfl) Tryz.func3 facts
  (of_decide_eq_true (by kernel_rfl)) (by unfold Func.isWrapper;first|(rw[if_pos (by decide +kernel)];kernel_rfl)|(rw[if_neg (by decide +kernel)];exact ⟨rfl,rfl⟩))
  (fun os started H enc _=>Zb os started H enc)
theorem proved:Rows.FoldSameCardSaid:=
 Claim7.holds_tied_plain_at .later [] [.data,.data,.data,.sentinel,.sentinel,.data,.data,.data,.data,.data,.data] true (true,"79738e9bcae60566430c5748b8d3b5e12adf19cc824f88f94da9a5cfc90916fc") true
  row (fun _ h=>by cases h) (by kernel_rfl) (fun _ h=>by cases h) foldSame_row_tie rfl ⟨rfl,rfl⟩ (by kernel_rfl) rfl
  (fun f fn hf hfn=>by
   obtain rfl:f=3:=Option.some.inj ((show Tryz.prog.funcNamed "clepsydra/clepsydrakeep.FoldSame"=some 3 by kernel_rfl).symm.trans hf) |>.symm
   obtain rfl:fn=Tryz.f3:=(Option.some.inj (Tryz.func3.symm.trans hfn)).symm
   exact ⟨by kernel_rfl,fun j t ht=>by
    rw[Tryz.params3] at ht
    have hm:t∈[9,26,27]:=by simpa using Array.mem_of_getElem? ht
    have hall:([9,26,27].all fun u=>!Tryz.prog.wantsStandIn u)=true:=by kernel_rfl
    exact (show Tryz.prog.wantsStandIn t=false by simpa using List.all_eq_true.1 hall t hm)⟩)
  (by kernel_rfl)
#print axioms proved
end foldSame
end Go.Proofs.YtcdbhoknhnimcaaGreatDoor
