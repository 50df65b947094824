/- ShareSame: of whatever text, code and ticks: shared code fR the same, in no more steps, and nothing is made twice while it is there: the law returns true; what it is handed reads as before.
   No condition besides the card's: the tables and the marks start as the program's text lays them; the card ties them to it (to the pruned copy that the seat holds). -/
import Derived.Test.YthieaobjdpfcoaaGreatDoorVQr
import Derived.Test.YthieaobjdpfcoaaGreatDoorTie
import Derived.Test.YthieaobjdpfcoaaGreatDoorCards
set_option maxRecDepth 100000
namespace Go.Proofs.YthieaobjdpfcoaaGreatDoor
open Go.Proofs.Tryz (prog)
open Go Go.ChangeShapes Go.WideShapes Go.ChangeAt Go.RowKit
open Go.ChangeMaps (open_string shut_string)
namespace shareSame
theorem Ub (os:Os) (args:Array Value):laidMetH prog Rows.shareSameRow.laid ((World.doorLaid prog 400 os).forCall (fun _ _=>0) ⟨#[],args,[]⟩).memory:=
 laidMetH_of_parts3 (fuel:=8) (laidMet_of_run' 8 (by kernel_rfl) (by kernel_rfl)) (by kernel_rfl) (by kernel_rfl)
theorem aD7 (os:Os) (started:os.Started) (H:Type) (enc:TypeId×Value->H) :
    ReturnsInHanded {} Tryz.checked os 3 .any (fun w args=>(Rows.shareSameSpec.pre enc prog Tryz.f3 [] false w args/\laidMetH prog Rows.shareSameRow.laid w)/\sizedMet enc prog Tryz.f3 (OpenSpec.ofChange Rows.shareSameSpec) false w args)
     (Rows.shareSameSpec.post enc prog Tryz.f3 false true false false):=by
 refine returnsInHanded_of_change_and (C:=Tryz.checked) (X:=fun w _=>laidMetH prog Rows.shareSameRow.laid w) (fun _ _ _ hh h=>h.of_heap hh) aJ2 started (by kernel_rfl) Tryz.func3
  (ChangeSpec.witness_shaped (enc:=enc) (C:=Tryz.checked) (os:=os) (X:=fun w _=>laidMetH prog Rows.shareSameRow.laid w) false (World.doorLaid prog 400 os) #[.string ⟨#[]⟩,.agg #[.int .i64 0,.slice none 0 0,.slice none 0 0,.slice none 0 0,.slice none 0 0,.slice none 0 0,.slice none 0 0],.slice none 0 0] 8 rfl (World.shaped_of_RefB (by kernel_rfl) (by kernel_rfl)) (by kernel_rfl) (by kernel_rfl) (by kernel_rfl) (Ub os _)) ?_
 intro W base args ds gs before r hW _ _ hL _
 have l:∀(j:Nat) t v,Tryz.f3.params[j]?=some t->args[j]?=some v->Value.okWide prog W .any base t v:=r
 have y:=hW
 obtain ⟨p,q,D,hV,rfl,ai,ah⟩:=hW
 have hA:DataW.TrodAll enc prog W 0 (fun _=>true) true Tryz.f3.params.toList args.toList ds p:=D
 rw[Tryz.params3] at hA l
 obtain ⟨v0,v1,v2,d0,d1,d2,p0,p1,p2,rfl,rfl,hp,h0,h1,J⟩:=trodAll_three hA
 obtain ⟨rfl,rfl⟩:=trodVars_none hV
 obtain ⟨s0,rfl,rfl,rfl,Z⟩:=open_string Tryz.underlying9 (l 0 9 v0 rfl rfl) h0
 have Y:∀x∈p1,x.block<W.heap.size:=by obtain ⟨m,hm⟩:=id h1;exact DataW.trod_lt m _ _ _ hm
 obtain ⟨n1,vF,vI,vO,vK,vN,vC,rfl,n,ad,ac⟩:=Nx.Ao (l 1 26 v1 rfl rfl) h1
 obtain ⟨e1,_,_,o1,rfl,_⟩:=id n.f
 obtain ⟨e2,_,_,o2,rfl,_⟩:=id n.i
 obtain ⟨e3,_,_,o3,rfl,_⟩:=id n.o
 obtain ⟨e4,_,_,o4,rfl,_⟩:=id n.k
 obtain ⟨e5,_,_,o5,rfl,_⟩:=id n.m
 obtain ⟨e6,_,_,o6,rfl,_⟩:=id n.c
 have ab:∀x∈p2,x.block<W.heap.size:=by obtain ⟨m,hm⟩:=id J;exact DataW.trod_lt m _ _ _ hm
 obtain ⟨a2,l2,c2,rfl⟩:=okWide_slice Tryz.underlying27 (l 2 27 v2 rfl rfl)
 obtain ⟨m2,I⟩:=id J
 obtain ⟨rows,ag,bR,ae,af,aa,Q,O⟩:=Nx.K0 (v:=.slice a2 l2 c2) (by kernel_rfl) (by kernel_rfl) I
 clear I
 rw[aa] at J l y ⊢
 have hv:=Pr hL
 clear D r
 refine (Sx.aC5 (s:=s0) hv n (fun z U=>ad z U) (fun z U=>ac z U) Q O).mono fun e W' ⟨he,bel0⟩=>?_
 have u:=bel0.out
 subst he
 exact ⟨_,rfl,_,_,_,[],_,[],y,trodAll_mk1 (shut_bool Tryz.underlying4 _),(trodAll_cons_mk (shut_string Tryz.underlying9 Z) (trodAll_cons_mk (Below.trod Ig (by kernel_rfl) (of_decide_eq_true (by kernel_rfl)) h1 u Y) (trodAll_cons_mk (Below.trod Ig (by kernel_rfl) (of_decide_eq_true (by kernel_rfl)) J u ab) trodAll_mk0))),(by first|rfl|simp[hp]|(rw[hp];simp)),u.frame _,fun h=>by cases h⟩
theorem facts:joinedFacts Tryz.pinned.checked.prog 3 Tryz.f3 Rows.shareSameSpec Rows.shareSameRow=true:=by kernel_rfl
theorem row:Rows.ShareSameSaid:=
 OpenClaim.holds_of_wide 3 Tryz.f3 rfl rfl rfl rfl rfl rfl rfl ⟨rfl,rfl,rfl,rfl,rfl⟩ rfl rfl rfl rfl rfl (by kernel_rfl) Tryz.func3 facts
  (of_decide_eq_true (by kernel_rfl)) (by unfold Func.isWrapper;first|(rw[if_pos (by decide +kernel)];kernel_rfl)|(rw[if_neg (by decide +kernel)];exact ⟨rfl,rfl⟩))
  (fun os started H enc _=>aD7 os started H enc)
theorem proved:Rows.ShareSameCardSaid:=
 Claim7.holds_tied_plain_at .later [] [.data,.data,.data,.sentinel,.sentinel,.data,.data,.data,.data,.data,.data] true (true,"1278ae1d00f6cbe8a79214acfe04c160c65c68e814ed4a9cc5049f29f2e822fb") true
  row (fun _ h=>by cases h) (by kernel_rfl) (fun _ h=>by cases h) shareSame_row_tie rfl ⟨rfl,rfl⟩ (by kernel_rfl) rfl
  (fun f fn hf hfn=>by
   obtain rfl:f=3:=Option.some.inj ((show prog.funcNamed "clepsydra/clepsydrakeep.ShareSame"=some 3 by kernel_rfl).symm.trans hf) |>.symm
   obtain rfl:fn=Tryz.f3:=(Option.some.inj (Tryz.func3.symm.trans hfn)).symm
   exact ⟨by kernel_rfl,fun j t ht=>by
    rw[Tryz.params3] at ht
    have hm:t∈[9,26,27]:=by simpa using Array.mem_of_getElem? ht
    have hall:([9,26,27].all fun u=>!prog.wantsStandIn u)=true:=by kernel_rfl
    exact (show prog.wantsStandIn t=false by simpa using aX8.1 hall t hm)⟩)
  (by kernel_rfl)
#print axioms proved
end shareSame
end Go.Proofs.YthieaobjdpfcoaaGreatDoor
