import Derived.Test.YtpogmfliojcnjaaGreatDoorSWrA
namespace Go.Proofs.YtpogmfliojcnjaaGreatDoor
section
open Go.RowKit Go.Lib Go.Sort Px
theorem IsWays.look {A:Nat->Prop}{w:World}{l:List Wy}{v:Value}(h:IsWays A w l v) :
    (l=[]/\∃ao cap,v=.slice ao 0 cap)\/∃g cap,v=.slice (some ⟨g,0,none⟩) l.length cap/\0<l.length/\l.length≤maxLen/\g<w.heap.size/\A g/\∀(i:Nat) (a:Wy),l[i]?=some a->∃p q n c,WayAt w g i a (.pointer p) (.slice q n c)/\IsE A w a.cond (.pointer p)/\IsSets A w a.sets (.slice q n c):=by
 obtain ⟨xs,hr,hs⟩:=h
 rcases Row.recs (k:=7) (fun a c ⟨p,q,hc,_⟩=>by rw[hc];rfl) hr hs with h|⟨g,cap,h1,h2,h3,h4,h5,h6⟩
 ·exact .inl h
 ·refine .inr ⟨g,cap,h1,h2,h3,h4,h5,fun i a hi=>?_⟩
  obtain ⟨c,⟨p,q,rfl,hp,hq⟩,hx⟩:=h6 i a hi
  obtain ⟨u,rfl⟩:=hp.pt
  obtain ⟨qa,qn,qc,rfl⟩:=hq.sl
  exact ⟨u,qa,qn,qc,⟨fun j u hj=>absurd hj (by simp),hx 0 _ rfl,hx 1 _ rfl,hx 2 _ rfl,hx 3 _ rfl,hx 4 _ rfl,hx 5 _ rfl,hx 6 _ rfl⟩,hp,hq⟩
def Px.wlT (d:Nat) (y:Wy):Str:=padT d++wayT y++[10]
theorem flatMap_take_le {α:Type}(f:α->Str) (l:List α) (k:Nat):((l.take k).flatMap f).length≤(l.flatMap f).length:=by
 have h:=congrArg (fun x=>(List.flatMap f x).length) (List.take_append_drop k l)
 simp only[List.flatMap_append,List.length_append] at h
 omega
theorem IsRegs.sl {ρ:Type}{A:Nat->Prop}{w:World}{I:List ρ->Value->Prop}{l:List (List ρ)}{v:Value}(h:IsRegs A w I l v):∃a c,v=.slice a l.length c:=by
 obtain ⟨xs,hr,_⟩:=h
 obtain ⟨ao,cap,rfl,_⟩:=hr.read
 exact ⟨_,_,rfl⟩
set_option maxRecDepth 100000 in
set_option maxHeartbeats 4000000 in
theorem parts_nil {k wb d cap:Nat}{w:World}{v e3 e4 e5 e8:Value}{u ao:Option Addr}{t:Str}(hR:RegsW k) (s:StF (St k)) (hG:OkStF (OkSt k) s) (hd:d+2*k≤800) (hW:WAt wb w v t d) (hE:WEnv wb w) (h3:IsSets (· < wb) w s.enter e3) (h4:IsSets (· < wb) w s.during e4) (h5:IsSets (· < wb) w s.leave e5) (h6:IsE (· < wb) w s.rests (.pointer u))
    (hways:s.ways=[]) (h8:IsRegs (· < wb) w (IsStates (· < wb) w k) s.regions e8) (hlim:t.length+(inT (regT (stateT k)) s d).length≤140737488355328) :
    Calls Tryz.prog 149 #[.pointer (some ⟨wb,0,none⟩),.agg #[.string ⟨s.name.toArray⟩,.bool s.first,.bool s.last,e3,e4,e5,.pointer u,.slice ao 0 cap,e8]] w fun e' w'=>e'=.returned (.tuple #[])/\Wrote wb w v (t++inT (regT (stateT k)) s d) d w':=by
 obtain ⟨⟨q1,q2,q3,q4,q5⟩,-,q6⟩:=hG
 have HG:Hid (GoodSets s.enter/\GoodSets s.during/\GoodSets s.leave/\GoodE s.rests/\(∀y∈s.ways,GoodWay y)/\∀r∈s.regions,∀x∈r,OkSt k x):=⟨q1,q2,q3,q4,q5,q6⟩
 clear q1 q2 q3 q4 q5 q6
 obtain ⟨M1,hM1⟩:∃M:Str,Hid (M=momT d [101,110,116,114,121,32] s.enter):=⟨_,rfl⟩
 obtain ⟨M2,hM2⟩:∃M:Str,Hid (M=momT d [100,117,114,105,110,103,32] s.during):=⟨_,rfl⟩
 obtain ⟨M3,hM3⟩:∃M:Str,Hid (M=momT d [101,120,105,116,32] s.leave):=⟨_,rfl⟩
 obtain ⟨RT,hRT⟩:∃M:Str,Hid (M=restT d s.rests):=⟨_,rfl⟩
 obtain ⟨WT,hWT⟩:∃M:Str,Hid (M=s.ways.flatMap (wlT d)):=⟨_,rfl⟩
 obtain ⟨GT,hGT⟩:∃M:Str,Hid (M=regT (stateT k) s.regions d):=⟨_,rfl⟩
 have HT:Hid (inT (regT (stateT k)) s d=M1++M2++M3++RT++WT++GT):=by rw[Hid,inT,hM1.out,hM2.out,hM3.out,hRT.out,hWT.out,hGT.out];rfl
 rw[HT.out] at hlim ⊢
 have HL:Hid (t.length+M1.length+M2.length+M3.length+RT.length+WT.length+GT.length≤140737488355328):=by rw[Hid];simp at hlim;omega
 clear hlim
 obtain ⟨b3,n3,m3,rfl⟩:=h3.sl
 obtain ⟨b4,n4,m4,rfl⟩:=h4.sl
 obtain ⟨b5,n5,m5,rfl⟩:=h5.sl
 obtain ⟨b8,m8,rfl⟩:=h8.sl
 obtain ⟨n8,hn8⟩:∃n,Hid (n=s.regions.length):=⟨_,rfl⟩
 rw[<-hn8.out] at h8 ⊢
 obtain ⟨fs,hfs⟩:∃x,Hid (x=s.first):=⟨_,rfl⟩
 obtain ⟨ls,hls⟩:∃x,Hid (x=s.last):=⟨_,rfl⟩
 rw[show s.first=fs from hfs.out.symm,show s.last=ls from hls.out.symm]
 obtain ⟨S0,hb,nb,nv⟩:=hW.local #[.string ⟨s.name.toArray⟩,.bool fs,.bool ls,.slice b3 n3 m3,.slice b4 n4 m4,.slice b5 n5 m5,.pointer u,.slice ao 0 cap,.slice b8 n8 m8] 69
 have hleave:∀wk vk t',WSt wb (w.alloc (.cells #[.string ⟨s.name.toArray⟩,.bool fs,.bool ls,.slice b3 n3 m3,.slice b4 n4 m4,.slice b5 n5 m5,.pointer u,.slice ao 0 cap,.slice b8 n8 m8] 69)) v wk vk t' d->Wrote wb w v t' d wk:=fun wk vk t' h=>h.leave hW
 have hE0:=((WSt.start hW).alloc (.cells #[.string ⟨s.name.toArray⟩,.bool fs,.bool ls,.slice b3 n3 m3,.slice b4 n4 m4,.slice b5 n5 m5,.pointer u,.slice ao 0 cap,.slice b8 n8 m8] 69)).env hE
 have kp:Keep (· < wb) (· < wb) w (w.alloc (.cells #[.string ⟨s.name.toArray⟩,.bool fs,.bool ls,.slice b3 n3 m3,.slice b4 n4 m4,.slice b5 n5 m5,.pointer u,.slice ao 0 cap,.slice b8 n8 m8] 69)):=fun b hb' hl=>⟨hb',heap_alloc_old _ _ hl⟩
 have hx3:Hid _:=IsSets.carry kp h3
 have hx4:Hid _:=IsSets.carry kp h4
 have hx5:Hid _:=IsSets.carry kp h5
 have hx6:=h6.carry kp
 have hx8:Hid _:=h8.carry kp (IsStates.carry kp k)
 clear kp h3 h4 h5 h6 h8
 have HRg:Hid (RegsW k):=hR
 clear hR
 have hd1:d≤1000:=by omega
 have T1:Hid True:=trivial
 have T2:Hid True:=trivial
 go_enter Tryz.func149,Tryz.ntmps149
 go_upto_region 1 with fail
 generalize w.alloc (.cells #[.string ⟨s.name.toArray⟩,.bool fs,.bool ls,.slice b3 n3 m3,.slice b4 n4 m4,.slice b5 n5 m5,.pointer u,.slice ao 0 cap,.slice b8 n8 m8] 69)=W at S0 hb hleave hE0 hx3 hx4 hx5 hx6 hx8 ⊢
 obtain ⟨y3,-⟩:=cel hb 3 _ rfl
 go_upto_if 20 with (first
  | (go_at_call 178;clear T1;refine (moment_any [101,110,116,114,121,32] HG.out.1 S0.at_ hE0 hd1 hx3.out (by rw[<-hM1.out];have:=HL.out;omega)).mono ?_;rintro _ w1 ⟨rfl,hw1⟩;rw[<-hM1.out] at hw1;obtain ⟨v1,S1⟩:=S0.step hw1;obtain ⟨y4,-⟩:=cel (S1.blk hb nb nv) 4 _ rfl)
  | (go_at_call 178;clear T2;refine (moment_any [100,117,114,105,110,103,32] HG.out.2.1 S1.at_ (S1.env hE0) hd1 (IsSets.carry S1.keep hx4.out) (by rw[<-hM2.out];have:=HL.out;simp;omega)).mono ?_;rintro _ w2 ⟨rfl,hw2⟩;rw[<-hM2.out] at hw2;obtain ⟨v2,S2⟩:=S1.step hw2;obtain ⟨y5,-⟩:=cel (S2.blk hb nb nv) 5 _ rfl)
  | (go_at_call 178;refine (moment_any [101,120,105,116,32] HG.out.2.2.1 S2.at_ (S2.env hE0) hd1 (IsSets.carry S2.keep hx5.out) (by rw[<-hM3.out];have:=HL.out;simp;omega)).mono ?_;rintro _ w3 ⟨rfl,hw3⟩;rw[<-hM3.out] at hw3;obtain ⟨v3,S3⟩:=S2.step hw3;obtain ⟨y6,-⟩:=cel (S3.blk hb nb nv) 6 _ rfl))
 go_cut [] (fun wx=>Hid (∃vx,WSt wb W v wx vx (t++M1++M2++M3++RT) d))
 case first=>
  by_cases hcn:Hid (s.rests=.nil)
  ·have H:Hid (RT=[]):=by rw[Hid,hRT.out,hcn.out];rfl
   obtain rfl:u=none:=by rw[hcn.out] at hx6;injection hx6
   go_wp2_with fail
   go_meet
   exact ⟨v3,by rw[H.out,List.append_nil];exact S3⟩
  ·obtain ⟨X,hX⟩:∃X,Hid (X=exprT s.rests 0):=⟨_,rfl⟩
   obtain ⟨a,rfl⟩:∃a,u=some a:=by
    cases he:s.rests with
    | nil=>exact absurd he hcn
    | node _ _ _ _ _=>rw[he] at hx6;obtain ⟨g',_,_,e,_⟩:=hx6;injection e with e;exact ⟨_,e⟩
   obtain ⟨P,hP⟩:∃P,Hid (P=padT d):=⟨_,rfl⟩
   have H:Hid (RT=P++[115,117,115,112,101,110,100,32]++X++[59,10]):=by
    rw[Hid,hRT.out,hX.out,hP.out]
    cases he:s.rests with
    | nil=>exact absurd he hcn
    | node _ _ _ _ _=>rfl
   have HLc:Hid (RT.length=P.length+8+X.length+2):=by rw[Hid,H.out];simp;omega
   have T3:Hid True:=trivial
   go_wp2_with (first
    | (go_at_call 103;refine (begin_any S3.at_ hd1 (by rw[<-hP.out];have:=HL.out;have:=HLc.out;simp;omega)).mono ?_;rintro _ w4 ⟨rfl,hw4⟩;rw[<-hP.out] at hw4;obtain ⟨v4,S4⟩:=S3.step hw4)
    | (go_at_call 56;clear T3;refine (say1 S4.at_ [115,117,115,112,101,110,100,32] (by have:=HL.out;have:=HLc.out;simp;omega)).mono ?_;rintro _ w5 ⟨rfl,hw5⟩;obtain ⟨v5,S5⟩:=S4.step hw5;obtain ⟨y7,-⟩:=cel (S5.blk hb nb nv) 6 _ rfl)
    | (go_at_call 179;refine (expr_top HG.out.2.2.2.1 S5.at_ (hx6.carry S5.keep) (S5.env hE0) (by rw[<-hX.out];have:=HL.out;have:=HLc.out;simp;omega)).mono ?_;rintro _ w6 ⟨rfl,hw6⟩;rw[<-hX.out] at hw6;obtain ⟨v6,S6⟩:=S5.step hw6)
    | (go_at_call 56;refine (say1 S6.at_ [59,10] (by have:=HL.out;have:=HLc.out;simp;omega)).mono ?_;rintro _ w7 ⟨rfl,hw7⟩;obtain ⟨v7,S7⟩:=S6.step hw7))
   go_meet
   exact ⟨v7,by rw[H.out];simpa [List.append_assoc] using S7⟩
 case rest=>
  obtain ⟨v4,S4⟩:=hcut.out
  clear hcut
  obtain ⟨y7,-⟩:=cel (S4.blk hb nb nv) 7 _ rfl
  have HWn:Hid (WT=[]):=by rw[Hid,hWT.out,hways];rfl
  obtain ⟨y8,-⟩:=cel (S4.blk hb nb nv) 8 _ rfl
  have SX:WSt wb W v wc v4 (t++M1++M2++M3++RT++WT) d:=by rw[HWn.out,List.append_nil];exact S4
  go_wp2_with fail
  refine wp_loop_rounds 1 ?_
  rw[rounds_succ]
  go_wp2_with (go_at_call 60;refine (HRg.out wb _ _ _ _ d s.regions hd SX.at_ (SX.env hE0) HG.out.2.2.2.2.2 (IsRegs.carry SX.keep (IsStates.carry SX.keep k) hx8.out) (by rw[<-hGT.out];have:=HL.out;simp;omega)).mono ?_;rintro _ w8 ⟨rfl,hw8⟩;rw[<-hGT.out] at hw8;obtain ⟨v8,S8⟩:=SX.step hw8)
  go_end0
  exact ⟨rfl,by have:=hleave _ _ _ S8;simpa [List.append_assoc] using this⟩
set_option maxRecDepth 100000 in
set_option maxHeartbeats 4000000 in
theorem parts_some {k wb d g N cap:Nat}{w:World}{v e3 e4 e5 e8:Value}{u:Option Addr}{t:Str}(hR:RegsW k) (s:StF (St k)) (hG:OkStF (OkSt k) s) (hd:d+2*k≤800) (hW:WAt wb w v t d) (hE:WEnv wb w) (h3:IsSets (· < wb) w s.enter e3) (h4:IsSets (· < wb) w s.during e4) (h5:IsSets (· < wb) w s.leave e5) (h6:IsE (· < wb) w s.rests (.pointer u))
    (hN:Hid (N=s.ways.length)) (hm:N≤maxLen) (hgw:g<wb) (h7:∀(i:Nat) (a:Wy),s.ways[i]?=some a->∃p q n c,WayAt w g i a (.pointer p) (.slice q n c)/\IsE (· < wb) w a.cond (.pointer p)/\IsSets (· < wb) w a.sets (.slice q n c)) (h8:IsRegs (· < wb) w (IsStates (· < wb) w k) s.regions e8) (hlim:t.length+(inT (regT (stateT k)) s d).length≤140737488355328) :
    Calls Tryz.prog 149 #[.pointer (some ⟨wb,0,none⟩),.agg #[.string ⟨s.name.toArray⟩,.bool s.first,.bool s.last,e3,e4,e5,.pointer u,.slice (some ⟨g,0,none⟩) N cap,e8]] w fun e' w'=>e'=.returned (.tuple #[])/\Wrote wb w v (t++inT (regT (stateT k)) s d) d w':=by
 obtain ⟨⟨q1,q2,q3,q4,q5⟩,-,q6⟩:=hG
 have HG:Hid (GoodSets s.enter/\GoodSets s.during/\GoodSets s.leave/\GoodE s.rests/\(∀y∈s.ways,GoodWay y)/\∀r∈s.regions,∀x∈r,OkSt k x):=⟨q1,q2,q3,q4,q5,q6⟩
 clear q1 q2 q3 q4 q5 q6
 obtain ⟨M1,hM1⟩:∃M:Str,Hid (M=momT d [101,110,116,114,121,32] s.enter):=⟨_,rfl⟩
 obtain ⟨M2,hM2⟩:∃M:Str,Hid (M=momT d [100,117,114,105,110,103,32] s.during):=⟨_,rfl⟩
 obtain ⟨M3,hM3⟩:∃M:Str,Hid (M=momT d [101,120,105,116,32] s.leave):=⟨_,rfl⟩
 obtain ⟨RT,hRT⟩:∃M:Str,Hid (M=restT d s.rests):=⟨_,rfl⟩
 obtain ⟨WT,hWT⟩:∃M:Str,Hid (M=s.ways.flatMap (wlT d)):=⟨_,rfl⟩
 obtain ⟨GT,hGT⟩:∃M:Str,Hid (M=regT (stateT k) s.regions d):=⟨_,rfl⟩
 have HT:Hid (inT (regT (stateT k)) s d=M1++M2++M3++RT++WT++GT):=by rw[Hid,inT,hM1.out,hM2.out,hM3.out,hRT.out,hWT.out,hGT.out];rfl
 rw[HT.out] at hlim ⊢
 have HL:Hid (t.length+M1.length+M2.length+M3.length+RT.length+WT.length+GT.length≤140737488355328):=by rw[Hid];simp at hlim;omega
 clear hlim
 obtain ⟨b3,n3,m3,rfl⟩:=h3.sl
 obtain ⟨b4,n4,m4,rfl⟩:=h4.sl
 obtain ⟨b5,n5,m5,rfl⟩:=h5.sl
 obtain ⟨b8,m8,rfl⟩:=h8.sl
 obtain ⟨n8,hn8⟩:∃n,Hid (n=s.regions.length):=⟨_,rfl⟩
 rw[<-hn8.out] at h8 ⊢
 obtain ⟨fs,hfs⟩:∃x,Hid (x=s.first):=⟨_,rfl⟩
 obtain ⟨ls,hls⟩:∃x,Hid (x=s.last):=⟨_,rfl⟩
 rw[show s.first=fs from hfs.out.symm,show s.last=ls from hls.out.symm]
 obtain ⟨S0,hb,nb,nv⟩:=hW.local #[.string ⟨s.name.toArray⟩,.bool fs,.bool ls,.slice b3 n3 m3,.slice b4 n4 m4,.slice b5 n5 m5,.pointer u,.slice (some ⟨g,0,none⟩) N cap,.slice b8 n8 m8] 69
 have hleave:∀wk vk t',WSt wb (w.alloc (.cells #[.string ⟨s.name.toArray⟩,.bool fs,.bool ls,.slice b3 n3 m3,.slice b4 n4 m4,.slice b5 n5 m5,.pointer u,.slice (some ⟨g,0,none⟩) N cap,.slice b8 n8 m8] 69)) v wk vk t' d->Wrote wb w v t' d wk:=fun wk vk t' h=>h.leave hW
 have hE0:=((WSt.start hW).alloc (.cells #[.string ⟨s.name.toArray⟩,.bool fs,.bool ls,.slice b3 n3 m3,.slice b4 n4 m4,.slice b5 n5 m5,.pointer u,.slice (some ⟨g,0,none⟩) N cap,.slice b8 n8 m8] 69)).env hE
 have kp:Keep (· < wb) (· < wb) w (w.alloc (.cells #[.string ⟨s.name.toArray⟩,.bool fs,.bool ls,.slice b3 n3 m3,.slice b4 n4 m4,.slice b5 n5 m5,.pointer u,.slice (some ⟨g,0,none⟩) N cap,.slice b8 n8 m8] 69)):=fun b hb' hl=>⟨hb',heap_alloc_old _ _ hl⟩
 have hx3:Hid _:=IsSets.carry kp h3
 have hx4:Hid _:=IsSets.carry kp h4
 have hx5:Hid _:=IsSets.carry kp h5
 have hx6:=h6.carry kp
 have hx8:Hid _:=h8.carry kp (IsStates.carry kp k)
 have lx:=(WSt.start hW).wlt
 have Rw:Hid (∀(i:Nat) (a:Wy),s.ways[i]?=some a->∃p q n c,WayAt (w.alloc (.cells #[.string ⟨s.name.toArray⟩,.bool fs,.bool ls,.slice b3 n3 m3,.slice b4 n4 m4,.slice b5 n5 m5,.pointer u,.slice (some ⟨g,0,none⟩) N cap,.slice b8 n8 m8] 69)) g i a (.pointer p) (.slice q n c)/\IsE (· < wb) (w.alloc (.cells #[.string ⟨s.name.toArray⟩,.bool fs,.bool ls,.slice b3 n3 m3,.slice b4 n4 m4,.slice b5 n5 m5,.pointer u,.slice (some ⟨g,0,none⟩) N cap,.slice b8 n8 m8] 69)) a.cond (.pointer p)/\IsSets (· < wb) (w.alloc (.cells #[.string ⟨s.name.toArray⟩,.bool fs,.bool ls,.slice b3 n3 m3,.slice b4 n4 m4,.slice b5 n5 m5,.pointer u,.slice (some ⟨g,0,none⟩) N cap,.slice b8 n8 m8] 69)) a.sets (.slice q n c)):=fun i a hi=>by
  obtain ⟨p,q,n,c,hy,hp,hq⟩:=h7 i a hi
  refine ⟨p,q,n,c,?_,hp.carry kp,IsSets.carry kp hq⟩
  have hgk:=(kp g hgw (by omega)).2
  obtain ⟨x,x0,x1,x2,x3,x4,x5,x6⟩:=hy
  exact ⟨fun j u hj=>absurd hj (by simp),by rw[World.cell?_of_block (w:=w) hgk];exact x0,by rw[World.cell?_of_block (w:=w) hgk];exact x1,by rw[World.cell?_of_block (w:=w) hgk];exact x2,by rw[World.cell?_of_block (w:=w) hgk];exact x3,by rw[World.cell?_of_block (w:=w) hgk];exact x4,by rw[World.cell?_of_block (w:=w) hgk];exact x5,by rw[World.cell?_of_block (w:=w) hgk];exact x6⟩
 have hN6:(N:Int)≤9223372036854775807:=by unfold maxLen at hm;omega
 clear h7 hm
 clear kp h3 h4 h5 h6 h8
 have HRg:Hid (RegsW k):=hR
 clear hR
 have hd1:d≤1000:=by omega
 have T1:Hid True:=trivial
 have T2:Hid True:=trivial
 go_enter Tryz.func149,Tryz.ntmps149
 have hgW:wb<(w.alloc (.cells #[.string ⟨s.name.toArray⟩,.bool fs,.bool ls,.slice b3 n3 m3,.slice b4 n4 m4,.slice b5 n5 m5,.pointer u,.slice (some ⟨g,0,none⟩) N cap,.slice b8 n8 m8] 69)).heap.size:=S0.wlt
 go_upto_region 1 with fail
 generalize w.alloc (.cells #[.string ⟨s.name.toArray⟩,.bool fs,.bool ls,.slice b3 n3 m3,.slice b4 n4 m4,.slice b5 n5 m5,.pointer u,.slice (some ⟨g,0,none⟩) N cap,.slice b8 n8 m8] 69)=W at S0 hb hleave hE0 hx3 hx4 hx5 hx6 hx8 Rw hgW ⊢
 obtain ⟨y3,-⟩:=cel hb 3 _ rfl
 go_upto_if 20 with (first
  | (go_at_call 178;clear T1;refine (moment_any [101,110,116,114,121,32] HG.out.1 S0.at_ hE0 hd1 hx3.out (by rw[<-hM1.out];have:=HL.out;omega)).mono ?_;rintro _ w1 ⟨rfl,hw1⟩;rw[<-hM1.out] at hw1;obtain ⟨v1,S1⟩:=S0.step hw1;obtain ⟨y4,-⟩:=cel (S1.blk hb nb nv) 4 _ rfl)
  | (go_at_call 178;clear T2;refine (moment_any [100,117,114,105,110,103,32] HG.out.2.1 S1.at_ (S1.env hE0) hd1 (IsSets.carry S1.keep hx4.out) (by rw[<-hM2.out];have:=HL.out;simp;omega)).mono ?_;rintro _ w2 ⟨rfl,hw2⟩;rw[<-hM2.out] at hw2;obtain ⟨v2,S2⟩:=S1.step hw2;obtain ⟨y5,-⟩:=cel (S2.blk hb nb nv) 5 _ rfl)
  | (go_at_call 178;refine (moment_any [101,120,105,116,32] HG.out.2.2.1 S2.at_ (S2.env hE0) hd1 (IsSets.carry S2.keep hx5.out) (by rw[<-hM3.out];have:=HL.out;simp;omega)).mono ?_;rintro _ w3 ⟨rfl,hw3⟩;rw[<-hM3.out] at hw3;obtain ⟨v3,S3⟩:=S2.step hw3;obtain ⟨y6,-⟩:=cel (S3.blk hb nb nv) 6 _ rfl))
 go_cut [] (fun wx=>Hid (∃vx,WSt wb W v wx vx (t++M1++M2++M3++RT) d))
 case first=>
  by_cases hcn:Hid (s.rests=.nil)
  ·have H:Hid (RT=[]):=by rw[Hid,hRT.out,hcn.out];rfl
   obtain rfl:u=none:=by rw[hcn.out] at hx6;injection hx6
   go_wp2_with fail
   go_meet
   exact ⟨v3,by rw[H.out,List.append_nil];exact S3⟩
  ·obtain ⟨X,hX⟩:∃X,Hid (X=exprT s.rests 0):=⟨_,rfl⟩
   obtain ⟨a,rfl⟩:∃a,u=some a:=by
    cases he:s.rests with
    | nil=>exact absurd he hcn
    | node _ _ _ _ _=>rw[he] at hx6;obtain ⟨g',_,_,e,_⟩:=hx6;injection e with e;exact ⟨_,e⟩
   obtain ⟨P,hP⟩:∃P,Hid (P=padT d):=⟨_,rfl⟩
   have H:Hid (RT=P++[115,117,115,112,101,110,100,32]++X++[59,10]):=by
    rw[Hid,hRT.out,hX.out,hP.out]
    cases he:s.rests with
    | nil=>exact absurd he hcn
    | node _ _ _ _ _=>rfl
   have HLc:Hid (RT.length=P.length+8+X.length+2):=by rw[Hid,H.out];simp;omega
   have T3:Hid True:=trivial
   go_wp2_with (first
    | (go_at_call 103;refine (begin_any S3.at_ hd1 (by rw[<-hP.out];have:=HL.out;have:=HLc.out;simp;omega)).mono ?_;rintro _ w4 ⟨rfl,hw4⟩;rw[<-hP.out] at hw4;obtain ⟨v4,S4⟩:=S3.step hw4)
    | (go_at_call 56;clear T3;refine (say1 S4.at_ [115,117,115,112,101,110,100,32] (by have:=HL.out;have:=HLc.out;simp;omega)).mono ?_;rintro _ w5 ⟨rfl,hw5⟩;obtain ⟨v5,S5⟩:=S4.step hw5;obtain ⟨y7,-⟩:=cel (S5.blk hb nb nv) 6 _ rfl)
    | (go_at_call 179;refine (expr_top HG.out.2.2.2.1 S5.at_ (hx6.carry S5.keep) (S5.env hE0) (by rw[<-hX.out];have:=HL.out;have:=HLc.out;simp;omega)).mono ?_;rintro _ w6 ⟨rfl,hw6⟩;rw[<-hX.out] at hw6;obtain ⟨v6,S6⟩:=S5.step hw6)
    | (go_at_call 56;refine (say1 S6.at_ [59,10] (by have:=HL.out;have:=HLc.out;simp;omega)).mono ?_;rintro _ w7 ⟨rfl,hw7⟩;obtain ⟨v7,S7⟩:=S6.step hw7))
   go_meet
   exact ⟨v7,by rw[H.out];simpa [List.append_assoc] using S7⟩
 case rest=>
  obtain ⟨v4,S4⟩:=hcut.out
  clear hcut
  obtain ⟨y7,-⟩:=cel (S4.blk hb nb nv) 7 _ rfl
  go_wp2_with fail
  go_loopg [36] N (fun f i wr=>∃j:Nat,f=N-j/\j≤N/\i=.int .i64 j/\Hid (∃vx,WSt wb W v wr vx (t++M1++M2++M3++RT++(s.ways.take j).flatMap (wlT d)) d))
  case atStart=>exact ⟨0,by omega,by omega,rfl,⟨v4,by simpa using S4⟩⟩
  case round=>
   obtain ⟨j,rfl,hj,rfl,hr⟩:=hrel
   obtain ⟨v5,S5⟩:=hr.out
   by_cases hlt:j<N
   ·obtain ⟨a,ha⟩:∃a,Hid (s.ways[j]?=some a):=⟨s.ways[j]'(by rw[<-hN.out];exact hlt),by rw[Hid,List.getElem?_eq_getElem]⟩
    obtain ⟨T,hT⟩:∃T:Str,Hid (T=t++M1++M2++M3++RT++(s.ways.take j).flatMap (wlT d)):=⟨_,rfl⟩
    rw[<-hT.out] at S5
    obtain ⟨p,qa,qn,qc,hy,hp,hq⟩:=Rw.out j a ha.out
    have hgk:wr.heap[g]?=W.heap[g]?:=(S5.keep g hgw (by omega)).2
    obtain ⟨-,x0,x1,x2,x3,x4,x5,x6⟩:=hy
    rw[<-World.cell?_of_block (w:=W) (a:=⟨g,j*7,none⟩) hgk] at x0
    rw[<-World.cell?_of_block (w:=W) (a:=⟨g,j*7+1,none⟩) hgk] at x1
    rw[<-World.cell?_of_block (w:=W) (a:=⟨g,j*7+2,none⟩) hgk] at x2
    rw[<-World.cell?_of_block (w:=W) (a:=⟨g,j*7+3,none⟩) hgk] at x3
    rw[<-World.cell?_of_block (w:=W) (a:=⟨g,j*7+4,none⟩) hgk] at x4
    rw[<-World.cell?_of_block (w:=W) (a:=⟨g,j*7+5,none⟩) hgk] at x5
    rw[<-World.cell?_of_block (w:=W) (a:=⟨g,j*7+6,none⟩) hgk] at x6
    rw[sv] at x5
    obtain ⟨nw,hnw⟩:∃x,Hid (x=a.now):=⟨_,rfl⟩
    obtain ⟨S6,hb6,nb6,nv6⟩:=S5.at_.local #[.int .i64 a.kind,.bool a.now,.pointer p,.int .i64 a.times,.slice qa qn qc,.string ⟨a.to.toArray⟩,.bool a.back] 73
    have kq:Keep (· < wb) (· < wb) W (wr.alloc (.cells #[.int .i64 a.kind,.bool a.now,.pointer p,.int .i64 a.times,.slice qa qn qc,.string ⟨a.to.toArray⟩,.bool a.back] 73)):=(S5.alloc _).keep
    have hp6:=hp.carry kq
    have hq6:Hid _:=IsSets.carry kq hq
    have hE6:=(S5.alloc (.cells #[.int .i64 a.kind,.bool a.now,.pointer p,.int .i64 a.times,.slice qa qn qc,.string ⟨a.to.toArray⟩,.bool a.back] 73)).env hE0
    have hout:∀wk t',Wrote wb (wr.alloc (.cells #[.int .i64 a.kind,.bool a.now,.pointer p,.int .i64 a.times,.slice qa qn qc,.string ⟨a.to.toArray⟩,.bool a.back] 73)) v5 t' d wk->∃vx,WSt wb W v wk vx t' d:=fun wk t' h=>(S5.alloc _).step h
    have HB:Hid (T.length+(padT d++wayT a++[10]).length≤140737488355328/\t++M1++M2++M3++RT++(s.ways.take (j+1)).flatMap (wlT d)=T++(padT d++wayT a++[10])):=by
     have e1:t++M1++M2++M3++RT++(s.ways.take (j+1)).flatMap (wlT d)=T++(padT d++wayT a++[10]):=by
      rw[take_snoc ha.out,List.flatMap_append,hT.out];simp[List.append_assoc,wlT]
     refine ⟨?_,e1⟩
     have h1:=congrArg List.length e1
     have h2:=flatMap_take_le (wlT d) s.ways (j+1)
     have h3:=HL.out
     have h4:=congrArg List.length hWT.out
     simp only[List.length_append] at h1 ⊢
     omega
    have HGa:Hid (GoodWay a):=HG.out.2.2.2.2.1 a (List.mem_of_getElem? ha.out)
    have hi0:(0:Int)≤(j:Int):=Int.natCast_nonneg _
    have hi1:(j:Int)<(N:Int):=by omega
    clear hp hq kq
    go_upto_region 12 with fail
    generalize wr.alloc (.cells #[.int .i64 a.kind,.bool a.now,.pointer p,.int .i64 a.times,.slice qa qn qc,.string ⟨a.to.toArray⟩,.bool a.back] 73)=W6 at S6 hb6 hp6 hq6 hE6 hout ⊢
    obtain ⟨r0,-⟩:=cel hb6 0 _ rfl
    obtain ⟨r1,-⟩:=cel hb6 1 _ rfl
    obtain ⟨r2,-⟩:=cel hb6 2 _ rfl
    obtain ⟨r3,-⟩:=cel hb6 3 _ rfl
    obtain ⟨r4,-⟩:=cel hb6 4 _ rfl
    obtain ⟨r5,-⟩:=cel hb6 5 _ rfl
    obtain ⟨r6,-⟩:=cel hb6 6 _ rfl
    go_wp2_with (go_at_call 180;refine (wway_any a HGa.out hd1 S6.at_ hE6 hp6 hq6.out HB.out.1).mono ?_;rintro _ w7 ⟨rfl,hw7⟩;obtain ⟨v7,S7⟩:=hout _ _ hw7)
    go_roundg (N-(j+1))
    case measure=>omega
    case rel=>exact ⟨j+1,rfl,by omega,by go_num,v7,by rw[HB.out.2];exact S7⟩
   ·have hjN:s.ways.take j=s.ways:=List.take_of_length_le (by rw[<-hN.out];omega)
    have SX:WSt wb W v wr v5 (t++M1++M2++M3++RT++WT) d:=by rw[hjN,<-hWT.out] at S5;exact S5
    obtain ⟨y8,-⟩:=cel (SX.blk hb nb nv) 8 _ rfl
    go_wp2_with (go_at_call 60;refine (HRg.out wb _ _ _ _ d s.regions hd SX.at_ (SX.env hE0) HG.out.2.2.2.2.2 (IsRegs.carry SX.keep (IsStates.carry SX.keep k) hx8.out) (by rw[<-hGT.out];have:=HL.out;simp;omega)).mono ?_;rintro _ w8 ⟨rfl,hw8⟩;rw[<-hGT.out] at hw8;obtain ⟨v8,S8⟩:=SX.step hw8)
    go_end0
    exact ⟨rfl,by have:=hleave _ _ _ S8;simpa [List.append_assoc] using this⟩
end
section
open Go.RowKit Go.Lib Go.Sort Px
theorem parts_any {k wb d:Nat}{w:World}{v:Value}{t:Str}(hR:RegsW k) (s:StF (St k)) {cs:List Value}(hG:OkStF (OkSt k) s) (hd:d+2*k≤800) (hW:WAt wb w v t d) (hE:WEnv wb w) (hs:StC (· < wb) w (IsStates (· < wb) w k) s cs) (hlim:t.length+(inT (regT (stateT k)) s d).length≤140737488355328) :
    Calls Tryz.prog 149 #[.pointer (some ⟨wb,0,none⟩),.agg cs.toArray] w fun e' w'=>e'=.returned (.tuple #[])/\Wrote wb w v (t++inT (regT (stateT k)) s d) d w':=by
 obtain ⟨e3,e4,e5,p,y,e8,rfl,h3,h4,h5,h6,h7,h8⟩:=hs
 obtain ⟨u,rfl⟩:=h6.pt
 rcases h7.look with ⟨hw,ao,cap,rfl⟩|⟨g,cap,rfl,g0,gm,gl,ga,gr⟩
 ·exact parts_nil hR s hG hd hW hE h3 h4 h5 h6 hw h8 hlim
 ·exact parts_some hR s hG hd hW hE h3 h4 h5 h6 rfl gm ga gr h8 hlim
theorem WSt.ne {wb:Nat}{w wk:World}{v0 vk:Value}{t:Str}{d b:Nat}(S:WSt wb w v0 wk vk t d) (hb:b<w.heap.size) (hv:v0.ownBlock≠some b):vk.ownBlock≠some b:=fun e=>by
 rcases S.hat b e with h|h
 ·exact hv h
 ·omega
theorem WAt.local2 {wb:Nat}{w:World}{v:Value}{t:Str}{d:Nat}(h:WAt wb w v t d) (cs ds:Array Value) (T U:Nat) :
    ∃W,W=(w.alloc (.cells cs T)).alloc (.cells ds U)/\WSt wb W v W v t d/\W.heap[w.heap.size]?=some (.cells cs T (0,0))/\W.heap[w.heap.size+1]?=some (.cells ds U (0,0))/\w.heap.size≠wb/\w.heap.size+1≠wb/\v.ownBlock≠some w.heap.size/\v.ownBlock≠some (w.heap.size+1)/\w.heap.size+1<W.heap.size/\
     Keep (· < wb) (· < wb) w W/\(∀wk vk t' d',WSt wb W v wk vk t' d'->Wrote wb w v t' d' wk):=by
 have S:=((WSt.start h).alloc (.cells cs T)).alloc (.cells ds U)
 have lx:=S.wlt
 refine ⟨_,rfl,WSt.start S.at_,?_,?_,by omega,by omega,fun e=>by have:=(S.low _ e).2;omega,fun e=>by have:=(S.low _ e).2;omega,by simp,S.keep,fun wk vk t' d' h'=>?_⟩
 ·rw[heap_alloc_old _ _ (by simp)];exact heap_alloc_new w _
 ·have:=heap_alloc_new (w.alloc (.cells cs T)) (.cells ds U);simpa using this
 ·obtain ⟨v',S'⟩:=S.step h'.out
  exact S'.out
set_option maxRecDepth 100000 in
set_option maxHeartbeats 2000000 in
theorem wstate1_any {wb ab sb:Nat}{w:World}{c0 c1 c2 c3 c4 c5 c6 c7 c8:Value}{R:Ending->World->Prop}(ha:w.heap[ab]?=some (.cells #[.pointer (some ⟨wb,0,none⟩)] 181 (0,0))) (hs:w.heap[sb]?=some (.cells #[c0,c1,c2,c3,c4,c5,c6,c7,c8] 69 (0,0)))
    (hp:Calls Tryz.prog 149 #[.pointer (some ⟨wb,0,none⟩),.agg #[c0,c1,c2,c3,c4,c5,c6,c7,c8]] w fun e w'=>e=.returned (.tuple #[])/\R e w') :
    Calls Tryz.prog 148 #[.pointer (some ⟨ab,0,none⟩),.pointer (some ⟨sb,0,none⟩)] w fun e w'=>e=.returned (.tuple #[])/\R e w':=by
 obtain ⟨a0,-⟩:=cel ha 0 _ rfl
 obtain ⟨r0,-⟩:=cel hs 0 _ rfl
 obtain ⟨r1,-⟩:=cel hs 1 _ rfl
 obtain ⟨r2,-⟩:=cel hs 2 _ rfl
 obtain ⟨r3,-⟩:=cel hs 3 _ rfl
 obtain ⟨r4,-⟩:=cel hs 4 _ rfl
 obtain ⟨r5,-⟩:=cel hs 5 _ rfl
 obtain ⟨r6,-⟩:=cel hs 6 _ rfl
 obtain ⟨r7,-⟩:=cel hs 7 _ rfl
 obtain ⟨r8,-⟩:=cel hs 8 _ rfl
 go_enter Tryz.func148,Tryz.ntmps148
 go_wp2_with (go_at_call 149;refine hp.mono ?_;rintro _ w1 ⟨rfl,hw1⟩)
 go_end0
 exact ⟨rfl,hw1⟩
def StateW (k:Nat):Prop:=∀(wb:Nat) (w:World) (v:Value) (t:Str) (d:Nat) (s:StF (St k)) (cs:List Value),d+1+2*k≤800->WAt wb w v t d->WEnv wb w->OkStF (OkSt k) s->StC (· < wb) w (IsStates (· < wb) w k) s cs->t.length+(stT (regT (stateT k)) s d).length≤140737488355328->
 Calls Tryz.prog 107 #[.pointer (some ⟨wb,0,none⟩),.agg cs.toArray] w fun e' w'=>e'=.returned (.tuple #[])/\Wrote wb w v (t++stT (regT (stateT k)) s d) d w'
set_option maxRecDepth 100000 in
set_option maxHeartbeats 4000000 in
theorem state_w {k:Nat}(hR:RegsW k):StateW k:=by
 intro wb w v t d s cs hd hW hE hG hs hlim
 have hs':=hs
 obtain ⟨e3,e4,e5,p,y,e8,rfl,h3,h4,h5,h6,h7,h8⟩:=hs'
 obtain ⟨u,rfl⟩:=h6.pt
 obtain ⟨b3,m3,rfl⟩:=h3.cut
 obtain ⟨b4,m4,rfl⟩:=h4.cut
 obtain ⟨b5,m5,rfl⟩:=h5.cut
 obtain ⟨b7,m7,g7,rfl,-,-⟩:=h7.read
 obtain ⟨b8,m8,rfl⟩:=h8.sl
 obtain ⟨l3,l4,l5⟩:=hG.2.1
 have hbare:decide (s.enter.length+s.during.length+s.leave.length=0/\u=none/\s.ways.length=0/\s.regions.length=0)=decide (inT (regT (stateT k)) s (d+1)=[]):=by
  apply decide_eq_decide.2
  rw[inT_nil]
  have hu:u=none↔s.rests=.nil:=by
   cases he:s.rests with
   | nil=>rw[he] at h6;injection h6 with h6;simp[h6]
   | node _ _ _ _ _=>rw[he] at h6;obtain ⟨g',_,_,e,_⟩:=h6;injection e with e;simp[e]
  rw[hu]
  constructor
  ·rintro ⟨a,b,c,e⟩
   exact ⟨List.eq_nil_of_length_eq_zero (by omega),List.eq_nil_of_length_eq_zero (by omega),List.eq_nil_of_length_eq_zero (by omega),b,List.eq_nil_of_length_eq_zero c,List.eq_nil_of_length_eq_zero e⟩
  ·rintro ⟨a,b,c,e,f,g⟩
   rw[a,b,c,f,g];exact ⟨rfl,e,rfl,rfl⟩
 have hI:∀W,Calls Tryz.prog 147 _ W _:=fun W=>isBare_any (w:=W) (s:=⟨s.name.toArray⟩) (f:=s.first) (la:=s.last) (a3:=b3) (a4:=b4) (a5:=b5) (a7:=b7) (a8:=b8) (u:=u) (n7:=s.ways.length) (n8:=s.regions.length) (m3:=m3) (m4:=m4) (m5:=m5) (m7:=m7) (m8:=m8) l3 l4 l5
 simp only[hbare] at hI
 have hP:∀W V T,WAt wb W V T (d+1)->WEnv wb W->StC (· < wb) W (IsStates (· < wb) W k) s _->T.length+(inT (regT (stateT k)) s (d+1)).length≤140737488355328->_:=fun W V T q1 q2 q3 q4=>parts_any (w:=W) (v:=V) (t:=T) (cs:=[sv s.name,.bool s.first,.bool s.last,.slice b3 s.enter.length m3,.slice b4 s.during.length m4,.slice b5 s.leave.length m5,.pointer u,.slice b7 s.ways.length m7,.slice b8 s.regions.length m8]) hR s hG (by omega) q1 q2 q3 q4
 obtain ⟨X,hX⟩:∃X:Str,Hid (X=inT (regT (stateT k)) s (d+1)):=⟨_,rfl⟩
 obtain ⟨P,hPd⟩:∃P:Str,Hid (P=padT d):=⟨_,rfl⟩
 obtain ⟨FI,hFI⟩:∃FI:Str,Hid (FI=if s.first then ([105,110,105,116,105,97,108,32]:Str) else []):=⟨_,rfl⟩
 obtain ⟨LA,hLA⟩:∃LA:Str,Hid (LA=if s.last then ([102,105,110,97,108,32]:Str) else []):=⟨_,rfl⟩
 obtain ⟨TL,hTL⟩:∃TL:Str,Hid (TL=if X=[] then ([59,10]:Str) else ([32,123,10]:Str)++X++P++([125,10]:Str)):=⟨(if X=[] then ([59,10]:Str) else ([32,123,10]:Str)++X++P++([125,10]:Str)),rfl⟩
 have HT:Hid (stT (regT (stateT k)) s d=P++FI++LA++([115,116,97,116,101,32]++s.name)++TL):=by
  rw[Hid,stT,headT,hTL.out,hX.out,hPd.out,hFI.out,hLA.out];simp[List.append_assoc]
 rw[HT.out] at hlim ⊢
 have HL:Hid (t.length+P.length+FI.length+LA.length+(6+s.name.length)+TL.length≤140737488355328):=by rw[Hid];simp at hlim;omega
 rw[<-hX.out] at hI hP
 simp only[sv] at hP hs ⊢
 obtain ⟨fs,hfs⟩:∃x,Hid (x=s.first):=⟨_,rfl⟩
 obtain ⟨ls,hls⟩:∃x,Hid (x=s.last):=⟨_,rfl⟩
 rw[show s.first=fs from hfs.out.symm,show s.last=ls from hls.out.symm] at hI hP hs ⊢
 have HI:Hid _:=hI
 have HP:Hid _:=hP
 have HS:Hid (StC (· < wb) w (IsStates (· < wb) w k) s (#[.string ⟨s.name.toArray⟩,.bool fs,.bool ls,.slice b3 s.enter.length m3,.slice b4 s.during.length m4,.slice b5 s.leave.length m5,.pointer u,.slice b7 s.ways.length m7,.slice b8 s.regions.length m8]).toList):=hs
 clear hI hP hs hlim h3 h4 h5 h6 h7 h8 hbare hR hG l3 l4 l5
 obtain ⟨W,hWe,S0,ha,hb,nb1,nb2,nv1,nv2,hlt,kp,hleave⟩:=hW.local2 #[.pointer (some ⟨wb,0,none⟩)] #[.string ⟨s.name.toArray⟩,.bool fs,.bool ls,.slice b3 s.enter.length m3,.slice b4 s.during.length m4,.slice b5 s.leave.length m5,.pointer u,.slice b7 s.ways.length m7,.slice b8 s.regions.length m8] 181 69
 have HK:Hid (Keep (· < wb) (· < wb) w W):=kp
 have hE0:WEnv wb W:=hE.keep (fun b hb=>(kp b hb (by have:=(WSt.start hW).wlt;omega)).2)
 have hd1:d≤1000:=by omega
 clear kp
 go_enter Tryz.func107,Tryz.ntmps107
 go_upto_region 1 with fail
 rw[show (w.alloc (.cells #[.pointer (some ⟨wb,0,none⟩)] 181)).alloc (.cells #[.string ⟨s.name.toArray⟩,.bool fs,.bool ls,.slice b3 s.enter.length m3,.slice b4 s.during.length m4,.slice b5 s.leave.length m5,.pointer u,.slice b7 s.ways.length m7,.slice b8 s.regions.length m8] 69)=W from hWe.symm]
 clear hWe
 obtain ⟨a0,-⟩:=cel ha 0 _ rfl
 go_upto_if 7 with (go_at_call 103;refine (begin_any S0.at_ hd1 (by rw[<-hPd.out];have:=HL.out;omega)).mono ?_;rintro _ w1 ⟨rfl,hw1⟩;rw[<-hPd.out] at hw1;obtain ⟨v1,S1⟩:=S0.step hw1;obtain ⟨y1,-⟩:=cel (S1.blk hb nb2 nv2) 1 (.bool fs) rfl;rw[show fs=s.first from hfs.out] at y1)
 go_cut [] (fun wx=>Hid (∃vx,WSt wb W v wx vx (t++P++FI) d))
 case first=>
  obtain ⟨a1,-⟩:=cel (S1.blk ha nb1 nv1) 0 _ rfl
  by_cases hf:s.first=true
  ·have H:Hid (FI=[105,110,105,116,105,97,108,32]):=by rw[Hid,hFI.out,hf];rfl
   rw[hf] at y1 ⊢
   go_wp2_with (go_at_call 56;refine (say1 S1.at_ [105,110,105,116,105,97,108,32] (by have:=HL.out;rw[H.out] at this;simp at this ⊢;omega)).mono ?_;rintro _ w2 ⟨rfl,hw2⟩;obtain ⟨v2,S2⟩:=S1.step hw2)
   go_meet
   exact ⟨v2,by rw[H.out];exact S2⟩
  ·replace hf:s.first=false:=by simpa using hf
   have H:Hid (FI=[]):=by rw[Hid,hFI.out,hf];rfl
   rw[hf] at y1 ⊢
   go_wp2_with fail
   go_meet
   exact ⟨v1,by rw[H.out,List.append_nil];exact S1⟩
 case rest=>
  obtain ⟨v2,S2⟩:=hcut.out
  clear hcut S1 y1 a0
  obtain ⟨y2,-⟩:=cel (S2.blk hb nb2 nv2) 2 (.bool ls) rfl
  rw[show ls=s.last from hls.out] at y2
  obtain ⟨a2,-⟩:=cel (S2.blk ha nb1 nv1) 0 _ rfl
  go_upto_if 12 with fail
  go_cut [] (fun wx=>Hid (∃vx,WSt wb W v wx vx (t++P++FI++LA) d))
  case first=>
   by_cases hf:s.last=true
   ·have H:Hid (LA=[102,105,110,97,108,32]):=by rw[Hid,hLA.out,hf];rfl
    rw[hf] at y2 ⊢
    go_wp2_with (go_at_call 56;refine (say1 S2.at_ [102,105,110,97,108,32] (by have:=HL.out;rw[H.out] at this;simp at this ⊢;omega)).mono ?_;rintro _ w3 ⟨rfl,hw3⟩;obtain ⟨v3,S3⟩:=S2.step hw3)
    go_meet
    exact ⟨v3,by rw[H.out];exact S3⟩
   ·replace hf:s.last=false:=by simpa using hf
    have H:Hid (LA=[]):=by rw[Hid,hLA.out,hf];rfl
    rw[hf] at y2 ⊢
    go_wp2_with fail
    go_meet
    exact ⟨v2,by rw[H.out,List.append_nil];exact S2⟩
  case rest=>
   obtain ⟨v3,S3⟩:=hcut.out
   clear hcut S2 y2 a2
   obtain ⟨a3,-⟩:=cel (S3.blk ha nb1 nv1) 0 _ rfl
   obtain ⟨r0',-⟩:=cel (S3.blk hb nb2 nv2) 0 _ rfl
   go_upto_if 22 with (first
    | (go_at_call 56;refine (say2 S3.at_ [115,116,97,116,101,32] s.name (by have:=HL.out;simp;omega)).mono ?_;rintro _ w4 ⟨rfl,hw4⟩;obtain ⟨v4,S4⟩:=S3.step hw4;have hb4:=S4.blk hb nb2 nv2;obtain ⟨r0,-⟩:=cel hb4 0 _ rfl;obtain ⟨r1,-⟩:=cel hb4 1 _ rfl;obtain ⟨r2,-⟩:=cel hb4 2 _ rfl;obtain ⟨r3,-⟩:=cel hb4 3 _ rfl;obtain ⟨r4,-⟩:=cel hb4 4 _ rfl;obtain ⟨r5,-⟩:=cel hb4 5 _ rfl;obtain ⟨r6,-⟩:=cel hb4 6 _ rfl;obtain ⟨r7,-⟩:=cel hb4 7 _ rfl;obtain ⟨r8,-⟩:=cel hb4 8 _ rfl)
    | (go_at_call 147;refine (HI.out _).mono ?_;rintro _ w5 ⟨rfl,hb5⟩;have S5:=S4.below hb5;obtain ⟨a5,-⟩:=cel (S5.blk ha nb1 nv1) 0 _ rfl))
   by_cases hX0:Hid (X=[])
   ·have H:Hid (TL=[59,10]):=by rw[Hid,hTL.out,if_pos hX0.out]
    rw[show decide (X=[])=true from decide_eq_true hX0.out]
    go_wp2_with (go_at_call 56;refine (say1 S5.at_ [59,10] (by have:=HL.out;rw[H.out] at this;simp at this ⊢;omega)).mono ?_;rintro _ w6 ⟨rfl,hw6⟩;obtain ⟨v6,S6⟩:=S5.step hw6)
    refine bodyPost_ret (results_none rfl _ _ _) rfl ?_
    exact ⟨rfl,by have:=hleave _ _ _ _ S6;rw[H.out];simpa [List.append_assoc] using this⟩
   ·have H:Hid (TL=[32,123,10]++X++padT d++[125,10]):=by rw[Hid,hTL.out,if_neg (show ¬X=[] from hX0),hPd.out]
    rw[show decide (X=[])=false from decide_eq_false (show ¬X=[] from hX0)]
    have ha5:=S5.blk ha nb1 nv1
    have hb5':=S5.blk hb nb2 nv2
    have n1:=S5.ne (Nat.lt_of_succ_lt hlt) nv1
    have n2:=S5.ne hlt nv2
    go_wp2_with (go_at_call 57;refine (braced_state (X:=X) (by omega) S5.at_ (by have:=HL.out;rw[H.out] at this;simp at this ⊢;omega) (fun w6 v6 S6=>wstate1_any (R:=fun _ w2=>Wrote wb w6 v6 _ (d+1) w2) (S6.blk ha5 nb1 n1) (S6.blk hb5' nb2 n2) (HP.out _ _ _ S6.at_ (S6.env (S5.env hE0)) (StC.carry S6.keep (IsStates.carry S6.keep k) _ _ (StC.carry S5.keep (IsStates.carry S5.keep k) _ _ (StC.carry HK.out (IsStates.carry HK.out k) _ _ HS.out))) (by have:=HL.out;rw[H.out] at this;simp at this ⊢;omega)))).mono ?_;rintro _ w6 ⟨rfl,hw6⟩;obtain ⟨v6,S6⟩:=S5.step hw6)
    go_end0
    exact ⟨rfl,by have:=hleave _ _ _ _ S6;rw[H.out];simpa [List.append_assoc] using this⟩
end
end Go.Proofs.YtpogmfliojcnjaaGreatDoor
