import Derived.Test.YtpogmfliojcnjaaGreatDoorSSame2
import Derived.Deep.DeepCutAuto
import Derived.Deep.RegionHeld3
namespace Go.Proofs.YtpogmfliojcnjaaGreatDoor
section
open Go.RowKit Go.Lib Go.Sort Px
section
variable {wb:Nat}{w wk:World}{v vk:Value}{t t':Str}{d d':Nat}
theorem WAt.local (h:WAt wb w v t d) (cs:Array Value) (T:Nat):WSt wb (w.alloc (.cells cs T)) v (w.alloc (.cells cs T)) v t d/\(w.alloc (.cells cs T)).heap[w.heap.size]?=some (.cells cs T (0,0))/\w.heap.size≠wb/\v.ownBlock≠some w.heap.size:=by
 have S:=(WSt.start h).alloc (.cells cs T)
 exact ⟨WSt.start S.at_,heap_alloc_new w _,by have:=S.wlt;omega,fun e=>by have:=(S.low _ e).2;omega⟩
theorem WSt.leave {o:Obj}(S:WSt wb (w.alloc o) v wk vk t' d') (h:WAt wb w v t d):Wrote wb w v t' d' wk:=by
 obtain ⟨v',S'⟩:=((WSt.start h).alloc o).step S.out
 exact S'.out
end
theorem take_snoc {α:Type}{l:List α}{k:Nat}{a:α}(h:l[k]?=some a):l.take (k+1)=l.take k++[a]:=by rw[List.take_add_one,h];rfl
theorem setsT_take_le (l:List Asg) (k:Nat):(setsT (l.take k)).length≤(setsT l).length:=by
 conv=>rhs;rw[<-List.take_append_drop k l]
 generalize l.take k=m
 cases m with
 | nil=>simp[setsT]
 | cons a r=>simp[setsT]
set_option maxRecDepth 100000 in
set_option maxHeartbeats 2000000 in
theorem sets_some {wb:Nat}{w:World}{v:Value}{t:Str}{d N g cap:Nat}(l:List Asg) (hG:GoodSets l) (hW:WAt wb w v t d) (hE:WEnv wb w) (hN:Hid (N=l.length)) (hm:N≤maxLen) (hgw:g<wb)
    (R:Hid (∀(i:Nat) (a:Asg),l[i]?=some a->∃p,w.cell? ⟨g,i*2,none⟩=some (sv a.name)/\w.cell? ⟨g,i*2+1,none⟩=some p/\IsE (· < wb) w a.e p)) (hlim:t.length+(setsT l).length≤140737488355328) :
    Calls Tryz.prog 211 #[.pointer (some ⟨wb,0,none⟩),.slice (some ⟨g,0,none⟩) N cap] w fun e' w'=>e'=.returned (.tuple #[])/\Wrote wb w v (t++setsT l) d w':=by
 have hN6:(N:Int)≤9223372036854775807:=by unfold maxLen at hm;omega
 have HL:Hid _:=hlim
 have HG:Hid (GoodSets l):=hG
 have lx:=(WSt.start hW).wlt
 clear hlim hG hm
 go_enter Tryz.func211,Tryz.ntmps211
 go_wp2_with fail
 go_loopg [8] N (fun f i wr=>∃k:Nat,f=N-k/\k≤N/\i=.int .i64 k/\Hid (Wrote wb w v (t++setsT (l.take k)) d wr))
 case atStart=>exact ⟨0,by omega,by omega,rfl,by rw[Hid,List.take_zero,setsT,List.append_nil];exact Wrote.refl hW⟩
 case round=>
  obtain ⟨k,rfl,hk,rfl,hr⟩:=hrel
  by_cases hlt:k<N
  ·obtain ⟨a,ha⟩:∃a,Hid (l[k]?=some a):=⟨l[k]'(by rw[<-hN.out];exact hlt),by rw[Hid,List.getElem?_eq_getElem]⟩
   obtain ⟨T,hT⟩:∃T,Hid (T=t++setsT (l.take k)):=⟨_,rfl⟩
   obtain ⟨X,hX⟩:∃X,Hid (X=exprT a.e 0):=⟨_,rfl⟩
   replace hr:=hr.out
   rw[<-hT.out] at hr
   obtain ⟨v1,hA,hat,hf⟩:=hr
   have S:WSt wb w v wr v1 T d:=⟨hA,(WSt.start hW).low,lx,hat,hf⟩
   obtain ⟨p,x0,x1,hp⟩:=R.out k a ha.out
   have hgk:wr.heap[g]?=w.heap[g]?:=(S.keep g hgw (by omega)).2
   rw[<-World.cell?_of_block (w:=w) (a:=⟨g,k*2,none⟩) hgk] at x0
   rw[<-World.cell?_of_block (w:=w) (a:=⟨g,k*2+1,none⟩) hgk] at x1
   rw[sv] at x0
   obtain ⟨u,rfl⟩:∃u,p=.pointer u:=by
    cases he:a.e with
    | nil=>rw[he] at hp;exact ⟨none,hp⟩
    | node _ _ _ _ _=>rw[he] at hp;obtain ⟨g',_,_,e,_⟩:=hp;exact ⟨_,e⟩
   obtain ⟨S0,hb,nb,nv⟩:=hA.local #[.string ⟨a.name.toArray⟩,.pointer u] 130
   have hp0:IsE (· < wb) (wr.alloc (.cells #[.string ⟨a.name.toArray⟩,.pointer u] 130)) a.e (.pointer u):=(hp.carry S.keep).carry (fun b hb' hl=>⟨hb',heap_alloc_old _ _ hl⟩)
   have hE0:WEnv wb (wr.alloc (.cells #[.string ⟨a.name.toArray⟩,.pointer u] 130)):=(S.alloc _).env hE
   have HGa:Hid (GoodE a.e):=HG.out a (List.mem_of_getElem? ha.out)
   have HB:Hid (T.length+(if k=0 then 0 else 2)+(a.name.length+4)+X.length≤140737488355328/\t++setsT (l.take (k+1))=T++((if k=0 then [] else [44,32])++(a.name++([32,58,61,32]++X)))):=by
    have e1:t++setsT (l.take (k+1))=T++((if k=0 then [] else [44,32])++(a.name++([32,58,61,32]++X))):=by
     rw[take_snoc ha.out,setsT_snoc,hT.out,hX.out,setT]
     have:(l.take k=[])↔k=0:=by
      rw[List.take_eq_nil_iff]
      constructor
      ·rintro (h|rfl)
       ·exact h
       ·have h1:=hN.out;simp at h1;omega
      ·exact .inl
     simp only[this,List.append_assoc]
    refine ⟨?_,e1⟩
    have h1:=congrArg List.length e1
    have h2:=setsT_take_le l (k+1)
    have h3:=HL.out
    simp only[List.length_append] at h1
    have h4:(if k=0 then ([]:Str) else [44,32]).length=if k=0 then 0 else 2:=by split<;>rfl
    rw[h4] at h1
    simp only[List.length_cons,List.length_nil] at h1
    omega
   have hi0:(0:Int)≤(k:Int):=Int.natCast_nonneg _
   have hi1:(k:Int)<(N:Int):=by omega
   have hleave:∀wk vk t',WSt wb (wr.alloc (.cells #[.string ⟨a.name.toArray⟩,.pointer u] 130)) v1 wk vk t' d->Wrote wb w v t' d wk:=fun wk vk t' h=>Wrote.trans hat hf (h.leave hA)
   clear hf hat hp
   have T1:Hid True:=trivial
   by_cases hk0:k=0
   ·subst hk0
    simp only[↓reduceIte,List.nil_append] at HB
    have H1:Hid _:=HB.out.1
    go_upto_region 3 with fail
    generalize wr.alloc (.cells #[.string ⟨a.name.toArray⟩,.pointer u] 130)=W at S0 hb hp0 hE0 hleave ⊢
    obtain ⟨y0,-⟩:=cel hb 0 _ rfl
    go_wp2_with (first
     | (go_at_call 56;refine (say2 S0.at_ a.name [32,58,61,32] (by have:=H1.out;simp;omega)).mono ?_;rintro _ w2 ⟨rfl,hw2⟩;obtain ⟨v2,S2⟩:=S0.step hw2;obtain ⟨y1,-⟩:=cel (S2.blk hb nb nv) 1 _ rfl)
     | (go_at_call 179;refine (expr_top HGa.out S2.at_ (hp0.carry S2.keep) (S2.env hE0) (by rw[<-hX.out];have:=H1.out;simp;omega)).mono ?_;rintro _ w3 ⟨rfl,hw3⟩;rw[<-hX.out] at hw3;obtain ⟨v3,S3⟩:=S2.step hw3))
    go_roundg (N-(0+1))
    case measure=>omega
    case rel=>exact ⟨0+1,rfl,by omega,by go_num,by rw[Hid,HB.out.2];have:=hleave _ _ _ S3;simpa [List.append_assoc] using this⟩
   ·have hk1:(0:Int)<(k:Int):=by omega
    have hk2:0<k:=by omega
    simp only[hk0,↓reduceIte] at HB
    have H1:Hid _:=HB.out.1
    go_upto_region 3 with fail
    generalize wr.alloc (.cells #[.string ⟨a.name.toArray⟩,.pointer u] 130)=W at S0 hb hp0 hE0 hleave ⊢
    go_wp2_with (first
     | (go_at_call 56;clear T1;refine (say1 S0.at_ [44,32] (by have:=H1.out;simp;omega)).mono ?_;rintro _ w1 ⟨rfl,hw1⟩;obtain ⟨v0,S1⟩:=S0.step hw1;obtain ⟨y0,-⟩:=cel (S1.blk hb nb nv) 0 _ rfl)
     | (go_at_call 56;refine (say2 S1.at_ a.name [32,58,61,32] (by have:=H1.out;simp;omega)).mono ?_;rintro _ w2 ⟨rfl,hw2⟩;obtain ⟨v2,S2⟩:=S1.step hw2;obtain ⟨y1,-⟩:=cel (S2.blk hb nb nv) 1 _ rfl)
     | (go_at_call 179;refine (expr_top HGa.out S2.at_ (hp0.carry S2.keep) (S2.env hE0) (by rw[<-hX.out];have:=H1.out;simp;omega)).mono ?_;rintro _ w3 ⟨rfl,hw3⟩;rw[<-hX.out] at hw3;obtain ⟨v3,S3⟩:=S2.step hw3))
    go_roundg (N-(k+1))
    case measure=>omega
    case rel=>exact ⟨k+1,rfl,by omega,by go_num,by rw[Hid,HB.out.2];have:=hleave _ _ _ S3;simpa [List.append_assoc] using this⟩
  ·obtain rfl:k=N:=by omega
   go_wp2_with fail
   go_end0
   exact ⟨rfl,by have:=hr.out;rw[List.take_of_length_le (by rw[<-hN.out];exact Nat.le_refl _)] at this;exact this⟩
theorem IsSets.cut {A:Nat->Prop}{w:World}{l:List Asg}{p:Value}(h:IsSets A w l p):∃ao cap,p=.slice ao l.length cap:=by
 rcases h.read with ⟨rfl,ao,cap,rfl⟩|⟨g,cap,rfl,_⟩
 ·exact ⟨ao,cap,rfl⟩
 ·exact ⟨_,cap,rfl⟩
theorem wsets_any {wb:Nat}{w:World}{v p:Value}{t:Str}{d:Nat}{l:List Asg}(hne:l≠[]) (hG:GoodSets l) (hW:WAt wb w v t d) (hE:WEnv wb w) (hp:IsSets (· < wb) w l p) (hlim:t.length+(setsT l).length≤140737488355328) :
    Calls Tryz.prog 211 #[.pointer (some ⟨wb,0,none⟩),p] w fun e' w'=>e'=.returned (.tuple #[])/\Wrote wb w v (t++setsT l) d w':=by
 rcases hp.read with ⟨h,_⟩|⟨g,cap,rfl,_,h2,_,h4,h5⟩
 ·exact absurd h hne
 ·exact sets_some l hG hW hE rfl h2 h4 h5 hlim
set_option maxRecDepth 100000 in
set_option maxHeartbeats 2000000 in
theorem moment_any {wb:Nat}{w:World}{v p:Value}{t:Str}{d:Nat}{l:List Asg}(word:Str) (hG:GoodSets l) (hW:WAt wb w v t d) (hE:WEnv wb w) (hd:d≤1000) (hp:IsSets (· < wb) w l p) (hlim:t.length+(momT d word l).length≤140737488355328) :
    Calls Tryz.prog 178 #[.pointer (some ⟨wb,0,none⟩),.string ⟨word.toArray⟩,p] w fun e' w'=>e'=.returned (.tuple #[])/\Wrote wb w v (t++momT d word l) d w':=by
 obtain ⟨ao,cap,rfl⟩:=hp.cut
 have S0:=WSt.start hW
 by_cases hne:l=[]
 ·have HT:Hid (momT d word l=[]):=by rw[Hid,momT,if_pos hne]
  rw[HT.out]
  obtain ⟨N,hN⟩:∃N,N=l.length:=⟨_,rfl⟩
  rw[<-hN]
  obtain rfl:N=0:=by rw[hN,hne];rfl
  clear hlim hp hN
  go_enter Tryz.func178,Tryz.ntmps178
  go_wp2_with fail
  refine bodyPost_ret (results_none rfl _ _ _) rfl ?_
  exact ⟨rfl,by rw[List.append_nil];exact Wrote.refl hW⟩
 ·have HT:Hid (momT d word l=padT d++(word++(setsT l++[59,10]))):=by rw[Hid,momT,if_neg hne];simp[List.append_assoc]
  rw[HT.out] at hlim ⊢
  have HL:Hid (t.length+(padT d).length+word.length+(setsT l).length+2≤140737488355328):=by rw[Hid];simp at hlim;omega
  obtain ⟨N,hN⟩:∃N,Hid (N=l.length):=⟨_,rfl⟩
  rw[<-hN.out] at hp ⊢
  have hN0:¬(N:Int)=0:=by have:=hN.out;have:=List.length_pos_iff.2 hne;omega
  have hN1:¬N=0:=by omega
  have HG:Hid _:=hG
  have HP:Hid _:=hp
  have HN:Hid _:=hne
  have T1:Hid True:=trivial
  clear hlim hG hp hne
  go_enter Tryz.func178,Tryz.ntmps178
  go_wp2_with (first
   | (go_at_call 103;refine (begin_any hW hd (by have:=HL.out;omega)).mono ?_;rintro _ w1 ⟨rfl,hw1⟩;obtain ⟨v1,S1⟩:=S0.step hw1)
   | (go_at_call 56;clear T1;refine (say1 S1.at_ word (by have:=HL.out;simp;omega)).mono ?_;rintro _ w2 ⟨rfl,hw2⟩;obtain ⟨v2,S2⟩:=S1.step hw2)
   | (go_at_call 211;refine (wsets_any HN.out HG.out S2.at_ (S2.env hE) (IsSets.carry S2.keep HP.out) (by have:=HL.out;simp;omega)).mono ?_;rintro _ w3 ⟨rfl,hw3⟩;obtain ⟨v3,S3⟩:=S2.step hw3)
   | (go_at_call 56;refine (say1 S3.at_ [59,10] (by have:=HL.out;simp;omega)).mono ?_;rintro _ w4 ⟨rfl,hw4⟩;obtain ⟨v4,S4⟩:=S3.step hw4))
  go_end0
  exact ⟨rfl,by have:=S4.out;simpa [List.append_assoc] using this⟩
set_option maxRecDepth 100000 in
set_option maxHeartbeats 2000000 in
theorem leadBy_any {k:Nat}{w:World}(hk:k≤2) (ht:Tabs w):Calls Tryz.prog 215 #[.int .i64 k] w fun e w'=>e=.returned (.string ⟨(leadT k).toArray⟩)/\Below w.heap.size w w':=by
 have h0:w.cell? ⟨6,0,none⟩=some (.string ⟨#[103,111]⟩):=ht.leads 0 _ rfl
 have h1:w.cell? ⟨6,1,none⟩=some (.string ⟨#[97,98,111,114,116]⟩):=ht.leads 1 _ rfl
 have h2:w.cell? ⟨6,2,none⟩=some (.string ⟨#[106,111,105,110]⟩):=ht.leads 2 _ rfl
 have hc:k=0\/k=1\/k=2:=by omega
 clear ht
 rcases hc with rfl|rfl|rfl
 all_goals
  go_enter Tryz.func215,Tryz.ntmps215
  go_wp2_with fail
  go_ret
  exact ⟨rfl,Below.refl _ _⟩
set_option maxRecDepth 100000 in
set_option maxHeartbeats 2000000 in
theorem wordOf_any {k:Nat}{w:World}(h1:1≤k) (hk:k≤3) (ht:Tabs w):Calls Tryz.prog 104 #[.int .i64 k] w fun e w'=>e=.returned (.string ⟨(kindT k).toArray⟩)/\Below w.heap.size w w':=by
 have h1':w.cell? ⟨2,1,none⟩=some (.string ⟨#[105,110,112,117,116]⟩):=ht.kinds 1 _ rfl
 have h2:w.cell? ⟨2,2,none⟩=some (.string ⟨#[111,117,116,112,117,116]⟩):=ht.kinds 2 _ rfl
 have h3:w.cell? ⟨2,3,none⟩=some (.string ⟨#[118,97,114]⟩):=ht.kinds 3 _ rfl
 have hc:k=1\/k=2\/k=3:=by omega
 clear ht
 rcases hc with rfl|rfl|rfl
 all_goals
  go_enter Tryz.func104,Tryz.ntmps104
  go_wp2_with fail
  go_ret
  exact ⟨rfl,Below.refl _ _⟩
end
section
open Go.RowKit Go.Lib Go.Sort Px
theorem itoaN {w:World}(n:Nat) (h0:n≤1000) (hp:Lib.TabIs Tryz.prog w "internal/strconv.uint64pow10" .u64 Lib.pow10Tab) :
    Calls Tryz.prog 86 #[.int .i64 n] w fun e w'=>e=.returned (.string ⟨(Lib.itoa n).toArray⟩)/\Below w.heap.size w w':=by
 refine (Tryz.strconv_Itoa n (by omega) (by omega) w hp).mono ?_
 rintro e w' ⟨rfl,k,os,rfl⟩
 exact ⟨rfl,⟨rfl,rfl,rfl,by simp[grow,World.drewN],fun i hi=>by simp[grow,World.drewN,Array.getElem?_append_left hi]⟩⟩
set_option maxRecDepth 100000 in
set_option maxHeartbeats 4000000 in
theorem wway_any {wb:Nat}{w:World}{v p q:Value}{t:Str}{d:Nat}(y:Wy) (hy:GoodWay y) (hd:d≤1000) (hW:WAt wb w v t d) (hE:WEnv wb w) (hp:IsE (· < wb) w y.cond p) (hq:IsSets (· < wb) w y.sets q) (hlim:t.length+(padT d++wayT y++[10]).length≤140737488355328) :
    Calls Tryz.prog 180 #[.pointer (some ⟨wb,0,none⟩),.agg #[.int .i64 y.kind,.bool y.now,p,.int .i64 y.times,q,.string ⟨y.to.toArray⟩,.bool y.back]] w fun e' w'=>e'=.returned (.tuple #[])/\Wrote wb w v (t++(padT d++wayT y++[10])) d w':=by
 obtain ⟨P,hP⟩:∃P,Hid (P=padT d):=⟨_,rfl⟩
 obtain ⟨K,hK⟩:∃K,Hid (K=leadT y.kind):=⟨_,rfl⟩
 obtain ⟨NW,hNW⟩:∃NW,Hid (NW=if y.now then ([32,105,109,109,101,100,105,97,116,101]:Str) else []):=⟨_,rfl⟩
 obtain ⟨CT,hCT⟩:∃CT,Hid (CT=condT y):=⟨_,rfl⟩
 obtain ⟨DT,hDT⟩:∃DT,Hid (DT=doesT y.sets):=⟨_,rfl⟩
 obtain ⟨BK,hBK⟩:∃BK,Hid (BK=if y.back then ([32,104,105,115,116,111,114,121]:Str) else []):=⟨_,rfl⟩
 have HT:Hid (padT d++wayT y++[10]=P++K++NW++CT++DT++([32,45,45,62,32]++y.to)++BK++[59,10]):=by
  rw[Hid,wayT,hP.out,hK.out,hNW.out,hCT.out,hDT.out,hBK.out];simp[List.append_assoc]
 rw[HT.out] at hlim ⊢
 have HL:Hid (t.length+P.length+K.length+NW.length+CT.length+DT.length+(5+y.to.length)+BK.length+2≤140737488355328):=by rw[Hid];simp at hlim;omega
 clear hlim
 obtain ⟨g1,g2,g3,g4⟩:=hy
 have HG:Hid (GoodE y.cond/\GoodSets y.sets/\y.kind≤2/\y.times≤1000):=⟨g3,g4,g1,g2⟩
 clear g1 g2 g3 g4
 obtain ⟨u,rfl⟩:∃u,p=.pointer u:=by
  cases he:y.cond with
  | nil=>rw[he] at hp;exact ⟨none,hp⟩
  | node _ _ _ _ _=>rw[he] at hp;obtain ⟨g',_,_,e,_⟩:=hp;exact ⟨_,e⟩
 obtain ⟨ao,cap,rfl⟩:=hq.cut
 obtain ⟨M,hM⟩:∃M,Hid (M=y.sets.length):=⟨_,rfl⟩
 rw[<-hM.out] at hq ⊢
 obtain ⟨nw,hnw⟩:∃x,Hid (x=y.now):=⟨_,rfl⟩
 obtain ⟨bk,hbkw⟩:∃x,Hid (x=y.back):=⟨_,rfl⟩
 rw[show y.now=nw from hnw.out.symm,show y.back=bk from hbkw.out.symm]
 obtain ⟨S0,hb,nb,nv⟩:=hW.local #[.int .i64 y.kind,.bool nw,.pointer u,.int .i64 y.times,.slice ao M cap,.string ⟨y.to.toArray⟩,.bool bk] 73
 have hleave:∀wk vk t',WSt wb (w.alloc (.cells #[.int .i64 y.kind,.bool nw,.pointer u,.int .i64 y.times,.slice ao M cap,.string ⟨y.to.toArray⟩,.bool bk] 73)) v wk vk t' d->Wrote wb w v t' d wk:=fun wk vk t' h=>h.leave hW
 have hE0:=((WSt.start hW).alloc (.cells #[.int .i64 y.kind,.bool nw,.pointer u,.int .i64 y.times,.slice ao M cap,.string ⟨y.to.toArray⟩,.bool bk] 73)).env hE
 have kp:Keep (· < wb) (· < wb) w (w.alloc (.cells #[.int .i64 y.kind,.bool nw,.pointer u,.int .i64 y.times,.slice ao M cap,.string ⟨y.to.toArray⟩,.bool bk] 73)):=fun b hb' hl=>⟨hb',heap_alloc_old _ _ hl⟩
 have hp0:=hp.carry kp
 have hq0:Hid _:=IsSets.carry kp hq
 clear kp hp hq
 go_enter Tryz.func180,Tryz.ntmps180
 go_upto_region 1 with fail
 generalize w.alloc (.cells #[.int .i64 y.kind,.bool nw,.pointer u,.int .i64 y.times,.slice ao M cap,.string ⟨y.to.toArray⟩,.bool bk] 73)=W at S0 hb hleave hE0 hp0 hq0 ⊢
 go_upto_if 13 with (first
  | (go_at_call 103;refine (begin_any S0.at_ hd (by rw[<-hP.out];have:=HL.out;omega)).mono ?_;rintro _ w1 ⟨rfl,hw1⟩;rw[<-hP.out] at hw1;obtain ⟨v1,S1⟩:=S0.step hw1;obtain ⟨y0,-⟩:=cel (S1.blk hb nb nv) 0 _ rfl)
  | (go_at_call 215;refine (leadBy_any HG.out.2.2.1 (S1.env hE0).tabs).mono ?_;rintro _ w2 ⟨rfl,hb2⟩;rw[<-hK.out];have S2:=S1.below hb2)
  | (go_at_call 56;refine (say1 S2.at_ K (by have:=HL.out;simp;omega)).mono ?_;rintro _ w3 ⟨rfl,hw3⟩;obtain ⟨v3,S3⟩:=S2.step hw3;obtain ⟨y1,-⟩:=cel (S3.blk hb nb nv) 1 (.bool nw) rfl;rw[show nw=y.now from hnw.out] at y1))
 go_cut [] (fun wx=>Hid (∃vx,WSt wb W v wx vx (t++P++K++NW) d))
 case first=>
  by_cases hnow:y.now=true
  ·have H:Hid (NW=[32,105,109,109,101,100,105,97,116,101]):=by rw[Hid,hNW.out,hnow];rfl
   rw[hnow] at y1 ⊢
   go_wp2_with (go_at_call 56;refine (say1 S3.at_ [32,105,109,109,101,100,105,97,116,101] (by have:=HL.out;rw[H.out] at this;simp at this ⊢;omega)).mono ?_;rintro _ w4 ⟨rfl,hw4⟩;obtain ⟨v4,S4⟩:=S3.step hw4)
   go_meet
   exact ⟨v4,by rw[H.out];exact S4⟩
  ·replace hnow:y.now=false:=by simpa using hnow
   have H:Hid (NW=[]):=by rw[Hid,hNW.out,hnow];rfl
   rw[hnow] at y1 ⊢
   go_wp2_with fail
   go_meet
   exact ⟨v3,by rw[H.out,List.append_nil];exact S3⟩
 case rest=>
  obtain ⟨v4,S4⟩:=hcut.out
  clear hcut S1 S2 S3 y0 y1 hw1 hw3 hb2
  obtain ⟨y2,-⟩:=cel (S4.blk hb nb nv) 2 _ rfl
  go_upto_if 19 with fail
  go_cut [] (fun wx=>Hid (∃vx,WSt wb W v wx vx (t++P++K++NW++CT) d))
  case first=>
   by_cases hcn:Hid (y.cond=.nil)
   ·have H:Hid (CT=[]):=by rw[Hid,hCT.out,condT,hcn.out]
    obtain rfl:u=none:=by rw[hcn.out] at hp0;injection hp0
    go_wp2_with fail
    go_meet
    exact ⟨v4,by rw[H.out,List.append_nil];exact S4⟩
   ·obtain ⟨X,hX⟩:∃X,Hid (X=exprT y.cond 0):=⟨_,rfl⟩
    obtain ⟨a,rfl⟩:∃a,u=some a:=by
     cases he:y.cond with
     | nil=>exact absurd he hcn
     | node _ _ _ _ _=>rw[he] at hp0;obtain ⟨g',_,_,e,_⟩:=hp0;injection e with e;exact ⟨_,e⟩
    have hcd:∀z,condT { y with times:=z }=[32,105,102,32]++(if 1<z then [99,111,117,110,116,32]++itoa z++[32] else [])++X:=fun z=>by
     rw[hX.out]
     cases he:y.cond with
     | nil=>exact absurd he hcn
     | node _ _ _ _ _=>simp[condT]
    by_cases ht:1<y.times
    ·have H:Hid (CT=[32,105,102,32]++([99,111,117,110,116,32]++(itoa y.times++[32]))++X):=by
      rw[Hid,hCT.out];have:=hcd y.times;rw[if_pos ht] at this;rw[List.append_assoc [99,111,117,110,116,32]] at this;exact this
     have ht1:(1:Int)<(y.times:Int):=by omega
     have HLc:Hid (CT.length=4+(6+((itoa y.times).length+1))+X.length):=by rw[Hid,H.out];simp;omega
     have T1:Hid True:=trivial
     go_wp2_with (first
      | (go_at_call 56;clear T1;refine (say1 S4.at_ [32,105,102,32] (by have:=HL.out;have:=HLc.out;simp;omega)).mono ?_;rintro _ w5 ⟨rfl,hw5⟩;obtain ⟨v5,S5⟩:=S4.step hw5;obtain ⟨y3,-⟩:=cel (S5.blk hb nb nv) 3 _ rfl)
      | (go_at_call 86;refine (itoaN y.times HG.out.2.2.2 (S5.env hE0).pow).mono ?_;rintro _ w6 ⟨rfl,hb6⟩;have S6:=S5.below hb6)
      | (go_at_call 56;refine (say3 S6.at_ [99,111,117,110,116,32] (itoa y.times) [32] (by have:=HL.out;have:=HLc.out;simp;omega)).mono ?_;rintro _ w7 ⟨rfl,hw7⟩;obtain ⟨v7,S7⟩:=S6.step hw7;obtain ⟨y4,-⟩:=cel (S7.blk hb nb nv) 2 _ rfl)
      | (go_at_call 179;refine (expr_top HG.out.1 S7.at_ (hp0.carry S7.keep) (S7.env hE0) (by rw[<-hX.out];have:=HL.out;have:=HLc.out;simp;omega)).mono ?_;rintro _ w8 ⟨rfl,hw8⟩;rw[<-hX.out] at hw8;obtain ⟨v8,S8⟩:=S7.step hw8))
     go_meet
     exact ⟨v8,by rw[H.out];simpa [List.append_assoc] using S8⟩
    ·have H:Hid (CT=[32,105,102,32]++X):=by
      rw[Hid,hCT.out];have:=hcd y.times;rw[if_neg ht,List.append_nil] at this;exact this
     have ht1:¬(1:Int)<(y.times:Int):=by omega
     have HLc:Hid (CT.length=4+X.length):=by rw[Hid,H.out];simp;omega
     go_wp2_with (first
      | (go_at_call 56;refine (say1 S4.at_ [32,105,102,32] (by have:=HL.out;have:=HLc.out;simp;omega)).mono ?_;rintro _ w5 ⟨rfl,hw5⟩;obtain ⟨v5,S5⟩:=S4.step hw5;obtain ⟨y3,-⟩:=cel (S5.blk hb nb nv) 3 _ rfl;obtain ⟨y4,-⟩:=cel (S5.blk hb nb nv) 2 _ rfl)
      | (go_at_call 179;refine (expr_top HG.out.1 S5.at_ (hp0.carry S5.keep) (S5.env hE0) (by rw[<-hX.out];have:=HL.out;have:=HLc.out;simp;omega)).mono ?_;rintro _ w8 ⟨rfl,hw8⟩;rw[<-hX.out] at hw8;obtain ⟨v8,S8⟩:=S5.step hw8))
     go_meet
     exact ⟨v8,by rw[H.out];simpa [List.append_assoc] using S8⟩
  case rest=>
   obtain ⟨v5,S5⟩:=hcut.out
   clear hcut S4 y2
   obtain ⟨y4,-⟩:=cel (S5.blk hb nb nv) 4 _ rfl
   go_upto_if 39 with fail
   go_cut [] (fun wx=>Hid (∃vx,WSt wb W v wx vx (t++P++K++NW++CT++DT) d))
   case first=>
    by_cases hsn:Hid (y.sets=[])
    ·have H:Hid (DT=[]):=by rw[Hid,hDT.out,doesT,if_pos hsn.out]
     have hM0:M=0:=by rw[hM.out,hsn.out];rfl
     have hM1:¬(0:Int)<(M:Int):=by omega
     have hM2:¬0<M:=by omega
     clear hM0
     go_wp2_with fail
     go_meet
     exact ⟨v5,by rw[H.out,List.append_nil];exact S5⟩
    ·have H:Hid (DT=[32,100,111,32]++setsT y.sets):=by rw[Hid,hDT.out,doesT,if_neg (show ¬y.sets=[] from hsn)]
     have hM0:0<M:=by rw[hM.out];exact List.length_pos_iff.2 hsn
     have hM1:(0:Int)<(M:Int):=by omega
     have HLc:Hid (DT.length=4+(setsT y.sets).length):=by rw[Hid,H.out];simp;omega
     go_wp2_with (first
      | (go_at_call 56;refine (say1 S5.at_ [32,100,111,32] (by have:=HL.out;have:=HLc.out;simp;omega)).mono ?_;rintro _ w6 ⟨rfl,hw6⟩;obtain ⟨v6,S6⟩:=S5.step hw6;obtain ⟨y5,-⟩:=cel (S6.blk hb nb nv) 4 _ rfl)
      | (go_at_call 211;refine (wsets_any hsn HG.out.2.1 S6.at_ (S6.env hE0) (IsSets.carry S6.keep hq0.out) (by have:=HL.out;have:=HLc.out;simp;omega)).mono ?_;rintro _ w7 ⟨rfl,hw7⟩;obtain ⟨v7,S7⟩:=S6.step hw7))
     go_meet
     exact ⟨v7,by rw[H.out];simpa [List.append_assoc] using S7⟩
   case rest=>
    obtain ⟨v6,S6⟩:=hcut.out
    clear hcut S5 y4
    obtain ⟨y5,-⟩:=cel (S6.blk hb nb nv) 5 _ rfl
    go_upto_if 53 with (go_at_call 56;refine (say2 S6.at_ [32,45,45,62,32] y.to (by have:=HL.out;simp;omega)).mono ?_;rintro _ w7 ⟨rfl,hw7⟩;obtain ⟨v7,S7⟩:=S6.step hw7;obtain ⟨y6,-⟩:=cel (S7.blk hb nb nv) 6 (.bool bk) rfl;rw[show bk=y.back from hbkw.out] at y6)
    go_cut [] (fun wx=>Hid (∃vx,WSt wb W v wx vx (t++P++K++NW++CT++DT++([32,45,45,62,32]++y.to)++BK) d))
    case first=>
     by_cases hbk:y.back=true
     ·have H:Hid (BK=[32,104,105,115,116,111,114,121]):=by rw[Hid,hBK.out,hbk];rfl
      rw[hbk] at y6 ⊢
      go_wp2_with (go_at_call 56;refine (say1 S7.at_ [32,104,105,115,116,111,114,121] (by have:=HL.out;rw[H.out] at this;simp at this ⊢;omega)).mono ?_;rintro _ w8 ⟨rfl,hw8⟩;obtain ⟨v8,S8⟩:=S7.step hw8)
      go_meet
      exact ⟨v8,by rw[H.out];exact S8⟩
     ·replace hbk:y.back=false:=by simpa using hbk
      have H:Hid (BK=[]):=by rw[Hid,hBK.out,hbk];rfl
      rw[hbk] at y6 ⊢
      go_wp2_with fail
      go_meet
      exact ⟨v7,by rw[H.out,List.append_nil];exact S7⟩
    case rest=>
     obtain ⟨v8,S8⟩:=hcut.out
     clear hcut
     go_wp2_with (go_at_call 56;refine (say1 S8.at_ [59,10] (by have:=HL.out;simp;omega)).mono ?_;rintro _ w9 ⟨rfl,hw9⟩;obtain ⟨v9,S9⟩:=S8.step hw9)
     go_end0
     exact ⟨rfl,by have:=hleave _ _ _ S9;simpa [List.append_assoc] using this⟩
end
section
open Go.RowKit Go.Lib Go.Sort Px
set_option maxRecDepth 100000 in
set_option maxHeartbeats 4000000 in
theorem wvar_any {wb:Nat}{w:World}{v:Value}{t:Str}(y:Decl) (hy:GoodDecl y) (hW:WAt wb w v t 1) (hE:WEnv wb w) (hlim:t.length+(declT y).length≤140737488355328) :
    Calls Tryz.prog 59 #[.pointer (some ⟨wb,0,none⟩),.agg #[.int .i64 y.kind,.string ⟨y.name.toArray⟩,.int .i64 y.first]] w fun e' w'=>e'=.returned (.tuple #[])/\Wrote wb w v (t++declT y) 1 w':=by
 obtain ⟨K,hK⟩:∃K,Hid (K=kindT y.kind):=⟨_,rfl⟩
 obtain ⟨FT,hFT⟩:∃FT:Str,Hid (FT=if y.first≠0 then ([32,58,61,32]:Str)++itoa y.first else []):=⟨_,rfl⟩
 have HT:Hid (declT y=padT 1++(K++([32]++y.name))++FT++[59,10]):=by rw[Hid,declT,hK.out,hFT.out];simp[padT,List.append_assoc]
 rw[HT.out] at hlim ⊢
 have HL:Hid (t.length+2+(K.length+(1+y.name.length))+FT.length+2≤140737488355328):=by rw[Hid];simp[padT_len] at hlim;omega
 clear hlim
 obtain ⟨g1,g2,g3,g4⟩:=hy
 obtain ⟨S0,hb,nb,nv⟩:=hW.local #[.int .i64 y.kind,.string ⟨y.name.toArray⟩,.int .i64 y.first] 33
 have hleave:∀wk vk t',WSt wb (w.alloc (.cells #[.int .i64 y.kind,.string ⟨y.name.toArray⟩,.int .i64 y.first] 33)) v wk vk t' 1->Wrote wb w v t' 1 wk:=fun wk vk t' h=>h.leave hW
 have hE0:=((WSt.start hW).alloc (.cells #[.int .i64 y.kind,.string ⟨y.name.toArray⟩,.int .i64 y.first] 33)).env hE
 go_enter Tryz.func59,Tryz.ntmps59
 go_upto_region 1 with fail
 generalize w.alloc (.cells #[.int .i64 y.kind,.string ⟨y.name.toArray⟩,.int .i64 y.first] 33)=W at S0 hb hleave hE0 ⊢
 go_upto_region 2 with (go_at_call 103;refine (begin_any S0.at_ (by omega) (by have:=HL.out;rw[padT_len];omega)).mono ?_;rintro _ w1 ⟨rfl,hw1⟩;obtain ⟨v1,S1⟩:=S0.step hw1)
 have HS8:Hid (∀wk vk tk dk,WSt wb W v wk vk tk dk->wk.cell? ⟨w.heap.size,0,none⟩=some (.int .i64 y.kind)/\wk.cell? ⟨w.heap.size,1,none⟩=some (.string ⟨y.name.toArray⟩)):=fun wk vk tk dk h=>⟨(cel (h.blk hb nb nv) 0 _ rfl).1,(cel (h.blk hb nb nv) 1 _ rfl).1⟩
 have hS1:=HS8.out _ _ _ _ S1.drew
 go_region_held3 (fun w'=>w'.cell? ⟨w.heap.size,0,none⟩=some (.int .i64 y.kind)/\w'.cell? ⟨w.heap.size,1,none⟩=some (.string ⟨y.name.toArray⟩))
  (first|with_reducible exact hS3|with_reducible exact hS2|with_reducible exact hS1|go_keep)
  (first
   | (go_at_call 104;refine (wordOf_any g1 g2 (S1.drew.env hE0).tabs).mono ?_;rintro _ w2 ⟨rfl,hb2⟩;rw[<-hK.out];have S2:=S1.drew.below hb2;have hS2:=HS8.out _ _ _ _ S2)
   | (go_at_call 56;refine (say3 S2.at_ K [32] y.name (by have:=HL.out;simp[padT_len];omega)).mono ?_;rintro _ w3 ⟨rfl,hw3⟩;obtain ⟨v3,S3⟩:=S2.step hw3;have hS3:=HS8.out _ _ _ _ S3;obtain ⟨y2,-⟩:=cel (S3.blk hb nb nv) 2 _ rfl))
 go_upto_if 16 with fail
 go_cut [] (fun wx=>Hid (∃vx,WSt wb W v wx vx (t++padT 1++(K++([32]++y.name))++FT) 1))
 case first=>
  by_cases h0:y.first=0
  ·have H:Hid (FT=[]):=by rw[Hid,hFT.out,if_neg (by simp[h0])]
   rw[h0] at y2
   have hz:(y.first != 0)=false:=by simp[h0]
   try rw[hz]
   go_wp2_with fail
   go_meet
   exact ⟨v3,by rw[H.out,List.append_nil];exact S3⟩
  ·have H:Hid (FT=[32,58,61,32]++itoa y.first):=by rw[Hid,hFT.out,if_pos h0]
   have HLc:Hid (FT.length=4+(itoa y.first).length):=by rw[Hid,H.out];simp;omega
   go_wp2_with (first
    | (go_at_call 105;refine (formatInt y.first ⟨g3,g4⟩ (S3.env hE0).pow).mono ?_;rintro _ w4 ⟨rfl,hb4⟩;have S4:=S3.below hb4)
    | (go_at_call 56;refine (say2 S4.at_ [32,58,61,32] (itoa y.first) (by have:=HL.out;have:=HLc.out;simp[padT_len];omega)).mono ?_;rintro _ w5 ⟨rfl,hw5⟩;obtain ⟨v5,S5⟩:=S4.step hw5))
   go_meet
   exact ⟨v5,by rw[H.out];simpa [List.append_assoc] using S5⟩
 case rest=>
  obtain ⟨v5,S5⟩:=hcut.out
  clear hcut
  go_wp2_with (go_at_call 56;refine (say1 S5.at_ [59,10] (by have:=HL.out;simp[padT_len];omega)).mono ?_;rintro _ w6 ⟨rfl,hw6⟩;obtain ⟨v6,S6⟩:=S5.step hw6)
  go_end0
  exact ⟨rfl,by have:=hleave _ _ _ S6;simpa [List.append_assoc] using this⟩
set_option maxRecDepth 100000 in
set_option maxHeartbeats 4000000 in
theorem braced_print {wb:Nat}{w:World}{v c1 c2:Value}{t X:Str}{d:Nat}(hd:d≤900) (hW:WAt wb w v t d) (hlim:t.length+([32,123,10]++X++padT d++[125,10]).length≤140737488355328)
    (hin:∀w1 v1,WSt wb w v w1 v1 (t++[32,123,10]) (d+1)->Calls Tryz.prog 58 #[c1,c2] w1 fun e w2=>e=.returned (.tuple #[])/\Wrote wb w1 v1 (t++[32,123,10]++X) (d+1) w2) :
    Calls Tryz.prog 57 #[.pointer (some ⟨wb,0,none⟩),.func (.func 58) #[] #[c1,c2]] w fun e' w'=>e'=.returned (.tuple #[])/\Wrote wb w v (t++([32,123,10]++X++padT d++[125,10])) d w':=by
 have HL:Hid (t.length+3+X.length+(padT d).length+2≤140737488355328):=by rw[Hid];simp at hlim;omega
 have HI:Hid _:=hin
 have S0:=WSt.start hW
 have T1:Hid True:=trivial
 have T2:Hid True:=trivial
 have hw1:IntKind.i64.wrap ((d:Int)+1)=((d+1:Nat):Int):=wrap_small (by omega)
 have hw2:IntKind.i64.wrap (((d+1:Nat):Int)-1)=(d:Int):=by rw[IntKind.wrap_i64];omega
 obtain ⟨m,hm⟩:∃m,m=d+1:=⟨_,rfl⟩
 rw[<-hm] at hw1 hw2 HI
 clear hlim hin hm
 go_enter Tryz.func57,Tryz.ntmps57
 go_wp2_with (first
  | (go_at_call 56;clear T1;refine (say1 hW [32,123,10] (by have:=HL.out;simp;omega)).mono ?_;rintro _ w1 ⟨rfl,hw1'⟩;obtain ⟨v1,S1⟩:=S0.step hw1';obtain ⟨c1',z1⟩:=S1.cells;have S2:=S1.deep m)
  | (go_at_call 58;refine (HI.out _ _ S2).mono ?_;rintro _ w3 ⟨rfl,hw3⟩;obtain ⟨v3,S3⟩:=S2.step hw3;obtain ⟨c3,z3⟩:=S3.cells;have S4:=S3.deep d)
  | (go_at_call 103;refine (begin_any S4.at_ (by omega) (by have:=HL.out;simp;omega)).mono ?_;rintro _ w5 ⟨rfl,hw5⟩;obtain ⟨v5,S5⟩:=S4.step hw5)
  | (go_at_call 56;refine (say1 S5.at_ [125,10] (by have:=HL.out;simp;omega)).mono ?_;rintro _ w6 ⟨rfl,hw6⟩;obtain ⟨v6,S6⟩:=S5.step hw6))
 go_end0
 exact ⟨rfl,by have:=S6.out;simpa [List.append_assoc] using this⟩
set_option maxRecDepth 100000 in
set_option maxHeartbeats 4000000 in
theorem braced_regions {wb:Nat}{w:World}{v c1 c2:Value}{t X:Str}{d:Nat}(hd:d≤900) (hW:WAt wb w v t d) (hlim:t.length+([32,123,10]++X++padT d++[125,10]).length≤140737488355328)
    (hin:∀w1 v1,WSt wb w v w1 v1 (t++[32,123,10]) (d+1)->Calls Tryz.prog 106 #[c1,c2] w1 fun e w2=>e=.returned (.tuple #[])/\Wrote wb w1 v1 (t++[32,123,10]++X) (d+1) w2) :
    Calls Tryz.prog 57 #[.pointer (some ⟨wb,0,none⟩),.func (.func 106) #[] #[c1,c2]] w fun e' w'=>e'=.returned (.tuple #[])/\Wrote wb w v (t++([32,123,10]++X++padT d++[125,10])) d w':=by
 have HL:Hid (t.length+3+X.length+(padT d).length+2≤140737488355328):=by rw[Hid];simp at hlim;omega
 have HI:Hid _:=hin
 have S0:=WSt.start hW
 have T1:Hid True:=trivial
 have T2:Hid True:=trivial
 have hw1:IntKind.i64.wrap ((d:Int)+1)=((d+1:Nat):Int):=wrap_small (by omega)
 have hw2:IntKind.i64.wrap (((d+1:Nat):Int)-1)=(d:Int):=by rw[IntKind.wrap_i64];omega
 obtain ⟨m,hm⟩:∃m,m=d+1:=⟨_,rfl⟩
 rw[<-hm] at hw1 hw2 HI
 clear hlim hin hm
 go_enter Tryz.func57,Tryz.ntmps57
 go_wp2_with (first
  | (go_at_call 56;clear T1;refine (say1 hW [32,123,10] (by have:=HL.out;simp;omega)).mono ?_;rintro _ w1 ⟨rfl,hw1'⟩;obtain ⟨v1,S1⟩:=S0.step hw1';obtain ⟨c1',z1⟩:=S1.cells;have S2:=S1.deep m)
  | (go_at_call 106;refine (HI.out _ _ S2).mono ?_;rintro _ w3 ⟨rfl,hw3⟩;obtain ⟨v3,S3⟩:=S2.step hw3;obtain ⟨c3,z3⟩:=S3.cells;have S4:=S3.deep d)
  | (go_at_call 103;refine (begin_any S4.at_ (by omega) (by have:=HL.out;simp;omega)).mono ?_;rintro _ w5 ⟨rfl,hw5⟩;obtain ⟨v5,S5⟩:=S4.step hw5)
  | (go_at_call 56;refine (say1 S5.at_ [125,10] (by have:=HL.out;simp;omega)).mono ?_;rintro _ w6 ⟨rfl,hw6⟩;obtain ⟨v6,S6⟩:=S5.step hw6))
 go_end0
 exact ⟨rfl,by have:=S6.out;simpa [List.append_assoc] using this⟩
set_option maxRecDepth 100000 in
set_option maxHeartbeats 4000000 in
theorem braced_state {wb:Nat}{w:World}{v c1 c2:Value}{t X:Str}{d:Nat}(hd:d≤900) (hW:WAt wb w v t d) (hlim:t.length+([32,123,10]++X++padT d++[125,10]).length≤140737488355328)
    (hin:∀w1 v1,WSt wb w v w1 v1 (t++[32,123,10]) (d+1)->Calls Tryz.prog 148 #[c1,c2] w1 fun e w2=>e=.returned (.tuple #[])/\Wrote wb w1 v1 (t++[32,123,10]++X) (d+1) w2) :
    Calls Tryz.prog 57 #[.pointer (some ⟨wb,0,none⟩),.func (.func 148) #[] #[c1,c2]] w fun e' w'=>e'=.returned (.tuple #[])/\Wrote wb w v (t++([32,123,10]++X++padT d++[125,10])) d w':=by
 have HL:Hid (t.length+3+X.length+(padT d).length+2≤140737488355328):=by rw[Hid];simp at hlim;omega
 have HI:Hid _:=hin
 have S0:=WSt.start hW
 have T1:Hid True:=trivial
 have T2:Hid True:=trivial
 have hw1:IntKind.i64.wrap ((d:Int)+1)=((d+1:Nat):Int):=wrap_small (by omega)
 have hw2:IntKind.i64.wrap (((d+1:Nat):Int)-1)=(d:Int):=by rw[IntKind.wrap_i64];omega
 obtain ⟨m,hm⟩:∃m,m=d+1:=⟨_,rfl⟩
 rw[<-hm] at hw1 hw2 HI
 clear hlim hin hm
 go_enter Tryz.func57,Tryz.ntmps57
 go_wp2_with (first
  | (go_at_call 56;clear T1;refine (say1 hW [32,123,10] (by have:=HL.out;simp;omega)).mono ?_;rintro _ w1 ⟨rfl,hw1'⟩;obtain ⟨v1,S1⟩:=S0.step hw1';obtain ⟨c1',z1⟩:=S1.cells;have S2:=S1.deep m)
  | (go_at_call 148;refine (HI.out _ _ S2).mono ?_;rintro _ w3 ⟨rfl,hw3⟩;obtain ⟨v3,S3⟩:=S2.step hw3;obtain ⟨c3,z3⟩:=S3.cells;have S4:=S3.deep d)
  | (go_at_call 103;refine (begin_any S4.at_ (by omega) (by have:=HL.out;simp;omega)).mono ?_;rintro _ w5 ⟨rfl,hw5⟩;obtain ⟨v5,S5⟩:=S4.step hw5)
  | (go_at_call 56;refine (say1 S5.at_ [125,10] (by have:=HL.out;simp;omega)).mono ?_;rintro _ w6 ⟨rfl,hw6⟩;obtain ⟨v6,S6⟩:=S5.step hw6))
 go_end0
 exact ⟨rfl,by have:=S6.out;simpa [List.append_assoc] using this⟩
end
section
open Go.RowKit Go.Sort Px
end
end Go.Proofs.YtpogmfliojcnjaaGreatDoor
