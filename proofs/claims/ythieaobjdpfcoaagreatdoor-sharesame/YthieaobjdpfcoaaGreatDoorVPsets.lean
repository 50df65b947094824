import Derived.Test.YthieaobjdpfcoaaGreatDoorVPex
set_option maxRecDepth 100000
set_option maxHeartbeats 4000000
namespace Go.Proofs.YthieaobjdpfcoaaGreatDoor
open Go.Proofs.Tryz (prog)
section
open Go.RowKit Px
theorem kC {C:dV}{w:World}{i st ins und:Nat}(h:PS C w i st ins und) (tb:ByteArray) (c:Nat) (k:Hid (bP (bs tb)=c)):Calls prog 253 #[.string tb] w fun e w'=>e=.returned (.int .i64 c)/\PS C w' i st ins und/\Fr w.heap.size [] w w':=by
 refine (A9 tb w h.tab).mono ?_
 rintro e w' ⟨rfl,hb⟩
 have j:=Fr.of_below hb []
 exact ⟨by rw[k.out],h.same j,j⟩
theorem yS {C:dV}{k:Nat}(y:zU C k 5) (w:World) (i st ins und:Nat) (n:und+k=7) (h:PS C w i st ins und):Calls prog 226 #[.pointer (some ⟨C.rb,0,none⟩)] w (vU C (Vp C w st ins und) w (A5 C.L (one C.L k) 5 i)):=by
 have c:=y w i st ins und n h
 rw[show ((5-5:Nat):Int)=0 from rfl] at c
 go_enter Tryz.func226,Tryz.ntmps226
 go_wp2_with (go_at_call 242;refine c.mono ?_;rintro e w1 u;rcases u.cases with ⟨f,j,q,rfl,r⟩|⟨p,v,j,rfl,s,l⟩;(· exact ⟨rfl,by rw[j.out];exact ⟨q,rfl,r⟩⟩))
 go_ret
 rw[j.out]
 exact ⟨v,rfl,s,l⟩
theorem yZ {w:World}{c B n:Nat}{m:Int}{s:bE}{sb:ByteArray}(j:w.heap.size=n) (hB:B≤n) (h:sb=⟨s.toArray⟩) :
    jR (Ge B) (w.alloc (.cells #[.int .i64 c,.int .i64 m,.string sb,.pointer none,.pointer none] 307)) (.node 0 0 ⟨c,m,s⟩ .nil .nil) (.pointer (some ⟨n,0,none⟩)):=by
 subst j h
 exact ⟨w.heap.size,_,_,rfl,hB,heap_alloc_new w _,rfl,rfl⟩
theorem Xu {w:World}{c B n:Nat}{l:E}{h:Value}(s:w.heap.size=n) (hB:B≤n) (r:jR (Ge B) w l h) :
    jR (Ge B) (w.alloc (.cells #[.int .i64 c,.int .i64 0,.string ⟨#[]⟩,h,.pointer none] 307)) (Ua c l) (.pointer (some ⟨n,0,none⟩)):=by
 subst s
 have k:bB (Ge B) (Ge B) w (w.alloc (.cells #[.int .i64 c,.int .i64 0,.string ⟨#[]⟩,h,.pointer none] 307)):=fun b j hb=>⟨j,Below.heap_alloc _ _ _ hb⟩
 exact ⟨w.heap.size,h,_,rfl,hB,heap_alloc_new w _,r.carry k,rfl⟩
theorem PS.alloc {C:dV}{w:World}{i st ins und:Nat}(h:PS C w i st ins und) (o:Obj):PS C (w.alloc o) i st ins und/\Fr w.heap.size [C.rb] w (w.alloc o):=
 ⟨h.same ((Fr.refl _ _ _).alloc (aO4 _) _),(Fr.refl _ _ _).alloc (aO4 _) _⟩
theorem Qs {C:dV}:Vj C 0:=by
 intro w i st ins und j h
 obtain ⟨-,-,-,-,c4⟩:=h.cells
 have hb:=nZ h und 7 (by omega)
 go_enter Tryz.func249,Tryz.ntmps249
 go_wp2_with (go_at_call 107;refine hb.mono ?_;rintro e w1 ⟨q,rfl,c⟩;exact ⟨rfl,by rw[one];exact ⟨q,rfl,c⟩⟩)
theorem Lh {C:dV}{k:Nat}(ho:Vj C k) (w:World) (i st ins und:Nat) (hu:und+(k+1)=7) (h:PS C w i st ins und) (l:bP (tx C.L i)≠0):Calls prog 249 #[.pointer (some ⟨C.rb,0,none⟩)] w (vU C (Vp C w st ins und) w (one C.L (k+1) i)):=by
 obtain ⟨-,-,-,-,c4⟩:=h.cells
 obtain ⟨tb,U⟩:∃tb:ByteArray,Hid (bs tb=tx C.L i):=⟨⟨(tx C.L i).toArray⟩,rfl⟩
 obtain ⟨c,O⟩:∃c,Hid (bP (bs tb)=c):=⟨_,rfl⟩
 have u:Hid (bP (tx C.L i)=c):=by rw[Hid,<-U.out];exact O.out
 have hb:=fun w=>kD (C:=C) (w:=w) und 7 (by omega)
 have H0:Hid _:=l
 have D:tx C.L i≠[]:=by intro e;rw[e] at l;exact l (by decide)
 have af:=h.wf.next h.lt D
 have al:=h.wf.len
 rw[u.out] at l
 have aj:¬(c:Int)=0:=by omega
 have ak:((c:Int) != 0)=true:=by simpa using aj
 have HE:∀f,Hid (one C.L k (i+1)=.error f)->Hid (one C.L (k+1) i=.error f):=fun f hr=>by rw[Hid,one,if_pos H0.out,hr.out]
 have HO:∀e j,Hid (one C.L k (i+1)=.ok (e,j))->Hid (one C.L (k+1) i=.ok (Ua c e,j)):=fun e j hr=>by rw[Hid,one,if_pos H0.out,hr.out,u.out]
 clear D l
 go_enter Tryz.func249,Tryz.ntmps249
 go_wp2_with (first
  | (go_at_call 107;refine (hb _).mono ?_;rintro e w' ⟨rfl,hw⟩;obtain rfl:=hw.symm)
  | (go_at_call 106;refine (eI h tb U).mono ?_;rintro e w2 ⟨rfl,ad,ai⟩)
  | (go_at_call 253;refine (kC ad tb c O).mono ?_;rintro e w3 ⟨rfl,s,aa⟩;obtain ⟨-,d1,-,-,d4⟩:=s.cells;have z1:=s.frozen 1;have z4:=s.frozen 4;obtain ⟨ah,ae⟩:=s.step af;obtain ⟨ab,ac⟩:=ah.down;have n:=((ai.wide (X:=[C.rb])).up aa.wide).up (ae.up ac))
  | (go_at_call 249;refine (ho _ (i+1) st ins (und+1) (by omega) ab).mono ?_;rintro e w6 h6;rcases h6.cases with ⟨f,y,q,rfl,hq⟩|⟨⟨e6,i6⟩,v6,y,rfl,⟨Q,r⟩,I⟩;(· exact ⟨rfl,by rw[(HE _ y).out];exact aR.up n ⟨q,rfl,hq⟩⟩);obtain ⟨p6,rfl⟩:=Q.ptr;obtain ⟨-,-,-,-,b4⟩:=r.cells;have y4:=r.frozen 4;have l6:=r.lts.1))
 go_ret
 rw[(HO _ _ y).out]
 obtain ⟨ag,J⟩:=r.upAgain
 obtain ⟨Z,Y⟩:=ag.alloc (.cells #[.int .i64 c,.int .i64 0,.string ⟨#[]⟩,.pointer p6,.pointer none] 307)
 exact ⟨_,rfl,⟨Xu (by simp) (n.up I).size ((Q.ge n.size).carry (vD h.lts.1 J)),Z⟩,((n.up I).up J).up Y⟩
theorem Wx {C:dV}{k:Nat}(ai:zU C k 5) (w:World) (i st ins und:Nat) (hu:und+(k+1)=7) (h:PS C w i st ins und) (n:bP (tx C.L i)=0) (l:tx C.L i=Q4):Calls prog 249 #[.pointer (some ⟨C.rb,0,none⟩)] w (vU C (Vp C w st ins und) w (one C.L (k+1) i)):=by
 obtain ⟨-,-,-,-,c4⟩:=h.cells
 obtain ⟨tb,U⟩:∃tb:ByteArray,Hid (bs tb=tx C.L i):=⟨⟨(tx C.L i).toArray⟩,rfl⟩
 have ab:Hid (bP (bs tb)=0):=by rw[Hid,U.out];exact n
 have hb:=fun w=>kD (C:=C) (w:=w) und 7 (by omega)
 have HE:∀f,Hid (A5 C.L (one C.L k) 5 (i+1)=.error f)->Hid (one C.L (k+1) i=.error f):=fun f hr=>by rw[Hid,one,if_neg (by simp[n]),if_pos l,hr.out]
 have HO:∀e j,Hid (A5 C.L (one C.L k) 5 (i+1)=.ok (e,j))->Hid (one C.L (k+1) i=if tx C.L j=Fj then .ok (e,j+1) else .error (3,pl C.L j)):=fun e j hr=>by rw[Hid,one,if_neg (by simp[n]),if_pos l,hr.out]
 have HP:Hid _:=l
 clear n l
 go_enter Tryz.func249,Tryz.ntmps249
 go_wp2_with (first
  | (go_at_call 107;refine (hb _).mono ?_;rintro e w' ⟨rfl,hw⟩;obtain rfl:=hw.symm)
  | (go_at_call 106;refine (eI h tb U).mono ?_;rintro e w2 ⟨rfl,ae,ah⟩)
  | (go_at_call 253;refine (kC ae tb 0 ab).mono ?_;rintro e w3 ⟨rfl,ac,Z⟩)
  | (go_at_call 109;refine (dM ac ⟨#[40]⟩ HP.out (by decide)).mono ?_;rintro e w4 ⟨rfl,I,af⟩;obtain ⟨-,-,-,-,d4⟩:=I.cells;have z4:=I.frozen 4;obtain ⟨aa,ad⟩:=I.down;have r:=((ah.wide (X:=[C.rb])).up Z.wide).up (af.up ad))
  | (go_at_call 226;refine (yS ai _ (i+1) st ins (und+1) (by omega) aa).mono ?_;rintro e w6 h6;rcases h6.cases with ⟨f,s,q,rfl,hq⟩|⟨⟨e6,i6⟩,v6,s,rfl,⟨Q,y⟩,O⟩;(· exact ⟨rfl,by rw[(HE _ s).out];exact aR.up r ⟨q,rfl,hq⟩⟩);obtain ⟨p6,rfl⟩:=Q.ptr;obtain ⟨-,-,-,-,b4⟩:=y.cells;have y4:=y.frozen 4;obtain ⟨ag,u⟩:=y.upAgain)
  | (go_at_call 101;refine (cD ag ⟨#[41]⟩ Fj rfl (by decide)).mono ?_;rintro e w8 h8;rcases h8.cases with ⟨f,D,q,rfl,hq⟩|⟨_,v8,D,rfl,⟨rfl,Y⟩,J⟩;(· exact ⟨rfl,by
      rw[(HO _ _ s).out]
      have c:=D.out
      rw[wZ] at c
      split at c
      ·exact absurd c (by simp)
      ·rename_i hn
       rw[if_neg hn]
       injection c with c
       rw[c]
       exact aR.up ((r.up O).up u) ⟨q,rfl,hq⟩⟩)))
 go_ret
 have hn:tx C.L i6=Fj:=by
  have c:=D.out
  rw[wZ] at c
  split at c
  ·assumption
  ·exact absurd c (by simp)
 rw[(HO _ _ s).out,if_pos hn]
 exact ⟨_,rfl,⟨((Q.ge r.size).carry (vD h.lts.1 u)).carry (vD h.lts.1 J),Y⟩,((r.up O).up u).up J⟩
end
section
open Go.RowKit Px
def aI2 (a:Nat) (s:bE):Nat:=s.foldl (fun n c=>n*10+(c.toNat-48)) a
theorem aB6 (l:bE):∀(a:Nat),(∀c∈l,48≤c.toNat/\c.toNat≤57)->(a+1)*10 ^ l.length≤10 ^ 18->Lib.parseUintM (2 ^ 64-1) a l=.ok (aI2 a l)/\aI2 a l<10 ^ 18:=by
 induction l with
 | nil=>intro a _ h;exact ⟨rfl,by simp at h;show a<10 ^ 18;omega⟩
 | cons c r ih=>
  intro a hd h
  obtain ⟨s,n⟩:=hd c (by simp)
  have k:0<10 ^ r.length:=Nat.pow_pos (by decide)
  have e:(a+1)*10 ^ (c::r).length=((a+1)*10)*10 ^ r.length:=by rw[aV8,Nat.pow_succ];rw[Nat.mul_assoc,Nat.mul_comm (10 ^ r.length) 10]
  rw[e] at h
  have j:(a*10+(c.toNat-48)+1)*10 ^ r.length≤10 ^ 18:=aO6 (Nat.mul_le_mul_right _ (by omega)) h
  have u:(a+1)*10≤10 ^ 18:=aO6 (Nat.le_mul_of_pos_right _ k) h
  have hb:a*10+(c.toNat-48)+1≤10 ^ 18:=aO6 (Nat.le_mul_of_pos_right _ k) j
  have:=ih (a*10+(c.toNat-48)) (fun x hx=>hd x (by simp[hx])) j
  rw[Lib.parseUintM,if_pos ⟨s,n⟩,if_neg (by omega),if_neg (by omega)]
  exact this
theorem nW (l:bE) (h:l≠[]) (hd:∀c∈l,48≤c.toNat/\c.toNat≤57) (s:l.length≤18):Lib.parseIntB 64 l=.ok ((val l:Nat):Int)/\val l<10 ^ 18:=by
 have k:(0+1)*10 ^ l.length≤10 ^ 18:=by rw[aX3,Nat.one_mul];exact Nat.pow_le_pow_right (by decide) s
 obtain ⟨u,j⟩:=aB6 l 0 hd k
 refine ⟨?_,j⟩
 cases l with
 | nil=>exact absurd rfl h
 | cons c r=>
  obtain ⟨D,y⟩:=hd c (by simp)
  have e:Lib.parseUintB 64 (c::r)=.ok (val (c::r)):=by rw[Lib.parseUintB,if_neg (by simp)];exact u
  have n:val (c::r)<10 ^ 18:=j
  simp only[Lib.parseIntB]
  rw[if_neg (show ¬(c.toNat=43\/c.toNat=45) by omega),e]
  simp only
  rw[if_neg (by omega),if_neg (by omega),if_neg (by omega)]
section
variable {C:dV}{w:World}{i st ins und:Nat}
theorem dP (w:World) (i st ins und:Nat) (h:PS C w i st ins und):Calls prog 149 #[.pointer (some ⟨C.rb,0,none⟩)] w (vU C (fun (n:Nat) v w'=>v=.int .i64 n/\n<10 ^ 18/\PS C w' (i+1) st ins und) w (bS C.L i)):=by
 obtain ⟨c0,c1,-⟩:=h.cells
 obtain ⟨t0,t1,t2⟩:=h.now
 obtain ⟨l1,l2⟩:=h.lts
 have ad:(0:Int)≤(i:Int):=Int.natCast_nonneg _
 have ab:(i:Int)<(C.L.length:Int):=by have:=h.lt;omega
 have h6:=h.wf.len
 obtain ⟨tb,y⟩:∃tb:ByteArray,Hid (tb=⟨(tx C.L i).toArray⟩):=⟨_,rfl⟩
 have r:Hid (tb.data.toList=tx C.L i):=by rw[Hid,y.out]
 rw[sv,<-y.out] at t1
 by_cases hk:kd C.L i=2
 ·have c:((kd C.L i:Nat):Int)=2:=by omega
  rw[c] at t0
  have H:Hid (bS C.L i=.ok (val (tx C.L i))):=if_pos hk
  have I:=h.wf.nextk h.lt (by rw[hk];decide)
  obtain ⟨n1,Y,n3⟩:=h.wf.num i hk
  obtain ⟨U,O⟩:=nW _ n3 n1 Y
  obtain ⟨m,hm⟩:∃m,Hid (m=val (tx C.L i)):=⟨_,rfl⟩
  have ac:tb.size≤18:=by
   have:=congrArg List.length r.out
   rw[<-fP tb]
   exact aO6 (Nat.le_of_eq this) Y
  rw[<-hm.out,<-r.out] at U
  have J:=fun w=>Tryz.strconv_ParseInt_10_at64_ok tb (by omega) m U w
  clear U n1 Y n3 hk c
  go_enter Tryz.func149,Tryz.ntmps149
  go_wp2
  go_region
  obtain ⟨D,j⟩:=h.new (.cells #[.int .i64 2,.string tb,.int .i64 (pl C.L i)] 167)
  obtain ⟨e0,e1,Z⟩:=C7 w (.int .i64 2) (.string tb) (.int .i64 (pl C.L i)) 167
  generalize (w.alloc (.cells #[.int .i64 2,.string tb,.int .i64 (pl C.L i)] 167)).drew=w1 at D j e0 e1 Z ⊢
  clear c0 c1 t0 t1 t2 Z
  go_wp2_with (go_at_call 194;refine (J _).mono ?_;rintro e w2 ⟨rfl,s⟩;have Q:Below w1.heap.size w1 w2:=(by (rcases s with rfl|⟨t,rfl⟩;exact Below.refl _ _;exact Lib.bytesWorld_below _ _ _));clear s;have u:=Fr.of_below Q [];have l:=D.same u;obtain ⟨-,d1,-⟩:=l.cells;have z1:=l.frozen 1)
  go_ret
  rw[H.out]
  have k:=l.step I
  exact ⟨_,rfl,⟨by rw[<-hm.out];rfl,O,k.1⟩,((j.wide (X:=[C.rb])).up u.wide).up k.2⟩
 ·have c:¬((kd C.L i:Nat):Int)=2:=by omega
  have aa:(((kd C.L i:Nat):Int) != 2)=true:=by simpa using c
  have H:Hid (bS C.L i=.error (3,pl C.L i)):=if_neg hk
  clear hk
  go_enter Tryz.func149,Tryz.ntmps149
  go_wp2
  go_region
  obtain ⟨D,j⟩:=h.new (.cells #[.int .i64 (kd C.L i),.string tb,.int .i64 (pl C.L i)] 167)
  go_wp2_with (go_at_call 111;refine (gX D 3).mono ?_;rintro e w2 ⟨q,rfl,ht⟩)
  rw[H.out]
  exact ⟨rfl,aR.up j.wide ⟨q,rfl,ht⟩⟩
end
theorem bJ {L:List Lx.fQ}{s:bE}{i:Nat}{a:Unit}(h:Hid (wZ L s i=.ok a)):tx L i=s:=by
 have h:=h.out
 rw[wZ] at h
 split at h
 ·assumption
 ·exact absurd h (by simp)
theorem aV {L:List Lx.fQ}{s:bE}{i:Nat}{f:F}(h:Hid (wZ L s i=.error f)):tx L i≠s/\f=(3,pl L i):=by
 have h:=h.out
 rw[wZ] at h
 split at h
 ·exact absurd h (by simp)
 ·injection h with h;exact ⟨by assumption,h.symm⟩
theorem Ww {C:dV}{k:Nat}(w:World) (i st ins und:Nat) (hu:und+(k+1)=7) (h:PS C w i st ins und) (y:bP (tx C.L i)=0) (j:tx C.L i≠Q4) (hpre:tx C.L i=Rz):Calls prog 249 #[.pointer (some ⟨C.rb,0,none⟩)] w (vU C (Vp C w st ins und) w (one C.L (k+1) i)):=by
 obtain ⟨-,-,-,-,c4⟩:=h.cells
 obtain ⟨tb,Q⟩:∃tb:ByteArray,Hid (bs tb=tx C.L i):=⟨⟨(tx C.L i).toArray⟩,rfl⟩
 have ac:Hid (bP (bs tb)=0):=by rw[Hid,Q.out];exact y
 have hb:=fun w=>kD (C:=C) (w:=w) und 7 (by omega)
 have U:Hid (one C.L (k+1) i=if tx C.L (i+1)=Q4 then (match nm C.L (i+2) with | .error x=>.error x | .ok s=>if tx C.L (i+3)=Fj then .ok (tU 3 s,i+4) else .error (3,pl C.L (i+3))) else .error (3,pl C.L (i+1))):=by
  rw[Hid,one,if_neg (by simp[y]),if_neg j,if_pos hpre]
  split
  ·cases nm C.L (i+2)<;>rfl
  ·rfl
 have HP:Hid _:=j
 have HQ:Hid _:=hpre
 clear y j hpre
 have T1:Hid True:=trivial
 have T2:Hid True:=trivial
 go_enter Tryz.func249,Tryz.ntmps249
 go_wp2_with (first
  | (go_at_call 107;refine (hb _).mono ?_;rintro e w' ⟨rfl,hw⟩;obtain rfl:=hw.symm)
  | (go_at_call 106;refine (eI h tb Q).mono ?_;rintro e w2 ⟨rfl,af,aj⟩)
  | (go_at_call 253;refine (kC af tb 0 ac).mono ?_;rintro e w3 ⟨rfl,ad,Z⟩)
  | (go_at_call 109;clear T1;refine (cN ad ⟨#[40]⟩ HP.out).mono ?_;rintro e w4 ⟨rfl,ai,ag⟩)
  | (go_at_call 109;refine (dM ai ⟨#[112,114,101]⟩ HQ.out (by decide)).mono ?_;rintro e w5 ⟨rfl,aa,ae⟩;have l:=(((aj.wide (X:=[C.rb])).up Z.wide).up ag.wide).up ae)
  | (go_at_call 101;clear T2;refine (cD aa ⟨#[40]⟩ Q4 rfl (by decide)).mono ?_;rintro e w6 h6;rcases h6.cases with ⟨f,c,q,rfl,O⟩|⟨_,v6,c,rfl,⟨rfl,ab⟩,n⟩;(· exact ⟨rfl,by rw[U.out,if_neg (aV c).1,<-(aV c).2];exact aR.up l ⟨q,rfl,O⟩⟩))
  | (go_at_call 102;refine (eZ ab).mono ?_;rintro e w7 h7;rcases h7.cases with ⟨f,r,q,rfl,O⟩|⟨s7,v7,r,rfl,⟨rfl,ah⟩,D⟩;(· exact ⟨rfl,by rw[U.out,if_pos (bJ c),r.out];exact aR.up (l.up n) ⟨q,rfl,O⟩⟩);rw[sv];obtain ⟨Y,I⟩:=ah.alloc (.cells #[.int .i64 3,.int .i64 0,.string ⟨s7.toArray⟩,.pointer none,.pointer none] 307))
  | (go_at_call 101;refine (cD Y ⟨#[41]⟩ Fj rfl (by decide)).mono ?_;rintro e w9 h9;rcases h9.cases with ⟨f,u,q,rfl,O⟩|⟨_,v9,u,rfl,⟨rfl,ak⟩,J⟩;(· exact ⟨rfl,by rw[U.out,if_pos (bJ c),r.out];simp only;rw[if_neg (aV u).1,<-(aV u).2];exact aR.up (((l.up n).up D).up I) ⟨q,rfl,O⟩⟩)))
 go_ret
 rw[U.out,if_pos (bJ c),r.out]
 simp only
 rw[if_pos (bJ u)]
 have hv:jR (Ge w.heap.size) _ (tU 3 s7) (.pointer (some ⟨w7.heap.size,0,none⟩)):=yZ rfl ((l.up n).up D).size rfl
 exact ⟨_,rfl,⟨hv.carry (vD h.lts.1 J),ak⟩,(((l.up n).up D).up I).up J⟩
theorem Wz {C:dV}{k:Nat}(w:World) (i st ins und:Nat) (hu:und+(k+1)=7) (h:PS C w i st ins und) (j:bP (tx C.L i)=0) (c:tx C.L i≠Q4) (hpre:tx C.L i≠Rz) (u:kd C.L i=2):Calls prog 249 #[.pointer (some ⟨C.rb,0,none⟩)] w (vU C (Vp C w st ins und) w (one C.L (k+1) i)):=by
 obtain ⟨-,-,-,-,c4⟩:=h.cells
 obtain ⟨tb,s⟩:∃tb:ByteArray,Hid (bs tb=tx C.L i):=⟨⟨(tx C.L i).toArray⟩,rfl⟩
 have O:Hid (bP (bs tb)=0):=by rw[Hid,s.out];exact j
 have hb:=fun w=>kD (C:=C) (w:=w) und 7 (by omega)
 have HO:Hid (one C.L (k+1) i=.ok (Yh (val (tx C.L i)),i+1)):=by
  rw[Hid,one,if_neg (by simp[j]),if_neg c,if_neg hpre,if_pos u]
 have HN:Hid (bS C.L i=.ok (val (tx C.L i))):=if_pos u
 have HK:Hid _:=u
 have HP:Hid _:=c
 have HQ:Hid _:=hpre
 have ae:(0:Int)≤(i:Int):=Int.natCast_nonneg _
 have ad:(i:Int)<(C.L.length:Int):=by have:=h.lt;omega
 clear j c hpre u
 have T1:Hid True:=trivial
 go_enter Tryz.func249,Tryz.ntmps249
 go_wp2_with (first
  | (go_at_call 107;refine (hb _).mono ?_;rintro e w' ⟨rfl,hw⟩;obtain rfl:=hw.symm)
  | (go_at_call 106;refine (eI h tb s).mono ?_;rintro e w2 ⟨rfl,Y,ac⟩)
  | (go_at_call 253;refine (kC Y tb 0 O).mono ?_;rintro e w3 ⟨rfl,Q,J⟩)
  | (go_at_call 109;clear T1;refine (cN Q ⟨#[40]⟩ HP.out).mono ?_;rintro e w4 ⟨rfl,ab,Z⟩)
  | (go_at_call 109;refine (cN ab ⟨#[112,114,101]⟩ HQ.out).mono ?_;rintro e w5 ⟨rfl,l,U⟩;obtain ⟨d0,d1,-⟩:=l.cells;obtain ⟨t0,-,-⟩:=l.now;rw[HK.out] at t0))
 go_quiet (fail)
 have n:=(Fr.refl w5.heap.size [] w5).drewN nq
 have I:=l.same n
 go_wp2_with (go_at_call 149;refine (dP _ i st ins und I).mono ?_;rintro e w7 h7;rw[HN.out] at h7;obtain ⟨v7,rfl,⟨rfl,-,aa⟩,r⟩:=h7)
 go_ret
 rw[HO.out]
 obtain ⟨D,y⟩:=aa.alloc (.cells #[.int .i64 1,.int .i64 (val (tx C.L i)),.string ⟨#[]⟩,.pointer none,.pointer none] 307)
 have hF:=((((ac.wide (X:=[C.rb])).up J.wide).up Z.wide).up U.wide).up n.wide
 exact ⟨_,rfl,⟨yZ rfl (hF.up r).size rfl,D⟩,(hF.up r).up y⟩
theorem Qu {C:dV}{k:Nat}(w:World) (i st ins und:Nat) (hu:und+(k+1)=7) (h:PS C w i st ins und) (j:bP (tx C.L i)=0) (c:tx C.L i≠Q4) (hpre:tx C.L i≠Rz) (Y:kd C.L i≠2):Calls prog 249 #[.pointer (some ⟨C.rb,0,none⟩)] w (vU C (Vp C w st ins und) w (one C.L (k+1) i)):=by
 obtain ⟨-,-,-,-,c4⟩:=h.cells
 obtain ⟨tb,y⟩:∃tb:ByteArray,Hid (bs tb=tx C.L i):=⟨⟨(tx C.L i).toArray⟩,rfl⟩
 have U:Hid (bP (bs tb)=0):=by rw[Hid,y.out];exact j
 have hb:=fun w=>kD (C:=C) (w:=w) und 7 (by omega)
 have HE:∀f,Hid (nm C.L i=.error f)->Hid (one C.L (k+1) i=.error f):=fun f hr=>by rw[Hid,one,if_neg (by simp[j]),if_neg c,if_neg hpre,if_neg Y,hr.out]
 have HO:∀s,Hid (nm C.L i=.ok s)->Hid (one C.L (k+1) i=.ok (tU 2 s,i+1)):=fun s hr=>by rw[Hid,one,if_neg (by simp[j]),if_neg c,if_neg hpre,if_neg Y,hr.out]
 have J:¬((kd C.L i:Nat):Int)=2:=by omega
 have ah:(((kd C.L i:Nat):Int)==2)=false:=by simpa using J
 have HP:Hid _:=c
 have HQ:Hid _:=hpre
 have ai:(0:Int)≤(i:Int):=Int.natCast_nonneg _
 have ag:(i:Int)<(C.L.length:Int):=by have:=h.lt;omega
 clear j c hpre Y
 have T1:Hid True:=trivial
 go_enter Tryz.func249,Tryz.ntmps249
 go_wp2_with (first
  | (go_at_call 107;refine (hb _).mono ?_;rintro e w' ⟨rfl,hw⟩;obtain rfl:=hw.symm)
  | (go_at_call 106;refine (eI h tb y).mono ?_;rintro e w2 ⟨rfl,ab,af⟩)
  | (go_at_call 253;refine (kC ab tb 0 U).mono ?_;rintro e w3 ⟨rfl,Z,Q⟩)
  | (go_at_call 109;clear T1;refine (cN Z ⟨#[40]⟩ HP.out).mono ?_;rintro e w4 ⟨rfl,ae,ac⟩)
  | (go_at_call 109;refine (cN ae ⟨#[112,114,101]⟩ HQ.out).mono ?_;rintro e w5 ⟨rfl,l,aa⟩;obtain ⟨d0,d1,-⟩:=l.cells;obtain ⟨t0,-,-⟩:=l.now))
 go_quiet (fail)
 have r:=(Fr.refl w5.heap.size [] w5).drewN nq
 have O:=l.same r
 have hF:=((((af.wide (X:=[C.rb])).up Q.wide).up ac.wide).up aa.wide).up r.wide
 go_wp2_with (go_at_call 102;refine (eZ O).mono ?_;rintro e w7 h7;rcases h7.cases with ⟨f,n,q,rfl,hq⟩|⟨s7,v7,n,rfl,⟨rfl,ad⟩,u⟩;(· exact ⟨rfl,by rw[(HE _ n).out];exact aR.up hF ⟨q,rfl,hq⟩⟩);rw[sv])
 go_ret
 rw[(HO _ n).out]
 obtain ⟨I,D⟩:=ad.alloc (.cells #[.int .i64 2,.int .i64 0,.string ⟨s7.toArray⟩,.pointer none,.pointer none] 307)
 exact ⟨_,rfl,⟨yZ rfl (hF.up u).size rfl,I⟩,(hF.up u).up D⟩
theorem Qt {C:dV}{k:Nat}(l:Vj C k) (j:zU C k 5):Vj C (k+1):=by
 intro w i st ins und c h
 by_cases hc0:bP (tx C.L i)=0
 ·by_cases hpar:tx C.L i=Q4
  ·exact Wx j w i st ins und c h hc0 hpar
  ·by_cases hpre:tx C.L i=Rz
   ·exact Ww w i st ins und c h hc0 hpar hpre
   ·by_cases hk:kd C.L i=2
    ·exact Wz w i st ins und c h hc0 hpar hpre hk
    ·exact Qu w i st ins und c h hc0 hpar hpre hk
 ·exact Lh l w i st ins und c h hc0
theorem H9 {C:dV}{k:Nat}(c:Vj C k):∀t,t≤5->zU C k t:=by
 intro t
 induction t with
 | zero=>intro _;exact Gs c
 | succ t ih=>intro h;exact Gt (by omega) (ih (by omega))
theorem Xa {C:dV}:∀k,Vj C k:=by
 intro k
 induction k with
 | zero=>exact Qs
 | succ k ih=>exact Qt ih (H9 ih 5 (aO4 _))
theorem lN {C:dV}{w:World}{i st ins:Nat}(h:PS C w i st ins 0):Calls prog 226 #[.pointer (some ⟨C.rb,0,none⟩)] w (vU C (Vp C w st ins 0) w (eP C.L i)):=
 yS (H9 (Xa 7) 5 (aO4 _)) w i st ins 0 (by omega) h
end
section
open Go.RowKit
def sP (t:Lx.fQ):List Value:=[.int .i64 t.kind,.string ⟨t.text.toArray⟩,.int .i64 t.place]
def cells (l:List Lx.fQ):List Value:=l.flatMap sP
theorem zJ (l:List Lx.fQ) (t:Lx.fQ):cells (l++[t])=cells l++sP t:=by simp[cells]
theorem La {w w':World}{B e size n:Nat}{v:Value}{xs:List Value}(h:w.ownsRow B e size v n xs) (hb:Below w.heap.size w w'):w'.ownsRow B e size v n xs:=by
 refine ⟨h.1,?_⟩
 rcases h.2 with l|⟨g,cap,j,rfl,k,c,rest⟩
 ·exact .inl l
 ·exact .inr ⟨g,cap,j,rfl,k,by rw[hb.block g (Array.getElem?_eq_some_iff.1 c).1];exact c,rest⟩
theorem qB (w:World) (a b c:Value) (t:TypeId):∀j u,[a,b,c][j]?=some u->(w.alloc (.cells #[a,b,c] t)).cell? ((⟨w.heap.size,0,none⟩:Addr).add j)=some u:=by
 intro j u h
 match j,h with
 | 0,h=>simp at h;subst h;simp[Addr.add]
 | 1,h=>simp at h;subst h;simp[Addr.add]
 | 2,h=>simp at h;subst h;simp[Addr.add]
 | j+3,h=>simp at h
theorem cC {w:World}{b o:Nat}{v:Value}(h:w.cell? ⟨b,o,none⟩=some v):b<w.heap.size:=by
 rcases aY1 b w.heap.size with c|c
 ·exact c
 ·simp[World.cell?,Array.getElem?_eq_none c] at h
theorem lP.lt {w:World}(h:lP w):0<w.heap.size:=cC (h 0 (by decide))
theorem lP.below {w w':World}{B:Nat}(h:lP w) (hB:w.heap.size≤B) (hb:Below B w w'):lP w':=fun i hi=>by
 rw[hb.cell (p:=⟨0,i,none⟩) (aO5 h.lt hB)];exact h i hi
theorem Tryz.info167:(prog.info? 167).map (fun i=>(i.zero,i.size,i.bytes))=some (some (.agg #[.int .i64 0,.string ⟨#[]⟩,.int .i64 0]),3,32):=by kernel_rfl
theorem Nc (s:ByteArray) (w:World) (c:s.size≤1000000) :
 Calls prog 100 #[.string s] w fun e w'=>e=.returned (.string s)/\Below w.heap.size w w':=by
 go_enter Tryz.func100,Tryz.ntmps100
 go_wp2_with (go_at_call 147;refine (Tryz.stringslite_Clone s _ (by omega)).mono ?_;rintro e w' ⟨rfl,hb⟩)
 go_ret
 exact ⟨rfl,hb⟩
def Split (s:ByteArray) (w:World) (v err:Value) (w':World):Prop:=
 Below w.heap.size w w'/\
 ((∃l,Lx.Ok (bs s) l/\err=.nilIface/\w'.ownsRow w.heap.size 167 3 v (l.length+1) (cells (l++[⟨4,[],s.size⟩]))) \/
  (∃e q g,Lx.Bad (bs s) e q/\q≤s.size/\v=.slice none 0 0/\err=.iface 89 (.pointer (some ⟨g,0,none⟩))/\w.heap.size≤g/\w'.heap[g]?=some (.cells #[.int .i64 e,.int .i64 q] 91 (0,0))))
theorem aP {w:World}{B e size n:Nat}{v:Value}{xs:List Value}(h:w.ownsRow B e size v n xs):∃ao cap,v=.slice ao n cap:=by
 rcases h.2 with ⟨rfl,rfl⟩|⟨g,cap,c,rfl,_⟩
 ·exact ⟨none,0,rfl⟩
 ·exact ⟨_,cap,rfl⟩
theorem Hp (s:ByteArray) (a kd c j:Nat) (w:World) (r:s.size≤1000000) (n:a<s.size) (k:lP w) (h:Hid (Lx.rd ((bs s).drop a)=(kd,c))) (l:Hid (j=a+c)) :
 Calls prog 98 #[.string s,.int .i64 a] w fun e w'=>e=.returned (.tuple #[.int .i64 kd,.int .i64 j])/\w'=w:=by
 refine (Qa s a w r n k).mono ?_
 rintro e w' ⟨rfl,rfl⟩
 exact ⟨by rw[h.out,l.out],rfl⟩
theorem R9 (s:ByteArray) (a b:Nat):(s.extract a b).size≤s.size:=by
 rw[ByteArray.size_extract];omega
theorem Hl (a b:Int) (s:ByteArray):∀u∈[Value.int .i64 a,.string s,.int .i64 b],u.oneCell'=true:=by
 intro u c;simp at c;rcases c with rfl|rfl|rfl<;>rfl
theorem Dt {s:ByteArray}{w wr w1 w2:World}{l:List Lx.fQ}{k a kd c Y:Nat}{v v':Value}{o:Obj}(aa:Y=a+c) (Z:Lx.To (bs s) l k) (hn:l.length≤600) (ha:a=Lx.fO (bs s) k) (X:a<s.size)
    (O:Lx.rd ((bs s).drop a)=(kd,c)) (D:Lx.Mn kd c l.length=0) (n:Below w.heap.size w wr) (I:wr.ownsRow w.heap.size 167 3 v l.length (cells l)) (y:Below wr.heap.size wr w1)
    (u:w2.ownsRow w.heap.size 167 3 v' (l.length+1) (cells l++[.int .i64 kd,.string (s.extract a Y),.int .i64 a])) (hg:(w1.alloc o).grownBy w2 v.ownBlock) :
    ∃l':List Lx.fQ,Lx.To (bs s) l' Y/\l'.length≤600/\w2.ownsRow w.heap.size 167 3 v' l'.length (cells l')/\Below w.heap.size w w2/\0<c:=by
 subst aa
 have Q:kd≠0:=by
  intro h;rw[h] at D;simp[Lx.Mn] at D
 have h1:¬(kd=2/\18<c):=by
  intro h;rw[Lx.Mn,if_neg Q,if_pos h] at D;exact absurd D (by decide)
 have h2:¬600≤l.length:=by
  intro h;rw[Lx.Mn,if_neg Q,if_neg h1,if_pos h] at D;exact absurd D (by decide)
 have U:(Lx.rd ((bs s).drop a)).1=kd:=by rw[O]
 have e:(Lx.rd ((bs s).drop a)).2=c:=by rw[O]
 have st:=Lx.Yv Z ha (by rw[fP];exact X) (by rw[U];exact Q) (by rw[U,e];exact h1)
 rw[U,e] at st
 have r:=Lx.aB1 ((bs s).drop a) (by rw[U];exact Q)
 have J:=Lx.Qc ((bs s).drop a)
 rw[e] at r J
 rw[List.length_drop,fP] at J
 refine ⟨_,st,by simp;omega,?_,?_,r⟩
 ·have ec:sP ⟨kd,((bs s).drop a).take c,a⟩=[.int .i64 kd,.string (s.extract a (a+c)),.int .i64 a]:=by
   have:(⟨(((bs s).drop a).take c).toArray⟩:ByteArray)=s.extract a (a+c):=by
    have hx:=zL s a (a+c)
    rw[Nat.add_sub_cancel_left] at hx
    rw[<-hx]
   simp only[sP,this]
  rw[zJ,ec,aO9]
  exact u
 ·refine Below.grown ((n.trans (y.mono n.size)).alloc ?_ _) hg ?_ ?_
  ·exact aO6 n.size y.size
  ·have:=n.size;have:=y.size;simp;omega
  ·intro j hj;have:=(I.lt _ hj).1;omega
theorem D1 (s:ByteArray) (w:World) (hs:s.size≤1000000) (hm:lP w) :
 Calls prog 63 #[.string s] w fun e w'=>∃v err,e=.returned (.tuple #[v,err])/\Split s w v err w':=by
 obtain ⟨i0,hi,ab,af,ag⟩:=aZ1 Tryz.info167
 have U:=Lx.D3 (s:=bs s) (k:=0) (by omega)
 rw[fP] at U
 go_enter Tryz.func63,Tryz.ntmps63
 go_wp2_with (go_at_call 97;refine (F5 s 0 _ hs (by omega)).mono ?_;rintro e w' ⟨rfl,I⟩;obtain rfl:=I.symm)
 go_loopw [4,5] (fun v i wr=>∃(l:List Lx.fQ) (k a:Nat),Lx.To (bs s) l k/\l.length≤600/\Hid (a=Lx.fO (bs s) k)/\a≤s.size/\i=.int .i64 a/\wr.ownsRow w.heap.size 167 3 v l.length (cells l)/\Below w.heap.size w wr) (fun _ i _=>s.size-(intOf i).toNat)
 case atStart=>exact ⟨[],0,_,Lx.Yu _,by simp,rfl,U.2,rfl,aY7 _ _ _ _,Below.refl _ _⟩
 case round=>
  obtain ⟨l,k,a,Y,hn,ha,au,rfl,h,n⟩:=hrel
  obtain ⟨ao,cap,rfl⟩:=aP h
  have Z:=hm.below (aO4 _) n
  by_cases hlt:a<s.size
  ·obtain ⟨kd,J,D⟩:∃kd J,Hid (Lx.rd ((bs s).drop a)=(kd,J)):=⟨_,_,rfl⟩
   have aj:kd≤3:=by have:=Lx.Hr ((bs s).drop a);rw[D.out] at this;exact this
   have aw:a+J≤s.size:=by
    have:=Lx.Qc ((bs s).drop a);rw[D.out,List.length_drop,fP] at this;show a+J≤s.size;simp at this;omega
   obtain ⟨f,hf⟩:∃f,Hid (f=Lx.Mn kd J l.length):=⟨_,rfl⟩
   obtain ⟨y,u⟩:∃y,Hid (y=a+J):=⟨_,rfl⟩
   have an:a≤y:=by have:=u.out;omega
   have Q:y≤s.size:=by have:=u.out;omega
   have ah:∀w',Calls prog 99 #[.int .i64 kd,.int .i64 ((y:Int)-a),.int .i64 l.length] w' fun e al=>e=.returned (.int .i64 f)/\al=w':=fun w'=>by rw[hf.out,show (y:Int)-a=J by have:=u.out;omega];exact Ms kd J l.length w' aj (by omega) hn
   have aa:=Lx.D3 (s:=bs s) (k:=y) (by rw[fP];exact Q)
   rw[fP] at aa
   by_cases h0:f=0
   ·subst h0
    have ae:=n.size
    go_wp2_with (first
     | (go_at_call 98;refine (Hp s a kd J y _ hs hlt Z D u).mono ?_;rintro e w' ⟨rfl,I⟩;obtain rfl:=I.symm)
     | (go_at_call 99;refine (ah _).mono ?_;rintro e w' ⟨rfl,I⟩;obtain rfl:=I.symm)
     | (go_at_call 100;refine (Nc (s.extract a y) _ (aO6 (R9 s _ _) hs)).mono ?_;rintro e w1 ⟨rfl,O⟩;have av:=O.size)
     | (at_builtin;refine wpList_append_own _ rfl (.tmp 35) (.tmp 44) 116 rfl w.heap.size 167 i0 (.agg #[.int .i64 0,.string ⟨#[]⟩,.int .i64 0]) 3 32 Tryz.underlying116 hi ab af ag rfl (by decide) _ _ _ rfl ((La h O).alloc _) ⟨w1.heap.size,0,none⟩ 1 1 [.int .i64 kd,.string (s.extract a y),.int .i64 a] rfl rfl (qB _ _ _ _ _) (Hl _ _ _) (by unfold maxLen;omega) (by omega) (by simp;omega) ?_;intro v' w2 c r _;have X:Hid _:=Dt u.out Y hn ha.out hlt D.out hf.out.symm n h O c r;clear c r h n Z O)
     | (go_at_call 97;refine (F5 s y _ hs Q).mono ?_;rintro e w' ⟨rfl,I⟩;obtain rfl:=I.symm))
    obtain ⟨l',ac,ak,c,ad,ar⟩:=X.out
    have ai:a<y:=by have:=u.out;omega
    go_roundw
    case rel=>exact ⟨l',y,_,ac,ak,rfl,aa.2,rfl,c,ad⟩
    case measure=>simp[intOf];omega
   ·have am:¬(f:Int)=0:=by omega
    have ap:((f:Int) != 0)=true:=by simpa using am
    go_wp2_with (first|(go_at_call 98;refine (Hp s a kd J y _ hs hlt Z D u).mono ?_;rintro e w' ⟨rfl,I⟩;obtain rfl:=I.symm)|(go_at_call 99;refine (ah _).mono ?_;rintro e w' ⟨rfl,I⟩;obtain rfl:=I.symm))
    go_ret2
    refine ⟨_,_,rfl,n.alloc n.size _,.inr ⟨f,a,wr.heap.size,?_,by omega,rfl,rfl,n.size,heap_alloc_new _ _⟩⟩
    exact Lx.aH0 Y hn ha.out (by rw[fP];exact hlt) (by rw[D.out];exact hf.out) h0
  ·have ae:=n.size
   obtain rfl:a=s.size:=by omega
   go_wp2_with (at_builtin;refine wpList_append_own _ rfl (.tmp 49) (.tmp 52) 116 rfl w.heap.size 167 i0 (.agg #[.int .i64 0,.string ⟨#[]⟩,.int .i64 0]) 3 32 Tryz.underlying116 hi ab af ag rfl (by decide) _ _ _ rfl (h.alloc _) ⟨wr.heap.size,0,none⟩ 1 1 [.int .i64 4,.string ⟨#[]⟩,.int .i64 s.size] rfl rfl (qB _ _ _ _ _) (Hl _ _ _) (by unfold maxLen;omega) (by omega) (by simp;omega) ?_;intro v' w2 c r _)
   go_ret2
   refine ⟨_,_,rfl,?_,.inl ⟨l,?_,rfl,?_⟩⟩
   ·exact Below.grown (n.alloc ae _) r (by simp;omega) (fun j hj=>by have:=(h.lt _ hj).1;omega)
   ·exact Lx.aN5 Y hn (by rw[fP,<-ha.out];omega)
   ·rw[zJ];exact c
end
section
open Go.RowKit Px
theorem Tryz.info297:(prog.info? 297).map (fun i=>(i.zero,i.size,i.bytes))=some (some (.agg #[.string ⟨#[]⟩,.pointer none]),2,24):=by kernel_rfl
theorem jR.oneCell {A:Nat->Prop}{w:World}{e:E}{v:Value}(h:jR A w e v):v.oneCell'=true:=by
 obtain ⟨u,rfl⟩:=h.ptr;rfl
def kE (n:Nat) (v:Value) (b:Nat):Prop:=n≤b/\v.ownBlock≠some b
theorem sZ {B:Nat}{v v':Value}{w w1 w2:World}(hk:bB (kE B v) (kE B v) w w1) (hs:w.heap.size≤w1.heap.size) (hg:w1.grownBy w2 v.ownBlock) (hat:v'.ownBlock=v.ownBlock\/v'.ownBlock=some w1.heap.size):bB (kE B v) (kE B v') w w2:=fun b hb hlt=>by
 obtain ⟨h1,h2⟩:=hk b hb hlt
 refine ⟨⟨hb.1,?_⟩,?_⟩
 ·rcases hat with h|h
  ·rw[h];exact hb.2
  ·rw[h];intro e;injection e with e;omega
 ·rw[hg.block b (by omega) (fun e=>hb.2 e.symm),h2]
theorem Bj {B n:Nat}{v:Value}{w:World}(hB:B≤n) (hv:∀g,v.ownBlock=some g->g<n):bB (Ge n) (kE B v) w w:=fun b hb _=>
 ⟨⟨aO6 hB hb,fun e=>by have:=hv b e;simp[Ge] at hb;omega⟩,rfl⟩
theorem nF {B:Nat}{v:Value}{w:World}:bB (kE B v) (Ge B) w w:=fun _ hb _=>⟨hb.1,rfl⟩
theorem tJ {C:dV}{B:Nat}{v:Value}{w w':World}(hB:C.rb<B) (hf:Fr w.heap.size [C.rb] w w'):bB (kE B v) (kE B v) w w':=hf.keep (fun b hb=>by
 have:=hb.1;simp;omega)
theorem qM {C:dV}{B e size n:Nat}{v:Value}{xs:List Value}{w w':World}(h:w.ownsRow B e size v n xs) (hB:C.rb<B) (k:Fr w.heap.size [C.rb] w w'):w'.ownsRow B e size v n xs:=by
 refine ⟨h.1,?_⟩
 rcases h.2 with l|⟨g,cap,j,rfl,hb,c,rest⟩
 ·exact .inl l
 ·exact .inr ⟨g,cap,j,rfl,hb,by rw[k.block g (aB c) (by simp;omega)];exact c,rest⟩
structure mI (B:Nat) (w:World) (l:List iY) (v:Value) (xs:List Value):Prop where
 own:w.ownsRow B 297 2 v l.length xs
 rows:Rows (mT (kE B v) w) l xs
theorem mI.done {B:Nat}{w:World}{l:List iY}{v:Value}{xs:List Value}(h:mI B w l v xs):cJ (Ge B) w l v:=
 ⟨xs,⟨qN h.own,fun g hg=>(h.own.lt g hg).1⟩,h.rows.map (mT.carry nF)⟩
theorem mI.carry {C:dV}{B:Nat}{w w':World}{l:List iY}{v:Value}{xs:List Value}(h:mI B w l v xs) (hB:C.rb<B) (hf:Fr w.heap.size [C.rb] w w'):mI B w' l v xs:=
 ⟨qM h.own hB hf,h.rows.map (mT.carry (tJ hB hf))⟩
theorem PS.low {C:dV}{w w':World}{B i st ins und:Nat}(h:PS C w i st ins und) (hB:C.rb<B) (c:Fr B [] w w'):PS C w' i st ins und:=by
 have n:=h.gr
 have r:=h.hi
 have j:w'.heap[C.g]?=w.heap[C.g]?:=c.block _ (by omega) (by simp)
 refine ⟨by rw[c.block _ hB (by simp)];exact h.rd,fun k t l=>?_,h.tab.keep (fun b hb=>c.block b (by omega) (by simp)),h.lt,h.wf,h.gr,h.hi⟩
 have:=h.tk k t l
 rw[aY6 (w:=w) (a:=⟨C.g,k*3,none⟩) j,aY6 (w:=w) (a:=⟨C.g,k*3+1,none⟩) j,aY6 (w:=w) (a:=⟨C.g,k*3+2,none⟩) j]
 exact this
def Ty (C:dV) (w:World) (st ins:Nat) (p:List iY×Nat) (v:Value) (w':World):Prop:=(∃xs,mI w.heap.size w' p.1 v xs)/\p.1.length≤p.2/\PS C w' p.2 st ins 0
theorem V5 (w:World) (a b:Value) (t:TypeId):∀j u,[a,b][j]?=some u->(w.alloc (.cells #[a,b] t)).cell? ((⟨w.heap.size,0,none⟩:Addr).add j)=some u:=by
 intro j u c
 match j,c with
 | 0,c=>simp at c;subst c;simp[Addr.add]
 | 1,c=>simp at c;subst c;simp[Addr.add]
 | j+2,c=>simp at c
theorem qV {L:List Lx.fQ}{i j:Nat}{e:E}(h:Hid (eP L i=.ok (e,j))):i<j:=Fb (Qv 7) _ _ _ _ h.out
theorem Fr.up' {B:Nat}{X:List Nat}{w w1 w2:World}(h:Fr B X w w1) (k:Fr w1.heap.size X w1 w2) (hB:B≤w1.heap.size):Fr B X w w2:=h.trans (k.mono hB (fun _ hx _=>hx))
theorem Kn {C:dV}{B:Nat}{w wr w5 w6:World}{l:List iY}{v c:Value}{xs:List Value}{s:bE}{e:E}{p:Value}{o:Obj}(hB:C.rb<B) (u:B≤wr.heap.size) (h:mI B wr l v xs) (y:Fr wr.heap.size [C.rb] wr w5) (Q:Fr B [C.rb] w wr) (Z:jR (Ge wr.heap.size) w5 e p)
    (j:w6.ownsRow B 297 2 c (l.length+1) (xs++[sv s,p])) (n:(w5.alloc o).grownBy w6 v.ownBlock) (r:c.ownBlock=v.ownBlock\/c.ownBlock=some (w5.alloc o).heap.size) :
    mI B w6 (l++[⟨s,e⟩]) c (xs++[sv s,p])/\Fr B [C.rb] w w6:=by
 have D:=y.size
 have J:∀A:Nat->Prop,bB A A w5 (w5.alloc o):=fun A b Y hb=>⟨Y,Below.heap_alloc _ _ _ hb⟩
 have O:bB (kE B v) (kE B c) wr w6:=sZ ((tJ hB y).trans (J _) D) (by simp;omega) n r
 have I:∀g,v.ownBlock=some g->g<wr.heap.size:=fun g n=>(h.own.lt g n).2
 have X:bB (Ge wr.heap.size) (kE B c) w5 w6:=((Bj u I).trans (sZ (J _) (by simp) n r) (aO4 _))
 refine ⟨⟨by rw[aO9];exact j,(h.rows.map (mT.carry O)).append (Rows.one ⟨p,rfl,Z.carry X⟩)⟩,?_⟩
 exact ((Q.up' y u).alloc (by omega) o).grown n (by simp;omega) (fun k U=>.inl (h.own.lt k U).1)
theorem mW {C:dV}{w:World}{i st ins:Nat}(h:PS C w i st ins 0):Calls prog 225 #[.pointer (some ⟨C.rb,0,none⟩)] w (vU C (Ty C w st ins) w (sets C.L C.L.length [] i)):=by
 obtain ⟨i0,hi,al,an,aj⟩:=aZ1 Tryz.info297
 have hC:=h.lts.1
 go_enter Tryz.func225,Tryz.ntmps225
 go_wp2_with fail
 go_loopg [3] C.L.length (fun g v wr=>∃(l:List iY) (j:Nat) (xs:List Value),Hid (sets C.L C.L.length [] i=sets C.L g l j)/\C.L.length≤g+j/\l.length≤j/\mI w.heap.size wr l v xs/\PS C wr j st ins 0/\Fr w.heap.size [C.rb] w wr)
 case atStart=>exact ⟨[],i,[],rfl,by omega,by simp,⟨aY7 _ _ _ _,rfl⟩,h,Fr.refl _ _ _⟩
 case round=>
  obtain ⟨l,j,xs,y,hg,bc,hS,U,J⟩:=hrel
  obtain ⟨ao,cap,rfl⟩:=aP hS.own
  have az:=U.wf.len
  have ay:=U.lt
  have ag:=J.size
  obtain ⟨g',ak⟩:∃g',gk=g'+1:=⟨gk-1,by have:=U.lt;omega⟩
  subst ak
  have T1:Hid True:=trivial
  go_wp2_with (first
   | (go_at_call 102;refine (eZ U).mono ?_;rintro e w2 h2;rcases h2.cases with ⟨f,c,q,rfl,hq⟩|⟨s2,v2,c,rfl,⟨rfl,ai⟩,X⟩;(· exact ⟨rfl,by rw[y.out,sets,c.out];exact aR.up J ⟨q,rfl,hq⟩⟩);rw[sv])
   | (go_at_call 101;refine (cD ai ⟨#[58,61]⟩ rZ rfl (by decide)).mono ?_;rintro e w3 h3;rcases h3.cases with ⟨f,n,q,rfl,hq⟩|⟨_,v3,n,rfl,⟨rfl,ah⟩,ab⟩;(· exact ⟨rfl,by rw[y.out,sets,c.out];simp only;rw[if_neg (aV n).1,<-(aV n).2];exact aR.up (J.up X) ⟨q,rfl,hq⟩⟩))
   | (go_at_call 226;refine (lN ah).mono ?_;rintro e w4 h4;rcases h4.cases with ⟨f,D,q,rfl,hq⟩|⟨⟨e4,j4⟩,v4,D,rfl,⟨ad,ac⟩,ar⟩;(· exact ⟨rfl,by rw[y.out,sets,c.out];simp only;rw[if_pos (bJ n),D.out];exact aR.up ((J.up X).up ab) ⟨q,rfl,hq⟩⟩);obtain ⟨p4,rfl⟩:=ad.ptr;have ba:=qV D;have aw:=ac.lt;have Z:Fr wr.heap.size [C.rb] wr w4:=(X.up ab).up ar;have bb:=Z.size;have af:=ad.ge ((X.up ab).size))
   | (at_builtin;refine wpList_append_own_at _ rfl (.tmp 9) (.tmp 14) 219 rfl w.heap.size 297 i0 (.agg #[.string ⟨#[]⟩,.pointer none]) 2 24 Tryz.underlying219 hi al an aj rfl (by decide) _ _ _ rfl ((qM hS.own hC Z).alloc _) ⟨w4.heap.size,0,none⟩ 1 1 [.string ⟨s2.toArray⟩,.pointer p4] rfl rfl (V5 _ _ _ _) (by intro u hu;simp at hu;rcases hu with rfl|rfl<;>rfl) (by unfold maxLen;omega) (by omega) (by simp;omega) ?_;intro v5 w5 r O _ am;obtain ⟨aa,Q⟩:=Kn (s:=s2) (e:=e4) hC ag hS Z J af r O am;clear r;have ap:Fr w.heap.size [] w4 w5:=((Fr.refl _ _ _).alloc (by omega) _).grown O (by simp;omega) (fun k hk=>.inl (hS.own.lt k hk).1);have ae:=ac.low hC ap))
  have au:w5.ownsRow w.heap.size 297 2 v5 (l.length+1) (xs++[sv s2,.pointer p4]):=by have:=aa.own;rw[aO9] at this;exact this
  obtain ⟨ax,av,rfl⟩:=aP au
  by_cases hcm:tx C.L j4=Sb
  ·go_wp2_with (go_at_call 109;refine (dM ae ⟨#[44]⟩ hcm (by decide)).mono ?_;rintro e w6 ⟨rfl,Y,I⟩)
   go_roundg g'
   case measure=>omega
   case rel=>exact ⟨l++[⟨s2,e4⟩],j4+1,_,by rw[Hid,y.out,sets,c.out];simp only;rw[if_pos (bJ n),D.out];simp only;rw[if_pos hcm],by omega,by simp;omega,aa.carry hC I,Y,Q.up' I (by have:=Q.size;omega)⟩
  ·go_wp2_with (go_at_call 109;refine (cN ae ⟨#[44]⟩ hcm).mono ?_;rintro e w6 ⟨rfl,Y,I⟩)
   go_ret
   rw[y.out,sets,c.out]
   simp only
   rw[if_pos (bJ n),D.out]
   simp only
   rw[if_neg hcm]
   exact ⟨_,rfl,⟨⟨_,aa.carry hC I.wide⟩,by simp;omega,Y⟩,Q.up' I.wide (by have:=Q.size;omega)⟩
theorem Jw {C:dV}{w:World}{i st ins und:Nat}(h:PS C w i st ins und):Calls prog 241 #[.pointer (some ⟨C.rb,0,none⟩)] w (vU C (fun (n:Nat) v w'=>v=.int .i64 n/\PS C w' (i+1) st ins und) w (times C.L i)):=by
 rcases hn:bS C.L i with f|n
 ·have l:Hid _:=hn
  clear hn
  go_enter Tryz.func241,Tryz.ntmps241
  go_wp2_with (go_at_call 149;refine (dP _ i st ins und h).mono ?_;rintro e w1 k;rw[l.out] at k;obtain ⟨q,rfl,X⟩:=k;exact ⟨rfl,by rw[times,l.out];exact ⟨q,rfl,X⟩⟩)
 ·have l:Hid _:=hn
  clear hn
  by_cases hb:n<1\/1000<n
  ·have D:Hid (times C.L i=.error (4,pl C.L i)):=by rw[Hid,times,l.out];exact if_pos hb
   rcases hb with hb|hb
   ·have y:(n:Int)<1:=by omega
    go_enter Tryz.func241,Tryz.ntmps241
    go_wp2_with (first
     | (go_at_call 149;refine (dP _ i st ins und h).mono ?_;rintro e w1 k;rw[l.out] at k;obtain ⟨U,rfl,⟨rfl,r,c⟩,j⟩:=k;obtain ⟨-,c1,-⟩:=c.cells;have z1:=c.frozen 1;obtain ⟨u,s⟩:=c.back;have I:=c.wf.len;have O:=c.lt)
     | (go_at_call 111;refine (gX u 4).mono ?_;rintro e w3 ⟨q,rfl,J⟩))
    rw[D.out]
    exact ⟨rfl,aR.up (j.up s) ⟨q,rfl,J⟩⟩
   ·have y:¬(n:Int)<1:=by omega
    have Q:(1000:Int)<(n:Int):=by omega
    go_enter Tryz.func241,Tryz.ntmps241
    go_wp2_with (first
     | (go_at_call 149;refine (dP _ i st ins und h).mono ?_;rintro e w1 k;rw[l.out] at k;obtain ⟨U,rfl,⟨rfl,r,c⟩,j⟩:=k;obtain ⟨-,c1,-⟩:=c.cells;have z1:=c.frozen 1;obtain ⟨u,s⟩:=c.back;have I:=c.wf.len;have O:=c.lt)
     | (go_at_call 111;refine (gX u 4).mono ?_;rintro e w3 ⟨q,rfl,J⟩))
    rw[D.out]
    exact ⟨rfl,aR.up (j.up s) ⟨q,rfl,J⟩⟩
  ·have D:Hid (times C.L i=.ok n):=by rw[Hid,times,l.out];exact if_neg hb
   have y:¬(n:Int)<1:=by omega
   have Q:¬(1000:Int)<(n:Int):=by omega
   clear hb
   go_enter Tryz.func241,Tryz.ntmps241
   go_wp2_with (go_at_call 149;refine (dP _ i st ins und h).mono ?_;rintro e w1 k;rw[l.out] at k;obtain ⟨U,rfl,⟨rfl,r,c⟩,j⟩:=k)
   go_ret
   rw[D.out]
   exact ⟨_,rfl,⟨rfl,c⟩,j⟩
end
end Go.Proofs.YthieaobjdpfcoaaGreatDoor
