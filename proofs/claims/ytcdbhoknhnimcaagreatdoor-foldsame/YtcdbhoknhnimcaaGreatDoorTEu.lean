import Derived.Test.YtcdbhoknhnimcaaGreatDoorTEq
set_option maxRecDepth 100000
set_option maxHeartbeats 16000000
namespace Go.Proofs.YtcdbhoknhnimcaaGreatDoor
section
open Go.RowKit Px
namespace Ew
open Px.Em (Kd Vr eL eM jG Rg cR)
open Nx (Nt Sp)
theorem Vq:(Tryz.prog.info? 271).map (fun i=>(i.zero,i.size,i.bytes))=some (some (.slice none 0 0),1,24):=by kernel_rfl
theorem aD8 (n:Nat):(madeCells (Value.cells (.slice none 0 0)) (n*1))=(List.replicate n (Value.slice none 0 0)).toArray:=by
 apply Array.toList_inj.1
 apply List.ext_getElem
 ·simp[madeCells]
 ·intro k h1 h2
  simp[madeCells,Value.cells,Nat.mod_one]
theorem Ol (w:World) (n:Nat) (hn:n≤1000000):(Instr.makeSlice 225 (.int .i64 (n:Int)) (.int .i64 (n:Int))).run Tryz.prog w=.ok (.slice (some ⟨w.heap.size,0,none⟩) n n) (w.alloc (.cells (List.replicate n (Value.slice none 0 0)).toArray 271)):=by
 obtain ⟨i0,hi,hz0,hz1,hz2⟩:=info_parts Vq
 have:=run_make (P:=Tryz.prog) w 225 271 i0 (.slice none 0 0) Tryz.underlying225 hi hz0 .i64 .i64 (n:Int) (n:Int) (by omega) (by omega) (by rw[hz2];omega) (by omega)
 rw[this,hz1]
 simp only[Int.toNat_natCast]
 rw[aD8]
theorem G2 {w:World}{b n:Nat}(h:w.heap[b]?=some (.cells (List.replicate n (Value.slice none 0 0)).toArray 271 (0,0))):vJ (fun x=>x=b) w b (List.replicate n []) 0:=by
 have hv:∀(i:Nat) (v:Value),(List.replicate n (Value.slice none 0 0))[i]?=some v->v=.slice none 0 0:=fun i v hv=>by
  rw[List.getElem?_replicate] at hv;split at hv;injection hv with hv;exact hv.symm;exact absurd hv (by simp)
 have hl:∀(i:Nat) (l:List (Int×Bool)),(List.replicate n ([]:List (Int×Bool)))[i]?=some l->l=[]:=fun i l hl=>by
  rw[List.getElem?_replicate] at hl;split at hl;injection hl with hl;exact hl.symm;exact absurd hl (by simp)
 refine ⟨⟨_,fun _=>0,h,by simp,fun i v l h1 h2=>?_,⟨rfl,rfl⟩,fun i v g h1 h2=>?_,fun i l h2=>?_⟩,fun x hx=>by rw[hx];exact aB h⟩
 ·rw[hv i v h1,hl i l h2];exact World.ownsRow_nil _ _ _ _
 ·rw[hv i v h1] at h2;simp[Value.ownBlock] at h2
 ·rw[hl i l h2];simp
def mU (E:Nat) (ns:List bB) (P T:Nat->Prop) (kb:Nat) (w:World) (k:Kd) (o:Option (Unit×Kd)) (e:Ending) (w':World):Prop:=
 (e=Sv/\Hid (o=none)/\Hid (bH (fun x=>P x\/T x) w w'))\/∃k',e=.returned (.tuple #[])/\Hid (o=some ((),k'))/\Hid (∃P1,eG E ns P1 w' kb k'/\(∀x,P1 x->Up P w w' x)/\bH (fun x=>P x\/T x) w w'/\k.net.places≤k'.net.places)
def Ll (A:Nat->Prop) (kb E:Nat) (ns:List bB) (d:Nat):Prop:=∀{P T:Nat->Prop}{w:World}{k:Kd}{r:Rg d}{g b:Nat}{here:Int}{t:cR}{c:Nat},eV A d w r g->eN ns d r->eG E ns P w kb k->vJ T w b t c->(∀x,P x->¬T x)->Ro A (fun x=>P x\/T x) w->t.length=(Em.aG d).size r->c≤2000000->
 Calls Tryz.prog 149 #[.pointer (some ⟨kb,0,none⟩),.pointer (some ⟨g,0,none⟩),.int .i64 here,.slice (some ⟨b,0,none⟩) ((Em.aG d).size r) ((Em.aG d).size r)] w (mU E ns P T kb w k ((Em.aG d).goOn r here t k))
section
variable {P T X P1 T1 A:Nat->Prop}{w wr w2:World}{kb b E c d:Nat}{ns:List bB}{k kj k2:Kd}{t:cR}
theorem mU.ran {w0:World}{o:Option (Unit×Kd)}{e:Ending}(hb:Below w0.heap.size w0 w) (hP:∀x,P x->x<w0.heap.size) (hT:∀x,T x->w0.heap.size≤x) (h:mU E ns P T kb w k o e w2):eY E ns P kb w0 k o (fun _=>.tuple #[]) e w2:=by
 have hs:=hb.size
 have hw:∀x,x<w0.heap.size->(P x\/T x)->P x:=fun x hx h=>h.elim id fun h=>absurd (hT x h) (by omega)
 rcases h with ⟨rfl,h1,h2⟩|⟨k',rfl,h1,h2⟩
 ·exact .inl ⟨rfl,h1,(bH.of_below hb).trans h2.out hw⟩
 ·obtain ⟨P1,p1,p2,p3,p4⟩:=h2.out
  have hf:bH P w0 w2:=(bH.of_below hb).trans p3 hw
  exact .inr ⟨(),k',rfl,h1,p1.mono (fun x hx=>(p2 x hx).elim .inl fun h=>.inr ⟨by omega,h.2⟩) (fL hP hf.size),hf,p4⟩
def Lo (s:eM (St d) (Rg d)) (c1 c2:List (eL×Int)×Int) (t:cR):Em.M cR:=
 if s.leaves=true then (Em.tN c1.2 c2.2 >>= fun gone=>Em.dG (Em.aG d) s.inside gone >>= fun _=>Em.uA gone s.drawn.leave >>= fun _=>Xo c1 c2 t) else Xo c1 c2 t
def Zi (s:eM (St d) (Rg d)) (c1:List (eL×Int)×Int) (t:cR) (on:Int):Em.M cR:=Em.uA on s.drawn.during >>= fun _=>Em.pF (Em.aG d) on s.inside >>= fun _=>Em.choose (Em.aG d) s on fB >>= fun c2=>Lo s c1 c2 t
def Xk (s:eM (St d) (Rg d)) (c1:List (eL×Int)×Int) (t:cR) (on0:Int):Em.M cR:=
 if Em.Cj s.drawn.rests=true\/on0=-1 then Zi s c1 t on0 else (Em.eK s.drawn.rests >>= fun x=>Em.bM 0 >>= fun z=>Em.made 17 x z on0 >>= fun on=>Zi s c1 t on)
theorem Fz {s:eM (St d) (Rg d)}{so:Int}:Em.eO (Em.aG d) s so t=(Em.choose (Em.aG d) s so fA >>= fun c1=>Em.dS so c1.2 >>= fun on0=>Xk s c1 t on0):=by
 unfold Em.eO Xk Zi Lo Xo fA fB
 rfl
theorem Jy {g:Rg d}{r:List (Rg d)}{on:Int}(h:on=-1\/(Em.aG d).idle g=true):Em.pF (Em.aG d) on (g::r) k=Em.pF (Em.aG d) on r k:=by rw[Em.pF,if_pos h]
theorem Vt {g:Rg d}{r:List (Rg d)}{on:Int}(h:¬(on=-1\/(Em.aG d).idle g=true)):Em.pF (Em.aG d) on (g::r) k=(Em.given on ((Em.aG d).there g) >>= fun h=>(Em.aG d).goOn g h (List.replicate ((Em.aG d).size g) []) >>= fun _=>Em.pF (Em.aG d) on r) k:=by rw[Em.pF,if_neg h]
theorem eV.cells:∀(d:Nat) {r:Rg d}{g:Nat},eV A d w r g->eN ns d r->A g/\∃ad cap vo fi lv,w.heap[g]?=some (.cells #[.slice ad ((Em.aG d).size r) cap,vo,.int .i64 fi,.int .i64 ((Em.aG d).there r),.bool ((Em.aG d).idle r),.bool lv] 223 (0,0))/\(Em.aG d).size r≤1000000
 | 0,_,_,h,_=>h.elim
 | d+1,r,g,h,hk=>by
  obtain ⟨gS,ad,cap,vo,h1,h2,_⟩:=h
  exact ⟨h2,ad,cap,vo,_,_,h1,Lp.n hk⟩
def aH3 (E:Nat) (ns:List bB) (P:Nat->Prop) (kb:Nat) (w:World) (k:Kd) (o:Option (Unit×Kd)) (e:Ending) (w':World):Prop:=
 (e=Sv/\Hid (o=none)/\Hid (bH P w w'))\/∃k',e=.returned (.tuple #[])/\Hid (o=some ((),k'))/\Hid (At E ns P kb w k w' k')
theorem mU.at {W W' w11 w12:World}{k11:Kd}{T':Nat->Prop}{o:Option (Unit×Kd)}{e:Ending}(hP:∀x,P x->x<wr.heap.size) (hb:Below wr.heap.size wr W) (h1:At E ns P kb W kj w11 k11) (hb2:Below w11.heap.size w11 W') (hT:∀x,T' x->wr.heap.size≤x) (h:mU E ns (Up P W w11) T' kb W' k11 o e w12):aH3 E ns P kb wr kj o e w12:=by
 have s0:=hb.size
 have s1:=h1.2.1.size
 have s2:=hb2.size
 have f1:bH P wr W':=((bH.of_below hb).trans h1.2.1 fun _ _ h=>h).trans (bH.of_below (P:=fun _=>False) hb2) fun _ _ h=>h.elim
 have hq:∀x,x<wr.heap.size->(Up P W w11 x\/T' x)->P x:=fun x hx h=>by
  rcases h with (h|h)|h
  ·exact h
  ·omega
  ·have:=hT x h;omega
 rcases h with ⟨rfl,h3,h4⟩|⟨k',rfl,h3,h4⟩
 ·exact .inl ⟨rfl,h3,f1.trans h4.out hq⟩
 ·obtain ⟨P1,p1,p2,p3,p4⟩:=h4.out
  have s3:=p3.size
  have f2:=f1.trans p3 hq
  refine .inr ⟨k',rfl,h3,p1.mono (fun x hx=>?_) (fL hP f2.size),f2,Int.le_trans h1.2.2 p4⟩
  rcases p2 x hx with (h|h)|h
  ·exact .inl h
  ·exact .inr ⟨by omega,by omega⟩
  ·exact .inr ⟨by omega,h.2⟩
theorem xT {W W' w11:World}{k11:Kd}{r:Rg d}{gr b':Nat}{here:Int}(ih:Ll A kb E ns d) (hP:∀x,P x->x<wr.heap.size) (hb:Below wr.heap.size wr W) (h1:At E ns P kb W kj w11 k11) (hb2:Below w11.heap.size w11 W') (hbb:wr.heap.size≤b'/\¬Up P W w11 b') (hO:W'.heap[b']?=some (.cells (Array.replicate ((Em.aG d).size r) (Value.slice none 0 0)) 271 (0,0))) (hR:Ro A P wr) (hrg:eV A d wr r gr) (hk:eN ns d r) :
    Calls Tryz.prog 149 #[.pointer (some ⟨kb,0,none⟩),.pointer (some ⟨gr,0,none⟩),.int .i64 here,.slice (some ⟨b',0,none⟩) ((Em.aG d).size r) ((Em.aG d).size r)] W' (aH3 E ns P kb wr kj ((Em.aG d).goOn r here (List.replicate ((Em.aG d).size r) []) k11)):=by
 have s0:=hb.size
 have s1:=h1.2.1.size
 have s2:=hb2.size
 have f1:bH P wr W':=((bH.of_below hb).trans h1.2.1 fun _ _ h=>h).trans (bH.of_below (P:=fun _=>False) hb2) fun _ _ h=>h.elim
 have kp:=hR.keep f1
 have hO:W'.heap[b']?=some (.cells (List.replicate ((Em.aG d).size r) (Value.slice none 0 0)).toArray 271 (0,0)):=by rw[hO,<-List.toArray_replicate]
 refine (ih (eV.carry d kp _ _ hrg) hk (h1.1.below hb2) (G2 hO) (fun x hx e=>hbb.2 (e▸hx)) (fun x hx=>⟨Nat.lt_of_lt_of_le (hR x hx).1 (by omega),?_⟩) (by simp) (by omega)).mono fun e w12 h=>h.at hP hb h1 hb2 fun x hx=>by rw[hx];exact hbb.1
 have:=(hR x hx).1
 rintro ((h|h)|h)
 ·exact (hR x hx).2 h
 ·omega
 ·omega
end
end Ew
end
section
open Go.RowKit Px
namespace Ew
open Px.Em (Kd Vr eL eM jG Rg cR)
open Nx (Nt Sp)
section
variable {P T X P1 T1 A:Nat->Prop}{w wr w2:World}{kb b E c d:Nat}{ns:List bB}{k kj k2:Kd}{t:cR}
theorem Two.trans {t':cR}{c':Nat}{P2 T2:Nat->Prop}(S:Two E ns P T (fun _=>False) kb b w k P1 T1 wr kj t c) (h2:Two E ns P1 T1 (fun _=>False) kb b wr kj P2 T2 w2 k2 t' c'):Two E ns P T (fun _=>False) kb b w k P2 T2 w2 k2 t' c':=by
 have hs:=S.fr.size
 have hs2:=h2.fr.size
 refine ⟨h2.cm,h2.im,h2.dis,fun x hx=>⟨?_,id⟩,fun x hx=>⟨?_,id⟩,fun _ h=>h.elim,S.fr.trans h2.fr fun x hx h=>?_,Int.le_trans S.pl h2.pl⟩
 ·rcases (h2.up x hx).1 with h|h
  ·exact Up.size hs2 x (S.up x h).1
  ·exact .inr ⟨by omega,h.2⟩
 ·rcases (h2.ut x hx).1 with h|h
  ·exact Up.size hs2 x (S.ut x h).1
  ·exact .inr ⟨by omega,h.2⟩
 ·rcases h with h|h
  ·exact (S.up x h).1.elim .inl fun h=>absurd h.1 (by omega)
  ·exact (S.ut x h).1.elim .inr fun h=>absurd h.1 (by omega)
theorem Two.ends {o:Option (Unit×Kd)}{c:Nat}(h:Two E ns P T (fun _=>False) kb b w k P1 T1 wr kj t c) (ho:o=some ((),kj)):mU E ns P T kb w k o (.returned (.tuple #[])) wr:=
 .inr ⟨kj,rfl,ho,P1,h.cm,fun x hx=>(h.up x hx).1,h.fr,h.pl⟩
def Sx (g:jG (St d) (Rg d)) (i:Nat) (r:List Nat) (t:cR) (so:Int):Em.M Unit:=
 if so=-1 then Em.bS (Em.aG d) g r t else
 match g.states[i]? with
 | none=>Em.thrown
 | some s=>Em.bM ((i:Int)+1) >>= fun x=>Em.put g.there so x >>= fun _=>Em.iJ (decide (0<s.inside.length)) (t.getD i []) (-1) >>= fun b=>Em.eU (Em.aG d) s so b t >>= fun t'=>Em.bS (Em.aG d) g r t'
theorem yU {g:jG (St d) (Rg d)}{i:Nat}{r:List Nat}:Em.bS (Em.aG d) g (i::r) t k=(Em.D2 (t.getD i []) (-1) >>= Sx g i r t) k:=by
 rw[Em.bS]
 refine congrFun (congrArg (fun f=>Em.D2 (t.getD i []) (-1) >>= f) (funext fun so=>?_)) k
 unfold Sx
 split
 ·rfl
 ·cases g.states[i]?<;>rfl
theorem Rh {g:jG (St d) (Rg d)}{i:Nat}{r:List Nat}{so:Int}(h:so=-1):Sx g i r t so k=Em.bS (Em.aG d) g r t k:=by unfold Sx;rw[if_pos h]
theorem Zu {g:jG (St d) (Rg d)}{i:Nat}{r:List Nat}{so:Int}{s:eM (St d) (Rg d)}(h:¬so=-1) (hs:g.states[i]?=some s):Sx g i r t so k=(Em.bM ((i:Int)+1) >>= fun x=>Em.put g.there so x >>= fun _=>Em.iJ (decide (0<s.inside.length)) (t.getD i []) (-1) >>= fun b=>Em.eU (Em.aG d) s so b t >>= fun t'=>Em.bS (Em.aG d) g r t') k:=by
 unfold Sx;rw[if_neg h,hs]
theorem Hx {a:Int×Bool}{r:List (Int×Bool)}{so:Int}:Em.D2 (a::r) so k=(Em.tN so a.1 >>= fun so'=>Em.D2 r so') k:=rfl
theorem vJ.at (h:vJ T w b t c) {i:Nat}{l:List (Int×Bool)}(hl:t[i]?=some l):∃v,w.cell? ⟨b,i,none⟩=some v/\ArM w v l/\(∀g,v.ownBlock=some g->T g)/\T b:=by
 obtain ⟨⟨vs,role,hI⟩,_⟩:=h
 have hi:i<vs.length:=by rw[hI.len];exact (List.getElem?_eq_some_iff.1 hl).1
 have hv:vs[i]?=some vs[i]:=List.getElem?_eq_getElem hi
 exact ⟨vs[i],aA hI.hb i (by rw[List.getElem?_toArray];exact hv),hI.row i _ l hv hl,fun g hg=>(hI.pr i _ g hv hg).1,hI.pb.1⟩
theorem xW {s:eM (St d) (Rg d)}{so back:Int}{t':cR}{k':Kd}(h:Em.eU (Em.aG d) s so back t k=some (t',k')):t'.length=t.length:=by
 rw[qT] at h
 obtain ⟨_,k1,_,h⟩:=cQ h
 obtain ⟨_,k2,_,h⟩:=cQ h
 obtain ⟨c1,k3,_,h⟩:=cQ h
 obtain ⟨on,k4,_,h⟩:=cQ h
 have h8:∀{c2:List (eL×Int)×Int}{k:Kd},Xo c1 c2 t k=some (t',k')->t'.length=t.length:=fun {c2 k} h=>by
  obtain ⟨t1,k5,h5,h6⟩:=cQ h
  rw[jO h6,jO h5]
 have h7:∀{c2:List (eL×Int)×Int}{k:Kd},Rb s c1 c2 t k=some (t',k')->t'.length=t.length:=fun {c2 k} h=>by
  unfold Rb at h
  split at h
  ·obtain ⟨_,_,_,h⟩:=cQ h
   obtain ⟨_,_,_,h⟩:=cQ h
   obtain ⟨_,_,_,h⟩:=cQ h
   exact h8 h
  ·exact h8 h
 have h5:∀{bk:Int}{k:Kd},Zr s c1 t on bk k=some (t',k')->t'.length=t.length:=fun {bk k} h=>by
  obtain ⟨_,_,_,h⟩:=cQ h
  obtain ⟨_,_,_,h⟩:=cQ h
  exact h7 h
 unfold Sw at h
 split at h
 ·exact h5 h
 ·obtain ⟨_,_,_,h⟩:=cQ h
  exact h5 h
theorem sL (hE:E<1000000) (ih:nV A kb E ns d) {r:jG (St d) (Rg d)}{g n:Nat}(hr:Lh A w (eV A d w) r g) (hk:Lp ns (eN ns d) r) (h:eG E ns P w kb k) (hI:vJ T w b t c) (hd:∀x,P x->¬T x) (hR:Ro A (fun x=>P x\/T x) w) (hn:t.length=n) (hnr:n=r.states.length) (hc:c≤3000000000000) :
    Calls Tryz.prog 205 #[.pointer (some ⟨kb,0,none⟩),.pointer (some ⟨g,0,none⟩),.slice (some ⟨b,0,none⟩) n n] w (mU E ns P T kb w k (Em.bS (Em.aG d) r r.order t k)):=by
 obtain ⟨Z,hZ⟩:∃Z,Z=Em.bS (Em.aG d) r r.order t k:=⟨_,rfl⟩
 have HZ:Hid (Z=Em.bS (Em.aG d) r r.order t k):=hZ
 rw[<-hZ]
 obtain ⟨gS,aS,cS,vo,hg,hAg,hS,⟨ao,go,co,rfl,hao,hord⟩,hst⟩:=hr
 obtain ⟨N,hN⟩:∃N,N=r.order.length:=⟨_,rfl⟩
 rw[<-hN] at hao
 rw[<-hnr] at hg hS
 rw[<-hN] at hg
 have g1:=aA hg 1 (u:=.slice ao N co) rfl
 have HN:Hid (N=r.order.length/\n=r.states.length/\Lp ns (eN ns d) r/\n≤1000000/\N≤1000000):=⟨hN,hnr,hk,by rw[hnr];exact hk.n,by rw[hN];exact hk.ol⟩
 have HO:Hid ((0<N->ao=some ⟨go,0,none⟩/\A go)/\∀j x:Nat,r.order[j]?=some x->w.cell? ⟨go,j,none⟩=some (.int .i64 (x:Int))):=⟨hao,hord⟩
 have HG:Hid (w.heap[g]?=some (.cells #[.slice aS n cS,.slice ao N co,.int .i64 r.first,.int .i64 r.there,.bool r.idle,.bool r.leaves] 223 (0,0))/\A g/\(0<n->aS=some ⟨gS,0,none⟩/\A gS)/\∀i s,r.states[i]?=some s->∃gd od,uG A w (eV A d w) gS (i*5) s gd od):=⟨hg,hAg,hS,hst⟩
 have HC:Hid (Two E ns P T (fun _=>False) kb b w k P T w k t c/\Ro A (fun x=>P x\/T x) w/\t.length=n/\nV A kb E ns d):=⟨Two.start h hI hd,hR,hn,ih⟩
 have hN6:(N:Int)≤1000000:=by have:=hk.ol;omega
 clear h hI hd hR hn hnr ih hk hg hAg hS hao hord hst hN hZ
 go_enter Tryz.func205,Tryz.ntmps205
 go_wp2_with fail
 clear g1
 go_loopg [16] N (fun f i wr=>∃(j:Nat) (kj:Kd) (tj:cR),f=N-j/\j≤N/\i=.int .i64 (j:Int)/\Hid (Z=Em.bS (Em.aG d) r (r.order.drop j) tj kj/\tj.length=n/\∃Pj Tj,Two E ns P T (fun _=>False) kb b w k Pj Tj wr kj tj (c+2000000*j)))
 case atStart=>exact ⟨0,k,t,by omega,by omega,rfl,HZ.out,HC.out.2.2.1,P,T,HC.out.1⟩
 case round=>
  obtain ⟨j,kj,tj,rfl,hj,rfl,hr⟩:=hrel
  obtain ⟨hr1,hr2,Pj,Tj,hT⟩:=hr.out
  by_cases hlt:j<N
  ·obtain ⟨i,hi⟩:∃i:Nat,r.order[j]?=some i:=⟨r.order[j]'(by rw[<-HN.out.1];exact hlt),List.getElem?_eq_getElem _⟩
   have hin:i<n:=by rw[HN.out.2.1];exact HN.out.2.2.1.o i (List.mem_of_getElem? hi)
   have kp:=hT.keep HC.out.2.1
   have hixo:=ixI ao go N co j hlt (fun hp=>(HO.out.1 hp).1)
   have o0:=cF kp (HO.out.1 (by omega)).2 (HO.out.2 j i hi)
   obtain ⟨l,hl⟩:∃l,tj[i]?=some l:=⟨_,List.getElem?_eq_getElem (by rw[hr2];exact hin)⟩
   obtain ⟨v,b0,hv,hvT,hTb⟩:=hT.im.at hl
   have hixa:=ixA b n n i hin
   obtain ⟨al,gl,cl,rfl,hml,hgl,hal⟩:=hv.open
   obtain ⟨L,hL⟩:∃L,L=l.length:=⟨_,rfl⟩
   rw[<-hL] at hml hgl b0 hvT
   have hl0:tj.getD i []=l:=by rw[List.getD_eq_getElem?_getD,hl];rfl
   have e0:Hid (Z=(Em.D2 (l.drop 0) (-1) >>= Sx r i (r.order.drop (j+1)) tj) kj):=by
    rw[Hid,hr1,dR hi,List.drop_zero,<-hl0];exact yU
   obtain ⟨cj,hcj⟩:∃cj,cj=c+2000000*j:=⟨_,rfl⟩
   have HCJ:Hid (cj=c+2000000*j/\cj≤6000000000000):=⟨hcj,by have:=HN.out.2.2.2.2;omega⟩
   rw[<-hcj] at hT
   have S0:Hid (Two E ns P T (fun _=>False) kb b w k Pj Tj wr kj tj cj):=hT
   have HV:Hid (ArM wr (.slice al L cl) l/\(∀g,(Value.slice al L cl).ownBlock=some g->Tj g)/\(0<L->al=some ⟨gl,0,none⟩/\(Value.slice al L cl).ownBlock=some gl)/\(∀(m:Nat) (a:Int×Bool),l[m]?=some a->wr.cell? ⟨gl,m*2,none⟩=some (.int .i64 a.1)/\wr.cell? ⟨gl,m*2+1,none⟩=some (.bool a.2))/\L=l.length/\tj.length=n/\tj.getD i []=l/\i<n/\tj[i]?=some l/\Tj b):=⟨by rw[hL];exact hv,hvT,by rw[hL] at hgl ⊢;exact hgl,hal,hL,hr2,hl0,hin,hl,hTb⟩
   have hL6:(L:Int)≤9223372036854775807:=by unfold maxLen at hml;omega
   have hi6:(i:Int)<1000000:=by have:=HN.out.2.2.2.1;omega
   clear hr hr1 hr2 hT kp hi hv hvT hgl hal hL hml hl0 hcj hl hTb
   go_wp2_with fail
   clear o0 hixo b0
   go_loopg [8,25] L (fun f sv i2 wm=>∃(m:Nat) (so:Int) (km:Kd),f=L-m/\m≤L/\sv=.int .i64 so/\i2=.int .i64 (m:Int)/\Hid (Z=(Em.D2 (l.drop m) so >>= Sx r i (r.order.drop (j+1)) tj) km/\∃Pm,Two E ns P T (fun _=>False) kb b w k Pm Tj wm km tj cj/\bH Pj wr wm/\∀x,Pm x->Up Pj wr wm x))
   case atStart=>exact ⟨0,-1,kj,by omega,by omega,rfl,rfl,e0.out,Pj,S0.out,bH.refl _ _,fun x hx=>.inl hx⟩
   case round=>
    obtain ⟨m,so,km,rfl,hm,rfl,rfl,hr⟩:=hrel
    obtain ⟨hr1,Pm,hT,hfr,hup⟩:=hr.out
    by_cases hltm:m<L
    ·obtain ⟨a,ha⟩:∃a:Int×Bool,l[m]?=some a:=⟨l[m]'(by rw[<-HV.out.2.2.2.2.1];exact hltm),List.getElem?_eq_getElem _⟩
     obtain ⟨c0,c1⟩:=HV.out.2.2.2.1 m a ha
     have hgv:=HV.out.2.2.1 (by omega)
     have hnp:¬Pj gl:=fun hp=>S0.out.dis gl hp (HV.out.2.1 gl hgv.2)
     have c0:=hfr.cell c0 hnp
     have c1:=hfr.cell c1 hnp
     have hix:=aE8 al gl L cl m hltm (fun _=>hgv.1)
     obtain ⟨Y,hY⟩:∃Y,Y=wr.alloc (.cells #[.int .i64 a.1,.bool a.2] 273):=⟨_,rfl⟩
     obtain ⟨q,hq⟩:∃q,q=wr.heap.size:=⟨_,rfl⟩
     have hbY:Below wr.heap.size wr Y:=by rw[hY];exact aC _ _
     have hkY:Y.heap[q]?=some (.cells #[.int .i64 a.1,.bool a.2] 273 (0,0)):=by rw[hY,hq];exact bE wr _
     have x0:=aA hkY 0 (u:=.int .i64 a.1) rfl
     have hTY:=hT.below hbY
     have hor:=oZ so a.1 hTY.cm hE
     have e1:Hid (Z=(Em.tN so a.1 >>= fun so'=>Em.D2 (l.drop (m+1)) so' >>= Sx r i (r.order.drop (j+1)) tj) km):=by
      refine hr1.trans ((eC (by rw[dR ha];exact Hx)).trans yE)
     have HY:Hid (Two E ns P T (fun _=>False) kb b w k Pm Tj Y km tj cj/\(∀w1,bH Pm Y w1->bH Pj _ w1/\∀x,Up Pm Y w1 x->Up Pj _ w1 x)):=⟨hTY,fun w1 hf=>by
      have s1:=hf.size
      have s2:=hbY.size
      have s3:=hfr.size
      refine ⟨(hfr.trans (bH.of_below (P:=fun _=>False) hbY) fun _ _ h=>h.elim).trans hf fun x hx h=>(hup x h).elim id fun h=>absurd h.1 (by omega),fun x hx=>?_⟩
      rcases hx with hx|hx
      ·exact Up.size (by omega) x (hup x hx)
      ·exact .inr ⟨by omega,hx.2⟩⟩
     clear hr hr1 hT hfr hup hbY hkY hTY hgv hnp ha
     go_upto_region 7 with fail
     rw[<-hY,<-hq]
     clear hY hq hix c0 c1
     go_wp2_with (go_at_call 239;refine hor.mono ?_;rintro e w1 (⟨rfl,h0,h1⟩|⟨x1,k1,rfl,h0,h1⟩);(· exact ⟨rfl,.inl ⟨rfl,e1.out.trans (aF h0.out),HY.out.1.bad h1.out⟩⟩))
     have HN2:Hid _:=And.intro (e1.out.trans (bind_some h0.out)) (And.intro (HY.out.1.coder h1.out) (HY.out.2 _ h1.out.2.1))
     clear h0 h1 hor
     go_roundg (L-(m+1))
     case measure=>omega
     case rel=>exact ⟨m+1,x1,k1,rfl,by omega,rfl,by go_num,HN2.out.1,_,HN2.out.2.1,HN2.out.2.2.1,HN2.out.2.2.2⟩
    ·obtain rfl:m=L:=by omega
     have e1:Hid (Z=Sx r i (r.order.drop (j+1)) tj so km):=by rw[Hid,hr1,HV.out.2.2.2.2.1,List.drop_length];rfl
     have S1:Hid (Two E ns P T (fun _=>False) kb b w k Pm Tj wr km tj cj):=hT
     by_cases hso:so=-1
     ·have t1:(so == -1)=true:=by simpa using hso
      have t2:(so != -1)=false:=by simp[hso]
      have HN2:Hid (Z=Em.bS (Em.aG d) r (r.order.drop (j+1)) tj km/\tj.length=n/\∃Pj Tj,Two E ns P T (fun _=>False) kb b w k Pj Tj wr km tj (c+2000000*(j+1))):=⟨e1.out.trans (Rh hso),HV.out.2.2.2.2.2.1,Pm,Tj,S1.out.more (by have:=HCJ.out.1;omega)⟩
      clear hr hr1 hT hfr hup hso
      go_wp2_with fail
      go_roundg (N-(j+1))
      case measure=>omega
      case rel=>exact ⟨j+1,km,tj,rfl,by omega,by go_num,HN2.out⟩
     ·have t1:(so == -1)=false:=by simpa using hso
      have t2:(so != -1)=true:=by simp[hso]
      obtain ⟨s,hs⟩:∃s:eM (St d) (Rg d),r.states[i]?=some s:=⟨_,List.getElem?_eq_getElem (by rw[<-HN.out.2.1];exact HV.out.2.2.2.2.2.2.2.1)⟩
      obtain ⟨gd,od,hse0⟩:=HG.out.2.2.2 i s hs
      have hSK:=HN.out.2.2.1.st s (List.mem_of_getElem? hs)
      rw[<-HN.out.2.1] at hSK
      obtain ⟨oS,hoS⟩:∃oS,oS=i*5:=⟨_,rfl⟩
      rw[<-hoS] at hse0
      have e2:Hid (Z=(Em.bM ((i:Int)+1) >>= fun x=>Em.put r.there so x >>= fun _=>Em.iJ (decide (0<s.inside.length)) l (-1) >>= fun b=>Em.eU (Em.aG d) s so b tj >>= fun t'=>Em.bS (Em.aG d) r (r.order.drop (j+1)) t') km):=by
       rw[Hid,<-HV.out.2.2.2.2.2.2.1];exact e1.out.trans (Zu hso hs)
      have hdr:Below wr.heap.size wr wr.drew:=⟨rfl,rfl,rfl,Nat.le_refl _,fun _ _=>rfl⟩
      have S2:Hid (Two E ns P T (fun _=>False) kb b w k Pm Tj wr.drew km tj cj):=hT.below hdr
      have kp:=S2.out.keep HC.out.2.1
      have hgb:=kC kp HG.out.2.1 HG.out.1
      have g3:wr.cell? ⟨g,3,none⟩=some (.int .i64 r.there):=aA hgb 3 rfl
      have hno:=nH (w:=wr.drew) i (by omega)
      have hnum:=dB (n:=(i:Int)+1) S2.out.cm hE (Fl (by omega))
      have HSE:Hid (uG A w (eV A d w) gS oS s gd od/\zA ns n (eN ns d) s):=⟨hse0,hSK⟩
      have hixs:=Pg aS gS n cS i HV.out.2.2.2.2.2.2.2.1 (fun hp=>(HG.out.2.2.1 hp).1)
      rw[<-hoS] at hixs
      clear hr hr1 hT hfr hup hso S1 e1 hs hse0 hSK hoS hdr kp hgb
      go_upto_region 10 with fail
      clear t1 t2
      go_region_law (first
       | (go_simp;go_at_call 199;refine hno.mono ?_;rintro e w00 ⟨rfl,h00⟩;obtain rfl:=h00.symm;clear hno)
       | (go_simp;go_at_call 235;refine hnum.mono ?_;rintro e w3 (⟨rfl,h0,h1⟩|⟨x3,k3,rfl,h0,h1⟩);(· exact ⟨rfl,.inl ⟨rfl,e2.out.trans (aF h0.out),S2.out.bad h1.out⟩⟩);obtain ⟨P3,S3⟩:∃P3,Hid (Two E ns P T (fun _=>False) kb b w k P3 Tj w3 k3 tj (cj)):=⟨_,S2.out.coder h1.out⟩;have e3:Hid _:=e2.out.trans (bind_some h0.out);clear h0 h1 hnum;have hput:=Ew.nE r.there so x3 S3.out.cm;have hg3:=aA (kC (S3.out.keep HC.out.2.1) HG.out.2.1 HG.out.1) 3 (u:=.int .i64 r.there) rfl)
       | (go_simp;go_at_call 242;refine hput.mono ?_;rintro e w4 (⟨rfl,h0,h1⟩|⟨_,k4,rfl,h0,h1⟩);(· exact ⟨rfl,.inl ⟨rfl,e3.out.trans (aF h0.out),S3.out.bad h1.out⟩⟩);obtain ⟨P4,S4⟩:∃P4,Hid (Two E ns P T (fun _=>False) kb b w k P4 Tj w4 k4 tj (cj)):=⟨_,S3.out.coder h1.out⟩;have e4:Hid _:=e3.out.trans (bind_some h0.out);clear h0 h1 hput))
      all_goals
       clear S2 e2 S3 e3 g3
       have hdr:Below w4.heap.size w4 w4.drew:=⟨rfl,rfl,rfl,Nat.le_refl _,fun _ _=>rfl⟩
       have S5:Hid (Two E ns P T (fun _=>False) kb b w k P4 Tj w4.drew k4 tj cj):=S4.out.below hdr
       have kp:=S5.out.keep HC.out.2.1
       have hgb:=kC kp HG.out.2.1 HG.out.1
       have g0:w4.cell? ⟨g,0,none⟩=some (.slice aS n cS):=aA hgb 0 rfl
       obtain ⟨v4,b4,hv4,hvT4,_⟩:=S5.out.im.at HV.out.2.2.2.2.2.2.2.2.1
       have b4':w4.cell? ⟨b,i,none⟩=some v4:=b4
       have hback:=Sb hE (HSE.out.1.carry kp (eV.carry d kp)) hv4 (fun x hx hp=>S5.out.dis x hp (hvT4 x hx)) S5.out.cm (S5.out.ro HC.out.2.1)
       obtain ⟨a4,g4,c4,rfl,_⟩:=hv4.open
       have e5:=e4
       clear S4 e4 hdr kp hgb b4 hv4 hvT4
       go_upto_region 11 with fail
       go_region_law (first
        | (go_simp;go_at_call 244;refine hback.mono ?_;rintro e w6 (⟨rfl,h0,h1⟩|⟨x6,k6,rfl,h0,h1⟩);(· exact ⟨rfl,.inl ⟨rfl,e5.out.trans (aF h0.out),S5.out.bad h1.out⟩⟩);obtain ⟨P6,S6⟩:∃P6,Hid (Two E ns P T (fun _=>False) kb b w k P6 Tj w6 k6 tj (cj)):=⟨_,S5.out.coder h1.out⟩;have e6:Hid _:=e5.out.trans (bind_some h0.out);clear h0 h1 hback;have kp:=S6.out.keep HC.out.2.1;have hg0:=aA (kC kp HG.out.2.1 HG.out.1) 0 (u:=.slice aS n cS) rfl;have hes:=xX (n:=n) (so:=so) (back:=x6) hE HC.out.2.2.2 (HSE.out.1.carry kp (eV.carry d kp)) HSE.out.2 S6.out.cm S6.out.im S6.out.dis (S6.out.roU HC.out.2.1) HV.out.2.2.2.2.2.1 HCJ.out.2;clear kp)
        | (go_simp;go_at_call 243;refine hes.mono ?_;rintro e w7 h7;rcases h7 with ⟨rfl,h0,h1⟩|⟨t7,k7,rfl,h0,P7,T7,h7⟩;(· exact ⟨rfl,.inl ⟨rfl,e6.out.trans (aF h0.out),S6.out.fr.trans h1.out fun x hx h=>by { rcases h with h|h;exact (S6.out.up x h).1.elim .inl (fun h=>absurd h.1 (by omega));exact (S6.out.ut x h).1.elim .inr (fun h=>absurd h.1 (by omega)) }⟩⟩);have HN7:Hid (Z=Em.bS (Em.aG d) r (r.order.drop (j+1)) t7 k7/\t7.length=n/\∃Pj Tj,Two E ns P T (fun _=>False) kb b w k Pj Tj w7 k7 t7 (c+2000000*(j+1))):=⟨e6.out.trans (bind_some h0.out),by { rw[xW h0.out];exact HV.out.2.2.2.2.2.1 },P7,T7,(S6.out.trans h7).more (by { have:=HCJ.out.1;omega })⟩;clear h0 h7 hes))
       all_goals
        clear S5 e5 S6 e6
        go_wp2_with fail
        go_roundg (N-(j+1))
        case measure=>omega
        case rel=>exact ⟨j+1,k7,t7,rfl,by omega,by go_num,HN7.out⟩
  ·obtain rfl:j=N:=by omega
   have HF:Hid (mU E ns P T kb w k Z (.returned (.tuple #[])) wr):=Two.ends hT (by rw[hr1,HN.out.1,List.drop_length];rfl)
   clear hr hr1 hr2 hT
   go_wp2_with fail
   go_end0
   exact HF.out
end
end Ew
end
section
open Go.RowKit Px
namespace Ew
open Px.Em (Kd Vr eL eM jG Rg cR)
open Nx (Nt Sp)
section
variable {P T X P1 T1 A:Nat->Prop}{w wr w2:World}{kb b E c d:Nat}{ns:List bB}{k kj k2:Kd}{t:cR}
theorem mU.up {o o2:Option (Unit×Kd)}{e:Ending}(S:Two E ns P T X kb b w k P1 T1 wr kj t c) (ho:o=o2) (h:mU E ns P1 T1 kb wr kj o2 e w2):mU E ns P T kb w k o e w2:=by
 subst ho
 have hs:=S.fr.size
 have hPT:∀x,x<w.heap.size->(P1 x\/T1 x)->(P x\/T x):=fun x hx h=>by
  rcases h with h|h
  ·exact (S.up x h).1.elim .inl fun h=>absurd h.1 (by omega)
  ·exact (S.ut x h).1.elim .inr fun h=>absurd h.1 (by omega)
 rcases h with ⟨rfl,h1,h2⟩|⟨k',rfl,h1,h2⟩
 ·exact .inl ⟨rfl,h1,S.fr.trans h2.out hPT⟩
 ·obtain ⟨P2,p1,p2,p3,p4⟩:=h2.out
  have hs2:=p3.size
  refine .inr ⟨k',rfl,h1,P2,p1,fun x hx=>?_,S.fr.trans p3 hPT,Int.le_trans S.pl p4⟩
  rcases p2 x hx with h|h
  ·exact Up.size hs2 x (S.up x h).1
  ·exact .inr ⟨by omega,h.2⟩
def enB (g:jG (St d) (Rg d)) (back:Int):Em.M cR:=if back=-1 then pure (List.replicate g.states.length []) else (Em.given back g.there >>= fun w=>Em.uW w g.states.length 0 (List.replicate g.states.length []))
theorem Re {g:jG (St d) (Rg d)}{so back:Int}(h:¬so=-1):Em.enter (Em.aG d) g so back=(enB g back >>= fun t=>Em.dS so back >>= fun f=>Em.bS (Em.aG d) g g.order (Em.dZ t g.first f false)):=by
 unfold Em.enter enB
 rw[if_neg h]
 by_cases h2:back=-1
 ·simp only[h2,if_true,pure_bind]
 ·simp only[h2,if_false,oD]
theorem El {was:Int}{m i:Nat}:Em.uW was (m+1) i t k=(Em.is was i >>= fun x=>Em.uW was m (i+1) (Em.dZ t i x true)) k:=rfl
theorem Dy (hE:E<1000000) (ih:nV A kb E ns d) {P:Nat->Prop}{w:World}{k:Kd}{r:jG (St d) (Rg d)}{g:Nat}{so back:Int}(hr:Lh A w (eV A d w) r g) (hk:Lp ns (eN ns d) r) (h:eG E ns P w kb k) (hR:Ro A P w) :
    Calls Tryz.prog 261 #[.pointer (some ⟨kb,0,none⟩),.pointer (some ⟨g,0,none⟩),.int .i64 so,.int .i64 back] w (eY E ns P kb w k (Em.enter (Em.aG d) r so back k) (fun _=>.tuple #[])):=by
 obtain ⟨Z,hZ⟩:∃Z,Z=Em.enter (Em.aG d) r so back k:=⟨_,rfl⟩
 rw[<-hZ]
 by_cases hso:so=-1
 ·have HF:Hid (eY E ns P kb w k Z (fun _=>.tuple #[]) (.returned (.tuple #[])) w):=At.ends (At.start h) (a:=()) (val:=fun _=>.tuple #[]) (by rw[hZ];unfold Em.enter;rw[if_pos hso];rfl)
  have t1:(so == -1)=true:=by simpa using hso
  clear h hR hr hk hZ hso ih
  go_enter Tryz.func261,Tryz.ntmps261
  go_wp2_with fail
  go_end0
  exact HF.out
 ·have t1:(so == -1)=false:=by simpa using hso
  have hr0:=hr
  obtain ⟨gS,aS,cS,vo,hg,hAg,hS,hord,hst⟩:=hr
  obtain ⟨n,hn⟩:∃n,n=r.states.length:=⟨_,rfl⟩
  rw[<-hn] at hg hS
  have g0:=aA hg 0 (u:=.slice aS n cS) rfl
  have hn6:n≤1000000:=by rw[hn];exact hk.n
  have hmk:∀W,(Instr.makeSlice 225 (.int .i64 (n:Int)) (.int .i64 (n:Int))).run Tryz.prog W=.ok (.slice (some ⟨W.heap.size,0,none⟩) n n) (W.alloc (.cells (List.replicate n (Value.slice none 0 0)).toArray 271)):=fun W=>Ol W n hn6
  obtain ⟨w1,hw1⟩:∃w1,w1=w.alloc (.cells (Array.replicate n (Value.slice none 0 0)) 271):=⟨_,rfl⟩
  obtain ⟨b,hb⟩:∃b,b=w.heap.size:=⟨_,rfl⟩
  have hb1:Below w.heap.size w w1:=by rw[hw1];exact aC _ _
  have hI1:vJ (fun x=>x=b) w1 b (List.replicate n []) 0:=G2 (by rw[hw1,hb,List.toArray_replicate];exact bE w _)
  have hC1:=h.below hb1
  have hd1:∀x,P x->¬x=b:=fun x hx e=>by have:=h.2.2 x hx;omega
  have kp1:aX A A w w1:=fun x hx hl=>⟨hx,hb1.block x hl⟩
  have hR1:Ro A (fun x=>P x\/x=b) w1:=fun x hx=>⟨Nat.lt_of_lt_of_le (hR x hx).1 hb1.size,fun hp=>hp.elim (hR x hx).2 fun e=>by have:=(hR x hx).1;omega⟩
  have LIFT:Hid (∀e w2,mU E ns P (fun x=>x=b) kb w1 k Z e w2->eY E ns P kb w k Z (fun _=>.tuple #[]) e w2):=fun e w2 hG=>mU.ran hb1 h.2.2 (fun x hx=>by rw[hx,hb];exact Nat.le_refl _) hG
  have HH:Hid (Lh A w1 (eV A d w1) r g/\Lp ns (eN ns d) r/\Ro A (fun x=>P x\/x=b) w1/\nV A kb E ns d/\n=r.states.length/\w1.heap[g]?=some (.cells #[.slice aS n cS,vo,.int .i64 r.first,.int .i64 r.there,.bool r.idle,.bool r.leaves] 223 (0,0))/\A g):=⟨hr0.carry kp1 (eV.carry d kp1),hk,hR1,ih,hn,kC kp1 hAg hg,hAg⟩
  have S1:Hid (Two E ns P (fun x=>x=b) (fun _=>False) kb b w1 k P (fun x=>x=b) w1 k (List.replicate n []) 0):=Two.start hC1 hI1 hd1
  have HZ:Hid (Z=(enB r back >>= fun t=>Em.dS so back >>= fun f=>Em.bS (Em.aG d) r r.order (Em.dZ t r.first f false)) k):=by rw[Hid,hZ,Re hso]
  obtain ⟨B,hB⟩:∃B,(back != -1)=B:=⟨_,rfl⟩
  have hB':(back == -1)=!B:=by rw[<-hB,bne,Bool.not_not]
  have HB:Hid (B=true↔back≠-1):=by rw[Hid,<-hB];simp
  have hn6i:(n:Int)≤1000000:=by omega
  clear h hR hr0 hk hZ hso ih hg hAg hS hord hst hn hb1 hI1 hC1 hd1 kp1 hR1
  go_enter Tryz.func261,Tryz.ntmps261
  go_upto_region 2 with fail
  rw[<-hw1,<-hb]
  clear hw1 hb g0 hmk t1
  go_upto_if 20 with fail
  clear hB hB'
  go_cut [] (fun wx=>∃(t:cR) (km:Kd),Hid (Z=(Em.dS so back >>= fun f=>Em.bS (Em.aG d) r r.order (Em.dZ t r.first f false)) km/\t.length=n/\∃Pm Tm,Two E ns P (fun x=>x=b) (fun _=>False) kb b w1 k Pm Tm wx km t 1000000))
  case first=>
   cases B with
   | false=>
    have he:back=-1:=Classical.byContradiction fun h=>absurd (HB.out.2 h) (by simp)
    have HN2:Hid (Z=(Em.dS so back >>= fun f=>Em.bS (Em.aG d) r r.order (Em.dZ (List.replicate n []) r.first f false)) k/\(List.replicate n ([]:List (Int×Bool))).length=n/\∃Pm Tm,Two E ns P (fun x=>x=b) (fun _=>False) kb b w1 k Pm Tm w1 k (List.replicate n []) 1000000):=⟨by rw[HZ.out];unfold enB;rw[if_pos he,HH.out.2.2.2.2.1];rfl,by simp,P,_,S1.out.more (by omega)⟩
    clear he
    go_wp2_with fail
    go_meet
    case rel=>exact ⟨_,_,HN2.out⟩
   | true=>
    have hne:=HB.out.1 rfl
    have g3:=aA HH.out.2.2.2.2.2.1 3 (u:=.int .i64 r.there) rfl
    have hgiven:=tW back r.there S1.out.cm hE
    have e1:Hid (Z=(Em.given back r.there >>= fun was=>Em.uW was n 0 (List.replicate n []) >>= fun t=>Em.dS so back >>= fun f=>Em.bS (Em.aG d) r r.order (Em.dZ t r.first f false)) k):=by
     rw[Hid,HZ.out]
     unfold enB
     rw[if_neg hne,<-HH.out.2.2.2.2.1]
     simp only[oD]
    clear hne
    go_upto_region 4 with (go_at_call 237;refine hgiven.mono ?_;rintro e w2 (⟨rfl,h0,h1⟩|⟨x2,k2,rfl,h0,h1⟩);(· exact ⟨rfl,LIFT.out _ _ (.inl ⟨rfl,e1.out.trans (aF h0.out),S1.out.bad h1.out⟩)⟩);obtain ⟨P2,S2⟩:∃P2,Hid (Two E ns P (fun x=>x=b) (fun _=>False) kb b w1 k P2 (fun x=>x=b) w2 k2 (List.replicate n []) (0)):=⟨_,S1.out.coder h1.out⟩;have e2:Hid _:=e1.out.trans (bind_some h0.out);clear h0 h1 hgiven)
    have g0:=aA (kC (S2.out.keep HH.out.2.2.1) HH.out.2.2.2.2.2.2 HH.out.2.2.2.2.2.1) 0 (u:=.slice aS n cS) rfl
    clear g3 S1 e1
    go_wp2_with fail
    clear g0
    go_loopg [33] n (fun f i wr=>∃(j:Nat) (kj:Kd) (tj:cR),f=n-j/\j≤n/\i=.int .i64 (j:Int)/\Hid (Z=(Em.uW x2 (n-j) j tj >>= fun t=>Em.dS so back >>= fun f=>Em.bS (Em.aG d) r r.order (Em.dZ t r.first f false)) kj/\tj.length=n/\∃Pj Tj,Two E ns P (fun x=>x=b) (fun _=>False) kb b w1 k Pj Tj wr kj tj j))
    case atStart=>exact ⟨0,k2,_,by omega,by omega,rfl,e2.out,by simp,P2,_,S2.out⟩
    case round=>
     obtain ⟨j,kj,tj,rfl,hj,rfl,hr⟩:=hrel
     obtain ⟨hr1,hr2,Pj,Tj,hT⟩:=hr.out
     by_cases hlt:j<n
     ·have S3:Hid (Two E ns P (fun x=>x=b) (fun _=>False) kb b w1 k Pj Tj wr kj tj j):=hT
      have his:=G1 x2 j (by omega) hT.cm hE
      have e3:Hid (Z=(Em.is x2 j >>= fun x=>Em.uW x2 (n-(j+1)) (j+1) (Em.dZ tj j x true) >>= fun t=>Em.dS so back >>= fun f=>Em.bS (Em.aG d) r r.order (Em.dZ t r.first f false)) kj):=by
       have hy:=El (k:=kj) (was:=x2) (m:=n-(j+1)) (i:=j) (t:=tj)
       rw[show n-(j+1)+1=n-j by omega] at hy
       exact hr1.trans ((eC hy).trans yE)
      have HL:Hid (tj.length=n):=hr2
      clear hr hr1 hr2 hT
      go_wp2_with (first
       | (go_at_call 204;refine his.mono ?_;rintro e w4 (⟨rfl,h0,h1⟩|⟨x4,k4,rfl,h0,h1⟩);(· exact ⟨rfl,LIFT.out _ _ (.inl ⟨rfl,e3.out.trans (aF h0.out),S3.out.bad h1.out⟩)⟩);obtain ⟨P4,S4⟩:∃P4,Hid (Two E ns P (fun x=>x=b) (fun _=>False) kb b w1 k P4 Tj w4 k4 tj (j)):=⟨_,S3.out.coder h1.out⟩;have e4:Hid _:=e3.out.trans (bind_some h0.out);clear h0 h1 his;have hadd:=sF (i:=j) x4 true S4.out.im (by rw[HL.out];exact hlt) (by omega);rw[HL.out] at hadd)
       | (go_at_call 148;refine hadd.mono ?_;rintro e w5 ⟨rfl,h5⟩;clear hadd))
      have HN5:Hid (Z=_/\(Em.dZ tj j x4 true).length=n/\∃Pj Tj,Two E ns P (fun x=>x=b) (fun _=>False) kb b w1 k Pj Tj w5 k4 (Em.dZ tj j x4 true) (j+1)):=⟨e4.out,by rw[mT];exact HL.out,_,_,S4.out.into h5.out.1 h5.out.2⟩
      clear h5 S3 S4 e3 e4
      go_roundg (n-(j+1))
      case measure=>omega
      case rel=>exact ⟨j+1,k4,_,rfl,by omega,by go_num,HN5.out⟩
     ·obtain rfl:j=n:=by omega
      have HN2:Hid (Z=(Em.dS so back >>= fun f=>Em.bS (Em.aG d) r r.order (Em.dZ tj r.first f false)) kj/\tj.length=j/\∃Pm Tm,Two E ns P (fun x=>x=b) (fun _=>False) kb b w1 k Pm Tm wr kj tj 1000000):=⟨by rw[hr1,Nat.sub_self];rfl,hr2,Pj,Tj,hT.more (by omega)⟩
      clear hr hr1 hr2 hT
      go_wp2_with fail
      go_meet
      case rel=>exact ⟨tj,kj,HN2.out⟩
  case rest=>
   obtain ⟨t,km,hc⟩:=hcut
   obtain ⟨hc1,hc2,Pm,Tm,hc3⟩:=hc.out
   have hdr:Below wc.heap.size wc wc.drew:=⟨rfl,rfl,rfl,Nat.le_refl _,fun _ _=>rfl⟩
   have S2:Hid (Two E ns P (fun x=>x=b) (fun _=>False) kb b w1 k Pm Tm wc.drew km t 1000000):=hc3.below hdr
   have e2:Hid (Z=(Em.dS so back >>= fun f=>Em.bS (Em.aG d) r r.order (Em.dZ t r.first f false)) km):=hc1
   have hgb:=kC (S2.out.keep HH.out.2.2.1) HH.out.2.2.2.2.2.2 HH.out.2.2.2.2.2.1
   obtain ⟨f0,hf0⟩:∃f0:Nat,r.first=(f0:Int):=⟨r.first.toNat,by have:=HH.out.2.1.f.1;omega⟩
   have HF0:Hid (r.first=(f0:Int)/\f0<n/\t.length=n):=⟨hf0,by have:=HH.out.2.1.f.2;have:=HH.out.2.2.2.2.1;omega,hc2⟩
   rw[hf0] at hgb
   have g2:wc.cell? ⟨g,2,none⟩=some (.int .i64 (f0:Int)):=aA hgb 2 rfl
   have hbn:=nQ so back S2.out.cm hE
   clear hc hc1 hc2 hc3 hdr hgb hf0 S1
   go_upto_region 9 with fail
   go_region_law (first
    | (go_simp;go_at_call 232;refine hbn.mono ?_;rintro e w3 (⟨rfl,h0,h1⟩|⟨x3,k3,rfl,h0,h1⟩);(· exact ⟨rfl,LIFT.out _ _ (.inl ⟨rfl,e2.out.trans (aF h0.out),S2.out.bad h1.out⟩)⟩);obtain ⟨P3,S3⟩:∃P3,Hid (Two E ns P (fun x=>x=b) (fun _=>False) kb b w1 k P3 Tm w3 k3 t (1000000)):=⟨_,S2.out.coder h1.out⟩;have e3:Hid _:=e2.out.trans (bind_some h0.out);clear h0 h1 hbn;have hadd:=sF (i:=f0) x3 false S3.out.im (by rw[HF0.out.2.2];exact HF0.out.2.1) (by omega);rw[HF0.out.2.2] at hadd;have hgk:=kC (S3.out.keep HH.out.2.2.1) HH.out.2.2.2.2.2.2 HH.out.2.2.2.2.2.1;rw[HF0.out.1] at hgk;have z2:=aA hgk 2 (u:=.int .i64 (f0:Int)) rfl;clear hgk)
    | (go_simp;go_at_call 148;refine hadd.mono ?_;rintro e w5 ⟨rfl,h5⟩;clear hadd))
   all_goals
    obtain ⟨T5,S5⟩:∃T5,Hid (Two E ns P (fun x=>x=b) (fun _=>False) kb b w1 k P3 T5 w5 k3 (Em.dZ t f0 x3 false) (1000000+1)):=⟨_,S3.out.into h5.out.1 h5.out.2⟩
    have e5:Hid (Z=Em.bS (Em.aG d) r r.order (Em.dZ t f0 x3 false) k3):=by rw[HF0.out.1] at e3;exact e3
    have kp:=S5.out.keep HH.out.2.2.1
    have hea:=sL (n:=n) hE HH.out.2.2.2.1 (HH.out.1.carry kp (eV.carry d kp)) HH.out.2.1 S5.out.cm S5.out.im S5.out.dis (S5.out.roU HH.out.2.2.1) (by rw[mT];exact HF0.out.2.2) HH.out.2.2.2.2.1 (by omega)
    clear kp h5 S2 S3 e2 e3 g2
    go_wp2_with (go_at_call 205;refine hea.mono ?_;rintro e w6 h6;rcases h6 with ⟨rfl,h0,h1⟩|⟨k6,rfl,h0,h1⟩;(· exact ⟨rfl,LIFT.out _ _ (mU.up S5.out e5.out (.inl ⟨rfl,h0,h1⟩))⟩))
    go_end0
    exact LIFT.out _ _ (mU.up S5.out e5.out (.inr ⟨k6,rfl,h0,h1⟩))
theorem zW (hE:E<1000000):∀d,nV A kb E ns d
 | 0=>fun h=>h.elim
 | d+1=>fun hr hk h hR=>Dy hE (zW hE d) hr hk h hR
end
end Ew
end
end Go.Proofs.YtcdbhoknhnimcaaGreatDoor
