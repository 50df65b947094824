import Derived.Test.YtpogmfliojcnjaaGreatDoorSUe
import Derived.Test.YtpogmfliojcnjaaGreatDoorSCs5
import Derived.Deep.DeepCutAuto
namespace Go.Proofs.YtpogmfliojcnjaaGreatDoor
section
open Go.RowKit Px
abbrev Role:=Nat×Nat×Nat
abbrev Role.reg:Role:=(0,0,0)
abbrev Role.sts:Role:=(1,0,0)
abbrev Role.junk:Role:=(2,0,0)
abbrev Role.ways (i:Nat):Role:=(3,i,0)
abbrev Role.ins (i:Nat):Role:=(4,i,0)
abbrev Role.inner (i j:Nat):Role:=(5,i,j)
def pS (gS:Nat):Option Nat->Value
 | none=>.pointer none
 | some i=>.pointer (some ⟨gS,i*11,none⟩)
structure WMem (A:Nat->Prop) (w:World) (ns:List Str) (gS gW j:Nat) (y:Wy) (c:Int):Prop where
 way:∃p q,WayM A w gW (j*9) y p q
 dest:∃t,fnd ns y.to=some t/\w.cell? ⟨gW,j*9+7,none⟩=some (.pointer (some ⟨gS,t*11,none⟩))
 so:w.cell? ⟨gW,j*9+8,none⟩=some (.int .i64 c)
 fr:w.frozen? ⟨gW,j*9+8,none⟩=false
structure SMem {σ ρ:Type}(A:Nat->Prop) (w:World) (RM:(Nat->Prop)->List σ->ρ->Nat->Prop) (P:Nat->Prop) (role:Nat->Role) (ns:List Str) (gS i:Nat) (s:StF σ) (x:SdF ρ) (gW gI:Nat) (gr:Nat->Nat):Prop where
 c0:w.cell? ⟨gS,i*11,none⟩=some (sv s.name)
 c2:w.cell? ⟨gS,i*11+2,none⟩=some (.bool s.last)
 en:∃v,w.cell? ⟨gS,i*11+3,none⟩=some v/\IsSets A w s.enter v
 du:∃v,w.cell? ⟨gS,i*11+4,none⟩=some v/\IsSets A w s.during v
 le:∃v,w.cell? ⟨gS,i*11+5,none⟩=some v/\IsSets A w s.leave v
 re:∃p,w.cell? ⟨gS,i*11+6,none⟩=some (.pointer p)/\IsE A w s.rests (.pointer p)
 wy:∃ad cap,w.cell? ⟨gS,i*11+9,none⟩=some (.slice ad s.ways.length cap)/\(0<s.ways.length->ad=some ⟨gW,0,none⟩/\P gW/\role gW=Role.ways i)
 wl:x.so.length=s.ways.length
 wm:∀j y c,s.ways[j]?=some y->x.so[j]?=some c->WMem A w ns gS gW j y c
 iy:∃ad cap,w.cell? ⟨gS,i*11+10,none⟩=some (.slice ad s.regions.length cap)/\(0<s.regions.length->ad=some ⟨gI,0,none⟩/\P gI/\role gI=Role.ins i)
 il:x.inside.length=s.regions.length
 im:∀j r d,s.regions[j]?=some r->x.inside[j]?=some d->w.cell? ⟨gI,j,none⟩=some (.pointer (some ⟨gr j,0,none⟩))/\RM (fun b=>P b/\role b=Role.inner i j) r d (gr j)
structure Lie where
 gS:Nat
 gW:Nat->Nat
 gI:Nat->Nat
 gr:Nat->Nat->Nat
 role:Nat->Role
 fi:Nat
structure RMem {σ ρ:Type}(A:Nat->Prop) (w:World) (RM:(Nat->Prop)->List σ->ρ->Nat->Prop) (P:Nat->Prop) (L:List (StF σ)) (d:RdF ρ) (g:Nat) (l:Lie):Prop where
 hg:w.heap[g]?=some (.cells #[pS l.gS (some l.fi),pS l.gS d.there,pS l.gS d.was] 84 (0,0))
 hf:firstI L=some l.fi
 pg:P g/\l.role g=Role.reg
 ps:P l.gS/\l.role l.gS=Role.sts
 len:d.sts.length=L.length
 th:∀i,d.there=some i->i<L.length
 wa:∀i,d.was=some i->i<L.length
 st:∀i s x,L[i]?=some s->d.sts[i]?=some x->SMem A w RM P l.role (snames L) l.gS i s x (l.gW i) (l.gI i) (l.gr i)
def RegM (A:Nat->Prop):(k:Nat)->World->(Nat->Prop)->List (St k)->Rd k->Nat->Prop
 | 0=>fun _ _ _ _ _=>False
 | k+1=>fun w P L d g=>∃l,RMem A w (RegM A k w) P L d g l
section
variable {A P:Nat->Prop}{w w':World}
theorem WMem.keep {ns:List Str}{gS gW j:Nat}{y:Wy}{c:Int}(h:WMem A w ns gS gW j y c) (hA:∀b,A b->b<w.heap.size->w'.heap[b]?=w.heap[b]?) (hW:w'.heap[gW]?=w.heap[gW]?):WMem A w' ns gS gW j y c:=by
 obtain ⟨⟨p,q,h0,h1,h2,h3,h4,h5,h6,h7,h8⟩,⟨t,ht,h9⟩,h10,h11⟩:=h
 have kp:Keep A A w w':=fun b hb hlt=>⟨hb,hA b hb hlt⟩
 have hc:∀{o:Nat}{v:Value},w.cell? ⟨gW,o,none⟩=some v->w'.cell? ⟨gW,o,none⟩=some v:=fun {o v} hv=>by rw[World.cell?_of_block (w:=w) (a:=⟨gW,o,none⟩) hW];exact hv
 refine ⟨⟨p,q,hc h0,hc h1,hc h2,hc h3,hc h4,hc h5,hc h6,h7.carry kp,h8.carry kp⟩,⟨t,ht,hc h9⟩,hc h10,?_⟩
 have:w'.frozen? ⟨gW,j*9+8,none⟩=w.frozen? ⟨gW,j*9+8,none⟩:=by simp only[World.frozen?,hW]
 rw[this];exact h11
theorem SMem.keep {σ ρ:Type}{RM RM':(Nat->Prop)->List σ->ρ->Nat->Prop}{role:Nat->Role}{ns:List Str}{gS i:Nat}{s:StF σ}{x:SdF ρ}{gW gI:Nat}{gr:Nat->Nat}(h:SMem A w RM P role ns gS i s x gW gI gr) (hA:∀b,A b->b<w.heap.size->w'.heap[b]?=w.heap[b]?)
    (hS:w'.heap[gS]?=w.heap[gS]?) (hW:0<s.ways.length->w'.heap[gW]?=w.heap[gW]?) (hI:0<s.regions.length->w'.heap[gI]?=w.heap[gI]?) (hR:∀j r d,s.regions[j]?=some r->x.inside[j]?=some d->RM (fun b=>P b/\role b=Role.inner i j) r d (gr j)->RM' (fun b=>P b/\role b=Role.inner i j) r d (gr j)):SMem A w' RM' P role ns gS i s x gW gI gr:=by
 have kp:Keep A A w w':=fun b hb hlt=>⟨hb,hA b hb hlt⟩
 have hc:∀{o:Nat}{v:Value},w.cell? ⟨gS,o,none⟩=some v->w'.cell? ⟨gS,o,none⟩=some v:=fun {o v} hv=>by rw[World.cell?_of_block (w:=w) (a:=⟨gS,o,none⟩) hS];exact hv
 obtain ⟨c0,c2,⟨ve,e1,e2⟩,⟨vd,d1,d2⟩,⟨vl,l1,l2⟩,⟨p,p1,p2⟩,⟨aw,cw,w1,w2⟩,wl,wm,⟨ai,ci,i1,i2⟩,il,im⟩:=h
 refine ⟨hc c0,hc c2,⟨ve,hc e1,e2.carry kp⟩,⟨vd,hc d1,d2.carry kp⟩,⟨vl,hc l1,l2.carry kp⟩,⟨p,hc p1,p2.carry kp⟩,⟨aw,cw,hc w1,w2⟩,wl,fun j y c hy hc'=>?_,⟨ai,ci,hc i1,i2⟩,il,fun j r d hr hd=>?_⟩
 ·have hlt:j<s.ways.length:=(List.getElem?_eq_some_iff.1 hy).1
  exact (wm j y c hy hc').keep hA (hW (by omega))
 ·have hlt:j<s.regions.length:=(List.getElem?_eq_some_iff.1 hr).1
  obtain ⟨h1,h2⟩:=im j r d hr hd
  exact ⟨by rw[World.cell?_of_block (w:=w) (a:=⟨gI,j,none⟩) (hI (by omega))];exact h1,hR j r d hr hd h2⟩
theorem RegM.keep:∀(k:Nat) {P:Nat->Prop}{L:List (St k)}{d:Rd k}{g:Nat},RegM A k w P L d g->(∀b,A b->b<w.heap.size->w'.heap[b]?=w.heap[b]?)->(∀b,P b->w'.heap[b]?=w.heap[b]?)->RegM A k w' P L d g:=by
 intro k
 induction k with
 | zero=>intro P L d g h _ _;exact h.elim
 | succ k ih=>
  intro P L d g h hA hP
  obtain ⟨l,h⟩:=h
  refine ⟨l,⟨by rw[hP g h.pg.1];exact h.hg,h.hf,h.pg,h.ps,h.len,h.th,h.wa,fun i s x hs hx=>?_⟩⟩
  have hm:=h.st i s x hs hx
  exact hm.keep hA (hP _ h.ps.1) (fun hw=>hP _ (hm.wy.elim fun _ ⟨_,_,h⟩=>(h hw).2.1)) (fun hi=>hP _ (hm.iy.elim fun _ ⟨_,_,h⟩=>(h hi).2.1)) (fun j r d' _ _ hr=>ih hr hA fun b hb=>hP b hb.1)
def OverM (w:World) (g:Nat) (b:Bool):Prop:=(w.cell? ⟨g,1,none⟩=some (.pointer none)/\b=false)\/∃gS i,w.cell? ⟨g,1,none⟩=some (.pointer (some ⟨gS,i*11,none⟩))/\w.cell? ⟨gS,i*11+2,none⟩=some (.bool b)
theorem RMem.over {σ ρ:Type}{RM:(Nat->Prop)->List σ->ρ->Nat->Prop}{L:List (StF σ)}{d:RdF ρ}{g:Nat}{l:Lie}(h:RMem A w RM P L d g l):OverM w g (overR L d):=by
 have hc:=cell_row h.hg 1 rfl
 unfold overR
 cases ht:d.there with
 | none=>rw[ht] at hc;exact .inl ⟨hc,rfl⟩
 | some i=>
  rw[ht] at hc
  have hi:=h.th i ht
  have h1:L[i]?=some (L[i]'hi):=List.getElem?_eq_getElem hi
  have h2:d.sts[i]?=some (d.sts[i]'(by rw[h.len];exact hi)):=List.getElem?_eq_getElem _
  have hm:=h.st i _ _ h1 h2
  refine .inr ⟨l.gS,i,hc,?_⟩
  simp only[h1]
  exact hm.c2
theorem RegM.over:∀(k:Nat) {L:List (St k)}{d:Rd k}{g:Nat},RegM A k w P L d g->OverM w g ((OpsK k).over L d):=by
 intro k
 cases k with
 | zero=>intro L d g h;exact h.elim
 | succ k=>intro L d g h;obtain ⟨l,h⟩:=h;exact h.over
structure Sep (A P:Nat->Prop) (w:World) (rb bn bw:Nat):Prop where
 a:∀b,A b->b<w.heap.size/\¬P b/\b≠bn
 p:∀b,P b->b<w.heap.size/\b≠rb/\b≠bn/\b≠bw
 rn:rb≠bn
 wn:bw≠bn
theorem Sep.up {rb bn bw:Nat}(h:Sep A P w rb bn bw) (hs:w.heap.size≤w'.heap.size):Sep A P w' rb bn bw:=
 ⟨fun b hb=>⟨Nat.lt_of_lt_of_le (h.a b hb).1 hs,(h.a b hb).2⟩,fun b hb=>⟨Nat.lt_of_lt_of_le (h.p b hb).1 hs,(h.p b hb).2⟩,h.rn,h.wn⟩
theorem Sep.sub {Q:Nat->Prop}{rb bn bw:Nat}(h:Sep A P w rb bn bw) (hQ:∀b,Q b->P b):Sep A Q w rb bn bw:=
 ⟨fun b hb=>⟨(h.a b hb).1,fun hq=>(h.a b hb).2.1 (hQ b hq),(h.a b hb).2.2⟩,fun b hb=>h.p b (hQ b hb),h.rn,h.wn⟩
structure FrP (P:Nat->Prop) (bn:Nat) (w w':World):Prop where
 os:w'.os=w.os
 tape:w'.tape=w.tape
 output:w'.output=w.output
 size:w.heap.size≤w'.heap.size
 block:∀b,b<w.heap.size->¬P b->b≠bn->w'.heap[b]?=w.heap[b]?
theorem FrP.refl (P:Nat->Prop) (bn:Nat) (w:World):FrP P bn w w:=⟨rfl,rfl,rfl,Nat.le_refl _,fun _ _ _ _=>rfl⟩
theorem FrP.trans {bn:Nat}{w'':World}(h:FrP P bn w w') (k:FrP P bn w' w''):FrP P bn w w'':=
 ⟨k.os.trans h.os,k.tape.trans h.tape,k.output.trans h.output,Nat.le_trans h.size k.size,fun b hb hp hn=>(k.block b (Nat.lt_of_lt_of_le hb h.size) hp hn).trans (h.block b hb hp hn)⟩
theorem FrP.wide {Q:Nat->Prop}{bn:Nat}(h:FrP P bn w w') (hQ:∀b,P b->Q b):FrP Q bn w w':=⟨h.os,h.tape,h.output,h.size,fun b hb hp hn=>h.block b hb (fun h=>hp (hQ b h)) hn⟩
theorem FrP.of_below {bn:Nat}(h:Below w.heap.size w w'):FrP P bn w w':=⟨h.os,h.tape,h.output,h.size,fun b hb _ _=>h.block b hb⟩
theorem FrP.grown {bn:Nat}{w'':World}(h:FrP P bn w w') (hg:w'.grownBy w'' (some bn)):FrP P bn w w'':=
 h.trans ⟨hg.os,hg.tape,hg.output,hg.size,fun b hb _ hn=>hg.block b hb (fun e=>hn (by injection e))⟩
theorem FrP.setCell {bn:Nat}(h:FrP P bn w w') {p:Addr}(hp:P p.block) (u:Value):FrP P bn w (w'.setCell p u):=
 h.trans ⟨rfl,rfl,rfl,by simp[World.setCell],fun b _ hb _=>Below.heap_setCell _ _ _ _ (fun e=>hb (e▸hp))⟩
theorem FrP.drew {bn:Nat}(h:FrP P bn w w'):FrP P bn w w'.drew:=⟨h.os,h.tape,h.output,h.size,h.block⟩
theorem FrP.cell {bn:Nat}(h:FrP P bn w w') {a:Addr}{v:Value}(hc:w.cell? a=some v) (hp:¬P a.block) (hn:a.block≠bn):w'.cell? a=some v:=by
 rw[World.cell?_of_block (w:=w) (h.block a.block (World.block_lt_of_cell? w a hc) hp hn)];exact hc
theorem FrP.chart {bn:Nat}(h:FrP P bn w w') (hA:∀b,A b->b<w.heap.size/\¬P b/\b≠bn):∀b,A b->b<w.heap.size->w'.heap[b]?=w.heap[b]?:=fun b hb hlt=>h.block b hlt (hA b hb).2.1 (hA b hb).2.2
theorem FrP.region {Q:Nat->Prop}{bn k:Nat}{L:List (St k)}{d:Rd k}{g:Nat}(h:FrP P bn w w') (hA:∀b,A b->b<w.heap.size/\¬P b/\b≠bn) (hQ:∀b,Q b->b<w.heap.size/\¬P b/\b≠bn) (hr:RegM A k w Q L d g):RegM A k w' Q L d g:=
 RegM.keep k hr (h.chart hA) fun b hb=>h.block b (hQ b hb).1 (hQ b hb).2.1 (hQ b hb).2.2
end
end
section
open Go.RowKit Px
def SetsR (ns:List Str) (l:List Asg):Prop:=∀a∈l,a.name∈ns/\a.name.length≤maxLen/\NuOk a.e
theorem doS_snoc (was:Px.Env) (l:List Asg) (a:Asg) (n:Px.Env):doS was (l++[a]) n=updE (doS was l n) a.name (evE (doS was l n) was a.e):=by
 induction l generalizing n with
 | nil=>rfl
 | cons b r ih=>exact ih _
theorem doS_take (was:Px.Env) {l:List Asg}{k:Nat}{a:Asg}(h:l[k]?=some a) (n:Px.Env):doS was (l.take (k+1)) n=updE (doS was (l.take k) n) a.name (evE (doS was (l.take k) n) was a.e):=by
 rw[List.take_add_one,h]
 exact doS_snoc was _ a n
section
variable {A:Nat->Prop}{w w':World}{rb bn bw m:Nat}{ns:List Str}{now was:Px.Env}
theorem IsSets.open2 {l:List Asg}{v:Value}(h:IsSets A w l v) :
    ∃ad g cap,v=.slice ad l.length cap/\l.length≤maxLen/\(0<l.length->ad=some ⟨g,0,none⟩/\A g/\g<w.heap.size)/\∀(i:Nat) (a:Asg),l[i]?=some a->∃p,w.cell? ⟨g,i*2,none⟩=some (sv a.name)/\w.cell? ⟨g,i*2+1,none⟩=some (.pointer p)/\IsE A w a.e (.pointer p):=by
 obtain ⟨xs,hr,hs⟩:=h
 obtain ⟨ad,g,cap,h1,h2,h3,h4⟩:=Row.open (k:=2) (fun a c ⟨p,hc,_⟩=>by rw[hc];rfl) hr hs
 refine ⟨ad,g,cap,h1,h2,h3,fun i a hi=>?_⟩
 obtain ⟨c,⟨p,rfl,hp⟩,hx⟩:=h4 i a hi
 obtain ⟨u,rfl⟩:=hp.pt'
 exact ⟨u,hx 0 _ rfl,hx 1 _ rfl,hp⟩
theorem RunV.fr {P:Nat->Prop}(h:RunV w rb bn bw m ns now was) (hf:FrP P bn w w') (hr:¬P rb/\rb≠bn) (hw:¬P bw/\bw≠bn) {now':Px.Env}(hm:MapE w' bn m ns now'):RunV w' rb bn bw m ns now' was:=
 ⟨hf.cell h.hn hr.1 hr.2,hf.cell h.hw hr.1 hr.2,hm,h.mw.keep (hf.block bw h.mw.lt hw.1 hw.2),h.hm⟩
set_option maxRecDepth 100000 in
set_option maxHeartbeats 4000000 in
theorem do_any {l:List Asg}{v:Value}(hl:SetsR ns l) (hv:IsSets A w l v) (h:RunV w rb bn bw m ns now was) (hA:∀b,A b->b<w.heap.size/\b≠bn) (hrn:rb≠bn) (hwn:bw≠bn) :
    Calls Tryz.prog 111 #[.pointer (some ⟨rb,0,none⟩),v] w fun e w'=>e=.returned (.tuple #[])/\Hid (RunV w' rb bn bw m ns (doS was l now) was/\FrP (fun _=>False) bn w w'):=by
 obtain ⟨ad,g,cap,rfl,hmx,hg,hcs⟩:=hv.open2
 obtain ⟨N,hN⟩:∃N,N=l.length:=⟨_,rfl⟩
 rw[<-hN] at hmx hg ⊢
 have HN:Hid (N=l.length):=hN
 have HA:Hid (∀b,A b->b<w.heap.size/\b≠bn):=hA
 have HG:Hid (0<N->ad=some ⟨g,0,none⟩/\A g/\g<w.heap.size):=hg
 have HCS:Hid (∀(i:Nat) (a:Asg),l[i]?=some a->∃p,w.cell? ⟨g,i*2,none⟩=some (sv a.name)/\w.cell? ⟨g,i*2+1,none⟩=some (.pointer p)/\IsE A w a.e (.pointer p)):=hcs
 have HL:Hid (SetsR ns l):=hl
 have HV:Hid (RunV w rb bn bw m ns now was/\rb≠bn/\bw≠bn):=⟨h,hrn,hwn⟩
 have hN6:(N:Int)≤9223372036854775807:=by unfold maxLen at hmx;omega
 clear hv hl h hA hrn hwn hN hmx hg hcs
 go_enter Tryz.func111,Tryz.ntmps111
 go_wp2_with fail
 go_loopg [8] N (fun f i wr=>∃k:Nat,f=N-k/\k≤N/\i=.int .i64 (k:Int)/\Hid (RunV wr rb bn bw m ns (doS was (l.take k) now) was/\FrP (fun _=>False) bn w wr))
 case atStart=>exact ⟨0,by omega,by omega,rfl,HV.out.1,FrP.refl _ _ _⟩
 case round=>
  obtain ⟨k,rfl,hk,rfl,hr⟩:=hrel
  by_cases hlt:k<N
  ·obtain ⟨a,ha⟩:∃a,l[k]?=some a:=⟨l[k]'(by rw[<-HN.out];exact hlt),by rw[List.getElem?_eq_getElem]⟩
   obtain ⟨p,c0,c1,he⟩:=HCS.out k a ha
   obtain ⟨hg1,hg2,hg3⟩:=HG.out (by omega)
   have hix:=ixS ad g N cap k hlt (fun _=>hg1)
   have hgn:=(HA.out g hg2).2
   have c0:=hr.out.2.cell c0 (fun h=>h) hgn
   have c1:=hr.out.2.cell c1 (fun h=>h) hgn
   obtain ⟨h1,h2,h3⟩:=HL.out a (List.mem_of_getElem? ha)
   obtain ⟨S,hS⟩:∃S,Value.string S=sv a.name:=⟨_,rfl⟩
   rw[<-hS] at c0
   obtain ⟨X,hX⟩:∃X,X=wr.alloc (.cells #[.string S,.pointer p] 130):=⟨_,rfl⟩
   obtain ⟨q,hq⟩:∃q,q=wr.heap.size:=⟨_,rfl⟩
   have hbx:Below wr.heap.size wr X:=by rw[hX];exact ck_grown _ _
   have hkx:X.heap[q]?=some (.cells #[.string S,.pointer p] 130 (0,0)):=by rw[hX,hq];exact ck_new _ _
   have hbd:Below X.heap.size X X.drew:=(Below.refl _ _).drew
   have hrv:=(hr.out.1.below hbx).below hbd
   have kpA:Keep A A w X.drew:=fun b hb hlt=>⟨hb,by rw[hbd.block b (Nat.lt_of_lt_of_le hlt (Nat.le_trans hr.out.2.size hbx.size)),hbx.block b (Nat.lt_of_lt_of_le hlt hr.out.2.size),hr.out.2.block b hlt (fun h=>h) (HA.out b hb).2]⟩
   have hcall:=ueval_any h3 (he.carry kpA) hrv
   obtain ⟨x,hx⟩:∃x,x=evE (doS was (l.take k) now) was a.e:=⟨_,rfl⟩
   have hx64:N64 x:=by rw[hx];exact evE_n64 (fun s hs=>(hr.out.1.mn.look hs).2) (fun s hs=>(hr.out.1.mw.look hs).2) _ h3
   rw[<-hx] at hcall
   unfold EvTo at hcall
   have HP:Hid (∀W,Below X.drew.heap.size X.drew W->W.cell? ⟨rb,1,none⟩=some (.map (some bn))/\W.cell? ⟨q,0,none⟩=some (.string S)/\W.cell? ⟨q,1,none⟩=some (.pointer p)):=fun W hW=>
    ⟨ck_cell hW hrv.hn,ck_cell hW (cell_row hkx 0 rfl),ck_cell hW (cell_row hkx 1 rfl)⟩
   have HPUT:Hid (∀W,Below X.drew.heap.size X.drew W->∃W',(Instr.mapUpdate 74 (.map (some bn)) (.string S) (.int .i64 x)).run Tryz.prog W=.ok () W'/\MapE W' bn m ns (doS was (l.take (k+1)) now)/\W.grownBy W' (some bn)):=fun W hW=>by
    obtain ⟨W',r1,r2,r3⟩:=(hrv.below hW).mn.put hrv.hm h1 h2 hx64
    rw[<-hS] at r1
    exact ⟨W',r1,by rw[doS_take was ha,<-hx];exact r2,r3⟩
   have HF:Hid (FrP (fun _=>False) bn w X.drew/\q≠bn):=⟨hr.out.2.trans (FrP.of_below (hbx.drew)),by have:=hr.out.1.mn.lt;omega⟩
   obtain ⟨p1,p2,p3⟩:=HP.out X.drew (Below.refl _ _)
   clear hr ha he h1 h2 h3 hS hbx hbd hrv kpA hx hx64 hg1 hg2 hg3 hgn hkx
   go_upto_region 3 with fail
   rw[<-hX,<-hq]
   clear hX hq c0 c1 hix
   go_region_held3 (fun W=>W.cell? ⟨rb,1,none⟩=some (.map (some bn))/\W.cell? ⟨q,0,none⟩=some (.string S)/\W.cell? ⟨q,1,none⟩=some (.pointer p)) (first|exact HP.out _ hr.out|exact HZ.out|go_keep)
    (first
     | (go_at_call 116;refine hcall.mono ?_;rintro e w1 ⟨rfl,hr⟩;obtain ⟨w2,hrun,hM2,hg2⟩:=HPUT.out w1 hr.out;have HZ:Hid (w2.cell? ⟨rb,1,none⟩=some (.map (some bn))/\w2.cell? ⟨q,0,none⟩=some (.string S)/\w2.cell? ⟨q,1,none⟩=some (.pointer p)):=by { have hz:=HP.out w1 hr.out;have fz:FrP (fun _=>False) bn w1 w2:=(FrP.refl _ _ _).grown hg2;exact ⟨fz.cell hz.1 (fun h=>h) HV.out.2.1,fz.cell hz.2.1 (fun h=>h) HF.out.2,fz.cell hz.2.2 (fun h=>h) HF.out.2⟩ }))
   all_goals
    go_wp2_with fail
    go_roundg (N-(k+1))
    case measure=>omega
    case rel=>exact ⟨k+1,rfl,by omega,by go_num,HV.out.1.fr ((HF.out.1.trans (FrP.of_below hr.out)).grown hg2) ⟨fun h=>h,HV.out.2.1⟩ ⟨fun h=>h,HV.out.2.2⟩ hM2,(HF.out.1.trans (FrP.of_below hr.out)).grown hg2⟩
  ·obtain rfl:k=N:=by omega
   have hfin:=hr.out
   rw[HN.out,List.take_length] at hfin
   have HFIN:Hid (RunV wr rb bn bw m ns (doS was l now) was/\FrP (fun _=>False) bn w wr):=hfin
   clear hr hfin
   go_wp2_with fail
   go_end0
   exact ⟨rfl,HFIN.out⟩
end
end
section
open Go.RowKit Px
theorem ixG (ad:Option Addr) (g n cap k:Nat) (hk:k<n) (ha:0<n->ad=some ⟨g,0,none⟩) (w:World):(Instr.indexAt 76 (.slice ad n cap) (.int .i64 (k:Int))).run Tryz.prog w=.ok (.pointer (some ⟨g,k,none⟩)) w:=by
 obtain rfl:=ha (by omega)
 rw[run_indexAt_slice _ _ _ _ _ _ _ (by kernel_rfl),if_pos ⟨by omega,by omega⟩]
 have e:(sizeOf (Tryz.prog.elem 76)).run Tryz.prog w=.ok 1 w:=by kernel_rfl
 rw[e]
 simp[Result.andThen,Addr.add]
 try (intro h;exact h.symm)
theorem ixY (ad:Option Addr) (g n cap k:Nat) (hk:k<n) (ha:0<n->ad=some ⟨g,0,none⟩) (w:World):(Instr.indexAt 139 (.slice ad n cap) (.int .i64 (k:Int))).run Tryz.prog w=.ok (.pointer (some ⟨g,k*9,none⟩)) w:=by
 obtain rfl:=ha (by omega)
 rw[run_indexAt_slice _ _ _ _ _ _ _ (by kernel_rfl),if_pos ⟨by omega,by omega⟩]
 have e:(sizeOf (Tryz.prog.elem 139)).run Tryz.prog w=.ok 9 w:=by kernel_rfl
 rw[e]
 simp[Result.andThen,Addr.add]
 try (intro h;exact h.symm)
theorem ixZ (ad:Option Addr) (g n cap k:Nat) (hk:k<n) (ha:0<n->ad=some ⟨g,0,none⟩) (w:World):(Instr.indexAt 187 (.slice ad n cap) (.int .i64 (k:Int))).run Tryz.prog w=.ok (.pointer (some ⟨g,k*11,none⟩)) w:=by
 obtain rfl:=ha (by omega)
 rw[run_indexAt_slice _ _ _ _ _ _ _ (by kernel_rfl),if_pos ⟨by omega,by omega⟩]
 have e:(sizeOf (Tryz.prog.elem 187)).run Tryz.prog w=.ok 11 w:=by kernel_rfl
 rw[e]
 simp[Result.andThen,Addr.add]
 try (intro h;exact h.symm)
section
variable {A:Nat->Prop}{w w':World}{rb bn bw m:Nat}{ns:List Str}{now was:Px.Env}
set_option maxRecDepth 100000 in
set_option maxHeartbeats 2000000 in
theorem over_any {bx gS o n cap gI:Nat}{ad:Option Addr}{gr:Nat->Nat}{bl:List Bool}(hb:w.cell? ⟨bx,0,none⟩=some (.pointer (some ⟨gS,o,none⟩))) (h10:w.cell? ⟨gS,o+10,none⟩=some (.slice ad n cap)) (hn:Hid (n=bl.length)) (hmx:n≤maxLen) (had:0<n->ad=some ⟨gI,0,none⟩)
    (hj:Hid (∀j b,bl[j]?=some b->w.cell? ⟨gI,j,none⟩=some (.pointer (some ⟨gr j,0,none⟩))/\OverM w (gr j) b)) :
    Calls Tryz.prog 153 #[.pointer (some ⟨bx,0,none⟩)] w fun e w'=>e=.returned (.bool (bl.all id))/\w'=w:=by
 have hN6:(n:Int)≤9223372036854775807:=by unfold maxLen at hmx;omega
 have HAD:Hid (0<n->ad=some ⟨gI,0,none⟩):=had
 clear hmx had
 go_enter Tryz.func153,Tryz.ntmps153
 go_wp2_with fail
 go_loopg [9] n (fun f i wr=>∃k:Nat,f=n-k/\k≤n/\i=.int .i64 (k:Int)/\Hid (wr=w/\(bl.take k).all id=true))
 case atStart=>exact ⟨0,by omega,by omega,rfl,rfl,rfl⟩
 case round=>
  obtain ⟨k,rfl,hk,rfl,hr⟩:=hrel
  obtain ⟨rfl,hall⟩:=hr.out
  by_cases hlt:k<n
  ·obtain ⟨b,hbk⟩:∃b,bl[k]?=some b:=⟨bl[k]'(by rw[<-hn.out];exact hlt),by rw[List.getElem?_eq_getElem]⟩
   obtain ⟨c1,hov⟩:=hj.out k b hbk
   have hix:=ixG ad gI n cap k hlt HAD.out
   have HT:Hid ((bl.take (k+1)).all id=b):=by rw[Hid,List.take_add_one,hbk,List.all_append,hall];simp
   have HF:Hid (b=false->bl.all id=false):=fun e=>by
    rw[List.all_eq_false]
    exact ⟨b,List.mem_of_getElem? hbk,by rw[e];simp⟩
   clear hr hall hbk
   rcases hov with ⟨c2,rfl⟩|⟨gS',i',c2,c3⟩
   ·have HB:Hid (bl.all id=false):=HF.out rfl
    clear HF
    go_wp2_with fail
    go_ret
    exact ⟨by rw[HB.out];rfl,rfl⟩
   ·cases b with
    | false=>
     have HB:Hid (bl.all id=false):=HF.out rfl
     clear HF
     go_wp2_with fail
     go_ret
     exact ⟨by rw[HB.out];rfl,rfl⟩
    | true=>
     clear HF
     go_wp2_with fail
     go_roundg (n-(k+1))
     case measure=>omega
     case rel=>exact ⟨k+1,rfl,by omega,by go_num,rfl,HT.out⟩
  ·obtain rfl:k=n:=by omega
   rw[hn.out,List.take_length] at hall
   have HALL:Hid (bl.all id=true):=hall
   clear hall hr
   go_wp2_with fail
   go_ret
   exact ⟨by rw[HALL.out];rfl,rfl⟩
theorem askNS_any {g o:Nat}{y:Wy}(c0:w.cell? ⟨g,o,none⟩=some (.int .i64 (y.kind:Int))) (c1:w.cell? ⟨g,o+1,none⟩=some (.bool y.now)) :
    Calls Tryz.prog 113 #[.pointer (some ⟨g,o,none⟩)] w fun e w'=>e=.returned (.bool (askNS y))/\w'=w:=by
 have e:askNS y=(y.now&&decide ((y.kind:Int)=1)):=by unfold askNS;congr 1;simp;omega
 rw[e]
 generalize (y.kind:Int)=kd at c0 ⊢
 generalize y.now=b at c1 ⊢
 clear e
 cases b with
 | false=>
  go_enter Tryz.func113,Tryz.ntmps113
  go_wp2_with fail
  go_ret
  exact ⟨rfl,rfl⟩
 | true=>
  go_enter Tryz.func113,Tryz.ntmps113
  go_wp2_with fail
  go_ret
  exact ⟨by simp;rfl,rfl⟩
theorem askNW_any {g o:Nat}{y:Wy}(c0:w.cell? ⟨g,o,none⟩=some (.int .i64 (y.kind:Int))) (c1:w.cell? ⟨g,o+1,none⟩=some (.bool y.now)) :
    Calls Tryz.prog 114 #[.pointer (some ⟨g,o,none⟩)] w fun e w'=>e=.returned (.bool (askNW y))/\w'=w:=by
 have e:askNW y=(y.now && !decide ((y.kind:Int)=1)):=by unfold askNW;congr 2;simp;omega
 rw[e]
 generalize (y.kind:Int)=kd at c0 ⊢
 generalize y.now=b at c1 ⊢
 clear e
 cases b with
 | false=>
  go_enter Tryz.func114,Tryz.ntmps114
  go_wp2_with fail
  go_ret
  exact ⟨rfl,rfl⟩
 | true=>
  go_enter Tryz.func114,Tryz.ntmps114
  go_wp2_with fail
  go_ret
  exact ⟨by simp[bne];rfl,rfl⟩
theorem askS_any {g o:Nat}{y:Wy}(c0:w.cell? ⟨g,o,none⟩=some (.int .i64 (y.kind:Int))) :
    Calls Tryz.prog 115 #[.pointer (some ⟨g,o,none⟩)] w fun e w'=>e=.returned (.bool (askS y))/\w'=w:=by
 have e:askS y=decide ((y.kind:Int)=1):=by unfold askS;simp;omega
 rw[e]
 generalize (y.kind:Int)=kd at c0 ⊢
 clear e
 go_enter Tryz.func115,Tryz.ntmps115
 go_wp2_with fail
 go_ret
 exact ⟨by simp;rfl,rfl⟩
theorem askW_any' {g o:Nat}{y:Wy}(c0:w.cell? ⟨g,o,none⟩=some (.int .i64 (y.kind:Int))) :
    Calls Tryz.prog 117 #[.pointer (some ⟨g,o,none⟩)] w fun e w'=>e=.returned (.bool (askW y))/\w'=w:=by
 have e:askW y=!decide ((y.kind:Int)=1):=by unfold askW;congr 1;simp;omega
 rw[e]
 generalize (y.kind:Int)=kd at c0 ⊢
 clear e
 go_enter Tryz.func117,Tryz.ntmps117
 go_wp2_with fail
 go_ret
 exact ⟨by simp[bne];rfl,rfl⟩
end
end
section
open Go.RowKit Px
def OpenTo (so:Bool) (c tm:Int) (gW j:Nat) (w:World) (r:Ending) (w':World):Prop:=
 ∃(W:World) (nq:Nat),Hid (Below w.heap.size w W)/\((so=false/\r=.returned (.bool false)/\w'=W)\/(so=true/\r=.returned (.bool (decide (tm≤wrap64 (c+1))))/\w'=(W.setCell ⟨gW,j*9+8,none⟩ (.int .i64 (wrap64 (c+1)))).drewN nq))
def ovV (bx:Nat):Value:=.func (.func 153) #[] #[.pointer (some ⟨bx,0,none⟩)]
theorem sc_same {w:World}{a:Addr}{v u:Value}(h:w.cell? a=some u):(w.setCell a v).cell? a=some v:=World.cell?_setCell_same' w a v (by rw[h];rfl)
theorem sc_off {w:World}{b o o':Nat}{v:Value}(h:o≠o'):(w.setCell ⟨b,o,none⟩ v).cell? ⟨b,o',none⟩=w.cell? ⟨b,o',none⟩:=by
 apply World.cell?_setCell_other
 intro e
 injection e with _ e
 exact h e
section
variable {A:Nat->Prop}{w w':World}{rb bn bw m:Nat}{ns:List Str}{now was:Px.Env}
set_option maxRecDepth 100000 in
set_option maxHeartbeats 4000000 in
theorem isOpen_any {gS gW j bx:Nat}{ys:List Str}{y:Wy}{c:Int}{ov:Bool}(hy:WMem A w ys gS gW j y c) (hn:NuOk y.cond) (h:RunV w rb bn bw m ns now was)
    (hov:∀W,Below w.heap.size w W->Calls Tryz.prog 153 #[.pointer (some ⟨bx,0,none⟩)] W fun e w'=>e=.returned (.bool ov)/\w'=W) :
    Calls Tryz.prog 154 #[.pointer (some ⟨rb,0,none⟩),.pointer (some ⟨gW,j*9,none⟩),ovV bx] w (OpenTo (isSo ov now was y) c (y.times:Int) gW j w):=by
 obtain ⟨⟨p,q,c0,-,c2,c3,-,-,-,he,-⟩,-,c8,f8⟩:=hy
 have HC:Hid (∀W,Below w.heap.size w W->W.cell? ⟨gW,j*9+8,none⟩=some (.int .i64 c)/\W.frozen? ⟨gW,j*9+8,none⟩=false/\W.cell? ⟨gW,j*9+3,none⟩=some (.int .i64 (y.times:Int))):=fun W hW=>
  ⟨ck_cell hW c8,by
   have e:W.heap[gW]?=w.heap[gW]?:=hW.block gW (World.block_lt_of_cell? w _ c8)
   have:W.frozen? ⟨gW,j*9+8,none⟩=w.frozen? ⟨gW,j*9+8,none⟩:=by simp only[World.frozen?,e]
   rw[this];exact f8,ck_cell hW c3⟩
 have hev:=ueval_any hn he h
 have hov:=hov w (Below.refl _ _)
 have hwr:IntKind.i64.wrap (c+1)=wrap64 (c+1):=Go.IntWalk.i64_left _
 unfold EvTo at hev
 obtain ⟨x,hx⟩:∃x,x=evE now was y.cond:=⟨_,rfl⟩
 rw[<-hx] at hev
 have HP:Hid (noE y.cond=p.isNone):=by
  cases hc:y.cond with
  | nil=>rw[hc] at he;injection he with he;rw[Hid,he];rfl
  | node _ _ _ _ _=>rw[hc] at he;obtain ⟨g',_,_,e,_⟩:=he;injection e with e;rw[Hid,e];rfl
 have HS:Hid (isSo ov now was y=((!decide (y.kind=2)||ov)&&(p.isNone||decide (x≠0)))):=by rw[Hid,isSo,HP.out,hx]
 obtain ⟨kd,hkd⟩:∃kd:Int,kd=(y.kind:Int):=⟨_,rfl⟩
 have HK:Hid (kd=(y.kind:Int)):=hkd
 rw[<-hkd] at c0
 obtain ⟨tm,htm⟩:∃tm:Int,tm=(y.times:Int):=⟨_,rfl⟩
 rw[<-htm] at HC ⊢
 unfold ovV
 clear h he hn hx HP hkd c3 c8 f8 htm
 by_cases hk:kd=2
 ·cases ov with
  | false=>
   have HE:Hid (isSo false now was y=false):=by rw[Hid,HS.out];have:=HK.out;simp;omega
   rw[HE.out]
   clear HS HK HE hev hwr HC
   subst hk
   go_enter Tryz.func154,Tryz.ntmps154
   go_wp2_with (refine hov.mono ?_;rintro e w' ⟨rfl,rfl⟩)
   go_ret
   exact ⟨_,0,Below.refl _ _,.inl ⟨rfl,rfl,rfl⟩⟩
  | true=>
   subst hk
   cases p with
   | none=>
    have HE:Hid (isSo true now was y=true):=by rw[Hid,HS.out];simp
    rw[HE.out]
    clear HS HK HE hev
    go_enter Tryz.func154,Tryz.ntmps154
    go_upto_region 5 with (go_at_call 153;refine hov.mono ?_;rintro e w' ⟨rfl,hw'⟩;obtain rfl:=hw'.symm)
    clear hov
    obtain ⟨s8,z8,s3⟩:=HC.out w (Below.refl _ _)
    obtain ⟨X,hX⟩:∃X,X=w.setCell ⟨gW,j*9+8,none⟩ (.int .i64 (wrap64 (c+1))):=⟨_,rfl⟩
    have x8:X.cell? ⟨gW,j*9+8,none⟩=some (.int .i64 (wrap64 (c+1))):=by rw[hX];exact sc_same s8
    have x3:X.cell? ⟨gW,j*9+3,none⟩=some (.int .i64 tm):=by rw[hX,sc_off (by omega)];exact s3
    have HX:Hid (X=_):=hX
    clear s3 HC
    go_upto_region 6 with fail
    rw[<-hX]
    clear hX s8 z8 hwr
    go_quiet (fail)
    go_wp2_with fail
    go_ret
    exact ⟨w,nq,(Below.refl _ _),.inr ⟨rfl,rfl,by rw[<-HX.out]⟩⟩
   | some p=>
    by_cases hx0:x=0
    ·have HE:Hid (isSo true now was y=false):=by rw[Hid,HS.out];simp[hx0]
     rw[HE.out]
     clear HS HK HE hwr HC
     subst hx0
     go_enter Tryz.func154,Tryz.ntmps154
     go_wp2_with (first|(go_at_call 116;refine hev.mono ?_;rintro e w1 ⟨rfl,hr⟩)|(go_at_call 153;refine hov.mono ?_;rintro e w' ⟨rfl,hw'⟩;obtain rfl:=hw'.symm))
     go_ret
     exact ⟨_,0,hr.out,.inl ⟨rfl,rfl,rfl⟩⟩
    ·have HE:Hid (isSo true now was y=true):=by rw[Hid,HS.out];simp[hx0]
     rw[HE.out]
     clear HS HK HE
     have hx1:(x==0)=false:=by simpa using hx0
     go_enter Tryz.func154,Tryz.ntmps154
     go_upto_region 5 with (first|(go_at_call 116;refine hev.mono ?_;rintro e w1 ⟨rfl,hr⟩)|(go_at_call 153;refine hov.mono ?_;rintro e w' ⟨rfl,hw'⟩;obtain rfl:=hw'.symm))
     clear hov hev
     obtain ⟨s8,z8,s3⟩:=HC.out w1 hr.out
     obtain ⟨X,hX⟩:∃X,X=w1.setCell ⟨gW,j*9+8,none⟩ (.int .i64 (wrap64 (c+1))):=⟨_,rfl⟩
     have x8:X.cell? ⟨gW,j*9+8,none⟩=some (.int .i64 (wrap64 (c+1))):=by rw[hX];exact sc_same s8
     have x3:X.cell? ⟨gW,j*9+3,none⟩=some (.int .i64 tm):=by rw[hX,sc_off (by omega)];exact s3
     have HX:Hid (X=_):=hX
     clear s3 HC
     go_upto_region 6 with fail
     rw[<-hX]
     clear hX s8 z8 hwr
     go_quiet (fail)
     go_wp2_with fail
     go_ret
     exact ⟨w1,nq,hr.out,.inr ⟨rfl,rfl,by rw[<-HX.out]⟩⟩
 ·have hk1:(kd==2)=false:=by simpa using hk
  have hk2:¬y.kind=2:=by have:=HK.out;omega
  cases p with
  | none=>
   have HE:Hid (isSo ov now was y=true):=by rw[Hid,HS.out];simp only[hk2,decide_false,Bool.not_false,Bool.true_or,Bool.true_and];simp
   rw[HE.out]
   clear HS HK HE hev
   go_enter Tryz.func154,Tryz.ntmps154
   go_upto_region 5 with (fail)
   clear hov
   obtain ⟨s8,z8,s3⟩:=HC.out w (Below.refl _ _)
   obtain ⟨X,hX⟩:∃X,X=w.setCell ⟨gW,j*9+8,none⟩ (.int .i64 (wrap64 (c+1))):=⟨_,rfl⟩
   have x8:X.cell? ⟨gW,j*9+8,none⟩=some (.int .i64 (wrap64 (c+1))):=by rw[hX];exact sc_same s8
   have x3:X.cell? ⟨gW,j*9+3,none⟩=some (.int .i64 tm):=by rw[hX,sc_off (by omega)];exact s3
   have HX:Hid (X=_):=hX
   clear s3 HC
   go_upto_region 6 with fail
   rw[<-hX]
   clear hX s8 z8 hwr
   go_quiet (fail)
   go_wp2_with fail
   go_ret
   exact ⟨w,nq,(Below.refl _ _),.inr ⟨rfl,rfl,by rw[<-HX.out]⟩⟩
  | some p=>
   by_cases hx0:x=0
   ·have HE:Hid (isSo ov now was y=false):=by rw[Hid,HS.out];simp[hx0]
    rw[HE.out]
    clear HS HK HE hwr HC
    subst hx0
    go_enter Tryz.func154,Tryz.ntmps154
    go_wp2_with (first|(go_at_call 116;refine hev.mono ?_;rintro e w1 ⟨rfl,hr⟩)|(fail))
    go_ret
    exact ⟨_,0,hr.out,.inl ⟨rfl,rfl,rfl⟩⟩
   ·have HE:Hid (isSo ov now was y=true):=by rw[Hid,HS.out];simp only[hk2,decide_false,Bool.not_false,Bool.true_or,Bool.true_and];simp[hx0]
    rw[HE.out]
    clear HS HK HE
    have hx1:(x==0)=false:=by simpa using hx0
    go_enter Tryz.func154,Tryz.ntmps154
    go_upto_region 5 with (first|(go_at_call 116;refine hev.mono ?_;rintro e w1 ⟨rfl,hr⟩)|(fail))
    clear hov hev
    obtain ⟨s8,z8,s3⟩:=HC.out w1 hr.out
    obtain ⟨X,hX⟩:∃X,X=w1.setCell ⟨gW,j*9+8,none⟩ (.int .i64 (wrap64 (c+1))):=⟨_,rfl⟩
    have x8:X.cell? ⟨gW,j*9+8,none⟩=some (.int .i64 (wrap64 (c+1))):=by rw[hX];exact sc_same s8
    have x3:X.cell? ⟨gW,j*9+3,none⟩=some (.int .i64 tm):=by rw[hX,sc_off (by omega)];exact s3
    have HX:Hid (X=_):=hX
    clear s3 HC
    go_upto_region 6 with fail
    rw[<-hX]
    clear hX s8 z8 hwr
    go_quiet (fail)
    go_wp2_with fail
    go_ret
    exact ⟨w1,nq,hr.out,.inr ⟨rfl,rfl,by rw[<-HX.out]⟩⟩
end
end
section
open Go.RowKit Px
def WaysM (A:Nat->Prop) (w:World) (ns:List Str) (gS gW:Nat) (ys:List Wy) (cs:List Int):Prop:=cs.length=ys.length/\∀j y c,ys[j]?=some y->cs[j]?=some c->WMem A w ns gS gW j y c
section
variable {A:Nat->Prop}{w w':World}{rb bn bw m:Nat}{ns ls:List Str}{now was:Px.Env}
theorem cell_far {w:World}{b o b' o':Nat}{v:Value}(h:b≠b'):(w.setCell ⟨b,o,none⟩ v).cell? ⟨b',o',none⟩=w.cell? ⟨b',o',none⟩:=World.cell?_setCell_far w _ _ v h
theorem WMem.put {gS gW j k:Nat}{y:Wy}{c c':Int}(h:WMem A w ls gS gW j y c) (hA:∀b,A b->b≠gW):WMem A (w.setCell ⟨gW,k*9+8,none⟩ (.int .i64 c')) ls gS gW j y (if j=k then c' else c):=by
 obtain ⟨⟨p,q,h0,h1,h2,h3,h4,h5,h6,h7,h8⟩,⟨t,ht,h9⟩,h10,h11⟩:=h
 have kp:Keep A A w (w.setCell ⟨gW,k*9+8,none⟩ (.int .i64 c')):=fun b hb _=>⟨hb,Below.heap_setCell _ _ _ _ (hA b hb)⟩
 refine ⟨⟨p,q,by rw[sc_off (by omega)];exact h0,by rw[sc_off (by omega)];exact h1,by rw[sc_off (by omega)];exact h2,by rw[sc_off (by omega)];exact h3,by rw[sc_off (by omega)];exact h4,by rw[sc_off (by omega)];exact h5,by rw[sc_off (by omega)];exact h6,h7.carry kp,h8.carry kp⟩,⟨t,ht,by rw[sc_off (by omega)];exact h9⟩,?_,by rw[World.frozen?_setCell];exact h11⟩
 split
 ·rename_i e;subst e;exact sc_same h10
 ·rw[sc_off (by omega)];exact h10
theorem WaysM.put {gS gW k:Nat}{ys:List Wy}{cs:List Int}{c':Int}(h:WaysM A w ls gS gW ys cs) (hA:∀b,A b->b≠gW):WaysM A (w.setCell ⟨gW,k*9+8,none⟩ (.int .i64 c')) ls gS gW ys (cs.set k c'):=by
 refine ⟨by rw[List.length_set];exact h.1,fun j y c hy hc=>?_⟩
 have hj:j<cs.length:=by have:=(List.getElem?_eq_some_iff.1 hc).1;rwa [List.length_set] at this
 have h0:=h.2 j y _ hy (List.getElem?_eq_getElem hj)
 have:=h0.put (k:=k) (c':=c') hA
 rw[List.getElem?_set] at hc
 by_cases e:j=k
 ·subst e
  rw[if_pos rfl] at this hc
  simp[hj] at hc
  rw[<-hc];exact this
 ·rw[if_neg e] at this
  rw[if_neg (fun h=>e h.symm),List.getElem?_eq_getElem hj] at hc
  injection hc with hc
  rw[<-hc];exact this
theorem WaysM.keep {gS gW:Nat}{ys:List Wy}{cs:List Int}(h:WaysM A w ls gS gW ys cs) (hA:∀b,A b->b<w.heap.size->w'.heap[b]?=w.heap[b]?) (hW:0<ys.length->w'.heap[gW]?=w.heap[gW]?):WaysM A w' ls gS gW ys cs:=
 ⟨h.1,fun j y c hy hc=>(h.2 j y c hy hc).keep hA (hW (by have:=(List.getElem?_eq_some_iff.1 hy).1;omega))⟩
def wP (gW:Nat):Option Nat->Value
 | none=>.pointer none
 | some j=>.pointer (some ⟨gW,j*9,none⟩)
theorem opnI_at {ov:Bool}{ask:Wy->Bool}{ys:List Wy}{f k:Nat}{cs:List Int}{y:Wy}(hy:ys[k]?=some y):opnI ov now was ask ys (f+1) k cs=if ask y&&isSo ov now was y then (if (y.times:Int)≤wrap64 (cs.getD k 0+1) then (some k,cs.set k (wrap64 (cs.getD k 0+1))) else opnI ov now was ask ys f (k+1) (cs.set k (wrap64 (cs.getD k 0+1)))) else opnI ov now was ask ys f (k+1) cs:=by
 rw[opnI,hy]
end
end
end Go.Proofs.YtpogmfliojcnjaaGreatDoor
