import Derived.Test.YtpogmfliojcnjaaGreatDoorSUe
import Derived.Test.YtpogmfliojcnjaaGreatDoorSVdUg5
namespace Go.Proofs.YtpogmfliojcnjaaGreatDoor
section
open Go.RowKit Px
namespace Px
section
variable {α β:Type}
def Sim2 (P:α->β->Prop):Option α->Option β->Prop
 | some a,some b=>P a b
 | none,none=>True
 | _,_=>False
theorem Sim2.out {P:α->β->Prop}{a:Option α}{b:Option β}(h:Sim2 P a b):(a=none/\b=none)\/∃x y,a=some x/\b=some y/\P x y:=by
 cases a<;>cases b
 ·exact .inl ⟨rfl,rfl⟩
 ·exact absurd h id
 ·exact absurd h id
 ·exact .inr ⟨_,_,rfl,rfl,h⟩
def L2r (P:α->β->Prop) (l:List α) (m:List β):Prop:=l.length=m.length/\∀(i:Nat) (a:α) (b:β),l[i]?=some a->m[i]?=some b->P a b
theorem L2r.or {P:α->β->Prop}{l:List α}{m:List β}(h:L2r P l m) (i:Nat):(l[i]?=none/\m[i]?=none)\/∃a b,l[i]?=some a/\m[i]?=some b/\P a b:=by
 by_cases hi:i<l.length
 ·have hm:i<m.length:=by rw[<-h.1];exact hi
  exact .inr ⟨l[i],m[i],List.getElem?_eq_getElem hi,List.getElem?_eq_getElem hm,h.2 i _ _ (List.getElem?_eq_getElem hi) (List.getElem?_eq_getElem hm)⟩
 ·exact .inl ⟨List.getElem?_eq_none (by omega),List.getElem?_eq_none (by rw[<-h.1];omega)⟩
theorem L2r.set {P:α->β->Prop}{l:List α}{m:List β}(h:L2r P l m) (i:Nat) {a:α}{b:β}(hp:P a b):L2r P (l.set i a) (m.set i b):=by
 refine ⟨by rw[List.length_set,List.length_set];exact h.1,fun j x y hx hy=>?_⟩
 rw[List.getElem?_set] at hx hy
 by_cases e:i=j
 ·rw[if_pos e] at hx hy
  split at hx
  ·split at hy
   ·injection hx with hx
    injection hy with hy
    rw[<-hx,<-hy];exact hp
   ·exact absurd hy (by simp)
  ·exact absurd hx (by simp)
 ·rw[if_neg e] at hx hy
  exact h.2 j x y hx hy
theorem L2r.cons {P:α->β->Prop}{a:α}{b:β}{l:List α}{m:List β}(h:L2r P (a::l) (b::m)):P a b/\L2r P l m:=
 ⟨h.2 0 a b rfl rfl,by have:=h.1;simpa using this,fun i x y hx hy=>h.2 (i+1) x y (by simpa using hx) (by simpa using hy)⟩
end
section
variable {σ ρ σ' ρ':Type}
structure SimOps (Z:Env->Env->Prop) (O:Ops σ ρ) (O':Ops σ' ρ') (G:List σ->List σ'->Prop) (R:ρ->ρ'->Prop):Prop where
 over:∀L L' d d',G L L'->R d d'->O.over L d=O'.over L' d'
 enter:∀was was' b L L' n n' d d',G L L'->Z was was'->Z n n'->R d d'->Sim2 (fun p p'=>Z p.1 p'.1/\R p.2 p'.2) (O.enter was b L n d) (O'.enter was' b L' n' d')
 go:∀was was' L L' n n' d d',G L L'->Z was was'->Z n n'->R d d'->Sim2 (fun p p'=>Z p.1 p'.1/\R p.2 p'.2) (O.go was L n d) (O'.go was' L' n' d')
 leave:∀was was' L L' n n' d d',G L L'->Z was was'->Z n n'->R d d'->Sim2 (fun p p'=>Z p.1 p'.1/\R p.2 p'.2) (O.leave was L n d) (O'.leave was' L' n' d')
def SetsS (Z:Env->Env->Prop) (l l':List Asg):Prop:=∀w w' n n',Z w w'->Z n n'->Z (doS w l n) (doS w' l' n')
def ExS (Z:Env->Env->Prop) (e e':E):Prop:=∀n n' w w',Z n n'->Z w w'->evE n w e=evE n' w' e'
structure WyS (Z:Env->Env->Prop) (y y':Wy):Prop where
 kind:y.kind=y'.kind
 now:y.now=y'.now
 times:y.times=y'.times
 back:y.back=y'.back
 no:noE y.cond=noE y'.cond
 cond:ExS Z y.cond y'.cond
 sets:SetsS Z y.sets y'.sets
structure StS (Z:Env->Env->Prop) (G:List σ->List σ'->Prop) (s:StF σ) (s':StF σ'):Prop where
 first:s.first=s'.first
 last:s.last=s'.last
 enter:SetsS Z s.enter s'.enter
 during:SetsS Z s.during s'.during
 leave:SetsS Z s.leave s'.leave
 rests:ExS Z s.rests s'.rests
 ways:L2r (WyS Z) s.ways s'.ways
 regions:L2r G s.regions s'.regions
structure GS (Z:Env->Env->Prop) (G:List σ->List σ'->Prop) (L:List (StF σ)) (L':List (StF σ')):Prop where
 st:L2r (StS Z G) L L'
 tos:∀(i j:Nat) (s:StF σ) (s':StF σ') (y y':Wy),L[i]?=some s->L'[i]?=some s'->s.ways[j]?=some y->s'.ways[j]?=some y'->fnd (snames L) y.to=fnd (snames L') y'.to
structure RS2 (R:ρ->ρ'->Prop) (d:RdF ρ) (d':RdF ρ'):Prop where
 there:d.there=d'.there
 was:d.was=d'.was
 sts:L2r (fun (x:SdF ρ) (x':SdF ρ')=>x.so=x'.so/\L2r R x.inside x'.inside) d.sts d'.sts
variable {Z:Env->Env->Prop}{O:Ops σ ρ}{O':Ops σ' ρ'}{G:List σ->List σ'->Prop}{R:ρ->ρ'->Prop}
theorem allI_sim {f:List σ->Env->ρ->Option (Env×ρ)}{f':List σ'->Env->ρ'->Option (Env×ρ')}(hf:∀r r' n n' d d',G r r'->Z n n'->R d d'->Sim2 (fun p p'=>Z p.1 p'.1/\R p.2 p'.2) (f r n d) (f' r' n' d')) {rs:List (List σ)}{rs':List (List σ')}(hrs:L2r G rs rs') :
    ∀(fu i:Nat) (n n':Env) (ds:List ρ) (ds':List ρ'),Z n n'->L2r R ds ds'->Sim2 (fun p p'=>Z p.1 p'.1/\L2r R p.2 p'.2) (allI f rs fu i n ds) (allI f' rs' fu i n' ds'):=by
 intro fu
 induction fu with
 | zero=>intro i n n' ds ds' hn hd;exact ⟨hn,hd⟩
 | succ fu ih=>
  intro i n n' ds ds' hn hd
  rw[allI,allI]
  rcases hrs.or i with ⟨h1,h2⟩|⟨r,r',h1,h2,hr⟩
  ·simp only[h1,h2];trivial
  ·rcases hd.or i with ⟨k1,k2⟩|⟨x,x',k1,k2,hx⟩
   ·simp only[h1,h2,k1,k2];trivial
   ·simp only[h1,h2,k1,k2]
    rcases (hf r r' n n' x x' hr hn hx).out with ⟨e1,e2⟩|⟨p,p',e1,e2,hp⟩
    ·simp only[e1,e2];trivial
    ·simp only[e1,e2]
     exact ih (i+1) p.1 p'.1 _ _ hp.1 (hd.set i hp.2)
theorem allI_sim' {f:List σ->Env->ρ->Option (Env×ρ)}{f':List σ'->Env->ρ'->Option (Env×ρ')}(hf:∀r r' n n' d d',G r r'->Z n n'->R d d'->Sim2 (fun p p'=>Z p.1 p'.1/\R p.2 p'.2) (f r n d) (f' r' n' d')) {rs:List (List σ)}{rs':List (List σ')}(hrs:L2r G rs rs') {n n':Env}{ds:List ρ}{ds':List ρ'}(hn:Z n n') (hd:L2r R ds ds'):Sim2 (fun p p'=>Z p.1 p'.1/\L2r R p.2 p'.2) (allI f rs rs.length 0 n ds) (allI f' rs' rs'.length 0 n' ds'):=by
 rw[<-hrs.1]
 exact allI_sim hf hrs _ _ _ _ _ _ hn hd
theorem overs_sim (hO:SimOps Z O O' G R):∀{rs:List (List σ)}{rs':List (List σ')}{ds:List ρ}{ds':List ρ'},L2r G rs rs'->L2r R ds ds'->overs O rs ds=overs O' rs' ds'
 | [],[],_,_,_,_=>by simp[overs]
 | [],_::_,_,_,h,_=>by have:=h.1;simp at this
 | _::_,[],_,_,h,_=>by have:=h.1;simp at this
 | _::_,_::_,[],[],_,_=>by simp[overs]
 | _::_,_::_,[],_::_,_,h=>by have:=h.1;simp at this
 | _::_,_::_,_::_,[],_,h=>by have:=h.1;simp at this
 | r::rs,r'::rs',d::ds,d'::ds',h,k=>by
  rw[overs,overs,hO.over r r' d d' h.cons.1 k.cons.1,overs_sim hO h.cons.2 k.cons.2]
theorem isSo_sim {ov:Bool}{n n' w w':Env}(hn:Z n n') (hw:Z w w') {y y':Wy}(h:WyS Z y y'):isSo ov n w y=isSo ov n' w' y':=by
 unfold isSo
 rw[h.kind,h.no,h.cond n n' w w' hn hw]
theorem opnI_sim {ov:Bool}{n n' w w':Env}(hn:Z n n') (hw:Z w w') {asked:Wy->Bool}(ha:∀y y':Wy,WyS Z y y'->asked y=asked y') {ys ys':List Wy}(h:L2r (WyS Z) ys ys'):∀(f i:Nat) (cs:List Int),opnI ov n w asked ys f i cs=opnI ov n' w' asked ys' f i cs:=by
 intro f
 induction f with
 | zero=>intro i cs;rfl
 | succ f ih=>
  intro i cs
  rw[opnI,opnI]
  rcases h.or i with ⟨h1,h2⟩|⟨y,y',h1,h2,hy⟩
  ·simp only[h1,h2]
  ·simp only[h1,h2]
   rw[ha y y' hy,isSo_sim hn hw hy,hy.times,ih,ih]
theorem opnW_sim {ov:Bool}{n n' w w':Env}(hn:Z n n') (hw:Z w w') {asked:Wy->Bool}(ha:∀y y':Wy,WyS Z y y'->asked y=asked y') {ys ys':List Wy}(h:L2r (WyS Z) ys ys') (cs:List Int):opnW ov n w asked ys cs=opnW ov n' w' asked ys' cs:=by
 unfold opnW
 rw[h.1]
 exact opnI_sim hn hw ha h _ _ _
theorem ask1 (y y':Wy) (h:WyS Z y y'):askNS y=askNS y':=by unfold askNS;rw[h.now,h.kind]
theorem ask2 (y y':Wy) (h:WyS Z y y'):askNW y=askNW y':=by unfold askNW;rw[h.now,h.kind]
theorem ask3 (y y':Wy) (h:WyS Z y y'):askS y=askS y':=by unfold askS;rw[h.kind]
theorem ask4 (y y':Wy) (h:WyS Z y y'):askW y=askW y':=by unfold askW;rw[h.kind]
variable {L:List (StF σ)}{L':List (StF σ')}{d:RdF ρ}{d':RdF ρ'}{was was' n n':Env}
theorem RS2.put (h:RS2 R d d') (i:Nat) {so so':List Int}{ins:List ρ}{ins':List ρ'}(hs:so=so') (hi:L2r R ins ins') (t u:Option Nat):RS2 R ⟨t,u,d.sts.set i ⟨so,ins⟩⟩ ⟨t,u,d'.sts.set i ⟨so',ins'⟩⟩:=
 ⟨rfl,rfl,h.sts.set i ⟨hs,hi⟩⟩
theorem leaveR_sim (hO:SimOps Z O O' G R) (hG:GS Z G L L') (hw:Z was was') (hn:Z n n') (hd:RS2 R d d'):Sim2 (fun p p'=>Z p.1 p'.1/\RS2 R p.2 p'.2) (leaveR O was L n d) (leaveR O' was' L' n' d'):=by
 unfold leaveR
 rw[<-hd.there]
 cases ht:d.there with
 | none=>exact ⟨hn,hd⟩
 | some i=>
  simp only
  rcases hG.st.or i with ⟨h1,h2⟩|⟨s,s',h1,h2,hs⟩
  ·simp only[h1,h2];trivial
  ·rcases hd.sts.or i with ⟨k1,k2⟩|⟨x,x',k1,k2,hx⟩
   ·simp only[h1,h2,k1,k2];trivial
   ·simp only[h1,h2,k1,k2]
    rcases (allI_sim' (fun r r' n n' d d' h1 h2 h3=>hO.leave was was' r r' n n' d d' h1 hw h2 h3) hs.regions hn hx.2).out with ⟨e1,e2⟩|⟨p,p',e1,e2,hp⟩
    ·simp only[e1,e2];trivial
    ·simp only[e1,e2]
     exact ⟨hs.leave _ _ _ _ hw hp.1,hd.put i hx.1 hp.2 none (some i)⟩
theorem arriveR_sim (hO:SimOps Z O O' G R) (hG:GS Z G L L') (hw:Z was was') (hn:Z n n') (hd:RS2 R d d') (i:Nat) (b:Bool):Sim2 (fun p p'=>p.1=p'.1/\Z p.2.1 p'.2.1/\RS2 R p.2.2 p'.2.2) (arriveR O was L i b n d) (arriveR O' was' L' i b n' d'):=by
 unfold arriveR
 rcases hG.st.or i with ⟨h1,h2⟩|⟨s,s',h1,h2,hs⟩
 ·simp only[h1,h2];trivial
 ·rcases hd.sts.or i with ⟨k1,k2⟩|⟨x,x',k1,k2,hx⟩
  ·simp only[h1,h2,k1,k2];trivial
  ·simp only[h1,h2,k1,k2]
   have hn1:=hs.enter was was' n n' hw hn
   have ho:=opnW_sim (ov:=overs O s.regions x.inside) hn1 hw ask1 hs.ways (List.replicate s.ways.length 0)
   rw[<-hs.ways.1,<-overs_sim hO hs.regions hx.2,<-ho,<-hd.was]
   cases hc:(opnW (overs O s.regions x.inside) (doS was s.enter n) was askNS s.ways (List.replicate s.ways.length 0)).1 with
   | some j=>exact ⟨rfl,hn1,hd.put i rfl hx.2 (some i) d.was⟩
   | none=>
    simp only
    rcases (allI_sim' (fun r r' n n' d d' h1 h2 h3=>hO.enter was was' b r r' n n' d d' h1 hw h2 h3) hs.regions hn1 hx.2).out with ⟨e1,e2⟩|⟨p,p',e1,e2,hp⟩
    ·simp only[e1,e2];trivial
    ·simp only[e1,e2]
     have ho2:=opnW_sim (ov:=overs O s.regions p.2) hp.1 hw ask2 hs.ways (opnW (overs O s.regions x.inside) (doS was s.enter n) was askNS s.ways (List.replicate s.ways.length 0)).2
     rw[<-overs_sim hO hs.regions hp.2,<-ho2]
     exact ⟨rfl,hp.1,hd.put i rfl hp.2 (some i) d.was⟩
theorem passR_sim (hO:SimOps Z O O' G R) (hG:GS Z G L L') (hw:Z was was') (hn:Z n n') (hd:RS2 R d d'):Sim2 (fun p p'=>p.1=p'.1/\Z p.2.1 p'.2.1/\RS2 R p.2.2 p'.2.2) (passR O was L n d) (passR O' was' L' n' d'):=by
 unfold passR
 rw[<-hd.there]
 cases ht:d.there with
 | none=>trivial
 | some i=>
  simp only
  rcases hG.st.or i with ⟨h1,h2⟩|⟨s,s',h1,h2,hs⟩
  ·simp only[h1,h2];trivial
  ·rcases hd.sts.or i with ⟨k1,k2⟩|⟨x,x',k1,k2,hx⟩
   ·simp only[h1,h2,k1,k2];trivial
   ·simp only[h1,h2,k1,k2]
    have ho:=opnW_sim (ov:=overs O s.regions x.inside) hn hw ask3 hs.ways x.so
    rw[<-overs_sim hO hs.regions hx.2,<-hx.1,<-ho,<-hd.was,<-hs.rests n n' was was' hn hw]
    cases hc:(opnW (overs O s.regions x.inside) n was askS s.ways x.so).1 with
    | some j=>exact ⟨rfl,hn,hd.put i rfl hx.2 (some i) d.was⟩
    | none=>
     simp only
     by_cases hr:evE n was s.rests≠0
     ·rw[if_pos hr,if_pos hr]
      exact ⟨rfl,hn,hd.put i rfl hx.2 (some i) d.was⟩
     ·rw[if_neg hr,if_neg hr]
      rcases (allI_sim' (fun r r' n n' d d' h1 h2 h3=>hO.go was was' r r' n n' d d' h1 hw h2 h3) hs.regions (hs.during was was' n n' hw hn) hx.2).out with ⟨e1,e2⟩|⟨p,p',e1,e2,hp⟩
      ·simp only[e1,e2];trivial
      ·simp only[e1,e2]
       have ho2:=opnW_sim (ov:=overs O s.regions p.2) hp.1 hw ask4 hs.ways (opnW (overs O s.regions x.inside) n was askS s.ways x.so).2
       rw[<-overs_sim hO hs.regions hp.2,<-ho2]
       exact ⟨rfl,hp.1,hd.put i rfl hp.2 (some i) d.was⟩
theorem takeR_sim (hO:SimOps Z O O' G R) (hG:GS Z G L L') (hw:Z was was') (hn:Z n n') (hd:RS2 R d d') (j:Nat):Sim2 (fun p p'=>p.1=p'.1/\Z p.2.1 p'.2.1/\RS2 R p.2.2 p'.2.2) (takeR O was L j n d) (takeR O' was' L' j n' d'):=by
 unfold takeR
 rw[<-hd.there]
 cases ht:d.there with
 | none=>trivial
 | some i=>
  simp only
  rcases hG.st.or i with ⟨h1,h2⟩|⟨s,s',h1,h2,hs⟩
  ·simp only[h1,h2];trivial
  ·simp only[h1,h2]
   rcases hs.ways.or j with ⟨k1,k2⟩|⟨y,y',k1,k2,hy⟩
   ·simp only[k1,k2];trivial
   ·simp only[k1,k2]
    rcases (leaveR_sim hO hG hw hn hd).out with ⟨e1,e2⟩|⟨p,p',e1,e2,hp⟩
    ·simp only[e1,e2];trivial
    ·simp only[e1,e2]
     rw[<-hG.tos i j s s' y y' h1 h2 k1 k2]
     cases hf:fnd (snames L) y.to with
     | none=>trivial
     | some t=>
      simp only
      rw[<-hy.back]
      exact arriveR_sim hO hG hw (hy.sets was was' _ _ hw hp.1) hp.2 t y.back
theorem followR_sim (hO:SimOps Z O O' G R) (hG:GS Z G L L') (hw:Z was was'):∀(f:Nat) (w:Option Nat) (n n':Env) (d:RdF ρ) (d':RdF ρ'),Z n n'->RS2 R d d'->Sim2 (fun p p'=>Z p.1 p'.1/\RS2 R p.2 p'.2) (followR O was L f w n d) (followR O' was' L' f w n' d'):=by
 intro f
 induction f with
 | zero=>
  intro w n n' d d' hn hd
  cases w with
  | none=>exact ⟨hn,hd⟩
  | some j=>trivial
 | succ f ih=>
  intro w n n' d d' hn hd
  cases w with
  | none=>exact ⟨hn,hd⟩
  | some j=>
   rw[followR,followR]
   rcases (takeR_sim hO hG hw hn hd j).out with ⟨e1,e2⟩|⟨p,p',e1,e2,hp⟩
   ·simp only[e1,e2];trivial
   ·simp only[e1,e2]
    rw[<-hp.1]
    exact ih _ _ _ _ _ hp.2.1 hp.2.2
theorem enterAt_sim (hO:SimOps Z O O' G R) (hG:GS Z G L L') (hw:Z was was') (hn:Z n n') (hd:RS2 R d d') (i:Nat) (b:Bool):Sim2 (fun p p'=>Z p.1 p'.1/\RS2 R p.2 p'.2) (enterAt O was L i b n d) (enterAt O' was' L' i b n' d'):=by
 unfold enterAt
 rcases (arriveR_sim hO hG hw hn hd i b).out with ⟨e1,e2⟩|⟨p,p',e1,e2,hp⟩
 ·simp only[e1,e2];trivial
 ·simp only[e1,e2]
  rw[<-hG.st.1,<-hp.1]
  exact followR_sim hO hG hw _ _ _ _ _ _ hp.2.1 hp.2.2
theorem firstI_sim:∀{L:List (StF σ)}{L':List (StF σ')},L2r (fun s s'=>s.first=s'.first) L L'->firstI L=firstI L'
 | [],[],_=>rfl
 | [],_::_,h=>by have:=h.1;simp at this
 | _::_,[],h=>by have:=h.1;simp at this
 | s::L,s'::L',h=>by
  have h1:=h.cons
  have h2:=firstI_sim h1.2
  unfold firstI at *
  rw[List.findIdx?_cons,List.findIdx?_cons,h1.1,h2]
theorem opsF_sim (hO:SimOps Z O O' G R):SimOps Z (OpsF O) (OpsF O') (GS Z G) (RS2 R):=by
 refine ⟨fun L L' d d' hG hd=>?_,fun was was' b L L' n n' d d' hG hw hn hd=>?_,fun was was' L L' n n' d d' hG hw hn hd=>?_,fun was was' L L' n n' d d' hG hw hn hd=>leaveR_sim hO hG hw hn hd⟩
 ·show overR L d=overR L' d'
  unfold overR
  rw[<-hd.there]
  cases d.there with
  | none=>rfl
  | some i=>
   simp only
   rcases hG.st.or i with ⟨h1,h2⟩|⟨s,s',h1,h2,hs⟩
   ·simp only[h1,h2]
   ·simp only[h1,h2,hs.last]
 ·show Sim2 _ (enterR O was b L n d) (enterR O' was' b L' n' d')
  have hf:firstI L=firstI L':=firstI_sim ⟨hG.st.1,fun i s s' h1 h2=>(hG.st.2 i s s' h1 h2).first⟩
  have hrest:Sim2 (fun p p'=>Z p.1 p'.1/\RS2 R p.2 p'.2) (match firstI L with|none=>none|some i=>enterAt O was L i false n d) (match firstI L' with|none=>none|some i=>enterAt O' was' L' i false n' d'):=by
   rw[<-hf]
   cases firstI L with
   | none=>trivial
   | some i=>exact enterAt_sim hO hG hw hn hd i false
  unfold enterR
  rw[<-hd.was]
  cases b with
  | false=>exact hrest
  | true=>
   cases hwas:d.was with
   | none=>exact hrest
   | some i=>exact enterAt_sim hO hG hw hn hd i true
 ·show Sim2 _ (goR O was L n d) (goR O' was' L' n' d')
  unfold goR
  rcases (passR_sim hO hG hw hn hd).out with ⟨e1,e2⟩|⟨p,p',e1,e2,hp⟩
  ·simp only[e1,e2];trivial
  ·simp only[e1,e2]
   rw[<-hG.st.1,<-hp.1]
   exact followR_sim hO hG hw _ _ _ _ _ _ hp.2.1 hp.2.2
end
end Px
end
section
open Go.RowKit Px
namespace Px
end Px
end
section
open Go.RowKit Px
namespace Px
section
variable {σ σ' ρ ρ':Type}
theorem L2r.same {α:Type}{P:α->α->Prop}(h:∀a,P a a) (l:List α):L2r P l l:=⟨rfl,fun i a b ha hb=>by rw[ha] at hb;injection hb with hb;rw[<-hb];exact h a⟩
theorem SimOps.mono {Z:Env->Env->Prop}{O:Ops σ ρ}{O':Ops σ' ρ'}{G G2:List σ->List σ'->Prop}{R:ρ->ρ'->Prop}(h:SimOps Z O O' G R) (hG:∀L L',G2 L L'->G L L'):SimOps Z O O' G2 R:=
 ⟨fun L L' d d' hg=>h.over L L' d d' (hG L L' hg),fun was was' b L L' n n' d d' hg=>h.enter was was' b L L' n n' d d' (hG L L' hg),fun was was' L L' n n' d d' hg=>h.go was was' L L' n n' d d' (hG L L' hg),fun was was' L L' n n' d d' hg=>h.leave was was' L L' n n' d d' (hG L L' hg)⟩
end
theorem map_at {α β:Type}{f:α->β}{l:List α}{i:Nat}{y:β}(h:(l.map f)[i]?=some y):∃a,l[i]?=some a/\y=f a:=by
 rw[List.getElem?_map] at h
 cases hl:l[i]? with
 | none=>rw[hl] at h;exact absurd h (by simp)
 | some a=>rw[hl] at h;simp at h;exact ⟨a,rfl,h.symm⟩
theorem L2r.map {α β α' β':Type}{P:α->β->Prop}{Q:α'->β'->Prop}{f:α->α'}{g:β->β'}{l:List α}{m:List β}(h:L2r P l m) (hf:∀a b,P a b->Q (f a) (g b)):L2r Q (l.map f) (m.map g):=by
 refine ⟨by rw[List.length_map,List.length_map];exact h.1,fun i x y hx hy=>?_⟩
 obtain ⟨a,ha,rfl⟩:=map_at hx
 obtain ⟨b,hb,rfl⟩:=map_at hy
 exact hf a b (h.2 i a b ha hb)
end Px
end
end Go.Proofs.YtpogmfliojcnjaaGreatDoor
