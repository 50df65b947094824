import Derived.Test.YtcdbhoknhnimcaaGreatDoorTCe2
import Derived.Test.YtcdbhoknhnimcaaGreatDoorRows
import Derived.WalkKit
import Derived.WalkSpells
import Derived.WalkLawsBesides
import Derived.Below
import Derived.Lib.QuietBelow
import Derived.Deep.QuietTactic
set_option maxHeartbeats 1000000
namespace Go.Proofs.YtcdbhoknhnimcaaGreatDoor
section
namespace Nx
structure Sp where
 code:Int
 dst:Int
 a:Int
 b:Int
 c:Int
structure Nt where
 places:Int
 first:List Int
 ins:List Int
 outs:List Int
 keeps:List Int
 nums:List Int
 code:List Sp
def iC:Sp:=⟨0,0,0,0,0⟩
def get (l:List Int) (i:Int):Int:=if 0≤i then l.getD i.toNat 0 else 0
def put (l:List Int) (i x:Int):List Int:=if 0≤i then l.set i.toNat x else l
theorem vM (l:List Int) (i x:Int):(put l i x).length=l.length:=by unfold put;split<;>simp
theorem Ga (l:List Int) (k:Nat):get l k=l.getD k 0:=by unfold get;simp
theorem G4 (l:List Int) (i:Int) (h:i<0):get l i=0:=by unfold get;rw[if_neg (by omega)]
theorem Qe (l:List Int) (i:Int) (h:(l.length:Int)≤i):get l i=0:=by
 unfold get
 split
 ·rw[List.getD_eq_getElem?_getD,List.getElem?_eq_none (by omega)];rfl
 ·rfl
theorem Dp (l:List Int) (i:Int) (h0:0≤i):get l i=l.getD i.toNat 0:=by unfold get;rw[if_pos h0]
theorem Nj (l:List Int) (i x:Int) (h0:0≤i):put l i x=l.set i.toNat x:=by unfold put;rw[if_pos h0]
theorem Fe (l:List Int) (i x:Int) (h:i<0\/(l.length:Int)≤i):put l i x=l:=by
 unfold put
 split
 ·rw[List.set_eq_of_length_le (by omega)]
 ·rfl
theorem Vu (l:List Int) (i j x:Int):get (put l i x) j=if i=j/\0≤i/\i<l.length then x else get l j:=by
 by_cases hj:0≤j
 ·rw[Dp _ _ hj,Dp _ _ hj]
  by_cases hi:0≤i
  ·rw[Nj _ _ _ hi]
   simp only[List.getD_eq_getElem?_getD,List.getElem?_set]
   by_cases e:i=j
   ·subst e
    by_cases hl:i<l.length
    ·rw[if_pos rfl,if_pos (by omega),if_pos ⟨rfl,hi,hl⟩];rfl
    ·rw[if_pos rfl,if_neg (by omega),if_neg (by omega),List.getElem?_eq_none (by omega)]
   ·rw[if_neg (by omega),if_neg (by omega)]
  ·rw[Fe _ _ _ (.inl (by omega)),if_neg (by omega)]
 ·rw[G4 _ _ (by omega),G4 _ _ (by omega)]
  split
  ·omega
  ·rfl
def asks (s:Sp):List Int:=
 if s.code=2\/s.code=4\/s.code=5 then [s.a] else if 6≤s.code/\s.code≤16 then [s.a,s.b] else if s.code=17 then [s.a,s.b,s.c] else []
def cH (P p:Int):Bool:=decide (0≤p)&&decide (p<P)
def dI (P:Int) (nums:Nat) (s:Sp):Nat:=
 if s.code<1\/17<s.code\/s.code=3 then 3
 else if ¬(cH P s.dst=true/\(asks s).all (cH P)=true) then 2
 else if s.code=1/\¬(0≤s.a/\s.a<nums) then 2
 else if ([s.a,s.b,s.c].drop (if s.code=1 then 1 else (asks s).length)).any (· != 0) then 1 else 0
def cN (n:Nt):Nat:=
 if n.places<0\/4000<n.places\/4000<n.code.length\/4000<n.nums.length\/4000<n.ins.length+n.outs.length+n.keeps.length then 4
 else if (n.first.length:Int)≠n.places then 3
 else if ¬(n.ins.all (cH n.places)=true/\n.outs.all (cH n.places)=true/\n.keeps.all (cH n.places)=true) then 2
 else if ¬n.ins.Nodup then 9 else 0
def lB (P:Int) (nums:Nat):List Sp->Nat->Nat×Int
 | [],_=>(0,-1)
 | s::r,i=>if dI P nums s=0 then lB P nums r (i+1) else (dI P nums s,i)
def fM (n:Nt):Nat×Int:=if cN n=0 then lB n.places n.nums.length n.code 0 else (cN n,-1)
theorem uP (P:Int) (nums:Nat) (l:List Sp) (i k:Nat) (h:∀j,j<k->dI P nums (l.getD j iC)=0) (hk:k≤l.length):lB P nums l i=lB P nums (l.drop k) (i+k):=by
 induction k generalizing l i with
 | zero=>simp
 | succ k ih=>
  cases l with
  | nil=>simp at hk
  | cons s r=>
   have h0:dI P nums s=0:=by simpa using h 0 (by omega)
   rw[lB,if_pos h0,ih r (i+1) (fun j hj=>by simpa using h (j+1) (by omega)) (by simpa using hk)]
   simp only[List.drop_succ_cons]
   congr 1;omega
theorem tG (P:Int) (nums:Nat) (l:List Sp) (k:Nat) (h:∀j,j<k->dI P nums (l.getD j iC)=0) (hk:k<l.length) (hb:dI P nums (l.getD k iC)≠0):lB P nums l 0=(dI P nums (l.getD k iC),(k:Int)):=by
 rw[uP P nums l 0 k h (by omega)]
 have e:l.drop k=l.getD k iC::l.drop (k+1):=by
  rw[List.drop_eq_getElem_cons hk]
  simp[List.getD_eq_getElem?_getD,hk]
 rw[e,lB,if_neg hb];simp
theorem oM (P:Int) (nums:Nat) (l:List Sp) (h:∀j,j<l.length->dI P nums (l.getD j iC)=0):lB P nums l 0=(0,-1):=by
 rw[uP P nums l 0 l.length h (by omega)];simp[lB]
def yS (l ins V:List Int):Nat->List Int
 | 0=>V
 | k+1=>put (yS l ins V k) (l.getD k 0) (ins.getD k 0)
def made (nums V:List Int) (s:Sp):Int:=
 if s.code=1 then get nums s.a else if s.code=2 then get V s.a else if s.code=4\/s.code=5 then vA s.code (get V s.a)
 else if s.code=17 then mI (get V s.a) (get V s.b) (get V s.c) else vZ s.code (get V s.a) (get V s.b)
def iH (nums:List Int) (cs:List Sp) (V:List Int):Nat->List Int
 | 0=>V
 | k+1=>put (iH nums cs V k) (cs.getD k iC).dst (made nums (iH nums cs V k) (cs.getD k iC))
def sD (keeps V:List Int):Nat->List Int
 | 0=>List.replicate V.length 0
 | k+1=>put (sD keeps V k) (keeps.getD k 0) (get V (keeps.getD k 0))
def ran (n:Nt) (V ins:List Int):List Int:=iH n.nums n.code (yS n.ins ins V n.ins.length) n.code.length
def tells (n:Nt) (V ins:List Int):List Int:=n.outs.map (get (ran n V ins))
def after (n:Nt) (V ins:List Int):List Int:=sD n.keeps (ran n V ins) n.keeps.length
theorem xQ (l ins V:List Int) (k:Nat):(yS l ins V k).length=V.length:=by
 induction k with
 | zero=>rfl
 | succ k ih=>rw[yS,vM,ih]
theorem uB (nums:List Int) (cs:List Sp) (V:List Int) (k:Nat):(iH nums cs V k).length=V.length:=by
 induction k with
 | zero=>rfl
 | succ k ih=>rw[iH,vM,ih]
theorem Jm (keeps V:List Int) (k:Nat):(sD keeps V k).length=V.length:=by
 induction k with
 | zero=>simp[sD]
 | succ k ih=>rw[sD,vM,ih]
theorem Ub (n:Nt) (V ins:List Int):(ran n V ins).length=V.length:=by unfold ran;rw[uB,xQ]
theorem B5 (n:Nt) (V ins:List Int):(after n V ins).length=V.length:=by unfold after;rw[Jm,Ub]
theorem tB (n:Nt) (V ins:List Int):(tells n V ins).length=n.outs.length:=by unfold tells;simp
theorem Mk (n:Nt) (V ins:List Int) (k:Nat) (h:k<n.outs.length):(n.outs.take (k+1)).map (get (ran n V ins))=(n.outs.take k).map (get (ran n V ins))++[get (ran n V ins) (n.outs.getD k 0)]:=by
 rw[List.take_succ_eq_append_getElem h,List.map_append];simp[List.getD_eq_getElem?_getD,h]
end Nx
end
section
open Go.RowKit
namespace Nx
structure Fr (B:Nat) (X:List Nat) (w w':World):Prop where
 os:w'.os=w.os
 tape:w'.tape=w.tape
 output:w'.output=w.output
 size:w.heap.size≤w'.heap.size
 block:∀k,k<B->k∉X->w'.heap[k]?=w.heap[k]?
theorem Fr.refl (B:Nat) (X:List Nat) (w:World):Fr B X w w:=⟨rfl,rfl,rfl,Nat.le_refl _,fun _ _ _=>rfl⟩
theorem Fr.trans {B:Nat}{X:List Nat}{a b c:World}(h:Fr B X a b) (k:Fr B X b c):Fr B X a c:=
 ⟨k.os.trans h.os,k.tape.trans h.tape,k.output.trans h.output,Nat.le_trans h.size k.size,fun i hi hx=>(k.block i hi hx).trans (h.block i hi hx)⟩
theorem Fr.mono {B B':Nat}{X X':List Nat}{w w':World}(h:Fr B X w w') (hB:B'≤B) (hX:∀x∈X,x<B'->x∈X'):Fr B' X' w w':=
 ⟨h.os,h.tape,h.output,h.size,fun k hk hx=>h.block k (by omega) (fun hm=>hx (hX k hm hk))⟩
theorem Fr.of_below {B:Nat}{w w':World}(h:Below B w w') (X:List Nat):Fr B X w w':=⟨h.os,h.tape,h.output,h.size,fun k hk _=>h.block k hk⟩
theorem Fr.alloc {B:Nat}{X:List Nat}{a w:World}(h:Fr B X a w) (hB:B≤w.heap.size) (o:Obj):Fr B X a (w.alloc o):=
 h.trans ⟨rfl,rfl,rfl,by simp,fun k hk _=>Below.heap_alloc _ _ _ (by omega)⟩
theorem Fr.setCell {B:Nat}{X:List Nat}{a w:World}(h:Fr B X a w) {p:Addr}(hp:B≤p.block\/p.block∈X) (u:Value):Fr B X a (w.setCell p u):=
 h.trans ⟨rfl,rfl,rfl,by simp[World.setCell],fun k hk hx=>Below.heap_setCell _ _ _ _ (fun e=>by rcases hp with hp|hp;omega;exact hx (e▸hp))⟩
theorem Fr.drew {B:Nat}{X:List Nat}{a w:World}(h:Fr B X a w):Fr B X a w.drew:=⟨h.os,h.tape,h.output,h.size,h.block⟩
theorem aB {w:World}{b:Nat}{o:Obj}(h:w.heap[b]?=some o):b<w.heap.size:=(Array.getElem?_eq_some_iff.1 h).1
theorem aV {w w':World}{b:Nat}(h:w'.heap[b]?=w.heap[b]?) (o:Nat):w'.cell? ⟨b,o,none⟩=w.cell? ⟨b,o,none⟩:=by
 simp only[World.cell?,h]
theorem cM {w:World}{b o:Nat}{v:Value}(h:w.cell? ⟨b,o,none⟩=some v):b<w.heap.size:=by
 rcases Nat.lt_or_ge b w.heap.size with hl|hl
 ·exact hl
 ·simp[World.cell?,Array.getElem?_eq_none hl] at h
def aX (A A':Nat->Prop) (w w':World):Prop:=∀b,A b->b<w.heap.size->A' b/\w'.heap[b]?=w.heap[b]?
def bL (A:Nat->Prop) (w:World) (v:Value) (zs:List Int):Prop:=
 ∃ad b off cap,v=.slice ad zs.length cap/\(0<zs.length->ad=some ⟨b,off,none⟩/\A b)/\∀k,k<zs.length->w.cell? ⟨b,off+k,none⟩=some (.int .i64 (zs.getD k 0))
theorem bL.carry {A A':Nat->Prop}{w w':World}{v:Value}{zs:List Int}(h:bL A w v zs) (k:aX A A' w w'):bL A' w' v zs:=by
 obtain ⟨ad,b,off,cap,rfl,h1,h2⟩:=h
 refine ⟨ad,b,off,cap,rfl,fun hp=>?_,fun j hj=>?_⟩
 ·obtain ⟨e,ha⟩:=h1 hp
  exact ⟨e,(k b ha (cM (h2 0 hp))).1⟩
 ·obtain ⟨e,ha⟩:=h1 (by omega)
  rw[aV (k b ha (cM (h2 j hj))).2];exact h2 j hj
def lH (A:Nat->Prop) (w:World) (v:Value) (l:List Sp):Prop:=
 ∃ad b off cap,v=.slice ad l.length cap/\(0<l.length->ad=some ⟨b,off,none⟩/\A b)/\
  ∀k,k<l.length->w.cell? ⟨b,off+k*5,none⟩=some (.int .i64 (l.getD k iC).code)/\w.cell? ⟨b,off+k*5+1,none⟩=some (.int .i64 (l.getD k iC).dst)/\
   w.cell? ⟨b,off+k*5+2,none⟩=some (.int .i64 (l.getD k iC).a)/\w.cell? ⟨b,off+k*5+3,none⟩=some (.int .i64 (l.getD k iC).b)/\w.cell? ⟨b,off+k*5+4,none⟩=some (.int .i64 (l.getD k iC).c)
theorem lH.carry {A A':Nat->Prop}{w w':World}{v:Value}{l:List Sp}(h:lH A w v l) (k:aX A A' w w'):lH A' w' v l:=by
 obtain ⟨ad,b,off,cap,rfl,h1,h2⟩:=h
 refine ⟨ad,b,off,cap,rfl,fun hp=>?_,fun j hj=>?_⟩
 ·obtain ⟨e,ha⟩:=h1 hp
  exact ⟨e,(k b ha (cM (h2 0 hp).1)).1⟩
 ·obtain ⟨e,ha⟩:=h1 (by omega)
  have hb:=(k b ha (cM (h2 j hj).1)).2
  rw[aV hb,aV hb,aV hb,aV hb,aV hb];exact h2 j hj
def Own (w:World) (v:Value) (V:List Int) (g:Nat):Prop:=
 ∃ad cap,v=.slice ad V.length cap/\(0<V.length->ad=some ⟨g,0,none⟩/\∃rest T,w.heap[g]?=some (.cells (V.map (Value.int .i64)++rest).toArray T (0,0)))
theorem Own.keep {w w':World}{v:Value}{V:List Int}{g:Nat}(h:Own w v V g) (hg:w'.heap[g]?=w.heap[g]?):Own w' v V g:=by
 obtain ⟨ad,cap,rfl,h1⟩:=h
 exact ⟨ad,cap,rfl,fun hp=>by obtain ⟨e,rest,T,hb⟩:=h1 hp;exact ⟨e,rest,T,by rw[hg];exact hb⟩⟩
theorem qU {w:World}{g:Nat}{l:List Value}{T:TypeId}{f:Nat×Nat}(h:w.heap[g]?=some (.cells l.toArray T f)) (k:Nat):w.cell? ⟨g,k,none⟩=l[k]?:=by
 simp only[World.cell?,h]
 simp
theorem Own.cell {w:World}{v:Value}{V:List Int}{g:Nat}(h:Own w v V g) (k:Nat) (hk:k<V.length):w.cell? ⟨g,k,none⟩=some (.int .i64 (V.getD k 0)):=by
 obtain ⟨ad,cap,rfl,h1⟩:=h
 obtain ⟨e,rest,T,hb⟩:=h1 (by omega)
 rw[qU hb,List.getElem?_append_left (by simpa using hk),List.getElem?_map,List.getD_eq_getElem?_getD,List.getElem?_eq_getElem hk];rfl
theorem Own.ints {w:World}{v:Value}{V:List Int}{g:Nat}(h:Own w v V g) {A:Nat->Prop}(ha:0<V.length->A g):bL A w v V:=by
 have hc:=h.cell
 obtain ⟨ad,cap,rfl,h1⟩:=h
 exact ⟨ad,g,0,cap,rfl,fun hp=>⟨(h1 hp).1,ha hp⟩,fun k hk=>by rw[Nat.zero_add];exact hc k hk⟩
end Nx
end
section
open Go.RowKit
namespace Nx
theorem aA2 (ad:Option Addr) (n cap:Nat) (i:Int) (w:World) (h:i<0\/(n:Int)≤i) :
    Calls Tryz.prog 104 #[.slice ad n cap,.int .i64 i] w fun e w'=>e=.returned (.int .i64 0)/\w'=w:=by
 by_cases h0:i<0
 ·go_enter Tryz.func104,Tryz.ntmps104
  go_wp2
  go_ret
  exact ⟨rfl,rfl⟩
 ·have h1:(n:Int)≤i:=by omega
  clear h
  go_enter Tryz.func104,Tryz.ntmps104
  go_wp2
  go_ret
  exact ⟨rfl,rfl⟩
theorem aG3 (b off n cap:Nat) (i x:Int) (w:World) (h0:0≤i) (h1:i<n) (hc:w.cell? ⟨b,off+i.toNat,none⟩=some (.int .i64 x)) :
    Calls Tryz.prog 104 #[.slice (some ⟨b,off,none⟩) n cap,.int .i64 i] w fun e w'=>e=.returned (.int .i64 x)/\w'=w:=by
 go_enter Tryz.func104,Tryz.ntmps104
 go_wp2
 go_ret
 exact ⟨rfl,rfl⟩
theorem J3 {A:Nat->Prop}(v:Value) (zs:List Int) (i:Int) (w:World) (h:bL A w v zs) :
    Calls Tryz.prog 104 #[v,.int .i64 i] w fun e w'=>e=.returned (.int .i64 (get zs i))/\w'=w:=by
 obtain ⟨ad,b,off,cap,rfl,h1,h2⟩:=h
 by_cases hi:i<0\/(zs.length:Int)≤i
 ·have e:get zs i=0:=by rcases hi with hi|hi;exact G4 _ _ hi;exact Qe _ _ hi
  rw[e];exact aA2 ad zs.length cap i w hi
 ·obtain ⟨rfl,_⟩:=h1 (by omega)
  rw[Dp _ _ (by omega)]
  exact aG3 b off zs.length cap i _ w (by omega) (by omega) (h2 i.toNat (by omega))
theorem Ni (ad:Option Addr) (n cap:Nat) (i x:Int) (w:World) (h:i<0\/(n:Int)≤i) :
    Calls Tryz.prog 105 #[.slice ad n cap,.int .i64 i,.int .i64 x] w fun e w'=>e=.returned (.tuple #[])/\w'=w:=by
 by_cases h0:i<0
 ·go_enter Tryz.func105,Tryz.ntmps105
  go_wp2
  go_end0
  exact ⟨rfl,rfl⟩
 ·have h1:(n:Int)≤i:=by omega
  have h2:0≤i:=by omega
  clear h
  go_enter Tryz.func105,Tryz.ntmps105
  go_wp2
  go_end0
  exact ⟨rfl,rfl⟩
theorem Ud (b off n cap:Nat) (i x y:Int) (w:World) (h0:0≤i) (h1:i<n) (hc:w.cell? ⟨b,off+i.toNat,none⟩=some (.int .i64 y)) (hf:w.frozen? ⟨b,off+i.toNat,none⟩=false) :
    Calls Tryz.prog 105 #[.slice (some ⟨b,off,none⟩) n cap,.int .i64 i,.int .i64 x] w fun e w'=>e=.returned (.tuple #[])/\w'=w.setCell ⟨b,off+i.toNat,none⟩ (.int .i64 x):=by
 go_enter Tryz.func105,Tryz.ntmps105
 go_wp2
 go_end0
 exact ⟨rfl,rfl⟩
theorem zM {w:World}{g:Nat}{l:List Value}{T:TypeId}{f:Nat×Nat}(h:w.heap[g]?=some (.cells l.toArray T f)) (k:Nat) (x:Value):(w.setCell ⟨g,k,none⟩ x).heap[g]?=some (.cells (l.set k x).toArray T f):=by
 have hl:=aB h
 have e:w.heap[g]=.cells l.toArray T f:=by rw[Array.getElem?_eq_getElem hl] at h;exact Option.some.inj h
 simp only[World.setCell]
 rw[Array.getElem?_eq_getElem (by simpa using hl),Array.getElem_modify]
 simp[e]
theorem sH {w:World}{g:Nat}{l:Array Value}{T:TypeId}(h:w.heap[g]?=some (.cells l T (0,0))) (k:Nat):w.frozen? ⟨g,k,none⟩=false:=by
 simp[World.frozen?,h]
theorem nE (v:Value) (V:List Int) (g:Nat) (i x:Int) (w:World) (h:Own w v V g) :
    Calls Tryz.prog 105 #[v,.int .i64 i,.int .i64 x] w fun e w'=>e=.returned (.tuple #[])/\Own w' v (put V i x) g/\Fr w.heap.size [g] w w':=by
 have hcell:=h.cell
 have h':=h
 obtain ⟨ad,cap,rfl,h1⟩:=h
 by_cases hi:i<0\/(V.length:Int)≤i
 ·rw[Fe _ _ _ hi]
  exact (Ni ad V.length cap i x w hi).mono fun e w' ⟨he,hw⟩=>⟨he,by rw[hw];exact h',by rw[hw];exact Fr.refl _ _ _⟩
 ·obtain ⟨rfl,rest,T,hb⟩:=h1 (by omega)
  have hk:i.toNat<V.length:=by omega
  refine (Ud g 0 V.length cap i x _ w (by omega) (by omega) (by rw[Nat.zero_add];exact hcell i.toNat hk) (sH hb _)).mono fun e w' ⟨he,hw⟩=>⟨he,?_,?_⟩
  ·rw[hw,Nat.zero_add]
   refine ⟨some ⟨g,0,none⟩,cap,by rw[vM],fun _=>⟨rfl,rest,T,?_⟩⟩
   rw[zM hb,Nj _ _ _ (by omega)]
   rw[List.set_append_left _ _ (by simpa using hk),List.map_set]
  ·rw[hw,Nat.zero_add]
   exact (Fr.refl _ _ _).setCell (.inr (by simp)) _
theorem vR (q bm:Nat) (vp:Value) (V:List Int) (g:Nat) (i:Int) (w:World) (hq:w.cell? ⟨q,0,none⟩=some (.pointer (some ⟨bm,0,none⟩))) (hm:w.cell? ⟨bm,7,none⟩=some vp) (h:Own w vp V g) :
    Calls Tryz.prog 103 #[.int .i64 i,.pointer (some ⟨q,0,none⟩)] w fun e w'=>e=.returned (.int .i64 (get V i))/\w'=w:=by
 have ha:=J3 (A:=fun _=>True) vp V i w (h.ints fun _=>trivial)
 obtain ⟨ad,cap,rfl,h1⟩:=h
 clear h1
 go_enter Tryz.func103,Tryz.ntmps103
 go_wp2_with (go_at_call 104;refine ha.mono ?_;rintro e w' ⟨rfl,rfl⟩)
 go_ret
 exact ⟨rfl,rfl⟩
end Nx
end
section
open Go.RowKit Go.Sort
namespace Nx
theorem eX {w w' w'':World}(h:Below w.heap.size w w') (k:Below w'.heap.size w' w''):Below w.heap.size w w'':=h.trans (k.mono h.size)
theorem aZ {w w':World}(h:Below w.heap.size w w') {b o:Nat}{v:Value}(hc:w.cell? ⟨b,o,none⟩=some v):w'.cell? ⟨b,o,none⟩=some v:=by
 rw[aV (h.block b (cM hc))];exact hc
theorem aD (w:World) (o:Obj):Below w.heap.size w (w.alloc o):=(Below.refl _ _).alloc (Nat.le_refl _) _
structure MV (A:Nat->Prop) (w:World) (q bm g:Nat) (vp vN:Value) (V nums:List Int):Prop where
 q:w.cell? ⟨q,0,none⟩=some (.pointer (some ⟨bm,0,none⟩))
 p:w.cell? ⟨bm,7,none⟩=some vp
 own:Own w vp V g
 gl:0<V.length->g<w.heap.size
 nums:bL A w vN nums
theorem MV.below {A:Nat->Prop}{w w':World}{q bm g:Nat}{vp vN:Value}{V nums:List Int}(h:MV A w q bm g vp vN V nums) (hb:Below w.heap.size w w'):MV A w' q bm g vp vN V nums:=by
 refine ⟨?_,?_,?_,fun hp=>Nat.lt_of_lt_of_le (h.gl hp) hb.size,?_⟩
 ·rw[aV (hb.block q (cM h.q))];exact h.q
 ·rw[aV (hb.block bm (cM h.p))];exact h.p
 ·by_cases hp:0<V.length
  ·exact h.own.keep (hb.block g (h.gl hp))
  ·obtain ⟨ad,cap,rfl,_⟩:=h.own
   exact ⟨ad,cap,rfl,fun hp'=>absurd hp' hp⟩
 ·exact h.nums.carry fun b ha hl=>⟨ha,hb.block b hl⟩
theorem MV.ask {A:Nat->Prop}{w:World}{q bm g:Nat}{vp vN:Value}{V nums:List Int}(h:MV A w q bm g vp vN V nums) (i:Int) :
    Calls Tryz.prog 103 #[.int .i64 i,.pointer (some ⟨q,0,none⟩)] w fun e w'=>e=.returned (.int .i64 (get V i))/\w'=w:=
 vR q bm vp V g i w h.q h.p h.own
section
variable {A:Nat->Prop}(w:World) (q bm g:Nat) (vp vN:Value) (V nums:List Int) (s:Sp)
theorem Oq (h:MV A w q bm g vp vN V nums) (hc:s.code=1) :
    Calls Tryz.prog 106 #[.agg #[.int .i64 s.code,.int .i64 s.dst,.int .i64 s.a,.int .i64 s.b,.int .i64 s.c],vN,.func (.func 103) #[] #[.pointer (some ⟨q,0,none⟩)]] w fun e w'=>e=.returned (.int .i64 (get nums s.a))/\Below w.heap.size w w':=by
 have ha:=fun o=>J3 vN nums s.a (w.alloc o) (h.below (aD w o)).nums
 clear h
 obtain ⟨code,dst,a,b,c⟩:=s
 subst hc
 go_enter Tryz.func106,Tryz.ntmps106
 go_wp2_with (go_at_call 104;refine (ha _).mono ?_;rintro e w' ⟨rfl,rfl⟩)
 go_ret
 exact ⟨rfl,aD w _⟩
theorem Om (h:MV A w q bm g vp vN V nums) (hc:s.code=2) :
    Calls Tryz.prog 106 #[.agg #[.int .i64 s.code,.int .i64 s.dst,.int .i64 s.a,.int .i64 s.b,.int .i64 s.c],vN,.func (.func 103) #[] #[.pointer (some ⟨q,0,none⟩)]] w fun e w'=>e=.returned (.int .i64 (get V s.a))/\Below w.heap.size w w':=by
 have ha:=fun o=>(h.below (aD w o)).ask s.a
 clear h
 obtain ⟨code,dst,a,b,c⟩:=s
 subst hc
 go_enter Tryz.func106,Tryz.ntmps106
 go_wp2_with (go_at_call 103;refine (ha _).mono ?_;rintro e w' ⟨rfl,rfl⟩)
 go_ret
 exact ⟨rfl,aD w _⟩
theorem aD4 (c a:Int) (w:World) (d:Nat) (os:Array Obj) :
    Calls Tryz.prog 101 #[.int .i64 c,.int .i64 a] (grow (redrawn w d) os) fun e w''=>e=.returned (.int .i64 (vA c a))/\∃p:Regrown,w''=grow (redrawn w p.d) p.os:=
 Calls.regrown_of ((E9 c a _).mono fun _ _ ⟨he,hw⟩=>⟨he,by rw[hw];exact Below.refl _ _⟩)
theorem Ye (a b c:Int) (w:World) (d:Nat) (os:Array Obj) :
    Calls Tryz.prog 100 #[.int .i64 a,.int .i64 b,.int .i64 c] (grow (redrawn w d) os) fun e w''=>e=.returned (.int .i64 (mI a b c))/\∃p:Regrown,w''=grow (redrawn w p.d) p.os:=
 Calls.regrown_of ((V0 a b c _).mono fun _ _ ⟨he,hw⟩=>⟨he,by rw[hw];exact Below.refl _ _⟩)
theorem Xc (c a b:Int) (w:World) (d:Nat) (os:Array Obj) :
    Calls Tryz.prog 102 #[.int .i64 c,.int .i64 a,.int .i64 b] (grow (redrawn w d) os) fun e w''=>e=.returned (.int .i64 (vZ c a b))/\∃p:Regrown,w''=grow (redrawn w p.d) p.os:=
 Calls.regrown_of ((C5 c a b _).mono fun _ _ ⟨he,hw⟩=>⟨he,by rw[hw];exact aD _ _⟩)
theorem Oo (h:MV A w q bm g vp vN V nums) (hc:s.code=4\/s.code=5) :
    Calls Tryz.prog 106 #[.agg #[.int .i64 s.code,.int .i64 s.dst,.int .i64 s.a,.int .i64 s.b,.int .i64 s.c],vN,.func (.func 103) #[] #[.pointer (some ⟨q,0,none⟩)]] w fun e w'=>e=.returned (.int .i64 (vA s.code (get V s.a)))/\Below w.heap.size w w':=by
 have hask:=fun o d os i=>Calls.regrown_of (((h.below (eX (aD w o) (below_regrown (w.alloc o) d os))).ask i).mono fun _ _ ⟨he,hw⟩=>⟨he,by rw[hw];exact Below.refl _ _⟩)
 have hone:=aD4
 clear h
 obtain ⟨code,dst,a,b,c⟩:=s
 simp only at hc
 have cq0:=fun d os=>cell_regrown (show (w.alloc (.cells #[.int .i64 code,.int .i64 dst,.int .i64 a,.int .i64 b,.int .i64 c] 39)).cell? ⟨w.heap.size,0,none⟩=some (.int .i64 code) by simp) d os
 have cq2:=fun d os=>cell_regrown (show (w.alloc (.cells #[.int .i64 code,.int .i64 dst,.int .i64 a,.int .i64 b,.int .i64 c] 39)).cell? ⟨w.heap.size,2,none⟩=some (.int .i64 a) by simp) d os
 rcases hc with rfl|rfl
 all_goals
  go_enter Tryz.func106,Tryz.ntmps106
  go_wp2_with fail
  refine wp_region_quiet_below (by kernel_rfl) (by kernel_rfl) ?_
  repeat (quiet_step (first|exact hask _ _ _ _|exact hone _ _ _ _ _))
  refine wpQuiet_nil ?_
  intro _ hw'
  obtain ⟨⟨dq,osq⟩,hw''⟩:=hw'
  subst hw''
  go_wp2_with fail
  go_ret
  exact ⟨rfl,eX (aD w _) (below_regrown _ dq osq)⟩
theorem Jc (h:MV A w q bm g vp vN V nums) (hc:s.code=17) :
    Calls Tryz.prog 106 #[.agg #[.int .i64 s.code,.int .i64 s.dst,.int .i64 s.a,.int .i64 s.b,.int .i64 s.c],vN,.func (.func 103) #[] #[.pointer (some ⟨q,0,none⟩)]] w fun e w'=>e=.returned (.int .i64 (mI (get V s.a) (get V s.b) (get V s.c)))/\Below w.heap.size w w':=by
 have hask:=fun o d os i=>Calls.regrown_of (((h.below (eX (aD w o) (below_regrown (w.alloc o) d os))).ask i).mono fun _ _ ⟨he,hw⟩=>⟨he,by rw[hw];exact Below.refl _ _⟩)
 have hone:=Ye
 clear h
 obtain ⟨code,dst,a,b,c⟩:=s
 simp only at hc
 subst hc
 have cq2:=fun d os=>cell_regrown (show (w.alloc (.cells #[.int .i64 17,.int .i64 dst,.int .i64 a,.int .i64 b,.int .i64 c] 39)).cell? ⟨w.heap.size,2,none⟩=some (.int .i64 a) by simp) d os
 have cq3:=fun d os=>cell_regrown (show (w.alloc (.cells #[.int .i64 17,.int .i64 dst,.int .i64 a,.int .i64 b,.int .i64 c] 39)).cell? ⟨w.heap.size,3,none⟩=some (.int .i64 b) by simp) d os
 have cq4:=fun d os=>cell_regrown (show (w.alloc (.cells #[.int .i64 17,.int .i64 dst,.int .i64 a,.int .i64 b,.int .i64 c] 39)).cell? ⟨w.heap.size,4,none⟩=some (.int .i64 c) by simp) d os
 go_enter Tryz.func106,Tryz.ntmps106
 go_wp2_with fail
 refine wp_region_quiet_below (by kernel_rfl) (by kernel_rfl) ?_
 repeat (quiet_step (first|exact hask _ _ _ _|exact hone _ _ _ _ _ _))
 refine wpQuiet_nil ?_
 intro _ hw'
 obtain ⟨⟨dq,osq⟩,hw''⟩:=hw'
 subst hw''
 go_wp2_with fail
 go_ret
 exact ⟨rfl,eX (aD w _) (below_regrown _ dq osq)⟩
theorem On (h:MV A w q bm g vp vN V nums) (h1:s.code≠1) (h2:s.code≠2) (h4:s.code≠4) (h5:s.code≠5) (h17:s.code≠17) :
    Calls Tryz.prog 106 #[.agg #[.int .i64 s.code,.int .i64 s.dst,.int .i64 s.a,.int .i64 s.b,.int .i64 s.c],vN,.func (.func 103) #[] #[.pointer (some ⟨q,0,none⟩)]] w fun e w'=>e=.returned (.int .i64 (vZ s.code (get V s.a) (get V s.b)))/\Below w.heap.size w w':=by
 have hask:=fun o d os i=>Calls.regrown_of (((h.below (eX (aD w o) (below_regrown (w.alloc o) d os))).ask i).mono fun _ _ ⟨he,hw⟩=>⟨he,by rw[hw];exact Below.refl _ _⟩)
 have hone:=Xc
 clear h
 obtain ⟨code,dst,a,b,c⟩:=s
 have t1:(code==1)=false:=by simpa using h1
 have t2:(code==2)=false:=by simpa using h2
 have t4:(code==4)=false:=by simpa using h4
 have t5:(code==5)=false:=by simpa using h5
 have t17:(code==17)=false:=by simpa using h17
 clear h1 h2 h4 h5 h17
 have cq0:=fun d os=>cell_regrown (show (w.alloc (.cells #[.int .i64 code,.int .i64 dst,.int .i64 a,.int .i64 b,.int .i64 c] 39)).cell? ⟨w.heap.size,0,none⟩=some (.int .i64 code) by simp) d os
 have cq2:=fun d os=>cell_regrown (show (w.alloc (.cells #[.int .i64 code,.int .i64 dst,.int .i64 a,.int .i64 b,.int .i64 c] 39)).cell? ⟨w.heap.size,2,none⟩=some (.int .i64 a) by simp) d os
 have cq3:=fun d os=>cell_regrown (show (w.alloc (.cells #[.int .i64 code,.int .i64 dst,.int .i64 a,.int .i64 b,.int .i64 c] 39)).cell? ⟨w.heap.size,3,none⟩=some (.int .i64 b) by simp) d os
 go_enter Tryz.func106,Tryz.ntmps106
 go_wp2_with fail
 refine wp_region_quiet_below (by kernel_rfl) (by kernel_rfl) ?_
 repeat (quiet_step (first|exact hask _ _ _ _|exact hone _ _ _ _ _ _))
 refine wpQuiet_nil ?_
 intro _ hw'
 obtain ⟨⟨dq,osq⟩,hw''⟩:=hw'
 subst hw''
 go_wp2_with fail
 go_ret
 exact ⟨rfl,eX (aD w _) (below_regrown _ dq osq)⟩
theorem gP (h:MV A w q bm g vp vN V nums) :
    Calls Tryz.prog 106 #[.agg #[.int .i64 s.code,.int .i64 s.dst,.int .i64 s.a,.int .i64 s.b,.int .i64 s.c],vN,.func (.func 103) #[] #[.pointer (some ⟨q,0,none⟩)]] w fun e w'=>e=.returned (.int .i64 (made nums V s))/\Below w.heap.size w w':=by
 unfold made
 by_cases h1:s.code=1
 ·rw[if_pos h1];exact Oq w q bm g vp vN V nums s h h1
 rw[if_neg h1]
 by_cases h2:s.code=2
 ·rw[if_pos h2];exact Om w q bm g vp vN V nums s h h2
 rw[if_neg h2]
 by_cases h4:s.code=4\/s.code=5
 ·rw[if_pos h4];exact Oo w q bm g vp vN V nums s h h4
 rw[if_neg h4]
 by_cases h17:s.code=17
 ·rw[if_pos h17];exact Jc w q bm g vp vN V nums s h h17
 rw[if_neg h17]
 exact On w q bm g vp vN V nums s h h1 h2 (fun e=>h4 (.inl e)) (fun e=>h4 (.inr e)) h17
end
end Nx
end
section
open Go.RowKit
namespace Nx
theorem Jr (ad:Option Addr) (b off n cap k:Nat) (hk:k<n) (ha:0<n->ad=some ⟨b,off,none⟩) (w:World):(Instr.indexAt 23 (.slice ad n cap) (.int .i64 (k:Int))).run Tryz.prog w=.ok (.pointer (some ⟨b,off+k,none⟩)) w:=by
 obtain rfl:=ha (by omega)
 rw[run_indexAt_slice _ _ _ _ _ _ _ (by kernel_rfl),if_pos ⟨by omega,by omega⟩]
 have e:(sizeOf (Tryz.prog.elem 23)).run Tryz.prog w=.ok 1 w:=by kernel_rfl
 rw[e]
 simp[Result.andThen,Addr.add]
theorem rC {w:World}{B e n:Nat}{v:Value}{V:List Int}(h:w.ownsRow B e 1 v n (V.map (Value.int .i64))):∃g,Own w v V g/\B≤g/\(0<n->g<w.heap.size)/\V.length=n:=by
 obtain ⟨hl,h2⟩:=h
 have hl':V.length=n:=by simpa using hl
 rcases h2 with ⟨rfl,rfl⟩|⟨g,cap,cur,rfl,hB,hg,hn,hc,hs,ht⟩
 ·exact ⟨B,⟨none,0,by rw[hl'],fun hp=>by omega⟩,Nat.le_refl _,fun h=>by omega,hl'⟩
 ·refine ⟨g,⟨some ⟨g,0,none⟩,cap,by rw[hl'],fun _=>⟨rfl,cur.toList.drop n,e,?_⟩⟩,hB,fun _=>aB hg,hl'⟩
  rw[hg,<-ht,Nat.mul_one,List.take_append_drop]
theorem Nr {w:World}{B e g n cap:Nat}{V:List Int}(h:w.ownsRow B e 1 (.slice (some ⟨g,0,none⟩) n cap) n (V.map (Value.int .i64))) (hn:V.length=n):Own w (.slice (some ⟨g,0,none⟩) n cap) V g:=by
 obtain ⟨hl,h2⟩:=h
 rcases h2 with ⟨h0,_⟩|⟨g',cap',cur,e1,hB,hg,_,hc,hs,ht⟩
 ·exact absurd h0 (by simp)
 ·obtain ⟨rfl,rfl⟩:g=g'/\cap=cap':=by simpa using e1
  refine ⟨some ⟨g,0,none⟩,cap,by rw[hn],fun _=>⟨rfl,cur.toList.drop n,e,?_⟩⟩
  rw[hg,<-ht,Nat.mul_one,List.take_append_drop]
theorem Tryz.infoI64:(Tryz.prog.info? 2).map (fun i=>(i.zero,i.size,i.bytes))=some (some (.int .i64 0),1,8):=by kernel_rfl
theorem aD9 (n:Nat):(madeCells (Value.cells (.int .i64 0)) (n*1)).toList=(List.replicate n (0:Int)).map (Value.int .i64):=by
 apply List.ext_getElem
 ·simp[madeCells]
 ·intro k h1 h2
  simp[madeCells,Value.cells,Nat.mod_one]
def pB (P:Int) (vF vI vO vK vN vC vp:Value):Array Value:=#[.int .i64 P,vF,vI,vO,vK,vN,vC,vp]
theorem aA {w:World}{g:Nat}{l:Array Value}{T:TypeId}{f:Nat×Nat}(h:w.heap[g]?=some (.cells l T f)) (k:Nat):w.cell? ⟨g,k,none⟩=l[k]?:=by
 simp only[World.cell?,h]
 simp
theorem Dq {A:Nat->Prop}(P:Int) (vF vI vO vK vN vC vp:Value) (keeps V:List Int) (bm g:Nat) (w:World)
    (hm:w.heap[bm]?=some (.cells (pB P vF vI vO vK vN vC vp) 178 (0,0))) (hK:bL A w vK keeps) (hp:Own w vp V g) (hg:0<V.length->g<w.heap.size)
    (hV:V.length≤100000) (hk0:keeps.length≤100000) :
    Calls Tryz.prog 107 #[.pointer (some ⟨bm,0,none⟩)] w fun e w'=>e=.returned (.tuple #[])/\∃vp',
     w'.heap[bm]?=some (.cells (pB P vF vI vO vK vN vC vp') 178 (0,0))/\Own w' vp' (sD keeps V keeps.length) w.heap.size/\Fr w.heap.size [bm] w w'/\w.heap.size<w'.heap.size:=by
 have hbl:=aB hm
 obtain ⟨adK,bK,offK,capK,rfl,hK1,hK2⟩:=hK
 obtain ⟨adp,capp,rfl,hp1⟩:=id hp
 obtain ⟨i0,hi,hz0,hz1,hz2⟩:=info_parts Tryz.infoI64
 have c4:w.cell? ⟨bm,4,none⟩=some (.slice adK keeps.length capK):=by rw[aA hm];rfl
 have c7:w.cell? ⟨bm,7,none⟩=some (.slice adp V.length capp):=by rw[aA hm];rfl
 have hib:i0.bytes*V.length≤281474976710656:=by rw[hz2];omega
 have H1:Hid (0<keeps.length->adK=some ⟨bK,offK,none⟩/\A bK):=hK1
 have H2:Hid (∀k,k<keeps.length->w.cell? ⟨bK,offK+k,none⟩=some (.int .i64 (keeps.getD k 0))):=hK2
 have H3:Hid (w.heap[bm]?=some (.cells (pB P vF vI vO (.slice adK keeps.length capK) vN vC (.slice adp V.length capp)) 178 (0,0))):=hm
 have H4:Hid (Own w (.slice adp V.length capp) V g):=hp
 clear hK1 hK2 hm hp hp1
 go_enter Tryz.func107,Tryz.ntmps107
 go_wp2_with (at_make;refine wpList_make_full _ rfl _ _ 22 rfl w.heap.size 2 i0 (.int .i64 0) 1 Tryz.underlying22 hi hz0 hz1 _ _ _ _ V.length rfl rfl rfl rfl hib (by unfold maxLen;omega) (Nat.le_refl _) ?_;intro w1 hown1 hgrow1;have d4:w1.cell? ⟨bm,4,none⟩=some (.slice adK keeps.length capK):=(aV (hgrow1.block bm hbl (by simp)) 4).trans c4)
 have hown:Own w1 (.slice (some ⟨w.heap.size,0,none⟩) V.length V.length) (List.replicate V.length 0) w.heap.size:=Nr (by rw[<-aD9];exact hown1) (by simp)
 have hlt1:w.heap.size<w1.heap.size:=by
  rcases hown1.2 with ⟨h0,_⟩|⟨g',cap',cur,e1,hB,hg',_⟩
  ·exact absurd h0 (by simp)
  ·have:=aB hg'
   simp at e1;omega
 have HF1:Hid (Fr w.heap.size [] w w1):=⟨hgrow1.os,hgrow1.tape,hgrow1.output,hgrow1.size,fun k hk _=>hgrow1.block k hk (by simp)⟩
 clear hown1 hgrow1 c4 c7 hib hi hz0 hz1 hz2
 go_loopw [17] (fun i wr=>∃k:Nat,k≤keeps.length/\i=.int .i64 k/\Own wr (.slice (some ⟨w.heap.size,0,none⟩) V.length V.length) (sD keeps V k) w.heap.size/\Fr w.heap.size [] w wr/\w.heap.size<wr.heap.size) (fun i _=>keeps.length-(intOf i).toNat)
 case atStart=>exact ⟨0,Nat.zero_le _,rfl,hown,HF1.out,hlt1⟩
 case round=>
  clear hown HF1 hlt1 d4
  obtain ⟨k,hk,rfl,hown,hF,hlt1⟩:=hrel
  have HF:Hid (Fr w.heap.size [] w wr):=hF
  clear hF
  have hb:=HF.out.block bm hbl (by simp)
  have c7:wr.cell? ⟨bm,7,none⟩=some (.slice adp V.length capp):=by rw[aV hb,aA H3.out];rfl
  by_cases hlt:k<keeps.length
  ·have hix:=Jr adK bK offK keeps.length capK k hlt (fun h=>(H1.out h).1)
   obtain ⟨x,hx⟩:∃x,x=keeps.getD k 0:=⟨_,rfl⟩
   have cx:wr.cell? ⟨bK,offK+k,none⟩=some (.int .i64 x):=by
    have:=H2.out k hlt
    rw[aV (HF.out.block bK (cM this) (by simp)),hx];exact this
   have hpr:Own wr (.slice adp V.length capp) V g:=by
    by_cases hp:0<V.length
    ·exact H4.out.keep (HF.out.block g (hg hp) (by simp))
    ·exact ⟨adp,capp,rfl,fun h=>absurd h hp⟩
   have hat:=J3 (A:=fun _=>True) (.slice adp V.length capp) V x wr (hpr.ints fun _=>trivial)
   have hput:=nE (.slice (some ⟨w.heap.size,0,none⟩) V.length V.length) (sD keeps V k) w.heap.size x (get V x) wr hown
   have HX:Hid _:=hx
   clear hx hpr hown hb
   go_wp2_with (first|(go_at_call 104;refine hat.mono ?_;rintro e w' ⟨rfl,rfl⟩)|(go_at_call 105;refine hput.mono ?_;rintro e w2 ⟨rfl,hown2,hF2⟩))
   go_roundw
   case rel=>exact ⟨k+1,by omega,by go_num,by rw[sD,<-HX.out];exact hown2,HF.out.trans (hF2.mono (Nat.le_of_lt hlt1) (fun y hy hl=>by simp at hy;omega)),Nat.lt_of_lt_of_le hlt1 hF2.size⟩
   case measure=>simp[intOf];omega
  ·obtain rfl:k=keeps.length:=by omega
   have f7:wr.frozen? ⟨bm,7,none⟩=false:=sH (hb.trans H3.out) 7
   have HB:Hid _:=hb
   clear hb
   go_wp2
   go_end0
   refine ⟨rfl,.slice (some ⟨w.heap.size,0,none⟩) V.length V.length,?_,?_,?_,?_⟩
   ·have:=zM (l:=(pB P vF vI vO (.slice adK keeps.length capK) vN vC (.slice adp V.length capp)).toList) (T:=178) (f:=(0,0)) (HB.out.trans H3.out) 7 (.slice (some ⟨w.heap.size,0,none⟩) V.length V.length)
    exact this
   ·exact hown.keep (Below.heap_setCell _ _ _ _ (by simp;omega))
   ·exact (HF.out.mono (Nat.le_refl _) (fun y hy _=>by simp at hy)).setCell (.inr (by simp)) _
   ·simpa [World.setCell] using hlt1
end Nx
end
end Go.Proofs.YtcdbhoknhnimcaaGreatDoor
