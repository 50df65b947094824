import Derived.Test.YtcdbhoknhnimcaaGreatDoorSCe2
import Derived.Test.YtcdbhoknhnimcaaGreatDoorRows
import Derived.WalkKit
import Derived.WalkSpells
import Derived.WalkLawsBesides
import Derived.Below
import Derived.Lib.QuietBelow
import Derived.Deep.QuietTactic
namespace Go.Proofs.YtcdbhoknhnimcaaGreatDoor
section
namespace Nx
structure Sp where
 code:Int
 dst:Int
 a:Int
 b:Int
 c:Int
structure Nt where
 places:Int
 first:List Int
 ins:List Int
 outs:List Int
 keeps:List Int
 nums:List Int
 code:List Sp
def mH:Sp:=⟨0,0,0,0,0⟩
def asks (s:Sp):List Int:=
 if s.code=2\/s.code=4\/s.code=5 then [s.a] else if 6≤s.code/\s.code≤16 then [s.a,s.b] else if s.code=17 then [s.a,s.b,s.c] else []
def cJ (P p:Int):Bool:=decide (0≤p)&&decide (p<P)
def eA (P:Int) (nums:Nat) (s:Sp):Nat:=
 if s.code<1\/17<s.code\/s.code=3 then 3
 else if ¬(cJ P s.dst=true/\(asks s).all (cJ P)=true) then 2
 else if s.code=1/\¬(0≤s.a/\s.a<nums) then 2
 else if ([s.a,s.b,s.c].drop (if s.code=1 then 1 else (asks s).length)).any (· != 0) then 1 else 0
def cZ (n:Nt):Nat:=
 if n.places<0\/4000<n.places\/4000<n.code.length\/4000<n.nums.length\/4000<n.ins.length+n.outs.length+n.keeps.length then 4
 else if (n.first.length:Int)≠n.places then 3
 else if ¬(n.ins.all (cJ n.places)=true/\n.outs.all (cJ n.places)=true/\n.keeps.all (cJ n.places)=true) then 2
 else if ¬n.ins.Nodup then 9 else 0
def lI (P:Int) (nums:Nat):List Sp->Nat->Nat×Int
 | [],_=>(0,-1)
 | s::r,i=>if eA P nums s=0 then lI P nums r (i+1) else (eA P nums s,i)
def dY (n:Nt):Nat×Int:=if cZ n=0 then lI n.places n.nums.length n.code 0 else (cZ n,-1)
theorem tL (P:Int) (nums:Nat) (l:List Sp) (i k:Nat) (h:∀j,j<k->eA P nums (l.getD j mH)=0) (hk:k≤l.length):lI P nums l i=lI P nums (l.drop k) (i+k):=by
 induction k generalizing l i with
 | zero=>simp
 | succ k ih=>
  cases l with
  | nil=>simp at hk
  | cons s r=>
   have h0:eA P nums s=0:=by simpa using h 0 (by omega)
   rw[lI,if_pos h0,ih r (i+1) (fun j hj=>by simpa using h (j+1) (by omega)) (by simpa using hk)]
   simp only[List.drop_succ_cons]
   congr 1;omega
theorem lN (P:Int) (nums:Nat) (l:List Sp) (k:Nat) (h:∀j,j<k->eA P nums (l.getD j mH)=0) (hk:k<l.length) (hb:eA P nums (l.getD k mH)≠0):lI P nums l 0=(eA P nums (l.getD k mH),(k:Int)):=by
 rw[tL P nums l 0 k h (by omega)]
 have e:l.drop k=l.getD k mH::l.drop (k+1):=by
  rw[List.drop_eq_getElem_cons hk]
  simp[List.getD_eq_getElem?_getD,hk]
 rw[e,lI,if_neg hb];simp
theorem O5 (P:Int) (nums:Nat) (l:List Sp) (h:∀j,j<l.length->eA P nums (l.getD j mH)=0):lI P nums l 0=(0,-1):=by
 rw[tL P nums l 0 l.length h (by omega)];simp[lI]
end Nx
end
section
open Go.RowKit
namespace Nx
structure Fr (B:Nat) (X:List Nat) (w w':World):Prop where
 os:w'.os=w.os
 tape:w'.tape=w.tape
 output:w'.output=w.output
 size:w.heap.size≤w'.heap.size
 block:∀k,k<B->k∉X->w'.heap[k]?=w.heap[k]?
theorem Fr.refl (B:Nat) (X:List Nat) (w:World):Fr B X w w:=⟨rfl,rfl,rfl,Nat.le_refl _,fun _ _ _=>rfl⟩
theorem Fr.trans {B:Nat}{X:List Nat}{a b c:World}(h:Fr B X a b) (k:Fr B X b c):Fr B X a c:=
 ⟨k.os.trans h.os,k.tape.trans h.tape,k.output.trans h.output,Nat.le_trans h.size k.size,fun i hi hx=>(k.block i hi hx).trans (h.block i hi hx)⟩
theorem Fr.mono {B B':Nat}{X X':List Nat}{w w':World}(h:Fr B X w w') (hB:B'≤B) (hX:∀x∈X,x<B'->x∈X'):Fr B' X' w w':=
 ⟨h.os,h.tape,h.output,h.size,fun k hk hx=>h.block k (by omega) (fun hm=>hx (hX k hm hk))⟩
theorem Fr.of_below {B:Nat}{w w':World}(h:Below B w w') (X:List Nat):Fr B X w w':=⟨h.os,h.tape,h.output,h.size,fun k hk _=>h.block k hk⟩
theorem Fr.alloc {B:Nat}{X:List Nat}{a w:World}(h:Fr B X a w) (hB:B≤w.heap.size) (o:Obj):Fr B X a (w.alloc o):=
 h.trans ⟨rfl,rfl,rfl,by simp,fun k hk _=>Below.heap_alloc _ _ _ (by omega)⟩
theorem Fr.setCell {B:Nat}{X:List Nat}{a w:World}(h:Fr B X a w) {p:Addr}(hp:B≤p.block\/p.block∈X) (u:Value):Fr B X a (w.setCell p u):=
 h.trans ⟨rfl,rfl,rfl,by simp[World.setCell],fun k hk hx=>Below.heap_setCell _ _ _ _ (fun e=>by rcases hp with hp|hp;omega;exact hx (e▸hp))⟩
theorem aB {w:World}{b:Nat}{o:Obj}(h:w.heap[b]?=some o):b<w.heap.size:=(Array.getElem?_eq_some_iff.1 h).1
theorem cA {w w':World}{b:Nat}(h:w'.heap[b]?=w.heap[b]?) (o:Nat):w'.cell? ⟨b,o,none⟩=w.cell? ⟨b,o,none⟩:=by
 simp only[World.cell?,h]
theorem fH {w:World}{b o:Nat}{v:Value}(h:w.cell? ⟨b,o,none⟩=some v):b<w.heap.size:=by
 rcases Nat.lt_or_ge b w.heap.size with hl|hl
 ·exact hl
 ·simp[World.cell?,Array.getElem?_eq_none hl] at h
def bD (A A':Nat->Prop) (w w':World):Prop:=∀b,A b->b<w.heap.size->A' b/\w'.heap[b]?=w.heap[b]?
def cY (A:Nat->Prop) (w:World) (v:Value) (zs:List Int):Prop:=
 ∃ad b off cap,v=.slice ad zs.length cap/\(0<zs.length->ad=some ⟨b,off,none⟩/\A b)/\∀k,k<zs.length->w.cell? ⟨b,off+k,none⟩=some (.int .i64 (zs.getD k 0))
theorem cY.carry {A A':Nat->Prop}{w w':World}{v:Value}{zs:List Int}(h:cY A w v zs) (k:bD A A' w w'):cY A' w' v zs:=by
 obtain ⟨ad,b,off,cap,rfl,h1,h2⟩:=h
 refine ⟨ad,b,off,cap,rfl,fun hp=>?_,fun j hj=>?_⟩
 ·obtain ⟨e,ha⟩:=h1 hp
  exact ⟨e,(k b ha (fH (h2 0 hp))).1⟩
 ·obtain ⟨e,ha⟩:=h1 (by omega)
  rw[cA (k b ha (fH (h2 j hj))).2];exact h2 j hj
def tY (A:Nat->Prop) (w:World) (v:Value) (l:List Sp):Prop:=
 ∃ad b off cap,v=.slice ad l.length cap/\(0<l.length->ad=some ⟨b,off,none⟩/\A b)/\
  ∀k,k<l.length->w.cell? ⟨b,off+k*5,none⟩=some (.int .i64 (l.getD k mH).code)/\w.cell? ⟨b,off+k*5+1,none⟩=some (.int .i64 (l.getD k mH).dst)/\
   w.cell? ⟨b,off+k*5+2,none⟩=some (.int .i64 (l.getD k mH).a)/\w.cell? ⟨b,off+k*5+3,none⟩=some (.int .i64 (l.getD k mH).b)/\w.cell? ⟨b,off+k*5+4,none⟩=some (.int .i64 (l.getD k mH).c)
theorem tY.carry {A A':Nat->Prop}{w w':World}{v:Value}{l:List Sp}(h:tY A w v l) (k:bD A A' w w'):tY A' w' v l:=by
 obtain ⟨ad,b,off,cap,rfl,h1,h2⟩:=h
 refine ⟨ad,b,off,cap,rfl,fun hp=>?_,fun j hj=>?_⟩
 ·obtain ⟨e,ha⟩:=h1 hp
  exact ⟨e,(k b ha (fH (h2 0 hp).1)).1⟩
 ·obtain ⟨e,ha⟩:=h1 (by omega)
  have hb:=(k b ha (fH (h2 j hj).1)).2
  rw[cA hb,cA hb,cA hb,cA hb,cA hb];exact h2 j hj
def Own (w:World) (v:Value) (V:List Int) (g:Nat):Prop:=
 ∃ad cap,v=.slice ad V.length cap/\(0<V.length->ad=some ⟨g,0,none⟩/\∃rest T,w.heap[g]?=some (.cells (V.map (Value.int .i64)++rest).toArray T (0,0)))
theorem xX {w:World}{g:Nat}{l:List Value}{T:TypeId}{f:Nat×Nat}(h:w.heap[g]?=some (.cells l.toArray T f)) (k:Nat):w.cell? ⟨g,k,none⟩=l[k]?:=by
 simp only[World.cell?,h]
 simp
theorem Own.cell {w:World}{v:Value}{V:List Int}{g:Nat}(h:Own w v V g) (k:Nat) (hk:k<V.length):w.cell? ⟨g,k,none⟩=some (.int .i64 (V.getD k 0)):=by
 obtain ⟨ad,cap,rfl,h1⟩:=h
 obtain ⟨e,rest,T,hb⟩:=h1 (by omega)
 rw[xX hb,List.getElem?_append_left (by simpa using hk),List.getElem?_map,List.getD_eq_getElem?_getD,List.getElem?_eq_getElem hk];rfl
theorem Own.ints {w:World}{v:Value}{V:List Int}{g:Nat}(h:Own w v V g) {A:Nat->Prop}(ha:0<V.length->A g):cY A w v V:=by
 have hc:=h.cell
 obtain ⟨ad,cap,rfl,h1⟩:=h
 exact ⟨ad,g,0,cap,rfl,fun hp=>⟨(h1 hp).1,ha hp⟩,fun k hk=>by rw[Nat.zero_add];exact hc k hk⟩
end Nx
end
section
open Go.RowKit
namespace Nx
theorem aR5 {w:World}{g:Nat}{l:List Value}{T:TypeId}{f:Nat×Nat}(h:w.heap[g]?=some (.cells l.toArray T f)) (k:Nat) (x:Value):(w.setCell ⟨g,k,none⟩ x).heap[g]?=some (.cells (l.set k x).toArray T f):=by
 have hl:=aB h
 have e:w.heap[g]=.cells l.toArray T f:=by rw[Array.getElem?_eq_getElem hl] at h;exact Option.some.inj h
 simp only[World.setCell]
 rw[Array.getElem?_eq_getElem (by simpa using hl),Array.getElem_modify]
 simp[e]
theorem E8 {w:World}{g:Nat}{l:Array Value}{T:TypeId}(h:w.heap[g]?=some (.cells l T (0,0))) (k:Nat):w.frozen? ⟨g,k,none⟩=false:=by
 simp[World.frozen?,h]
end Nx
end
section
open Go.RowKit Go.Sort
namespace Nx
theorem iQ {w w' w'':World}(h:Below w.heap.size w w') (k:Below w'.heap.size w' w''):Below w.heap.size w w'':=h.trans (k.mono h.size)
theorem cH {w w':World}(h:Below w.heap.size w w') {b o:Nat}{v:Value}(hc:w.cell? ⟨b,o,none⟩=some v):w'.cell? ⟨b,o,none⟩=some v:=by
 rw[cA (h.block b (fH hc))];exact hc
theorem aM (w:World) (o:Obj):Below w.heap.size w (w.alloc o):=(Below.refl _ _).alloc (Nat.le_refl _) _
end Nx
end
section
open Go.RowKit
namespace Nx
theorem cR8 (ad:Option Addr) (b off n cap k:Nat) (hk:k<n) (ha:0<n->ad=some ⟨b,off,none⟩) (w:World):(Instr.indexAt 23 (.slice ad n cap) (.int .i64 (k:Int))).run Tryz.prog w=.ok (.pointer (some ⟨b,off+k,none⟩)) w:=by
 obtain rfl:=ha (by omega)
 rw[run_indexAt_slice _ _ _ _ _ _ _ (by kernel_rfl),if_pos ⟨by omega,by omega⟩]
 have e:(sizeOf (Tryz.prog.elem 23)).run Tryz.prog w=.ok 1 w:=by kernel_rfl
 rw[e]
 simp[Result.andThen,Addr.add]
theorem bE7 {w:World}{B e g n cap:Nat}{V:List Int}(h:w.ownsRow B e 1 (.slice (some ⟨g,0,none⟩) n cap) n (V.map (Value.int .i64))) (hn:V.length=n):Own w (.slice (some ⟨g,0,none⟩) n cap) V g:=by
 obtain ⟨hl,h2⟩:=h
 rcases h2 with ⟨h0,_⟩|⟨g',cap',cur,e1,hB,hg,_,hc,hs,ht⟩
 ·exact absurd h0 (by simp)
 ·obtain ⟨rfl,rfl⟩:g=g'/\cap=cap':=by simpa using e1
  refine ⟨some ⟨g,0,none⟩,cap,by rw[hn],fun _=>⟨rfl,cur.toList.drop n,e,?_⟩⟩
  rw[hg,<-ht,Nat.mul_one,List.take_append_drop]
theorem Tryz.infoI64:(Tryz.prog.info? 2).map (fun i=>(i.zero,i.size,i.bytes))=some (some (.int .i64 0),1,8):=by kernel_rfl
theorem cK2 (n:Nat):(madeCells (Value.cells (.int .i64 0)) (n*1)).toList=(List.replicate n (0:Int)).map (Value.int .i64):=by
 apply List.ext_getElem
 ·simp[madeCells]
 ·intro k h1 h2
  simp[madeCells,Value.cells,Nat.mod_one]
end Nx
end
end Go.Proofs.YtcdbhoknhnimcaaGreatDoor
