import Derived.Test.YtdeklanmddlgpaaGreatDoorSCk2
import Derived.Test.YtdeklanmddlgpaaGreatDoorSNt3
import Derived.Maps.Own
import Derived.Maps.OwnOps
import Derived.Maps.OwnSet
import Derived.Maps.Views
import Derived.Test.YtdeklanmddlgpaaGreatDoorSCe2
import Derived.Test.YtdeklanmddlgpaaGreatDoorSCr
namespace Go.Proofs.YtdeklanmddlgpaaGreatDoor
section
namespace Px
open Go.Deep (BT)
namespace Em
open Nx (Nt Sp)
structure Vr where
 now:Int
 was:Int
 first:Int
structure Kd where
 net:Nt
 vars:AW->Vr
 nums:Int->Option Int
abbrev M:=StateT Kd Option
def thrown {α:Type}:M α:=fun _=>none
def place (x:Int):M Int:=fun k=>some (k.net.places,{ k with net:={ k.net with first:=k.net.first++[x],places:=k.net.places+1 } })
def kept (x:Int):M Int:=do
 let p <-place x
 modify fun k=>{ k with net:={ k.net with keeps:=k.net.keeps++[p] } }
 pure p
def add (s:Sp):M Unit:=fun k=>if 4000≤k.net.code.length then none else some ((),{ k with net:={ k.net with code:=k.net.code++[s] } })
def made (c a b d:Int):M Int:=do
 let p <-place 0
 add ⟨c,p,a,b,d⟩
 pure p
def number (n:Int):M Int:=do
 let k <-get
 match k.nums n with
 | some p=>pure p
 | none=>do
  let p <-made 1 k.net.nums.length 0 0
  modify fun k=>{ k with net:={ k.net with nums:=k.net.nums++[n] },nums:=fun m=>if m=n then some p else k.nums m }
  pure p
def Hw (a b:Int):M Int:=if a=-1\/b=-1 then pure (-1) else made 15 a b 0
def IR (a b:Int):M Int:=if a=-1 then pure b else if b=-1 then pure a else made 16 a b 0
def BO (a b:Int):M Int:=if b=-1 then pure a else if a=-1\/a=b then pure (-1) else made 13 b a 0
def given (so p:Int):M Int:=do
 let z <-number 0
 made 17 so p z
def put (dst so from_:Int):M Unit:=add ⟨17,dst,so,from_,dst⟩
def Gq (s:AW):M Int:=do
 let k <-get
 let v:=k.vars s
 if v.was=-1 then do
  let p <-kept v.first
  modify fun k=>{ k with vars:=fun t=>if t=s then ⟨v.now,p,v.first⟩ else k.vars t }
  pure p
 else pure v.was
def YW (s:AW):M Int:=do
 let k <-get
 pure (k.vars s).now
def Bl:E->M Int
 | .nil=>number 0
 | .node _ _ a l r=>
  if a.code=1 then number a.num
  else if a.code=2 then YW a.name
  else if a.code=3 then Gq a.name
  else if a.code=4\/a.code=5 then do
   let x <-Bl l
   made a.code x 0 0
  else if a.code<6\/16<a.code then number 0
  else do
   let x <-Bl l
   let y <-Bl r
   made a.code x y 0
def O6 (so:Int):List Cx->M Unit
 | []=>pure ()
 | s::r=>do
  let p <-YW s.name
  let x <-Bl s.e
  put p so x
  O6 so r
def Ic (so:Int) (l:List Cx):M Unit:=if so=-1 then pure () else O6 so l
def is (p:Int) (i:Nat):M Int:=do
 let x <-number ((i:Int)+1)
 made 11 p x 0
structure Bn where
 drawn:Wy
 to:Int
 left:Int
structure Bo (σ ρ:Type) where
 drawn:Ah σ
 ways:List Bn
 inside:List ρ
 idle:Bool
 leaves:Bool
structure DM (σ ρ:Type) where
 states:List (Bo σ ρ)
 order:List Nat
 first:Int
 there:Int
 idle:Bool
 leaves:Bool
def Rg:Nat->Type
 | 0=>Unit
 | k+1=>DM (St k) (Rg k)
abbrev As:=List (List (Int×Bool))
def Ba (t:As) (i:Int) (so:Int) (back:Bool):As:=t.set i.toNat (t.getD i.toNat []++[(so,back)])
structure JT (σ ρ:Type) where
 lay:List σ->M ρ
 size:ρ->Nat
 there:ρ->Int
 idle:ρ->Bool
 leaves:ρ->Bool
 over:ρ->M Int
 leave:ρ->Int->M Unit
 enter:ρ->Int->Int->M Unit
 goOn:ρ->Int->As->M Unit
def Tk:E->Bool
 | .nil=>true
 | .node _ _ _ _ _=>false
section
variable {σ ρ:Type}
def QT (l:List (Ah σ)):Int:=match l.findIdx? (·.first) with|some i=>(i:Int)|none=>-1
def DW (names:List AW):List Wy->M (List Bn)
 | []=>pure []
 | y::r=>do
  let p <-if 1<y.times then kept 0 else pure (-1)
  let t <-DW names r
  pure (⟨y,Bc names y.to,p⟩::t)
def Fi (O:JT σ ρ):List (List σ)->M (List ρ)
 | []=>pure []
 | g::r=>do
  let x <-O.lay g
  let t <-Fi O r
  pure (x::t)
def C8 (O:JT σ ρ) (names:List AW) (s:Ah σ):M (Bo σ ρ):=do
 let ins <-Fi O s.regions
 let ws <-DW names s.ways
 pure ⟨s,ws,ins,decide (s.during.length+s.ways.length=0)&&ins.all O.idle,decide (0<s.leave.length)||ins.any O.leaves⟩
def B7 (O:JT σ ρ) (names:List AW):List (Ah σ)->M (List (Bo σ ρ))
 | []=>pure []
 | s::r=>do
  let x <-C8 O names s
  let t <-B7 O names r
  pure (x::t)
def lay (O:JT σ ρ) (l:List (Ah σ)):M (DM σ ρ):=do
 let f:=QT l
 let p <-kept (f+1)
 let ss <-B7 O (AU l) l
 pure ⟨ss,(Bk (Ao l)).getD [],f,p,ss.all (·.idle),ss.any (·.leaves)⟩
def FN (p:Int):List (Bo σ ρ)->Nat->Int->M Int
 | [],_,o=>pure o
 | s::r,i,o=>if s.drawn.last then do
    let x <-is p i
    let o' <-IR o x
    FN p r (i+1) o'
  else FN p r (i+1) o
def over (g:DM σ ρ):M Int:=FN g.there g.states 0 (-1)
def Iy (O:JT σ ρ):List ρ->Int->M Int
 | [],so=>pure so
 | g::r,so=>do
  let x <-O.over g
  let so' <-Hw so x
  Iy O r so'
def Fj (O:JT σ ρ) (s:Bo σ ρ) (y:Bn) (so0:Int):M Int:=do
 let so1 <-if y.drawn.kind=2 then Iy O s.inside so0 else pure so0
 if so1=-1 then pure (-1) else do
 let so2 <-if Tk y.drawn.cond then pure so1 else do
  let x <-Bl y.drawn.cond
  Hw so1 x
 if y.left=-1 then pure so2 else do
 add ⟨7,y.left,y.left,so2,0⟩
 made 13 y.left so2 0
def CT (O:JT σ ρ) (s:Bo σ ρ) (so:Int) (asked:Wy->Bool):List Bn->Int->Int->Int->List (Bn×Int)->M (List (Bn×Int)×Int)
 | [],_,_,taken,l=>pure (l,taken)
 | y::r,rest,ahead,taken,l=>
  if so=-1\/asked y.drawn=false then CT O s so asked r rest ahead taken l else do
  let rest' <-BO rest ahead
  let ahead' <-Fj O s y rest'
  if ahead'=rest' then pure (l++[(y,ahead')],so) else do
  let taken' <-IR taken ahead'
  CT O s so asked r rest' ahead' taken' (l++[(y,ahead')])
def choose (O:JT σ ρ) (s:Bo σ ρ) (so:Int) (asked:Wy->Bool):M (List (Bn×Int)×Int):=CT O s so asked s.ways so (-1) (-1) []
def take:List (Bn×Int)->As->M As
 | [],t=>pure t
 | c::r,t=>do
  Ic c.2 c.1.drawn.sets
  take r (Ba t c.1.to c.2 c.1.drawn.back)
def A9 (O:JT σ ρ):List ρ->Int->M Unit
 | [],_=>pure ()
 | g::r,so=>do
  O.leave g so
  A9 O r so
def DC (O:JT σ ρ) (here:Int):List (Bo σ ρ)->Nat->M Unit
 | [],_=>pure ()
 | s::r,i=>if s.leaves then do
    let gone <-is here i
    A9 O s.inside gone
    Ic gone s.drawn.leave
    DC O here r (i+1)
  else DC O here r (i+1)
def leave (O:JT σ ρ) (g:DM σ ρ) (so:Int):M Unit:=if so=-1\/g.leaves=false then pure () else do
 let here <-given so g.there
 DC O here g.states 0
def CG (so:Int):List Bn->M Unit
 | []=>pure ()
 | y::r=>if y.left=-1 then CG so r else do
  let x <-number y.drawn.times
  put y.left so x
  CG so r
def ES (O:JT σ ρ) (on back:Int):List ρ->M Unit
 | []=>pure ()
 | g::r=>do
  O.enter g on back
  ES O on back r
def B0 (O:JT σ ρ) (s:Bo σ ρ) (so back:Int) (t:As):M As:=do
 CG so s.ways
 Ic so s.drawn.enter
 let c1 <-choose O s so fun y=>y.now&&decide (y.kind=1)
 let on <-BO so c1.2
 let back' <-if on=so then pure back else Hw on back
 ES O on back' s.inside
 let c2 <-choose O s on fun y=>y.now && !decide (y.kind=1)
 if s.leaves then do
  A9 O s.inside c2.2
  let e <-IR c1.2 c2.2
  Ic e s.drawn.leave
 let t' <-take c1.1 t
 take c2.1 t'
def L4:List (Int×Bool)->Int->M Int
 | [],so=>pure so
 | a::r,so=>do
  let so' <-IR so a.1
  L4 r so'
def Cp (has:Bool):List (Int×Bool)->Int->M Int
 | [],b=>pure b
 | a::r,b=>if a.2&&has then do
    let b' <-IR b a.1
    Cp has r b'
  else Cp has r b
def Ae (O:JT σ ρ) (g:DM σ ρ):List Nat->As->M Unit
 | [],_=>pure ()
 | i::r,t=>do
  let so <-L4 (t.getD i []) (-1)
  if so=-1 then Ae O g r t else
  match g.states[i]? with
  | none=>thrown
  | some s=>do
   let x <-number ((i:Int)+1)
   put g.there so x
   let b <-Cp (decide (0<s.inside.length)) (t.getD i []) (-1)
   let t' <-B0 O s so b t
   Ae O g r t'
def I7 (was:Int):Nat->Nat->As->M As
 | 0,_,t=>pure t
 | n+1,i,t=>do
  let x <-is was i
  I7 was n (i+1) (Ba t i x true)
def enter (O:JT σ ρ) (g:DM σ ρ) (so back:Int):M Unit:=if so=-1 then pure () else do
 let t <-if back=-1 then pure (List.replicate g.states.length []) else do
  let w <-given back g.there
  I7 w g.states.length 0 (List.replicate g.states.length [])
 let f <-BO so back
 Ae O g g.order (Ba t g.first f false)
def Fm (O:JT σ ρ) (on:Int):List ρ->M Unit
 | []=>pure ()
 | g::r=>if on=-1\/O.idle g=true then Fm O on r else do
  let h <-given on (O.there g)
  O.goOn g h (List.replicate (O.size g) [])
  Fm O on r
def Bs (O:JT σ ρ) (s:Bo σ ρ) (so:Int) (t:As):M As:=do
 let c1 <-choose O s so fun y=>decide (y.kind=1)
 let on0 <-BO so c1.2
 let on <-if Tk s.drawn.rests\/on0=-1 then pure on0 else do
  let x <-Bl s.drawn.rests
  let z <-number 0
  made 17 x z on0
 Ic on s.drawn.during
 Fm O on s.inside
 let c2 <-choose O s on fun y=>!decide (y.kind=1)
 if s.leaves then do
  let gone <-IR c1.2 c2.2
  A9 O s.inside gone
  Ic gone s.drawn.leave
 let t' <-take c1.1 t
 take c2.1 t'
def QU (O:JT σ ρ) (here:Int):List (Bo σ ρ)->Nat->As->M As
 | [],_,t=>pure t
 | s::r,i,t=>if s.idle then QU O here r (i+1) t else do
  let so <-is here i
  let t' <-Bs O s so t
  QU O here r (i+1) t'
def goOn (O:JT σ ρ) (g:DM σ ρ) (here:Int) (t:As):M Unit:=do
 let t' <-QU O here g.states 0 t
 Ae O g g.order t'
def eB (O:JT σ ρ):JT (Ah σ) (DM σ ρ):=⟨lay O,fun g=>g.states.length,(·.there),(·.idle),(·.leaves),over,leave O,enter O,goOn O⟩
end
def AE:(k:Nat)->JT (St k) (Rg k)
 | 0=>⟨fun _=>pure (),fun _=>0,fun _=>0,fun _=>true,fun _=>false,fun _=>pure (-1),fun _ _=>pure (),fun _ _ _=>pure (),fun _ _ _=>pure ()⟩
 | k+1=>eB (AE k)
def BK:List Ac->M Unit
 | []=>pure ()
 | v::r=>do
  let p <-if v.kind=1 then do
      let p <-place v.first
      modify fun k=>{ k with net:={ k.net with ins:=k.net.ins++[p] } }
      pure p
   else kept v.first
  if v.kind=2 then modify fun k=>{ k with net:={ k.net with outs:=k.net.outs++[p] } }
  modify fun k=>{ k with vars:=fun t=>if t=v.name then ⟨p,-1,v.first⟩ else k.vars t }
  BK r
def GN (begin_:Int):List (List (St 6))->M Unit
 | []=>pure ()
 | l::r=>do
  let g <-(AE 6).lay l
  let g':DM (St 5) (Rg 5):=g
  modify fun k=>{ k with net:={ k.net with first:=k.net.first.set g'.there.toNat 0 } }
  (AE 6).goOn g g'.there (Ba (List.replicate g'.states.length []) g'.first begin_ false)
  GN begin_ r
def tick (l:List (List (St 6))):M Unit:=do
 let b <-place 1
 GN b l
def BI:List Ac->M Unit
 | []=>pure ()
 | v::r=>do
  let k <-get
  if (k.vars v.name).was=-1 then BI r else do
  add ⟨2,(k.vars v.name).was,(k.vars v.name).now,0,0⟩
  BI r
def kd0:Kd:=⟨⟨0,[],[],[],[],[],[]⟩,fun _=>⟨0,0,0⟩,fun _=>none⟩
def Yl (c:CO):M Unit:=do
 BK c.vars
 tick c.regions
 BI c.vars
def IA (c:CO):Option Nt:=(Yl c kd0).map (·.2.net)
end Em
end Px
end
section
open Go.Maps Go.WideMaps
namespace Gm
def UP (v:Value):Option (DataW Value×List MemPlace):=some (.held v,[])
def told (f:Lit->Option Value) (l:Lit) (zd:DataW Value):DataW Value:=
 match f l with
 | none=>zd
 | some v=>.held v
def Mp (P:Program) (k:TypeId) (w:World) (b n:Nat) (f:Lit->Option Value):Prop:=
 ∃D:DataW Value,w.ownsMap P k UP b n D/\Maps.size D=n/\∀l,WideAt.IsKeyLit l->∀zd,D.atKey l zd=told f l zd
def put (f:Lit->Option Value) (l:Lit) (v:Value):Lit->Option Value:=fun m=>if m.sameKey l then some v else f m
theorem Hd (f:Lit->Option Value) {l:Lit}(hl:WideAt.IsKeyLit l) (v:Value):put f l v l=some v:=if_pos (WideAt.sameKey_self hl)
theorem F4 (f:Lit->Option Value) {l m:Lit}(v:Value) (h:m≠l):put f l v m=f m:=if_neg (by rw[Maps.sameKey_ne h];simp)
section
variable {P:Program}{k t e:TypeId}{w w':World}{b n:Nat}{f:Lit->Option Value}
theorem Mp.lt (h:Mp P k w b n f):b<w.heap.size:=by obtain ⟨D,h,_⟩:=h;exact h.lt
theorem Mp.keep (h:Mp P k w b n f) (hb:w'.heap[b]?=w.heap[b]?):Mp P k w' b n f:=by
 obtain ⟨D,⟨es,clock,h1,h2⟩,h3⟩:=h
 exact ⟨D,⟨es,clock,by rw[hb];exact h1,h2⟩,h3⟩
theorem Mp.made (P:Program) (k:TypeId) (w:World):Mp P k (w.alloc (.map #[] 0)) w.heap.size 0 (fun _=>none):=
 ⟨.map [],World.ownsMap_made _ _ _ _,rfl,fun _ _ _=>rfl⟩
theorem Um {D:DataW Value}{m:Nat}(h:w.ownsMap P k UP b m D):w.ownsMap P k UP b (Maps.size D) D:=by
 obtain ⟨es,clock,h1,h2,h3,rfl⟩:=h
 refine ⟨es,clock,h1,h2,?_,rfl⟩
 show es.size≤((es.toList.map _).foldr DataW.insert []).length
 rw[length_sorted];simp
theorem Mp.has {D:DataW Value}(h3:∀l,WideAt.IsKeyLit l->∀zd,D.atKey l zd=told f l zd) {l:Lit}(hl:WideAt.IsKeyLit l):Maps.has D l=(f l).isSome:=by
 cases hf:f l with
 | none=>exact Maps.has_false_of_atKey fun z=>by rw[h3 l hl z];unfold told;rw[hf]
 | some v=>exact Maps.has_true_of_atKey (y:=.held v) fun z=>by rw[h3 l hl z];unfold told;rw[hf]
theorem OH {v u:Value}{ps:List MemPlace}{d:DataW Value}(h:UP v=some (d,ps)) (hd:d=.held u):v=u:=by
 unfold UP at h
 injection h with h
 injection h with h _
 rw[<-h] at hd
 injection hd
theorem Mp.look (h:Mp P k w b n f) (K:Keyed P k) (ht:P.underlying t=some (.map k e)) {z:Value}(hz:(zeroValue e).run P w=.ok z w) {key:Value}{l:Lit}(hkey:keyOf P k key=some l) :
    (Instr.lookup t (.map (some b)) key false).run P w=.ok ((f l).getD z) w:=by
 obtain ⟨D,h1,_,h3⟩:=h
 obtain ⟨v,ps,hr,hv⟩:=h1.lookup K ht hz (zd:=.held z) (zp:=[]) rfl hkey
 rw[hr]
 have:=OH hv (u:=(f l).getD z) (by rw[h3 l (K.key hkey)];unfold told;cases f l<;>rfl)
 rw[this]
theorem Mp.look_ok (h:Mp P k w b n f) (K:Keyed P k) (ht:P.underlying t=some (.map k e)) {z:Value}(hz:(zeroValue e).run P w=.ok z w) {key:Value}{l:Lit}(hkey:keyOf P k key=some l) :
    (Instr.lookup t (.map (some b)) key true).run P w=.ok (.tuple #[(f l).getD z,.bool (f l).isSome]) w:=by
 obtain ⟨D,h1,_,h3⟩:=h
 obtain ⟨v,ps,hr,hv⟩:=h1.look_ok K ht hz (zd:=.held z) (zp:=[]) rfl hkey
 rw[hr,Mp.has h3 (K.key hkey)]
 have:=OH hv (u:=(f l).getD z) (by rw[h3 l (K.key hkey)];unfold told;cases f l<;>rfl)
 rw[this]
theorem Mp.put (h:Mp P k w b n f) (K:Keyed P k) (ht:P.underlying t=some (.map k e)) (hn:n<maxLen) {key:Value}{l:Lit}(hkey:keyOf P k key=some l) (v:Value) :
    ∃w',(Instr.mapUpdate t (.map (some b)) key v).run P w=.ok () w'/\Mp P k w' b (if (f l).isSome then n else n+1) (put f l v)/\w.grownBy w' (some b):=by
 obtain ⟨D,h1,h2,h3⟩:=h
 obtain ⟨w',hr,h4,h5⟩:=h1.update K ht hn hkey (val:=v) (d:=.held v) (ps:=[]) rfl
 have hsz:Maps.size (D.put l (.held v))=if (f l).isSome then n else n+1:=by rw[Maps.size_put (h1.tidy K),Mp.has h3 (K.key hkey),h2]
 refine ⟨w',hr,⟨_,by rw[<-hsz];exact Um h4,hsz,fun m hm zd=>?_⟩,h5⟩
 by_cases hml:m=l
 ·subst hml;rw[atKey_put_same h1.isMap hm];unfold told;rw[Hd _ hm]
 ·rw[atKey_put_other hml,h3 m hm];unfold told;rw[F4 _ _ hml]
end
end Gm
end
section
open Go.RowKit
namespace Px
abbrev O9:=AW->Int
end Px
end
section
open Go.RowKit Go.Maps Go.WideMaps Px
def Cq (x:Int):Prop:=-9223372036854775808≤x/\x≤9223372036854775807
theorem Cq.wf {x:Int}(h:Cq x):(Lit.int .i64 x).wf=true:=by
 have e1:IntKind.i64.min=-9223372036854775808:=by decide
 have e2:IntKind.i64.max=9223372036854775807:=by decide
 unfold Cq at h
 simp[Lit.wf,e1,e2]
 omega
theorem Cq.zero:Cq 0:=by unfold Cq;omega
end
end Go.Proofs.YtdeklanmddlgpaaGreatDoor
