import Derived.Test.YthieaobjdpfcoaaGreatDoorVNt3
namespace Go.Proofs.YthieaobjdpfcoaaGreatDoor
section
namespace Px
open Go.Deep (BT)
namespace Em
open Nx (Nt Sp)
structure Vr where
 now:Int
 was:Int
 first:Int
structure Kd where
 net:Nt
 vars:bE->Vr
 nums:Int->Option Int
abbrev M:=StateT Kd Option
def thrown {α:Type}:M α:=fun _=>none
def place (x:Int):M Int:=fun k=>some (k.net.places,{ k with net:={ k.net with first:=k.net.first++[x],places:=k.net.places+1 } })
def kept (x:Int):M Int:=do
 let p <-place x
 modify fun k=>{ k with net:={ k.net with keeps:=k.net.keeps++[p] } }
 pure p
def add (s:Sp):M Unit:=fun k=>if 4000≤k.net.code.length then none else some ((),{ k with net:={ k.net with code:=k.net.code++[s] } })
def made (c a b d:Int):M Int:=do
 let p <-place 0
 add ⟨c,p,a,b,d⟩
 pure p
def bS (n:Int):M Int:=do
 let k <-get
 match k.nums n with
 | some p=>pure p
 | none=>do
  let p <-made 1 k.net.nums.length 0 0
  modify fun k=>{ k with net:={ k.net with nums:=k.net.nums++[n] },nums:=fun m=>if m=n then some p else k.nums m }
  pure p
def tX (a b:Int):M Int:=if a=-1\/b=-1 then pure (-1) else made 15 a b 0
def uZ (a b:Int):M Int:=if a=-1 then pure b else if b=-1 then pure a else made 16 a b 0
def dU (a b:Int):M Int:=if b=-1 then pure a else if a=-1\/a=b then pure (-1) else made 13 b a 0
def given (so p:Int):M Int:=do
 let z <-bS 0
 made 17 so p z
def put (dst so from_:Int):M Unit:=add ⟨17,dst,so,from_,dst⟩
def sN (s:bE):M Int:=do
 let k <-get
 let v:=k.vars s
 if v.was=-1 then do
  let p <-kept v.first
  modify fun k=>{ k with vars:=fun t=>if t=s then ⟨v.now,p,v.first⟩ else k.vars t }
  pure p
 else pure v.was
def Zl (s:bE):M Int:=do
 let k <-get
 pure (k.vars s).now
def eP:E->M Int
 | .nil=>bS 0
 | .node _ _ a l r=>
  if a.code=1 then bS a.num
  else if a.code=2 then Zl a.name
  else if a.code=3 then sN a.name
  else if a.code=4\/a.code=5 then do
   let x <-eP l
   made a.code x 0 0
  else if a.code<6\/16<a.code then bS 0
  else do
   let x <-eP l
   let y <-eP r
   made a.code x y 0
def Cy (so:Int):List iY->M Unit
 | []=>pure ()
 | s::r=>do
  let p <-Zl s.name
  let x <-eP s.e
  put p so x
  Cy so r
def vM (so:Int) (l:List iY):M Unit:=if so=-1 then pure () else Cy so l
def is (p:Int) (i:Nat):M Int:=do
 let x <-bS ((i:Int)+1)
 made 11 p x 0
structure eQ where
 drawn:Wy
 «to»:Int
 left:Int
structure eR (σ ρ:Type) where
 drawn:cF σ
 ways:List eQ
 inside:List ρ
 idle:Bool
 leaves:Bool
structure jP (σ ρ:Type) where
 states:List (eR σ ρ)
 order:List Nat
 first:Int
 there:Int
 idle:Bool
 leaves:Bool
def Rg:Nat->Type
 | 0=>Unit
 | k+1=>jP (St k) (Rg k)
abbrev cX:=List (List (Int×Bool))
def eC (t:cX) (i:Int) (so:Int) (back:Bool):cX:=t.set i.toNat (t.getD i.toNat []++[(so,back)])
structure xM (σ ρ:Type) where
 lay:List σ->M ρ
 size:ρ->Nat
 there:ρ->Int
 idle:ρ->Bool
 leaves:ρ->Bool
 over:ρ->M Int
 leave:ρ->Int->M Unit
 enter:ρ->Int->Int->M Unit
 goOn:ρ->Int->cX->M Unit
def Er:E->Bool
 | .nil=>true
 | .node _ _ _ _ _=>false
section
variable {σ ρ:Type}
def Ga (l:List (cF σ)):Int:=match l.findIdx? (·.first) with|some i=>(i:Int)|none=>-1
def jZ (names:List bE):List Wy->M (List eQ)
 | []=>pure []
 | y::r=>do
  let p <-if 1<y.times then kept 0 else pure (-1)
  let t <-jZ names r
  pure (⟨y,eG names y.to,p⟩::t)
def pW (O:xM σ ρ):List (List σ)->M (List ρ)
 | []=>pure []
 | g::r=>do
  let x <-O.lay g
  let t <-pW O r
  pure (x::t)
def jD (O:xM σ ρ) (names:List bE) (s:cF σ):M (eR σ ρ):=do
 let ins <-pW O s.regions
 let ws <-jZ names s.ways
 pure ⟨s,ws,ins,decide (s.during.length+s.ways.length=0)&&ins.all O.idle,decide (0<s.leave.length)||ins.any O.leaves⟩
def fL (O:xM σ ρ) (names:List bE):List (cF σ)->M (List (eR σ ρ))
 | []=>pure []
 | s::r=>do
  let x <-jD O names s
  let t <-fL O names r
  pure (x::t)
def lay (O:xM σ ρ) (l:List (cF σ)):M (jP σ ρ):=do
 let f:=Ga l
 let p <-kept (f+1)
 let ss <-fL O (bD l) l
 pure ⟨ss,(eO (cQ l)).getD [],f,p,ss.all (·.idle),ss.any (·.leaves)⟩
def oY (p:Int):List (eR σ ρ)->Nat->Int->M Int
 | [],_,o=>pure o
 | s::r,i,o=>if s.drawn.last then do
    let x <-is p i
    let o' <-uZ o x
    oY p r (i+1) o'
  else oY p r (i+1) o
def over (g:jP σ ρ):M Int:=oY g.there g.states 0 (-1)
def wP (O:xM σ ρ):List ρ->Int->M Int
 | [],so=>pure so
 | g::r,so=>do
  let x <-O.over g
  let so' <-tX so x
  wP O r so'
def pX (O:xM σ ρ) (s:eR σ ρ) (y:eQ) (so0:Int):M Int:=do
 let so1 <-if y.drawn.kind=2 then wP O s.inside so0 else pure so0
 if so1=-1 then pure (-1) else do
 let so2 <-if Er y.drawn.cond then pure so1 else do
  let x <-eP y.drawn.cond
  tX so1 x
 if y.left=-1 then pure so2 else do
 add ⟨7,y.left,y.left,so2,0⟩
 made 13 y.left so2 0
def gG (O:xM σ ρ) (s:eR σ ρ) (so:Int) (asked:Wy->Bool):List eQ->Int->Int->Int->List (eQ×Int)->M (List (eQ×Int)×Int)
 | [],_,_,taken,l=>pure (l,taken)
 | y::r,rest,ahead,taken,l=>
  if so=-1\/asked y.drawn=false then gG O s so asked r rest ahead taken l else do
  let rest' <-dU rest ahead
  let ahead' <-pX O s y rest'
  if ahead'=rest' then pure (l++[(y,ahead')],so) else do
  let taken' <-uZ taken ahead'
  gG O s so asked r rest' ahead' taken' (l++[(y,ahead')])
def choose (O:xM σ ρ) (s:eR σ ρ) (so:Int) (asked:Wy->Bool):M (List (eQ×Int)×Int):=gG O s so asked s.ways so (-1) (-1) []
def take:List (eQ×Int)->cX->M cX
 | [],t=>pure t
 | c::r,t=>do
  vM c.2 c.1.drawn.sets
  take r (eC t c.1.to c.2 c.1.drawn.back)
def dI (O:xM σ ρ):List ρ->Int->M Unit
 | [],_=>pure ()
 | g::r,so=>do
  O.leave g so
  dI O r so
def jI (O:xM σ ρ) (here:Int):List (eR σ ρ)->Nat->M Unit
 | [],_=>pure ()
 | s::r,i=>if s.leaves then do
    let gone <-is here i
    dI O s.inside gone
    vM gone s.drawn.leave
    jI O here r (i+1)
  else jI O here r (i+1)
def leave (O:xM σ ρ) (g:jP σ ρ) (so:Int):M Unit:=if so=-1\/g.leaves=false then pure () else do
 let here <-given so g.there
 jI O here g.states 0
def fS (so:Int):List eQ->M Unit
 | []=>pure ()
 | y::r=>if y.left=-1 then fS so r else do
  let x <-bS y.drawn.times
  put y.left so x
  fS so r
def mP (O:xM σ ρ) (on back:Int):List ρ->M Unit
 | []=>pure ()
 | g::r=>do
  O.enter g on back
  mP O on back r
def fG (O:xM σ ρ) (s:eR σ ρ) (so back:Int) (t:cX):M cX:=do
 fS so s.ways
 vM so s.drawn.enter
 let c1 <-choose O s so fun y=>y.now&&decide (y.kind=1)
 let on <-dU so c1.2
 let back' <-if on=so then pure back else tX on back
 mP O on back' s.inside
 let c2 <-choose O s on fun y=>y.now && !decide (y.kind=1)
 if s.leaves then do
  dI O s.inside c2.2
  let e <-uZ c1.2 c2.2
  vM e s.drawn.leave
 let t' <-take c1.1 t
 take c2.1 t'
def J6:List (Int×Bool)->Int->M Int
 | [],so=>pure so
 | a::r,so=>do
  let so' <-uZ so a.1
  J6 r so'
def iQ (has:Bool):List (Int×Bool)->Int->M Int
 | [],b=>pure b
 | a::r,b=>if a.2&&has then do
    let b' <-uZ b a.1
    iQ has r b'
  else iQ has r b
def dX (O:xM σ ρ) (g:jP σ ρ):List Nat->cX->M Unit
 | [],_=>pure ()
 | i::r,t=>do
  let so <-J6 (t.getD i []) (-1)
  if so=-1 then dX O g r t else
  match g.states[i]? with
  | none=>thrown
  | some s=>do
   let x <-bS ((i:Int)+1)
   put g.there so x
   let b <-iQ (decide (0<s.inside.length)) (t.getD i []) (-1)
   let t' <-fG O s so b t
   dX O g r t'
def wT (was:Int):Nat->Nat->cX->M cX
 | 0,_,t=>pure t
 | n+1,i,t=>do
  let x <-is was i
  wT was n (i+1) (eC t i x true)
def enter (O:xM σ ρ) (g:jP σ ρ) (so back:Int):M Unit:=if so=-1 then pure () else do
 let t <-if back=-1 then pure (List.replicate g.states.length []) else do
  let w <-given back g.there
  wT w g.states.length 0 (List.replicate g.states.length [])
 let f <-dU so back
 dX O g g.order (eC t g.first f false)
def pZ (O:xM σ ρ) (on:Int):List ρ->M Unit
 | []=>pure ()
 | g::r=>if on=-1\/O.idle g=true then pZ O on r else do
  let h <-given on (O.there g)
  O.goOn g h (List.replicate (O.size g) [])
  pZ O on r
def eT (O:xM σ ρ) (s:eR σ ρ) (so:Int) (t:cX):M cX:=do
 let c1 <-choose O s so fun y=>decide (y.kind=1)
 let on0 <-dU so c1.2
 let on <-if Er s.drawn.rests\/on0=-1 then pure on0 else do
  let x <-eP s.drawn.rests
  let z <-bS 0
  made 17 x z on0
 vM on s.drawn.during
 pZ O on s.inside
 let c2 <-choose O s on fun y=>!decide (y.kind=1)
 if s.leaves then do
  let gone <-uZ c1.2 c2.2
  dI O s.inside gone
  vM gone s.drawn.leave
 let t' <-take c1.1 t
 take c2.1 t'
def Gb (O:xM σ ρ) (here:Int):List (eR σ ρ)->Nat->cX->M cX
 | [],_,t=>pure t
 | s::r,i,t=>if s.idle then Gb O here r (i+1) t else do
  let so <-is here i
  let t' <-eT O s so t
  Gb O here r (i+1) t'
def goOn (O:xM σ ρ) (g:jP σ ρ) (here:Int) (t:cX):M Unit:=do
 let t' <-Gb O here g.states 0 t
 dX O g g.order t'
def aW0 (O:xM σ ρ):xM (cF σ) (jP σ ρ):=⟨lay O,fun g=>g.states.length,(·.there),(·.idle),(·.leaves),over,leave O,enter O,goOn O⟩
end
def aJ:(k:Nat)->xM (St k) (Rg k)
 | 0=>⟨fun _=>pure (),fun _=>0,fun _=>0,fun _=>true,fun _=>false,fun _=>pure (-1),fun _ _=>pure (),fun _ _ _=>pure (),fun _ _ _=>pure ()⟩
 | k+1=>aW0 (aJ k)
def dR:List bQ->M Unit
 | []=>pure ()
 | v::r=>do
  let p <-if v.kind=1 then do
      let p <-place v.first
      modify fun k=>{ k with net:={ k.net with ins:=k.net.ins++[p] } }
      pure p
   else kept v.first
  if v.kind=2 then modify fun k=>{ k with net:={ k.net with outs:=k.net.outs++[p] } }
  modify fun k=>{ k with vars:=fun t=>if t=v.name then ⟨p,-1,v.first⟩ else k.vars t }
  dR r
def rI (begin_:Int):List (List (St 6))->M Unit
 | []=>pure ()
 | l::r=>do
  let g <-(aJ 6).lay l
  let g':jP (St 5) (Rg 5):=g
  modify fun k=>{ k with net:={ k.net with first:=k.net.first.set g'.there.toNat 0 } }
  (aJ 6).goOn g g'.there (eC (List.replicate g'.states.length []) g'.first begin_ false)
  rI begin_ r
def tick (l:List (List (St 6))):M Unit:=do
 let b <-place 1
 rI b l
def dN:List bQ->M Unit
 | []=>pure ()
 | v::r=>do
  let k <-get
  if (k.vars v.name).was=-1 then dN r else do
  add ⟨2,(k.vars v.name).was,(k.vars v.name).now,0,0⟩
  dN r
def kd0:Kd:=⟨⟨0,[],[],[],[],[],[]⟩,fun _=>⟨0,0,0⟩,fun _=>none⟩
def aA0 (c:fZ):M Unit:=do
 dR c.vars
 tick c.regions
 dN c.vars
def uE (c:fZ):Option Nt:=(aA0 c kd0).map (·.2.net)
end Em
end Px
end
section
open Go.Maps Go.WideMaps
namespace Gm
def Po (v:Value):Option (DataW Value×List MemPlace):=some (.held v,[])
def told (f:Lit->Option Value) (l:Lit) (zd:DataW Value):DataW Value:=
 match f l with
 | none=>zd
 | some v=>.held v
def Mp (P:Program) (k:TypeId) (w:World) (b n:Nat) (f:Lit->Option Value):Prop:=
 ∃D:DataW Value,w.ownsMap P k Po b n D/\Maps.size D=n/\∀l,WideAt.IsKeyLit l->∀zd,D.atKey l zd=told f l zd
def put (f:Lit->Option Value) (l:Lit) (v:Value):Lit->Option Value:=fun m=>if m.sameKey l then some v else f m
def del (f:Lit->Option Value) (l:Lit):Lit->Option Value:=fun m=>if m.sameKey l then none else f m
theorem pQ (f:Lit->Option Value) {l:Lit}(hl:WideAt.IsKeyLit l) (v:Value):put f l v l=some v:=if_pos (WideAt.sameKey_self hl)
theorem kT (f:Lit->Option Value) {l m:Lit}(v:Value) (h:m≠l):put f l v m=f m:=if_neg (by rw[Maps.sameKey_ne h];simp)
theorem I3 (f:Lit->Option Value) {l:Lit}(hl:WideAt.IsKeyLit l):del f l l=none:=if_pos (WideAt.sameKey_self hl)
theorem zP (f:Lit->Option Value) {l m:Lit}(h:m≠l):del f l m=f m:=if_neg (by rw[Maps.sameKey_ne h];simp)
section
variable {P:Program}{k t e:TypeId}{w w':World}{b n:Nat}{f:Lit->Option Value}
theorem Mp.lt (h:Mp P k w b n f):b<w.heap.size:=by obtain ⟨D,h,_⟩:=h;exact h.lt
theorem Mp.keep (h:Mp P k w b n f) (hb:w'.heap[b]?=w.heap[b]?):Mp P k w' b n f:=by
 obtain ⟨D,⟨es,clock,j,r⟩,l⟩:=h
 exact ⟨D,⟨es,clock,by rw[hb];exact j,r⟩,l⟩
theorem Mp.made (P:Program) (k:TypeId) (w:World):Mp P k (w.alloc (.map #[] 0)) w.heap.size 0 (fun _=>none):=
 ⟨.map [],World.ownsMap_made _ _ _ _,rfl,fun _ _ _=>rfl⟩
theorem Qm {D:DataW Value}{m:Nat}(h:w.ownsMap P k Po b m D):w.ownsMap P k Po b (Maps.size D) D:=by
 obtain ⟨es,clock,j,l,r,rfl⟩:=h
 refine ⟨es,clock,j,l,?_,rfl⟩
 show es.size≤((es.toList.map _).foldr DataW.insert []).length
 rw[length_sorted];simp
theorem Mp.has {D:DataW Value}(j:∀l,WideAt.IsKeyLit l->∀zd,D.atKey l zd=told f l zd) {l:Lit}(h:WideAt.IsKeyLit l):Maps.has D l=(f l).isSome:=by
 cases hf:f l with
 | none=>exact Maps.has_false_of_atKey fun z=>by rw[j l h z];unfold told;rw[hf]
 | some v=>exact Maps.has_true_of_atKey (y:=.held v) fun z=>by rw[j l h z];unfold told;rw[hf]
theorem Bh {v u:Value}{ps:List MemPlace}{d:DataW Value}(h:Po v=some (d,ps)) (hd:d=.held u):v=u:=by
 unfold Po at h
 injection h with h
 injection h with h _
 rw[<-h] at hd
 injection hd
theorem Mp.look (h:Mp P k w b n f) (K:Keyed P k) (J:P.underlying t=some (.map k e)) {z:Value}(O:(zeroValue e).run P w=.ok z w) {key:Value}{l:Lit}(j:keyOf P k key=some l) :
    (Instr.lookup t (.map (some b)) key false).run P w=.ok ((f l).getD z) w:=by
 obtain ⟨D,y,_,I⟩:=h
 obtain ⟨v,U,s,r⟩:=y.lookup K J O (zd:=.held z) (zp:=[]) rfl j
 rw[s]
 have:=Bh r (u:=(f l).getD z) (by rw[I l (K.key j)];unfold told;cases f l<;>rfl)
 rw[this]
theorem Mp.look_ok (h:Mp P k w b n f) (K:Keyed P k) (J:P.underlying t=some (.map k e)) {z:Value}(O:(zeroValue e).run P w=.ok z w) {key:Value}{l:Lit}(j:keyOf P k key=some l) :
    (Instr.lookup t (.map (some b)) key true).run P w=.ok (.tuple #[(f l).getD z,.bool (f l).isSome]) w:=by
 obtain ⟨D,I,_,r⟩:=h
 obtain ⟨v,U,y,s⟩:=I.look_ok K J O (zd:=.held z) (zp:=[]) rfl j
 rw[y,Mp.has r (K.key j)]
 have:=Bh s (u:=(f l).getD z) (by rw[r l (K.key j)];unfold told;cases f l<;>rfl)
 rw[this]
theorem Mp.put (h:Mp P k w b n f) (K:Keyed P k) (U:P.underlying t=some (.map k e)) (X:n<maxLen) {key:Value}{l:Lit}(j:keyOf P k key=some l) (v:Value) :
    ∃w',(Instr.mapUpdate t (.map (some b)) key v).run P w=.ok () w'/\Mp P k w' b (if (f l).isSome then n else n+1) (put f l v)/\w.grownBy w' (some b):=by
 obtain ⟨D,s,y,u⟩:=h
 obtain ⟨w',J,I,O⟩:=s.update K U X j (val:=v) (d:=.held v) (ps:=[]) rfl
 have hsz:Maps.size (D.put l (.held v))=if (f l).isSome then n else n+1:=by rw[Maps.size_put (s.tidy K),Mp.has u (K.key j),y]
 refine ⟨w',J,⟨_,by rw[<-hsz];exact Qm I,hsz,fun m r Y=>?_⟩,O⟩
 by_cases hml:m=l
 ·subst hml;rw[atKey_put_same s.isMap r];unfold told;rw[pQ _ r]
 ·rw[atKey_put_other hml,u m r];unfold told;rw[kT _ _ hml]
theorem Mp.del (h:Mp P k w b n f) (K:Keyed P k) (U:P.underlying t=some (.map k e)) {key:Value}{l:Lit}(j:keyOf P k key=some l) (u:TypeId) :
    ∃w' n',(Builtin.delete_ #[t,k] u #[.map (some b),key]).run P w=.ok (.tuple #[]) w'/\Mp P k w' b n' (del f l)/\n'≤n/\w.grownBy w' (some b):=by
 obtain ⟨D,I,X,O⟩:=h
 obtain ⟨w',y,s,J⟩:=I.drop K U j u
 refine ⟨w',_,y,⟨_,Qm s,rfl,fun m r Y=>?_⟩,s.size_le,J.grown⟩
 by_cases hml:m=l
 ·subst hml;rw[atKey_del_same];unfold told;rw[I3 _ r]
 ·rw[atKey_del_other hml,O m r];unfold told;rw[zP _ hml]
end
end Gm
end
section
open Go.RowKit
namespace Px
abbrev Db:=bE->Int
end Px
end
section
open Go.RowKit Go.Maps Go.WideMaps Px
def jF (x:Int):Prop:=-9223372036854775808≤x/\x≤9223372036854775807
theorem jF.wf {x:Int}(h:jF x):(Lit.int .i64 x).wf=true:=by
 have l:IntKind.i64.min=-9223372036854775808:=by decide
 have j:IntKind.i64.max=9223372036854775807:=by decide
 unfold jF at h
 simp[Lit.wf,l,j]
 omega
theorem jF.zero:jF 0:=by unfold jF;omega
end
section
open Go.RowKit Px
namespace Ew
open Px.Em (Kd Vr)
open Nx (Nt Sp)
structure bM (P:Nat->Prop) (w w':World):Prop where
 os:w'.os=w.os
 tape:w'.tape=w.tape
 output:w'.output=w.output
 size:w.heap.size≤w'.heap.size
 block:∀b,b<w.heap.size->¬P b->w'.heap[b]?=w.heap[b]?
def Up (P:Nat->Prop) (w w':World) (b:Nat):Prop:=P b\/w.heap.size≤b/\b<w'.heap.size
section
variable {P Q A:Nat->Prop}{w w' w'':World}
theorem bM.refl (P:Nat->Prop) (w:World):bM P w w:=⟨rfl,rfl,rfl,aO4 _,fun _ _ _=>rfl⟩
theorem bM.trans (h:bM P w w') (k:bM Q w' w'') (hQ:∀b,b<w.heap.size->Q b->P b):bM P w w'':=
 ⟨k.os.trans h.os,k.tape.trans h.tape,k.output.trans h.output,aO6 h.size k.size,fun b hb hp=>(k.block b (aO5 hb h.size) (fun hq=>hp (hQ b hb hq))).trans (h.block b hb hp)⟩
theorem bM.up (h:bM P w w') (k:bM (Up P w w') w' w''):bM P w w'':=h.trans k fun b hb hq=>hq.elim id fun h=>absurd h.1 (by omega)
theorem Up.size (h:w'.heap.size≤w''.heap.size):∀b,Up P w w' b->Up P w w'' b:=fun b hb=>hb.elim .inl fun hb=>.inr ⟨hb.1,by omega⟩
theorem Up.up (h:w.heap.size≤w'.heap.size) (h':w'.heap.size≤w''.heap.size):∀b,Up (Up P w w') w' w'' b->Up P w w'' b:=fun b hb=>by
 rcases hb with (hb|hb)|hb
 ·exact .inl hb
 ·exact .inr ⟨hb.1,by omega⟩
 ·exact .inr ⟨by omega,hb.2⟩
theorem bM.wide (h:bM P w w') (hQ:∀b,b<w.heap.size->P b->Q b):bM Q w w':=⟨h.os,h.tape,h.output,h.size,fun b hb hq=>h.block b hb fun hp=>hq (hQ b hb hp)⟩
theorem bM.of_below (h:Below w.heap.size w w'):bM P w w':=⟨h.os,h.tape,h.output,h.size,fun b hb _=>h.block b hb⟩
theorem bM.alloc (h:bM P w w') (o:Obj):bM P w (w'.alloc o):=
 ⟨h.os,h.tape,h.output,by simp;have:=h.size;omega,fun b hb hp=>by rw[Below.heap_alloc _ _ _ (aO5 hb h.size)];exact h.block b hb hp⟩
theorem bM.setCell (h:bM P w w') {p:Addr}(hp:P p.block\/w.heap.size≤p.block) (u:Value):bM P w (w'.setCell p u):=
 ⟨h.os,h.tape,h.output,by simp[World.setCell];exact h.size,fun b hb hb'=>by rw[Below.heap_setCell _ _ _ _ (fun e=>by rcases hp with hp|hp;exact hb' (e▸hp);omega)];exact h.block b hb hb'⟩
theorem bM.grown {r:Option Nat}(h:bM P w w') (hg:w'.grownBy w'' r) (hr:∀b,r=some b->P b\/w.heap.size≤b):bM P w w'':=
 ⟨hg.os.trans h.os,hg.tape.trans h.tape,hg.output.trans h.output,aO6 h.size hg.size,fun b hb hp=>by
  rw[hg.block b (aO5 hb h.size) (fun e=>by rcases hr b e.symm with h|h;exact hp h;omega)];exact h.block b hb hp⟩
theorem bM.drew (h:bM P w w'):bM P w w'.drew:=⟨h.os,h.tape,h.output,h.size,h.block⟩
theorem bM.keep (h:bM P w w') (hA:∀b,A b->¬P b):bB A A w w':=fun b ha hb=>⟨ha,h.block b hb (hA b ha)⟩
theorem bM.cell (h:bM P w w') {a:Addr}{v:Value}(j:w.cell? a=some v) (l:¬P a.block):w'.cell? a=some v:=by
 rw[aY6 (w:=w) (h.block a.block (aY5 w a j) l)];exact j
theorem bM.heap (h:bM P w w') {b:Nat}{o:Obj}(hb:w.heap[b]?=some o) (hp:¬P b):w'.heap[b]?=some o:=by rw[h.block b (aB hb) hp];exact hb
theorem bM.below (h:bM P w w') {B:Nat}(hB:B≤w.heap.size) (hP:∀b,P b->B≤b):Below B w w':=⟨h.os,h.tape,h.output,h.size,fun b hb=>h.block b (by omega) fun hp=>by have:=hP b hp;omega⟩
end
theorem eN (w:World) (l:List Value) (t:TypeId):∀j u,l[j]?=some u->(w.alloc (.cells l.toArray t)).cell? ((⟨w.heap.size,0,none⟩:Addr).add j)=some u:=by
 intro j u r
 have h:=aX w (.cells l.toArray t)
 have e:(⟨w.heap.size,0,none⟩:Addr).add j=⟨w.heap.size,j,none⟩:=by unfold Addr.add;split<;>simp_all
 rw[e]
 exact aF h j (by simpa using r)
def rS (s:Sp):List Value:=[.int .i64 s.code,.int .i64 s.dst,.int .i64 s.a,.int .i64 s.b,.int .i64 s.c]
def rTy:Nat->TypeId
 | 1=>2
 | 5=>2
 | 6=>38
 | _=>3
def rSz:Nat->Nat
 | 6=>5
 | _=>1
def rB (n:Nt):Nat->List Value
 | 1=>n.first.map (Value.int .i64)
 | 2=>n.ins.map (Value.int .i64)
 | 3=>n.outs.map (Value.int .i64)
 | 4=>n.keeps.map (Value.int .i64)
 | 5=>n.nums.map (Value.int .i64)
 | 6=>n.code.flatMap rS
 | _=>[]
def pP (n:Nt):Nat->Nat
 | 1=>n.first.length
 | 2=>n.ins.length
 | 3=>n.outs.length
 | 4=>n.keeps.length
 | 5=>n.nums.length
 | 6=>n.code.length
 | _=>0
structure Cv where
 v:Nat->Value
 mv:Nat
 mn:Nat
 nv:Nat
 nn:Nat
 role:Nat->Nat
def Cv.cells (c:Cv) (p:Int):List Value:=[.int .i64 p,c.v 1,c.v 2,c.v 3,c.v 4,c.v 5,c.v 6,.map (some c.mv),.map (some c.mn)]
def Cv.withRow (c:Cv) (i:Nat) (v:Value):Cv:={ c with v:=fun j=>if j=i then v else c.v j,role:=fun b=>if v.ownBlock=some b then i else c.role b }
def Jo (v:Vr):Value:=.agg #[.int .i64 v.now,.int .i64 v.was,.int .i64 v.first]
def Zo:Vr:=⟨0,0,0⟩
structure CM (P:Nat->Prop) (w:World) (kb:Nat) (k:Kd) (c:Cv):Prop where
 hk:w.heap[kb]?=some (.cells (c.cells k.net.places).toArray 135 (0,0))
 row:∀i,1≤i->i≤6->w.ownsRow 0 (rTy i) (rSz i) (c.v i) (pP k.net i) (rB k.net i)
 hv:∃f,Gm.Mp Tryz.prog 9 w c.mv c.nv f/\∀s:bE,(f (.string s)).getD (Jo Zo)=Jo (k.vars s)
 hn:∃f,Gm.Mp Tryz.prog 2 w c.mn c.nn f/\∀x:Int,f (.int .i64 x)=(k.nums x).map (Value.int .i64)
 p0:P kb/\c.role kb=0
 pr:∀i g,1≤i->i≤6->(c.v i).ownBlock=some g->P g/\c.role g=i
 pv:P c.mv/\c.role c.mv=7
 pn:P c.mn/\c.role c.mn=8
 nv:c.nv≤k.net.first.length
 nn:c.nn≤k.net.nums.length
 mvk:c.mv+2=kb
def yP (ns:List bE) (k:Kd):Nat:=(ns.filter fun s=>decide ((k.vars s).was=-1)).length
structure rQ (E:Nat) (ns:List bE) (k:Kd):Prop where
 len:k.net.places=k.net.first.length
 pot:k.net.first.length+yP ns k≤k.net.code.length+E
 code:k.net.code.length≤4000
 keeps:k.net.keeps.length≤k.net.first.length
 ins:k.net.ins.length≤k.net.first.length
 outs:k.net.outs.length≤k.net.first.length
 nums:k.net.nums.length≤k.net.code.length
 e:E≤1000000
 nf:∀x∈k.net.first,jF x
 nn:∀x∈k.net.nums,jF x
 vf:∀s,jF (k.vars s).first
 out:∀s,s∉ns->(k.vars s).was≠-1
def eK (E:Nat) (ns:List bE) (P:Nat->Prop) (w:World) (kb:Nat) (k:Kd):Prop:=(∃c,CM P w kb k c)/\rQ E ns k/\∀b,P b->b<w.heap.size
section
variable {P Q:Nat->Prop}{w w':World}{kb:Nat}{k:Kd}{c:Cv}
theorem CM.carry (h:CM P w kb k c) (s:bB P Q w w'):CM Q w' kb k c:=by
 obtain ⟨fv,l,D⟩:=h.hv
 obtain ⟨U,u,I⟩:=h.hn
 have O:=s kb h.p0.1 (aB h.hk)
 have kv:=s c.mv h.pv.1 l.lt
 have J:=s c.mn h.pn.1 u.lt
 refine ⟨by rw[O.2];exact h.hk,fun i r j=>eY (h.row i r j) (fun g y=>(h.pr i g r j y).1) s,⟨fv,l.keep kv.2,D⟩,⟨U,u.keep J.2,I⟩,⟨O.1,h.p0.2⟩,fun i g r j y=>?_,⟨kv.1,h.pv.2⟩,⟨J.1,h.pn.2⟩,h.nv,h.nn,h.mvk⟩
 have:=h.pr i g r j y
 exact ⟨(s g this.1 ((h.row i r j).lt g y).2).1,this.2⟩
theorem CM.mono (h:CM P w kb k c) (hQ:∀b,P b->Q b):CM Q w kb k c:=h.carry fun b hb _=>⟨hQ b hb,rfl⟩
theorem CM.below (h:CM P w kb k c) (hb:Below w.heap.size w w'):CM P w' kb k c:=h.carry fun b hp hl=>⟨hp,hb.block b hl⟩
theorem eK.below {E:Nat}{ns:List bE}(h:eK E ns P w kb k) (hb:Below w.heap.size w w'):eK E ns P w' kb k:=⟨h.1.imp fun _ h=>h.below hb,h.2.1,fun b hp=>aO5 (h.2.2 b hp) hb.size⟩
theorem eK.mono {E:Nat}{ns:List bE}(h:eK E ns P w kb k) (hQ:∀b,P b->Q b) (hl:∀b,Q b->b<w.heap.size):eK E ns Q w kb k:=⟨h.1.imp fun _ h=>h.mono hQ,h.2.1,hl⟩
theorem iI (h:∀b,P b->b<w.heap.size) (hs:w.heap.size≤w'.heap.size):∀b,Up P w w' b->b<w'.heap.size:=fun b hb=>by
 rcases hb with hb|hb
 ·have:=h b hb;omega
 ·exact hb.2
theorem eK.up {E:Nat}{ns:List bE}{w'':World}(h:eK E ns (Up (Up P w w') w' w'') w'' kb k) (hP:∀b,P b->b<w.heap.size) (h1:w.heap.size≤w'.heap.size) (h2:w'.heap.size≤w''.heap.size):eK E ns (Up P w w'') w'' kb k:=h.mono (Up.up h1 h2) (iI hP (aO6 h1 h2))
theorem CM.cell (h:CM P w kb k c) (j:Nat) {u:Value}(hj:(c.cells k.net.places).toArray[j]?=some u):w.cell? ⟨kb,j,none⟩=some u:=aF h.hk j hj
theorem Cm (c:Cv) (p:Int) {i:Nat}(h:1≤i) (j:i≤6):(c.cells p).toArray[i]?=some (c.v i):=by
 obtain rfl|rfl|rfl|rfl|rfl|rfl:i=1\/i=2\/i=3\/i=4\/i=5\/i=6:=by omega
 all_goals rfl
theorem Nk (c:Cv) (p:Int) {i:Nat}(h:1≤i) (j:i≤6) (v:Value):(c.cells p).set i v=(c.withRow i v).cells p:=by
 obtain rfl|rfl|rfl|rfl|rfl|rfl:i=1\/i=2\/i=3\/i=4\/i=5\/i=6:=by omega
 all_goals simp[Cv.cells,Cv.withRow]
theorem CM.grow (h:CM P w kb k c) {i:Nat}(X:1≤i) (Z:i≤6) {w0 w5:World}{v5:Value}{new:List Value}{n5:Nt}(hw:Below w.heap.size w w0)
    (u:w5.ownsRow 0 (rTy i) (rSz i) v5 (pP k.net i+1) (rB k.net i++new)) (hg:w0.grownBy w5 (c.v i).ownBlock) (U:v5.ownBlock=(c.v i).ownBlock\/v5.ownBlock=some w0.heap.size)
    (hp:n5.places=k.net.places) (hx:∀j,j≠i->rB n5 j=rB k.net j/\pP n5 j=pP k.net j) (I:rB n5 i=rB k.net i++new/\pP n5 i=pP k.net i+1) :
    CM (Up P w (w5.setCell ⟨kb,i,none⟩ v5)) (w5.setCell ⟨kb,i,none⟩ v5) kb { k with net:=n5 } (c.withRow i v5)/\bM P w (w5.setCell ⟨kb,i,none⟩ v5):=by
 obtain ⟨fv,y,aa⟩:=h.hv
 obtain ⟨fn,D,ab⟩:=h.hn
 have hs:=hw.size
 have l0:=aB h.hk
 have ne:∀b,b<w.heap.size->c.role b≠i->v5.ownBlock≠some b:=fun b hb Y e=>by
  rcases U with s|s
  ·exact Y (h.pr i b X Z (s.symm.trans e)).2
  ·rw[e] at s;injection s with s;omega
 have no:∀b,c.role b≠i->(c.v i).ownBlock≠some b:=fun b Y e=>Y (h.pr i b X Z e).2
 have kp:∀b,b<w.heap.size->b≠kb->c.role b≠i->(w5.setCell ⟨kb,i,none⟩ v5).heap[b]?=w.heap[b]?:=fun b hb hk Y=>by
  rw[Below.heap_setCell _ _ _ _ hk,hg.block b (by omega) (fun e=>no b Y e.symm),hw.block b hb]
 have k5:w5.heap[kb]?=w.heap[kb]?:=by rw[hg.block kb (by omega) (fun e=>no kb (by rw[h.p0.2];omega) e.symm),hw.block kb l0]
 have r':∀b,v5.ownBlock≠some b->(c.withRow i v5).role b=c.role b:=fun b hb=>if_neg hb
 have rl:∀j,pP k.net j≤pP n5 j:=fun j=>by
  by_cases r:j=i
  ·rw[r,I.2];omega
  ·rw[(hx j r).2];exact aO4 _
 constructor
 ·refine ⟨?_,fun j J O=>?_,⟨fv,y.keep ?_,aa⟩,⟨fn,D.keep ?_,ab⟩,⟨.inl h.p0.1,?_⟩,fun j g J O r=>?_,⟨.inl h.pv.1,?_⟩,⟨.inl h.pn.1,?_⟩,aO6 h.nv (rl 1),aO6 h.nn (rl 5),h.mvk⟩
  ·rw[show ({ k with net:=n5 }:Kd).net.places=k.net.places from hp,<-Nk c _ X Z v5]
   exact cH (l:=c.cells k.net.places) (by rw[k5];exact h.hk) i v5
  ·by_cases r:j=i
   ·subst r
    show World.ownsRow _ _ _ _ (if j=j then v5 else c.v j) (pP n5 j) (rB n5 j)
    rw[if_pos rfl,I.1,I.2]
    refine eY (A:=fun b=>v5.ownBlock=some b) (A':=fun _=>True) u (fun _ h=>h) fun b hb _=>⟨trivial,Below.heap_setCell _ _ _ _ fun e=>?_⟩
    have e:=e
    subst e
    exact ne b l0 (by rw[h.p0.2];omega) hb
   ·show World.ownsRow _ _ _ _ (if j=i then v5 else c.v j) (pP n5 j) (rB n5 j)
    rw[if_neg r,(hx j r).1,(hx j r).2]
    refine eY (A:=fun b=>(c.v j).ownBlock=some b) (A':=fun _=>True) (h.row j J O) (fun _ h=>h) fun b hb hl=>⟨trivial,kp b hl (fun e=>?_) ?_⟩
    ·have:=(h.pr j b J O hb).2;rw[e,h.p0.2] at this;omega
    ·rw[(h.pr j b J O hb).2];exact r
  ·exact kp _ y.lt (fun e=>by have:=h.pv.2;rw[e,h.p0.2] at this;omega) (by rw[h.pv.2];omega)
  ·exact kp _ D.lt (fun e=>by have:=h.pn.2;rw[e,h.p0.2] at this;omega) (by rw[h.pn.2];omega)
  ·rw[r' kb (ne kb l0 (by rw[h.p0.2];omega))];exact h.p0.2
  ·by_cases hji:j=i
   ·subst hji
    have r:v5.ownBlock=some g:=by have s:=r;show _;simpa [Cv.withRow] using s
    refine ⟨?_,if_pos r⟩
    rcases U with s|s
    ·exact .inl (h.pr j g X Z (s.symm.trans r)).1
    ·rw[r] at s;injection s with s
     have:=(u.lt g r).2
     exact .inr ⟨by omega,by simp[World.setCell];exact this⟩
   ·have r:(c.v j).ownBlock=some g:=by have s:=r;simpa [Cv.withRow,hji] using s
    have:=h.pr j g J O r
    exact ⟨.inl this.1,by rw[r' g (ne g ((h.row j J O).lt g r).2 (by rw[this.2];exact hji))];exact this.2⟩
  ·show (c.withRow i v5).role c.mv=7
   rw[r' _ (ne _ y.lt (by rw[h.pv.2];omega))];exact h.pv.2
  ·show (c.withRow i v5).role c.mn=8
   rw[r' _ (ne _ D.lt (by rw[h.pn.2];omega))];exact h.pn.2
 ·exact ((bM.of_below hw).grown hg fun b hb=>.inl (h.pr i b X Z hb).1).setCell (.inl h.p0.1) _
theorem CM.setP (h:CM P w kb k c) (p:Int):CM P (w.setCell ⟨kb,0,none⟩ (.int .i64 p)) kb { k with net:={ k.net with places:=p } } c/\bM P w (w.setCell ⟨kb,0,none⟩ (.int .i64 p)):=by
 obtain ⟨fv,s,D⟩:=h.hv
 obtain ⟨O,u,y⟩:=h.hn
 have r:∀b,b≠kb->(w.setCell ⟨kb,0,none⟩ (.int .i64 p)).heap[b]?=w.heap[b]?:=fun b hb=>Below.heap_setCell _ _ _ _ hb
 refine ⟨⟨cH (l:=c.cells k.net.places) h.hk 0 _,fun j I J=>?_,⟨fv,s.keep (r _ fun e=>?_),D⟩,⟨O,u.keep (r _ fun e=>?_),y⟩,h.p0,h.pr,h.pv,h.pn,h.nv,h.nn,h.mvk⟩,(bM.refl _ _).setCell (.inl h.p0.1) _⟩
 ·have U:rB { k.net with places:=p } j=rB k.net j:=by unfold rB;split<;>rfl
  have X:pP { k.net with places:=p } j=pP k.net j:=by unfold pP;split<;>rfl
  show World.ownsRow _ _ _ _ _ (pP { k.net with places:=p } j) (rB { k.net with places:=p } j)
  rw[U,X]
  refine eY (A:=fun b=>(c.v j).ownBlock=some b) (A':=fun _=>True) (h.row j I J) (fun _ h=>h) fun b hb _=>⟨trivial,r b fun e=>?_⟩
  have:=(h.pr j b I J hb).2;rw[e,h.p0.2] at this;omega
 ·have:=h.pv.2;rw[e,h.p0.2] at this;omega
 ·have:=h.pn.2;rw[e,h.p0.2] at this;omega
theorem CM.setV (h:CM P w kb k c) {f:Lit->Option Value}{r:Nat}{vars':bE->Vr}(hm:Gm.Mp Tryz.prog 9 w' c.mv r f) (X:∀s:bE,(f (.string s)).getD (Jo Zo)=Jo (vars' s)) (U:w.grownBy w' (some c.mv)) (u:r≤k.net.first.length) :
    CM P w' kb { k with vars:=vars' } { c with nv:=r }/\bM P w w':=by
 obtain ⟨Z,l,I⟩:=h.hn
 have y:∀b,b<w.heap.size->b≠c.mv->w'.heap[b]?=w.heap[b]?:=fun b hb D=>U.block b hb fun e=>D (by injection e)
 refine ⟨⟨?_,fun j J O=>?_,⟨f,hm,X⟩,⟨Z,l.keep (y _ l.lt fun e=>?_),I⟩,h.p0,h.pr,h.pv,h.pn,u,h.nn,h.mvk⟩,(bM.refl _ _).grown U fun b hb=>.inl (by injection hb with hb;rw[<-hb];exact h.pv.1)⟩
 ·have:=y kb (aB h.hk) fun e=>by { have:=h.pv.2;rw[<-e,h.p0.2] at this;omega }
  rw[this];exact h.hk
 ·refine eY (A:=fun b=>(c.v j).ownBlock=some b) (A':=fun _=>True) (h.row j J O) (fun _ h=>h) fun b hb Y=>⟨trivial,y b Y fun e=>?_⟩
  have:=(h.pr j b J O hb).2;rw[e,h.pv.2] at this;omega
 ·have:=h.pn.2;rw[e,h.pv.2] at this;omega
theorem CM.setN (h:CM P w kb k c) {f:Lit->Option Value}{r:Nat}{nums':Int->Option Int}(Y:Gm.Mp Tryz.prog 2 w' c.mn r f) (U:∀x:Int,f (.int .i64 x)=(nums' x).map (Value.int .i64)) (O:w.grownBy w' (some c.mn)) (s:r≤k.net.nums.length) :
    CM P w' kb { k with nums:=nums' } { c with nn:=r }/\bM P w w':=by
 obtain ⟨fv,l,D⟩:=h.hv
 have u:∀b,b<w.heap.size->b≠c.mn->w'.heap[b]?=w.heap[b]?:=fun b hb y=>O.block b hb fun e=>y (by injection e)
 refine ⟨⟨?_,fun j I J=>?_,⟨fv,l.keep (u _ l.lt fun e=>?_),D⟩,⟨f,Y,U⟩,h.p0,h.pr,h.pv,h.pn,h.nv,s,h.mvk⟩,(bM.refl _ _).grown O fun b hb=>.inl (by injection hb with hb;rw[<-hb];exact h.pn.1)⟩
 ·have:=u kb (aB h.hk) fun e=>by { have:=h.pn.2;rw[<-e,h.p0.2] at this;omega }
  rw[this];exact h.hk
 ·refine eY (A:=fun b=>(c.v j).ownBlock=some b) (A':=fun _=>True) (h.row j I J) (fun _ h=>h) fun b hb X=>⟨trivial,u b X fun e=>?_⟩
  have:=(h.pr j b I J hb).2;rw[e,h.pn.2] at this;omega
 ·have:=h.pv.2;rw[e,h.pn.2] at this;omega
end
abbrev Vl:Ending:=.panicked [{ v:=.iface 86 (.int .i64 4),recovered:=false }]
def fJ {α:Type}(E:Nat) (ns:List bE) (P:Nat->Prop) (kb:Nat) (w:World) (k:Kd) (o:Option (α×Kd)) (val:α->Value) (e:Ending) (w':World):Prop:=
 (e=Vl/\Hid (o=none)/\Hid (bM P w w'))\/∃a k',e=.returned (val a)/\Hid (o=some (a,k'))/\Hid (eK E ns (Up P w w') w' kb k'/\bM P w w'/\k.net.places≤k'.net.places)
theorem bind_some {α β:Type}{m:Em.M α}{f:α->Em.M β}{k j:Kd}{a:α}(h:m k=some (a,j)):(m >>= f) k=f a j:=by
 show (m k).bind _=_
 rw[h];rfl
theorem aH {α β:Type}{m:Em.M α}{f:α->Em.M β}{k:Kd}(h:m k=none):(m >>= f) k=none:=by
 show (m k).bind _=_
 rw[h];rfl
end Ew
end
end Go.Proofs.YthieaobjdpfcoaaGreatDoor
