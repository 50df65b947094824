import Derived.Test.YtcdbhoknhnimcaaGreatDoorSCk2
import Derived.Test.YtcdbhoknhnimcaaGreatDoorSNt3
import Derived.Maps.Own
import Derived.Maps.OwnOps
import Derived.Maps.OwnSet
import Derived.Maps.Views
import Derived.Test.YtcdbhoknhnimcaaGreatDoorSCe2
import Derived.Test.YtcdbhoknhnimcaaGreatDoorSCr
namespace Go.Proofs.YtcdbhoknhnimcaaGreatDoor
section
namespace Px
open Go.Deep (BT)
namespace Em
open Nx (Nt Sp)
structure Vr where
 now:Int
 was:Int
 first:Int
structure Kd where
 net:Nt
 vars:bA->Vr
 nums:Int->Option Int
abbrev M:=StateT Kd Option
def thrown {α:Type}:M α:=fun _=>none
def place (x:Int):M Int:=fun k=>some (k.net.places,{ k with net:={ k.net with first:=k.net.first++[x],places:=k.net.places+1 } })
def kept (x:Int):M Int:=do
 let p <-place x
 modify fun k=>{ k with net:={ k.net with keeps:=k.net.keeps++[p] } }
 pure p
def add (s:Sp):M Unit:=fun k=>if 4000≤k.net.code.length then none else some ((),{ k with net:={ k.net with code:=k.net.code++[s] } })
def made (c a b d:Int):M Int:=do
 let p <-place 0
 add ⟨c,p,a,b,d⟩
 pure p
def number (n:Int):M Int:=do
 let k <-get
 match k.nums n with
 | some p=>pure p
 | none=>do
  let p <-made 1 k.net.nums.length 0 0
  modify fun k=>{ k with net:={ k.net with nums:=k.net.nums++[n] },nums:=fun m=>if m=n then some p else k.nums m }
  pure p
def rY (a b:Int):M Int:=if a=-1\/b=-1 then pure (-1) else made 15 a b 0
def sS (a b:Int):M Int:=if a=-1 then pure b else if b=-1 then pure a else made 16 a b 0
def dL (a b:Int):M Int:=if b=-1 then pure a else if a=-1\/a=b then pure (-1) else made 13 b a 0
def given (so p:Int):M Int:=do
 let z <-number 0
 made 17 so p z
def put (dst so from_:Int):M Unit:=add ⟨17,dst,so,from_,dst⟩
def qO (s:bA):M Int:=do
 let k <-get
 let v:=k.vars s
 if v.was=-1 then do
  let p <-kept v.first
  modify fun k=>{ k with vars:=fun t=>if t=s then ⟨v.now,p,v.first⟩ else k.vars t }
  pure p
 else pure v.was
def bY6 (s:bA):M Int:=do
 let k <-get
 pure (k.vars s).now
def eF:E->M Int
 | .nil=>number 0
 | .node _ _ a l r=>
  if a.code=1 then number a.num
  else if a.code=2 then bY6 a.name
  else if a.code=3 then qO a.name
  else if a.code=4\/a.code=5 then do
   let x <-eF l
   made a.code x 0 0
  else if a.code<6\/16<a.code then number 0
  else do
   let x <-eF l
   let y <-eF r
   made a.code x y 0
def Al (so:Int):List gX->M Unit
 | []=>pure ()
 | s::r=>do
  let p <-bY6 s.name
  let x <-eF s.e
  put p so x
  Al so r
def tB (so:Int) (l:List gX):M Unit:=if so=-1 then pure () else Al so l
def is (p:Int) (i:Nat):M Int:=do
 let x <-number ((i:Int)+1)
 made 11 p x 0
structure eH where
 drawn:Wy
 «to»:Int
 left:Int
structure eI (σ ρ:Type) where
 drawn:bM σ
 ways:List eH
 inside:List ρ
 idle:Bool
 leaves:Bool
structure iN (σ ρ:Type) where
 states:List (eI σ ρ)
 order:List Nat
 first:Int
 there:Int
 idle:Bool
 leaves:Bool
def Rg:Nat->Type
 | 0=>Unit
 | k+1=>iN (St k) (Rg k)
abbrev bY:=List (List (Int×Bool))
def dT (t:bY) (i:Int) (so:Int) (back:Bool):bY:=t.set i.toNat (t.getD i.toNat []++[(so,back)])
structure uS (σ ρ:Type) where
 lay:List σ->M ρ
 size:ρ->Nat
 there:ρ->Int
 idle:ρ->Bool
 leaves:ρ->Bool
 over:ρ->M Int
 leave:ρ->Int->M Unit
 enter:ρ->Int->Int->M Unit
 goOn:ρ->Int->bY->M Unit
def Ap:E->Bool
 | .nil=>true
 | .node _ _ _ _ _=>false
section
variable {σ ρ:Type}
def aI0 (l:List (bM σ)):Int:=match l.findIdx? (·.first) with|some i=>(i:Int)|none=>-1
def iY (names:List bA):List Wy->M (List eH)
 | []=>pure []
 | y::r=>do
  let p <-if 1<y.times then kept 0 else pure (-1)
  let t <-iY names r
  pure (⟨y,dV names y.to,p⟩::t)
def nZ (O:uS σ ρ):List (List σ)->M (List ρ)
 | []=>pure []
 | g::r=>do
  let x <-O.lay g
  let t <-nZ O r
  pure (x::t)
def aO1 (O:uS σ ρ) (names:List bA) (s:bM σ):M (eI σ ρ):=do
 let ins <-nZ O s.regions
 let ws <-iY names s.ways
 pure ⟨s,ws,ins,decide (s.during.length+s.ways.length=0)&&ins.all O.idle,decide (0<s.leave.length)||ins.any O.leaves⟩
def eY (O:uS σ ρ) (names:List bA):List (bM σ)->M (List (eI σ ρ))
 | []=>pure []
 | s::r=>do
  let x <-aO1 O names s
  let t <-eY O names r
  pure (x::t)
def lay (O:uS σ ρ) (l:List (bM σ)):M (iN σ ρ):=do
 let f:=aI0 l
 let p <-kept (f+1)
 let ss <-eY O (aZ l) l
 pure ⟨ss,(eD (bU l)).getD [],f,p,ss.all (·.idle),ss.any (·.leaves)⟩
def nC (p:Int):List (eI σ ρ)->Nat->Int->M Int
 | [],_,o=>pure o
 | s::r,i,o=>if s.drawn.last then do
    let x <-is p i
    let o' <-sS o x
    nC p r (i+1) o'
  else nC p r (i+1) o
def over (g:iN σ ρ):M Int:=nC g.there g.states 0 (-1)
def bN3 (O:uS σ ρ):List ρ->Int->M Int
 | [],so=>pure so
 | g::r,so=>do
  let x <-O.over g
  let so' <-rY so x
  bN3 O r so'
def aV9 (O:uS σ ρ) (s:eI σ ρ) (y:eH) (so0:Int):M Int:=do
 let so1 <-if y.drawn.kind=2 then bN3 O s.inside so0 else pure so0
 if so1=-1 then pure (-1) else do
 let so2 <-if Ap y.drawn.cond then pure so1 else do
  let x <-eF y.drawn.cond
  rY so1 x
 if y.left=-1 then pure so2 else do
 add ⟨7,y.left,y.left,so2,0⟩
 made 13 y.left so2 0
def fU (O:uS σ ρ) (s:eI σ ρ) (so:Int) (asked:Wy->Bool):List eH->Int->Int->Int->List (eH×Int)->M (List (eH×Int)×Int)
 | [],_,_,taken,l=>pure (l,taken)
 | y::r,rest,ahead,taken,l=>
  if so=-1\/asked y.drawn=false then fU O s so asked r rest ahead taken l else do
  let rest' <-dL rest ahead
  let ahead' <-aV9 O s y rest'
  if ahead'=rest' then pure (l++[(y,ahead')],so) else do
  let taken' <-sS taken ahead'
  fU O s so asked r rest' ahead' taken' (l++[(y,ahead')])
def choose (O:uS σ ρ) (s:eI σ ρ) (so:Int) (asked:Wy->Bool):M (List (eH×Int)×Int):=fU O s so asked s.ways so (-1) (-1) []
def take:List (eH×Int)->bY->M bY
 | [],t=>pure t
 | c::r,t=>do
  tB c.2 c.1.drawn.sets
  take r (dT t c.1.to c.2 c.1.drawn.back)
def cV (O:uS σ ρ):List ρ->Int->M Unit
 | [],_=>pure ()
 | g::r,so=>do
  O.leave g so
  cV O r so
def iE (O:uS σ ρ) (here:Int):List (eI σ ρ)->Nat->M Unit
 | [],_=>pure ()
 | s::r,i=>if s.leaves then do
    let gone <-is here i
    cV O s.inside gone
    tB gone s.drawn.leave
    iE O here r (i+1)
  else iE O here r (i+1)
def leave (O:uS σ ρ) (g:iN σ ρ) (so:Int):M Unit:=if so=-1\/g.leaves=false then pure () else do
 let here <-given so g.there
 iE O here g.states 0
def fK (so:Int):List eH->M Unit
 | []=>pure ()
 | y::r=>if y.left=-1 then fK so r else do
  let x <-number y.drawn.times
  put y.left so x
  fK so r
def lG (O:uS σ ρ) (on back:Int):List ρ->M Unit
 | []=>pure ()
 | g::r=>do
  O.enter g on back
  lG O on back r
def eS (O:uS σ ρ) (s:eI σ ρ) (so back:Int) (t:bY):M bY:=do
 fK so s.ways
 tB so s.drawn.enter
 let c1 <-choose O s so fun y=>y.now&&decide (y.kind=1)
 let on <-dL so c1.2
 let back' <-if on=so then pure back else rY on back
 lG O on back' s.inside
 let c2 <-choose O s on fun y=>y.now && !decide (y.kind=1)
 if s.leaves then do
  cV O s.inside c2.2
  let e <-sS c1.2 c2.2
  tB e s.drawn.leave
 let t' <-take c1.1 t
 take c2.1 t'
def A4:List (Int×Bool)->Int->M Int
 | [],so=>pure so
 | a::r,so=>do
  let so' <-sS so a.1
  A4 r so'
def gP (has:Bool):List (Int×Bool)->Int->M Int
 | [],b=>pure b
 | a::r,b=>if a.2&&has then do
    let b' <-sS b a.1
    gP has r b'
  else gP has r b
def bJ (O:uS σ ρ) (g:iN σ ρ):List Nat->bY->M Unit
 | [],_=>pure ()
 | i::r,t=>do
  let so <-A4 (t.getD i []) (-1)
  if so=-1 then bJ O g r t else
  match g.states[i]? with
  | none=>thrown
  | some s=>do
   let x <-number ((i:Int)+1)
   put g.there so x
   let b <-gP (decide (0<s.inside.length)) (t.getD i []) (-1)
   let t' <-eS O s so b t
   bJ O g r t'
def tX (was:Int):Nat->Nat->bY->M bY
 | 0,_,t=>pure t
 | n+1,i,t=>do
  let x <-is was i
  tX was n (i+1) (dT t i x true)
def enter (O:uS σ ρ) (g:iN σ ρ) (so back:Int):M Unit:=if so=-1 then pure () else do
 let t <-if back=-1 then pure (List.replicate g.states.length []) else do
  let w <-given back g.there
  tX w g.states.length 0 (List.replicate g.states.length [])
 let f <-dL so back
 bJ O g g.order (dT t g.first f false)
def oD (O:uS σ ρ) (on:Int):List ρ->M Unit
 | []=>pure ()
 | g::r=>if on=-1\/O.idle g=true then oD O on r else do
  let h <-given on (O.there g)
  O.goOn g h (List.replicate (O.size g) [])
  oD O on r
def eL (O:uS σ ρ) (s:eI σ ρ) (so:Int) (t:bY):M bY:=do
 let c1 <-choose O s so fun y=>decide (y.kind=1)
 let on0 <-dL so c1.2
 let on <-if Ap s.drawn.rests\/on0=-1 then pure on0 else do
  let x <-eF s.drawn.rests
  let z <-number 0
  made 17 x z on0
 tB on s.drawn.during
 oD O on s.inside
 let c2 <-choose O s on fun y=>!decide (y.kind=1)
 if s.leaves then do
  let gone <-sS c1.2 c2.2
  cV O s.inside gone
  tB gone s.drawn.leave
 let t' <-take c1.1 t
 take c2.1 t'
def Aq (O:uS σ ρ) (here:Int):List (eI σ ρ)->Nat->bY->M bY
 | [],_,t=>pure t
 | s::r,i,t=>if s.idle then Aq O here r (i+1) t else do
  let so <-is here i
  let t' <-eL O s so t
  Aq O here r (i+1) t'
def goOn (O:uS σ ρ) (g:iN σ ρ) (here:Int) (t:bY):M Unit:=do
 let t' <-Aq O here g.states 0 t
 bJ O g g.order t'
def cV4 (O:uS σ ρ):uS (bM σ) (iN σ ρ):=⟨lay O,fun g=>g.states.length,(·.there),(·.idle),(·.leaves),over,leave O,enter O,goOn O⟩
end
def aG:(k:Nat)->uS (St k) (Rg k)
 | 0=>⟨fun _=>pure (),fun _=>0,fun _=>0,fun _=>true,fun _=>false,fun _=>pure (-1),fun _ _=>pure (),fun _ _ _=>pure (),fun _ _ _=>pure ()⟩
 | k+1=>cV4 (aG k)
def dH:List bH->M Unit
 | []=>pure ()
 | v::r=>do
  let p <-if v.kind=1 then do
      let p <-place v.first
      modify fun k=>{ k with net:={ k.net with ins:=k.net.ins++[p] } }
      pure p
   else kept v.first
  if v.kind=2 then modify fun k=>{ k with net:={ k.net with outs:=k.net.outs++[p] } }
  modify fun k=>{ k with vars:=fun t=>if t=v.name then ⟨p,-1,v.first⟩ else k.vars t }
  dH r
def pO (begin_:Int):List (List (St 6))->M Unit
 | []=>pure ()
 | l::r=>do
  let g <-(aG 6).lay l
  let g':iN (St 5) (Rg 5):=g
  modify fun k=>{ k with net:={ k.net with first:=k.net.first.set g'.there.toNat 0 } }
  (aG 6).goOn g g'.there (dT (List.replicate g'.states.length []) g'.first begin_ false)
  pO begin_ r
def tick (l:List (List (St 6))):M Unit:=do
 let b <-place 1
 pO b l
def dF:List bH->M Unit
 | []=>pure ()
 | v::r=>do
  let k <-get
  if (k.vars v.name).was=-1 then dF r else do
  add ⟨2,(k.vars v.name).was,(k.vars v.name).now,0,0⟩
  dF r
def kd0:Kd:=⟨⟨0,[],[],[],[],[],[]⟩,fun _=>⟨0,0,0⟩,fun _=>none⟩
def cA1 (c:fQ):M Unit:=do
 dH c.vars
 tick c.regions
 dF c.vars
def sE (c:fQ):Option Nt:=(cA1 c kd0).map (·.2.net)
end Em
end Px
end
section
open Go.Maps Go.WideMaps
namespace Gm
def bC3 (v:Value):Option (DataW Value×List MemPlace):=some (.held v,[])
def told (f:Lit->Option Value) (l:Lit) (zd:DataW Value):DataW Value:=
 match f l with
 | none=>zd
 | some v=>.held v
def Mp (P:Program) (k:TypeId) (w:World) (b n:Nat) (f:Lit->Option Value):Prop:=
 ∃D:DataW Value,w.ownsMap P k bC3 b n D/\Maps.size D=n/\∀l,WideAt.IsKeyLit l->∀zd,D.atKey l zd=told f l zd
def put (f:Lit->Option Value) (l:Lit) (v:Value):Lit->Option Value:=fun m=>if m.sameKey l then some v else f m
theorem rG (f:Lit->Option Value) {l:Lit}(hl:WideAt.IsKeyLit l) (v:Value):put f l v l=some v:=if_pos (WideAt.sameKey_self hl)
theorem oU (f:Lit->Option Value) {l m:Lit}(v:Value) (h:m≠l):put f l v m=f m:=if_neg (by rw[Maps.sameKey_ne h];simp)
section
variable {P:Program}{k t e:TypeId}{w w':World}{b n:Nat}{f:Lit->Option Value}
theorem Mp.lt (h:Mp P k w b n f):b<w.heap.size:=by obtain ⟨D,h,_⟩:=h;exact h.lt
theorem Mp.keep (h:Mp P k w b n f) (hb:w'.heap[b]?=w.heap[b]?):Mp P k w' b n f:=by
 obtain ⟨D,⟨es,clock,h1,h2⟩,h3⟩:=h
 exact ⟨D,⟨es,clock,by rw[hb];exact h1,h2⟩,h3⟩
theorem Mp.made (P:Program) (k:TypeId) (w:World):Mp P k (w.alloc (.map #[] 0)) w.heap.size 0 (fun _=>none):=
 ⟨.map [],World.ownsMap_made _ _ _ _,rfl,fun _ _ _=>rfl⟩
theorem bE6 {D:DataW Value}{m:Nat}(h:w.ownsMap P k bC3 b m D):w.ownsMap P k bC3 b (Maps.size D) D:=by
 obtain ⟨es,clock,h1,h2,h3,rfl⟩:=h
 refine ⟨es,clock,h1,h2,?_,rfl⟩
 show es.size≤((es.toList.map _).foldr DataW.insert []).length
 rw[length_sorted];simp
theorem Mp.has {D:DataW Value}(h3:∀l,WideAt.IsKeyLit l->∀zd,D.atKey l zd=told f l zd) {l:Lit}(hl:WideAt.IsKeyLit l):Maps.has D l=(f l).isSome:=by
 cases hf:f l with
 | none=>exact Maps.has_false_of_atKey fun z=>by rw[h3 l hl z];unfold told;rw[hf]
 | some v=>exact Maps.has_true_of_atKey (y:=.held v) fun z=>by rw[h3 l hl z];unfold told;rw[hf]
theorem Y8 {v u:Value}{ps:List MemPlace}{d:DataW Value}(h:bC3 v=some (d,ps)) (hd:d=.held u):v=u:=by
 unfold bC3 at h
 injection h with h
 injection h with h _
 rw[<-h] at hd
 injection hd
theorem Mp.look (h:Mp P k w b n f) (K:Keyed P k) (ht:P.underlying t=some (.map k e)) {z:Value}(hz:(zeroValue e).run P w=.ok z w) {key:Value}{l:Lit}(hkey:keyOf P k key=some l) :
    (Instr.lookup t (.map (some b)) key false).run P w=.ok ((f l).getD z) w:=by
 obtain ⟨D,h1,_,h3⟩:=h
 obtain ⟨v,ps,hr,hv⟩:=h1.lookup K ht hz (zd:=.held z) (zp:=[]) rfl hkey
 rw[hr]
 have:=Y8 hv (u:=(f l).getD z) (by rw[h3 l (K.key hkey)];unfold told;cases f l<;>rfl)
 rw[this]
theorem Mp.look_ok (h:Mp P k w b n f) (K:Keyed P k) (ht:P.underlying t=some (.map k e)) {z:Value}(hz:(zeroValue e).run P w=.ok z w) {key:Value}{l:Lit}(hkey:keyOf P k key=some l) :
    (Instr.lookup t (.map (some b)) key true).run P w=.ok (.tuple #[(f l).getD z,.bool (f l).isSome]) w:=by
 obtain ⟨D,h1,_,h3⟩:=h
 obtain ⟨v,ps,hr,hv⟩:=h1.look_ok K ht hz (zd:=.held z) (zp:=[]) rfl hkey
 rw[hr,Mp.has h3 (K.key hkey)]
 have:=Y8 hv (u:=(f l).getD z) (by rw[h3 l (K.key hkey)];unfold told;cases f l<;>rfl)
 rw[this]
theorem Mp.put (h:Mp P k w b n f) (K:Keyed P k) (ht:P.underlying t=some (.map k e)) (hn:n<maxLen) {key:Value}{l:Lit}(hkey:keyOf P k key=some l) (v:Value) :
    ∃w',(Instr.mapUpdate t (.map (some b)) key v).run P w=.ok () w'/\Mp P k w' b (if (f l).isSome then n else n+1) (put f l v)/\w.grownBy w' (some b):=by
 obtain ⟨D,h1,h2,h3⟩:=h
 obtain ⟨w',hr,h4,h5⟩:=h1.update K ht hn hkey (val:=v) (d:=.held v) (ps:=[]) rfl
 have hsz:Maps.size (D.put l (.held v))=if (f l).isSome then n else n+1:=by rw[Maps.size_put (h1.tidy K),Mp.has h3 (K.key hkey),h2]
 refine ⟨w',hr,⟨_,by rw[<-hsz];exact bE6 h4,hsz,fun m hm zd=>?_⟩,h5⟩
 by_cases hml:m=l
 ·subst hml;rw[atKey_put_same h1.isMap hm];unfold told;rw[rG _ hm]
 ·rw[atKey_put_other hml,h3 m hm];unfold told;rw[oU _ _ hml]
end
end Gm
end
section
open Go.RowKit
namespace Px
abbrev Ao:=bA->Int
end Px
end
section
open Go.RowKit Go.Maps Go.WideMaps Px
def gQ (x:Int):Prop:=-9223372036854775808≤x/\x≤9223372036854775807
theorem gQ.wf {x:Int}(h:gQ x):(Lit.int .i64 x).wf=true:=by
 have e1:IntKind.i64.min=-9223372036854775808:=by decide
 have e2:IntKind.i64.max=9223372036854775807:=by decide
 unfold gQ at h
 simp[Lit.wf,e1,e2]
 omega
theorem gQ.zero:gQ 0:=by unfold gQ;omega
end
end Go.Proofs.YtcdbhoknhnimcaaGreatDoor
