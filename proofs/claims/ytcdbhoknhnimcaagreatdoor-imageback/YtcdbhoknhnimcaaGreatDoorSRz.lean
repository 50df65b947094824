import Derived.Deep.RegionHeld
namespace Go.Proofs.YtcdbhoknhnimcaaGreatDoor
section
variable {P:Program}{ops:Array Oper}{Q:Exit->Act->World->Prop}{md:Region.Mode}{S:World->Prop}{z:Nat}
def kO (P:Program) (md:Region.Mode) (ops:Array Oper) (Q:Exit->Act->World->Prop) (S:World->Prop) (z:Nat):Nat->Array Bool->Act->World->Prop
 | 0,listed,a,w=>Region.ready md ops listed=[]/\Q .normal a w
 | fuel+1,listed,a,w=>
  (Region.ready md ops listed=[]->Q .normal a w)/\
  ∀i∈Region.ready md ops listed,wpOp P ops Q i (fun a' w'=>((listed.setIfInBounds i true).getD z true=false->S w')/\kO P md ops Q S z fuel (listed.setIfInBounds i true) a' w') a w
theorem uU:∀(fuel:Nat) (listed:Array Bool) (a:Act) (w:World),kO P md ops Q S z fuel listed a w->wpAny P md ops Q fuel listed a w
 | 0,_,_,_,h=>h
 | fuel+1,_,_,_,h=>⟨h.1,fun i hi=>wpOp_mono (fun a' w' h'=>uU fuel _ a' w' h'.2) (h.2 i hi)⟩
theorem yZ {l:Array Bool}{i j:Nat}(h:l.getD j true=true):(l.setIfInBounds i true).getD j true=true:=by
 by_cases hij:i=j
 ·subst hij
  rcases Nat.lt_or_ge i l.size with h'|h'
  ·simp[h']
  ·simp[Array.getD]
 ·rw[getD_set_ne true hij];exact h
theorem pL:∀(fuel:Nat) (listed:Array Bool) (a:Act) (w:World),listed.getD z true=true->wpAny P md ops Q fuel listed a w->kO P md ops Q S z fuel listed a w
 | 0,_,_,_,_,h=>h
 | fuel+1,l,_,_,hz,h=>⟨h.1,fun i hi=>wpOp_mono (fun a' w' h'=>⟨fun hf=>by rw[yZ hz] at hf;exact absurd hf (by simp),pL fuel _ a' w' (yZ hz) h'⟩) (h.2 i hi)⟩
def Region.waits (md:Region.Mode) (ops:Array Oper) (i:Nat) (D:List Nat):Bool:=
 D.all fun d=>match ops[d]? with
  | some o=>o.after.any fun e=>Region.binds md e&&(e.on==i||D.contains e.on)
  | none=>false
theorem Region.waits_spec {i:Nat}{D:List Nat}(h:Region.waits md ops i D=true) (d:Nat) (hd:d∈D):∃o,ops[d]?=some o/\∃e∈o.after,Region.binds md e=true/\(e.on=i\/e.on∈D):=by
 have:=List.all_eq_true.1 h d hd
 revert this
 cases ho:ops[d]? with
 | none=>intro h;exact absurd h (by simp)
 | some o=>
  intro h
  simp only at h
  obtain ⟨e,he,hb⟩:=Array.any_eq_true'.1 h
  simp only[Bool.and_eq_true,Bool.or_eq_true,beq_iff_eq,List.contains_iff_mem] at hb
  exact ⟨o,rfl,e,he,hb.1,hb.2⟩
theorem zQ {i:Nat}{oi:Oper}{v:Value}{D:List Nat}(hi:ops[i]?=some oi) (hsel:∀(j:Nat) (o:Oper) cs b,ops[j]?=some o->o.op≠.select cs b)
    (hQ:∀c a w,Q (.panic c) (a.put oi.dst v) w->Q (.panic c) a w) (hzD:z∈D) (hiD:i∉D) (hdep:Region.waits md ops i D=true) :
    ∀(fuel:Nat) (listed:Array Bool) (a:Act) (w:World),
     (∀j oj,ops[j]?=some oj->j≠i->listed.getD j true=false->(∀e∈oj.after,Region.binds md e=true->e.on≠i)->oi.apart ops oj=true)->
     i∈Region.ready md ops listed->(∀d∈D,listed.getD d true=false)->YieldsIf P ops S oi v a->S w->
     kO P md ops Q S z fuel (listed.setIfInBounds i true) (a.put oi.dst v) w->kO P md ops Q S z (fuel+1) listed a w:=by
 have hlist:∀(listed:Array Bool) (k:Nat),listed.getD k true=false->listed.getD k false=true->False:=fun listed k h0 h1=>by
  rcases Nat.lt_or_ge k listed.size with h'|h'
  ·simp[h'] at h0 h1;rw[h0] at h1;cases h1
  ·simp[Array.getElem?_eq_none h'] at h1
 intro fuel
 induction fuel with
 | zero=>
  intro listed a w _ hr hD hy hS H
  refine ⟨fun h=>(by rw[h] at hr;cases hr),fun j hj=>?_⟩
  by_cases hji:j=i
  ·subst hji;exact hy.wpOp hi hS ⟨fun _=>hS,H⟩
  ·have:=ready_mono hj hji
   rw[H.1] at this
   cases this
 | succ fuel ih=>
  intro listed a w hfree hr hD hy hS H
  refine ⟨fun h=>(by rw[h] at hr;cases hr),fun j hj=>?_⟩
  by_cases hji:j=i
  ·subst hji;exact hy.wpOp hi hS ⟨fun _=>hS,H⟩
  ·have h1:=H.2 j (ready_mono hj hji)
   obtain ⟨hjun,oj,hoj,hall⟩:=mem_ready.1 hj
   have hnot:∀e∈oj.after,Region.binds md e=true->e.on≠i:=fun e he hb heq=>by
    have h1:=hall e he hb
    rw[heq] at h1
    exact hlist _ _ (mem_ready.1 hr).1 h1
   have hjD:j∉D:=fun hjD=>by
    obtain ⟨o,ho,e,he,hb,hor⟩:=Region.waits_spec hdep j hjD
    rw[hoj] at ho
    cases ho
    rcases hor with h|h
    ·exact hnot e he hb h
    ·exact hlist _ _ (hD _ h) (hall e he hb)
   have h2:=wpOp_putIf hoj (hfree j oj hoj hji hjun hnot) (fun cs b=>hsel i oi cs b hi) (fun cs b=>hsel j oj cs b hoj) hQ hy h1
   have hfree':∀k ok,ops[k]?=some ok->k≠i->(listed.setIfInBounds j true).getD k true=false->
       (∀e∈ok.after,Region.binds md e=true->e.on≠i)->oi.apart ops ok=true:=fun k ok hk hki hun hno=>by
    refine hfree k ok hk hki ?_ hno
    by_cases hjk:j=k
    ·subst hjk;exact hjun
    ·rw[getD_set_ne true hjk] at hun;exact hun
   have hD':∀d∈D,(listed.setIfInBounds j true).getD d true=false:=fun d hd=>by
    have e:j≠d:=fun h=>hjD (h▸hd)
    rw[getD_set_ne true e];exact hD d hd
   have hz2:((listed.setIfInBounds i true).setIfInBounds j true).getD z true=false:=by
    have e:j≠z:=fun h=>hjD (h▸hzD)
    have e':i≠z:=fun h=>hiD (h▸hzD)
    rw[getD_set_ne true e,getD_set_ne true e'];exact hD z hzD
   refine wpOp_mono (fun a' w' h3=>⟨fun _=>h3.2.1 hz2,ih (listed.setIfInBounds j true) a' w' hfree' (ready_mono hr (Ne.symm hji)) hD' h3.1 (h3.2.1 hz2) ?_⟩) h2
   rw[Array.setIfInBounds_comm _ _ hji]
   exact h3.2.2
theorem nI (i:Nat) (D:List Nat) {oi:Oper}{v:Value}{fuel:Nat}{listed:Array Bool}{a:Act}{w:World}(hi:ops[i]?=some oi)
    (hs:Region.noSelect ops=true) (hf:Region.free md ops listed i=true) (hr:(Region.ready md ops listed).contains i=true) (hzD:D.contains z=true) (hiD:D.contains i=false) (hdep:Region.waits md ops i D=true) (hun:(D.all fun d=>listed.getD d true==false)=true)
    (hQ:∀c a w,Q (.panic c) (a.put oi.dst v) w->Q (.panic c) a w) (hy:YieldsIf P ops S oi v a) (hS:S w)
    (h:kO P md ops Q S z fuel (listed.setIfInBounds i true) (a.put oi.dst v) w):kO P md ops Q S z (fuel+1) listed a w:=
 zQ hi (Region.noSelect_spec hs) hQ (by simpa using hzD) (by simpa using hiD) hdep fuel listed a w (Region.free_spec hi hf) (by simpa using hr) (fun d hd=>by simpa using List.all_eq_true.1 hun d hd) hy hS h
theorem mB (i:Nat) {o:Oper}{fuel:Nat}{listed:Array Bool}{a:Act}{w:World}(hr:Region.ready md ops listed=[i]) (ho:ops[i]?=some o)
    (h:∀K':Act->World->Prop,Shut (∀a w,S w->kO P md ops Q S z fuel (listed.setIfInBounds i true) a w->K' a w)->if Region.wanted o (yielded ops a.tmps)=true then Oper.wp P o a w K' Q else K' (a.put o.dst undef) w):kO P md ops Q S z (fuel+1) listed a w:=
 ⟨fun h0=>absurd (hr▸h0) (by simp),fun j hj=>by
  rw[hr] at hj
  obtain rfl:=List.mem_singleton.1 hj
  exact wpOp_step ho (fun K' hK=>h K' (fun a w hS hW=>hK a w ⟨fun _=>hS,hW⟩))⟩
theorem aZ6 {o:Oper}{fuel:Nat}{listed:Array Bool}{a:Act}{w:World}(hr:Region.ready md ops listed=[z]) (ho:ops[z]?=some o)
    (h:∀K':Act->World->Prop,Shut (∀a w,wpAny P md ops Q fuel (listed.setIfInBounds z true) a w->K' a w)->if Region.wanted o (yielded ops a.tmps)=true then Oper.wp P o a w K' Q else K' (a.put o.dst undef) w):kO P md ops Q S z (fuel+1) listed a w:=
 have hz:(listed.setIfInBounds z true).getD z true=true:=by
  rcases Nat.lt_or_ge z listed.size with h'|h'
  ·simp[h']
  ·simp[Array.getD,Nat.not_lt.2 h']
 ⟨fun h0=>absurd (hr▸h0) (by simp),fun j hj=>by
  rw[hr] at hj
  obtain rfl:=List.mem_singleton.1 hj
  exact wpOp_step ho (fun K' hK=>h K' (fun a w hW=>hK a w ⟨fun hf=>by rw[hz] at hf;exact absurd hf (by simp),pL _ _ _ _ hz hW⟩))⟩
theorem J0 (z:Nat) (S:World->Prop) {id:Nat}{a:Act}{w:World}(hm:P.follows .mixedOrders=true)
    (h:kO P .any ops Q S z ops.size (Array.replicate ops.size false) a w.drew):(Code.region id ops true).wp P Q a w:=
 wp_region_any hm (uU _ _ _ _ h)
end
end Go.Proofs.YtcdbhoknhnimcaaGreatDoor
