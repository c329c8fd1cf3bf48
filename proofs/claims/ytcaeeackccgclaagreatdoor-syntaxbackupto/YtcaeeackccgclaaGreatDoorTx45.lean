/- 45. -/
import Derived.Test.YtcaeeackccgclaaGreatDoorTx44
set_option maxHeartbeats 40000000
set_option maxRecDepth 100000
namespace Go.Proofs.YtcaeeackccgclaaGreatDoor
open Go.RowKit Go.Shelf
section
variable {n m N:Nat}
theorem pn_def (ih:StN n m (stD (exF 40) N)){b d:Bool}{s:Sm}(hk:s.kind=6)(h:WfX n (m+1) b d s){p:Ps}{rest:List Ky}(hx:Bx p)(hb:b=false→p.blk=0∧d=false)(hd:p.inD=d)(hp:p.ks=stK n (m+1) s++rest):PN (stmF (exF 40) (blF (stD (exF 40) N)) p) s (p.fwd (stK n (m+1) s).length):=by
 obtain⟨k,text,names,ex,body,els⟩:=s
 obtain rfl:k=6:=hk
 obtain⟨e0,hb0,hn,hw,hns,hnd,hne,hbd⟩:=h
 have e0:(⟨6,text,names,ex,body,els⟩:Sm)=⟨6,text,names,⟨0,0,[],[],[]⟩,body,[]⟩:=e0
 obtain⟨hb1,hd1⟩:=hb hb0
 rw[e0]at hp ⊢
 have ek:stK n (m+1) ⟨6,text,names,⟨0,0,[],[],[]⟩,body,[]⟩=(5,[100,101,102],0)::(1,text,0)::(4,[40],0)::(jk true (names.map fun t=>kys [kW t])++(4,[41],0)::bkK n m body):=by
  rw[stk_bk (s:=⟨6,text,names,⟨0,0,[],[],[]⟩,body,[]⟩) (by show 6≤6;decide) rfl]
  show kys ((kW [100,101,102]).and::([kW text]++kS [40]::(joinC (names.map fun t=>[kW t])++[kS [41]])))++(bkK n m body++[])=_
  show((5,[100,101,102],0)::kys ([kW text]++kS [40]::(joinC (names.map fun t=>[kW t])++[kS [41]])))++(bkK n m body++[])=_
  rw[kys_app,kys_br,jk_join,List.map_map,List.append_nil]
  show((5,[100,101,102],0)::((kW text).k::_))++_=_
  rw[key_nm hw]
  simp[Function.comp_def]
 rw[ek]at hp ⊢
 have hp1:p.ks=(5,[100,101,102],0)::(1,text,0)::(4,[40],0)::(jk true (names.map fun t=>kys [kW t])++(4,[41],0)::(bkK n m body++rest)):=by rw[hp];simp
 have hp2:=adv_ks hp1
 have hp3:=adv_ks hp2
 have hp4:=adv_ks hp3
 have hp5:(p.adv.adv.adv.fwd ((jk true (names.map fun t=>kys [kW t])).length+1)).ks=bkK n m body++rest:=by
  have:=ks_fwd (a:=jk true (names.map fun t=>kys [kW t])++[(4,[41],0)]) (b:=bkK n m body++rest) (by rw[hp4];simp)
  rwa [List.length_append]at this
 have S:=fun l=>sees_key hp1 l
 unfold stmF
 rw[show p.sees [[105,102]]=false from S _,show p.sees [[102,111,114]]=false from S _,show p.sees [[100,101,102]]=true from S _]
 show PN (defS (blF (stD (exF 40) N)) p) _ _
 unfold defS
 obtain⟨tk,t1,t2⟩:=pn_tkK hp2
 have hN:=pn_names names (p.adv.adv.adv.toks.length+1) true [] p.adv.adv.adv _ (fun t ht=>(hns t ht).2) hnd hp4
 have hB:=pn_blF ih (d:=true) (l:=body) (p:=(p.adv.adv.adv.fwd ((jk true (names.map fun t=>kys [kW t])).length+1)).din true) (rest:=rest) hbd ⟨hx.deep,(hx.adv.adv.adv.fwd _).few⟩ rfl hp5
 refine pn_bnd (guIf_no (by rw[hb1];rfl)) (pn_bnd (pn_tkS hp1 (by decide)) (pn_bnd t2 (pn_bnd (pn_tkS hp3 (by decide)) (pn_bnd hN (pn_bnd hB ?_)))))
 rw[t1]
 have hi:p.inD=false:=by rw[hd,hd1]
 have e:p.fwd ((5,[100,101,102],0)::(1,text,0)::(4,[40],0)::(jk true (names.map fun t=>kys [kW t])++(4,[41],0)::bkK n m body):List Ky).length=(((p.adv.adv.adv.fwd ((jk true (names.map fun t=>kys [kW t])).length+1)).din true).fwd (bkK n m body).length).din false:=by
  have e1:(((p.adv.adv.adv.fwd ((jk true (names.map fun t=>kys [kW t])).length+1)).din true).fwd (bkK n m body).length).din false=(p.adv.adv.adv.fwd ((jk true (names.map fun t=>kys [kW t])).length+1)).fwd (bkK n m body).length:=by
   obtain⟨toks,fin,blk,inD,deep⟩:=p
   cases hi
   rfl
  rw[e1]
  simp only[adv_fwd,fwd_fwd]
  congr 1
  simp only[List.length_cons,List.length_append]
  omega
 rw[e]
 exact pn_ok _ _
theorem pn_for (ih:StN n m (stD (exF 40) N)){b d:Bool}{s:Sm}(hk:s.kind=8)(h:WfX n (m+1) b d s){p:Ps}{rest:List Ky}(hx:Bx p)(hd:p.inD=d)(hp:p.ks=stK n (m+1) s++rest):PN (stmF (exF 40) (blF (stD (exF 40) N)) p) s (p.fwd (stK n (m+1) s).length):=by
 obtain⟨k,text,names,ex,body,els⟩:=s
 obtain rfl:k=8:=hk
 obtain⟨e0,hn,hw,he,hne,hbd⟩:=h
 have e0:(⟨8,text,names,ex,body,els⟩:Sm)=⟨8,text,[],ex,body,[]⟩:=e0
 rw[e0]at hp ⊢
 have ek:stK n (m+1) ⟨8,text,[],ex,body,[]⟩=(5,[102,111,114],0)::(1,text,0)::(5,[105,110],0)::(kys (lE n ex)++bkK n m body):=by
  rw[stk_bk (s:=⟨8,text,[],ex,body,[]⟩) (by show 6≤8;decide) rfl]
  show((5,[102,111,114],0)::(kW text).k::(5,[105,110],0)::kys (lE n ex))++(bkK n m body++[])=_
  rw[key_nm hw]
  simp
 rw[ek]at hp ⊢
 have hp1:p.ks=(5,[102,111,114],0)::(1,text,0)::(5,[105,110],0)::(kys (lE n ex)++(4,[58],0)::(LNk::INk::(body.flatMap (stK n m)++[OUk])++rest)):=by rw[hp];unfold bkK;simp
 have hp2:=adv_ks hp1
 have hp3:=adv_ks hp2
 have hp4:=adv_ks hp3
 have hp5:(p.adv.adv.adv.fwd (kys (lE n ex)).length).ks=bkK n m body++rest:=ks_fwd (by rw[hp4];unfold bkK;simp)
 have S:=fun l=>sees_key hp1 l
 unfold stmF
 rw[show p.sees [[105,102]]=false from S _,show p.sees [[102,111,114]]=true from S _]
 show PN (loopS (exF 40) (blF (stD (exF 40) N)) p) _ _
 unfold loopS
 obtain⟨tk,t1,t2⟩:=pn_tkK hp2
 refine pn_bnd (pn_tkS hp1 (by decide)) (pn_bnd t2 (pn_bnd (pn_tkS hp3 (by decide)) (pn_bnd (pn_E he hx.adv.adv.adv hp4 (by decide)) (pn_bnd (pn_blF ih (d:=d) hbd (hx.adv.adv.adv.fwd _) hd hp5) ?_))))
 rw[t1]
 have e:p.fwd ((5,[102,111,114],0)::(1,text,0)::(5,[105,110],0)::(kys (lE n ex)++bkK n m body):List Ky).length=(p.adv.adv.adv.fwd (kys (lE n ex)).length).fwd (bkK n m body).length:=by
  simp only[adv_fwd,fwd_fwd]
  congr 1
  simp only[List.length_cons,List.length_append]
  omega
 rw[e]
 exact pn_ok _ _
theorem pn_if (ih:StN n m (stD (exF 40) N)){b d:Bool}{s:Sm}(hk:s.kind=7)(h:WfX n (m+1) b d s){p:Ps}{rest:List Ky}(hx:Bx p)(hd:p.inD=d)(hr:NoEl rest)(hp:p.ks=stK n (m+1) s++rest):PN (stmF (exF 40) (blF (stD (exF 40) N)) p) s (p.fwd (stK n (m+1) s).length):=by
 obtain⟨k,text,names,ex,body,els⟩:=s
 obtain rfl:k=7:=hk
 obtain⟨e0,he,hne,hbd,hel⟩:=h
 have e0:(⟨7,text,names,ex,body,els⟩:Sm)=⟨7,[],[],ex,body,els⟩:=e0
 rw[e0]at hp ⊢
 obtain⟨tl,htl⟩:∃ tl:List Ky,tl=(bif els.isEmpty then[]else(5,[101,108,115,101],0)::bkK n m els):=⟨_,rfl⟩
 have ek:stK n (m+1) ⟨7,[],[],ex,body,els⟩=(5,[105,102],0)::(kys (lE n ex)++(bkK n m body++tl)):=by
  rw[stk_bk (s:=⟨7,[],[],ex,body,els⟩) (by show 6≤7;decide) rfl,htl]
  rfl
 rw[ek]at hp ⊢
 have hp1:p.ks=(5,[105,102],0)::(kys (lE n ex)++(4,[58],0)::(LNk::INk::(body.flatMap (stK n m)++[OUk])++(tl++rest))):=by rw[hp];unfold bkK;simp
 have hp2:=adv_ks hp1
 have hp3:(p.adv.fwd (kys (lE n ex)).length).ks=bkK n m body++(tl++rest):=ks_fwd (by rw[hp2];unfold bkK;simp)
 have hp4:=ks_fwd hp3
 have S:=fun l=>sees_key hp1 l
 unfold stmF
 rw[show p.sees [[105,102]]=true from S _]
 show PN (condS (exF 40) (blF (stD (exF 40) N)) p) _ _
 unfold condS
 refine pn_bnd (pn_tkS hp1 (by decide)) (pn_bnd (pn_E he hx.adv hp2 (by decide)) (pn_bnd (pn_blF ih (d:=d) hbd (hx.adv.fwd _) hd hp3) ?_))
 have e:p.fwd ((5,[105,102],0)::(kys (lE n ex)++(bkK n m body++tl)):List Ky).length=((p.adv.fwd (kys (lE n ex)).length).fwd (bkK n m body).length).fwd tl.length:=by
  simp only[adv_fwd,fwd_fwd]
  congr 1
  simp only[List.length_cons,List.length_append]
  omega
 rw[e]
 cases els with
 |nil=>
  have h0:tl=[]:=htl
  subst h0
  rw[noel_sees (p:=(p.adv.fwd (kys (lE n ex)).length).fwd (bkK n m body).length) (by rw[hp4];exact hr)]
  exact pn_ok _ _
 |cons s els=>
  have h0:tl=(5,[101,108,115,101],0)::bkK n m (s::els):=htl
  subst h0
  have hp5:((p.adv.fwd (kys (lE n ex)).length).fwd (bkK n m body).length).ks=(5,[101,108,115,101],0)::(bkK n m (s::els)++rest):=hp4
  rw[show((p.adv.fwd (kys (lE n ex)).length).fwd (bkK n m body).length).sees [[101,108,115,101]]=true from sees_key hp5 _]
  refine pn_bnd (pn_blF ih (d:=d) hel ((hx.adv.fwd _).fwd _).adv hd (adv_ks hp5)) ?_
  have e2:((p.adv.fwd (kys (lE n ex)).length).fwd (bkK n m body).length).fwd ((5,[101,108,115,101],0)::bkK n m (s::els):List Ky).length=((p.adv.fwd (kys (lE n ex)).length).fwd (bkK n m body).length).adv.fwd (bkK n m (s::els)).length:=by
   simp only[adv_fwd,fwd_fwd]
   congr 1
   rw[List.length_cons]
   omega
  rw[e2]
  exact pn_ok _ _
end
theorem sml_no {n m:Nat}{b d:Bool}{s:Sm}(hk:s.kind≤5)(h:WfX n (m+1) b d s):∃ k r,kys (lSm n s)=k::r∧seesK k [[105,102]]=false∧seesK k [[102,111,114]]=false∧seesK k [[100,101,102]]=false:=by
 obtain⟨k,text,names,ex,body,els⟩:=s
 match k,h,hk with
 |0,h,_=>exact h.elim
 |1,_,_=>exact⟨_,_,rfl,rfl,rfl,rfl⟩
 |2,_,_=>exact⟨_,_,rfl,rfl,rfl,rfl⟩
 |3,h,_=>
  obtain⟨_,_,hw,_⟩:=h
  refine⟨(1,text,0),(4,[61],0)::kys (lE n ex),?_,rfl,rfl,rfl⟩
  show(kW text).k::_=_
  rw[key_nm hw]
  rfl
 |4,_,_=>exact⟨_,_,rfl,rfl,rfl,rfl⟩
 |5,h,_=>
  obtain⟨k,r,e1,g⟩:=wf_bg h.2
  exact⟨k,r,e1,bg_no g _ (by decide),bg_no g _ (by decide),bg_no g _ (by decide)⟩
 |k+6,_,h5=>exact absurd (show k+6≤5 from h5) (by omega)
theorem stn_all (n:Nat):∀ m N:Nat,StN n m (stD (exF 40) N)
 |0,_=>fun _ _ _ _ _ h=>h.elim
 |_+1,0=>fun _ _ _ _ _ _ _ _ _ _ _=>.inl rfl
 |m+1,N+1=>fun s b d p rest h hx hb hd hr hp=>by
  have ih:=stn_all n m N
  show PN (stmF (exF 40) (blF (stD (exF 40) N)) p) s _
  by_cases h6:s.kind=6
  ·exact pn_def ih h6 h hx hb hd hp
  by_cases h7:s.kind=7
  ·exact pn_if ih h7 h hx hd hr hp
  by_cases h8:s.kind=8
  ·exact pn_for ih h8 h hx hd hp
  have h5:s.kind≤5:=by
   by_cases h9:9≤s.kind
   ·obtain⟨k,text,names,ex,body,els⟩:=s
    obtain⟨j,rfl⟩:∃ j,k=j+9:=⟨k-9,by have:9≤k:=h9;omega⟩
    exact h.elim
   ·omega
  obtain⟨k,r,e1,g1,g2,g3⟩:=sml_no h5 h
  have ek:stK n (m+1) s=kys (lSm n s)++[LNk]:=by
   unfold stK
   rw[decide_eq_true h5]
   rfl
  rw[ek]at hp ⊢
  rw[List.append_assoc]at hp
  have hp1:p.ks=k::(r++LNk::rest):=by rw[hp,e1];rfl
  have hp2:=ks_fwd hp
  obtain⟨_,_,t2⟩:=pn_tkK (show _=LNk::rest from hp2)
  unfold stmF
  rw[(sees_key hp1 _).trans g1,(sees_key hp1 _).trans g2,(sees_key hp1 _).trans g3]
  refine pn_bnd (pn_sml h5 h hx (fun e=>(hb e).1) hd hp) (pn_bnd t2 ?_)
  have e:p.fwd (kys (lSm n s)++[LNk]).length=(p.fwd (kys (lSm n s)).length).adv:=by
   rw[adv_fwd,fwd_fwd,List.length_append]
   rfl
  rw[e]
  exact pn_ok _ _
def wrL (n m:Nat)(l:List Sm):List UInt8:=lnsB (l.flatMap (lnS n m 0))
theorem back {n m:Nat}{l:List Sm}(h:∀ s∈l,WfX n m false false s):parT (wrL n m l)= .ok l∨∃ z,parT (wrL n m l)= .error (2,z):=by
 have hs:=st_split (n:=n) (m:=m) (l:=l) fun s hs=>wfx_s m _ _ s (h s hs)
 rw[all_keys fun s hs=>wfx_s m _ _ s (h s hs)]at hs
 unfold parT
 match hA:splitA (wrL n m l)with
 | .error x=>
  right
  have:∃ z,splitA (wrL n m l)= .error (2,z):=by
   unfold splitA
   split
   ·rename_i hl
    rcases hs with⟨v,e,_⟩|⟨z,e⟩
    ·unfold splitA at hA
     rw[if_pos hl,show splitL (wrL n m l)= .ok v from e]at hA
     cases hA
    ·exact⟨z,e⟩
   ·exact⟨_,rfl⟩
  obtain⟨z,e⟩:=this
  rw[hA]at e
  cases e
  exact⟨z,rfl⟩
 | .ok toks=>
  have hk:toks.map tkey=l.flatMap (stK n m):=by
   unfold splitA at hA
   split at hA
   ·rcases hs with⟨v,e,hv⟩|⟨z,e⟩
    ·rw[show splitL (wrL n m l)= .ok v from e]at hA
     cases hA
     exact hv
    ·rw[show splitL (wrL n m l)= .error (2,z)from e]at hA
     cases hA
   ·cases hA
  have hsi:=split_si hA
  obtain⟨z,e,_⟩:=srcF_ts hsi
  have hp:=pn_srcL (stn_all n m 40) l (toks.length+1) [] ⟨toks,(wrL n m l).length,0,false,0⟩ h ⟨rfl,by have:toks.length≤50000:=hsi.few;show toks.length<_;omega⟩ rfl rfl hk
  have e':srcL (stD (exF 40) 40) (toks.length+1) [] ⟨toks,(wrL n m l).length,0,false,0⟩=some z:=e
  rcases hp with hp|hp|⟨x,hp⟩
  ·rw[hp]at e'
   cases e'
  ·left
   show(match srcL (stD (exF 40) 40) (toks.length+1) [] ⟨toks,(wrL n m l).length,0,false,0⟩with
    |none=>_
    |some (.error x)=>_
    |some (.ok (l,_))=>_)=_
   rw[hp]
   rfl
  ·right
   refine⟨x,?_⟩
   show(match srcL (stD (exF 40) 40) (toks.length+1) [] ⟨toks,(wrL n m l).length,0,false,0⟩with
    |none=>_
    |some (.error x)=>_
    |some (.ok (l,_))=>_)=_
   rw[hp]
def TkOk (t:Tk):Prop:=t.text.length≤6000∧(t.kind=1→NmS t.text∧isWd t.text=false)∧(t.kind=2→t.num≤9007199254740991)∧(t.kind=3→∀ c∈t.text,okB c=true)
def AllT (l:List Tk):Prop:=∀ t∈l,TkOk t
theorem AllT.snoc {l:List Tk}{t:Tk}(h:AllT l)(ht:TkOk t):AllT (l++[t]):=fun x hx=>(List.mem_append.1 hx).elim (h x) fun hx=>by rw[List.mem_singleton.1 hx];exact ht
theorem tk_in {k z:Nat}{x:List UInt8}(h:3<k)(hx:x.length≤6000):TkOk ⟨k,x,0,z⟩:=
 ⟨hx,fun e=>absurd (show k=1 from e) (by omega),fun e=>absurd (show k=2 from e) (by omega),fun e=>absurd (show k=3 from e) (by omega)⟩
theorem outF_tk {i:Nat}:∀ (f:Nat) (p:Sp),AllT p.toks→AllT (outF i f p).toks
 |0,_,h=>h
 |f+1,p,h=>by
  unfold outF
  split
  ·exact outF_tk f _ (h.snoc (tk_in (by decide) (Nat.zero_le _)))
  ·exact h
theorem outF_pos {i:Nat}:∀ (f:Nat) (p:Sp),(outF i f p).pos=p.pos
 |0,_=>rfl
 |f+1,p=>by
  unfold outF
  split
  ·exact outF_pos f _
  ·rfl
theorem come_pos (p:Sp)(i:Nat):(p.come i).pos=p.pos:=(outF_pos _ _).trans (by split<;>rfl)
theorem come_tk {p:Sp}(i:Nat)(h:AllT p.toks):AllT (p.come i).toks:=by
 refine outF_tk _ _ ?_
 split
 ·exact h.snoc (tk_in (by decide) (Nat.zero_le _))
 ·exact h
theorem snoc_b {l:List UInt8}{c:UInt8}(h:∀ x∈l,okB x=true)(hc:okB c=true):∀ x∈l++[c],okB x=true:=fun x hx=>(List.mem_append.1 hx).elim (h x) fun hx=>by rw[List.mem_singleton.1 hx];exact hc
theorem rch_mem (h:UInt8→Bool):∀ r:List UInt8,∀ c∈r.take (rch h r),h c=true
 |[],c,hc=>by simp at hc
 |d::r,c,hc=>by
  unfold rch at hc
  cases hd:h d with
  |false=>rw[hd]at hc;simp at hc
  |true=>
   rw[hd]at hc
   have hc':c∈d::r.take (rch h r):=hc
   rcases List.mem_cons.1 hc' with rfl|hc'
   ·exact hd
   ·exact rch_mem h r c hc'
theorem pl_ok {c:UInt8}(h:isPl c=true):okB c=true:=by
 unfold isPl at h
 unfold okB
 simp only[Bool.and_eq_true,decide_eq_true_eq]at h
 simp[h.1]
theorem txt_said:∀ (f:Nat) (r said:List UInt8) (a:Nat) (t:List UInt8) (x:Nat),txt f r said a= .ok (t,x)→(∀ c∈said,okB c=true)→(∀ c∈t,okB c=true)∧t.length≤said.length+r.length
 |0,_,_,_,_,_,h,_=>by cases h
 |f+1,r,said,a,t,x,h,hs=>by
  unfold txt at h
  simp only at h
  split at h
  ·cases h
  split at h
  ·cases h
   exact⟨hs,Nat.le_add_right _ _⟩
  split at h
  ·split at h
   ·cases h
   rename_i hr
   have h2:2≤r.length:=by
    match r,hr with
    |[],hr=>exact absurd rfl hr
    |[_],hr=>exact absurd rfl hr
    |_::_::l,_=>show 2≤l.length+1+1;omega
   have key:∀ c:UInt8,okB c=true→txt f (r.drop 2) (said++[c]) (a+2)= .ok (t,x)→(∀ c∈t,okB c=true)∧t.length≤said.length+r.length:=fun c hc h=>by
    obtain⟨e1,e2⟩:=txt_said f _ _ _ _ _ h (snoc_b hs hc)
    refine⟨e1,?_⟩
    rw[List.length_append,List.length_drop]at e2
    have:[c].length=1:=rfl
    omega
   split at h
   ·exact key _ rfl h
   split at h
   ·exact key _ rfl h
   split at h
   ·rename_i hd
    refine key _ ?_ h
    unfold okB
    rcases hd with hd|hd<;>(rw[hd];rfl)
   ·cases h
  split at h
  ·cases h
  ·obtain⟨e1,e2⟩:=txt_said f _ _ _ _ _ h (fun c hc=>(List.mem_append.1 hc).elim (hs c) fun hc=>pl_ok (rch_mem _ _ c hc))
   refine⟨e1,?_⟩
   rw[List.length_append,List.length_drop,List.length_take]at e2
   omega
theorem tok1_tk {L:List UInt8}{p q:Sp}(hL:L.length≤6000)(hn:¬(isDg ((L.drop p.pos).getD 0 0)=true∧noInt (L.drop p.pos)=true))(hp:p.pos<L.length)(h:tok1 L p= .ok q)(ht:AllT p.toks):AllT q.toks:=by
 have hl:(L.drop p.pos).length≤6000:=by rw[List.length_drop];omega
 have h0:0<(L.drop p.pos).length:=by rw[List.length_drop];omega
 have hk:∀ n,((L.drop p.pos).take n).length≤6000:=fun n=>by rw[List.length_take];omega
 unfold tok1 at h
 simp only at h
 split at h
 ·split at h
  ·cases h
  ·rename_i e
   cases h
   obtain⟨e1,e2⟩:=txt_said _ _ _ _ _ _ e (fun _ h=>absurd h List.not_mem_nil)
   refine ht.snoc ⟨?_,fun h=>absurd (show(3:Nat)=1 from h) (by decide),fun h=>absurd (show(3:Nat)=2 from h) (by decide),fun _=>e1⟩
   refine Nat.le_trans e2 ?_
   rw[List.length_drop]
   show 0+_≤_
   omega
 split at h
 ·rename_i hd
  cases h
  refine ht.snoc ⟨hk _,fun h=>absurd (show(2:Nat)=1 from h) (by decide),fun _=>?_,fun h=>absurd (show(2:Nat)=3 from h) (by decide)⟩
  have hni:noInt (L.drop p.pos)=false:=by
   cases hb:noInt (L.drop p.pos)with
   |false=>rfl
   |true=>exact absurd ⟨hd,hb⟩ hn
  unfold noInt at hni
  simp only[Bool.or_eq_false_iff,decide_eq_false_iff_not]at hni
  exact Nat.le_of_not_lt hni.1
 split at h
 ·rename_i hlt
  cases h
  obtain⟨c,r,e⟩:∃ c r,L.drop p.pos=c::r:=by
   cases he:L.drop p.pos with
   |nil=>rw[he]at h0;exact absurd h0 (Nat.lt_irrefl _)
   |cons c r=>exact⟨c,r,rfl⟩
  have hc:isLt c=true:=by rw[e]at hlt;exact hlt
  have hcn:isNm c=true:=by unfold isNm;rw[hc];rfl
  have hr:(L.drop p.pos).take (rch isNm (L.drop p.pos))=c::r.take (rch isNm r):=by
   rw[e,show rch isNm (c::r)=(bif isNm c then rch isNm r+1 else 0)from rfl,hcn]
   rfl
  have hm:=rch_mem isNm (L.drop p.pos)
  refine ht.snoc ⟨hk _,fun h=>?_,fun h=>?_,fun h=>?_⟩
  ·refine⟨⟨by show(L.drop p.pos).take _≠[];rw[hr];exact List.cons_ne_nil _ _,by show isLt (((L.drop p.pos).take _).getD 0 0)=true;rw[hr];exact hc,hm⟩,?_⟩
   have h2:(bif isWd ((L.drop p.pos).take (rch isNm (L.drop p.pos)))then 5 else 1)=1:=h
   show isWd ((L.drop p.pos).take (rch isNm (L.drop p.pos)))=false
   cases hw:isWd ((L.drop p.pos).take (rch isNm (L.drop p.pos)))
   ·rfl
   ·rw[hw]at h2;exact absurd h2 (by decide)
  ·have h2:(bif isWd ((L.drop p.pos).take (rch isNm (L.drop p.pos)))then 5 else 1)=2:=h
   cases hw:isWd ((L.drop p.pos).take (rch isNm (L.drop p.pos)))<;>(rw[hw]at h2;exact absurd h2 (by decide))
  ·have h2:(bif isWd ((L.drop p.pos).take (rch isNm (L.drop p.pos)))then 5 else 1)=3:=h
   cases hw:isWd ((L.drop p.pos).take (rch isNm (L.drop p.pos)))<;>(rw[hw]at h2;exact absurd h2 (by decide))
 ·cases h
  exact ht.snoc (tk_in (by decide) (hk _))
theorem toksF_tk {L:List UInt8}(hL:L.length≤6000):∀ (f i:Nat) (p q:Sp),toksF L f i p= .ok q→AllT p.toks→AllT q.toks
 |0,_,_,_,h,_=>by cases h
 |f+1,i,p,q,h,ht=>by
  unfold toksF at h
  split at h
  ·cases h;exact ht
  rename_i he
  split at h
  ·cases h
  rename_i hr
  split at h
  ·cases h
  rename_i t e
  have hcp:(p.come i).pos=p.pos:=come_pos p i
  have hr0:refu L p i=0:=Decidable.byContradiction hr
  have hbeg:p.pos<L.length:=by
   refine Nat.lt_of_not_le fun hle=>?_
   have:L.drop p.pos=[]:=List.drop_eq_nil_of_le hle
   unfold refu at hr0
   simp only[this]at hr0
   rw[if_pos (.inl rfl)]at hr0
   cases hr0
  refine toksF_tk hL f _ _ q h ?_
  show AllT t.toks
  refine tok1_tk hL ?_ (by rw[hcp];exact hbeg) e (come_tk i ht)
  rw[hcp]
  intro hn
  unfold refu at hr0
  simp only at hr0
  split at hr0
  ·cases hr0
  split at hr0
  ·cases hr0
  ·cases hr0
theorem lineF_tk {L:List UInt8}(hL:L.length≤6000){p q:Sp}(h:lineF L p= .ok q)(ht:AllT p.toks):AllT q.toks:=by
 unfold lineF at h
 split at h
 ·cases h
 rename_i r e
 have hr:=toksF_tk hL _ _ _ _ e ht
 split at h
 ·cases h
 split at h
 ·cases h;exact AllT.snoc hr (tk_in (by decide) (Nat.zero_le _))
 ·cases h;exact hr
theorem linesF_tk {L:List UInt8}(hL:L.length≤6000):∀ (f:Nat) (p q:Sp),linesF L f p= .ok q→AllT p.toks→AllT q.toks
 |0,_,_,h,_=>by cases h
 |f+1,p,q,h,ht=>by
  unfold linesF at h
  split at h
  ·cases h;exact come_tk 0 ht
  split at h
  ·cases h
  rename_i r e
  have hr:=lineF_tk hL e ht
  split at h
  ·cases h;exact come_tk 0 hr
  ·exact linesF_tk hL f _ _ h hr
theorem splitA_tk {L:List UInt8}{l:List Tk}(h:splitA L= .ok l):AllT l:=by
 unfold splitA at h
 split at h
 ·rename_i hL
  unfold splitL at h
  split at h
  ·cases h
  rename_i q e
  cases h
  exact linesF_tk hL _ _ _ e (fun _ h=>absurd h List.not_mem_nil)
 ·cases h
def ll (xs:List Lx):Nat:=(lxB xs).length
theorem ll_app (xs ys:List Lx):ll (xs++ys)=ll xs+ll ys:=by
 unfold ll
 rw[lxB_app,List.length_append]
theorem ll_cons (x:Lx)(xs:List Lx):ll (x::xs)≤x.b.length+1+ll xs:=by
 show(x.b++(x.bl++lxB xs)).length≤_
 have:x.bl.length≤1:=by
  unfold Lx.bl
  cases x.sp<;>decide
 rw[List.length_append,List.length_append]
 show x.b.length+(x.bl.length+ll xs)≤_
 omega
theorem ll_one {x:Lx}(h:x.sp=false)(xs:List Lx):ll (x::xs)=x.b.length+ll xs:=by
 show(x.b++(x.bl++lxB xs)).length=_
 unfold Lx.bl
 rw[h,List.length_append]
 rfl
theorem ll_sp:∀ xs:List Lx,ll (spL xs)≤ll xs+1
 |[]=>Nat.zero_le _
 |[x]=>by
  have h1:=ll_cons x.and []
  have h2:x.b.length≤ll [x]:=by
   show _≤(x.b++_).length
   rw[List.length_append]
   exact Nat.le_add_right _ _
  have h3:x.and.b.length+1+ll []=x.b.length+1:=rfl
  show ll [x.and]≤_
  omega
 |x::y::r=>by
  have h:=ll_sp (y::r)
  show(x.b++(x.bl++lxB (spL (y::r)))).length≤(x.b++(x.bl++lxB (y::r))).length+1
  rw[List.length_append,List.length_append,List.length_append,List.length_append]
  have h':(lxB (spL (y::r))).length≤(lxB (y::r)).length+1:=h
  omega
theorem ll_lP {f:Ex→List Lx}(e:Ex):ll (lP f e)≤ll (f e)+2:=by
 unfold lP
 cases decide (12≤e.kind)
 ·exact Nat.le_add_right _ _
 ·show ll (kS [40]::(f e++[kS [41]]))≤_
  rw[ll_one rfl,ll_app]
  show 1+(_+1)≤_
  omega
theorem ll_join:∀ L:List (List Lx),ll (joinC L)≤(L.map fun x=>ll x+2).sum
 |[]=>Nat.le_refl _
 |[x]=>by
  show ll x≤ll x+2+0
  omega
 |x::y::r=>by
  have h:=ll_join (y::r)
  have h2:=ll_cons cm (joinC (y::r))
  have h3:cm.b.length=1:=rfl
  rw[List.map_cons,List.sum_cons]
  show ll (x++cm::joinC (y::r))≤_
  rw[ll_app]
  omega
theorem sum_le {α:Type}{f g:α→Nat}:∀ l:List α,(∀ x∈l,f x≤g x)→(l.map f).sum≤(l.map g).sum
 |[],_=>Nat.le_refl _
 |x::l,h=>by
  have a:=h x List.mem_cons_self
  have b:=sum_le l fun y hy=>h y (List.mem_cons_of_mem _ hy)
  rw[List.map_cons,List.sum_cons,List.map_cons,List.sum_cons]
  omega
theorem qt_le:∀ l:List UInt8,(l.flatMap qt1).length≤2*l.length
 |[]=>Nat.le_refl _
 |c::l=>by
  have h:=qt_le l
  have h2:(qt1 c).length≤2:=by
   unfold qt1
   split
   ·exact Nat.le_refl _
   split
   ·exact Nat.le_refl _
   split
   ·exact Nat.le_refl _
   ·show 1≤2;decide
  rw[List.flatMap_cons,List.length_append,List.length_cons]
  omega
theorem zip_sum (f:Ex→List Lx):∀ (ms:List (List UInt8)) (l:List Ex),(∀ t∈ms,t.length≤6000)→((ms.zipWith (fun m e=>(some m,e)) l).map fun a=>ll (lH f a)+2).sum≤(l.map fun e=>ll (f e)+4).sum+6010*ms.length
 |[],_,_=>Nat.zero_le _
 |_::_,[],_=>Nat.zero_le _
 |m::ms,e::l,h=>by
  have a:=zip_sum f ms l fun t ht=>h t (List.mem_cons_of_mem _ ht)
  have b:=h m List.mem_cons_self
  have c1:ll (kW m::kS [61]::f e)=m.length+(1+ll (f e)):=by rw[ll_one rfl,ll_one rfl];rfl
  rw[List.zipWith_cons_cons,List.map_cons,List.sum_cons,List.map_cons,List.sum_cons,List.length_cons]
  show ll (kW m::kS [61]::f e)+2+_≤_
  omega
theorem args_sum (f:Ex→List Lx){names:List (List UInt8)}{l:List Ex}(h:∀ t∈names,t.length≤6000):((argsL names l).map fun a=>ll (lH f a)+2).sum≤(l.map fun e=>ll (f e)+4).sum+6010*names.length:=by
 unfold argsL
 rw[List.map_append,List.sum_append,List.map_map]
 have a:=zip_sum f names (l.drop (l.length-names.length)) h
 have b:=sum_le (f:=(fun a=>ll (lH f a)+2)∘fun e=>(none,e)) (g:=fun e=>ll (f e)+4) (l.take (l.length-names.length)) fun e _=>(by show ll (f e)+2≤ll (f e)+4;omega)
 have c:(l.map fun e=>ll (f e)+4).sum=((l.take (l.length-names.length)).map fun e=>ll (f e)+4).sum+((l.drop (l.length-names.length)).map fun e=>ll (f e)+4).sum:=by rw[←List.sum_append,←List.map_append,List.take_append_drop]
 omega
theorem pair_sum (f:Ex→List Lx):∀ l:List Ex,((pairs l).map fun p=>ll (f p.1++((kS [58]).and::f p.2))+2).sum≤(l.map fun e=>ll (f e)+4).sum
 |[]=>Nat.le_refl _
 |[_]=>Nat.zero_le _
 |a::b::l=>by
  have h:=pair_sum f l
  have h2:=ll_cons (kS [58]).and (f b)
  have h3:(kS [58]).and.b.length=1:=rfl
  show(((a,b)::pairs l).map fun p=>ll (f p.1++((kS [58]).and::f p.2))+2).sum≤_
  rw[List.map_cons,List.sum_cons,List.map_cons,List.sum_cons,List.map_cons,List.sum_cons]
  show ll (f a++((kS [58]).and::f b))+2+_≤_
  rw[ll_app]
  omega
theorem lH_eq {f g:Ex→List Lx}{a:Option (List UInt8)×Ex}(h:f a.2=g a.2):lH f a=lH g a:=by
 unfold lH
 rw[h]
theorem lP_eq {f g:Ex→List Lx}{e:Ex}(h:f e=g e):lP f e=lP g e:=by
 unfold lP
 rw[h]
theorem wfe_up:∀ (n:Nat) (e:Ex),WfE n e→WfE (n+1) e∧lE (n+1) e=lE n e
 |0,_,h=>h.elim
 |n+1,⟨kd,num,text,kids,names⟩,h=>by
  have H:(∀ k∈kids,WfE n k)→(∀ k∈kids,WfE (n+1) k)∧∀ k∈kids,lE (n+1) k=lE n k:=fun g=>⟨fun k hk=>(wfe_up n k (g k hk)).1,fun k hk=>(wfe_up n k (g k hk)).2⟩
  match kd,h with
  |1,h=>exact⟨h,rfl⟩
  |2,h=>exact⟨h,rfl⟩
  |3,h=>exact⟨h,rfl⟩
  |4,h=>exact⟨h,rfl⟩
  |5,h=>exact⟨h,rfl⟩
  |6,h=>exact⟨h,rfl⟩
  |7,h=>
   obtain⟨a,b⟩:=H h.2
   refine⟨⟨h.1,a⟩,?_⟩
   show kS [91]::(joinC (kids.map (lE (n+1)))++[kS [93]])=kS [91]::(joinC (kids.map (lE n))++[kS [93]])
   rw[List.map_congr_left b]
  |8,h=>
   obtain⟨a,b⟩:=H h.2.1
   refine⟨⟨h.1,a,h.2.2⟩,?_⟩
   show kS [123]::(joinC ((pairs kids).map fun p=>lE (n+1) p.1++((kS [58]).and::lE (n+1) p.2))++[kS [125]])=kS [123]::(joinC ((pairs kids).map fun p=>lE n p.1++((kS [58]).and::lE n p.2))++[kS [125]])
   rw[List.map_congr_left fun p hp=>(by rw[b _ (mem_pairs _ p hp).1,b _ (mem_pairs _ p hp).2])]
  |9,h=>
   obtain⟨a,b⟩:=H h.2.1
   refine⟨⟨h.1,a,h.2.2⟩,?_⟩
   match kids,h.2.2.1,b with
   |[x,y],_,b=>
    show kS [91]::((spL (lE (n+1) x)++((kW [102,111,114]).and::(kW text).and::(kW [105,110]).and::lE (n+1) y))++[kS [93]])=_
    rw[b x (by simp),b y (by simp)]
    rfl
   |[x,y,z],_,b=>
    show kS [91]::((spL (lE (n+1) x)++((kW [102,111,114]).and::(kW text).and::(kW [105,110]).and::(spL (lE (n+1) y)++((kW [105,102]).and::lE (n+1) z))))++[kS [93]])=_
    rw[b x (by simp),b y (by simp),b z (by simp)]
    rfl
   |[],hl,_=>exact absurd hl (by simp)
   |[_],hl,_=>exact absurd hl (by simp)
   |_::_::_::_::_,hl,_=>exact absurd hl (by simp)
  |10,h=>
   obtain⟨a,b⟩:=H h.2.1
   refine⟨⟨h.1,a,h.2.2⟩,?_⟩
   match kids,h.2.2.1,b with
   |c::l,_,b=>
    show lP (lE (n+1)) c++kS [40]::(joinC ((argsL names l).map (lH (lE (n+1))))++[kS [41]])=lP (lE n) c++kS [40]::(joinC ((argsL names l).map (lH (lE n)))++[kS [41]])
    rw[lP_eq (b c List.mem_cons_self),List.map_congr_left fun x hx=>lH_eq (b _ (List.mem_cons_of_mem _ (mem_args hx).1))]
   |[],hl,_=>exact absurd hl (by simp)
  |11,h=>
   obtain⟨a,b⟩:=H h.2.1
   refine⟨⟨h.1,a,h.2.2⟩,?_⟩
   match kids,h.2.2,b with
   |[x,y],_,b=>
    show lP (lE (n+1)) x++kS [91]::(lE (n+1) y++[kS [93]])=_
    rw[lP_eq (b x (by simp)),b y (by simp)]
    rfl
   |[],hl,_=>exact absurd hl (by simp)
   |[_],hl,_=>exact absurd hl (by simp)
   |_::_::_::_,hl,_=>exact absurd hl (by simp)
  |12,h=>
   obtain⟨a,b⟩:=H h.2.1
   refine⟨⟨h.1,a,h.2.2⟩,?_⟩
   match kids,h.2.2,b with
   |[x],_,b=>
    show(kW [110,111,116]).and::lP (lE (n+1)) x=_
    rw[lP_eq (b x (by simp))]
    rfl
   |[],hl,_=>exact absurd hl (by simp)
   |_::_::_,hl,_=>exact absurd hl (by simp)
  |13,h=>
   obtain⟨a,b⟩:=H h.2.1
   refine⟨⟨h.1,a,h.2.2⟩,?_⟩
   match kids,h.2.2,b with
   |[x],_,b=>
    show kS [45]::lP (lE (n+1)) x=_
    rw[lP_eq (b x (by simp))]
    rfl
   |[],hl,_=>exact absurd hl (by simp)
   |_::_::_,hl,_=>exact absurd hl (by simp)
  |14,h=>
   obtain⟨a,b⟩:=H h.2.1
   refine⟨⟨h.1,a,h.2.2⟩,?_⟩
   match kids,h.2.2.1,b with
   |[x,y],_,b=>
    show spL (lP (lE (n+1)) x)++((kO text).and::lP (lE (n+1)) y)=_
    rw[lP_eq (b x (by simp)),lP_eq (b y (by simp))]
    rfl
   |[],hl,_=>exact absurd hl (by simp)
   |[_],hl,_=>exact absurd hl (by simp)
   |_::_::_::_,hl,_=>exact absurd hl (by simp)
  |0,h=>exact h.elim
  |k+15,h=>exact h.elim
theorem wfe_mono {n m:Nat}{e:Ex}(hm:n≤m)(h:WfE n e):WfE m e∧lE m e=lE n e:=by
 induction hm with
 |refl=>exact⟨h,rfl⟩
 |step _ ih=>
  obtain⟨a,b⟩:=wfe_up _ e ih.1
  exact⟨a,b.trans ih.2⟩
def Ce (n:Nat)(e:Ex)(c:Nat):Prop:=WfE n e∧ll (lE n e)+4≤c
def Cl (n:Nat)(l:List Ex)(c:Nat):Prop:=(∀ e∈l,WfE n e)∧(l.map fun e=>ll (lE n e)+4).sum≤c
theorem Ce.up {n m:Nat}{e:Ex}{c:Nat}(h:Ce n e c)(hm:n≤m):Ce m e c:=by
 obtain⟨a,b⟩:=wfe_mono hm h.1
 exact⟨a,by rw[b];exact h.2⟩
theorem Cl.up {n m:Nat}{l:List Ex}{c:Nat}(h:Cl n l c)(hm:n≤m):Cl m l c:=by
 refine⟨fun e he=>(wfe_mono hm (h.1 e he)).1,?_⟩
 rw[List.map_congr_left fun e he=>(by rw[(wfe_mono hm (h.1 e he)).2])]
 exact h.2
theorem Cl.nil (n:Nat):Cl n [] 0:=⟨fun _ h=>absurd h List.not_mem_nil,Nat.le_refl _⟩
theorem Cl.snoc {n m:Nat}{l:List Ex}{e:Ex}{c d:Nat}(h:Cl n l c)(g:Ce m e d):Cl (max n m) (l++[e]) (c+d):=by
 have h:=h.up (Nat.le_max_left n m)
 have g:=g.up (Nat.le_max_right n m)
 refine⟨fun x hx=>(List.mem_append.1 hx).elim (h.1 x) fun hx=>by rw[List.mem_singleton.1 hx];exact g.1,?_⟩
 rw[List.map_append,List.sum_append]
 have a:=h.2
 have b:=g.2
 show _+(ll (lE (max n m) e)+4+0)≤_
 omega
theorem ce_two {n m:Nat}{a b:Ex}{c d:Nat}{t:List UInt8}(ha:Ce n a c)(hb:Ce m b d)(ht:t∈opsB):Ce (max n m+1) ⟨14,0,t,[a,b],[]⟩ (c+d+10):=by
 have ha:=ha.up (Nat.le_max_left n m)
 have hb:=hb.up (Nat.le_max_right n m)
 have hl:t.length≤3:=by
  unfold opsB at ht
  simp only[List.mem_cons,List.not_mem_nil,or_false]at ht
  rcases ht with rfl|rfl|rfl|rfl|rfl|rfl|rfl|rfl|rfl|rfl|rfl|rfl<;>decide
 refine⟨⟨rfl,by simp[ha.1,hb.1],rfl,ht⟩,?_⟩
 have h1:=ll_lP (f:=lE (max n m)) a
 have h2:=ll_lP (f:=lE (max n m)) b
 have h3:=ll_sp (lP (lE (max n m)) a)
 have h4:=ll_cons (kO t).and (lP (lE (max n m)) b)
 have h5:(kO t).and.b.length=t.length:=by
  unfold kO
  cases isLt (t.getD 0 0)<;>rfl
 have h6:=ha.2
 have h7:=hb.2
 show ll (spL (lP (lE (max n m)) a)++((kO t).and::lP (lE (max n m)) b))+4≤_
 rw[ll_app]
 omega
theorem ce_not {n:Nat}{a:Ex}{c:Nat}(ha:Ce n a c):Ce (n+1) ⟨12,0,[],[a],[]⟩ (c+10):=by
 refine⟨⟨rfl,by simp[ha.1],rfl⟩,?_⟩
 have h1:=ll_lP (f:=lE n) a
 have h2:=ll_cons (kW [110,111,116]).and (lP (lE n) a)
 have h3:(kW [110,111,116]).and.b.length=3:=rfl
 have h4:=ha.2
 show ll ((kW [110,111,116]).and::lP (lE n) a)+4≤_
 omega
theorem ce_min {n:Nat}{a:Ex}{c:Nat}(ha:Ce n a c):Ce (n+1) ⟨13,0,[],[a],[]⟩ (c+10):=by
 refine⟨⟨rfl,by simp[ha.1],rfl⟩,?_⟩
 have h1:=ll_lP (f:=lE n) a
 have h2:=ll_cons (kS [45]) (lP (lE n) a)
 have h3:(kS [45]).b.length=1:=rfl
 have h4:=ha.2
 show ll (kS [45]::lP (lE n) a)+4≤_
 omega
theorem ce_idx {n m:Nat}{a b:Ex}{c d:Nat}(ha:Ce n a c)(hb:Ce m b d):Ce (max n m+1) ⟨11,0,[],[a,b],[]⟩ (c+d+10):=by
 have ha:=ha.up (Nat.le_max_left n m)
 have hb:=hb.up (Nat.le_max_right n m)
 refine⟨⟨rfl,by simp[ha.1,hb.1],rfl⟩,?_⟩
 have h1:=ll_lP (f:=lE (max n m)) a
 have h6:=ha.2
 have h7:=hb.2
 have h8:ll (kS [91]::(lE (max n m) b++[kS [93]]))=1+(ll (lE (max n m) b)+1):=by rw[ll_one rfl,ll_app];rfl
 show ll (lP (lE (max n m)) a++kS [91]::(lE (max n m) b++[kS [93]]))+4≤_
 rw[ll_app]
 omega
theorem ce_list {n:Nat}{l:List Ex}{c:Nat}(h:Cl n l c):Ce (n+1) ⟨7,0,[],l,[]⟩ (c+10):=by
 refine⟨⟨rfl,h.1⟩,?_⟩
 have h1:=ll_join (l.map (lE n))
 rw[List.map_map]at h1
 have h2:=sum_le (f:=(fun x=>ll x+2)∘lE n) (g:=fun e=>ll (lE n e)+4) l fun e _=>(by show ll (lE n e)+2≤_;omega)
 have h3:=h.2
 have h8:ll (kS [91]::(joinC (l.map (lE n))++[kS [93]]))=1+(ll (joinC (l.map (lE n)))+1):=by rw[ll_one rfl,ll_app];rfl
 show ll (kS [91]::(joinC (l.map (lE n))++[kS [93]]))+4≤_
 omega
theorem ce_dict {n:Nat}{l:List Ex}{c:Nat}(h:Cl n l c)(h2:l.length%2=0):Ce (n+1) ⟨8,0,[],l,[]⟩ (c+10):=by
 refine⟨⟨rfl,h.1,h2⟩,?_⟩
 have h1:=ll_join ((pairs l).map fun p=>lE n p.1++((kS [58]).and::lE n p.2))
 rw[List.map_map]at h1
 have h2:((pairs l).map ((fun x=>ll x+2)∘fun p=>lE n p.1++((kS [58]).and::lE n p.2))).sum≤(l.map fun e=>ll (lE n e)+4).sum:=pair_sum (lE n) l
 have h3:=h.2
 have h8:ll (kS [123]::(joinC ((pairs l).map fun p=>lE n p.1++((kS [58]).and::lE n p.2))++[kS [125]]))=1+(ll (joinC ((pairs l).map fun p=>lE n p.1++((kS [58]).and::lE n p.2)))+1):=by rw[ll_one rfl,ll_app];rfl
 show ll (kS [123]::(joinC ((pairs l).map fun p=>lE n p.1++((kS [58]).and::lE n p.2))++[kS [125]]))+4≤_
 omega
theorem ce_each {n:Nat}{l:List Ex}{t:List UInt8}{c:Nat}(h:Cl n l c)(hl:l.length=2∨l.length=3)(ht:NmS t∧isWd t=false):Ce (n+1) ⟨9,0,t,l,[]⟩ (c+t.length+30):=by
 refine⟨⟨rfl,h.1,hl,ht⟩,?_⟩
 have h3:=h.2
 have w1:∀ xs,ll ((kW [102,111,114]).and::(kW t).and::(kW [105,110]).and::xs)≤t.length+10+ll xs:=fun xs=>by
  have a:=ll_cons (kW [102,111,114]).and ((kW t).and::(kW [105,110]).and::xs)
  have b:=ll_cons (kW t).and ((kW [105,110]).and::xs)
  have c:=ll_cons (kW [105,110]).and xs
  have d1:(kW [102,111,114]).and.b.length=3:=rfl
  have d2:(kW t).and.b.length=t.length:=rfl
  have d3:(kW [105,110]).and.b.length=2:=rfl
  omega
 have w2:∀ xs,ll (kS [91]::(xs++[kS [93]]))=ll xs+2:=fun xs=>by
  rw[ll_one rfl,ll_app]
  show 1+(_+1)=_
  omega
 match l,hl,h3 with
 |[x,y],_,h3=>
  have h3:ll (lE n x)+4+(ll (lE n y)+4+0)≤c:=h3
  have a:=ll_sp (lE n x)
  have b:=w1 (lE n y)
  show ll (kS [91]::((spL (lE n x)++((kW [102,111,114]).and::(kW t).and::(kW [105,110]).and::lE n y))++[kS [93]]))+4≤_
  rw[w2,ll_app]
  omega
 |[x,y,z],_,h3=>
  have h3:ll (lE n x)+4+(ll (lE n y)+4+(ll (lE n z)+4+0))≤c:=h3
  have a:=ll_sp (lE n x)
  have a2:=ll_sp (lE n y)
  have b:=w1 (spL (lE n y)++((kW [105,102]).and::lE n z))
  have d:=ll_cons (kW [105,102]).and (lE n z)
  have e:(kW [105,102]).and.b.length=2:=rfl
  rw[ll_app]at b
  show ll (kS [91]::((spL (lE n x)++((kW [102,111,114]).and::(kW t).and::(kW [105,110]).and::(spL (lE n y)++((kW [105,102]).and::lE n z))))++[kS [93]]))+4≤_
  rw[w2,ll_app]
  omega
 |[],hl,_=>exact absurd hl (by simp)
 |[_],hl,_=>exact absurd hl (by simp)
 |_::_::_::_::_,hl,_=>exact absurd hl (by simp)
theorem ce_call {n:Nat}{l:List Ex}{names:List (List UInt8)}{c:Nat}(h:Cl n l c)(hl:names.length+1≤l.length)(hn:∀ t∈names,NmS t∧isWd t=false)(hd:names.Nodup)(h6:∀ t∈names,t.length≤6000):Ce (n+1) ⟨10,0,[],l,names⟩ (c+6010*names.length+10):=by
 refine⟨⟨rfl,h.1,hl,hn,hd⟩,?_⟩
 match l,h.2,hl with
 |e::l,h3,_=>
  have h3:ll (lE n e)+4+(l.map fun e=>ll (lE n e)+4).sum≤c:=h3
  have h1:=ll_lP (f:=lE n) e
  have h2:=ll_join ((argsL names l).map (lH (lE n)))
  rw[List.map_map]at h2
  have h4:((argsL names l).map ((fun x=>ll x+2)∘lH (lE n))).sum≤(l.map fun e=>ll (lE n e)+4).sum+6010*names.length:=args_sum (lE n) h6
  have h8:ll (kS [40]::(joinC ((argsL names l).map (lH (lE n)))++[kS [41]]))=1+(ll (joinC ((argsL names l).map (lH (lE n))))+1):=by rw[ll_one rfl,ll_app];rfl
  show ll (lP (lE n) e++kS [40]::(joinC ((argsL names l).map (lH (lE n)))++[kS [41]]))+4≤_
  rw[ll_app]
  omega
 |[],_,hl=>exact absurd hl (by simp)
end Go.Proofs.YtcaeeackccgclaaGreatDoor
